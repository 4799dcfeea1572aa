/- The statement RasterMapCommutes returns true for all integers w, h and k, all bytes pix and each byte by, and changes no argument; there is no further condition. -/
import Derived.Test.YtdjjijkdalpggaaRows
import Derived.WalkKit
import Derived.ProofKit
import Derived.OpenShut
import Derived.ShutString
import Derived.ChangeOld
import Derived.Below
import Derived.Test.YtdjjijkdalpggaaAlg
import Derived.Test.YtdjjijkdalpggaaMap
namespace Go.Proofs.Ytdjjijkdalpggaa.rasterMapCommutes
open Go Go.ChangeShapes Go.WideShapes Go.ChangeAt Go.RowKit
open Go.ChangeMaps (open_string shut_string)
set_option linter.unusedVariables false

theorem own : ownKnob Try.prog.godebug = none := by kernel_rfl
theorem laidOut : laidOutB Try.prog = true := by kernel_rfl

/-- WHAT THE WALK IS TOLD OF A SLICE OF INTEGERS THAT CAME IN: it is nil; or it leads to a row of 'cap' cells, the numbers 'zs' (the first 'len' are its elements, the rest its spare room), each fitting its kind. -/
def IsRow (k : IntKind) (w : World) (a : Option Addr) (len cap : Nat) (zs : List Int) : Prop :=
  (a = none ∧ len = 0 ∧ cap = 0 ∧ zs = []) ∨
  ∃ x, a = some x ∧ len ≤ cap ∧ cap ≤ maxLen ∧ zs.length = cap ∧ (∀ i, i < zs.length → w.cell? (x.add i) = some (.int k (zs.getD i 0))) ∧ ∀ n ∈ zs, (Lit.int k n).wf = true

/-- What the mapped function makes of a byte. -/
def phi (b v : Int) : Int := (v * 3 % 256 + b) % 256

theorem phi_fun (b : Int) (c : Nat) (w : World) (h0 : 0 ≤ b ∧ b ≤ 255) (hc : w.cell? ⟨c, 0, none⟩ = some (.int .u8 b)) (hl : c < w.heap.size) : Fun1 21 #[.pointer (some ⟨c, 0, none⟩)] (phi b) w := by
  intro w1 v hb h1 h2
  have hc1 : w1.cell? ⟨c, 0, none⟩ = some (.int .u8 b) := (hb.cell (p := ⟨c, 0, none⟩) hl).trans hc
  clear hc hb
  go_enter Try.func21, Try.ntmps21
  go_wp2
  go_ret
  exact ⟨rfl, Below.refl _ _⟩

theorem turned_map (r W H : Nat) (F : Nat → Nat → Int) (φ : Int → Int) : (Turned r W H fun x y => φ (F x y)) = fun x y => φ (Turned r W H F x y) := by
  unfold Turned; split <;> rfl

theorem turned_range {r W H : Nat} {F : Nat → Nat → Int} (h : ∀ x y, 0 ≤ F x y ∧ F x y ≤ 255) (x y : Nat) : 0 ≤ Turned r W H F x y ∧ Turned r W H F x y ≤ 255 := by
  unfold Turned; split <;> exact h _ _

set_option maxHeartbeats 4000000 in
theorem rest (a0 : Int) (a1 : Int) (a2 : Option Addr) (len2 cap2 : Nat) (z2 : List Int) (a3 : Int) (a4 : Int) (w : World) (w2 : Go.Proofs.Ytdjjijkdalpggaa.IsRow .u8 w a2 len2 cap2 z2) (h4 : 0 ≤ a4 ∧ a4 ≤ 255) :
    Calls Try.prog 5 #[.int .i64 a0, .int .i64 a1, .slice a2 len2 cap2, .int .i64 a3, .int .u8 a4] w fun e w' => e = .returned (.bool true) ∧ Below w.heap.size w w' := by
  have HR := hid w2
  clear w2
  go_enter Try.func5, Try.ntmps5
  go_wp2_with fail
  (with_reducible refine (turns_any _).mono ?_); rintro e w1 ⟨rfl, hb1⟩
  have HP := hid (phi_fun a4 w.heap.size (w.alloc (.cells #[.int .u8 a4] 5)) h4 (by simp) (by simp))
  have hwb : Below w.heap.size w (w.alloc (.cells #[.int .u8 a4] 5)) := below_alloc (Below.refl _ _) _
  generalize w.alloc (.cells #[.int .u8 a4] 5) = wb at hb1 HP hwb
  have HWB := hid hwb
  clear hwb
  go_wp2_with fail
  (with_reducible refine (small_any _ _ _ _ _ z2 _ ((HR.out.below HWB.out).below hb1)).mono ?_); rintro e v0 ⟨W, H, x0, c0, hW, hH, rfl, ho, hb2⟩
  have HB := hid (below_next hb1 hb2)
  have hW' : 1 ≤ W ∧ W ≤ 1024 := by omega
  have hH' : 1 ≤ H ∧ H ≤ 1024 := by omega
  have hN64 : W * H ≤ 8 * 8 := Nat.mul_le_mul hW.2 hH.2
  obtain ⟨f, hf⟩ : ∃ f : Nat → Int, f = fun i => if i < W * H then sv len2 z2 i else 0 := ⟨_, rfl⟩
  have ho' := ho.congr (f' := f) (fun i hi => by rw [hf]; exact (if_pos hi).symm)
  have hrf : ∀ i, 0 ≤ f i ∧ f i ≤ 255 := by
    intro i; simp only [hf]
    split
    · exact sv_range _ _ _ (by omega)
    · omega
  obtain ⟨F, hF⟩ : ∃ F, F = byXY W f := ⟨_, rfl⟩
  have hff : f = flat W F := by rw [hF, flat_byXY]
  have hrF : ∀ x y, 0 ≤ F x y ∧ F x y ≤ 255 := by intro x y; rw [hF]; exact hrf _
  have HFR := hid hrF
  rw [hff] at ho'
  have HOx0 := hid ho'
  have m0 := ho'.lt.2
  have hw0 := HB.out.size
  clear hb1 hb2 ho ho' hf hF HR hff hrf hrF f
  obtain ⟨r, hr⟩ : ∃ r : Nat, a3 % 4 = r := ⟨(a3 % 4).toNat, by omega⟩
  obtain ⟨⟨tp1, tp2⟩, ⟨tp3, tp4⟩⟩ := tW_pos r W H hW' hH'
  have hNt : tW r W H * tH r W H ≤ 1024 * 1024 := Nat.mul_le_mul tp2 tp4
  have HRr := hid hr
  clear hr
  go_wp2_with fail
  (with_reducible refine (map_flat W H x0 (W * H) c0 21 _ (phi a4) F _ (by exact (HOx0.out.alloc _).px) HFR.out (enters_of Try.func21 (by kernel_rfl) rfl) (HP.out.later (below_alloc HB.out _)) hW' hH' rfl (by have := HOx0.out.lt.2; first | omega | (simp; done) | (simp; omega) | (simp [World.setCell]; omega))).mono ?_); rintro e v1 ⟨x1, c1, rfl, o1, h1⟩
  have s1 : v0.heap.size < v1.heap.size := by have hh := h1.size; first | exact hh | (simp at hh; omega) | (simp [World.setCell] at hh; omega)
  have l1 : v0.heap.size < x1 := by have hh := o1.lt.1; first | exact hh | (simp at hh; omega) | (simp [World.setCell] at hh; omega)
  have m1 : x1 < v1.heap.size := o1.lt.2
  have Va := (Var3.new v0 (.int .i64 W) (.int .i64 H) (.slice (some ⟨x0, 0, none⟩) (W * H) c0)).below h1 (by simp)
  have HVa := hid Va
  clear Va
  have Ox0 := (HOx0.out.alloc _).below h1 (by have := HOx0.out.lt.2; first | omega | (simp; done) | (simp; omega) | (simp [World.setCell]; omega))
  clear HOx0
  have HOx0 := hid Ox0
  clear Ox0
  have HOx1 := hid o1
  clear o1
  have B := below_next (below_alloc HB.out _) h1
  clear HB
  have HB := hid B
  clear B h1
  go_wp2_with fail
  (with_reducible refine (turn_any W H a3 r x1 (W * H) c1 (fun x y => phi a4 (F x y)) _ (by exact (HOx1.out.alloc _).px) hW' hH' rfl (by have := HOx1.out.lt.2; first | omega | (simp; done) | (simp; omega) | (simp [World.setCell]; omega)) HRr.out).mono ?_); rintro e v2 ⟨x2, c2, rfl, o2, h2⟩
  have s2 : v1.heap.size < v2.heap.size := by have hh := h2.size; first | exact hh | (simp at hh; omega) | (simp [World.setCell] at hh; omega)
  have l2 : v1.heap.size < x2 := by have hh := o2.lt.1; first | exact hh | (simp at hh; omega) | (simp [World.setCell] at hh; omega)
  have m2 : x2 < v2.heap.size := o2.lt.2
  have Va := (HVa.out.alloc _).below h2 (by first | omega | (simp; done) | (simp; omega) | (simp [World.setCell]; omega))
  clear HVa
  have HVa := hid Va
  clear Va
  have Vb := (Var3.new v1 (.int .i64 W) (.int .i64 H) (.slice (some ⟨x1, 0, none⟩) (W * H) c1)).below h2 (by simp)
  have HVb := hid Vb
  clear Vb
  have neab : ¬ v0.heap.size = v1.heap.size := by omega
  have neba : ¬ v1.heap.size = v0.heap.size := by omega
  have Ox0 := (HOx0.out.alloc _).below h2 (by have := HOx0.out.lt.2; first | omega | (simp; done) | (simp; omega) | (simp [World.setCell]; omega))
  clear HOx0
  have HOx0 := hid Ox0
  clear Ox0
  have Ox1 := (HOx1.out.alloc _).below h2 (by have := HOx1.out.lt.2; first | omega | (simp; done) | (simp; omega) | (simp [World.setCell]; omega))
  clear HOx1
  have HOx1 := hid Ox1
  clear Ox1
  have HOx2 := hid o2
  clear o2
  have B := below_next (below_alloc HB.out _) h2
  clear HB
  have HB := hid B
  clear B h2
  have o2 := HOx2.out
  rw [turned_map] at o2
  clear HOx2
  have HOx2 := hid o2
  clear o2
  obtain ⟨qa0, qa1, qa2, qaf⟩ := HVa.out.read
  have ta := HVa.out.lt
  obtain ⟨qb0, qb1, qb2, qbf⟩ := HVb.out.read
  have tb := HVb.out.lt
  go_wp2_with fail
  clear qa0 qa1 qa2 qaf ta qb0 qb1 qb2 qbf tb
  (with_reducible refine (turn_any W H a3 r x0 (W * H) c0 F _ (by exact (HOx0.out.far3 (by omega)).px) hW' hH' rfl (by have := HOx0.out.lt.2; first | omega | (simp; done) | (simp; omega) | (simp [World.setCell]; omega)) HRr.out).mono ?_); rintro e v3 ⟨x3, c3, rfl, o3, h3⟩
  have s3 : v2.heap.size ≤ v3.heap.size := by have hh := h3.size; first | exact hh | (simp at hh; omega) | (simp [World.setCell] at hh; omega)
  have l3 : v2.heap.size ≤ x3 := by have hh := o3.lt.1; first | exact hh | (simp at hh; omega) | (simp [World.setCell] at hh; omega)
  have m3 : x3 < v3.heap.size := o3.lt.2
  have Va := (HVa.out.far3 (by omega)).below h3 (by first | omega | (simp; done) | (simp; omega) | (simp [World.setCell]; omega))
  clear HVa
  have HVa := hid Va
  clear Va
  have Vb := (Var3.set3 HVb.out).below h3 (by first | omega | (simp; done) | (simp; omega) | (simp [World.setCell]; omega))
  clear HVb
  have HVb := hid Vb
  clear Vb
  have Ox0 := (HOx0.out.far3 (by omega)).below h3 (by have := HOx0.out.lt.2; first | omega | (simp; done) | (simp; omega) | (simp [World.setCell]; omega))
  clear HOx0
  have HOx0 := hid Ox0
  clear Ox0
  have Ox1 := (HOx1.out.far3 (by omega)).below h3 (by have := HOx1.out.lt.2; first | omega | (simp; done) | (simp; omega) | (simp [World.setCell]; omega))
  clear HOx1
  have HOx1 := hid Ox1
  clear Ox1
  have Ox2 := (HOx2.out.far3 (by omega)).below h3 (by have := HOx2.out.lt.2; first | omega | (simp; done) | (simp; omega) | (simp [World.setCell]; omega))
  clear HOx2
  have HOx2 := hid Ox2
  clear Ox2
  have HOx3 := hid o3
  clear o3
  have B := below_next (below_set3 HB.out (by omega)) h3
  clear HB
  have HB := hid B
  clear B h3
  go_wp2_with fail
  (with_reducible refine (map_flat (tW r W H) (tH r W H) x3 (tW r W H * tH r W H) c3 21 _ (phi a4) (Turned r W H F) _ (by exact (HOx3.out.alloc _).px) (turned_range HFR.out) (enters_of Try.func21 (by kernel_rfl) rfl) (HP.out.later (below_alloc HB.out _)) ⟨tp1, tp2⟩ ⟨tp3, tp4⟩ rfl (by have := HOx3.out.lt.2; first | omega | (simp; done) | (simp; omega) | (simp [World.setCell]; omega))).mono ?_); rintro e v4 ⟨x4, c4, rfl, o4, h4⟩
  have s4 : v3.heap.size < v4.heap.size := by have hh := h4.size; first | exact hh | (simp at hh; omega) | (simp [World.setCell] at hh; omega)
  have l4 : v3.heap.size < x4 := by have hh := o4.lt.1; first | exact hh | (simp at hh; omega) | (simp [World.setCell] at hh; omega)
  have m4 : x4 < v4.heap.size := o4.lt.2
  have Va := (HVa.out.alloc _).below h4 (by first | omega | (simp; done) | (simp; omega) | (simp [World.setCell]; omega))
  clear HVa
  have HVa := hid Va
  clear Va
  have Vb := (HVb.out.alloc _).below h4 (by first | omega | (simp; done) | (simp; omega) | (simp [World.setCell]; omega))
  clear HVb
  have HVb := hid Vb
  clear Vb
  have Vd := (Var3.new v3 (.int .i64 (tW r W H : Nat)) (.int .i64 (tH r W H : Nat)) (.slice (some ⟨x3, 0, none⟩) (tW r W H * tH r W H) c3)).below h4 (by simp)
  have HVd := hid Vd
  clear Vd
  have nead : ¬ v0.heap.size = v3.heap.size := by omega
  have neda : ¬ v3.heap.size = v0.heap.size := by omega
  have nebd : ¬ v1.heap.size = v3.heap.size := by omega
  have nedb : ¬ v3.heap.size = v1.heap.size := by omega
  have Ox0 := (HOx0.out.alloc _).below h4 (by have := HOx0.out.lt.2; first | omega | (simp; done) | (simp; omega) | (simp [World.setCell]; omega))
  clear HOx0
  have HOx0 := hid Ox0
  clear Ox0
  have Ox1 := (HOx1.out.alloc _).below h4 (by have := HOx1.out.lt.2; first | omega | (simp; done) | (simp; omega) | (simp [World.setCell]; omega))
  clear HOx1
  have HOx1 := hid Ox1
  clear Ox1
  have Ox2 := (HOx2.out.alloc _).below h4 (by have := HOx2.out.lt.2; first | omega | (simp; done) | (simp; omega) | (simp [World.setCell]; omega))
  clear HOx2
  have HOx2 := hid Ox2
  clear Ox2
  have Ox3 := (HOx3.out.alloc _).below h4 (by have := HOx3.out.lt.2; first | omega | (simp; done) | (simp; omega) | (simp [World.setCell]; omega))
  clear HOx3
  have HOx3 := hid Ox3
  clear Ox3
  have HOx4 := hid o4
  clear o4
  have B := below_next (below_alloc HB.out _) h4
  clear HB
  have HB := hid B
  clear B h4
  obtain ⟨qb0, qb1, qb2, qbf⟩ := HVb.out.read
  have tb := HVb.out.lt
  obtain ⟨qd0, qd1, qd2, qdf⟩ := HVd.out.read
  have td := HVd.out.lt
  go_wp2_with fail
  clear qb0 qb1 qb2 qbf tb qd0 qd1 qd2 qdf td
  (with_reducible refine (same_yes _ _ x2 c2 x4 c4 _ _ _ (by exact (HOx2.out.far3 (by omega)).px) (by exact (HOx4.out.far3 (by omega)).px) (by omega) (by have := HOx2.out.lt.2; first | omega | (simp; done) | (simp; omega) | (simp [World.setCell]; omega)) (by have := HOx4.out.lt.2; first | omega | (simp; done) | (simp; omega) | (simp [World.setCell]; omega))).mono ?_); rintro e v5 ⟨rfl, h5⟩
  have s5 : v4.heap.size ≤ v5.heap.size := by have hh := h5.size; first | exact hh | (simp at hh; omega) | (simp [World.setCell] at hh; omega)
  have Va := (HVa.out.far3 (by omega)).below h5 (by first | omega | (simp; done) | (simp; omega) | (simp [World.setCell]; omega))
  clear HVa
  have HVa := hid Va
  clear Va
  have Vb := (HVb.out.far3 (by omega)).below h5 (by first | omega | (simp; done) | (simp; omega) | (simp [World.setCell]; omega))
  clear HVb
  have HVb := hid Vb
  clear Vb
  have Vd := (Var3.set3 HVd.out).below h5 (by first | omega | (simp; done) | (simp; omega) | (simp [World.setCell]; omega))
  clear HVd
  have HVd := hid Vd
  clear Vd
  have Ox0 := (HOx0.out.far3 (by omega)).below h5 (by have := HOx0.out.lt.2; first | omega | (simp; done) | (simp; omega) | (simp [World.setCell]; omega))
  clear HOx0
  have HOx0 := hid Ox0
  clear Ox0
  have Ox1 := (HOx1.out.far3 (by omega)).below h5 (by have := HOx1.out.lt.2; first | omega | (simp; done) | (simp; omega) | (simp [World.setCell]; omega))
  clear HOx1
  have HOx1 := hid Ox1
  clear Ox1
  have Ox2 := (HOx2.out.far3 (by omega)).below h5 (by have := HOx2.out.lt.2; first | omega | (simp; done) | (simp; omega) | (simp [World.setCell]; omega))
  clear HOx2
  have HOx2 := hid Ox2
  clear Ox2
  have Ox3 := (HOx3.out.far3 (by omega)).below h5 (by have := HOx3.out.lt.2; first | omega | (simp; done) | (simp; omega) | (simp [World.setCell]; omega))
  clear HOx3
  have HOx3 := hid Ox3
  clear Ox3
  have Ox4 := (HOx4.out.far3 (by omega)).below h5 (by have := HOx4.out.lt.2; first | omega | (simp; done) | (simp; omega) | (simp [World.setCell]; omega))
  clear HOx4
  have HOx4 := hid Ox4
  clear Ox4
  have B := below_next (below_set3 HB.out (by omega)) h5
  clear HB
  have HB := hid B
  clear B h5
  go_wp2
  go_ret
  exact ⟨rfl, below_next HWB.out HB.out⟩

theorem walk (a0 : Int) (a1 : Int) (a2 : Option Addr) (len2 cap2 : Nat) (z2 : List Int) (a3 : Int) (a4 : Int) (w : World) (w0 : (Lit.int .i64 a0).wf = true) (w1 : (Lit.int .i64 a1).wf = true) (w2 : IsRow .u8 w a2 len2 cap2 z2) (w3 : (Lit.int .i64 a3).wf = true) (w4 : (Lit.int .u8 a4).wf = true) :
    Calls Try.prog 5 #[.int .i64 a0, .int .i64 a1, .slice a2 len2 cap2, .int .i64 a3, .int .u8 a4] w fun e w' => e = .returned (.bool true) ∧ Below w.heap.size w w' := by
  exact rest a0 a1 a2 len2 cap2 z2 a3 a4 w w2 (u8_range w4)

set_option maxRecDepth 100000 in
theorem lifted (os : Os) (started : os.Started) (H : Type) (enc : TypeId × Value → H) :
    ReturnsInHanded {} Try.checked os 5 .any (Rows.rasterMapCommutesSpec.pre6 enc Try.prog Try.f5 Rows.rasterMapCommutesRow.domain false) (Rows.rasterMapCommutesSpec.post enc Try.prog Try.f5 false true false false) := by
  refine returnsInHanded_of_change (C := Try.checked) own started (by kernel_rfl) Try.func5
    (ChangeSpec.witness6 (enc := enc) (C := Try.checked) false ⟨#[], #[.int .i64 0, .int .i64 0, .slice none 0 0, .int .i64 0, .int .u8 0], []⟩ 8 (by kernel_rfl) (by kernel_rfl) (by kernel_rfl) (by kernel_rfl)) ?_
  intro W base args ds gs before hval0 hW hcnd _
  have hval : ∀ (j : Nat) t v, Try.f5.params[j]? = some t → args[j]? = some v → Value.okWide Try.prog W .any base t v := hval0
  have hW' := hW
  obtain ⟨p, q, hA0, hV, rfl, hfz, hnd⟩ := hW
  have hA : DataW.TrodAll enc Try.prog W 0 (fun _ => true) true Try.f5.params.toList args.toList ds p := hA0
  rw [Try.params5] at hA hval
  obtain ⟨v0, vs0, d0, ds0, p0, q0, hargs, rfl, rfl, h0, r0⟩ := trodAll_cons hA
  obtain ⟨v1, vs1, d1, ds1, p1, q1, rfl, rfl, rfl, h1, r1⟩ := trodAll_cons r0
  obtain ⟨v2, vs2, d2, ds2, p2, q2, rfl, rfl, rfl, h2, r2⟩ := trodAll_cons r1
  obtain ⟨v3, vs3, d3, ds3, p3, q3, rfl, rfl, rfl, h3, r3⟩ := trodAll_cons r2
  obtain ⟨v4, vs4, d4, ds4, p4, q4, rfl, rfl, rfl, h4, r4⟩ := trodAll_cons r3
  obtain ⟨rfl, rfl, rfl⟩ := trodAll_nil r4
  obtain rfl : args = #[v0, v1, v2, v3, v4] := by cases args; simp_all
  obtain ⟨rfl, rfl⟩ := trodVars_none hV
  obtain ⟨a0, rfl, rfl, rfl, w0⟩ := open_int Try.underlying3 (hval 0 3 v0 rfl rfl) h0
  obtain ⟨a1, rfl, rfl, rfl, w1⟩ := open_int Try.underlying3 (hval 1 3 v1 rfl rfl) h1
  obtain ⟨a2, len2, cap2, rfl⟩ := okWide_slice Try.underlying22 (hval 2 22 v2 rfl rfl)
  have k2 := h2
  have lt2 : ∀ x ∈ p2, x.block < W.heap.size := by obtain ⟨m, hm⟩ := k2; exact DataW.trod_lt m _ _ _ hm
  obtain ⟨z2, w2⟩ : ∃ zs, IsRow .u8 W a2 len2 cap2 zs := by
    obtain ⟨fuel, hf⟩ := h2
    rcases open_ints Try.underlying22 Try.underlying5 (by kernel_rfl) hf with ⟨hcs, _⟩ | ⟨x, l, c, zs, hcs, _, hl, hm, hz, _, hcell, hwz⟩
    · simp [Value.cells] at hcs
      obtain ⟨rfl, rfl, rfl⟩ := hcs
      exact ⟨[], .inl ⟨rfl, rfl, rfl, rfl⟩⟩
    · simp [Value.cells] at hcs
      obtain ⟨rfl, rfl, rfl⟩ := hcs
      exact ⟨zs, .inr ⟨_, rfl, hl, hm, by simpa using hz, hcell, hwz⟩⟩
  obtain ⟨a3, rfl, rfl, rfl, w3⟩ := open_int Try.underlying3 (hval 3 3 v3 rfl rfl) h3
  obtain ⟨a4, rfl, rfl, rfl, w4⟩ := open_int Try.underlying5 (hval 4 5 v4 rfl rfl) h4
  clear hA0 hval0
  refine (walk a0 a1 a2 len2 cap2 z2 a3 a4 W w0 w1 w2 w3 w4).mono fun e W' ⟨he, bel⟩ => ?_
  subst he
  exact ⟨_, rfl, _, _, _, [], _, [], hW', trodAll_mk1 (shut_bool Try.underlying4 _), (trodAll_cons_mk (shut_int Try.underlying3 w0) (trodAll_cons_mk (shut_int Try.underlying3 w1) (trodAll_cons_mk (Below.trod laidOut (by kernel_rfl) (of_decide_eq_true (by kernel_rfl)) k2 bel lt2) (trodAll_cons_mk (shut_int Try.underlying3 w3) (trodAll_cons_mk (shut_int Try.underlying5 w4) trodAll_mk0))))), rfl, bel.frame _, fun h => by cases h⟩

theorem over : Rows.rasterMapCommutesRow.holds Try.pinned (OpenSpec.ofChange Rows.rasterMapCommutesSpec) :=
  OpenClaim.holds_of_wide 5 Try.f5 rfl rfl rfl rfl rfl rfl rfl ⟨rfl, rfl, rfl, rfl, rfl⟩ rfl rfl rfl rfl rfl (by kernel_rfl) Try.func5 (by kernel_rfl)
    (of_decide_eq_true (by kernel_rfl)) (by unfold Func.isWrapper; first | (rw [if_pos (by decide +kernel)]; kernel_rfl) | (rw [if_neg (by decide +kernel)]; exact ⟨rfl, rfl⟩))
    (fun os started H enc _ => lifted os started H enc)

/-- ████ THE STATEMENT ████ -/
theorem proved : Rows.RasterMapCommutesSaid := over
end Go.Proofs.Ytdjjijkdalpggaa.rasterMapCommutes
