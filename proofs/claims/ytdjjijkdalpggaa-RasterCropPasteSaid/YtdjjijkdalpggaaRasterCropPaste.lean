/- The statement RasterCropPaste returns true for all integers w, h, x, y, cw and ch, all bytes pix and each byte v, and changes no argument; there is no further condition. -/
import Derived.Test.YtdjjijkdalpggaaRows
import Derived.WalkKit
import Derived.ProofKit
import Derived.OpenShut
import Derived.ShutString
import Derived.ChangeOld
import Derived.Below
import Derived.Test.YtdjjijkdalpggaaPaste
namespace Go.Proofs.Ytdjjijkdalpggaa.rasterCropPaste
open Go Go.ChangeShapes Go.WideShapes Go.ChangeAt Go.RowKit
open Go.ChangeMaps (open_string shut_string)
set_option linter.unusedVariables false

theorem own : ownKnob Try.prog.godebug = none := by kernel_rfl
theorem laidOut : laidOutB Try.prog = true := by kernel_rfl

/-- WHAT THE WALK IS TOLD OF A SLICE OF INTEGERS THAT CAME IN: it is nil; or it leads to a row of 'cap' cells, the numbers 'zs' (the first 'len' are its elements, the rest its spare room), each fitting its kind. -/
def IsRow (k : IntKind) (w : World) (a : Option Addr) (len cap : Nat) (zs : List Int) : Prop :=
  (a = none ∧ len = 0 ∧ cap = 0 ∧ zs = []) ∨
  ∃ x, a = some x ∧ len ≤ cap ∧ cap ≤ maxLen ∧ zs.length = cap ∧ (∀ i, i < zs.length → w.cell? (x.add i) = some (.int k (zs.getD i 0))) ∧ ∀ n ∈ zs, (Lit.int k n).wf = true

/-- What cut returns, under a name. -/
def cutV (x lo hi : Int) : Int := lo + x.tmod (hi - lo + 1) % (hi - lo + 1)
theorem cutV_in (x lo hi : Int) (h : lo ≤ hi) : lo ≤ cutV x lo hi ∧ cutV x lo hi ≤ hi := by
  unfold cutV
  have t3 := Int.emod_nonneg (x.tmod (hi - lo + 1)) (show hi - lo + 1 ≠ 0 by omega)
  have t4 := Int.emod_lt_of_pos (x.tmod (hi - lo + 1)) (show 0 < hi - lo + 1 by omega)
  omega
theorem cut_def (x lo hi : Int) (w : World) (h : lo ≤ hi) (hl : -1024 ≤ lo) (hh : hi ≤ 1024) :
    Calls Try.prog 14 #[.int .i64 x, .int .i64 lo, .int .i64 hi] w fun e w' => e = .returned (.int .i64 (cutV x lo hi)) ∧ w' = w :=
  (cut_val x lo hi w h (by omega) (by omega) (by omega)).mono fun e w' ⟨he, hw⟩ => ⟨he, hw.symm⟩

theorem make_flat (W H : Nat) (v : Int) (w : World) (hW : 1 ≤ W ∧ W ≤ 1024) (hH : 1 ≤ H ∧ H ≤ 1024) :
    Calls Try.prog 20 #[.int .i64 W, .int .i64 H, .int .u8 v] w (OkGrid W H (W * H) (flat W fun _ _ => v) w) := make_ok W H v w hW hH

theorem pasted_back (x y cw ch W H : Nat) (F : Nat → Nat → Int) (hW : 1 ≤ W) (i : Nat) (hi : i < W * H) : flat W (pasted x y cw ch H (fun i j => F (x + i) (y + j)) F) i = flat W F i := by
  refine flat_congr hW (fun X Y hX hY => ?_) i hi
  unfold pasted
  split
  · exact congr (congrArg F (by omega)) (by omega)
  · rfl

theorem pasted_in (x y cw ch H : Nat) (v : Int) (F : Nat → Nat → Int) (hcw : 1 ≤ cw) (hy : y + ch ≤ H) (i : Nat) (hi : i < cw * ch) : flat cw (fun i j => pasted x y cw ch H (fun _ _ => v) F (x + i) (y + j)) i = flat cw (fun _ _ => v) i := by
  refine flat_congr hcw (fun X Y hX hY => ?_) i hi
  unfold pasted
  rw [if_pos (by omega)]

set_option maxRecDepth 100000 in
set_option maxHeartbeats 4000000 in
theorem rest (a0 : Int) (a1 : Int) (a2 : Option Addr) (len2 cap2 : Nat) (z2 : List Int) (a3 a4 a5 a6 a7 : Int) (w : World) (w2 : Go.Proofs.Ytdjjijkdalpggaa.IsRow .u8 w a2 len2 cap2 z2) :
    Calls Try.prog 4 #[.int .i64 a0, .int .i64 a1, .slice a2 len2 cap2, .int .i64 a3, .int .i64 a4, .int .i64 a5, .int .i64 a6, .int .u8 a7] w fun e w' => e = .returned (.bool true) ∧ Below w.heap.size w w' := by
  have HR := hid w2
  clear w2
  go_enter Try.func4, Try.ntmps4
  go_wp2_with fail
  (with_reducible refine (turns_any _).mono ?_); rintro e w1 ⟨rfl, hb1⟩
  go_wp2_with fail
  (with_reducible refine (small_any _ _ _ _ _ z2 _ (HR.out.below hb1)).mono ?_); rintro e v0 ⟨W, H, x0, c0, hW, hH, rfl, ho, hb2⟩
  have HB0 := hid (below_next hb1 hb2)
  have hW' : 1 ≤ W ∧ W ≤ 1024 := by omega
  have hH' : 1 ≤ H ∧ H ≤ 1024 := by omega
  have hN64 : W * H ≤ 8 * 8 := Nat.mul_le_mul hW.2 hH.2
  obtain ⟨F, hF⟩ : ∃ F, F = byXY W (sv len2 z2) := ⟨_, rfl⟩
  have hff : sv len2 z2 = flat W F := by rw [hF, flat_byXY]
  rw [hff] at ho
  obtain ⟨N, hN⟩ : ∃ N, N = W * H := ⟨_, rfl⟩
  rw [← hN] at ho hN64 ⊢
  have HN := hid hN
  have HO0 := hid ho
  have m0 := ho.lt.2
  have cap0 := ho.cap
  have hw0 := HB0.out.size
  clear hb1 hb2 ho hF HR hff hN
  go_wp2_with fail
  obtain ⟨i1, i2⟩ := cutV_in a5 1 W (by omega)
  obtain ⟨i3, i4⟩ := cutV_in a6 1 H (by omega)
  go_quiet ((go_at_call 14; exact Calls.quiet_of_same (cut_def _ _ _ _ (by omega) (by omega) (by omega))))
  generalize cutV a5 1 W = cwz at i1 i2 ⊢
  generalize cutV a6 1 H = chz at i3 i4 ⊢
  obtain ⟨cw, rfl⟩ := Int.eq_ofNat_of_zero_le (show 0 ≤ cwz by omega)
  obtain ⟨ch, rfl⟩ := Int.eq_ofNat_of_zero_le (show 0 ≤ chz by omega)
  generalize hwd : (v0.alloc (.cells #[.int .i64 W, .int .i64 H, .slice (some ⟨x0, 0, none⟩) N c0] 25)).drewN nq = wd1
  have V1 : Var3 wd1 v0.heap.size (.int .i64 W) (.int .i64 H) (.slice (some ⟨x0, 0, none⟩) N c0) := by rw [← hwd]; exact Var3.new _ _ _ _
  have O1 : Own wd1 w1.heap.size x0 N c0 (flat W F) := by rw [← hwd]; exact HO0.out.alloc _
  have B1 : Below w.heap.size w wd1 := by rw [← hwd]; exact below_drewN (below_alloc HB0.out _) _
  have HV1 := hid V1
  have HO1 := hid O1
  have HB1 := hid B1
  obtain ⟨t0, t1, t2, tf⟩ := V1.read
  clear V1 O1 B1 hwd HB0 HO0
  go_wp2_with fail
  obtain ⟨i5, i6⟩ := cutV_in a3 0 (W - cw) (by omega)
  obtain ⟨i7, i8⟩ := cutV_in a4 0 (H - ch) (by omega)
  have hs1 : IntKind.i64.wrap ((W : Int) - cw) = (W : Int) - cw := IntWalk.i64_in _ (by omega)
  have hs2 : IntKind.i64.wrap ((H : Int) - ch) = (H : Int) - ch := IntWalk.i64_in _ (by omega)
  go_quiet ((go_at_call 14; exact Calls.quiet_of_same (cut_def _ _ _ _ (by omega) (by omega) (by omega))))
  clear hs1 hs2
  generalize cutV a3 0 ((W : Int) - cw) = xz at i5 i6 ⊢
  generalize cutV a4 0 ((H : Int) - ch) = yz at i7 i8 ⊢
  obtain ⟨x, rfl⟩ := Int.eq_ofNat_of_zero_le i5
  obtain ⟨y, rfl⟩ := Int.eq_ofNat_of_zero_le i7
  generalize hwd : wd1.drewN nq = wd
  have Va : Var3 wd v0.heap.size (.int .i64 W) (.int .i64 H) (.slice (some ⟨x0, 0, none⟩) N c0) := by rw [← hwd]; exact HV1.out
  have O1 : Own wd w1.heap.size x0 N c0 (flat W F) := by rw [← hwd]; exact HO1.out
  have B1 : Below w.heap.size w wd := by rw [← hwd]; exact below_drewN HB1.out _
  have HVa := hid Va
  have HOx0 := hid O1
  have HB := hid B1
  have d0 := Va.lt
  clear Va O1 B1 hwd HV1 HO1 HB1 t0 t1 t2 tf
  have j1 : x + cw ≤ W := by omega
  have j2 : y + ch ≤ H := by omega
  have j3 : 1 ≤ cw ∧ cw ≤ 1024 := by omega
  have j4 : 1 ≤ ch ∧ ch ≤ 1024 := by omega
  have hM64 : cw * ch ≤ 8 * 8 := Nat.mul_le_mul (by omega) (by omega)
  clear i1 i2 i3 i4 i6 i8
  obtain ⟨qa0, qa1, qa2, qaf⟩ := HVa.out.read
  have ta := HVa.out.lt
  go_wp2_with fail
  clear qa0 qa1 qa2 qaf ta
  (with_reducible refine (crop_ok W H x y cw ch x0 N c0 F _ (by exact HOx0.out.px) hW' hH' HN.out (by have := HOx0.out.lt.2; first | omega | (simp; done) | (simp; omega) | (simp [World.setCell]; omega)) j1 j2 j3.1 j4.1 cap0.1 cap0.2).mono ?_); rintro e v1 ⟨x1, c1, rfl, o1, h1⟩
  have s1 : wd.heap.size ≤ v1.heap.size := by have hh := h1.size; first | exact hh | (simp at hh; omega) | (simp [World.setCell] at hh; omega)
  have l1 : wd.heap.size ≤ x1 := by have hh := o1.lt.1; first | exact hh | (simp at hh; omega) | (simp [World.setCell] at hh; omega)
  have m1 : x1 < v1.heap.size := o1.lt.2
  have cap1 := o1.cap
  have Va := HVa.out.below h1 (by first | omega | (simp; done) | (simp; omega) | (simp [World.setCell]; omega))
  clear HVa
  have HVa := hid Va
  clear Va
  have Ox0 := HOx0.out.below h1 (by have := HOx0.out.lt.2; first | omega | (simp; done) | (simp; omega) | (simp [World.setCell]; omega))
  clear HOx0
  have HOx0 := hid Ox0
  clear Ox0
  have HOx1 := hid o1
  clear o1
  have B := below_next HB.out h1
  clear HB
  have HB := hid B
  clear B h1
  obtain ⟨qa0, qa1, qa2, qaf⟩ := HVa.out.read
  have ta := HVa.out.lt
  go_wp2_with fail
  clear qa0 qa1 qa2 qaf ta
  (with_reducible refine (paste_ok W H cw ch x y x0 N c0 x1 (cw * ch) c1 F (fun i j => F (x + i) (y + j)) _ (by exact (HOx0.out.alloc _).px) (by exact (HOx1.out.alloc _).px) (by have := HOx0.out.lt.2; first | omega | (simp; done) | (simp; omega) | (simp [World.setCell]; omega)) (by have := HOx1.out.lt.2; first | omega | (simp; done) | (simp; omega) | (simp [World.setCell]; omega)) hW' hH' HN.out j3 j4 rfl (by omega) (by omega) cap1).mono ?_); rintro e v2 ⟨x2, c2, rfl, o2, h2⟩
  have s2 : v1.heap.size < v2.heap.size := by have hh := h2.size; first | exact hh | (simp at hh; omega) | (simp [World.setCell] at hh; omega)
  have l2 : v1.heap.size < x2 := by have hh := o2.lt.1; first | exact hh | (simp at hh; omega) | (simp [World.setCell] at hh; omega)
  have m2 : x2 < v2.heap.size := o2.lt.2
  have cap2 := o2.cap
  have Va := (HVa.out.alloc _).below h2 (by first | omega | (simp; done) | (simp; omega) | (simp [World.setCell]; omega))
  clear HVa
  have HVa := hid Va
  clear Va
  have Vb := (Var3.new v1 (.int .i64 cw) (.int .i64 ch) (.slice (some ⟨x1, 0, none⟩) (cw * ch) c1)).below h2 (by simp)
  have HVb := hid Vb
  clear Vb
  have neab : ¬ v0.heap.size = v1.heap.size := by omega
  have neba : ¬ v1.heap.size = v0.heap.size := by omega
  have Ox0 := (HOx0.out.alloc _).below h2 (by have := HOx0.out.lt.2; first | omega | (simp; done) | (simp; omega) | (simp [World.setCell]; omega))
  clear HOx0
  have HOx0 := hid Ox0
  clear Ox0
  have Ox1 := (HOx1.out.alloc _).below h2 (by have := HOx1.out.lt.2; first | omega | (simp; done) | (simp; omega) | (simp [World.setCell]; omega))
  clear HOx1
  have HOx1 := hid Ox1
  clear Ox1
  have HOx2 := hid o2
  clear o2
  have B := below_next (below_alloc HB.out _) h2
  clear HB
  have HB := hid B
  clear B h2
  have o2 := HOx2.out.congr (fun i hi => pasted_back x y cw ch W H F hW'.1 i (by rw [← HN.out]; exact hi))
  clear HOx2
  have HOx2 := hid o2
  clear o2
  obtain ⟨qa0, qa1, qa2, qaf⟩ := HVa.out.read
  have ta := HVa.out.lt
  go_wp2_with fail
  clear qa0 qa1 qa2 qaf ta
  (with_reducible refine (same_yes _ _ x2 c2 x0 c0 _ _ _ (by exact (HOx2.out.alloc _).px) (by exact (HOx0.out.alloc _).px) (by omega) (by have := HOx2.out.lt.2; first | omega | (simp; done) | (simp; omega) | (simp [World.setCell]; omega)) (by have := HOx0.out.lt.2; first | omega | (simp; done) | (simp; omega) | (simp [World.setCell]; omega))).mono ?_); rintro e v3 ⟨rfl, h3⟩
  have s3 : v2.heap.size < v3.heap.size := by have hh := h3.size; first | exact hh | (simp at hh; omega) | (simp [World.setCell] at hh; omega)
  have Va := (HVa.out.alloc _).below h3 (by first | omega | (simp; done) | (simp; omega) | (simp [World.setCell]; omega))
  clear HVa
  have HVa := hid Va
  clear Va
  have Vb := (HVb.out.alloc _).below h3 (by first | omega | (simp; done) | (simp; omega) | (simp [World.setCell]; omega))
  clear HVb
  have HVb := hid Vb
  clear Vb
  have Vd := (Var3.new v2 (.int .i64 W) (.int .i64 H) (.slice (some ⟨x2, 0, none⟩) (N) c2)).below h3 (by simp)
  have HVd := hid Vd
  clear Vd
  have nead : ¬ v0.heap.size = v2.heap.size := by omega
  have neda : ¬ v2.heap.size = v0.heap.size := by omega
  have nebd : ¬ v1.heap.size = v2.heap.size := by omega
  have nedb : ¬ v2.heap.size = v1.heap.size := by omega
  have Ox0 := (HOx0.out.alloc _).below h3 (by have := HOx0.out.lt.2; first | omega | (simp; done) | (simp; omega) | (simp [World.setCell]; omega))
  clear HOx0
  have HOx0 := hid Ox0
  clear Ox0
  have Ox1 := (HOx1.out.alloc _).below h3 (by have := HOx1.out.lt.2; first | omega | (simp; done) | (simp; omega) | (simp [World.setCell]; omega))
  clear HOx1
  have HOx1 := hid Ox1
  clear Ox1
  have Ox2 := (HOx2.out.alloc _).below h3 (by have := HOx2.out.lt.2; first | omega | (simp; done) | (simp; omega) | (simp [World.setCell]; omega))
  clear HOx2
  have HOx2 := hid Ox2
  clear Ox2
  have B := below_next (below_alloc HB.out _) h3
  clear HB
  have HB := hid B
  clear B h3
  obtain ⟨qa0, qa1, qa2, qaf⟩ := HVa.out.read
  have ta := HVa.out.lt
  go_wp2_with fail
  clear qa0 qa1 qa2 qaf ta
  (with_reducible refine (make_flat cw ch a7 _ j3 j4).mono ?_); rintro e v4 ⟨x4, c4, rfl, o4, h4⟩
  have s4 : v3.heap.size ≤ v4.heap.size := by have hh := h4.size; first | exact hh | (simp at hh; omega) | (simp [World.setCell] at hh; omega)
  have l4 : v3.heap.size ≤ x4 := by have hh := o4.lt.1; first | exact hh | (simp at hh; omega) | (simp [World.setCell] at hh; omega)
  have m4 : x4 < v4.heap.size := o4.lt.2
  have cap4 := o4.cap
  have Va := HVa.out.below h4 (by first | omega | (simp; done) | (simp; omega) | (simp [World.setCell]; omega))
  clear HVa
  have HVa := hid Va
  clear Va
  have Vb := HVb.out.below h4 (by first | omega | (simp; done) | (simp; omega) | (simp [World.setCell]; omega))
  clear HVb
  have HVb := hid Vb
  clear Vb
  have Vd := HVd.out.below h4 (by first | omega | (simp; done) | (simp; omega) | (simp [World.setCell]; omega))
  clear HVd
  have HVd := hid Vd
  clear Vd
  have Ox0 := HOx0.out.below h4 (by have := HOx0.out.lt.2; first | omega | (simp; done) | (simp; omega) | (simp [World.setCell]; omega))
  clear HOx0
  have HOx0 := hid Ox0
  clear Ox0
  have Ox1 := HOx1.out.below h4 (by have := HOx1.out.lt.2; first | omega | (simp; done) | (simp; omega) | (simp [World.setCell]; omega))
  clear HOx1
  have HOx1 := hid Ox1
  clear Ox1
  have Ox2 := HOx2.out.below h4 (by have := HOx2.out.lt.2; first | omega | (simp; done) | (simp; omega) | (simp [World.setCell]; omega))
  clear HOx2
  have HOx2 := hid Ox2
  clear Ox2
  have HOx4 := hid o4
  clear o4
  have B := below_next HB.out h4
  clear HB
  have HB := hid B
  clear B h4
  obtain ⟨qa0, qa1, qa2, qaf⟩ := HVa.out.read
  have ta := HVa.out.lt
  go_wp2_with fail
  clear qa0 qa1 qa2 qaf ta
  (with_reducible refine (paste_ok W H cw ch x y x0 N c0 x4 (cw * ch) c4 F (fun _ _ => a7) _ (by exact (HOx0.out.alloc _).px) (by exact (HOx4.out.alloc _).px) (by have := HOx0.out.lt.2; first | omega | (simp; done) | (simp; omega) | (simp [World.setCell]; omega)) (by have := HOx4.out.lt.2; first | omega | (simp; done) | (simp; omega) | (simp [World.setCell]; omega)) hW' hH' HN.out j3 j4 rfl (by omega) (by omega) cap4).mono ?_); rintro e v5 ⟨x5, c5, rfl, o5, h5⟩
  have s5 : v4.heap.size < v5.heap.size := by have hh := h5.size; first | exact hh | (simp at hh; omega) | (simp [World.setCell] at hh; omega)
  have l5 : v4.heap.size < x5 := by have hh := o5.lt.1; first | exact hh | (simp at hh; omega) | (simp [World.setCell] at hh; omega)
  have m5 : x5 < v5.heap.size := o5.lt.2
  have cap5 := o5.cap
  have Va := (HVa.out.alloc _).below h5 (by first | omega | (simp; done) | (simp; omega) | (simp [World.setCell]; omega))
  clear HVa
  have HVa := hid Va
  clear Va
  have Vb := (HVb.out.alloc _).below h5 (by first | omega | (simp; done) | (simp; omega) | (simp [World.setCell]; omega))
  clear HVb
  have HVb := hid Vb
  clear Vb
  have Vd := (HVd.out.alloc _).below h5 (by first | omega | (simp; done) | (simp; omega) | (simp [World.setCell]; omega))
  clear HVd
  have HVd := hid Vd
  clear Vd
  have Vp := (Var3.new v4 (.int .i64 cw) (.int .i64 ch) (.slice (some ⟨x4, 0, none⟩) (cw * ch) c4)).below h5 (by simp)
  have HVp := hid Vp
  clear Vp
  have neap : ¬ v0.heap.size = v4.heap.size := by omega
  have nepa : ¬ v4.heap.size = v0.heap.size := by omega
  have nebp : ¬ v1.heap.size = v4.heap.size := by omega
  have nepb : ¬ v4.heap.size = v1.heap.size := by omega
  have nedp : ¬ v2.heap.size = v4.heap.size := by omega
  have nepd : ¬ v4.heap.size = v2.heap.size := by omega
  have Ox0 := (HOx0.out.alloc _).below h5 (by have := HOx0.out.lt.2; first | omega | (simp; done) | (simp; omega) | (simp [World.setCell]; omega))
  clear HOx0
  have HOx0 := hid Ox0
  clear Ox0
  have Ox1 := (HOx1.out.alloc _).below h5 (by have := HOx1.out.lt.2; first | omega | (simp; done) | (simp; omega) | (simp [World.setCell]; omega))
  clear HOx1
  have HOx1 := hid Ox1
  clear Ox1
  have Ox2 := (HOx2.out.alloc _).below h5 (by have := HOx2.out.lt.2; first | omega | (simp; done) | (simp; omega) | (simp [World.setCell]; omega))
  clear HOx2
  have HOx2 := hid Ox2
  clear Ox2
  have Ox4 := (HOx4.out.alloc _).below h5 (by have := HOx4.out.lt.2; first | omega | (simp; done) | (simp; omega) | (simp [World.setCell]; omega))
  clear HOx4
  have HOx4 := hid Ox4
  clear Ox4
  have HOx5 := hid o5
  clear o5
  have B := below_next (below_alloc HB.out _) h5
  clear HB
  have HB := hid B
  clear B h5
  go_wp2_with fail
  (with_reducible refine (crop_ok W H x y cw ch x5 N c5 (pasted x y cw ch H (fun _ _ => a7) F) _ (by exact (HOx5.out.alloc _).px) hW' hH' HN.out (by have := HOx5.out.lt.2; first | omega | (simp; done) | (simp; omega) | (simp [World.setCell]; omega)) j1 j2 j3.1 j4.1 cap5.1 cap5.2).mono ?_); rintro e v6 ⟨x6, c6, rfl, o6, h6⟩
  have s6 : v5.heap.size < v6.heap.size := by have hh := h6.size; first | exact hh | (simp at hh; omega) | (simp [World.setCell] at hh; omega)
  have l6 : v5.heap.size < x6 := by have hh := o6.lt.1; first | exact hh | (simp at hh; omega) | (simp [World.setCell] at hh; omega)
  have m6 : x6 < v6.heap.size := o6.lt.2
  have cap6 := o6.cap
  have Va := (HVa.out.alloc _).below h6 (by first | omega | (simp; done) | (simp; omega) | (simp [World.setCell]; omega))
  clear HVa
  have HVa := hid Va
  clear Va
  have Vb := (HVb.out.alloc _).below h6 (by first | omega | (simp; done) | (simp; omega) | (simp [World.setCell]; omega))
  clear HVb
  have HVb := hid Vb
  clear Vb
  have Vd := (HVd.out.alloc _).below h6 (by first | omega | (simp; done) | (simp; omega) | (simp [World.setCell]; omega))
  clear HVd
  have HVd := hid Vd
  clear Vd
  have Vp := (HVp.out.alloc _).below h6 (by first | omega | (simp; done) | (simp; omega) | (simp [World.setCell]; omega))
  clear HVp
  have HVp := hid Vp
  clear Vp
  have Vq := (Var3.new v5 (.int .i64 W) (.int .i64 H) (.slice (some ⟨x5, 0, none⟩) (N) c5)).below h6 (by simp)
  have HVq := hid Vq
  clear Vq
  have neaq : ¬ v0.heap.size = v5.heap.size := by omega
  have neqa : ¬ v5.heap.size = v0.heap.size := by omega
  have nebq : ¬ v1.heap.size = v5.heap.size := by omega
  have neqb : ¬ v5.heap.size = v1.heap.size := by omega
  have nedq : ¬ v2.heap.size = v5.heap.size := by omega
  have neqd : ¬ v5.heap.size = v2.heap.size := by omega
  have nepq : ¬ v4.heap.size = v5.heap.size := by omega
  have neqp : ¬ v5.heap.size = v4.heap.size := by omega
  have Ox0 := (HOx0.out.alloc _).below h6 (by have := HOx0.out.lt.2; first | omega | (simp; done) | (simp; omega) | (simp [World.setCell]; omega))
  clear HOx0
  have HOx0 := hid Ox0
  clear Ox0
  have Ox1 := (HOx1.out.alloc _).below h6 (by have := HOx1.out.lt.2; first | omega | (simp; done) | (simp; omega) | (simp [World.setCell]; omega))
  clear HOx1
  have HOx1 := hid Ox1
  clear Ox1
  have Ox2 := (HOx2.out.alloc _).below h6 (by have := HOx2.out.lt.2; first | omega | (simp; done) | (simp; omega) | (simp [World.setCell]; omega))
  clear HOx2
  have HOx2 := hid Ox2
  clear Ox2
  have Ox4 := (HOx4.out.alloc _).below h6 (by have := HOx4.out.lt.2; first | omega | (simp; done) | (simp; omega) | (simp [World.setCell]; omega))
  clear HOx4
  have HOx4 := hid Ox4
  clear Ox4
  have Ox5 := (HOx5.out.alloc _).below h6 (by have := HOx5.out.lt.2; first | omega | (simp; done) | (simp; omega) | (simp [World.setCell]; omega))
  clear HOx5
  have HOx5 := hid Ox5
  clear Ox5
  have HOx6 := hid o6
  clear o6
  have B := below_next (below_alloc HB.out _) h6
  clear HB
  have HB := hid B
  clear B h6
  have o2 := HOx6.out.congr (fun i hi => pasted_in x y cw ch H a7 F j3.1 j2 i hi)
  clear HOx6
  have HOx6 := hid o2
  clear o2
  obtain ⟨qp0, qp1, qp2, qpf⟩ := HVp.out.read
  have tp := HVp.out.lt
  go_wp2_with fail
  clear qp0 qp1 qp2 qpf tp
  (with_reducible refine (same_yes _ _ x6 c6 x4 c4 _ _ _ (by exact (HOx6.out.alloc _).px) (by exact (HOx4.out.alloc _).px) (by omega) (by have := HOx6.out.lt.2; first | omega | (simp; done) | (simp; omega) | (simp [World.setCell]; omega)) (by have := HOx4.out.lt.2; first | omega | (simp; done) | (simp; omega) | (simp [World.setCell]; omega))).mono ?_); rintro e v7 ⟨rfl, h7⟩
  have s7 : v6.heap.size < v7.heap.size := by have hh := h7.size; first | exact hh | (simp at hh; omega) | (simp [World.setCell] at hh; omega)
  have Va := (HVa.out.alloc _).below h7 (by first | omega | (simp; done) | (simp; omega) | (simp [World.setCell]; omega))
  clear HVa
  have HVa := hid Va
  clear Va
  have Vb := (HVb.out.alloc _).below h7 (by first | omega | (simp; done) | (simp; omega) | (simp [World.setCell]; omega))
  clear HVb
  have HVb := hid Vb
  clear Vb
  have Vd := (HVd.out.alloc _).below h7 (by first | omega | (simp; done) | (simp; omega) | (simp [World.setCell]; omega))
  clear HVd
  have HVd := hid Vd
  clear Vd
  have Vp := (HVp.out.alloc _).below h7 (by first | omega | (simp; done) | (simp; omega) | (simp [World.setCell]; omega))
  clear HVp
  have HVp := hid Vp
  clear Vp
  have Vq := (HVq.out.alloc _).below h7 (by first | omega | (simp; done) | (simp; omega) | (simp [World.setCell]; omega))
  clear HVq
  have HVq := hid Vq
  clear Vq
  have Vr := (Var3.new v6 (.int .i64 cw) (.int .i64 ch) (.slice (some ⟨x6, 0, none⟩) (cw * ch) c6)).below h7 (by simp)
  have HVr := hid Vr
  clear Vr
  have near : ¬ v0.heap.size = v6.heap.size := by omega
  have nera : ¬ v6.heap.size = v0.heap.size := by omega
  have nebr : ¬ v1.heap.size = v6.heap.size := by omega
  have nerb : ¬ v6.heap.size = v1.heap.size := by omega
  have nedr : ¬ v2.heap.size = v6.heap.size := by omega
  have nerd : ¬ v6.heap.size = v2.heap.size := by omega
  have nepr : ¬ v4.heap.size = v6.heap.size := by omega
  have nerp : ¬ v6.heap.size = v4.heap.size := by omega
  have neqr : ¬ v5.heap.size = v6.heap.size := by omega
  have nerq : ¬ v6.heap.size = v5.heap.size := by omega
  have Ox0 := (HOx0.out.alloc _).below h7 (by have := HOx0.out.lt.2; first | omega | (simp; done) | (simp; omega) | (simp [World.setCell]; omega))
  clear HOx0
  have HOx0 := hid Ox0
  clear Ox0
  have Ox1 := (HOx1.out.alloc _).below h7 (by have := HOx1.out.lt.2; first | omega | (simp; done) | (simp; omega) | (simp [World.setCell]; omega))
  clear HOx1
  have HOx1 := hid Ox1
  clear Ox1
  have Ox2 := (HOx2.out.alloc _).below h7 (by have := HOx2.out.lt.2; first | omega | (simp; done) | (simp; omega) | (simp [World.setCell]; omega))
  clear HOx2
  have HOx2 := hid Ox2
  clear Ox2
  have Ox4 := (HOx4.out.alloc _).below h7 (by have := HOx4.out.lt.2; first | omega | (simp; done) | (simp; omega) | (simp [World.setCell]; omega))
  clear HOx4
  have HOx4 := hid Ox4
  clear Ox4
  have Ox5 := (HOx5.out.alloc _).below h7 (by have := HOx5.out.lt.2; first | omega | (simp; done) | (simp; omega) | (simp [World.setCell]; omega))
  clear HOx5
  have HOx5 := hid Ox5
  clear Ox5
  have Ox6 := (HOx6.out.alloc _).below h7 (by have := HOx6.out.lt.2; first | omega | (simp; done) | (simp; omega) | (simp [World.setCell]; omega))
  clear HOx6
  have HOx6 := hid Ox6
  clear Ox6
  have B := below_next (below_alloc HB.out _) h7
  clear HB
  have HB := hid B
  clear B h7
  go_wp2
  go_ret
  exact ⟨rfl, HB.out⟩

theorem walk (a0 : Int) (a1 : Int) (a2 : Option Addr) (len2 cap2 : Nat) (z2 : List Int) (a3 : Int) (a4 : Int) (a5 : Int) (a6 : Int) (a7 : Int) (w : World) (w0 : (Lit.int .i64 a0).wf = true) (w1 : (Lit.int .i64 a1).wf = true) (w2 : IsRow .u8 w a2 len2 cap2 z2) (w3 : (Lit.int .i64 a3).wf = true) (w4 : (Lit.int .i64 a4).wf = true) (w5 : (Lit.int .i64 a5).wf = true) (w6 : (Lit.int .i64 a6).wf = true) (w7 : (Lit.int .u8 a7).wf = true) :
    Calls Try.prog 4 #[.int .i64 a0, .int .i64 a1, .slice a2 len2 cap2, .int .i64 a3, .int .i64 a4, .int .i64 a5, .int .i64 a6, .int .u8 a7] w fun e w' => e = .returned (.bool true) ∧ Below w.heap.size w w' := by
  exact rest a0 a1 a2 len2 cap2 z2 a3 a4 a5 a6 a7 w w2

set_option maxRecDepth 100000 in
theorem lifted (os : Os) (started : os.Started) (H : Type) (enc : TypeId × Value → H) :
    ReturnsInHanded {} Try.checked os 4 .any (Rows.rasterCropPasteSpec.pre6 enc Try.prog Try.f4 Rows.rasterCropPasteRow.domain false) (Rows.rasterCropPasteSpec.post enc Try.prog Try.f4 false true false false) := by
  refine returnsInHanded_of_change (C := Try.checked) own started (by kernel_rfl) Try.func4
    (ChangeSpec.witness6 (enc := enc) (C := Try.checked) false ⟨#[], #[.int .i64 0, .int .i64 0, .slice none 0 0, .int .i64 0, .int .i64 0, .int .i64 0, .int .i64 0, .int .u8 0], []⟩ 8 (by kernel_rfl) (by kernel_rfl) (by kernel_rfl) (by kernel_rfl)) ?_
  intro W base args ds gs before hval0 hW hcnd _
  have hval : ∀ (j : Nat) t v, Try.f4.params[j]? = some t → args[j]? = some v → Value.okWide Try.prog W .any base t v := hval0
  have hW' := hW
  obtain ⟨p, q, hA0, hV, rfl, hfz, hnd⟩ := hW
  have hA : DataW.TrodAll enc Try.prog W 0 (fun _ => true) true Try.f4.params.toList args.toList ds p := hA0
  rw [Try.params4] at hA hval
  obtain ⟨v0, vs0, d0, ds0, p0, q0, hargs, rfl, rfl, h0, r0⟩ := trodAll_cons hA
  obtain ⟨v1, vs1, d1, ds1, p1, q1, rfl, rfl, rfl, h1, r1⟩ := trodAll_cons r0
  obtain ⟨v2, vs2, d2, ds2, p2, q2, rfl, rfl, rfl, h2, r2⟩ := trodAll_cons r1
  obtain ⟨v3, vs3, d3, ds3, p3, q3, rfl, rfl, rfl, h3, r3⟩ := trodAll_cons r2
  obtain ⟨v4, vs4, d4, ds4, p4, q4, rfl, rfl, rfl, h4, r4⟩ := trodAll_cons r3
  obtain ⟨v5, vs5, d5, ds5, p5, q5, rfl, rfl, rfl, h5, r5⟩ := trodAll_cons r4
  obtain ⟨v6, vs6, d6, ds6, p6, q6, rfl, rfl, rfl, h6, r6⟩ := trodAll_cons r5
  obtain ⟨v7, vs7, d7, ds7, p7, q7, rfl, rfl, rfl, h7, r7⟩ := trodAll_cons r6
  obtain ⟨rfl, rfl, rfl⟩ := trodAll_nil r7
  obtain rfl : args = #[v0, v1, v2, v3, v4, v5, v6, v7] := by cases args; simp_all
  obtain ⟨rfl, rfl⟩ := trodVars_none hV
  obtain ⟨a0, rfl, rfl, rfl, w0⟩ := open_int Try.underlying3 (hval 0 3 v0 rfl rfl) h0
  obtain ⟨a1, rfl, rfl, rfl, w1⟩ := open_int Try.underlying3 (hval 1 3 v1 rfl rfl) h1
  obtain ⟨a2, len2, cap2, rfl⟩ := okWide_slice Try.underlying22 (hval 2 22 v2 rfl rfl)
  have k2 := h2
  have lt2 : ∀ x ∈ p2, x.block < W.heap.size := by obtain ⟨m, hm⟩ := k2; exact DataW.trod_lt m _ _ _ hm
  obtain ⟨z2, w2⟩ : ∃ zs, IsRow .u8 W a2 len2 cap2 zs := by
    obtain ⟨fuel, hf⟩ := h2
    rcases open_ints Try.underlying22 Try.underlying5 (by kernel_rfl) hf with ⟨hcs, _⟩ | ⟨x, l, c, zs, hcs, _, hl, hm, hz, _, hcell, hwz⟩
    · simp [Value.cells] at hcs
      obtain ⟨rfl, rfl, rfl⟩ := hcs
      exact ⟨[], .inl ⟨rfl, rfl, rfl, rfl⟩⟩
    · simp [Value.cells] at hcs
      obtain ⟨rfl, rfl, rfl⟩ := hcs
      exact ⟨zs, .inr ⟨_, rfl, hl, hm, by simpa using hz, hcell, hwz⟩⟩
  obtain ⟨a3, rfl, rfl, rfl, w3⟩ := open_int Try.underlying3 (hval 3 3 v3 rfl rfl) h3
  obtain ⟨a4, rfl, rfl, rfl, w4⟩ := open_int Try.underlying3 (hval 4 3 v4 rfl rfl) h4
  obtain ⟨a5, rfl, rfl, rfl, w5⟩ := open_int Try.underlying3 (hval 5 3 v5 rfl rfl) h5
  obtain ⟨a6, rfl, rfl, rfl, w6⟩ := open_int Try.underlying3 (hval 6 3 v6 rfl rfl) h6
  obtain ⟨a7, rfl, rfl, rfl, w7⟩ := open_int Try.underlying5 (hval 7 5 v7 rfl rfl) h7
  clear hA0 hval0
  refine (walk a0 a1 a2 len2 cap2 z2 a3 a4 a5 a6 a7 W w0 w1 w2 w3 w4 w5 w6 w7).mono fun e W' ⟨he, bel⟩ => ?_
  subst he
  exact ⟨_, rfl, _, _, _, [], _, [], hW', trodAll_mk1 (shut_bool Try.underlying4 _), (trodAll_cons_mk (shut_int Try.underlying3 w0) (trodAll_cons_mk (shut_int Try.underlying3 w1) (trodAll_cons_mk (Below.trod laidOut (by kernel_rfl) (of_decide_eq_true (by kernel_rfl)) k2 bel lt2) (trodAll_cons_mk (shut_int Try.underlying3 w3) (trodAll_cons_mk (shut_int Try.underlying3 w4) (trodAll_cons_mk (shut_int Try.underlying3 w5) (trodAll_cons_mk (shut_int Try.underlying3 w6) (trodAll_cons_mk (shut_int Try.underlying5 w7) trodAll_mk0)))))))), rfl, bel.frame _, fun h => by cases h⟩

theorem over : Rows.rasterCropPasteRow.holds Try.pinned (OpenSpec.ofChange Rows.rasterCropPasteSpec) :=
  OpenClaim.holds_of_wide 4 Try.f4 rfl rfl rfl rfl rfl rfl rfl ⟨rfl, rfl, rfl, rfl, rfl⟩ rfl rfl rfl rfl rfl (by kernel_rfl) Try.func4 (by kernel_rfl)
    (of_decide_eq_true (by kernel_rfl)) (by unfold Func.isWrapper; first | (rw [if_pos (by decide +kernel)]; kernel_rfl) | (rw [if_neg (by decide +kernel)]; exact ⟨rfl, rfl⟩))
    (fun os started H enc _ => lifted os started H enc)

/-- ████ THE STATEMENT ████ -/
theorem proved : Rows.RasterCropPasteSaid := over
end Go.Proofs.Ytdjjijkdalpggaa.rasterCropPaste
