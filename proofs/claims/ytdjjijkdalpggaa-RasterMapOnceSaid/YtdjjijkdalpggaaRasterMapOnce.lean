/- The statement RasterMapOnce returns true for all integers w and h and all bytes pix, and changes no argument; there is no further condition. -/
import Derived.Test.YtdjjijkdalpggaaRows
import Derived.WalkKit
import Derived.ProofKit
import Derived.OpenShut
import Derived.ShutString
import Derived.ChangeOld
import Derived.Below
import Derived.Test.YtdjjijkdalpggaaKnown
import Derived.Test.YtdjjijkdalpggaaCount
namespace Go.Proofs.Ytdjjijkdalpggaa.rasterMapOnce
open Go Go.ChangeShapes Go.WideShapes Go.ChangeAt Go.RowKit
open Go.ChangeMaps (open_string shut_string)
set_option linter.unusedVariables false

theorem own : ownKnob Try.prog.godebug = none := by kernel_rfl
theorem laidOut : laidOutB Try.prog = true := by kernel_rfl

/-- WHAT THE WALK IS TOLD OF A SLICE OF INTEGERS THAT CAME IN: it is nil; or it leads to a row of 'cap' cells, the numbers 'zs' (the first 'len' are its elements, the rest its spare room), each fitting its kind. -/
def IsRow (k : IntKind) (w : World) (a : Option Addr) (len cap : Nat) (zs : List Int) : Prop :=
  (a = none ∧ len = 0 ∧ cap = 0 ∧ zs = []) ∨
  ∃ x, a = some x ∧ len ≤ cap ∧ cap ≤ maxLen ∧ zs.length = cap ∧ (∀ i, i < zs.length → w.cell? (x.add i) = some (.int k (zs.getD i 0))) ∧ ∀ n ∈ zs, (Lit.int k n).wf = true

set_option maxRecDepth 100000 in
set_option maxHeartbeats 4000000 in
theorem rest (a0 : Int) (a1 : Int) (a2 : Option Addr) (len2 cap2 : Nat) (z2 : List Int) (w : World) (w2 : Go.Proofs.Ytdjjijkdalpggaa.IsRow .u8 w a2 len2 cap2 z2) :
    Calls Try.prog 10 #[.int .i64 a0, .int .i64 a1, .slice a2 len2 cap2] w fun e w' => e = .returned (.bool true) ∧ Below w.heap.size w w' := by
  have HR := hid w2
  clear w2
  go_enter Try.func10, Try.ntmps10
  go_wp2_with fail
  (with_reducible refine (known_any _).mono ?_); rintro e w1 ⟨rfl, hb1⟩
  go_wp2_with fail
  (with_reducible refine (smalll_any _ _ _ _ _ z2 _ (HR.out.below hb1)).mono ?_); rintro e v0 ⟨W, H, x0, c0, hW, hH, rfl, ho, hb2⟩
  have HB0 := hid (below_next hb1 hb2)
  have hW' : 1 ≤ W ∧ W ≤ 1024 := by omega
  have hH' : 1 ≤ H ∧ H ≤ 1024 := by omega
  have hN64 : W * H ≤ 8 * 8 := Nat.mul_le_mul hW.2 hH.2
  obtain ⟨f, hf⟩ : ∃ f : Nat → Int, f = fun i => if i < W * H then sv len2 z2 i else 0 := ⟨_, rfl⟩
  have ho' := ho.congr (f' := f) (fun i hi => by rw [hf]; exact (if_pos hi).symm)
  have hrf : ∀ i, 0 ≤ f i ∧ f i ≤ 255 := by
    intro i; simp only [hf]
    split
    · exact sv_range _ _ _ (by omega)
    · omega
  obtain ⟨N, hN⟩ : ∃ N, N = W * H := ⟨_, rfl⟩
  rw [← hN] at ho' hN64 ⊢
  have HN := hid hN
  have HRF := hid hrf
  have HO0 := hid ho'
  have m0 := ho'.lt.2
  have hw0 := HB0.out.size
  clear hb1 hb2 ho ho' hf HR hrf hN
  go_wp2_with fail
  have hnum : Num ((v0.alloc (.cells #[.int .i64 W, .int .i64 H, .slice (some ⟨x0, 0, none⟩) N c0] 25)).alloc (.cells #[.int .i64 0] 3)) (v0.heap.size + 1) 0 := ⟨by simp [go_sem], by simp [go_sem]⟩
  (with_reducible refine (mapc_any W H x0 N c0 (v0.heap.size + 1) f _ (by exact ((HO0.out.alloc _).alloc _).px) (fun i _ => HRF.out i) hnum hW' hH' HN.out (by simp; omega) (by omega)).mono ?_); rintro e v1 ⟨x1, c1, rfl, o1, h1, n1⟩
  have q0 := (h1.cells v0.heap.size 0 (by simp; omega) (by omega)).trans (World.cell?_alloc_past _ _ _ (by simp))
  have q1 := (h1.cells v0.heap.size 1 (by simp; omega) (by omega)).trans (World.cell?_alloc_past _ _ _ (by simp))
  have q2 := (h1.cells v0.heap.size 2 (by simp; omega) (by omega)).trans (World.cell?_alloc_past _ _ _ (by simp))
  simp [go_sem] at q0 q1 q2
  have n1' := n1.1
  have s1 : v0.heap.size + 2 ≤ v1.heap.size := by have := h1.size; simp at this; omega
  have t0 : v0.heap.size < v1.heap.size := by omega
  have t1 : v0.heap.size + 1 < v1.heap.size := by omega
  have P0 : Px v1 x0 0 N f := fun i hi => (h1.cells x0 _ (by simp; omega) (by omega)).trans (((HO0.out.alloc _).alloc _).px i hi)
  have BV : Below w.heap.size w v1 := Cnt.below (below_alloc (below_alloc HB0.out _) _) h1 (by simp; omega) (by omega)
  have HP0 := hid P0
  have HBV := hid BV
  have HO1 := hid o1
  have x1l := o1.lt.2
  have x0l : x0 < v1.heap.size := by omega
  clear P0 BV o1 h1 n1 hnum HO0 HB0
  go_wp2_with fail
  go_loop [11, 12, 58] (fun _ _ s58 => ∃ i : Nat, i ≤ N ∧ s58 = .int .i64 i) (fun _ _ s58 => N - (intOf s58).toNat)
  case atStart => exact ⟨0, Nat.zero_le _, rfl⟩
  case round =>
    obtain ⟨i, hi, rfl⟩ := hrel
    by_cases hlt : i < N
    · have cg := HP0.out i hlt
      rw [Nat.zero_add] at cg
      have cm := HO1.out.at_ i hlt
      have hr := HRF.out i
      obtain ⟨v, hv⟩ : ∃ v, v = f i := ⟨_, rfl⟩
      rw [← hv] at cg hr
      have cm' : v1.cell? ⟨x1, i, none⟩ = some (.int .i64 (1000 * ((i : Int) + 1) + v)) := by rw [hv]; exact cm
      clear hv cm
      go_wp2
      go_round
      case rel => exact ⟨i + 1, by omega, by go_num⟩
      case measure => simp [intOf]; omega
    · go_wp2
      go_ret
      exact ⟨rfl, below_alloc HBV.out _⟩

theorem walk (a0 : Int) (a1 : Int) (a2 : Option Addr) (len2 cap2 : Nat) (z2 : List Int) (w : World) (w0 : (Lit.int .i64 a0).wf = true) (w1 : (Lit.int .i64 a1).wf = true) (w2 : IsRow .u8 w a2 len2 cap2 z2) :
    Calls Try.prog 10 #[.int .i64 a0, .int .i64 a1, .slice a2 len2 cap2] w fun e w' => e = .returned (.bool true) ∧ Below w.heap.size w w' := by
  exact rest a0 a1 a2 len2 cap2 z2 w w2

set_option maxRecDepth 100000 in
theorem lifted (os : Os) (started : os.Started) (H : Type) (enc : TypeId × Value → H) :
    ReturnsInHanded {} Try.checked os 10 .any (Rows.rasterMapOnceSpec.pre6 enc Try.prog Try.f10 Rows.rasterMapOnceRow.domain false) (Rows.rasterMapOnceSpec.post enc Try.prog Try.f10 false true false false) := by
  refine returnsInHanded_of_change (C := Try.checked) own started (by kernel_rfl) Try.func10
    (ChangeSpec.witness6 (enc := enc) (C := Try.checked) false ⟨#[], #[.int .i64 0, .int .i64 0, .slice none 0 0], []⟩ 8 (by kernel_rfl) (by kernel_rfl) (by kernel_rfl) (by kernel_rfl)) ?_
  intro W base args ds gs before hval0 hW hcnd _
  have hval : ∀ (j : Nat) t v, Try.f10.params[j]? = some t → args[j]? = some v → Value.okWide Try.prog W .any base t v := hval0
  have hW' := hW
  obtain ⟨p, q, hA0, hV, rfl, hfz, hnd⟩ := hW
  have hA : DataW.TrodAll enc Try.prog W 0 (fun _ => true) true Try.f10.params.toList args.toList ds p := hA0
  rw [Try.params10] at hA hval
  obtain ⟨v0, vs0, d0, ds0, p0, q0, hargs, rfl, rfl, h0, r0⟩ := trodAll_cons hA
  obtain ⟨v1, vs1, d1, ds1, p1, q1, rfl, rfl, rfl, h1, r1⟩ := trodAll_cons r0
  obtain ⟨v2, vs2, d2, ds2, p2, q2, rfl, rfl, rfl, h2, r2⟩ := trodAll_cons r1
  obtain ⟨rfl, rfl, rfl⟩ := trodAll_nil r2
  obtain rfl : args = #[v0, v1, v2] := by cases args; simp_all
  obtain ⟨rfl, rfl⟩ := trodVars_none hV
  obtain ⟨a0, rfl, rfl, rfl, w0⟩ := open_int Try.underlying3 (hval 0 3 v0 rfl rfl) h0
  obtain ⟨a1, rfl, rfl, rfl, w1⟩ := open_int Try.underlying3 (hval 1 3 v1 rfl rfl) h1
  obtain ⟨a2, len2, cap2, rfl⟩ := okWide_slice Try.underlying22 (hval 2 22 v2 rfl rfl)
  have k2 := h2
  have lt2 : ∀ x ∈ p2, x.block < W.heap.size := by obtain ⟨m, hm⟩ := k2; exact DataW.trod_lt m _ _ _ hm
  obtain ⟨z2, w2⟩ : ∃ zs, IsRow .u8 W a2 len2 cap2 zs := by
    obtain ⟨fuel, hf⟩ := h2
    rcases open_ints Try.underlying22 Try.underlying5 (by kernel_rfl) hf with ⟨hcs, _⟩ | ⟨x, l, c, zs, hcs, _, hl, hm, hz, _, hcell, hwz⟩
    · simp [Value.cells] at hcs
      obtain ⟨rfl, rfl, rfl⟩ := hcs
      exact ⟨[], .inl ⟨rfl, rfl, rfl, rfl⟩⟩
    · simp [Value.cells] at hcs
      obtain ⟨rfl, rfl, rfl⟩ := hcs
      exact ⟨zs, .inr ⟨_, rfl, hl, hm, by simpa using hz, hcell, hwz⟩⟩
  clear hA0 hval0
  refine (walk a0 a1 a2 len2 cap2 z2 W w0 w1 w2).mono fun e W' ⟨he, bel⟩ => ?_
  subst he
  exact ⟨_, rfl, _, _, _, [], _, [], hW', trodAll_mk1 (shut_bool Try.underlying4 _), (trodAll_cons_mk (shut_int Try.underlying3 w0) (trodAll_cons_mk (shut_int Try.underlying3 w1) (trodAll_cons_mk (Below.trod laidOut (by kernel_rfl) (of_decide_eq_true (by kernel_rfl)) k2 bel lt2) trodAll_mk0))), rfl, bel.frame _, fun h => by cases h⟩

theorem over : Rows.rasterMapOnceRow.holds Try.pinned (OpenSpec.ofChange Rows.rasterMapOnceSpec) :=
  OpenClaim.holds_of_wide 10 Try.f10 rfl rfl rfl rfl rfl rfl rfl ⟨rfl, rfl, rfl, rfl, rfl⟩ rfl rfl rfl rfl rfl (by kernel_rfl) Try.func10 (by kernel_rfl)
    (of_decide_eq_true (by kernel_rfl)) (by unfold Func.isWrapper; first | (rw [if_pos (by decide +kernel)]; kernel_rfl) | (rw [if_neg (by decide +kernel)]; exact ⟨rfl, rfl⟩))
    (fun os started H enc _ => lifted os started H enc)

/-- ████ THE STATEMENT ████ -/
theorem proved : Rows.RasterMapOnceSaid := over
end Go.Proofs.Ytdjjijkdalpggaa.rasterMapOnce
