/- The statement AffineApplyRounds returns true for every map of six ints and every point of two ints, and changes no argument; there is no further condition. -/
import Derived.Test.YtdelhelfphblcaaRows
import Derived.WalkKit
import Derived.ProofKit
import Derived.OpenShut
import Derived.ChangeOld
import Derived.Below
import Derived.Test.YtdelhelfphblcaaOpen
import Derived.Test.YtdelhelfphblcaaApp
import Derived.Test.YtdelhelfphblcaaRApp
namespace Go.Proofs.Ytdelhelfphblcaa.affineApplyRounds
open Go Go.ChangeShapes Go.WideShapes Go.ChangeAt Go.RowKit Go.Deep
set_option linter.unusedVariables false

theorem app_known : AppIs 2048 0 0 2048 0 0 1 (-1) (pt 1 0) 0 := by
  unfold AppIs
  rw [if_pos (by decide)]
  exact ⟨fun _ _ => ⟨rfl, rfl⟩, fun _ h => absurd (by decide) h, fun h => absurd rfl h⟩

theorem rest (a b c d e f x y : Int) (w : World) :
    Calls Try.prog 7 #[mx a b c d e f, pt x y] w fun r w' => r = .returned (.bool true) ∧ Below w.heap.size w w' := by
  obtain ⟨v0, v1, r, hr⟩ : ∃ v0 v1 r, AppIs a b c d e f x y (pt v0 v1) r := PtIs.mk' ..
  have HR := hid hr
  clear hr
  have HV0 := hid ((Var.new w #[.int .i64 a, .int .i64 b, .int .i64 c, .int .i64 d, .int .i64 e, .int .i64 f] 23 _ rfl).alloc (.cells #[.int .i64 x, .int .i64 y] 25))
  have HW0 := hid (Var.new (w.alloc (.cells #[.int .i64 a, .int .i64 b, .int .i64 c, .int .i64 d, .int .i64 e, .int .i64 f] 23)) #[.int .i64 x, .int .i64 y] 25 (w.heap.size + 1) (by simp))
  have HB0 := hid (below_alloc (below_alloc (Below.refl _ w) (.cells #[.int .i64 a, .int .i64 b, .int .i64 c, .int .i64 d, .int .i64 e, .int .i64 f] 23)) (.cells #[.int .i64 x, .int .i64 y] 25))
  go_enter Try.func7, Try.ntmps7
  go_wp2_with fail
  (with_reducible refine (app_any _ _ _ _ _ _ _ _ _ _ _ _ app_known).mono ?_); rintro x0 w1 ⟨rfl, hb⟩
  have HV01 := hid (HV0.out.next hb)
  have HW01 := hid (HW0.out.next hb)
  have HB1 := hid (below_next HB0.out hb)
  clear hb HV0 HW0 HB0
  obtain ⟨p0, p1, p2, p3, p4, p5, pf⟩ := HV01.out.read6
  obtain ⟨q0, q1, qf⟩ := HW01.out.read2
  have t0 := HV01.out.lt
  have t1 := HW01.out.lt
  go_wp2_with fail
  clear p0 p1 p2 p3 p4 p5 pf q0 q1 qf t0 t1
  (with_reducible refine (app_any _ _ _ _ _ _ _ _ _ _ _ _ HR.out).mono ?_); rintro x0 w2 ⟨rfl, hb⟩
  have HV02 := hid ((HV01.out.alloc _).next hb)
  have HW02 := hid ((HW01.out.alloc _).next hb)
  have HB2 := hid (below_next (below_alloc HB1.out _) hb)
  clear hb HV01 HW01 HB1
  obtain ⟨p0, p1, p2, p3, p4, p5, pf⟩ := HV02.out.read6
  obtain ⟨q0, q1, qf⟩ := HW02.out.read2
  have t0 := HV02.out.lt
  have t1 := HW02.out.lt
  go_wp2_with fail
  clear p0 p1 p2 p3 p4 p5 pf q0 q1 qf t0 t1
  (with_reducible refine (rapp_any _ _ _ _ _ _ _ _ _ _ _ _ HR.out).mono ?_); rintro x0 w3 ⟨rfl, hb⟩
  have HVa := hid ((Var.new w2 #[.int .i64 v0, .int .i64 v1] 25 _ rfl).next hb)
  have HB3 := hid (below_next (below_alloc HB2.out _) hb)
  clear hb HV02 HW02 HB2
  obtain ⟨q0, q1, qf⟩ := HVa.out.read2
  have t0 := HVa.out.lt
  go_wp2_with fail
  clear q0 q1 qf t0
  go_ret
  exact ⟨rfl, by repeat (first | exact HB3.out | apply below_drewN | apply Below.drew | apply below_alloc)⟩

set_option maxRecDepth 100000 in
theorem lifted (os : Os) (started : os.Started) (H : Type) (enc : TypeId × Value → H) :
    ReturnsInHanded {} Try.checked os 7 .any (Rows.affineApplyRoundsSpec.pre6 enc Try.prog Try.f7 Rows.affineApplyRoundsRow.domain false) (Rows.affineApplyRoundsSpec.post enc Try.prog Try.f7 false true false false) := by
  refine returnsInHanded_of_change (C := Try.checked) own started (by kernel_rfl) Try.func7
    (ChangeSpec.witness6 (enc := enc) (C := Try.checked) false ⟨#[], #[.agg #[.int .i64 0, .int .i64 0, .int .i64 0, .int .i64 0, .int .i64 0, .int .i64 0], .agg #[.int .i64 0, .int .i64 0]], []⟩ 8 (by kernel_rfl) (by kernel_rfl) (by kernel_rfl) (by kernel_rfl)) ?_
  intro W base args ds gs before hval0 hW hcnd _
  have hval : ∀ (j : Nat) t v, Try.f7.params[j]? = some t → args[j]? = some v → Value.okWide Try.prog W .any base t v := hval0
  have hW' := hW
  obtain ⟨p, q, hA0, hV, rfl, hfz, hnd⟩ := hW
  have hA : DataW.TrodAll enc Try.prog W 0 (fun _ => true) true Try.f7.params.toList args.toList ds p := hA0
  rw [Try.params7] at hA hval
  obtain ⟨v0, vs0, d0, ds0, p0, q0, hargs, rfl, rfl, h0, r0⟩ := trodAll_cons hA
  obtain ⟨v1, vs1, d1, ds1, p1, q1, rfl, rfl, rfl, h1, r1⟩ := trodAll_cons r0
  obtain ⟨rfl, rfl, rfl⟩ := trodAll_nil r1
  obtain rfl : args = #[v0, v1] := by cases args; simp_all
  obtain ⟨rfl, rfl⟩ := trodVars_none hV
  have k0 := h0
  have lt0 : ∀ x ∈ p0, x.block < W.heap.size := by obtain ⟨m, hm⟩ := k0; exact DataW.trod_lt m _ _ _ hm
  obtain ⟨x0_0, x0_1, x0_2, x0_3, x0_4, x0_5, rfl⟩ := open_mx Try.underlying23 (by kernel_rfl) (by kernel_rfl) (by kernel_rfl) (hval 0 23 v0 rfl rfl) h0
  have k1 := h1
  have lt1 : ∀ x ∈ p1, x.block < W.heap.size := by obtain ⟨m, hm⟩ := k1; exact DataW.trod_lt m _ _ _ hm
  obtain ⟨x1_0, x1_1, rfl⟩ := open_pt Try.underlying25 (by kernel_rfl) (by kernel_rfl) (by kernel_rfl) (hval 1 25 v1 rfl rfl) h1
  clear hA0 hval0
  refine (rest x0_0 x0_1 x0_2 x0_3 x0_4 x0_5 x1_0 x1_1 W).mono fun e W' ⟨he, bel⟩ => ?_
  subst he
  exact ⟨_, rfl, _, _, _, [], _, [], hW', trodAll_mk1 (shut_bool Try.underlying4 _), (trodAll_cons_mk (Below.trod laidOut (by kernel_rfl) (of_decide_eq_true (by kernel_rfl)) k0 bel lt0) (trodAll_cons_mk (Below.trod laidOut (by kernel_rfl) (of_decide_eq_true (by kernel_rfl)) k1 bel lt1) trodAll_mk0)), rfl, bel.frame _, fun h => by cases h⟩

theorem over : Rows.affineApplyRoundsRow.holds Try.pinned (OpenSpec.ofChange Rows.affineApplyRoundsSpec) :=
  OpenClaim.holds_of_wide 7 Try.f7 rfl rfl rfl rfl rfl rfl rfl ⟨rfl, rfl, rfl, rfl, rfl⟩ rfl rfl rfl rfl rfl (by kernel_rfl) Try.func7 (by kernel_rfl)
    (of_decide_eq_true (by kernel_rfl)) (by unfold Func.isWrapper; first | (rw [if_pos (by decide +kernel)]; kernel_rfl) | (rw [if_neg (by decide +kernel)]; exact ⟨rfl, rfl⟩))
    (fun os started H enc _ => lifted os started H enc)

/-- The statement. -/
theorem proved : Rows.AffineApplyRoundsSaid := over
end Go.Proofs.Ytdelhelfphblcaa.affineApplyRounds
