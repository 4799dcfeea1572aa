/- The statement AffineThenEntries returns true for every two maps of six ints, and changes no argument; there is no further condition. -/
import Derived.Test.YtdelhelfphblcaaRows
import Derived.WalkKit
import Derived.ProofKit
import Derived.OpenShut
import Derived.ChangeOld
import Derived.Below
import Derived.Test.YtdelhelfphblcaaOpen
import Derived.Test.YtdelhelfphblcaaRThen
import Derived.Test.YtdelhelfphblcaaQuart
namespace Go.Proofs.Ytdelhelfphblcaa.affineThenEntries
open Go Go.ChangeShapes Go.WideShapes Go.ChangeAt Go.RowKit Go.Deep
set_option linter.unusedVariables false

theorem then_known : ThenIs 4096 0 0 4096 12288 0 0 4096 (-4096) 0 0 0 (mx 0 4096 (-4096) 0 0 12288) 0 := by
  unfold ThenIs
  rw [err2_yes (by decide)]
  exact ⟨fun _ _ => ⟨rfl, rfl⟩, fun _ h => absurd (by decide) h, fun h => absurd rfl h⟩

theorem rest (a b c d e f a' b' c' d' e' f' : Int) (w : World) :
    Calls Try.prog 8 #[mx a b c d e f, mx a' b' c' d' e' f'] w fun r w' => r = .returned (.bool true) ∧ Below w.heap.size w w' := by
  obtain ⟨v0, v1, v2, v3, v4, v5, r, hr⟩ : ∃ v0 v1 v2 v3 v4 v5 r, ThenIs a b c d e f a' b' c' d' e' f' (mx v0 v1 v2 v3 v4 v5) r := MapIs.mk' ..
  have HR := hid hr
  clear hr
  have HV0 := hid ((Var.new w #[.int .i64 a, .int .i64 b, .int .i64 c, .int .i64 d, .int .i64 e, .int .i64 f] 23 _ rfl).alloc (.cells #[.int .i64 a', .int .i64 b', .int .i64 c', .int .i64 d', .int .i64 e', .int .i64 f'] 23))
  have HW0 := hid (Var.new (w.alloc (.cells #[.int .i64 a, .int .i64 b, .int .i64 c, .int .i64 d, .int .i64 e, .int .i64 f] 23)) #[.int .i64 a', .int .i64 b', .int .i64 c', .int .i64 d', .int .i64 e', .int .i64 f'] 23 (w.heap.size + 1) (by simp))
  have HB0 := hid (below_alloc (below_alloc (Below.refl _ w) (.cells #[.int .i64 a, .int .i64 b, .int .i64 c, .int .i64 d, .int .i64 e, .int .i64 f] 23)) (.cells #[.int .i64 a', .int .i64 b', .int .i64 c', .int .i64 d', .int .i64 e', .int .i64 f'] 23))
  go_enter Try.func8, Try.ntmps8
  go_wp2_with fail
  (with_reducible refine (quarter_any 1 (mx 0 4096 (-4096) 0 0 0) _ (by omega) (by unfold Turn; exact .inr (.inl ⟨rfl, rfl⟩))).mono ?_); rintro x w9 ⟨rfl, hb⟩
  have HV9 := hid (HV0.out.next hb)
  have HW9 := hid (HW0.out.next hb)
  have HB9 := hid (below_next HB0.out hb)
  clear hb HV0 HW0 HB0
  go_wp2_with fail
  (with_reducible refine (then_any _ _ _ _ _ _ _ _ _ _ _ _ _ _ _ _ _ _ _ _ then_known).mono ?_); rintro x w1 ⟨rfl, hb⟩
  have HV01 := hid (HV9.out.next hb)
  have HW01 := hid (HW9.out.next hb)
  have HB1 := hid (below_next HB9.out hb)
  clear hb HV9 HW9 HB9
  obtain ⟨p0, p1, p2, p3, p4, p5, pf⟩ := HV01.out.read6
  obtain ⟨q0, q1, q2, q3, q4, q5, qf⟩ := HW01.out.read6
  have t0 := HV01.out.lt
  have t1 := HW01.out.lt
  go_wp2_with fail
  clear p0 p1 p2 p3 p4 p5 pf q0 q1 q2 q3 q4 q5 qf t0 t1
  (with_reducible refine (then_any _ _ _ _ _ _ _ _ _ _ _ _ _ _ _ _ _ _ _ _ HR.out).mono ?_); rintro x w2 ⟨rfl, hb⟩
  have HV02 := hid ((HV01.out.alloc _).next hb)
  have HW02 := hid ((HW01.out.alloc _).next hb)
  have HB2 := hid (below_next (below_alloc HB1.out _) hb)
  clear hb HV01 HW01 HB1
  obtain ⟨p0, p1, p2, p3, p4, p5, pf⟩ := HV02.out.read6
  obtain ⟨q0, q1, q2, q3, q4, q5, qf⟩ := HW02.out.read6
  have t0 := HV02.out.lt
  have t1 := HW02.out.lt
  go_wp2_with fail
  clear p0 p1 p2 p3 p4 p5 pf q0 q1 q2 q3 q4 q5 qf t0 t1
  (with_reducible refine (rthen_any _ _ _ _ _ _ _ _ _ _ _ _ _ _ _ _ _ _ _ _ HR.out).mono ?_); rintro x w3 ⟨rfl, hb⟩
  have HVa := hid ((Var.new w2 #[.int .i64 v0, .int .i64 v1, .int .i64 v2, .int .i64 v3, .int .i64 v4, .int .i64 v5] 23 _ rfl).next hb)
  have HB3 := hid (below_next (below_alloc HB2.out _) hb)
  clear hb HV02 HW02 HB2
  obtain ⟨p0, p1, p2, p3, p4, p5, pf⟩ := HVa.out.read6
  have t0 := HVa.out.lt
  go_wp2_with fail
  clear p0 p1 p2 p3 p4 p5 pf t0
  go_ret
  exact ⟨rfl, by repeat (first | exact HB3.out | apply below_drewN | apply Below.drew | apply below_alloc)⟩

set_option maxRecDepth 100000 in
theorem lifted (os : Os) (started : os.Started) (H : Type) (enc : TypeId × Value → H) :
    ReturnsInHanded {} Try.checked os 8 .any (Rows.affineThenEntriesSpec.pre6 enc Try.prog Try.f8 Rows.affineThenEntriesRow.domain false) (Rows.affineThenEntriesSpec.post enc Try.prog Try.f8 false true false false) := by
  refine returnsInHanded_of_change (C := Try.checked) own started (by kernel_rfl) Try.func8
    (ChangeSpec.witness6 (enc := enc) (C := Try.checked) false ⟨#[], #[.agg #[.int .i64 0, .int .i64 0, .int .i64 0, .int .i64 0, .int .i64 0, .int .i64 0], .agg #[.int .i64 0, .int .i64 0, .int .i64 0, .int .i64 0, .int .i64 0, .int .i64 0]], []⟩ 8 (by kernel_rfl) (by kernel_rfl) (by kernel_rfl) (by kernel_rfl)) ?_
  intro W base args ds gs before hval0 hW hcnd _
  have hval : ∀ (j : Nat) t v, Try.f8.params[j]? = some t → args[j]? = some v → Value.okWide Try.prog W .any base t v := hval0
  have hW' := hW
  obtain ⟨p, q, hA0, hV, rfl, hfz, hnd⟩ := hW
  have hA : DataW.TrodAll enc Try.prog W 0 (fun _ => true) true Try.f8.params.toList args.toList ds p := hA0
  rw [Try.params8] at hA hval
  obtain ⟨v0, vs0, d0, ds0, p0, q0, hargs, rfl, rfl, h0, r0⟩ := trodAll_cons hA
  obtain ⟨v1, vs1, d1, ds1, p1, q1, rfl, rfl, rfl, h1, r1⟩ := trodAll_cons r0
  obtain ⟨rfl, rfl, rfl⟩ := trodAll_nil r1
  obtain rfl : args = #[v0, v1] := by cases args; simp_all
  obtain ⟨rfl, rfl⟩ := trodVars_none hV
  have k0 := h0
  have lt0 : ∀ x ∈ p0, x.block < W.heap.size := by obtain ⟨m, hm⟩ := k0; exact DataW.trod_lt m _ _ _ hm
  obtain ⟨x0_0, x0_1, x0_2, x0_3, x0_4, x0_5, rfl⟩ := open_mx Try.underlying23 (by kernel_rfl) (by kernel_rfl) (by kernel_rfl) (hval 0 23 v0 rfl rfl) h0
  have k1 := h1
  have lt1 : ∀ x ∈ p1, x.block < W.heap.size := by obtain ⟨m, hm⟩ := k1; exact DataW.trod_lt m _ _ _ hm
  obtain ⟨x1_0, x1_1, x1_2, x1_3, x1_4, x1_5, rfl⟩ := open_mx Try.underlying23 (by kernel_rfl) (by kernel_rfl) (by kernel_rfl) (hval 1 23 v1 rfl rfl) h1
  clear hA0 hval0
  refine (rest x0_0 x0_1 x0_2 x0_3 x0_4 x0_5 x1_0 x1_1 x1_2 x1_3 x1_4 x1_5 W).mono fun e W' ⟨he, bel⟩ => ?_
  subst he
  exact ⟨_, rfl, _, _, _, [], _, [], hW', trodAll_mk1 (shut_bool Try.underlying4 _), (trodAll_cons_mk (Below.trod laidOut (by kernel_rfl) (of_decide_eq_true (by kernel_rfl)) k0 bel lt0) (trodAll_cons_mk (Below.trod laidOut (by kernel_rfl) (of_decide_eq_true (by kernel_rfl)) k1 bel lt1) trodAll_mk0)), rfl, bel.frame _, fun h => by cases h⟩

theorem over : Rows.affineThenEntriesRow.holds Try.pinned (OpenSpec.ofChange Rows.affineThenEntriesSpec) :=
  OpenClaim.holds_of_wide 8 Try.f8 rfl rfl rfl rfl rfl rfl rfl ⟨rfl, rfl, rfl, rfl, rfl⟩ rfl rfl rfl rfl rfl (by kernel_rfl) Try.func8 (by kernel_rfl)
    (of_decide_eq_true (by kernel_rfl)) (by unfold Func.isWrapper; first | (rw [if_pos (by decide +kernel)]; kernel_rfl) | (rw [if_neg (by decide +kernel)]; exact ⟨rfl, rfl⟩))
    (fun os started H enc _ => lifted os started H enc)

/-- The statement. -/
theorem proved : Rows.AffineThenEntriesSaid := over
end Go.Proofs.Ytdelhelfphblcaa.affineThenEntries
