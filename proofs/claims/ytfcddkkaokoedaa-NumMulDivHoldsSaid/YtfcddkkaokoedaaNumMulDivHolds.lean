/- The statement NumMulDivHolds returns true for all integers a, b and c, and changes no argument; there is no further condition. -/
import Derived.Test.YtfcddkkaokoedaaRows
import Derived.WalkKit
import Derived.ProofKit
import Derived.OpenShut
import Derived.ShutString
import Derived.Test.YtfcddkkaokoedaaCut
import Derived.Test.YtfcddkkaokoedaaMulDiv
namespace Go.Proofs.Ytfcddkkaokoedaa.numMulDivHolds
open Go Go.ChangeShapes Go.WideShapes Go.ChangeAt Go.RowKit
open Go.ChangeMaps (open_string shut_string)
set_option linter.unusedVariables false      -- a walk need not use every 'w<i>' (that an integer argument fits its kind)

theorem own : ownKnob Try.prog.godebug = none := by kernel_rfl

theorem first_is (w : World) : Calls Try.prog 18 #[.int .i64 7, .int .i64 (-3), .int .i64 2] w fun e w' => e = .returned (.tuple #[.int .i64 (-11), .int .i64 0]) ∧ Grown w w' :=
  muldiv_is 7 (-3) 2 (-11) 0 w (.inr (.inr (.inl ⟨ins3.mpr (by omega), by omega, by omega, by omega, rfl⟩)))

theorem prod_small (a b : Int) (a1 : -524288 ≤ a) (a2 : a ≤ 524288) (b1 : -524288 ≤ b) (b2 : b ≤ 524288) : -274877906944 ≤ a * b ∧ a * b ≤ 274877906944 := by
  have h : (a * b).natAbs ≤ 524288 * 524288 := by
    rw [Int.natAbs_mul]
    exact Nat.mul_le_mul (by omega) (by omega)
  omega

theorem quot_small (p c : Int) (p1 : -274877906944 ≤ p) (p2 : p ≤ 274877906944) (c1 : 1 ≤ c) : -274877906944 ≤ p / c ∧ p / c ≤ 274877906944 := by
  have e := Int.mul_ediv_add_emod p c
  constructor
  · rw [Int.le_ediv_iff_mul_le (by omega)]
    omega
  · have : p / c < 274877906945 := by
      rw [Int.ediv_lt_iff_lt_mul (by omega)]
      omega
    omega

theorem walk (a0 : Int) (a1 : Int) (a2 : Int) (w0 : (Lit.int .i64 a0).wf = true) (w1 : (Lit.int .i64 a1).wf = true) (w2 : (Lit.int .i64 a2).wf = true) (w : World) :
    Calls Try.prog 5 #[.int .i64 a0, .int .i64 a1, .int .i64 a2] w fun e w' => e = .returned (.bool true) ∧ Grown w w' := by
  go_enter Try.func5, Try.ntmps5
  go_wp2_with fail
  (with_reducible refine (first_is _).mono ?_); rintro e w1 ⟨rfl, hg1⟩
  go_wp2_with fail
  (with_reducible refine (cut_in _ _ _ _ (by omega) (by omega) (by omega) (by omega)).mono ?_); rintro e w2 ⟨g, g1, g2, rfl, rfl⟩
  go_wp2_with fail
  (with_reducible refine (cut_in _ _ _ _ (by omega) (by omega) (by omega) (by omega)).mono ?_); rintro e w2 ⟨a, p1, p2, rfl, rfl⟩
  go_wp2_with fail
  (with_reducible refine (cut_in _ _ _ _ (by omega) (by omega) (by omega) (by omega)).mono ?_); rintro e w2 ⟨b, q1, q2, rfl, rfl⟩
  go_wp2_with fail
  (with_reducible refine (cut_in _ _ _ _ (by omega) (by omega) (by omega) (by omega)).mono ?_); rintro e w2 ⟨c, c1, c2, rfl, rfl⟩
  obtain ⟨r1, r2⟩ := prod_small a b p1 p2 q1 q2
  obtain ⟨s1, s2⟩ := quot_small (a * b) c r1 r2 c1
  have k1 := fun w => muldiv_is a b c (a * b / c) 0 w (.inr (.inr (.inl ⟨ins3.mpr (by omega), c1, by omega, rfl, rfl⟩)))
  have k2 := fun w => floor_ok (a * b) c w (ins2.mpr (by omega)) c1
  have k3 := fun w => muldiv_is g c c g 0 w (.inr (.inr (.inl ⟨ins3.mpr (by omega), c1, by rw [Int.mul_ediv_cancel _ (by omega)]; omega, by rw [Int.mul_ediv_cancel _ (by omega)], rfl⟩)))
  clear s1 s2
  go_wp2_with (first | (go_at_call 18; (with_reducible refine (k1 _).mono ?_); rintro e w1 ⟨rfl, hg2⟩) | (go_at_call 18; (with_reducible refine (k3 _).mono ?_); rintro e w1 ⟨rfl, hg4⟩) | (go_at_call 14; (with_reducible refine (k2 _).mono ?_); rintro e w1 ⟨rfl, hg3⟩))
  go_ret
  exact ⟨rfl, grown_trans hg1 (grown_trans hg2 (grown_trans hg3 hg4))⟩

set_option maxRecDepth 100000 in
theorem lifted (os : Os) (started : os.Started) (H : Type) (enc : TypeId × Value → H) :
    ReturnsInHanded {} Try.checked os 5 .any (Rows.numMulDivHoldsSpec.pre6 enc Try.prog Try.f5 Rows.numMulDivHoldsRow.domain false) (Rows.numMulDivHoldsSpec.post enc Try.prog Try.f5 false true false false) := by
  refine returnsInHanded_of_change (C := Try.checked) own started (by kernel_rfl) Try.func5
    (ChangeSpec.witness6 (enc := enc) (C := Try.checked) false ⟨#[], #[.int .i64 0, .int .i64 0, .int .i64 0], []⟩ 8 (by kernel_rfl) (by kernel_rfl) (by kernel_rfl) (by kernel_rfl)) ?_
  intro W base args ds gs before hval0 hW hcnd _
  have hval : ∀ (j : Nat) t v, Try.f5.params[j]? = some t → args[j]? = some v → Value.okWide Try.prog W .any base t v := hval0
  have hW' := hW
  obtain ⟨p, q, hA0, hV, rfl, hfz, hnd⟩ := hW
  have hA : DataW.TrodAll enc Try.prog W 0 (fun _ => true) true Try.f5.params.toList args.toList ds p := hA0
  rw [Try.params5] at hA hval
  obtain ⟨v0, vs0, d0, ds0, p0, q0, hargs, rfl, rfl, h0, r0⟩ := trodAll_cons hA
  obtain ⟨v1, vs1, d1, ds1, p1, q1, rfl, rfl, rfl, h1, r1⟩ := trodAll_cons r0
  obtain ⟨v2, vs2, d2, ds2, p2, q2, rfl, rfl, rfl, h2, r2⟩ := trodAll_cons r1
  obtain ⟨rfl, rfl, rfl⟩ := trodAll_nil r2
  obtain rfl : args = #[v0, v1, v2] := by cases args; simp_all
  obtain ⟨rfl, rfl⟩ := trodVars_none hV
  obtain ⟨a0, rfl, rfl, rfl, w0⟩ := open_int Try.underlying3 (hval 0 3 v0 rfl rfl) h0
  obtain ⟨a1, rfl, rfl, rfl, w1⟩ := open_int Try.underlying3 (hval 1 3 v1 rfl rfl) h1
  obtain ⟨a2, rfl, rfl, rfl, w2⟩ := open_int Try.underlying3 (hval 2 3 v2 rfl rfl) h2
  clear hA0 hval0
  simp only [List.append_nil] at hW'
  refine (walk a0 a1 a2 w0 w1 w2 W).mono fun e W' ⟨he, hg⟩ => ?_
  subst he
  exact ⟨_, rfl, post_of_same (pa := []) (pv := []) hW' (fun _ _ _ => (trodAll_cons_mk (shut_bool Try.underlying4 _) trodAll_mk0)) (fun sp _ => (trodAll_cons_mk (shut_int Try.underlying3 w0) (trodAll_cons_mk (shut_int Try.underlying3 w1) (trodAll_cons_mk (shut_int Try.underlying3 w2) trodAll_mk0)))) (fun _ _ => rfl) rfl
    (hg.frame _) hg.2.1 (ok_one (by kernel_rfl) rfl (okWide_bool_mk Try.underlying4 _))⟩

theorem over : Rows.numMulDivHoldsRow.holds Try.pinned (OpenSpec.ofChange Rows.numMulDivHoldsSpec) :=
  OpenClaim.holds_of_wide 5 Try.f5 rfl rfl rfl rfl rfl rfl rfl ⟨rfl, rfl, rfl, rfl, rfl⟩ rfl rfl rfl rfl rfl (by kernel_rfl) Try.func5 (by kernel_rfl)
    (of_decide_eq_true (by kernel_rfl)) (by unfold Func.isWrapper; first | (rw [if_pos (by decide +kernel)]; kernel_rfl) | (rw [if_neg (by decide +kernel)]; exact ⟨rfl, rfl⟩))
    (fun os started H enc _ => lifted os started H enc)

/-- ████ THE STATEMENT ████ -/
theorem proved : Rows.NumMulDivHoldsSaid :=
  over
end Go.Proofs.Ytfcddkkaokoedaa.numMulDivHolds
