/- The statement NumMixBetween returns true for all amounts a, b and t, and changes no argument; there is no further condition. -/
import Derived.Test.YtfcddkkaokoedaaRows
import Derived.WalkKit
import Derived.ProofKit
import Derived.OpenShut
import Derived.ShutString
import Derived.Test.YtfcddkkaokoedaaAmounts
namespace Go.Proofs.Ytfcddkkaokoedaa.numMixBetween
open Go Go.ChangeShapes Go.WideShapes Go.ChangeAt Go.RowKit
open Go.ChangeMaps (open_string shut_string)
set_option linter.unusedVariables false      -- a walk need not use every 'w<i>' (that an integer argument fits its kind)

theorem own : ownKnob Try.prog.godebug = none := by kernel_rfl

theorem mix_lo {a b t : Int} (ht : 0 ≤ t) (ht2 : t ≤ 255) (m : Int) (ha : m ≤ a) (hb : m ≤ b) : 255 * m ≤ (255 - t) * a + t * b := by
  have h1 := Int.mul_le_mul_of_nonneg_left ha (show 0 ≤ 255 - t by omega)
  have h2 := Int.mul_le_mul_of_nonneg_left hb ht
  have h3 : (255 - t) * m = 255 * m - t * m := Int.sub_mul _ _ _
  omega

theorem mix_hi {a b t : Int} (ht : 0 ≤ t) (ht2 : t ≤ 255) (m : Int) (ha : a ≤ m) (hb : b ≤ m) : (255 - t) * a + t * b ≤ 255 * m := by
  have h1 := Int.mul_le_mul_of_nonneg_left ha (show 0 ≤ 255 - t by omega)
  have h2 := Int.mul_le_mul_of_nonneg_left hb ht
  have h3 : (255 - t) * m = 255 * m - t * m := Int.sub_mul _ _ _
  omega

theorem mul_turned (a b : Int) (w : World) (ha : 0 ≤ a) (ha2 : a ≤ 255) (hb : 0 ≤ b) (hb2 : b ≤ 255) :
    Calls Try.prog 21 #[.int .u8 a, .int .u8 b] w fun e w' => e = .returned (.int .u8 ((2 * (b * a) + 255) / 510)) ∧ w = w' := by
  rw [Int.mul_comm b a]
  exact mul_any a b w ha ha2 hb hb2

theorem walk (a0 : Int) (a1 : Int) (a2 : Int) (w0 : (Lit.int .u8 a0).wf = true) (w1 : (Lit.int .u8 a1).wf = true) (w2 : (Lit.int .u8 a2).wf = true) (w : World) :
    Calls Try.prog 7 #[.int .u8 a0, .int .u8 a1, .int .u8 a2] w fun e w' => e = .returned (.bool true) ∧ Grown w w' := by
  obtain ⟨ha1, ha2⟩ := bounds_u8 w0
  obtain ⟨hb1, hb2⟩ := bounds_u8 w1
  obtain ⟨ht1, ht2⟩ := bounds_u8 w2
  obtain ⟨k1, k2, k3, k4, k5⟩ := mix_sum ha1 ha2 hb1 hb2 ht1 ht2
  have k8 := prod_le ht1 ha1 ha2
  obtain ⟨k8, k9⟩ := k8
  have k9 : a2 * a0 ≤ 65025 := by omega
  clear w0 w1 w2
  by_cases hab : a0 ≤ a1
  · have k6 := mix_lo (a := a0) (b := a1) ht1 ht2 a0 (by omega) hab
    have k7 := mix_hi (a := a0) (b := a1) ht1 ht2 a1 hab (by omega)
    go_enter Try.func7, Try.ntmps7
    go_wp2_with (first
      | (go_at_call 20; (with_reducible refine (mix_any _ _ _ _ (by omega) (by omega) (by omega) (by omega) (by omega) (by omega)).mono ?_); rintro e w1 ⟨rfl, rfl⟩)
      | (go_at_call 21; (with_reducible refine (mul_turned _ _ _ (by omega) (by omega) (by omega) (by omega)).mono ?_); rintro e w1 ⟨rfl, rfl⟩))
    all_goals go_ret
    all_goals exact ⟨rfl, Grown.refl _⟩
  · have k6 := mix_lo (a := a0) (b := a1) ht1 ht2 a1 (by omega) (by omega)
    have k7 := mix_hi (a := a0) (b := a1) ht1 ht2 a0 (by omega) (by omega)
    go_enter Try.func7, Try.ntmps7
    go_wp2_with (first
      | (go_at_call 20; (with_reducible refine (mix_any _ _ _ _ (by omega) (by omega) (by omega) (by omega) (by omega) (by omega)).mono ?_); rintro e w1 ⟨rfl, rfl⟩)
      | (go_at_call 21; (with_reducible refine (mul_turned _ _ _ (by omega) (by omega) (by omega) (by omega)).mono ?_); rintro e w1 ⟨rfl, rfl⟩))
    all_goals go_ret
    all_goals exact ⟨rfl, Grown.refl _⟩

set_option maxRecDepth 100000 in
theorem lifted (os : Os) (started : os.Started) (H : Type) (enc : TypeId × Value → H) :
    ReturnsInHanded {} Try.checked os 7 .any (Rows.numMixBetweenSpec.pre6 enc Try.prog Try.f7 Rows.numMixBetweenRow.domain false) (Rows.numMixBetweenSpec.post enc Try.prog Try.f7 false true false false) := by
  refine returnsInHanded_of_change (C := Try.checked) own started (by kernel_rfl) Try.func7
    (ChangeSpec.witness6 (enc := enc) (C := Try.checked) false ⟨#[], #[.int .u8 0, .int .u8 0, .int .u8 0], []⟩ 8 (by kernel_rfl) (by kernel_rfl) (by kernel_rfl) (by kernel_rfl)) ?_
  intro W base args ds gs before hval0 hW hcnd _
  have hval : ∀ (j : Nat) t v, Try.f7.params[j]? = some t → args[j]? = some v → Value.okWide Try.prog W .any base t v := hval0
  have hW' := hW
  obtain ⟨p, q, hA0, hV, rfl, hfz, hnd⟩ := hW
  have hA : DataW.TrodAll enc Try.prog W 0 (fun _ => true) true Try.f7.params.toList args.toList ds p := hA0
  rw [Try.params7] at hA hval
  obtain ⟨v0, vs0, d0, ds0, p0, q0, hargs, rfl, rfl, h0, r0⟩ := trodAll_cons hA
  obtain ⟨v1, vs1, d1, ds1, p1, q1, rfl, rfl, rfl, h1, r1⟩ := trodAll_cons r0
  obtain ⟨v2, vs2, d2, ds2, p2, q2, rfl, rfl, rfl, h2, r2⟩ := trodAll_cons r1
  obtain ⟨rfl, rfl, rfl⟩ := trodAll_nil r2
  obtain rfl : args = #[v0, v1, v2] := by cases args; simp_all
  obtain ⟨rfl, rfl⟩ := trodVars_none hV
  obtain ⟨a0, rfl, rfl, rfl, w0⟩ := open_int Try.underlying5 (hval 0 5 v0 rfl rfl) h0
  obtain ⟨a1, rfl, rfl, rfl, w1⟩ := open_int Try.underlying5 (hval 1 5 v1 rfl rfl) h1
  obtain ⟨a2, rfl, rfl, rfl, w2⟩ := open_int Try.underlying5 (hval 2 5 v2 rfl rfl) h2
  clear hA0 hval0
  simp only [List.append_nil] at hW'
  refine (walk a0 a1 a2 w0 w1 w2 W).mono fun e W' ⟨he, hg⟩ => ?_
  subst he
  exact ⟨_, rfl, post_of_same (pa := []) (pv := []) hW' (fun _ _ _ => (trodAll_cons_mk (shut_bool Try.underlying4 _) trodAll_mk0)) (fun sp _ => (trodAll_cons_mk (shut_int Try.underlying5 w0) (trodAll_cons_mk (shut_int Try.underlying5 w1) (trodAll_cons_mk (shut_int Try.underlying5 w2) trodAll_mk0)))) (fun _ _ => rfl) rfl
    (hg.frame _) hg.2.1 (ok_one (by kernel_rfl) rfl (okWide_bool_mk Try.underlying4 _))⟩

theorem over : Rows.numMixBetweenRow.holds Try.pinned (OpenSpec.ofChange Rows.numMixBetweenSpec) :=
  OpenClaim.holds_of_wide 7 Try.f7 rfl rfl rfl rfl rfl rfl rfl ⟨rfl, rfl, rfl, rfl, rfl⟩ rfl rfl rfl rfl rfl (by kernel_rfl) Try.func7 (by kernel_rfl)
    (of_decide_eq_true (by kernel_rfl)) (by unfold Func.isWrapper; first | (rw [if_pos (by decide +kernel)]; kernel_rfl) | (rw [if_neg (by decide +kernel)]; exact ⟨rfl, rfl⟩))
    (fun os started H enc _ => lifted os started H enc)

theorem proved : Rows.NumMixBetweenSaid :=
  over
end Go.Proofs.Ytfcddkkaokoedaa.numMixBetween
