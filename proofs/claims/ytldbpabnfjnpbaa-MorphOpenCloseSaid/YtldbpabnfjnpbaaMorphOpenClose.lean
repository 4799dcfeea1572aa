/- An opened region lies in the region, which lies in the closed one; opening and closing again changes nothing (P150): for every input. -/
import Derived.Test.YtldbpabnfjnpbaaRows
import Derived.WalkKit
import Derived.ProofKit
import Derived.OpenShut
import Derived.ChangeOld
import Derived.Below
import Derived.Test.YtldbpabnfjnpbaaOpen
import Derived.Test.YtldbpabnfjnpbaaMLaw
namespace Go.Proofs.Ytldbpabnfjnpbaa.morphOpenClose
open Go Go.ChangeShapes Go.WideShapes Go.ChangeAt Go.RowKit Go.Deep
set_option linter.unusedVariables false

set_option maxHeartbeats 8000000 in
set_option maxRecDepth 100000 in
theorem rest (A0 : Option Addr) (n0 c0 : Nat) (s0 : List Rn) (x1 : Int) (W : World) (hn0 : n0 = s0.length) (hs0 : Runs W A0 s0) (hm0 : s0.length ≤ maxLen) :
    Calls Try.prog 9 #[.slice A0 n0 c0, .int .i64 x1] W fun e w' => e = .returned (.bool true) ∧ Below W.heap.size W w' := by
  have HNs0 := hid hn0
  have HMs0 := hid (show n0 ≤ maxLen by rw [hn0]; exact hm0)
  have Rs0_0 := hid hs0
  clear hn0 hs0 hm0
  go_enter Try.func9, Try.ntmps9
  go_wp2_with fail
  (with_reducible refine (squares_any _).mono ?_); rintro e w1 ⟨rfl, hb1⟩
  have Rs0_1 := hid (Rs0_0.out.next hb1)
  clear Rs0_0
  have HB1 := hid hb1
  clear hb1
  go_wp2_with fail
  (with_reducible refine (near_any A0 s0 n0 c0 40 _ HNs0.out (by exact HMs0.out) Rs0_1.out (by omega) (by omega)).mono ?_); rintro e w2 ⟨v2, rR, rfl, ho, hb, hc, hl, ps2, hmd, hsq⟩
  clear Rs0_1
  have HQrR : Hid (Sq 40 rR) := hid (near_sq hmd hsq)
  obtain ⟨ArR, crR, hv2, hr⟩ := ho.is
  obtain ⟨lrR, hL⟩ : ∃ l, l = rR.length := ⟨_, rfl⟩
  rw [← hL] at hv2
  have lrRb : lrR ≤ 1000000000 := by omega
  have HLrR := hid hL
  have HCrR := hid hc
  have HB2 := hid (below_next HB1.out hb)
  clear HB1
  have RrR_2 := hid hr
  clear ho hb hc hl hr hL hmd hsq
  subst hv2
  go_wp2_with fail
  (with_reducible refine (cut_val x1 0 6 _ (by omega) (by omega) (by omega)).mono ?_); rintro e w3 ⟨rfl, rfl⟩
  obtain ⟨dd1, dd2⟩ := cutV_in x1 0 6 (by omega)
  generalize cutV x1 0 6 = dd at dd1 dd2 ⊢
  go_wp2_with fail
  (with_reducible refine (opened_any ArR rR lrR crR (dd) _ HLrR.out (by unfold maxLen; omega) RrR_2.out).mono ?_); rintro e w4 ⟨AoR, coR, oR, rfl, hr, hb, h1, -⟩
  have hE : spE rR (dd) = 0 := spE_ok.2 ⟨HCrR.out, by omega, by omega⟩
  rw [hE]
  replace h1 := h1 hE
  clear hE
  obtain ⟨oR_, h0, h1⟩ := h1
  have HPoR := hid h0
  clear h0
  have HOoR := hid h1
  have HCoR := hid h1.v
  obtain ⟨loR, hL⟩ : ∃ l, l = oR.length := ⟨_, rfl⟩
  rw [← hL]
  have loRb : loR ≤ 1000000000 := by rw [hL]; exact chk_len h1.v
  have HLoR := hid hL
  have RrR_4 := hid (RrR_2.out.next hb)
  clear RrR_2
  have HB4 := hid (below_next HB2.out hb)
  clear HB2
  have RoR_4 := hid hr
  clear hr hb h1 hL
  go_wp2_with fail
  (with_reducible refine (closed_any ArR rR lrR crR (dd) _ HLrR.out (by unfold maxLen; omega) RrR_4.out).mono ?_); rintro e w5 ⟨AcR, ccR, cR, rfl, hr, hb, h1, -⟩
  have hE : spE rR (dd) = 0 := spE_ok.2 ⟨HCrR.out, by omega, by omega⟩
  rw [hE]
  replace h1 := h1 hE
  clear hE
  obtain ⟨cR_, h0, h1⟩ := h1
  have HPcR := hid h0
  clear h0
  have HOcR := hid h1
  have HCcR := hid h1.v
  obtain ⟨lcR, hL⟩ : ∃ l, l = cR.length := ⟨_, rfl⟩
  rw [← hL]
  have lcRb : lcR ≤ 1000000000 := by rw [hL]; exact chk_len h1.v
  have HLcR := hid hL
  have RrR_5 := hid (RrR_4.out.next hb)
  clear RrR_4
  have RoR_5 := hid (RoR_4.out.next hb)
  clear RoR_4
  have HB5 := hid (below_next HB4.out hb)
  clear HB4
  have RcR_5 := hid hr
  clear hr hb h1 hL
  go_wp2_with fail
  (with_reducible refine (opened_any AoR oR loR coR (dd) _ HLoR.out (by unfold maxLen; omega) RoR_5.out).mono ?_); rintro e w6 ⟨ApR, cpR, pR, rfl, hr, hb, h1, -⟩
  have hE : spE oR (dd) = 0 := spE_ok.2 ⟨HCoR.out, by omega, by omega⟩
  rw [hE]
  replace h1 := h1 hE
  clear hE
  obtain ⟨pR_, h0, h1⟩ := h1
  have HPpR := hid h0
  clear h0
  have HOpR := hid h1
  have HCpR := hid h1.v
  obtain ⟨lpR, hL⟩ : ∃ l, l = pR.length := ⟨_, rfl⟩
  rw [← hL]
  have lpRb : lpR ≤ 1000000000 := by rw [hL]; exact chk_len h1.v
  have HLpR := hid hL
  have RrR_6 := hid (RrR_5.out.next hb)
  clear RrR_5
  have RoR_6 := hid (RoR_5.out.next hb)
  clear RoR_5
  have RcR_6 := hid (RcR_5.out.next hb)
  clear RcR_5
  have HB6 := hid (below_next HB5.out hb)
  clear HB5
  have RpR_6 := hid hr
  clear hr hb h1 hL
  go_wp2_with fail
  (with_reducible refine (closed_any AcR cR lcR ccR (dd) _ HLcR.out (by unfold maxLen; omega) RcR_6.out).mono ?_); rintro e w7 ⟨AdR, cdR, dR, rfl, hr, hb, h1, -⟩
  have hE : spE cR (dd) = 0 := spE_ok.2 ⟨HCcR.out, by omega, by omega⟩
  rw [hE]
  replace h1 := h1 hE
  clear hE
  obtain ⟨dR_, h0, h1⟩ := h1
  have HPdR := hid h0
  clear h0
  have HOdR := hid h1
  have HCdR := hid h1.v
  obtain ⟨ldR, hL⟩ : ∃ l, l = dR.length := ⟨_, rfl⟩
  rw [← hL]
  have ldRb : ldR ≤ 1000000000 := by rw [hL]; exact chk_len h1.v
  have HLdR := hid hL
  have RrR_7 := hid (RrR_6.out.next hb)
  clear RrR_6
  have RoR_7 := hid (RoR_6.out.next hb)
  clear RoR_6
  have RcR_7 := hid (RcR_6.out.next hb)
  clear RcR_6
  have RpR_7 := hid (RpR_6.out.next hb)
  clear RpR_6
  have HB7 := hid (below_next HB6.out hb)
  clear HB6
  have RdR_7 := hid hr
  clear hr hb h1 hL
  have HS1 : Hid (subB oR rR = true) := hid (subB_true (counit dd1 HPoR.out HOoR.out HQrR.out (by omega)))
  have HS2 : Hid (subB rR cR = true) := hid (subB_true (unit_ HPcR.out HOcR.out HQrR.out (by omega)))
  have HS3 : Hid (oR = pR) := hid (open_twice dd1 HPoR.out HOoR.out HPpR.out HOpR.out HQrR.out (by omega))
  have HS4 : Hid (cR = dR) := hid (close_twice dd1 HPcR.out HOcR.out HPdR.out HOdR.out HQrR.out (by omega))
  go_wp2_with (first
    | (go_at_call_of 35 (Value.slice AoR loR coR); (with_reducible refine (within_any AoR ArR oR rR loR coR lrR crR _ HLoR.out HLrR.out (by unfold maxLen; omega) (by unfold maxLen; omega) RoR_7.out RrR_7.out HCoR.out HCrR.out).mono ?_); rintro e wz0 ⟨rfl, hbz⟩; rw [show subB oR rR = true from HS1.out]; have Rz0cR := hid (RcR_7.out.next hbz); have Rz0dR := hid (RdR_7.out.next hbz); have Rz0oR := hid (RoR_7.out.next hbz); have Rz0pR := hid (RpR_7.out.next hbz); have Rz0rR := hid (RrR_7.out.next hbz); have HBz0 := hid (below_next HB7.out hbz); clear hbz)
    | (go_at_call_of 35 (Value.slice ArR lrR crR); (with_reducible refine (within_any ArR AcR rR cR lrR crR lcR ccR _ HLrR.out HLcR.out (by unfold maxLen; omega) (by unfold maxLen; omega) Rz0rR.out Rz0cR.out HCrR.out HCcR.out).mono ?_); rintro e wz1 ⟨rfl, hbz⟩; rw [show subB rR cR = true from HS2.out]; have Rz1cR := hid (Rz0cR.out.next hbz); have Rz1dR := hid (Rz0dR.out.next hbz); have Rz1oR := hid (Rz0oR.out.next hbz); have Rz1pR := hid (Rz0pR.out.next hbz); have HBz1 := hid (below_next HBz0.out hbz); clear hbz)
    | (go_at_call_of 19 (Value.slice AoR loR coR); (with_reducible refine (equal_any AoR ApR loR coR lpR cpR oR pR _ HLoR.out HLpR.out (by unfold maxLen; omega) (by unfold maxLen; omega) Rz1oR.out Rz1pR.out).mono ?_); rintro e wz2 ⟨rfl, hbz⟩; rw [show decide (oR = pR) = true from decide_eq_true HS3.out]; have Rz2cR := hid (Rz1cR.out.next hbz); have Rz2dR := hid (Rz1dR.out.next hbz); have HBz2 := hid (below_next HBz1.out hbz); clear hbz)
    | (go_at_call_of 19 (Value.slice AcR lcR ccR); (with_reducible refine (equal_any AcR AdR lcR ccR ldR cdR cR dR _ HLcR.out HLdR.out (by unfold maxLen; omega) (by unfold maxLen; omega) Rz2cR.out Rz2dR.out).mono ?_); rintro e wz3 ⟨rfl, hbz⟩; rw [show decide (cR = dR) = true from decide_eq_true HS4.out]; have HBz3 := hid (below_next HBz2.out hbz); clear hbz))
  go_ret
  exact ⟨rfl, HBz3.out⟩

set_option maxRecDepth 100000 in
theorem lifted (os : Os) (started : os.Started) (H : Type) (enc : TypeId × Value → H) :
    ReturnsInHanded {} Try.checked os 9 .any (Rows.morphOpenCloseSpec.pre6 enc Try.prog Try.f9 Rows.morphOpenCloseRow.domain false) (Rows.morphOpenCloseSpec.post enc Try.prog Try.f9 false true false false) := by
  refine returnsInHanded_of_change (C := Try.checked) own started (by kernel_rfl) Try.func9
    (ChangeSpec.witness6 (enc := enc) (C := Try.checked) false ⟨#[], #[.slice none 0 0, .int .i64 0], []⟩ 8 (by kernel_rfl) (by kernel_rfl) (by kernel_rfl) (by kernel_rfl)) ?_
  intro W base args ds gs before hval0 hW hcnd _
  have hval : ∀ (j : Nat) t v, Try.f9.params[j]? = some t → args[j]? = some v → Value.okWide Try.prog W .any base t v := hval0
  have hW' := hW
  obtain ⟨p, q, hA0, hV, rfl, hfz, hnd⟩ := hW
  have hA : DataW.TrodAll enc Try.prog W 0 (fun _ => true) true Try.f9.params.toList args.toList ds p := hA0
  rw [Try.params9] at hA hval
  obtain ⟨v0, vs0, d0, ds0, p0, q0, hargs, rfl, rfl, h0, r0⟩ := trodAll_cons hA
  obtain ⟨v1, vs1, d1, ds1, p1, q1, rfl, rfl, rfl, h1, r1⟩ := trodAll_cons r0
  obtain ⟨rfl, rfl, rfl⟩ := trodAll_nil r1
  obtain rfl : args = #[v0, v1] := by cases args; simp_all
  obtain ⟨rfl, rfl⟩ := trodVars_none hV
  have k0 := h0
  have lt0 : ∀ x ∈ p0, x.block < W.heap.size := by obtain ⟨m, hm⟩ := k0; exact DataW.trod_lt m _ _ _ hm
  obtain ⟨A0, n0, c0, ss0, rfl, hn0, hs0, hm0⟩ := open_runs Try.underlying22 Try.underlying37 (by kernel_rfl) (by kernel_rfl) (by kernel_rfl) (hval 0 22 v0 rfl rfl) h0
  obtain ⟨x1, rfl, rfl, rfl, w1⟩ := open_int Try.underlying3 (hval 1 3 v1 rfl rfl) h1
  clear hA0 hval0
  refine (rest A0 n0 c0 ss0 x1 W hn0 hs0 hm0).mono fun e W' ⟨he, bel⟩ => ?_
  subst he
  exact ⟨_, rfl, _, _, _, [], _, [], hW', trodAll_mk1 (shut_bool Try.underlying4 _), (trodAll_cons_mk (Below.trod laidOut (by kernel_rfl) (of_decide_eq_true (by kernel_rfl)) k0 bel lt0) (trodAll_cons_mk (shut_int Try.underlying3 w1) trodAll_mk0)), rfl, bel.frame _, fun h => by cases h⟩

theorem over : Rows.morphOpenCloseRow.holds Try.pinned (OpenSpec.ofChange Rows.morphOpenCloseSpec) :=
  OpenClaim.holds_of_wide 9 Try.f9 rfl rfl rfl rfl rfl rfl rfl ⟨rfl, rfl, rfl, rfl, rfl⟩ rfl rfl rfl rfl rfl (by kernel_rfl) Try.func9 (by kernel_rfl)
    (of_decide_eq_true (by kernel_rfl)) (by unfold Func.isWrapper; first | (rw [if_pos (by decide +kernel)]; kernel_rfl) | (rw [if_neg (by decide +kernel)]; exact ⟨rfl, rfl⟩))
    (fun os started H enc _ => lifted os started H enc)

/-- The statement. -/
theorem proved : Rows.MorphOpenCloseSaid := over
end Go.Proofs.Ytldbpabnfjnpbaa.morphOpenClose
