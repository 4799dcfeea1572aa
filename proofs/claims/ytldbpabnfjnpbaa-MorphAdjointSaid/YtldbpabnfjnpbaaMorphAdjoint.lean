/- A dilated region lies in another one just if the region lies in the eroded one, and what is dilated and eroded contains the region (P147 to P149): for every input. -/
import Derived.Test.YtldbpabnfjnpbaaRows
import Derived.WalkKit
import Derived.ProofKit
import Derived.OpenShut
import Derived.ChangeOld
import Derived.Below
import Derived.Test.YtldbpabnfjnpbaaOpen
import Derived.Test.YtldbpabnfjnpbaaMLaw
namespace Go.Proofs.Ytldbpabnfjnpbaa.morphAdjoint
open Go Go.ChangeShapes Go.WideShapes Go.ChangeAt Go.RowKit Go.Deep
set_option linter.unusedVariables false

set_option maxHeartbeats 8000000 in
set_option maxRecDepth 100000 in
theorem rest (A0 : Option Addr) (n0 c0 : Nat) (s0 : List Rn) (A1 : Option Addr) (n1 c1 : Nat) (s1 : List Rn) (x2 : Int) (W : World) (hn0 : n0 = s0.length) (hs0 : Runs W A0 s0) (hm0 : s0.length ≤ maxLen) (hn1 : n1 = s1.length) (hs1 : Runs W A1 s1) (hm1 : s1.length ≤ maxLen) :
    Calls Try.prog 7 #[.slice A0 n0 c0, .slice A1 n1 c1, .int .i64 x2] W fun e w' => e = .returned (.bool true) ∧ Below W.heap.size W w' := by
  have HNs0 := hid hn0
  have HMs0 := hid (show n0 ≤ maxLen by rw [hn0]; exact hm0)
  have Rs0_0 := hid hs0
  have HNs1 := hid hn1
  have HMs1 := hid (show n1 ≤ maxLen by rw [hn1]; exact hm1)
  have Rs1_0 := hid hs1
  clear hn0 hs0 hm0 hn1 hs1 hm1
  go_enter Try.func7, Try.ntmps7
  go_wp2_with fail
  (with_reducible refine (squares_any _).mono ?_); rintro e w1 ⟨rfl, hb1⟩
  have Rs0_1 := hid (Rs0_0.out.next hb1)
  clear Rs0_0
  have Rs1_1 := hid (Rs1_0.out.next hb1)
  clear Rs1_0
  have HB1 := hid hb1
  clear hb1
  go_wp2_with fail
  (with_reducible refine (near_any A0 s0 n0 c0 15 _ HNs0.out (by exact HMs0.out) Rs0_1.out (by omega) (by omega)).mono ?_); rintro e w2 ⟨v2, aR, rfl, ho, hb, hc, hl, ps2, hmd, hsq⟩
  clear Rs0_1
  have HQaR : Hid (Sq 15 aR) := hid (near_sq hmd hsq)
  obtain ⟨AaR, caR, hv2, hr⟩ := ho.is
  obtain ⟨laR, hL⟩ : ∃ l, l = aR.length := ⟨_, rfl⟩
  rw [← hL] at hv2
  have laRb : laR ≤ 1000000000 := by omega
  have HLaR := hid hL
  have HCaR := hid hc
  have Rs1_2 := hid (Rs1_1.out.next hb)
  clear Rs1_1
  have HB2 := hid (below_next HB1.out hb)
  clear HB1
  have RaR_2 := hid hr
  clear ho hb hc hl hr hL hmd hsq
  subst hv2
  go_wp2_with fail
  (with_reducible refine (near_any A1 s1 n1 c1 25 _ HNs1.out (by exact HMs1.out) Rs1_2.out (by omega) (by omega)).mono ?_); rintro e w3 ⟨v3, bR, rfl, ho, hb, hc, hl, ps3, hmd, hsq⟩
  clear Rs1_2
  have HQbR : Hid (Sq 25 bR) := hid (near_sq hmd hsq)
  obtain ⟨AbR, cbR, hv3, hr⟩ := ho.is
  obtain ⟨lbR, hL⟩ : ∃ l, l = bR.length := ⟨_, rfl⟩
  rw [← hL] at hv3
  have lbRb : lbR ≤ 1000000000 := by omega
  have HLbR := hid hL
  have HCbR := hid hc
  have RaR_3 := hid (RaR_2.out.next hb)
  clear RaR_2
  have HB3 := hid (below_next HB2.out hb)
  clear HB2
  have RbR_3 := hid hr
  clear ho hb hc hl hr hL hmd hsq
  subst hv3
  go_wp2_with fail
  (with_reducible refine (cut_val x2 0 4 _ (by omega) (by omega) (by omega)).mono ?_); rintro e w4 ⟨rfl, rfl⟩
  obtain ⟨dd1, dd2⟩ := cutV_in x2 0 4 (by omega)
  generalize cutV x2 0 4 = dd at dd1 dd2 ⊢
  go_wp2_with fail
  (with_reducible refine (dilate_any AbR bR lbR cbR (dd) _ HLbR.out (by unfold maxLen; omega) RbR_3.out).mono ?_); rintro e w5 ⟨AwR, cwR, wR, rfl, hr, hb, h1, -⟩
  have hE : spE bR (dd) = 0 := spE_ok.2 ⟨HCbR.out, by omega, by omega⟩
  rw [hE]
  replace h1 := h1 hE
  clear hE
  have HOwR := hid h1
  have HCwR := hid h1.v
  obtain ⟨lwR, hL⟩ : ∃ l, l = wR.length := ⟨_, rfl⟩
  rw [← hL]
  have lwRb : lwR ≤ 1000000000 := by rw [hL]; exact chk_len h1.v
  have HLwR := hid hL
  have RaR_5 := hid (RaR_3.out.next hb)
  clear RaR_3
  have RbR_5 := hid (RbR_3.out.next hb)
  clear RbR_3
  have HB5 := hid (below_next HB3.out hb)
  clear HB3
  have RwR_5 := hid hr
  clear hr hb h1 hL
  go_wp2_with fail
  (with_reducible refine (dilate_any AaR aR laR caR (dd) _ HLaR.out (by unfold maxLen; omega) RaR_5.out).mono ?_); rintro e w6 ⟨AdR, cdR, dR, rfl, hr, hb, h1, -⟩
  have hE : spE aR (dd) = 0 := spE_ok.2 ⟨HCaR.out, by omega, by omega⟩
  rw [hE]
  replace h1 := h1 hE
  clear hE
  have HOdR := hid h1
  have HCdR := hid h1.v
  obtain ⟨ldR, hL⟩ : ∃ l, l = dR.length := ⟨_, rfl⟩
  rw [← hL]
  have ldRb : ldR ≤ 1000000000 := by rw [hL]; exact chk_len h1.v
  have HLdR := hid hL
  have RaR_6 := hid (RaR_5.out.next hb)
  clear RaR_5
  have RbR_6 := hid (RbR_5.out.next hb)
  clear RbR_5
  have RwR_6 := hid (RwR_5.out.next hb)
  clear RwR_5
  have HB6 := hid (below_next HB5.out hb)
  clear HB5
  have RdR_6 := hid hr
  clear hr hb h1 hL
  go_wp2_with fail
  (with_reducible refine (erode_any AbR bR lbR cbR (dd) _ HLbR.out (by unfold maxLen; omega) RbR_6.out).mono ?_); rintro e w7 ⟨AeR, ceR, eR, rfl, hr, hb, h1, -⟩
  have hE : spE bR (dd) = 0 := spE_ok.2 ⟨HCbR.out, by omega, by omega⟩
  rw [hE]
  replace h1 := h1 hE
  clear hE
  have HOeR := hid h1
  have HCeR := hid h1.v
  obtain ⟨leR, hL⟩ : ∃ l, l = eR.length := ⟨_, rfl⟩
  rw [← hL]
  have leRb : leR ≤ 1000000000 := by rw [hL]; exact chk_len h1.v
  have HLeR := hid hL
  have RaR_7 := hid (RaR_6.out.next hb)
  clear RaR_6
  have RbR_7 := hid (RbR_6.out.next hb)
  clear RbR_6
  have RwR_7 := hid (RwR_6.out.next hb)
  clear RwR_6
  have RdR_7 := hid (RdR_6.out.next hb)
  clear RdR_6
  have HB7 := hid (below_next HB6.out hb)
  clear HB6
  have ReR_7 := hid hr
  clear hr hb h1 hL
  go_wp2_with fail
  (with_reducible refine (erode_any AwR wR lwR cwR (dd) _ HLwR.out (by unfold maxLen; omega) RwR_7.out).mono ?_); rintro e w8 ⟨AtR, ctR, tR, rfl, hr, hb, h1, -⟩
  have hE : spE wR (dd) = 0 := spE_ok.2 ⟨HCwR.out, by omega, by omega⟩
  rw [hE]
  replace h1 := h1 hE
  clear hE
  have HOtR := hid h1
  have HCtR := hid h1.v
  obtain ⟨ltR, hL⟩ : ∃ l, l = tR.length := ⟨_, rfl⟩
  rw [← hL]
  have ltRb : ltR ≤ 1000000000 := by rw [hL]; exact chk_len h1.v
  have HLtR := hid hL
  have RaR_8 := hid (RaR_7.out.next hb)
  clear RaR_7
  have RbR_8 := hid (RbR_7.out.next hb)
  clear RbR_7
  have RwR_8 := hid (RwR_7.out.next hb)
  clear RwR_7
  have RdR_8 := hid (RdR_7.out.next hb)
  clear RdR_7
  have ReR_8 := hid (ReR_7.out.next hb)
  clear ReR_7
  have HB8 := hid (below_next HB7.out hb)
  clear HB7
  have RtR_8 := hid hr
  clear hr hb h1 hL
  have HS1 : Hid (subB aR eR = subB dR bR) := hid (subB_eq (adj HOdR.out HOeR.out HQaR.out (by omega)).symm)
  have HS2 : Hid (subB bR tR = true) := hid (subB_true (unit_ HOwR.out HOtR.out HQbR.out (by omega)))
  go_wp2_with (first
    | (go_at_call_of 35 (Value.slice AdR ldR cdR); (with_reducible refine (within_any AdR AbR dR bR ldR cdR lbR cbR _ HLdR.out HLbR.out (by unfold maxLen; omega) (by unfold maxLen; omega) RdR_8.out RbR_8.out HCdR.out HCbR.out).mono ?_); rintro e wz0 ⟨rfl, hbz⟩; have Rz0aR := hid (RaR_8.out.next hbz); have Rz0bR := hid (RbR_8.out.next hbz); have Rz0eR := hid (ReR_8.out.next hbz); have Rz0tR := hid (RtR_8.out.next hbz); have HBz0 := hid (below_next HB8.out hbz); clear hbz)
    | (go_at_call_of 35 (Value.slice AaR laR caR); (with_reducible refine (within_any AaR AeR aR eR laR caR leR ceR _ HLaR.out HLeR.out (by unfold maxLen; omega) (by unfold maxLen; omega) Rz0aR.out Rz0eR.out HCaR.out HCeR.out).mono ?_); rintro e wz1 ⟨rfl, hbz⟩; rw [show subB aR eR = subB dR bR from HS1.out]; have Rz1bR := hid (Rz0bR.out.next hbz); have Rz1tR := hid (Rz0tR.out.next hbz); have HBz1 := hid (below_next HBz0.out hbz); clear hbz)
    | (go_at_call_of 35 (Value.slice AbR lbR cbR); (with_reducible refine (within_any AbR AtR bR tR lbR cbR ltR ctR _ HLbR.out HLtR.out (by unfold maxLen; omega) (by unfold maxLen; omega) Rz1bR.out Rz1tR.out HCbR.out HCtR.out).mono ?_); rintro e wz2 ⟨rfl, hbz⟩; rw [show subB bR tR = true from HS2.out]; have HBz2 := hid (below_next HBz1.out hbz); clear hbz))
  go_ret
  exact ⟨rfl, HBz2.out⟩

set_option maxRecDepth 100000 in
theorem lifted (os : Os) (started : os.Started) (H : Type) (enc : TypeId × Value → H) :
    ReturnsInHanded {} Try.checked os 7 .any (Rows.morphAdjointSpec.pre6 enc Try.prog Try.f7 Rows.morphAdjointRow.domain false) (Rows.morphAdjointSpec.post enc Try.prog Try.f7 false true false false) := by
  refine returnsInHanded_of_change (C := Try.checked) own started (by kernel_rfl) Try.func7
    (ChangeSpec.witness6 (enc := enc) (C := Try.checked) false ⟨#[], #[.slice none 0 0, .slice none 0 0, .int .i64 0], []⟩ 8 (by kernel_rfl) (by kernel_rfl) (by kernel_rfl) (by kernel_rfl)) ?_
  intro W base args ds gs before hval0 hW hcnd _
  have hval : ∀ (j : Nat) t v, Try.f7.params[j]? = some t → args[j]? = some v → Value.okWide Try.prog W .any base t v := hval0
  have hW' := hW
  obtain ⟨p, q, hA0, hV, rfl, hfz, hnd⟩ := hW
  have hA : DataW.TrodAll enc Try.prog W 0 (fun _ => true) true Try.f7.params.toList args.toList ds p := hA0
  rw [Try.params7] at hA hval
  obtain ⟨v0, vs0, d0, ds0, p0, q0, hargs, rfl, rfl, h0, r0⟩ := trodAll_cons hA
  obtain ⟨v1, vs1, d1, ds1, p1, q1, rfl, rfl, rfl, h1, r1⟩ := trodAll_cons r0
  obtain ⟨v2, vs2, d2, ds2, p2, q2, rfl, rfl, rfl, h2, r2⟩ := trodAll_cons r1
  obtain ⟨rfl, rfl, rfl⟩ := trodAll_nil r2
  obtain rfl : args = #[v0, v1, v2] := by cases args; simp_all
  obtain ⟨rfl, rfl⟩ := trodVars_none hV
  have k0 := h0
  have lt0 : ∀ x ∈ p0, x.block < W.heap.size := by obtain ⟨m, hm⟩ := k0; exact DataW.trod_lt m _ _ _ hm
  obtain ⟨A0, n0, c0, ss0, rfl, hn0, hs0, hm0⟩ := open_runs Try.underlying22 Try.underlying37 (by kernel_rfl) (by kernel_rfl) (by kernel_rfl) (hval 0 22 v0 rfl rfl) h0
  have k1 := h1
  have lt1 : ∀ x ∈ p1, x.block < W.heap.size := by obtain ⟨m, hm⟩ := k1; exact DataW.trod_lt m _ _ _ hm
  obtain ⟨A1, n1, c1, ss1, rfl, hn1, hs1, hm1⟩ := open_runs Try.underlying22 Try.underlying37 (by kernel_rfl) (by kernel_rfl) (by kernel_rfl) (hval 1 22 v1 rfl rfl) h1
  obtain ⟨x2, rfl, rfl, rfl, w2⟩ := open_int Try.underlying3 (hval 2 3 v2 rfl rfl) h2
  clear hA0 hval0
  refine (rest A0 n0 c0 ss0 A1 n1 c1 ss1 x2 W hn0 hs0 hm0 hn1 hs1 hm1).mono fun e W' ⟨he, bel⟩ => ?_
  subst he
  exact ⟨_, rfl, _, _, _, [], _, [], hW', trodAll_mk1 (shut_bool Try.underlying4 _), (trodAll_cons_mk (Below.trod laidOut (by kernel_rfl) (of_decide_eq_true (by kernel_rfl)) k0 bel lt0) (trodAll_cons_mk (Below.trod laidOut (by kernel_rfl) (of_decide_eq_true (by kernel_rfl)) k1 bel lt1) (trodAll_cons_mk (shut_int Try.underlying3 w2) trodAll_mk0))), rfl, bel.frame _, fun h => by cases h⟩

theorem over : Rows.morphAdjointRow.holds Try.pinned (OpenSpec.ofChange Rows.morphAdjointSpec) :=
  OpenClaim.holds_of_wide 7 Try.f7 rfl rfl rfl rfl rfl rfl rfl ⟨rfl, rfl, rfl, rfl, rfl⟩ rfl rfl rfl rfl rfl (by kernel_rfl) Try.func7 (by kernel_rfl)
    (of_decide_eq_true (by kernel_rfl)) (by unfold Func.isWrapper; first | (rw [if_pos (by decide +kernel)]; kernel_rfl) | (rw [if_neg (by decide +kernel)]; exact ⟨rfl, rfl⟩))
    (fun os started H enc _ => lifted os started H enc)

/-- The statement. -/
theorem proved : Rows.MorphAdjointSaid := over
end Go.Proofs.Ytldbpabnfjnpbaa.morphAdjoint
