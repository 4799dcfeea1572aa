/- Dilating twice is dilating by the sum, and so with erosion (P148, P149): for every input. -/
import Derived.Test.YtldbpabnfjnpbaaRows
import Derived.WalkKit
import Derived.ProofKit
import Derived.OpenShut
import Derived.ChangeOld
import Derived.Below
import Derived.Test.YtldbpabnfjnpbaaOpen
import Derived.Test.YtldbpabnfjnpbaaMLaw
namespace Go.Proofs.Ytldbpabnfjnpbaa.morphAdds
open Go Go.ChangeShapes Go.WideShapes Go.ChangeAt Go.RowKit Go.Deep
set_option linter.unusedVariables false

set_option maxHeartbeats 8000000 in
set_option maxRecDepth 100000 in
theorem rest (A0 : Option Addr) (n0 c0 : Nat) (s0 : List Rn) (x1 : Int) (x2 : Int) (W : World) (hn0 : n0 = s0.length) (hs0 : Runs W A0 s0) (hm0 : s0.length ≤ maxLen) :
    Calls Try.prog 8 #[.slice A0 n0 c0, .int .i64 x1, .int .i64 x2] W fun e w' => e = .returned (.bool true) ∧ Below W.heap.size W w' := by
  have HNs0 := hid hn0
  have HMs0 := hid (show n0 ≤ maxLen by rw [hn0]; exact hm0)
  have Rs0_0 := hid hs0
  clear hn0 hs0 hm0
  go_enter Try.func8, Try.ntmps8
  go_wp2_with fail
  (with_reducible refine (squares_any _).mono ?_); rintro e w1 ⟨rfl, hb1⟩
  have Rs0_1 := hid (Rs0_0.out.next hb1)
  clear Rs0_0
  have HB1 := hid hb1
  clear hb1
  go_wp2_with fail
  (with_reducible refine (near_any A0 s0 n0 c0 30 _ HNs0.out (by exact HMs0.out) Rs0_1.out (by omega) (by omega)).mono ?_); rintro e w2 ⟨v2, rR, rfl, ho, hb, hc, hl, ps2, hmd, hsq⟩
  clear Rs0_1
  have HQrR : Hid (Sq 30 rR) := hid (near_sq hmd hsq)
  obtain ⟨ArR, crR, hv2, hr⟩ := ho.is
  obtain ⟨lrR, hL⟩ : ∃ l, l = rR.length := ⟨_, rfl⟩
  rw [← hL] at hv2
  have lrRb : lrR ≤ 1000000000 := by omega
  have HLrR := hid hL
  have HCrR := hid hc
  have HB2 := hid (below_next HB1.out hb)
  clear HB1
  have RrR_2 := hid hr
  clear ho hb hc hl hr hL hmd hsq
  subst hv2
  go_wp2_with fail
  (with_reducible refine (cut_val x1 0 20 _ (by omega) (by omega) (by omega)).mono ?_); rintro e w3 ⟨rfl, rfl⟩
  obtain ⟨vv1, vv2⟩ := cutV_in x1 0 20 (by omega)
  generalize cutV x1 0 20 = vv at vv1 vv2 ⊢
  go_wp2_with fail
  (with_reducible refine (cut_val x2 0 20 _ (by omega) (by omega) (by omega)).mono ?_); rintro e w4 ⟨rfl, rfl⟩
  obtain ⟨ww1, ww2⟩ := cutV_in x2 0 20 (by omega)
  generalize cutV x2 0 20 = ww at ww1 ww2 ⊢
  go_wp2_with fail
  (with_reducible refine (dilate_any ArR rR lrR crR (vv) _ HLrR.out (by unfold maxLen; omega) RrR_2.out).mono ?_); rintro e w5 ⟨AaR, caR, aR, rfl, hr, hb, h1, -⟩
  have hE : spE rR (vv) = 0 := spE_ok.2 ⟨HCrR.out, by omega, by omega⟩
  rw [hE]
  replace h1 := h1 hE
  clear hE
  have HOaR := hid h1
  have HCaR := hid h1.v
  obtain ⟨laR, hL⟩ : ∃ l, l = aR.length := ⟨_, rfl⟩
  rw [← hL]
  have laRb : laR ≤ 1000000000 := by rw [hL]; exact chk_len h1.v
  have HLaR := hid hL
  have RrR_5 := hid (RrR_2.out.next hb)
  clear RrR_2
  have HB5 := hid (below_next HB2.out hb)
  clear HB2
  have RaR_5 := hid hr
  clear hr hb h1 hL
  go_wp2_with fail
  (with_reducible refine (dilate_any AaR aR laR caR (ww) _ HLaR.out (by unfold maxLen; omega) RaR_5.out).mono ?_); rintro e w6 ⟨AbR, cbR, bR, rfl, hr, hb, h1, -⟩
  have hE : spE aR (ww) = 0 := spE_ok.2 ⟨HCaR.out, by omega, by omega⟩
  rw [hE]
  replace h1 := h1 hE
  clear hE
  have HObR := hid h1
  have HCbR := hid h1.v
  obtain ⟨lbR, hL⟩ : ∃ l, l = bR.length := ⟨_, rfl⟩
  rw [← hL]
  have lbRb : lbR ≤ 1000000000 := by rw [hL]; exact chk_len h1.v
  have HLbR := hid hL
  have RrR_6 := hid (RrR_5.out.next hb)
  clear RrR_5
  have RaR_6 := hid (RaR_5.out.next hb)
  clear RaR_5
  have HB6 := hid (below_next HB5.out hb)
  clear HB5
  have RbR_6 := hid hr
  clear hr hb h1 hL
  go_wp2_with fail
  (with_reducible refine (dilate_any ArR rR lrR crR (vv + ww) _ HLrR.out (by unfold maxLen; omega) RrR_6.out).mono ?_); rintro e w7 ⟨AcR, ccR, cR, rfl, hr, hb, h1, -⟩
  have hE : spE rR (vv + ww) = 0 := spE_ok.2 ⟨HCrR.out, by omega, by omega⟩
  rw [hE]
  replace h1 := h1 hE
  clear hE
  have HOcR := hid h1
  have HCcR := hid h1.v
  obtain ⟨lcR, hL⟩ : ∃ l, l = cR.length := ⟨_, rfl⟩
  rw [← hL]
  have lcRb : lcR ≤ 1000000000 := by rw [hL]; exact chk_len h1.v
  have HLcR := hid hL
  have RrR_7 := hid (RrR_6.out.next hb)
  clear RrR_6
  have RaR_7 := hid (RaR_6.out.next hb)
  clear RaR_6
  have RbR_7 := hid (RbR_6.out.next hb)
  clear RbR_6
  have HB7 := hid (below_next HB6.out hb)
  clear HB6
  have RcR_7 := hid hr
  clear hr hb h1 hL
  go_wp2_with fail
  (with_reducible refine (erode_any AcR cR lcR ccR (vv) _ HLcR.out (by unfold maxLen; omega) RcR_7.out).mono ?_); rintro e w8 ⟨AxR, cxR, xR, rfl, hr, hb, h1, -⟩
  have hE : spE cR (vv) = 0 := spE_ok.2 ⟨HCcR.out, by omega, by omega⟩
  rw [hE]
  replace h1 := h1 hE
  clear hE
  have HOxR := hid h1
  have HCxR := hid h1.v
  obtain ⟨lxR, hL⟩ : ∃ l, l = xR.length := ⟨_, rfl⟩
  rw [← hL]
  have lxRb : lxR ≤ 1000000000 := by rw [hL]; exact chk_len h1.v
  have HLxR := hid hL
  have RrR_8 := hid (RrR_7.out.next hb)
  clear RrR_7
  have RaR_8 := hid (RaR_7.out.next hb)
  clear RaR_7
  have RbR_8 := hid (RbR_7.out.next hb)
  clear RbR_7
  have RcR_8 := hid (RcR_7.out.next hb)
  clear RcR_7
  have HB8 := hid (below_next HB7.out hb)
  clear HB7
  have RxR_8 := hid hr
  clear hr hb h1 hL
  go_wp2_with fail
  (with_reducible refine (erode_any AxR xR lxR cxR (ww) _ HLxR.out (by unfold maxLen; omega) RxR_8.out).mono ?_); rintro e w9 ⟨AyR, cyR, yR, rfl, hr, hb, h1, -⟩
  have hE : spE xR (ww) = 0 := spE_ok.2 ⟨HCxR.out, by omega, by omega⟩
  rw [hE]
  replace h1 := h1 hE
  clear hE
  have HOyR := hid h1
  have HCyR := hid h1.v
  obtain ⟨lyR, hL⟩ : ∃ l, l = yR.length := ⟨_, rfl⟩
  rw [← hL]
  have lyRb : lyR ≤ 1000000000 := by rw [hL]; exact chk_len h1.v
  have HLyR := hid hL
  have RrR_9 := hid (RrR_8.out.next hb)
  clear RrR_8
  have RaR_9 := hid (RaR_8.out.next hb)
  clear RaR_8
  have RbR_9 := hid (RbR_8.out.next hb)
  clear RbR_8
  have RcR_9 := hid (RcR_8.out.next hb)
  clear RcR_8
  have RxR_9 := hid (RxR_8.out.next hb)
  clear RxR_8
  have HB9 := hid (below_next HB8.out hb)
  clear HB8
  have RyR_9 := hid hr
  clear hr hb h1 hL
  go_wp2_with fail
  (with_reducible refine (erode_any AcR cR lcR ccR (vv + ww) _ HLcR.out (by unfold maxLen; omega) RcR_9.out).mono ?_); rintro e w10 ⟨AzR, czR, zR, rfl, hr, hb, h1, -⟩
  have hE : spE cR (vv + ww) = 0 := spE_ok.2 ⟨HCcR.out, by omega, by omega⟩
  rw [hE]
  replace h1 := h1 hE
  clear hE
  have HOzR := hid h1
  have HCzR := hid h1.v
  obtain ⟨lzR, hL⟩ : ∃ l, l = zR.length := ⟨_, rfl⟩
  rw [← hL]
  have lzRb : lzR ≤ 1000000000 := by rw [hL]; exact chk_len h1.v
  have HLzR := hid hL
  have RrR_10 := hid (RrR_9.out.next hb)
  clear RrR_9
  have RaR_10 := hid (RaR_9.out.next hb)
  clear RaR_9
  have RbR_10 := hid (RbR_9.out.next hb)
  clear RbR_9
  have RcR_10 := hid (RcR_9.out.next hb)
  clear RcR_9
  have RxR_10 := hid (RxR_9.out.next hb)
  clear RxR_9
  have RyR_10 := hid (RyR_9.out.next hb)
  clear RyR_9
  have HB10 := hid (below_next HB9.out hb)
  clear HB9
  have RzR_10 := hid hr
  clear hr hb h1 hL
  have HS1 : Hid (bR = cR) := hid (dil_adds vv1 ww1 HOaR.out HObR.out HOcR.out HQrR.out (by omega))
  have HS2 : Hid (yR = zR) := hid (ero_adds vv1 ww1 HOxR.out HOyR.out HOzR.out)
  go_wp2_with (first
    | (go_at_call_of 19 (Value.slice AbR lbR cbR); (with_reducible refine (equal_any AbR AcR lbR cbR lcR ccR bR cR _ HLbR.out HLcR.out (by unfold maxLen; omega) (by unfold maxLen; omega) RbR_10.out RcR_10.out).mono ?_); rintro e wz0 ⟨rfl, hbz⟩; rw [show decide (bR = cR) = true from decide_eq_true HS1.out]; have Rz0yR := hid (RyR_10.out.next hbz); have Rz0zR := hid (RzR_10.out.next hbz); have HBz0 := hid (below_next HB10.out hbz); clear hbz)
    | (go_at_call_of 19 (Value.slice AyR lyR cyR); (with_reducible refine (equal_any AyR AzR lyR cyR lzR czR yR zR _ HLyR.out HLzR.out (by unfold maxLen; omega) (by unfold maxLen; omega) Rz0yR.out Rz0zR.out).mono ?_); rintro e wz1 ⟨rfl, hbz⟩; rw [show decide (yR = zR) = true from decide_eq_true HS2.out]; have HBz1 := hid (below_next HBz0.out hbz); clear hbz))
  go_ret
  exact ⟨rfl, HBz1.out⟩

set_option maxRecDepth 100000 in
theorem lifted (os : Os) (started : os.Started) (H : Type) (enc : TypeId × Value → H) :
    ReturnsInHanded {} Try.checked os 8 .any (Rows.morphAddsSpec.pre6 enc Try.prog Try.f8 Rows.morphAddsRow.domain false) (Rows.morphAddsSpec.post enc Try.prog Try.f8 false true false false) := by
  refine returnsInHanded_of_change (C := Try.checked) own started (by kernel_rfl) Try.func8
    (ChangeSpec.witness6 (enc := enc) (C := Try.checked) false ⟨#[], #[.slice none 0 0, .int .i64 0, .int .i64 0], []⟩ 8 (by kernel_rfl) (by kernel_rfl) (by kernel_rfl) (by kernel_rfl)) ?_
  intro W base args ds gs before hval0 hW hcnd _
  have hval : ∀ (j : Nat) t v, Try.f8.params[j]? = some t → args[j]? = some v → Value.okWide Try.prog W .any base t v := hval0
  have hW' := hW
  obtain ⟨p, q, hA0, hV, rfl, hfz, hnd⟩ := hW
  have hA : DataW.TrodAll enc Try.prog W 0 (fun _ => true) true Try.f8.params.toList args.toList ds p := hA0
  rw [Try.params8] at hA hval
  obtain ⟨v0, vs0, d0, ds0, p0, q0, hargs, rfl, rfl, h0, r0⟩ := trodAll_cons hA
  obtain ⟨v1, vs1, d1, ds1, p1, q1, rfl, rfl, rfl, h1, r1⟩ := trodAll_cons r0
  obtain ⟨v2, vs2, d2, ds2, p2, q2, rfl, rfl, rfl, h2, r2⟩ := trodAll_cons r1
  obtain ⟨rfl, rfl, rfl⟩ := trodAll_nil r2
  obtain rfl : args = #[v0, v1, v2] := by cases args; simp_all
  obtain ⟨rfl, rfl⟩ := trodVars_none hV
  have k0 := h0
  have lt0 : ∀ x ∈ p0, x.block < W.heap.size := by obtain ⟨m, hm⟩ := k0; exact DataW.trod_lt m _ _ _ hm
  obtain ⟨A0, n0, c0, ss0, rfl, hn0, hs0, hm0⟩ := open_runs Try.underlying22 Try.underlying37 (by kernel_rfl) (by kernel_rfl) (by kernel_rfl) (hval 0 22 v0 rfl rfl) h0
  obtain ⟨x1, rfl, rfl, rfl, w1⟩ := open_int Try.underlying3 (hval 1 3 v1 rfl rfl) h1
  obtain ⟨x2, rfl, rfl, rfl, w2⟩ := open_int Try.underlying3 (hval 2 3 v2 rfl rfl) h2
  clear hA0 hval0
  refine (rest A0 n0 c0 ss0 x1 x2 W hn0 hs0 hm0).mono fun e W' ⟨he, bel⟩ => ?_
  subst he
  exact ⟨_, rfl, _, _, _, [], _, [], hW', trodAll_mk1 (shut_bool Try.underlying4 _), (trodAll_cons_mk (Below.trod laidOut (by kernel_rfl) (of_decide_eq_true (by kernel_rfl)) k0 bel lt0) (trodAll_cons_mk (shut_int Try.underlying3 w1) (trodAll_cons_mk (shut_int Try.underlying3 w2) trodAll_mk0))), rfl, bel.frame _, fun h => by cases h⟩

theorem over : Rows.morphAddsRow.holds Try.pinned (OpenSpec.ofChange Rows.morphAddsSpec) :=
  OpenClaim.holds_of_wide 8 Try.f8 rfl rfl rfl rfl rfl rfl rfl ⟨rfl, rfl, rfl, rfl, rfl⟩ rfl rfl rfl rfl rfl (by kernel_rfl) Try.func8 (by kernel_rfl)
    (of_decide_eq_true (by kernel_rfl)) (by unfold Func.isWrapper; first | (rw [if_pos (by decide +kernel)]; kernel_rfl) | (rw [if_neg (by decide +kernel)]; exact ⟨rfl, rfl⟩))
    (fun os started H enc _ => lifted os started H enc)

/-- The statement. -/
theorem proved : Rows.MorphAddsSaid := over
end Go.Proofs.Ytldbpabnfjnpbaa.morphAdds
