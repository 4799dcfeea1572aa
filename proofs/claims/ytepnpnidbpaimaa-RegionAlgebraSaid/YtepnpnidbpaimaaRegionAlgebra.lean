/- Intersections distribute over unions of regions, and what is not in a union is in neither region; for every input. -/
import Derived.Test.YtepnpnidbpaimaaRows
import Derived.WalkKit
import Derived.ProofKit
import Derived.OpenShut
import Derived.ChangeOld
import Derived.Below
import Derived.Test.YtepnpnidbpaimaaOpen
import Derived.Test.YtepnpnidbpaimaaNear
import Derived.Test.YtepnpnidbpaimaaUni
namespace Go.Proofs.Ytepnpnidbpaimaa.regionAlgebra
open Go Go.ChangeShapes Go.WideShapes Go.ChangeAt Go.RowKit Go.Deep
set_option linter.unusedVariables false

set_option maxHeartbeats 8000000 in
set_option maxRecDepth 100000 in
theorem rest (A0 : Option Addr) (n0 c0 : Nat) (s0 : List Rn) (A1 : Option Addr) (n1 c1 : Nat) (s1 : List Rn) (A2 : Option Addr) (n2 c2 : Nat) (s2 : List Rn) (W : World) (hn0 : n0 = s0.length) (hs0 : Runs W A0 s0) (hm0 : s0.length ≤ maxLen) (hn1 : n1 = s1.length) (hs1 : Runs W A1 s1) (hm1 : s1.length ≤ maxLen) (hn2 : n2 = s2.length) (hs2 : Runs W A2 s2) (hm2 : s2.length ≤ maxLen) :
    Calls Try.prog 3 #[.slice A0 n0 c0, .slice A1 n1 c1, .slice A2 n2 c2] W fun e w' => e = .returned (.bool true) ∧ Below W.heap.size W w' := by
  have HNs0 := hid hn0
  have HMs0 := hid (show n0 ≤ maxLen by rw [hn0]; exact hm0)
  have Rs0_0 := hid hs0
  have HNs1 := hid hn1
  have HMs1 := hid (show n1 ≤ maxLen by rw [hn1]; exact hm1)
  have Rs1_0 := hid hs1
  have HNs2 := hid hn2
  have HMs2 := hid (show n2 ≤ maxLen by rw [hn2]; exact hm2)
  have Rs2_0 := hid hs2
  clear hn0 hn1 hn2 hs0 hs1 hs2 hm0 hm1 hm2
  go_enter Try.func3, Try.ntmps3
  go_wp2_with fail
  (with_reducible refine (unites_any _).mono ?_); rintro e w1 ⟨rfl, hb1⟩
  have Rs0_1 := hid (Rs0_0.out.next hb1)
  clear Rs0_0
  have Rs1_1 := hid (Rs1_0.out.next hb1)
  clear Rs1_0
  have Rs2_1 := hid (Rs2_0.out.next hb1)
  clear Rs2_0
  have HB1 := hid hb1
  clear hb1
  go_wp2_with fail
  (with_reducible refine (near_any A0 s0 n0 c0 20 _ HNs0.out (by exact HMs0.out) Rs0_1.out (by omega) (by omega)).mono ?_); rintro e w2 ⟨v2, aR, rfl, ho, hb, hc, hl, -⟩
  clear Rs0_1
  obtain ⟨AaR, caR, hv2, hr⟩ := ho.is
  obtain ⟨laR, hL⟩ : ∃ l, l = aR.length := ⟨_, rfl⟩
  rw [← hL] at hv2
  have laRb : laR ≤ 1000000000 := by omega
  have HLaR := hid hL
  have HCaR := hid hc
  have Rs1_2 := hid (Rs1_1.out.next hb)
  clear Rs1_1
  have Rs2_2 := hid (Rs2_1.out.next hb)
  clear Rs2_1
  have HB2 := hid (below_next HB1.out hb)
  clear HB1
  have RaR_2 := hid hr
  clear ho hb hc hl hr hL
  subst hv2
  go_wp2_with fail
  (with_reducible refine (near_any A1 s1 n1 c1 20 _ HNs1.out (by exact HMs1.out) Rs1_2.out (by omega) (by omega)).mono ?_); rintro e w3 ⟨v3, bR, rfl, ho, hb, hc, hl, -⟩
  clear Rs1_2
  obtain ⟨AbR, cbR, hv3, hr⟩ := ho.is
  obtain ⟨lbR, hL⟩ : ∃ l, l = bR.length := ⟨_, rfl⟩
  rw [← hL] at hv3
  have lbRb : lbR ≤ 1000000000 := by omega
  have HLbR := hid hL
  have HCbR := hid hc
  have Rs2_3 := hid (Rs2_2.out.next hb)
  clear Rs2_2
  have RaR_3 := hid (RaR_2.out.next hb)
  clear RaR_2
  have HB3 := hid (below_next HB2.out hb)
  clear HB2
  have RbR_3 := hid hr
  clear ho hb hc hl hr hL
  subst hv3
  go_wp2_with fail
  (with_reducible refine (near_any A2 s2 n2 c2 20 _ HNs2.out (by exact HMs2.out) Rs2_3.out (by omega) (by omega)).mono ?_); rintro e w4 ⟨v4, cR, rfl, ho, hb, hc, hl, -⟩
  clear Rs2_3
  obtain ⟨AcR, ccR, hv4, hr⟩ := ho.is
  obtain ⟨lcR, hL⟩ : ∃ l, l = cR.length := ⟨_, rfl⟩
  rw [← hL] at hv4
  have lcRb : lcR ≤ 1000000000 := by omega
  have HLcR := hid hL
  have HCcR := hid hc
  have RaR_4 := hid (RaR_3.out.next hb)
  clear RaR_3
  have RbR_4 := hid (RbR_3.out.next hb)
  clear RbR_3
  have HB4 := hid (below_next HB3.out hb)
  clear HB3
  have RcR_4 := hid hr
  clear ho hb hc hl hr hL
  subst hv4
  go_wp2_with fail
  (with_reducible refine (union_any AbR AcR bR cR lbR cbR lcR ccR _ HLbR.out HLcR.out (by unfold maxLen; omega) (by unfold maxLen; omega) RbR_4.out RcR_4.out).mono ?_); rintro e w5 hg
  obtain ⟨Abc, cbc, bc, rfl, hr, hb, hop, hl⟩ := hg.valid HCbR.out HCcR.out
  obtain ⟨lbc, hL⟩ : ∃ l, l = bc.length := ⟨_, rfl⟩
  rw [← hL]
  rw [← hL] at hl
  have lbcb : lbc ≤ 1000000000 := hl
  have HLbc := hid hL
  have HCbc := hid hop.v
  have HObc := hid hop
  have RaR_5 := hid (RaR_4.out.next hb)
  clear RaR_4
  have RbR_5 := hid (RbR_4.out.next hb)
  clear RbR_4
  have RcR_5 := hid (RcR_4.out.next hb)
  clear RcR_4
  have HB5 := hid (below_next HB4.out hb)
  clear HB4
  have Rbc_5 := hid hr
  clear hg hr hb hop hl hL
  go_wp2_with fail
  (with_reducible refine (inter_any AaR Abc aR bc laR caR lbc cbc _ HLaR.out HLbc.out (by unfold maxLen; omega) (by unfold maxLen; omega) RaR_5.out Rbc_5.out).mono ?_); rintro e w6 hg
  obtain ⟨Ale, cle, le, rfl, hr, hb, hop, hl⟩ := hg.valid HCaR.out HCbc.out
  obtain ⟨lle, hL⟩ : ∃ l, l = le.length := ⟨_, rfl⟩
  rw [← hL]
  rw [← hL] at hl
  have lleb : lle ≤ 1000000000 := hl
  have HLle := hid hL
  have HCle := hid hop.v
  have HOle := hid hop
  have RaR_6 := hid (RaR_5.out.next hb)
  clear RaR_5
  have RbR_6 := hid (RbR_5.out.next hb)
  clear RbR_5
  have RcR_6 := hid (RcR_5.out.next hb)
  clear RcR_5
  have Rbc_6 := hid (Rbc_5.out.next hb)
  clear Rbc_5
  have HB6 := hid (below_next HB5.out hb)
  clear HB5
  have Rle_6 := hid hr
  clear hg hr hb hop hl hL
  go_wp2_with fail
  (with_reducible refine (inter_any AaR AbR aR bR laR caR lbR cbR _ HLaR.out HLbR.out (by unfold maxLen; omega) (by unfold maxLen; omega) RaR_6.out RbR_6.out).mono ?_); rintro e w7 hg
  obtain ⟨Aab, cab, ab, rfl, hr, hb, hop, hl⟩ := hg.valid HCaR.out HCbR.out
  obtain ⟨lab, hL⟩ : ∃ l, l = ab.length := ⟨_, rfl⟩
  rw [← hL]
  rw [← hL] at hl
  have labb : lab ≤ 1000000000 := hl
  have HLab := hid hL
  have HCab := hid hop.v
  have HOab := hid hop
  have RaR_7 := hid (RaR_6.out.next hb)
  clear RaR_6
  have RbR_7 := hid (RbR_6.out.next hb)
  clear RbR_6
  have RcR_7 := hid (RcR_6.out.next hb)
  clear RcR_6
  have Rbc_7 := hid (Rbc_6.out.next hb)
  clear Rbc_6
  have Rle_7 := hid (Rle_6.out.next hb)
  clear Rle_6
  have HB7 := hid (below_next HB6.out hb)
  clear HB6
  have Rab_7 := hid hr
  clear hg hr hb hop hl hL
  go_wp2_with fail
  (with_reducible refine (inter_any AaR AcR aR cR laR caR lcR ccR _ HLaR.out HLcR.out (by unfold maxLen; omega) (by unfold maxLen; omega) RaR_7.out RcR_7.out).mono ?_); rintro e w8 hg
  obtain ⟨Aac, cac, ac, rfl, hr, hb, hop, hl⟩ := hg.valid HCaR.out HCcR.out
  obtain ⟨lac, hL⟩ : ∃ l, l = ac.length := ⟨_, rfl⟩
  rw [← hL]
  rw [← hL] at hl
  have lacb : lac ≤ 1000000000 := hl
  have HLac := hid hL
  have HCac := hid hop.v
  have HOac := hid hop
  have RaR_8 := hid (RaR_7.out.next hb)
  clear RaR_7
  have RbR_8 := hid (RbR_7.out.next hb)
  clear RbR_7
  have RcR_8 := hid (RcR_7.out.next hb)
  clear RcR_7
  have Rbc_8 := hid (Rbc_7.out.next hb)
  clear Rbc_7
  have Rle_8 := hid (Rle_7.out.next hb)
  clear Rle_7
  have Rab_8 := hid (Rab_7.out.next hb)
  clear Rab_7
  have HB8 := hid (below_next HB7.out hb)
  clear HB7
  have Rac_8 := hid hr
  clear hg hr hb hop hl hL
  go_wp2_with fail
  (with_reducible refine (union_any Aab Aac ab ac lab cab lac cac _ HLab.out HLac.out (by unfold maxLen; omega) (by unfold maxLen; omega) Rab_8.out Rac_8.out).mono ?_); rintro e w9 hg
  obtain ⟨Ari, cri, ri, rfl, hr, hb, hop, hl⟩ := hg.valid HCab.out HCac.out
  obtain ⟨lri, hL⟩ : ∃ l, l = ri.length := ⟨_, rfl⟩
  rw [← hL]
  rw [← hL] at hl
  have lrib : lri ≤ 1000000000 := hl
  have HLri := hid hL
  have HCri := hid hop.v
  have HOri := hid hop
  have RaR_9 := hid (RaR_8.out.next hb)
  clear RaR_8
  have RbR_9 := hid (RbR_8.out.next hb)
  clear RbR_8
  have RcR_9 := hid (RcR_8.out.next hb)
  clear RcR_8
  have Rbc_9 := hid (Rbc_8.out.next hb)
  clear Rbc_8
  have Rle_9 := hid (Rle_8.out.next hb)
  clear Rle_8
  have Rab_9 := hid (Rab_8.out.next hb)
  clear Rab_8
  have Rac_9 := hid (Rac_8.out.next hb)
  clear Rac_8
  have HB9 := hid (below_next HB8.out hb)
  clear HB8
  have Rri_9 := hid hr
  clear hg hr hb hop hl hL
  go_wp2_with fail
  (with_reducible refine (minus_any AaR Abc aR bc laR caR lbc cbc _ HLaR.out HLbc.out (by unfold maxLen; omega) (by unfold maxLen; omega) RaR_9.out Rbc_9.out).mono ?_); rintro e w10 hg
  obtain ⟨Ano, cno, no, rfl, hr, hb, hop, hl⟩ := hg.valid HCaR.out HCbc.out
  obtain ⟨lno, hL⟩ : ∃ l, l = no.length := ⟨_, rfl⟩
  rw [← hL]
  rw [← hL] at hl
  have lnob : lno ≤ 1000000000 := hl
  have HLno := hid hL
  have HCno := hid hop.v
  have HOno := hid hop
  have RaR_10 := hid (RaR_9.out.next hb)
  clear RaR_9
  have RbR_10 := hid (RbR_9.out.next hb)
  clear RbR_9
  have RcR_10 := hid (RcR_9.out.next hb)
  clear RcR_9
  have Rbc_10 := hid (Rbc_9.out.next hb)
  clear Rbc_9
  have Rle_10 := hid (Rle_9.out.next hb)
  clear Rle_9
  have Rab_10 := hid (Rab_9.out.next hb)
  clear Rab_9
  have Rac_10 := hid (Rac_9.out.next hb)
  clear Rac_9
  have Rri_10 := hid (Rri_9.out.next hb)
  clear Rri_9
  have HB10 := hid (below_next HB9.out hb)
  clear HB9
  have Rno_10 := hid hr
  clear hg hr hb hop hl hL
  go_wp2_with fail
  (with_reducible refine (minus_any AaR AbR aR bR laR caR lbR cbR _ HLaR.out HLbR.out (by unfold maxLen; omega) (by unfold maxLen; omega) RaR_10.out RbR_10.out).mono ?_); rintro e w11 hg
  obtain ⟨Aon, con, on, rfl, hr, hb, hop, hl⟩ := hg.valid HCaR.out HCbR.out
  obtain ⟨lon, hL⟩ : ∃ l, l = on.length := ⟨_, rfl⟩
  rw [← hL]
  rw [← hL] at hl
  have lonb : lon ≤ 1000000000 := hl
  have HLon := hid hL
  have HCon := hid hop.v
  have HOon := hid hop
  have RaR_11 := hid (RaR_10.out.next hb)
  clear RaR_10
  have RbR_11 := hid (RbR_10.out.next hb)
  clear RbR_10
  have RcR_11 := hid (RcR_10.out.next hb)
  clear RcR_10
  have Rbc_11 := hid (Rbc_10.out.next hb)
  clear Rbc_10
  have Rle_11 := hid (Rle_10.out.next hb)
  clear Rle_10
  have Rab_11 := hid (Rab_10.out.next hb)
  clear Rab_10
  have Rac_11 := hid (Rac_10.out.next hb)
  clear Rac_10
  have Rri_11 := hid (Rri_10.out.next hb)
  clear Rri_10
  have Rno_11 := hid (Rno_10.out.next hb)
  clear Rno_10
  have HB11 := hid (below_next HB10.out hb)
  clear HB10
  have Ron_11 := hid hr
  clear hg hr hb hop hl hL
  go_wp2_with fail
  (with_reducible refine (minus_any AaR AcR aR cR laR caR lcR ccR _ HLaR.out HLcR.out (by unfold maxLen; omega) (by unfold maxLen; omega) RaR_11.out RcR_11.out).mono ?_); rintro e w12 hg
  obtain ⟨Atw, ctw, tw, rfl, hr, hb, hop, hl⟩ := hg.valid HCaR.out HCcR.out
  obtain ⟨ltw, hL⟩ : ∃ l, l = tw.length := ⟨_, rfl⟩
  rw [← hL]
  rw [← hL] at hl
  have ltwb : ltw ≤ 1000000000 := hl
  have HLtw := hid hL
  have HCtw := hid hop.v
  have HOtw := hid hop
  have RaR_12 := hid (RaR_11.out.next hb)
  clear RaR_11
  have RbR_12 := hid (RbR_11.out.next hb)
  clear RbR_11
  have RcR_12 := hid (RcR_11.out.next hb)
  clear RcR_11
  have Rbc_12 := hid (Rbc_11.out.next hb)
  clear Rbc_11
  have Rle_12 := hid (Rle_11.out.next hb)
  clear Rle_11
  have Rab_12 := hid (Rab_11.out.next hb)
  clear Rab_11
  have Rac_12 := hid (Rac_11.out.next hb)
  clear Rac_11
  have Rri_12 := hid (Rri_11.out.next hb)
  clear Rri_11
  have Rno_12 := hid (Rno_11.out.next hb)
  clear Rno_11
  have Ron_12 := hid (Ron_11.out.next hb)
  clear Ron_11
  have HB12 := hid (below_next HB11.out hb)
  clear HB11
  have Rtw_12 := hid hr
  clear hg hr hb hop hl hL
  go_wp2_with fail
  (with_reducible refine (inter_any Aon Atw on tw lon con ltw ctw _ HLon.out HLtw.out (by unfold maxLen; omega) (by unfold maxLen; omega) Ron_12.out Rtw_12.out).mono ?_); rintro e w13 hg
  obtain ⟨Abo, cbo, bo, rfl, hr, hb, hop, hl⟩ := hg.valid HCon.out HCtw.out
  obtain ⟨lbo, hL⟩ : ∃ l, l = bo.length := ⟨_, rfl⟩
  rw [← hL]
  rw [← hL] at hl
  have lbob : lbo ≤ 1000000000 := hl
  have HLbo := hid hL
  have HCbo := hid hop.v
  have HObo := hid hop
  have RaR_13 := hid (RaR_12.out.next hb)
  clear RaR_12
  have RbR_13 := hid (RbR_12.out.next hb)
  clear RbR_12
  have RcR_13 := hid (RcR_12.out.next hb)
  clear RcR_12
  have Rbc_13 := hid (Rbc_12.out.next hb)
  clear Rbc_12
  have Rle_13 := hid (Rle_12.out.next hb)
  clear Rle_12
  have Rab_13 := hid (Rab_12.out.next hb)
  clear Rab_12
  have Rac_13 := hid (Rac_12.out.next hb)
  clear Rac_12
  have Rri_13 := hid (Rri_12.out.next hb)
  clear Rri_12
  have Rno_13 := hid (Rno_12.out.next hb)
  clear Rno_12
  have Ron_13 := hid (Ron_12.out.next hb)
  clear Ron_12
  have Rtw_13 := hid (Rtw_12.out.next hb)
  clear Rtw_12
  have HB13 := hid (below_next HB12.out hb)
  clear HB12
  have Rbo_13 := hid hr
  clear hg hr hb hop hl hL
  have HE14 := hid (show le = ri from has_inj HCle.out HCri.out fun x y => by rw [HOle.out.h, HObc.out.h, HOri.out.h, HOab.out.h, HOac.out.h]; cases has aR x y <;> cases has bR x y <;> cases has cR x y <;> rfl)
  go_wp2_with fail
  (with_reducible refine (equal_any Ale Ari lle cle lri cri le ri _ HLle.out HLri.out (by unfold maxLen; omega) (by unfold maxLen; omega) Rle_13.out Rri_13.out).mono ?_); rintro e w14 ⟨rfl, hb14⟩
  rw [show decide (le = ri) = true from decide_eq_true HE14.out]
  have RaR_14 := hid (RaR_13.out.next hb14)
  clear RaR_13
  have RbR_14 := hid (RbR_13.out.next hb14)
  clear RbR_13
  have RcR_14 := hid (RcR_13.out.next hb14)
  clear RcR_13
  have Rbc_14 := hid (Rbc_13.out.next hb14)
  clear Rbc_13
  have Rle_14 := hid (Rle_13.out.next hb14)
  clear Rle_13
  have Rab_14 := hid (Rab_13.out.next hb14)
  clear Rab_13
  have Rac_14 := hid (Rac_13.out.next hb14)
  clear Rac_13
  have Rri_14 := hid (Rri_13.out.next hb14)
  clear Rri_13
  have Rno_14 := hid (Rno_13.out.next hb14)
  clear Rno_13
  have Ron_14 := hid (Ron_13.out.next hb14)
  clear Ron_13
  have Rtw_14 := hid (Rtw_13.out.next hb14)
  clear Rtw_13
  have Rbo_14 := hid (Rbo_13.out.next hb14)
  clear Rbo_13
  have HB14 := hid (below_next HB13.out hb14)
  clear HB13
  clear hb14
  have HE15 := hid (show no = bo from has_inj HCno.out HCbo.out fun x y => by rw [HOno.out.h, HObc.out.h, HObo.out.h, HOon.out.h, HOtw.out.h]; cases has aR x y <;> cases has bR x y <;> cases has cR x y <;> rfl)
  go_wp2_with (go_at_call 22; (with_reducible refine (equal_any Ano Abo lno cno lbo cbo no bo _ HLno.out HLbo.out (by unfold maxLen; omega) (by unfold maxLen; omega) Rno_14.out Rbo_14.out).mono ?_); rintro e w15 ⟨rfl, hb15⟩; rw [show decide (no = bo) = true from decide_eq_true HE15.out]; have HBZ := hid (below_next HB14.out hb15); clear hb15)
  go_ret
  exact ⟨rfl, HBZ.out⟩

set_option maxRecDepth 100000 in
theorem lifted (os : Os) (started : os.Started) (H : Type) (enc : TypeId × Value → H) :
    ReturnsInHanded {} Try.checked os 3 .any (Rows.regionAlgebraSpec.pre6 enc Try.prog Try.f3 Rows.regionAlgebraRow.domain false) (Rows.regionAlgebraSpec.post enc Try.prog Try.f3 false true false false) := by
  refine returnsInHanded_of_change (C := Try.checked) own started (by kernel_rfl) Try.func3
    (ChangeSpec.witness6 (enc := enc) (C := Try.checked) false ⟨#[], #[.slice none 0 0, .slice none 0 0, .slice none 0 0], []⟩ 8 (by kernel_rfl) (by kernel_rfl) (by kernel_rfl) (by kernel_rfl)) ?_
  intro W base args ds gs before hval0 hW hcnd _
  have hval : ∀ (j : Nat) t v, Try.f3.params[j]? = some t → args[j]? = some v → Value.okWide Try.prog W .any base t v := hval0
  have hW' := hW
  obtain ⟨p, q, hA0, hV, rfl, hfz, hnd⟩ := hW
  have hA : DataW.TrodAll enc Try.prog W 0 (fun _ => true) true Try.f3.params.toList args.toList ds p := hA0
  rw [Try.params3] at hA hval
  obtain ⟨v0, vs0, d0, ds0, p0, q0, hargs, rfl, rfl, h0, r0⟩ := trodAll_cons hA
  obtain ⟨v1, vs1, d1, ds1, p1, q1, rfl, rfl, rfl, h1, r1⟩ := trodAll_cons r0
  obtain ⟨v2, vs2, d2, ds2, p2, q2, rfl, rfl, rfl, h2, r2⟩ := trodAll_cons r1
  obtain ⟨rfl, rfl, rfl⟩ := trodAll_nil r2
  obtain rfl : args = #[v0, v1, v2] := by cases args; simp_all
  obtain ⟨rfl, rfl⟩ := trodVars_none hV
  have k0 := h0
  have lt0 : ∀ x ∈ p0, x.block < W.heap.size := by obtain ⟨m, hm⟩ := k0; exact DataW.trod_lt m _ _ _ hm
  obtain ⟨A0, n0, c0, ss0, rfl, hn0, hs0, hm0⟩ := open_runs Try.underlying22 Try.underlying30 (by kernel_rfl) (by kernel_rfl) (by kernel_rfl) (hval 0 22 v0 rfl rfl) h0
  have k1 := h1
  have lt1 : ∀ x ∈ p1, x.block < W.heap.size := by obtain ⟨m, hm⟩ := k1; exact DataW.trod_lt m _ _ _ hm
  obtain ⟨A1, n1, c1, ss1, rfl, hn1, hs1, hm1⟩ := open_runs Try.underlying22 Try.underlying30 (by kernel_rfl) (by kernel_rfl) (by kernel_rfl) (hval 1 22 v1 rfl rfl) h1
  have k2 := h2
  have lt2 : ∀ x ∈ p2, x.block < W.heap.size := by obtain ⟨m, hm⟩ := k2; exact DataW.trod_lt m _ _ _ hm
  obtain ⟨A2, n2, c2, ss2, rfl, hn2, hs2, hm2⟩ := open_runs Try.underlying22 Try.underlying30 (by kernel_rfl) (by kernel_rfl) (by kernel_rfl) (hval 2 22 v2 rfl rfl) h2
  clear hA0 hval0
  refine (rest A0 n0 c0 ss0 A1 n1 c1 ss1 A2 n2 c2 ss2 W hn0 hs0 hm0 hn1 hs1 hm1 hn2 hs2 hm2).mono fun e W' ⟨he, bel⟩ => ?_
  subst he
  exact ⟨_, rfl, _, _, _, [], _, [], hW', trodAll_mk1 (shut_bool Try.underlying4 _), (trodAll_cons_mk (Below.trod laidOut (by kernel_rfl) (of_decide_eq_true (by kernel_rfl)) k0 bel lt0) (trodAll_cons_mk (Below.trod laidOut (by kernel_rfl) (of_decide_eq_true (by kernel_rfl)) k1 bel lt1) (trodAll_cons_mk (Below.trod laidOut (by kernel_rfl) (of_decide_eq_true (by kernel_rfl)) k2 bel lt2) trodAll_mk0))), rfl, bel.frame _, fun h => by cases h⟩

theorem over : Rows.regionAlgebraRow.holds Try.pinned (OpenSpec.ofChange Rows.regionAlgebraSpec) :=
  OpenClaim.holds_of_wide 3 Try.f3 rfl rfl rfl rfl rfl rfl rfl ⟨rfl, rfl, rfl, rfl, rfl⟩ rfl rfl rfl rfl rfl (by kernel_rfl) Try.func3 (by kernel_rfl)
    (of_decide_eq_true (by kernel_rfl)) (by unfold Func.isWrapper; first | (rw [if_pos (by decide +kernel)]; kernel_rfl) | (rw [if_neg (by decide +kernel)]; exact ⟨rfl, rfl⟩))
    (fun os started H enc _ => lifted os started H enc)

/-- The statement. -/
theorem proved : Rows.RegionAlgebraSaid := over
end Go.Proofs.Ytepnpnidbpaimaa.regionAlgebra
