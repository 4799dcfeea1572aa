/- Of the first 60 runs of two slices of runs, Minus and Xor of package region return the regions of the cells that are in the first alone and in exactly one, or the error that the reference finds and no run; for every input. -/
import Derived.Test.YtepnpnidbpaimaaRows
import Derived.WalkKit
import Derived.ProofKit
import Derived.OpenShut
import Derived.ChangeOld
import Derived.Below
import Derived.Test.YtepnpnidbpaimaaOpen
import Derived.Test.YtepnpnidbpaimaaCmbD
namespace Go.Proofs.Ytepnpnidbpaimaa.regionDifferenceCells
open Go Go.ChangeShapes Go.WideShapes Go.ChangeAt Go.RowKit Go.Deep
set_option linter.unusedVariables false

-- caps
set_option maxHeartbeats 3200000 in
set_option maxRecDepth 100000 in
theorem rest (A : Option Addr) (n c : Nat) (ss : List Rn) (A' : Option Addr) (n' c' : Nat) (ss' : List Rn) (W : World) (hn : n = ss.length) (hs : Runs W A ss) (hm : ss.length ≤ maxLen) (hc : n ≤ c ∧ c ≤ maxLen) (hn' : n' = ss'.length) (hs' : Runs W A' ss') (hm' : ss'.length ≤ maxLen) (hc' : n' ≤ c' ∧ c' ≤ maxLen) :
    Calls Try.prog 10 #[.slice A n c, .slice A' n' c'] W fun e w' => e = .returned (.bool true) ∧ Below W.heap.size W w' := by
  have HS := hid hs
  have HS' := hid hs'
  have HN := hid hn
  have HN' := hid hn'
  have HC := hid hc
  have HC' := hid hc'
  clear hs hs' hn hn' hm hm' hc hc'
  go_enter Try.func10, Try.ntmps10
  go_wp2_with fail
  (with_reducible refine (regions_any _).mono ?_); rintro e w1 ⟨rfl, hb⟩
  have HB1 := hid hb
  clear hb
  go_wp2_with fail
  (with_reducible refine (short_any A ss n c _ HN.out HC.out.1 HC.out.2 (HS.out.next HB1.out)).mono ?_); rintro e w2 ⟨⟨p, cp, rfl, hp, hp60⟩, rfl⟩
  have HP := hid hp
  clear hp
  go_wp2_with fail
  (with_reducible refine (short_any A' ss' n' c' _ HN'.out HC'.out.1 HC'.out.2 (HS'.out.next HB1.out)).mono ?_); rintro e w3 ⟨⟨q, cq, rfl, hq, hq60⟩, rfl⟩
  have HQ := hid hq
  have HX := hid ((HS.out.next HB1.out).take 60)
  have HY := hid ((HS'.out.next HB1.out).take 60)
  clear hq HS HS' HN HN' HC HC'
  generalize ss.take 60 = xs at HP HX
  generalize ss'.take 60 = ys at HQ HY
  have hpm : p ≤ maxLen := by unfold maxLen; omega
  have hqm : q ≤ maxLen := by unfold maxLen; omega
  go_wp2_with fail
  (with_reducible refine (minus_any A A' xs ys p cp q cq _ HP.out HQ.out hpm hqm HX.out HY.out).mono ?_); rintro e w4 hg
  obtain ⟨A3, c3, res, rfl, hr3, hb3, h1, h2⟩ := hg.mono
  have HB2 := hid (below_next HB1.out hb3)
  have HX1 := hid (HX.out.next hb3)
  have HY1 := hid (HY.out.next hb3)
  have HR := hid hr3
  have H1 := hid h1
  have H2 := hid h2
  clear hg hr3 hb3 h1 h2 HX HY HB1
  go_wp2_with fail
  (with_reducible refine (xor_any A A' xs ys p cp q cq _ HP.out HQ.out hpm hqm HX1.out HY1.out).mono ?_); rintro e w4x hg
  obtain ⟨A4, c4, resx, rfl, hr4, hb4, g1, g2⟩ := hg.mono
  have HB2x := hid (below_next HB2.out hb4)
  have HX1x := hid (HX1.out.next hb4)
  have HY1x := hid (HY1.out.next hb4)
  have HRm := hid (HR.out.next hb4)
  have HRx := hid hr4
  have G1 := hid g1
  have G2 := hid g2
  clear hg hr4 hb4 g1 g2 HX1 HY1 HB2 HR
  go_wp2_with fail
  (with_reducible refine (pair_any A A' xs ys p cp q cq _ HP.out HQ.out hpm hqm HX1x.out HY1x.out).mono ?_); rintro e w5 ⟨rfl, hb5⟩
  have HB3 := hid (below_next HB2x.out hb5)
  have HX2 := hid (HX1x.out.next hb5)
  have HY2 := hid (HY1x.out.next hb5)
  have HR2 := hid (HRm.out.next hb5)
  have HRx2 := hid (HRx.out.next hb5)
  clear hb5 HX1x HY1x HRm HRx HB2x
  by_cases hpe : pairE xs ys = 0
  · have HOP := hid (H1.out hpe)
    have GOP := hid (G1.out hpe)
    have HCX : Hid (chk xs = 0 ∧ chk ys = 0) := hid (by
      unfold pairE at hpe
      by_cases h : chk xs = 0
      · rw [if_pos h] at hpe; exact ⟨h, hpe⟩
      · rw [if_neg h] at hpe; exact absurd hpe h)
    have hrm : res.length ≤ maxLen := by have := chk_len HOP.out.v; unfold maxLen; omega
    have hrx : resx.length ≤ maxLen := by have := chk_len GOP.out.v; unfold maxLen; omega
    rw [hpe]
    clear hpe H1 H2 G1 G2
    go_wp2_with fail
    (with_reducible refine (combined_any 2 A A' xs ys p cp q cq _ HP.out HQ.out (by omega) (by omega) HX2.out HY2.out HCX.out.1 HCX.out.2).mono ?_); rintro e w6 ⟨v, res2, rfl, ho, hop2, hb6⟩
    obtain rfl := HOP.out.uniq hop2
    obtain ⟨A6, c6, rfl, hr6⟩ := ho.is
    have HB4 := hid (below_next HB3.out hb6)
    have HR3 := hid (HR2.out.next hb6)
    have HRx3 := hid (HRx2.out.next hb6)
    have HX3 := hid (HX2.out.next hb6)
    have HY3 := hid (HY2.out.next hb6)
    have HR6 := hid hr6
    clear ho hop2 hb6 hr6 HX2 HY2 HR2 HRx2 HB3
    go_wp2_with fail
    (with_reducible refine (same_any A3 A6 _ c3 _ c6 res res _ rfl rfl hrm hrm HR3.out HR6.out).mono ?_); rintro e w7 ⟨rfl, hb7⟩
    rw [show decide (res = res) = true from decide_eq_true rfl]
    have HB5 := hid (below_next HB4.out hb7)
    have HRx4 := hid (HRx3.out.next hb7)
    have HX4 := hid (HX3.out.next hb7)
    have HY4 := hid (HY3.out.next hb7)
    clear hb7 HX3 HY3 HRx3 HB4
    go_wp2_with fail
    (with_reducible refine (combined_any 3 A A' xs ys p cp q cq _ HP.out HQ.out (by omega) (by omega) HX4.out HY4.out HCX.out.1 HCX.out.2).mono ?_); rintro e w8 ⟨v, res3, rfl, ho, hop3, hb8⟩
    obtain rfl := GOP.out.uniq hop3
    obtain ⟨A8, c8, rfl, hr8⟩ := ho.is
    have HB6 := hid (below_next HB5.out hb8)
    have HRx5 := hid (HRx4.out.next hb8)
    have HR8 := hid hr8
    clear ho hop3 hb8 hr8 HX4 HY4 HRx4 HB5
    go_wp2_with fail
    (with_reducible refine (same_any A4 A8 _ c4 _ c8 resx resx _ rfl rfl hrx hrx HRx5.out HR8.out).mono ?_); rintro e w9 ⟨rfl, hb9⟩
    rw [show decide (resx = resx) = true from decide_eq_true rfl]
    have HB7 := hid (below_next HB6.out hb9)
    clear hb9
    go_wp2_with fail
    go_ret
    exact ⟨rfl, HB7.out⟩
  · have hres : res = [] := H2.out hpe
    have hresx : resx = [] := G2.out hpe
    subst hres hresx
    have hne : (pairE xs ys != 0) = true := by simpa using hpe
    clear hpe H1 H2 G1 G2
    go_wp2_with fail
    go_ret
    exact ⟨rfl, HB3.out⟩

set_option maxRecDepth 100000 in
theorem lifted (os : Os) (started : os.Started) (H : Type) (enc : TypeId × Value → H) :
    ReturnsInHanded {} Try.checked os 10 .any (Rows.regionDifferenceCellsSpec.pre6 enc Try.prog Try.f10 Rows.regionDifferenceCellsRow.domain false) (Rows.regionDifferenceCellsSpec.post enc Try.prog Try.f10 false true false false) := by
  refine returnsInHanded_of_change (C := Try.checked) own started (by kernel_rfl) Try.func10
    (ChangeSpec.witness6 (enc := enc) (C := Try.checked) false ⟨#[], #[.slice none 0 0, .slice none 0 0], []⟩ 8 (by kernel_rfl) (by kernel_rfl) (by kernel_rfl) (by kernel_rfl)) ?_
  intro W base args ds gs before hval0 hW hcnd _
  have hval : ∀ (j : Nat) t v, Try.f10.params[j]? = some t → args[j]? = some v → Value.okWide Try.prog W .any base t v := hval0
  have hW' := hW
  obtain ⟨p, q, hA0, hV, rfl, hfz, hnd⟩ := hW
  have hA : DataW.TrodAll enc Try.prog W 0 (fun _ => true) true Try.f10.params.toList args.toList ds p := hA0
  rw [Try.params10] at hA hval
  obtain ⟨v0, vs0, d0, ds0, p0, q0, hargs, rfl, rfl, h0, r0⟩ := trodAll_cons hA
  obtain ⟨v1, vs1, d1, ds1, p1, q1, rfl, rfl, rfl, h1, r1⟩ := trodAll_cons r0
  obtain ⟨rfl, rfl, rfl⟩ := trodAll_nil r1
  obtain rfl : args = #[v0, v1] := by cases args; simp_all
  obtain ⟨rfl, rfl⟩ := trodVars_none hV
  have k0 := h0
  have lt0 : ∀ x ∈ p0, x.block < W.heap.size := by obtain ⟨m, hm⟩ := k0; exact DataW.trod_lt m _ _ _ hm
  obtain ⟨A0, n0, c0, ss0, rfl, hn0, hs0, hm0⟩ := open_runs Try.underlying22 Try.underlying30 (by kernel_rfl) (by kernel_rfl) (by kernel_rfl) (hval 0 22 v0 rfl rfl) h0
  have hc0 := open_cap Try.underlying22 h0
  have k1 := h1
  have lt1 : ∀ x ∈ p1, x.block < W.heap.size := by obtain ⟨m, hm⟩ := k1; exact DataW.trod_lt m _ _ _ hm
  obtain ⟨A1, n1, c1, ss1, rfl, hn1, hs1, hm1⟩ := open_runs Try.underlying22 Try.underlying30 (by kernel_rfl) (by kernel_rfl) (by kernel_rfl) (hval 1 22 v1 rfl rfl) h1
  have hc1 := open_cap Try.underlying22 h1
  clear hA0 hval0
  refine (rest A0 n0 c0 ss0 A1 n1 c1 ss1 W hn0 hs0 hm0 hc0 hn1 hs1 hm1 hc1).mono fun e W' ⟨he, bel⟩ => ?_
  subst he
  exact ⟨_, rfl, _, _, _, [], _, [], hW', trodAll_mk1 (shut_bool Try.underlying4 _), (trodAll_cons_mk (Below.trod laidOut (by kernel_rfl) (of_decide_eq_true (by kernel_rfl)) k0 bel lt0) (trodAll_cons_mk (Below.trod laidOut (by kernel_rfl) (of_decide_eq_true (by kernel_rfl)) k1 bel lt1) trodAll_mk0)), rfl, bel.frame _, fun h => by cases h⟩

theorem over : Rows.regionDifferenceCellsRow.holds Try.pinned (OpenSpec.ofChange Rows.regionDifferenceCellsSpec) :=
  OpenClaim.holds_of_wide 10 Try.f10 rfl rfl rfl rfl rfl rfl rfl ⟨rfl, rfl, rfl, rfl, rfl⟩ rfl rfl rfl rfl rfl (by kernel_rfl) Try.func10 (by kernel_rfl)
    (of_decide_eq_true (by kernel_rfl)) (by unfold Func.isWrapper; first | (rw [if_pos (by decide +kernel)]; kernel_rfl) | (rw [if_neg (by decide +kernel)]; exact ⟨rfl, rfl⟩))
    (fun os started H enc _ => lifted os started H enc)

/-- The statement. -/
theorem proved : Rows.RegionDifferenceCellsSaid := over
end Go.Proofs.Ytepnpnidbpaimaa.regionDifferenceCells
