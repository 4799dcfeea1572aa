/- ConicPointsExact: Points has the rounded points of the curve for the least flat division. -/
import Derived.Test.YtcdedefhofkbhaaRows
import Derived.WalkKit
import Derived.ProofKit
import Derived.OpenShut
import Derived.ChangeOld
import Derived.Below
import Derived.Test.YtcdedefhofkbhaaOpen
import Derived.Test.YtcdedefhofkbhaaSameP
import Derived.Test.YtcdedefhofkbhaaCrvs
import Derived.Test.YtcdedefhofkbhaaRChk
namespace Go.Proofs.Ytcdedefhofkbhaa.conicPointsExact
open Go Go.ChangeShapes Go.WideShapes Go.ChangeAt Go.RowKit Go.Deep
set_option linter.unusedVariables false

theorem rcp_any (p : P2) (s : Sg) (w : World) (h : s.k = 2 ∨ s.k = 3 ∧ InC (cuOf p s)) : Calls Try.prog 25 #[ptv p, seg s] w (GivesPts (replP p s) w) := by
  unfold replP
  rcases h with h | ⟨h, hc⟩
  · rw [if_pos h]; exact rcp_line p s w h
  · rw [if_neg (by omega)]; exact rcp_curve p s w h hc
/-- The kinds that have points: tests. -/
theorem kind_cases (k : Int) : ((k == 2) = false ∧ (k == 3) = false ∧ (k ≠ 2 ∧ k ≠ 3)) ∨ ((k == 2) = true ∧ k = 2) ∨ ((k == 2) = false ∧ (k == 3) = true ∧ k = 3) := by
  by_cases h : k = 2
  · exact .inr (.inl ⟨by simp [h], h⟩)
  · by_cases h3 : k = 3
    · exact .inr (.inr ⟨by simp [h], by simp [h3], h3⟩)
    · exact .inl ⟨by simp [h], by simp [h3], h, h3⟩
theorem len0 {w : World} {B : Nat} {v : Value} (ho : w.ownsRow B 23 2 v ([] : List P2).length (pfl [])) : v = .slice none 0 0 ∨ ∃ g c, v = .slice (some ⟨g, 0, none⟩) 0 c := by
  rcases ho.2 with ⟨h0, _⟩ | ⟨g, cap, cur, h0, _⟩
  · exact .inl h0
  · exact .inr ⟨g, cap, h0⟩

set_option maxHeartbeats 3200000 in
set_option maxRecDepth 100000 in
theorem core (p : P2) (s : Sg) (W : World) : Calls Try.prog 7 #[ptv p, seg s] W fun e w' => e = .returned (.bool true) ∧ Below W.heap.size W w' := by
  have HA := fun w => hid (points_any p s w)
  obtain ⟨w0, hw0⟩ : ∃ w0, w0 = (W.alloc (.cells (pcel p) 23)).alloc (.cells (cel s) 25) := ⟨_, rfl⟩
  have HP := hid (show Var w0 W.heap.size (pcel p) 23 by rw [hw0]; exact (Var.new W _ _ _ rfl).alloc _)
  have HS := hid (show Var w0 (W.heap.size + 1) (cel s) 25 by rw [hw0]; exact Var.new (W.alloc _) _ _ _ (by simp))
  have HB := hid (show Below W.heap.size W w0 by rw [hw0]; exact below_alloc (below_alloc (Below.refl _ W) _) _)
  go_enter Try.func7, Try.ntmps7
  go_upto_region 1 with fail
  rw [← hw0]
  clear hw0
  go_wp2_with fail
  (with_reducible refine (curves_any _).mono ?_); rintro e w1 ⟨rfl, hb⟩
  have HP1 := hid (HP.out.next hb)
  have HS1 := hid (HS.out.next hb)
  have HB1 := hid (below_next HB.out hb)
  clear hb HP HS HB
  obtain ⟨p0, p1, p2, p3, p4, p5, pf⟩ := HS1.out.read6
  obtain ⟨q0, q1, qf⟩ := HP1.out.read2
  go_wp2_with fail
  clear p0 p1 p2 p3 p4 p5 pf q0 q1 qf
  (with_reducible refine (HA _).out.mono ?_); rintro e w2 ⟨v, rfl, ho, hb⟩
  have HP2 := hid (HP1.out.next hb)
  have HS2 := hid (HS1.out.next hb)
  have HB2 := hid (below_next HB1.out hb)
  have HO := hid ho
  clear hb ho HP1 HS1 HB1 HA
  obtain ⟨p0, p1, p2, p3, p4, p5, pf⟩ := HS2.out.read6
  rcases kind_cases s.k with ⟨k2, k3, hk⟩ | hk
  · have hE : ptE p s = 14 := if_pos hk
    have hP : ptP p s = [] := if_neg (by rw [hE]; decide)
    have HO1 := HO.out
    rw [hP] at HO1
    have hv := len0 HO1
    clear HO1 hP HO hk
    rw [hE]
    clear hE
    rcases hv with rfl | ⟨g, c, rfl⟩
    all_goals
      go_wp2_with fail
      go_ret
      exact ⟨rfl, HB2.out⟩
  · have hk' : s.k = 2 ∨ s.k = 3 := by rcases hk with ⟨_, h⟩ | ⟨_, _, h⟩ <;> omega
    have HE := hid (ptE_eq p s hk')
    have HG := hid (fun h => @ptE_good p s h)
    have HKP := hid (show ptP p s = if ptE p s = 0 then replP p s else [] from rfl)
    have key : ((s.k == 2) = true) ∨ ((s.k == 2) = false ∧ (s.k == 3) = true) := by rcases hk with ⟨h, _⟩ | ⟨h, h', _⟩; exact .inl h; exact .inr ⟨h, h'⟩
    clear hk hk'
    rcases key with k2 | ⟨k2, k3⟩
    all_goals
      go_wp2_with fail
      clear p0 p1 p2 p3 p4 p5 pf
      (with_reducible refine (rseg_any s false _).mono ?_); rintro e w3 ⟨rfl, hb⟩
      have HP3 := hid (HP2.out.next hb)
      have HS3 := hid (HS2.out.next hb)
      have HB3 := hid (below_next HB2.out hb)
      have HO3 := hid (own_next HO.out hb)
      clear hb HP2 HS2 HB2 HO
      rw [show (!false) = true from rfl]
      by_cases hc : chkSeg s true = 0
      · rw [hc]
        have HE1 := hid (HE.out.trans (if_pos hc))
        clear HE hc
        obtain ⟨q0, q1, qf⟩ := HP3.out.read2
        go_wp2_with fail
        clear q0 q1 qf
        by_cases hi : Co p.x p.y
        · (with_reducible refine (coord_b true _ _ _ (iff_of_true rfl hi)).mono ?_); rintro e w4 ⟨rfl, hb⟩
          have hE : ptE p s = 0 := HE1.out.trans (if_pos hi)
          have HP4 := hid (HP3.out.next hb)
          have HS4 := hid (HS3.out.next hb)
          have HB4 := hid (below_next HB3.out hb)
          have hO := own_next HO3.out hb
          rw [HKP.out, if_pos hE] at hO
          rw [hE]
          have HK := hid (HG.out hE).1
          have HL := hid (last_is hE)
          rw [HKP.out, if_pos hE] at HL
          obtain ⟨m, hm, hm2, -⟩ := HL.out
          obtain ⟨g, c, hv, -, hg, hr⟩ := own_row hO (by omega)
          rw [hm] at hv
          subst hv
          have HR := hid hr
          have HGL := hid hg
          have HM := hid hm
          clear hb HP3 HS3 HB3 HO3 hE HE1 HG HKP hi hO hr hg HL hm
          obtain ⟨p0, p1, p2, p3, p4, p5, pf⟩ := HS4.out.read6
          obtain ⟨q0, q1, qf⟩ := HP4.out.read2
          go_wp2_with fail
          clear p0 p1 p2 p3 p4 p5 pf q0 q1 qf
          (with_reducible refine (rcp_any p s _ HK.out).mono ?_); rintro e w5 ⟨v2, rfl, hO, hb⟩
          rw [HM.out] at hO
          obtain ⟨g2, c2, hv2, -, hg2, hr2⟩ := own_row hO (by omega)
          subst hv2
          have HB5 := hid (below_next HB4.out hb)
          have HR5 := hid (HR.out.next HGL.out hb)
          have HG5 := hid (Nat.lt_of_lt_of_le HGL.out hb.size)
          have HR6 := hid hr2
          have HG6 := hid hg2
          clear hb hO hr2 hg2 HR HGL HP4 HS4 HB4 HK
          go_wp2_with fail
          (with_reducible refine (samep_yes g g2 (m + 1) c c2 (replP p s) _ HM.out.symm (by omega) HR5.out HR6.out HG5.out HG6.out).mono ?_); rintro e w6 ⟨rfl, hb⟩
          have HB6 := hid (below_next HB5.out hb)
          clear hb HB5 HR5 HG5 HR6 HG6 HM
          go_wp2_with fail
          go_ret
          exact ⟨rfl, HB6.out⟩
        · (with_reducible refine (coord_b false _ _ _ (iff_of_false Bool.false_ne_true hi)).mono ?_); rintro e w4 ⟨rfl, hb⟩
          have hE : ptE p s = 3 := HE1.out.trans (if_neg hi)
          have HB4 := hid (below_next HB3.out hb)
          have hO := HO3.out
          rw [HKP.out, if_neg (by rw [hE]; decide)] at hO
          have hv := len0 hO
          rw [hE]
          clear hb HP3 HS3 HB3 HO3 hE HE1 HG HKP hi hO
          rcases hv with rfl | ⟨g, c, rfl⟩
          all_goals
            go_wp2_with fail
            go_ret
            exact ⟨rfl, HB4.out⟩
      · have hE : ptE p s = chkSeg s true := HE.out.trans (if_neg hc)
        have hO := HO3.out
        rw [HKP.out, if_neg (by rw [hE]; exact hc)] at hO
        have hv := len0 hO
        rw [hE]
        clear HP3 HS3 HO3 hE HE HG HKP hO
        generalize chkSeg s true = z at hc ⊢
        have h0 : (z == 0) = false := by simp [hc]
        have h1 : (z != 0) = true := by simp [hc]
        clear hc
        rcases hv with rfl | ⟨g, c, rfl⟩
        all_goals
          go_wp2_with fail
          go_ret
          exact ⟨rfl, HB3.out⟩
theorem rest (x0_0 x0_1 x1_0 x1_1 x1_2 x1_3 x1_4 x1_5 : Int) (W : World) : Calls Try.prog 7 #[.agg #[.int .i64 x0_0, .int .i64 x0_1], .agg #[.int .i64 x1_0, .int .i64 x1_1, .int .i64 x1_2, .int .i64 x1_3, .int .i64 x1_4, .int .i64 x1_5]] W fun e w' => e = .returned (.bool true) ∧ Below W.heap.size W w' :=
  core ⟨x0_0, x0_1⟩ ⟨x1_0, x1_1, x1_2, x1_3, x1_4, x1_5⟩ W

set_option maxRecDepth 100000 in
theorem lifted (os : Os) (started : os.Started) (H : Type) (enc : TypeId × Value → H) :
    ReturnsInHanded {} Try.checked os 7 .any (Rows.conicPointsExactSpec.pre6 enc Try.prog Try.f7 Rows.conicPointsExactRow.domain false) (Rows.conicPointsExactSpec.post enc Try.prog Try.f7 false true false false) := by
  refine returnsInHanded_of_change (C := Try.checked) own started (by kernel_rfl) Try.func7
    (ChangeSpec.witness6 (enc := enc) (C := Try.checked) false ⟨#[], #[.agg #[.int .i64 0, .int .i64 0], .agg #[.int .i64 0, .int .i64 0, .int .i64 0, .int .i64 0, .int .i64 0, .int .i64 0]], []⟩ 8 (by kernel_rfl) (by kernel_rfl) (by kernel_rfl) (by kernel_rfl)) ?_
  intro W base args ds gs before hval0 hW hcnd _
  have hval : ∀ (j : Nat) t v, Try.f7.params[j]? = some t → args[j]? = some v → Value.okWide Try.prog W .any base t v := hval0
  have hW' := hW
  obtain ⟨p, q, hA0, hV, rfl, hfz, hnd⟩ := hW
  have hA : DataW.TrodAll enc Try.prog W 0 (fun _ => true) true Try.f7.params.toList args.toList ds p := hA0
  rw [Try.params7] at hA hval
  obtain ⟨v0, vs0, d0, ds0, p0, q0, hargs, rfl, rfl, h0, r0⟩ := trodAll_cons hA
  obtain ⟨v1, vs1, d1, ds1, p1, q1, rfl, rfl, rfl, h1, r1⟩ := trodAll_cons r0
  obtain ⟨rfl, rfl, rfl⟩ := trodAll_nil r1
  obtain rfl : args = #[v0, v1] := by cases args; simp_all
  obtain ⟨rfl, rfl⟩ := trodVars_none hV
  have k0 := h0
  have lt0 : ∀ x ∈ p0, x.block < W.heap.size := by obtain ⟨m, hm⟩ := k0; exact DataW.trod_lt m _ _ _ hm
  obtain ⟨x0_0, x0_1, rfl⟩ := open_pt Try.underlying23 (by kernel_rfl) (by kernel_rfl) (by kernel_rfl) (hval 0 23 v0 rfl rfl) h0
  have k1 := h1
  have lt1 : ∀ x ∈ p1, x.block < W.heap.size := by obtain ⟨m, hm⟩ := k1; exact DataW.trod_lt m _ _ _ hm
  obtain ⟨x1_0, x1_1, x1_2, x1_3, x1_4, x1_5, rfl⟩ := open_mx Try.underlying25 (by kernel_rfl) (by kernel_rfl) (by kernel_rfl) (hval 1 25 v1 rfl rfl) h1
  clear hA0 hval0
  refine (rest x0_0 x0_1 x1_0 x1_1 x1_2 x1_3 x1_4 x1_5 W).mono fun e W' ⟨he, bel⟩ => ?_
  subst he
  exact ⟨_, rfl, _, _, _, [], _, [], hW', trodAll_mk1 (shut_bool Try.underlying4 _), (trodAll_cons_mk (Below.trod laidOut (by kernel_rfl) (of_decide_eq_true (by kernel_rfl)) k0 bel lt0) (trodAll_cons_mk (Below.trod laidOut (by kernel_rfl) (of_decide_eq_true (by kernel_rfl)) k1 bel lt1) trodAll_mk0)), rfl, bel.frame _, fun h => by cases h⟩

theorem over : Rows.conicPointsExactRow.holds Try.pinned (OpenSpec.ofChange Rows.conicPointsExactSpec) :=
  OpenClaim.holds_of_wide 7 Try.f7 rfl rfl rfl rfl rfl rfl rfl ⟨rfl, rfl, rfl, rfl, rfl⟩ rfl rfl rfl rfl rfl (by kernel_rfl) Try.func7 (by kernel_rfl)
    (of_decide_eq_true (by kernel_rfl)) (by unfold Func.isWrapper; first | (rw [if_pos (by decide +kernel)]; kernel_rfl) | (rw [if_neg (by decide +kernel)]; exact ⟨rfl, rfl⟩))
    (fun os started H enc _ => lifted os started H enc)

/-- The statement. -/
theorem proved : Rows.ConicPointsExactSaid := over
end Go.Proofs.Ytcdedefhofkbhaa.conicPointsExact
