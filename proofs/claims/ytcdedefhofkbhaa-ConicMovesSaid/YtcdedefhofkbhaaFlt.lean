/- What isFlatAt and division of a curve return. -/
import Derived.Test.YtcdedefhofkbhaaArcN
namespace Go.Proofs.Ytcdedefhofkbhaa
open Go Go.RowKit
set_option linter.unusedVariables false
set_option linter.unusedSimpArgs false

theorem enters_at : Enters Try.prog 44 := enters_of Try.func44 (by kernel_rfl) rfl
theorem enters_near : Enters Try.prog 56 := enters_of Try.func56 (by kernel_rfl) rfl
theorem at_over {W : World} {u v z : Value} {c : Cu} {k n : Int} {g : Bool} {w : World} (h : Over W g w) (hu : u = cuv c) (hv : v = .int .i64 k) (hz : z = .int .i64 n) (hc : InC c) (hk : InK c.w k n) :
    Calls Try.prog 44 #[u, v, z] w fun r w' => r = .returned (ptv (c.at k n)) ∧ Over W g w' := by
  subst hu hv hz
  exact (at_any c k n w hc hk).mono fun r w' ⟨hr, hb⟩ => ⟨hr, h.next hb⟩
theorem near_over {W : World} {u v z : Value} {m a b : P2} {g : Bool} {w : World} (h : Over W g w) (hu : u = ptv m) (hv : v = ptv a) (hz : z = ptv b) (hm : In3 m) (ha : In3 a) (hb : In3 b) :
    Calls Try.prog 56 #[u, v, z] w fun r w' => r = .returned (.bool (near m a b)) ∧ Over W g w' := by
  subst hu hv hz
  exact (near_any m a b w hm ha hb).mono fun r w' ⟨hr, hk⟩ => ⟨hr, h.next hk⟩
/-- Part k of n is flat. -/
def nearK (c : Cu) (n k : Nat) : Bool := near (c.at (2 * k + 1 : Nat) (2 * n : Nat)) (c.at k n) (c.at (k + 1 : Nat) n)
theorem flat_yes {c : Cu} {n : Nat} (h : ∀ k, k < n → nearK c n k = true) : c.flat n = true := List.all_eq_true.2 fun k hk => h k (List.mem_range.1 hk)
theorem flat_no {c : Cu} {n k : Nat} (hk : k < n) (h : nearK c n k = false) : c.flat n = false := by
  rw [Bool.eq_false_iff]
  intro ha
  have := List.all_eq_true.1 ha k (List.mem_range.2 hk)
  rw [show near _ _ _ = nearK c n k from rfl, h] at this
  cases this

set_option maxHeartbeats 3200000 in
set_option maxRecDepth 100000 in
theorem isFlat_any (c : Cu) (n : Nat) (w : World) (hc : InC c) (h1 : 1 ≤ n) (h2 : n ≤ 512) :
    Calls Try.prog 53 #[cuv c, .int .i64 n] w fun e w' => e = .returned (.bool (c.flat n)) ∧ Below w.heap.size w w' := by
  have HC := hid hc
  have IK := fun k (hk : k ≤ n) => hid (inK hc.w h1 (show n ≤ 1024 by omega) hk)
  have IM := fun k (hk : k < n) => hid (inK hc.w (show 1 ≤ 2 * n by omega) (show 2 * n ≤ 1024 by omega) (show 2 * k + 1 ≤ 2 * n by omega))
  have FY := hid (fun h => @flat_yes c n h)
  have FN := hid (fun k hk h => @flat_no c n k hk h)
  clear hc
  obtain ⟨W, hW⟩ : ∃ W, W = w.alloc (.cells (ccel c) 74) := ⟨_, rfl⟩
  have HV := hid (show Var W w.heap.size (ccel c) 74 by rw [hW]; exact Var.new w _ _ _ rfl)
  have HB := hid (show Below w.heap.size w W by rw [hW]; exact below_alloc (Below.refl _ w) _)
  go_enter Try.func53, Try.ntmps53
  go_upto_region 1 with fail
  rw [← hW]
  clear hW
  rename_i Kn hKn
  refine wp_region_lit ?_
  refine sq_start (n := 33) rfl fun a0 hs0 => ?_
  have ha0 := (((hs0.pin 1 (v := .int .i64 n) rfl).pin 2 (v := .pointer (some ⟨w.heap.size, 0, none⟩)) rfl).pin 4 (v := .bool false) rfl)
  clear hs0
  generalize (fun i => Array.getD _ i undef) = g0 at ha0
  refine sq_val ha0 rfl (run_loadCu rfl HV.out) fun a1 ha1 => ?_
  refine sq_val ha1 rfl rfl fun a2 ha2 => ?_
  refine sq_call (v := undef) (G := fun v w1 => v = ptv (c.at 0 n) ∧ Below W.heap.size W w1) ha2 rfl (run_call3 rfl enters_at) ((at_any c 0 n W HC.out (IK 0 (Nat.zero_le _)).out).mono fun e w1 h => ⟨_, h.1, rfl, h.2⟩) fun v w1 a3 hv ha3 => ?_
  obtain ⟨hv, hb⟩ := hv
  subst hv
  refine sq_val ha3 rfl run_allocPt fun a4 ha4 => ?_
  refine sq_skip ha4 (run_storePt rfl rfl (Var.new w1 _ _ _ rfl)) fun a5 ha5 => ?_
  refine wpList_nil ?_
  refine hKn _ _ ?_
  obtain ⟨gA, hg9, k1, k2, k4, k5⟩ : ∃ g9, Is a5 33 g9 ∧ g9 1 = .int .i64 (n) ∧ g9 2 = .pointer (some ⟨w.heap.size, 0, none⟩) ∧ g9 4 = .bool false ∧ g9 5 = .pointer (some ⟨w1.heap.size, 0, none⟩) := ⟨_, ha5, rfl, rfl, rfl, rfl⟩
  have hw := hg9.whole
  rw [show ((List.range 33).map gA).toArray = #[gA 0, gA 1, gA 2, gA 3, gA 4, gA 5, gA 6, gA 7, gA 8, gA 9, gA 10, gA 11, gA 12, gA 13, gA 14, gA 15, gA 16, gA 17, gA 18, gA 19, gA 20, gA 21, gA 22, gA 23, gA 24, gA 25, gA 26, gA 27, gA 28, gA 29, gA 30, gA 31, gA 32] from rfl] at hw
  rw [k1, k2, k4, k5] at hw
  subst hw
  clear hg9 k1 k2 k4 k5
  obtain ⟨w2, hw2⟩ : ∃ w2, w2 = ((w1.alloc (.cells #[.int .i64 0, .int .i64 0] 23)).setCell ⟨w1.heap.size, 0, none⟩ (.int .i64 (c.at 0 n).x)).setCell ⟨w1.heap.size, 1, none⟩ (.int .i64 (c.at 0 n).y) := ⟨_, rfl⟩
  have HL := hid (show w.heap.size < w1.heap.size from Nat.lt_of_lt_of_le HV.out.lt hb.size)
  have HV2 := hid (show Var w2 w.heap.size (ccel c) 74 by rw [hw2]; exact ((HV.out.next hb).alloc _).far2 (Nat.ne_of_lt HL.out))
  have HP2 := hid (show Var w2 w1.heap.size (pcel (c.at 0 n)) 23 by rw [hw2]; exact (Var.new w1 _ _ _ rfl).set2)
  have HB2 := hid (show Below w.heap.size w w2 by rw [hw2]; exact below_set2 (below_alloc (below_next HB.out hb) _) (Nat.le_of_lt HL.out))
  rw [← hw2]
  clear hw2 hb ha0 ha1 ha2 ha3 ha4 ha5 hKn Kn HV HB
  generalize w1.heap.size = b5 at HL HP2 ⊢
  go_wp2_with fail
  go_loopw [12] (fun s12 wr => ∃ k : Nat, k ≤ n ∧ s12 = .int .i64 k ∧ Hid (∀ j, j < k → nearK c n j = true) ∧ Hid (Var wr w.heap.size (ccel c) 74) ∧ Hid (Var wr b5 (pcel (c.at k n)) 23) ∧ Hid (Below w.heap.size w wr)) (fun s12 _ => n - (intOf s12).toNat)
  case atStart => exact ⟨0, Nat.zero_le _, rfl, hid (fun j hj => by omega), HV2, HP2, HB2⟩
  case round =>
    obtain ⟨k, hk, rfl, HF, HV, HP, HB⟩ := hrel
    clear HV2 HP2 HB2
    by_cases hlt : k < n
    · go_upto_region 5 with fail
      rename_i Kn hKn
      refine wp_region_lit ?_
      refine sq_start (n := 33) rfl fun a0 hs0 => ?_
      have ha0 := (((((((((((hs0.pin 0 (v := gA 0) rfl).pin 3 (v := gA 3) rfl).pin 8 (v := gA 8) rfl).pin 9 (v := gA 9) rfl).pin 10 (v := gA 10) rfl).pin 1 (v := .int .i64 n) rfl).pin 2 (v := .pointer (some ⟨w.heap.size, 0, none⟩)) rfl).pin 5 (v := .pointer (some ⟨b5, 0, none⟩)) rfl).pin 6 (v := .int .i64 k) rfl).pin 11 (v := .int .i64 n) rfl).pin 12 (v := .int .i64 k) rfl)
      clear hs0
      generalize (fun i => Array.getD _ i undef) = g0 at ha0
      refine sq_val ha0 rfl (run_loadCu rfl HV.out) fun a1 ha1 => ?_
      refine sq_val ha1 rfl rfl fun a2 ha2 => ?_
      refine sq_val ha2 rfl (run_add rfl rfl (by unfold Rg; omega)) fun a3 ha3 => ?_
      refine sq_val ha3 rfl rfl fun a4 ha4 => ?_
      refine sq_call (v := undef) (G := fun v w1 => v = ptv (c.at ((k + 1 : Nat) : Int) n) ∧ Below wr.heap.size wr w1) ha4 rfl (run_call3 rfl enters_at) (((at_any c ((k + 1 : Nat) : Int) n wr HC.out (IK (k + 1) hlt).out)).mono fun e w1 h => ⟨_, h.1, rfl, h.2⟩) fun v w1 a5 hv ha5 => ?_
      obtain ⟨hv, hb⟩ := hv
      subst hv
      refine sq_val ha5 rfl run_allocPt fun a6 ha6 => ?_
      refine sq_skip ha6 (run_storePt rfl rfl (Var.new w1 _ _ _ rfl)) fun a7 ha7 => ?_
      refine wpList_nil ?_
      refine hKn _ _ ?_
      obtain ⟨g9, hg9, k0, k3, k8, k9, k10, k1, k2, k5, k6, k7, k11, k12⟩ : ∃ g9, Is a7 33 g9 ∧ g9 0 = gA 0 ∧ g9 3 = gA 3 ∧ g9 8 = gA 8 ∧ g9 9 = gA 9 ∧ g9 10 = gA 10 ∧ g9 1 = .int .i64 (n) ∧ g9 2 = .pointer (some ⟨w.heap.size, 0, none⟩) ∧ g9 5 = .pointer (some ⟨b5, 0, none⟩) ∧ g9 6 = .int .i64 (k) ∧ g9 7 = .pointer (some ⟨w1.heap.size, 0, none⟩) ∧ g9 11 = .int .i64 (n) ∧ g9 12 = .int .i64 (k) := ⟨_, ha7, rfl, rfl, rfl, rfl, rfl, rfl, rfl, rfl, rfl, rfl, rfl, rfl⟩
      have hw := hg9.whole
      rw [show ((List.range 33).map g9).toArray = #[g9 0, g9 1, g9 2, g9 3, g9 4, g9 5, g9 6, g9 7, g9 8, g9 9, g9 10, g9 11, g9 12, g9 13, g9 14, g9 15, g9 16, g9 17, g9 18, g9 19, g9 20, g9 21, g9 22, g9 23, g9 24, g9 25, g9 26, g9 27, g9 28, g9 29, g9 30, g9 31, g9 32] from rfl] at hw
      rw [k0, k3, k8, k9, k10, k1, k2, k5, k6, k7, k11, k12] at hw
      subst hw
      clear hg9 k0 k3 k8 k9 k10 k1 k2 k5 k6 k7 k11 k12
      obtain ⟨w2, hw2⟩ : ∃ w2, w2 = ((w1.alloc (.cells #[.int .i64 0, .int .i64 0] 23)).setCell ⟨w1.heap.size, 0, none⟩ (.int .i64 (c.at ((k + 1 : Nat) : Int) n).x)).setCell ⟨w1.heap.size, 1, none⟩ (.int .i64 (c.at ((k + 1 : Nat) : Int) n).y) := ⟨_, rfl⟩
      have HL1 := hid (show w.heap.size < w1.heap.size from Nat.lt_of_lt_of_le HV.out.lt hb.size)
      have HL5 := hid (show b5 < w1.heap.size from Nat.lt_of_lt_of_le HP.out.lt hb.size)
      have HV1 := hid (show Var w2 w.heap.size (ccel c) 74 by rw [hw2]; exact ((HV.out.next hb).alloc _).far2 (Nat.ne_of_lt HL1.out))
      have HP1 := hid (show Var w2 b5 (pcel (c.at k n)) 23 by rw [hw2]; exact ((HP.out.next hb).alloc _).far2 (Nat.ne_of_lt HL5.out))
      have HQ1 := hid (show Var w2 w1.heap.size (pcel (c.at ((k + 1 : Nat) : Int) n)) 23 by rw [hw2]; exact (Var.new w1 _ _ _ rfl).set2)
      have HB1 := hid (show Below w.heap.size w w2 by rw [hw2]; exact below_set2 (below_alloc (below_next HB.out hb) _) (Nat.le_of_lt HL1.out))
      rw [← hw2]
      clear hw2 hb ha0 ha1 ha2 ha3 ha4 ha5 ha6 ha7 hKn Kn HV HB HP
      generalize w1.heap.size = b7 at HL1 HL5 HQ1 ⊢
      clear w1
      go_upto_region 6 with fail
      have IN1 := (IK k (Nat.le_of_lt hlt)).out
      have IN2 := (IK (k + 1) hlt).out
      have IN3 := (IM k hlt).out
      have g1 : Rg (2 * (k : Int)) := by unfold Rg; omega
      have g2 : Rg (2 * (k : Int) + 1) := by unfold Rg; omega
      have g3 : Rg (2 * (n : Int)) := by unfold Rg; omega
      rename_i Kn hKn
      refine wp_region_fan 10 1000 (Over w2) (by kernel_rfl) (by kernel_rfl) (Over.start w2) ?_
      simp only [List.take_succ_cons, List.take_zero, List.drop_succ_cons, List.drop_zero]
      have L0 := fun v w1 (h : Over w2 v w1) => Over.var HV1.out h
      have L1 := fun v w1 (h : Over w2 v w1) => Over.var HP1.out h
      have L2 := fun v w1 (h : Over w2 v w1) => Over.var HQ1.out h
      refine WalksE.sound _ _ _ _ ?_ (((((((((((((Is.start _ (n := 33) rfl).pin 0 (v := gA 0) rfl).pin 3 (v := gA 3) rfl).pin 8 (v := gA 8) rfl).pin 9 (v := gA 9) rfl).pin 10 (v := gA 10) rfl).pin 1 (v := .int .i64 (n)) rfl).pin 2 (v := .pointer (some ⟨w.heap.size, 0, none⟩)) rfl).pin 5 (v := .pointer (some ⟨b5, 0, none⟩)) rfl).pin 6 (v := .int .i64 (k)) rfl).pin 7 (v := .pointer (some ⟨b7, 0, none⟩)) rfl).pin 11 (v := .int .i64 (n)) rfl).pin 12 (v := .int .i64 (k)) rfl)
      generalize (fun i => Array.getD _ i undef) = g
      refine walks_with fun KQ hKQ => ?_
      (refine walks_one fun K hK => ?_); refine st_read rfl rfl (fun _ _ h => run_loadCu rfl (L0 _ _ h)) ?_; refine hK _ ?_; clear hK K
      (refine walks_one fun K hK => ?_); refine st_pure rfl rfl (fun _ => rfl) ?_; refine hK _ ?_; clear hK K
      (refine walks_one fun K hK => ?_); refine st_pure rfl rfl (fun _ => run_mul rfl rfl g1) ?_; refine hK _ ?_; clear hK K
      (refine walks_one fun K hK => ?_); refine st_pure rfl rfl (fun _ => run_add rfl rfl g2) ?_; refine hK _ ?_; clear hK K
      (refine walks_one fun K hK => ?_); refine st_pure rfl rfl (fun _ => rfl) ?_; refine hK _ ?_; clear hK K
      (refine walks_one fun K hK => ?_); refine st_pure rfl rfl (fun _ => run_mul rfl rfl g3) ?_; refine hK _ ?_; clear hK K
      (refine walks_one fun K hK => ?_); refine st_call rfl rfl (fun _ => run_call3 rfl enters_at) (fun _ _ h => at_over h rfl rfl rfl HC.out IN3) ?_; refine hK _ ?_; clear hK K
      (refine walks_one fun K hK => ?_); refine st_read rfl rfl (fun _ _ h => run_loadPt rfl (L1 _ _ h)) ?_; refine hK _ ?_; clear hK K
      (refine walks_one fun K hK => ?_); refine st_read rfl rfl (fun _ _ h => run_loadPt rfl (L2 _ _ h)) ?_; refine hK _ ?_; clear hK K
      (refine walks_one fun K hK => ?_); refine st_call rfl rfl (fun _ => run_call3 rfl enters_near) (fun _ _ h => near_over h rfl rfl rfl (at_in HC.out IN3) (at_in HC.out IN1) (at_in HC.out IN2)) ?_; refine hK _ ?_; clear hK K
      refine walks_end fun a9 ha9 => hKQ _ fun w1 hC => ?_
      have e29 : a9.eval (.tmp 29) = .bool (nearK c n k) := by rw [ha9.eval]; rfl
      refine sq_val (v := .bool (!(nearK c n k))) ha9 rfl (run_not ((congrFun ha9.eval _).symm.trans e29)) fun a10 ha10 => ?_
      refine wpList_nil ?_
      refine hKn _ _ ?_
      obtain ⟨g9, hg9, k0, k3, k8, k9, k10, k1, k2, k5, k6, k7, k11, k12, k30⟩ : ∃ g9, Is a10 33 g9 ∧ g9 0 = gA 0 ∧ g9 3 = gA 3 ∧ g9 8 = gA 8 ∧ g9 9 = gA 9 ∧ g9 10 = gA 10 ∧ g9 1 = .int .i64 (n) ∧ g9 2 = .pointer (some ⟨w.heap.size, 0, none⟩) ∧ g9 5 = .pointer (some ⟨b5, 0, none⟩) ∧ g9 6 = .int .i64 (k) ∧ g9 7 = .pointer (some ⟨b7, 0, none⟩) ∧ g9 11 = .int .i64 (n) ∧ g9 12 = .int .i64 (k) ∧ g9 30 = .bool (!(nearK c n k)) := ⟨_, ha10, rfl, rfl, rfl, rfl, rfl, rfl, rfl, rfl, rfl, rfl, rfl, rfl, rfl⟩
      have hw := hg9.whole
      rw [show ((List.range 33).map g9).toArray = #[g9 0, g9 1, g9 2, g9 3, g9 4, g9 5, g9 6, g9 7, g9 8, g9 9, g9 10, g9 11, g9 12, g9 13, g9 14, g9 15, g9 16, g9 17, g9 18, g9 19, g9 20, g9 21, g9 22, g9 23, g9 24, g9 25, g9 26, g9 27, g9 28, g9 29, g9 30, g9 31, g9 32] from rfl] at hw
      rw [k0, k3, k8, k9, k10, k1, k2, k5, k6, k7, k11, k12, k30] at hw
      subst hw
      clear hg9 k0 k3 k8 k9 k10 k1 k2 k5 k6 k7 k11 k12 k30
      have HV := hid (HV1.out.next hC)
      have HP := hid (HP1.out.next hC)
      have HQ := hid (HQ1.out.next hC)
      have HB3 := hid (below_next HB1.out hC)
      clear hC e29 ha9 ha10 L0 L1 L2 hKQ KQ hKn Kn HV1 HP1 HQ1 HB1 IN1 IN2 IN3 g1 g2 g3
      cases hn : nearK c n k
      · have HN := hid (FN.out k hlt hn)
        clear hn
        go_wp2_with fail
        go_ret
        exact ⟨ret1_bool HN.out.symm, HB3.out⟩
      · have HF1 := hid (show ∀ j, j < k + 1 → nearK c n j = true from fun j hj => by
          by_cases e : j = k
          · rw [e]; exact hn
          · exact HF.out j (by omega))
        clear hn HF
        obtain ⟨q0, q1, qf⟩ := HQ.out.read2
        obtain ⟨p0, p1, pf⟩ := HP.out.read2
        go_wp2_with fail
        clear q0 q1 qf p0 p1 pf
        go_roundw
        case rel => exact ⟨k + 1, by omega, by go_num, HF1, hid (HV.out.far2 (by have := HV.out.lt; have := HL.out; omega)), hid HP.out.set2, hid (below_set2 HB3.out (by have := HL.out; omega))⟩
        case measure => simp [intOf]; omega
    · have HN := hid (FY.out (fun j hj => HF.out j (by omega)))
      go_wp2_with fail
      go_ret
      exact ⟨ret1_bool HN.out.symm, HB.out⟩

end Go.Proofs.Ytcdedefhofkbhaa
