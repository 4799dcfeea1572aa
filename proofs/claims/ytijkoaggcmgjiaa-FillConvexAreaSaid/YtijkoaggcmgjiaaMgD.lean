/- Put together by merge.py: CoFlt, CoChk, CoSlc, CoRepl, CoPnt, CoCut, CoArcs, CoRChk, CoRCheck, CoStepB, CoApd, CoWords, CoLnM, CoMApp, CoLnW, CoFlatn. -/
import Derived.Test.YtijkoaggcmgjiaaMgC
import Derived.Laws.AppendOwn
import Derived.Laws.OwnMore
import Derived.OwnWalk
import Derived.Deep.AppendLies
import Derived.Lib.Join
import Derived.Lib.ItoaLen

/- What isFlatAt and division of a curve return. -/
namespace Go.Proofs.Ytijkoaggcmgjiaa.Co
open Go Go.RowKit
set_option linter.unusedVariables false
set_option linter.unusedSimpArgs false

theorem enters_at : Enters Try.prog 111 := enters_of Try.func111 (by kernel_rfl) rfl
theorem enters_near : Enters Try.prog 157 := enters_of Try.func157 (by kernel_rfl) rfl
theorem at_over {W : World} {u v z : Value} {c : Cu} {k n : Int} {g : Bool} {w : World} (h : Over W g w) (hu : u = cuv c) (hv : v = .int .i64 k) (hz : z = .int .i64 n) (hc : InC c) (hk : InK c.w k n) :
    Calls Try.prog 111 #[u, v, z] w fun r w' => r = .returned (ptv (c.at k n)) ∧ Over W g w' := by
  subst hu hv hz
  exact (at_any c k n w hc hk).mono fun r w' ⟨hr, hb⟩ => ⟨hr, h.next hb⟩
theorem near_over {W : World} {u v z : Value} {m a b : P2} {g : Bool} {w : World} (h : Over W g w) (hu : u = ptv m) (hv : v = ptv a) (hz : z = ptv b) (hm : In3 m) (ha : In3 a) (hb : In3 b) :
    Calls Try.prog 157 #[u, v, z] w fun r w' => r = .returned (.bool (near m a b)) ∧ Over W g w' := by
  subst hu hv hz
  exact (near_any m a b w hm ha hb).mono fun r w' ⟨hr, hk⟩ => ⟨hr, h.next hk⟩
/-- Part k of n is flat. -/
def nearK (c : Cu) (n k : Nat) : Bool := near (c.at (2 * k + 1 : Nat) (2 * n : Nat)) (c.at k n) (c.at (k + 1 : Nat) n)
theorem flat_yes {c : Cu} {n : Nat} (h : ∀ k, k < n → nearK c n k = true) : c.flat n = true := List.all_eq_true.2 fun k hk => h k (List.mem_range.1 hk)
theorem flat_no {c : Cu} {n k : Nat} (hk : k < n) (h : nearK c n k = false) : c.flat n = false := by
  rw [Bool.eq_false_iff]
  intro ha
  have := List.all_eq_true.1 ha k (List.mem_range.2 hk)
  rw [show near _ _ _ = nearK c n k from rfl, h] at this
  cases this

set_option maxHeartbeats 3200000 in
set_option maxRecDepth 100000 in
theorem isFlat_any (c : Cu) (n : Nat) (w : World) (hc : InC c) (h1 : 1 ≤ n) (h2 : n ≤ 512) :
    Calls Try.prog 127 #[cuv c, .int .i64 n] w fun e w' => e = .returned (.bool (c.flat n)) ∧ Below w.heap.size w w' := by
  have HC := hid hc
  have IK := fun k (hk : k ≤ n) => hid (inK hc.w h1 (show n ≤ 1024 by omega) hk)
  have IM := fun k (hk : k < n) => hid (inK hc.w (show 1 ≤ 2 * n by omega) (show 2 * n ≤ 1024 by omega) (show 2 * k + 1 ≤ 2 * n by omega))
  have FY := hid (fun h => @flat_yes c n h)
  have FN := hid (fun k hk h => @flat_no c n k hk h)
  clear hc
  obtain ⟨W, hW⟩ : ∃ W, W = w.alloc (.cells (ccel c) 149) := ⟨_, rfl⟩
  have HV := hid (show Var W w.heap.size (ccel c) 149 by rw [hW]; exact Var.new w _ _ _ rfl)
  have HB := hid (show Below w.heap.size w W by rw [hW]; exact below_alloc (Below.refl _ w) _)
  go_enter Try.func127, Try.ntmps127
  go_upto_region 1 with fail
  rw [← hW]
  clear hW
  rename_i Kn hKn
  refine wp_region_lit ?_
  refine sq_start (n := 33) rfl fun a0 hs0 => ?_
  have ha0 := (((hs0.pin 1 (v := .int .i64 n) rfl).pin 2 (v := .pointer (some ⟨w.heap.size, 0, none⟩)) rfl).pin 4 (v := .bool false) rfl)
  clear hs0
  generalize (fun i => Array.getD _ i undef) = g0 at ha0
  refine sq_val ha0 rfl (run_loadCu rfl HV.out) fun a1 ha1 => ?_
  refine sq_val ha1 rfl rfl fun a2 ha2 => ?_
  refine sq_call (v := undef) (G := fun v w1 => v = ptv (c.at 0 n) ∧ Below W.heap.size W w1) ha2 rfl (run_call3 rfl enters_at) ((at_any c 0 n W HC.out (IK 0 (Nat.zero_le _)).out).mono fun e w1 h => ⟨_, h.1, rfl, h.2⟩) fun v w1 a3 hv ha3 => ?_
  obtain ⟨hv, hb⟩ := hv
  subst hv
  refine sq_val ha3 rfl run_allocPt fun a4 ha4 => ?_
  refine sq_skip ha4 (run_storePt rfl rfl (Var.new w1 _ _ _ rfl)) fun a5 ha5 => ?_
  refine wpList_nil ?_
  refine hKn _ _ ?_
  obtain ⟨gA, hg9, k1, k2, k4, k5⟩ : ∃ g9, Is a5 33 g9 ∧ g9 1 = .int .i64 (n) ∧ g9 2 = .pointer (some ⟨w.heap.size, 0, none⟩) ∧ g9 4 = .bool false ∧ g9 5 = .pointer (some ⟨w1.heap.size, 0, none⟩) := ⟨_, ha5, rfl, rfl, rfl, rfl⟩
  have hw := hg9.whole
  rw [show ((List.range 33).map gA).toArray = #[gA 0, gA 1, gA 2, gA 3, gA 4, gA 5, gA 6, gA 7, gA 8, gA 9, gA 10, gA 11, gA 12, gA 13, gA 14, gA 15, gA 16, gA 17, gA 18, gA 19, gA 20, gA 21, gA 22, gA 23, gA 24, gA 25, gA 26, gA 27, gA 28, gA 29, gA 30, gA 31, gA 32] from rfl] at hw
  rw [k1, k2, k4, k5] at hw
  subst hw
  clear hg9 k1 k2 k4 k5
  obtain ⟨w2, hw2⟩ : ∃ w2, w2 = ((w1.alloc (.cells #[.int .i64 0, .int .i64 0] 40)).setCell ⟨w1.heap.size, 0, none⟩ (.int .i64 (c.at 0 n).x)).setCell ⟨w1.heap.size, 1, none⟩ (.int .i64 (c.at 0 n).y) := ⟨_, rfl⟩
  have HL := hid (show w.heap.size < w1.heap.size from Nat.lt_of_lt_of_le HV.out.lt hb.size)
  have HV2 := hid (show Var w2 w.heap.size (ccel c) 149 by rw [hw2]; exact ((HV.out.next hb).alloc _).far2 (Nat.ne_of_lt HL.out))
  have HP2 := hid (show Var w2 w1.heap.size (pcel (c.at 0 n)) 40 by rw [hw2]; exact (Var.new w1 _ _ _ rfl).set2)
  have HB2 := hid (show Below w.heap.size w w2 by rw [hw2]; exact below_set2 (below_alloc (below_next HB.out hb) _) (Nat.le_of_lt HL.out))
  rw [← hw2]
  clear hw2 hb ha0 ha1 ha2 ha3 ha4 ha5 hKn Kn HV HB
  generalize w1.heap.size = b5 at HL HP2 ⊢
  go_wp2_with fail
  go_loopw [12] (fun s12 wr => ∃ k : Nat, k ≤ n ∧ s12 = .int .i64 k ∧ Hid (∀ j, j < k → nearK c n j = true) ∧ Hid (Var wr w.heap.size (ccel c) 149) ∧ Hid (Var wr b5 (pcel (c.at k n)) 40) ∧ Hid (Below w.heap.size w wr)) (fun s12 _ => n - (intOf s12).toNat)
  case atStart => exact ⟨0, Nat.zero_le _, rfl, hid (fun j hj => by omega), HV2, HP2, HB2⟩
  case round =>
    obtain ⟨k, hk, rfl, HF, HV, HP, HB⟩ := hrel
    clear HV2 HP2 HB2
    by_cases hlt : k < n
    · go_upto_region 5 with fail
      rename_i Kn hKn
      refine wp_region_lit ?_
      refine sq_start (n := 33) rfl fun a0 hs0 => ?_
      have ha0 := (((((((((((hs0.pin 0 (v := gA 0) rfl).pin 3 (v := gA 3) rfl).pin 8 (v := gA 8) rfl).pin 9 (v := gA 9) rfl).pin 10 (v := gA 10) rfl).pin 1 (v := .int .i64 n) rfl).pin 2 (v := .pointer (some ⟨w.heap.size, 0, none⟩)) rfl).pin 5 (v := .pointer (some ⟨b5, 0, none⟩)) rfl).pin 6 (v := .int .i64 k) rfl).pin 11 (v := .int .i64 n) rfl).pin 12 (v := .int .i64 k) rfl)
      clear hs0
      generalize (fun i => Array.getD _ i undef) = g0 at ha0
      refine sq_val ha0 rfl (run_loadCu rfl HV.out) fun a1 ha1 => ?_
      refine sq_val ha1 rfl rfl fun a2 ha2 => ?_
      refine sq_val ha2 rfl (run_add rfl rfl (by unfold Rg; omega)) fun a3 ha3 => ?_
      refine sq_val ha3 rfl rfl fun a4 ha4 => ?_
      refine sq_call (v := undef) (G := fun v w1 => v = ptv (c.at ((k + 1 : Nat) : Int) n) ∧ Below wr.heap.size wr w1) ha4 rfl (run_call3 rfl enters_at) (((at_any c ((k + 1 : Nat) : Int) n wr HC.out (IK (k + 1) hlt).out)).mono fun e w1 h => ⟨_, h.1, rfl, h.2⟩) fun v w1 a5 hv ha5 => ?_
      obtain ⟨hv, hb⟩ := hv
      subst hv
      refine sq_val ha5 rfl run_allocPt fun a6 ha6 => ?_
      refine sq_skip ha6 (run_storePt rfl rfl (Var.new w1 _ _ _ rfl)) fun a7 ha7 => ?_
      refine wpList_nil ?_
      refine hKn _ _ ?_
      obtain ⟨g9, hg9, k0, k3, k8, k9, k10, k1, k2, k5, k6, k7, k11, k12⟩ : ∃ g9, Is a7 33 g9 ∧ g9 0 = gA 0 ∧ g9 3 = gA 3 ∧ g9 8 = gA 8 ∧ g9 9 = gA 9 ∧ g9 10 = gA 10 ∧ g9 1 = .int .i64 (n) ∧ g9 2 = .pointer (some ⟨w.heap.size, 0, none⟩) ∧ g9 5 = .pointer (some ⟨b5, 0, none⟩) ∧ g9 6 = .int .i64 (k) ∧ g9 7 = .pointer (some ⟨w1.heap.size, 0, none⟩) ∧ g9 11 = .int .i64 (n) ∧ g9 12 = .int .i64 (k) := ⟨_, ha7, rfl, rfl, rfl, rfl, rfl, rfl, rfl, rfl, rfl, rfl, rfl, rfl⟩
      have hw := hg9.whole
      rw [show ((List.range 33).map g9).toArray = #[g9 0, g9 1, g9 2, g9 3, g9 4, g9 5, g9 6, g9 7, g9 8, g9 9, g9 10, g9 11, g9 12, g9 13, g9 14, g9 15, g9 16, g9 17, g9 18, g9 19, g9 20, g9 21, g9 22, g9 23, g9 24, g9 25, g9 26, g9 27, g9 28, g9 29, g9 30, g9 31, g9 32] from rfl] at hw
      rw [k0, k3, k8, k9, k10, k1, k2, k5, k6, k7, k11, k12] at hw
      subst hw
      clear hg9 k0 k3 k8 k9 k10 k1 k2 k5 k6 k7 k11 k12
      obtain ⟨w2, hw2⟩ : ∃ w2, w2 = ((w1.alloc (.cells #[.int .i64 0, .int .i64 0] 40)).setCell ⟨w1.heap.size, 0, none⟩ (.int .i64 (c.at ((k + 1 : Nat) : Int) n).x)).setCell ⟨w1.heap.size, 1, none⟩ (.int .i64 (c.at ((k + 1 : Nat) : Int) n).y) := ⟨_, rfl⟩
      have HL1 := hid (show w.heap.size < w1.heap.size from Nat.lt_of_lt_of_le HV.out.lt hb.size)
      have HL5 := hid (show b5 < w1.heap.size from Nat.lt_of_lt_of_le HP.out.lt hb.size)
      have HV1 := hid (show Var w2 w.heap.size (ccel c) 149 by rw [hw2]; exact ((HV.out.next hb).alloc _).far2 (Nat.ne_of_lt HL1.out))
      have HP1 := hid (show Var w2 b5 (pcel (c.at k n)) 40 by rw [hw2]; exact ((HP.out.next hb).alloc _).far2 (Nat.ne_of_lt HL5.out))
      have HQ1 := hid (show Var w2 w1.heap.size (pcel (c.at ((k + 1 : Nat) : Int) n)) 40 by rw [hw2]; exact (Var.new w1 _ _ _ rfl).set2)
      have HB1 := hid (show Below w.heap.size w w2 by rw [hw2]; exact below_set2 (below_alloc (below_next HB.out hb) _) (Nat.le_of_lt HL1.out))
      rw [← hw2]
      clear hw2 hb ha0 ha1 ha2 ha3 ha4 ha5 ha6 ha7 hKn Kn HV HB HP
      generalize w1.heap.size = b7 at HL1 HL5 HQ1 ⊢
      clear w1
      go_upto_region 6 with fail
      have IN1 := (IK k (Nat.le_of_lt hlt)).out
      have IN2 := (IK (k + 1) hlt).out
      have IN3 := (IM k hlt).out
      have g1 : Rg (2 * (k : Int)) := by unfold Rg; omega
      have g2 : Rg (2 * (k : Int) + 1) := by unfold Rg; omega
      have g3 : Rg (2 * (n : Int)) := by unfold Rg; omega
      rename_i Kn hKn
      refine wp_region_fan 10 1000 (Over w2) (by kernel_rfl) (by kernel_rfl) (Over.start w2) ?_
      simp only [List.take_succ_cons, List.take_zero, List.drop_succ_cons, List.drop_zero]
      have L0 := fun v w1 (h : Over w2 v w1) => Over.var HV1.out h
      have L1 := fun v w1 (h : Over w2 v w1) => Over.var HP1.out h
      have L2 := fun v w1 (h : Over w2 v w1) => Over.var HQ1.out h
      refine WalksE.sound _ _ _ _ ?_ (((((((((((((Is.start _ (n := 33) rfl).pin 0 (v := gA 0) rfl).pin 3 (v := gA 3) rfl).pin 8 (v := gA 8) rfl).pin 9 (v := gA 9) rfl).pin 10 (v := gA 10) rfl).pin 1 (v := .int .i64 (n)) rfl).pin 2 (v := .pointer (some ⟨w.heap.size, 0, none⟩)) rfl).pin 5 (v := .pointer (some ⟨b5, 0, none⟩)) rfl).pin 6 (v := .int .i64 (k)) rfl).pin 7 (v := .pointer (some ⟨b7, 0, none⟩)) rfl).pin 11 (v := .int .i64 (n)) rfl).pin 12 (v := .int .i64 (k)) rfl)
      generalize (fun i => Array.getD _ i undef) = g
      refine walks_with fun KQ hKQ => ?_
      (refine walks_one fun K hK => ?_); refine st_read rfl rfl (fun _ _ h => run_loadCu rfl (L0 _ _ h)) ?_; refine hK _ ?_; clear hK K
      (refine walks_one fun K hK => ?_); refine st_pure rfl rfl (fun _ => rfl) ?_; refine hK _ ?_; clear hK K
      (refine walks_one fun K hK => ?_); refine st_pure rfl rfl (fun _ => run_mul rfl rfl g1) ?_; refine hK _ ?_; clear hK K
      (refine walks_one fun K hK => ?_); refine st_pure rfl rfl (fun _ => run_add rfl rfl g2) ?_; refine hK _ ?_; clear hK K
      (refine walks_one fun K hK => ?_); refine st_pure rfl rfl (fun _ => rfl) ?_; refine hK _ ?_; clear hK K
      (refine walks_one fun K hK => ?_); refine st_pure rfl rfl (fun _ => run_mul rfl rfl g3) ?_; refine hK _ ?_; clear hK K
      (refine walks_one fun K hK => ?_); refine st_call rfl rfl (fun _ => run_call3 rfl enters_at) (fun _ _ h => at_over h rfl rfl rfl HC.out IN3) ?_; refine hK _ ?_; clear hK K
      (refine walks_one fun K hK => ?_); refine st_read rfl rfl (fun _ _ h => run_loadPt rfl (L1 _ _ h)) ?_; refine hK _ ?_; clear hK K
      (refine walks_one fun K hK => ?_); refine st_read rfl rfl (fun _ _ h => run_loadPt rfl (L2 _ _ h)) ?_; refine hK _ ?_; clear hK K
      (refine walks_one fun K hK => ?_); refine st_call rfl rfl (fun _ => run_call3 rfl enters_near) (fun _ _ h => near_over h rfl rfl rfl (at_in HC.out IN3) (at_in HC.out IN1) (at_in HC.out IN2)) ?_; refine hK _ ?_; clear hK K
      refine walks_end fun a9 ha9 => hKQ _ fun w1 hC => ?_
      have e29 : a9.eval (.tmp 29) = .bool (nearK c n k) := by rw [ha9.eval]; rfl
      refine sq_val (v := .bool (!(nearK c n k))) ha9 rfl (run_not ((congrFun ha9.eval _).symm.trans e29)) fun a10 ha10 => ?_
      refine wpList_nil ?_
      refine hKn _ _ ?_
      obtain ⟨g9, hg9, k0, k3, k8, k9, k10, k1, k2, k5, k6, k7, k11, k12, k30⟩ : ∃ g9, Is a10 33 g9 ∧ g9 0 = gA 0 ∧ g9 3 = gA 3 ∧ g9 8 = gA 8 ∧ g9 9 = gA 9 ∧ g9 10 = gA 10 ∧ g9 1 = .int .i64 (n) ∧ g9 2 = .pointer (some ⟨w.heap.size, 0, none⟩) ∧ g9 5 = .pointer (some ⟨b5, 0, none⟩) ∧ g9 6 = .int .i64 (k) ∧ g9 7 = .pointer (some ⟨b7, 0, none⟩) ∧ g9 11 = .int .i64 (n) ∧ g9 12 = .int .i64 (k) ∧ g9 30 = .bool (!(nearK c n k)) := ⟨_, ha10, rfl, rfl, rfl, rfl, rfl, rfl, rfl, rfl, rfl, rfl, rfl, rfl, rfl⟩
      have hw := hg9.whole
      rw [show ((List.range 33).map g9).toArray = #[g9 0, g9 1, g9 2, g9 3, g9 4, g9 5, g9 6, g9 7, g9 8, g9 9, g9 10, g9 11, g9 12, g9 13, g9 14, g9 15, g9 16, g9 17, g9 18, g9 19, g9 20, g9 21, g9 22, g9 23, g9 24, g9 25, g9 26, g9 27, g9 28, g9 29, g9 30, g9 31, g9 32] from rfl] at hw
      rw [k0, k3, k8, k9, k10, k1, k2, k5, k6, k7, k11, k12, k30] at hw
      subst hw
      clear hg9 k0 k3 k8 k9 k10 k1 k2 k5 k6 k7 k11 k12 k30
      have HV := hid (HV1.out.next hC)
      have HP := hid (HP1.out.next hC)
      have HQ := hid (HQ1.out.next hC)
      have HB3 := hid (below_next HB1.out hC)
      clear hC e29 ha9 ha10 L0 L1 L2 hKQ KQ hKn Kn HV1 HP1 HQ1 HB1 IN1 IN2 IN3 g1 g2 g3
      cases hn : nearK c n k
      · have HN := hid (FN.out k hlt hn)
        clear hn
        go_wp2_with fail
        go_ret
        exact ⟨ret1_bool HN.out.symm, HB3.out⟩
      · have HF1 := hid (show ∀ j, j < k + 1 → nearK c n j = true from fun j hj => by
          by_cases e : j = k
          · rw [e]; exact hn
          · exact HF.out j (by omega))
        clear hn HF
        obtain ⟨q0, q1, qf⟩ := HQ.out.read2
        obtain ⟨p0, p1, pf⟩ := HP.out.read2
        go_wp2_with fail
        clear q0 q1 qf p0 p1 pf
        go_roundw
        case rel => exact ⟨k + 1, by omega, by go_num, HF1, hid (HV.out.far2 (by have := HV.out.lt; have := HL.out; omega)), hid HP.out.set2, hid (below_set2 HB3.out (by have := HL.out; omega))⟩
        case measure => simp [intOf]; omega
    · have HN := hid (FY.out (fun j hj => HF.out j (by omega)))
      go_wp2_with fail
      go_ret
      exact ⟨ret1_bool HN.out.symm, HB.out⟩

end Go.Proofs.Ytijkoaggcmgjiaa.Co

/- What Check of package path and the reference's PathCheck return. -/
namespace Go.Proofs.Ytijkoaggcmgjiaa.Co
open Go Go.RowKit
set_option linter.unusedVariables false

/-- The error of a segment, behind an open subpath or not. -/
def chkSeg (s : Sg) (o : Bool) : Int :=
  if s.k < 1 ∨ 4 < s.k then 14 else if o = false ∧ s.k ≠ 1 then 18 else if s ≠ mean s then 4 else if ¬ Wi 32767 [s.x, s.y, s.u, s.v] then 3
  else if s.k = 3 ∧ (s.w < 16 ∨ 4096 < s.w) then 3 else 0

theorem enters_meaning : Enters Try.prog 126 := enters_of Try.func126 (by kernel_rfl) rfl
theorem meaning_over {W : World} {u : Value} {s : Sg} {g : Bool} {w : World} (h : Over W g w) (hu : u = seg s) : Calls Try.prog 126 #[u] w fun r w' => r = .returned (seg (mean s)) ∧ Over W g w' := by
  subst hu
  exact (meaning_any _ w).mono fun r w' ⟨hr, hb⟩ => ⟨hr, h.next hb⟩

theorem checkSeg_kind (s : Sg) (o : Bool) (w : World) (h : s.k < 1 ∨ 4 < s.k) :
    Calls Try.prog 107 #[seg s, .bool o] w fun e w' => e = .returned (.int .i64 14) ∧ Below w.heap.size w w' := by
  by_cases h1 : s.k < 1
  · clear h
    go_enter Try.func107, Try.ntmps107
    go_wp2_with fail
    go_ret
    exact ⟨rfl, below_alloc (Below.refl _ w) _⟩
  · have h2 : 4 < s.k := by omega
    clear h
    go_enter Try.func107, Try.ntmps107
    go_wp2_with fail
    go_ret
    exact ⟨rfl, below_alloc (Below.refl _ w) _⟩

theorem checkSeg_order (s : Sg) (w : World) (h1 : 1 ≤ s.k) (h2 : s.k ≤ 4) (h3 : s.k ≠ 1) :
    Calls Try.prog 107 #[seg s, .bool false] w fun e w' => e = .returned (.int .i64 18) ∧ Below w.heap.size w w' := by
  have h4 : (s.k != 1) = true := by simp [h3]
  go_enter Try.func107, Try.ntmps107
  go_wp2_with fail
  go_ret
  exact ⟨rfl, below_alloc (Below.refl _ w) _⟩

set_option maxHeartbeats 1000000 in
theorem checkSeg_rest (s : Sg) (o : Bool) (r : Int) (w : World) (h1 : 1 ≤ s.k) (h2 : s.k ≤ 4) (h3 : o = true ∨ s.k = 1)
    (hr : r = if s ≠ mean s then 4 else if ¬ Wi 32767 [s.x, s.y, s.u, s.v] then 3 else if s.k = 3 ∧ (s.w < 16 ∨ 4096 < s.w) then 3 else 0) :
    Calls Try.prog 107 #[seg s, .bool o] w fun e w' => e = .returned (.int .i64 r) ∧ Below w.heap.size w w' := by
  have HR := hid hr
  clear hr
  obtain ⟨W, hW⟩ : ∃ W, W = w.alloc (.cells (cel s) 97) := ⟨_, rfl⟩
  have HV := hid (show Var W w.heap.size (cel s) 97 by rw [hW]; exact Var.new _ _ _ _ rfl)
  have HB := hid (show Below w.heap.size w W by rw [hW]; exact below_alloc (Below.refl _ w) _)
  have hk : o = true ∨ o = false ∧ (s.k != 1) = false := by rcases h3 with h | h; exact .inl h; cases o; exact .inr ⟨rfl, by simp [h]⟩; exact .inl rfl
  clear h3
  rcases hk with rfl | ⟨rfl, hk⟩
  all_goals
    go_enter Try.func107, Try.ntmps107
    go_upto_region 5 with fail
    rw [← hW]
    clear hW h1 h2
    rename_i Kn hKn
    refine wp_region_fan 3 1000 (Over W) (by kernel_rfl) (by kernel_rfl) (Over.start W) ?_
    simp only [List.take_succ_cons, List.take_zero, List.drop_succ_cons, List.drop_zero]
    have L2 := fun b w1 (h : Over W b w1) => Over.seg HV.out.segAt HV.out.lt h
    refine WalksE.sound _ _ _ _ ?_ ((Is.start _ (n := 48) rfl).pin 2 (v := .pointer (some ⟨w.heap.size, 0, none⟩)) rfl)
    generalize (fun i => Array.getD _ i undef) = g
    refine walks_with fun KQ hKQ => ?_
    (refine walks_one fun K hK => ?_); refine st_loadSeg L2 rfl rfl rfl ?_; refine hK _ ?_; clear hK K
    (refine walks_one fun K hK => ?_); refine st_loadSeg L2 rfl rfl rfl ?_; refine hK _ ?_; clear hK K
    (refine walks_one fun K hK => ?_); refine st_call rfl rfl (fun _ => run_call1 rfl enters_meaning) (fun _ _ h => meaning_over h rfl) ?_; refine hK _ ?_; clear hK K
    refine walks_end fun a9 ha9 => hKQ _ fun w1 hC => ?_
    have e20 : a9.eval (.tmp 20) = seg s := by rw [ha9.eval]; rfl
    have e22 : a9.eval (.tmp 22) = seg (mean s) := by rw [ha9.eval]; rfl
    refine tailV rfl rfl (run_neSeg e20 e22) ?_
    refine hKn _ _ ?_
    obtain ⟨g9, hg9, h2, h23⟩ : ∃ g9, Is (a9.put (some 23) (.bool (decide (s ≠ mean s)))) 48 g9 ∧ g9 2 = .pointer (some ⟨w.heap.size, 0, none⟩) ∧ g9 23 = .bool (decide (s ≠ mean s)) := ⟨_, ha9.put (d := 23) (by decide) _, rfl, rfl⟩
    have hw := hg9.whole
    rw [show ((List.range 48).map g9).toArray = #[g9 0, g9 1, g9 2, g9 3, g9 4, g9 5, g9 6, g9 7, g9 8, g9 9, g9 10, g9 11, g9 12, g9 13, g9 14, g9 15, g9 16, g9 17, g9 18, g9 19, g9 20, g9 21, g9 22, g9 23, g9 24, g9 25, g9 26, g9 27, g9 28, g9 29, g9 30, g9 31, g9 32, g9 33, g9 34, g9 35, g9 36, g9 37, g9 38, g9 39, g9 40, g9 41, g9 42, g9 43, g9 44, g9 45, g9 46, g9 47] from rfl] at hw
    rw [h2, h23] at hw
    rw [hw]
    have HV1 := hid (HV.out.next hC)
    have HB1 := hid (below_next HB.out hC)
    clear hw hC hg9 h2 h23 ha9 e20 e22 hKQ L2 KQ hKn HV HB
    by_cases hm : s = mean s
    · rw [if_neg (by simpa using hm)] at HR
      rw [show decide (s ≠ mean s) = false by simpa using hm]
      clear hm
      obtain ⟨p0, p1, p2, p3, p4, p5, pf⟩ := HV1.out.read6
      go_wp2_with fail
      clear p0 p1 p2 p3 p4 p5 pf
      (with_reducible refine (within_any 32767 [s.x, s.y, s.u, s.v] _ _ _ 4 _ (by omega) (by simp) rfl (Var.new w1 _ _ _ rfl).lies4).mono ?_); rintro x0 w2 ⟨rfl, hw⟩
      have HV2 := hid (show Var w2 _ _ _ by rw [← hw]; exact HV1.out.alloc _)
      have HB2 := hid (show Below _ _ w2 by rw [← hw]; exact below_alloc HB1.out _)
      clear hw HV1 HB1
      by_cases hwi : Wi 32767 [s.x, s.y, s.u, s.v]
      · rw [if_neg (by simpa using hwi)] at HR
        rw [show decide (Wi 32767 [s.x, s.y, s.u, s.v]) = true by simpa using hwi]
        clear hwi
        obtain ⟨p0, p1, p2, p3, p4, p5, pf⟩ := HV2.out.read6
        by_cases h3 : s.k = 3
        · by_cases h4 : s.w < 16
          · rw [if_pos ⟨h3, .inl h4⟩] at HR
            go_wp2_with fail
            go_ret
            exact ⟨(congrArg (fun z => Ending.returned (Value.int .i64 z)) HR.out).symm, HB2.out⟩
          · by_cases h5 : 4096 < s.w
            · rw [if_pos ⟨h3, .inr h5⟩] at HR
              go_wp2_with fail
              go_ret
              exact ⟨(congrArg (fun z => Ending.returned (Value.int .i64 z)) HR.out).symm, HB2.out⟩
            · rw [if_neg (by omega)] at HR
              go_wp2_with fail
              go_ret
              exact ⟨(congrArg (fun z => Ending.returned (Value.int .i64 z)) HR.out).symm, HB2.out⟩
        · rw [if_neg (by omega)] at HR
          go_wp2_with fail
          go_ret
          exact ⟨(congrArg (fun z => Ending.returned (Value.int .i64 z)) HR.out).symm, HB2.out⟩
      · rw [if_pos (by simpa using hwi)] at HR
        rw [show decide (Wi 32767 [s.x, s.y, s.u, s.v]) = false by simpa using hwi]
        clear hwi
        go_wp2_with fail
        go_ret
        exact ⟨(congrArg (fun z => Ending.returned (Value.int .i64 z)) HR.out).symm, HB2.out⟩
    · rw [if_pos (by simpa using hm)] at HR
      rw [show decide (s ≠ mean s) = true by simpa using hm]
      clear hm
      go_wp2_with fail
      go_ret
      exact ⟨(congrArg (fun z => Ending.returned (Value.int .i64 z)) HR.out).symm, HB1.out⟩

theorem checkSeg_any (s : Sg) (o : Bool) (w : World) : Calls Try.prog 107 #[seg s, .bool o] w fun e w' => e = .returned (.int .i64 (chkSeg s o)) ∧ Below w.heap.size w w' := by
  unfold chkSeg
  by_cases h1 : s.k < 1 ∨ 4 < s.k
  · rw [if_pos h1]; exact checkSeg_kind s o w h1
  · rw [if_neg h1]
    by_cases h2 : o = false ∧ s.k ≠ 1
    · rw [if_pos h2]; obtain ⟨rfl, h3⟩ := h2; exact checkSeg_order s w (by omega) (by omega) h3
    · rw [if_neg h2]
      refine checkSeg_rest s o _ w (by omega) (by omega) ?_ rfl
      cases o
      · exact .inr (Classical.byContradiction fun h => h2 ⟨rfl, h⟩)
      · exact .inl rfl

/-- The first error of the segments behind an open subpath or not. -/
def chkAll : Bool → List Sg → Int
  | _, [] => 0
  | o, s :: r => if chkSeg s o = 0 then chkAll (decide (s.k ≠ 4)) r else chkSeg s o
def chk (ss : List Sg) : Int := if 1000 < ss.length then 2 else chkAll false ss
theorem chkAll_at {o : Bool} {ss : List Sg} {j : Nat} (h : j < ss.length) : chkAll o (ss.drop j) = if chkSeg ss[j] o = 0 then chkAll (decide (ss[j].k ≠ 4)) (ss.drop (j + 1)) else chkSeg ss[j] o := by
  rw [List.drop_eq_getElem_cons h, chkAll]

theorem bne_dec (a b : Int) : (a != b) = decide (a ≠ b) := by by_cases h : a = b <;> simp [h]

theorem chk_le {ss : List Sg} (h : chk ss = 0) : ss.length ≤ 1000 := by
  unfold chk at h
  split at h <;> omega

theorem check_large (A : Option Addr) (n c : Nat) (w : World) (h : 1000 < n) :
    Calls Try.prog 64 #[.slice A n c] w fun e w' => e = .returned (.int .i64 2) ∧ Below w.heap.size w w' := by
  go_enter Try.func64, Try.ntmps64
  go_wp2_with fail
  go_ret
  exact ⟨rfl, Below.refl _ w⟩

set_option maxHeartbeats 1000000 in
theorem check_rest (A : Option Addr) (ss : List Sg) (n c : Nat) (w : World) (hn : n = ss.length) (h : n ≤ 1000) (hs : Segs w A ss) :
    Calls Try.prog 64 #[.slice A n c] w fun e w' => e = .returned (.int .i64 (chkAll false ss)) ∧ Below w.heap.size w w' := by
  have HS := hid hs
  have HN := hid hn
  clear hs hn
  go_enter Try.func64, Try.ntmps64
  go_wp2_with fail
  go_loopw [3, 12] (fun s3 s12 wr => ∃ (j : Nat) (o : Bool), j ≤ n ∧ s12 = .int .i64 j ∧ s3 = .bool o ∧ Hid (chkAll false ss = chkAll o (ss.drop j)) ∧ Hid (Below w.heap.size w wr)) (fun _ s12 _ => n - (intOf s12).toNat)
  case atStart => exact ⟨0, false, Nat.zero_le _, rfl, rfl, hid rfl, hid (Below.refl _ w)⟩
  case round =>
    obtain ⟨j, o, hj, rfl, rfl, HC, HB⟩ := hrel
    by_cases hlt : j < n
    · have hjl : j < ss.length := by rw [← HN.out]; exact hlt
      obtain ⟨a, rfl, hal, hsa⟩ := (HS.out.next HB.out).at_ hjl
      have HC' := hid (HC.out.trans (chkAll_at hjl))
      generalize ss[j] = g at hsa HC'
      obtain ⟨c0, c1, c2, c3, c4, c5⟩ := hsa
      have HW := hid (Var.new wr (cel g) 97 _ rfl)
      go_wp2_with fail
      (with_reducible refine (checkSeg_any g o _).mono ?_); rintro x0 w1 ⟨rfl, hb⟩
      have HW1 := hid (HW.out.next hb)
      have HB1 := hid (below_next (below_alloc HB.out (.cells (cel g) 97)) hb)
      clear hb HW HB c0 c1 c2 c3 c4 c5
      by_cases he : chkSeg g o = 0
      · rw [if_pos he] at HC'
        rw [he]
        clear he
        obtain ⟨p0, p1, p2, p3, p4, p5, pf⟩ := HW1.out.read6
        go_wp2_with fail
        clear p0 p1 p2 p3 p4 p5 pf
        go_roundw
        case rel => exact ⟨j + 1, decide (g.k ≠ 4), by omega, by go_num, congrArg Value.bool (bne_dec _ _), HC', HB1⟩
        case measure => simp [intOf]; omega
      · rw [if_neg he] at HC'
        have hne : (chkSeg g o != 0) = true := by simp [he]
        clear he
        go_wp2_with fail
        go_ret
        exact ⟨congrArg (fun z => Ending.returned (Value.int .i64 z)) HC'.out.symm, HB1.out⟩
    · have hd : chkAll o (ss.drop j) = 0 := by rw [List.drop_eq_nil_of_le (by rw [← HN.out]; omega)]; rfl
      have HD := hid (HC.out.trans hd)
      clear hd HC
      go_wp2_with fail
      go_ret
      exact ⟨congrArg (fun z => Ending.returned (Value.int .i64 z)) HD.out.symm, HB.out⟩

theorem check_any (A : Option Addr) (ss : List Sg) (n c : Nat) (w : World) (hn : n = ss.length) (hs : n ≤ 1000 → Segs w A ss) :
    Calls Try.prog 64 #[.slice A n c] w fun e w' => e = .returned (.int .i64 (chk ss)) ∧ Below w.heap.size w w' := by
  unfold chk
  by_cases h : 1000 < ss.length
  · rw [if_pos h]; exact check_large A n c w (by omega)
  · rw [if_neg h]; exact check_rest A ss n c w hn (by omega) (hs (by omega))

end Go.Proofs.Ytijkoaggcmgjiaa.Co

/- Slices of segments that a function makes: literals, appended ones; and what Rectangle of package path returns. -/
namespace Go.Proofs.Ytijkoaggcmgjiaa.Co
open Go Go.RowKit
set_option linter.unusedVariables false

/-- The cells of segments, one behind the other. -/
def flat (ss : List Sg) : List Value := ss.flatMap fun s => (cel s).toList
theorem flat_cons (s : Sg) (r : List Sg) : flat (s :: r) = (cel s).toList ++ flat r := rfl
theorem flat_append (a b : List Sg) : flat (a ++ b) = flat a ++ flat b := by simp [flat]
theorem flat_length : ∀ ss : List Sg, (flat ss).length = ss.length * 6
  | [] => rfl
  | s :: r => by rw [flat_cons, List.length_append, flat_length r]; simp; omega
theorem flat_get : ∀ (ss : List Sg) (i j : Nat) (s : Sg), ss[i]? = some s → j < 6 → (flat ss)[i * 6 + j]? = (cel s)[j]?
  | [], i, j, s, h, _ => by simp at h
  | g :: r, 0, j, s, h, hj => by
    obtain rfl : g = s := by simpa using h
    rw [flat_cons, List.getElem?_append_left (by simpa using by omega)]
    simp
  | g :: r, i + 1, j, s, h, hj => by
    have h' : r[i]? = some s := by simpa using h
    rw [flat_cons, List.getElem?_append_right (by simp; omega)]
    rw [show (i + 1) * 6 + j - (cel g).toList.length = i * 6 + j by simp; omega]
    exact flat_get r i j s h' hj

theorem segAt_of {w : World} {a : Addr} {s : Sg} (h : ∀ i, i < 6 → w.cell? (a.add i) = (cel s)[i]?) : SegAt w a s :=
  ⟨by have := h 0 (by omega); exact this, h 1 (by omega), h 2 (by omega), h 3 (by omega), h 4 (by omega), h 5 (by omega)⟩
/-- A block whose first cells are those of the segments. -/
theorem segs_block {w : World} {g : Nat} {ss : List Sg} (hg : g < w.heap.size) (h : ∀ j u, (flat ss)[j]? = some u → w.cell? ⟨g, j, none⟩ = some u) : Segs w (some ⟨g, 0, none⟩) ss := fun _ => ⟨_, rfl, hg, fun i s hs => segAt_of fun j hj => by
  have e : (⟨g, 0, none⟩ : Addr).add (i * 6) = ⟨g, i * 6, none⟩ := by unfold Addr.add; split <;> simp_all
  have e' : (⟨g, i * 6, none⟩ : Addr).add j = ⟨g, i * 6 + j, none⟩ := by unfold Addr.add; split <;> simp_all
  have h1 := flat_get ss i j s hs hj
  have h2 : (cel s)[j]? = some ((cel s)[j]'(by simpa using hj)) := Array.getElem?_eq_getElem _
  rw [e, e', h2]
  exact h _ _ (h1.trans h2)⟩
theorem Var.segs {w : World} {g : Nat} {ss : List Sg} {t : TypeId} (h : Var w g (flat ss).toArray t) : Segs w (some ⟨g, 0, none⟩) ss := segs_block h.lt fun j u hu => by
  rw [h.cell]
  simpa using hu
theorem own_segs {w : World} {B n : Nat} {v : Value} {ss : List Sg} (h : w.ownsRow B 97 6 v n (flat ss)) : ∃ A c, v = .slice A n c ∧ n = ss.length ∧ Segs w A ss := by
  have hl : n = ss.length := by have := h.1; rw [flat_length] at this; omega
  rcases h.2 with ⟨rfl, h0⟩ | ⟨g, cap, cur, rfl, hB, hg, hnc, hcm, hcs, htake⟩
  · subst h0
    have : ss = [] := List.eq_nil_of_length_eq_zero hl.symm
    subst this
    exact ⟨none, 0, rfl, rfl, Segs.nil _ _⟩
  · refine ⟨some ⟨g, 0, none⟩, cap, rfl, hl, segs_block (Array.getElem?_eq_some_iff.1 hg).1 fun j u hu => ?_⟩
    have := h.cells (g := g) rfl j u hu
    rwa [show (⟨g, 0, none⟩ : Addr).add j = ⟨g, j, none⟩ by unfold Addr.add; split <;> simp_all] at this

/-! ### Rectangle -/
def rectE (x0 y0 x1 y1 : Int) : Int := if ¬ Wi 32767 [x0, y0, x1, y1] then 3 else if x1 ≤ x0 ∨ y1 ≤ y0 then 18 else 0
def rectP (x0 y0 x1 y1 : Int) : List Sg := [⟨1, x0, y0, 0, 0, 0⟩, ⟨2, x1, y0, 0, 0, 0⟩, ⟨2, x1, y1, 0, 0, 0⟩, ⟨2, x0, y1, 0, 0, 0⟩, ⟨4, 0, 0, 0, 0, 0⟩]
def rectS (x0 y0 x1 y1 : Int) : List Sg := if rectE x0 y0 x1 y1 = 0 then rectP x0 y0 x1 y1 else []

end Go.Proofs.Ytijkoaggcmgjiaa.Co

/- What division, end and replacement of package conic return. -/
namespace Go.Proofs.Ytijkoaggcmgjiaa.Co
open Go Go.RowKit
set_option linter.unusedVariables false
set_option linter.unusedSimpArgs false

set_option maxHeartbeats 800000 in
theorem division_any (c : Cu) (w : World) (hc : InC c) :
    Calls Try.prog 110 #[cuv c] w fun e w' => e = .returned (.int .i64 c.dv) ∧ Below w.heap.size w w' := by
  have HC := hid hc
  clear hc
  have HD := hid (show c.dv = dvF c.flat 9 1 from rfl)
  obtain ⟨W, hW⟩ : ∃ W, W = w.alloc (.cells (ccel c) 149) := ⟨_, rfl⟩
  have HV := hid (show Var W w.heap.size (ccel c) 149 by rw [hW]; exact Var.new w _ _ _ rfl)
  have HB := hid (show Below w.heap.size w W by rw [hW]; exact below_alloc (Below.refl _ w) _)
  generalize c.dv = D at HD
  go_enter Try.func110, Try.ntmps110
  go_upto_region 1 with fail
  rw [← hW]
  clear hW
  go_wp2_with fail
  go_loopw [3] (fun s3 wr => ∃ (f n : Nat), s3 = .int .i64 n ∧ Hid (n * 2 ^ f = 512) ∧ 1 ≤ n ∧ n ≤ 512 ∧ Hid (D = dvF c.flat f n) ∧ Hid (Var wr w.heap.size (ccel c) 149) ∧ Hid (Below w.heap.size w wr)) (fun s3 _ => 512 - (intOf s3).toNat)
  case atStart => exact ⟨9, 1, rfl, hid (by decide), by omega, by omega, HD, HV, HB⟩
  case round =>
    obtain ⟨f, n, rfl, HN, hn1, hn2, HE, HV1, HB1⟩ := hrel
    clear HD HV HB
    cases f with
    | zero =>
      have hn : n = 512 := by have := HN.out; simpa using this
      subst hn
      have HE' := hid (show D = 512 from HE.out)
      clear HE HN
      go_wp2_with fail
      go_ret
      exact ⟨ret1_int (by rw [HE'.out]), HB1.out⟩
    | succ f =>
      have hlt : n < 512 := by
        have h := HN.out
        rw [Nat.pow_succ] at h
        have h1 : 1 ≤ 2 ^ f := Nat.one_le_two_pow
        have h2 := Nat.mul_le_mul_left n (show 2 ≤ 2 ^ f * 2 by omega)
        omega
      have HN2 := hid (show 2 * n * 2 ^ f = 512 by have h := HN.out; rw [Nat.pow_succ] at h; rw [Nat.mul_assoc, Nat.mul_left_comm, Nat.mul_comm 2]; exact h)
      have h256 : n ≤ 256 := by
        have h := HN2.out
        have h1 : 1 ≤ 2 ^ f := Nat.one_le_two_pow
        have h2 := Nat.mul_le_mul_left (2 * n) h1
        omega
      clear HN
      have hlt' : ((n : Int)) < 512 := by omega
      have hltb : decide ((n : Int) < 512) = true := by simp; omega
      obtain ⟨p0, p1, p2, p3, p4, p5, p6, pf⟩ := HV1.out.read7
      go_wp2_with fail
      clear p0 p1 p2 p3 p4 p5 p6 pf
      (with_reducible refine (isFlat_any c n _ HC.out hn1 hn2).mono ?_); rintro x0 w1 ⟨rfl, hb⟩
      have HV2 := hid (HV1.out.next hb)
      have HB2 := hid (below_next HB1.out hb)
      clear hb HV1 HB1
      cases hf : c.flat n
      · have HE2 := hid (show D = dvF c.flat f (2 * n) by have h := HE.out; unfold dvF at h; rw [hf] at h; exact h)
        clear hf HE
        go_wp2_with fail
        go_roundw
        case rel => exact ⟨f, 2 * n, by go_num, HN2, by omega, by omega, HE2, HV2, HB2⟩
        case measure => simp [intOf]; omega
      · have HE2 := hid (show D = n by have h := HE.out; unfold dvF at h; rw [hf] at h; exact h)
        clear hf HE
        go_wp2_with fail
        go_ret
        exact ⟨ret1_int (by rw [HE2.out]), HB2.out⟩

theorem end_any (s : Sg) (w : World) : Calls Try.prog 67 #[seg s] w fun e w' => e = .returned (pt s.x s.y) ∧ Below w.heap.size w w' := by
  go_enter Try.func67, Try.ntmps67
  go_wp2
  exact retP (x := s.x) (y := s.y) Try.results67 rfl (Var.new (w.alloc _) _ _ (w.heap.size + 1) (by simp)) ⟨rfl, below_alloc (below_alloc (Below.refl _ w) _) _⟩

/-! ### rows of points -/
/-- The cells of points, one behind the other. -/
def pfl (ps : List P2) : List Value := ps.flatMap fun p => [.int .i64 p.x, .int .i64 p.y]
theorem pfl_length : ∀ ps : List P2, (pfl ps).length = ps.length * 2
  | [] => rfl
  | p :: r => by
    have := pfl_length r
    show (([.int .i64 p.x, .int .i64 p.y] : List Value) ++ pfl r).length = _
    rw [List.length_append, this]
    simp; omega
theorem pfl_append (a b : List P2) : pfl (a ++ b) = pfl a ++ pfl b := by simp [pfl]
theorem pfl_get : ∀ (ps : List P2) (i : Nat) (p : P2), ps[i]? = some p → (pfl ps)[i * 2]? = some (.int .i64 p.x) ∧ (pfl ps)[i * 2 + 1]? = some (.int .i64 p.y)
  | q :: r, 0, p, h => by
    obtain rfl : q = p := by simpa using h
    exact ⟨rfl, rfl⟩
  | q :: r, i + 1, p, h => by
    have := pfl_get r i p (by simpa using h)
    show ((.int .i64 q.x : Value) :: .int .i64 q.y :: pfl r)[(i + 1) * 2]? = _ ∧ ((.int .i64 q.x : Value) :: .int .i64 q.y :: pfl r)[(i + 1) * 2 + 1]? = _
    rw [show (i + 1) * 2 = i * 2 + 1 + 1 by omega]
    simpa using this
/-- A list of cells that has the points' cells is the points' cells. -/
theorem pfl_of {ps : List P2} {cs : List Value} (hl : cs.length = ps.length * 2) (h : ∀ i p, ps[i]? = some p → cs[i * 2]? = some (.int .i64 p.x) ∧ cs[i * 2 + 1]? = some (.int .i64 p.y)) : cs = pfl ps := by
  apply List.ext_getElem?
  intro j
  rcases Nat.lt_or_ge j (ps.length * 2) with hj | hj
  · obtain ⟨i, r, rfl, hr⟩ : ∃ i r, j = i * 2 + r ∧ r < 2 := ⟨j / 2, j % 2, by omega, by omega⟩
    have hi : i < ps.length := by omega
    have h1 := h i _ (List.getElem?_eq_getElem hi)
    have h2 := pfl_get ps i _ (List.getElem?_eq_getElem hi)
    rcases (show r = 0 ∨ r = 1 by omega) with rfl | rfl
    · exact h1.1.trans h2.1.symm
    · exact h1.2.trans h2.2.symm
  · rw [List.getElem?_eq_none (by omega), List.getElem?_eq_none (by rw [pfl_length]; omega)]
theorem pfl_int (ps : List P2) : ∀ u ∈ pfl ps, u.oneCell' = true := by
  intro u hu
  obtain ⟨p, _, hp⟩ := List.mem_flatMap.1 hu
  rcases (by simpa using hp : u = .int .i64 p.x ∨ u = .int .i64 p.y) with rfl | rfl <;> rfl
theorem own_of_var {w : World} {B g : Nat} {ps : List P2} {cs : Array Value} (hv : Var w g cs 40) (hB : B ≤ g) (hc : cs.toList = pfl ps) (hm : ps.length ≤ maxLen) :
    w.ownsRow B 40 2 (.slice (some ⟨g, 0, none⟩) ps.length ps.length) ps.length (pfl ps) := by
  have hs : cs.size = ps.length * 2 := by rw [← Array.length_toList, hc, pfl_length]
  exact ⟨pfl_length ps, .inr ⟨g, ps.length, cs, rfl, hB, hv, Nat.le_refl _, hm, hs, by rw [hc, List.take_of_length_le (by rw [pfl_length]; exact Nat.le_refl _)]⟩⟩
/-- A call that returns a new row of points. -/
def GivesPts (ps : List P2) (w : World) (e : Ending) (w' : World) : Prop := ∃ v, e = .returned v ∧ w'.ownsRow w.heap.size 40 2 v ps.length (pfl ps) ∧ Below w.heap.size w w'
/-! ### replacement -/
def cuOf (p : P2) (s : Sg) : Cu := ⟨p, ⟨s.u, s.v⟩, ⟨s.x, s.y⟩, s.w⟩
/-- The points that replace a segment. -/
def replP (p : P2) (s : Sg) : List P2 := if s.k = 2 then [⟨s.x, s.y⟩] else (cuOf p s).pts
theorem enters_end : Enters Try.prog 67 := enters_of Try.func67 (by kernel_rfl) rfl

set_option maxHeartbeats 800000 in
theorem repl_line (p : P2) (s : Sg) (w : World) (h : s.k = 2) : Calls Try.prog 68 #[ptv p, seg s] w (GivesPts [⟨s.x, s.y⟩] w) := by
  have h2 : (s.k == 2) = true := by simp [h]
  clear h
  obtain ⟨W, hW⟩ : ∃ W, W = (w.alloc (.cells (pcel p) 40)).alloc (.cells (cel s) 97) := ⟨_, rfl⟩
  have HS := hid (show Var W (w.heap.size + 1) (cel s) 97 by rw [hW]; exact Var.new (w.alloc _) _ _ _ (by simp))
  have HB := hid (show Below w.heap.size w W by rw [hW]; exact below_alloc (below_alloc (Below.refl _ w) _) _)
  go_enter Try.func68, Try.ntmps68
  go_upto_region 1 with fail
  rw [← hW]
  clear hW
  obtain ⟨p0, p1, p2, p3, p4, p5, pf⟩ := HS.out.read6
  go_wp2_with fail
  clear p0 p1 p2 p3 p4 p5 pf
  (with_reducible refine (end_any s _).mono ?_); rintro x0 w1 ⟨rfl, hb⟩
  have HB1 := hid (below_next HB.out hb)
  clear hb HB HS
  go_wp2_with fail
  go_ret
  exact ⟨_, rfl, own_of_var (ps := [⟨s.x, s.y⟩]) (Var.new w1 _ _ _ rfl) HB1.out.size rfl (by show 1 ≤ maxLen; unfold maxLen; decide), below_alloc HB1.out _⟩

theorem infoPt : (Try.prog.info? 40).map (fun i => (i.zero, i.size, i.bytes)) = some (some (pt 0 0), 2, 16) := by kernel_rfl
theorem run_makePts {ρ : Operand → Value} {dst : Option Tmp} {ty : TypeId} {pos : String} {af : Array Edge} {x y : Operand} {w : World} {gd : Option (Nat × Bool)} {n : Nat} (hx : ρ x = .int .i64 n) (hy : ρ y = .int .i64 n) (hn : n ≤ 100000) :
    ∃ w', (execOp ρ { dst := dst, op := .makeSlice 36 x y, type := ty, pos := pos, after := af, guard := gd }).run Try.prog w = .ok (.value (.slice (some ⟨w.heap.size, 0, none⟩) n n)) w' ∧
      ∃ cs : Array Value, Var w' w.heap.size cs 40 ∧ cs.size = n * 2 ∧ Below w.heap.size w w' := by
  have e := infoPt
  cases hi : Try.prog.info? 40 with
  | none => rw [hi] at e; cases e
  | some i =>
    rw [hi] at e
    simp only [Option.map_some, Option.some.injEq, Prod.mk.injEq] at e
    obtain ⟨w', hr, ho, hg⟩ := run_make_full (P := Try.prog) w w.heap.size 36 40 i (pt 0 0) 2 (by kernel_rfl) hi e.1 e.2.1 .i64 .i64 n (by rw [e.2.2]; omega) (by unfold maxLen; omega) (Nat.le_refl _)
    refine ⟨w', by simp [execOp, hx, hy, hr, Result.andThen], ?_⟩
    rcases ho.2 with ⟨hv, _⟩ | ⟨g, cap, cur, hv, hb, hh, hc1, hc2, hsz, _⟩
    · cases hv
    · injection hv with hv _ hcap
      injection hv with hv
      injection hv with hv
      subst hv hcap
      exact ⟨cur, hh, hsz, ⟨hg.os, hg.tape, hg.output, hg.size, fun k hk => hg.block k hk (by simp)⟩⟩
theorem addr0 (g n : Nat) : (⟨g, 0, none⟩ : Addr).add n = ⟨g, n, none⟩ := by
  unfold Addr.add
  split
  · subst_vars; rfl
  · simp
theorem set_row {cs : Array Value} {k : Nat} {f : Nat → P2} (hk : k * 2 + 1 < cs.size) (h : ∀ j, j < k → cs[j * 2]? = some (.int .i64 (f j).x) ∧ cs[j * 2 + 1]? = some (.int .i64 (f j).y)) :
    ∀ j, j < k + 1 → ((cs.setIfInBounds (k * 2) (.int .i64 (f k).x)).setIfInBounds (k * 2 + 1) (.int .i64 (f k).y))[j * 2]? = some (.int .i64 (f j).x) ∧ ((cs.setIfInBounds (k * 2) (.int .i64 (f k).x)).setIfInBounds (k * 2 + 1) (.int .i64 (f k).y))[j * 2 + 1]? = some (.int .i64 (f j).y) := by
  intro j hj
  by_cases e : j = k
  · subst e
    constructor
    · rw [Array.getElem?_setIfInBounds_ne (by omega), Array.getElem?_setIfInBounds_self_of_lt (by omega)]
    · rw [Array.getElem?_setIfInBounds_self_of_lt (by simp; omega)]
  · rw [Array.getElem?_setIfInBounds_ne (by omega), Array.getElem?_setIfInBounds_ne (by omega), Array.getElem?_setIfInBounds_ne (by omega), Array.getElem?_setIfInBounds_ne (by omega)]
    exact h j (by omega)
theorem pts_at {c : Cu} {k : Nat} (h : k < c.dv) : c.pts[k]? = some (c.at ((k + 1 : Nat) : Int) c.dv) := by
  unfold Cu.pts
  rw [List.getElem?_map, List.getElem?_range h]
  rfl

set_option maxHeartbeats 3200000 in
set_option maxRecDepth 100000 in
theorem repl_curve (p : P2) (s : Sg) (w : World) (h : s.k = 3) (hc : InC (cuOf p s)) : Calls Try.prog 68 #[ptv p, seg s] w (GivesPts (cuOf p s).pts w) := by
  have h2 : (s.k == 2) = false := by simp [h]
  have HC := hid hc
  clear h hc
  have HD := hid (dv_bd (cuOf p s))
  obtain ⟨W, hW⟩ : ∃ W, W = (w.alloc (.cells (pcel p) 40)).alloc (.cells (cel s) 97) := ⟨_, rfl⟩
  have HP := hid (show Var W w.heap.size (pcel p) 40 by rw [hW]; exact (Var.new w _ _ _ rfl).alloc _)
  have HS := hid (show Var W (w.heap.size + 1) (cel s) 97 by rw [hW]; exact Var.new (w.alloc _) _ _ _ (by simp))
  have HB := hid (show Below w.heap.size w W by rw [hW]; exact below_alloc (below_alloc (Below.refl _ w) _) _)
  go_enter Try.func68, Try.ntmps68
  go_upto_region 1 with fail
  rw [← hW]
  clear hW
  obtain ⟨p0, p1, p2, p3, p4, p5, pf⟩ := HS.out.read6
  go_upto_region 3 with fail
  clear p0 p1 p2 p3 p4 p5 pf
  have LP := fun w1 (h : Below W.heap.size W w1) => HP.out.next h
  have LS := fun w1 (h : Below W.heap.size W w1) => HS.out.next h
  rename_i Kn hKn
  refine Iv.wp_region_inv (n := 45) (TJ [some 15, some 16, some 17, some 18, some 19, some 20, some 21, some 22, some 23, some 24, some 25, none, none]
      [ptv p, .pointer (some ⟨w.heap.size + 1, 3, none⟩), .int .i64 s.u, .pointer (some ⟨w.heap.size + 1, 4, none⟩), .int .i64 s.v, pt s.u s.v, seg s, pt s.x s.y, .pointer (some ⟨w.heap.size + 1, 5, none⟩), .int .i64 s.w, cuv (⟨p, ⟨s.u, s.v⟩, ⟨s.x, s.y⟩, s.w⟩), undef, undef]
      [(2, .pointer (some ⟨w.heap.size, 0, none⟩)), (3, .pointer (some ⟨w.heap.size + 1, 0, none⟩))] (MB W [⟨11, 12, 5, ccel (cuOf p s), 149⟩])) _ (by kernel_rfl) (by kernel_rfl) (Is.start _ rfl) ?_ ?_ ?_
  · refine ⟨fun i d _ h => (by cases h), fun q hq => ?_, MB.start W _ _⟩
    simp only [List.mem_cons, List.not_mem_nil, or_false] at hq
    rcases hq with rfl | rfl
    all_goals rfl
  · exact ⟨nb_val rfl rfl rfl rfl rfl fun L f wx hL hdep H => run_loadPt (H.x (2, .pointer (some ⟨w.heap.size, 0, none⟩)) (by simp)) (LP wx H.m.b),
    nb_val rfl rfl rfl rfl rfl fun L f wx hL hdep H => run_fld_seg3 (H.x (3, .pointer (some ⟨w.heap.size + 1, 0, none⟩)) (by simp)),
    nb_val rfl rfl rfl rfl rfl fun L f wx hL hdep H => run_load_int (H.t 1 16 rfl (hdep ⟨1, .data⟩ (by simp) rfl)) ((LS wx H.m.b).cell 3),
    nb_val rfl rfl rfl rfl rfl fun L f wx hL hdep H => run_fld_seg4 (H.x (3, .pointer (some ⟨w.heap.size + 1, 0, none⟩)) (by simp)),
    nb_val rfl rfl rfl rfl rfl fun L f wx hL hdep H => run_load_int (H.t 3 18 rfl (hdep ⟨3, .data⟩ (by simp) rfl)) ((LS wx H.m.b).cell 4),
    nb_val rfl rfl rfl rfl rfl fun L f wx hL hdep H => run_buildPt (H.t 2 17 rfl (hdep ⟨2, .data⟩ (by simp) rfl)) (H.t 4 19 rfl (hdep ⟨4, .data⟩ (by simp) rfl)),
    nb_val rfl rfl rfl rfl rfl fun L f wx hL hdep H => run_loadSegV (H.x (3, .pointer (some ⟨w.heap.size + 1, 0, none⟩)) (by simp)) (LS wx H.m.b),
    nb_call rfl rfl rfl rfl rfl fun L f wx hL hdep H => ⟨_, (run_call1 rfl enters_end).trans (by rw [show env f (.tmp 21) = seg s from (H.t 6 21 rfl (hdep ⟨6, .data⟩ (by simp) rfl))]), end_any s wx⟩,
    nb_val rfl rfl rfl rfl rfl fun L f wx hL hdep H => run_fld_seg5 (H.x (3, .pointer (some ⟨w.heap.size + 1, 0, none⟩)) (by simp)),
    nb_val rfl rfl rfl rfl rfl fun L f wx hL hdep H => run_load_int (H.t 8 23 rfl (hdep ⟨8, .data⟩ (by simp) rfl)) ((LS wx H.m.b).cell 5),
    nb_val rfl rfl rfl rfl rfl fun L f wx hL hdep H => run_buildCu (H.t 0 15 rfl (hdep ⟨0, .data⟩ (by simp) rfl)) (H.t 5 20 rfl (hdep ⟨5, .data⟩ (by simp) rfl)) (H.t 7 22 rfl (hdep ⟨7, .data⟩ (by simp) rfl)) (H.t 9 24 rfl (hdep ⟨9, .data⟩ (by simp) rfl)),
    nb_new (q := ⟨11, 12, 5, ccel (cuOf p s), 149⟩) (c := #[.int .i64 0, .int .i64 0, .int .i64 0, .int .i64 0, .int .i64 0, .int .i64 0, .int .i64 0]) (by simp) (like_cons (.inl rfl) (like_nil _)) (ne_of_beq rfl) rfl rfl rfl rfl rfl rfl fun f w => run_allocCu,
    nb_store (q := ⟨11, 12, 5, ccel (cuOf p s), 149⟩) (by simp) (like_cons (.inl rfl) (like_nil _)) (ne_of_beq rfl) rfl rfl ⟨⟨11, .data⟩, by simp, rfl, rfl⟩ fun L f wx m c0 hdep H hp hm hv hs => by
      obtain ⟨u0, u1, u2, u3, u4, u5, u6, rfl⟩ := size7 hs
      exact ⟨_, run_storeCu hp (H.t 10 25 rfl (hdep ⟨10, .data⟩ (by simp) rfl)) hv, below_set7 H.m.b hm, hv.set7, same7⟩, trivial⟩
  intro L f act w1 hall H ha
  refine hKn _ _ ?_
  have k2 : f 2 = .pointer (some ⟨w.heap.size, 0, none⟩) := H.x (2, .pointer (some ⟨w.heap.size, 0, none⟩)) (by simp)
  have k3 : f 3 = .pointer (some ⟨w.heap.size + 1, 0, none⟩) := H.x (3, .pointer (some ⟨w.heap.size + 1, 0, none⟩)) (by simp)
  obtain ⟨b5, k5, hb5, hv5⟩ := H.m.done (q := ⟨11, 12, 5, ccel (cuOf p s), 149⟩) (hall 11 (by decide)) (hall 12 (by decide)) (by simp)
  have HBW := hid H.m.b
  have hw := ha.whole
  rw [show ((List.range 45).map f).toArray = #[f 0, f 1, f 2, f 3, f 4, f 5, f 6, f 7, f 8, f 9, f 10, f 11, f 12, f 13, f 14, f 15, f 16, f 17, f 18, f 19, f 20, f 21, f 22, f 23, f 24, f 25, f 26, f 27, f 28, f 29, f 30, f 31, f 32, f 33, f 34, f 35, f 36, f 37, f 38, f 39, f 40, f 41, f 42, f 43, f 44] from rfl] at hw
  rw [k2, k3, k5] at hw
  subst hw
  clear ha H hall hKn k2 k3 k5 Kn
  clear L
  have HB1 := hid (below_next HB.out HBW.out)
  have HV5 := hid hv5
  have HL5 := hid (show w.heap.size ≤ b5 from Nat.le_trans HB.out.size hb5)
  clear hv5 hb5 HB HBW HP HS LP LS W
  obtain ⟨p0, p1, p2, p3, p4, p5, p6, pf⟩ := HV5.out.read7
  go_wp2_with fail
  clear p0 p1 p2 p3 p4 p5 p6 pf
  (with_reducible refine (division_any (cuOf p s) _ HC.out).mono ?_); rintro x0 w2 ⟨rfl, hb⟩
  have HV52 := hid (HV5.out.next hb)
  have HB2 := hid (below_next HB1.out hb)
  clear hb HV5 HB1
  generalize hD : (cuOf p s).dv = D at HD ⊢
  have HDD := hid hD
  clear hD
  have hd1 := HD.out.1
  have hd2 := HD.out.2
  go_upto_region 5 with fail
  rename_i Kn hKn
  refine wp_region_lit ?_
  refine sq_start (n := 45) rfl fun a0 hs0 => ?_
  have ha0 := ((((((hs0.pin 2 (v := .pointer (some ⟨w.heap.size, 0, none⟩)) rfl).pin 3 (v := .pointer (some ⟨w.heap.size + 1, 0, none⟩)) rfl).pin 4 (v := f 4) rfl).pin 5 (v := .pointer (some ⟨b5, 0, none⟩)) rfl).pin 6 (v := .int .i64 D) rfl))
  clear hs0
  generalize (fun i => Array.getD _ i undef) = g0 at ha0
  refine sq_val (v := .int .i64 D) ha0 rfl rfl fun a1 ha1 => ?_
  obtain ⟨w3, hmk, cs, hcs, hsz, hbm⟩ := run_makePts (ρ := env (upd _ 28 (.int .i64 D))) (x := .tmp 28) (y := .tmp 28) (n := D) (w := w2) rfl rfl (by omega)
  refine sq_val (v := .slice (some ⟨w2.heap.size, 0, none⟩) D D) ha1 rfl hmk fun a2 ha2 => ?_
  refine sq_val (v := .slice (some ⟨w2.heap.size, 0, none⟩) D D) ha2 rfl rfl fun a3 ha3 => ?_
  refine wpList_nil ?_
  refine hKn _ _ ?_
  obtain ⟨gA, hg9, k2, k3, k5, k6, k7⟩ : ∃ g9, Is a3 45 g9 ∧ g9 2 = .pointer (some ⟨w.heap.size, 0, none⟩) ∧ g9 3 = .pointer (some ⟨w.heap.size + 1, 0, none⟩) ∧ g9 5 = .pointer (some ⟨b5, 0, none⟩) ∧ g9 6 = .int .i64 (D) ∧ g9 7 = .slice (some ⟨w2.heap.size, 0, none⟩) D D := ⟨_, ha3, rfl, rfl, rfl, rfl, rfl⟩
  have hw := hg9.whole
  rw [show ((List.range 45).map gA).toArray = #[gA 0, gA 1, gA 2, gA 3, gA 4, gA 5, gA 6, gA 7, gA 8, gA 9, gA 10, gA 11, gA 12, gA 13, gA 14, gA 15, gA 16, gA 17, gA 18, gA 19, gA 20, gA 21, gA 22, gA 23, gA 24, gA 25, gA 26, gA 27, gA 28, gA 29, gA 30, gA 31, gA 32, gA 33, gA 34, gA 35, gA 36, gA 37, gA 38, gA 39, gA 40, gA 41, gA 42, gA 43, gA 44] from rfl] at hw
  rw [k2, k3, k5, k6, k7] at hw
  subst hw
  clear hg9 k2 k3 k5 k6 k7
  have HG := hid hcs
  have HLG := hid (show w.heap.size ≤ w2.heap.size from HB2.out.size)
  have HNE := hid (show b5 < w2.heap.size from HV52.out.lt)
  have HV53 := hid (HV52.out.next hbm)
  have HB3 := hid (below_next HB2.out hbm)
  have HSZ := hid hsz
  clear ha0 ha1 ha2 ha3 hKn Kn hmk hcs hsz hbm HV52 HB2
  generalize w2.heap.size = bg at HG HLG HNE ⊢
  go_wp2_with fail
  go_loopw [32] (fun s32 wr => ∃ (k : Nat) (cs : Array Value), k ≤ D ∧ s32 = .int .i64 k ∧ Hid (Var wr bg cs 40) ∧ Hid (cs.size = D * 2) ∧ Hid (∀ j, j < k → cs[j * 2]? = some (.int .i64 ((cuOf p s).at ((j + 1 : Nat) : Int) D).x) ∧ cs[j * 2 + 1]? = some (.int .i64 ((cuOf p s).at ((j + 1 : Nat) : Int) D).y)) ∧ Hid (Var wr b5 (ccel (cuOf p s)) 149) ∧ Hid (Below w.heap.size w wr)) (fun s32 _ => D - (intOf s32).toNat)
  case atStart => exact ⟨0, cs, Nat.zero_le _, rfl, HG, HSZ, hid (fun j hj => by omega), HV53, HB3⟩
  case round =>
    obtain ⟨k, cs, hk, rfl, HG, HSZ, HF, HV5, HB⟩ := hrel
    clear HV53 HB3
    by_cases hlt : k < D
    · go_upto_region 9 with fail
      have HKI := hid (inK HC.out.w hd1 (show D ≤ 1024 by omega) (show k + 1 ≤ D from hlt))
      rename_i Kn hKn
      refine wp_region_lit ?_
      refine sq_start (n := 45) rfl fun a0 hs0 => ?_
      have ha0 := ((((((((((((((((((((((((((((((((((hs0.pin 0 (v := gA 0) rfl).pin 1 (v := gA 1) rfl).pin 2 (v := .pointer (some ⟨w.heap.size, 0, none⟩)) rfl).pin 3 (v := .pointer (some ⟨w.heap.size + 1, 0, none⟩)) rfl).pin 4 (v := gA 4) rfl).pin 5 (v := .pointer (some ⟨b5, 0, none⟩)) rfl).pin 6 (v := .int .i64 (D)) rfl).pin 7 (v := .slice (some ⟨bg, 0, none⟩) D D) rfl).pin 8 (v := .int .i64 (k)) rfl).pin 9 (v := gA 9) rfl).pin 10 (v := gA 10) rfl).pin 11 (v := gA 11) rfl).pin 12 (v := gA 12) rfl).pin 13 (v := gA 13) rfl).pin 14 (v := gA 14) rfl).pin 15 (v := gA 15) rfl).pin 16 (v := gA 16) rfl).pin 17 (v := gA 17) rfl).pin 18 (v := gA 18) rfl).pin 19 (v := gA 19) rfl).pin 20 (v := gA 20) rfl).pin 21 (v := gA 21) rfl).pin 22 (v := gA 22) rfl).pin 23 (v := gA 23) rfl).pin 24 (v := gA 24) rfl).pin 25 (v := gA 25) rfl).pin 26 (v := gA 26) rfl).pin 27 (v := gA 27) rfl).pin 28 (v := gA 28) rfl).pin 29 (v := gA 29) rfl).pin 30 (v := .slice (some ⟨bg, 0, none⟩) D D) rfl).pin 31 (v := .int .i64 (D)) rfl).pin 32 (v := .int .i64 (k)) rfl).pin 44 (v := gA 44) rfl)
      clear hs0
      generalize (fun i => Array.getD _ i undef) = g0 at ha0
      refine sq_val ha0 rfl rfl fun a1 ha1 => ?_
      refine sq_val ha1 rfl rfl fun a2 ha2 => ?_
      refine sq_val ha2 rfl (run_loadCu rfl HV5.out) fun a3 ha3 => ?_
      refine sq_val ha3 rfl rfl fun a4 ha4 => ?_
      refine sq_val ha4 rfl (run_add rfl rfl (by unfold Rg; omega)) fun a5 ha5 => ?_
      refine sq_val ha5 rfl rfl fun a6 ha6 => ?_
      refine sq_call (v := undef) (G := fun v w1 => v = ptv ((cuOf p s).at ((k + 1 : Nat) : Int) D) ∧ Below wr.heap.size wr w1) ha6 rfl (run_call3 rfl enters_at) ((at_any (cuOf p s) ((k + 1 : Nat) : Int) D wr HC.out HKI.out).mono fun e w1 h => ⟨_, h.1, rfl, h.2⟩) fun v w1 a7 hv ha7 => ?_
      obtain ⟨hv, hb⟩ := hv
      subst hv
      refine sq_val (v := .pointer (some ⟨bg, k * 2, none⟩)) ha7 rfl ((run_indexPt (a := ⟨bg, 0, none⟩) (j := k) rfl rfl (by omega) (by omega)).trans (by rw [addr0, Int.toNat_natCast])) fun a8 ha8 => ?_
      have hv1 := HG.out.next hb
      have hsz := HSZ.out
      refine sq_skip ha8 (run_storeRow rfl rfl hv1 (by omega)) fun a9 ha9 => ?_
      refine wpList_nil ?_
      refine hKn _ _ ?_
      obtain ⟨g9, hg9, k0, k1, k2, k3, k4, k5, k6, k7, k8, k9, k10, k11, k12, k13, k14, k15, k16, k17, k18, k19, k20, k21, k22, k23, k24, k25, k26, k27, k28, k29, k30, k31, k32, k44⟩ : ∃ g9, Is a9 45 g9 ∧ g9 0 = gA 0 ∧ g9 1 = gA 1 ∧ g9 2 = .pointer (some ⟨w.heap.size, 0, none⟩) ∧ g9 3 = .pointer (some ⟨w.heap.size + 1, 0, none⟩) ∧ g9 4 = gA 4 ∧ g9 5 = .pointer (some ⟨b5, 0, none⟩) ∧ g9 6 = .int .i64 (D) ∧ g9 7 = .slice (some ⟨bg, 0, none⟩) D D ∧ g9 8 = .int .i64 (k) ∧ g9 9 = gA 9 ∧ g9 10 = gA 10 ∧ g9 11 = gA 11 ∧ g9 12 = gA 12 ∧ g9 13 = gA 13 ∧ g9 14 = gA 14 ∧ g9 15 = gA 15 ∧ g9 16 = gA 16 ∧ g9 17 = gA 17 ∧ g9 18 = gA 18 ∧ g9 19 = gA 19 ∧ g9 20 = gA 20 ∧ g9 21 = gA 21 ∧ g9 22 = gA 22 ∧ g9 23 = gA 23 ∧ g9 24 = gA 24 ∧ g9 25 = gA 25 ∧ g9 26 = gA 26 ∧ g9 27 = gA 27 ∧ g9 28 = gA 28 ∧ g9 29 = gA 29 ∧ g9 30 = .slice (some ⟨bg, 0, none⟩) D D ∧ g9 31 = .int .i64 (D) ∧ g9 32 = .int .i64 (k) ∧ g9 44 = gA 44 := ⟨_, ha9, rfl, rfl, rfl, rfl, rfl, rfl, rfl, rfl, rfl, rfl, rfl, rfl, rfl, rfl, rfl, rfl, rfl, rfl, rfl, rfl, rfl, rfl, rfl, rfl, rfl, rfl, rfl, rfl, rfl, rfl, rfl, rfl, rfl, rfl⟩
      have hw := hg9.whole
      rw [show ((List.range 45).map g9).toArray = #[g9 0, g9 1, g9 2, g9 3, g9 4, g9 5, g9 6, g9 7, g9 8, g9 9, g9 10, g9 11, g9 12, g9 13, g9 14, g9 15, g9 16, g9 17, g9 18, g9 19, g9 20, g9 21, g9 22, g9 23, g9 24, g9 25, g9 26, g9 27, g9 28, g9 29, g9 30, g9 31, g9 32, g9 33, g9 34, g9 35, g9 36, g9 37, g9 38, g9 39, g9 40, g9 41, g9 42, g9 43, g9 44] from rfl] at hw
      rw [k0, k1, k2, k3, k4, k5, k6, k7, k8, k9, k10, k11, k12, k13, k14, k15, k16, k17, k18, k19, k20, k21, k22, k23, k24, k25, k26, k27, k28, k29, k30, k31, k32, k44] at hw
      subst hw
      clear hg9 k0 k1 k2 k3 k4 k5 k6 k7 k8 k9 k10 k11 k12 k13 k14 k15 k16 k17 k18 k19 k20 k21 k22 k23 k24 k25 k26 k27 k28 k29 k30 k31 k32 k44
      have HG1 := hid ((hv1.set (i := k * 2) (.int .i64 ((cuOf p s).at ((k + 1 : Nat) : Int) D).x)).set (i := k * 2 + 1) (.int .i64 ((cuOf p s).at ((k + 1 : Nat) : Int) D).y))
      have HV1 := hid ((((HV5.out.next hb).far (p := ⟨bg, k * 2, none⟩) (Nat.ne_of_lt HNE.out) (.int .i64 ((cuOf p s).at ((k + 1 : Nat) : Int) D).x))).far (p := ⟨bg, k * 2 + 1, none⟩) (Nat.ne_of_lt HNE.out) (.int .i64 ((cuOf p s).at ((k + 1 : Nat) : Int) D).y))
      have HB1 := hid (((below_next HB.out hb).setCell (p := ⟨bg, k * 2, none⟩) HLG.out (.int .i64 ((cuOf p s).at ((k + 1 : Nat) : Int) D).x)).setCell (p := ⟨bg, k * 2 + 1, none⟩) HLG.out (.int .i64 ((cuOf p s).at ((k + 1 : Nat) : Int) D).y))
      generalize (w1.setCell _ _).setCell _ _ = w4 at HG1 HV1 HB1 ⊢
      have HSZ1 := hid (show ((cs.setIfInBounds (k * 2) (.int .i64 ((cuOf p s).at ((k + 1 : Nat) : Int) D).x)).setIfInBounds (k * 2 + 1) (.int .i64 ((cuOf p s).at ((k + 1 : Nat) : Int) D).y)).size = D * 2 by simp; omega)
      have HF1 := hid (set_row (cs := cs) (k := k) (f := fun j => (cuOf p s).at ((j + 1 : Nat) : Int) D) (by omega) HF.out)
      clear ha0 ha1 ha2 ha3 ha4 ha5 ha6 ha7 ha8 ha9 hKn Kn hb hv1 hsz HG HV5 HB HF HSZ HKI w1
      generalize (cs.setIfInBounds (k * 2) _).setIfInBounds (k * 2 + 1) _ = cs1 at HG1 HSZ1 HF1
      go_wp2_with fail
      go_roundw
      case rel => exact ⟨k + 1, cs1, by omega, by go_num, HG1, HSZ1, HF1, HV1, HB1⟩
      case measure => simp [intOf]; omega
    · have hkd : k = D := by omega
      subst hkd
      clear hlt
      go_wp2_with fail
      go_ret
      refine ⟨_, rfl, ?_, HB.out⟩
      have hl : (cuOf p s).pts.length = k := by rw [pts_length]; exact HDD.out
      have he : cs.toList = pfl (cuOf p s).pts := pfl_of (by rw [Array.length_toList, hl]; exact HSZ.out) fun i q hq => by
        have hi : i < k := by
          rcases Nat.lt_or_ge i k with h | h
          · exact h
          · rw [List.getElem?_eq_none (by omega)] at hq; cases hq
        have hp := pts_at (c := cuOf p s) (k := i) (by rw [HDD.out]; exact hi)
        rw [hq] at hp
        cases hp
        have := HF.out i hi
        rw [HDD.out]
        simpa using this
      have := own_of_var HG.out HLG.out he (by rw [hl]; unfold maxLen; omega)
      rw [hl] at this ⊢
      exact this

end Go.Proofs.Ytijkoaggcmgjiaa.Co

/- What Points of package conic returns. -/
namespace Go.Proofs.Ytijkoaggcmgjiaa.Co
open Go Go.RowKit
set_option linter.unusedVariables false
set_option linter.unusedSimpArgs false

abbrev mvS : Sg := ⟨1, 0, 0, 0, 0, 0⟩
abbrev fromS (p : P2) : Sg := ⟨1, p.x, p.y, 0, 0, 0⟩
/-- The error of Points. -/
def ptE (p : P2) (s : Sg) : Int := if s.k ≠ 2 ∧ s.k ≠ 3 then 14 else chk [mvS, s, fromS p]
def ptP (p : P2) (s : Sg) : List P2 := if ptE p s = 0 then replP p s else []
theorem wi4z {x y : Int} : Wi 32767 [x, y, 0, 0] ↔ (-32767 ≤ x ∧ x ≤ 32767) ∧ (-32767 ≤ y ∧ y ≤ 32767) := by
  rw [wi4]; omega
theorem chk_from (p : P2) (o : Bool) : chkSeg (fromS p) o = if (-32767 ≤ p.x ∧ p.x ≤ 32767) ∧ (-32767 ≤ p.y ∧ p.y ≤ 32767) then 0 else 3 := by
  unfold chkSeg
  rw [if_neg (by simp), if_neg (by simp), if_neg (by simp [mean])]
  simp only [wi4z]
  by_cases h : (-32767 ≤ p.x ∧ p.x ≤ 32767) ∧ (-32767 ≤ p.y ∧ p.y ≤ 32767)
  · rw [if_neg (fun k => k h), if_neg (by simp), if_pos h]
  · rw [if_pos h, if_neg h]
theorem ptE_eq (p : P2) (s : Sg) (hk : s.k = 2 ∨ s.k = 3) : ptE p s = if chkSeg s true = 0 then (if (-32767 ≤ p.x ∧ p.x ≤ 32767) ∧ (-32767 ≤ p.y ∧ p.y ≤ 32767) then 0 else 3) else chkSeg s true := by
  unfold ptE
  rw [if_neg (by omega)]
  unfold chk
  rw [if_neg (by simp)]
  have h0 : chkSeg mvS false = 0 := by decide
  rw [chkAll, if_pos h0]
  rw [show decide (mvS.k ≠ 4) = true by decide, chkAll]
  by_cases h : chkSeg s true = 0
  · rw [if_pos h, if_pos h, chkAll, chk_from, chkAll]
    split
    · rename_i hh; rw [if_pos rfl]
    · rename_i hh; rw [if_neg (by omega)]
  · rw [if_neg h, if_neg h]
theorem good_seg {s : Sg} {o : Bool} (h : chkSeg s o = 0) : (1 ≤ s.k ∧ s.k ≤ 4) ∧ s = mean s ∧ Wi 32767 [s.x, s.y, s.u, s.v] ∧ (s.k = 3 → 16 ≤ s.w ∧ s.w ≤ 4096) := by
  unfold chkSeg at h
  by_cases h1 : s.k < 1 ∨ 4 < s.k
  · rw [if_pos h1] at h; cases h
  · rw [if_neg h1] at h
    by_cases h2 : o = false ∧ s.k ≠ 1
    · rw [if_pos h2] at h; cases h
    · rw [if_neg h2] at h
      by_cases h3 : s ≠ mean s
      · rw [if_pos h3] at h; cases h
      · rw [if_neg h3] at h
        by_cases h4 : Wi 32767 [s.x, s.y, s.u, s.v]
        · rw [if_neg (by simpa using h4)] at h
          refine ⟨by omega, by simpa using h3, h4, fun h5 => ?_⟩
          by_cases h6 : s.w < 16 ∨ 4096 < s.w
          · rw [if_pos ⟨h5, h6⟩] at h; cases h
          · omega
        · rw [if_pos h4] at h; cases h
theorem ptE_good {p : P2} {s : Sg} (h : ptE p s = 0) : (s.k = 2 ∨ s.k = 3 ∧ InC (cuOf p s)) ∧ In3 p ∧ In3 ⟨s.x, s.y⟩ ∧ chkSeg s true = 0 := by
  have hk : s.k = 2 ∨ s.k = 3 := by
    unfold ptE at h
    by_cases hk : s.k ≠ 2 ∧ s.k ≠ 3
    · rw [if_pos hk] at h; cases h
    · omega
  rw [ptE_eq p s hk] at h
  by_cases hs : chkSeg s true = 0
  · rw [if_pos hs] at h
    by_cases hp : (-32767 ≤ p.x ∧ p.x ≤ 32767) ∧ (-32767 ≤ p.y ∧ p.y ≤ 32767)
    · obtain ⟨-, -, g3, g4⟩ := good_seg hs
      obtain ⟨a, b, c, d⟩ := wi4.1 g3
      refine ⟨?_, hp, ⟨a, b⟩, hs⟩
      rcases hk with hk | hk
      · exact .inl hk
      · exact .inr ⟨hk, ⟨hp, ⟨c, d⟩, ⟨a, b⟩, g4 hk⟩⟩
    · rw [if_neg hp] at h; cases h
  · rw [if_neg hs] at h; exact absurd h hs
theorem repl_any (p : P2) (s : Sg) (w : World) (h : s.k = 2 ∨ s.k = 3 ∧ InC (cuOf p s)) : Calls Try.prog 68 #[ptv p, seg s] w (GivesPts (replP p s) w) := by
  unfold replP
  rcases h with h | ⟨h, hc⟩
  · rw [if_pos h]; exact repl_line p s w h
  · rw [if_neg (by omega)]; exact repl_curve p s w h hc
theorem own_le {w : World} {B B' n : Nat} {v : Value} {xs : List Value} (h : B ≤ B') (ho : w.ownsRow B' 40 2 v n xs) : w.ownsRow B 40 2 v n xs := by
  refine ⟨ho.1, ?_⟩
  rcases ho.2 with h1 | ⟨g, cap, cur, h1, h2, h3⟩
  · exact .inl h1
  · exact .inr ⟨g, cap, cur, h1, Nat.le_trans h h2, h3⟩
/-- A call that returns a new row of points, and an error. -/
def GivesPE (E : Int) (ps : List P2) (w : World) (e : Ending) (w' : World) : Prop := ∃ v, e = .returned (.tuple #[v, .int .i64 E]) ∧ w'.ownsRow w.heap.size 40 2 v ps.length (pfl ps) ∧ Below w.heap.size w w'

theorem check3 (p : P2) (s : Sg) (c : Nat) (W : World) :
    Calls Try.prog 64 #[.slice (some ⟨W.heap.size, 0, none⟩) 3 c] (W.alloc (.cells #[.int .i64 1, .int .i64 0, .int .i64 0, .int .i64 0, .int .i64 0, .int .i64 0, .int .i64 s.k, .int .i64 s.x, .int .i64 s.y, .int .i64 s.u, .int .i64 s.v, .int .i64 s.w, .int .i64 1, .int .i64 p.x, .int .i64 p.y, .int .i64 0, .int .i64 0, .int .i64 0] 97))
      fun e w' => e = .returned (.int .i64 (chk [mvS, s, fromS p])) ∧ Below W.heap.size W w' :=
  (check_any (some ⟨W.heap.size, 0, none⟩) [mvS, s, fromS p] 3 c _ rfl (fun _ => (Var.new W (flat [mvS, s, fromS p]).toArray 97 _ rfl).segs)).mono fun e w' h => ⟨h.1, below_next (below_alloc (Below.refl _ W) _) h.2⟩

end Go.Proofs.Ytijkoaggcmgjiaa.Co

/- What the helper cut of the first statements' package returns: a number of its range. -/
namespace Go.Proofs.Ytijkoaggcmgjiaa.Co
open Go Go.RowKit

theorem cut_val (x lo hi : Int) (w : World) (h : lo ≤ hi) (hn : hi - lo < 4611686018427387904) (hl : -4611686018427387904 ≤ lo) (hh : hi ≤ 4611686018427387904) :
    Calls Try.prog 52 #[.int .i64 x, .int .i64 lo, .int .i64 hi] w fun e w' => e = .returned (.int .i64 (lo + x.tmod (hi - lo + 1) % (hi - lo + 1))) ∧ w = w' := by
  have t1 := Int.lt_tmod_of_pos x (show 0 < hi - lo + 1 by omega)
  have t2 := Int.tmod_lt_of_pos x (show 0 < hi - lo + 1 by omega)
  have t3 := Int.emod_nonneg (x.tmod (hi - lo + 1)) (show hi - lo + 1 ≠ 0 by omega)
  have t4 := Int.emod_lt_of_pos (x.tmod (hi - lo + 1)) (show 0 < hi - lo + 1 by omega)
  go_enter Try.func52, Try.ntmps52
  go_wp2
  go_ret
  exact ⟨rfl, rfl⟩

def InCut (lo hi : Int) (w : World) (e : Ending) (w' : World) : Prop := ∃ c : Int, lo ≤ c ∧ c ≤ hi ∧ e = .returned (.int .i64 c) ∧ w = w'

theorem cut_in (x lo hi : Int) (w : World) (h : lo ≤ hi) (hn : hi - lo < 4611686018427387904) (hl : -4611686018427387904 ≤ lo) (hh : hi ≤ 4611686018427387904) :
    Calls Try.prog 52 #[.int .i64 x, .int .i64 lo, .int .i64 hi] w (InCut lo hi w) :=
  (cut_val x lo hi w h hn hl hh).mono fun e w' ⟨he, hw⟩ => ⟨_, by
    have t3 := Int.emod_nonneg (x.tmod (hi - lo + 1)) (show hi - lo + 1 ≠ 0 by omega)
    omega, by
    have t4 := Int.emod_lt_of_pos (x.tmod (hi - lo + 1)) (show 0 < hi - lo + 1 by omega)
    omega, he, hw⟩

end Go.Proofs.Ytijkoaggcmgjiaa.Co

/- A quarter of a circle: what the statements' helpers return, and how near to the circle its points lie. -/
namespace Go.Proofs.Ytijkoaggcmgjiaa.Co
open Go Go.RowKit
set_option linter.unusedVariables false
set_option linter.unusedSimpArgs false

theorem sq_mono {a b : Int} (h0 : 0 ≤ a) (h : a ≤ b) : a * a ≤ b * b := Int.mul_le_mul h h h0 (Int.le_trans h0 h)
theorem circ_upper (D u v r x y C : Int) (hD : 0 < D) (hr : 0 ≤ r) (hx0 : 0 ≤ x) (hy0 : 0 ≤ y) (hx : 2 * (x * D) ≤ 2 * (r * u) + D) (hy : 2 * (y * D) ≤ 2 * (r * v) + D)
   (hid : u * u + v * v = D * D - 28 * (C * C)) (huv : 2 * (u + v) ≤ 3 * D) (hC : 0 ≤ C) : x * x + y * y ≤ (r + 2) * (r + 2) := by
  have hxd : 0 ≤ x * D := Int.mul_nonneg hx0 (Int.le_of_lt hD)
  have hyd : 0 ≤ y * D := Int.mul_nonneg hy0 (Int.le_of_lt hD)
  have h1 := sq_mono (a := 2 * (x * D)) (by omega) hx
  have h2 := sq_mono (a := 2 * (y * D)) (by omega) hy
  have h3 : 0 ≤ C * C := Int.mul_nonneg hC hC
  have h4 : 0 ≤ r * D := Int.mul_nonneg hr (Int.le_of_lt hD)
  have h5 := Int.mul_le_mul_of_nonneg_left huv h4
  have h6 : 0 ≤ (r * r) * (C * C) := Int.mul_nonneg (Int.mul_nonneg hr hr) h3
  have h7 : 0 ≤ r * (D * D) := Int.mul_nonneg hr (Int.mul_nonneg (Int.le_of_lt hD) (Int.le_of_lt hD))
  have h8 : 0 < D * D := Int.mul_pos hD hD
  have h9 : r * r * (u * u + v * v) = r * r * (D * D) - 28 * (r * r * (C * C)) := by rw [hid]; grind
  have key : (D * D) * (x * x + y * y) ≤ (D * D) * ((r + 2) * (r + 2)) := by
    grind
  exact Int.le_of_mul_le_mul_left key h8
theorem circ_lower (D u v r x y C : Int) (hD : 0 < D) (hr : 4 ≤ r) (hr2 : r ≤ 30000) (hx0 : 0 ≤ x) (hy0 : 0 ≤ y) (hu : 0 ≤ u) (hv : 0 ≤ v) (hx : 2 * (r * u) + D < 2 * (x * D) + 2 * D) (hy : 2 * (r * v) + D < 2 * (y * D) + 2 * D)
   (hid : u * u + v * v = D * D - 28 * (C * C)) (huv : 2 * (u + v) ≤ 3 * D) (hC : 0 ≤ C) (hDC : 874 * C ≤ D) : (r - 2) * (r - 2) ≤ x * x + y * y := by
  have hxd : 0 ≤ x * D := Int.mul_nonneg hx0 (Int.le_of_lt hD)
  have hyd : 0 ≤ y * D := Int.mul_nonneg hy0 (Int.le_of_lt hD)
  have hru : 0 ≤ r * u := Int.mul_nonneg (by omega) hu
  have hrv : 0 ≤ r * v := Int.mul_nonneg (by omega) hv
  have one : ∀ t X : Int, 0 ≤ t → 0 ≤ X → 2 * t + D < 2 * X + 2 * D → t * t - 2 * (t * D) + 0 ≤ X * X - t * D := by
    intro t X ht hX h
    by_cases c : D ≤ 2 * t
    · have := sq_mono (a := 2 * t - D) (b := 2 * X) (by omega) (by omega)
      have hd := Int.mul_nonneg (a := D) (b := D) (by omega) (by omega)
      grind
    · have h1 : 0 ≤ t * (D - t) := Int.mul_nonneg ht (by omega)
      have h2 := Int.mul_nonneg hX hX
      grind
  have h1 := one (r * u) (x * D) hru hxd hx
  have h2 := one (r * v) (y * D) hrv hyd hy
  have h3 : 0 ≤ C * C := Int.mul_nonneg hC hC
  have h4 : 0 ≤ r * D := Int.mul_nonneg (by omega) (Int.le_of_lt hD)
  have h5 := Int.mul_le_mul_of_nonneg_left huv h4
  have h8 : 0 < D * D := Int.mul_pos hD hD
  have h9 : r * r * (u * u + v * v) = r * r * (D * D) - 28 * (r * r * (C * C)) := by rw [hid]; grind
  -- 763876 C² ≤ D²
  have h10 : 763876 * (C * C) ≤ D * D := by
    have := sq_mono (a := 874 * C) (by omega) hDC
    grind
  -- r² C² ≤ 30000 r C²
  have h11 : r * r * (C * C) ≤ 30000 * (r * (C * C)) := by
    have a1 : 0 ≤ r * (C * C) := Int.mul_nonneg (by omega) h3
    have a2 : 0 ≤ (30000 - r) * (r * (C * C)) := Int.mul_nonneg (by omega) a1
    grind
  have h12 : 763876 * (r * (C * C)) ≤ r * (D * D) := by
    have := Int.mul_le_mul_of_nonneg_left h10 (show 0 ≤ r by omega)
    grind
  have h13 : 4 * (D * D) ≤ r * (D * D) := Int.mul_le_mul_of_nonneg_right hr (Int.le_of_lt h8)
  have key : (D * D) * ((r - 2) * (r - 2)) ≤ (D * D) * (x * x + y * y) := by
    have e1 : (D * D) * ((r - 2) * (r - 2)) = r * r * (D * D) - 4 * (r * (D * D)) + 4 * (D * D) := by grind
    have e2 : (D * D) * (x * x + y * y) = (x * D) * (x * D) + (y * D) * (y * D) := by grind
    have e3 : (r * u) * (r * u) + (r * v) * (r * v) = r * r * (u * u + v * v) := by grind
    have e4 : r * D * (2 * (u + v)) = 2 * (r * u * D + r * v * D) := by grind
    have e5 : r * D * (3 * D) = 3 * (r * (D * D)) := by grind
    rw [e1, e2]
    omega
  exact Int.le_of_mul_le_mul_left key h8

abbrev arcS (r : Int) : Sg := ⟨3, 0, r, r, r, 181⟩
theorem circle {r : Int} {k n : Nat} (hr : 4 ≤ r ∧ r ≤ 30000) (h1 : 1 ≤ n) (h2 : n ≤ 1024) (hk : k ≤ n) :
    (r - 2) * (r - 2) ≤ ((cuOf ⟨r, 0⟩ (arcS r)).at k n).x * ((cuOf ⟨r, 0⟩ (arcS r)).at k n).x + ((cuOf ⟨r, 0⟩ (arcS r)).at k n).y * ((cuOf ⟨r, 0⟩ (arcS r)).at k n).y ∧
    ((cuOf ⟨r, 0⟩ (arcS r)).at k n).x * ((cuOf ⟨r, 0⟩ (arcS r)).at k n).x + ((cuOf ⟨r, 0⟩ (arcS r)).at k n).y * ((cuOf ⟨r, 0⟩ (arcS r)).at k n).y ≤ (r + 2) * (r + 2) := by
  have hk' : InK 181 k n := ⟨by omega, by omega, by omega, by omega, by omega, by omega⟩
  obtain ⟨⟨x0, -⟩, ⟨y0, -⟩⟩ := at_hull (c := cuOf ⟨r, 0⟩ (arcS r)) ⟨by show (16 : Int) ≤ 181; decide, by show (181 : Int) ≤ 4096; decide⟩ h1 h2 hk
  have hw0 := w0_bd hk'
  have hw1 := w1_bd hk'
  have hw2 := w2_bd hk'
  have hD := ww_pos hk'
  have bx := rnd_bd (a := w0 k n * r + w1 181 k n * r + w2 k * 0) hD
  have by' := rnd_bd (a := w0 k n * 0 + w1 181 k n * r + w2 k * r) hD
  have hx0 : 0 ≤ ((cuOf ⟨r, 0⟩ (arcS r)).at k n).x := Int.le_trans (by simp [cuOf]; omega) x0
  have hy0 : 0 ≤ ((cuOf ⟨r, 0⟩ (arcS r)).at k n).y := Int.le_trans (by simp [cuOf]; omega) y0
  have ex : ((cuOf ⟨r, 0⟩ (arcS r)).at k n).x = rnd (w0 k n * r + w1 181 k n * r + w2 k * 0) (ww 181 k n) := rfl
  have ey : ((cuOf ⟨r, 0⟩ (arcS r)).at k n).y = rnd (w0 k n * 0 + w1 181 k n * r + w2 k * r) (ww 181 k n) := rfl
  rw [← ex] at bx
  rw [← ey] at by'
  generalize ((cuOf ⟨r, 0⟩ (arcS r)).at k n).x = x at *
  generalize ((cuOf ⟨r, 0⟩ (arcS r)).at k n).y = y at *
  have hC : 0 ≤ (k : Int) * ((n : Int) - k) := Int.mul_nonneg (by omega) (by omega)
  have hsq : 0 ≤ ((n : Int) - k - k) * ((n : Int) - k - k) := by
    rcases Int.le_total 0 ((n : Int) - k - k) with h | h
    · exact Int.mul_nonneg h h
    · have := Int.mul_nonneg (a := -((n : Int) - k - k)) (b := -((n : Int) - k - k)) (by omega) (by omega)
      rwa [Int.neg_mul_neg] at this
  have e1 : w1 181 k n = 362 * ((k : Int) * ((n : Int) - k)) := by unfold w1; grind
  have e0 : w0 k n = 256 * (((n : Int) - k) * ((n : Int) - k)) := by unfold w0; grind
  have e2 : w2 k = 256 * ((k : Int) * k) := by unfold w2; grind
  have am : 2 * ((k : Int) * ((n : Int) - k)) ≤ ((n : Int) - k) * ((n : Int) - k) + (k : Int) * k := by grind
  have hAB : (((n : Int) - k) * ((n : Int) - k)) * ((k : Int) * k) = ((k : Int) * ((n : Int) - k)) * ((k : Int) * ((n : Int) - k)) := by grind
  have hid : (w0 k n + w1 181 k n) * (w0 k n + w1 181 k n) + (w1 181 k n + w2 k) * (w1 181 k n + w2 k) = ww 181 k n * ww 181 k n - 28 * (((k : Int) * ((n : Int) - k)) * ((k : Int) * ((n : Int) - k))) := by
    unfold ww
    rw [e0, e1, e2]
    generalize ((n : Int) - k) * ((n : Int) - k) = A at *
    generalize (k : Int) * k = B at *
    generalize (k : Int) * ((n : Int) - k) = C at *
    grind
  have huv : 2 * ((w0 k n + w1 181 k n) + (w1 181 k n + w2 k)) ≤ 3 * ww 181 k n := by unfold ww; omega
  have hDC : 874 * ((k : Int) * ((n : Int) - k)) ≤ ww 181 k n := by unfold ww; omega
  have f1 : w0 k n * r + w1 181 k n * r + w2 k * 0 = r * (w0 k n + w1 181 k n) := by grind
  have f2 : w0 k n * 0 + w1 181 k n * r + w2 k * r = r * (w1 181 k n + w2 k) := by grind
  rw [f1] at bx
  rw [f2] at by'
  exact ⟨circ_lower (ww 181 k n) (w0 k n + w1 181 k n) (w1 181 k n + w2 k) r x y _ hD hr.1 hr.2 hx0 hy0 (by omega) (by omega) bx.2 by'.2 hid huv hC hDC,
    circ_upper (ww 181 k n) (w0 k n + w1 181 k n) (w1 181 k n + w2 k) r x y _ hD (by omega) hx0 hy0 bx.1 by'.1 hid huv hC⟩

/-! ### the helpers of the statements -/
/-- The cells of points in a block. -/
theorem own_ge {w : World} {B n g c : Nat} {xs : List Value} (h : w.ownsRow B 40 2 (.slice (some ⟨g, 0, none⟩) n c) n xs) : 0 < B + 1 ∧ B ≤ g := by
  rcases h.2 with ⟨h0, _⟩ | ⟨g2, cap, cur, hv, hb, _⟩
  · cases h0
  · injection hv with hv; injection hv with hv; injection hv with hv; subst hv; exact ⟨by omega, hb⟩
def Row2 (w : World) (g : Nat) (ps : List P2) : Prop := ∀ i p, ps[i]? = some p → w.cell? ⟨g, i * 2, none⟩ = some (.int .i64 p.x) ∧ w.cell? ⟨g, i * 2 + 1, none⟩ = some (.int .i64 p.y)
theorem own_row {w : World} {B n : Nat} {v : Value} {ps : List P2} (h : w.ownsRow B 40 2 v n (pfl ps)) (hn : 0 < n) : ∃ g c, v = .slice (some ⟨g, 0, none⟩) n c ∧ B ≤ g ∧ g < w.heap.size ∧ Row2 w g ps := by
  rcases h.2 with ⟨_, h0⟩ | ⟨g, cap, cur, hv, hb, hh, hc1, hc2, hsz, ht⟩
  · omega
  · have hlt : g < w.heap.size := by
      rcases Nat.lt_or_ge g w.heap.size with h | h
      · exact h
      · rw [Array.getElem?_eq_none h] at hh; cases hh
    have hcell : ∀ j u, (pfl ps)[j]? = some u → w.cell? ⟨g, j, none⟩ = some u := fun j u hu => by
      have hj : j < n * 2 := by
        rcases Nat.lt_or_ge j (n * 2) with k | k
        · exact k
        · rw [List.getElem?_eq_none (by rw [h.1]; exact k)] at hu; cases hu
      rw [← ht, List.getElem?_take, if_pos hj] at hu
      simp only [World.cell?, hh]
      simpa using hu
    exact ⟨g, cap, hv, hb, hlt, fun i p hp => ⟨hcell _ _ (pfl_get ps i p hp).1, hcell _ _ (pfl_get ps i p hp).2⟩⟩
theorem Row2.far {w : World} {g m j : Nat} {ps : List P2} (h : Row2 w g ps) (hn : g ≠ m) (u : Value) : Row2 (w.setCell ⟨m, j, none⟩ u) g ps :=
  fun i p hp => ⟨(World.cell?_of_block (a := ⟨g, i * 2, none⟩) (Below.heap_setCell w ⟨m, j, none⟩ u g hn)).trans (h i p hp).1, (World.cell?_of_block (a := ⟨g, i * 2 + 1, none⟩) (Below.heap_setCell w ⟨m, j, none⟩ u g hn)).trans (h i p hp).2⟩
theorem Row2.next {w w' : World} {g : Nat} {ps : List P2} (h : Row2 w g ps) (hg : g < w.heap.size) (hb : Below w.heap.size w w') : Row2 w' g ps :=
  fun i p hp => ⟨(hb.cell (p := ⟨g, i * 2, none⟩) hg).trans (h i p hp).1, (hb.cell (p := ⟨g, i * 2 + 1, none⟩) hg).trans (h i p hp).2⟩

theorem arc_good {r : Int} (h : 4 ≤ r ∧ r ≤ 30000) : ptE ⟨r, 0⟩ (arcS r) = 0 := by
  rw [ptE_eq _ _ (.inr rfl)]
  have hc : chkSeg (arcS r) true = 0 := by
    unfold chkSeg
    rw [if_neg (by simp), if_neg (by simp), if_neg (by simp [mean]), if_neg (fun k => k (wi4.2 (by simp only; omega))), if_neg (by simp)]
  rw [if_pos hc, if_pos (by simp only; omega)]
theorem arc_ps {r : Int} (h : 4 ≤ r ∧ r ≤ 30000) : ptP ⟨r, 0⟩ (arcS r) = (cuOf ⟨r, 0⟩ (arcS r)).pts := by
  unfold ptP replP
  rw [if_pos (arc_good h), if_neg (by simp)]
def arcL : List P2 := [⟨98, 18⟩, ⟨93, 37⟩, ⟨84, 55⟩, ⟨71, 71⟩, ⟨55, 84⟩, ⟨37, 93⟩, ⟨18, 98⟩, ⟨0, 100⟩]
theorem arc_e : ptE ⟨100, 0⟩ (arcS 100) = 0 := by decide +kernel
theorem arc_l : ptP ⟨100, 0⟩ (arcS 100) = arcL := by decide +kernel
end Go.Proofs.Ytijkoaggcmgjiaa.Co

/- What the reference's PathCheck returns: what Check does. -/
namespace Go.Proofs.Ytijkoaggcmgjiaa.Co
open Go Go.RowKit
set_option linter.unusedVariables false

def Co (x y : Int) : Prop := (-32767 ≤ x ∧ x ≤ 32767) ∧ (-32767 ≤ y ∧ y ≤ 32767)
instance (x y : Int) : Decidable (Co x y) := inferInstanceAs (Decidable (_ ∧ _))
theorem chkSeg_eq (s : Sg) (o : Bool) : chkSeg s o = if s.k < 1 ∨ 4 < s.k then 14 else if o = false ∧ s.k ≠ 1 then 18
    else if (s.k ≠ 3 ∧ (s.u ≠ 0 ∨ s.v ≠ 0 ∨ s.w ≠ 0)) ∨ (s.k = 4 ∧ (s.x ≠ 0 ∨ s.y ≠ 0)) then 4
    else if ¬ (Co s.x s.y ∧ Co s.u s.v) then 3
    else if s.k = 3 ∧ (s.w < 16 ∨ 4096 < s.w) then 3 else 0 := by
  have e1 : (s ≠ mean s) ↔ ((s.k ≠ 3 ∧ (s.u ≠ 0 ∨ s.v ≠ 0 ∨ s.w ≠ 0)) ∨ (s.k = 4 ∧ (s.x ≠ 0 ∨ s.y ≠ 0))) := by
    obtain ⟨k, x, y, u, v, z⟩ := s
    unfold mean
    by_cases h3 : k = 3
    · subst h3; simp
    · by_cases h4 : k = 4
      · subst h4; simp; omega
      · simp [h3, h4]; omega
  have e2 : Wi 32767 [s.x, s.y, s.u, s.v] ↔ (Co s.x s.y ∧ Co s.u s.v) := by
    unfold Co
    rw [wi4]
    exact ⟨fun ⟨a, b, c, d⟩ => ⟨⟨a, b⟩, c, d⟩, fun ⟨⟨a, b⟩, c, d⟩ => ⟨a, b, c, d⟩⟩
  unfold chkSeg
  simp only [e1, e2]

theorem in_b (b : Bool) (x lo hi : Int) (w : World) (h : b = true ↔ (lo ≤ x ∧ x ≤ hi)) : Calls Try.prog 71 #[.int .i64 x, .int .i64 lo, .int .i64 hi] w fun e w' => e = .returned (.bool b) ∧ w = w' := by
  by_cases h1 : lo ≤ x
  · by_cases h2 : x ≤ hi
    · obtain rfl := h.2 ⟨h1, h2⟩
      clear h
      go_enter Try.func71, Try.ntmps71
      go_wp2
      go_ret
      exact ⟨rfl, rfl⟩
    · obtain rfl : b = false := by cases b; rfl; exact absurd (h.1 rfl).2 h2
      clear h
      go_enter Try.func71, Try.ntmps71
      go_wp2
      go_ret
      exact ⟨rfl, rfl⟩
  · obtain rfl : b = false := by cases b; rfl; exact absurd (h.1 rfl).1 h1
    clear h
    go_enter Try.func71, Try.ntmps71
    go_wp2
    go_ret
    exact ⟨rfl, rfl⟩

theorem coord_b (b : Bool) (x y : Int) (w : World) (h : b = true ↔ Co x y) : Calls Try.prog 48 #[pt x y] w fun e w' => e = .returned (.bool b) ∧ Below w.heap.size w w' := by
  unfold Co at h
  by_cases h1 : -32767 ≤ x ∧ x ≤ 32767
  · by_cases h2 : -32767 ≤ y ∧ y ≤ 32767
    · obtain rfl := h.2 ⟨h1, h2⟩
      clear h
      go_enter Try.func48, Try.ntmps48
      go_wp2_with (go_at_call 71; (with_reducible refine (in_b true _ _ _ _ (iff_of_true rfl (by assumption))).mono ?_); rintro e w' ⟨rfl, rfl⟩)
      go_ret
      exact ⟨rfl, below_alloc (Below.refl _ w) _⟩
    · obtain rfl : b = false := by cases b; rfl; exact absurd (h.1 rfl).2 h2
      clear h
      go_enter Try.func48, Try.ntmps48
      go_wp2_with fail
      (with_reducible refine (in_b true _ _ _ _ (iff_of_true rfl h1)).mono ?_); rintro e w' ⟨rfl, rfl⟩
      go_wp2_with fail
      (with_reducible refine (in_b false _ _ _ _ (iff_of_false Bool.false_ne_true h2)).mono ?_); rintro e w' ⟨rfl, rfl⟩
      go_wp2_with fail
      go_ret
      exact ⟨rfl, below_alloc (Below.refl _ w) _⟩
  · obtain rfl : b = false := by cases b; rfl; exact absurd (h.1 rfl).1 h1
    clear h
    go_enter Try.func48, Try.ntmps48
    go_wp2_with fail
    (with_reducible refine (in_b false _ _ _ _ (iff_of_false Bool.false_ne_true h1)).mono ?_); rintro e w' ⟨rfl, rfl⟩
    go_wp2_with fail
    go_ret
    exact ⟨rfl, below_alloc (Below.refl _ w) _⟩

theorem neT {a b : Int} (h : a ≠ b) : (a != b) = true := by simp [h]
theorem eqF {a b : Int} (h : a ≠ b) : (a == b) = false := by simp [h]
theorem eqT (a : Int) : (a == a) = true := by simp
theorem neF (a : Int) : (a != a) = false := by simp

end Go.Proofs.Ytijkoaggcmgjiaa.Co

/- What the reference's PathCheck returns. -/
namespace Go.Proofs.Ytijkoaggcmgjiaa.Co
open Go Go.RowKit
set_option linter.unusedVariables false

section
variable {P : Program} {ρ : Operand → Value} {dst : Option Tmp} {ty : TypeId} {pos : String} {af : Array Edge} {x y : Operand} {w : World} {gd : Option (Nat × Bool)}
theorem run_index {a : Addr} {j : Int} {n c : Nat} (hx : ρ x = .slice (some a) n c) (hy : ρ y = .int .i64 j) (h0 : 0 ≤ j) (hj : j < (n : Int)) :
    (execOp ρ { dst := dst, op := .indexAddr 53 x y, type := ty, pos := pos, after := af, guard := gd }).run Try.prog w = .ok (.value (.pointer (some (a.add (j.toNat * 6))))) w := by
  go_simp
theorem run_eqInt {i j : Int} (hx : ρ x = .int .i64 i) (hy : ρ y = .int .i64 j) :
    (execOp ρ { dst := dst, op := .binOp .eql 3 x y 3, type := ty, pos := pos, after := af, guard := gd }).run Try.prog w = .ok (.value (.bool (decide (i = j)))) w := by
  by_cases e : i = j
  · subst e
    rw [show decide (i = i) = true by simp]
    go_simp
  · rw [show decide (i = j) = false by simp [e]]
    have e' : (i == j) = false := by simp [e]
    go_simp
theorem run_fld0 {a : Addr} (hx : ρ x = .pointer (some a)) :
    (execOp ρ { dst := dst, op := .fieldAddr 97 x 0, type := ty, pos := pos, after := af, guard := gd }).run Try.prog w = .ok (.value (.pointer (some a))) w := by
  go_simp
theorem run_sub1 {i : Int} (hx : ρ x = .int .i64 i) (hy : ρ y = .int .i64 1) (h0 : 0 < i) (h1 : i < 9223372036854775808) :
    (execOp ρ { dst := dst, op := .binOp .sub 3 x y 3, type := ty, pos := pos, after := af, guard := gd }).run Try.prog w = .ok (.value (.int .i64 (i - 1))) w := by
  have e : IntKind.i64.wrap (i - 1) = i - 1 := by rw [IntKind.wrap_i64]; omega
  go_simp
end

/-- Whether a subpath is open ahead of segment j. -/
def opn (ss : List Sg) (j : Nat) : Bool := decide (0 < j ∧ (ss.getD (j - 1) default).k ≠ 4)

end Go.Proofs.Ytijkoaggcmgjiaa.Co

/- One operation of a region's walk (FanB): reads, calls, and those that change the memory. -/
namespace Go.Proofs.Ytijkoaggcmgjiaa.Co.F2
open Go Go.RowKit
set_option linter.unusedVariables false

section
variable {P : Program} {ops : Array Oper} {s : List Nat} {i n : Nat} {C : Nat → World → Prop} {Q : Act → Prop} {K : (Nat → Value) → Prop} {rest : List Oper} {a : Act} {f : Nat → Value} {d : Tmp} {ty : TypeId} {pos : String} {af : Array Edge} {gd : Option (Nat × Bool)} {x y : Operand} {op : Op} {o : Oper}

def Yields (P : Program) (ops : Array Oper) (s : List Nat) (C : Nat → World → Prop) (n i : Nat) (o : Oper) (f : Nat → Value) (K : (Nat → Value) → Prop) : Prop :=
  ∃ v, ((Region.wanted o (yieldE ops f) = true ∧ ∀ b w, (i ∈ s → s[b]? = some i) → C b w → Fans P (C (step s i b)) w v ((execOp (env f) o).run P w)) ∨ (Region.wanted o (yieldE ops f) = false ∧ v = undef ∧ i ∉ s)) ∧
    match o.dst with
    | some d => d < n ∧ K (upd f d v)
    | none => K f
def WalksE (P : Program) (ops : Array Oper) (s : List Nat) (C : Nat → World → Prop) (n : Nat) (Q : Act → Prop) : Nat → List Oper → (Nat → Value) → Prop
  | _, [], f => ∀ a, Is a n f → Q a
  | i, o :: rest, f => Yields P ops s C n i o f (WalksE P ops s C n Q (i + 1) rest)

theorem WalksE.sound : ∀ (l : List Oper) (i : Nat) (f : Nat → Value) (a : Act), WalksE P ops s C n Q i l f → Is a n f → Walks P ops s C Q i l a
  | [], _, _, a, h, ha => h a ha
  | o :: l, i, f, a, h, ha => by
    obtain ⟨v, hv, hk⟩ := h
    refine ⟨v, ?_, ?_⟩
    · unfold Fan; rw [ha.eval, ha.yields]; exact hv
    · cases hd : o.dst with
      | none => rw [hd] at hk; exact WalksE.sound l (i + 1) _ _ hk ha
      | some d => rw [hd] at hk; exact WalksE.sound l (i + 1) _ _ hk.2 (ha.put hk.1 v)

theorem walks_one (h : ∀ K : (Nat → Value) → Prop, (∀ f, WalksE P ops s C n Q (i + 1) rest f → K f) → Yields P ops s C n i o f K) : WalksE P ops s C n Q i (o :: rest) f := h _ (fun _ h => h)
theorem walks_with (h : ∀ K : Act → Prop, (∀ a, Q a → K a) → WalksE P ops s C n K i rest f) : WalksE P ops s C n Q i rest f := h _ (fun _ h => h)
theorem walks_end (h : ∀ a, Is a n f → Q a) : WalksE P ops s C n Q i [] f := h

theorem not_in (hs : s.elem i = false) : i ∉ s := by simpa using hs
theorem st_pure {v : Value} (hs : s.elem i = false) (hd : Nat.blt d n = true) (h : ∀ w, (execOp (env f) { dst := some d, op := op, type := ty, pos := pos, after := af, guard := gd }).run P w = .ok (.value v) w) (k : K (upd f d v))
    (hw : Region.wanted { dst := some d, op := op, type := ty, pos := pos, after := af, guard := gd } (yieldE ops f) = true := by exact rfl) : Yields P ops s C n i { dst := some d, op := op, type := ty, pos := pos, after := af, guard := gd } f K :=
  ⟨v, .inl ⟨hw, fun b w _ hC => by rw [h w, step, if_neg (not_in hs)]; exact ⟨hC, rfl⟩⟩, by simpa using hd, k⟩
/-- An operation that reads: in every world of the classes. -/
theorem st_read {v : Value} (hs : s.elem i = false) (hd : Nat.blt d n = true) (h : ∀ b w, C b w → (execOp (env f) { dst := some d, op := op, type := ty, pos := pos, after := af, guard := gd }).run P w = .ok (.value v) w) (k : K (upd f d v))
    (hw : Region.wanted { dst := some d, op := op, type := ty, pos := pos, after := af, guard := gd } (yieldE ops f) = true := by exact rfl) : Yields P ops s C n i { dst := some d, op := op, type := ty, pos := pos, after := af, guard := gd } f K :=
  ⟨v, .inl ⟨hw, fun b w _ hC => by rw [h b w hC, step, if_neg (not_in hs)]; exact ⟨hC, rfl⟩⟩, by simpa using hd, k⟩
theorem st_skip (hs : s.elem i = false) (hd : Nat.blt d n = true) (hw : Region.wanted { dst := some d, op := op, type := ty, pos := pos, after := af, guard := gd } (yieldE ops f) = false) (k : K (upd f d undef)) : Yields P ops s C n i { dst := some d, op := op, type := ty, pos := pos, after := af, guard := gd } f K :=
  ⟨undef, .inr ⟨hw, rfl, not_in hs⟩, by simpa using hd, k⟩
theorem st_call {g : FuncId} {args : Array Value} {r : Value} (hs : s.elem i = false) (hd : Nat.blt d n = true) (hrun : ∀ w, (execOp (env f) { dst := some d, op := op, type := ty, pos := pos, after := af, guard := gd }).run P w = .ok (.enter g args) w)
    (hc : ∀ b w, C b w → Calls P g args w fun e w' => e = .returned r ∧ C b w') (k : K (upd f d r))
    (hw : Region.wanted { dst := some d, op := op, type := ty, pos := pos, after := af, guard := gd } (yieldE ops f) = true := by exact rfl) : Yields P ops s C n i { dst := some d, op := op, type := ty, pos := pos, after := af, guard := gd } f K :=
  ⟨r, .inl ⟨hw, fun b w _ hC => by rw [hrun w, step, if_neg (not_in hs)]; exact ⟨rfl, hc b w hC⟩⟩, by simpa using hd, k⟩

theorem pos_one {s : List Nat} {i b k : Nat} (hn : s.Nodup) (hk : s[k]? = some i) (hb : s[b]? = some i) : b = k := by
  obtain ⟨h1, e1⟩ := List.getElem?_eq_some_iff.1 hk
  obtain ⟨h2, e2⟩ := List.getElem?_eq_some_iff.1 hb
  exact (List.getElem_inj hn).1 (e2.trans e1.symm)
/-- The k-th of the operations that change the memory: it yields a value. -/
theorem st_turn {v : Value} (m : Nat) (hm : s[m]? = some i) (hn : s.Nodup) (hd : Nat.blt d n = true) (h : ∀ w, C m w → ∃ w', (execOp (env f) { dst := some d, op := op, type := ty, pos := pos, after := af, guard := gd }).run P w = .ok (.value v) w' ∧ C (m + 1) w') (k : K (upd f d v))
    (hw : Region.wanted { dst := some d, op := op, type := ty, pos := pos, after := af, guard := gd } (yieldE ops f) = true := by exact rfl) : Yields P ops s C n i { dst := some d, op := op, type := ty, pos := pos, after := af, guard := gd } f K := by
  have hi : i ∈ s := List.mem_of_getElem? hm
  refine ⟨v, .inl ⟨hw, fun b w hb hC => ?_⟩, by simpa using hd, k⟩
  obtain rfl := pos_one hn hm (hb hi)
  obtain ⟨w', e, h'⟩ := h w hC
  rw [e, step, if_pos hi]
  exact ⟨h', rfl⟩
/-- The k-th of them: a store. -/
theorem st_store (m : Nat) (hm : s[m]? = some i) (hn : s.Nodup) (h : ∀ w, C m w → ∃ w', (execOp (env f) { dst := none, op := op, type := ty, pos := pos, after := af, guard := gd }).run P w = .ok .skip w' ∧ C (m + 1) w') (k : K f)
    (hw : Region.wanted { dst := none, op := op, type := ty, pos := pos, after := af, guard := gd } (yieldE ops f) = true := by exact rfl) : Yields P ops s C n i { dst := none, op := op, type := ty, pos := pos, after := af, guard := gd } f K := by
  have hi : i ∈ s := List.mem_of_getElem? hm
  refine ⟨undef, .inl ⟨hw, fun b w hb hC => ?_⟩, k⟩
  obtain rfl := pos_one hn hm (hb hi)
  obtain ⟨w', e, h'⟩ := h w hC
  rw [e, step, if_pos hi]
  exact ⟨h', rfl⟩
end

section
variable {ops : Array Oper} {s : List Nat} {i n : Nat} {C : Nat → World → Prop} {K : (Nat → Value) → Prop} {f : Nat → Value} {d : Tmp} {ty : TypeId} {pos : String} {af : Array Edge} {gd : Option (Nat × Bool)} {x y : Operand}
theorem st_loadSeg {a : Addr} {g : Sg} (hV : ∀ b w, C b w → SegAt w a g) (hs : s.elem i = false) (hd : Nat.blt d n = true) (hx : env f x = .pointer (some a)) (k : K (upd f d (seg g)))
    (hw : Region.wanted { dst := some d, op := .load 97 x, type := ty, pos := pos, after := af, guard := gd } (yieldE ops f) = true := by exact rfl) :
    Yields Try.prog ops s C n i { dst := some d, op := .load 97 x, type := ty, pos := pos, after := af, guard := gd } f K :=
  st_read hs hd (fun b w hC => run_loadSeg hx (hV b w hC)) k hw
theorem st_loadFld {a : Addr} {z : Int} (hV : ∀ b w, C b w → w.cell? a = some (.int .i64 z)) (hs : s.elem i = false) (hd : Nat.blt d n = true) (hx : env f x = .pointer (some a)) (k : K (upd f d (.int .i64 z)))
    (hw : Region.wanted { dst := some d, op := .load 3 x, type := ty, pos := pos, after := af, guard := gd } (yieldE ops f) = true := by exact rfl) :
    Yields Try.prog ops s C n i { dst := some d, op := .load 3 x, type := ty, pos := pos, after := af, guard := gd } f K :=
  st_read hs hd (fun b w hC => run_loadFld hx (hV b w hC)) k hw
end

/-- The worlds, one for each level. -/
def Ex (Ws : Nat → World) (b : Nat) (w : World) : Prop := w = Ws b
def w3 (a b c : World) : Nat → World
  | 0 => a
  | 1 => b
  | _ => c

section
variable {P : Program} {ρ : Operand → Value} {dst : Option Tmp} {ty : TypeId} {pos : String} {af : Array Edge} {x y : Operand} {w : World} {gd : Option (Nat × Bool)}
theorem run_lit {s : Sg} (hx : ρ x = seg s) :
    (execOp ρ { dst := dst, op := .buildSlice 53 1 #[(0, x)], type := ty, pos := pos, after := af, guard := gd }).run Try.prog w = .ok (.value (.slice (some ⟨w.heap.size, 0, none⟩) 1 1)) (w.alloc (.cells (cel s) 97)) := by
  go_simp
theorem run_append {t : TypeId} {v v' u : Value} {w' : World} (hx : ρ x = v) (hy : ρ y = u) (h : (Builtin.append_ #[t, t] ty #[v, u]).run P w = .ok v' w') :
    (execOp ρ { dst := dst, op := .call { callee := .builtin .append, args := #[x, y], argTypes := #[t, t] }, type := ty, pos := pos, after := af, guard := gd }).run P w = .ok (.value v') w' := by
  unfold execOp
  simp only [resolve, invoke, builtin, Sem.run_bind, Sem.run_pure, Result.andThen_ok, List.map_toArray, List.map_cons, List.map_nil, hx, hy, h]
theorem run_build3 {c0 : Value} {z1 z2 : Operand} {a b : Int} {k : Int} (h0 : ρ x = .int .i64 k) (h1 : ρ z1 = .int .i64 a) (h2 : ρ z2 = .int .i64 b) :
    (execOp ρ { dst := dst, op := .build 97 #[(0, x), (1, z1), (2, z2)], type := ty, pos := pos, after := af, guard := gd }).run Try.prog w = .ok (.value (seg ⟨k, a, b, 0, 0, 0⟩)) w := by
  go_simp
theorem run_build6 {z0 z1 z2 z3 z4 z5 : Operand} {k a b c d e : Int} (h0 : ρ z0 = .int .i64 k) (h1 : ρ z1 = .int .i64 a) (h2 : ρ z2 = .int .i64 b) (h3 : ρ z3 = .int .i64 c) (h4 : ρ z4 = .int .i64 d) (h5 : ρ z5 = .int .i64 e) :
    (execOp ρ { dst := dst, op := .build 97 #[(0, z0), (1, z1), (2, z2), (3, z3), (4, z4), (5, z5)], type := ty, pos := pos, after := af, guard := gd }).run Try.prog w = .ok (.value (seg ⟨k, a, b, c, d, e⟩)) w := by
  go_simp
end

theorem ex_below {B : Nat} {w a b c : World} (h0 : Below B w a) (h1 : Below B w b) (h2 : Below B w c) : ∀ m w1, Ex (w3 a b c) m w1 → Below B w w1
  | 0, _, h => by cases h; exact h0
  | 1, _, h => by cases h; exact h1
  | _ + 2, _, h => by cases h; exact h2
theorem run_storeInt {ρ : Operand → Value} {dst : Option Tmp} {ty : TypeId} {pos : String} {af : Array Edge} {x y : Operand} {w : World} {gd : Option (Nat × Bool)} {b j : Nat} {z : Int} {c : Array Value} {t : TypeId} {old : Value} (hx : ρ x = .pointer (some ⟨b, j, none⟩)) (hy : ρ y = .int .i64 z) (hV : Var w b c t) (hj : c[j]? = some old) :
    (execOp ρ { dst := dst, op := .store 3 x y, type := ty, pos := pos, after := af, guard := gd }).run Try.prog w = .ok .skip (w.setCell ⟨b, j, none⟩ (.int .i64 z)) := by
  have h1 : w.cell? ⟨b, j, none⟩ = some old := (hV.cell j).trans hj
  have h2 : w.frozen? ⟨b, j, none⟩ = false := hV.free j
  go_simp
theorem infoSeg : (Try.prog.info? 97).map (fun i => (i.zero, i.size, i.bytes)) = some (some (seg ⟨0, 0, 0, 0, 0, 0⟩), 6, 48) := by kernel_rfl

/-- append of one segment, out of a literal's block. -/
theorem append_seg {w : World} {B n : Nat} {v : Value} {xs : List Sg} {s : Sg} {ty : TypeId} (hB : B ≤ w.heap.size) (hown : w.ownsRow B 97 6 v n (flat xs)) (hl : n ≤ 100000) :
    ∃ v' w', (Builtin.append_ #[53, 53] ty #[v, .slice (some ⟨w.heap.size, 0, none⟩) 1 1]).run Try.prog (w.alloc (.cells (cel s) 97)) = .ok v' w' ∧ w'.ownsRow B 97 6 v' (n + 1) (flat (xs ++ [s])) ∧ Below B w w' := by
  obtain ⟨i0, hi, hz0, hz1, hz2⟩ := info_parts infoSeg
  have hown1 := hown.alloc (.cells (cel s) 97)
  obtain ⟨v', w', h1, h2, h3, -⟩ := run_append_own (P := Try.prog) (w.alloc (.cells (cel s) 97)) B 53 ty 97 i0 _ 6 48 Try.underlying53 hi hz0 hz1 hz2 rfl (by decide) v n (flat xs) hown1
    ⟨w.heap.size, 0, none⟩ 1 1 (cel s).toList rfl (fun j u hu => by
      have hV := (Var.new w (cel s) 97 _ rfl).cell j
      rw [show (⟨w.heap.size, 0, none⟩ : Addr).add j = ⟨w.heap.size, j, none⟩ by unfold Addr.add; split <;> simp_all, hV]
      simpa using hu) (fun u hu => by
      simp only [List.mem_cons, List.not_mem_nil, or_false] at hu
      rcases hu with rfl | rfl | rfl | rfl | rfl | rfl <;> rfl) (by unfold maxLen; omega) (by omega) (by simp; omega)
  refine ⟨v', w', h1, by rw [flat_append]; simpa [flat] using h2, ?_⟩
  exact ((Below.refl B w).alloc hB _).grown h3 (by simp; omega) (fun k hk => (hown1.lt k hk).1)

end Go.Proofs.Ytijkoaggcmgjiaa.Co.F2

/- append of points onto a row of the call's own. -/
namespace Go.Proofs.Ytijkoaggcmgjiaa.Co
open Go Go.RowKit
set_option linter.unusedVariables false
set_option linter.unusedSimpArgs false

theorem append_pts {w : World} {B n g m c : Nat} {v : Value} {xs ys : List P2} {ty : TypeId} (hB : B ≤ w.heap.size) (hown : w.ownsRow B 40 2 v n (pfl xs)) (hrow : Row2 w g ys) (hm : ys.length = m) (h0 : 0 < m) (hl : n + m ≤ 1000000) :
    ∃ g' c' w', (Builtin.append_ #[36, 36] ty #[v, .slice (some ⟨g, 0, none⟩) m c]).run Try.prog w = .ok (.slice (some ⟨g', 0, none⟩) (n + m) c') w' ∧
      w'.ownsRow B 40 2 (.slice (some ⟨g', 0, none⟩) (n + m) c') (n + m) (pfl (xs ++ ys)) ∧ w.grownBy w' v.ownBlock ∧ (v.ownBlock = some g' ∨ g' = w.heap.size) ∧ g' < w'.heap.size := by
  have e := infoPt
  cases hi : Try.prog.info? 40 with
  | none => rw [hi] at e; cases e
  | some i =>
    rw [hi] at e
    simp only [Option.map_some, Option.some.injEq, Prod.mk.injEq] at e
    rw [pfl_append]
    refine run_append_lies (P := Try.prog) w 36 ty B 40 i (pt 0 0) 2 16 (by kernel_rfl) hi e.1 e.2.1 e.2.2 rfl (by decide) v n (pfl xs) hown ⟨g, 0, none⟩ m c (pfl ys) (by rw [pfl_length, hm]) (fun j u hu => ?_) (pfl_int ys) h0 (by unfold maxLen; omega) (by omega) hB _ rfl
    rw [addr0]
    have hj : j < ys.length * 2 := by
      rcases Nat.lt_or_ge j (ys.length * 2) with k | k
      · exact k
      · rw [List.getElem?_eq_none (by rw [pfl_length]; exact k)] at hu; cases hu
    obtain ⟨q, r, rfl, hr⟩ : ∃ q r, j = q * 2 + r ∧ r < 2 := ⟨j / 2, j % 2, by omega, by omega⟩
    have hq : q < ys.length := by omega
    have h1 := hrow q _ (List.getElem?_eq_getElem hq)
    have h2 := pfl_get ys q _ (List.getElem?_eq_getElem hq)
    rcases (show r = 0 ∨ r = 1 by omega) with rfl | rfl
    · exact h1.1.trans (h2.1.symm.trans hu)
    · exact h1.2.trans (h2.2.symm.trans hu)
theorem own_next {w w' : World} {B size n : Nat} {e : TypeId} {v : Value} {xs : List Value} (h : w.ownsRow B e size v n xs) (hb : Below w.heap.size w w') : w'.ownsRow B e size v n xs := by
  refine ⟨h.1, ?_⟩
  rcases h.2 with h1 | ⟨g, cap, cur, hv, hB, hh, hr⟩
  · exact .inl h1
  · refine .inr ⟨g, cap, cur, hv, hB, (hb.block g ?_).trans hh, hr⟩
    rcases Nat.lt_or_ge g w.heap.size with k | k
    · exact k
    · rw [Array.getElem?_eq_none k] at hh; cases hh
theorem row_one {w : World} {p : P2} {g : Nat} (h : Var w g (pcel p) 40) : Row2 w g [p] := fun i q hq => by
  cases i with
  | zero =>
    obtain rfl : p = q := by simpa using hq
    exact ⟨h.cell 0, h.cell 1⟩
  | succ i => simp at hq
/-- append of one point, out of a literal's block. -/
theorem append_pt {w : World} {B n : Nat} {v : Value} {xs : List P2} {p : P2} {ty : TypeId} (hB : B ≤ w.heap.size) (hown : w.ownsRow B 40 2 v n (pfl xs)) (hl : n ≤ 100000) :
    ∃ v' w', (Builtin.append_ #[36, 36] ty #[v, .slice (some ⟨w.heap.size, 0, none⟩) 1 1]).run Try.prog (w.alloc (.cells (pcel p) 40)) = .ok v' w' ∧ w'.ownsRow B 40 2 v' (n + 1) (pfl (xs ++ [p])) ∧ Below B w w' := by
  have hown1 := hown.alloc (.cells (pcel p) 40)
  obtain ⟨g', c', w', h1, h2, h3, -, -⟩ := append_pts (m := 1) (c := 1) (ty := ty) (ys := [p]) (g := w.heap.size) (by simp; omega) hown1 (row_one (Var.new w (pcel p) 40 _ rfl)) rfl (by decide) (by omega)
  exact ⟨_, w', h1, h2, ((Below.refl B w).alloc hB _).grown h3 (by simp; omega) (fun k hk => (hown1.lt k hk).1)⟩

end Go.Proofs.Ytijkoaggcmgjiaa.Co

/- The text of a path, without a program: its words, how long they are, what a valid path's segments hold. -/
namespace Go.Proofs.Ytijkoaggcmgjiaa.Co
open Go
set_option linter.unusedVariables false

/-- A kind's letter and, each behind a space, numbers. -/
def words (k : UInt8) (zs : List Int) : List UInt8 := k :: zs.flatMap fun z => 32 :: Lib.itoa z
def segT (s : Sg) : List UInt8 :=
  if s.k = 1 then words 109 [s.x, s.y] else if s.k = 2 then words 108 [s.x, s.y] else if s.k = 3 then words 113 [s.u, s.v, s.x, s.y, s.w] else [104]
def textOf (ss : List Sg) : List UInt8 := Lib.join (ss.map segT) [32]
def segB (s : Sg) : ByteArray := ⟨(segT s).toArray⟩
theorem segB_list (s : Sg) : (segB s).data.toList = segT s := by simp [segB]

def I64 (z : Int) : Prop := -9223372036854775808 ≤ z ∧ z ≤ 9223372036854775807
theorem words_take (k : UInt8) (zs : List Int) (j : Nat) (h : j < zs.length) : words k (zs.take (j + 1)) = words k (zs.take j) ++ (32 :: Lib.itoa zs[j]) := by
  unfold words
  rw [List.take_succ_eq_append_getElem h, List.flatMap_append]
  simp
theorem words_length (k : UInt8) : ∀ (zs : List Int), (∀ z ∈ zs, I64 z) → (words k zs).length ≤ 1 + 22 * zs.length
  | [], _ => by simp [words]
  | z :: r, h => by
    have h1 := words_length k r fun y hy => h y (by simp [hy])
    have hz : I64 z := h z (by simp)
    have h2 := Lib.itoa_length_le z hz.1 hz.2
    have e : words k (z :: r) = k :: ((32 :: Lib.itoa z) ++ r.flatMap fun z => 32 :: Lib.itoa z) := rfl
    rw [e]
    simp only [words, List.length_cons, List.length_append] at h1 ⊢
    omega

/-- The fields are 64 bits wide. -/
def Fit (s : Sg) : Prop := I64 s.x ∧ I64 s.y ∧ I64 s.u ∧ I64 s.v ∧ I64 s.w
theorem segT_length (s : Sg) (h : Fit s) : (segT s).length ≤ 111 := by
  obtain ⟨hx, hy, hu, hv, hw⟩ := h
  have two : ∀ z ∈ [s.x, s.y], I64 z := fun z hz => by
    rcases List.mem_cons.1 hz with rfl | hz
    · exact hx
    · rcases List.mem_cons.1 hz with rfl | hz
      · exact hy
      · cases hz
  have five : ∀ z ∈ [s.u, s.v, s.x, s.y, s.w], I64 z := fun z hz => by
    simp only [List.mem_cons, List.not_mem_nil, or_false] at hz
    rcases hz with rfl | rfl | rfl | rfl | rfl <;> assumption
  unfold segT
  split
  · have := words_length 109 _ two; simp at this; omega
  · split
    · have := words_length 108 _ two; simp at this; omega
    · split
      · have := words_length 113 _ five; simp at this; omega
      · simp

theorem lens_le (c : Nat) : ∀ (l : List (List UInt8)), (∀ x ∈ l, x.length ≤ c) → Lib.lens l ≤ c * l.length
  | [], _ => by simp [Lib.lens]
  | x :: r, h => by
    have h1 := lens_le c r fun y hy => h y (by simp [hy])
    have h2 := h x (by simp)
    have e : Lib.lens (x :: r) = x.length + Lib.lens r := by simp [Lib.lens]
    rw [e, List.length_cons, Nat.mul_add]
    omega
theorem join_le (c : Nat) (l : List (List UInt8)) (h : ∀ x ∈ l, x.length ≤ c) : (Lib.join l [32]).length ≤ (c + 1) * l.length := by
  cases l with
  | nil => simp [Lib.join_nil]
  | cons x r =>
    rw [Lib.join_length]
    have h1 := lens_le c (x :: r) h
    rw [Nat.add_mul]
    simp only [List.length_cons, List.length_nil] at h1 ⊢
    omega
theorem textOf_length (ss : List Sg) (h : ∀ s ∈ ss, Fit s) : (textOf ss).length ≤ 112 * ss.length := by
  have := join_le 111 (ss.map segT) fun x hx => by
    obtain ⟨s, hs, rfl⟩ := List.mem_map.1 hx
    exact segT_length s (h s hs)
  simpa [textOf] using this

/-! ### what a valid path's segments hold -/
/-- A segment that stands in a valid path. -/
structure Okay (s : Sg) : Prop where
  k : 1 ≤ s.k ∧ s.k ≤ 4
  m : s = mean s
  r : Wi 32767 [s.x, s.y, s.u, s.v]
  w : s.k = 3 → 16 ≤ s.w ∧ s.w ≤ 4096
theorem okay_of {s : Sg} {o : Bool} (h : chkSeg s o = 0) : Okay s ∧ (o = true ∨ s.k = 1) := by
  unfold chkSeg at h
  split at h
  · cases h
  · split at h
    · cases h
    · split at h
      · cases h
      · split at h
        · cases h
        · split at h
          · cases h
          · rename_i h1 h2 h3 h4 h5
            refine ⟨⟨by omega, Classical.byContradiction fun e => h3 e, Classical.byContradiction fun e => h4 e, fun e => by
              have := fun f => h5 ⟨e, f⟩
              omega⟩, ?_⟩
            cases o
            · exact .inr (Classical.byContradiction fun e => h2 ⟨rfl, e⟩)
            · exact .inl rfl
theorem Okay.fit {s : Sg} (h : Okay s) : Fit s := by
  obtain ⟨hk, hm, hr, hw⟩ := h
  have hr' := wi4.1 hr
  refine ⟨⟨by omega, by omega⟩, ⟨by omega, by omega⟩, ⟨by omega, by omega⟩, ⟨by omega, by omega⟩, ?_⟩
  by_cases e : s.k = 3
  · have := hw e; exact ⟨by omega, by omega⟩
  · have : s.w = (mean s).w := congrArg Sg.w hm
    have h0 : (mean s).w = 0 := by
      unfold mean
      rw [if_neg e]
      split <;> rfl
    exact ⟨by omega, by omega⟩
theorem chkAll_okay : ∀ {ss : List Sg} {o : Bool}, chkAll o ss = 0 → ∀ s ∈ ss, Okay s
  | s :: r, o, h, g, hg => by
    rw [chkAll] at h
    split at h
    · rename_i h0
      rcases List.mem_cons.1 hg with rfl | hg
      · exact (okay_of h0).1
      · exact chkAll_okay h g hg
    · rename_i h0; exact absurd h h0
theorem chk_all {ss : List Sg} (h : chk ss = 0) : chkAll false ss = 0 := by
  unfold chk at h
  split at h
  · cases h
  · exact h
theorem chk_okay {ss : List Sg} (h : chk ss = 0) : ∀ s ∈ ss, Okay s := chkAll_okay (chk_all h)

end Go.Proofs.Ytijkoaggcmgjiaa.Co

/- The lines of a path: lists alone. -/
namespace Go.Proofs.Ytijkoaggcmgjiaa.Co
open Go Go.RowKit
set_option linter.unusedVariables false
set_option linter.unusedSimpArgs false

structure Ln where
  ps : List P2
  cl : Bool
deriving Inhabited
def lastP (l : Ln) : P2 := l.ps.getLastD default
def updL (l : Ln) (s : Sg) : Ln := if s.k = 4 then ⟨l.ps, true⟩ else ⟨l.ps ++ replP (lastP l) s, l.cl⟩
def addL (ls : List Ln) (s : Sg) : List Ln := if s.k = 1 then ls ++ [⟨[⟨s.x, s.y⟩], false⟩] else match ls.getLast? with
  | none => []
  | some l => ls.dropLast ++ [updL l s]
/-- The lines of a path. -/
def flatL (ss : List Sg) : List Ln := ss.foldl addL []
theorem addL_move (ls : List Ln) {s : Sg} (h : s.k = 1) : addL ls s = ls ++ [⟨[⟨s.x, s.y⟩], false⟩] := if_pos h
theorem addL_last (ls : List Ln) (l : Ln) {s : Sg} (h : s.k ≠ 1) : addL (ls ++ [l]) s = ls ++ [updL l s] := by
  unfold addL
  rw [if_neg h]
  simp
theorem flatL_take {ss : List Sg} {k : Nat} (h : k < ss.length) : flatL (ss.take (k + 1)) = addL (flatL (ss.take k)) ss[k] := by
  unfold flatL
  rw [List.take_add_one, List.getElem?_eq_getElem h, List.foldl_append]
  rfl
theorem lastP_of {l : Ln} {p : P2} (h : l.ps.getLast? = some p) : lastP l = p := by
  unfold lastP
  rw [List.getLastD_eq_getLast?, h]; rfl
theorem replP_last {p : P2} {s : Sg} (h : s.k = 2 ∨ s.k = 3 ∧ InC (cuOf p s)) : (replP p s).getLast? = some ⟨s.x, s.y⟩ ∧ 1 ≤ (replP p s).length ∧ (replP p s).length ≤ 512 := by
  unfold replP
  rcases h with h | ⟨h, hc⟩
  · rw [if_pos h]; exact ⟨rfl, by simp, by simp⟩
  · rw [if_neg (by omega)]
    have hd := dv_bd (cuOf p s)
    exact ⟨pts_last (c := cuOf p s) hc.w, by rw [pts_length]; omega, by rw [pts_length]; omega⟩
theorem chk_first {ss : List Sg} (h : chk ss = 0) (hl : 0 < ss.length) : ss[0].k = 1 := by
  have h1 := chk_all h
  cases ss with
  | nil => simp at hl
  | cons s r =>
    unfold chkAll at h1
    by_cases hs : chkSeg s false = 0
    · rcases (okay_of hs).2 with h2 | h2
      · cases h2
      · exact h2
    · rw [if_neg hs] at h1; exact absurd h1 hs
theorem inc_of {p : P2} {s : Sg} (hp : In3 p) (hs : Okay s) (h1 : s.k ≠ 1) (h4 : s.k ≠ 4) : s.k = 2 ∨ s.k = 3 ∧ InC (cuOf p s) := by
  have := hs.k
  obtain ⟨a, b, c, d⟩ := wi4.1 hs.r
  by_cases h2 : s.k = 2
  · exact .inl h2
  · have h3 : s.k = 3 := by omega
    exact .inr ⟨h3, hp, ⟨c, d⟩, ⟨a, b⟩, hs.w h3⟩
theorem okay_in {s : Sg} (hs : Okay s) : In3 ⟨s.x, s.y⟩ := by
  obtain ⟨a, b, c, d⟩ := wi4.1 hs.r
  exact ⟨a, b⟩
/-- A line that is being drawn. -/
structure LOk (k : Nat) (l : Ln) : Prop where
  i : In3 (lastP l)
  p : 0 < l.ps.length
  n : l.ps.length ≤ 512 * k
theorem LOk.move {s : Sg} {k : Nat} (hs : Okay s) (hk : 0 < k) : LOk k ⟨[⟨s.x, s.y⟩], false⟩ := ⟨okay_in hs, by simp, by simp; omega⟩
theorem LOk.upd {s : Sg} {k : Nat} {l : Ln} (h : LOk k l) (hs : Okay s) (h1 : s.k ≠ 1) : LOk (k + 1) (updL l s) := by
  unfold updL
  by_cases h4 : s.k = 4
  · rw [if_pos h4]; exact ⟨h.i, h.p, by show l.ps.length ≤ _; have := h.n; omega⟩
  · rw [if_neg h4]
    obtain ⟨hl, ha, hb⟩ := replP_last (inc_of h.i hs h1 h4)
    refine ⟨?_, by simp; omega, by have := h.n; simp; omega⟩
    have : lastP ⟨l.ps ++ replP (lastP l) s, l.cl⟩ = ⟨s.x, s.y⟩ := lastP_of (by rw [List.getLast?_append, hl]; rfl)
    rw [this]
    exact okay_in hs
theorem flat_ok {ss : List Sg} (h : chk ss = 0) : ∀ k, k ≤ ss.length → 0 < k → ∃ ls l, flatL (ss.take k) = ls ++ [l] ∧ LOk k l
  | 0, _, h0 => absurd h0 (by omega)
  | k + 1, hk, _ => by
    have hkl : k < ss.length := by omega
    have ho := chk_okay h ss[k] (List.getElem_mem hkl)
    rw [flatL_take hkl]
    by_cases h1 : ss[k].k = 1
    · rw [addL_move _ h1]
      exact ⟨_, _, rfl, LOk.move ho (by omega)⟩
    · have hk0 : 0 < k := by
        rcases Nat.eq_zero_or_pos k with e | e
        · subst e; exact absurd (chk_first h (by omega)) h1
        · exact e
      obtain ⟨ls, l, e1, e2⟩ := flat_ok h k (by omega) hk0
      rw [e1, addL_last _ _ h1]
      exact ⟨_, _, rfl, e2.upd ho h1⟩

end Go.Proofs.Ytijkoaggcmgjiaa.Co

/- A region that draws its order and holds: a call that returns a new row of points, an append of it to a row of the call's own, a store of the slice. -/
namespace Go.Proofs.Ytijkoaggcmgjiaa.Co
open Go Go.RowKit
set_option linter.unusedVariables false
set_option linter.unusedSimpArgs false

section
variable {P : Program} {ops : Array Oper} {S : List (Option Nat)} {V : List Value} {F : List (Nat × Value)} {M : (Nat → Bool) → (Nat → Value) → World → Prop}
/-- A call whose value the table doesn't have. -/
theorem tj_callx {n i : Nat} {d : Tmp} {g : FuncId} {op : Op} {ty : TypeId} {pos : String} {af : Array Edge} (hd : Nat.blt d n = true) (hs : slotAt S i = none) (hfr : fresh S (F.map Prod.fst) i d = true)
    (hrun : ∀ L f w, L i = false → (∀ e ∈ af, Region.binds .any e = true → L e.on = true) → TJ S V F M L f w → ∃ args, (execOp (env f) { dst := some d, op := op, type := ty, pos := pos, after := af, guard := none }).run P w = .ok (.enter g args) w ∧ Calls P g args w fun e w' => ∃ v, e = .returned v ∧ M (Iv.mark L i) (upd f d v) w') :
    Iv.StepOk P ops n (TJ S V F M) i { dst := some d, op := op, type := ty, pos := pos, after := af, guard := none } := by
  refine ⟨fun d' h => by cases h; simpa using hd, fun L f w hL hdep H => ⟨fun _ => ?_, fun h => by cases h⟩⟩
  obtain ⟨args, h1, h2⟩ := hrun L f w hL hdep H
  rw [h1]
  exact h2.mono fun e w' ⟨v, he, hm⟩ => ⟨v, he, H.step (.inl hs) hfr hm⟩
end

/-- What the append has left. -/
structure AppRes (W : World) (B : Nat) (vo : Value) (xs ys : List P2) (w : World) (v : Value) : Prop where
  f : ∃ g c, v = .slice (some ⟨g, 0, none⟩) (xs.length + ys.length) c ∧ (vo.ownBlock = some g ∨ W.heap.size ≤ g) ∧ g < w.heap.size
  o : w.ownsRow B 40 2 v (xs.length + ys.length) (pfl (xs ++ ys))
  g : W.grownBy w vo.ownBlock
/-- oc, oa, os: the numbers of the call, the append, the store; fc, fa: their slots; the slice is stored at A. -/
structure MApp (W : World) (B : Nat) (vo : Value) (xs ys : List P2) (A : Addr) (oc oa os fc fa : Nat) (dep : List (Nat × Nat)) (L : Nat → Bool) (f : Nat → Value) (w : World) : Prop where
  b : L oa = false → Below W.heap.size W w
  c : L oc = true → L oa = false → ∃ g c, f fc = .slice (some ⟨g, 0, none⟩) ys.length c ∧ W.heap.size ≤ g ∧ g < w.heap.size ∧ Row2 w g ys
  e : L oa = true → L os = false → AppRes W B vo xs ys w (f fa)
  s : L os = true → ∃ wa, AppRes W B vo xs ys wa (f fa) ∧ w = wa.setCell A (f fa)
  d : ∀ q ∈ dep, L q.1 = true → L q.2 = true

section
variable {W w w' : World} {B : Nat} {vo : Value} {xs ys : List P2} {A : Addr} {oc oa os fc fa : Nat} {dep : List (Nat × Nat)} {L : Nat → Bool} {f : Nat → Value} {i d : Nat}
theorem MApp.start : MApp W B vo xs ys A oc oa os fc fa dep (fun _ => false) f W.drew :=
  ⟨fun _ => (Below.refl _ W).drew, fun h => (by cases h), fun h => (by cases h), fun h => (by cases h), fun _ _ h => (by cases h)⟩
theorem MApp.pre (h : MApp W B vo xs ys A oc oa os fc fa dep L f w) (hL : L i = false) (hd : (oa, i) ∈ dep) : L oa = false := by
  cases e : L oa
  · rfl
  · rw [h.d _ hd e] at hL; cases hL
theorem MApp.old (h : MApp W B vo xs ys A oc oa os fc fa dep L f w) (hL : L i = false) (hd : (oa, i) ∈ dep) : Below W.heap.size W w := h.b (h.pre hL hd)
/-- A value: the memory stays. -/
theorem MApp.next {v : Value} (h : MApp W B vo xs ys A oc oa os fc fa dep L f w) (hi : (Nat.beq oc i || Nat.beq oa i || Nat.beq os i || Nat.beq fc d || Nat.beq fa d || dep.any (fun q => Nat.beq q.1 i)) = false) : MApp W B vo xs ys A oc oa os fc fa dep (Iv.mark L i) (upd f d v) w := by
  simp only [Bool.or_eq_false_iff] at hi
  obtain ⟨⟨⟨⟨⟨h1, h2⟩, h3⟩, h4⟩, h5⟩, h6⟩ := hi
  have ne : ∀ {a b : Nat}, Nat.beq a b = false → a ≠ b := fun h e => by rw [e, Nat.beq_refl] at h; cases h
  have e1 : Iv.mark L i oc = L oc := mark_ne (ne h1)
  have e2 : Iv.mark L i oa = L oa := mark_ne (ne h2)
  have e3 : Iv.mark L i os = L os := mark_ne (ne h3)
  have e4 : upd f d v fc = f fc := upd_ne f v (ne h4)
  have e5 : upd f d v fa = f fa := upd_ne f v (ne h5)
  refine ⟨fun k => h.b (by rwa [e2] at k), fun k k' => ?_, fun k k' => ?_, fun k => ?_, fun q hq k => ?_⟩
  · rw [e4]; exact h.c (by rwa [e1] at k) (by rwa [e2] at k')
  · rw [e5]; exact h.e (by rwa [e2] at k) (by rwa [e3] at k')
  · rw [e5]; exact h.s (by rwa [e3] at k)
  · have hne : q.1 ≠ i := fun e => by
      have := List.any_eq_false.1 h6 q hq
      rw [e, Nat.beq_refl] at this
      exact this rfl
    rw [mark_ne hne] at k
    exact mark_le (h.d q hq k)
end

section
variable {ops : Array Oper} {S : List (Option Nat)} {V : List Value} {F : List (Nat × Value)} {W : World} {B n i : Nat} {vo : Value} {xs ys : List P2} {A : Addr} {oc oa os fc fa : Nat} {dep : List (Nat × Nat)} {d : Tmp} {op : Op} {ty : TypeId} {pos : String} {af : Array Edge}
theorem ma_val {v : Value} (hd : Nat.blt d n = true) (hs : slotAt S i = some d) (hfr : fresh S (F.map Prod.fst) i d = true)
    (hi : (Nat.beq oc i || Nat.beq oa i || Nat.beq os i || Nat.beq fc d || Nat.beq fa d || dep.any (fun q => Nat.beq q.1 i)) = false) (hv : v = valAt V i)
    (hrun : ∀ L f w, L i = false → (∀ e ∈ af, Region.binds .any e = true → L e.on = true) → TJ S V F (MApp W B vo xs ys A oc oa os fc fa dep) L f w → (execOp (env f) { dst := some d, op := op, type := ty, pos := pos, after := af, guard := none }).run Try.prog w = .ok (.value v) w) :
    Iv.StepOk Try.prog ops n (TJ S V F (MApp W B vo xs ys A oc oa os fc fa dep)) i { dst := some d, op := op, type := ty, pos := pos, after := af, guard := none } :=
  tj_val hd hs hfr (fun _ _ _ h => h.next hi) hv hrun
/-- The call. -/
theorem ma_call {g : FuncId} (hd : Nat.blt d n = true) (hs : slotAt S i = none) (hfr : fresh S (F.map Prod.fst) i d = true) (hi : oc = i) (hf : fc = d) (ha : Nat.beq oa i = false) (hst : Nat.beq os i = false) (hfa : Nat.beq fa d = false)
    (hys : 0 < ys.length) (hao : (oa, oc) ∈ dep) (hso : (os, oa) ∈ dep) (hdp : ∀ L : Nat → Bool, (∀ e ∈ af, Region.binds .any e = true → L e.on = true) → ∀ q ∈ dep, q.1 = i → L q.2 = true)
    (hrun : ∀ L f w, L i = false → (∀ e ∈ af, Region.binds .any e = true → L e.on = true) → TJ S V F (MApp W B vo xs ys A oc oa os fc fa dep) L f w → Below W.heap.size W w → ∃ args, (execOp (env f) { dst := some d, op := op, type := ty, pos := pos, after := af, guard := none }).run Try.prog w = .ok (.enter g args) w ∧ Calls Try.prog g args w (GivesPts ys w)) :
    Iv.StepOk Try.prog ops n (TJ S V F (MApp W B vo xs ys A oc oa os fc fa dep)) i { dst := some d, op := op, type := ty, pos := pos, after := af, guard := none } := by
  subst hi hf
  have ne : ∀ {a b : Nat}, Nat.beq a b = false → a ≠ b := fun h e => by rw [e, Nat.beq_refl] at h; cases h
  refine tj_callx (g := g) hd hs hfr fun L f w hL hdep H => ?_
  have hoa : L oa = false := H.m.pre hL hao
  have hos : L os = false := by
    cases e : L os
    · rfl
    · rw [H.m.d _ hso e] at hoa; cases hoa
  obtain ⟨args, h1, h2⟩ := hrun L f w hL hdep H (H.m.b hoa)
  refine ⟨args, h1, h2.mono ?_⟩
  rintro e w' ⟨v, rfl, ho, hb⟩
  obtain ⟨g', c', hv, hge, hlt, hr⟩ := own_row ho hys
  refine ⟨v, rfl, fun _ => below_next (H.m.b hoa) hb, fun _ _ => ⟨g', c', by rw [upd_at]; exact hv, Nat.le_trans (H.m.b hoa).size hge, hlt, hr⟩, fun k => ?_, fun k => ?_, fun q hq k => ?_⟩
  · rw [mark_ne (ne ha), hoa] at k; cases k
  · rw [mark_ne (ne hst), hos] at k; cases k
  · by_cases e : q.1 = oc
    · exact mark_le (hdp L hdep q hq e)
    · rw [mark_ne e] at k; exact mark_le (H.m.d q hq k)
/-- The append. -/
theorem ma_app {x y : Operand} (hd : Nat.blt d n = true) (hs : slotAt S i = none) (hfr : fresh S (F.map Prod.fst) i d = true) (hi : oa = i) (hf : fa = d) (hst : Nat.beq os i = false) (hfc : Nat.beq fc d = false) (hoc : Nat.beq oc i = false)
    (hys : 0 < ys.length) (hl : xs.length + ys.length ≤ 1000000) (hB : B ≤ W.heap.size) (hso : (os, oa) ∈ dep) (haf : ∃ e ∈ af, Region.binds .any e = true ∧ e.on = oc) (hdp : ∀ (L : Nat → Bool), (∀ q ∈ dep, L q.1 = true → L q.2 = true) → (∀ e ∈ af, Region.binds .any e = true → L e.on = true) → ∀ q ∈ dep, q.1 = i → L q.2 = true)
    (hop : op = .call { callee := .builtin .append, args := #[x, y], argTypes := #[36, 36] }) (hown : W.ownsRow B 40 2 vo xs.length (pfl xs)) (hy : y = .tmp fc)
    (hx : ∀ L f w, (∀ e ∈ af, Region.binds .any e = true → L e.on = true) → TJ S V F (MApp W B vo xs ys A oc oa os fc fa dep) L f w → env f x = vo) :
    Iv.StepOk Try.prog ops n (TJ S V F (MApp W B vo xs ys A oc oa os fc fa dep)) i { dst := some d, op := op, type := ty, pos := pos, after := af, guard := none } := by
  subst hi hf hop hy
  have ne : ∀ {a b : Nat}, Nat.beq a b = false → a ≠ b := fun h e => by rw [e, Nat.beq_refl] at h; cases h
  refine tj_any hd hs hfr fun L f w hL hdep H => ?_
  obtain ⟨e, he, hb, hon⟩ := haf
  have hc : L oc = true := hon ▸ hdep e he hb
  have hos : L os = false := by
    cases e : L os
    · rfl
    · rw [H.m.d _ hso e] at hL; cases hL
  obtain ⟨g, c, hg1, hg2, hg3, hr⟩ := H.m.c hc hL
  have hbl := H.m.b hL
  have ho := own_next hown hbl
  obtain ⟨g', c', w', r1, r2, r3, r4, r5⟩ := append_pts (c := c) (ty := ty) (Nat.le_trans hB hbl.size) ho hr rfl hys hl
  refine ⟨_, w', F2.run_append (hx L f w hdep H) hg1 r1, fun k => ?_, fun _ k => ?_, fun _ _ => ?_, fun k => ?_, fun q hq k => ?_⟩
  · rw [show Iv.mark L oa oa = true by unfold Iv.mark; rw [Nat.beq_refl]; rfl] at k; cases k
  · rw [show Iv.mark L oa oa = true by unfold Iv.mark; rw [Nat.beq_refl]; rfl] at k; cases k
  · rw [upd_at]
    refine ⟨⟨g', c', rfl, ?_, r5⟩, r2, ⟨r3.os.trans hbl.os, r3.tape.trans hbl.tape, r3.output.trans hbl.output, Nat.le_trans hbl.size r3.size, fun k hk hne => (r3.block k (Nat.lt_of_lt_of_le hk hbl.size) hne).trans (hbl.block k hk)⟩⟩
    rcases r4 with r4 | r4
    · exact .inl r4
    · exact .inr (by rw [r4]; exact hbl.size)
  · rw [mark_ne (ne hst), hos] at k; cases k
  · by_cases e : q.1 = oa
    · exact mark_le (hdp L H.m.d hdep q hq e)
    · rw [mark_ne e] at k; exact mark_le (H.m.d q hq k)
/-- The store. -/
theorem ma_store {x y : Operand} {t : TypeId} (hs : slotAt S i = none) (hi : os = i) (ha : Nat.beq oa i = false) (hoc : Nat.beq oc i = false) (haf : ∃ e ∈ af, Region.binds .any e = true ∧ e.on = oa) (hdp : ∀ (L : Nat → Bool), (∀ e ∈ af, Region.binds .any e = true → L e.on = true) → ∀ q ∈ dep, q.1 = i → L q.2 = true)
    (hop : op = .store t x y) (hy : y = .tmp fa) (hx : ∀ L f w, (∀ e ∈ af, Region.binds .any e = true → L e.on = true) → TJ S V F (MApp W B vo xs ys A oc oa os fc fa dep) L f w → env f x = .pointer (some A))
    (hrun : ∀ (ρ : Operand → Value) w v, AppRes W B vo xs ys w v → ρ x = .pointer (some A) → ρ (.tmp fa) = v → (execOp ρ { dst := none, op := .store t x (.tmp fa), type := ty, pos := pos, after := af, guard := none }).run Try.prog w = .ok .skip (w.setCell A v)) :
    Iv.StepOk Try.prog ops n (TJ S V F (MApp W B vo xs ys A oc oa os fc fa dep)) i { dst := none, op := op, type := ty, pos := pos, after := af, guard := none } := by
  subst hi hop hy
  have ne : ∀ {a b : Nat}, Nat.beq a b = false → a ≠ b := fun h e => by rw [e, Nat.beq_refl] at h; cases h
  refine tj_store hs fun L f w hL hdep H => ?_
  obtain ⟨e, he, hb, hon⟩ := haf
  have hA : L oa = true := hon ▸ hdep e he hb
  have hR := H.m.e hA hL
  refine ⟨_, hrun (env f) w (f fa) hR (hx L f w hdep H) rfl, fun k => ?_, fun _ k => ?_, fun _ k => ?_, fun _ => ⟨w, hR, rfl⟩, fun q hq k => ?_⟩
  · rw [mark_ne (ne ha), hA] at k; cases k
  · rw [mark_ne (ne ha), hA] at k; cases k
  · rw [show Iv.mark L os os = true by unfold Iv.mark; rw [Nat.beq_refl]; rfl] at k; cases k
  · by_cases e : q.1 = os
    · exact mark_le (hdp L hdep q hq e)
    · rw [mark_ne e] at k; exact mark_le (H.m.d q hq k)
end

end Go.Proofs.Ytijkoaggcmgjiaa.Co

/- Lines in the memory: a row of lines, each with a row of points of its own. -/
namespace Go.Proofs.Ytijkoaggcmgjiaa.Co
open Go Go.RowKit
set_option linter.unusedVariables false
set_option linter.unusedSimpArgs false

abbrev LE := Value × Ln
/-- The cells of lines. -/
def lfl (es : List LE) : List Value := es.flatMap fun e => [e.1, .bool e.2.cl]
theorem lfl_length : ∀ es : List LE, (lfl es).length = es.length * 2
  | [] => rfl
  | p :: r => by
    have := lfl_length r
    show (([p.1, .bool p.2.cl] : List Value) ++ lfl r).length = _
    rw [List.length_append, this]
    simp; omega
theorem lfl_append (a b : List LE) : lfl (a ++ b) = lfl a ++ lfl b := by simp [lfl]
theorem lfl_get : ∀ (es : List LE) (i : Nat) (e : LE), es[i]? = some e → (lfl es)[i * 2]? = some e.1 ∧ (lfl es)[i * 2 + 1]? = some (.bool e.2.cl)
  | q :: r, 0, p, h => by
    obtain rfl : q = p := by simpa using h
    exact ⟨rfl, rfl⟩
  | q :: r, i + 1, p, h => by
    have := lfl_get r i p (by simpa using h)
    show ((q.1 : Value) :: .bool q.2.cl :: lfl r)[(i + 1) * 2]? = _ ∧ ((q.1 : Value) :: .bool q.2.cl :: lfl r)[(i + 1) * 2 + 1]? = _
    rw [show (i + 1) * 2 = i * 2 + 1 + 1 by omega]
    simpa using this
/-- Two rows of the call's own whose elements have different types lie apart. -/
theorem own_apart {w : World} {B B' size size' n n' : Nat} {e e' : TypeId} {v v' : Value} {xs xs' : List Value} (h : w.ownsRow B e size v n xs) (h' : w.ownsRow B' e' size' v' n' xs') (hne : e ≠ e') (hn : 0 < n) : v.ownBlock ≠ v'.ownBlock := by
  rcases h.2 with ⟨_, h0⟩ | ⟨g, cap, cur, rfl, _, hg, _⟩
  · omega
  · rcases h'.2 with ⟨rfl, _⟩ | ⟨g', cap', cur', rfl, _, hg', _⟩
    · simp [Value.ownBlock]
    · intro he
      have : g = g' := by simpa [Value.ownBlock] using he
      subst this
      rw [hg] at hg'
      injection hg' with hg'
      injection hg' with _ ht
      exact hne ht
/-- A store into a row. -/
theorem own_set {w : World} {B size n g c j : Nat} {e : TypeId} {xs : List Value} {u : Value} (h : w.ownsRow B e size (.slice (some ⟨g, 0, none⟩) n c) n xs) (hj : j < xs.length) :
    (w.setCell ⟨g, j, none⟩ u).ownsRow B e size (.slice (some ⟨g, 0, none⟩) n c) n (xs.set j u) := by
  refine ⟨by rw [List.length_set]; exact h.1, ?_⟩
  rcases h.2 with ⟨h0, _⟩ | ⟨g', cap, cur, hv, hb, hg, h1, h2, h3, h4⟩
  · cases h0
  · injection hv with hv hn hc
    injection hv with hv
    injection hv with hv
    subst hv hc
    refine .inr ⟨g, c, cur.setIfInBounds j u, rfl, hb, ?_, h1, h2, by simpa using h3, ?_⟩
    · simp [World.setCell, Array.getElem?_modify, hg]
    · rw [Array.toList_setIfInBounds, ← h4, List.take_set]
/-- A store elsewhere. -/
theorem own_far {w : World} {B size n m j : Nat} {e : TypeId} {v : Value} {xs : List Value} {u : Value} (h : w.ownsRow B e size v n xs) (hne : v.ownBlock ≠ some m) : (w.setCell ⟨m, j, none⟩ u).ownsRow B e size v n xs := by
  refine ⟨h.1, ?_⟩
  rcases h.2 with h0 | ⟨g', cap, cur, rfl, hb, hg, hr⟩
  · exact .inl h0
  · exact .inr ⟨g', cap, cur, rfl, hb, (Below.heap_setCell w ⟨m, j, none⟩ u g' (fun e => hne (by rw [e]; rfl))).trans hg, hr⟩

/-- A row of lines. -/
structure OwnL (w : World) (B : Nat) (v : Value) (es : List LE) : Prop where
  r : w.ownsRow B 38 2 v es.length (lfl es)
  p : ∀ e ∈ es, w.ownsRow B 40 2 e.1 e.2.ps.length (pfl e.2.ps) ∧ 0 < e.2.ps.length
  d : es.Pairwise fun a b => a.1.ownBlock ≠ b.1.ownBlock
theorem OwnL.nil (w : World) (B : Nat) : OwnL w B (.slice none 0 0) [] := ⟨World.ownsRow_nil _ _ _ _, fun _ h => (by cases h), .nil⟩
theorem OwnL.next {w w' : World} {B : Nat} {v : Value} {es : List LE} (h : OwnL w B v es) (hb : Below w.heap.size w w') : OwnL w' B v es :=
  ⟨own_next h.r hb, fun e he => ⟨own_next (h.p e he).1 hb, (h.p e he).2⟩, h.d⟩
theorem own_lt {w : World} {B size n : Nat} {e : TypeId} {v : Value} {xs : List Value} (h : w.ownsRow B e size v n xs) (hn : 0 < n) : ∃ g c, v = .slice (some ⟨g, 0, none⟩) n c ∧ B ≤ g ∧ g < w.heap.size := by
  obtain ⟨g, c, h1, h2, h3⟩ := h.form hn
  exact ⟨g, c, h1, h2, h3⟩
theorem infoLn : (Try.prog.info? 38).map (fun i => (i.zero, i.size, i.bytes)) = some (some (.agg #[.slice none 0 0, .bool false]), 2, 32) := by kernel_rfl
theorem lfl_one (es : List LE) : ∀ u ∈ lfl es, (∃ e ∈ es, u = e.1) ∨ ∃ b, u = .bool b := by
  intro u hu
  obtain ⟨e, he, h⟩ := List.mem_flatMap.1 hu
  rcases (by simpa using h : u = e.1 ∨ u = .bool e.2.cl) with rfl | rfl
  · exact .inl ⟨e, he, rfl⟩
  · exact .inr ⟨_, rfl⟩
/-- append of one line, out of a literal's block. -/
theorem append_line {w : World} {B : Nat} {v vp : Value} {es : List LE} {l : Ln} {ty : TypeId} (hB : B ≤ w.heap.size) (h : OwnL w B v es) (hp : w.ownsRow B 40 2 vp l.ps.length (pfl l.ps)) (h0 : 0 < l.ps.length)
    (hd : ∀ e ∈ es, e.1.ownBlock ≠ vp.ownBlock) (hl : es.length ≤ 100000) :
    ∃ v' w', (Builtin.append_ #[22, 22] ty #[v, .slice (some ⟨w.heap.size, 0, none⟩) 1 1]).run Try.prog (w.alloc (.cells #[vp, .bool l.cl] 38)) = .ok v' w' ∧ OwnL w' B v' (es ++ [(vp, l)]) ∧ Below B w w' ∧
      (∃ g c, v' = .slice (some ⟨g, 0, none⟩) (es.length + 1) c) := by
  have e := infoLn
  cases hi : Try.prog.info? 38 with
  | none => rw [hi] at e; cases e
  | some i =>
    rw [hi] at e
    simp only [Option.map_some, Option.some.injEq, Prod.mk.injEq] at e
    obtain ⟨gp, cp, hvp, -, hgp⟩ := own_lt hp h0
    have hV := Var.new w #[vp, .bool l.cl] 38 _ rfl
    obtain ⟨g', c', w', r1, r2, r3, r4, r5⟩ := run_append_lies (P := Try.prog) (w.alloc (.cells #[vp, .bool l.cl] 38)) 22 ty B 38 i (.agg #[.slice none 0 0, .bool false]) 2 32 (by kernel_rfl) hi e.1 e.2.1 e.2.2 rfl (by decide) v es.length (lfl es) (h.r.alloc _) ⟨w.heap.size, 0, none⟩ 1 1 [vp, .bool l.cl] rfl (fun j u hu => by
      rw [addr0, hV.cell j]; simpa using hu) (fun u hu => by
      rcases (by simpa using hu : u = vp ∨ u = .bool l.cl) with rfl | rfl
      · rw [hvp]; rfl
      · rfl) (by decide) (by unfold maxLen; omega) (by omega) (by simp; omega) _ rfl
    have kp : ∀ {v2 : Value} {n : Nat} {xs : List Value}, w.ownsRow B 40 2 v2 n xs → 0 < n → w'.ownsRow B 40 2 v2 n xs := fun h2 hn =>
      (h2.alloc _).kept r3 (.inr (own_apart h2 h.r (by decide) hn))
    refine ⟨_, w', r1, ⟨?_, fun e he => ?_, ?_⟩, ((Below.refl B w).alloc hB _).grown r3 (by simp; omega) (fun k hk => ((h.r.alloc (.cells #[vp, .bool l.cl] 38)).lt k hk).1), ⟨g', c', rfl⟩⟩
    · rw [lfl_append, List.length_append]; exact r2
    · rcases List.mem_append.1 he with he | he
      · exact ⟨kp (h.p e he).1 (h.p e he).2, (h.p e he).2⟩
      · rw [List.mem_singleton] at he; subst he; exact ⟨kp hp h0, h0⟩
    · rw [List.pairwise_append]
      exact ⟨h.d, List.pairwise_singleton _ _, fun a ha b hb => by rw [List.mem_singleton] at hb; subst hb; exact hd a ha⟩
/-- The cells of the last line. -/
theorem OwnL.last {w : World} {B : Nat} {v : Value} {es : List LE} {e : LE} (h : OwnL w B v (es ++ [e])) : ∃ g c, v = .slice (some ⟨g, 0, none⟩) (es.length + 1) c ∧ B ≤ g ∧ g < w.heap.size ∧
    (∃ cur : Array Value, Var w g cur 38 ∧ es.length * 2 + 1 < cur.size ∧ cur[es.length * 2]? = some e.1 ∧ cur[es.length * 2 + 1]? = some (.bool e.2.cl)) := by
  obtain ⟨g, c, h1, h2, h3⟩ := own_lt h.r (by simp)
  rcases h.r.2 with ⟨_, h0⟩ | ⟨g', cap, cur, hv, hb, hg, k1, k2, k3, k4⟩
  · simp at h0
  · rw [h1] at hv
    injection hv with hv hn hc
    injection hv with hv
    injection hv with hv
    subst hv hc
    have hget := lfl_get (es ++ [e]) es.length e (by simp)
    have hlen := lfl_length (es ++ [e])
    simp only [List.length_append, List.length_cons, List.length_nil] at hlen k1 k4 h1
    have hc : ∀ j u, (lfl (es ++ [e]))[j]? = some u → cur[j]? = some u := fun j u hu => by
      rw [← k4, List.getElem?_take] at hu
      split at hu
      · simpa using hu
      · cases hu
    exact ⟨g, c, by simpa using h1, h2, h3, cur, hg, by omega, hc _ _ hget.1, hc _ _ hget.2⟩
theorem lfl_set_cl (es : List LE) (e : LE) (b : Bool) : (lfl (es ++ [e])).set (es.length * 2 + 1) (.bool b) = lfl (es ++ [(e.1, ⟨e.2.ps, b⟩)]) := by
  rw [lfl_append, lfl_append, List.set_append, lfl_length, if_neg (by omega), show es.length * 2 + 1 - es.length * 2 = 1 by omega]
  rfl
theorem lfl_set_ps (es : List LE) (e : LE) (v : Value) (ps : List P2) : (lfl (es ++ [e])).set (es.length * 2) v = lfl (es ++ [(v, ⟨ps, e.2.cl⟩)]) := by
  rw [lfl_append, lfl_append, List.set_append, lfl_length, if_neg (by omega), show es.length * 2 - es.length * 2 = 0 by omega]
  rfl
/-- The last line is closed. -/
theorem OwnL.close {w : World} {B g c : Nat} {es : List LE} {e : LE} {b : Bool} (h : OwnL w B (.slice (some ⟨g, 0, none⟩) (es.length + 1) c) (es ++ [e])) :
    OwnL (w.setCell ⟨g, es.length * 2 + 1, none⟩ (.bool b)) B (.slice (some ⟨g, 0, none⟩) (es.length + 1) c) (es ++ [(e.1, ⟨e.2.ps, b⟩)]) := by
  have hr := h.r
  simp only [List.length_append, List.length_cons, List.length_nil, Nat.zero_add] at hr
  refine ⟨?_, fun x hx => ?_, ?_⟩
  · have := own_set (j := es.length * 2 + 1) (u := .bool b) hr (by rw [lfl_length]; simp; omega)
    rw [lfl_set_cl] at this
    simpa using this
  · have far : ∀ y ∈ es ++ [e], (w.setCell ⟨g, es.length * 2 + 1, none⟩ (.bool b)).ownsRow B 40 2 y.1 y.2.ps.length (pfl y.2.ps) ∧ 0 < y.2.ps.length := fun y hy =>
      ⟨own_far (h.p y hy).1 (fun k => own_apart (h.p y hy).1 hr (by decide) (h.p y hy).2 k), (h.p y hy).2⟩
    rcases List.mem_append.1 hx with hx | hx
    · exact far x (List.mem_append_left _ hx)
    · rw [List.mem_singleton] at hx; subst hx
      exact far e (by simp)
  · have := h.d
    rw [List.pairwise_append] at this ⊢
    exact ⟨this.1, List.pairwise_singleton _ _, fun a ha b hb => by rw [List.mem_singleton] at hb; subst hb; exact this.2.2 a ha e (by simp)⟩
/-- More points on the last line. -/
theorem OwnL.more {W w : World} {B g c : Nat} {v : Value} {es : List LE} {e : LE} {ys : List P2} (h : OwnL W B (.slice (some ⟨g, 0, none⟩) (es.length + 1) c) (es ++ [e])) (hW : B ≤ W.heap.size) (hr : AppRes W B e.1 e.2.ps ys w v) :
    OwnL (w.setCell ⟨g, es.length * 2, none⟩ v) B (.slice (some ⟨g, 0, none⟩) (es.length + 1) c) (es ++ [(v, ⟨e.2.ps ++ ys, e.2.cl⟩)]) ∧ Below B W (w.setCell ⟨g, es.length * 2, none⟩ v) := by
  have hl := h.r
  simp only [List.length_append, List.length_cons, List.length_nil, Nat.zero_add] at hl
  have hpe := h.p e (by simp)
  have hge : B ≤ g := (hl.lt g rfl).1
  have hlw : w.ownsRow B 38 2 (.slice (some ⟨g, 0, none⟩) (es.length + 1) c) (es.length + 1) (lfl (es ++ [e])) := hl.kept hr.g (.inr (fun k => own_apart hpe.1 hl (by decide) hpe.2 k.symm))
  obtain ⟨gn, cn, hv, hgn, hgl⟩ := hr.f
  have hgne : v.ownBlock ≠ some g := by
    intro k
    exact own_apart hr.o hlw (by decide) (by have := hpe.2; omega) k
  have hdd := h.d
  rw [List.pairwise_append] at hdd
  refine ⟨⟨?_, fun x hx => ?_, ?_⟩, ?_⟩
  · have := own_set (j := es.length * 2) (u := v) hlw (by rw [lfl_length, List.length_append]; show es.length * 2 < (es.length + 1) * 2; omega)
    rw [lfl_set_ps es e v (e.2.ps ++ ys)] at this
    simpa using this
  · rcases List.mem_append.1 hx with hx | hx
    · have hxp := h.p x (List.mem_append_left _ hx)
      have k1 := hxp.1.kept hr.g (.inr (hdd.2.2 x hx e (by simp)))
      exact ⟨own_far k1 (fun k => own_apart k1 hlw (by decide) hxp.2 k), hxp.2⟩
    · rw [List.mem_singleton] at hx; subst hx
      refine ⟨?_, by have := hpe.2; show 0 < (e.2.ps ++ ys).length; rw [List.length_append]; omega⟩
      have := own_far (m := g) (j := es.length * 2) (u := v) hr.o hgne
      simpa using this
  · rw [List.pairwise_append]
    refine ⟨hdd.1, List.pairwise_singleton _ _, fun a ha b hb => ?_⟩
    rw [List.mem_singleton] at hb; subst hb
    show a.1.ownBlock ≠ v.ownBlock
    rcases hgn with k | k
    · rw [hv]; show a.1.ownBlock ≠ some gn
      rw [← k]; exact hdd.2.2 a ha e (by simp)
    · obtain ⟨ga, ca, hva, -, hga⟩ := own_lt (h.p a (List.mem_append_left _ ha)).1 (h.p a (List.mem_append_left _ ha)).2
      rw [hva, hv]
      intro he
      have : ga = gn := by simpa [Value.ownBlock] using he
      omega
  · refine Below.setCell ?_ hge v
    exact (Below.refl B W).grown hr.g hW (fun k hk => (hpe.1.lt k hk).1)

end Go.Proofs.Ytijkoaggcmgjiaa.Co

/- What Flatten of package conic returns. -/
namespace Go.Proofs.Ytijkoaggcmgjiaa.Co
open Go Go.RowKit
set_option linter.unusedVariables false
set_option linter.unusedSimpArgs false

section
variable {ρ : Operand → Value} {dst : Option Tmp} {ty : TypeId} {pos : String} {af : Array Edge} {x y : Operand} {w : World} {gd : Option (Nat × Bool)}
theorem run_nil {a : Addr} (hx : ρ x = .pointer (some a)) :
    (execOp ρ { dst := dst, op := .nilCheck x, type := ty, pos := pos, after := af, guard := gd }).run Try.prog w = .ok (.value (.pointer (some a))) w := by
  go_simp
theorem run_fld_line0 {n j : Nat} (hx : ρ x = .pointer (some ⟨n, j, none⟩)) :
    (execOp ρ { dst := dst, op := .fieldAddr 38 x 0, type := ty, pos := pos, after := af, guard := gd }).run Try.prog w = .ok (.value (.pointer (some ⟨n, j, none⟩))) w := by
  go_simp
theorem run_fld_line1 {n j : Nat} (hx : ρ x = .pointer (some ⟨n, j, none⟩)) :
    (execOp ρ { dst := dst, op := .fieldAddr 38 x 1, type := ty, pos := pos, after := af, guard := gd }).run Try.prog w = .ok (.value (.pointer (some ⟨n, j + 1, none⟩))) w := by
  go_simp
theorem run_loadSl {a : Addr} {A : Option Addr} {n c : Nat} (hx : ρ x = .pointer (some a)) (hc : w.cell? a = some (.slice A n c)) :
    (execOp ρ { dst := dst, op := .load 36 x, type := ty, pos := pos, after := af, guard := gd }).run Try.prog w = .ok (.value (.slice A n c)) w := by
  go_simp
theorem run_lenP {A : Option Addr} {n c : Nat} (hx : ρ x = .slice A n c) :
    (execOp ρ { dst := dst, op := .call { callee := .builtin .len, args := #[x], argTypes := #[36] }, type := ty, pos := pos, after := af, guard := gd }).run Try.prog w = .ok (.value (.int .i64 n)) w := by
  go_simp
theorem run_lenL {A : Option Addr} {n c : Nat} (hx : ρ x = .slice A n c) :
    (execOp ρ { dst := dst, op := .call { callee := .builtin .len, args := #[x], argTypes := #[22] }, type := ty, pos := pos, after := af, guard := gd }).run Try.prog w = .ok (.value (.int .i64 n)) w := by
  go_simp
theorem run_lenS {A : Option Addr} {n c : Nat} (hx : ρ x = .slice A n c) :
    (execOp ρ { dst := dst, op := .call { callee := .builtin .len, args := #[x], argTypes := #[53] }, type := ty, pos := pos, after := af, guard := gd }).run Try.prog w = .ok (.value (.int .i64 n)) w := by
  go_simp
theorem run_indexLn {a : Addr} {j : Int} {n c : Nat} (hx : ρ x = .slice (some a) n c) (hy : ρ y = .int .i64 j) (h0 : 0 ≤ j) (hj : j < (n : Int)) :
    (execOp ρ { dst := dst, op := .indexAddr 22 x y, type := ty, pos := pos, after := af, guard := gd }).run Try.prog w = .ok (.value (.pointer (some (a.add (j.toNat * 2))))) w := by
  go_simp
theorem run_ptRow {g j : Nat} {p : P2} (hx : ρ x = .pointer (some ⟨g, j, none⟩)) (h0 : w.cell? ⟨g, j, none⟩ = some (.int .i64 p.x)) (h1 : w.cell? ⟨g, j + 1, none⟩ = some (.int .i64 p.y)) :
    (execOp ρ { dst := dst, op := .load 40 x, type := ty, pos := pos, after := af, guard := gd }).run Try.prog w = .ok (.value (ptv p)) w := by
  go_simp
theorem run_storeSl {a : Addr} {A : Option Addr} {n c : Nat} {u : Value} (hx : ρ x = .pointer (some a)) (hy : ρ y = .slice A n c) (hc : w.cell? a = some u) (hf : w.frozen? a = false) :
    (execOp ρ { dst := dst, op := .store 36 x y, type := ty, pos := pos, after := af, guard := gd }).run Try.prog w = .ok .skip (w.setCell a (.slice A n c)) := by
  go_simp
theorem run_storeB {a : Addr} {b : Bool} {u : Value} (hx : ρ x = .pointer (some a)) (hy : ρ y = .bool b) (hc : w.cell? a = some u) (hf : w.frozen? a = false) :
    (execOp ρ { dst := dst, op := .store 4 x y, type := ty, pos := pos, after := af, guard := gd }).run Try.prog w = .ok .skip (w.setCell a (.bool b)) := by
  go_simp
theorem run_buildLn {A : Option Addr} {n c : Nat} (hx : ρ x = .slice A n c) :
    (execOp ρ { dst := dst, op := .build 38 #[(0, x)], type := ty, pos := pos, after := af, guard := gd }).run Try.prog w = .ok (.value (.agg #[.slice A n c, .bool false])) w := by
  go_simp
theorem run_litLn {A : Option Addr} {n c : Nat} {b : Bool} (hx : ρ x = .agg #[.slice A n c, .bool b]) :
    (execOp ρ { dst := dst, op := .buildSlice 22 1 #[(0, x)], type := ty, pos := pos, after := af, guard := gd }).run Try.prog w = .ok (.value (.slice (some ⟨w.heap.size, 0, none⟩) 1 1)) (w.alloc (.cells #[.slice A n c, .bool b] 38)) := by
  go_simp
theorem run_allocSeg : (execOp ρ { dst := dst, op := .alloc 97, type := ty, pos := pos, after := af, guard := gd }).run Try.prog w = .ok (.value (.pointer (some ⟨w.heap.size, 0, none⟩))) (w.alloc (.cells #[.int .i64 0, .int .i64 0, .int .i64 0, .int .i64 0, .int .i64 0, .int .i64 0] 97)) := by
  go_simp
theorem run_storeSeg {B : Nat} {s : Sg} {u0 u1 u2 u3 u4 u5 : Value} (hp : ρ x = .pointer (some ⟨B, 0, none⟩)) (hq : ρ y = seg s) (hV : Var w B #[u0, u1, u2, u3, u4, u5] 97) :
    (execOp ρ { dst := dst, op := .store 97 x y, type := ty, pos := pos, after := af, guard := gd }).run Try.prog w = .ok .skip ((((((w.setCell ⟨B, 0, none⟩ (.int .i64 s.k)).setCell ⟨B, 1, none⟩ (.int .i64 s.x)).setCell ⟨B, 2, none⟩ (.int .i64 s.y)).setCell ⟨B, 3, none⟩ (.int .i64 s.u)).setCell ⟨B, 4, none⟩ (.int .i64 s.v)).setCell ⟨B, 5, none⟩ (.int .i64 s.w)) := by
  obtain ⟨q0, q1, q2, q3, q4, q5, qf⟩ := hV.read6
  go_simp
end
theorem enters_repl : Enters Try.prog 68 := enters_of Try.func68 (by kernel_rfl) rfl
/-- The cell that is stored to is there behind the append. -/
theorem app_cell {W w : World} {B gl m : Nat} {vo v : Value} {xs ys : List P2} {cur : Array Value} (h : AppRes W B vo xs ys w v) (hV : Var W gl cur 38) (hm : m < cur.size) (hne : vo.ownBlock ≠ some gl) : (∃ u, w.cell? ⟨gl, m, none⟩ = some u) ∧ w.frozen? ⟨gl, m, none⟩ = false := by
  have hV2 : Var w gl cur 38 := hV.keep (h.g.block gl hV.lt (fun k => hne k.symm))
  exact ⟨⟨_, (hV2.cell m).trans (Array.getElem?_eq_getElem hm)⟩, hV2.free m⟩
/-- A call that returns a row of lines and an error. -/
def GivesLn (E : Int) (ls : List Ln) (w : World) (e : Ending) (w' : World) : Prop := ∃ v es, e = .returned (.tuple #[v, .int .i64 E]) ∧ OwnL w' w.heap.size v es ∧ es.map (·.2) = ls ∧ Below w.heap.size w w'

theorem flatten_bad (A : Option Addr) (ss : List Sg) (n c : Nat) (w : World) (hn : n = ss.length) (hs : n ≤ 1000 → Segs w A ss) (h : chk ss ≠ 0) :
    Calls Try.prog 31 #[.slice A n c] w (GivesLn (chk ss) [] w) := by
  have hc := check_any A ss n c w hn hs
  generalize chk ss = E at h hc
  have hne : (E != 0) = true := by simp [h]
  clear h
  have HC := hid hc
  clear hc hs hn
  go_enter Try.func31, Try.ntmps31
  go_wp2_with fail
  (with_reducible refine HC.out.mono ?_); rintro e w1 ⟨rfl, hb⟩
  have HB := hid hb
  clear hb
  go_wp2_with fail
  go_ret2
  exact ⟨_, [], rfl, OwnL.nil _ _, rfl, HB.out⟩

set_option maxHeartbeats 6400000 in
set_option maxRecDepth 100000 in
theorem flatten_good (A : Option Addr) (ss : List Sg) (n c : Nat) (w : World) (hn : n = ss.length) (hs : Segs w A ss) (h : chk ss = 0) :
    Calls Try.prog 31 #[.slice A n c] w (GivesLn 0 (flatL ss) w) := by
  have HCK := hid (check_any A ss n c w hn (fun _ => hs))
  rw [h] at HCK
  have HN := hid hn
  have HS := hid hs
  have HCH := hid h
  have HFO := fun k (h1 : k ≤ ss.length) (h2 : 0 < k) => hid (flat_ok h k h1 h2)
  have HTK := fun k (h1 : k < ss.length) => hid (flatL_take h1)
  have HOK := fun k (h1 : k < ss.length) => hid (chk_okay h ss[k] (List.getElem_mem h1))
  have hn1000 : n ≤ 1000 := by rw [hn]; exact chk_le h
  obtain ⟨B, hB⟩ : ∃ B, B = w.heap.size := ⟨_, rfl⟩
  have HBE := hid hB
  clear hn hs h
  go_enter Try.func31, Try.ntmps31
  go_wp2_with fail
  (with_reducible refine HCK.out.mono ?_); rintro e w1 ⟨rfl, hb⟩
  rw [← hB] at hb
  have HB := hid hb
  clear hb HCK hB
  go_upto_region 5 with fail
  rename_i Kn hKn
  refine wp_region_lit ?_
  refine sq_start (n := 67) rfl fun a0 hs0 => ?_
  have ha0 := ((hs0.pin 0 (v := .slice A n c) rfl).pin 5 (v := .slice none 0 0) rfl)
  clear hs0
  generalize (fun i => Array.getD _ i undef) = g0 at ha0
  refine sq_val (v := .slice A n c) ha0 rfl rfl fun a1 ha1 => ?_
  refine sq_val (v := .int .i64 (n : Int)) ha1 rfl (run_lenS rfl) fun a2 ha2 => ?_
  refine sq_val (v := .int .i64 0) ha2 rfl rfl fun a3 ha3 => ?_
  refine wpList_nil ?_
  refine hKn _ _ ?_
  obtain ⟨gD, hg9, k0, k5, k15, k16, k17⟩ : ∃ g9, Is a3 67 g9 ∧ g9 0 = .slice A n c ∧ g9 5 = .slice none 0 0 ∧ g9 15 = .slice A n c ∧ g9 16 = .int .i64 ((n : Int)) ∧ g9 17 = .int .i64 (0) := ⟨_, ha3, rfl, rfl, rfl, rfl, rfl⟩
  have hw := hg9.whole
  rw [show ((List.range 67).map gD).toArray = #[gD 0, gD 1, gD 2, gD 3, gD 4, gD 5, gD 6, gD 7, gD 8, gD 9, gD 10, gD 11, gD 12, gD 13, gD 14, gD 15, gD 16, gD 17, gD 18, gD 19, gD 20, gD 21, gD 22, gD 23, gD 24, gD 25, gD 26, gD 27, gD 28, gD 29, gD 30, gD 31, gD 32, gD 33, gD 34, gD 35, gD 36, gD 37, gD 38, gD 39, gD 40, gD 41, gD 42, gD 43, gD 44, gD 45, gD 46, gD 47, gD 48, gD 49, gD 50, gD 51, gD 52, gD 53, gD 54, gD 55, gD 56, gD 57, gD 58, gD 59, gD 60, gD 61, gD 62, gD 63, gD 64, gD 65, gD 66] from rfl] at hw
  rw [k0, k5, k15, k16, k17] at hw
  subst hw
  clear hg9 k0 k5 k15 k16 k17
  clear ha0 ha1 ha2 ha3 hKn Kn
  go_wp2_with fail
  go_loopw [5, 17] (fun s5 s17 wr => ∃ (k : Nat) (es : List LE), k ≤ n ∧ s17 = .int .i64 k ∧ Hid (OwnL wr B s5 es) ∧ Hid (es.map (·.2) = flatL (ss.take k)) ∧ Hid (es.length ≤ k) ∧ Hid (Below B w wr) ∧ Hid (B ≤ wr.heap.size)) (fun _ s17 _ => n - (intOf s17).toNat)
  case atStart => exact ⟨0, [], Nat.zero_le _, rfl, hid (OwnL.nil _ _), hid rfl, hid (Nat.le_refl _), HB, hid (by rw [HBE.out]; exact HB.out.size)⟩
  case round =>
    obtain ⟨k, es, hk, rfl, HO, HE, HLE, HBK, HBS⟩ := hrel
    clear HB
    by_cases hlt : k < n
    · have hkl : k < ss.length := by rw [← HN.out]; exact hlt
      obtain ⟨a, rfl, hal, hsa⟩ := HS.out.at_ hkl
      have hsa' := hsa.below HBK.out (by rw [add_block, HBE.out]; exact hal)
      have HA := hid hsa'
      have HO1 := HOK k hkl
      have HT := HTK k hkl
      have HF0 := hid (fun h1 => (HFO k (Nat.le_of_lt hkl) h1).out)
      have HK1 := hid (show ss[k].k ≠ 1 → 0 < k from fun h1 => by
        rcases Nat.eq_zero_or_pos k with e | e
        · subst e; exact absurd (chk_first HCH.out hkl) h1
        · exact e)
      clear hsa hsa' hal
      generalize ss[k] = s at HA HO1 HT HK1
      go_upto_region 7 with fail
      rename_i Kn hKn
      refine wp_region_lit ?_
      refine sq_start (n := 67) rfl fun a0 hs0 => ?_
      have ha0 := ((((((((((((((((hs0.pin 0 (v := .slice (some a) n c) rfl).pin 1 (v := gD 1) rfl).pin 2 (v := gD 2) rfl).pin 3 (v := gD 3) rfl).pin 4 (v := gD 4) rfl).pin 6 (v := gD 6) rfl).pin 10 (v := gD 10) rfl).pin 11 (v := gD 11) rfl).pin 12 (v := gD 12) rfl).pin 13 (v := gD 13) rfl).pin 14 (v := gD 14) rfl).pin 15 (v := .slice (some a) n c) rfl).pin 16 (v := .int .i64 ((n : Int))) rfl).pin 66 (v := gD 66) rfl).pin 5 (v := u5) rfl).pin 17 (v := .int .i64 ((k : Int))) rfl)
      clear hs0
      generalize (fun i => Array.getD _ i undef) = g0 at ha0
      refine sq_val ha0 rfl (run_index (a := a) (j := k) rfl rfl (by omega) (by omega)) fun a1 ha1 => ?_
      refine sq_val ha1 rfl (run_loadSeg (s := s) rfl (by rw [Int.toNat_natCast]; exact HA.out)) fun a2 ha2 => ?_
      refine sq_val ha2 rfl run_allocSeg fun a3 ha3 => ?_
      refine sq_skip ha3 (run_storeSeg (s := s) rfl rfl (Var.new wr _ _ _ rfl)) fun a4 ha4 => ?_
      refine wpList_nil ?_
      refine hKn _ _ ?_
      obtain ⟨g9, hg9, k0, k1, k2, k3, k4, k5, k6, k7, k10, k11, k12, k13, k14, k15, k16, k17, k66⟩ : ∃ g9, Is a4 67 g9 ∧ g9 0 = .slice (some a) n c ∧ g9 1 = gD 1 ∧ g9 2 = gD 2 ∧ g9 3 = gD 3 ∧ g9 4 = gD 4 ∧ g9 5 = u5 ∧ g9 6 = gD 6 ∧ g9 7 = .pointer (some ⟨wr.heap.size, 0, none⟩) ∧ g9 10 = gD 10 ∧ g9 11 = gD 11 ∧ g9 12 = gD 12 ∧ g9 13 = gD 13 ∧ g9 14 = gD 14 ∧ g9 15 = .slice (some a) n c ∧ g9 16 = .int .i64 ((n : Int)) ∧ g9 17 = .int .i64 ((k : Int)) ∧ g9 66 = gD 66 := ⟨_, ha4, rfl, rfl, rfl, rfl, rfl, rfl, rfl, rfl, rfl, rfl, rfl, rfl, rfl, rfl, rfl, rfl, rfl⟩
      have hw := hg9.whole
      rw [show ((List.range 67).map g9).toArray = #[g9 0, g9 1, g9 2, g9 3, g9 4, g9 5, g9 6, g9 7, g9 8, g9 9, g9 10, g9 11, g9 12, g9 13, g9 14, g9 15, g9 16, g9 17, g9 18, g9 19, g9 20, g9 21, g9 22, g9 23, g9 24, g9 25, g9 26, g9 27, g9 28, g9 29, g9 30, g9 31, g9 32, g9 33, g9 34, g9 35, g9 36, g9 37, g9 38, g9 39, g9 40, g9 41, g9 42, g9 43, g9 44, g9 45, g9 46, g9 47, g9 48, g9 49, g9 50, g9 51, g9 52, g9 53, g9 54, g9 55, g9 56, g9 57, g9 58, g9 59, g9 60, g9 61, g9 62, g9 63, g9 64, g9 65, g9 66] from rfl] at hw
      rw [k0, k1, k2, k3, k4, k5, k6, k7, k10, k11, k12, k13, k14, k15, k16, k17, k66] at hw
      subst hw
      clear hg9 k0 k1 k2 k3 k4 k5 k6 k7 k10 k11 k12 k13 k14 k15 k16 k17 k66
      obtain ⟨w2, hw2⟩ : ∃ w2, w2 = ((((((wr.alloc (.cells #[.int .i64 0, .int .i64 0, .int .i64 0, .int .i64 0, .int .i64 0, .int .i64 0] 97)).setCell ⟨wr.heap.size, 0, none⟩ (.int .i64 s.k)).setCell ⟨wr.heap.size, 1, none⟩ (.int .i64 s.x)).setCell ⟨wr.heap.size, 2, none⟩ (.int .i64 s.y)).setCell ⟨wr.heap.size, 3, none⟩ (.int .i64 s.u)).setCell ⟨wr.heap.size, 4, none⟩ (.int .i64 s.v)).setCell ⟨wr.heap.size, 5, none⟩ (.int .i64 s.w) := ⟨_, rfl⟩
      have HV7 := hid (show Var w2 wr.heap.size (cel s) 97 by rw [hw2]; exact (Var.new wr _ _ _ rfl).set6)
      have hb2 : Below wr.heap.size wr w2 := by rw [hw2]; exact below_set6 (below_alloc (Below.refl _ wr) _) (Nat.le_refl _)
      have HO2 := hid (HO.out.next hb2)
      have HB2 := hid (show Below B w w2 from HBK.out.trans (hb2.mono HBS.out))
      have HS2 := hid (show B ≤ w2.heap.size from Nat.le_trans HBS.out hb2.size)
      rw [← hw2]
      clear hw2 hb2 ha0 ha1 ha2 ha3 ha4 hKn Kn HO HBK HBS HA
      generalize wr.heap.size = b7 at HV7 ⊢
      clear wr
      obtain ⟨p0, p1, p2, p3, p4, p5, pf⟩ := HV7.out.read6
      by_cases h1 : s.k = 1
      · have h1b : (s.k == 1) = true := by simp [h1]
        have HM := hid (show flatL (ss.take (k + 1)) = flatL (ss.take k) ++ [⟨[⟨s.x, s.y⟩], false⟩] from HT.out.trans (addL_move _ h1))
        clear h1 HT HF0 HK1
        go_upto_region 9 with fail
        clear p0 p1 p2 p3 p4 p5 pf
        rename_i Kn hKn
        refine wp_region_lit ?_
        refine sq_start (n := 67) rfl fun a0 hs0 => ?_
        have ha0 := (((((((((((((((((hs0.pin 0 (v := .slice (some a) n c) rfl).pin 1 (v := gD 1) rfl).pin 2 (v := gD 2) rfl).pin 3 (v := gD 3) rfl).pin 4 (v := gD 4) rfl).pin 6 (v := gD 6) rfl).pin 10 (v := gD 10) rfl).pin 11 (v := gD 11) rfl).pin 12 (v := gD 12) rfl).pin 13 (v := gD 13) rfl).pin 14 (v := gD 14) rfl).pin 15 (v := .slice (some a) n c) rfl).pin 16 (v := .int .i64 ((n : Int))) rfl).pin 66 (v := gD 66) rfl).pin 5 (v := u5) rfl).pin 7 (v := .pointer (some ⟨b7, 0, none⟩)) rfl).pin 17 (v := .int .i64 ((k : Int))) rfl)
        clear hs0
        generalize (fun i => Array.getD _ i undef) = g0 at ha0
        refine sq_val ha0 rfl rfl fun a1 ha1 => ?_
        refine sq_val ha1 rfl (run_loadSegV rfl HV7.out) fun a2 ha2 => ?_
        refine sq_call (v := undef) (G := fun v w3 => v = pt s.x s.y ∧ Below w2.heap.size w2 w3) ha2 rfl (run_call1 rfl enters_end) ((end_any s w2).mono fun e w3 h => ⟨_, h.1, rfl, h.2⟩) fun v w3 a3 hv ha3 => ?_
        obtain ⟨hv, hb⟩ := hv
        subst hv
        refine sq_val ha3 rfl (run_litPt (a := s.x) (b := s.y) rfl) fun a4 ha4 => ?_
        refine sq_val ha4 rfl (run_buildLn rfl) fun a5 ha5 => ?_
        refine sq_val ha5 rfl (run_litLn rfl) fun a6 ha6 => ?_
        have hs3 : B ≤ w3.heap.size := Nat.le_trans HS2.out hb.size
        have ho3 := HO2.out.next hb
        have hb3 := below_alloc (Below.refl _ w3) (.cells #[.int .i64 s.x, .int .i64 s.y] 40)
        obtain ⟨v4, w4, h41, h42, h43, -⟩ := append_line (ty := 22) (l := ⟨[⟨s.x, s.y⟩], false⟩) (Nat.le_trans hs3 hb3.size) (ho3.next hb3) (own_of_var (ps := [⟨s.x, s.y⟩]) (Var.new w3 _ _ _ rfl) hs3 rfl (by show 1 ≤ maxLen; unfold maxLen; decide)) (by show 0 < 1; omega) (fun e he => by
          obtain ⟨g1, c1, hv1, -, hg1⟩ := own_lt (ho3.p e he).1 (ho3.p e he).2
          rw [hv1]
          intro hh
          have : g1 = w3.heap.size := by simpa [Value.ownBlock] using hh
          omega) (by have := HLE.out; omega)
        refine sq_val (v := v4) ha6 rfl (F2.run_append rfl rfl h41) fun a7 ha7 => ?_
        refine sq_val (v := v4) ha7 rfl rfl fun a8 ha8 => ?_
        refine wpList_nil ?_
        refine hKn _ _ ?_
        obtain ⟨g9, hg9, k0, k1, k2, k3, k4, k5, k6, k10, k11, k12, k13, k14, k15, k16, k17, k66⟩ : ∃ g9, Is a8 67 g9 ∧ g9 0 = .slice (some a) n c ∧ g9 1 = gD 1 ∧ g9 2 = gD 2 ∧ g9 3 = gD 3 ∧ g9 4 = gD 4 ∧ g9 5 = v4 ∧ g9 6 = gD 6 ∧ g9 10 = gD 10 ∧ g9 11 = gD 11 ∧ g9 12 = gD 12 ∧ g9 13 = gD 13 ∧ g9 14 = gD 14 ∧ g9 15 = .slice (some a) n c ∧ g9 16 = .int .i64 ((n : Int)) ∧ g9 17 = .int .i64 ((k : Int)) ∧ g9 66 = gD 66 := ⟨_, ha8, rfl, rfl, rfl, rfl, rfl, rfl, rfl, rfl, rfl, rfl, rfl, rfl, rfl, rfl, rfl, rfl⟩
        have hw := hg9.whole
        rw [show ((List.range 67).map g9).toArray = #[g9 0, g9 1, g9 2, g9 3, g9 4, g9 5, g9 6, g9 7, g9 8, g9 9, g9 10, g9 11, g9 12, g9 13, g9 14, g9 15, g9 16, g9 17, g9 18, g9 19, g9 20, g9 21, g9 22, g9 23, g9 24, g9 25, g9 26, g9 27, g9 28, g9 29, g9 30, g9 31, g9 32, g9 33, g9 34, g9 35, g9 36, g9 37, g9 38, g9 39, g9 40, g9 41, g9 42, g9 43, g9 44, g9 45, g9 46, g9 47, g9 48, g9 49, g9 50, g9 51, g9 52, g9 53, g9 54, g9 55, g9 56, g9 57, g9 58, g9 59, g9 60, g9 61, g9 62, g9 63, g9 64, g9 65, g9 66] from rfl] at hw
        rw [k0, k1, k2, k3, k4, k5, k6, k10, k11, k12, k13, k14, k15, k16, k17, k66] at hw
        subst hw
        clear hg9 k0 k1 k2 k3 k4 k5 k6 k10 k11 k12 k13 k14 k15 k16 k17 k66
        have HO4 := hid h42
        have HE4 := hid (show (es ++ [(Value.slice (some ⟨w3.heap.size, 0, none⟩) 1 1, (⟨[⟨s.x, s.y⟩], false⟩ : Ln))]).map (·.2) = flatL (ss.take (k + 1)) by rw [List.map_append, HE.out, HM.out]; rfl)
        have HL4 := hid (show (es ++ [(Value.slice (some ⟨w3.heap.size, 0, none⟩) 1 1, (⟨[⟨s.x, s.y⟩], false⟩ : Ln))]).length ≤ k + 1 by have := HLE.out; simp; omega)
        have HB4 := hid (((HB2.out.trans (hb.mono HS2.out)).trans (hb3.mono hs3)).trans h43)
        have HS4 := hid (show B ≤ w4.heap.size from Nat.le_trans (Nat.le_trans hs3 hb3.size) h43.size)
        clear ha0 ha1 ha2 ha3 ha4 ha5 ha6 ha7 ha8 hKn Kn hb hs3 ho3 hb3 h41 h42 h43 HO2 HB2 HS2 HV7 HE HLE HM
        go_wp2_with fail
        go_roundw
        case rel => exact ⟨k + 1, es ++ [(.slice (some ⟨w3.heap.size, 0, none⟩) 1 1, ⟨[⟨s.x, s.y⟩], false⟩)], by omega, by go_num, HO4, HE4, HL4, HB4, HS4⟩
        case measure => simp [intOf]; omega
      · have h1b : (s.k == 1) = false := by simp [h1]
        obtain ⟨ls, l, hfl, hlo⟩ := HF0.out (HK1.out h1)
        have HM := hid (show flatL (ss.take (k + 1)) = ls ++ [updL l s] by rw [HT.out, hfl]; exact addL_last _ _ h1)
        have hee : ∃ es0 e, es = es0 ++ [e] ∧ es0.map (·.2) = ls ∧ e.2 = l := by
          have := HE.out
          rw [hfl] at this
          obtain ⟨a1, a2, e1, e2, e3⟩ := List.map_eq_append_iff.1 this
          obtain ⟨x, e4, e5⟩ : ∃ x, a2 = [x] ∧ x.2 = l := by
            cases a2 with
            | nil => simp at e3
            | cons x t =>
              cases t with
              | nil => exact ⟨x, rfl, by simpa using e3⟩
              | cons y t => simp at e3
          exact ⟨a1, x, by rw [e1, e4], e2, e5⟩
        obtain ⟨es, e, rfl, hls, rfl⟩ := hee
        have HLS := hid hls
        have HLO := hid hlo
        clear hls hlo hfl HT HF0 HK1 HE
        obtain ⟨gl, cl, rfl, hglB, hglt, cur, hcur, hcs, hc0, hc1⟩ := HO2.out.last
        generalize hm : es.length = m at hcs hc0 hc1 ⊢
        have HMM := hid hm
        have HCUR := hid hcur
        have HC0 := hid hc0
        have HC1 := hid hc1
        have HGL := hid (And.intro hglB hglt)
        have hmc0 := hcs
        clear hcur hc0 hc1 hglB hglt hcs
        have hle : m + 1 ≤ 1000 := by have := HLE.out; simp at this; omega
        clear hm
        go_upto_region 10 with fail
        clear p0 p1 p2 p3 p4 p5 pf
        rename_i Kn hKn
        refine wp_region_lit ?_
        refine sq_start (n := 67) rfl fun a0 hs0 => ?_
        have ha0 := (((((((((((((((((hs0.pin 0 (v := .slice (some a) n c) rfl).pin 1 (v := gD 1) rfl).pin 2 (v := gD 2) rfl).pin 3 (v := gD 3) rfl).pin 4 (v := gD 4) rfl).pin 6 (v := gD 6) rfl).pin 10 (v := gD 10) rfl).pin 11 (v := gD 11) rfl).pin 12 (v := gD 12) rfl).pin 13 (v := gD 13) rfl).pin 14 (v := gD 14) rfl).pin 15 (v := .slice (some a) n c) rfl).pin 16 (v := .int .i64 ((n : Int))) rfl).pin 66 (v := gD 66) rfl).pin 5 (v := .slice (some ⟨gl, 0, none⟩) (m + 1) cl) rfl).pin 7 (v := .pointer (some ⟨b7, 0, none⟩)) rfl).pin 17 (v := .int .i64 ((k : Int))) rfl)
        clear hs0
        generalize (fun i => Array.getD _ i undef) = g0 at ha0
        refine sq_val ha0 rfl rfl fun a1 ha1 => ?_
        refine sq_val ha1 rfl rfl fun a2 ha2 => ?_
        refine sq_val ha2 rfl (run_lenL (n := m + 1) rfl) fun a3 ha3 => ?_
        refine sq_val (v := .int .i64 (m : Int)) ha3 rfl ((run_sub rfl rfl (by unfold Rg; omega)).trans (by rw [show ((m + 1 : Nat) : Int) - 1 = m by omega])) fun a4 ha4 => ?_
        refine sq_val (v := .pointer (some ⟨gl, m * 2, none⟩)) ha4 rfl ((run_indexLn (a := ⟨gl, 0, none⟩) (j := (m : Int)) rfl rfl (by omega) (by omega)).trans (by rw [addr0, Int.toNat_natCast])) fun a5 ha5 => ?_
        refine sq_val ha5 rfl rfl fun a6 ha6 => ?_
        refine wpList_nil ?_
        refine hKn _ _ ?_
        obtain ⟨g9, hg9, k0, k1, k2, k3, k4, k5, k6, k7, k8, k10, k11, k12, k13, k14, k15, k16, k17, k66⟩ : ∃ g9, Is a6 67 g9 ∧ g9 0 = .slice (some a) n c ∧ g9 1 = gD 1 ∧ g9 2 = gD 2 ∧ g9 3 = gD 3 ∧ g9 4 = gD 4 ∧ g9 5 = .slice (some ⟨gl, 0, none⟩) (m + 1) cl ∧ g9 6 = gD 6 ∧ g9 7 = .pointer (some ⟨b7, 0, none⟩) ∧ g9 8 = .pointer (some ⟨gl, m * 2, none⟩) ∧ g9 10 = gD 10 ∧ g9 11 = gD 11 ∧ g9 12 = gD 12 ∧ g9 13 = gD 13 ∧ g9 14 = gD 14 ∧ g9 15 = .slice (some a) n c ∧ g9 16 = .int .i64 ((n : Int)) ∧ g9 17 = .int .i64 ((k : Int)) ∧ g9 66 = gD 66 := ⟨_, ha6, rfl, rfl, rfl, rfl, rfl, rfl, rfl, rfl, rfl, rfl, rfl, rfl, rfl, rfl, rfl, rfl, rfl, rfl⟩
        have hw := hg9.whole
        rw [show ((List.range 67).map g9).toArray = #[g9 0, g9 1, g9 2, g9 3, g9 4, g9 5, g9 6, g9 7, g9 8, g9 9, g9 10, g9 11, g9 12, g9 13, g9 14, g9 15, g9 16, g9 17, g9 18, g9 19, g9 20, g9 21, g9 22, g9 23, g9 24, g9 25, g9 26, g9 27, g9 28, g9 29, g9 30, g9 31, g9 32, g9 33, g9 34, g9 35, g9 36, g9 37, g9 38, g9 39, g9 40, g9 41, g9 42, g9 43, g9 44, g9 45, g9 46, g9 47, g9 48, g9 49, g9 50, g9 51, g9 52, g9 53, g9 54, g9 55, g9 56, g9 57, g9 58, g9 59, g9 60, g9 61, g9 62, g9 63, g9 64, g9 65, g9 66] from rfl] at hw
        rw [k0, k1, k2, k3, k4, k5, k6, k7, k8, k10, k11, k12, k13, k14, k15, k16, k17, k66] at hw
        subst hw
        clear hg9 k0 k1 k2 k3 k4 k5 k6 k7 k8 k10 k11 k12 k13 k14 k15 k16 k17 k66
        clear ha0 ha1 ha2 ha3 ha4 ha5 ha6 hKn Kn
        by_cases h4 : s.k = 4
        · have h4b : (s.k == 4) = true := by simp [h4]
          have HM4 := hid (show flatL (ss.take (k + 1)) = ls ++ [⟨e.2.ps, true⟩] by rw [HM.out]; unfold updL; rw [if_pos h4])
          clear h4 HM
          obtain ⟨p0, p1, p2, p3, p4, p5, pf⟩ := HV7.out.read6
          go_upto_region 12 with fail
          clear p0 p1 p2 p3 p4 p5 pf
          rename_i Kn hKn
          refine wp_region_lit ?_
          refine sq_start (n := 67) rfl fun a0 hs0 => ?_
          have ha0 := ((((((((((((((((((hs0.pin 0 (v := .slice (some a) n c) rfl).pin 1 (v := gD 1) rfl).pin 2 (v := gD 2) rfl).pin 3 (v := gD 3) rfl).pin 4 (v := gD 4) rfl).pin 6 (v := gD 6) rfl).pin 10 (v := gD 10) rfl).pin 11 (v := gD 11) rfl).pin 12 (v := gD 12) rfl).pin 13 (v := gD 13) rfl).pin 14 (v := gD 14) rfl).pin 15 (v := .slice (some a) n c) rfl).pin 16 (v := .int .i64 ((n : Int))) rfl).pin 66 (v := gD 66) rfl).pin 5 (v := .slice (some ⟨gl, 0, none⟩) (m + 1) cl) rfl).pin 7 (v := .pointer (some ⟨b7, 0, none⟩)) rfl).pin 8 (v := .pointer (some ⟨gl, m * 2, none⟩)) rfl).pin 17 (v := .int .i64 ((k : Int))) rfl)
          clear hs0
          generalize (fun i => Array.getD _ i undef) = g0 at ha0
          refine sq_val ha0 rfl rfl fun a1 ha1 => ?_
          refine sq_val ha1 rfl (run_nil rfl) fun a2 ha2 => ?_
          refine sq_val ha2 rfl (run_fld_line1 rfl) fun a3 ha3 => ?_
          refine sq_skip ha3 (run_storeB (b := true) rfl rfl ((HCUR.out.cell (m * 2 + 1)).trans HC1.out) (HCUR.out.free _)) fun a4 ha4 => ?_
          refine wpList_nil ?_
          refine hKn _ _ ?_
          obtain ⟨g9, hg9, k0, k1, k2, k3, k4, k5, k6, k10, k11, k12, k13, k14, k15, k16, k17, k66⟩ : ∃ g9, Is a4 67 g9 ∧ g9 0 = .slice (some a) n c ∧ g9 1 = gD 1 ∧ g9 2 = gD 2 ∧ g9 3 = gD 3 ∧ g9 4 = gD 4 ∧ g9 5 = .slice (some ⟨gl, 0, none⟩) (m + 1) cl ∧ g9 6 = gD 6 ∧ g9 10 = gD 10 ∧ g9 11 = gD 11 ∧ g9 12 = gD 12 ∧ g9 13 = gD 13 ∧ g9 14 = gD 14 ∧ g9 15 = .slice (some a) n c ∧ g9 16 = .int .i64 ((n : Int)) ∧ g9 17 = .int .i64 ((k : Int)) ∧ g9 66 = gD 66 := ⟨_, ha4, rfl, rfl, rfl, rfl, rfl, rfl, rfl, rfl, rfl, rfl, rfl, rfl, rfl, rfl, rfl, rfl⟩
          have hw := hg9.whole
          rw [show ((List.range 67).map g9).toArray = #[g9 0, g9 1, g9 2, g9 3, g9 4, g9 5, g9 6, g9 7, g9 8, g9 9, g9 10, g9 11, g9 12, g9 13, g9 14, g9 15, g9 16, g9 17, g9 18, g9 19, g9 20, g9 21, g9 22, g9 23, g9 24, g9 25, g9 26, g9 27, g9 28, g9 29, g9 30, g9 31, g9 32, g9 33, g9 34, g9 35, g9 36, g9 37, g9 38, g9 39, g9 40, g9 41, g9 42, g9 43, g9 44, g9 45, g9 46, g9 47, g9 48, g9 49, g9 50, g9 51, g9 52, g9 53, g9 54, g9 55, g9 56, g9 57, g9 58, g9 59, g9 60, g9 61, g9 62, g9 63, g9 64, g9 65, g9 66] from rfl] at hw
          rw [k0, k1, k2, k3, k4, k5, k6, k10, k11, k12, k13, k14, k15, k16, k17, k66] at hw
          subst hw
          clear hg9 k0 k1 k2 k3 k4 k5 k6 k10 k11 k12 k13 k14 k15 k16 k17 k66
          have HO4 := hid (show OwnL (w2.setCell ⟨gl, m * 2 + 1, none⟩ (.bool true)) B (.slice (some ⟨gl, 0, none⟩) (m + 1) cl) (es ++ [(e.1, ⟨e.2.ps, true⟩)]) by have := HMM.out; subst this; exact HO2.out.close)
          have HE4 := hid (show (es ++ [(e.1, (⟨e.2.ps, true⟩ : Ln))]).map (·.2) = flatL (ss.take (k + 1)) by rw [List.map_append, HLS.out, HM4.out]; rfl)
          have HL4 := hid (show (es ++ [(e.1, (⟨e.2.ps, true⟩ : Ln))]).length ≤ k + 1 by have := HLE.out; simp at this ⊢; omega)
          have HB4 := hid (HB2.out.setCell (p := ⟨gl, m * 2 + 1, none⟩) HGL.out.1 (.bool true))
          have HS4 := hid (show B ≤ (w2.setCell ⟨gl, m * 2 + 1, none⟩ (.bool true)).heap.size by simpa using HS2.out)
          clear ha0 ha1 ha2 ha3 ha4 hKn Kn
          generalize w2.setCell ⟨gl, m * 2 + 1, none⟩ (.bool true) = w6 at HO4 HB4 HS4 ⊢
          clear HO2 HB2 HS2 HV7 HCUR HC0 HC1 HGL HLE HLS HM4 HMM hmc0
          go_wp2_with fail
          go_roundw
          case rel => exact ⟨k + 1, es ++ [(e.1, ⟨e.2.ps, true⟩)], by omega, by go_num, HO4, HE4, HL4, HB4, HS4⟩
          case measure => simp [intOf]; omega
        · have h4b : (s.k == 4) = false := by simp [h4]
          have HM4 := hid (show flatL (ss.take (k + 1)) = ls ++ [⟨e.2.ps ++ replP (lastP e.2) s, e.2.cl⟩] by rw [HM.out]; unfold updL; rw [if_neg h4])
          have hinc := inc_of HLO.out.i HO1.out h1 h4
          clear h4 HM
          obtain ⟨p0, p1, p2, p3, p4, p5, pf⟩ := HV7.out.read6
          go_upto_region 13 with fail
          clear p0 p1 p2 p3 p4 p5 pf
          have hpe := HO2.out.p e (by simp)
          obtain ⟨gp, cp, hve, hgpB, hgpl, hrow⟩ := own_row hpe.1 hpe.2
          obtain ⟨q, hq⟩ : ∃ q, e.2.ps.length = q + 1 := ⟨e.2.ps.length - 1, by have := hpe.2; omega⟩
          have hql : q + 1 ≤ 512 * k := by rw [← hq]; exact HLO.out.n
          have hlastq : e.2.ps[q]? = some (lastP e.2) := by
            unfold lastP
            rw [List.getLastD_eq_getLast?, List.getLast?_eq_getElem?, hq, Nat.add_sub_cancel, List.getElem?_eq_getElem (by omega)]
            rfl
          generalize hp : lastP e.2 = p at hinc hlastq HM4
          rw [hq] at hve
          have HPE := hid hpe
          have HVE := hid hve
          have HROW := hid hrow
          have hmc : m * 2 < cur.size := by omega
          have hcell : cur[m * 2]? = some (.slice (some ⟨gp, 0, none⟩) (q + 1) cp) := by rw [HC0.out, hve]
          have LC := fun wx (hb : Below w2.heap.size w2 wx) => ((HCUR.out.next hb).cell (m * 2)).trans hcell
          have LR := fun wx (hb : Below w2.heap.size w2 wx) => (HROW.out.next hgpl hb) q p hlastq
          clear hpe hve hrow hp
          rename_i Kn hKn
          refine Iv.wp_region_inv (n := 67) (TJ [some 42, some 43, some 44, some 45, some 46, some 47, some 48, some 49, some 50, some 51, some 52, some 53, none, none]
              [.pointer (some ⟨gl, m * 2, none⟩), .pointer (some ⟨gl, m * 2, none⟩), .pointer (some ⟨gl, m * 2, none⟩), .slice (some ⟨gp, 0, none⟩) (q + 1) cp, .pointer (some ⟨gl, m * 2, none⟩), .pointer (some ⟨gl, m * 2, none⟩), .pointer (some ⟨gl, m * 2, none⟩), .slice (some ⟨gp, 0, none⟩) (q + 1) cp, .int .i64 ((q + 1 : Nat) : Int), .int .i64 (q : Int), .pointer (some ⟨gp, q * 2, none⟩), ptv p, undef, undef]
              [(0, .slice (some a) n c), (7, .pointer (some ⟨b7, 0, none⟩)), (8, .pointer (some ⟨gl, m * 2, none⟩)), (5, .slice (some ⟨gl, 0, none⟩) (m + 1) cl), (15, .slice (some a) n c), (16, .int .i64 (n : Int)), (17, .int .i64 (k : Int)), (1, gD 1), (2, gD 2), (3, gD 3), (4, gD 4), (6, gD 6), (10, gD 10), (11, gD 11), (12, gD 12), (13, gD 13), (14, gD 14), (66, gD 66)] (MB w2 [⟨12, 13, 9, pcel p, 40⟩])) _ (by kernel_rfl) (by kernel_rfl) (Is.start _ rfl) ?_ ?_ ?_
          · refine ⟨fun i d _ h => (by cases h), fun q hq => ?_, MB.start w2 _ _⟩
            simp only [List.mem_cons, List.not_mem_nil, or_false] at hq
            rcases hq with rfl | rfl | rfl | rfl | rfl | rfl | rfl | rfl | rfl | rfl | rfl | rfl | rfl | rfl | rfl | rfl | rfl | rfl
            all_goals rfl
          · exact ⟨nb_val rfl rfl rfl rfl rfl fun L f wx hL hdep H => congrArg (fun v => Result.ok (Next.value v) wx) (H.x (8, .pointer (some ⟨gl, m * 2, none⟩)) (by simp)),
    nb_val rfl rfl rfl rfl rfl fun L f wx hL hdep H => run_nil (H.t 0 42 rfl (hdep ⟨0, .data⟩ (by simp) rfl)),
    nb_val rfl rfl rfl rfl rfl fun L f wx hL hdep H => run_fld_line0 (H.t 1 43 rfl (hdep ⟨1, .data⟩ (by simp) rfl)),
    nb_val rfl rfl rfl rfl rfl fun L f wx hL hdep H => run_loadSl (H.t 2 44 rfl (hdep ⟨2, .data⟩ (by simp) rfl)) (LC wx H.m.b),
    nb_val rfl rfl rfl rfl rfl fun L f wx hL hdep H => congrArg (fun v => Result.ok (Next.value v) wx) (H.x (8, .pointer (some ⟨gl, m * 2, none⟩)) (by simp)),
    nb_val rfl rfl rfl rfl rfl fun L f wx hL hdep H => run_nil (H.t 4 46 rfl (hdep ⟨4, .data⟩ (by simp) rfl)),
    nb_val rfl rfl rfl rfl rfl fun L f wx hL hdep H => run_fld_line0 (H.t 5 47 rfl (hdep ⟨5, .data⟩ (by simp) rfl)),
    nb_val rfl rfl rfl rfl rfl fun L f wx hL hdep H => run_loadSl (H.t 6 48 rfl (hdep ⟨6, .data⟩ (by simp) rfl)) (LC wx H.m.b),
    nb_val rfl rfl rfl rfl rfl fun L f wx hL hdep H => run_lenP (H.t 7 49 rfl (hdep ⟨7, .data⟩ (by simp) rfl)),
    nb_val rfl rfl rfl rfl rfl fun L f wx hL hdep H => (run_sub (H.t 8 50 rfl (hdep ⟨8, .data⟩ (by simp) rfl)) rfl (by unfold Rg; omega)).trans (by rw [show ((q + 1 : Nat) : Int) - 1 = q by omega]; rfl),
    nb_val rfl rfl rfl rfl rfl fun L f wx hL hdep H => (run_indexPt (a := ⟨gp, 0, none⟩) (j := (q : Int)) (H.t 3 45 rfl (hdep ⟨3, .data⟩ (by simp) rfl)) (H.t 9 51 rfl (hdep ⟨9, .data⟩ (by simp) rfl)) (by omega) (by omega)).trans (by rw [addr0, Int.toNat_natCast]; rfl),
    nb_val rfl rfl rfl rfl rfl fun L f wx hL hdep H => run_ptRow (p := p) (H.t 10 52 rfl (hdep ⟨10, .data⟩ (by simp) rfl)) (LR wx H.m.b).1 (LR wx H.m.b).2,
    nb_new (q := ⟨12, 13, 9, pcel p, 40⟩) (c := #[.int .i64 0, .int .i64 0]) (by simp) (like_cons (.inl rfl) (like_nil _)) (ne_of_beq rfl) rfl rfl rfl rfl rfl rfl fun f w => run_allocPt,
    nb_store (q := ⟨12, 13, 9, pcel p, 40⟩) (by simp) (like_cons (.inl rfl) (like_nil _)) (ne_of_beq rfl) rfl rfl ⟨⟨12, .data⟩, by simp, rfl, rfl⟩ fun L f wx m0 c0 hdep H hp hm hv hs => by
      obtain ⟨u0, u1, rfl⟩ := size2 hs
      exact ⟨_, run_storePt hp (H.t 11 53 rfl (hdep ⟨11, .data⟩ (by simp) rfl)) hv, below_set2 H.m.b hm, hv.set2, same2⟩, trivial⟩
          intro L f act w4 hall H ha
          refine hKn _ _ ?_
          have k0 : f 0 = .slice (some a) n c := H.x (0, .slice (some a) n c) (by simp)
          have k1 : f 1 = gD 1 := H.x (1, gD 1) (by simp)
          have k2 : f 2 = gD 2 := H.x (2, gD 2) (by simp)
          have k3 : f 3 = gD 3 := H.x (3, gD 3) (by simp)
          have k4 : f 4 = gD 4 := H.x (4, gD 4) (by simp)
          have k5 : f 5 = .slice (some ⟨gl, 0, none⟩) (m + 1) cl := H.x (5, .slice (some ⟨gl, 0, none⟩) (m + 1) cl) (by simp)
          have k6 : f 6 = gD 6 := H.x (6, gD 6) (by simp)
          have k7 : f 7 = .pointer (some ⟨b7, 0, none⟩) := H.x (7, .pointer (some ⟨b7, 0, none⟩)) (by simp)
          have k8 : f 8 = .pointer (some ⟨gl, m * 2, none⟩) := H.x (8, .pointer (some ⟨gl, m * 2, none⟩)) (by simp)
          have k10 : f 10 = gD 10 := H.x (10, gD 10) (by simp)
          have k11 : f 11 = gD 11 := H.x (11, gD 11) (by simp)
          have k12 : f 12 = gD 12 := H.x (12, gD 12) (by simp)
          have k13 : f 13 = gD 13 := H.x (13, gD 13) (by simp)
          have k14 : f 14 = gD 14 := H.x (14, gD 14) (by simp)
          have k15 : f 15 = .slice (some a) n c := H.x (15, .slice (some a) n c) (by simp)
          have k16 : f 16 = .int .i64 (n : Int) := H.x (16, .int .i64 (n : Int)) (by simp)
          have k17 : f 17 = .int .i64 (k : Int) := H.x (17, .int .i64 (k : Int)) (by simp)
          have k66 : f 66 = gD 66 := H.x (66, gD 66) (by simp)
          obtain ⟨b9, k9, hbb9x, hvb9x⟩ := H.m.done (q := ⟨12, 13, 9, pcel p, 40⟩) (hall 12 (by decide)) (hall 13 (by decide)) (by simp)
          have HBW := hid H.m.b
          have hw := ha.whole
          rw [show ((List.range 67).map f).toArray = #[f 0, f 1, f 2, f 3, f 4, f 5, f 6, f 7, f 8, f 9, f 10, f 11, f 12, f 13, f 14, f 15, f 16, f 17, f 18, f 19, f 20, f 21, f 22, f 23, f 24, f 25, f 26, f 27, f 28, f 29, f 30, f 31, f 32, f 33, f 34, f 35, f 36, f 37, f 38, f 39, f 40, f 41, f 42, f 43, f 44, f 45, f 46, f 47, f 48, f 49, f 50, f 51, f 52, f 53, f 54, f 55, f 56, f 57, f 58, f 59, f 60, f 61, f 62, f 63, f 64, f 65, f 66] from rfl] at hw
          rw [k0, k1, k2, k3, k4, k5, k6, k7, k8, k10, k11, k12, k13, k14, k15, k16, k17, k66, k9] at hw
          subst hw
          clear ha H hall hKn k0 k1 k2 k3 k4 k5 k6 k7 k8 k10 k11 k12 k13 k14 k15 k16 k17 k66 k9 Kn
          clear L
          have hb4 := HBW.out
          have HB9 := hid hvb9x
          clear hvb9x hbb9x HBW
          have HO4 := hid (HO2.out.next hb4)
          have HCUR4 := hid (HCUR.out.next hb4)
          have HV74 := hid (HV7.out.next hb4)
          have hBW : B ≤ w4.heap.size := Nat.le_trans HS2.out hb4.size
          have HB44 := hid (HB2.out.trans (hb4.mono HS2.out))
          have hown : w4.ownsRow B 40 2 (.slice (some ⟨gp, 0, none⟩) (q + 1) cp) e.2.ps.length (pfl e.2.ps) := by rw [← HVE.out]; exact own_next HPE.out.1 hb4
          have hrl := (replP_last hinc).2.1
          have hlen : e.2.ps.length + (replP p s).length ≤ 1000000 := by have := (replP_last hinc).2.2; omega
          have hnb : (Value.slice (some ⟨gp, 0, none⟩) (q + 1) cp).ownBlock ≠ some gl := by
            intro k0
            exact own_apart hown HO4.out.r (by decide) HPE.out.2 (by rw [k0]; rfl)
          go_upto_region 14 with fail
          rename_i Kn hKn
          have LC := fun wx (hb : Below w4.heap.size w4 wx) => ((HCUR4.out.next hb).cell (m * 2)).trans hcell
          have L9 := fun wx (hb : Below w4.heap.size w4 wx) => HB9.out.next hb
          have L7 := fun wx (hb : Below w4.heap.size w4 wx) => HV74.out.next hb
          clear LR HO2 HB2 HCUR HV7 HROW
          rename Hid (Var w4 gl cur 38) => HCUR
          refine Iv.wp_region_inv (n := 67) (TJ [some 54, some 55, some 56, some 57, some 58, some 59, some 60, none, none, some 63, some 64, none]
              [.pointer (some ⟨gl, m * 2, none⟩), .pointer (some ⟨gl, m * 2, none⟩), .pointer (some ⟨gl, m * 2, none⟩), .pointer (some ⟨gl, m * 2, none⟩), .slice (some ⟨gp, 0, none⟩) (q + 1) cp, ptv p, seg s, undef, undef, .pointer (some ⟨gl, m * 2, none⟩), .pointer (some ⟨gl, m * 2, none⟩), undef]
              [(0, .slice (some a) n c), (1, gD 1), (2, gD 2), (3, gD 3), (4, gD 4), (5, .slice (some ⟨gl, 0, none⟩) (m + 1) cl), (6, gD 6), (7, .pointer (some ⟨b7, 0, none⟩)), (8, .pointer (some ⟨gl, m * 2, none⟩)), (9, .pointer (some ⟨b9, 0, none⟩)), (10, gD 10), (11, gD 11), (12, gD 12), (13, gD 13), (14, gD 14), (15, .slice (some a) n c), (16, .int .i64 (n : Int)), (17, .int .i64 (k : Int)), (66, gD 66)] (MApp w4 B (.slice (some ⟨gp, 0, none⟩) (q + 1) cp) e.2.ps (replP p s) ⟨gl, m * 2, none⟩ 7 8 11 61 62 [(7, 5), (7, 6), (8, 4), (8, 7), (8, 5), (8, 6), (11, 8)])) _ (by kernel_rfl) (by kernel_rfl) (Is.start _ rfl) ?_ ?_ ?_
          · refine ⟨fun i d _ h => (by cases h), fun q hq => ?_, MApp.start⟩
            simp only [List.mem_cons, List.not_mem_nil, or_false] at hq
            rcases hq with rfl | rfl | rfl | rfl | rfl | rfl | rfl | rfl | rfl | rfl | rfl | rfl | rfl | rfl | rfl | rfl | rfl | rfl | rfl
            all_goals rfl
          · exact ⟨ma_val rfl rfl rfl rfl rfl fun L f wx hL hdep H => congrArg (fun v => Result.ok (Next.value v) wx) (H.x (8, .pointer (some ⟨gl, m * 2, none⟩)) (by simp)),
    ma_val rfl rfl rfl rfl rfl fun L f wx hL hdep H => congrArg (fun v => Result.ok (Next.value v) wx) (H.x (8, .pointer (some ⟨gl, m * 2, none⟩)) (by simp)),
    ma_val rfl rfl rfl rfl rfl fun L f wx hL hdep H => run_nil (H.t 1 55 rfl (hdep ⟨1, .data⟩ (by simp) rfl)),
    ma_val rfl rfl rfl rfl rfl fun L f wx hL hdep H => run_fld_line0 (H.t 2 56 rfl (hdep ⟨2, .data⟩ (by simp) rfl)),
    ma_val rfl rfl rfl rfl rfl fun L f wx hL hdep H => run_loadSl (H.t 3 57 rfl (hdep ⟨3, .data⟩ (by simp) rfl)) (LC wx (H.m.old hL (by simp))),
    ma_val rfl rfl rfl rfl rfl fun L f wx hL hdep H => run_loadPt (H.x (9, .pointer (some ⟨b9, 0, none⟩)) (by simp)) (L9 wx (H.m.old hL (by simp))),
    ma_val rfl rfl rfl rfl rfl fun L f wx hL hdep H => run_loadSegV (H.x (7, .pointer (some ⟨b7, 0, none⟩)) (by simp)) (L7 wx (H.m.old hL (by simp))),
    ma_call rfl rfl rfl rfl rfl rfl rfl rfl hrl (by simp) (by simp) (fun L hdep q hq e0 => by
      simp only [List.mem_cons, List.not_mem_nil, or_false] at hq
      rcases hq with rfl | rfl | rfl | rfl | rfl | rfl | rfl
      all_goals first
        | exact absurd e0 (by decide)
        | exact hdep ⟨5, .data⟩ (by simp) rfl
        | exact hdep ⟨6, .data⟩ (by simp) rfl
) fun L f wx hL hdep H hb => ⟨_, (run_call2 rfl enters_repl).trans (by rw [show env f (.tmp 59) = ptv p from (H.t 5 59 rfl (hdep ⟨5, .data⟩ (by simp) rfl)), show env f (.tmp 60) = seg s from (H.t 6 60 rfl (hdep ⟨6, .data⟩ (by simp) rfl))]), repl_any p s wx hinc⟩,
    ma_app rfl rfl rfl rfl rfl rfl rfl rfl hrl hlen hBW (by simp) ⟨⟨7, .data⟩, by simp, rfl, rfl⟩ (fun L hq0 hdep q hq e0 => by
      simp only [List.mem_cons, List.not_mem_nil, or_false] at hq
      rcases hq with rfl | rfl | rfl | rfl | rfl | rfl | rfl
      all_goals first
        | exact absurd e0 (by decide)
        | exact hdep ⟨4, .data⟩ (by simp) rfl
        | exact hdep ⟨7, .data⟩ (by simp) rfl
        | exact hq0 (7, 5) (by simp) (hdep ⟨7, .data⟩ (by simp) rfl)
        | exact hq0 (7, 6) (by simp) (hdep ⟨7, .data⟩ (by simp) rfl)
) rfl hown rfl fun L f wx hdep H => (H.t 4 58 rfl (hdep ⟨4, .data⟩ (by simp) rfl)),
    ma_val rfl rfl rfl rfl rfl fun L f wx hL hdep H => run_nil (H.t 0 54 rfl (hdep ⟨0, .data⟩ (by simp) rfl)),
    ma_val rfl rfl rfl rfl rfl fun L f wx hL hdep H => run_fld_line0 (H.t 9 63 rfl (hdep ⟨9, .data⟩ (by simp) rfl)),
    ma_store rfl rfl rfl rfl ⟨⟨8, .data⟩, by simp, rfl, rfl⟩ (fun L hdep q hq e0 => by
      simp only [List.mem_cons, List.not_mem_nil, or_false] at hq
      rcases hq with rfl | rfl | rfl | rfl | rfl | rfl | rfl
      all_goals first
        | exact absurd e0 (by decide)
        | exact hdep ⟨8, .data⟩ (by simp) rfl
) rfl rfl (fun L f wx hdep H => (H.t 10 64 rfl (hdep ⟨10, .data⟩ (by simp) rfl))) fun ρ wx v hR hx hy => by
      obtain ⟨⟨u, hu⟩, hfz⟩ := app_cell hR HCUR.out hmc hnb
      obtain ⟨g9, c9, hv9, -, -⟩ := hR.f
      rw [hv9] at hy ⊢
      exact run_storeSl hx hy hu hfz, trivial⟩
          intro L f act w5 hall H ha
          refine hKn _ _ ?_
          obtain ⟨wa, hR, hwa⟩ := H.m.s (hall 11 (by decide))
          have k0 : f 0 = .slice (some a) n c := H.x (0, .slice (some a) n c) (by simp)
          have k1 : f 1 = gD 1 := H.x (1, gD 1) (by simp)
          have k2 : f 2 = gD 2 := H.x (2, gD 2) (by simp)
          have k3 : f 3 = gD 3 := H.x (3, gD 3) (by simp)
          have k4 : f 4 = gD 4 := H.x (4, gD 4) (by simp)
          have k5 : f 5 = .slice (some ⟨gl, 0, none⟩) (m + 1) cl := H.x (5, .slice (some ⟨gl, 0, none⟩) (m + 1) cl) (by simp)
          have k6 : f 6 = gD 6 := H.x (6, gD 6) (by simp)
          have k10 : f 10 = gD 10 := H.x (10, gD 10) (by simp)
          have k11 : f 11 = gD 11 := H.x (11, gD 11) (by simp)
          have k12 : f 12 = gD 12 := H.x (12, gD 12) (by simp)
          have k13 : f 13 = gD 13 := H.x (13, gD 13) (by simp)
          have k14 : f 14 = gD 14 := H.x (14, gD 14) (by simp)
          have k15 : f 15 = .slice (some a) n c := H.x (15, .slice (some a) n c) (by simp)
          have k16 : f 16 = .int .i64 (n : Int) := H.x (16, .int .i64 (n : Int)) (by simp)
          have k17 : f 17 = .int .i64 (k : Int) := H.x (17, .int .i64 (k : Int)) (by simp)
          have k66 : f 66 = gD 66 := H.x (66, gD 66) (by simp)
          have hw := ha.whole
          rw [show ((List.range 67).map f).toArray = #[f 0, f 1, f 2, f 3, f 4, f 5, f 6, f 7, f 8, f 9, f 10, f 11, f 12, f 13, f 14, f 15, f 16, f 17, f 18, f 19, f 20, f 21, f 22, f 23, f 24, f 25, f 26, f 27, f 28, f 29, f 30, f 31, f 32, f 33, f 34, f 35, f 36, f 37, f 38, f 39, f 40, f 41, f 42, f 43, f 44, f 45, f 46, f 47, f 48, f 49, f 50, f 51, f 52, f 53, f 54, f 55, f 56, f 57, f 58, f 59, f 60, f 61, f 62, f 63, f 64, f 65, f 66] from rfl] at hw
          rw [k0, k1, k2, k3, k4, k5, k6, k10, k11, k12, k13, k14, k15, k16, k17, k66] at hw
          subst hw
          generalize f 62 = v6 at hR hwa
          have hmo := OwnL.more (v := v6) (ys := replP p s) (by have := HMM.out; subst this; exact HO4.out) hBW (by rw [HVE.out]; exact hR)
          rw [HMM.out, ← hwa] at hmo
          have HO6 := hid hmo.1
          have HB6 := hid (HB44.out.trans hmo.2)
          have HS6 := hid (show B ≤ w5.heap.size from Nat.le_trans hBW hmo.2.size)
          have HE6 := hid (show (es ++ [(v6, (⟨e.2.ps ++ replP p s, e.2.cl⟩ : Ln))]).map (·.2) = flatL (ss.take (k + 1)) by rw [List.map_append, HLS.out, HM4.out]; rfl)
          have HL6 := hid (show (es ++ [(v6, (⟨e.2.ps ++ replP p s, e.2.cl⟩ : Ln))]).length ≤ k + 1 by have := HLE.out; simp at this ⊢; omega)
          clear hmo hR hwa H ha hall k0 k1 k2 k3 k4 k5 k6 k10 k11 k12 k13 k14 k15 k16 k17 k66 LC L9 L7 hown hrl hlen hnb hBW hb4 HO4 HB44 HCUR HV74 HB9 hcell hmc hmc0 HMM HVE HPE hKn
          go_wp2_with fail
          go_roundw
          case rel => exact ⟨k + 1, es ++ [(v6, ⟨e.2.ps ++ replP p s, e.2.cl⟩)], by omega, by go_num, HO6, HE6, HL6, HB6, HS6⟩
          case measure => simp [intOf]; omega
    · have hkn : k = n := by omega
      subst hkn
      clear hlt
      go_wp2_with fail
      go_ret2
      refine ⟨_, es, rfl, by rw [← HBE.out]; exact HO.out, ?_, by rw [← HBE.out]; exact HBK.out⟩
      rw [HE.out, List.take_of_length_le (by rw [HN.out]; exact Nat.le_refl _)]

end Go.Proofs.Ytijkoaggcmgjiaa.Co
