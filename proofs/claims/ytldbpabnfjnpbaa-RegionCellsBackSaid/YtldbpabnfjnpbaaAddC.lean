/- appendCell and compare of package region. -/
import Derived.Test.YtldbpabnfjnpbaaOfP
import Derived.Test.YtldbpabnfjnpbaaAppE
import Derived.Test.YtldbpabnfjnpbaaChk
namespace Go.Proofs.Ytldbpabnfjnpbaa
open Go Go.RowKit
set_option linter.unusedVariables false

set_option maxHeartbeats 1000000 in
set_option maxRecDepth 100000 in
theorem addC_empty (v : Value) (p : P2) (B : Nat) (w : World) (hp : PIn p) (hB : B ≤ w.heap.size) (ho : OwnR w B v []) :
    Calls Try.prog 54 #[v, ptv p] w fun e w' => ∃ v', e = .returned v' ∧ OwnR w' B v' (addC [] p) ∧ Gr v v' w w' := by
  obtain ⟨n, hn⟩ : ∃ n, n = ([] : List Rn).length := ⟨_, rfl⟩
  have HN := hid hn
  obtain ⟨A, c, hv, hr⟩ := ho.is
  rw [← hn] at hv
  have hn0 : n ≤ 0 := by rw [hn]; exact Nat.le_refl _
  have hl : ([] : List Rn).length ≤ 5000000000 := by decide
  obtain ⟨hpx, hpy⟩ := hp
  obtain ⟨W, hW⟩ : ∃ W, W = (w.alloc (.cells #[.int .i64 p.x, .int .i64 p.y] 31)).alloc (.cells #[.int .i64 p.y, .int .i64 p.x, .int .i64 (p.x + 1)] 37) := ⟨_, rfl⟩
  have HR := hid (show Var W (w.heap.size + 1) (cel ⟨p.y, p.x, p.x + 1⟩) 37 by rw [hW]; exact Var.new _ _ _ _ (by simp))
  have HB := hid (show Below w.heap.size w W by rw [hW]; exact below_alloc (below_alloc (Below.refl _ w) _) _)
  have HO := hid (ho.next HB.out)
  clear ho hn hr
  show Calls _ _ _ _ (fun e w' => ∃ v', e = .returned v' ∧ OwnR w' B v' ([] ++ [⟨p.y, p.x, p.x + 1⟩]) ∧ Gr v v' w w')
  subst hv
  go_enter Try.func54, Try.ntmps54
  go_upto_region 2 with fail
  rw [← hW]
  clear hW
  rename_i Kn hKn
  refine F2.wp_region_fan 12 [] (Ov W) (by kernel_rfl) (by kernel_rfl) (by kernel_rfl) (Ov.start W) ?_
  simp only [List.take_succ_cons, List.take_zero, List.drop_succ_cons, List.drop_zero]
  refine F2.WalksE.sound _ _ _ _ ?_ ((((((Is.start _ (n := 40) rfl).pin 0 (v := .slice A n c) rfl).pin 1 (v := ptv p) rfl).pin 3 (v := .pointer (some (⟨w.heap.size, 0, none⟩))) rfl).pin 4 (v := .slice none 0 0) rfl).pin 5 (v := .pointer (some (⟨w.heap.size + 1, 0, none⟩))) rfl)
  generalize (fun i => Array.getD _ i undef) = g0
  refine F2.walks_with fun KQ hKQ => ?_
  (refine F2.walks_one fun K hK => ?_); refine F2.st_pure (v := .slice A n c) rfl rfl (fun _ => rfl) ?_; refine hK _ ?_; clear hK K
  (refine F2.walks_one fun K hK => ?_); refine F2.st_pure (v := .int .i64 n) rfl rfl (fun _ => run_lenR rfl) ?_; refine hK _ ?_; clear hK K
  (refine F2.walks_one fun K hK => ?_); refine F2.st_pure (v := .bool true) rfl rfl (fun _ => (run_eqInt rfl rfl).trans (dec_t (by omega))) ?_; refine hK _ ?_; clear hK K
  (refine F2.walks_one fun K hK => ?_); refine F2.st_pure (v := .bool true) rfl rfl (fun _ => rfl) ?_; refine hK _ ?_; clear hK K
  (refine F2.walks_one fun K hK => ?_); refine F2.st_skip rfl rfl rfl ?_; refine hK _ ?_; clear hK K
  (refine F2.walks_one fun K hK => ?_); refine F2.st_skip rfl rfl rfl ?_; refine hK _ ?_; clear hK K
  (refine F2.walks_one fun K hK => ?_); refine F2.st_skip rfl rfl rfl ?_; refine hK _ ?_; clear hK K
  (refine F2.walks_one fun K hK => ?_); refine F2.st_skip rfl rfl rfl ?_; refine hK _ ?_; clear hK K
  (refine F2.walks_one fun K hK => ?_); refine F2.st_skip rfl rfl rfl ?_; refine hK _ ?_; clear hK K
  (refine F2.walks_one fun K hK => ?_); refine F2.st_skip rfl rfl rfl ?_; refine hK _ ?_; clear hK K
  (refine F2.walks_one fun K hK => ?_); refine F2.st_skip rfl rfl rfl ?_; refine hK _ ?_; clear hK K
  (refine F2.walks_one fun K hK => ?_); refine F2.st_skip rfl rfl rfl ?_; refine hK _ ?_; clear hK K
  refine F2.walks_end fun a9 ha9 => hKQ _ fun w1 hC => ?_
  refine sq_val (v := .bool true) ha9 rfl (run_pick (b := true) rfl) fun a10 ha10 => ?_
  refine wpList_nil ?_
  refine hKn _ _ ?_
  obtain ⟨g9, hg9, k0, k1, k3, k4, k5, k26⟩ : ∃ g9, Is a10 40 g9 ∧ g9 0 = .slice A n c ∧ g9 1 = ptv p ∧ g9 3 = .pointer (some (⟨w.heap.size, 0, none⟩)) ∧ g9 4 = .slice none 0 0 ∧ g9 5 = .pointer (some (⟨w.heap.size + 1, 0, none⟩)) ∧ g9 26 = .bool true := ⟨_, ha10, rfl, rfl, rfl, rfl, rfl, rfl⟩
  have hw := hg9.whole
  rw [show ((List.range 40).map g9).toArray = #[g9 0, g9 1, g9 2, g9 3, g9 4, g9 5, g9 6, g9 7, g9 8, g9 9, g9 10, g9 11, g9 12, g9 13, g9 14, g9 15, g9 16, g9 17, g9 18, g9 19, g9 20, g9 21, g9 22, g9 23, g9 24, g9 25, g9 26, g9 27, g9 28, g9 29, g9 30, g9 31, g9 32, g9 33, g9 34, g9 35, g9 36, g9 37, g9 38, g9 39] from rfl] at hw
  rw [k0, k1, k3, k4, k5, k26] at hw
  subst hw
  clear hg9 k0 k1 k3 k4 k5 k26
  have HB2 := hid (show Below w.heap.size w w1 from below_next HB.out hC)
  have HR2 := hid (HR.out.next hC)
  have HO2 := hid (HO.out.next hC)
  clear ha9 ha10 hC hKQ KQ hKn Kn
  go_upto_region 3 with fail
  rename_i Kn hKn
  refine wp_region_lit ?_
  refine sq_start (n := 40) rfl fun a0 hs0 => ?_
  have ha0 := ((((((hs0.pin 0 (v := .slice A n c) rfl).pin 1 (v := ptv p) rfl).pin 3 (v := .pointer (some (⟨w.heap.size, 0, none⟩))) rfl).pin 4 (v := .slice none 0 0) rfl).pin 5 (v := .pointer (some (⟨w.heap.size + 1, 0, none⟩))) rfl).pin 26 (v := .bool true) rfl)
  clear hs0
  generalize (fun i => Array.getD _ i undef) = g0 at ha0
  refine sq_val (v := .slice A n c) ha0 rfl (rfl) fun a1 ha1 => ?_
  refine sq_val (v := rn (⟨p.y, p.x, p.x + 1⟩)) ha1 rfl (run_loadRn rfl HR2.out.rnAt) fun a2 ha2 => ?_
  refine sq_val (v := .slice (some ⟨w1.heap.size, 0, none⟩) 1 1) ha2 rfl (run_litRn rfl) fun a3 ha3 => ?_
  obtain ⟨v', w3, h1, h2, h3⟩ := append_rn (ty := 22) (s := ⟨p.y, p.x, p.x + 1⟩) (Nat.le_trans hB HB2.out.size) HO2.out hl
  refine sq_val (v := v') ha3 rfl (run_append rfl rfl h1) fun a4 ha4 => ?_
  refine sq_val (v := v') ha4 rfl (rfl) fun a5 ha5 => ?_
  refine wpList_nil ?_
  refine hKn _ _ ?_
  obtain ⟨g9, hg9, k0, k1, k3, k4, k5, k26⟩ : ∃ g9, Is a5 40 g9 ∧ g9 0 = .slice A n c ∧ g9 1 = ptv p ∧ g9 3 = .pointer (some (⟨w.heap.size, 0, none⟩)) ∧ g9 4 = v' ∧ g9 5 = .pointer (some (⟨w.heap.size + 1, 0, none⟩)) ∧ g9 26 = .bool true := ⟨_, ha5, rfl, rfl, rfl, rfl, rfl, rfl⟩
  have hw := hg9.whole
  rw [show ((List.range 40).map g9).toArray = #[g9 0, g9 1, g9 2, g9 3, g9 4, g9 5, g9 6, g9 7, g9 8, g9 9, g9 10, g9 11, g9 12, g9 13, g9 14, g9 15, g9 16, g9 17, g9 18, g9 19, g9 20, g9 21, g9 22, g9 23, g9 24, g9 25, g9 26, g9 27, g9 28, g9 29, g9 30, g9 31, g9 32, g9 33, g9 34, g9 35, g9 36, g9 37, g9 38, g9 39] from rfl] at hw
  rw [k0, k1, k3, k4, k5, k26] at hw
  subst hw
  clear hg9 k0 k1 k3 k4 k5 k26
  have HO3 := hid h2
  have HG3 := hid ((Gr.of_below HB2.out).trans h3)
  clear h1 h2 h3
  clear ha0 ha1 ha2 ha3 ha4 ha5 hKn Kn
  go_wp2_with fail
  go_ret
  exact ⟨v', rfl, HO3.out, HG3.out⟩

set_option maxHeartbeats 1000000 in
set_option maxRecDepth 100000 in
theorem addC_more (v : Value) (xs : List Rn) (q : Rn) (p : P2) (B : Nat) (w : World) (hp : PIn p) (hB : B ≤ w.heap.size) (ho : OwnR w B v (xs ++ [q])) (hl : (xs ++ [q]).length ≤ 5000000000) :
    Calls Try.prog 54 #[v, ptv p] w fun e w' => ∃ v', e = .returned v' ∧ OwnR w' B v' (addC (xs ++ [q]) p) ∧ Gr v v' w w' := by
  obtain ⟨n, hn⟩ : ∃ n, n = (xs ++ [q]).length := ⟨_, rfl⟩
  have HN := hid hn
  obtain ⟨m, hm⟩ : ∃ m, m = xs.length := ⟨_, rfl⟩
  have hmn : m + 1 ≤ n ∧ n ≤ m + 1 := by rw [hn, hm]; simp
  obtain ⟨g, c, hv, hg1, hg2, hg3⟩ := ho.one (by simp)
  have HX := hid (show xs ++ [q] ≠ [] by simp)
  rw [← hn] at hv hg3
  have hl2 : n ≤ 5000000000 := by rw [hn]; exact hl
  obtain ⟨hpx, hpy⟩ := hp
  obtain ⟨W, hW⟩ : ∃ W, W = (w.alloc (.cells #[.int .i64 p.x, .int .i64 p.y] 31)).alloc (.cells #[.int .i64 p.y, .int .i64 p.x, .int .i64 (p.x + 1)] 37) := ⟨_, rfl⟩
  have HR := hid (show Var W (w.heap.size + 1) (cel ⟨p.y, p.x, p.x + 1⟩) 37 by rw [hW]; exact Var.new _ _ _ _ (by simp))
  have HB := hid (show Below w.heap.size w W by rw [hW]; exact below_alloc (below_alloc (Below.refl _ w) _) _)
  have HO := hid (ho.next HB.out)
  obtain ⟨a, ha⟩ : ∃ a : Addr, a = ⟨g, 0, none⟩ := ⟨_, rfl⟩
  have HQ : Hid (RnAt W (a.add (m * 3)) q) := hid (by
    obtain ⟨A2, c2, e2, h2⟩ := HO.out.is
    rw [hv] at e2
    cases e2
    obtain ⟨a3, e3, -, h3⟩ := h2.at_ (i := m) (by rw [← hn]; omega)
    cases e3
    rw [ha]
    have : (xs ++ [q])[m]'(by rw [← hn]; omega) = q := by subst hm; simp
    rwa [this] at h3)
  have hQl : (a.add (m * 3)).block < W.heap.size := by rw [add_block, ha]; exact Nat.lt_of_lt_of_le hg2 HB.out.size
  clear ho hn
  have HA := hid ha
  by_cases hbh : Bh ⟨p.y, p.x, p.x + 1⟩ q
  · have hbt : behind ⟨p.y, p.x, p.x + 1⟩ q = true := decide_eq_true hbh
    have ea : addC (xs ++ [q]) p = (xs ++ [q]) ++ [⟨p.y, p.x, p.x + 1⟩] := by unfold addC; rw [show (xs ++ [q]).getLast? = some q by simp]; exact if_pos hbh
    rw [ea]
    clear hm ea hbh
    rw [← ha] at hv
    clear ha
    subst hv
    go_enter Try.func54, Try.ntmps54
    go_upto_region 2 with fail
    rw [← hW]
    clear hW
    rename_i Kn hKn
    refine F2.wp_region_fan 12 [] (Ov W) (by kernel_rfl) (by kernel_rfl) (by kernel_rfl) (Ov.start W) ?_
    simp only [List.take_succ_cons, List.take_zero, List.drop_succ_cons, List.drop_zero]
    refine F2.WalksE.sound _ _ _ _ ?_ ((((((Is.start _ (n := 40) rfl).pin 0 (v := .slice (some a) n c) rfl).pin 1 (v := ptv p) rfl).pin 3 (v := .pointer (some (⟨w.heap.size, 0, none⟩))) rfl).pin 4 (v := .slice none 0 0) rfl).pin 5 (v := .pointer (some (⟨w.heap.size + 1, 0, none⟩))) rfl)
    generalize (fun i => Array.getD _ i undef) = g0
    refine F2.walks_with fun KQ hKQ => ?_
    (refine F2.walks_one fun K hK => ?_); refine F2.st_pure (v := .slice (some a) n c) rfl rfl (fun _ => rfl) ?_; refine hK _ ?_; clear hK K
    (refine F2.walks_one fun K hK => ?_); refine F2.st_pure (v := .int .i64 n) rfl rfl (fun _ => run_lenR rfl) ?_; refine hK _ ?_; clear hK K
    (refine F2.walks_one fun K hK => ?_); refine F2.st_pure (v := .bool false) rfl rfl (fun _ => (run_eqInt rfl rfl).trans (dec_f (by omega))) ?_; refine hK _ ?_; clear hK K
    (refine F2.walks_one fun K hK => ?_); refine F2.st_pure (v := .bool false) rfl rfl (fun _ => rfl) ?_; refine hK _ ?_; clear hK K
    (refine F2.walks_one fun K hK => ?_); refine F2.st_read (v := rn (⟨p.y, p.x, p.x + 1⟩)) rfl rfl (fun b w h => run_loadRn rfl (HR.out.next h).rnAt) ?_; refine hK _ ?_; clear hK K
    (refine F2.walks_one fun K hK => ?_); refine F2.st_pure (v := .slice (some a) n c) rfl rfl (fun _ => rfl) ?_; refine hK _ ?_; clear hK K
    (refine F2.walks_one fun K hK => ?_); refine F2.st_pure (v := .slice (some a) n c) rfl rfl (fun _ => rfl) ?_; refine hK _ ?_; clear hK K
    (refine F2.walks_one fun K hK => ?_); refine F2.st_pure (v := .int .i64 n) rfl rfl (fun _ => run_lenR rfl) ?_; refine hK _ ?_; clear hK K
    (refine F2.walks_one fun K hK => ?_); refine F2.st_pure (v := .int .i64 ↑m) rfl rfl (fun _ => (run_sub rfl rfl (by unfold Rg; omega)).trans (int_is (by omega))) ?_; refine hK _ ?_; clear hK K
    (refine F2.walks_one fun K hK => ?_); refine F2.st_pure (v := .pointer (some (a.add (m * 3)))) rfl rfl (fun _ => (run_index rfl rfl (by omega) (by omega)).trans (by rw [Int.toNat_natCast])) ?_; refine hK _ ?_; clear hK K
    (refine F2.walks_one fun K hK => ?_); refine F2.st_read (v := rn q) rfl rfl (fun b w h => run_loadRn rfl (HQ.out.below h hQl)) ?_; refine hK _ ?_; clear hK K
    (refine F2.walks_one fun K hK => ?_); refine F2.st_call (r := .bool true) rfl rfl (fun _ => run_call2 rfl enters_behind) (fun b w h => (behind_any ⟨p.y, p.x, p.x + 1⟩ q w).mono fun e w1 k => ⟨k.1.trans (by rw [hbt]), h.next k.2⟩) ?_; refine hK _ ?_; clear hK K
    refine F2.walks_end fun a9 ha9 => hKQ _ fun w1 hC => ?_
    refine sq_val (v := .bool true) ha9 rfl (run_pick (b := false) rfl) fun a10 ha10 => ?_
    refine wpList_nil ?_
    refine hKn _ _ ?_
    obtain ⟨g9, hg9, k0, k1, k3, k4, k5, k26⟩ : ∃ g9, Is a10 40 g9 ∧ g9 0 = .slice (some a) n c ∧ g9 1 = ptv p ∧ g9 3 = .pointer (some (⟨w.heap.size, 0, none⟩)) ∧ g9 4 = .slice none 0 0 ∧ g9 5 = .pointer (some (⟨w.heap.size + 1, 0, none⟩)) ∧ g9 26 = .bool true := ⟨_, ha10, rfl, rfl, rfl, rfl, rfl, rfl⟩
    have hw := hg9.whole
    rw [show ((List.range 40).map g9).toArray = #[g9 0, g9 1, g9 2, g9 3, g9 4, g9 5, g9 6, g9 7, g9 8, g9 9, g9 10, g9 11, g9 12, g9 13, g9 14, g9 15, g9 16, g9 17, g9 18, g9 19, g9 20, g9 21, g9 22, g9 23, g9 24, g9 25, g9 26, g9 27, g9 28, g9 29, g9 30, g9 31, g9 32, g9 33, g9 34, g9 35, g9 36, g9 37, g9 38, g9 39] from rfl] at hw
    rw [k0, k1, k3, k4, k5, k26] at hw
    subst hw
    clear hg9 k0 k1 k3 k4 k5 k26
    have HB2 := hid (show Below w.heap.size w w1 from below_next HB.out hC)
    have HR2 := hid (HR.out.next hC)
    have HO2 := hid (HO.out.next hC)
    clear ha9 ha10 hC hKQ KQ hKn Kn
    go_upto_region 3 with fail
    rename_i Kn hKn
    refine wp_region_lit ?_
    refine sq_start (n := 40) rfl fun a0 hs0 => ?_
    have ha0 := ((((((hs0.pin 0 (v := .slice (some a) n c) rfl).pin 1 (v := ptv p) rfl).pin 3 (v := .pointer (some (⟨w.heap.size, 0, none⟩))) rfl).pin 4 (v := .slice none 0 0) rfl).pin 5 (v := .pointer (some (⟨w.heap.size + 1, 0, none⟩))) rfl).pin 26 (v := .bool true) rfl)
    clear hs0
    generalize (fun i => Array.getD _ i undef) = g0 at ha0
    refine sq_val (v := .slice (some a) n c) ha0 rfl (rfl) fun a1 ha1 => ?_
    refine sq_val (v := rn (⟨p.y, p.x, p.x + 1⟩)) ha1 rfl (run_loadRn rfl HR2.out.rnAt) fun a2 ha2 => ?_
    refine sq_val (v := .slice (some ⟨w1.heap.size, 0, none⟩) 1 1) ha2 rfl (run_litRn rfl) fun a3 ha3 => ?_
    obtain ⟨v', w3, h1, h2, h3⟩ := append_rn (ty := 22) (s := ⟨p.y, p.x, p.x + 1⟩) (Nat.le_trans hB HB2.out.size) HO2.out hl
    refine sq_val (v := v') ha3 rfl (run_append rfl rfl h1) fun a4 ha4 => ?_
    refine sq_val (v := v') ha4 rfl (rfl) fun a5 ha5 => ?_
    refine wpList_nil ?_
    refine hKn _ _ ?_
    obtain ⟨g9, hg9, k0, k1, k3, k4, k5, k26⟩ : ∃ g9, Is a5 40 g9 ∧ g9 0 = .slice (some a) n c ∧ g9 1 = ptv p ∧ g9 3 = .pointer (some (⟨w.heap.size, 0, none⟩)) ∧ g9 4 = v' ∧ g9 5 = .pointer (some (⟨w.heap.size + 1, 0, none⟩)) ∧ g9 26 = .bool true := ⟨_, ha5, rfl, rfl, rfl, rfl, rfl, rfl⟩
    have hw := hg9.whole
    rw [show ((List.range 40).map g9).toArray = #[g9 0, g9 1, g9 2, g9 3, g9 4, g9 5, g9 6, g9 7, g9 8, g9 9, g9 10, g9 11, g9 12, g9 13, g9 14, g9 15, g9 16, g9 17, g9 18, g9 19, g9 20, g9 21, g9 22, g9 23, g9 24, g9 25, g9 26, g9 27, g9 28, g9 29, g9 30, g9 31, g9 32, g9 33, g9 34, g9 35, g9 36, g9 37, g9 38, g9 39] from rfl] at hw
    rw [k0, k1, k3, k4, k5, k26] at hw
    subst hw
    clear hg9 k0 k1 k3 k4 k5 k26
    have HO3 := hid h2
    have HG3 := hid ((Gr.of_below HB2.out).trans h3)
    clear h1 h2 h3
    clear ha0 ha1 ha2 ha3 ha4 ha5 hKn Kn
    go_wp2_with fail
    go_ret
    exact ⟨v', rfl, HO3.out, HG3.out⟩
  · have hbt : behind ⟨p.y, p.x, p.x + 1⟩ q = false := decide_eq_false hbh
    have ea : addC (xs ++ [q]) p = setEnd (xs ++ [q]) (p.x + 1) := by unfold addC; rw [show (xs ++ [q]).getLast? = some q by simp]; exact if_neg hbh
    rw [ea]
    clear hm ea hbh
    rw [← ha] at hv
    clear ha
    subst hv
    go_enter Try.func54, Try.ntmps54
    go_upto_region 2 with fail
    rw [← hW]
    clear hW
    rename_i Kn hKn
    refine F2.wp_region_fan 12 [] (Ov W) (by kernel_rfl) (by kernel_rfl) (by kernel_rfl) (Ov.start W) ?_
    simp only [List.take_succ_cons, List.take_zero, List.drop_succ_cons, List.drop_zero]
    refine F2.WalksE.sound _ _ _ _ ?_ ((((((Is.start _ (n := 40) rfl).pin 0 (v := .slice (some a) n c) rfl).pin 1 (v := ptv p) rfl).pin 3 (v := .pointer (some (⟨w.heap.size, 0, none⟩))) rfl).pin 4 (v := .slice none 0 0) rfl).pin 5 (v := .pointer (some (⟨w.heap.size + 1, 0, none⟩))) rfl)
    generalize (fun i => Array.getD _ i undef) = g0
    refine F2.walks_with fun KQ hKQ => ?_
    (refine F2.walks_one fun K hK => ?_); refine F2.st_pure (v := .slice (some a) n c) rfl rfl (fun _ => rfl) ?_; refine hK _ ?_; clear hK K
    (refine F2.walks_one fun K hK => ?_); refine F2.st_pure (v := .int .i64 n) rfl rfl (fun _ => run_lenR rfl) ?_; refine hK _ ?_; clear hK K
    (refine F2.walks_one fun K hK => ?_); refine F2.st_pure (v := .bool false) rfl rfl (fun _ => (run_eqInt rfl rfl).trans (dec_f (by omega))) ?_; refine hK _ ?_; clear hK K
    (refine F2.walks_one fun K hK => ?_); refine F2.st_pure (v := .bool false) rfl rfl (fun _ => rfl) ?_; refine hK _ ?_; clear hK K
    (refine F2.walks_one fun K hK => ?_); refine F2.st_read (v := rn (⟨p.y, p.x, p.x + 1⟩)) rfl rfl (fun b w h => run_loadRn rfl (HR.out.next h).rnAt) ?_; refine hK _ ?_; clear hK K
    (refine F2.walks_one fun K hK => ?_); refine F2.st_pure (v := .slice (some a) n c) rfl rfl (fun _ => rfl) ?_; refine hK _ ?_; clear hK K
    (refine F2.walks_one fun K hK => ?_); refine F2.st_pure (v := .slice (some a) n c) rfl rfl (fun _ => rfl) ?_; refine hK _ ?_; clear hK K
    (refine F2.walks_one fun K hK => ?_); refine F2.st_pure (v := .int .i64 n) rfl rfl (fun _ => run_lenR rfl) ?_; refine hK _ ?_; clear hK K
    (refine F2.walks_one fun K hK => ?_); refine F2.st_pure (v := .int .i64 ↑m) rfl rfl (fun _ => (run_sub rfl rfl (by unfold Rg; omega)).trans (int_is (by omega))) ?_; refine hK _ ?_; clear hK K
    (refine F2.walks_one fun K hK => ?_); refine F2.st_pure (v := .pointer (some (a.add (m * 3)))) rfl rfl (fun _ => (run_index rfl rfl (by omega) (by omega)).trans (by rw [Int.toNat_natCast])) ?_; refine hK _ ?_; clear hK K
    (refine F2.walks_one fun K hK => ?_); refine F2.st_read (v := rn q) rfl rfl (fun b w h => run_loadRn rfl (HQ.out.below h hQl)) ?_; refine hK _ ?_; clear hK K
    (refine F2.walks_one fun K hK => ?_); refine F2.st_call (r := .bool false) rfl rfl (fun _ => run_call2 rfl enters_behind) (fun b w h => (behind_any ⟨p.y, p.x, p.x + 1⟩ q w).mono fun e w1 k => ⟨k.1.trans (by rw [hbt]), h.next k.2⟩) ?_; refine hK _ ?_; clear hK K
    refine F2.walks_end fun a9 ha9 => hKQ _ fun w1 hC => ?_
    refine sq_val (v := .bool false) ha9 rfl (run_pick (b := false) rfl) fun a10 ha10 => ?_
    refine wpList_nil ?_
    refine hKn _ _ ?_
    obtain ⟨g9, hg9, k0, k1, k3, k4, k5, k26⟩ : ∃ g9, Is a10 40 g9 ∧ g9 0 = .slice (some a) n c ∧ g9 1 = ptv p ∧ g9 3 = .pointer (some (⟨w.heap.size, 0, none⟩)) ∧ g9 4 = .slice none 0 0 ∧ g9 5 = .pointer (some (⟨w.heap.size + 1, 0, none⟩)) ∧ g9 26 = .bool false := ⟨_, ha10, rfl, rfl, rfl, rfl, rfl, rfl⟩
    have hw := hg9.whole
    rw [show ((List.range 40).map g9).toArray = #[g9 0, g9 1, g9 2, g9 3, g9 4, g9 5, g9 6, g9 7, g9 8, g9 9, g9 10, g9 11, g9 12, g9 13, g9 14, g9 15, g9 16, g9 17, g9 18, g9 19, g9 20, g9 21, g9 22, g9 23, g9 24, g9 25, g9 26, g9 27, g9 28, g9 29, g9 30, g9 31, g9 32, g9 33, g9 34, g9 35, g9 36, g9 37, g9 38, g9 39] from rfl] at hw
    rw [k0, k1, k3, k4, k5, k26] at hw
    subst hw
    clear hg9 k0 k1 k3 k4 k5 k26
    have HB2 := hid (show Below w.heap.size w w1 from below_next HB.out hC)
    have HR2 := hid (HR.out.next hC)
    have HO2 := hid (HO.out.next hC)
    clear ha9 ha10 hC hKQ KQ hKn Kn
    have ha := HA.out
    subst ha
    have HO3 := hid (show OwnR w1 B (.slice (some ⟨g, 0, none⟩) (xs ++ [q]).length c) (xs ++ [q]) by rw [← HN.out]; exact HO2.out)
    obtain ⟨r0, r1, r2, rf⟩ := HR2.out.read3
    have hj : (n - 1) * 3 + 2 < n * 3 := by omega
    have hj' : (n - 1) * 3 + 2 < (xs ++ [q]).length * 3 := by rw [← HN.out]; exact hj
    have HO4 : w1.ownsRow B 37 3 (.slice (some ⟨g, 0, none⟩) n c) n (flat (xs ++ [q])) := by
      have := HO2.out
      unfold OwnR at this
      rwa [← HN.out] at this
    have k0 := World.ownsRow.cellAt HO4 ((n - 1) * 3 + 2) hj
    rw [List.getElem?_eq_getElem (by rw [flat_length]; exact hj')] at k0
    have k1 := World.ownsRow.frozenAt HO4 ((n - 1) * 3 + 2)
    generalize (flat (xs ++ [q]))[(n - 1) * 3 + 2]'_ = u0 at k0
    clear hj hj' hQl HO4
    go_wp2_with fail
    go_ret
    refine ⟨_, rfl, ?_, (Gr.of_below HB2.out).trans Gr.set⟩
    have := HO3.out.setEnd HX.out (p.x + 1)
    rwa [← HN.out] at this

theorem addC_any (v : Value) (xs : List Rn) (p : P2) (B : Nat) (w : World) (hp : PIn p) (hB : B ≤ w.heap.size) (ho : OwnR w B v xs) (hl : xs.length ≤ 5000000000) :
    Calls Try.prog 54 #[v, ptv p] w fun e w' => ∃ v', e = .returned v' ∧ OwnR w' B v' (addC xs p) ∧ Gr v v' w w' := by
  rcases List.eq_nil_or_concat xs with rfl | ⟨ys, q, rfl⟩
  · exact addC_empty v p B w hp hB ho
  · rw [List.concat_eq_append] at ho hl ⊢
    exact addC_more v ys q p B w hp hB ho hl

end Go.Proofs.Ytldbpabnfjnpbaa
