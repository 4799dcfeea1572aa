/- The walk over a region's edges: passing an edge; the end of a run, and its beginning. -/
import Derived.Test.YtijkoaggcmgjiaaWalk
import Derived.Maps.AppendAt
namespace Go.Proofs.Ytijkoaggcmgjiaa
open Go Go.RowKit
set_option linter.unusedVariables false

theorem enters_over : Enters Try.prog 98 := enters_of Try.func98 (by kernel_rfl) rfl
theorem enters_next : Enters Try.prog 99 := enters_of Try.func99 (by kernel_rfl) rfl
theorem next_any (g : Nat) (A : Option Addr) (ss : List Rn) (n c p : Nat) (w : World) (hV : Var w g (wkc A n c p) 138) (hn : n ≤ 1000000000) (hl : n = ss.length) (hp : p ≤ 2 * n) (hs : Runs w A ss) :
    Calls Try.prog 99 #[.pointer (some ⟨g, 0, none⟩)] w fun e w' => e = .returned (ptv (edge ss p)) ∧ Below w.heap.size w w' := by
  rcases Nat.lt_or_ge p (2 * n) with h | h
  · obtain ⟨a, rfl, -, -⟩ := hs (by intro e; subst e; simp at hl; omega)
    exact next_edge g a ss n c p w hV hn hl h hs
  · rw [edge_over (by omega)]
    exact next_over g A n c p w hV hn (by omega)

set_option maxHeartbeats 2000000 in
theorem pass_any (g : Nat) (A : Option Addr) (ss : List Rn) (n c p : Nat) (q : P2) (w : World) (hV : Var w g (wkc A n c p) 138) (hn : n ≤ 1000000000) (hl : n = ss.length) (hp : p ≤ 2 * n) (hs : Runs w A ss) :
    Calls Try.prog 101 #[.pointer (some ⟨g, 0, none⟩), ptv q] w fun e w' => (∃ v, e = .returned v) ∧ Var w' g (wkc A n c (adv ss p q)) 138 ∧ w.grownBy w' (some g) := by
  have HN := hid hl
  clear hl
  obtain ⟨W, hW⟩ : ∃ W, W = w.alloc (.cells (pcel q) 40) := ⟨_, rfl⟩
  have HR := hid (show Var W w.heap.size (pcel q) 40 by rw [hW]; exact Var.new _ _ _ _ rfl)
  have HB := hid (show Below w.heap.size w W by rw [hW]; exact below_alloc (Below.refl _ w) _)
  have HV := hid (hV.next HB.out)
  have HS := hid (hs.next HB.out)
  have hgw := hV.lt
  clear hV hs
  by_cases hov : p = 2 * n
  · have had : adv ss p q = p := if_neg (fun k => by have := HN.out; omega)
    rw [had]
    have hov : decide (p = 2 * n) = true := decide_eq_true hov
    clear had
    go_enter Try.func101, Try.ntmps101
    go_upto_region 1 with fail
    rw [← hW]
    clear hW
    rename_i Kn hKn
    refine F2.wp_region_fan 8 [] (Ov W) (by kernel_rfl) (by kernel_rfl) (by kernel_rfl) (Ov.start W) ?_
    simp only [List.take_succ_cons, List.take_zero, List.drop_succ_cons, List.drop_zero]
    refine F2.WalksE.sound _ _ _ _ ?_ (((((Is.start _ (n := 20) rfl).pin 0 (v := .pointer (some (⟨g, 0, none⟩))) rfl).pin 1 (v := ptv q) rfl).pin 2 (v := undef) rfl).pin 3 (v := .pointer (some (⟨w.heap.size, 0, none⟩))) rfl)
    generalize (fun i => Array.getD _ i undef) = g0
    refine F2.walks_with fun KQ hKQ => ?_
    (refine F2.walks_one fun K hK => ?_); refine F2.st_pure (v := .pointer (some (⟨g, 0, none⟩))) rfl rfl (fun _ => rfl) ?_; refine hK _ ?_; clear hK K
    (refine F2.walks_one fun K hK => ?_); refine F2.st_call (r := .bool true) rfl rfl (fun _ => run_call1 rfl enters_over) (fun b w h => (over_any g A n c p w (HV.out.next h) hn).mono fun e w1 k => ⟨k.1.trans (by rw [hov]), h.next k.2⟩) ?_; refine hK _ ?_; clear hK K
    (refine F2.walks_one fun K hK => ?_); refine F2.st_pure (v := .bool false) rfl rfl (fun _ => run_not (b := true) rfl) ?_; refine hK _ ?_; clear hK K
    (refine F2.walks_one fun K hK => ?_); refine F2.st_pure (v := .bool false) rfl rfl (fun _ => rfl) ?_; refine hK _ ?_; clear hK K
    (refine F2.walks_one fun K hK => ?_); refine F2.st_skip rfl rfl rfl ?_; refine hK _ ?_; clear hK K
    (refine F2.walks_one fun K hK => ?_); refine F2.st_skip rfl rfl rfl ?_; refine hK _ ?_; clear hK K
    (refine F2.walks_one fun K hK => ?_); refine F2.st_skip rfl rfl rfl ?_; refine hK _ ?_; clear hK K
    (refine F2.walks_one fun K hK => ?_); refine F2.st_skip rfl rfl rfl ?_; refine hK _ ?_; clear hK K
    refine F2.walks_end fun a9 ha9 => hKQ _ fun w1 hC => ?_
    refine sq_val (v := .bool false) ha9 rfl (run_pick (b := false) rfl) fun a10 ha10 => ?_
    refine wpList_nil ?_
    refine hKn _ _ ?_
    obtain ⟨g9, hg9, k0, k1, k2, k3, k12⟩ : ∃ g9, Is a10 20 g9 ∧ g9 0 = .pointer (some (⟨g, 0, none⟩)) ∧ g9 1 = ptv q ∧ g9 2 = undef ∧ g9 3 = .pointer (some (⟨w.heap.size, 0, none⟩)) ∧ g9 12 = .bool false := ⟨_, ha10, rfl, rfl, rfl, rfl, rfl⟩
    have hw := hg9.whole
    rw [show ((List.range 20).map g9).toArray = #[g9 0, g9 1, g9 2, g9 3, g9 4, g9 5, g9 6, g9 7, g9 8, g9 9, g9 10, g9 11, g9 12, g9 13, g9 14, g9 15, g9 16, g9 17, g9 18, g9 19] from rfl] at hw
    rw [k0, k1, k2, k3, k12] at hw
    subst hw
    clear hg9 k0 k1 k2 k3 k12
    have HB2 := hid (below_next HB.out hC)
    have HV2 := hid (HV.out.next hC)
    clear ha9 ha10 hC hKQ KQ hKn Kn
    go_wp2_with fail
    go_end0
    exact ⟨⟨_, rfl⟩, HV2.out, ⟨HB2.out.os, HB2.out.tape, HB2.out.output, HB2.out.size, fun k hk _ => HB2.out.block k hk⟩⟩
  · have hlt : p < 2 * n := by omega
    have hov : decide (p = 2 * n) = false := decide_eq_false hov
    by_cases heq : edge ss p = q
    · have had : adv ss p q = p + 1 := if_pos ⟨by have := HN.out; omega, heq⟩
      rw [had]
      clear had
      have HQ := hid heq
      clear heq
      have heq := HQ
      go_enter Try.func101, Try.ntmps101
      go_upto_region 1 with fail
      rw [← hW]
      clear hW
      rename_i Kn hKn
      refine F2.wp_region_fan 8 [] (Ov W) (by kernel_rfl) (by kernel_rfl) (by kernel_rfl) (Ov.start W) ?_
      simp only [List.take_succ_cons, List.take_zero, List.drop_succ_cons, List.drop_zero]
      refine F2.WalksE.sound _ _ _ _ ?_ (((((Is.start _ (n := 20) rfl).pin 0 (v := .pointer (some (⟨g, 0, none⟩))) rfl).pin 1 (v := ptv q) rfl).pin 2 (v := undef) rfl).pin 3 (v := .pointer (some (⟨w.heap.size, 0, none⟩))) rfl)
      generalize (fun i => Array.getD _ i undef) = g0
      refine F2.walks_with fun KQ hKQ => ?_
      (refine F2.walks_one fun K hK => ?_); refine F2.st_pure (v := .pointer (some (⟨g, 0, none⟩))) rfl rfl (fun _ => rfl) ?_; refine hK _ ?_; clear hK K
      (refine F2.walks_one fun K hK => ?_); refine F2.st_call (r := .bool false) rfl rfl (fun _ => run_call1 rfl enters_over) (fun b w h => (over_any g A n c p w (HV.out.next h) hn).mono fun e w1 k => ⟨k.1.trans (by rw [hov]), h.next k.2⟩) ?_; refine hK _ ?_; clear hK K
      (refine F2.walks_one fun K hK => ?_); refine F2.st_pure (v := .bool true) rfl rfl (fun _ => run_not (b := false) rfl) ?_; refine hK _ ?_; clear hK K
      (refine F2.walks_one fun K hK => ?_); refine F2.st_pure (v := .bool true) rfl rfl (fun _ => rfl) ?_; refine hK _ ?_; clear hK K
      (refine F2.walks_one fun K hK => ?_); refine F2.st_pure (v := .pointer (some (⟨g, 0, none⟩))) rfl rfl (fun _ => rfl) ?_; refine hK _ ?_; clear hK K
      (refine F2.walks_one fun K hK => ?_); refine F2.st_call (r := ptv (edge ss p)) rfl rfl (fun _ => run_call1 rfl enters_next) (fun b w h => (next_any g A ss n c p w (HV.out.next h) hn HN.out hp (HS.out.next h)).mono fun e w1 k => ⟨k.1, h.next k.2⟩) ?_; refine hK _ ?_; clear hK K
      (refine F2.walks_one fun K hK => ?_); refine F2.st_read (v := ptv q) rfl rfl (fun b w h => run_loadPt rfl (HR.out.next h)) ?_; refine hK _ ?_; clear hK K
      (refine F2.walks_one fun K hK => ?_); refine F2.st_pure (v := .bool true) rfl rfl (fun _ => (run_eqPt rfl rfl).trans (dec_t heq.out)) ?_; refine hK _ ?_; clear hK K
      refine F2.walks_end fun a9 ha9 => hKQ _ fun w1 hC => ?_
      refine sq_val (v := .bool true) ha9 rfl (run_pick (b := true) rfl) fun a10 ha10 => ?_
      refine wpList_nil ?_
      refine hKn _ _ ?_
      obtain ⟨g9, hg9, k0, k1, k2, k3, k12⟩ : ∃ g9, Is a10 20 g9 ∧ g9 0 = .pointer (some (⟨g, 0, none⟩)) ∧ g9 1 = ptv q ∧ g9 2 = undef ∧ g9 3 = .pointer (some (⟨w.heap.size, 0, none⟩)) ∧ g9 12 = .bool true := ⟨_, ha10, rfl, rfl, rfl, rfl, rfl⟩
      have hw := hg9.whole
      rw [show ((List.range 20).map g9).toArray = #[g9 0, g9 1, g9 2, g9 3, g9 4, g9 5, g9 6, g9 7, g9 8, g9 9, g9 10, g9 11, g9 12, g9 13, g9 14, g9 15, g9 16, g9 17, g9 18, g9 19] from rfl] at hw
      rw [k0, k1, k2, k3, k12] at hw
      subst hw
      clear hg9 k0 k1 k2 k3 k12
      have HB2 := hid (below_next HB.out hC)
      have HV2 := hid (HV.out.next hC)
      clear ha9 ha10 hC hKQ KQ hKn Kn
      have hg1 := HV2.out.lt
      obtain ⟨c0, c1, cf⟩ := HV2.out.read2
      go_wp2_with fail
      go_end0
      refine ⟨⟨_, rfl⟩, by
        rw [show ((p : Int) + 1) = ((p + 1 : Nat) : Int) from rfl]
        exact HV2.out.set (i := 1) _, (World.grownBy.trans (row := some g) ⟨HB2.out.os, HB2.out.tape, HB2.out.output, HB2.out.size, fun k hk _ => HB2.out.block k hk⟩ ⟨rfl, rfl, rfl, by simp [World.setCell], fun k hk hne => Below.heap_setCell _ _ _ _ (fun e => hne (by rw [e]))⟩)⟩
    · have had : adv ss p q = p := if_neg (fun k => heq k.2)
      rw [had]
      clear had
      go_enter Try.func101, Try.ntmps101
      go_upto_region 1 with fail
      rw [← hW]
      clear hW
      rename_i Kn hKn
      refine F2.wp_region_fan 8 [] (Ov W) (by kernel_rfl) (by kernel_rfl) (by kernel_rfl) (Ov.start W) ?_
      simp only [List.take_succ_cons, List.take_zero, List.drop_succ_cons, List.drop_zero]
      refine F2.WalksE.sound _ _ _ _ ?_ (((((Is.start _ (n := 20) rfl).pin 0 (v := .pointer (some (⟨g, 0, none⟩))) rfl).pin 1 (v := ptv q) rfl).pin 2 (v := undef) rfl).pin 3 (v := .pointer (some (⟨w.heap.size, 0, none⟩))) rfl)
      generalize (fun i => Array.getD _ i undef) = g0
      refine F2.walks_with fun KQ hKQ => ?_
      (refine F2.walks_one fun K hK => ?_); refine F2.st_pure (v := .pointer (some (⟨g, 0, none⟩))) rfl rfl (fun _ => rfl) ?_; refine hK _ ?_; clear hK K
      (refine F2.walks_one fun K hK => ?_); refine F2.st_call (r := .bool false) rfl rfl (fun _ => run_call1 rfl enters_over) (fun b w h => (over_any g A n c p w (HV.out.next h) hn).mono fun e w1 k => ⟨k.1.trans (by rw [hov]), h.next k.2⟩) ?_; refine hK _ ?_; clear hK K
      (refine F2.walks_one fun K hK => ?_); refine F2.st_pure (v := .bool true) rfl rfl (fun _ => run_not (b := false) rfl) ?_; refine hK _ ?_; clear hK K
      (refine F2.walks_one fun K hK => ?_); refine F2.st_pure (v := .bool true) rfl rfl (fun _ => rfl) ?_; refine hK _ ?_; clear hK K
      (refine F2.walks_one fun K hK => ?_); refine F2.st_pure (v := .pointer (some (⟨g, 0, none⟩))) rfl rfl (fun _ => rfl) ?_; refine hK _ ?_; clear hK K
      (refine F2.walks_one fun K hK => ?_); refine F2.st_call (r := ptv (edge ss p)) rfl rfl (fun _ => run_call1 rfl enters_next) (fun b w h => (next_any g A ss n c p w (HV.out.next h) hn HN.out hp (HS.out.next h)).mono fun e w1 k => ⟨k.1, h.next k.2⟩) ?_; refine hK _ ?_; clear hK K
      (refine F2.walks_one fun K hK => ?_); refine F2.st_read (v := ptv q) rfl rfl (fun b w h => run_loadPt rfl (HR.out.next h)) ?_; refine hK _ ?_; clear hK K
      (refine F2.walks_one fun K hK => ?_); refine F2.st_pure (v := .bool false) rfl rfl (fun _ => (run_eqPt rfl rfl).trans (dec_f heq)) ?_; refine hK _ ?_; clear hK K
      refine F2.walks_end fun a9 ha9 => hKQ _ fun w1 hC => ?_
      refine sq_val (v := .bool false) ha9 rfl (run_pick (b := true) rfl) fun a10 ha10 => ?_
      refine wpList_nil ?_
      refine hKn _ _ ?_
      obtain ⟨g9, hg9, k0, k1, k2, k3, k12⟩ : ∃ g9, Is a10 20 g9 ∧ g9 0 = .pointer (some (⟨g, 0, none⟩)) ∧ g9 1 = ptv q ∧ g9 2 = undef ∧ g9 3 = .pointer (some (⟨w.heap.size, 0, none⟩)) ∧ g9 12 = .bool false := ⟨_, ha10, rfl, rfl, rfl, rfl, rfl⟩
      have hw := hg9.whole
      rw [show ((List.range 20).map g9).toArray = #[g9 0, g9 1, g9 2, g9 3, g9 4, g9 5, g9 6, g9 7, g9 8, g9 9, g9 10, g9 11, g9 12, g9 13, g9 14, g9 15, g9 16, g9 17, g9 18, g9 19] from rfl] at hw
      rw [k0, k1, k2, k3, k12] at hw
      subst hw
      clear hg9 k0 k1 k2 k3 k12
      have HB2 := hid (below_next HB.out hC)
      have HV2 := hid (HV.out.next hC)
      clear ha9 ha10 hC hKQ KQ hKn Kn
      go_wp2_with fail
      go_end0
      exact ⟨⟨_, rfl⟩, HV2.out, ⟨HB2.out.os, HB2.out.tape, HB2.out.output, HB2.out.size, fun k hk _ => HB2.out.block k hk⟩⟩

end Go.Proofs.Ytijkoaggcmgjiaa
