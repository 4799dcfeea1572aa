/- The walk over a region's edges: what its methods return; compare. -/
import Derived.Test.YtijkoaggcmgjiaaChk
import Derived.Test.YtijkoaggcmgjiaaComb
namespace Go.Proofs.Ytijkoaggcmgjiaa
open Go Go.RowKit
set_option linter.unusedVariables false

theorem nan_any (x : Int) (w : World) : Calls Try.prog 122 #[.int .i64 x] w fun e w' => e = .returned (.bool false) ∧ w = w' := by
  go_enter Try.func122, Try.ntmps122
  go_wp2
  go_ret
  exact ⟨rfl, rfl⟩
theorem cmpC_any (x y : Int) (w : World) : Calls Try.prog 85 #[.int .i64 x, .int .i64 y] w fun e w' => e = .returned (.int .i64 (cmpI x y)) ∧ w = w' := by
  by_cases h1 : x < y
  · rw [show cmpI x y = -1 from if_pos h1]
    go_enter Try.func85, Try.ntmps85
    go_wp2_with (go_at_call 122; (with_reducible refine (nan_any _ _).mono ?_); rintro e w' ⟨rfl, rfl⟩)
    go_ret
    exact ⟨rfl, rfl⟩
  · by_cases h2 : y < x
    · rw [show cmpI x y = 1 by unfold cmpI; rw [if_neg h1, if_pos h2]]
      go_enter Try.func85, Try.ntmps85
      go_wp2_with (go_at_call 122; (with_reducible refine (nan_any _ _).mono ?_); rintro e w' ⟨rfl, rfl⟩)
      go_ret
      exact ⟨rfl, rfl⟩
    · rw [show cmpI x y = 0 by unfold cmpI; rw [if_neg h1, if_neg h2]]
      go_enter Try.func85, Try.ntmps85
      go_wp2_with (go_at_call 122; (with_reducible refine (nan_any _ _).mono ?_); rintro e w' ⟨rfl, rfl⟩)
      go_ret
      exact ⟨rfl, rfl⟩

theorem compare_any (p q : P2) (w : World) : Calls Try.prog 100 #[ptv p, ptv q] w fun e w' => e = .returned (.int .i64 (cmpP p q)) ∧ Below w.heap.size w w' := by
  obtain ⟨x, y⟩ := p
  obtain ⟨x', y'⟩ := q
  by_cases h1 : y = y'
  · subst h1
    rw [show cmpP ⟨x, y⟩ ⟨x', y⟩ = cmpI x x' from if_neg (by simp)]
    go_enter Try.func100, Try.ntmps100
    go_wp2_with (go_at_call 85; (with_reducible refine (cmpC_any _ _ _).mono ?_); rintro e w' ⟨rfl, rfl⟩)
    go_ret
    exact ⟨rfl, below_alloc (below_alloc (Below.refl _ w) _) _⟩
  · rw [show cmpP ⟨x, y⟩ ⟨x', y'⟩ = cmpI y y' from if_pos h1]
    have h2 : (y != y') = true := by simpa using h1
    go_enter Try.func100, Try.ntmps100
    go_wp2_with (go_at_call 85; (with_reducible refine (cmpC_any _ _ _).mono ?_); rintro e w' ⟨rfl, rfl⟩)
    go_ret
    exact ⟨rfl, below_alloc (below_alloc (Below.refl _ w) _) _⟩

/-! ### a walk's block -/
abbrev wkc (A : Option Addr) (n c p : Nat) : Array Value := #[.slice A n c, .int .i64 p]
set_option maxHeartbeats 1000000 in
theorem over_any (g : Nat) (A : Option Addr) (n c p : Nat) (w : World) (hV : Var w g (wkc A n c p) 138) (hn : n ≤ 1000000000) :
    Calls Try.prog 98 #[.pointer (some ⟨g, 0, none⟩)] w fun e w' => e = .returned (.bool (decide (p = 2 * n))) ∧ Below w.heap.size w w' := by
  obtain ⟨c0, c1, -⟩ := hV.read2
  have hm : IntKind.i64.wrap (2 * (n : Int)) = 2 * (n : Int) := IntWalk.i64_in _ (by omega)
  by_cases h : p = 2 * n
  · subst h
    rw [decide_eq_true rfl]
    go_enter Try.func98, Try.ntmps98
    go_wp2_with fail
    go_quiet (fail)
    go_wp2_with fail
    go_ret
    exact ⟨rfl, below_drewN (Below.refl _ w) _⟩
  · rw [decide_eq_false h]
    have h' : ((p : Int) == 2 * (n : Int)) = false := by simpa using by omega
    clear h
    go_enter Try.func98, Try.ntmps98
    go_wp2_with fail
    go_quiet (fail)
    go_wp2_with fail
    go_ret
    exact ⟨rfl, below_drewN (Below.refl _ w) _⟩
theorem inside_any (g : Nat) (A : Option Addr) (n c p : Nat) (w : World) (hV : Var w g (wkc A n c p) 138) (hp : p ≤ 4000000000) :
    Calls Try.prog 102 #[.pointer (some ⟨g, 0, none⟩)] w fun e w' => e = .returned (.bool (odd p)) ∧ w = w' := by
  obtain ⟨c0, c1, -⟩ := hV.read2
  by_cases h : p % 2 = 1
  · rw [show odd p = true from decide_eq_true h]
    have h' : ((p : Int) % 2 == 1) = true := by simpa using by omega
    clear h
    go_enter Try.func102, Try.ntmps102
    go_wp2_with fail
    go_ret
    exact ⟨rfl, rfl⟩
  · rw [show odd p = false from decide_eq_false h]
    have h' : ((p : Int) % 2 == 1) = false := by simpa using by omega
    clear h
    go_enter Try.func102, Try.ntmps102
    go_wp2_with fail
    go_ret
    exact ⟨rfl, rfl⟩

theorem ret_pt {fn : Func} {p : Tmp} {R : Ending → World → Prop} {tmps : Array Value} {w : World} {B : Nat} {s : P2} (h : fn.results = #[.cell p 40]) (hp : tmps.getD p undef = .pointer (some ⟨B, 0, none⟩))
    (hV : Var w B (pcel s) 40) (hR : R (.returned (ptv s)) w) : bodyPost Try.prog fn R .ret ⟨tmps, []⟩ w :=
  bodyPost_ret (v := ptv s) (by
    show (results fn tmps).run _ w = _
    obtain ⟨c0, c1, -⟩ := hV.read2
    have e : (loadVar 40 ⟨B, 0, none⟩).run Try.prog w = .ok (ptv s) w := by simp [go_sem, *]
    have hp' := hp
    rw [Array.getD_eq_getD_getElem?] at hp'
    simp [results, h, hp', asAddr, e]) rfl hR
set_option maxHeartbeats 1000000 in
theorem next_over (g : Nat) (A : Option Addr) (n c p : Nat) (w : World) (hV : Var w g (wkc A n c p) 138) (hn : n ≤ 1000000000) (hp : p = 2 * n) :
    Calls Try.prog 99 #[.pointer (some ⟨g, 0, none⟩)] w fun e w' => e = .returned (ptv ⟨0, 8192⟩) ∧ Below w.heap.size w w' := by
  have HP := hid hp
  clear hp
  have HV := hid (hV.alloc (.cells #[.int .i64 0, .int .i64 0] 40))
  have HB0 := hid (below_alloc (Below.refl _ w) (.cells #[.int .i64 0, .int .i64 0] 40))
  have HR := hid (Var.new w #[.int .i64 0, .int .i64 0] 40 _ rfl)
  clear hV
  go_enter Try.func99, Try.ntmps99
  go_wp2_with fail
  generalize w.alloc _ = W at HV HB0 HR
  (with_reducible refine (over_any g A n c p _ HV.out hn).mono ?_); rintro e w1 ⟨rfl, hb⟩
  rw [decide_eq_true HP.out]
  have HB1 := hid (below_next HB0.out hb)
  have HR1 := hid (HR.out.next hb)
  have hlt := hid HR1.out.lt
  obtain ⟨q0, q1, qf⟩ := HR1.out.read2
  clear hb HV HB0 HR
  go_wp2_with fail
  refine ret_pt (s := ⟨0, 8192⟩) Try.results99 rfl (((HR1.out.set (i := 0) _).set (i := 1) _)) ⟨rfl, ?_⟩
  exact (HB1.out.setCell (p := ⟨w.heap.size, 0, none⟩) (Nat.le_refl _) _).setCell (p := ⟨w.heap.size, 1, none⟩) (Nat.le_refl _) _
set_option maxHeartbeats 2000000 in
theorem next_edge (g : Nat) (a : Addr) (ss : List Rn) (n c p : Nat) (w : World) (hV : Var w g (wkc (some a) n c p) 138) (hn : n ≤ 1000000000) (hl : n = ss.length) (hp : p < 2 * n) (hs : Runs w (some a) ss) :
    Calls Try.prog 99 #[.pointer (some ⟨g, 0, none⟩)] w fun e w' => e = .returned (ptv (edge ss p)) ∧ Below w.heap.size w w' := by
  have HN := hid hl
  clear hl
  have HV := hid (hV.alloc (.cells #[.int .i64 0, .int .i64 0] 40))
  have HB0 := hid (below_alloc (Below.refl _ w) (.cells #[.int .i64 0, .int .i64 0] 40))
  have HR := hid (Var.new w #[.int .i64 0, .int .i64 0] 40 _ rfl)
  have HS := hid (hs.next ((Below.refl w.heap.size w).alloc (Nat.le_refl _) (.cells #[.int .i64 0, .int .i64 0] 40)))
  clear hV hs
  go_enter Try.func99, Try.ntmps99
  go_wp2_with fail
  generalize w.alloc _ = W at HV HB0 HR HS
  (with_reducible refine (over_any g (some a) n c p _ HV.out hn).mono ?_); rintro e w1 ⟨rfl, hb⟩
  rw [decide_eq_false (show ¬ p = 2 * n by omega)]
  have HB1 := hid (below_next HB0.out hb)
  have HR1 := hid (HR.out.next hb)
  have HV1 := hid (HV.out.next hb)
  have hlen : p / 2 < ss.length := by have := HN.out; omega
  obtain ⟨a', ha, hal', hsa⟩ := (HS.out.next hb).at_ hlen
  cases ha
  have hal : (a.add ((p / 2) * 3)).block < w1.heap.size := by rw [add_block]; exact hal'
  have HA := hid hsa
  have HE : Hid (edge ss p = if p % 2 = 1 then ⟨ss[p / 2].b, ss[p / 2].y⟩ else ⟨ss[p / 2].a, ss[p / 2].y⟩) := hid (by unfold edge; rw [List.getElem?_eq_getElem hlen])
  have hb1 : w.heap.size ≤ w1.heap.size := HB1.out.size
  have hg1 : g ≠ w1.heap.size := by have := HV1.out.lt; omega
  have hr1 : w.heap.size ≠ w1.heap.size := by have := HR1.out.lt; omega
  clear hb HV HB0 HR HS hsa hal'
  generalize ss[p / 2] = r at HA HE
  have EXB := hid (F2.ex_below (B := w1.heap.size) (w := w1) (a := w1.drew) (b := w1.drew.alloc (.cells #[.int .i64 0, .int .i64 0, .int .i64 0] 47)) (c := w1) (Below.refl _ w1).drew ((Below.refl _ w1).drew.alloc (Nat.le_refl _) _) (Below.refl _ w1))
  go_upto_region 3 with fail
  rename_i Kn hKn
  refine F2.wp_region_fan 12 [11] (F2.Ex (F2.w3 w1.drew (w1.drew.alloc (.cells #[.int .i64 0, .int .i64 0, .int .i64 0] 47)) w1)) (by kernel_rfl) (by kernel_rfl) (by kernel_rfl) rfl ?_
  simp only [List.take_succ_cons, List.take_zero, List.drop_succ_cons, List.drop_zero]
  refine F2.WalksE.sound _ _ _ _ ?_ ((((((Is.start _ (n := 30) rfl).pin 0 (v := .pointer (some (⟨g, 0, none⟩))) rfl).pin 1 (v := undef) rfl).pin 2 (v := .pointer (some (⟨w.heap.size, 0, none⟩))) rfl).pin 4 (v := .pointer (some (⟨g, 0, none⟩))) rfl).pin 5 (v := .bool false) rfl)
  generalize (fun i => Array.getD _ i undef) = g0
  refine F2.walks_with fun KQ hKQ => ?_
  (refine F2.walks_one fun K hK => ?_); refine F2.st_pure (v := .pointer (some (⟨g, 0, none⟩))) rfl rfl (fun _ => rfl) ?_; refine hK _ ?_; clear hK K
  (refine F2.walks_one fun K hK => ?_); refine F2.st_pure (v := .pointer (some (⟨g, 0, none⟩))) rfl rfl (fun _ => run_nil rfl) ?_; refine hK _ ?_; clear hK K
  (refine F2.walks_one fun K hK => ?_); refine F2.st_pure (v := .pointer (some (⟨g, 0, none⟩))) rfl rfl (fun _ => run_fldW0 (a := ⟨g, 0, none⟩) rfl) ?_; refine hK _ ?_; clear hK K
  (refine F2.walks_one fun K hK => ?_); refine F2.st_read (v := .slice (some a) n c) rfl rfl (fun b w h => run_loadSl rfl (((HV1.out.next (EXB.out b w h))).cell 0)) ?_; refine hK _ ?_; clear hK K
  (refine F2.walks_one fun K hK => ?_); refine F2.st_pure (v := .pointer (some (⟨g, 0, none⟩))) rfl rfl (fun _ => rfl) ?_; refine hK _ ?_; clear hK K
  (refine F2.walks_one fun K hK => ?_); refine F2.st_pure (v := .pointer (some (⟨g, 0, none⟩))) rfl rfl (fun _ => run_nil rfl) ?_; refine hK _ ?_; clear hK K
  (refine F2.walks_one fun K hK => ?_); refine F2.st_pure (v := .pointer (some (⟨g, 1, none⟩))) rfl rfl (fun _ => run_fldW1 (a := ⟨g, 0, none⟩) rfl) ?_; refine hK _ ?_; clear hK K
  (refine F2.walks_one fun K hK => ?_); refine F2.st_read (v := .int .i64 ↑p) rfl rfl (fun b w h => run_loadInt rfl (((HV1.out.next (EXB.out b w h))).cell 1)) ?_; refine hK _ ?_; clear hK K
  (refine F2.walks_one fun K hK => ?_); refine F2.st_pure (v := .int .i64 (↑(p / 2))) rfl rfl (fun _ => run_quo2 rfl rfl (by omega)) ?_; refine hK _ ?_; clear hK K
  (refine F2.walks_one fun K hK => ?_); refine F2.st_pure (v := .pointer (some (a.add ((p / 2) * 3)))) rfl rfl (fun _ => (run_index rfl rfl (by omega) (by omega)).trans (by rw [Int.toNat_natCast])) ?_; refine hK _ ?_; clear hK K
  (refine F2.walks_one fun K hK => ?_); refine F2.st_read (v := rn r) rfl rfl (fun b w h => run_loadRn rfl (HA.out.below (EXB.out b w h) hal)) ?_; refine hK _ ?_; clear hK K
  (refine F2.walks_one fun K hK => ?_); refine F2.st_turn (v := .pointer (some ⟨w1.heap.size, 0, none⟩)) 0 rfl (by decide) rfl (fun w h => ⟨_, (by cases h; exact run_allocRn), rfl⟩) ?_; refine hK _ ?_; clear hK K
  refine F2.walks_end fun a9 ha9 => hKQ _ fun w2 hC => ?_
  have hw2 : w2 = w1.drew.alloc (.cells #[.int .i64 0, .int .i64 0, .int .i64 0] 47) := hC
  subst hw2
  have HN3 := hid (Var.new w1.drew #[.int .i64 0, .int .i64 0, .int .i64 0] 47 w1.heap.size rfl)
  refine sq_skip ha9 (run_storeRn (s := r) rfl rfl HN3.out) fun a10 ha10 => ?_
  refine wpList_nil ?_
  refine hKn _ _ ?_
  have HG := hid (show Var _ w1.heap.size (cel r) 47 from ((HN3.out.set (i := 0) _).set (i := 1) _).set (i := 2) _)
  have HB4 := hid (show Below w.heap.size w _ from ((((below_alloc (HB1.out.drew) (.cells #[.int .i64 0, .int .i64 0, .int .i64 0] 47)).setCell (p := ⟨w1.heap.size, 0, none⟩) hb1 (.int .i64 r.y)).setCell (p := ⟨w1.heap.size, 1, none⟩) hb1 (.int .i64 r.a)).setCell (p := ⟨w1.heap.size, 2, none⟩) hb1 (.int .i64 r.b)))
  have HV4 := hid (show Var _ g (wkc (some a) n c p) 138 from (((HV1.out.drew.alloc (.cells #[.int .i64 0, .int .i64 0, .int .i64 0] 47)).far (p := ⟨w1.heap.size, 0, none⟩) hg1 (.int .i64 r.y)).far (p := ⟨w1.heap.size, 1, none⟩) hg1 (.int .i64 r.a)).far (p := ⟨w1.heap.size, 2, none⟩) hg1 (.int .i64 r.b))
  have HR4 := hid (show Var _ w.heap.size #[.int .i64 0, .int .i64 0] 40 from (((HR1.out.drew.alloc (.cells #[.int .i64 0, .int .i64 0, .int .i64 0] 47)).far (p := ⟨w1.heap.size, 0, none⟩) hr1 (.int .i64 r.y)).far (p := ⟨w1.heap.size, 1, none⟩) hr1 (.int .i64 r.a)).far (p := ⟨w1.heap.size, 2, none⟩) hr1 (.int .i64 r.b))
  obtain ⟨g9, hg9, k0, k1, k2, k3, k4, k5⟩ : ∃ g9, Is a10 30 g9 ∧ g9 0 = .pointer (some (⟨g, 0, none⟩)) ∧ g9 1 = undef ∧ g9 2 = .pointer (some (⟨w.heap.size, 0, none⟩)) ∧ g9 3 = .pointer (some (⟨w1.heap.size, 0, none⟩)) ∧ g9 4 = .pointer (some (⟨g, 0, none⟩)) ∧ g9 5 = .bool false := ⟨_, ha10, rfl, rfl, rfl, rfl, rfl, rfl⟩
  have hw := hg9.whole
  rw [show ((List.range 30).map g9).toArray = #[g9 0, g9 1, g9 2, g9 3, g9 4, g9 5, g9 6, g9 7, g9 8, g9 9, g9 10, g9 11, g9 12, g9 13, g9 14, g9 15, g9 16, g9 17, g9 18, g9 19, g9 20, g9 21, g9 22, g9 23, g9 24, g9 25, g9 26, g9 27, g9 28, g9 29] from rfl] at hw
  rw [k0, k1, k2, k3, k4, k5] at hw
  subst hw
  clear hg9 k0 k1 k2 k3 k4 k5
  clear ha9 ha10 hKQ KQ hKn Kn
  have hlt4 := HR4.out.lt
  generalize World.setCell _ ⟨w1.heap.size, 2, none⟩ _ = W4 at HG HB4 HV4 HR4 hlt4 ⊢
  clear HV1 HB1 HR1 HA EXB hg1 hr1 hal hlen HN3
  go_wp2_with fail
  (with_reducible refine (inside_any g (some a) n c p _ HV4.out (by omega)).mono ?_); rintro e w5 ⟨rfl, rfl⟩
  obtain ⟨g0, g1, g2, gf⟩ := HG.out.read3
  obtain ⟨q0, q1, qf⟩ := HR4.out.read2
  by_cases ho : p % 2 = 1
  · rw [show odd p = true from decide_eq_true ho]
    have he := HE.out
    rw [if_pos ho] at he
    have HE1 := hid he
    clear he HE ho
    go_wp2_with fail
    refine ret_pt (s := ⟨r.b, r.y⟩) Try.results99 rfl ((HR4.out.set (i := 0) _).set (i := 1) _) ⟨by rw [HE1.out], ?_⟩
    exact (HB4.out.setCell (p := ⟨w.heap.size, 0, none⟩) (Nat.le_refl _) _).setCell (p := ⟨w.heap.size, 1, none⟩) (Nat.le_refl _) _
  · rw [show odd p = false from decide_eq_false ho]
    have he := HE.out
    rw [if_neg ho] at he
    have HE1 := hid he
    clear he HE ho
    go_wp2_with fail
    refine ret_pt (s := ⟨r.a, r.y⟩) Try.results99 rfl ((HR4.out.set (i := 0) _).set (i := 1) _) ⟨by rw [HE1.out], ?_⟩
    exact (HB4.out.setCell (p := ⟨w.heap.size, 0, none⟩) (Nat.le_refl _) _).setCell (p := ⟨w.heap.size, 1, none⟩) (Nat.le_refl _) _

end Go.Proofs.Ytijkoaggcmgjiaa
