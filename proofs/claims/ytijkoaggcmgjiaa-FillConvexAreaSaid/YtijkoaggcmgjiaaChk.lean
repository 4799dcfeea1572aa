/- What Check of package region returns. -/
import Derived.Test.YtijkoaggcmgjiaaStepB
import Derived.Test.YtijkoaggcmgjiaaSeq
import Derived.Test.YtijkoaggcmgjiaaPure
namespace Go.Proofs.Ytijkoaggcmgjiaa
open Go Go.RowKit
set_option linter.unusedVariables false

theorem enters_behind : Enters Try.prog 105 := enters_of Try.func105 (by kernel_rfl) rfl
theorem perm_t (n : Int) (w : World) (h : -8192 ≤ n ∧ n ≤ 8191) : Calls Try.prog 104 #[.int .i64 n] w fun e w' => e = .returned (.bool true) ∧ w = w' := inB_yes h ▸ perm_any n w
theorem perm_f (n : Int) (w : World) (h : ¬ (-8192 ≤ n ∧ n ≤ 8191)) : Calls Try.prog 104 #[.int .i64 n] w fun e w' => e = .returned (.bool false) ∧ w = w' := inB_no h ▸ perm_any n w
/-- Bounds in a literal's block, behind all else. -/
theorem bnds2 (a b : Int) (W : World) (n : Nat) (hn : n = W.heap.size) (r : Bool) (hr : bnds [a, b] = r) :
    Calls Try.prog 95 #[.slice (some ⟨n, 0, none⟩) 2 2] (W.alloc (.cells #[.int .i64 a, .int .i64 b] 3)) fun e w' => e = .returned (.bool r) ∧ Below W.heap.size W w' := by
  subst hr
  refine (bnds_any [a, b] n 0 2 2 _ rfl (by decide) (Var.new W _ 3 n hn).lies2).mono ?_
  rintro e w' ⟨rfl, rfl⟩
  exact ⟨rfl, below_alloc (Below.refl _ W) _⟩
theorem bnds2_iff {a b : Int} : bnds [a, b] = true ↔ (-8192 ≤ a ∧ a ≤ 8192) ∧ (-8192 ≤ b ∧ b ≤ 8192) := by
  simp [bnds, inB]

theorem oper_val {P : Program} {o : Oper} {a : Act} {w w' : World} {v : Value} {K : Act → World → Prop} {Q : Exit → Act → World → Prop} (h : (execOp a.eval o).run P w = .ok (.value v) w') (hk : K (a.put o.dst v) w') : o.wp P a w K Q := by
  unfold Oper.wp
  rw [h]
  exact hk
theorem run_litInts {ρ : Operand → Value} {dst : Option Tmp} {ty : TypeId} {pos : String} {af : Array Edge} {x y : Operand} {w : World} {gd : Option (Nat × Bool)} {i j : Int} (hx : ρ x = .int .i64 i) (hy : ρ y = .int .i64 j) :
    (execOp ρ { dst := dst, op := .buildSlice 128 2 #[(0, x), (1, y)], type := ty, pos := pos, after := af, guard := gd }).run Try.prog w = .ok (.value (.slice (some ⟨w.heap.size, 0, none⟩) 2 2)) (w.alloc (.cells #[.int .i64 i, .int .i64 j] 3)) := by
  go_simp

set_option maxHeartbeats 4000000 in
set_option maxRecDepth 100000 in
theorem check_any (A : Option Addr) (ss : List Rn) (n c : Nat) (w : World) (hn : n = ss.length) (hl : n ≤ maxLen) (hs : Runs w A ss) :
    Calls Try.prog 61 #[.slice A n c] w fun e w' => e = .returned (.int .i64 (chk ss)) ∧ Below w.heap.size w w' := by
  have HS := hid hs
  have HN := hid hn
  unfold maxLen at hl
  clear hs hn
  go_enter Try.func61, Try.ntmps61
  go_wp2_with fail
  go_loopw [7] (fun s7 wr => ∃ (j : Nat), j ≤ n ∧ s7 = .int .i64 j ∧ Hid (chk ss = chkAll (pre ss j) (ss.drop j)) ∧ Hid (Below w.heap.size w wr)) (fun s7 _ => n - (intOf s7).toNat)
  case atStart => exact ⟨0, Nat.zero_le _, rfl, hid rfl, hid (Below.refl _ w)⟩
  case round =>
    obtain ⟨j, hj, rfl, HC, HB⟩ := hrel
    by_cases hlt : j < n
    · have hjl : j < ss.length := by rw [← HN.out]; exact hlt
      obtain ⟨a, rfl, hal, hsa⟩ := (HS.out.next HB.out).at_ hjl
      have HC' := hid (HC.out.trans (chkAll_at hjl))
      have HP : Hid (∀ k, j = k + 1 → ∃ q, pre ss j = some q ∧ RnAt wr (a.add (k * 3)) q) := hid (fun k hk => by
        subst hk
        obtain ⟨a', ha', -, hq⟩ := (HS.out.next HB.out).at_ (i := k) (by omega)
        cases ha'
        exact ⟨ss[k]'(by omega), List.getElem?_eq_getElem (by omega), hq⟩)
      generalize ss[j] = g at hsa HC'
      obtain ⟨c0, c1, c2⟩ := hsa
      have HW0 := hid (Var.new wr (cel g) 47 _ rfl)
      have HB0 := hid (below_alloc HB.out (.cells (cel g) 47))
      clear HC
      obtain ⟨W0, hW0⟩ : ∃ W0, W0 = wr.alloc (.cells (cel g) 47) := ⟨_, rfl⟩
      by_cases h0 : -8192 ≤ g.y ∧ g.y ≤ 8191
      · by_cases h1 : (-8192 ≤ g.a ∧ g.a ≤ 8192) ∧ (-8192 ≤ g.b ∧ g.b ≤ 8192)
        · go_wp2_with (go_at_call 104; (with_reducible refine (perm_t _ _ (by assumption)).mono ?_); rintro e w' ⟨rfl, rfl⟩)
          rw [← hW0]
          have hWs : wr.heap.size + 1 = W0.heap.size := by rw [hW0]; simp
          (with_reducible refine (bnds2 g.a g.b W0 _ hWs true (bnds2_iff.2 h1)).mono ?_); rintro x0 W ⟨rfl, hb⟩
          clear hWs
          rw [← hW0] at HW0 HB0
          have HW := hid (HW0.out.next hb)
          have HB1 := hid (below_next HB0.out hb)
          obtain ⟨p0, p1, p2, pf⟩ := HW.out.read3
          by_cases h3 : g.b ≤ g.a
          · have he : chkRn (pre ss j) g = 4 := by unfold chkRn; rw [if_neg (fun k => k ⟨h0, h1⟩), if_pos h3]
            rw [if_neg (by rw [he]; decide), he] at HC'
            go_wp2_with fail
            go_ret
            exact ⟨congrArg (fun z => Ending.returned (Value.int .i64 z)) HC'.out.symm, HB1.out⟩
          · by_cases hz : 0 < j
            · obtain ⟨m, hm⟩ : ∃ m, j = m + 1 := ⟨j - 1, by omega⟩
              obtain ⟨q, hq, hqa⟩ := HP.out m hm
              have hm1 : m + 1 ≤ j ∧ j ≤ m + 1 := by omega
              clear hm
              rw [hq] at HC'
              have HQ := hid ((hqa.below ((Below.refl wr.heap.size wr).alloc (Nat.le_refl _) (.cells (cel g) 47)) (by rw [add_block]; exact hal)))
              rw [← hW0] at HQ
              have hQ0 : (a.add (m * 3)).block < W0.heap.size := by rw [add_block, hW0]; show _ < (wr.heap.push _).size; simp; omega
              have hQl : (a.add (m * 3)).block < W.heap.size := Nat.lt_of_lt_of_le hQ0 hb.size
              replace HQ := hid (HQ.out.below hb hQ0)
              have hmn : m < n := by omega
              clear HP hq hqa hW0 hQ0 hb
              by_cases hbh : Bh g q
              · have hbt : behind g q = true := decide_eq_true hbh
                have he : chkRn (some q) g = 0 := by unfold chkRn; rw [if_neg (fun k => k ⟨h0, h1⟩), if_neg h3, if_neg (fun k => k hbh)]
                rw [if_pos he] at HC'
                go_upto_region 8 with fail
                rename_i Kn hKn
                refine F2.wp_region_fan 11 [] (Ov W) (by kernel_rfl) (by kernel_rfl) (by kernel_rfl) (Ov.start W) ?_
                simp only [List.take_succ_cons, List.take_zero, List.drop_succ_cons, List.drop_zero]
                refine F2.WalksE.sound _ _ _ _ ?_ ((((((((Is.start _ (n := 43) rfl).pin 0 (v := .slice (some a) n c) rfl).pin 1 (v := undef) rfl).pin 3 (v := .int .i64 j) rfl).pin 4 (v := .pointer (some (⟨wr.heap.size, 0, none⟩))) rfl).pin 5 (v := .slice (some a) n c) rfl).pin 6 (v := .int .i64 n) rfl).pin 7 (v := .int .i64 j) rfl)
                generalize (fun i => Array.getD _ i undef) = g0
                refine F2.walks_with fun KQ hKQ => ?_
                (refine F2.walks_one fun K hK => ?_); refine F2.st_pure (v := .int .i64 j) rfl rfl (fun _ => rfl) ?_; refine hK _ ?_; clear hK K
                (refine F2.walks_one fun K hK => ?_); refine F2.st_pure (v := .bool true) rfl rfl (fun _ => (run_gtr rfl rfl).trans (dec_t (by omega))) ?_; refine hK _ ?_; clear hK K
                (refine F2.walks_one fun K hK => ?_); refine F2.st_pure (v := .bool true) rfl rfl (fun _ => rfl) ?_; refine hK _ ?_; clear hK K
                (refine F2.walks_one fun K hK => ?_); refine F2.st_read (v := rn g) rfl rfl (fun b w h => run_loadRn rfl (HW.out.next h).rnAt) ?_; refine hK _ ?_; clear hK K
                (refine F2.walks_one fun K hK => ?_); refine F2.st_pure (v := .slice (some a) n c) rfl rfl (fun _ => rfl) ?_; refine hK _ ?_; clear hK K
                (refine F2.walks_one fun K hK => ?_); refine F2.st_pure (v := .int .i64 j) rfl rfl (fun _ => rfl) ?_; refine hK _ ?_; clear hK K
                (refine F2.walks_one fun K hK => ?_); refine F2.st_pure (v := .int .i64 ↑m) rfl rfl (fun _ => (run_sub rfl rfl (by unfold Rg; omega)).trans (int_is (by omega))) ?_; refine hK _ ?_; clear hK K
                (refine F2.walks_one fun K hK => ?_); refine F2.st_pure (v := .pointer (some (a.add (m * 3)))) rfl rfl (fun _ => (run_index rfl rfl (by omega) (by omega)).trans (by simp)) ?_; refine hK _ ?_; clear hK K
                (refine F2.walks_one fun K hK => ?_); refine F2.st_read (v := rn q) rfl rfl (fun b w h => run_loadRn rfl (HQ.out.below h hQl)) ?_; refine hK _ ?_; clear hK K
                (refine F2.walks_one fun K hK => ?_); refine F2.st_call (r := .bool true) rfl rfl (fun _ => run_call2 rfl enters_behind) (fun b w h => (behind_any g q w).mono fun e w1 k => ⟨k.1.trans (by rw [hbt]), h.next k.2⟩) ?_; refine hK _ ?_; clear hK K
                (refine F2.walks_one fun K hK => ?_); refine F2.st_pure (v := .bool false) rfl rfl (fun _ => run_not (b := true) rfl) ?_; refine hK _ ?_; clear hK K
                refine F2.walks_end fun a9 ha9 => hKQ _ fun w1 hC => ?_
                refine sq_val (v := .bool false) ha9 rfl (run_pick (b := true) rfl) fun a10 ha10 => ?_
                refine wpList_nil ?_
                refine hKn _ _ ?_
                obtain ⟨g9, hg9, k0, k1, k3, k4, k5, k6, k7, k41⟩ : ∃ g9, Is a10 43 g9 ∧ g9 0 = .slice (some a) n c ∧ g9 1 = undef ∧ g9 3 = .int .i64 j ∧ g9 4 = .pointer (some (⟨wr.heap.size, 0, none⟩)) ∧ g9 5 = .slice (some a) n c ∧ g9 6 = .int .i64 n ∧ g9 7 = .int .i64 j ∧ g9 41 = .bool false := ⟨_, ha10, rfl, rfl, rfl, rfl, rfl, rfl, rfl, rfl⟩
                have hw := hg9.whole
                rw [show ((List.range 43).map g9).toArray = #[g9 0, g9 1, g9 2, g9 3, g9 4, g9 5, g9 6, g9 7, g9 8, g9 9, g9 10, g9 11, g9 12, g9 13, g9 14, g9 15, g9 16, g9 17, g9 18, g9 19, g9 20, g9 21, g9 22, g9 23, g9 24, g9 25, g9 26, g9 27, g9 28, g9 29, g9 30, g9 31, g9 32, g9 33, g9 34, g9 35, g9 36, g9 37, g9 38, g9 39, g9 40, g9 41, g9 42] from rfl] at hw
                rw [k0, k1, k3, k4, k5, k6, k7, k41] at hw
                subst hw
                clear hg9 k0 k1 k3 k4 k5 k6 k7 k41
                have HB2 := hid (below_next HB1.out hC)
                clear ha9 ha10 hC hKQ KQ hKn Kn
                go_wp2_with fail
                go_roundw
                case rel => exact ⟨j + 1, by omega, by go_num, HC', HB2⟩
                case measure => simp [intOf]; omega
              · have hbt : behind g q = false := decide_eq_false hbh
                have he : chkRn (some q) g = 18 := by unfold chkRn; rw [if_neg (fun k => k ⟨h0, h1⟩), if_neg h3, if_pos (show ¬ okB (some q) g from hbh)]
                rw [if_neg (by rw [he]; decide), he] at HC'
                go_upto_region 8 with fail
                rename_i Kn hKn
                refine F2.wp_region_fan 11 [] (Ov W) (by kernel_rfl) (by kernel_rfl) (by kernel_rfl) (Ov.start W) ?_
                simp only [List.take_succ_cons, List.take_zero, List.drop_succ_cons, List.drop_zero]
                refine F2.WalksE.sound _ _ _ _ ?_ ((((((((Is.start _ (n := 43) rfl).pin 0 (v := .slice (some a) n c) rfl).pin 1 (v := undef) rfl).pin 3 (v := .int .i64 j) rfl).pin 4 (v := .pointer (some (⟨wr.heap.size, 0, none⟩))) rfl).pin 5 (v := .slice (some a) n c) rfl).pin 6 (v := .int .i64 n) rfl).pin 7 (v := .int .i64 j) rfl)
                generalize (fun i => Array.getD _ i undef) = g0
                refine F2.walks_with fun KQ hKQ => ?_
                (refine F2.walks_one fun K hK => ?_); refine F2.st_pure (v := .int .i64 j) rfl rfl (fun _ => rfl) ?_; refine hK _ ?_; clear hK K
                (refine F2.walks_one fun K hK => ?_); refine F2.st_pure (v := .bool true) rfl rfl (fun _ => (run_gtr rfl rfl).trans (dec_t (by omega))) ?_; refine hK _ ?_; clear hK K
                (refine F2.walks_one fun K hK => ?_); refine F2.st_pure (v := .bool true) rfl rfl (fun _ => rfl) ?_; refine hK _ ?_; clear hK K
                (refine F2.walks_one fun K hK => ?_); refine F2.st_read (v := rn g) rfl rfl (fun b w h => run_loadRn rfl (HW.out.next h).rnAt) ?_; refine hK _ ?_; clear hK K
                (refine F2.walks_one fun K hK => ?_); refine F2.st_pure (v := .slice (some a) n c) rfl rfl (fun _ => rfl) ?_; refine hK _ ?_; clear hK K
                (refine F2.walks_one fun K hK => ?_); refine F2.st_pure (v := .int .i64 j) rfl rfl (fun _ => rfl) ?_; refine hK _ ?_; clear hK K
                (refine F2.walks_one fun K hK => ?_); refine F2.st_pure (v := .int .i64 ↑m) rfl rfl (fun _ => (run_sub rfl rfl (by unfold Rg; omega)).trans (int_is (by omega))) ?_; refine hK _ ?_; clear hK K
                (refine F2.walks_one fun K hK => ?_); refine F2.st_pure (v := .pointer (some (a.add (m * 3)))) rfl rfl (fun _ => (run_index rfl rfl (by omega) (by omega)).trans (by simp)) ?_; refine hK _ ?_; clear hK K
                (refine F2.walks_one fun K hK => ?_); refine F2.st_read (v := rn q) rfl rfl (fun b w h => run_loadRn rfl (HQ.out.below h hQl)) ?_; refine hK _ ?_; clear hK K
                (refine F2.walks_one fun K hK => ?_); refine F2.st_call (r := .bool false) rfl rfl (fun _ => run_call2 rfl enters_behind) (fun b w h => (behind_any g q w).mono fun e w1 k => ⟨k.1.trans (by rw [hbt]), h.next k.2⟩) ?_; refine hK _ ?_; clear hK K
                (refine F2.walks_one fun K hK => ?_); refine F2.st_pure (v := .bool true) rfl rfl (fun _ => run_not (b := false) rfl) ?_; refine hK _ ?_; clear hK K
                refine F2.walks_end fun a9 ha9 => hKQ _ fun w1 hC => ?_
                refine sq_val (v := .bool true) ha9 rfl (run_pick (b := true) rfl) fun a10 ha10 => ?_
                refine wpList_nil ?_
                refine hKn _ _ ?_
                obtain ⟨g9, hg9, k0, k1, k3, k4, k5, k6, k7, k41⟩ : ∃ g9, Is a10 43 g9 ∧ g9 0 = .slice (some a) n c ∧ g9 1 = undef ∧ g9 3 = .int .i64 j ∧ g9 4 = .pointer (some (⟨wr.heap.size, 0, none⟩)) ∧ g9 5 = .slice (some a) n c ∧ g9 6 = .int .i64 n ∧ g9 7 = .int .i64 j ∧ g9 41 = .bool true := ⟨_, ha10, rfl, rfl, rfl, rfl, rfl, rfl, rfl, rfl⟩
                have hw := hg9.whole
                rw [show ((List.range 43).map g9).toArray = #[g9 0, g9 1, g9 2, g9 3, g9 4, g9 5, g9 6, g9 7, g9 8, g9 9, g9 10, g9 11, g9 12, g9 13, g9 14, g9 15, g9 16, g9 17, g9 18, g9 19, g9 20, g9 21, g9 22, g9 23, g9 24, g9 25, g9 26, g9 27, g9 28, g9 29, g9 30, g9 31, g9 32, g9 33, g9 34, g9 35, g9 36, g9 37, g9 38, g9 39, g9 40, g9 41, g9 42] from rfl] at hw
                rw [k0, k1, k3, k4, k5, k6, k7, k41] at hw
                subst hw
                clear hg9 k0 k1 k3 k4 k5 k6 k7 k41
                have HB2 := hid (below_next HB1.out hC)
                clear ha9 ha10 hC hKQ KQ hKn Kn
                go_wp2_with fail
                go_ret
                exact ⟨congrArg (fun z => Ending.returned (Value.int .i64 z)) HC'.out.symm, HB2.out⟩
            · have he : chkRn (pre ss j) g = 0 := by
                have hz0 : j = 0 := by omega
                subst hz0
                unfold chkRn
                rw [if_neg (fun k => k ⟨h0, h1⟩), if_neg h3]; rfl
              rw [if_pos he] at HC'
              have hz1 : ¬ 0 < j := hz
              clear HP hb hW0
              go_upto_region 8 with fail
              rename_i Kn hKn
              refine F2.wp_region_fan 11 [] (Ov W) (by kernel_rfl) (by kernel_rfl) (by kernel_rfl) (Ov.start W) ?_
              simp only [List.take_succ_cons, List.take_zero, List.drop_succ_cons, List.drop_zero]
              refine F2.WalksE.sound _ _ _ _ ?_ ((((((((Is.start _ (n := 43) rfl).pin 0 (v := .slice (some a) n c) rfl).pin 1 (v := undef) rfl).pin 3 (v := .int .i64 j) rfl).pin 4 (v := .pointer (some (⟨wr.heap.size, 0, none⟩))) rfl).pin 5 (v := .slice (some a) n c) rfl).pin 6 (v := .int .i64 n) rfl).pin 7 (v := .int .i64 j) rfl)
              generalize (fun i => Array.getD _ i undef) = g0
              refine F2.walks_with fun KQ hKQ => ?_
              (refine F2.walks_one fun K hK => ?_); refine F2.st_pure (v := .int .i64 j) rfl rfl (fun _ => rfl) ?_; refine hK _ ?_; clear hK K
              (refine F2.walks_one fun K hK => ?_); refine F2.st_pure (v := .bool false) rfl rfl (fun _ => (run_gtr rfl rfl).trans (dec_f (by omega))) ?_; refine hK _ ?_; clear hK K
              (refine F2.walks_one fun K hK => ?_); refine F2.st_pure (v := .bool false) rfl rfl (fun _ => rfl) ?_; refine hK _ ?_; clear hK K
              (refine F2.walks_one fun K hK => ?_); refine F2.st_skip rfl rfl rfl ?_; refine hK _ ?_; clear hK K
              (refine F2.walks_one fun K hK => ?_); refine F2.st_skip rfl rfl rfl ?_; refine hK _ ?_; clear hK K
              (refine F2.walks_one fun K hK => ?_); refine F2.st_skip rfl rfl rfl ?_; refine hK _ ?_; clear hK K
              (refine F2.walks_one fun K hK => ?_); refine F2.st_skip rfl rfl rfl ?_; refine hK _ ?_; clear hK K
              (refine F2.walks_one fun K hK => ?_); refine F2.st_skip rfl rfl rfl ?_; refine hK _ ?_; clear hK K
              (refine F2.walks_one fun K hK => ?_); refine F2.st_skip rfl rfl rfl ?_; refine hK _ ?_; clear hK K
              (refine F2.walks_one fun K hK => ?_); refine F2.st_skip rfl rfl rfl ?_; refine hK _ ?_; clear hK K
              (refine F2.walks_one fun K hK => ?_); refine F2.st_skip rfl rfl rfl ?_; refine hK _ ?_; clear hK K
              refine F2.walks_end fun a9 ha9 => hKQ _ fun w1 hC => ?_
              refine sq_val (v := .bool false) ha9 rfl (run_pick (b := false) rfl) fun a10 ha10 => ?_
              refine wpList_nil ?_
              refine hKn _ _ ?_
              obtain ⟨g9, hg9, k0, k1, k3, k4, k5, k6, k7, k41⟩ : ∃ g9, Is a10 43 g9 ∧ g9 0 = .slice (some a) n c ∧ g9 1 = undef ∧ g9 3 = .int .i64 j ∧ g9 4 = .pointer (some (⟨wr.heap.size, 0, none⟩)) ∧ g9 5 = .slice (some a) n c ∧ g9 6 = .int .i64 n ∧ g9 7 = .int .i64 j ∧ g9 41 = .bool false := ⟨_, ha10, rfl, rfl, rfl, rfl, rfl, rfl, rfl, rfl⟩
              have hw := hg9.whole
              rw [show ((List.range 43).map g9).toArray = #[g9 0, g9 1, g9 2, g9 3, g9 4, g9 5, g9 6, g9 7, g9 8, g9 9, g9 10, g9 11, g9 12, g9 13, g9 14, g9 15, g9 16, g9 17, g9 18, g9 19, g9 20, g9 21, g9 22, g9 23, g9 24, g9 25, g9 26, g9 27, g9 28, g9 29, g9 30, g9 31, g9 32, g9 33, g9 34, g9 35, g9 36, g9 37, g9 38, g9 39, g9 40, g9 41, g9 42] from rfl] at hw
              rw [k0, k1, k3, k4, k5, k6, k7, k41] at hw
              subst hw
              clear hg9 k0 k1 k3 k4 k5 k6 k7 k41
              have HB2 := hid (below_next HB1.out hC)
              clear ha9 ha10 hC hKQ KQ hKn Kn
              go_wp2_with fail
              go_roundw
              case rel => exact ⟨j + 1, by omega, by go_num, HC', HB2⟩
              case measure => simp [intOf]; omega
        · have he : chkRn (pre ss j) g = 3 := by unfold chkRn; rw [if_pos (fun k => h1 k.2)]
          rw [if_neg (by rw [he]; decide), he] at HC'
          go_wp2_with (go_at_call 104; (with_reducible refine (perm_t _ _ (by assumption)).mono ?_); rintro e w' ⟨rfl, rfl⟩)
          rw [← hW0]
          have hWs : wr.heap.size + 1 = W0.heap.size := by rw [hW0]; simp
          (with_reducible refine (bnds2 g.a g.b W0 _ hWs false (by
            cases e : bnds [g.a, g.b]
            · rfl
            · exact absurd (bnds2_iff.1 e) h1)).mono ?_); rintro x0 W ⟨rfl, hb⟩
          clear hWs
          rw [← hW0] at HW0 HB0
          have HW := hid (HW0.out.next hb)
          have HB1 := hid (below_next HB0.out hb)
          obtain ⟨p0, p1, p2, pf⟩ := HW.out.read3
          go_wp2_with fail
          go_ret
          exact ⟨congrArg (fun z => Ending.returned (Value.int .i64 z)) HC'.out.symm, HB1.out⟩
      · have he : chkRn (pre ss j) g = 3 := by unfold chkRn; rw [if_pos (fun k => h0 k.1)]
        rw [if_neg (by rw [he]; decide), he] at HC'
        go_wp2_with (go_at_call 104; (with_reducible refine (perm_f _ _ (by assumption)).mono ?_); rintro e w' ⟨rfl, rfl⟩)
        go_ret
        exact ⟨congrArg (fun z => Ending.returned (Value.int .i64 z)) HC'.out.symm, HB0.out⟩
    · have hd : chkAll (pre ss j) (ss.drop j) = 0 := by rw [List.drop_eq_nil_of_le (by rw [← HN.out]; omega)]; rfl
      have HD := hid (HC.out.trans hd)
      clear hd HC
      go_wp2_with fail
      go_ret
      exact ⟨congrArg (fun z => Ending.returned (Value.int .i64 z)) HD.out.symm, HB.out⟩

end Go.Proofs.Ytijkoaggcmgjiaa
