/- What the reference's RegionCheck returns. -/
import Derived.Test.YtjehmjcalapaiaaStep
import Derived.Test.YtjehmjcalapaiaaPure
namespace Go.Proofs.Ytjehmjcalapaiaa
open Go Go.RowKit
set_option linter.unusedVariables false

theorem in_t (n lo hi : Int) (w : World) (h : lo ≤ n ∧ n ≤ hi) : Calls Try.prog 70 #[.int .i64 n, .int .i64 lo, .int .i64 hi] w fun e w' => e = .returned (.bool true) ∧ w = w' := inB_yes h ▸ in_any n lo hi w
theorem in_f (n lo hi : Int) (w : World) (h : ¬ (lo ≤ n ∧ n ≤ hi)) : Calls Try.prog 70 #[.int .i64 n, .int .i64 lo, .int .i64 hi] w fun e w' => e = .returned (.bool false) ∧ w = w' := inB_no h ▸ in_any n lo hi w

set_option maxHeartbeats 4000000 in
theorem rcheck_any (A : Option Addr) (ss : List Rn) (n c : Nat) (w : World) (hn : n = ss.length) (hl : n ≤ maxLen) (hs : Runs w A ss) :
    Calls Try.prog 40 #[.slice A n c] w fun e w' => e = .returned (.int .i64 (chk ss)) ∧ Below w.heap.size w w' := by
  have HS := hid hs
  have HN := hid hn
  unfold maxLen at hl
  clear hs hn
  go_enter Try.func40, Try.ntmps40
  go_wp2_with fail
  go_loopw [7] (fun s7 wr => ∃ (j : Nat), j ≤ n ∧ s7 = .int .i64 j ∧ Hid (chk ss = chkAll (pre ss j) (ss.drop j)) ∧ Hid (Below w.heap.size w wr)) (fun s7 _ => n - (intOf s7).toNat)
  case atStart => exact ⟨0, Nat.zero_le _, rfl, hid rfl, hid (Below.refl _ w)⟩
  case round =>
    obtain ⟨j, hj, rfl, HC, HB⟩ := hrel
    by_cases hlt : j < n
    · have hjl : j < ss.length := by rw [← HN.out]; exact hlt
      obtain ⟨a, rfl, hal, hsa⟩ := (HS.out.next HB.out).at_ hjl
      have HC' := hid (HC.out.trans (chkAll_at hjl))
      have HP : Hid (∀ k, j = k + 1 → ∃ q, pre ss j = some q ∧ RnAt wr (a.add (k * 3)) q) := hid (fun k hk => by
        subst hk
        obtain ⟨a', ha', -, hq⟩ := (HS.out.next HB.out).at_ (i := k) (by omega)
        cases ha'
        exact ⟨ss[k]'(by omega), List.getElem?_eq_getElem (by omega), hq⟩)
      generalize ss[j] = g at hsa HC'
      obtain ⟨c0, c1, c2⟩ := hsa
      have HW := hid (Var.new wr (cel g) 43 _ rfl)
      have HB1 := hid (below_alloc HB.out (.cells (cel g) 43))
      clear HC HB
      by_cases h0 : -8192 ≤ g.y ∧ g.y ≤ 8191
      · by_cases h1 : -8192 ≤ g.a ∧ g.a ≤ 8192
        · by_cases h2 : -8192 ≤ g.b ∧ g.b ≤ 8192
          · by_cases h3 : g.b ≤ g.a
            · have he : chkRn (pre ss j) g = 4 := by unfold chkRn; rw [if_neg (fun k => k ⟨h0, h1, h2⟩), if_pos h3]
              rw [if_neg (by rw [he]; decide), he] at HC'
              go_wp2_with (go_at_call 70; (with_reducible refine (in_t _ _ _ _ (by assumption)).mono ?_); rintro e w' ⟨rfl, rfl⟩)
              go_ret
              exact ⟨congrArg (fun z => Ending.returned (Value.int .i64 z)) HC'.out.symm, HB1.out⟩
            · by_cases hz : 0 < j
              · obtain ⟨m, hm⟩ : ∃ m, j = m + 1 := ⟨j - 1, by omega⟩
                obtain ⟨q, hq, hqa⟩ := HP.out m hm
                rw [hq] at HC'
                have hz1 : decide ((j : Int) > 0) = true := by simpa using hz
                have hqm : IntKind.i64.wrap ((j : Int) - 1) = (m : Int) := by rw [show ((j : Int) - 1) = (m : Int) by omega]; exact IntWalk.i64_in _ (by omega)
                have hmn : m < n := by omega
                clear HP hq hm
                obtain ⟨W, hW⟩ : ∃ W, W = wr.alloc (.cells (cel g) 43) := ⟨_, rfl⟩
                rw [← hW] at HW HB1
                obtain ⟨q0, q1, q2⟩ : RnAt W (a.add (m * 3)) q := by rw [hW]; exact hqa.below ((Below.refl wr.heap.size wr).alloc (Nat.le_refl _) _) (by rw [add_block]; exact hal)
                obtain ⟨p0, p1, p2, pf⟩ := HW.out.read3
                clear hqa
                by_cases k0 : q.y < g.y
                · have he : chkRn (some q) g = 0 := by unfold chkRn; rw [if_neg (fun k => k ⟨h0, h1, h2⟩), if_neg h3, if_neg (fun k => k (.inl k0))]
                  rw [if_pos he] at HC'
                  go_upto_region 9 with (go_at_call 70; (with_reducible refine (in_t _ _ _ _ (by assumption)).mono ?_); rintro e w' ⟨rfl, rfl⟩)
                  rw [← hW]
                  clear hW c0 c1 c2
                  go_quiet (fail)
                  go_wp2_with fail
                  go_roundw
                  case rel => exact ⟨j + 1, by omega, by go_num, HC', hid (below_drewN HB1.out _)⟩
                  case measure => simp [intOf]; omega
                · by_cases k1 : g.y = q.y
                  · by_cases k2 : q.b < g.a
                    · have he : chkRn (some q) g = 0 := by unfold chkRn; rw [if_neg (fun k => k ⟨h0, h1, h2⟩), if_neg h3, if_neg (fun k => k (.inr ⟨k1, k2⟩))]
                      rw [if_pos he] at HC'
                      clear k0
                      rw [← k1] at q0
                      clear k1
                      go_upto_region 9 with (go_at_call 70; (with_reducible refine (in_t _ _ _ _ (by assumption)).mono ?_); rintro e w' ⟨rfl, rfl⟩)
                      rw [← hW]
                      clear hW c0 c1 c2
                      go_quiet (fail)
                      go_wp2_with fail
                      go_roundw
                      case rel => exact ⟨j + 1, by omega, by go_num, HC', hid (below_drewN HB1.out _)⟩
                      case measure => simp [intOf]; omega
                    · have he : chkRn (some q) g = 18 := by unfold chkRn; rw [if_neg (fun k => k ⟨h0, h1, h2⟩), if_neg h3, if_pos (fun k => k.elim k0 (fun k => k2 k.2))]
                      rw [if_neg (by rw [he]; decide), he] at HC'
                      clear k0
                      rw [← k1] at q0
                      clear k1
                      have k2d : decide (g.a > q.b) = false := by simpa using k2
                      go_upto_region 9 with (go_at_call 70; (with_reducible refine (in_t _ _ _ _ (by assumption)).mono ?_); rintro e w' ⟨rfl, rfl⟩)
                      rw [← hW]
                      clear hW c0 c1 c2
                      go_quiet (fail)
                      go_wp2_with fail
                      go_ret
                      exact ⟨congrArg (fun z => Ending.returned (Value.int .i64 z)) HC'.out.symm, below_drewN HB1.out _⟩
                  · have he : chkRn (some q) g = 18 := by unfold chkRn; rw [if_neg (fun k => k ⟨h0, h1, h2⟩), if_neg h3, if_pos (fun k => k.elim k0 (fun k => k1 k.1))]
                    rw [if_neg (by rw [he]; decide), he] at HC'
                    have k0d : decide (g.y > q.y) = false := by simpa using k0
                    have k1d : (g.y == q.y) = false := by simpa using k1
                    go_upto_region 9 with (go_at_call 70; (with_reducible refine (in_t _ _ _ _ (by assumption)).mono ?_); rintro e w' ⟨rfl, rfl⟩)
                    rw [← hW]
                    clear hW c0 c1 c2
                    go_quiet (fail)
                    go_wp2_with fail
                    go_ret
                    exact ⟨congrArg (fun z => Ending.returned (Value.int .i64 z)) HC'.out.symm, below_drewN HB1.out _⟩
              · have he : chkRn (pre ss j) g = 0 := by
                  have hz0 : j = 0 := by omega
                  subst hz0
                  unfold chkRn; rw [if_neg (fun k => k ⟨h0, h1, h2⟩), if_neg h3]; rfl
                rw [if_pos he] at HC'
                have hz1 : decide ((j : Int) > 0) = false := by simpa using by omega
                clear HP
                go_upto_region 9 with (go_at_call 70; (with_reducible refine (in_t _ _ _ _ (by assumption)).mono ?_); rintro e w' ⟨rfl, rfl⟩)
                go_quiet (fail)
                go_wp2_with fail
                go_roundw
                case rel => exact ⟨j + 1, by omega, by go_num, HC', hid (below_drewN HB1.out _)⟩
                case measure => simp [intOf]; omega
          · have he : chkRn (pre ss j) g = 3 := by unfold chkRn; rw [if_pos (fun k => h2 k.2.2)]
            rw [if_neg (by rw [he]; decide), he] at HC'
            go_wp2_with (go_at_call 70; (first | (with_reducible refine (in_t _ _ _ _ (by assumption)).mono ?_) | (with_reducible refine (in_f _ _ _ _ (by assumption)).mono ?_)); rintro e w' ⟨rfl, rfl⟩)
            go_ret
            exact ⟨congrArg (fun z => Ending.returned (Value.int .i64 z)) HC'.out.symm, HB1.out⟩
        · have he : chkRn (pre ss j) g = 3 := by unfold chkRn; rw [if_pos (fun k => h1 k.2.1)]
          rw [if_neg (by rw [he]; decide), he] at HC'
          go_wp2_with (go_at_call 70; (first | (with_reducible refine (in_t _ _ _ _ (by assumption)).mono ?_) | (with_reducible refine (in_f _ _ _ _ (by assumption)).mono ?_)); rintro e w' ⟨rfl, rfl⟩)
          go_ret
          exact ⟨congrArg (fun z => Ending.returned (Value.int .i64 z)) HC'.out.symm, HB1.out⟩
      · have he : chkRn (pre ss j) g = 3 := by unfold chkRn; rw [if_pos (fun k => h0 k.1)]
        rw [if_neg (by rw [he]; decide), he] at HC'
        go_wp2_with (go_at_call 70; (first | (with_reducible refine (in_t _ _ _ _ (by assumption)).mono ?_) | (with_reducible refine (in_f _ _ _ _ (by assumption)).mono ?_)); rintro e w' ⟨rfl, rfl⟩)
        go_ret
        exact ⟨congrArg (fun z => Ending.returned (Value.int .i64 z)) HC'.out.symm, HB1.out⟩
    · have hd : chkAll (pre ss j) (ss.drop j) = 0 := by rw [List.drop_eq_nil_of_le (by rw [← HN.out]; omega)]; rfl
      have HD := hid (HC.out.trans hd)
      clear hd HC
      go_wp2_with fail
      go_ret
      exact ⟨congrArg (fun z => Ending.returned (Value.int .i64 z)) HD.out.symm, HB.out⟩

end Go.Proofs.Ytjehmjcalapaiaa
