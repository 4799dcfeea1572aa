/- slices.Equal of runs. -/
import Derived.Test.YtijkoaggcmgjiaaStep
namespace Go.Proofs.Ytijkoaggcmgjiaa
open Go Go.RowKit
set_option linter.unusedVariables false

theorem equal_len (A A' : Option Addr) (n c m c' : Nat) (w : World) (hn : n ≤ maxLen) (hm : m ≤ maxLen) (h : n ≠ m) :
    Calls Try.prog 24 #[.slice A n c, .slice A' m c'] w fun e w' => e = .returned (.bool false) ∧ w = w' := by
  unfold maxLen at hn hm
  have h1 : ((n : Int) != m) = true := by simpa using by omega
  go_enter Try.func24, Try.ntmps24
  go_wp2_with fail
  go_ret
  exact ⟨rfl, rfl⟩

theorem decide_equal {xs ys : List Rn} {k : Nat} (hn : xs.length = ys.length) (hk : xs.take k = ys.take k) (hlt : k < xs.length) (hlt' : k < ys.length) :
    (xs[k] = ys[k] → xs.take (k + 1) = ys.take (k + 1)) ∧ (xs[k] ≠ ys[k] → xs ≠ ys) :=
  ⟨fun h => by rw [List.take_succ_eq_append_getElem hlt, List.take_succ_eq_append_getElem hlt', hk, h], fun h e => h (by subst e; rfl)⟩

set_option maxHeartbeats 1000000 in
theorem equal_eq (A A' : Option Addr) (n c c' : Nat) (xs ys : List Rn) (w : World) (hn : n = xs.length) (hm : n = ys.length) (hb : n ≤ maxLen) (hx : Runs w A xs) (hy : Runs w A' ys) :
    Calls Try.prog 24 #[.slice A n c, .slice A' n c'] w fun e w' => e = .returned (.bool (decide (xs = ys))) ∧ Below w.heap.size w w' := by
  have HX := hid hx
  have HY := hid hy
  have HN := hid hn
  have HM := hid hm
  unfold maxLen at hb
  clear hx hy hn hm
  go_enter Try.func24, Try.ntmps24
  go_wp2_with fail
  go_loopw [13] (fun s13 wr => ∃ k : Nat, k ≤ n ∧ s13 = .int .i64 k ∧ Hid (xs.take k = ys.take k) ∧ Hid (Below w.heap.size w wr)) (fun s13 _ => n - (intOf s13).toNat)
  case atStart => exact ⟨0, Nat.zero_le _, rfl, hid rfl, hid (Below.refl _ w)⟩
  case round =>
    obtain ⟨k, hk, rfl, HT, HB⟩ := hrel
    by_cases hlt : k < n
    · have hlx : k < xs.length := by rw [← HN.out]; exact hlt
      have hly : k < ys.length := by rw [← HM.out]; exact hlt
      obtain ⟨a, rfl, hal, hsa⟩ := (HX.out.next HB.out).at_ hlx
      obtain ⟨b, rfl, hbl, hsb⟩ := (HY.out.next HB.out).at_ hly
      have HD := hid (decide_equal (HN.out.symm.trans HM.out) HT.out hlx hly)
      generalize xs[k] = p at hsa HD
      generalize ys[k] = q at hsb HD
      clear HT
      by_cases h0 : p = q
      · obtain rfl := h0
        obtain ⟨a0, a1, a2⟩ := hsa
        obtain ⟨b0, b1, b2⟩ := hsb
        go_upto_region 6 with fail
        go_quiet (fail)
        go_wp2_with fail
        go_roundw
        case rel => exact ⟨k + 1, by omega, by go_num, hid (HD.out.1 rfl), hid (below_drewN HB.out _)⟩
        case measure => simp [intOf]; omega
      · have HE := hid (decide_eq_false (HD.out.2 h0))
        have neq : ¬ (p.y = q.y ∧ p.a = q.a ∧ p.b = q.b) := fun h => h0 (Rn.ext' h)
        clear HD h0
        obtain ⟨a0, a1, a2⟩ := hsa
        obtain ⟨b0, b1, b2⟩ := hsb
        by_cases k0 : p.y = q.y
        · by_cases k1 : p.a = q.a
          · have k2 : ¬ p.b = q.b := fun h => neq ⟨k0, k1, h⟩
            clear neq
            rw [k0] at a0
            rw [k1] at a1
            go_upto_region 6 with fail
            go_quiet (fail)
            go_wp2_with fail
            go_ret
            exact ⟨congrArg (fun z => Ending.returned (Value.bool z)) HE.out.symm, below_drewN HB.out _⟩
          · clear neq
            rw [k0] at a0
            go_upto_region 6 with fail
            go_quiet (fail)
            go_wp2_with fail
            go_ret
            exact ⟨congrArg (fun z => Ending.returned (Value.bool z)) HE.out.symm, below_drewN HB.out _⟩
        · clear neq
          go_upto_region 6 with fail
          go_quiet (fail)
          go_wp2_with fail
          go_ret
          exact ⟨congrArg (fun z => Ending.returned (Value.bool z)) HE.out.symm, below_drewN HB.out _⟩
    · have hd : xs = ys := by
        have := HT.out
        rwa [List.take_of_length_le (by rw [← HN.out]; omega), List.take_of_length_le (by rw [← HM.out]; omega)] at this
      have HE := hid hd
      clear hd HT
      go_wp2_with fail
      go_ret
      exact ⟨congrArg (fun z => Ending.returned (Value.bool z)) (decide_eq_true HE.out).symm, HB.out⟩

theorem equal_any (A A' : Option Addr) (n c m c' : Nat) (xs ys : List Rn) (w : World) (hn : n = xs.length) (hm : m = ys.length) (hb : n ≤ maxLen) (hb' : m ≤ maxLen) (hx : Runs w A xs) (hy : Runs w A' ys) :
    Calls Try.prog 24 #[.slice A n c, .slice A' m c'] w fun e w' => e = .returned (.bool (decide (xs = ys))) ∧ Below w.heap.size w w' := by
  by_cases h : n = m
  · subst h; exact equal_eq A A' n c c' xs ys w hn hm hb hx hy
  · refine (equal_len A A' n c m c' w hb hb' h).mono ?_
    rintro e w' ⟨rfl, rfl⟩
    rw [decide_eq_false (fun e => h (by subst e; omega))]
    exact ⟨rfl, Below.refl _ w⟩

end Go.Proofs.Ytijkoaggcmgjiaa
