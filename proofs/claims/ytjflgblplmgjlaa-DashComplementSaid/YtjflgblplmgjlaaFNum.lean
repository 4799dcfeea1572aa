/- num.Round of numbers in range: the rounded quotient, and only new blocks. -/
import Derived.Test.YtjflgblplmgjlaaLeaf
namespace Go.Proofs.Ytjflgblplmgjlaa
open Go Go.RowKit
set_option linter.unusedVariables false

/-- All of a list are numbers of package num. -/
def Ins (zs : List Int) : Prop := ∀ i, i < zs.length → -1099511627776 ≤ zs.getD i 0 ∧ zs.getD i 0 ≤ 1099511627776
set_option maxHeartbeats 400000 in
theorem inRange_yes (zs : List Int) (b off cap : Nat) (w : World) (hl : zs.length ≤ 3)
    (hc : ∀ i, i < zs.length → w.cell? ⟨b, off + i, none⟩ = some (.int .i64 (zs.getD i 0)))
    (hr : ∀ i, i < zs.length → -1099511627776 ≤ zs.getD i 0 ∧ zs.getD i 0 ≤ 1099511627776) :
    Calls Try.prog 49 #[.slice (some ⟨b, off, none⟩) zs.length cap] w fun e w' => e = .returned (.bool true) ∧ w = w' := by
  have HC := hid hc
  have HR := hid hr
  clear hc hr
  go_enter Try.func49, Try.ntmps49
  go_wp2
  go_loop [7] (fun i => ∃ k : Nat, k ≤ zs.length ∧ i = .int .i64 k) (fun i => zs.length - (intOf i).toNat)
  case atStart => exact ⟨0, Nat.zero_le _, rfl⟩
  case round =>
    obtain ⟨k, hk, rfl⟩ := hrel
    by_cases hlt : k < zs.length
    · have hcell := HC.out k hlt
      have h1 := (HR.out k hlt).1
      have h2 := (HR.out k hlt).2
      clear HC HR
      generalize zs.getD k 0 = x at hcell h1 h2
      go_wp2
      go_round
      case rel => exact ⟨k + 1, by omega, by go_num⟩
      case measure => simp [intOf]; omega
    · go_wp2
      go_ret
      exact ⟨rfl, rfl⟩

theorem chk_ok (d : Int) (zs : List Int) (b off cap : Nat) (w : World) (hl : zs.length ≤ 3) (hc : Lies w b off zs) (hr : Ins zs) (hd : 1 ≤ d) :
    Calls Try.prog 47 #[.int .i64 d, .slice (some ⟨b, off, none⟩) zs.length cap] w fun e w' => e = .returned (.int .i64 0) ∧ w = w' := by
  have c := inRange_yes zs b off cap w hl hc hr
  clear hc hr
  go_enter Try.func47, Try.ntmps47
  go_wp2_with (go_at_call 49; refine c.mono ?_; rintro e w' ⟨rfl, rfl⟩)
  go_ret
  exact ⟨rfl, rfl⟩

theorem tdm (a b : Int) (hb : 1 ≤ b) (h : a < 0) : -(4 * a.tdiv b) ≤ -(4 * a) ∧ a.tdiv b ≤ 0 ∧ a.tmod b ≤ 0 ∧ -b < a.tmod b ∧ a.tmod b = a - b * a.tdiv b ∧
    (a.tmod b < 0 → a / b = a.tdiv b - 1 ∧ a % b = a.tmod b + b) ∧ (¬ a.tmod b < 0 → a / b = a.tdiv b ∧ a % b = a.tmod b) := by
  obtain ⟨n, rfl⟩ : ∃ n : Int, a = -n := ⟨-a, by omega⟩
  have hn : 0 < n := by omega
  rw [Int.neg_tdiv, Int.neg_tmod, Int.tdiv_eq_ediv_of_nonneg (by omega), Int.tmod_eq_emod_of_nonneg (by omega)]
  have e := Int.mul_ediv_add_emod n b
  have r0 := Int.emod_nonneg n (show b ≠ 0 by omega)
  have r1 := Int.emod_lt_of_pos n (show 0 < b by omega)
  have q0 : 0 ≤ n / b := Int.ediv_nonneg (by omega) (by omega)
  have q1 : n / b ≤ n := Int.ediv_le_self _ (by omega)
  have e' : b * (-(n / b)) = -(b * (n / b)) := Int.mul_neg _ _
  refine ⟨by omega, by omega, by omega, by omega, by rw [e']; omega, fun h => ?_, fun h => ?_⟩
  · have u := Int.ediv_emod_unique (a := -n) (b := b) (q := -(n / b) - 1) (r := -(n % b) + b) (by omega)
    obtain ⟨u1, u2⟩ := u.mpr ⟨by rw [Int.mul_sub, e']; omega, by omega, by omega⟩
    exact ⟨u1, u2⟩
  · have u := Int.ediv_emod_unique (a := -n) (b := b) (q := -(n / b)) (r := -(n % b)) (by omega)
    obtain ⟨u1, u2⟩ := u.mpr ⟨by rw [e']; omega, by omega, by omega⟩
    exact ⟨u1, u2⟩

theorem ret2_int {a b c d : Int} (h : a = c) (k : b = d) : Ending.returned (.tuple #[.int .i64 a, .int .i64 b]) = .returned (.tuple #[.int .i64 c, .int .i64 d]) := by rw [h, k]

theorem floor2 (a b : Int) (w : World) (hb : 1 ≤ b) (ha1 : -4000000000000 ≤ a) (ha2 : a ≤ 4000000000000) (hb2 : b ≤ 4000000000000) :
    Calls Try.prog 48 #[.int .i64 a, .int .i64 b] w fun e w' => e = .returned (.tuple #[.int .i64 (a / b), .int .i64 (a % b)]) ∧ Below w.heap.size w w' := by
  by_cases ha : 0 ≤ a
  · have q0 : 0 ≤ a / b := Int.ediv_nonneg (by omega) (by omega)
    have r0 : 0 ≤ a % b := Int.emod_nonneg a (by omega)
    go_enter Try.func48, Try.ntmps48
    go_wp2
    go_region
    all_goals (go_wp2; go_ret2; exact ⟨rfl, by repeat (first | exact Below.refl _ _ | apply Below.drew | refine below_alloc ?_ _)⟩)
  · obtain ⟨b1, b2, b3, b4, -, b5, b6⟩ := tdm a b hb (by omega)
    have B5 := hid b5
    have B6 := hid b6
    clear b5 b6
    go_enter Try.func48, Try.ntmps48
    go_wp2
    go_region
    all_goals go_wp2
    all_goals go_ret2
    · exact ⟨ret2_int (B5.out (by assumption)).1.symm (B5.out (by assumption)).2.symm, by repeat (first | exact Below.refl _ _ | apply Below.drew | refine below_alloc ?_ _)⟩
    · exact ⟨ret2_int (B6.out (by omega)).1.symm (B6.out (by omega)).2.symm, by repeat (first | exact Below.refl _ _ | apply Below.drew | refine below_alloc ?_ _)⟩

theorem lies2 (a b : Int) (w : World) : Lies (w.alloc (.cells #[.int .i64 a, .int .i64 b] 3)) w.heap.size 0 [a, b] := by
  intro i hi
  match i, hi with
  | 0, _ => simp
  | 1, _ => simp

theorem ins2 {a b : Int} : Ins [a, b] ↔ (-1099511627776 ≤ a ∧ a ≤ 1099511627776) ∧ (-1099511627776 ≤ b ∧ b ≤ 1099511627776) :=
  ⟨fun h => ⟨h 0 (by simp), h 1 (by simp)⟩, fun h i hi => match i, hi with
    | 0, _ => h.1
    | 1, _ => h.2⟩

theorem round_ok (a b : Int) (w : World) (h : Ins [a, b]) (hb : 1 ≤ b) :
    Calls Try.prog 46 #[.int .i64 a, .int .i64 b] w fun e w' => e = .returned (.tuple #[.int .i64 ((2 * a + b) / (2 * b)), .int .i64 0]) ∧ Below w.heap.size w w' := by
  have c := chk_ok b [a, b] w.heap.size 0 2 _ (by simp) (lies2 a b w) h hb
  obtain ⟨⟨h1, h2⟩, h3, h4⟩ := ins2.mp h
  clear h
  go_enter Try.func46, Try.ntmps46
  go_wp2_with (first | (go_at_call 47; refine c.mono ?_; rintro e w' ⟨rfl, rfl⟩) | (go_at_call 48; refine (floor2 (2 * a + b) (2 * b) _ (by omega) (by omega) (by omega) (by omega)).mono ?_; rintro e w' ⟨rfl, hg⟩))
  go_ret2
  exact ⟨rfl, below_next (by repeat (first | exact Below.refl _ _ | apply Below.drew | refine below_alloc ?_ _)) hg⟩

end Go.Proofs.Ytjflgblplmgjlaa
