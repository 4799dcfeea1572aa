/- What the small functions of the first reference package return: quotients rounded down, and the reference of Floor and Round. -/
import Derived.Test.YtfcddkkaokoedaaNum
namespace Go.Proofs.Ytfcddkkaokoedaa
open Go Go.RowKit

theorem number_yes (x : Int) (w : World) (h : -1099511627776 ≤ x ∧ x ≤ 1099511627776) :
    Calls Try.prog 39 #[.int .i64 x] w fun e w' => e = .returned (.bool true) ∧ w = w' := by
  obtain ⟨h1, h2⟩ := h
  go_enter Try.func39, Try.ntmps39
  go_wp2
  go_ret
  exact ⟨rfl, rfl⟩

theorem number_no (x : Int) (w : World) (h : ¬ (-1099511627776 ≤ x ∧ x ≤ 1099511627776)) :
    Calls Try.prog 39 #[.int .i64 x] w fun e w' => e = .returned (.bool false) ∧ w = w' := by
  by_cases h1 : x < -1099511627776
  · clear h
    go_enter Try.func39, Try.ntmps39
    go_wp2
    go_ret
    exact ⟨rfl, rfl⟩
  · have h2 : 1099511627776 < x := by omega
    clear h
    go_enter Try.func39, Try.ntmps39
    go_wp2
    go_ret
    refine ⟨?_, rfl⟩
    show Ending.returned (.bool (decide (x ≤ 1099511627776))) = _
    rw [decide_eq_false (by omega)]

theorem ret1_int {a b : Int} (h : a = b) : Ending.returned (.int .i64 a) = .returned (.int .i64 b) := by rw [h]

theorem down_any (a b : Int) (w : World) (hb : 1 ≤ b) (ha1 : -4611686018427387904 ≤ a) (ha2 : a ≤ 4611686018427387904) (hb2 : b ≤ 4611686018427387904) :
    Calls Try.prog 40 #[.int .i64 a, .int .i64 b] w fun e w' => e = .returned (.int .i64 (a / b)) ∧ w = w' := by
  by_cases ha : 0 ≤ a
  · have r0 : 0 ≤ a % b := Int.emod_nonneg a (by omega)
    have r1 : a % b ≤ a := by
      have e := Int.mul_ediv_add_emod a b
      have q0 : 0 ≤ b * (a / b) := Int.mul_nonneg (by omega) (Int.ediv_nonneg (by omega) (by omega))
      omega
    go_enter Try.func40, Try.ntmps40
    go_wp2
    go_ret
    exact ⟨ret1_int (by
      have e := Int.mul_ediv_add_emod a b
      rw [show a - a % b = b * (a / b) by omega, Int.mul_ediv_cancel_left _ (by omega)]), rfl⟩
  · obtain ⟨b1, b2, b3, b4, e0, b5, b6⟩ := tdm a b hb (by omega)
    have B5 := hid b5
    have B6 := hid b6
    have E0 := hid e0
    clear b5 b6 e0
    go_enter Try.func40, Try.ntmps40
    go_wp2
    all_goals go_ret
    · refine ⟨ret1_int ?_, rfl⟩
      rw [(B5.out (by assumption)).1, show a - (a.tmod b + b) = b * (a.tdiv b - 1) by rw [Int.mul_sub]; have := E0.out; omega, Int.mul_tdiv_cancel_left _ (by omega)]
    · refine ⟨ret1_int ?_, rfl⟩
      rw [(B6.out (by omega)).1, show a - a.tmod b = b * a.tdiv b by have := E0.out; omega, Int.mul_tdiv_cancel_left _ (by omega)]

theorem rfloor_no (r a b : Int) (w : World) (h : (¬ Ins [a, b] ∧ r = 3) ∨ (Ins [a, b] ∧ b < 1 ∧ r = 1)) :
    Calls Try.prog 22 #[.int .i64 a, .int .i64 b] w fun e w' => e = .returned (.tuple #[.int .i64 0, .int .i64 0, .int .i64 r]) ∧ Grown w w' := by
  rcases h with ⟨h, rfl⟩ | ⟨h, hb, rfl⟩
  · rw [ins2] at h
    by_cases h1 : -1099511627776 ≤ a ∧ a ≤ 1099511627776
    · have h2 : ¬ (-1099511627776 ≤ b ∧ b ≤ 1099511627776) := fun k => h ⟨h1, k⟩
      clear h
      have c1 := number_yes a w h1
      have c2 := number_no b w h2
      clear h1 h2
      go_enter Try.func22, Try.ntmps22
      go_wp2_with (first | (go_at_call 39; (with_reducible refine c1.mono ?_); rintro e w' ⟨rfl, rfl⟩) | (go_at_call 39; (with_reducible refine c2.mono ?_); rintro e w' ⟨rfl, rfl⟩))
      go_ret3
      exact ⟨rfl, Grown.refl _⟩
    · clear h
      have c1 := number_no a w h1
      clear h1
      go_enter Try.func22, Try.ntmps22
      go_wp2_with (first | (go_at_call 39; (with_reducible refine c1.mono ?_); rintro e w' ⟨rfl, rfl⟩))
      go_ret3
      exact ⟨rfl, Grown.refl _⟩
  · obtain ⟨h1, h2⟩ := ins2.mp h
    clear h
    have c1 := number_yes a w h1
    have c2 := number_yes b w h2
    clear h1 h2
    go_enter Try.func22, Try.ntmps22
    go_wp2_with (first | (go_at_call 39; (with_reducible refine c1.mono ?_); rintro e w' ⟨rfl, rfl⟩) | (go_at_call 39; (with_reducible refine c2.mono ?_); rintro e w' ⟨rfl, rfl⟩))
    go_ret3
    exact ⟨rfl, Grown.refl _⟩

theorem rfloor_ok (a b : Int) (w : World) (h : Ins [a, b]) (hb : 1 ≤ b) :
    Calls Try.prog 22 #[.int .i64 a, .int .i64 b] w fun e w' => e = .returned (.tuple #[.int .i64 (a / b), .int .i64 (a % b), .int .i64 0]) ∧ Grown w w' := by
  obtain ⟨h1, h2⟩ := ins2.mp h
  clear h
  have c1 := number_yes a w h1
  have c2 := number_yes b w h2
  have c3 := down_any a b w hb (by omega) (by omega) (by omega)
  have k0 := Int.mul_ediv_add_emod a b
  have r0 := Int.emod_nonneg a (show b ≠ 0 by omega)
  have r1 := Int.emod_lt_of_pos a (show 0 < b by omega)
  rw [Int.mul_comm] at k0
  have k1 : -3000000000000 ≤ a / b * b := by omega
  have k2 : a / b * b ≤ 3000000000000 := by omega
  have k3 : -3000000000000 ≤ a - a / b * b := by omega
  have k4 : a - a / b * b ≤ 3000000000000 := by omega
  have K0 := hid k0
  clear k0
  go_enter Try.func22, Try.ntmps22
  go_wp2_with (first | (go_at_call 39; (with_reducible refine c1.mono ?_); rintro e w' ⟨rfl, rfl⟩) | (go_at_call 39; (with_reducible refine c2.mono ?_); rintro e w' ⟨rfl, rfl⟩) | (go_at_call 40; (with_reducible refine c3.mono ?_); rintro e w' ⟨rfl, rfl⟩))
  go_ret3
  refine ⟨?_, Grown.refl _⟩
  have e : a % b = a - a / b * b := by have := K0.out; omega
  rw [e]; rfl

theorem rround_no (r a b : Int) (w : World) (h : (¬ Ins [a, b] ∧ r = 3) ∨ (Ins [a, b] ∧ b < 1 ∧ r = 1)) :
    Calls Try.prog 23 #[.int .i64 a, .int .i64 b] w fun e w' => e = .returned (.tuple #[.int .i64 0, .int .i64 r]) ∧ Grown w w' := by
  have c := rfloor_no r a b w h
  have hr : (r == 0) = false := by rcases h with ⟨-, rfl⟩ | ⟨-, -, rfl⟩ <;> rfl
  clear h
  go_enter Try.func23, Try.ntmps23
  go_wp2_with (go_at_call 22; (with_reducible refine c.mono ?_); rintro e w' ⟨rfl, hg⟩)
  go_ret2
  exact ⟨rfl, hg⟩

theorem rround_ok (a b : Int) (w : World) (h : Ins [a, b]) (hb : 1 ≤ b) :
    Calls Try.prog 23 #[.int .i64 a, .int .i64 b] w fun e w' => e = .returned (.tuple #[.int .i64 ((2 * a + b) / (2 * b)), .int .i64 0]) ∧ Grown w w' := by
  have c := rfloor_ok a b w h hb
  obtain ⟨⟨h1, h2⟩, h3, h4⟩ := ins2.mp h
  clear h
  go_enter Try.func23, Try.ntmps23
  go_wp2_with (first | (go_at_call 22; (with_reducible refine c.mono ?_); rintro e w' ⟨rfl, hg⟩) | (go_at_call 40; (with_reducible refine (down_any _ _ _ (by omega) (by omega) (by omega) (by omega)).mono ?_); rintro e w' ⟨rfl, rfl⟩))
  go_ret2
  exact ⟨rfl, hg⟩

end Go.Proofs.Ytfcddkkaokoedaa
