/- What Half and Down of the reference return. -/
import Derived.Test.YtcdedefhofkbhaaArc
namespace Go.Proofs.Ytcdedefhofkbhaa
open Go Go.RowKit
set_option linter.unusedVariables false

theorem down_any (a b : Int) (w : World) (hb : 1 ≤ b) (ha1 : -4611686018427387904 ≤ a) (ha2 : a ≤ 4611686018427387904) (hb2 : b ≤ 4611686018427387904) :
    Calls Try.prog 55 #[.int .i64 a, .int .i64 b] w fun e w' => e = .returned (.int .i64 (a / b)) ∧ w = w' := by
  by_cases ha : 0 ≤ a
  · have r0 : 0 ≤ a % b := Int.emod_nonneg a (by omega)
    have r1 : a % b ≤ a := by
      have e := Int.mul_ediv_add_emod a b
      have q0 : 0 ≤ b * (a / b) := Int.mul_nonneg (by omega) (Int.ediv_nonneg (by omega) (by omega))
      omega
    go_enter Try.func55, Try.ntmps55
    go_wp2
    go_ret
    exact ⟨ret1_int (by
      have e := Int.mul_ediv_add_emod a b
      rw [show a - a % b = b * (a / b) by omega, Int.mul_ediv_cancel_left _ (by omega)]), rfl⟩
  · obtain ⟨b1, b2, b3, b4, e0, b5, b6⟩ := tdm a b hb (by omega)
    have B5 := hid b5
    have B6 := hid b6
    have E0 := hid e0
    clear b5 b6 e0
    go_enter Try.func55, Try.ntmps55
    go_wp2
    all_goals go_ret
    · refine ⟨ret1_int ?_, rfl⟩
      rw [(B5.out (by assumption)).1, show a - (a.tmod b + b) = b * (a.tdiv b - 1) by rw [Int.mul_sub]; have := E0.out; omega, Int.mul_tdiv_cancel_left _ (by omega)]
    · refine ⟨ret1_int ?_, rfl⟩
      rw [(B6.out (by omega)).1, show a - a.tmod b = b * a.tdiv b by have := E0.out; omega, Int.mul_tdiv_cancel_left _ (by omega)]

theorem rnd_at (a b : Int) (hb : 1 ≤ b) : (b ≤ 2 * (a % b) → rnd a b = a / b + 1) ∧ (2 * (a % b) < b → rnd a b = a / b) := by
  have e := Int.mul_ediv_add_emod a b
  have r0 := Int.emod_nonneg a (show b ≠ 0 by omega)
  have r1 := Int.emod_lt_of_pos a (show 0 < b by omega)
  have m1 : 2 * b * (a / b) = 2 * (b * (a / b)) := Int.mul_assoc _ _ _
  have m2 : 2 * b * (a / b + 1) = 2 * (b * (a / b)) + 2 * b := by rw [Int.mul_add, m1, Int.mul_one]
  refine ⟨fun h => ?_, fun h => ?_⟩
  · exact (Int.ediv_emod_unique (a := 2 * a + b) (b := 2 * b) (q := a / b + 1) (r := 2 * (a % b) - b) (by omega)).mpr ⟨by rw [m2]; omega, by omega, by omega⟩ |>.1
  · exact (Int.ediv_emod_unique (a := 2 * a + b) (b := 2 * b) (q := a / b) (r := 2 * (a % b) + b) (by omega)).mpr ⟨by rw [m1]; omega, by omega, by omega⟩ |>.1

theorem half_any (a b : Int) (w : World) (hb : 1 ≤ b) (ha1 : -2305843009213693952 ≤ a) (ha2 : a ≤ 2305843009213693952) (hb2 : b ≤ 4398046511104) :
    Calls Try.prog 52 #[.int .i64 a, .int .i64 b] w fun e w' => e = .returned (.int .i64 (rnd a b)) ∧ w = w' := by
  have c := down_any a b w hb (by omega) (by omega) (by omega)
  have k0 := Int.mul_ediv_add_emod a b
  have r0 := Int.emod_nonneg a (show b ≠ 0 by omega)
  have r1 := Int.emod_lt_of_pos a (show 0 < b by omega)
  obtain ⟨u1, u2⟩ := rnd_at a b hb
  rw [Int.mul_comm] at k0
  obtain ⟨p, hp⟩ : ∃ p, p = a / b * b := ⟨_, rfl⟩
  have e1 : a - a / b * b = a % b := by omega
  have k1 : -2400000000000000000 ≤ a / b * b := by omega
  have k2 : a / b * b ≤ 2400000000000000000 := by omega
  have q1 : -2400000000000000000 ≤ a / b := by
    rcases Int.lt_or_le a 0 with h | h
    · have := (tdm a b hb h).1
      have t := tdm a b hb h
      rcases Int.lt_or_le (a.tmod b) 0 with h2 | h2
      · have := (t.2.2.2.2.2.1 h2).1; omega
      · have := (t.2.2.2.2.2.2 (by omega)).1; omega
    · have := Int.ediv_nonneg h (show 0 ≤ b by omega); omega
  have q2 : a / b ≤ 2400000000000000000 := by
    rcases Int.lt_or_le a 0 with h | h
    · have t := tdm a b hb h
      rcases Int.lt_or_le (a.tmod b) 0 with h2 | h2
      · have := (t.2.2.2.2.2.1 h2).1; omega
      · have := (t.2.2.2.2.2.2 (by omega)).1; omega
    · have := Int.ediv_le_self b h; omega
  have U1 := hid u1
  have U2 := hid u2
  have K0 := hid k0
  clear u1 u2 k0 hp
  by_cases h : b ≤ 2 * (a % b)
  · have t : b - a % b ≤ a % b := by omega
    go_enter Try.func52, Try.ntmps52
    go_wp2_with (go_at_call 55; (with_reducible refine c.mono ?_); rintro e w' ⟨rfl, rfl⟩)
    go_ret
    exact ⟨ret1_int (U1.out h).symm, rfl⟩
  · have t : a % b < b - a % b := by omega
    go_enter Try.func52, Try.ntmps52
    go_wp2_with (go_at_call 55; (with_reducible refine c.mono ?_); rintro e w' ⟨rfl, rfl⟩)
    go_ret
    exact ⟨ret1_int (U2.out (by omega)).symm, rfl⟩

end Go.Proofs.Ytcdedefhofkbhaa
