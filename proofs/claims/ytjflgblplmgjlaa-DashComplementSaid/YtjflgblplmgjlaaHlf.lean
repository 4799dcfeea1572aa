/- The reference's Down and Half. -/
import Derived.Test.YtjflgblplmgjlaaFNum
namespace Go.Proofs.Ytjflgblplmgjlaa
open Go Go.RowKit
set_option linter.unusedVariables false

theorem ret1_int {a b : Int} (h : a = b) : Ending.returned (.int .i64 a) = .returned (.int .i64 b) := by rw [h]

theorem down_any (a b : Int) (w : World) (hb : 1 ≤ b) (ha1 : -4611686018427387904 ≤ a) (ha2 : a ≤ 4611686018427387904) (hb2 : b ≤ 4611686018427387904) :
    Calls Try.prog 43 #[.int .i64 a, .int .i64 b] w fun e w' => e = .returned (.int .i64 (a / b)) ∧ w = w' := by
  by_cases ha : 0 ≤ a
  · have r0 : 0 ≤ a % b := Int.emod_nonneg a (by omega)
    have r1 : a % b ≤ a := by
      have e := Int.mul_ediv_add_emod a b
      have q0 : 0 ≤ b * (a / b) := Int.mul_nonneg (by omega) (Int.ediv_nonneg (by omega) (by omega))
      omega
    go_enter Try.func43, Try.ntmps43
    go_wp2
    go_ret
    exact ⟨ret1_int (by
      have e := Int.mul_ediv_add_emod a b
      rw [show a - a % b = b * (a / b) by omega, Int.mul_ediv_cancel_left _ (by omega)]), rfl⟩
  · obtain ⟨b1, b2, b3, b4, e0, b5, b6⟩ := tdm a b hb (by omega)
    have B5 := hid b5
    have B6 := hid b6
    have E0 := hid e0
    clear b5 b6 e0
    go_enter Try.func43, Try.ntmps43
    go_wp2
    all_goals go_ret
    · refine ⟨ret1_int ?_, rfl⟩
      rw [(B5.out (by assumption)).1, show a - (a.tmod b + b) = b * (a.tdiv b - 1) by rw [Int.mul_sub]; have := E0.out; omega, Int.mul_tdiv_cancel_left _ (by omega)]
    · refine ⟨ret1_int ?_, rfl⟩
      rw [(B6.out (by omega)).1, show a - a.tmod b = b * a.tdiv b by have := E0.out; omega, Int.mul_tdiv_cancel_left _ (by omega)]

theorem half_of (a b : Int) (hb : 1 ≤ b) : (b - (a - a / b * b) ≤ a - a / b * b → (2 * a + b) / (2 * b) = a / b + 1) ∧ (¬ b - (a - a / b * b) ≤ a - a / b * b → (2 * a + b) / (2 * b) = a / b) := by
  have k0 := Int.mul_ediv_add_emod a b
  have r0 := Int.emod_nonneg a (show b ≠ 0 by omega)
  have r1 := Int.emod_lt_of_pos a (show 0 < b by omega)
  have k1 : b * (a / b) = a / b * b := Int.mul_comm _ _
  refine ⟨fun h => ?_, fun h => ?_⟩
  · have e : 2 * a + b = (2 * (a % b) - b) + (2 * b) * (a / b + 1) := by rw [Int.mul_add, Int.mul_assoc]; omega
    rw [e, Int.add_mul_ediv_left _ _ (by omega), Int.ediv_eq_zero_of_lt (by omega) (by omega)]; omega
  · have e : 2 * a + b = (2 * (a % b) + b) + (2 * b) * (a / b) := by rw [Int.mul_assoc]; omega
    rw [e, Int.add_mul_ediv_left _ _ (by omega), Int.ediv_eq_zero_of_lt (by omega) (by omega)]; omega

theorem half_any (a b : Int) (w : World) (hb : 1 ≤ b) (ha1 : -1000000000000000 ≤ a) (ha2 : a ≤ 1000000000000000) (hb2 : b ≤ 1000000000000000) :
    Calls Try.prog 40 #[.int .i64 a, .int .i64 b] w fun e w' => e = .returned (.int .i64 ((2 * a + b) / (2 * b))) ∧ w = w' := by
  obtain ⟨m1, m2⟩ := half_of a b hb
  have M1 := hid m1
  have M2 := hid m2
  clear m1 m2
  have k0 := Int.mul_ediv_add_emod a b
  have r0 := Int.emod_nonneg a (show b ≠ 0 by omega)
  have r1 := Int.emod_lt_of_pos a (show 0 < b by omega)
  rw [Int.mul_comm] at k0
  have c := down_any a b w hb (by omega) (by omega) (by omega)
  have k1 : 0 ≤ a - a / b * b := by omega
  have k2 : a - a / b * b < b := by omega
  have k3 : -5000000000000000 ≤ a / b * b := by omega
  have k4 : a / b * b ≤ 5000000000000000 := by omega
  have k5 : -1000000000000000 ≤ a / b := Int.le_ediv_of_mul_le (by omega) (by omega)
  have k6 : a / b ≤ 1000000000000000 := Int.ediv_le_of_le_mul (by omega) (by omega)
  clear k0 r0 r1
  go_enter Try.func40, Try.ntmps40
  go_wp2_with (go_at_call 43; (with_reducible refine c.mono ?_); rintro e w' ⟨rfl, rfl⟩)
  all_goals go_ret
  · exact ⟨ret1_int (M1.out (by assumption)).symm, rfl⟩
  · exact ⟨ret1_int (M2.out (by omega)).symm, rfl⟩

end Go.Proofs.Ytjflgblplmgjlaa
