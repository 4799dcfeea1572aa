/- What the two functions of package num on amounts return, and the references that they are held against. -/
import Derived.Test.YtfcddkkaokoedaaRef
namespace Go.Proofs.Ytfcddkkaokoedaa
open Go Go.RowKit

theorem part_any (n : Int) (w : World) (h0 : 0 ≤ n) (h1 : n ≤ 65025) :
    Calls Try.prog 38 #[.int .u64 n] w fun e w' => e = .returned (.int .u8 ((2 * n + 255) / 510)) ∧ w = w' := by
  go_enter Try.func38, Try.ntmps38
  go_wp2
  go_ret
  exact ⟨rfl, rfl⟩

theorem prod_le {a b c : Int} (ha : 0 ≤ a) (hb : 0 ≤ b) (hb2 : b ≤ c) : 0 ≤ a * b ∧ a * b ≤ a * c :=
  ⟨Int.mul_nonneg ha hb, Int.mul_le_mul_of_nonneg_left hb2 ha⟩

theorem mix_sum {a b t : Int} (ha : 0 ≤ a) (ha2 : a ≤ 255) (hb : 0 ≤ b) (hb2 : b ≤ 255) (ht : 0 ≤ t) (ht2 : t ≤ 255) :
    0 ≤ (255 - t) * a ∧ 0 ≤ t * b ∧ (255 - t) * a ≤ 65025 ∧ t * b ≤ 65025 ∧ (255 - t) * a + t * b ≤ 65025 := by
  have h1 := prod_le (show 0 ≤ 255 - t by omega) ha ha2
  have h2 := prod_le ht hb hb2
  omega

theorem mul_any (a b : Int) (w : World) (ha : 0 ≤ a) (ha2 : a ≤ 255) (hb : 0 ≤ b) (hb2 : b ≤ 255) :
    Calls Try.prog 21 #[.int .u8 a, .int .u8 b] w fun e w' => e = .returned (.int .u8 ((2 * (a * b) + 255) / 510)) ∧ w = w' := by
  have h1 := prod_le ha hb hb2
  have c := part_any (a * b) w h1.1 (by omega)
  obtain ⟨k1, k2⟩ := h1
  have k3 : a * b ≤ 65025 := by omega
  clear k2
  go_enter Try.func21, Try.ntmps21
  go_wp2_with (go_at_call 38; (with_reducible refine c.mono ?_); rintro e w' ⟨rfl, rfl⟩)
  go_ret
  exact ⟨rfl, rfl⟩

theorem mix_any (a b t : Int) (w : World) (ha : 0 ≤ a) (ha2 : a ≤ 255) (hb : 0 ≤ b) (hb2 : b ≤ 255) (ht : 0 ≤ t) (ht2 : t ≤ 255) :
    Calls Try.prog 20 #[.int .u8 a, .int .u8 b, .int .u8 t] w fun e w' => e = .returned (.int .u8 ((2 * ((255 - t) * a + t * b) + 255) / 510)) ∧ w = w' := by
  obtain ⟨k1, k2, k3, k4, k5⟩ := mix_sum ha ha2 hb hb2 ht ht2
  have c := part_any ((255 - t) * a + t * b) w (by omega) k5
  go_enter Try.func20, Try.ntmps20
  go_wp2_with (go_at_call 38; (with_reducible refine c.mono ?_); rintro e w' ⟨rfl, rfl⟩)
  go_ret
  exact ⟨rfl, rfl⟩

theorem rmul_any (a b : Int) (w : World) (ha : 0 ≤ a) (ha2 : a ≤ 255) (hb : 0 ≤ b) (hb2 : b ≤ 255) :
    Calls Try.prog 28 #[.int .i64 a, .int .i64 b] w fun e w' => e = .returned (.int .i64 ((2 * (a * b) + 255) / 510)) ∧ w = w' := by
  have h1 := prod_le (show 0 ≤ 2 * a by omega) hb hb2
  have c := down_any (2 * a * b + 255) 510 w (by omega) (by omega) (by omega) (by omega)
  rw [show 2 * (a * b) = 2 * a * b from (Int.mul_assoc 2 a b).symm]
  obtain ⟨k1, k2⟩ := h1
  have k3 : 2 * a * b ≤ 130050 := by omega
  clear k2
  go_enter Try.func28, Try.ntmps28
  go_wp2_with (go_at_call 40; (with_reducible refine c.mono ?_); rintro e w' ⟨rfl, rfl⟩)
  go_ret
  exact ⟨rfl, rfl⟩

theorem half_of (a b : Int) (hb : 1 ≤ b) : (b - (a - a / b * b) ≤ a - a / b * b → (2 * a + b) / (2 * b) = a / b + 1) ∧ (¬ b - (a - a / b * b) ≤ a - a / b * b → (2 * a + b) / (2 * b) = a / b) := by
  have k0 := Int.mul_ediv_add_emod a b
  have r0 := Int.emod_nonneg a (show b ≠ 0 by omega)
  have r1 := Int.emod_lt_of_pos a (show 0 < b by omega)
  have k1 : b * (a / b) = a / b * b := Int.mul_comm _ _
  refine ⟨fun h => ?_, fun h => ?_⟩
  · have e : 2 * a + b = (2 * (a % b) - b) + (2 * b) * (a / b + 1) := by rw [Int.mul_add, Int.mul_assoc]; omega
    rw [e, Int.add_mul_ediv_left _ _ (by omega), Int.ediv_eq_zero_of_lt (by omega) (by omega)]; omega
  · have e : 2 * a + b = (2 * (a % b) + b) + (2 * b) * (a / b) := by rw [Int.mul_assoc]; omega
    rw [e, Int.add_mul_ediv_left _ _ (by omega), Int.ediv_eq_zero_of_lt (by omega) (by omega)]; omega

theorem half_any (a b : Int) (w : World) (hb : 1 ≤ b) (ha1 : -1000000000000000 ≤ a) (ha2 : a ≤ 1000000000000000) (hb2 : b ≤ 1000000000000000) :
    Calls Try.prog 29 #[.int .i64 a, .int .i64 b] w fun e w' => e = .returned (.int .i64 ((2 * a + b) / (2 * b))) ∧ w = w' := by
  obtain ⟨m1, m2⟩ := half_of a b hb
  have M1 := hid m1
  have M2 := hid m2
  clear m1 m2
  have k0 := Int.mul_ediv_add_emod a b
  have r0 := Int.emod_nonneg a (show b ≠ 0 by omega)
  have r1 := Int.emod_lt_of_pos a (show 0 < b by omega)
  rw [Int.mul_comm] at k0
  have c := down_any a b w hb (by omega) (by omega) (by omega)
  have k1 : 0 ≤ a - a / b * b := by omega
  have k2 : a - a / b * b < b := by omega
  have k3 : -5000000000000000 ≤ a / b * b := by omega
  have k4 : a / b * b ≤ 5000000000000000 := by omega
  have k5 : -1000000000000000 ≤ a / b := Int.le_ediv_of_mul_le (by omega) (by omega)
  have k6 : a / b ≤ 1000000000000000 := Int.ediv_le_of_le_mul (by omega) (by omega)
  clear k0 r0 r1
  go_enter Try.func29, Try.ntmps29
  go_wp2_with (go_at_call 40; (with_reducible refine c.mono ?_); rintro e w' ⟨rfl, rfl⟩)
  all_goals go_ret
  · exact ⟨ret1_int (M1.out (by assumption)).symm, rfl⟩
  · exact ⟨ret1_int (M2.out (by omega)).symm, rfl⟩

end Go.Proofs.Ytfcddkkaokoedaa
