/- The reference's Decimal: the numeral that the library writes. -/
import Derived.Test.YtijkoaggcmgjiabDoorWords
import Derived.Test.YtijkoaggcmgjiabDoorRCheck
import Derived.Lib.ItoaMem
namespace Go.Proofs.YtijkoaggcmgjiabDoor
open Go Go.RowKit
set_option linter.unusedVariables false

/-- A string of these bytes. -/
def S (l : List UInt8) : ByteArray := ⟨l.toArray⟩
theorem S_append (a b : List UInt8) : S a ++ S b = S (a ++ b) := by
  unfold S
  apply ByteArray.ext
  simp [ByteArray.data_append]
theorem S_cons (c : UInt8) (b : List UInt8) : (⟨#[c]⟩ : ByteArray) ++ S b = S (c :: b) := S_append [c] b
theorem S_size (a : List UInt8) : (S a).size = a.length := by simp [S, ByteArray.size]
theorem dec_le (u : Nat) (h : u ≤ 9223372036854775807) : (S (Lib.decDigits u)).size ≤ 21 := by
  rw [S_size, ← Lib.itoa_nonneg]
  exact Lib.itoa_length_le u (by omega) (by omega)
theorem dec_small (u : Nat) (h : u < 10) : Lib.decDigits u = [UInt8.ofNat (48 + u)] := by unfold Lib.decDigits; rw [dif_pos h]
theorem dec_big (u : Nat) (h : 10 ≤ u) : Lib.decDigits u = Lib.decDigits (u / 10) ++ Lib.decDigits (u % 10) := by
  conv => lhs; unfold Lib.decDigits
  rw [dif_neg (by omega), dec_small (u % 10) (by omega)]

theorem decimal_digit (u : Nat) (h : u < 10) (w : World) : Calls Tryd.prog 14 #[.int .i64 u] w fun e w' => e = .returned (.string (S (Lib.decDigits u))) ∧ w = w' := by
  rw [dec_small u h]
  have hu : u = 0 ∨ u = 1 ∨ u = 2 ∨ u = 3 ∨ u = 4 ∨ u = 5 ∨ u = 6 ∨ u = 7 ∨ u = 8 ∨ u = 9 := by omega
  clear h
  rcases hu with rfl | rfl | rfl | rfl | rfl | rfl | rfl | rfl | rfl | rfl
  all_goals
    go_enter Tryd.func14, Tryd.ntmps14
    go_wp2_with fail
    go_ret
    exact ⟨rfl, rfl⟩

theorem decimal_nat (u : Nat) (h : u ≤ 9223372036854775807) (w : World) : Calls Tryd.prog 14 #[.int .i64 u] w fun e w' => e = .returned (.string (S (Lib.decDigits u))) ∧ w = w' := by
  induction u using Nat.strongRecOn with
  | _ u ih =>
    by_cases h10 : u < 10
    · exact decimal_digit u h10 w
    · have H1 := hid (ih (u / 10) (by omega) (by omega))
      have H2 := hid (decimal_digit (u % 10) (by omega) w)
      have e1 : (u : Int) / 10 = ((u / 10 : Nat) : Int) := by omega
      have e2 : (u : Int) % 10 = ((u % 10 : Nat) : Int) := by omega
      rw [dec_big u (by omega), ← S_append]
      have h0 : 10 ≤ (u : Int) := by omega
      clear ih h10
      have l1 := dec_le (u / 10) (by omega)
      have l2 := dec_le (u % 10) (by omega)
      generalize u / 10 = q at H1 e1 l1
      generalize u % 10 = r at H2 e2 l2
      generalize hz : (u : Int) = z at *
      have h1 : z ≤ 9223372036854775807 := by omega
      clear h hz
      go_enter Tryd.func14, Tryd.ntmps14
      go_wp2_with fail
      (with_reducible refine H1.out.mono ?_); rintro e w1 ⟨rfl, rfl⟩
      go_wp2_with fail
      (with_reducible refine H2.out.mono ?_); rintro e w1 ⟨rfl, rfl⟩
      go_wp2_with fail
      go_ret
      exact ⟨rfl, rfl⟩

theorem decimal_small (z : Int) (h0 : -10 < z) (h1 : z < 0) (w : World) : Calls Tryd.prog 14 #[.int .i64 z] w fun e w' => e = .returned (.string (S (Lib.itoa z))) ∧ w = w' := by
  obtain ⟨u, rfl⟩ : ∃ u : Nat, z = -(u : Int) := ⟨z.natAbs, by omega⟩
  rw [Lib.itoa_neg u (by omega), ← S_cons]
  have H := hid (decimal_nat u (by omega) w)
  have l1 := dec_le u (by omega)
  obtain ⟨y, hy⟩ : ∃ y : Int, y = (u : Int) := ⟨_, rfl⟩
  rw [← hy] at H h0 h1 ⊢
  clear hy
  go_enter Tryd.func14, Tryd.ntmps14
  go_wp2_with fail
  (with_reducible refine H.out.mono ?_); rintro e w1 ⟨rfl, rfl⟩
  go_wp2_with fail
  go_ret
  exact ⟨rfl, rfl⟩

theorem decimal_neg (u : Nat) (h : 1 ≤ u) (h1 : u ≤ 9223372036854775807) (w : World) : Calls Tryd.prog 14 #[.int .i64 (-(u : Int))] w fun e w' => e = .returned (.string (S (Lib.itoa (-(u : Int))))) ∧ w = w' := by
  induction u using Nat.strongRecOn with
  | _ u ih =>
    by_cases h10 : u < 10
    · exact decimal_small _ (by omega) (by omega) w
    · have H1 := hid (ih (u / 10) (by omega) (by omega) (by omega))
      have H2 := hid (decimal_digit (u % 10) (by omega) w)
      have e1 : (-(u : Int)).tdiv 10 = -((u / 10 : Nat) : Int) := by rw [Int.neg_tdiv]; rfl
      have e2 : (-(u : Int)).tmod 10 = -((u % 10 : Nat) : Int) := by rw [Int.neg_tmod]; rfl
      rw [Lib.itoa_neg (u / 10) (by omega)] at H1
      rw [Lib.itoa_neg u (by omega), dec_big u (by omega), ← List.cons_append, ← S_append]
      have h0 : -(u : Int) ≤ -10 := by omega
      have h2 : (u % 10 : Nat) < 10 := by omega
      have h3 : u / 10 ≤ 922337203685477580 := by omega
      clear ih h10
      have l1 : (S (45 :: Lib.decDigits (u / 10))).size ≤ 22 := by have := dec_le (u / 10) (by omega); rw [S_size] at this ⊢; simp; omega
      have l2 := dec_le (u % 10) (by omega)
      generalize u / 10 = q at H1 e1 h3 l1 ⊢
      generalize u % 10 = r at H2 e2 h2 l2 ⊢
      generalize hz : -(u : Int) = z at *
      have h4 : -9223372036854775807 ≤ z := by omega
      clear h hz h1
      go_enter Tryd.func14, Tryd.ntmps14
      go_wp2_with fail
      (with_reducible refine H1.out.mono ?_); rintro e w1 ⟨rfl, rfl⟩
      go_wp2_with fail
      (with_reducible refine H2.out.mono ?_); rintro e w1 ⟨rfl, rfl⟩
      go_wp2_with fail
      go_ret
      exact ⟨rfl, rfl⟩

theorem decimal_any (z : Int) (h0 : -9223372036854775807 ≤ z) (h1 : z ≤ 9223372036854775807) (w : World) : Calls Tryd.prog 14 #[.int .i64 z] w fun e w' => e = .returned (.string (S (Lib.itoa z))) ∧ w = w' := by
  by_cases h : z < 0
  · obtain ⟨u, rfl⟩ : ∃ u : Nat, z = -(u : Int) := ⟨z.natAbs, by omega⟩
    exact decimal_neg u (by omega) (by omega) w
  · obtain ⟨u, rfl⟩ : ∃ u : Nat, z = u := ⟨z.toNat, by omega⟩
    rw [Lib.itoa_nonneg]
    exact decimal_nat u (by omega) w

end Go.Proofs.YtijkoaggcmgjiabDoor
