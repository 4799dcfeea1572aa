/- What Root of package num returns, and the reference root: the greatest number whose square is at most the argument. -/
import Derived.Test.YtjflgblplmgjlaaBits
import Derived.Test.YtjflgblplmgjlaaDsp
namespace Go.Proofs.Ytjflgblplmgjlaa
open Go Go.RowKit

theorem le_of_sq {a b : Int} (hb : 0 ≤ b) (h : a * a ≤ b * b) : a ≤ b := by
  by_cases e : a ≤ b
  · exact e
  · have := sq_lt hb (show b < a by omega); omega

theorem root_ex (n : Nat) : ∃ s : Int, IsRoot n s := by
  induction n with
  | zero => exact ⟨0, by omega, by omega, by omega⟩
  | succ n ih =>
    obtain ⟨s, h0, h1, h2⟩ := ih
    by_cases h : (s + 1) * (s + 1) ≤ (n : Int) + 1
    · refine ⟨s + 1, by omega, by push_cast; exact h, ?_⟩
      have := sq_lt (show 0 ≤ s + 1 by omega) (show s + 1 < s + 1 + 1 by omega)
      push_cast
      omega
    · exact ⟨s, h0, by push_cast; omega, by push_cast; omega⟩

theorem root_bound {n s : Int} (h : IsRoot n s) (hn : n ≤ 4611686018427387904) : s ≤ 2147483648 := by
  obtain ⟨h0, h1, h2⟩ := h
  by_cases e : s ≤ 2147483648
  · exact e
  · have := sq_le (show (0 : Int) ≤ 2147483649 by omega) (show 2147483649 ≤ s by omega); omega

/-- A step of Newton's does not fall below the root. -/
theorem newton_lo {n s x : Int} (h : IsRoot n s) (hx : 1 ≤ x) : s ≤ (x + n / x) / 2 := by
  obtain ⟨h0, h1, h2⟩ := h
  have sq : 0 ≤ (s - x) * (s - x) := by
    rcases Int.le_total 0 (s - x) with c | c
    · exact Int.mul_nonneg c c
    · exact Int.mul_nonneg_of_nonpos_of_nonpos c c
  have e1 : (s - x) * (s - x) = s * s - 2 * (s * x) + x * x := by
    rw [Int.sub_mul, Int.mul_sub, Int.mul_sub, Int.mul_comm x s]; omega
  have e2 : (2 * s - x) * x = 2 * (s * x) - x * x := by rw [Int.sub_mul, Int.mul_assoc]
  have := Int.le_ediv_of_mul_le (show 0 < x by omega) (show (2 * s - x) * x ≤ n by omega)
  omega

/-- A step that does not go down stands at the root. -/
theorem newton_end {n s x : Int} (h : IsRoot n s) (hx : 1 ≤ x) (hs : s ≤ x) (he : x ≤ (x + n / x) / 2) : x = s := by
  obtain ⟨h0, h1, h2⟩ := h
  have h3 : x ≤ n / x := by omega
  have h4 : x * x ≤ n := Int.mul_le_of_le_ediv (by omega) h3
  have h5 : x * x < (s + 1) * (s + 1) := by omega
  by_cases e : s + 1 ≤ x
  · have := sq_le (show 0 ≤ s + 1 by omega) e; omega
  · omega

theorem start_ge {n s : Int} {m : Nat} (h : IsRoot n s) (hm : n < (2 : Int) ^ m) : s ≤ (2 : Int) ^ ((m + 1) / 2) := by
  refine le_of_sq (Int.le_of_lt (Int.pow_pos (by omega))) ?_
  rw [← Int.pow_add]
  have : (2 : Int) ^ m ≤ 2 ^ ((m + 1) / 2 + (m + 1) / 2) := by
    have h : (2 : Nat) ^ m ≤ 2 ^ ((m + 1) / 2 + (m + 1) / 2) := Nat.pow_le_pow_right (by omega) (by omega)
    exact_mod_cast h
  have := h.2.1
  omega

theorem pow_le_32 (k : Nat) (h : k ≤ 32) : (1 : Int) ≤ 2 ^ k ∧ (2 : Int) ^ k ≤ 4294967296 := by
  have h1 : (1 : Nat) ≤ 2 ^ k := Nat.one_le_two_pow
  have h2 : (2 : Nat) ^ k ≤ 4294967296 := Nat.le_trans (Nat.pow_le_pow_right (by omega) h) (by decide)
  have e : ((2 ^ k : Nat) : Int) = (2 : Int) ^ k := Int.natCast_pow 2 k
  exact ⟨by omega, by omega⟩

theorem root_range (n : Int) (w : World) (h : n < 0 ∨ 4611686018427387904 < n) :
    Calls Try.prog 41 #[.int .i64 n] w fun e w' => e = .returned (.tuple #[.int .i64 0, .int .i64 3]) ∧ w = w' := by
  rcases h with h | h
  · go_enter Try.func41, Try.ntmps41
    go_wp2
    go_ret2
    exact ⟨rfl, rfl⟩
  · go_enter Try.func41, Try.ntmps41
    go_wp2
    go_ret2
    exact ⟨rfl, rfl⟩

theorem root_zero (w : World) :
    Calls Try.prog 41 #[.int .i64 0] w fun e w' => e = .returned (.tuple #[.int .i64 0, .int .i64 0]) ∧ w = w' := by
  go_enter Try.func41, Try.ntmps41
  go_wp2
  go_ret2
  exact ⟨rfl, rfl⟩

theorem root_pos (n s : Int) (w : World) (h0 : 1 ≤ n) (h1 : n ≤ 4611686018427387904) (hs : IsRoot n s) :
    Calls Try.prog 41 #[.int .i64 n] w fun e w' => e = .returned (.tuple #[.int .i64 s, .int .i64 0]) ∧ w = w' := by
  have HS := hid hs
  have s0 := hs.1
  have s1 := root_bound hs h1
  have s2 : 1 ≤ s := by
    by_cases e : s = 0
    · subst e; have := hs.2.2; omega
    · omega
  clear hs
  go_enter Try.func41, Try.ntmps41
  go_wp2_with (go_at_call 44; (with_reducible refine (len64_any n _ (by omega) (by omega)).mono ?_); rintro e w' ⟨m, m1, m2, m3, m4, rfl, rfl⟩
               have m5 := m2 (by omega)
               have p := pow_le_32 ((m + 1) / 2) (by omega)
               have p1 := p.1
               have p2 := p.2
               have p3 := start_ge HS.out m4
               clear m1 m2 m3 m4 p)
  go_loop [4] (fun x => ∃ k : Int, s ≤ k ∧ k ≤ 4294967296 ∧ x = .int .i64 k) (fun x => (intOf x).toNat)
  case atStart => exact ⟨_, p3, p2, rfl⟩
  case round =>
    clear p1 p2 p3
    obtain ⟨x, x1, x2, rfl⟩ := hrel
    have q1 : 0 ≤ n / x := Int.ediv_nonneg (by omega) (by omega)
    have q2 : n / x ≤ n := Int.ediv_le_self _ (by omega)
    have q3 := newton_lo HS.out (show 1 ≤ x by omega)
    by_cases hend : x ≤ (x + n / x) / 2
    · have e := newton_end HS.out (show 1 ≤ x by omega) x1 hend
      subst e
      go_wp2
      go_ret2
      exact ⟨rfl, rfl⟩
    · go_wp2
      go_round
      case rel => exact ⟨_, q3, by omega, rfl⟩
      case measure => simp [intOf]; omega

/-- Root at a number of its range: its root. -/
theorem root_any (n s : Int) (w : World) (h0 : 0 ≤ n) (h1 : n ≤ 4611686018427387904) (hs : IsRoot n s) :
    Calls Try.prog 41 #[.int .i64 n] w fun e w' => e = .returned (.tuple #[.int .i64 s, .int .i64 0]) ∧ w = w' := by
  by_cases e : n = 0
  · subst e
    have : s = 0 := root_one hs ⟨by omega, by omega, by omega⟩
    subst this
    exact root_zero w
  · exact root_pos n s w (by omega) h1 hs

theorem rroot_any (n s : Int) (w : World) (_ : 0 ≤ n) (h1 : n ≤ 4611686018427387904) (hs : IsRoot n s) :
    Calls Try.prog 39 #[.int .i64 n] w fun e w' => e = .returned (.int .i64 s) ∧ w = w' := by
  have HS := hid hs
  have s0 := hs.1
  have s1 := root_bound hs h1
  clear hs
  go_enter Try.func39, Try.ntmps39
  go_wp2
  go_loop [3, 4] (fun x y => ∃ a b : Int, 0 ≤ a ∧ a ≤ s ∧ s < b ∧ b ≤ 2147483649 ∧ x = .int .i64 a ∧ y = .int .i64 b) (fun x y => (intOf y - intOf x).toNat)
  case atStart => exact ⟨0, 2147483649, by omega, by omega, by omega, by omega, rfl, rfl⟩
  case round =>
    obtain ⟨a, b, a1, a2, b1, b2, rfl, rfl⟩ := hrel
    by_cases hend : b - a > 1
    · have m1 : a < (a + b) / 2 := by omega
      have m2 : (a + b) / 2 < b := by omega
      have m3 := sq_le (show 0 ≤ (a + b) / 2 by omega) (show (a + b) / 2 ≤ 2147483649 by omega)
      have m4 : 0 ≤ (a + b) / 2 * ((a + b) / 2) := Int.mul_nonneg (by omega) (by omega)
      by_cases hle : (a + b) / 2 ≤ s
      · have m5 : (a + b) / 2 * ((a + b) / 2) ≤ n := Int.le_trans (sq_le (by omega) hle) HS.out.2.1
        go_wp2
        go_round
        case rel => exact ⟨_, _, by omega, hle, b1, b2, rfl, rfl⟩
        case measure => simp [intOf]; omega
      · have m5 : n < (a + b) / 2 * ((a + b) / 2) := Int.lt_of_lt_of_le HS.out.2.2 (sq_le (by omega) (by omega))
        go_wp2
        go_round
        case rel => exact ⟨_, _, a1, a2, by omega, by omega, rfl, rfl⟩
        case measure => simp [intOf]; omega
    · have e : a = s := by omega
      subst e
      go_wp2
      go_ret
      exact ⟨rfl, rfl⟩

end Go.Proofs.Ytjflgblplmgjlaa
