/- What MulDiv returns, and the reference's MulDiv: the quotient of a product, rounded down, or its error. -/
import Derived.Test.YtfcddkkaokoedaaDiv
import Derived.Test.YtfcddkkaokoedaaGcd
namespace Go.Proofs.Ytfcddkkaokoedaa
open Go Go.RowKit

theorem prod_same (a b : Int) (h : (0 ≤ a ∧ 0 ≤ b) ∨ (a < 0 ∧ b < 0)) : a * b = ((a.natAbs * b.natAbs : Nat) : Int) := by
  rw [← Int.natAbs_mul]
  rcases h with ⟨h, k⟩ | ⟨h, k⟩
  · have := Int.mul_nonneg h k
    omega
  · have := Int.mul_pos_of_neg_of_neg h k
    omega

theorem prod_diff (a b : Int) (h : (0 ≤ a ∧ b < 0) ∨ (a < 0 ∧ 0 ≤ b)) : a * b = -((a.natAbs * b.natAbs : Nat) : Int) := by
  rw [← Int.natAbs_mul]
  rcases h with ⟨h, k⟩ | ⟨h, k⟩
  · have := Int.mul_nonneg h (show 0 ≤ -b by omega)
    rw [Int.mul_neg] at this
    omega
  · have := Int.mul_nonneg (show 0 ≤ -a by omega) k
    rw [Int.neg_mul] at this
    omega

theorem neg_div (N C q r : Nat) (hC : 0 < C) (hq : N / C = q) (hr : N % C = r) : (r = 0 → (-(N : Int)) / C = -q) ∧ (r ≠ 0 → (-(N : Int)) / C = -(q + 1)) := by
  have e := Nat.div_add_mod N C
  have l := Nat.mod_lt N hC
  rw [hq, hr] at e
  rw [hr] at l
  have e' : (C : Int) * q + r = N := by omega
  constructor
  · intro h
    subst h
    rw [← e', Int.natCast_zero, Int.add_zero, Int.neg_mul_eq_mul_neg, Int.mul_ediv_cancel_left _ (by omega)]
  · intro h
    have u := Int.ediv_emod_unique (a := -(N : Int)) (b := C) (q := -((q : Int) + 1)) (r := C - r) (by omega)
    refine (u.mpr ⟨?_, by omega, by omega⟩).1
    rw [Int.mul_neg, Int.mul_add]
    omega

/-- The answer to a b and c: the number and the error. -/
def MulDivIs (a b c v e : Int) : Prop :=
  (¬ Ins [a, b, c] ∧ v = 0 ∧ e = 3) ∨ (Ins [a, b, c] ∧ c < 1 ∧ v = 0 ∧ e = 1) ∨
  (Ins [a, b, c] ∧ 1 ≤ c ∧ (-1099511627776 ≤ a * b / c ∧ a * b / c ≤ 1099511627776) ∧ v = a * b / c ∧ e = 0) ∨
  (Ins [a, b, c] ∧ 1 ≤ c ∧ ¬ (-1099511627776 ≤ a * b / c ∧ a * b / c ≤ 1099511627776) ∧ v = 0 ∧ e = 10)

theorem muldiv_some (a b c : Int) : ∃ v e, MulDivIs a b c v e := by
  by_cases h1 : Ins [a, b, c]
  · by_cases h2 : c < 1
    · exact ⟨_, _, .inr (.inl ⟨h1, h2, rfl, rfl⟩)⟩
    · by_cases h3 : -1099511627776 ≤ a * b / c ∧ a * b / c ≤ 1099511627776
      · exact ⟨_, _, .inr (.inr (.inl ⟨h1, by omega, h3, rfl, rfl⟩))⟩
      · exact ⟨_, _, .inr (.inr (.inr ⟨h1, by omega, h3, rfl, rfl⟩))⟩
  · exact ⟨_, _, .inl ⟨h1, rfl, rfl⟩⟩

theorem muldiv_no (r a b c : Int) (w : World) (h : (¬ Ins [a, b, c] ∧ r = 3) ∨ (Ins [a, b, c] ∧ c < 1 ∧ r = 1)) :
    Calls Try.prog 18 #[.int .i64 a, .int .i64 b, .int .i64 c] w fun e w' => e = .returned (.tuple #[.int .i64 0, .int .i64 r]) ∧ Grown w w' := by
  have k := chk3 r c a b c w (by rcases h with h | h; exact .inl h; exact .inr (.inl h))
  have hr : (r == 0) = false := by rcases h with ⟨-, rfl⟩ | ⟨-, -, rfl⟩ <;> rfl
  clear h
  go_enter Try.func18, Try.ntmps18
  go_wp2_with (go_at_call 30; (with_reducible refine k.mono ?_); rintro e w' ⟨rfl, rfl⟩)
  go_ret2
  exact ⟨rfl, by repeat (first | exact Grown.refl _ | apply Grown.drew | apply Grown.alloc)⟩

/-- What the walk needs of the two words, named. -/
theorem mul_is (A B N hi lo : Nat) (w : World) (hA : A ≤ 1099511627776) (hB : B ≤ 1099511627776) (hN : A * B = N) (h1 : N / 18446744073709551616 = hi) (h2 : N % 18446744073709551616 = lo) :
    Calls Try.prog 33 #[.int .u64 A, .int .u64 B] w fun e w' => e = .returned (.tuple #[.int .u64 hi, .int .u64 lo]) ∧ w = w' := by
  have := mul64_any A B w (by omega) (by omega)
  rw [hN, h1, h2] at this
  exact this

theorem div_is (C N hi lo q r : Nat) (w : World) (h1 : hi < C) (h2 : C < 18446744073709551616) (h3 : N / 18446744073709551616 = hi) (h4 : N % 18446744073709551616 = lo) (hq : N / C = q) (hr : N % C = r) :
    Calls Try.prog 35 #[.int .u64 hi, .int .u64 lo, .int .u64 C] w fun e w' => e = .returned (.tuple #[.int .u64 q, .int .u64 r]) ∧ Grown w w' := by
  refine (div64_any hi lo C w h1 h2 (by omega)).mono fun e w' ⟨q', r', e1, e2, e3, hg⟩ => ?_
  have e : hi * 18446744073709551616 + lo = N := by omega
  rw [e] at e1 e2
  rw [e1, e2, hq, hr] at e3
  exact ⟨e3, hg⟩

set_option maxHeartbeats 1000000 in
/-- The product is too great for the divisor, or the quotient for a number. -/
theorem muldiv_great (a b : Int) (C N q : Nat) (w : World) (h : Ins [a, b, (C : Int)]) (hC : 1 ≤ C) (hN : a.natAbs * b.natAbs = N) (hq : N / C = q) (hg : 1099511627776 < q) :
    Calls Try.prog 18 #[.int .i64 a, .int .i64 b, .int .i64 C] w fun e w' => e = .returned (.tuple #[.int .i64 0, .int .i64 10]) ∧ Grown w w' := by
  have k := chk3 0 C a b C w (.inr (.inr ⟨h, by omega, rfl⟩))
  obtain ⟨⟨a1, a2⟩, ⟨b1, b2⟩, c1, c2⟩ := ins3.mp h
  have NB : N ≤ 1208925819614629174706176 := by
    rw [← hN]
    exact Nat.mul_le_mul (show a.natAbs ≤ 1099511627776 by omega) (show b.natAbs ≤ 1099511627776 by omega)
  obtain ⟨hi, h1⟩ : ∃ hi, N / 18446744073709551616 = hi := ⟨_, rfl⟩
  obtain ⟨lo, h2⟩ : ∃ lo, N % 18446744073709551616 = lo := ⟨_, rfl⟩
  obtain ⟨r, hr⟩ : ∃ r, N % C = r := ⟨_, rfl⟩
  have hi1 : hi ≤ 65536 := by omega
  have k2 := fun w => magnitude_any a w (by omega) (by omega)
  have k3 := fun w => magnitude_any b w (by omega) (by omega)
  have k4 := fun w => mul_is a.natAbs b.natAbs N hi lo w (by omega) (by omega) hN h1 h2
  have CB : C < 18446744073709551616 := by omega
  have k5 := fun w hl => div_is C N hi lo q r w hl CB h1 h2 hq hr
  have QB : hi < C → q < 18446744073709551616 := fun hl => by
    rw [← hq]
    apply Nat.div_lt_of_lt_mul
    have : (hi + 1) * 18446744073709551616 ≤ C * 18446744073709551616 := Nat.mul_le_mul_right _ hl
    omega
  have RB : r < C := by rw [← hr]; exact Nat.mod_lt _ (by omega)
  have LB : lo < 18446744073709551616 := by omega
  generalize a.natAbs = A at k2 k4
  generalize b.natAbs = B at k3 k4
  clear h hN h1 h2 hq hr NB CB
  by_cases hl : hi < C
  · have k6 := fun w => k5 w hl
    have q2 := QB hl
    clear k5 QB
    go_enter Try.func18, Try.ntmps18
    go_wp2_with (first | (go_at_call 30; (with_reducible refine k.mono ?_); rintro e w' ⟨rfl, rfl⟩) | (go_at_call 34; (with_reducible refine (k2 _).mono ?_); rintro e w' ⟨rfl, rfl⟩) | (go_at_call 34; (with_reducible refine (k3 _).mono ?_); rintro e w' ⟨rfl, rfl⟩) | (go_at_call 33; (with_reducible refine (k4 _).mono ?_); rintro e w' ⟨rfl, rfl⟩) | (go_at_call 35; (with_reducible refine (k6 _).mono ?_); rintro e w' ⟨rfl, hg2⟩))
    go_ret2
    exact ⟨rfl, grown_trans (by repeat (first | exact Grown.refl _ | apply Grown.drew | apply Grown.alloc)) hg2⟩
  · clear k5 QB
    go_enter Try.func18, Try.ntmps18
    go_wp2_with (first | (go_at_call 30; (with_reducible refine k.mono ?_); rintro e w' ⟨rfl, rfl⟩) | (go_at_call 34; (with_reducible refine (k2 _).mono ?_); rintro e w' ⟨rfl, rfl⟩) | (go_at_call 34; (with_reducible refine (k3 _).mono ?_); rintro e w' ⟨rfl, rfl⟩) | (go_at_call 33; (with_reducible refine (k4 _).mono ?_); rintro e w' ⟨rfl, rfl⟩))
    go_ret2
    exact ⟨rfl, by repeat (first | exact Grown.refl _ | apply Grown.drew | apply Grown.alloc)⟩

set_option maxHeartbeats 1000000 in
/-- Both have one sign: the quotient itself. -/
theorem muldiv_same (a b : Int) (C N q r : Nat) (w : World) (h : Ins [a, b, (C : Int)]) (hC : 1 ≤ C) (hN : a.natAbs * b.natAbs = N) (hq : N / C = q) (hr : N % C = r) (hg : q ≤ 1099511627776) (hs : (0 ≤ a ∧ 0 ≤ b) ∨ (a < 0 ∧ b < 0)) :
    Calls Try.prog 18 #[.int .i64 a, .int .i64 b, .int .i64 C] w fun e w' => e = .returned (.tuple #[.int .i64 q, .int .i64 0]) ∧ Grown w w' := by
  have k := chk3 0 C a b C w (.inr (.inr ⟨h, by omega, rfl⟩))
  obtain ⟨⟨a1, a2⟩, ⟨b1, b2⟩, c1, c2⟩ := ins3.mp h
  have NB : N ≤ 1208925819614629174706176 := by
    rw [← hN]
    exact Nat.mul_le_mul (show a.natAbs ≤ 1099511627776 by omega) (show b.natAbs ≤ 1099511627776 by omega)
  obtain ⟨hi, h1⟩ : ∃ hi, N / 18446744073709551616 = hi := ⟨_, rfl⟩
  obtain ⟨lo, h2⟩ : ∃ lo, N % 18446744073709551616 = lo := ⟨_, rfl⟩
  have RB : r < C := by rw [← hr]; exact Nat.mod_lt _ (by omega)
  have hl : hi < C := by
    have e := Nat.div_add_mod N C
    rw [hq, hr] at e
    have : C * q ≤ C * 1099511627776 := Nat.mul_le_mul_left _ hg
    omega
  have hi1 : hi ≤ 65536 := by omega
  have k2 := fun w => magnitude_any a w (by omega) (by omega)
  have k3 := fun w => magnitude_any b w (by omega) (by omega)
  have k4 := fun w => mul_is a.natAbs b.natAbs N hi lo w (by omega) (by omega) hN h1 h2
  have CB : C < 18446744073709551616 := by omega
  have k6 := fun w => div_is C N hi lo q r w hl CB h1 h2 hq hr
  have LB : lo < 18446744073709551616 := by omega
  generalize a.natAbs = A at k2 k4
  generalize b.natAbs = B at k3 k4
  rcases hs with ⟨s1, s2⟩ | ⟨s1, s2⟩
  all_goals
    first | have d1 : decide (a < 0) = true := decide_eq_true (by omega) | have d1 : decide (a < 0) = false := decide_eq_false (by omega)
    first | have d2 : decide (b < 0) = true := decide_eq_true (by omega) | have d2 : decide (b < 0) = false := decide_eq_false (by omega)
    clear h hN h1 h2 hq hr NB CB
    go_enter Try.func18, Try.ntmps18
    go_wp2_with (first | (go_at_call 30; (with_reducible refine k.mono ?_); rintro e w' ⟨rfl, rfl⟩) | (go_at_call 34; (with_reducible refine (k2 _).mono ?_); rintro e w' ⟨rfl, rfl⟩) | (go_at_call 34; (with_reducible refine (k3 _).mono ?_); rintro e w' ⟨rfl, rfl⟩) | (go_at_call 33; (with_reducible refine (k4 _).mono ?_); rintro e w' ⟨rfl, rfl⟩) | (go_at_call 35; (with_reducible refine (k6 _).mono ?_); rintro e w' ⟨rfl, hg2⟩) | (go_at_call 36; (with_reducible refine (k7 _).mono ?_); rintro e w' ⟨rfl, rfl⟩))
    go_ret2
    exact ⟨rfl, grown_trans (by repeat (first | exact Grown.refl _ | apply Grown.drew | apply Grown.alloc)) hg2⟩

set_option maxHeartbeats 1000000 in
/-- The signs differ, and nothing is left: the opposite. -/
theorem muldiv_exact (a b : Int) (C N q r : Nat) (w : World) (h : Ins [a, b, (C : Int)]) (hC : 1 ≤ C) (hN : a.natAbs * b.natAbs = N) (hq : N / C = q) (hr : N % C = r) (hg : q ≤ 1099511627776) (hs : (0 ≤ a ∧ b < 0) ∨ (a < 0 ∧ 0 ≤ b)) (hz : r = 0) :
    Calls Try.prog 18 #[.int .i64 a, .int .i64 b, .int .i64 C] w fun e w' => e = .returned (.tuple #[.int .i64 (-(q : Int)), .int .i64 0]) ∧ Grown w w' := by
  have k := chk3 0 C a b C w (.inr (.inr ⟨h, by omega, rfl⟩))
  obtain ⟨⟨a1, a2⟩, ⟨b1, b2⟩, c1, c2⟩ := ins3.mp h
  have NB : N ≤ 1208925819614629174706176 := by
    rw [← hN]
    exact Nat.mul_le_mul (show a.natAbs ≤ 1099511627776 by omega) (show b.natAbs ≤ 1099511627776 by omega)
  obtain ⟨hi, h1⟩ : ∃ hi, N / 18446744073709551616 = hi := ⟨_, rfl⟩
  obtain ⟨lo, h2⟩ : ∃ lo, N % 18446744073709551616 = lo := ⟨_, rfl⟩
  have RB : r < C := by rw [← hr]; exact Nat.mod_lt _ (by omega)
  have hl : hi < C := by
    have e := Nat.div_add_mod N C
    rw [hq, hr] at e
    have : C * q ≤ C * 1099511627776 := Nat.mul_le_mul_left _ hg
    omega
  have hi1 : hi ≤ 65536 := by omega
  have k2 := fun w => magnitude_any a w (by omega) (by omega)
  have k3 := fun w => magnitude_any b w (by omega) (by omega)
  have k4 := fun w => mul_is a.natAbs b.natAbs N hi lo w (by omega) (by omega) hN h1 h2
  have CB : C < 18446744073709551616 := by omega
  have k6 := fun w => div_is C N hi lo q r w hl CB h1 h2 hq hr
  have LB : lo < 18446744073709551616 := by omega
  generalize a.natAbs = A at k2 k4
  generalize b.natAbs = B at k3 k4
  subst hz
  have k7 := fun w => negated_exact q w (by omega) (by omega)
  rcases hs with ⟨s1, s2⟩ | ⟨s1, s2⟩
  all_goals
    first | have d1 : decide (a < 0) = true := decide_eq_true (by omega) | have d1 : decide (a < 0) = false := decide_eq_false (by omega)
    first | have d2 : decide (b < 0) = true := decide_eq_true (by omega) | have d2 : decide (b < 0) = false := decide_eq_false (by omega)
    clear h hN h1 h2 hq hr NB CB
    go_enter Try.func18, Try.ntmps18
    go_wp2_with (first | (go_at_call 30; (with_reducible refine k.mono ?_); rintro e w' ⟨rfl, rfl⟩) | (go_at_call 34; (with_reducible refine (k2 _).mono ?_); rintro e w' ⟨rfl, rfl⟩) | (go_at_call 34; (with_reducible refine (k3 _).mono ?_); rintro e w' ⟨rfl, rfl⟩) | (go_at_call 33; (with_reducible refine (k4 _).mono ?_); rintro e w' ⟨rfl, rfl⟩) | (go_at_call 35; (with_reducible refine (k6 _).mono ?_); rintro e w' ⟨rfl, hg2⟩) | (go_at_call 36; (with_reducible refine (k7 _).mono ?_); rintro e w' ⟨rfl, rfl⟩))
    go_ret2
    exact ⟨rfl, grown_trans (by repeat (first | exact Grown.refl _ | apply Grown.drew | apply Grown.alloc)) hg2⟩

set_option maxHeartbeats 1000000 in
/-- The signs differ, and something is left: one below the opposite. -/
theorem muldiv_rest (a b : Int) (C N q r : Nat) (w : World) (h : Ins [a, b, (C : Int)]) (hC : 1 ≤ C) (hN : a.natAbs * b.natAbs = N) (hq : N / C = q) (hr : N % C = r) (hg : q ≤ 1099511627776) (hs : (0 ≤ a ∧ b < 0) ∨ (a < 0 ∧ 0 ≤ b)) (hz : r ≠ 0) (hg2 : q < 1099511627776) :
    Calls Try.prog 18 #[.int .i64 a, .int .i64 b, .int .i64 C] w fun e w' => e = .returned (.tuple #[.int .i64 (-((q : Int) + 1)), .int .i64 0]) ∧ Grown w w' := by
  have k := chk3 0 C a b C w (.inr (.inr ⟨h, by omega, rfl⟩))
  obtain ⟨⟨a1, a2⟩, ⟨b1, b2⟩, c1, c2⟩ := ins3.mp h
  have NB : N ≤ 1208925819614629174706176 := by
    rw [← hN]
    exact Nat.mul_le_mul (show a.natAbs ≤ 1099511627776 by omega) (show b.natAbs ≤ 1099511627776 by omega)
  obtain ⟨hi, h1⟩ : ∃ hi, N / 18446744073709551616 = hi := ⟨_, rfl⟩
  obtain ⟨lo, h2⟩ : ∃ lo, N % 18446744073709551616 = lo := ⟨_, rfl⟩
  have RB : r < C := by rw [← hr]; exact Nat.mod_lt _ (by omega)
  have hl : hi < C := by
    have e := Nat.div_add_mod N C
    rw [hq, hr] at e
    have : C * q ≤ C * 1099511627776 := Nat.mul_le_mul_left _ hg
    omega
  have hi1 : hi ≤ 65536 := by omega
  have k2 := fun w => magnitude_any a w (by omega) (by omega)
  have k3 := fun w => magnitude_any b w (by omega) (by omega)
  have k4 := fun w => mul_is a.natAbs b.natAbs N hi lo w (by omega) (by omega) hN h1 h2
  have CB : C < 18446744073709551616 := by omega
  have k6 := fun w => div_is C N hi lo q r w hl CB h1 h2 hq hr
  have LB : lo < 18446744073709551616 := by omega
  generalize a.natAbs = A at k2 k4
  generalize b.natAbs = B at k3 k4
  have r0 : ((r : Int) != 0) = true := by simp; omega
  have k7 := fun w => negated_rest q w (by omega) (by omega)
  rcases hs with ⟨s1, s2⟩ | ⟨s1, s2⟩
  all_goals
    first | have d1 : decide (a < 0) = true := decide_eq_true (by omega) | have d1 : decide (a < 0) = false := decide_eq_false (by omega)
    first | have d2 : decide (b < 0) = true := decide_eq_true (by omega) | have d2 : decide (b < 0) = false := decide_eq_false (by omega)
    clear h hN h1 h2 hq hr NB CB
    go_enter Try.func18, Try.ntmps18
    go_wp2_with (first | (go_at_call 30; (with_reducible refine k.mono ?_); rintro e w' ⟨rfl, rfl⟩) | (go_at_call 34; (with_reducible refine (k2 _).mono ?_); rintro e w' ⟨rfl, rfl⟩) | (go_at_call 34; (with_reducible refine (k3 _).mono ?_); rintro e w' ⟨rfl, rfl⟩) | (go_at_call 33; (with_reducible refine (k4 _).mono ?_); rintro e w' ⟨rfl, rfl⟩) | (go_at_call 35; (with_reducible refine (k6 _).mono ?_); rintro e w' ⟨rfl, hg2⟩) | (go_at_call 36; (with_reducible refine (k7 _).mono ?_); rintro e w' ⟨rfl, rfl⟩))
    go_ret2
    exact ⟨rfl, grown_trans (by repeat (first | exact Grown.refl _ | apply Grown.drew | apply Grown.alloc)) hg2⟩

set_option maxHeartbeats 1000000 in
/-- The signs differ, something is left, and the opposite is the least number. -/
theorem muldiv_below (a b : Int) (C N q r : Nat) (w : World) (h : Ins [a, b, (C : Int)]) (hC : 1 ≤ C) (hN : a.natAbs * b.natAbs = N) (hq : N / C = q) (hr : N % C = r) (hg : q ≤ 1099511627776) (hs : (0 ≤ a ∧ b < 0) ∨ (a < 0 ∧ 0 ≤ b)) (hz : r ≠ 0) (hg2 : q = 1099511627776) :
    Calls Try.prog 18 #[.int .i64 a, .int .i64 b, .int .i64 C] w fun e w' => e = .returned (.tuple #[.int .i64 0, .int .i64 10]) ∧ Grown w w' := by
  have k := chk3 0 C a b C w (.inr (.inr ⟨h, by omega, rfl⟩))
  obtain ⟨⟨a1, a2⟩, ⟨b1, b2⟩, c1, c2⟩ := ins3.mp h
  have NB : N ≤ 1208925819614629174706176 := by
    rw [← hN]
    exact Nat.mul_le_mul (show a.natAbs ≤ 1099511627776 by omega) (show b.natAbs ≤ 1099511627776 by omega)
  obtain ⟨hi, h1⟩ : ∃ hi, N / 18446744073709551616 = hi := ⟨_, rfl⟩
  obtain ⟨lo, h2⟩ : ∃ lo, N % 18446744073709551616 = lo := ⟨_, rfl⟩
  have RB : r < C := by rw [← hr]; exact Nat.mod_lt _ (by omega)
  have hl : hi < C := by
    have e := Nat.div_add_mod N C
    rw [hq, hr] at e
    have : C * q ≤ C * 1099511627776 := Nat.mul_le_mul_left _ hg
    omega
  have hi1 : hi ≤ 65536 := by omega
  have k2 := fun w => magnitude_any a w (by omega) (by omega)
  have k3 := fun w => magnitude_any b w (by omega) (by omega)
  have k4 := fun w => mul_is a.natAbs b.natAbs N hi lo w (by omega) (by omega) hN h1 h2
  have CB : C < 18446744073709551616 := by omega
  have k6 := fun w => div_is C N hi lo q r w hl CB h1 h2 hq hr
  have LB : lo < 18446744073709551616 := by omega
  generalize a.natAbs = A at k2 k4
  generalize b.natAbs = B at k3 k4
  subst hg2
  have r0 : ((r : Int) != 0) = true := by simp; omega
  have k7 := fun w => negated_over w
  rcases hs with ⟨s1, s2⟩ | ⟨s1, s2⟩
  all_goals
    first | have d1 : decide (a < 0) = true := decide_eq_true (by omega) | have d1 : decide (a < 0) = false := decide_eq_false (by omega)
    first | have d2 : decide (b < 0) = true := decide_eq_true (by omega) | have d2 : decide (b < 0) = false := decide_eq_false (by omega)
    clear h hN h1 h2 hq hr NB CB
    go_enter Try.func18, Try.ntmps18
    go_wp2_with (first | (go_at_call 30; (with_reducible refine k.mono ?_); rintro e w' ⟨rfl, rfl⟩) | (go_at_call 34; (with_reducible refine (k2 _).mono ?_); rintro e w' ⟨rfl, rfl⟩) | (go_at_call 34; (with_reducible refine (k3 _).mono ?_); rintro e w' ⟨rfl, rfl⟩) | (go_at_call 33; (with_reducible refine (k4 _).mono ?_); rintro e w' ⟨rfl, rfl⟩) | (go_at_call 35; (with_reducible refine (k6 _).mono ?_); rintro e w' ⟨rfl, hg2⟩) | (go_at_call 36; (with_reducible refine (k7 _).mono ?_); rintro e w' ⟨rfl, rfl⟩))
    go_ret2
    exact ⟨rfl, grown_trans (by repeat (first | exact Grown.refl _ | apply Grown.drew | apply Grown.alloc)) hg2⟩

theorem muldiv_is (a b c v e : Int) (w : World) (h : MulDivIs a b c v e) :
    Calls Try.prog 18 #[.int .i64 a, .int .i64 b, .int .i64 c] w fun x w' => x = .returned (.tuple #[.int .i64 v, .int .i64 e]) ∧ Grown w w' := by
  rcases h with ⟨h, rfl, rfl⟩ | ⟨h, hc, rfl, rfl⟩ | ⟨h, hc, ⟨f1, f2⟩, rfl, rfl⟩ | ⟨h, hc, hf, rfl, rfl⟩
  · exact muldiv_no 3 a b c w (.inl ⟨h, rfl⟩)
  · exact muldiv_no 1 a b c w (.inr ⟨h, hc, rfl⟩)
  all_goals
    obtain ⟨C, rfl⟩ : ∃ C : Nat, c = C := ⟨c.toNat, by omega⟩
    have hC : 1 ≤ C := by omega
    obtain ⟨N, hN⟩ : ∃ N, a.natAbs * b.natAbs = N := ⟨_, rfl⟩
    obtain ⟨q, hq⟩ : ∃ q, N / C = q := ⟨_, rfl⟩
    obtain ⟨r, hr⟩ : ∃ r, N % C = r := ⟨_, rfl⟩
    obtain ⟨n1, n2⟩ := neg_div N C q r (by omega) hq hr
    by_cases hs : (0 ≤ a ∧ 0 ≤ b) ∨ (a < 0 ∧ b < 0)
  · have p := prod_same a b hs
    rw [hN] at p
    have e : a * b / (C : Int) = q := by rw [p, ← hq]; rfl
    rw [e] at f2 ⊢
    exact muldiv_same a b C N q r w h hC hN hq hr (by omega) hs
  · have hs' : (0 ≤ a ∧ b < 0) ∨ (a < 0 ∧ 0 ≤ b) := by omega
    have p := prod_diff a b hs'
    rw [hN] at p
    by_cases hz : r = 0
    · have e : a * b / (C : Int) = -q := by rw [p]; exact n1 hz
      rw [e] at f1 ⊢
      exact muldiv_exact a b C N q r w h hC hN hq hr (by omega) hs' hz
    · have e : a * b / (C : Int) = -(q + 1) := by rw [p]; exact n2 hz
      rw [e] at f1 ⊢
      exact muldiv_rest a b C N q r w h hC hN hq hr (by omega) hs' hz (by omega)
  · have p := prod_same a b hs
    rw [hN] at p
    have e : a * b / (C : Int) = q := by rw [p, ← hq]; rfl
    rw [e] at hf
    exact muldiv_great a b C N q w h hC hN hq (by omega)
  · have hs' : (0 ≤ a ∧ b < 0) ∨ (a < 0 ∧ 0 ≤ b) := by omega
    have p := prod_diff a b hs'
    rw [hN] at p
    by_cases hg : 1099511627776 < q
    · exact muldiv_great a b C N q w h hC hN hq hg
    · by_cases hz : r = 0
      · have e : a * b / (C : Int) = -q := by rw [p]; exact n1 hz
        rw [e] at hf
        omega
      · have e : a * b / (C : Int) = -(q + 1) := by rw [p]; exact n2 hz
        rw [e] at hf
        exact muldiv_below a b C N q r w h hC hN hq hr (by omega) hs' hz (by omega)

end Go.Proofs.Ytfcddkkaokoedaa
