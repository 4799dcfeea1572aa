/- What bits.Div64 returns: quotient and remainder of two words by one; what bits.Mul64 returns: the two words of a product. -/
import Derived.Test.YtfcddkkaokoedaaBits
import Derived.Test.YtfcddkkaokoedaaRef
import Derived.Shelf.Bits.Mul64
namespace Go.Proofs.Ytfcddkkaokoedaa
open Go Go.RowKit

/-- The state of a trial division's loop: a trial digit q, not below the digit, and what it leaves of the leading word. -/
def Trial (u v1 Q q r : Nat) : Prop := q * v1 + r = u ∧ Q ≤ q ∧ q ≤ 4294967297 ∧ r < 4294967296

theorem digit_lt {u v z : Nat} (hu : u < v) (hz : z < 4294967296) : (u * 4294967296 + z) / v < 4294967296 := by
  apply Nat.div_lt_of_lt_mul
  have : (u + 1) * 4294967296 ≤ v * 4294967296 := Nat.mul_le_mul_right _ hu
  omega

theorem trial_start {u v v1 v0 z : Nat} (hv : v = v1 * 4294967296 + v0) (h0 : v0 < 4294967296) (h1 : 2147483648 ≤ v1) (h1' : v1 < 4294967296) (hu : u < v) (hz : z < 4294967296) :
    Trial u v1 ((u * 4294967296 + z) / v) (u / v1) (u % v1) := by
  refine ⟨by rw [Nat.mul_comm]; exact Nat.div_add_mod u v1, ?_, ?_, ?_⟩
  · rw [Nat.le_div_iff_mul_le (by omega)]
    have a := Nat.div_mul_le_self (u * 4294967296 + z) v
    generalize (u * 4294967296 + z) / v = Q at a ⊢
    rw [hv, Nat.mul_add, ← Nat.mul_assoc] at a
    generalize Q * v1 = p at a ⊢
    have : 0 ≤ Q * v0 := Nat.zero_le _
    omega
  · have a := Nat.div_mul_le_self u v1
    by_cases c : u / v1 ≤ 4294967297
    · exact c
    · have : 4294967298 * v1 ≤ u / v1 * v1 := Nat.mul_le_mul_right _ (by omega)
      omega
  · have := Nat.mod_lt u (show 0 < v1 by omega)
    omega

theorem trial_over {u v v1 v0 z q r : Nat} (hv : v = v1 * 4294967296 + v0) (hv' : 0 < v) (hq : (u * 4294967296 + z) / v < q) (he : q * v1 + r = u) : 4294967296 * r + z < q * v0 := by
  have a := Nat.lt_mul_of_div_lt hq hv'
  rw [hv, Nat.mul_add, ← Nat.mul_assoc] at a
  rw [← he] at a
  generalize q * v1 = p at a
  generalize q * v0 = p' at a ⊢
  omega

theorem trial_done {u v v1 v0 z q r : Nat} (hv : v = v1 * 4294967296 + v0) (hq : q = (u * 4294967296 + z) / v) (he : q * v1 + r = u) : q * v0 ≤ 4294967296 * r + z := by
  have a := Nat.div_mul_le_self (u * 4294967296 + z) v
  rw [← hq, hv, Nat.mul_add, ← Nat.mul_assoc] at a
  rw [← he] at a
  generalize q * v1 = p at a
  generalize q * v0 = p' at a ⊢
  omega

theorem trial_next {u v1 Q q r : Nat} (h : Trial u v1 Q q r) (hq : Q < q) (hr : r + v1 < 4294967296) : Trial u v1 Q (q - 1) (r + v1) := by
  obtain ⟨a, b, c, d⟩ := h
  obtain ⟨p, rfl⟩ : ∃ p, q = p + 1 := ⟨q - 1, by omega⟩
  refine ⟨?_, by omega, by omega, hr⟩
  rw [Nat.add_mul] at a
  simp only [Nat.add_sub_cancel]
  omega

theorem trial_break {u v v1 v0 z q r : Nat} (hv : v = v1 * 4294967296 + v0) (hv' : 0 < v) (h0 : v0 < 4294967296) (h : Trial u v1 ((u * 4294967296 + z) / v) q r) (hq : (u * 4294967296 + z) / v < q) (hr : 4294967296 ≤ r + v1) :
    q - 1 = (u * 4294967296 + z) / v := by
  obtain ⟨a, b, c, d⟩ := h
  have q1 : 1 ≤ q := Nat.lt_of_le_of_lt (Nat.zero_le _) hq
  by_cases e : (u * 4294967296 + z) / v < q - 1
  · obtain ⟨p, rfl⟩ : ∃ p, q = p + 1 := ⟨q - 1, by omega⟩
    simp only [Nat.add_sub_cancel] at e
    have t := trial_over hv hv' e (show p * v1 + (r + v1) = u by rw [Nat.add_mul] at a; omega)
    have : p * v0 ≤ 4294967296 * v0 := Nat.mul_le_mul_right _ (by omega)
    omega
  · omega

/-- The operands of Div64 after its shift by k. -/
def Norm (hi lo y k v v1 v0 u z z1 z0 : Nat) : Prop :=
  v = y * 2 ^ k ∧ v = v1 * 4294967296 + v0 ∧ v0 < 4294967296 ∧ 2147483648 ≤ v1 ∧ v1 < 4294967296 ∧ u < v ∧ z = z1 * 4294967296 + z0 ∧ z1 < 4294967296 ∧ z0 < 4294967296 ∧
  u * 18446744073709551616 + z = (hi * 18446744073709551616 + lo) * 2 ^ k

theorem norm_of {hi lo y k : Nat} (h1 : hi < y) (h3 : lo < 18446744073709551616) (hk : k ≤ 63) (k1 : 9223372036854775808 ≤ y * 2 ^ k) (k2 : y * 2 ^ k < 18446744073709551616) :
    Norm hi lo y k (y * 2 ^ k) (y * 2 ^ k / 4294967296) (y * 2 ^ k % 4294967296) (hi * 2 ^ k + lo / 2 ^ (64 - k)) (lo * 2 ^ k % 18446744073709551616)
      (lo * 2 ^ k % 18446744073709551616 / 4294967296) (lo * 2 ^ k % 18446744073709551616 % 4294967296) := by
  have e : 2 ^ (64 - k) * 2 ^ k = 18446744073709551616 := by rw [← Nat.pow_add, show 64 - k + k = 64 by omega]
  have l1 : lo / 2 ^ (64 - k) < 2 ^ k := by
    apply Nat.div_lt_of_lt_mul
    rw [e]; exact h3
  have l2 : lo * 2 ^ k / 18446744073709551616 = lo / 2 ^ (64 - k) := by
    rw [← e, Nat.mul_div_mul_right _ _ (Nat.two_pow_pos k)]
  have l3 := Nat.div_add_mod (lo * 2 ^ k) 18446744073709551616
  rw [l2] at l3
  have l4 : (hi + 1) * 2 ^ k ≤ y * 2 ^ k := Nat.mul_le_mul_right _ h1
  rw [Nat.add_mul] at l4
  refine ⟨rfl, by omega, by omega, by omega, by omega, by omega, by omega, by omega, by omega, ?_⟩
  rw [Nat.add_mul, Nat.add_mul, Nat.mul_right_comm]
  generalize lo / 2 ^ (64 - k) = d at *
  generalize hi * 2 ^ k = p at *
  omega

theorem norm_or {hi lo y k : Nat} (h1 : hi < y) (h3 : lo < 18446744073709551616) (hk : k ≤ 63) (k2 : y * 2 ^ k < 18446744073709551616) :
    bits .or .u64 (IntKind.u64.wrap ((hi : Int) * 2 ^ k)) ((lo : Int) / 2 ^ (64 - k)) = ((hi * 2 ^ k + lo / 2 ^ (64 - k) : Nat) : Int) := by
  have e : 2 ^ (64 - k) * 2 ^ k = 18446744073709551616 := by rw [← Nat.pow_add, show 64 - k + k = 64 by omega]
  have l1 : lo / 2 ^ (64 - k) < 2 ^ k := by
    apply Nat.div_lt_of_lt_mul
    rw [e]; exact h3
  have l4 : (hi + 1) * 2 ^ k ≤ y * 2 ^ k := Nat.mul_le_mul_right _ h1
  rw [Nat.add_mul] at l4
  have c1 : (hi : Int) * 2 ^ k = ((hi * 2 ^ k : Nat) : Int) := by rw [Int.natCast_mul, Int.natCast_pow]; rfl
  have c2 : (lo : Int) / 2 ^ (64 - k) = ((lo / 2 ^ (64 - k) : Nat) : Int) := by rw [Int.natCast_ediv, Int.natCast_pow]; rfl
  have c3 : 2 ^ k * hi ||| lo / 2 ^ (64 - k) = 2 ^ k * hi + lo / 2 ^ (64 - k) := (Nat.two_pow_add_eq_or_of_lt l1 hi).symm
  rw [Nat.mul_comm (2 ^ k) hi] at c3
  rw [c1, c2, Mul64.wrapN _ (by omega), bits_or_u64_nat _ _ (by omega) (by omega), c3]

/-- The two digits and the remainder. -/
theorem digits {N y k v u z z1 z0 Q1 R1 Q0 R0 : Nat} (a1 : v = y * 2 ^ k) (hv : 0 < v) (a7 : z = z1 * 4294967296 + z0) (a10 : u * 18446744073709551616 + z = N * 2 ^ k)
    (e1 : v * Q1 + R1 = u * 4294967296 + z1) (e2 : v * Q0 + R0 = R1 * 4294967296 + z0) (b2 : R0 < v) :
    N / y = Q1 * 4294967296 + Q0 ∧ N % y = R0 / 2 ^ k := by
  have e3 : N * 2 ^ k = (Q1 * 4294967296 + Q0) * v + R0 := by
    rw [← a10, a7, Nat.add_mul, Nat.mul_right_comm, Nat.mul_comm Q1 v, Nat.mul_comm Q0 v]
    omega
  have e4 : (N * 2 ^ k) / v = Q1 * 4294967296 + Q0 := by
    rw [e3, Nat.add_comm, Nat.add_mul_div_right _ _ hv, Nat.div_eq_of_lt b2, Nat.zero_add]
  have e5 : (N * 2 ^ k) % v = R0 := by
    rw [e3, Nat.add_comm, Nat.add_mul_mod_self_right, Nat.mod_eq_of_lt b2]
  rw [a1, Nat.mul_div_mul_right _ _ (Nat.two_pow_pos k)] at e4
  rw [a1, Nat.mul_mod_mul_right] at e5
  exact ⟨e4, by rw [← e5, Nat.mul_div_cancel _ (Nat.two_pow_pos k)]⟩

theorem prod_bound {q v0 : Nat} (hq : q < 4294967296) (h0 : v0 < 4294967296) : (0 : Int) ≤ (q : Int) * v0 ∧ (q : Int) * v0 ≤ 18446744065119617025 := by
  have a : q * v0 ≤ 4294967295 * 4294967295 := Nat.mul_le_mul (by omega) (by omega)
  omega

theorem left_one (u v1 q r : Nat) (he : q * v1 + r = u) (hu : u < 18446744073709551616) : IntKind.u64.wrap ((u : Int) - IntKind.u64.wrap ((q : Int) * v1)) = (r : Int) := by
  have h : (q : Int) * v1 + r = u := by omega
  have h0 : (0 : Int) ≤ (q : Int) * v1 := by omega
  generalize (q : Int) * v1 = p at h h0 ⊢
  simp only [IntKind.wrap_u64]
  omega

theorem ret_two {N y A B Q1 Q0 R0 k : Nat} (hA : N / y = A) (hB : N % y = B) (h : N / y = Q1 * 4294967296 + Q0 ∧ N % y = R0 / 2 ^ k) :
    Ending.returned (.tuple #[.int .u64 ((Q1 : Int) * 4294967296 + Q0), .int .u64 ((R0 : Int) / 2 ^ k)]) = .returned (.tuple #[.int .u64 A, .int .u64 B]) := by
  have e : (R0 : Int) / 2 ^ k = ((R0 / 2 ^ k : Nat) : Int) := by rw [Int.natCast_ediv, Int.natCast_pow]; rfl
  have e1 : (Q1 : Int) * 4294967296 + Q0 = A := by omega
  rw [e, ← h.2, hB, e1]

theorem int_u {a b : Int} (h : a = b) : Value.int .u64 a = Value.int .u64 b := by rw [h]

/-- The three ways out of the loop: the test says no; the sum of the rest says stop, behind a test that said yes for either reason. -/
theorem trial_exit {u v v1 v0 z q r Q : Nat} (hv : v = v1 * 4294967296 + v0) (hv' : 0 < v) (h0 : v0 < 4294967296) (hQ : (u * 4294967296 + z) / v = Q) (h : Trial u v1 Q q r) (hb : Q < 4294967296) (hs : ¬ (Q < q ∧ r + v1 < 4294967296)) :
    (Q = q ∧ decide (4294967296 ≤ (q : Int)) = false ∧ decide (4294967296 * (r : Int) + z < (q : Int) * v0) = false ∧ ((0 : Int) ≤ (q : Int) * v0 ∧ (q : Int) * v0 ≤ 18446744065119617025)) ∨
    ((q : Int) - 1 = Q ∧ decide (4294967296 ≤ (q : Int)) = true ∧ decide (4294967296 ≤ (r : Int) + v1) = true) ∨
    ((q : Int) - 1 = Q ∧ decide (4294967296 ≤ (q : Int)) = false ∧ decide (4294967296 * (r : Int) + z < (q : Int) * v0) = true ∧ decide (4294967296 ≤ (r : Int) + v1) = true ∧ ((0 : Int) ≤ (q : Int) * v0 ∧ (q : Int) * v0 ≤ 18446744065119617025)) := by
  by_cases hq : q = Q
  · refine .inl ⟨hq.symm, decide_eq_false (by omega), decide_eq_false ?_, prod_bound (by omega) h0⟩
    have := trial_done hv (by rw [hQ]; exact hq) h.1
    omega
  · have hlt : Q < q := by have := h.2.1; omega
    have hr : 4294967296 ≤ r + v1 := by omega
    have hbr := trial_break hv hv' h0 (by rw [hQ]; exact h) (by rw [hQ]; exact hlt) hr
    rw [hQ] at hbr
    rcases Nat.lt_or_ge q 4294967296 with c | c
    · refine .inr (.inr ⟨by omega, decide_eq_false (by omega), decide_eq_true ?_, decide_eq_true (by omega), prod_bound c h0⟩)
      have := trial_over hv hv' (by rw [hQ]; exact hlt) h.1
      omega
    · exact .inr (.inl ⟨by omega, decide_eq_true (by omega), decide_eq_true (by omega)⟩)

/-- What the wrapping difference of a trial division leaves. -/
theorem left_of (u z v Q R : Nat) (he : v * Q + R = u * 4294967296 + z) (hR : R < 18446744073709551616) :
    IntKind.u64.wrap (IntKind.u64.wrap (IntKind.u64.wrap ((u : Int) * 4294967296) + z) - IntKind.u64.wrap ((Q : Int) * v)) = (R : Int) := by
  have h : (v : Int) * Q + R = u * 4294967296 + z := by omega
  rw [Int.mul_comm] at h
  generalize (Q : Int) * v = p at h ⊢
  simp only [IntKind.wrap_u64]
  omega

set_option maxRecDepth 100000 in
set_option maxHeartbeats 4000000 in
theorem div64_long (hi lo y : Nat) (w : World) (h1 : hi < y) (h2 : y < 18446744073709551616) (h3 : lo < 18446744073709551616) (h4 : 1 ≤ hi) :
    Calls Try.prog 35 #[.int .u64 hi, .int .u64 lo, .int .u64 y] w fun e w' => e = .returned (.tuple #[.int .u64 ((hi * 18446744073709551616 + lo) / y : Nat), .int .u64 ((hi * 18446744073709551616 + lo) % y : Nat)]) ∧ w = w' := by
  obtain ⟨A, hA⟩ : ∃ A, (hi * 18446744073709551616 + lo) / y = A := ⟨_, rfl⟩
  obtain ⟨B, hB⟩ : ∃ B, (hi * 18446744073709551616 + lo) % y = B := ⟨_, rfl⟩
  rw [hA, hB]
  have HA := hid hA
  have HB := hid hB
  clear hA hB
  go_enter Try.func35, Try.ntmps35
  go_wp2_with (go_at_call 41; (with_reducible refine (zeros_any _ _ (by omega) (by omega)).mono ?_); rintro e w' ⟨k, k1, k2, k3, rfl, rfl⟩
               have c : (y : Int) * 2 ^ k = ((y * 2 ^ k : Nat) : Int) := by rw [Int.natCast_mul, Int.natCast_pow]; rfl
               have K2 : 9223372036854775808 ≤ y * 2 ^ k := by omega
               have K3 : y * 2 ^ k < 18446744073709551616 := by omega
               have hn := norm_of h1 h3 k1 K2 K3
               have e3 := norm_or h1 h3 k1 K3
               clear k2 k3
               obtain ⟨v, hv⟩ : ∃ v, y * 2 ^ k = v := ⟨_, rfl⟩
               rw [hv] at c hn K2 K3
               have e1 := Mul64.maskN v K3
               have e2 := Mul64.divN v
               obtain ⟨v0, hv0⟩ : ∃ v0, v % 4294967296 = v0 := ⟨_, rfl⟩
               obtain ⟨v1, hv1⟩ : ∃ v1, v / 4294967296 = v1 := ⟨_, rfl⟩
               rw [hv0] at e1 hn
               rw [hv1] at e2 hn
               obtain ⟨u, hu⟩ : ∃ u, hi * 2 ^ k + lo / 2 ^ (64 - k) = u := ⟨_, rfl⟩
               rw [hu] at e3 hn
               have e4 : IntKind.u64.wrap ((lo : Int) * 2 ^ k) = ((lo * 2 ^ k % 18446744073709551616 : Nat) : Int) := by
                 rw [← Mul64.wrapM, Int.natCast_mul, Int.natCast_pow]; rfl
               obtain ⟨z, hz⟩ : ∃ z, lo * 2 ^ k % 18446744073709551616 = z := ⟨_, rfl⟩
               rw [hz] at e4 hn
               have zb : z < 18446744073709551616 := by omega
               have e5 := Mul64.maskN z zb
               have e6 := Mul64.divN z
               obtain ⟨z0, hz0⟩ : ∃ z0, z % 4294967296 = z0 := ⟨_, rfl⟩
               obtain ⟨z1, hz1⟩ : ∃ z1, z / 4294967296 = z1 := ⟨_, rfl⟩
               rw [hz0] at e5 hn
               rw [hz1] at e6 hn
               clear hv hv0 hv1 hu hz hz0 hz1
               have n1 := hn.2.2.1
               have n2 := hn.2.2.2.1
               have n3 := hn.2.2.2.2.1
               have n4 : u < 18446744073709551616 := Nat.lt_trans hn.2.2.2.2.2.1 K3
               have n5 := hn.2.2.2.2.2.2.2.1
               have n6 := hn.2.2.2.2.2.2.2.2.1
               have HN := hid hn
               have t := trial_start hn.2.1 n1 n2 n3 hn.2.2.2.2.2.1 n5
               have e7 : (u : Int) / v1 = ((u / v1 : Nat) : Int) := by omega
               obtain ⟨q, hq⟩ : ∃ q, u / v1 = q := ⟨_, rfl⟩
               obtain ⟨r, hr⟩ : ∃ r, u % v1 = r := ⟨_, rfl⟩
               rw [hq] at e7
               rw [hq, hr] at t
               clear hq hr hn
               have t1 := t.1
               have n9 : q ≤ 4294967297 := t.2.2.1
               have n7 : (q : Int) * v1 ≤ u := by omega
               have n8 : (0 : Int) ≤ (q : Int) * v1 := by omega
               have e8 : (u : Int) - q * v1 = r := by omega
               have T := hid t
               clear t t1)
  clear c e1 e2 e3 e4 e5 e6 e7 e8 n7 n8 n9
  obtain ⟨Q1, hQ1⟩ : ∃ Q1, (u * 4294967296 + z1) / v = Q1 := ⟨_, rfl⟩
  obtain ⟨R1, hR1⟩ : ∃ R1, (u * 4294967296 + z1) % v = R1 := ⟨_, rfl⟩
  have q1b : Q1 < 4294967296 := by have := digit_lt HN.out.2.2.2.2.2.1 n5; omega
  have r1b : R1 < v := by have := Nat.mod_lt (u * 4294967296 + z1) (show 0 < v by omega); omega
  have E1 := left_of u z1 v Q1 R1 (by have := Nat.div_add_mod (u * 4294967296 + z1) v; rw [hQ1, hR1] at this; exact this) (by omega)
  have HQ1 := hid hQ1
  have HR1 := hid hR1
  rw [hQ1] at T
  clear hQ1 hR1
  have HE1 := hid E1
  clear E1
  obtain ⟨Q0, hQ0⟩ : ∃ Q0, (R1 * 4294967296 + z0) / v = Q0 := ⟨_, rfl⟩
  obtain ⟨R0, hR0⟩ : ∃ R0, (R1 * 4294967296 + z0) % v = R0 := ⟨_, rfl⟩
  have q0b : Q0 < 4294967296 := by have := digit_lt r1b n6; omega
  have r0b : R0 < v := by have := Nat.mod_lt (R1 * 4294967296 + z0) (show 0 < v by omega); omega
  have E0 := left_of R1 z0 v Q0 R0 (by have := Nat.div_add_mod (R1 * 4294967296 + z0) v; rw [hQ0, hR0] at this; exact this) (by omega)
  have HE0 := hid E0
  have HQ0 := hid hQ0
  have HR0 := hid hR0
  have vpos : 0 < v := by omega
  have t' := trial_start HN.out.2.1 n1 n2 n3 r1b n6
  have e7' : (R1 : Int) / v1 = ((R1 / v1 : Nat) : Int) := by omega
  obtain ⟨q', hq'⟩ : ∃ q', R1 / v1 = q' := ⟨_, rfl⟩
  obtain ⟨r', hr'⟩ : ∃ r', R1 % v1 = r' := ⟨_, rfl⟩
  rw [hq'] at e7'
  rw [hq', hr', hQ0] at t'
  clear hq' hr'
  have t1' := t'.1
  have S := hid (show (R1 : Int) / v1 = q' ∧ q' ≤ 4294967297 ∧ IntKind.u64.wrap ((R1 : Int) - IntKind.u64.wrap ((q' : Int) * v1)) = r' from ⟨e7', t'.2.2.1, left_one _ _ _ _ t1' (by omega)⟩)
  have T' := hid t'
  have HD := hid (digits HN.out.1 vpos HN.out.2.2.2.2.2.2.1 HN.out.2.2.2.2.2.2.2.2.2 (by have := Nat.div_add_mod (u * 4294967296 + z1) v; rw [HQ1.out, HR1.out] at this; exact this)
    (by have := Nat.div_add_mod (R1 * 4294967296 + z0) v; rw [hQ0, hR0] at this; exact this) r0b)
  have R0B := hid (show R0 < 18446744073709551616 by omega)
  clear hQ0 hR0 E0 h1 h2 h3 h4 K2 K3 n4 zb t' t1' e7'
  go_loop [15, 16] (fun x y => ∃ q r : Nat, Hid (Trial u v1 Q1 q r) ∧ x = .int .u64 q ∧ y = .int .u64 r) (fun x _ => (intOf x).toNat)
  case atStart => exact ⟨q, r, T, rfl, rfl⟩
  case round =>
    clear T
    obtain ⟨q, r, ht, rfl, rfl⟩ := hrel
    have rb := ht.out.2.2.2
    have qb := ht.out.2.2.1
    have ql := ht.out.2.1
    by_cases hstay : Q1 < q ∧ r + v1 < 4294967296
    · obtain ⟨hlt, hr⟩ := hstay
      have TN := hid (trial_next ht.out hlt hr)
      have f1 := trial_over HN.out.2.1 vpos (by rw [HQ1.out]; exact hlt) ht.out.1
      have g3 : decide (4294967296 ≤ (r : Int) + v1) = false := decide_eq_false (by omega)
      rcases Nat.lt_or_ge q 4294967296 with c | c
      · have f2 := prod_bound c n1
        have g1 : decide (4294967296 ≤ (q : Int)) = false := decide_eq_false (by omega)
        have g2 : decide (4294967296 * (r : Int) + z1 < (q : Int) * v0) = true := decide_eq_true (by omega)
        clear f1
        go_wp2
        go_round
        case rel => exact ⟨q - 1, r + v1, TN, int_u (by omega), int_u (by omega)⟩
        case measure => simp [intOf]; omega
      · have g1 : decide (4294967296 ≤ (q : Int)) = true := decide_eq_true (by omega)
        clear f1
        go_wp2
        go_round
        case rel => exact ⟨q - 1, r + v1, TN, int_u (by omega), int_u (by omega)⟩
        case measure => simp [intOf]; omega
    · have hex := trial_exit HN.out.2.1 vpos n1 HQ1.out ht.out q1b hstay
      have E1 := HE1.out
      obtain ⟨s1, s2, s3⟩ := S.out
      have E0 := HE0.out
      clear hstay
      rcases hex with ⟨rfl, x2, x3, x4⟩ | ⟨x1, x2, x3⟩ | ⟨x1, x2, x3, x4, x5⟩
      all_goals
        clear HQ1 HR1 HE1 S HE0 ht
        go_wp2
        go_loop [18, 16] (fun x y => ∃ q r : Nat, Hid (Trial R1 v1 Q0 q r) ∧ x = .int .u64 q ∧ y = .int .u64 r) (fun x _ => (intOf x).toNat)
        case atStart => exact ⟨q', r', T', rfl, rfl⟩
        case round =>
          clear T' E1 s1 s3 x2 x3
          obtain ⟨q, r, ht, rfl, rfl⟩ := hrel
          have rb := ht.out.2.2.2
          have qb := ht.out.2.2.1
          have ql := ht.out.2.1
          by_cases hstay : Q0 < q ∧ r + v1 < 4294967296
          · clear E0
            obtain ⟨hlt, hr⟩ := hstay
            have TN := hid (trial_next ht.out hlt hr)
            have f1 := trial_over HN.out.2.1 vpos (by rw [HQ0.out]; exact hlt) ht.out.1
            have g3 : decide (4294967296 ≤ (r : Int) + v1) = false := decide_eq_false (by omega)
            rcases Nat.lt_or_ge q 4294967296 with c | c
            · have f2 := prod_bound c n1
              have g1 : decide (4294967296 ≤ (q : Int)) = false := decide_eq_false (by omega)
              have g2 : decide (4294967296 * (r : Int) + z0 < (q : Int) * v0) = true := decide_eq_true (by omega)
              clear f1
              go_wp2
              go_round
              case rel => exact ⟨q - 1, r + v1, TN, int_u (by omega), int_u (by omega)⟩
              case measure => simp [intOf]; omega
            · have g1 : decide (4294967296 ≤ (q : Int)) = true := decide_eq_true (by omega)
              clear f1
              go_wp2
              go_round
              case rel => exact ⟨q - 1, r + v1, TN, int_u (by omega), int_u (by omega)⟩
              case measure => simp [intOf]; omega
          · have hex := trial_exit HN.out.2.1 vpos n1 HQ0.out ht.out q0b hstay
            clear hstay ht
            rcases hex with ⟨rfl, x2, x3, x4⟩ | ⟨x1, x2, x3⟩ | ⟨x1, x2, x3, x4, x5⟩
            all_goals
              go_wp2
              go_ret2
              exact ⟨ret_two HA.out HB.out HD.out, rfl⟩

theorem u64_of (a : Nat) (h : a < 18446744073709551616) : IntKind.u64.wrap (a : Int) = a := by rw [IntKind.wrap_u64]; omega

theorem div64_short (lo y : Nat) (w : World) (h1 : 0 < y) (h3 : lo < 18446744073709551616) :
    Calls Try.prog 35 #[.int .u64 0, .int .u64 lo, .int .u64 y] w fun e w' => e = .returned (.tuple #[.int .u64 (lo / y : Nat), .int .u64 (lo % y : Nat)]) ∧ Grown w w' := by
  have y1 : (1 : Int) ≤ y := by omega
  have y2 : ((y : Int) == 0) = false := by rw [beq_eq_false_iff_ne]; omega
  have y3 : ¬ (y : Int) ≤ 0 := by omega
  have y4 : ¬ y ≤ 0 := by omega
  have e1 : (lo : Int) / y = ((lo / y : Nat) : Int) := by omega
  have e2 : (lo : Int) % y = ((lo % y : Nat) : Int) := by omega
  have e3 : (lo : Int).tdiv y = ((lo / y : Nat) : Int) := by rw [Int.tdiv_eq_ediv_of_nonneg (by omega)]; exact e1
  have e4 : (lo : Int).tmod y = ((lo % y : Nat) : Int) := by rw [Int.tmod_eq_emod_of_nonneg (by omega)]; exact e2
  have d1 : lo / y < 18446744073709551616 := Nat.lt_of_le_of_lt (Nat.div_le_self _ _) h3
  have d2 : lo % y < 18446744073709551616 := Nat.lt_of_le_of_lt (Nat.mod_le _ _) h3
  have e5 := u64_of _ d1
  have e6 := u64_of _ d2
  clear h1 h3 d1 d2
  generalize lo / y = q at *
  generalize lo % y = r at *
  go_enter Try.func35, Try.ntmps35
  go_wp2_with fail
  go_region
  all_goals
    go_wp2
    go_ret2
    exact ⟨rfl, by repeat (first | exact Grown.refl _ | apply Grown.drew | apply Grown.alloc)⟩

theorem high_word {x0 x1 y0 y1 P00 P10 P01 P11 : Nat} (h1 : x0 * y0 = P00) (h2 : x1 * y0 = P10) (h3 : x0 * y1 = P01) (h4 : x1 * y1 = P11) :
    P11 + (P10 + P00 / 4294967296) / 4294967296 + ((P10 + P00 / 4294967296) % 4294967296 + P01) / 4294967296 = (x1 * 4294967296 + x0) * (y1 * 4294967296 + y0) / 18446744073709551616 := by
  rw [Lib.split_mul, h1, h2, h3, h4]
  omega

theorem ret_high {a b c hi lo : Nat} (h : a + b + c = hi) : Ending.returned (.tuple #[.int .u64 ((a : Int) + b + c), .int .u64 lo]) = .returned (.tuple #[.int .u64 hi, .int .u64 lo]) := by
  rw [← h]; rfl

theorem mul64_any (x y : Nat) (w : World) (hx : x < 18446744073709551616) (hy : y < 18446744073709551616) :
    Calls Try.prog 33 #[.int .u64 x, .int .u64 y] w fun e w' => e = .returned (.tuple #[.int .u64 (x * y / 18446744073709551616 : Nat), .int .u64 (x * y % 18446744073709551616 : Nat)]) ∧ w = w' := by
  have m1 := Mul64.maskN x hx
  have m2 := Mul64.divN x
  have m3 := Mul64.maskN y hy
  have m4 := Mul64.divN y
  have hxe : x = x / 4294967296 * 4294967296 + x % 4294967296 := by omega
  have hye : y = y / 4294967296 * 4294967296 + y % 4294967296 := by omega
  have c1 : x / 4294967296 ≤ 4294967295 := by omega
  have c2 : y / 4294967296 ≤ 4294967295 := by omega
  have c3 : x % 4294967296 ≤ 4294967295 := by omega
  have c4 : y % 4294967296 ≤ 4294967295 := by omega
  generalize x / 4294967296 = x1 at m1 m2 hxe c1
  generalize x % 4294967296 = x0 at m1 m2 hxe c3
  generalize y / 4294967296 = y1 at m3 m4 hye c2
  generalize y % 4294967296 = y0 at m3 m4 hye c4
  obtain ⟨P00, h1⟩ : ∃ P, x0 * y0 = P := ⟨_, rfl⟩
  obtain ⟨P10, h2⟩ : ∃ P, x1 * y0 = P := ⟨_, rfl⟩
  obtain ⟨P01, h3⟩ : ∃ P, x0 * y1 = P := ⟨_, rfl⟩
  obtain ⟨P11, h4⟩ : ∃ P, x1 * y1 = P := ⟨_, rfl⟩
  have b1 : P00 ≤ 18446744065119617025 := by rw [← h1]; exact Lib.half_mul_le c3 c4
  have b2 : P10 ≤ 18446744065119617025 := by rw [← h2]; exact Lib.half_mul_le c1 c4
  have b3 : P01 ≤ 18446744065119617025 := by rw [← h3]; exact Lib.half_mul_le c3 c2
  have b4 : P11 ≤ 18446744065119617025 := by rw [← h4]; exact Lib.half_mul_le c1 c2
  have hh := high_word h1 h2 h3 h4
  rw [← hxe, ← hye] at hh
  have r1 : (x0 : Int) * y0 = P00 := by omega
  have r2 : (x1 : Int) * y0 = P10 := by omega
  have r3 : (x0 : Int) * y1 = P01 := by omega
  have r4 : (x1 : Int) * y1 = P11 := by omega
  have r5 : bits .and .u64 ((P10 : Int) + (P00 : Int) / 4294967296) 4294967295 = (((P10 + P00 / 4294967296) % 4294967296 : Nat) : Int) := by
    rw [← Mul64.maskN _ (by omega)]; rfl
  obtain ⟨T, hT⟩ : ∃ T, (P10 + P00 / 4294967296) % 4294967296 = T := ⟨_, rfl⟩
  have bT : T ≤ 4294967295 := by omega
  rw [hT] at r5 hh
  have r6 : IntKind.u64.wrap ((x : Int) * y) = ((x * y % 18446744073709551616 : Nat) : Int) := by rw [← Mul64.wrapM]; rfl
  have hz : x * y / 18446744073709551616 ≤ 18446744073709551615 := by
    have : x * y ≤ 18446744073709551615 * 18446744073709551615 := Nat.mul_le_mul (by omega) (by omega)
    omega
  generalize x * y % 18446744073709551616 = lo at r6 ⊢
  generalize x * y / 18446744073709551616 = hi at hh hz ⊢
  have HH := hid hh
  clear hh h1 h2 h3 h4 hxe hye hx hy hT c1 c2 c3 c4
  go_enter Try.func33, Try.ntmps33
  go_wp2
  go_ret2
  exact ⟨ret_high HH.out, rfl⟩

def DivGives (hi lo y : Nat) (w : World) (e : Ending) (w' : World) : Prop :=
  ∃ q r : Nat, q = (hi * 18446744073709551616 + lo) / y ∧ r = (hi * 18446744073709551616 + lo) % y ∧ e = .returned (.tuple #[.int .u64 q, .int .u64 r]) ∧ Grown w w'

theorem div64_any (hi lo y : Nat) (w : World) (h1 : hi < y) (h2 : y < 18446744073709551616) (h3 : lo < 18446744073709551616) :
    Calls Try.prog 35 #[.int .u64 hi, .int .u64 lo, .int .u64 y] w (DivGives hi lo y w) := by
  by_cases h : hi = 0
  · subst h
    refine (div64_short lo y w h1 h3).mono fun e w' ⟨he, hg⟩ => ⟨_, _, rfl, rfl, ?_, hg⟩
    rw [Nat.zero_mul, Nat.zero_add]; exact he
  · refine (div64_long hi lo y w h1 h2 h3 (by omega)).mono fun e w' ⟨he, hg⟩ => ⟨_, _, rfl, rfl, he, ?_⟩
    rw [← hg]; exact Grown.refl _

theorem negated_exact (q : Int) (w : World) (h0 : 0 ≤ q) (h1 : q ≤ 1099511627776) :
    Calls Try.prog 36 #[.int .i64 q, .bool false] w fun e w' => e = .returned (.tuple #[.int .i64 (-q), .int .i64 0]) ∧ w = w' := by
  go_enter Try.func36, Try.ntmps36
  go_wp2
  go_ret2
  exact ⟨rfl, rfl⟩

theorem negated_rest (q : Int) (w : World) (h0 : 0 ≤ q) (h1 : q < 1099511627776) :
    Calls Try.prog 36 #[.int .i64 q, .bool true] w fun e w' => e = .returned (.tuple #[.int .i64 (-(q + 1)), .int .i64 0]) ∧ w = w' := by
  go_enter Try.func36, Try.ntmps36
  go_wp2
  go_ret2
  exact ⟨rfl, rfl⟩

theorem negated_over (w : World) :
    Calls Try.prog 36 #[.int .i64 1099511627776, .bool true] w fun e w' => e = .returned (.tuple #[.int .i64 0, .int .i64 10]) ∧ w = w' := by
  go_enter Try.func36, Try.ntmps36
  go_wp2
  go_ret2
  exact ⟨rfl, rfl⟩

end Go.Proofs.Ytfcddkkaokoedaa
