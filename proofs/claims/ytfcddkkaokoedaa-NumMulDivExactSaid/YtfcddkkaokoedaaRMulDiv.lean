/- What the reference's MulDiv returns: it doubles and adds, bit by bit. -/
import Derived.Test.YtfcddkkaokoedaaMulDiv
namespace Go.Proofs.Ytfcddkkaokoedaa
open Go Go.RowKit

theorem rmuldiv_no (r a b c : Int) (w : World) (h : (¬ Ins [a, b, c] ∧ r = 3) ∨ (Ins [a, b, c] ∧ c < 1 ∧ r = 1)) :
    Calls Try.prog 24 #[.int .i64 a, .int .i64 b, .int .i64 c] w fun e w' => e = .returned (.tuple #[.int .i64 0, .int .i64 r]) ∧ w = w' := by
  rcases h with ⟨h, rfl⟩ | ⟨h, hb, rfl⟩
  · rw [ins3] at h
    by_cases h1 : -1099511627776 ≤ a ∧ a ≤ 1099511627776
    · have c1 := number_yes a w h1
      by_cases h2 : -1099511627776 ≤ b ∧ b ≤ 1099511627776
      · have h3 : ¬ (-1099511627776 ≤ c ∧ c ≤ 1099511627776) := fun k => h ⟨h1, h2, k⟩
        have c2 := number_yes b w h2
        have c3 := number_no c w h3
        clear h h1 h2 h3
        go_enter Try.func24, Try.ntmps24
        go_wp2_with (first | (go_at_call 39; (with_reducible refine c1.mono ?_); rintro e w' ⟨rfl, rfl⟩) | (go_at_call 39; (with_reducible refine c2.mono ?_); rintro e w' ⟨rfl, rfl⟩) | (go_at_call 39; (with_reducible refine c3.mono ?_); rintro e w' ⟨rfl, rfl⟩))
        go_ret2
        exact ⟨rfl, rfl⟩
      · have c2 := number_no b w h2
        clear h h1 h2
        go_enter Try.func24, Try.ntmps24
        go_wp2_with (first | (go_at_call 39; (with_reducible refine c1.mono ?_); rintro e w' ⟨rfl, rfl⟩) | (go_at_call 39; (with_reducible refine c2.mono ?_); rintro e w' ⟨rfl, rfl⟩))
        go_ret2
        exact ⟨rfl, rfl⟩
    · clear h
      have c1 := number_no a w h1
      clear h1
      go_enter Try.func24, Try.ntmps24
      go_wp2_with (first | (go_at_call 39; (with_reducible refine c1.mono ?_); rintro e w' ⟨rfl, rfl⟩))
      go_ret2
      exact ⟨rfl, rfl⟩
  · obtain ⟨h1, h2, h3⟩ := ins3.mp h
    clear h
    have c1 := number_yes a w h1
    have c2 := number_yes b w h2
    have c3 := number_yes c w h3
    clear h1 h2 h3
    go_enter Try.func24, Try.ntmps24
    go_wp2_with (first | (go_at_call 39; (with_reducible refine c1.mono ?_); rintro e w' ⟨rfl, rfl⟩) | (go_at_call 39; (with_reducible refine c2.mono ?_); rintro e w' ⟨rfl, rfl⟩) | (go_at_call 39; (with_reducible refine c3.mono ?_); rintro e w' ⟨rfl, rfl⟩))
    go_ret2
    exact ⟨rfl, rfl⟩

/-- The state of the reference's loop: quotient and rest of b times the leading bits of A, behind k bits. -/
def Leads (A : Nat) (b c : Int) (k : Nat) (q r : Int) : Prop :=
  q * c + r = b * ((A / 2 ^ k : Nat) : Int) ∧ 0 ≤ r ∧ r < c ∧ -1125899906842624 ≤ q ∧ q ≤ 1125899906842624

theorem leads_start (A : Nat) (b c : Int) (hA : A ≤ 1099511627776) (hc : 1 ≤ c) : Leads A b c 42 0 0 := by
  have : A / 2 ^ 42 = 0 := Nat.div_eq_of_lt (by omega)
  refine ⟨?_, by omega, by omega, by omega, by omega⟩
  rw [this]; simp

theorem lead_bit (A k : Nat) : A / 2 ^ k = 2 * (A / 2 ^ (k + 1)) + A / 2 ^ k % 2 := by
  rw [Nat.pow_succ, ← Nat.div_div_eq_div_mul]
  omega

theorem leads_step {A : Nat} {b c : Int} {k : Nat} {q r R K : Int} (h : Leads A b c (k + 1) q r) (hc : 1 ≤ c) (hR : R = 2 * r + b * ((A / 2 ^ k % 2 : Nat) : Int)) (hK : R / c = K) :
    (2 * q + K) * c + (R - K * c) = b * ((A / 2 ^ k : Nat) : Int) ∧ 0 ≤ R - K * c ∧ R - K * c < c := by
  have e := Int.mul_ediv_add_emod R c
  have e1 := Int.emod_nonneg R (show c ≠ 0 by omega)
  have e2 := Int.emod_lt_of_pos R (show 0 < c by omega)
  rw [hK, Int.mul_comm] at e
  refine ⟨?_, by omega, by omega⟩
  have l := lead_bit A k
  generalize A / 2 ^ k % 2 = t at *
  rw [l, Int.natCast_add, Int.natCast_mul, Int.mul_add, Int.add_mul, Int.mul_assoc]
  have h1 := h.1
  rw [show b * (((2 : Nat) : Int) * ((A / 2 ^ (k + 1) : Nat) : Int)) = 2 * (b * ((A / 2 ^ (k + 1) : Nat) : Int)) by rw [Int.mul_left_comm]; rfl, ← h1]
  omega

/-- Out of the loop's bounds: the quotient is no number. -/
theorem leads_out {A : Nat} {b c : Int} {k : Nat} {q r : Int} (h : q * c + r = b * ((A / 2 ^ k : Nat) : Int)) (h0 : 0 ≤ r) (h1 : r < c) (hq : 1125899906842624 < q ∨ q < -1125899906842624) :
    ¬ (-1099511627776 ≤ b * (A : Int) / c ∧ b * (A : Int) / c ≤ 1099511627776) := by
  have l : A / 2 ^ k ≤ A := Nat.div_le_self _ _
  have l' : ((A / 2 ^ k : Nat) : Int) ≤ A := by omega
  have l0 : (0 : Int) ≤ ((A / 2 ^ k : Nat) : Int) := Int.natCast_nonneg _
  generalize ((A / 2 ^ k : Nat) : Int) = P at *
  have hc : 0 < c := by omega
  rcases hq with hq | hq
  · have b0 : 0 ≤ b := by
      by_cases hb : 0 ≤ b
      · exact hb
      · exfalso
        have : 0 ≤ (-b) * P := Int.mul_nonneg (by omega) l0
        rw [Int.neg_mul] at this
        have : 0 < q * c := Int.mul_pos (by omega) hc
        omega
    have m : b * P ≤ b * A := Int.mul_le_mul_of_nonneg_left l' b0
    have : q ≤ b * (A : Int) / c := by
      rw [Int.le_ediv_iff_mul_le hc]
      omega
    omega
  · have b0 : b ≤ 0 := by
      by_cases hb : b ≤ 0
      · exact hb
      · exfalso
        have : 0 ≤ b * P := Int.mul_nonneg (by omega) l0
        have : (q + 1) * c ≤ 0 := Int.mul_nonpos_of_nonpos_of_nonneg (by omega) (by omega)
        rw [Int.add_mul] at this
        omega
    have m : 0 ≤ (-b) * (A - P) := Int.mul_nonneg (by omega) (by omega)
    rw [Int.neg_mul, Int.mul_sub] at m
    have : b * (A : Int) / c < q + 1 := by
      rw [Int.ediv_lt_iff_lt_mul hc, Int.add_mul]
      omega
    omega

theorem leads_done {A : Nat} {b c q r : Int} (h : Leads A b c 0 q r) : b * (A : Int) / c = q := by
  obtain ⟨h1, h2, h3, -, -⟩ := h
  rw [Nat.pow_zero, Nat.div_one] at h1
  exact ((Int.ediv_emod_unique (a := b * (A : Int)) (b := c) (q := q) (r := r) (by omega)).mpr ⟨by rw [Int.mul_comm]; omega, h2, h3⟩).1

/-- The answer for a product b A. -/
def Quot (A : Nat) (b c v e : Int) : Prop :=
  ((-1099511627776 ≤ b * (A : Int) / c ∧ b * (A : Int) / c ≤ 1099511627776) ∧ v = b * (A : Int) / c ∧ e = 0) ∨ (¬ (-1099511627776 ≤ b * (A : Int) / c ∧ b * (A : Int) / c ≤ 1099511627776) ∧ v = 0 ∧ e = 10)

theorem low_bit (A k : Nat) (hA : A ≤ 1099511627776) : bits .and .i64 ((A : Int) / 2 ^ k) 1 = ((A / 2 ^ k % 2 : Nat) : Int) := by
  have l : A / 2 ^ k ≤ A := Nat.div_le_self _ _
  have e : (A : Int) / 2 ^ k = ((A / 2 ^ k : Nat) : Int) := by rw [Int.natCast_ediv, Int.natCast_pow]; rfl
  rw [e]
  generalize A / 2 ^ k = x at *
  have two63 : (2 : Int) ^ 63 = 9223372036854775808 := by decide
  have h := bits_mask .i64 63 (by decide) (fun n h0 h1 => by rw [two63] at h1; rw [IntKind.wrap_i64]; omega) 1 (by decide) (x : Int) (by omega) (by rw [two63]; omega)
  have e : ((2 : Int) ^ 1 - 1) = 1 := by decide
  rw [e] at h
  rw [h]
  omega

/-- What the walk needs of one round, for the bit t. -/
theorem round_facts {A : Nat} {b c : Int} {k : Nat} {q r : Int} (h : Leads A b c (k + 1) q r) (b1 : -1099511627776 ≤ b) (b2 : b ≤ 1099511627776) (c1 : 1 ≤ c) (c2 : c ≤ 1099511627776) (t R : Int) (ht : ((A / 2 ^ k % 2 : Nat) : Int) = t) (hR : R = 2 * r + b * t) (ht2 : t = 0 ∨ t = 1) :
    ∃ K p : Int, R / c = K ∧ K * c = p ∧ (2 * q + K) * c + (R - p) = b * ((A / 2 ^ k : Nat) : Int) ∧ 0 ≤ R - p ∧ R - p < c ∧ -4398046511104 ≤ K ∧ K ≤ 4398046511104 := by
  have r0 := h.2.1
  have r1 := h.2.2.1
  obtain ⟨s1, s2, s3⟩ := leads_step (R := R) h c1 (by rw [ht]; exact hR) rfl
  refine ⟨_, _, rfl, rfl, s1, s2, s3, ?_⟩
  have bt : b * t = 0 ∨ b * t = b := by rcases ht2 with rfl | rfl <;> simp
  have k1 : -4398046511104 ≤ R / c := by
    rw [Int.le_ediv_iff_mul_le (by omega)]
    omega
  have k2 : R / c < 4398046511104 := by
    rw [Int.ediv_lt_iff_lt_mul (by omega)]
    omega
  omega

theorem quot_over {A : Nat} {b c v e : Int} (h : Quot A b c v e) (hn : ¬ (-1099511627776 ≤ b * (A : Int) / c ∧ b * (A : Int) / c ≤ 1099511627776)) : v = 0 ∧ e = 10 := by
  rcases h with ⟨h, -⟩ | ⟨-, h⟩
  · exact absurd h hn
  · exact h

theorem quot_in {A : Nat} {b c v e q : Int} (h : Quot A b c v e) (hq : b * (A : Int) / c = q) (hn : -1099511627776 ≤ q ∧ q ≤ 1099511627776) : v = q ∧ e = 0 := by
  rcases h with ⟨-, h⟩ | ⟨h, -⟩
  · rw [hq] at h; exact h
  · rw [hq] at h; exact absurd hn h

set_option maxHeartbeats 2000000 in
theorem rmuldiv_pos (A : Nat) (b c v e : Int) (w : World) (hA : A ≤ 1099511627776) (b1 : -1099511627776 ≤ b) (b2 : b ≤ 1099511627776) (c1 : 1 ≤ c) (c2 : c ≤ 1099511627776) (h : Quot A b c v e) :
    Calls Try.prog 24 #[.int .i64 A, .int .i64 b, .int .i64 c] w fun x w' => x = .returned (.tuple #[.int .i64 v, .int .i64 e]) ∧ w = w' := by
  have k1 := number_yes A w (by omega)
  have k2 := number_yes b w (by omega)
  have k3 := number_yes c w (by omega)
  have H := hid h
  have L0 := hid (leads_start A b c hA c1)
  clear h
  go_enter Try.func24, Try.ntmps24
  go_wp2_with (first | (go_at_call 39; (with_reducible refine k1.mono ?_); rintro e w' ⟨rfl, rfl⟩) | (go_at_call 39; (with_reducible refine k2.mono ?_); rintro e w' ⟨rfl, rfl⟩) | (go_at_call 39; (with_reducible refine k3.mono ?_); rintro e w' ⟨rfl, rfl⟩))
  clear k1 k2 k3
  go_loop [8, 9, 10] (fun x y z => ∃ (q r i : Int) (k : Nat), k ≤ 42 ∧ i = k - 1 ∧ Hid (Leads A b c k q r) ∧ x = .int .i64 q ∧ y = .int .i64 r ∧ z = .int .i64 i) (fun _ _ z => (intOf z + 1).toNat)
  case atStart => exact ⟨0, 0, 41, 42, by omega, by omega, L0, rfl, rfl, rfl⟩
  case round =>
    clear L0
    obtain ⟨q, r, i, k, hk, hi, hl, rfl, rfl, rfl⟩ := hrel
    by_cases hz : k = 0
    · subst hz
      have hneg : i < 0 := by omega
      clear hi hk
      have D := leads_done hl.out
      by_cases hn : -1099511627776 ≤ q ∧ q ≤ 1099511627776
      · obtain ⟨rfl, rfl⟩ := quot_in H.out D hn
        have k1 := number_yes v w hn
        clear hl hn D H
        go_wp2_with (go_at_call 39; (with_reducible refine k1.mono ?_); rintro e w' ⟨rfl, rfl⟩)
        go_ret2
        exact ⟨rfl, rfl⟩
      · obtain ⟨rfl, rfl⟩ := quot_over H.out (by rw [D]; exact hn)
        have k1 := number_no q w hn
        clear hl hn D H
        go_wp2_with (go_at_call 39; (with_reducible refine k1.mono ?_); rintro e w' ⟨rfl, rfl⟩)
        go_ret2
        exact ⟨rfl, rfl⟩
    · obtain ⟨k, rfl⟩ : ∃ j, k = j + 1 := ⟨k - 1, by omega⟩
      obtain rfl : i = k := by omega
      have r0 := hl.out.2.1
      have r1 := hl.out.2.2.1
      have q0 := hl.out.2.2.2.1
      have q1 := hl.out.2.2.2.2
      have lb := low_bit A k hA
      rcases Nat.mod_two_eq_zero_or_one (A / 2 ^ k) with hb | hb
      · rw [hb] at lb
        obtain ⟨K, p, f1, f2, f3, f4, f5, f6, f7⟩ := round_facts hl.out b1 b2 c1 c2 0 (2 * r) (by rw [hb]; rfl) (by omega) (by omega)
        have kd := down_any (2 * r) c w c1 (by omega) (by omega) (by omega)
        rw [f1] at kd
        have F3 := hid f3
        clear f3 f1 hb hi hz
        by_cases g1 : 1125899906842624 < 2 * q + K
        · obtain ⟨rfl, rfl⟩ := quot_over H.out (leads_out F3.out f4 f5 (.inl g1))
          clear hl H F3
          go_wp2_with (go_at_call 40; (with_reducible refine kd.mono ?_); rintro e w' ⟨rfl, rfl⟩)
          go_ret2
          exact ⟨rfl, rfl⟩
        · by_cases g2 : 2 * q + K < -1125899906842624
          · obtain ⟨rfl, rfl⟩ := quot_over H.out (leads_out F3.out f4 f5 (.inr g2))
            clear hl H F3
            go_wp2_with (go_at_call 40; (with_reducible refine kd.mono ?_); rintro e w' ⟨rfl, rfl⟩)
            go_ret2
            exact ⟨rfl, rfl⟩
          · have L1 : Hid (Leads A b c k (2 * q + K) (2 * r - p)) := hid ⟨F3.out, f4, f5, by omega, by omega⟩
            clear hl F3 H
            go_wp2_with (go_at_call 40; (with_reducible refine kd.mono ?_); rintro e w' ⟨rfl, rfl⟩)
            go_round
            case rel => exact ⟨_, _, (k : Int) - 1, k, by omega, rfl, L1, rfl, rfl, rfl⟩
            case measure => simp [intOf]
      · rw [hb] at lb
        obtain ⟨K, p, f1, f2, f3, f4, f5, f6, f7⟩ := round_facts hl.out b1 b2 c1 c2 1 (2 * r + b) (by rw [hb]; rfl) (by omega) (by omega)
        have kd := down_any (2 * r + b) c w c1 (by omega) (by omega) (by omega)
        rw [f1] at kd
        have F3 := hid f3
        clear f3 f1 hb hi hz
        by_cases g1 : 1125899906842624 < 2 * q + K
        · obtain ⟨rfl, rfl⟩ := quot_over H.out (leads_out F3.out f4 f5 (.inl g1))
          clear hl H F3
          go_wp2_with (go_at_call 40; (with_reducible refine kd.mono ?_); rintro e w' ⟨rfl, rfl⟩)
          go_ret2
          exact ⟨rfl, rfl⟩
        · by_cases g2 : 2 * q + K < -1125899906842624
          · obtain ⟨rfl, rfl⟩ := quot_over H.out (leads_out F3.out f4 f5 (.inr g2))
            clear hl H F3
            go_wp2_with (go_at_call 40; (with_reducible refine kd.mono ?_); rintro e w' ⟨rfl, rfl⟩)
            go_ret2
            exact ⟨rfl, rfl⟩
          · have L1 : Hid (Leads A b c k (2 * q + K) (2 * r + b - p)) := hid ⟨F3.out, f4, f5, by omega, by omega⟩
            clear hl F3 H
            go_wp2_with (go_at_call 40; (with_reducible refine kd.mono ?_); rintro e w' ⟨rfl, rfl⟩)
            go_round
            case rel => exact ⟨_, _, (k : Int) - 1, k, by omega, rfl, L1, rfl, rfl, rfl⟩
            case measure => simp [intOf]

set_option maxHeartbeats 2000000 in
theorem rmuldiv_neg (A : Nat) (a b₀ b c v e : Int) (w : World) (hA : A ≤ 1099511627776) (b1 : -1099511627776 ≤ b) (b2 : b ≤ 1099511627776) (c1 : 1 ≤ c) (c2 : c ≤ 1099511627776) (h : Quot A b c v e) (ha : a < 0) (ea : -a = (A : Int)) (eb : -b₀ = b) :
    Calls Try.prog 24 #[.int .i64 a, .int .i64 b₀, .int .i64 c] w fun x w' => x = .returned (.tuple #[.int .i64 v, .int .i64 e]) ∧ w = w' := by
  have k1 := number_yes a w (by omega)
  have k2 := number_yes b₀ w (by omega)
  have k3 := number_yes c w (by omega)
  have H := hid h
  have L0 := hid (leads_start A b c hA c1)
  clear h
  go_enter Try.func24, Try.ntmps24
  go_wp2_with (first | (go_at_call 39; (with_reducible refine k1.mono ?_); rintro e w' ⟨rfl, rfl⟩) | (go_at_call 39; (with_reducible refine k2.mono ?_); rintro e w' ⟨rfl, rfl⟩) | (go_at_call 39; (with_reducible refine k3.mono ?_); rintro e w' ⟨rfl, rfl⟩))
  clear k1 k2 k3
  go_loop [8, 9, 10] (fun x y z => ∃ (q r i : Int) (k : Nat), k ≤ 42 ∧ i = k - 1 ∧ Hid (Leads A b c k q r) ∧ x = .int .i64 q ∧ y = .int .i64 r ∧ z = .int .i64 i) (fun _ _ z => (intOf z + 1).toNat)
  case atStart => exact ⟨0, 0, 41, 42, by omega, by omega, L0, rfl, rfl, rfl⟩
  case round =>
    clear L0
    obtain ⟨q, r, i, k, hk, hi, hl, rfl, rfl, rfl⟩ := hrel
    by_cases hz : k = 0
    · subst hz
      have hneg : i < 0 := by omega
      clear hi hk
      have D := leads_done hl.out
      by_cases hn : -1099511627776 ≤ q ∧ q ≤ 1099511627776
      · obtain ⟨rfl, rfl⟩ := quot_in H.out D hn
        have k1 := number_yes v w hn
        clear hl hn D H
        go_wp2_with (go_at_call 39; (with_reducible refine k1.mono ?_); rintro e w' ⟨rfl, rfl⟩)
        go_ret2
        exact ⟨rfl, rfl⟩
      · obtain ⟨rfl, rfl⟩ := quot_over H.out (by rw [D]; exact hn)
        have k1 := number_no q w hn
        clear hl hn D H
        go_wp2_with (go_at_call 39; (with_reducible refine k1.mono ?_); rintro e w' ⟨rfl, rfl⟩)
        go_ret2
        exact ⟨rfl, rfl⟩
    · obtain ⟨k, rfl⟩ : ∃ j, k = j + 1 := ⟨k - 1, by omega⟩
      obtain rfl : i = k := by omega
      have r0 := hl.out.2.1
      have r1 := hl.out.2.2.1
      have q0 := hl.out.2.2.2.1
      have q1 := hl.out.2.2.2.2
      have lb := low_bit A k hA
      rcases Nat.mod_two_eq_zero_or_one (A / 2 ^ k) with hb | hb
      · rw [hb] at lb
        obtain ⟨K, p, f1, f2, f3, f4, f5, f6, f7⟩ := round_facts hl.out b1 b2 c1 c2 0 (2 * r) (by rw [hb]; rfl) (by omega) (by omega)
        have kd := down_any (2 * r) c w c1 (by omega) (by omega) (by omega)
        rw [f1] at kd
        have F3 := hid f3
        clear f3 f1 hb hi hz
        by_cases g1 : 1125899906842624 < 2 * q + K
        · obtain ⟨rfl, rfl⟩ := quot_over H.out (leads_out F3.out f4 f5 (.inl g1))
          clear hl H F3
          go_wp2_with (go_at_call 40; (with_reducible refine kd.mono ?_); rintro e w' ⟨rfl, rfl⟩)
          go_ret2
          exact ⟨rfl, rfl⟩
        · by_cases g2 : 2 * q + K < -1125899906842624
          · obtain ⟨rfl, rfl⟩ := quot_over H.out (leads_out F3.out f4 f5 (.inr g2))
            clear hl H F3
            go_wp2_with (go_at_call 40; (with_reducible refine kd.mono ?_); rintro e w' ⟨rfl, rfl⟩)
            go_ret2
            exact ⟨rfl, rfl⟩
          · have L1 : Hid (Leads A b c k (2 * q + K) (2 * r - p)) := hid ⟨F3.out, f4, f5, by omega, by omega⟩
            clear hl F3 H
            go_wp2_with (go_at_call 40; (with_reducible refine kd.mono ?_); rintro e w' ⟨rfl, rfl⟩)
            go_round
            case rel => exact ⟨_, _, (k : Int) - 1, k, by omega, rfl, L1, rfl, rfl, rfl⟩
            case measure => simp [intOf]
      · rw [hb] at lb
        obtain ⟨K, p, f1, f2, f3, f4, f5, f6, f7⟩ := round_facts hl.out b1 b2 c1 c2 1 (2 * r + b) (by rw [hb]; rfl) (by omega) (by omega)
        have kd := down_any (2 * r + b) c w c1 (by omega) (by omega) (by omega)
        rw [f1] at kd
        have F3 := hid f3
        clear f3 f1 hb hi hz
        by_cases g1 : 1125899906842624 < 2 * q + K
        · obtain ⟨rfl, rfl⟩ := quot_over H.out (leads_out F3.out f4 f5 (.inl g1))
          clear hl H F3
          go_wp2_with (go_at_call 40; (with_reducible refine kd.mono ?_); rintro e w' ⟨rfl, rfl⟩)
          go_ret2
          exact ⟨rfl, rfl⟩
        · by_cases g2 : 2 * q + K < -1125899906842624
          · obtain ⟨rfl, rfl⟩ := quot_over H.out (leads_out F3.out f4 f5 (.inr g2))
            clear hl H F3
            go_wp2_with (go_at_call 40; (with_reducible refine kd.mono ?_); rintro e w' ⟨rfl, rfl⟩)
            go_ret2
            exact ⟨rfl, rfl⟩
          · have L1 : Hid (Leads A b c k (2 * q + K) (2 * r + b - p)) := hid ⟨F3.out, f4, f5, by omega, by omega⟩
            clear hl F3 H
            go_wp2_with (go_at_call 40; (with_reducible refine kd.mono ?_); rintro e w' ⟨rfl, rfl⟩)
            go_round
            case rel => exact ⟨_, _, (k : Int) - 1, k, by omega, rfl, L1, rfl, rfl, rfl⟩
            case measure => simp [intOf]

theorem rmuldiv_is (a b c v e : Int) (w : World) (h : MulDivIs a b c v e) :
    Calls Try.prog 24 #[.int .i64 a, .int .i64 b, .int .i64 c] w fun x w' => x = .returned (.tuple #[.int .i64 v, .int .i64 e]) ∧ w = w' := by
  rcases h with ⟨h, rfl, rfl⟩ | ⟨h, hc, rfl, rfl⟩ | h
  · exact rmuldiv_no 3 a b c w (.inl ⟨h, rfl⟩)
  · exact rmuldiv_no 1 a b c w (.inr ⟨h, hc, rfl⟩)
  · obtain ⟨hi, hc⟩ : Ins [a, b, c] ∧ 1 ≤ c := by rcases h with ⟨h1, h2, -⟩ | ⟨h1, h2, -⟩ <;> exact ⟨h1, h2⟩
    obtain ⟨⟨a1, a2⟩, ⟨b1, b2⟩, c1, c2⟩ := ins3.mp hi
    have hq : ∀ (A : Nat) (b' : Int), a * b = b' * A → Quot A b' c v e := fun A b' he => by
      unfold Quot
      rw [← he]
      rcases h with ⟨-, -, h⟩ | ⟨-, -, h⟩
      · exact .inl h
      · exact .inr h
    by_cases ha : a < 0
    · obtain ⟨A, hA⟩ : ∃ A : Nat, -a = A := ⟨a.natAbs, by omega⟩
      exact rmuldiv_neg A a b (-b) c v e w (by omega) (by omega) (by omega) hc c2 (hq A (-b) (by rw [← hA, Int.neg_mul_neg, Int.mul_comm])) ha hA rfl
    · obtain ⟨A, rfl⟩ : ∃ A : Nat, a = A := ⟨a.natAbs, by omega⟩
      exact rmuldiv_pos A b c v e w (by omega) b1 b2 hc c2 (hq A b (Int.mul_comm _ _))

end Go.Proofs.Ytfcddkkaokoedaa
