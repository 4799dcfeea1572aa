/- Digits and the numbers that they spell: both ways, without a program. -/
import Derived.Test.YtijkoaggcmgjiabDoorDig
namespace Go.Proofs.YtijkoaggcmgjiabDoor
open Go
set_option linter.unusedVariables false
set_option linter.unusedSimpArgs false

/-- Digits as a number is written with them. -/
structure Dg (d : List UInt8) : Prop where
  ne : d ≠ []
  all : ∀ b ∈ d, isDig b = true
  head : ∀ r, d = 48 :: r → r = []
theorem dval_nil : dval [] = 0 := rfl
theorem dval_zero : ∀ (d : List UInt8) (n : Nat), n ≤ d.foldl (fun n b => 10 * n + (b.toNat - 48)) n
  | [], n => Nat.le_refl n
  | b :: r, n => by
    have := dval_zero r (10 * n + (b.toNat - 48))
    simp only [List.foldl_cons]
    omega
/-- A number that begins with another digit than 0 is not 0. -/
theorem dval_pos {b : UInt8} {r : List UInt8} (hb : isDig b = true) (h : b ≠ 48) : 0 < dval (b :: r) := by
  unfold dval
  rw [List.foldl_cons]
  have h1 := dval_zero r (10 * 0 + (b.toNat - 48))
  have h2 := dig_bounds hb
  have h3 : b.toNat ≠ 48 := fun e => h (UInt8.toNat_inj.1 e)
  omega
theorem ofNat_digit {b : UInt8} (h : isDig b = true) : UInt8.ofNat (48 + (b.toNat - 48)) = b := by
  have := dig_bounds h
  rw [show 48 + (b.toNat - 48) = b.toNat by omega]
  exact UInt8.ofNat_toNat
theorem digits_dval : ∀ (n : Nat) (d : List UInt8), d.length ≤ n → Dg d → Lib.decDigits (dval d) = d
  | n, d, hn, h => by
    obtain ⟨d', b, rfl⟩ : ∃ d' b, d = d' ++ [b] := ⟨d.dropLast, d.getLast h.ne, (List.dropLast_concat_getLast h.ne).symm⟩
    have hb := h.all b (by simp)
    have hbb := dig_bounds hb
    rw [dval_snoc]
    cases hd : d' with
    | nil =>
      rw [dval_nil, List.nil_append, Nat.mul_zero, Nat.zero_add, Lib.decDigits, dif_pos (by omega), ofNat_digit hb]
    | cons c r =>
      rw [← hd]
      have hc48 : c ≠ 48 := fun e => by
        subst e
        have := h.head (r ++ [b]) (by rw [hd]; rfl)
        simp at this
      have hdg : Dg d' := ⟨by rw [hd]; simp, fun x hx => h.all x (by simp [hx]), fun r' e => by rw [hd] at e; injection e with e1 _; exact absurd e1 hc48⟩
      have hpos : 0 < dval d' := by rw [hd]; exact dval_pos (h.all c (by rw [hd]; simp)) hc48
      match n, hn with
      | 0, hn => simp at hn
      | n + 1, hn =>
        have ih := digits_dval n d' (by simp at hn; omega) hdg
        rw [Lib.decDigits, dif_neg (by omega), show (10 * dval d' + (b.toNat - 48)) / 10 = dval d' by omega, show (10 * dval d' + (b.toNat - 48)) % 10 = b.toNat - 48 by omega, ih, ofNat_digit hb]
theorem isDig_of (u : Nat) : isDig (UInt8.ofNat (48 + u % 10)) = true := by
  have h1 : (UInt8.ofNat (48 + u % 10)).toNat = 48 + u % 10 := by simp; omega
  unfold isDig
  rw [h1]
  simp
  omega
theorem dval_digits : ∀ (n u : Nat), u ≤ n → dval (Lib.decDigits u) = u
  | n, u, hu => by
    have h1 : (UInt8.ofNat (48 + u % 10)).toNat = 48 + u % 10 := by simp; omega
    rw [Lib.decDigits]
    split
    · rename_i h
      rw [Nat.mod_eq_of_lt h] at h1
      show 10 * 0 + ((UInt8.ofNat (48 + u)).toNat - 48) = u
      rw [h1]
      omega
    · rename_i h
      match n, hu with
      | 0, hu => omega
      | n + 1, hu =>
        rw [dval_snoc, dval_digits n (u / 10) (by omega), h1]
        omega
theorem digits_dg : ∀ (n u : Nat), u ≤ n → Dg (Lib.decDigits u)
  | n, u, hu => by
    rw [Lib.decDigits]
    split
    · rename_i h
      refine ⟨by simp, fun b hb => ?_, fun r e => ?_⟩
      · rw [List.mem_singleton] at hb
        subst hb
        have := isDig_of u
        rwa [Nat.mod_eq_of_lt h] at this
      · injection e with _ e2; exact e2.symm
    · rename_i h
      match n, hu with
      | 0, hu => omega
      | n + 1, hu =>
        have ih := digits_dg n (u / 10) (by omega)
        refine ⟨by simp, fun b hb => ?_, fun r e => ?_⟩
        · rcases List.mem_append.1 hb with hb | hb
          · exact ih.all b hb
          · rw [List.mem_singleton] at hb; subst hb; exact isDig_of u
        · exfalso
          cases hd : Lib.decDigits (u / 10) with
          | nil => exact ih.ne hd
          | cons c q =>
            rw [hd] at e
            injection e with e1 _
            have hq := ih.head q (by rw [hd, e1])
            subst hq
            have h0 := dval_digits (u / 10) (u / 10) (Nat.le_refl _)
            rw [hd, e1] at h0
            have : dval [48] = 0 := rfl
            omega
theorem dval_lt : ∀ (n : Nat) (d : List UInt8), d.length ≤ n → (∀ b ∈ d, isDig b = true) → dval d < 10 ^ d.length
  | n, d, hn, h => by
    rcases List.eq_nil_or_concat d with rfl | ⟨d', b, rfl⟩
    · decide
    · have hb := dig_bounds (h b (by simp))
      match n, hn with
      | 0, hn => simp at hn
      | n + 1, hn =>
        have ih := dval_lt n d' (by simp at hn; omega) fun x hx => h x (by simp [hx])
        rw [List.concat_eq_append, dval_snoc, List.length_append, List.length_singleton, Nat.pow_succ]
        omega

/-- A word is a number just if it is its spelling. -/
theorem numL_iff {w : List UInt8} {v : Int} : numL w = some v ↔ w = Lib.itoa v ∧ -99999 ≤ v ∧ v ≤ 99999 := by
  constructor
  · intro h
    unfold numL at h
    split at h
    · rename_i u hu
      split at h
      · rename_i k
        obtain rfl : u = v := by simpa using h
        exact ⟨k.1.symm, k.2⟩
      · cases h
    · cases h
  · rintro ⟨rfl, h⟩
    exact numL_itoa h
/-- The spelling of a number: a sign, digits. -/
theorem itoa_form {w : List UInt8} {v : Int} : (w = Lib.itoa v ∧ -99999 ≤ v ∧ v ≤ 99999) ↔ (∃ d, Dg d ∧ d.length ≤ 5 ∧ (w = d ∧ v = (dval d : Int) ∨ w = 45 :: d ∧ v = -(dval d : Int) ∧ d ≠ [48])) := by
  constructor
  · rintro ⟨rfl, h1, h2⟩
    by_cases hv : v < 0
    · refine ⟨Lib.decDigits v.natAbs, digits_dg _ _ (Nat.le_refl _), decDigits_len 4 _ (by omega), .inr ⟨by unfold Lib.itoa; rw [if_pos hv], ?_, fun e => ?_⟩⟩
      · rw [dval_digits _ _ (Nat.le_refl _)]; omega
      · have := dval_digits v.natAbs v.natAbs (Nat.le_refl _)
        rw [e] at this
        have h0 : dval [48] = 0 := rfl
        omega
    · refine ⟨Lib.decDigits v.toNat, digits_dg _ _ (Nat.le_refl _), decDigits_len 4 _ (by omega), .inl ⟨by unfold Lib.itoa; rw [if_neg hv], ?_⟩⟩
      rw [dval_digits _ _ (Nat.le_refl _)]
      omega
  · rintro ⟨d, hd, hl, h⟩
    have hlt := dval_lt _ d (Nat.le_refl _) hd.all
    have hlt5 : dval d < 100000 := Nat.lt_of_lt_of_le hlt (Nat.le_trans (Nat.pow_le_pow_right (by omega) hl) (by decide))
    have hdd := digits_dval _ d (Nat.le_refl _) hd
    rcases h with ⟨rfl, rfl⟩ | ⟨rfl, rfl, hne⟩
    · refine ⟨?_, by omega, by omega⟩
      unfold Lib.itoa
      rw [if_neg (by omega), Int.toNat_natCast, hdd]
    · refine ⟨?_, by omega, by omega⟩
      have hpos : 0 < dval d := by
        cases hq : d with
        | nil => exact absurd hq hd.ne
        | cons b r =>
          by_cases hb : b = 48
          · subst hb
            have := hd.head r hq
            subst this
            exact absurd hq hne
          · exact dval_pos (hd.all b (by rw [hq]; simp)) hb
      unfold Lib.itoa
      rw [if_pos (by omega), Int.natAbs_neg, Int.natAbs_natCast, hdd]

end Go.Proofs.YtijkoaggcmgjiabDoor
