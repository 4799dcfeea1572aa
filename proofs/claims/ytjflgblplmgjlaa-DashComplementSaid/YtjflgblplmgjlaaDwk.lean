/- The walk along the sides of a line: what is behind it, and what a dash collects. -/
import Derived.Test.YtjflgblplmgjlaaDsp
namespace Go.Proofs.Ytjflgblplmgjlaa
open Go Go.RowKit
set_option linter.unusedVariables false

theorem good_f {ps : List P2} {i : Nat} {p : Int} (h : posn ps (i + 1) < p ∨ posn ps i = posn ps (i + 1)) : good p (sdAt ps i) = false := by
  unfold good sdAt
  simp only [decide_eq_false_iff_not]
  omega
theorem good_t {ps : List P2} {i : Nat} {p : Int} (h1 : ¬ posn ps (i + 1) < p) (h2 : ¬ posn ps (i + 1) = posn ps i) : good p (sdAt ps i) = true := by
  unfold good sdAt
  have := posn_mono ps (Nat.le_succ i)
  simp only [Nat.succ_eq_add_one] at this
  simp only [decide_eq_true_eq]
  omega
/-- The sides before side j serve no position from p on. -/
def Past (ps : List P2) (j : Nat) (p : Int) : Prop := ∀ i, i < j → good p (sdAt ps i) = false
theorem Past.zero (ps : List P2) (p : Int) : Past ps 0 p := fun i h => by omega
theorem Past.more {ps : List P2} {j : Nat} {p q : Int} (h : Past ps j p) (hq : p ≤ q) : Past ps j q := fun i hi => by
  have := h i hi
  unfold good at this ⊢
  simp only [decide_eq_false_iff_not] at this ⊢
  omega
theorem Past.step {ps : List P2} {j : Nat} {p : Int} (h : Past ps j p) (h2 : good p (sdAt ps j) = false) : Past ps (j + 1) p := fun i hi => by
  by_cases e : i = j
  · subst e; exact h2
  · exact h i (by omega)
theorem Past.at_ {ps : List P2} {j : Nat} {p : Int} (h : Past ps j p) (hp : 0 ≤ p) : posn ps j ≤ p := by
  induction j with
  | zero => exact hp
  | succ j ih =>
    have h1 := ih fun i hi => h i (by omega)
    have h2 := h j (by omega)
    unfold good sdAt at h2
    simp only [decide_eq_false_iff_not] at h2
    omega
theorem good_ex {ps : List P2} : ∀ k, 0 < posn ps k → ∃ i, i < k ∧ posn ps (i + 1) = posn ps k ∧ posn ps i < posn ps (i + 1)
  | 0, h => absurd h (by simp [posn])
  | k + 1, h => by
    by_cases e : posn ps k = posn ps (k + 1)
    · obtain ⟨i, h1, h2, h3⟩ := good_ex (ps := ps) k (by omega)
      exact ⟨i, by omega, by omega, h3⟩
    · have := posn_mono ps (Nat.le_succ k)
      simp only [Nat.succ_eq_add_one] at this
      exact ⟨k, by omega, rfl, by omega⟩
/-- A walk does not leave the line. -/
theorem Past.lt {ps : List P2} {j : Nat} {p : Int} (h : Past ps j p) (hj : j ≤ ps.length - 1) (hl : 0 < lenP ps) (hp : p ≤ lenP ps) : j < ps.length - 1 := by
  obtain ⟨i, h1, h2, h3⟩ := good_ex (ps := ps) _ hl
  rcases Nat.lt_or_ge j (ps.length - 1) with k | k
  · exact k
  · have h4 := h i (by omega)
    unfold good sdAt at h4
    simp only [decide_eq_false_iff_not] at h4
    unfold lenP at hp
    omega
theorem Past.find {ps : List P2} {j : Nat} {p : Int} (h : Past ps j p) (hj : j < ps.length - 1) (hg : good p (sdAt ps j) = true) : posS (sidesP ps) p = ptS (sdAt ps j) p := by
  unfold posS
  congr 1
  have : (sidesP ps).find? (good p) = some (sdAt ps j) := by
    rw [List.find?_eq_some_iff_getElem]
    refine ⟨hg, j, by rw [sidesP_len]; exact hj, ?_, fun i hi => ?_⟩
    · have := sidesP_get hj
      have h2 : j < (sidesP ps).length := by rw [sidesP_len]; exact hj
      rw [List.getElem?_eq_getElem h2] at this
      exact Option.some.inj this
    · have h1 : i < ps.length - 1 := by omega
      have := sidesP_get h1
      have h2 : i < (sidesP ps).length := by rw [sidesP_len]; exact h1
      rw [List.getElem?_eq_getElem h2] at this
      rw [Option.some.inj this, h i hi]; rfl
  rw [this]; rfl
/-- What a dash has collected behind side j. -/
def midT (ps : List P2) (a b : Int) (j : Nat) : List P2 := midS ((List.range j).map (sdAt ps)) a b
theorem midT_succ (ps : List P2) (a b : Int) (j : Nat) : midT ps a b (j + 1) = midT ps a b j ++ if a < posn ps (j + 1) ∧ posn ps (j + 1) < b then [ps.getD (j + 1) default] else [] := by
  unfold midT midS
  rw [List.range_succ, List.map_append, List.filter_append, List.map_append]
  congr 1
  by_cases h : a < posn ps (j + 1) ∧ posn ps (j + 1) < b
  · rw [if_pos h]
    simp [sdAt, h]
  · rw [if_neg h]
    simp only [List.map_cons, List.map_nil, List.filter_cons, List.filter_nil, sdAt]
    rw [if_neg (by simpa using h)]
    rfl
theorem midT_low {ps : List P2} {a b : Int} {j : Nat} (h : posn ps j ≤ a) : midT ps a b j = [] := by
  induction j with
  | zero => rfl
  | succ j ih =>
    rw [midT_succ, ih (Int.le_trans (posn_mono ps (Nat.le_succ j)) h), if_neg (by omega)]
    rfl
theorem midT_high {ps : List P2} {a b : Int} {j : Nat} (h : b ≤ posn ps (j + 1)) : ∀ k, j ≤ k → midT ps a b k = midT ps a b j
  | 0, hk => by obtain rfl : j = 0 := by omega
                rfl
  | k + 1, hk => by
    by_cases e : j = k + 1
    · subst e; rfl
    · rw [midT_succ, midT_high h k (by omega), if_neg (by have := posn_mono ps (show j + 1 ≤ k + 1 by omega); omega)]
      exact List.append_nil _
theorem midT_all (ps : List P2) (a b : Int) : midT ps a b (ps.length - 1) = midS (sidesP ps) a b := rfl
theorem midT_len (ps : List P2) (a b : Int) (j : Nat) : (midT ps a b j).length ≤ j := by
  unfold midT midS
  rw [List.length_map]
  refine Nat.le_trans (List.length_filter_le _ _) ?_
  simp

/-! ### the ends of a line -/
theorem rdn_zero {m : Int} (h : 0 < m) : rdn 0 m = 0 := by
  unfold rdn
  rw [Int.mul_zero, Int.zero_add]
  exact Int.ediv_eq_zero_of_lt (by omega) (by omega)
theorem rdn_all (d : Int) {m : Int} (h : 0 < m) : rdn (d * m) m = d := by
  unfold rdn
  have e : 2 * (d * m) + m = m + d * (2 * m) := by grind
  rw [e, Int.add_mul_ediv_right _ _ (by omega), Int.ediv_eq_zero_of_lt (by omega) (by omega)]
  omega
theorem posn_flat {ps : List P2} {i j : Nat} (hij : i ≤ j) (h : posn ps i = posn ps j) : ps.getD i default = ps.getD j default := by
  induction j with
  | zero => obtain rfl : i = 0 := by omega
            rfl
  | succ j ih =>
    by_cases e : i = j + 1
    · subst e; rfl
    · have h1 := posn_mono ps (show i ≤ j by omega)
      have h2 := posn_mono ps (Nat.le_succ j)
      simp only [Nat.succ_eq_add_one] at h2
      rw [ih (by omega) (by omega)]
      have h3 : posn ps (j + 1) = posn ps j + dst (ps.getD j default) (ps.getD (j + 1) default) := rfl
      exact dst_zero (by omega)
/-- The first side that serves a position. -/
theorem Past.first {ps : List P2} {p : Int} (hl : 0 < lenP ps) (hp : p ≤ lenP ps) : ∃ j, j < ps.length - 1 ∧ Past ps j p ∧ good p (sdAt ps j) = true := by
  have key : ∀ k, k ≤ ps.length - 1 → Past ps k p ∨ ∃ j, j < k ∧ Past ps j p ∧ good p (sdAt ps j) = true := by
    intro k
    induction k with
    | zero => exact fun _ => .inl (Past.zero _ _)
    | succ k ih =>
      intro hk
      rcases ih (by omega) with h | ⟨j, h1, h2, h3⟩
      · cases e : good p (sdAt ps k) with
        | true => exact .inr ⟨k, by omega, h, e⟩
        | false => exact .inl (h.step e)
      · exact .inr ⟨j, by omega, h2, h3⟩
  rcases key _ (Nat.le_refl _) with h | ⟨j, h1, h2, h3⟩
  · exact absurd (h.lt (Nat.le_refl _) hl hp) (Nat.lt_irrefl _)
  · exact ⟨j, h1, h2, h3⟩
theorem posS_zero {ps : List P2} (hl : 0 < lenP ps) : posS (sidesP ps) 0 = ps.getD 0 default := by
  obtain ⟨j, h1, h2, h3⟩ := Past.first (p := 0) hl (by omega)
  rw [h2.find h1 h3]
  have h4 : posn ps j = 0 := by have := h2.at_ (Int.le_refl 0); have := posn_nn ps j; omega
  have h5 : posn ps j < posn ps (j + 1) := by
    unfold good sdAt at h3
    simp only [decide_eq_true_eq] at h3
    exact h3.2
  have h6 := posn_flat (Nat.zero_le j) (show posn ps 0 = posn ps j from h4.symm)
  unfold ptS sdAt
  simp only [h4, Int.sub_zero, Int.mul_zero]
  rw [rdn_zero (by omega), Int.add_zero, Int.add_zero, ← h6]
theorem posS_end {ps : List P2} (hl : 0 < lenP ps) : posS (sidesP ps) (lenP ps) = ps.getD (ps.length - 1) default := by
  obtain ⟨j, h1, h2, h3⟩ := Past.first (p := lenP ps) hl (Int.le_refl _)
  rw [h2.find h1 h3]
  unfold good sdAt at h3
  simp only [decide_eq_true_eq] at h3
  have h4 : posn ps (j + 1) = lenP ps := Int.le_antisymm (posn_mono ps (by omega)) h3.1
  have h6 := posn_flat (show j + 1 ≤ ps.length - 1 by omega) h4
  unfold ptS sdAt
  simp only [← h4]
  rw [rdn_all _ (by omega), rdn_all _ (by omega), ← h6]
  exact P2.ext' ⟨by show _ + (_ - _) = _; omega, by show _ + (_ - _) = _; omega⟩
end Go.Proofs.Ytjflgblplmgjlaa
