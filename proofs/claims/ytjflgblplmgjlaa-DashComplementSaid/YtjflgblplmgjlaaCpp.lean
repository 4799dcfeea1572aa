/- A pattern of two equal lengths: its dashes and those of the pattern shifted by one of them meet at the same places. -/
import Derived.Test.YtjflgblplmgjlaaKpl
namespace Go.Proofs.Ytjflgblplmgjlaa
open Go Go.RowKit
set_option linter.unusedVariables false
set_option linter.unusedSimpArgs false

theorem bgn_nn (n b0 : Int) (i : Nat) : bgn [n, n] b0 i = b0 + n * i := by
  induction i with
  | zero => show b0 = b0 + n * 0; omega
  | succ i ih =>
    have e : [n, n].getD (i % [n, n].length) 0 = n := by
      have : i % 2 = 0 ∨ i % 2 = 1 := by omega
      rcases this with h | h <;> simp [h]
    show bgn [n, n] b0 i + [n, n].getD (i % [n, n].length) 0 = _
    rw [ih, e]
    push_cast
    grind
theorem perd_nn (n : Int) : perd [n, n] = 2 * n := by
  unfold perd sumL
  simp
  omega
theorem okK_nn {n : Int} (h : 3 ≤ n ∧ n ≤ 300) : okK 3 300 [n, n] := by
  refine ⟨fun x hx => ?_, by simp, by simp⟩
  simp at hx
  omega
theorem okPat_nn {n : Int} (h : 3 ≤ n ∧ n ≤ 300) : okPat [n, n] := fun x hx => by
  simp at hx
  omega

/-- Where piece k begins. -/
def brk (n f L : Int) (k : Nat) : Int := min (max (n * k - f) 0) L
theorem mul_next (n : Int) (k : Nat) : n * ((k + 1 : Nat) : Int) = n * k + n := by push_cast; grind
/-- The number of pieces. -/
theorem pieces {n f L : Int} (hn : 3 ≤ n) (hf : 0 ≤ f) (hfn : f < n) (hL : 0 < L) : ∃ K : Nat, 1 ≤ K ∧ (∀ k, k < K → n * (k : Int) - f < L) ∧ L ≤ n * (K : Int) - f := by
  have h : ∀ m : Nat, (L ≤ n * (m : Int) - f) → ∃ K : Nat, 1 ≤ K ∧ (∀ k, k < K → n * (k : Int) - f < L) ∧ L ≤ n * (K : Int) - f := fun m => by
    induction m with
    | zero => intro h; simp at h; omega
    | succ m ih =>
      intro h
      by_cases hm : L ≤ n * (m : Int) - f
      · exact ih hm
      · refine ⟨m + 1, by omega, fun k hk => ?_, h⟩
        have : n * (k : Int) ≤ n * (m : Int) := Int.mul_le_mul_of_nonneg_left (by omega) (by omega)
        omega
  refine h (L + f).toNat ?_
  have : 1 * ((L + f).toNat : Int) ≤ n * ((L + f).toNat : Int) := Int.mul_le_mul_of_nonneg_right (by omega) (by omega)
  omega
theorem brk_zero {n f L : Int} (hf : 0 ≤ f) (hL : 0 < L) : brk n f L 0 = 0 := by unfold brk; simp; omega
theorem brk_end {n f L : Int} {K : Nat} (hL : 0 < L) (h : L ≤ n * (K : Int) - f) : brk n f L K = L := by unfold brk; omega

theorem spn_on {n f L b0 : Int} {i k : Nat} (hn : 3 ≤ n) (hfn : f < n) (hL : 0 < L) (he : i % 2 = 0) (hb : b0 + n * (i : Int) = n * (k : Int) - f) (hk : n * (k : Int) - f < L) :
    spn [n, n] b0 L i = some (brk n f L k, brk n f L (k + 1)) := by
  have h0 : 0 ≤ n * (k : Int) := Int.mul_nonneg (by omega) (by omega)
  have h1 := mul_next n i
  have h2 := mul_next n k
  unfold spn
  rw [bgn_nn, bgn_nn, h1]
  unfold brk
  rw [h2]
  generalize n * (i : Int) = X at *
  generalize n * (k : Int) = Y at *
  rw [if_pos ⟨he, by omega⟩]
  congr 2 <;> omega
theorem spn_odd {n L b0 : Int} {i : Nat} (he : i % 2 = 1) : spn [n, n] b0 L i = none := by
  unfold spn
  rw [if_neg]
  omega
theorem spans_even {n f L : Int} {K : Nat} (hn : 3 ≤ n ∧ n ≤ 300) (hf : 0 ≤ f) (hfn : f < n) (hL : 0 < L) (h1 : ∀ k, k < K → n * (k : Int) - f < L) (h2 : L ≤ n * (K : Int) - f) :
    spans [n, n] (-f) L = (List.range ((K + 1) / 2)).map fun j => (brk n f L (2 * j), brk n f L (2 * j + 1)) := by
  have h : ∀ m, m ≤ (K + 1) / 2 → spansTo [n, n] (-f) L (2 * m) = (List.range m).map fun j => (brk n f L (2 * j), brk n f L (2 * j + 1)) := fun m => by
    induction m with
    | zero => intro _; rfl
    | succ m ih =>
      intro hm
      rw [show 2 * (m + 1) = 2 * m + 1 + 1 by omega, spansTo_succ, spansTo_succ, ih (by omega), spn_odd (i := 2 * m + 1) (by omega), spn_on (i := 2 * m) (k := 2 * m) hn.1 hfn hL (by omega) (by omega) (h1 _ (by omega)), List.range_succ, List.map_append]
      simp
  rw [← h _ (Nat.le_refl _)]
  refine (spans_at (okPat_nn hn) (by simp) ?_).symm
  rw [bgn_nn]
  have : n * (K : Int) ≤ n * ((2 * ((K + 1) / 2) : Nat) : Int) := Int.mul_le_mul_of_nonneg_left (by omega) (by omega)
  omega
theorem spans_odd {n f L : Int} {K : Nat} (hn : 3 ≤ n ∧ n ≤ 300) (hf : 0 ≤ f) (hfn : f < n) (hL : 0 < L) (hK : 1 ≤ K) (h1 : ∀ k, k < K → n * (k : Int) - f < L) (h2 : L ≤ n * (K : Int) - f) :
    spans [n, n] (-(f + n)) L = (List.range (K / 2)).map fun j => (brk n f L (2 * j + 1), brk n f L (2 * j + 2)) := by
  have e0 : spn [n, n] (-(f + n)) L 0 = none := by
    unfold spn
    rw [bgn_nn, bgn_nn, if_neg]
    have := mul_next n 0
    simp only [Nat.zero_add] at this ⊢
    rw [this]
    simp
    omega
  have h : ∀ m, m ≤ K / 2 → spansTo [n, n] (-(f + n)) L (2 * (m + 1)) = (List.range m).map fun j => (brk n f L (2 * j + 1), brk n f L (2 * j + 2)) := fun m => by
    induction m with
    | zero =>
      intro _
      show spansTo [n, n] (-(f + n)) L 2 = []
      rw [spansTo_succ, spansTo_succ, e0, spn_odd (by omega)]
      rfl
    | succ m ih =>
      intro hm
      have hb : -(f + n) + n * ((2 * (m + 1) : Nat) : Int) = n * ((2 * m + 1 : Nat) : Int) - f := by
        have := mul_next n (2 * m + 1)
        rw [show 2 * (m + 1) = 2 * m + 1 + 1 by omega]
        omega
      rw [show 2 * (m + 1 + 1) = 2 * (m + 1) + 1 + 1 by omega, spansTo_succ, spansTo_succ, ih (by omega), spn_odd (i := 2 * (m + 1) + 1) (by omega), spn_on (i := 2 * (m + 1)) (k := 2 * m + 1) hn.1 hfn hL (by omega) hb (h1 _ (by omega)), List.range_succ, List.map_append]
      simp
  rw [← h _ (Nat.le_refl _)]
  refine (spans_at (okPat_nn hn) (by simp) ?_).symm
  rw [bgn_nn]
  have : n * (K : Int) ≤ n * ((2 * (K / 2) + 1 : Nat) : Int) := Int.mul_le_mul_of_nonneg_left (by omega) (by omega)
  have := mul_next n (2 * (K / 2) + 1)
  rw [show 2 * (K / 2 + 1) = 2 * (K / 2) + 1 + 1 by omega]
  omega
theorem spans_none {pat : List Int} {b0 L : Int} (h : L ≤ 0) : spans pat b0 L = [] := by
  unfold spans spansTo
  rw [List.filterMap_eq_nil_iff]
  intro i _
  unfold spn
  rw [if_neg]
  omega
/-- The two patterns' dashes: f is the phase less one length, if it is one or more. -/
theorem compl_spans {n ph L : Int} (hn : 3 ≤ n ∧ n ≤ 300) (hp : 0 ≤ ph ∧ ph ≤ 2 * n - 1) (hL : 0 < L) :
    ∃ (K : Nat) (T : Nat → Int), 1 ≤ K ∧ T 0 = 0 ∧ T K = L ∧
      spans [n, n] (-((if n ≤ ph then ph + n else ph) % perd [n, n])) L = ((List.range ((K + 1) / 2)).map fun j => (T (2 * j), T (2 * j + 1))) ∧
      spans [n, n] (-((if n ≤ ph then ph else ph + n) % perd [n, n])) L = ((List.range (K / 2)).map fun j => (T (2 * j + 1), T (2 * j + 2))) := by
  rw [perd_nn]
  by_cases h : n ≤ ph
  · obtain ⟨K, h0, h1, h2⟩ := pieces (n := n) (f := ph - n) hn.1 (by omega) (by omega) hL
    refine ⟨K, brk n (ph - n) L, h0, brk_zero (by omega) hL, brk_end hL h2, ?_, ?_⟩
    · rw [if_pos h, show (ph + n) % (2 * n) = ph - n by rw [show ph + n = (ph - n) + 2 * n by omega, Int.add_emod_right, Int.emod_eq_of_lt (by omega) (by omega)]]
      exact spans_even hn (by omega) (by omega) hL h1 h2
    · rw [if_pos h, Int.emod_eq_of_lt (by omega) (by omega)]
      have := spans_odd hn (show 0 ≤ ph - n by omega) (by omega) hL h0 h1 h2
      rwa [show ph - n + n = ph by omega] at this
  · obtain ⟨K, h0, h1, h2⟩ := pieces (n := n) (f := ph) hn.1 (by omega) (by omega) hL
    refine ⟨K, brk n ph L, h0, brk_zero (by omega) hL, brk_end hL h2, ?_, ?_⟩
    · rw [if_neg h, Int.emod_eq_of_lt (by omega) (by omega)]
      exact spans_even hn (by omega) (by omega) hL h1 h2
    · rw [if_neg h, Int.emod_eq_of_lt (by omega) (by omega)]
      exact spans_odd hn (by omega) (by omega) hL h0 h1 h2
end Go.Proofs.Ytjflgblplmgjlaa
