/- Reversed subpaths, without a program. -/
import Derived.Test.YtcdedefhofkbhaaWords
namespace Go.Proofs.Ytcdedefhofkbhaa
open Go
set_option linter.unusedVariables false

/-- The index behind the subpath that begins at i. -/
def ends (ss : List Sg) (i : Nat) : Nat := i + 1 + ((ss.drop (i + 1)).takeWhile fun s => decide (s.k ≠ 1)).length
def sg (ss : List Sg) (i : Nat) : Sg := ss.getD i default
theorem sg_at {ss : List Sg} {i : Nat} (h : i < ss.length) : ss[i] = sg ss i := by unfold sg; rw [List.getD_eq_getElem?_getD, List.getElem?_eq_getElem h]; rfl
theorem takeWhile_le (p : Sg → Bool) : ∀ l : List Sg, (l.takeWhile p).length ≤ l.length
  | [] => Nat.le_refl _
  | s :: r => by
    rw [List.takeWhile_cons]
    split
    · have := takeWhile_le p r; simp; omega
    · simp
theorem ends_le {ss : List Sg} {i : Nat} (h : i < ss.length) : ends ss i ≤ ss.length := by
  unfold ends
  have := takeWhile_le (fun s => decide (s.k ≠ 1)) (ss.drop (i + 1))
  rw [List.length_drop] at this
  omega
theorem ends_gt (ss : List Sg) (i : Nat) : i < ends ss i := by unfold ends; omega
/-- Segments k .. l run backwards, each from its end to its beginning. -/
def backs (ss : List Sg) (lo : Nat) : Nat → List Sg
  | 0 => []
  | d + 1 => ⟨(sg ss (lo + d + 1)).k, (sg ss (lo + d)).x, (sg ss (lo + d)).y, (sg ss (lo + d + 1)).u, (sg ss (lo + d + 1)).v, (sg ss (lo + d + 1)).w⟩ :: backs ss lo d
/-- The segments lo .. hi - 1, a subpath. -/
def lastOf (ss : List Sg) (hi : Nat) : Nat := if (sg ss (hi - 1)).k = 4 then hi - 2 else hi - 1
def revSub (ss : List Sg) (lo hi : Nat) : List Sg :=
  ⟨1, (sg ss (lastOf ss hi)).x, (sg ss (lastOf ss hi)).y, 0, 0, 0⟩ :: backs ss lo (lastOf ss hi - lo) ++ (if (sg ss (hi - 1)).k = 4 then [⟨4, 0, 0, 0, 0, 0⟩] else [])
def revFrom (ss : List Sg) : Nat → Nat → List Sg
  | 0, _ => []
  | f + 1, i => if i < ss.length then revSub ss i (ends ss i) ++ revFrom ss f (ends ss i) else []
def rev (ss : List Sg) : List Sg := revFrom ss ss.length 0
theorem revFrom_end (ss : List Sg) : ∀ f i, ss.length ≤ i → revFrom ss f i = []
  | 0, _, _ => rfl
  | f + 1, i, h => by rw [revFrom, if_neg (by omega)]
theorem revFrom_more (ss : List Sg) : ∀ f g i, ss.length ≤ i + f → ss.length ≤ i + g → revFrom ss f i = revFrom ss g i
  | 0, g, i, h, _ => by rw [revFrom_end ss g i (by omega)]; rfl
  | f + 1, 0, i, _, h => by rw [revFrom_end ss (f + 1) i (by omega)]; rfl
  | f + 1, g + 1, i, h, h' => by
    rw [revFrom, revFrom]
    have := ends_gt ss i
    rw [revFrom_more ss f g (ends ss i) (by omega) (by omega)]
theorem revFrom_at {ss : List Sg} {i : Nat} (h : i < ss.length) : revFrom ss ss.length i = revSub ss i (ends ss i) ++ revFrom ss ss.length (ends ss i) := by
  have := ends_gt ss i
  rw [revFrom_more ss ss.length (ss.length + 1) i (by omega) (by omega), revFrom, if_pos h]
theorem backs_length (ss : List Sg) (lo : Nat) : ∀ d, (backs ss lo d).length = d
  | 0 => rfl
  | d + 1 => by rw [backs, List.length_cons, backs_length ss lo d]

/-! ### a valid path's subpaths -/
theorem chkAll_step {o : Bool} {s : Sg} {r : List Sg} (h : chkAll o (s :: r) = 0) : chkSeg s o = 0 ∧ chkAll (decide (s.k ≠ 4)) r = 0 := by
  rw [chkAll] at h
  split at h
  · rename_i h0; exact ⟨h0, h⟩
  · rename_i h0; exact absurd h h0
theorem chkAll_drop : ∀ {ss : List Sg} {o : Bool} {i : Nat}, chkAll o ss = 0 → i < ss.length → ∃ o', chkAll o' (ss.drop i) = 0 ∧ (0 < i → o' = decide ((sg ss (i - 1)).k ≠ 4)) ∧ (i = 0 → o' = o)
  | s :: r, o, 0, h, _ => ⟨o, h, fun h => absurd h (by omega), fun _ => rfl⟩
  | s :: r, o, i + 1, h, hi => by
    obtain ⟨h1, h2⟩ := chkAll_step h
    have hi' : i < r.length := by simpa using hi
    obtain ⟨o', h3, h4, h5⟩ := chkAll_drop h2 hi'
    refine ⟨o', h3, fun _ => ?_, fun h => absurd h (by omega)⟩
    rcases Nat.eq_zero_or_pos i with e | e
    · subst e; rw [h5 rfl]; rfl
    · rw [h4 e]
      obtain ⟨m, rfl⟩ : ∃ m, i = m + 1 := ⟨i - 1, by omega⟩
      rfl
/-- A segment that closes a subpath has another one ahead of it, and the next one begins a subpath. -/
theorem sg_okay {ss : List Sg} (h : chk ss = 0) {i : Nat} (hi : i < ss.length) : chkSeg (sg ss i) (decide (0 < i ∧ (sg ss (i - 1)).k ≠ 4)) = 0 := by
  obtain ⟨o', h1, h2, h3⟩ := chkAll_drop (chk_all h) hi
  have e : ss.drop i = sg ss i :: ss.drop (i + 1) := by rw [← sg_at hi]; exact List.drop_eq_getElem_cons hi
  rw [e] at h1
  have h4 := (chkAll_step h1).1
  rcases Nat.eq_zero_or_pos i with e | e
  · rw [h3 e] at h4
    subst e
    exact h4
  · rw [h2 e] at h4
    rw [show decide (0 < i ∧ (sg ss (i - 1)).k ≠ 4) = decide ((sg ss (i - 1)).k ≠ 4) by simp [e]]
    exact h4
theorem first_move {ss : List Sg} (h : chk ss = 0) (hi : 0 < ss.length) : (sg ss 0).k = 1 := by
  have h1 := (okay_of (sg_okay h hi)).2
  rcases h1 with h1 | h1
  · simp at h1
  · exact h1
theorem close_prev {ss : List Sg} (h : chk ss = 0) {i : Nat} (hi : i < ss.length) (hk : (sg ss i).k = 4) : 0 < i ∧ (sg ss (i - 1)).k ≠ 4 := by
  have h1 := (okay_of (sg_okay h hi)).2
  rcases h1 with h1 | h1
  · simpa using h1
  · omega
/-- Within a subpath no other one begins; behind it one begins. -/
theorem within_sub {ss : List Sg} {i j : Nat} (h1 : i < j) (h2 : j < ends ss i) (hl : i < ss.length) : (sg ss j).k ≠ 1 := by
  unfold ends at h2
  have hj : j - (i + 1) < ((ss.drop (i + 1)).takeWhile fun s => decide (s.k ≠ 1)).length := by omega
  have hm := List.getElem_mem hj
  have hp : ∀ (p : Sg → Bool) (l : List Sg), ∀ x ∈ l.takeWhile p, p x = true := fun p l => by
    induction l with
    | nil => intro x hx; cases hx
    | cons s r ih =>
      intro x hx
      rw [List.takeWhile_cons] at hx
      split at hx
      · rcases List.mem_cons.1 hx with rfl | hx
        · assumption
        · exact ih x hx
      · cases hx
  have h3 := hp _ _ _ hm
  have hpre : ∀ (p : Sg → Bool) (l : List Sg) (m : Nat) (hm : m < (l.takeWhile p).length), (l.takeWhile p)[m] = l.getD m default := fun p l => by
    induction l with
    | nil => intro m hm; simp at hm
    | cons s r ih =>
      intro m hm
      by_cases hs : p s = true
      · cases m with
        | zero => simp [hs]
        | succ m =>
          have hm' : m < (r.takeWhile p).length := by simpa [List.takeWhile_cons, hs] using hm
          have := ih m hm'
          simpa [List.takeWhile_cons, hs] using this
      · exfalso; rw [List.takeWhile_cons, if_neg hs] at hm; simp at hm
  rw [hpre] at h3
  have e : (ss.drop (i + 1)).getD (j - (i + 1)) default = sg ss j := by
    unfold sg
    rw [List.getD_eq_getElem?_getD, List.getD_eq_getElem?_getD, List.getElem?_drop, show i + 1 + (j - (i + 1)) = j by omega]
  rw [e] at h3
  simpa using h3
theorem closed_len {ss : List Sg} (h : chk ss = 0) {i : Nat} (hi : i < ss.length) (hm : (sg ss i).k = 1) (hc : (sg ss (ends ss i - 1)).k = 4) : i + 2 ≤ ends ss i := by
  have := ends_gt ss i
  by_cases e : ends ss i = i + 1
  · rw [e, Nat.add_sub_cancel, hm] at hc; cases hc
  · omega

end Go.Proofs.Ytcdedefhofkbhaa
