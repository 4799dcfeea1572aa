/- The lines of a path: lists alone. -/
import Derived.Test.YtcdedefhofkbhaaWords
import Derived.Test.YtcdedefhofkbhaaPnt
namespace Go.Proofs.Ytcdedefhofkbhaa
open Go Go.RowKit
set_option linter.unusedVariables false
set_option linter.unusedSimpArgs false

structure Ln where
  ps : List P2
  cl : Bool
deriving Inhabited
def lastP (l : Ln) : P2 := l.ps.getLastD default
def updL (l : Ln) (s : Sg) : Ln := if s.k = 4 then ⟨l.ps, true⟩ else ⟨l.ps ++ replP (lastP l) s, l.cl⟩
def addL (ls : List Ln) (s : Sg) : List Ln := if s.k = 1 then ls ++ [⟨[⟨s.x, s.y⟩], false⟩] else match ls.getLast? with
  | none => []
  | some l => ls.dropLast ++ [updL l s]
/-- The lines of a path. -/
def flatL (ss : List Sg) : List Ln := ss.foldl addL []
theorem addL_move (ls : List Ln) {s : Sg} (h : s.k = 1) : addL ls s = ls ++ [⟨[⟨s.x, s.y⟩], false⟩] := if_pos h
theorem addL_last (ls : List Ln) (l : Ln) {s : Sg} (h : s.k ≠ 1) : addL (ls ++ [l]) s = ls ++ [updL l s] := by
  unfold addL
  rw [if_neg h]
  simp
theorem flatL_take {ss : List Sg} {k : Nat} (h : k < ss.length) : flatL (ss.take (k + 1)) = addL (flatL (ss.take k)) ss[k] := by
  unfold flatL
  rw [List.take_add_one, List.getElem?_eq_getElem h, List.foldl_append]
  rfl
theorem lastP_of {l : Ln} {p : P2} (h : l.ps.getLast? = some p) : lastP l = p := by
  unfold lastP
  rw [List.getLastD_eq_getLast?, h]; rfl
theorem replP_last {p : P2} {s : Sg} (h : s.k = 2 ∨ s.k = 3 ∧ InC (cuOf p s)) : (replP p s).getLast? = some ⟨s.x, s.y⟩ ∧ 1 ≤ (replP p s).length ∧ (replP p s).length ≤ 512 := by
  unfold replP
  rcases h with h | ⟨h, hc⟩
  · rw [if_pos h]; exact ⟨rfl, by simp, by simp⟩
  · rw [if_neg (by omega)]
    have hd := dv_bd (cuOf p s)
    exact ⟨pts_last (c := cuOf p s) hc.w, by rw [pts_length]; omega, by rw [pts_length]; omega⟩
theorem chk_first {ss : List Sg} (h : chk ss = 0) (hl : 0 < ss.length) : ss[0].k = 1 := by
  have h1 := chk_all h
  cases ss with
  | nil => simp at hl
  | cons s r =>
    unfold chkAll at h1
    by_cases hs : chkSeg s false = 0
    · rcases (okay_of hs).2 with h2 | h2
      · cases h2
      · exact h2
    · rw [if_neg hs] at h1; exact absurd h1 hs
theorem inc_of {p : P2} {s : Sg} (hp : In3 p) (hs : Okay s) (h1 : s.k ≠ 1) (h4 : s.k ≠ 4) : s.k = 2 ∨ s.k = 3 ∧ InC (cuOf p s) := by
  have := hs.k
  obtain ⟨a, b, c, d⟩ := wi4.1 hs.r
  by_cases h2 : s.k = 2
  · exact .inl h2
  · have h3 : s.k = 3 := by omega
    exact .inr ⟨h3, hp, ⟨c, d⟩, ⟨a, b⟩, hs.w h3⟩
theorem okay_in {s : Sg} (hs : Okay s) : In3 ⟨s.x, s.y⟩ := by
  obtain ⟨a, b, c, d⟩ := wi4.1 hs.r
  exact ⟨a, b⟩
/-- A line that is being drawn. -/
structure LOk (k : Nat) (l : Ln) : Prop where
  i : In3 (lastP l)
  p : 0 < l.ps.length
  n : l.ps.length ≤ 512 * k
theorem LOk.move {s : Sg} {k : Nat} (hs : Okay s) (hk : 0 < k) : LOk k ⟨[⟨s.x, s.y⟩], false⟩ := ⟨okay_in hs, by simp, by simp; omega⟩
theorem LOk.upd {s : Sg} {k : Nat} {l : Ln} (h : LOk k l) (hs : Okay s) (h1 : s.k ≠ 1) : LOk (k + 1) (updL l s) := by
  unfold updL
  by_cases h4 : s.k = 4
  · rw [if_pos h4]; exact ⟨h.i, h.p, by show l.ps.length ≤ _; have := h.n; omega⟩
  · rw [if_neg h4]
    obtain ⟨hl, ha, hb⟩ := replP_last (inc_of h.i hs h1 h4)
    refine ⟨?_, by simp; omega, by have := h.n; simp; omega⟩
    have : lastP ⟨l.ps ++ replP (lastP l) s, l.cl⟩ = ⟨s.x, s.y⟩ := lastP_of (by rw [List.getLast?_append, hl]; rfl)
    rw [this]
    exact okay_in hs
theorem flat_ok {ss : List Sg} (h : chk ss = 0) : ∀ k, k ≤ ss.length → 0 < k → ∃ ls l, flatL (ss.take k) = ls ++ [l] ∧ LOk k l
  | 0, _, h0 => absurd h0 (by omega)
  | k + 1, hk, _ => by
    have hkl : k < ss.length := by omega
    have ho := chk_okay h ss[k] (List.getElem_mem hkl)
    rw [flatL_take hkl]
    by_cases h1 : ss[k].k = 1
    · rw [addL_move _ h1]
      exact ⟨_, _, rfl, LOk.move ho (by omega)⟩
    · have hk0 : 0 < k := by
        rcases Nat.eq_zero_or_pos k with e | e
        · subst e; exact absurd (chk_first h (by omega)) h1
        · exact e
      obtain ⟨ls, l, e1, e2⟩ := flat_ok h k (by omega) hk0
      rw [e1, addL_last _ _ h1]
      exact ⟨_, _, rfl, e2.upd ho h1⟩

end Go.Proofs.Ytcdedefhofkbhaa
