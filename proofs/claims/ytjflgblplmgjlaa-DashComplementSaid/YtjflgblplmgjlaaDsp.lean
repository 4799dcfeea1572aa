/- Sides, positions, spans and dashes of a line: lists and numbers alone. -/
import Derived.Test.YtjflgblplmgjlaaLns
namespace Go.Proofs.Ytjflgblplmgjlaa
open Go Go.RowKit
set_option linter.unusedVariables false

/-- s is the root of n. -/
def IsRoot (n s : Int) : Prop := 0 ≤ s ∧ s * s ≤ n ∧ n < (s + 1) * (s + 1)
theorem sq_lt {a b : Int} (ha : 0 ≤ a) (h : a < b) : a * a < b * b := by
  have h1 : a * a ≤ a * b := Int.mul_le_mul_of_nonneg_left (by omega) ha
  have h2 : a * b < b * b := Int.mul_lt_mul_of_pos_right h (by omega)
  omega
theorem sq_le {a b : Int} (ha : 0 ≤ a) (h : a ≤ b) : a * a ≤ b * b := by
  by_cases e : a = b
  · subst e; omega
  · have := sq_lt ha (show a < b by omega); omega
theorem root_one {n s t : Int} (h : IsRoot n s) (k : IsRoot n t) : s = t := by
  obtain ⟨h0, h1, h2⟩ := h
  obtain ⟨k0, k1, k2⟩ := k
  rcases Int.lt_trichotomy s t with c | c | c
  · have := sq_le (show 0 ≤ s + 1 by omega) (show s + 1 ≤ t by omega); omega
  · exact c
  · have := sq_le (show 0 ≤ t + 1 by omega) (show t + 1 ≤ s by omega); omega
def isq : Nat → Nat
  | 0 => 0
  | n + 1 => if (isq n + 1) * (isq n + 1) ≤ n + 1 then isq n + 1 else isq n
theorem isq_is (n : Nat) : isq n * isq n ≤ n ∧ n < (isq n + 1) * (isq n + 1) := by
  induction n with
  | zero => exact ⟨by simp [isq], by simp [isq]⟩
  | succ n ih =>
    unfold isq
    split
    · rename_i h
      refine ⟨h, ?_⟩
      have e : (isq n + 1 + 1) * (isq n + 1 + 1) = (isq n + 1) * (isq n + 1) + 2 * (isq n + 1) + 1 := by grind
      omega
    · rename_i h
      omega
theorem isq_root (n : Int) (h : 0 ≤ n) : IsRoot n (isq n.toNat) := by
  obtain ⟨m, rfl⟩ : ∃ m : Nat, n = m := ⟨n.toNat, by omega⟩
  have := isq_is m
  rw [Int.toNat_natCast]
  exact ⟨by omega, by exact_mod_cast this.1, by exact_mod_cast this.2⟩

/-- The square of a side's length, and its length. -/
def dsq (p q : P2) : Int := (q.x - p.x) * (q.x - p.x) + (q.y - p.y) * (q.y - p.y)
def dst (p q : P2) : Int := isq (dsq p q).toNat
theorem sq_nn (a : Int) : 0 ≤ a * a := by
  rcases Int.le_total 0 a with h | h
  · exact Int.mul_nonneg h h
  · exact Int.mul_nonneg_of_nonpos_of_nonpos h h
theorem dsq_nn (p q : P2) : 0 ≤ dsq p q := by
  have h1 := sq_nn (q.x - p.x)
  have h2 := sq_nn (q.y - p.y)
  unfold dsq; omega
theorem dst_root (p q : P2) : IsRoot (dsq p q) (dst p q) := isq_root _ (dsq_nn p q)
theorem dst_nn (p q : P2) : 0 ≤ dst p q := (dst_root p q).1
/-- Both coordinates within a number. -/
def PIn (p : P2) : Prop := (-32767 ≤ p.x ∧ p.x ≤ 32767) ∧ -32767 ≤ p.y ∧ p.y ≤ 32767
theorem sq_bd {a A : Int} (h : -A ≤ a ∧ a ≤ A) : a * a ≤ A * A := by
  rcases Int.le_total 0 a with k | k
  · exact sq_le k h.2
  · have := sq_le (a := -a) (b := A) (by omega) (by omega)
    rw [Int.neg_mul_neg] at this
    exact this
theorem dsq_le {p q : P2} (hp : PIn p) (hq : PIn q) : dsq p q ≤ 8589410312 := by
  obtain ⟨⟨a, b⟩, c, d⟩ := hp
  obtain ⟨⟨a', b'⟩, c', d'⟩ := hq
  have h1 := sq_bd (a := q.x - p.x) (A := 65534) ⟨by omega, by omega⟩
  have h2 := sq_bd (a := q.y - p.y) (A := 65534) ⟨by omega, by omega⟩
  unfold dsq; omega
theorem dst_le {p q : P2} (hp : PIn p) (hq : PIn q) : dst p q ≤ 92680 := by
  have h := dst_root p q
  have h1 := dsq_le hp hq
  rcases Int.lt_or_le (dst p q) 92681 with k | k
  · omega
  · have := sq_le (show (0 : Int) ≤ 92681 by omega) k
    have := h.2.1
    omega
theorem dst_self (p : P2) : dst p p = 0 := by
  unfold dst dsq; rw [Int.sub_self, Int.sub_self]; rfl
theorem dst_zero {p q : P2} (h : dst p q = 0) : p = q := by
  have h1 := (dst_root p q).2.2
  rw [h] at h1
  have h2 := sq_nn (q.x - p.x)
  have h3 := sq_nn (q.y - p.y)
  unfold dsq at h1
  have e1 : (q.x - p.x) * (q.x - p.x) = 0 := by omega
  have e2 : (q.y - p.y) * (q.y - p.y) = 0 := by omega
  exact P2.ext' ⟨by have := Int.mul_eq_zero.1 e1; omega, by have := Int.mul_eq_zero.1 e2; omega⟩

/-- The points of a line with a closing one. -/
def walkP (ps : List P2) (cl : Bool) : List P2 := if cl = true ∧ 2 ≤ ps.length then ps ++ [ps.getD 0 default] else ps
/-- The position of a point. -/
def posn (ps : List P2) : Nat → Int
  | 0 => 0
  | j + 1 => posn ps j + dst (ps.getD j default) (ps.getD (j + 1) default)
theorem posn_mono (ps : List P2) {i j : Nat} (h : i ≤ j) : posn ps i ≤ posn ps j := by
  induction j with
  | zero => obtain rfl : i = 0 := by omega
            exact Int.le_refl _
  | succ j ih =>
    by_cases e : i = j + 1
    · subst e; exact Int.le_refl _
    · have := ih (by omega)
      have := dst_nn (ps.getD j default) (ps.getD (j + 1) default)
      show _ ≤ posn ps j + _
      omega
theorem posn_nn (ps : List P2) (j : Nat) : 0 ≤ posn ps j := posn_mono ps (Nat.zero_le j)
theorem getD_in {ps : List P2} (h : ∀ p ∈ ps, PIn p) {j : Nat} : PIn (ps.getD j default) := by
  rcases Nat.lt_or_ge j ps.length with k | k
  · rw [List.getD_eq_getElem?_getD, List.getElem?_eq_getElem k]
    exact h _ (List.getElem_mem k)
  · rw [List.getD_eq_getElem?_getD, List.getElem?_eq_none k]
    exact ⟨⟨by decide, by decide⟩, by decide, by decide⟩
theorem posn_le {ps : List P2} (h : ∀ p ∈ ps, PIn p) (j : Nat) : posn ps j ≤ 92680 * (j : Int) := by
  induction j with
  | zero => exact Int.le_refl _
  | succ j ih =>
    have := dst_le (getD_in h (j := j)) (getD_in h (j := j + 1))
    show posn ps j + _ ≤ _
    push_cast
    omega

/-- A side of a line, with the positions at which it begins and ends. -/
structure Sd where
  f : P2
  t : P2
  b : Int
  e : Int
instance : Inhabited Sd := ⟨⟨default, default, 0, 0⟩⟩
def sdAt (ps : List P2) (j : Nat) : Sd := ⟨ps.getD j default, ps.getD (j + 1) default, posn ps j, posn ps (j + 1)⟩
def sidesP (ps : List P2) : List Sd := (List.range (ps.length - 1)).map (sdAt ps)
def lenP (ps : List P2) : Int := posn ps (ps.length - 1)
theorem sidesP_len (ps : List P2) : (sidesP ps).length = ps.length - 1 := by simp [sidesP]
theorem sidesP_get {ps : List P2} {j : Nat} (h : j < ps.length - 1) : (sidesP ps)[j]? = some (sdAt ps j) := by simp [sidesP, h]

/-- Rounded half up. -/
def rdn (a b : Int) : Int := (2 * a + b) / (2 * b)
/-- The point at a position of a side. -/
def ptS (s : Sd) (p : Int) : P2 := ⟨s.f.x + rdn ((s.t.x - s.f.x) * (p - s.b)) (s.e - s.b), s.f.y + rdn ((s.t.y - s.f.y) * (p - s.b)) (s.e - s.b)⟩
/-- The side that serves a position: it ends there or later, and has a length. -/
def good (p : Int) (s : Sd) : Bool := decide (p ≤ s.e ∧ s.b < s.e)
def posS (ss : List Sd) (p : Int) : P2 := ptS ((ss.find? (good p)).getD default) p
/-- The points of a dash. -/
def midS (ss : List Sd) (a b : Int) : List P2 := (ss.filter fun s => decide (a < s.e ∧ s.e < b)).map Sd.t
def dashS (ss : List Sd) (a b : Int) : List P2 := posS ss a :: (midS ss a b ++ [posS ss b])

/-- Where element i of a pattern begins. -/
def bgn (pat : List Int) (b0 : Int) : Nat → Int
  | 0 => b0
  | i + 1 => bgn pat b0 i + pat.getD (i % pat.length) 0
def sumL (pat : List Int) : Int := pat.foldl (· + ·) 0
def perd (pat : List Int) : Int := if pat.length % 2 = 0 then sumL pat else sumL pat * 2
def spn (pat : List Int) (b0 len : Int) (i : Nat) : Option (Int × Int) :=
  if i % 2 = 0 ∧ max (bgn pat b0 i) 0 < min (bgn pat b0 (i + 1)) len then some (max (bgn pat b0 i) 0, min (bgn pat b0 (i + 1)) len) else none
def spansTo (pat : List Int) (b0 len : Int) (k : Nat) : List (Int × Int) := (List.range k).filterMap (spn pat b0 len)
def spans (pat : List Int) (b0 len : Int) : List (Int × Int) := spansTo pat b0 len (len - b0).toNat
/-- A pattern's lengths are in range. -/
def okPat (pat : List Int) : Prop := ∀ x ∈ pat, 1 ≤ x ∧ x ≤ 65535
theorem pat_at {pat : List Int} (h : okPat pat) (hn : pat ≠ []) (i : Nat) : 1 ≤ pat.getD (i % pat.length) 0 ∧ pat.getD (i % pat.length) 0 ≤ 65535 := by
  have hl : i % pat.length < pat.length := Nat.mod_lt _ (List.length_pos_iff.2 hn)
  rw [List.getD_eq_getElem?_getD, List.getElem?_eq_getElem hl]
  exact h _ (List.getElem_mem hl)
theorem bgn_ge {pat : List Int} (h : okPat pat) (hn : pat ≠ []) (b0 : Int) {i j : Nat} (hij : i ≤ j) : bgn pat b0 i + ((j : Int) - i) ≤ bgn pat b0 j := by
  induction j with
  | zero => obtain rfl : i = 0 := by omega
            simp
  | succ j ih =>
    by_cases e : i = j + 1
    · subst e; simp
    · have := ih (by omega)
      have := (pat_at h hn j).1
      show _ ≤ bgn pat b0 j + _
      push_cast
      omega
theorem spn_none {pat : List Int} {b0 len : Int} {i : Nat} (h : len ≤ bgn pat b0 i) : spn pat b0 len i = none := by
  unfold spn
  rw [if_neg]
  rintro ⟨-, h2⟩
  omega
theorem spansTo_succ (pat : List Int) (b0 len : Int) (k : Nat) : spansTo pat b0 len (k + 1) = spansTo pat b0 len k ++ (spn pat b0 len k).toList := by
  unfold spansTo
  rw [List.range_succ, List.filterMap_append]
  cases h : spn pat b0 len k <;> simp [h]
theorem spansTo_end {pat : List Int} (h : okPat pat) (hn : pat ≠ []) {b0 len : Int} {i : Nat} (hi : len ≤ bgn pat b0 i) {k : Nat} (hk : i ≤ k) : spansTo pat b0 len k = spansTo pat b0 len i := by
  induction k with
  | zero => obtain rfl : i = 0 := by omega
            rfl
  | succ k ih =>
    by_cases e : i = k + 1
    · subst e; rfl
    · rw [spansTo_succ, ih (by omega), spn_none (by have := bgn_ge h hn b0 (show i ≤ k by omega); omega)]
      simp
theorem spans_at {pat : List Int} (h : okPat pat) (hn : pat ≠ []) {b0 len : Int} {i : Nat} (hi : len ≤ bgn pat b0 i) : spansTo pat b0 len i = spans pat b0 len := by
  unfold spans
  rcases Nat.le_total i (len - b0).toNat with k | k
  · exact (spansTo_end h hn hi k).symm
  · refine spansTo_end h hn ?_ k
    have := bgn_ge h hn b0 (Nat.zero_le (len - b0).toNat)
    have e : bgn pat b0 0 = b0 := rfl
    rw [e] at this
    push_cast at this
    omega

/-- Dash's answer for lines and patterns that are permitted. -/
def dashP (ps : List P2) (cl : Bool) (pat : List Int) (phase : Int) : List (List P2) :=
  (spans pat (-(phase % perd pat)) (lenP (walkP ps cl))).map fun p => dashS (sidesP (walkP ps cl)) p.1 p.2
end Go.Proofs.Ytjflgblplmgjlaa
