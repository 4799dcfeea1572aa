/- Listed cells in their order make a region: the pure part of package region's Of. -/
import Derived.Test.YtldbpabnfjnpbaaOps
namespace Go.Proofs.Ytldbpabnfjnpbaa
open Go
set_option linter.unusedVariables false

/-- The run of one cell. -/
def one (p : P2) : Rn := ⟨p.y, p.x, p.x + 1⟩
/-- A cell behind a region. -/
def addC (rs : List Rn) (p : P2) : List Rn := match rs.getLast? with
  | none => rs ++ [one p]
  | some l => if Bh (one p) l then rs ++ [one p] else setEnd rs (p.x + 1)
/-- Rows first, then from left to right. -/
def ltP (p q : P2) : Bool := decide (p.y < q.y ∨ p.y = q.y ∧ p.x < q.x)
def PIn (p : P2) : Prop := (-8192 ≤ p.x ∧ p.x ≤ 8191) ∧ (-8192 ≤ p.y ∧ p.y ≤ 8191)
instance (p : P2) : Decidable (PIn p) := inferInstanceAs (Decidable (_ ∧ _))
/-- What the region of the cells ps is. -/
structure Made (ps : List P2) (rs : List Rn) : Prop where
  ok : chk rs = 0
  has : ∀ x y, has rs x y = decide ((⟨x, y⟩ : P2) ∈ ps)
structure MadeL (ps : List P2) (rs : List Rn) : Prop extends Made ps rs where
  last : ∀ q, ps.getLast? = some q → ∃ l, rs.getLast? = some l ∧ l.y = q.y ∧ l.b = q.x + 1
  none : ps = [] → rs = []
  len : rs.length ≤ ps.length
theorem Made.nil : MadeL [] [] := ⟨⟨rfl, fun x y => by simp [Go.Proofs.Ytldbpabnfjnpbaa.has]⟩, fun q h => by simp at h, fun _ => rfl, Nat.le_refl _⟩
theorem has_one (p : P2) (x y : Int) : hasR (one p) x y = decide ((⟨x, y⟩ : P2) = p) := by
  unfold hasR one
  have : ((⟨x, y⟩ : P2) = p) ↔ (p.y = y ∧ p.x ≤ x ∧ x < p.x + 1) := by
    constructor
    · intro h; subst h; refine ⟨rfl, Int.le_refl _, ?_⟩; show x < x + 1; omega
    · intro h; exact P2.ext' ⟨by simp only; omega, by simp only; omega⟩
  simp only [this]
theorem one_ok {p : P2} (h : PIn p) : RnOk (one p) := by
  unfold PIn at h; unfold RnOk RnIn one; simp only; omega
theorem MadeL.step {ps : List P2} {rs : List Rn} {p : P2} (h : MadeL ps rs) (hp : PIn p) (ho : ∀ q, ps.getLast? = some q → ltP p q = false) : MadeL (ps ++ [p]) (addC rs p) := by
  have mem : ∀ x y, decide ((⟨x, y⟩ : P2) ∈ ps ++ [p]) = (decide ((⟨x, y⟩ : P2) ∈ ps) || decide ((⟨x, y⟩ : P2) = p)) := fun x y => by
    simp only [List.mem_append, List.mem_singleton, Bool.decide_or]
  rcases List.eq_nil_or_concat ps with rfl | ⟨qs, q, rfl⟩
  · obtain rfl := h.none rfl
    refine ⟨⟨?_, fun x y => ?_⟩, fun q hq => ?_, fun e => by simp at e, Nat.le_refl _⟩
    · exact chkAll_cons.2 ⟨one_ok hp, trivial, rfl⟩
    · have : addC [] p = [one p] := rfl
      rw [this, mem, ← has_one]
      simp [Go.Proofs.Ytldbpabnfjnpbaa.has]
    · obtain rfl : p = q := by simpa using hq
      exact ⟨one p, rfl, rfl, rfl⟩
  · rw [List.concat_eq_append] at *
    obtain ⟨l, hl, e1, e2⟩ := h.last q (by simp)
    obtain ⟨ys, rfl⟩ : ∃ ys, rs = ys ++ [l] := by
      rcases List.eq_nil_or_concat rs with rfl | ⟨ys, l', rfl⟩
      · simp at hl
      · rw [List.concat_eq_append] at hl ⊢
        exact ⟨ys, by simp at hl; rw [hl]⟩
    have hq := ho q (by simp)
    unfold ltP at hq
    have hq := of_decide_eq_false hq
    have hk := chkAll_snoc.1 h.ok
    have hs := hk.2.1
    by_cases hb : Bh (one p) l
    · have ea : addC (ys ++ [l]) p = (ys ++ [l]) ++ [one p] := by unfold addC; rw [hl]; exact if_pos hb
      rw [ea]
      refine ⟨⟨?_, fun x y => ?_⟩, fun q' hq' => ?_, fun e => by simp at e, ?_⟩
      · refine chkAll_snoc.2 ⟨h.ok, one_ok hp, ?_⟩
        rw [hl]
        exact hb
      · rw [has_snoc, h.has, has_one, mem]
      · obtain rfl : p = q' := by simpa using hq'
        exact ⟨one p, by simp, rfl, rfl⟩
      · have := h.len; simp at this ⊢; omega
    · have ea : addC (ys ++ [l]) p = ys ++ [⟨l.y, l.a, p.x + 1⟩] := by
        unfold addC; rw [hl]; simp only; rw [if_neg hb, setEnd_snoc]
      rw [ea]
      unfold Bh one at hb
      simp only at hb
      have hpy : p.y = q.y := by omega
      have hpx : q.x ≤ p.x ∧ p.x ≤ q.x + 1 := by omega
      unfold RnOk RnIn at hs
      unfold PIn at hp
      refine ⟨⟨?_, fun x y => ?_⟩, fun q' hq' => ?_, fun e => by simp at e, ?_⟩
      · refine chkAll_snoc.2 ⟨hk.1, ?_, ?_⟩
        · unfold RnOk RnIn; simp only; omega
        · have := hk.2.2
          revert this
          cases ys.getLast? with
          | none => exact fun _ => trivial
          | some m => exact fun k => k
      · have h0 := h.has x y
        rw [has_snoc] at h0 ⊢
        rw [mem, ← h0, Bool.or_assoc]
        congr 1
        rw [← has_one]
        unfold hasR one
        rw [← Bool.decide_or]
        refine decide_eq_decide.2 ?_
        simp only
        omega
      · obtain rfl : p = q' := by simpa using hq'
        exact ⟨⟨l.y, l.a, p.x + 1⟩, by simp, by show l.y = p.y; omega, rfl⟩
      · have := h.len; simp at this ⊢; omega
theorem made_iff {ps qs : List P2} {rs : List Rn} (h : Made ps rs) (k : ∀ p, p ∈ ps ↔ p ∈ qs) : Made qs rs :=
  ⟨h.ok, fun x y => by rw [h.has]; exact decide_eq_decide.2 (k _)⟩
theorem made_uniq {ps : List P2} {rs ss : List Rn} (h : Made ps rs) (k : Made ps ss) : rs = ss :=
  has_inj h.ok k.ok fun x y => by rw [h.has, k.has]

end Go.Proofs.Ytldbpabnfjnpbaa
