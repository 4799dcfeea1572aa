/- A region that draws its order, by a table of what its operations yield: where stores may come ahead of other operations. -/
import Derived.Test.YtjflgblplmgjlaaSeq
import Derived.Test.YtjflgblplmgjlaaInv
namespace Go.Proofs.Ytjflgblplmgjlaa
open Go Go.RowKit
set_option linter.unusedVariables false
set_option linter.unusedSimpArgs false

def slotAt (S : List (Option Nat)) (i : Nat) : Option Nat := (S[i]?).join
def valAt (V : List Value) (i : Nat) : Value := V.getD i undef
/-- What has come up has yielded the table's values; some slots are as they were; and something of the memory. -/
structure TI (S : List (Option Nat)) (V : List Value) (F : List (Nat × Value)) (M : (Nat → Bool) → World → Prop) (L : Nat → Bool) (f : Nat → Value) (w : World) : Prop where
  t : ∀ i d, slotAt S i = some d → L i = true → f d = valAt V i
  x : ∀ p, p ∈ F → f p.1 = p.2
  m : M L w
def fresh (S : List (Option Nat)) (G : List Nat) (i d : Nat) : Bool := (List.range S.length).all (fun j => Nat.beq j i || slotAt S j != some d) && G.all fun g => !(Nat.beq g d)

section
variable {P : Program} {ops : Array Oper} {S : List (Option Nat)} {V : List Value} {F : List (Nat × Value)} {M : (Nat → Bool) → World → Prop}
theorem slot_lt {i d : Nat} (h : slotAt S i = some d) : i < S.length := by
  unfold slotAt at h
  rcases Nat.lt_or_ge i S.length with k | k
  · exact k
  · rw [List.getElem?_eq_none k] at h; cases h
theorem mark_ne {L : Nat → Bool} {i j : Nat} (h : j ≠ i) : Iv.mark L i j = L j := by
  unfold Iv.mark
  have : Nat.beq j i = false := by
    cases e : Nat.beq j i
    · rfl
    · exact absurd (Nat.eq_of_beq_eq_true e) h
  rw [this]
  rfl
theorem mark_le {L : Nat → Bool} {i j : Nat} (h : L j = true) : Iv.mark L i j = true := by
  unfold Iv.mark
  cases Nat.beq j i
  · exact h
  · rfl
theorem TI.step {L : Nat → Bool} {f : Nat → Value} {w w' : World} {i d : Nat} (h : TI S V F M L f w) (hs : slotAt S i = some d) (hfr : fresh S (F.map Prod.fst) i d = true) (hM : M (Iv.mark L i) w') : TI S V F M (Iv.mark L i) (upd f d (valAt V i)) w' := by
  unfold fresh at hfr
  rw [Bool.and_eq_true, List.all_eq_true, List.all_eq_true] at hfr
  refine ⟨fun j d' hj hl => ?_, fun p hp => ?_, hM⟩
  · by_cases e : j = i
    · subst e
      rw [hs] at hj
      cases hj
      exact upd_at f d _
    · have hne : d' ≠ d := by
        have := hfr.1 j (List.mem_range.2 (slot_lt hj))
        intro ed
        subst ed
        have hb : Nat.beq j i = false := by
          cases eb : Nat.beq j i
          · rfl
          · exact absurd (Nat.eq_of_beq_eq_true eb) e
        rw [hb, hj] at this
        simp at this
      rw [upd_ne f _ hne]
      exact h.t j d' hj (by rwa [mark_ne e] at hl)
  · have hne : p.1 ≠ d := by
      have := hfr.2 p.1 (List.mem_map.2 ⟨p, hp, rfl⟩)
      intro ed
      rw [ed, Nat.beq_refl] at this
      cases this
    rw [upd_ne f _ hne]
    exact h.x p hp
theorem TI.skip {L : Nat → Bool} {f : Nat → Value} {w w' : World} {i : Nat} (h : TI S V F M L f w) (hs : slotAt S i = none) (hM : M (Iv.mark L i) w') : TI S V F M (Iv.mark L i) f w' :=
  ⟨fun j d' hj hl => by
    have e : j ≠ i := fun e => by subst e; rw [hs] at hj; cases hj
    exact h.t j d' hj (by rwa [mark_ne e] at hl), h.x, hM⟩

/-- An operation that yields the table's value and leaves the memory. -/
theorem ti_val {n i : Nat} {d : Tmp} {v : Value} {op : Op} {ty : TypeId} {pos : String} {af : Array Edge} (hd : Nat.blt d n = true) (hs : slotAt S i = some d) (hfr : fresh S (F.map Prod.fst) i d = true) (hM : ∀ L w, M L w → M (Iv.mark L i) w)
    (hv : v = valAt V i) (hrun : ∀ L f w, L i = false → (∀ e ∈ af, Region.binds .any e = true → L e.on = true) → TI S V F M L f w → (execOp (env f) { dst := some d, op := op, type := ty, pos := pos, after := af, guard := none }).run P w = .ok (.value v) w) :
    Iv.StepOk P ops n (TI S V F M) i { dst := some d, op := op, type := ty, pos := pos, after := af, guard := none } := by
  subst hv
  refine ⟨fun d' h => by cases h; simpa using hd, fun L f w hL hdep H => ⟨fun _ => ?_, fun h => by cases h⟩⟩
  rw [hrun L f w hL hdep H]
  exact H.step hs hfr (hM L w H.m)
/-- A store. -/
theorem ti_store {n i : Nat} {op : Op} {ty : TypeId} {pos : String} {af : Array Edge} (hs : slotAt S i = none)
    (hrun : ∀ L f w, L i = false → (∀ e ∈ af, Region.binds .any e = true → L e.on = true) → TI S V F M L f w → ∃ w', (execOp (env f) { dst := none, op := op, type := ty, pos := pos, after := af, guard := none }).run P w = .ok .skip w' ∧ M (Iv.mark L i) w') :
    Iv.StepOk P ops n (TI S V F M) i { dst := none, op := op, type := ty, pos := pos, after := af, guard := none } := by
  refine ⟨fun d' h => (by cases h), fun L f w hL hdep H => ⟨fun _ => ?_, fun h => by cases h⟩⟩
  obtain ⟨w', h, hM⟩ := hrun L f w hL hdep H
  rw [h]
  exact H.skip hs hM
end

end Go.Proofs.Ytjflgblplmgjlaa
