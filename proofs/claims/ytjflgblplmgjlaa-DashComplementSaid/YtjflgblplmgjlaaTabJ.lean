/- A region that draws its order, by a table of what its operations yield; what of the memory stands may speak of slots, too (a new block's number). -/
import Derived.Test.YtjflgblplmgjlaaTab
namespace Go.Proofs.Ytjflgblplmgjlaa
open Go Go.RowKit
set_option linter.unusedVariables false
set_option linter.unusedSimpArgs false

structure TJ (S : List (Option Nat)) (V : List Value) (F : List (Nat × Value)) (M : (Nat → Bool) → (Nat → Value) → World → Prop) (L : Nat → Bool) (f : Nat → Value) (w : World) : Prop where
  t : ∀ i d, slotAt S i = some d → L i = true → f d = valAt V i
  x : ∀ p, p ∈ F → f p.1 = p.2
  m : M L f w

section
variable {P : Program} {ops : Array Oper} {S : List (Option Nat)} {V : List Value} {F : List (Nat × Value)} {M : (Nat → Bool) → (Nat → Value) → World → Prop}
theorem TJ.step {L : Nat → Bool} {f : Nat → Value} {w w' : World} {i d : Nat} {v : Value} (h : TJ S V F M L f w) (hs : slotAt S i = none ∨ slotAt S i = some d ∧ v = valAt V i) (hfr : fresh S (F.map Prod.fst) i d = true) (hM : M (Iv.mark L i) (upd f d v) w') : TJ S V F M (Iv.mark L i) (upd f d v) w' := by
  unfold fresh at hfr
  rw [Bool.and_eq_true, List.all_eq_true, List.all_eq_true] at hfr
  refine ⟨fun j d' hj hl => ?_, fun p hp => ?_, hM⟩
  · by_cases e : j = i
    · subst e
      rcases hs with hs | ⟨hs, hv⟩
      · rw [hs] at hj; cases hj
      · rw [hs] at hj
        cases hj
        rw [upd_at f d _, hv]
    · have hne : d' ≠ d := by
        have := hfr.1 j (List.mem_range.2 (slot_lt hj))
        intro ed
        subst ed
        have hb : Nat.beq j i = false := by
          cases eb : Nat.beq j i
          · rfl
          · exact absurd (Nat.eq_of_beq_eq_true eb) e
        rw [hb, hj] at this
        simp at this
      rw [upd_ne f _ hne]
      exact h.t j d' hj (by rwa [mark_ne e] at hl)
  · have hne : p.1 ≠ d := by
      have := hfr.2 p.1 (List.mem_map.2 ⟨p, hp, rfl⟩)
      intro ed
      rw [ed, Nat.beq_refl] at this
      cases this
    rw [upd_ne f _ hne]
    exact h.x p hp
theorem TJ.skip {L : Nat → Bool} {f : Nat → Value} {w w' : World} {i : Nat} (h : TJ S V F M L f w) (hs : slotAt S i = none) (hM : M (Iv.mark L i) f w') : TJ S V F M (Iv.mark L i) f w' :=
  ⟨fun j d' hj hl => by
    have e : j ≠ i := fun e => by subst e; rw [hs] at hj; cases hj
    exact h.t j d' hj (by rwa [mark_ne e] at hl), h.x, hM⟩

/-- An operation that yields the table's value and leaves the memory. -/
theorem tj_val {n i : Nat} {d : Tmp} {v : Value} {op : Op} {ty : TypeId} {pos : String} {af : Array Edge} (hd : Nat.blt d n = true) (hs : slotAt S i = some d) (hfr : fresh S (F.map Prod.fst) i d = true) (hM : ∀ L f w, M L f w → M (Iv.mark L i) (upd f d v) w)
    (hv : v = valAt V i) (hrun : ∀ L f w, L i = false → (∀ e ∈ af, Region.binds .any e = true → L e.on = true) → TJ S V F M L f w → (execOp (env f) { dst := some d, op := op, type := ty, pos := pos, after := af, guard := none }).run P w = .ok (.value v) w) :
    Iv.StepOk P ops n (TJ S V F M) i { dst := some d, op := op, type := ty, pos := pos, after := af, guard := none } := by
  refine ⟨fun d' h => by cases h; simpa using hd, fun L f w hL hdep H => ⟨fun _ => ?_, fun h => by cases h⟩⟩
  rw [hrun L f w hL hdep H]
  exact H.step (.inr ⟨hs, hv⟩) hfr (hM L f w H.m)
/-- A call that returns the table's value and leaves the older blocks. -/
theorem tj_call {n i : Nat} {d : Tmp} {v : Value} {g : FuncId} {op : Op} {ty : TypeId} {pos : String} {af : Array Edge} (hd : Nat.blt d n = true) (hs : slotAt S i = some d) (hfr : fresh S (F.map Prod.fst) i d = true) (hM : ∀ L f w w', Below w.heap.size w w' → M L f w → M (Iv.mark L i) (upd f d v) w')
    (hv : v = valAt V i) (hrun : ∀ L f w, L i = false → (∀ e ∈ af, Region.binds .any e = true → L e.on = true) → TJ S V F M L f w → ∃ args, (execOp (env f) { dst := some d, op := op, type := ty, pos := pos, after := af, guard := none }).run P w = .ok (.enter g args) w ∧ Calls P g args w fun e w' => e = .returned v ∧ Below w.heap.size w w') :
    Iv.StepOk P ops n (TJ S V F M) i { dst := some d, op := op, type := ty, pos := pos, after := af, guard := none } := by
  refine ⟨fun d' h => by cases h; simpa using hd, fun L f w hL hdep H => ⟨fun _ => ?_, fun h => by cases h⟩⟩
  obtain ⟨args, h1, h2⟩ := hrun L f w hL hdep H
  rw [h1]
  exact h2.mono fun e w' ⟨he, hb⟩ => ⟨v, he, H.step (.inr ⟨hs, hv⟩) hfr (hM L f w w' hb H.m)⟩
/-- A new block. -/
theorem tj_any {n i : Nat} {d : Tmp} {op : Op} {ty : TypeId} {pos : String} {af : Array Edge} (hd : Nat.blt d n = true) (hs : slotAt S i = none) (hfr : fresh S (F.map Prod.fst) i d = true)
    (hrun : ∀ L f w, L i = false → (∀ e ∈ af, Region.binds .any e = true → L e.on = true) → TJ S V F M L f w → ∃ v w', (execOp (env f) { dst := some d, op := op, type := ty, pos := pos, after := af, guard := none }).run P w = .ok (.value v) w' ∧ M (Iv.mark L i) (upd f d v) w') :
    Iv.StepOk P ops n (TJ S V F M) i { dst := some d, op := op, type := ty, pos := pos, after := af, guard := none } := by
  refine ⟨fun d' h => by cases h; simpa using hd, fun L f w hL hdep H => ⟨fun _ => ?_, fun h => by cases h⟩⟩
  obtain ⟨v, w', h1, h2⟩ := hrun L f w hL hdep H
  rw [h1]
  exact H.step (.inl hs) hfr h2
/-- A store. -/
theorem tj_store {n i : Nat} {op : Op} {ty : TypeId} {pos : String} {af : Array Edge} (hs : slotAt S i = none)
    (hrun : ∀ L f w, L i = false → (∀ e ∈ af, Region.binds .any e = true → L e.on = true) → TJ S V F M L f w → ∃ w', (execOp (env f) { dst := none, op := op, type := ty, pos := pos, after := af, guard := none }).run P w = .ok .skip w' ∧ M (Iv.mark L i) f w') :
    Iv.StepOk P ops n (TJ S V F M) i { dst := none, op := op, type := ty, pos := pos, after := af, guard := none } := by
  refine ⟨fun d' h => (by cases h), fun L f w hL hdep H => ⟨fun _ => ?_, fun h => by cases h⟩⟩
  obtain ⟨w', h, hM⟩ := hrun L f w hL hdep H
  rw [h]
  exact H.skip hs hM
end

end Go.Proofs.Ytjflgblplmgjlaa
