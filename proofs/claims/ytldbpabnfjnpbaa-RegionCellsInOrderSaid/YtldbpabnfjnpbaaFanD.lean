/- A region that draws its order, in a frame with deferred calls or marks. -/
import Derived.Test.YtldbpabnfjnpbaaStepB
import Derived.Test.YtldbpabnfjnpbaaSeq
namespace Go.Proofs.Ytldbpabnfjnpbaa
open Go Go.RowKit
set_option linter.unusedVariables false
/-- The act with other deferred calls. -/
abbrev wd (ds : List Deferred) (a : Act) : Act := { a with defers := ds }
namespace F2
section
variable {P : Program} {ops : Array Oper} {s : List Nat} {n : Nat} {C : Nat → World → Prop} {Q : Act → Prop}
theorem soundD (ds : List Deferred) : ∀ (l : List Oper) (i : Nat) (f : Nat → Value) (a : Act), WalksE P ops s C n (fun a0 => Q (wd ds a0)) i l f → Is (wd [] a) n f → a.defers = ds → Walks P ops s C Q i l a
  | [], _, _, a, h, ha, hd => by
    have := h _ ha
    subst hd
    exact this
  | o :: l, i, f, a, h, ha, hd => by
    obtain ⟨v, hv, hk⟩ := h
    refine ⟨v, ?_, ?_⟩
    · unfold Fan
      have e1 : a.eval = env f := ha.eval
      have e2 : yielded ops a.tmps = yieldE ops f := ha.yields ops
      rw [e1, e2]; exact hv
    · cases hdd : o.dst with
      | none => rw [hdd] at hk; exact soundD ds l (i + 1) _ _ hk ha hd
      | some d => rw [hdd] at hk; exact soundD ds l (i + 1) _ _ hk.2 (ha.put hk.1 v) hd
end
end F2
theorem sq_skipD {P : Program} {ops : Array Oper} {R : Exit → Act → World → Prop} {rest : List Oper} {a : Act} {f : Nat → Value} {n : Nat} {w w' : World} {ds : List Deferred} {op : Op} {ty : TypeId} {pos : String} {af : Array Edge} (ha : Is a n f) (h : (execOp (env f) { dst := none, op := op, type := ty, pos := pos, after := af, guard := none }).run P w = .ok .skip w')
    (k : ∀ a', Is a' n f → wpList P ops R rest (wd ds a') w') : wpList P ops R ({ dst := none, op := op, type := ty, pos := pos, after := af, guard := none } :: rest) (wd ds a) w := by
  refine wpList_plain rfl fun K hK => ?_
  unfold Oper.wp
  rw [show (wd ds a).eval = env f from ha.eval, h]
  exact hK _ _ (k _ ha)
end Go.Proofs.Ytldbpabnfjnpbaa
