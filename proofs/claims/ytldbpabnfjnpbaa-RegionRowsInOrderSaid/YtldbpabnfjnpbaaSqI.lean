/- A region in the order of the text, step by step, within a round of a range over a function. -/
import Derived.Test.YtldbpabnfjnpbaaQrd
import Derived.Test.YtldbpabnfjnpbaaSeq
namespace Go.Proofs.Ytldbpabnfjnpbaa
open Go
section
variable {P : Program} {ops : Array Oper} {R : Exit → Act → World → Prop} {rest : List Oper} {a : Act} {f : Nat → Value} {n l m : Nat} {w w' : World}
theorem sqI_val {d : Tmp} {v : Value} {op : Op} {ty : TypeId} {pos : String} {af : Array Edge} (hnd : ∀ c, op ≠ .defer c) (ha : Is a n f) (hlt : Nat.blt d n = true) (h : (execOp (env f) { dst := some d, op := op, type := ty, pos := pos, after := af, guard := none }).run P w = .ok (.value v) w')
    (k : ∀ a', Is a' n (upd f d v) → wpListIn (Fence.wide.inRound l) m P ops R rest a' w') : wpListIn (Fence.wide.inRound l) m P ops R ({ dst := some d, op := op, type := ty, pos := pos, after := af, guard := none } :: rest) a w := by
  unfold wpListIn
  rw [if_pos (by unfold Region.wanted; rfl)]
  unfold Oper.wpIn
  refine ⟨fun _ _ => trivial, ?_⟩
  rw [semAt_any hnd, ha.eval, h]
  exact k _ (ha.put (by simpa using hlt) v)
theorem sqI_skip {op : Op} {ty : TypeId} {pos : String} {af : Array Edge} (hnd : ∀ c, op ≠ .defer c) (ha : Is a n f) (h : (execOp (env f) { dst := none, op := op, type := ty, pos := pos, after := af, guard := none }).run P w = .ok .skip w')
    (k : ∀ a', Is a' n f → wpListIn (Fence.wide.inRound l) m P ops R rest a' w') : wpListIn (Fence.wide.inRound l) m P ops R ({ dst := none, op := op, type := ty, pos := pos, after := af, guard := none } :: rest) a w := by
  unfold wpListIn
  rw [if_pos (by unfold Region.wanted; rfl)]
  unfold Oper.wpIn
  refine ⟨fun _ _ => trivial, ?_⟩
  rw [semAt_any hnd, ha.eval, h]
  exact k _ ha
theorem wpListIn_end (h : R .normal a w) : wpListIn (Fence.wide.inRound l) m P ops R [] a w := h
theorem sqI_start {tmps : Array Value} {os : List Oper} (hn : tmps.size = n) (k : ∀ a, Is a n (fun i => tmps.getD i undef) → wpListIn (Fence.wide.inRound l) m P ops R os a w) : wpListIn (Fence.wide.inRound l) m P ops R os ⟨tmps, []⟩ w := k _ (Is.start _ hn)
end
end Go.Proofs.Ytldbpabnfjnpbaa
