/- Regions without a program: validity, cells. -/
import Derived.Test.YtijkoaggcmgjiaaLeaf
namespace Go.Proofs.Ytijkoaggcmgjiaa
open Go
set_option linter.unusedVariables false

/-- Y, X0, X1 are in their ranges. -/
def RnIn (s : Rn) : Prop := (-8192 ≤ s.y ∧ s.y ≤ 8191) ∧ (-8192 ≤ s.a ∧ s.a ≤ 8192) ∧ (-8192 ≤ s.b ∧ s.b ≤ 8192)
instance (s : Rn) : Decidable (RnIn s) := inferInstanceAs (Decidable (_ ∧ _))
/-- A run may follow another one. -/
def Bh (s l : Rn) : Prop := l.y < s.y ∨ s.y = l.y ∧ l.b < s.a
instance (s l : Rn) : Decidable (Bh s l) := inferInstanceAs (Decidable (_ ∨ _))
theorem behind_eq (s l : Rn) : behind s l = decide (Bh s l) := rfl
def okB : Option Rn → Rn → Prop
  | none, _ => True
  | some l, s => Bh s l
instance (p : Option Rn) (s : Rn) : Decidable (okB p s) := by cases p <;> unfold okB <;> infer_instance
/-- The error of a run behind another one. -/
def chkRn (p : Option Rn) (s : Rn) : Int := if ¬ RnIn s then 3 else if s.b ≤ s.a then 4 else if ¬ okB p s then 18 else 0
def chkAll : Option Rn → List Rn → Int
  | _, [] => 0
  | p, s :: r => if chkRn p s = 0 then chkAll (some s) r else chkRn p s
/-- The error of a region. -/
def chk (ss : List Rn) : Int := chkAll none ss
/-- The run before the j-th. -/
def pre (ss : List Rn) : Nat → Option Rn
  | 0 => none
  | j + 1 => ss[j]?
theorem chkAll_at {ss : List Rn} {j : Nat} (h : j < ss.length) : chkAll (pre ss j) (ss.drop j) = if chkRn (pre ss j) ss[j] = 0 then chkAll (pre ss (j + 1)) (ss.drop (j + 1)) else chkRn (pre ss j) ss[j] := by
  rw [List.drop_eq_getElem_cons h, chkAll]
  have : pre ss (j + 1) = some ss[j] := List.getElem?_eq_getElem h
  rw [this]

end Go.Proofs.Ytijkoaggcmgjiaa
