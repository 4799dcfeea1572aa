/-
  No cell of these rows narrows 'for every input' (looked for: loops, veiled, ifaces, maps, wideKeys, modest, calm, conditions, laid).
  DERIVED. THE GIVEN ROWS OF THIS SEAT. 6 by the template 'for every input the law returns true; each argument reads behind the call as it read before'; 0 by the template 'total and deterministic' (their statements: YtcdedefhofkbhaaTotals.lean).
  GIVEN WITH THE SEED: the statements are not yours to turn. If you find one false, say at which input.
  Laid BY PROGRAM, IN A SANDBOX (cutbox-rows.mjs): the forced cells as the released guide's own fill.sh prints them over the translation 5f13f7587c660d66… (all of the seat's roots in one cut). By AI agents, Wed Nov 11 2026. No macro, syntax, notation, axiom, sorry.
-/
import Derived.Test.YtcdedefhofkbhaaChecked
import GoSem.Claim
import GoSem.ClaimJoined
import GoSem.ClaimMapViews
import Derived.JoinedTies
import Derived.KernelRfl
namespace Go.Proofs.Ytcdedefhofkbhaa
/- THE CELL 'sum', in the pinned program and in every row, IS THE sha256 OF THE DUMP (.gsa) THAT YtcdedefhofkbhaaProg.lean LOADS. Nothing in Lean hashes anything: it is a label: what it is worth is what the hold of that sum in a sandbox is worth. -/
noncomputable def Try.pinned : Pinned := { name := "ytcdedefhofkbhaa", sum := "5f13f7587c660d66e50bfb4fcd47a3a6439e0b9f0ee2f3dfc57ed50b43b39549", checked := Try.checked }
namespace Rows
def none {H : Type} : Left H := { results := [], args := [] }

/-- 'printworkskeep1.ConicWithinHull': WHATEVER THE INPUT: true; the input reads as it did. -/
def conicWithinHullSpec : ChangeSpec := { name := "conicWithinHull", fn := fun _ => fun
  | [d1, d2] => { results := [.lit (.bool true)], args := [d1, d2] }
  | _ => none }
def conicWithinHullRow : OpenClaim := { program := "ytcdedefhofkbhaa", sum := "5f13f7587c660d66e50bfb4fcd47a3a6439e0b9f0ee2f3dfc57ed50b43b39549", func := "printworks/printworkskeep1.ConicWithinHull", spec := "conicWithinHull", apart := false }
def ConicWithinHullSaid : Prop := conicWithinHullRow.holds Try.pinned (OpenSpec.ofChange conicWithinHullSpec)

/-- ITS FALSE NEIGHBOUR: 'it returns false'. Refute it at one input. -/
def conicWithinHullWrong : ChangeSpec := { name := "conicWithinHull", fn := fun _ => fun
  | [d1, d2] => { results := [.lit (.bool false)], args := [d1, d2] }
  | _ => none }
def ConicWithinHullWrongFalsely : Prop := conicWithinHullRow.holds Try.pinned (OpenSpec.ofChange conicWithinHullWrong)

/-- 'printworkskeep1.ConicCircle': WHATEVER THE INPUT: true; the input reads as it did. -/
def conicCircleSpec : ChangeSpec := { name := "conicCircle", fn := fun _ => fun
  | [d] => { results := [.lit (.bool true)], args := [d] }
  | _ => none }
def conicCircleRow : OpenClaim := { program := "ytcdedefhofkbhaa", sum := "5f13f7587c660d66e50bfb4fcd47a3a6439e0b9f0ee2f3dfc57ed50b43b39549", func := "printworks/printworkskeep1.ConicCircle", spec := "conicCircle", apart := false }
def ConicCircleSaid : Prop := conicCircleRow.holds Try.pinned (OpenSpec.ofChange conicCircleSpec)

/-- ITS FALSE NEIGHBOUR: 'it returns false'. Refute it at one input. -/
def conicCircleWrong : ChangeSpec := { name := "conicCircle", fn := fun _ => fun
  | [d] => { results := [.lit (.bool false)], args := [d] }
  | _ => none }
def ConicCircleWrongFalsely : Prop := conicCircleRow.holds Try.pinned (OpenSpec.ofChange conicCircleWrong)

/-- 'printworkskeep1.ConicReversed': WHATEVER THE INPUT: true; the input reads as it did. -/
def conicReversedSpec : ChangeSpec := { name := "conicReversed", fn := fun _ => fun
  | [d] => { results := [.lit (.bool true)], args := [d] }
  | _ => none }
def conicReversedRow : OpenClaim := { program := "ytcdedefhofkbhaa", sum := "5f13f7587c660d66e50bfb4fcd47a3a6439e0b9f0ee2f3dfc57ed50b43b39549", func := "printworks/printworkskeep1.ConicReversed", spec := "conicReversed", unfollowed := true, recurses := true, apart := false }
def ConicReversedSaid : Prop := conicReversedRow.holds Try.pinned (OpenSpec.ofChange conicReversedSpec)

/-- ITS FALSE NEIGHBOUR: 'it returns false'. Refute it at one input. -/
def conicReversedWrong : ChangeSpec := { name := "conicReversed", fn := fun _ => fun
  | [d] => { results := [.lit (.bool false)], args := [d] }
  | _ => none }
def ConicReversedWrongFalsely : Prop := conicReversedRow.holds Try.pinned (OpenSpec.ofChange conicReversedWrong)

/-- 'printworkskeep1.ConicMoves': WHATEVER THE INPUT: true; the input reads as it did. -/
def conicMovesSpec : ChangeSpec := { name := "conicMoves", fn := fun _ => fun
  | [d1, d2, d3] => { results := [.lit (.bool true)], args := [d1, d2, d3] }
  | _ => none }
def conicMovesRow : OpenClaim := { program := "ytcdedefhofkbhaa", sum := "5f13f7587c660d66e50bfb4fcd47a3a6439e0b9f0ee2f3dfc57ed50b43b39549", func := "printworks/printworkskeep1.ConicMoves", spec := "conicMoves", apart := false }
def ConicMovesSaid : Prop := conicMovesRow.holds Try.pinned (OpenSpec.ofChange conicMovesSpec)

/-- ITS FALSE NEIGHBOUR: 'it returns false'. Refute it at one input. -/
def conicMovesWrong : ChangeSpec := { name := "conicMoves", fn := fun _ => fun
  | [d1, d2, d3] => { results := [.lit (.bool false)], args := [d1, d2, d3] }
  | _ => none }
def ConicMovesWrongFalsely : Prop := conicMovesRow.holds Try.pinned (OpenSpec.ofChange conicMovesWrong)

/-- 'printworkslaw1.ConicPointsExact': WHATEVER THE INPUT: true; the input reads as it did. -/
def conicPointsExactSpec : ChangeSpec := { name := "conicPointsExact", fn := fun _ => fun
  | [d1, d2] => { results := [.lit (.bool true)], args := [d1, d2] }
  | _ => none }
def conicPointsExactRow : OpenClaim := { program := "ytcdedefhofkbhaa", sum := "5f13f7587c660d66e50bfb4fcd47a3a6439e0b9f0ee2f3dfc57ed50b43b39549", func := "printworks/printworkslaw1.ConicPointsExact", spec := "conicPointsExact", apart := false }
def ConicPointsExactSaid : Prop := conicPointsExactRow.holds Try.pinned (OpenSpec.ofChange conicPointsExactSpec)

/-- ITS FALSE NEIGHBOUR: 'it returns false'. Refute it at one input. -/
def conicPointsExactWrong : ChangeSpec := { name := "conicPointsExact", fn := fun _ => fun
  | [d1, d2] => { results := [.lit (.bool false)], args := [d1, d2] }
  | _ => none }
def ConicPointsExactWrongFalsely : Prop := conicPointsExactRow.holds Try.pinned (OpenSpec.ofChange conicPointsExactWrong)

/-- 'printworkslaw1.ConicFlattenLines': WHATEVER THE INPUT: true; the input reads as it did. -/
def conicFlattenLinesSpec : ChangeSpec := { name := "conicFlattenLines", fn := fun _ => fun
  | [d] => { results := [.lit (.bool true)], args := [d] }
  | _ => none }
def conicFlattenLinesRow : OpenClaim := { program := "ytcdedefhofkbhaa", sum := "5f13f7587c660d66e50bfb4fcd47a3a6439e0b9f0ee2f3dfc57ed50b43b39549", func := "printworks/printworkslaw1.ConicFlattenLines", spec := "conicFlattenLines", apart := false }
def ConicFlattenLinesSaid : Prop := conicFlattenLinesRow.holds Try.pinned (OpenSpec.ofChange conicFlattenLinesSpec)

/-- ITS FALSE NEIGHBOUR: 'it returns false'. Refute it at one input. -/
def conicFlattenLinesWrong : ChangeSpec := { name := "conicFlattenLines", fn := fun _ => fun
  | [d] => { results := [.lit (.bool false)], args := [d] }
  | _ => none }
def ConicFlattenLinesWrongFalsely : Prop := conicFlattenLinesRow.holds Try.pinned (OpenSpec.ofChange conicFlattenLinesWrong)

/- THE SECOND FORM. 'bulk': how many values and letters a reading holds, each counted each time it is reached (what is shared counts as often as it is met; a slice's spare places count too). A statement '..UptoSaid' is the law's where the arguments, and the package variables that the reading takes, are together of bulk at most 1048576: NARROWER than '..Said'. Prove '..Said' where nothing that the law and all that it calls make is longer than what came in: it says more and counts as full. Else prove '..UptoSaid'. A law counts once. -/
mutual
def uptoBulk {H : Type} : DataW H → Nat
  | .lit (.string bytes) => bytes.length + 1
  | .lit _ => 1
  | .nil => 1
  | .ptr d => uptoBulk d + 1
  | .slice elems spare => uptoBulkAll elems + uptoBulkAll spare + 1
  | .agg parts => uptoBulkAll parts + 1
  | .iface _ d => uptoBulk d + 1
  | .map entries => uptoBulkEntries entries + 1
  | .held _ => 1
def uptoBulkAll {H : Type} : List (DataW H) → Nat
  | [] => 0
  | d :: r => uptoBulk d + uptoBulkAll r
def uptoBulkEntries {H : Type} : List (Lit × DataW H) → Nat
  | [] => 0
  | x :: r => uptoBulkEntry x + uptoBulkEntries r
def uptoBulkEntry {H : Type} : Lit × DataW H → Nat
  | (.string bytes, d) => bytes.length + uptoBulk d + 1
  | (_, d) => uptoBulk d + 1
 end
def uptoSmall : (H : Type) → List (DataW H) → Bool := fun _ ds => decide (uptoBulkAll ds ≤ 1048576)
def OpenSpec.upto (s : _root_.Go.ChangeSpec) : _root_.Go.OpenSpec := { _root_.Go.OpenSpec.ofChange s with cond := some uptoSmall }

/-- 'printworkskeep1.ConicWithinHull', WHERE WHAT IT READS IS OF BULK AT MOST 1048576: true; the input reads as it did. -/
def conicWithinHullUptoRow : OpenClaim := { program := "ytcdedefhofkbhaa", sum := "5f13f7587c660d66e50bfb4fcd47a3a6439e0b9f0ee2f3dfc57ed50b43b39549", func := "printworks/printworkskeep1.ConicWithinHull", spec := "conicWithinHull", apart := false, narrowed := true }
def ConicWithinHullUptoSaid : Prop := conicWithinHullUptoRow.holds Try.pinned (OpenSpec.upto conicWithinHullSpec)

/-- 'printworkskeep1.ConicCircle', WHERE WHAT IT READS IS OF BULK AT MOST 1048576: true; the input reads as it did. -/
def conicCircleUptoRow : OpenClaim := { program := "ytcdedefhofkbhaa", sum := "5f13f7587c660d66e50bfb4fcd47a3a6439e0b9f0ee2f3dfc57ed50b43b39549", func := "printworks/printworkskeep1.ConicCircle", spec := "conicCircle", apart := false, narrowed := true }
def ConicCircleUptoSaid : Prop := conicCircleUptoRow.holds Try.pinned (OpenSpec.upto conicCircleSpec)

/-- 'printworkskeep1.ConicReversed', WHERE WHAT IT READS IS OF BULK AT MOST 1048576: true; the input reads as it did. -/
def conicReversedUptoRow : OpenClaim := { program := "ytcdedefhofkbhaa", sum := "5f13f7587c660d66e50bfb4fcd47a3a6439e0b9f0ee2f3dfc57ed50b43b39549", func := "printworks/printworkskeep1.ConicReversed", spec := "conicReversed", unfollowed := true, recurses := true, apart := false, narrowed := true }
def ConicReversedUptoSaid : Prop := conicReversedUptoRow.holds Try.pinned (OpenSpec.upto conicReversedSpec)

/-- 'printworkskeep1.ConicMoves', WHERE WHAT IT READS IS OF BULK AT MOST 1048576: true; the input reads as it did. -/
def conicMovesUptoRow : OpenClaim := { program := "ytcdedefhofkbhaa", sum := "5f13f7587c660d66e50bfb4fcd47a3a6439e0b9f0ee2f3dfc57ed50b43b39549", func := "printworks/printworkskeep1.ConicMoves", spec := "conicMoves", apart := false, narrowed := true }
def ConicMovesUptoSaid : Prop := conicMovesUptoRow.holds Try.pinned (OpenSpec.upto conicMovesSpec)

/-- 'printworkslaw1.ConicPointsExact', WHERE WHAT IT READS IS OF BULK AT MOST 1048576: true; the input reads as it did. -/
def conicPointsExactUptoRow : OpenClaim := { program := "ytcdedefhofkbhaa", sum := "5f13f7587c660d66e50bfb4fcd47a3a6439e0b9f0ee2f3dfc57ed50b43b39549", func := "printworks/printworkslaw1.ConicPointsExact", spec := "conicPointsExact", apart := false, narrowed := true }
def ConicPointsExactUptoSaid : Prop := conicPointsExactUptoRow.holds Try.pinned (OpenSpec.upto conicPointsExactSpec)

/-- 'printworkslaw1.ConicFlattenLines', WHERE WHAT IT READS IS OF BULK AT MOST 1048576: true; the input reads as it did. -/
def conicFlattenLinesUptoRow : OpenClaim := { program := "ytcdedefhofkbhaa", sum := "5f13f7587c660d66e50bfb4fcd47a3a6439e0b9f0ee2f3dfc57ed50b43b39549", func := "printworks/printworkslaw1.ConicFlattenLines", spec := "conicFlattenLines", apart := false, narrowed := true }
def ConicFlattenLinesUptoSaid : Prop := conicFlattenLinesUptoRow.holds Try.pinned (OpenSpec.upto conicFlattenLinesSpec)

end Rows
end Go.Proofs.Ytcdedefhofkbhaa
