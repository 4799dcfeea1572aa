/-
  No cell of these rows narrows 'for every input' (looked for: loops, veiled, ifaces, maps, wideKeys, modest, calm, conditions, laid).
  DERIVED. THE GIVEN ROWS OF THIS SEAT. 8 by the template 'for every input the law returns true; each argument reads behind the call as it read before'; 0 by the template 'total and deterministic' (their statements: YtijkoaggcmgjiaaTotals.lean).
  GIVEN WITH THE SEED: the statements are not yours to turn. If you find one false, say at which input.
  Laid BY PROGRAM, IN A SANDBOX (cutbox-rows.mjs): the forced cells as the released guide's own fill.sh prints them over the translation d223e96a242b6ab0… (all of the seat's roots in one cut). By AI agents, Wed Nov 11 2026. No macro, syntax, notation, axiom, sorry.
-/
import Derived.Test.YtijkoaggcmgjiaaChecked
import GoSem.Claim
import GoSem.ClaimJoined
import GoSem.ClaimMapViews
import Derived.JoinedTies
import Derived.KernelRfl
namespace Go.Proofs.Ytijkoaggcmgjiaa
/- THE CELL 'sum', in the pinned program and in every row, IS THE sha256 OF THE DUMP (.gsa) THAT YtijkoaggcmgjiaaProg.lean LOADS. Nothing in Lean hashes anything: it is a label: what it is worth is what the hold of that sum in a sandbox is worth. -/
noncomputable def Try.pinned : Pinned := { name := "ytijkoaggcmgjiaa", sum := "d223e96a242b6ab0644464cd3c80d9845104a9f6d5d5fece38e08c02bf6d9749", checked := Try.checked }
namespace Rows
def none {H : Type} : Left H := { results := [], args := [] }

/-- 'printworkslaw1.FillCellsByRule': WHATEVER THE INPUT: true; the input reads as it did. -/
def fillCellsByRuleSpec : ChangeSpec := { name := "fillCellsByRule", fn := fun _ => fun
  | [d1, d2] => { results := [.lit (.bool true)], args := [d1, d2] }
  | _ => none }
def fillCellsByRuleRow : OpenClaim := { program := "ytijkoaggcmgjiaa", sum := "d223e96a242b6ab0644464cd3c80d9845104a9f6d5d5fece38e08c02bf6d9749", func := "printworks/printworkslaw1.FillCellsByRule", spec := "fillCellsByRule", unfollowed := true, recurses := true, apart := false }
def FillCellsByRuleSaid : Prop := fillCellsByRuleRow.holds Try.pinned (OpenSpec.ofChange fillCellsByRuleSpec)

/-- ITS FALSE NEIGHBOUR: 'it returns false'. Refute it at one input. -/
def fillCellsByRuleWrong : ChangeSpec := { name := "fillCellsByRule", fn := fun _ => fun
  | [d1, d2] => { results := [.lit (.bool false)], args := [d1, d2] }
  | _ => none }
def FillCellsByRuleWrongFalsely : Prop := fillCellsByRuleRow.holds Try.pinned (OpenSpec.ofChange fillCellsByRuleWrong)

/-- 'printworkskeep1.FillAreaBound': WHATEVER THE INPUT: true; the input reads as it did. -/
def fillAreaBoundSpec : ChangeSpec := { name := "fillAreaBound", fn := fun _ => fun
  | [d] => { results := [.lit (.bool true)], args := [d] }
  | _ => none }
def fillAreaBoundRow : OpenClaim := { program := "ytijkoaggcmgjiaa", sum := "d223e96a242b6ab0644464cd3c80d9845104a9f6d5d5fece38e08c02bf6d9749", func := "printworks/printworkskeep1.FillAreaBound", spec := "fillAreaBound", unfollowed := true, recurses := true, apart := false }
def FillAreaBoundSaid : Prop := fillAreaBoundRow.holds Try.pinned (OpenSpec.ofChange fillAreaBoundSpec)

/-- ITS FALSE NEIGHBOUR: 'it returns false'. Refute it at one input. -/
def fillAreaBoundWrong : ChangeSpec := { name := "fillAreaBound", fn := fun _ => fun
  | [d] => { results := [.lit (.bool false)], args := [d] }
  | _ => none }
def FillAreaBoundWrongFalsely : Prop := fillAreaBoundRow.holds Try.pinned (OpenSpec.ofChange fillAreaBoundWrong)

/-- 'printworkskeep1.FillEvenOddXor': WHATEVER THE INPUT: true; the input reads as it did. -/
def fillEvenOddXorSpec : ChangeSpec := { name := "fillEvenOddXor", fn := fun _ => fun
  | [d1, d2] => { results := [.lit (.bool true)], args := [d1, d2] }
  | _ => none }
def fillEvenOddXorRow : OpenClaim := { program := "ytijkoaggcmgjiaa", sum := "d223e96a242b6ab0644464cd3c80d9845104a9f6d5d5fece38e08c02bf6d9749", func := "printworks/printworkskeep1.FillEvenOddXor", spec := "fillEvenOddXor", unfollowed := true, recurses := true, apart := false }
def FillEvenOddXorSaid : Prop := fillEvenOddXorRow.holds Try.pinned (OpenSpec.ofChange fillEvenOddXorSpec)

/-- ITS FALSE NEIGHBOUR: 'it returns false'. Refute it at one input. -/
def fillEvenOddXorWrong : ChangeSpec := { name := "fillEvenOddXor", fn := fun _ => fun
  | [d1, d2] => { results := [.lit (.bool false)], args := [d1, d2] }
  | _ => none }
def FillEvenOddXorWrongFalsely : Prop := fillEvenOddXorRow.holds Try.pinned (OpenSpec.ofChange fillEvenOddXorWrong)

/-- 'printworkskeep1.FillReversed': WHATEVER THE INPUT: true; the input reads as it did. -/
def fillReversedSpec : ChangeSpec := { name := "fillReversed", fn := fun _ => fun
  | [d] => { results := [.lit (.bool true)], args := [d] }
  | _ => none }
def fillReversedRow : OpenClaim := { program := "ytijkoaggcmgjiaa", sum := "d223e96a242b6ab0644464cd3c80d9845104a9f6d5d5fece38e08c02bf6d9749", func := "printworks/printworkskeep1.FillReversed", spec := "fillReversed", unfollowed := true, recurses := true, apart := false }
def FillReversedSaid : Prop := fillReversedRow.holds Try.pinned (OpenSpec.ofChange fillReversedSpec)

/-- ITS FALSE NEIGHBOUR: 'it returns false'. Refute it at one input. -/
def fillReversedWrong : ChangeSpec := { name := "fillReversed", fn := fun _ => fun
  | [d] => { results := [.lit (.bool false)], args := [d] }
  | _ => none }
def FillReversedWrongFalsely : Prop := fillReversedRow.holds Try.pinned (OpenSpec.ofChange fillReversedWrong)

/-- 'printworkskeep1.FillConvexArea': WHATEVER THE INPUT: true; the input reads as it did. -/
def fillConvexAreaSpec : ChangeSpec := { name := "fillConvexArea", fn := fun _ => fun
  | [d1, d2, d3] => { results := [.lit (.bool true)], args := [d1, d2, d3] }
  | _ => none }
def fillConvexAreaRow : OpenClaim := { program := "ytijkoaggcmgjiaa", sum := "d223e96a242b6ab0644464cd3c80d9845104a9f6d5d5fece38e08c02bf6d9749", func := "printworks/printworkskeep1.FillConvexArea", spec := "fillConvexArea", unfollowed := true, recurses := true, apart := false }
def FillConvexAreaSaid : Prop := fillConvexAreaRow.holds Try.pinned (OpenSpec.ofChange fillConvexAreaSpec)

/-- ITS FALSE NEIGHBOUR: 'it returns false'. Refute it at one input. -/
def fillConvexAreaWrong : ChangeSpec := { name := "fillConvexArea", fn := fun _ => fun
  | [d1, d2, d3] => { results := [.lit (.bool false)], args := [d1, d2, d3] }
  | _ => none }
def FillConvexAreaWrongFalsely : Prop := fillConvexAreaRow.holds Try.pinned (OpenSpec.ofChange fillConvexAreaWrong)

/-- 'printworkstop.TopWinding': WHATEVER THE INPUT: true; the input reads as it did. -/
def topWindingSpec : ChangeSpec := { name := "topWinding", fn := fun _ => fun
  | [d] => { results := [.lit (.bool true)], args := [d] }
  | _ => none }
def topWindingRow : OpenClaim := { program := "ytijkoaggcmgjiaa", sum := "d223e96a242b6ab0644464cd3c80d9845104a9f6d5d5fece38e08c02bf6d9749", func := "printworks/printworkstop.TopWinding", spec := "topWinding", unfollowed := true, recurses := true, apart := false }
def TopWindingSaid : Prop := topWindingRow.holds Try.pinned (OpenSpec.ofChange topWindingSpec)

/-- ITS FALSE NEIGHBOUR: 'it returns false'. Refute it at one input. -/
def topWindingWrong : ChangeSpec := { name := "topWinding", fn := fun _ => fun
  | [d] => { results := [.lit (.bool false)], args := [d] }
  | _ => none }
def TopWindingWrongFalsely : Prop := topWindingRow.holds Try.pinned (OpenSpec.ofChange topWindingWrong)

/-- 'printworkslaw1.StrokeStyles': WHATEVER THE INPUT: true; the input reads as it did. -/
def strokeStylesSpec : ChangeSpec := { name := "strokeStyles", fn := fun _ => fun
  | [d] => { results := [.lit (.bool true)], args := [d] }
  | _ => none }
def strokeStylesRow : OpenClaim := { program := "ytijkoaggcmgjiaa", sum := "d223e96a242b6ab0644464cd3c80d9845104a9f6d5d5fece38e08c02bf6d9749", func := "printworks/printworkslaw1.StrokeStyles", spec := "strokeStyles", apart := false }
def StrokeStylesSaid : Prop := strokeStylesRow.holds Try.pinned (OpenSpec.ofChange strokeStylesSpec)

/-- ITS FALSE NEIGHBOUR: 'it returns false'. Refute it at one input. -/
def strokeStylesWrong : ChangeSpec := { name := "strokeStyles", fn := fun _ => fun
  | [d] => { results := [.lit (.bool false)], args := [d] }
  | _ => none }
def StrokeStylesWrongFalsely : Prop := strokeStylesRow.holds Try.pinned (OpenSpec.ofChange strokeStylesWrong)

/-- 'printworkslaw1.StrokeOutlineParts': WHATEVER THE INPUT: true; the input reads as it did. -/
def strokeOutlinePartsSpec : ChangeSpec := { name := "strokeOutlineParts", fn := fun _ => fun
  | [d1, d2] => { results := [.lit (.bool true)], args := [d1, d2] }
  | _ => none }
def strokeOutlinePartsRow : OpenClaim := { program := "ytijkoaggcmgjiaa", sum := "d223e96a242b6ab0644464cd3c80d9845104a9f6d5d5fece38e08c02bf6d9749", func := "printworks/printworkslaw1.StrokeOutlineParts", spec := "strokeOutlineParts", unfollowed := true, recurses := true, apart := false }
def StrokeOutlinePartsSaid : Prop := strokeOutlinePartsRow.holds Try.pinned (OpenSpec.ofChange strokeOutlinePartsSpec)

/-- ITS FALSE NEIGHBOUR: 'it returns false'. Refute it at one input. -/
def strokeOutlinePartsWrong : ChangeSpec := { name := "strokeOutlineParts", fn := fun _ => fun
  | [d1, d2] => { results := [.lit (.bool false)], args := [d1, d2] }
  | _ => none }
def StrokeOutlinePartsWrongFalsely : Prop := strokeOutlinePartsRow.holds Try.pinned (OpenSpec.ofChange strokeOutlinePartsWrong)

/- THE SECOND FORM. 'bulk': how many values and letters a reading holds, each counted each time it is reached (what is shared counts as often as it is met; a slice's spare places count too). A statement '..UptoSaid' is the law's where the arguments, and the package variables that the reading takes, are together of bulk at most 1048576: NARROWER than '..Said'. Prove '..Said' where nothing that the law and all that it calls make is longer than what came in: it says more and counts as full. Else prove '..UptoSaid'. A law counts once. -/
mutual
def uptoBulk {H : Type} : DataW H → Nat
  | .lit (.string bytes) => bytes.length + 1
  | .lit _ => 1
  | .nil => 1
  | .ptr d => uptoBulk d + 1
  | .slice elems spare => uptoBulkAll elems + uptoBulkAll spare + 1
  | .agg parts => uptoBulkAll parts + 1
  | .iface _ d => uptoBulk d + 1
  | .map entries => uptoBulkEntries entries + 1
  | .held _ => 1
def uptoBulkAll {H : Type} : List (DataW H) → Nat
  | [] => 0
  | d :: r => uptoBulk d + uptoBulkAll r
def uptoBulkEntries {H : Type} : List (Lit × DataW H) → Nat
  | [] => 0
  | x :: r => uptoBulkEntry x + uptoBulkEntries r
def uptoBulkEntry {H : Type} : Lit × DataW H → Nat
  | (.string bytes, d) => bytes.length + uptoBulk d + 1
  | (_, d) => uptoBulk d + 1
 end
def uptoSmall : (H : Type) → List (DataW H) → Bool := fun _ ds => decide (uptoBulkAll ds ≤ 1048576)
def OpenSpec.upto (s : _root_.Go.ChangeSpec) : _root_.Go.OpenSpec := { _root_.Go.OpenSpec.ofChange s with cond := some uptoSmall }

/-- 'printworkslaw1.FillCellsByRule', WHERE WHAT IT READS IS OF BULK AT MOST 1048576: true; the input reads as it did. -/
def fillCellsByRuleUptoRow : OpenClaim := { program := "ytijkoaggcmgjiaa", sum := "d223e96a242b6ab0644464cd3c80d9845104a9f6d5d5fece38e08c02bf6d9749", func := "printworks/printworkslaw1.FillCellsByRule", spec := "fillCellsByRule", unfollowed := true, recurses := true, apart := false, narrowed := true }
def FillCellsByRuleUptoSaid : Prop := fillCellsByRuleUptoRow.holds Try.pinned (OpenSpec.upto fillCellsByRuleSpec)

/-- 'printworkskeep1.FillAreaBound', WHERE WHAT IT READS IS OF BULK AT MOST 1048576: true; the input reads as it did. -/
def fillAreaBoundUptoRow : OpenClaim := { program := "ytijkoaggcmgjiaa", sum := "d223e96a242b6ab0644464cd3c80d9845104a9f6d5d5fece38e08c02bf6d9749", func := "printworks/printworkskeep1.FillAreaBound", spec := "fillAreaBound", unfollowed := true, recurses := true, apart := false, narrowed := true }
def FillAreaBoundUptoSaid : Prop := fillAreaBoundUptoRow.holds Try.pinned (OpenSpec.upto fillAreaBoundSpec)

/-- 'printworkskeep1.FillEvenOddXor', WHERE WHAT IT READS IS OF BULK AT MOST 1048576: true; the input reads as it did. -/
def fillEvenOddXorUptoRow : OpenClaim := { program := "ytijkoaggcmgjiaa", sum := "d223e96a242b6ab0644464cd3c80d9845104a9f6d5d5fece38e08c02bf6d9749", func := "printworks/printworkskeep1.FillEvenOddXor", spec := "fillEvenOddXor", unfollowed := true, recurses := true, apart := false, narrowed := true }
def FillEvenOddXorUptoSaid : Prop := fillEvenOddXorUptoRow.holds Try.pinned (OpenSpec.upto fillEvenOddXorSpec)

/-- 'printworkskeep1.FillReversed', WHERE WHAT IT READS IS OF BULK AT MOST 1048576: true; the input reads as it did. -/
def fillReversedUptoRow : OpenClaim := { program := "ytijkoaggcmgjiaa", sum := "d223e96a242b6ab0644464cd3c80d9845104a9f6d5d5fece38e08c02bf6d9749", func := "printworks/printworkskeep1.FillReversed", spec := "fillReversed", unfollowed := true, recurses := true, apart := false, narrowed := true }
def FillReversedUptoSaid : Prop := fillReversedUptoRow.holds Try.pinned (OpenSpec.upto fillReversedSpec)

/-- 'printworkskeep1.FillConvexArea', WHERE WHAT IT READS IS OF BULK AT MOST 1048576: true; the input reads as it did. -/
def fillConvexAreaUptoRow : OpenClaim := { program := "ytijkoaggcmgjiaa", sum := "d223e96a242b6ab0644464cd3c80d9845104a9f6d5d5fece38e08c02bf6d9749", func := "printworks/printworkskeep1.FillConvexArea", spec := "fillConvexArea", unfollowed := true, recurses := true, apart := false, narrowed := true }
def FillConvexAreaUptoSaid : Prop := fillConvexAreaUptoRow.holds Try.pinned (OpenSpec.upto fillConvexAreaSpec)

/-- 'printworkstop.TopWinding', WHERE WHAT IT READS IS OF BULK AT MOST 1048576: true; the input reads as it did. -/
def topWindingUptoRow : OpenClaim := { program := "ytijkoaggcmgjiaa", sum := "d223e96a242b6ab0644464cd3c80d9845104a9f6d5d5fece38e08c02bf6d9749", func := "printworks/printworkstop.TopWinding", spec := "topWinding", unfollowed := true, recurses := true, apart := false, narrowed := true }
def TopWindingUptoSaid : Prop := topWindingUptoRow.holds Try.pinned (OpenSpec.upto topWindingSpec)

/-- 'printworkslaw1.StrokeStyles', WHERE WHAT IT READS IS OF BULK AT MOST 1048576: true; the input reads as it did. -/
def strokeStylesUptoRow : OpenClaim := { program := "ytijkoaggcmgjiaa", sum := "d223e96a242b6ab0644464cd3c80d9845104a9f6d5d5fece38e08c02bf6d9749", func := "printworks/printworkslaw1.StrokeStyles", spec := "strokeStyles", apart := false, narrowed := true }
def StrokeStylesUptoSaid : Prop := strokeStylesUptoRow.holds Try.pinned (OpenSpec.upto strokeStylesSpec)

/-- 'printworkslaw1.StrokeOutlineParts', WHERE WHAT IT READS IS OF BULK AT MOST 1048576: true; the input reads as it did. -/
def strokeOutlinePartsUptoRow : OpenClaim := { program := "ytijkoaggcmgjiaa", sum := "d223e96a242b6ab0644464cd3c80d9845104a9f6d5d5fece38e08c02bf6d9749", func := "printworks/printworkslaw1.StrokeOutlineParts", spec := "strokeOutlineParts", unfollowed := true, recurses := true, apart := false, narrowed := true }
def StrokeOutlinePartsUptoSaid : Prop := strokeOutlinePartsUptoRow.holds Try.pinned (OpenSpec.upto strokeOutlinePartsSpec)

end Rows
end Go.Proofs.Ytijkoaggcmgjiaa
