/-
  No cell of these rows narrows 'for every input' (looked for: loops, veiled, ifaces, maps, wideKeys, modest, calm, conditions, laid).
  DERIVED. THE GIVEN ROWS OF THIS SEAT. 14 by the template 'for every input the law returns true; each argument reads behind the call as it read before'; 0 by the template 'total and deterministic' (their statements: YtepnpnidbpaimaaTotals.lean).
  GIVEN WITH THE SEED: the statements are not yours to turn. If you find one false, say at which input.
  Laid BY PROGRAM, IN A SANDBOX (cutbox-rows.mjs): the forced cells as the released guide's own fill.sh prints them over the translation 0e1fe7b2808eb0d6… (all of the seat's roots in one cut). By AI agents, Wed Nov 11 2026. No macro, syntax, notation, axiom, sorry.
-/
import Derived.Test.YtepnpnidbpaimaaChecked
import GoSem.Claim
import GoSem.ClaimJoined
import GoSem.ClaimMapViews
import Derived.JoinedTies
import Derived.KernelRfl
namespace Go.Proofs.Ytepnpnidbpaimaa
/- THE CELL 'sum', in the pinned program and in every row, IS THE sha256 OF THE DUMP (.gsa) THAT YtepnpnidbpaimaaProg.lean LOADS. Nothing in Lean hashes anything: it is a label: what it is worth is what the hold of that sum in a sandbox is worth. -/
noncomputable def Try.pinned : Pinned := { name := "ytepnpnidbpaimaa", sum := "0e1fe7b2808eb0d67222cbe522bca19b34afe5230096f3374efd1ed0d3934ad1", checked := Try.checked }
namespace Rows
def none {H : Type} : Left H := { results := [], args := [] }

/-- 'printworkskeep1.RegionAlgebra': WHATEVER THE INPUT: true; the input reads as it did. -/
def regionAlgebraSpec : ChangeSpec := { name := "regionAlgebra", fn := fun _ => fun
  | [d1, d2, d3] => { results := [.lit (.bool true)], args := [d1, d2, d3] }
  | _ => none }
def regionAlgebraRow : OpenClaim := { program := "ytepnpnidbpaimaa", sum := "0e1fe7b2808eb0d67222cbe522bca19b34afe5230096f3374efd1ed0d3934ad1", func := "printworks/printworkskeep1.RegionAlgebra", spec := "regionAlgebra", unfollowed := true, recurses := true, apart := false }
def RegionAlgebraSaid : Prop := regionAlgebraRow.holds Try.pinned (OpenSpec.ofChange regionAlgebraSpec)

/-- ITS FALSE NEIGHBOUR: 'it returns false'. Refute it at one input. -/
def regionAlgebraWrong : ChangeSpec := { name := "regionAlgebra", fn := fun _ => fun
  | [d1, d2, d3] => { results := [.lit (.bool false)], args := [d1, d2, d3] }
  | _ => none }
def RegionAlgebraWrongFalsely : Prop := regionAlgebraRow.holds Try.pinned (OpenSpec.ofChange regionAlgebraWrong)

/-- 'printworkskeep1.RegionAreas': WHATEVER THE INPUT: true; the input reads as it did. -/
def regionAreasSpec : ChangeSpec := { name := "regionAreas", fn := fun _ => fun
  | [d1, d2] => { results := [.lit (.bool true)], args := [d1, d2] }
  | _ => none }
def regionAreasRow : OpenClaim := { program := "ytepnpnidbpaimaa", sum := "0e1fe7b2808eb0d67222cbe522bca19b34afe5230096f3374efd1ed0d3934ad1", func := "printworks/printworkskeep1.RegionAreas", spec := "regionAreas", unfollowed := true, recurses := true, apart := false }
def RegionAreasSaid : Prop := regionAreasRow.holds Try.pinned (OpenSpec.ofChange regionAreasSpec)

/-- ITS FALSE NEIGHBOUR: 'it returns false'. Refute it at one input. -/
def regionAreasWrong : ChangeSpec := { name := "regionAreas", fn := fun _ => fun
  | [d1, d2] => { results := [.lit (.bool false)], args := [d1, d2] }
  | _ => none }
def RegionAreasWrongFalsely : Prop := regionAreasRow.holds Try.pinned (OpenSpec.ofChange regionAreasWrong)

/-- 'printworkskeep1.RegionCellsBack': WHATEVER THE INPUT: true; the input reads as it did. -/
def regionCellsBackSpec : ChangeSpec := { name := "regionCellsBack", fn := fun _ => fun
  | [d] => { results := [.lit (.bool true)], args := [d] }
  | _ => none }
def regionCellsBackRow : OpenClaim := { program := "ytepnpnidbpaimaa", sum := "0e1fe7b2808eb0d67222cbe522bca19b34afe5230096f3374efd1ed0d3934ad1", func := "printworks/printworkskeep1.RegionCellsBack", spec := "regionCellsBack", unfollowed := true, recurses := true, apart := false }
def RegionCellsBackSaid : Prop := regionCellsBackRow.holds Try.pinned (OpenSpec.ofChange regionCellsBackSpec)

/-- ITS FALSE NEIGHBOUR: 'it returns false'. Refute it at one input. -/
def regionCellsBackWrong : ChangeSpec := { name := "regionCellsBack", fn := fun _ => fun
  | [d] => { results := [.lit (.bool false)], args := [d] }
  | _ => none }
def RegionCellsBackWrongFalsely : Prop := regionCellsBackRow.holds Try.pinned (OpenSpec.ofChange regionCellsBackWrong)

/-- 'printworkskeep1.RegionShiftBack': WHATEVER THE INPUT: true; the input reads as it did. -/
def regionShiftBackSpec : ChangeSpec := { name := "regionShiftBack", fn := fun _ => fun
  | [d1, d2, d3] => { results := [.lit (.bool true)], args := [d1, d2, d3] }
  | _ => none }
def regionShiftBackRow : OpenClaim := { program := "ytepnpnidbpaimaa", sum := "0e1fe7b2808eb0d67222cbe522bca19b34afe5230096f3374efd1ed0d3934ad1", func := "printworks/printworkskeep1.RegionShiftBack", spec := "regionShiftBack", unfollowed := true, recurses := true, apart := false }
def RegionShiftBackSaid : Prop := regionShiftBackRow.holds Try.pinned (OpenSpec.ofChange regionShiftBackSpec)

/-- ITS FALSE NEIGHBOUR: 'it returns false'. Refute it at one input. -/
def regionShiftBackWrong : ChangeSpec := { name := "regionShiftBack", fn := fun _ => fun
  | [d1, d2, d3] => { results := [.lit (.bool false)], args := [d1, d2, d3] }
  | _ => none }
def RegionShiftBackWrongFalsely : Prop := regionShiftBackRow.holds Try.pinned (OpenSpec.ofChange regionShiftBackWrong)

/-- 'printworkslaw1.RegionCheckForm': WHATEVER THE INPUT: true; the input reads as it did. -/
def regionCheckFormSpec : ChangeSpec := { name := "regionCheckForm", fn := fun _ => fun
  | [d] => { results := [.lit (.bool true)], args := [d] }
  | _ => none }
def regionCheckFormRow : OpenClaim := { program := "ytepnpnidbpaimaa", sum := "0e1fe7b2808eb0d67222cbe522bca19b34afe5230096f3374efd1ed0d3934ad1", func := "printworks/printworkslaw1.RegionCheckForm", spec := "regionCheckForm", apart := false }
def RegionCheckFormSaid : Prop := regionCheckFormRow.holds Try.pinned (OpenSpec.ofChange regionCheckFormSpec)

/-- ITS FALSE NEIGHBOUR: 'it returns false'. Refute it at one input. -/
def regionCheckFormWrong : ChangeSpec := { name := "regionCheckForm", fn := fun _ => fun
  | [d] => { results := [.lit (.bool false)], args := [d] }
  | _ => none }
def RegionCheckFormWrongFalsely : Prop := regionCheckFormRow.holds Try.pinned (OpenSpec.ofChange regionCheckFormWrong)

/-- 'printworkslaw1.RegionUnionCells': WHATEVER THE INPUT: true; the input reads as it did. -/
def regionUnionCellsSpec : ChangeSpec := { name := "regionUnionCells", fn := fun _ => fun
  | [d1, d2] => { results := [.lit (.bool true)], args := [d1, d2] }
  | _ => none }
def regionUnionCellsRow : OpenClaim := { program := "ytepnpnidbpaimaa", sum := "0e1fe7b2808eb0d67222cbe522bca19b34afe5230096f3374efd1ed0d3934ad1", func := "printworks/printworkslaw1.RegionUnionCells", spec := "regionUnionCells", unfollowed := true, recurses := true, apart := false }
def RegionUnionCellsSaid : Prop := regionUnionCellsRow.holds Try.pinned (OpenSpec.ofChange regionUnionCellsSpec)

/-- ITS FALSE NEIGHBOUR: 'it returns false'. Refute it at one input. -/
def regionUnionCellsWrong : ChangeSpec := { name := "regionUnionCells", fn := fun _ => fun
  | [d1, d2] => { results := [.lit (.bool false)], args := [d1, d2] }
  | _ => none }
def RegionUnionCellsWrongFalsely : Prop := regionUnionCellsRow.holds Try.pinned (OpenSpec.ofChange regionUnionCellsWrong)

/-- 'printworkslaw1.RegionIntersectCells': WHATEVER THE INPUT: true; the input reads as it did. -/
def regionIntersectCellsSpec : ChangeSpec := { name := "regionIntersectCells", fn := fun _ => fun
  | [d1, d2] => { results := [.lit (.bool true)], args := [d1, d2] }
  | _ => none }
def regionIntersectCellsRow : OpenClaim := { program := "ytepnpnidbpaimaa", sum := "0e1fe7b2808eb0d67222cbe522bca19b34afe5230096f3374efd1ed0d3934ad1", func := "printworks/printworkslaw1.RegionIntersectCells", spec := "regionIntersectCells", unfollowed := true, recurses := true, apart := false }
def RegionIntersectCellsSaid : Prop := regionIntersectCellsRow.holds Try.pinned (OpenSpec.ofChange regionIntersectCellsSpec)

/-- ITS FALSE NEIGHBOUR: 'it returns false'. Refute it at one input. -/
def regionIntersectCellsWrong : ChangeSpec := { name := "regionIntersectCells", fn := fun _ => fun
  | [d1, d2] => { results := [.lit (.bool false)], args := [d1, d2] }
  | _ => none }
def RegionIntersectCellsWrongFalsely : Prop := regionIntersectCellsRow.holds Try.pinned (OpenSpec.ofChange regionIntersectCellsWrong)

/-- 'printworkslaw1.RegionDifferenceCells': WHATEVER THE INPUT: true; the input reads as it did. -/
def regionDifferenceCellsSpec : ChangeSpec := { name := "regionDifferenceCells", fn := fun _ => fun
  | [d1, d2] => { results := [.lit (.bool true)], args := [d1, d2] }
  | _ => none }
def regionDifferenceCellsRow : OpenClaim := { program := "ytepnpnidbpaimaa", sum := "0e1fe7b2808eb0d67222cbe522bca19b34afe5230096f3374efd1ed0d3934ad1", func := "printworks/printworkslaw1.RegionDifferenceCells", spec := "regionDifferenceCells", unfollowed := true, recurses := true, apart := false }
def RegionDifferenceCellsSaid : Prop := regionDifferenceCellsRow.holds Try.pinned (OpenSpec.ofChange regionDifferenceCellsSpec)

/-- ITS FALSE NEIGHBOUR: 'it returns false'. Refute it at one input. -/
def regionDifferenceCellsWrong : ChangeSpec := { name := "regionDifferenceCells", fn := fun _ => fun
  | [d1, d2] => { results := [.lit (.bool false)], args := [d1, d2] }
  | _ => none }
def RegionDifferenceCellsWrongFalsely : Prop := regionDifferenceCellsRow.holds Try.pinned (OpenSpec.ofChange regionDifferenceCellsWrong)

/-- 'printworkslaw1.RegionOfPoints': WHATEVER THE INPUT: true; the input reads as it did. -/
def regionOfPointsSpec : ChangeSpec := { name := "regionOfPoints", fn := fun _ => fun
  | [d] => { results := [.lit (.bool true)], args := [d] }
  | _ => none }
def regionOfPointsRow : OpenClaim := { program := "ytepnpnidbpaimaa", sum := "0e1fe7b2808eb0d67222cbe522bca19b34afe5230096f3374efd1ed0d3934ad1", func := "printworks/printworkslaw1.RegionOfPoints", spec := "regionOfPoints", unfollowed := true, recurses := true, apart := false }
def RegionOfPointsSaid : Prop := regionOfPointsRow.holds Try.pinned (OpenSpec.ofChange regionOfPointsSpec)

/-- ITS FALSE NEIGHBOUR: 'it returns false'. Refute it at one input. -/
def regionOfPointsWrong : ChangeSpec := { name := "regionOfPoints", fn := fun _ => fun
  | [d] => { results := [.lit (.bool false)], args := [d] }
  | _ => none }
def RegionOfPointsWrongFalsely : Prop := regionOfPointsRow.holds Try.pinned (OpenSpec.ofChange regionOfPointsWrong)

/-- 'printworkslaw1.RegionRectangleRows': WHATEVER THE INPUT: true; the input reads as it did. -/
def regionRectangleRowsSpec : ChangeSpec := { name := "regionRectangleRows", fn := fun _ => fun
  | [d1, d2, d3, d4] => { results := [.lit (.bool true)], args := [d1, d2, d3, d4] }
  | _ => none }
def regionRectangleRowsRow : OpenClaim := { program := "ytepnpnidbpaimaa", sum := "0e1fe7b2808eb0d67222cbe522bca19b34afe5230096f3374efd1ed0d3934ad1", func := "printworks/printworkslaw1.RegionRectangleRows", spec := "regionRectangleRows", unfollowed := true, recurses := true, apart := false }
def RegionRectangleRowsSaid : Prop := regionRectangleRowsRow.holds Try.pinned (OpenSpec.ofChange regionRectangleRowsSpec)

/-- ITS FALSE NEIGHBOUR: 'it returns false'. Refute it at one input. -/
def regionRectangleRowsWrong : ChangeSpec := { name := "regionRectangleRows", fn := fun _ => fun
  | [d1, d2, d3, d4] => { results := [.lit (.bool false)], args := [d1, d2, d3, d4] }
  | _ => none }
def RegionRectangleRowsWrongFalsely : Prop := regionRectangleRowsRow.holds Try.pinned (OpenSpec.ofChange regionRectangleRowsWrong)

/-- 'printworkslaw1.RegionMeasures': WHATEVER THE INPUT: true; the input reads as it did. -/
def regionMeasuresSpec : ChangeSpec := { name := "regionMeasures", fn := fun _ => fun
  | [d1, d2, d3] => { results := [.lit (.bool true)], args := [d1, d2, d3] }
  | _ => none }
def regionMeasuresRow : OpenClaim := { program := "ytepnpnidbpaimaa", sum := "0e1fe7b2808eb0d67222cbe522bca19b34afe5230096f3374efd1ed0d3934ad1", func := "printworks/printworkslaw1.RegionMeasures", spec := "regionMeasures", unfollowed := true, recurses := true, apart := false }
def RegionMeasuresSaid : Prop := regionMeasuresRow.holds Try.pinned (OpenSpec.ofChange regionMeasuresSpec)

/-- ITS FALSE NEIGHBOUR: 'it returns false'. Refute it at one input. -/
def regionMeasuresWrong : ChangeSpec := { name := "regionMeasures", fn := fun _ => fun
  | [d1, d2, d3] => { results := [.lit (.bool false)], args := [d1, d2, d3] }
  | _ => none }
def RegionMeasuresWrongFalsely : Prop := regionMeasuresRow.holds Try.pinned (OpenSpec.ofChange regionMeasuresWrong)

/-- 'printworkslaw1.RegionShiftCells': WHATEVER THE INPUT: true; the input reads as it did. -/
def regionShiftCellsSpec : ChangeSpec := { name := "regionShiftCells", fn := fun _ => fun
  | [d1, d2, d3] => { results := [.lit (.bool true)], args := [d1, d2, d3] }
  | _ => none }
def regionShiftCellsRow : OpenClaim := { program := "ytepnpnidbpaimaa", sum := "0e1fe7b2808eb0d67222cbe522bca19b34afe5230096f3374efd1ed0d3934ad1", func := "printworks/printworkslaw1.RegionShiftCells", spec := "regionShiftCells", unfollowed := true, recurses := true, apart := false }
def RegionShiftCellsSaid : Prop := regionShiftCellsRow.holds Try.pinned (OpenSpec.ofChange regionShiftCellsSpec)

/-- ITS FALSE NEIGHBOUR: 'it returns false'. Refute it at one input. -/
def regionShiftCellsWrong : ChangeSpec := { name := "regionShiftCells", fn := fun _ => fun
  | [d1, d2, d3] => { results := [.lit (.bool false)], args := [d1, d2, d3] }
  | _ => none }
def RegionShiftCellsWrongFalsely : Prop := regionShiftCellsRow.holds Try.pinned (OpenSpec.ofChange regionShiftCellsWrong)

/-- 'printworkslaw1.RegionCellsInOrder': WHATEVER THE INPUT: true; the input reads as it did. -/
def regionCellsInOrderSpec : ChangeSpec := { name := "regionCellsInOrder", fn := fun _ => fun
  | [d1, d2] => { results := [.lit (.bool true)], args := [d1, d2] }
  | _ => none }
def regionCellsInOrderRow : OpenClaim := { program := "ytepnpnidbpaimaa", sum := "0e1fe7b2808eb0d67222cbe522bca19b34afe5230096f3374efd1ed0d3934ad1", func := "printworks/printworkslaw1.RegionCellsInOrder", spec := "regionCellsInOrder", unfollowed := true, recurses := true, apart := false }
def RegionCellsInOrderSaid : Prop := regionCellsInOrderRow.holds Try.pinned (OpenSpec.ofChange regionCellsInOrderSpec)

/-- ITS FALSE NEIGHBOUR: 'it returns false'. Refute it at one input. -/
def regionCellsInOrderWrong : ChangeSpec := { name := "regionCellsInOrder", fn := fun _ => fun
  | [d1, d2] => { results := [.lit (.bool false)], args := [d1, d2] }
  | _ => none }
def RegionCellsInOrderWrongFalsely : Prop := regionCellsInOrderRow.holds Try.pinned (OpenSpec.ofChange regionCellsInOrderWrong)

/-- 'printworkslaw1.RegionRowsInOrder': WHATEVER THE INPUT: true; the input reads as it did. -/
def regionRowsInOrderSpec : ChangeSpec := { name := "regionRowsInOrder", fn := fun _ => fun
  | [d] => { results := [.lit (.bool true)], args := [d] }
  | _ => none }
def regionRowsInOrderRow : OpenClaim := { program := "ytepnpnidbpaimaa", sum := "0e1fe7b2808eb0d67222cbe522bca19b34afe5230096f3374efd1ed0d3934ad1", func := "printworks/printworkslaw1.RegionRowsInOrder", spec := "regionRowsInOrder", unfollowed := true, recurses := true, apart := false }
def RegionRowsInOrderSaid : Prop := regionRowsInOrderRow.holds Try.pinned (OpenSpec.ofChange regionRowsInOrderSpec)

/-- ITS FALSE NEIGHBOUR: 'it returns false'. Refute it at one input. -/
def regionRowsInOrderWrong : ChangeSpec := { name := "regionRowsInOrder", fn := fun _ => fun
  | [d] => { results := [.lit (.bool false)], args := [d] }
  | _ => none }
def RegionRowsInOrderWrongFalsely : Prop := regionRowsInOrderRow.holds Try.pinned (OpenSpec.ofChange regionRowsInOrderWrong)

/- THE SECOND FORM. 'bulk': how many values and letters a reading holds, each counted each time it is reached (what is shared counts as often as it is met; a slice's spare places count too). A statement '..UptoSaid' is the law's where the arguments, and the package variables that the reading takes, are together of bulk at most 1048576: NARROWER than '..Said'. Prove '..Said' where nothing that the law and all that it calls make is longer than what came in: it says more and counts as full. Else prove '..UptoSaid'. A law counts once. -/
mutual
def uptoBulk {H : Type} : DataW H → Nat
  | .lit (.string bytes) => bytes.length + 1
  | .lit _ => 1
  | .nil => 1
  | .ptr d => uptoBulk d + 1
  | .slice elems spare => uptoBulkAll elems + uptoBulkAll spare + 1
  | .agg parts => uptoBulkAll parts + 1
  | .iface _ d => uptoBulk d + 1
  | .map entries => uptoBulkEntries entries + 1
  | .held _ => 1
def uptoBulkAll {H : Type} : List (DataW H) → Nat
  | [] => 0
  | d :: r => uptoBulk d + uptoBulkAll r
def uptoBulkEntries {H : Type} : List (Lit × DataW H) → Nat
  | [] => 0
  | x :: r => uptoBulkEntry x + uptoBulkEntries r
def uptoBulkEntry {H : Type} : Lit × DataW H → Nat
  | (.string bytes, d) => bytes.length + uptoBulk d + 1
  | (_, d) => uptoBulk d + 1
 end
def uptoSmall : (H : Type) → List (DataW H) → Bool := fun _ ds => decide (uptoBulkAll ds ≤ 1048576)
def OpenSpec.upto (s : _root_.Go.ChangeSpec) : _root_.Go.OpenSpec := { _root_.Go.OpenSpec.ofChange s with cond := some uptoSmall }

/-- 'printworkskeep1.RegionAlgebra', WHERE WHAT IT READS IS OF BULK AT MOST 1048576: true; the input reads as it did. -/
def regionAlgebraUptoRow : OpenClaim := { program := "ytepnpnidbpaimaa", sum := "0e1fe7b2808eb0d67222cbe522bca19b34afe5230096f3374efd1ed0d3934ad1", func := "printworks/printworkskeep1.RegionAlgebra", spec := "regionAlgebra", unfollowed := true, recurses := true, apart := false, narrowed := true }
def RegionAlgebraUptoSaid : Prop := regionAlgebraUptoRow.holds Try.pinned (OpenSpec.upto regionAlgebraSpec)

/-- 'printworkskeep1.RegionAreas', WHERE WHAT IT READS IS OF BULK AT MOST 1048576: true; the input reads as it did. -/
def regionAreasUptoRow : OpenClaim := { program := "ytepnpnidbpaimaa", sum := "0e1fe7b2808eb0d67222cbe522bca19b34afe5230096f3374efd1ed0d3934ad1", func := "printworks/printworkskeep1.RegionAreas", spec := "regionAreas", unfollowed := true, recurses := true, apart := false, narrowed := true }
def RegionAreasUptoSaid : Prop := regionAreasUptoRow.holds Try.pinned (OpenSpec.upto regionAreasSpec)

/-- 'printworkskeep1.RegionCellsBack', WHERE WHAT IT READS IS OF BULK AT MOST 1048576: true; the input reads as it did. -/
def regionCellsBackUptoRow : OpenClaim := { program := "ytepnpnidbpaimaa", sum := "0e1fe7b2808eb0d67222cbe522bca19b34afe5230096f3374efd1ed0d3934ad1", func := "printworks/printworkskeep1.RegionCellsBack", spec := "regionCellsBack", unfollowed := true, recurses := true, apart := false, narrowed := true }
def RegionCellsBackUptoSaid : Prop := regionCellsBackUptoRow.holds Try.pinned (OpenSpec.upto regionCellsBackSpec)

/-- 'printworkskeep1.RegionShiftBack', WHERE WHAT IT READS IS OF BULK AT MOST 1048576: true; the input reads as it did. -/
def regionShiftBackUptoRow : OpenClaim := { program := "ytepnpnidbpaimaa", sum := "0e1fe7b2808eb0d67222cbe522bca19b34afe5230096f3374efd1ed0d3934ad1", func := "printworks/printworkskeep1.RegionShiftBack", spec := "regionShiftBack", unfollowed := true, recurses := true, apart := false, narrowed := true }
def RegionShiftBackUptoSaid : Prop := regionShiftBackUptoRow.holds Try.pinned (OpenSpec.upto regionShiftBackSpec)

/-- 'printworkslaw1.RegionCheckForm', WHERE WHAT IT READS IS OF BULK AT MOST 1048576: true; the input reads as it did. -/
def regionCheckFormUptoRow : OpenClaim := { program := "ytepnpnidbpaimaa", sum := "0e1fe7b2808eb0d67222cbe522bca19b34afe5230096f3374efd1ed0d3934ad1", func := "printworks/printworkslaw1.RegionCheckForm", spec := "regionCheckForm", apart := false, narrowed := true }
def RegionCheckFormUptoSaid : Prop := regionCheckFormUptoRow.holds Try.pinned (OpenSpec.upto regionCheckFormSpec)

/-- 'printworkslaw1.RegionUnionCells', WHERE WHAT IT READS IS OF BULK AT MOST 1048576: true; the input reads as it did. -/
def regionUnionCellsUptoRow : OpenClaim := { program := "ytepnpnidbpaimaa", sum := "0e1fe7b2808eb0d67222cbe522bca19b34afe5230096f3374efd1ed0d3934ad1", func := "printworks/printworkslaw1.RegionUnionCells", spec := "regionUnionCells", unfollowed := true, recurses := true, apart := false, narrowed := true }
def RegionUnionCellsUptoSaid : Prop := regionUnionCellsUptoRow.holds Try.pinned (OpenSpec.upto regionUnionCellsSpec)

/-- 'printworkslaw1.RegionIntersectCells', WHERE WHAT IT READS IS OF BULK AT MOST 1048576: true; the input reads as it did. -/
def regionIntersectCellsUptoRow : OpenClaim := { program := "ytepnpnidbpaimaa", sum := "0e1fe7b2808eb0d67222cbe522bca19b34afe5230096f3374efd1ed0d3934ad1", func := "printworks/printworkslaw1.RegionIntersectCells", spec := "regionIntersectCells", unfollowed := true, recurses := true, apart := false, narrowed := true }
def RegionIntersectCellsUptoSaid : Prop := regionIntersectCellsUptoRow.holds Try.pinned (OpenSpec.upto regionIntersectCellsSpec)

/-- 'printworkslaw1.RegionDifferenceCells', WHERE WHAT IT READS IS OF BULK AT MOST 1048576: true; the input reads as it did. -/
def regionDifferenceCellsUptoRow : OpenClaim := { program := "ytepnpnidbpaimaa", sum := "0e1fe7b2808eb0d67222cbe522bca19b34afe5230096f3374efd1ed0d3934ad1", func := "printworks/printworkslaw1.RegionDifferenceCells", spec := "regionDifferenceCells", unfollowed := true, recurses := true, apart := false, narrowed := true }
def RegionDifferenceCellsUptoSaid : Prop := regionDifferenceCellsUptoRow.holds Try.pinned (OpenSpec.upto regionDifferenceCellsSpec)

/-- 'printworkslaw1.RegionOfPoints', WHERE WHAT IT READS IS OF BULK AT MOST 1048576: true; the input reads as it did. -/
def regionOfPointsUptoRow : OpenClaim := { program := "ytepnpnidbpaimaa", sum := "0e1fe7b2808eb0d67222cbe522bca19b34afe5230096f3374efd1ed0d3934ad1", func := "printworks/printworkslaw1.RegionOfPoints", spec := "regionOfPoints", unfollowed := true, recurses := true, apart := false, narrowed := true }
def RegionOfPointsUptoSaid : Prop := regionOfPointsUptoRow.holds Try.pinned (OpenSpec.upto regionOfPointsSpec)

/-- 'printworkslaw1.RegionRectangleRows', WHERE WHAT IT READS IS OF BULK AT MOST 1048576: true; the input reads as it did. -/
def regionRectangleRowsUptoRow : OpenClaim := { program := "ytepnpnidbpaimaa", sum := "0e1fe7b2808eb0d67222cbe522bca19b34afe5230096f3374efd1ed0d3934ad1", func := "printworks/printworkslaw1.RegionRectangleRows", spec := "regionRectangleRows", unfollowed := true, recurses := true, apart := false, narrowed := true }
def RegionRectangleRowsUptoSaid : Prop := regionRectangleRowsUptoRow.holds Try.pinned (OpenSpec.upto regionRectangleRowsSpec)

/-- 'printworkslaw1.RegionMeasures', WHERE WHAT IT READS IS OF BULK AT MOST 1048576: true; the input reads as it did. -/
def regionMeasuresUptoRow : OpenClaim := { program := "ytepnpnidbpaimaa", sum := "0e1fe7b2808eb0d67222cbe522bca19b34afe5230096f3374efd1ed0d3934ad1", func := "printworks/printworkslaw1.RegionMeasures", spec := "regionMeasures", unfollowed := true, recurses := true, apart := false, narrowed := true }
def RegionMeasuresUptoSaid : Prop := regionMeasuresUptoRow.holds Try.pinned (OpenSpec.upto regionMeasuresSpec)

/-- 'printworkslaw1.RegionShiftCells', WHERE WHAT IT READS IS OF BULK AT MOST 1048576: true; the input reads as it did. -/
def regionShiftCellsUptoRow : OpenClaim := { program := "ytepnpnidbpaimaa", sum := "0e1fe7b2808eb0d67222cbe522bca19b34afe5230096f3374efd1ed0d3934ad1", func := "printworks/printworkslaw1.RegionShiftCells", spec := "regionShiftCells", unfollowed := true, recurses := true, apart := false, narrowed := true }
def RegionShiftCellsUptoSaid : Prop := regionShiftCellsUptoRow.holds Try.pinned (OpenSpec.upto regionShiftCellsSpec)

/-- 'printworkslaw1.RegionCellsInOrder', WHERE WHAT IT READS IS OF BULK AT MOST 1048576: true; the input reads as it did. -/
def regionCellsInOrderUptoRow : OpenClaim := { program := "ytepnpnidbpaimaa", sum := "0e1fe7b2808eb0d67222cbe522bca19b34afe5230096f3374efd1ed0d3934ad1", func := "printworks/printworkslaw1.RegionCellsInOrder", spec := "regionCellsInOrder", unfollowed := true, recurses := true, apart := false, narrowed := true }
def RegionCellsInOrderUptoSaid : Prop := regionCellsInOrderUptoRow.holds Try.pinned (OpenSpec.upto regionCellsInOrderSpec)

/-- 'printworkslaw1.RegionRowsInOrder', WHERE WHAT IT READS IS OF BULK AT MOST 1048576: true; the input reads as it did. -/
def regionRowsInOrderUptoRow : OpenClaim := { program := "ytepnpnidbpaimaa", sum := "0e1fe7b2808eb0d67222cbe522bca19b34afe5230096f3374efd1ed0d3934ad1", func := "printworks/printworkslaw1.RegionRowsInOrder", spec := "regionRowsInOrder", unfollowed := true, recurses := true, apart := false, narrowed := true }
def RegionRowsInOrderUptoSaid : Prop := regionRowsInOrderUptoRow.holds Try.pinned (OpenSpec.upto regionRowsInOrderSpec)

end Rows
end Go.Proofs.Ytepnpnidbpaimaa
