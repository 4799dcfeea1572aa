/-
  No cell of these rows narrows 'for every input' (looked for: loops, veiled, ifaces, maps, wideKeys, modest, calm, conditions, laid).
  DERIVED. THE GIVEN ROWS OF THIS SEAT. 11 by the template 'for every input the law returns true; each argument reads behind the call as it read before'; 0 by the template 'total and deterministic' (their statements: YtldbpabnfjnpbaaTotals.lean).
  GIVEN WITH THE SEED: the statements are not yours to turn. If you find one false, say at which input.
  Laid BY PROGRAM, IN A SANDBOX (cutbox-rows.mjs): the forced cells as the released guide's own fill.sh prints them over the translation 04a684930bf392e3… (all of the seat's roots in one cut). By AI agents, Wed Nov 11 2026. No macro, syntax, notation, axiom, sorry.
-/
import Derived.Test.YtldbpabnfjnpbaaChecked
import GoSem.Claim
import GoSem.ClaimJoined
import GoSem.ClaimMapViews
import Derived.JoinedTies
import Derived.KernelRfl
namespace Go.Proofs.Ytldbpabnfjnpbaa
/- THE CELL 'sum', in the pinned program and in every row, IS THE sha256 OF THE DUMP (.gsa) THAT YtldbpabnfjnpbaaProg.lean LOADS. Nothing in Lean hashes anything: it is a label: what it is worth is what the hold of that sum in a sandbox is worth. -/
noncomputable def Try.pinned : Pinned := { name := "ytldbpabnfjnpbaa", sum := "04a684930bf392e3755f7022a44948e592e5cb695ab230f0c9372d96a4d33ec0", checked := Try.checked }
namespace Rows
def none {H : Type} : Left H := { results := [], args := [] }

/-- 'printworkskeep1.RegionCellsBack': WHATEVER THE INPUT: true; the input reads as it did. -/
def regionCellsBackSpec : ChangeSpec := { name := "regionCellsBack", fn := fun _ => fun
  | [d] => { results := [.lit (.bool true)], args := [d] }
  | _ => none }
def regionCellsBackRow : OpenClaim := { program := "ytldbpabnfjnpbaa", sum := "04a684930bf392e3755f7022a44948e592e5cb695ab230f0c9372d96a4d33ec0", func := "printworks/printworkskeep1.RegionCellsBack", spec := "regionCellsBack", unfollowed := true, recurses := true, apart := false }
def RegionCellsBackSaid : Prop := regionCellsBackRow.holds Try.pinned (OpenSpec.ofChange regionCellsBackSpec)

/-- ITS FALSE NEIGHBOUR: 'it returns false'. Refute it at one input. -/
def regionCellsBackWrong : ChangeSpec := { name := "regionCellsBack", fn := fun _ => fun
  | [d] => { results := [.lit (.bool false)], args := [d] }
  | _ => none }
def RegionCellsBackWrongFalsely : Prop := regionCellsBackRow.holds Try.pinned (OpenSpec.ofChange regionCellsBackWrong)

/-- 'printworkslaw1.RegionMeasures': WHATEVER THE INPUT: true; the input reads as it did. -/
def regionMeasuresSpec : ChangeSpec := { name := "regionMeasures", fn := fun _ => fun
  | [d1, d2, d3] => { results := [.lit (.bool true)], args := [d1, d2, d3] }
  | _ => none }
def regionMeasuresRow : OpenClaim := { program := "ytldbpabnfjnpbaa", sum := "04a684930bf392e3755f7022a44948e592e5cb695ab230f0c9372d96a4d33ec0", func := "printworks/printworkslaw1.RegionMeasures", spec := "regionMeasures", unfollowed := true, recurses := true, apart := false }
def RegionMeasuresSaid : Prop := regionMeasuresRow.holds Try.pinned (OpenSpec.ofChange regionMeasuresSpec)

/-- ITS FALSE NEIGHBOUR: 'it returns false'. Refute it at one input. -/
def regionMeasuresWrong : ChangeSpec := { name := "regionMeasures", fn := fun _ => fun
  | [d1, d2, d3] => { results := [.lit (.bool false)], args := [d1, d2, d3] }
  | _ => none }
def RegionMeasuresWrongFalsely : Prop := regionMeasuresRow.holds Try.pinned (OpenSpec.ofChange regionMeasuresWrong)

/-- 'printworkslaw1.RegionCellsInOrder': WHATEVER THE INPUT: true; the input reads as it did. -/
def regionCellsInOrderSpec : ChangeSpec := { name := "regionCellsInOrder", fn := fun _ => fun
  | [d1, d2] => { results := [.lit (.bool true)], args := [d1, d2] }
  | _ => none }
def regionCellsInOrderRow : OpenClaim := { program := "ytldbpabnfjnpbaa", sum := "04a684930bf392e3755f7022a44948e592e5cb695ab230f0c9372d96a4d33ec0", func := "printworks/printworkslaw1.RegionCellsInOrder", spec := "regionCellsInOrder", unfollowed := true, recurses := true, apart := false }
def RegionCellsInOrderSaid : Prop := regionCellsInOrderRow.holds Try.pinned (OpenSpec.ofChange regionCellsInOrderSpec)

/-- ITS FALSE NEIGHBOUR: 'it returns false'. Refute it at one input. -/
def regionCellsInOrderWrong : ChangeSpec := { name := "regionCellsInOrder", fn := fun _ => fun
  | [d1, d2] => { results := [.lit (.bool false)], args := [d1, d2] }
  | _ => none }
def RegionCellsInOrderWrongFalsely : Prop := regionCellsInOrderRow.holds Try.pinned (OpenSpec.ofChange regionCellsInOrderWrong)

/-- 'printworkslaw1.RegionRowsInOrder': WHATEVER THE INPUT: true; the input reads as it did. -/
def regionRowsInOrderSpec : ChangeSpec := { name := "regionRowsInOrder", fn := fun _ => fun
  | [d] => { results := [.lit (.bool true)], args := [d] }
  | _ => none }
def regionRowsInOrderRow : OpenClaim := { program := "ytldbpabnfjnpbaa", sum := "04a684930bf392e3755f7022a44948e592e5cb695ab230f0c9372d96a4d33ec0", func := "printworks/printworkslaw1.RegionRowsInOrder", spec := "regionRowsInOrder", unfollowed := true, recurses := true, apart := false }
def RegionRowsInOrderSaid : Prop := regionRowsInOrderRow.holds Try.pinned (OpenSpec.ofChange regionRowsInOrderSpec)

/-- ITS FALSE NEIGHBOUR: 'it returns false'. Refute it at one input. -/
def regionRowsInOrderWrong : ChangeSpec := { name := "regionRowsInOrder", fn := fun _ => fun
  | [d] => { results := [.lit (.bool false)], args := [d] }
  | _ => none }
def RegionRowsInOrderWrongFalsely : Prop := regionRowsInOrderRow.holds Try.pinned (OpenSpec.ofChange regionRowsInOrderWrong)

/-- 'printworkskeep1.MorphAdjoint': WHATEVER THE INPUT: true; the input reads as it did. -/
def morphAdjointSpec : ChangeSpec := { name := "morphAdjoint", fn := fun _ => fun
  | [d1, d2, d3] => { results := [.lit (.bool true)], args := [d1, d2, d3] }
  | _ => none }
def morphAdjointRow : OpenClaim := { program := "ytldbpabnfjnpbaa", sum := "04a684930bf392e3755f7022a44948e592e5cb695ab230f0c9372d96a4d33ec0", func := "printworks/printworkskeep1.MorphAdjoint", spec := "morphAdjoint", unfollowed := true, recurses := true, apart := false }
def MorphAdjointSaid : Prop := morphAdjointRow.holds Try.pinned (OpenSpec.ofChange morphAdjointSpec)

/-- ITS FALSE NEIGHBOUR: 'it returns false'. Refute it at one input. -/
def morphAdjointWrong : ChangeSpec := { name := "morphAdjoint", fn := fun _ => fun
  | [d1, d2, d3] => { results := [.lit (.bool false)], args := [d1, d2, d3] }
  | _ => none }
def MorphAdjointWrongFalsely : Prop := morphAdjointRow.holds Try.pinned (OpenSpec.ofChange morphAdjointWrong)

/-- 'printworkskeep1.MorphAdds': WHATEVER THE INPUT: true; the input reads as it did. -/
def morphAddsSpec : ChangeSpec := { name := "morphAdds", fn := fun _ => fun
  | [d1, d2, d3] => { results := [.lit (.bool true)], args := [d1, d2, d3] }
  | _ => none }
def morphAddsRow : OpenClaim := { program := "ytldbpabnfjnpbaa", sum := "04a684930bf392e3755f7022a44948e592e5cb695ab230f0c9372d96a4d33ec0", func := "printworks/printworkskeep1.MorphAdds", spec := "morphAdds", unfollowed := true, recurses := true, apart := false }
def MorphAddsSaid : Prop := morphAddsRow.holds Try.pinned (OpenSpec.ofChange morphAddsSpec)

/-- ITS FALSE NEIGHBOUR: 'it returns false'. Refute it at one input. -/
def morphAddsWrong : ChangeSpec := { name := "morphAdds", fn := fun _ => fun
  | [d1, d2, d3] => { results := [.lit (.bool false)], args := [d1, d2, d3] }
  | _ => none }
def MorphAddsWrongFalsely : Prop := morphAddsRow.holds Try.pinned (OpenSpec.ofChange morphAddsWrong)

/-- 'printworkskeep1.MorphOpenClose': WHATEVER THE INPUT: true; the input reads as it did. -/
def morphOpenCloseSpec : ChangeSpec := { name := "morphOpenClose", fn := fun _ => fun
  | [d1, d2] => { results := [.lit (.bool true)], args := [d1, d2] }
  | _ => none }
def morphOpenCloseRow : OpenClaim := { program := "ytldbpabnfjnpbaa", sum := "04a684930bf392e3755f7022a44948e592e5cb695ab230f0c9372d96a4d33ec0", func := "printworks/printworkskeep1.MorphOpenClose", spec := "morphOpenClose", unfollowed := true, recurses := true, apart := false }
def MorphOpenCloseSaid : Prop := morphOpenCloseRow.holds Try.pinned (OpenSpec.ofChange morphOpenCloseSpec)

/-- ITS FALSE NEIGHBOUR: 'it returns false'. Refute it at one input. -/
def morphOpenCloseWrong : ChangeSpec := { name := "morphOpenClose", fn := fun _ => fun
  | [d1, d2] => { results := [.lit (.bool false)], args := [d1, d2] }
  | _ => none }
def MorphOpenCloseWrongFalsely : Prop := morphOpenCloseRow.holds Try.pinned (OpenSpec.ofChange morphOpenCloseWrong)

/-- 'printworkslaw1.MorphDilateCells': WHATEVER THE INPUT: true; the input reads as it did. -/
def morphDilateCellsSpec : ChangeSpec := { name := "morphDilateCells", fn := fun _ => fun
  | [d1, d2] => { results := [.lit (.bool true)], args := [d1, d2] }
  | _ => none }
def morphDilateCellsRow : OpenClaim := { program := "ytldbpabnfjnpbaa", sum := "04a684930bf392e3755f7022a44948e592e5cb695ab230f0c9372d96a4d33ec0", func := "printworks/printworkslaw1.MorphDilateCells", spec := "morphDilateCells", unfollowed := true, recurses := true, apart := false }
def MorphDilateCellsSaid : Prop := morphDilateCellsRow.holds Try.pinned (OpenSpec.ofChange morphDilateCellsSpec)

/-- ITS FALSE NEIGHBOUR: 'it returns false'. Refute it at one input. -/
def morphDilateCellsWrong : ChangeSpec := { name := "morphDilateCells", fn := fun _ => fun
  | [d1, d2] => { results := [.lit (.bool false)], args := [d1, d2] }
  | _ => none }
def MorphDilateCellsWrongFalsely : Prop := morphDilateCellsRow.holds Try.pinned (OpenSpec.ofChange morphDilateCellsWrong)

/-- 'printworkslaw1.MorphErodeCells': WHATEVER THE INPUT: true; the input reads as it did. -/
def morphErodeCellsSpec : ChangeSpec := { name := "morphErodeCells", fn := fun _ => fun
  | [d1, d2] => { results := [.lit (.bool true)], args := [d1, d2] }
  | _ => none }
def morphErodeCellsRow : OpenClaim := { program := "ytldbpabnfjnpbaa", sum := "04a684930bf392e3755f7022a44948e592e5cb695ab230f0c9372d96a4d33ec0", func := "printworks/printworkslaw1.MorphErodeCells", spec := "morphErodeCells", unfollowed := true, recurses := true, apart := false }
def MorphErodeCellsSaid : Prop := morphErodeCellsRow.holds Try.pinned (OpenSpec.ofChange morphErodeCellsSpec)

/-- ITS FALSE NEIGHBOUR: 'it returns false'. Refute it at one input. -/
def morphErodeCellsWrong : ChangeSpec := { name := "morphErodeCells", fn := fun _ => fun
  | [d1, d2] => { results := [.lit (.bool false)], args := [d1, d2] }
  | _ => none }
def MorphErodeCellsWrongFalsely : Prop := morphErodeCellsRow.holds Try.pinned (OpenSpec.ofChange morphErodeCellsWrong)

/-- 'printworkslaw1.MorphOpenCloseCells': WHATEVER THE INPUT: true; the input reads as it did. -/
def morphOpenCloseCellsSpec : ChangeSpec := { name := "morphOpenCloseCells", fn := fun _ => fun
  | [d1, d2] => { results := [.lit (.bool true)], args := [d1, d2] }
  | _ => none }
def morphOpenCloseCellsRow : OpenClaim := { program := "ytldbpabnfjnpbaa", sum := "04a684930bf392e3755f7022a44948e592e5cb695ab230f0c9372d96a4d33ec0", func := "printworks/printworkslaw1.MorphOpenCloseCells", spec := "morphOpenCloseCells", unfollowed := true, recurses := true, apart := false }
def MorphOpenCloseCellsSaid : Prop := morphOpenCloseCellsRow.holds Try.pinned (OpenSpec.ofChange morphOpenCloseCellsSpec)

/-- ITS FALSE NEIGHBOUR: 'it returns false'. Refute it at one input. -/
def morphOpenCloseCellsWrong : ChangeSpec := { name := "morphOpenCloseCells", fn := fun _ => fun
  | [d1, d2] => { results := [.lit (.bool false)], args := [d1, d2] }
  | _ => none }
def MorphOpenCloseCellsWrongFalsely : Prop := morphOpenCloseCellsRow.holds Try.pinned (OpenSpec.ofChange morphOpenCloseCellsWrong)

/-- 'printworkslaw1.MorphEdgeCells': WHATEVER THE INPUT: true; the input reads as it did. -/
def morphEdgeCellsSpec : ChangeSpec := { name := "morphEdgeCells", fn := fun _ => fun
  | [d1, d2] => { results := [.lit (.bool true)], args := [d1, d2] }
  | _ => none }
def morphEdgeCellsRow : OpenClaim := { program := "ytldbpabnfjnpbaa", sum := "04a684930bf392e3755f7022a44948e592e5cb695ab230f0c9372d96a4d33ec0", func := "printworks/printworkslaw1.MorphEdgeCells", spec := "morphEdgeCells", unfollowed := true, recurses := true, apart := false }
def MorphEdgeCellsSaid : Prop := morphEdgeCellsRow.holds Try.pinned (OpenSpec.ofChange morphEdgeCellsSpec)

/-- ITS FALSE NEIGHBOUR: 'it returns false'. Refute it at one input. -/
def morphEdgeCellsWrong : ChangeSpec := { name := "morphEdgeCells", fn := fun _ => fun
  | [d1, d2] => { results := [.lit (.bool false)], args := [d1, d2] }
  | _ => none }
def MorphEdgeCellsWrongFalsely : Prop := morphEdgeCellsRow.holds Try.pinned (OpenSpec.ofChange morphEdgeCellsWrong)

/- THE SECOND FORM. 'bulk': how many values and letters a reading holds, each counted each time it is reached (what is shared counts as often as it is met; a slice's spare places count too). A statement '..UptoSaid' is the law's where the arguments, and the package variables that the reading takes, are together of bulk at most 1048576: NARROWER than '..Said'. Prove '..Said' where nothing that the law and all that it calls make is longer than what came in: it says more and counts as full. Else prove '..UptoSaid'. A law counts once. -/
mutual
def uptoBulk {H : Type} : DataW H → Nat
  | .lit (.string bytes) => bytes.length + 1
  | .lit _ => 1
  | .nil => 1
  | .ptr d => uptoBulk d + 1
  | .slice elems spare => uptoBulkAll elems + uptoBulkAll spare + 1
  | .agg parts => uptoBulkAll parts + 1
  | .iface _ d => uptoBulk d + 1
  | .map entries => uptoBulkEntries entries + 1
  | .held _ => 1
def uptoBulkAll {H : Type} : List (DataW H) → Nat
  | [] => 0
  | d :: r => uptoBulk d + uptoBulkAll r
def uptoBulkEntries {H : Type} : List (Lit × DataW H) → Nat
  | [] => 0
  | x :: r => uptoBulkEntry x + uptoBulkEntries r
def uptoBulkEntry {H : Type} : Lit × DataW H → Nat
  | (.string bytes, d) => bytes.length + uptoBulk d + 1
  | (_, d) => uptoBulk d + 1
 end
def uptoSmall : (H : Type) → List (DataW H) → Bool := fun _ ds => decide (uptoBulkAll ds ≤ 1048576)
def OpenSpec.upto (s : _root_.Go.ChangeSpec) : _root_.Go.OpenSpec := { _root_.Go.OpenSpec.ofChange s with cond := some uptoSmall }

/-- 'printworkskeep1.RegionCellsBack', WHERE WHAT IT READS IS OF BULK AT MOST 1048576: true; the input reads as it did. -/
def regionCellsBackUptoRow : OpenClaim := { program := "ytldbpabnfjnpbaa", sum := "04a684930bf392e3755f7022a44948e592e5cb695ab230f0c9372d96a4d33ec0", func := "printworks/printworkskeep1.RegionCellsBack", spec := "regionCellsBack", unfollowed := true, recurses := true, apart := false, narrowed := true }
def RegionCellsBackUptoSaid : Prop := regionCellsBackUptoRow.holds Try.pinned (OpenSpec.upto regionCellsBackSpec)

/-- 'printworkslaw1.RegionMeasures', WHERE WHAT IT READS IS OF BULK AT MOST 1048576: true; the input reads as it did. -/
def regionMeasuresUptoRow : OpenClaim := { program := "ytldbpabnfjnpbaa", sum := "04a684930bf392e3755f7022a44948e592e5cb695ab230f0c9372d96a4d33ec0", func := "printworks/printworkslaw1.RegionMeasures", spec := "regionMeasures", unfollowed := true, recurses := true, apart := false, narrowed := true }
def RegionMeasuresUptoSaid : Prop := regionMeasuresUptoRow.holds Try.pinned (OpenSpec.upto regionMeasuresSpec)

/-- 'printworkslaw1.RegionCellsInOrder', WHERE WHAT IT READS IS OF BULK AT MOST 1048576: true; the input reads as it did. -/
def regionCellsInOrderUptoRow : OpenClaim := { program := "ytldbpabnfjnpbaa", sum := "04a684930bf392e3755f7022a44948e592e5cb695ab230f0c9372d96a4d33ec0", func := "printworks/printworkslaw1.RegionCellsInOrder", spec := "regionCellsInOrder", unfollowed := true, recurses := true, apart := false, narrowed := true }
def RegionCellsInOrderUptoSaid : Prop := regionCellsInOrderUptoRow.holds Try.pinned (OpenSpec.upto regionCellsInOrderSpec)

/-- 'printworkslaw1.RegionRowsInOrder', WHERE WHAT IT READS IS OF BULK AT MOST 1048576: true; the input reads as it did. -/
def regionRowsInOrderUptoRow : OpenClaim := { program := "ytldbpabnfjnpbaa", sum := "04a684930bf392e3755f7022a44948e592e5cb695ab230f0c9372d96a4d33ec0", func := "printworks/printworkslaw1.RegionRowsInOrder", spec := "regionRowsInOrder", unfollowed := true, recurses := true, apart := false, narrowed := true }
def RegionRowsInOrderUptoSaid : Prop := regionRowsInOrderUptoRow.holds Try.pinned (OpenSpec.upto regionRowsInOrderSpec)

/-- 'printworkskeep1.MorphAdjoint', WHERE WHAT IT READS IS OF BULK AT MOST 1048576: true; the input reads as it did. -/
def morphAdjointUptoRow : OpenClaim := { program := "ytldbpabnfjnpbaa", sum := "04a684930bf392e3755f7022a44948e592e5cb695ab230f0c9372d96a4d33ec0", func := "printworks/printworkskeep1.MorphAdjoint", spec := "morphAdjoint", unfollowed := true, recurses := true, apart := false, narrowed := true }
def MorphAdjointUptoSaid : Prop := morphAdjointUptoRow.holds Try.pinned (OpenSpec.upto morphAdjointSpec)

/-- 'printworkskeep1.MorphAdds', WHERE WHAT IT READS IS OF BULK AT MOST 1048576: true; the input reads as it did. -/
def morphAddsUptoRow : OpenClaim := { program := "ytldbpabnfjnpbaa", sum := "04a684930bf392e3755f7022a44948e592e5cb695ab230f0c9372d96a4d33ec0", func := "printworks/printworkskeep1.MorphAdds", spec := "morphAdds", unfollowed := true, recurses := true, apart := false, narrowed := true }
def MorphAddsUptoSaid : Prop := morphAddsUptoRow.holds Try.pinned (OpenSpec.upto morphAddsSpec)

/-- 'printworkskeep1.MorphOpenClose', WHERE WHAT IT READS IS OF BULK AT MOST 1048576: true; the input reads as it did. -/
def morphOpenCloseUptoRow : OpenClaim := { program := "ytldbpabnfjnpbaa", sum := "04a684930bf392e3755f7022a44948e592e5cb695ab230f0c9372d96a4d33ec0", func := "printworks/printworkskeep1.MorphOpenClose", spec := "morphOpenClose", unfollowed := true, recurses := true, apart := false, narrowed := true }
def MorphOpenCloseUptoSaid : Prop := morphOpenCloseUptoRow.holds Try.pinned (OpenSpec.upto morphOpenCloseSpec)

/-- 'printworkslaw1.MorphDilateCells', WHERE WHAT IT READS IS OF BULK AT MOST 1048576: true; the input reads as it did. -/
def morphDilateCellsUptoRow : OpenClaim := { program := "ytldbpabnfjnpbaa", sum := "04a684930bf392e3755f7022a44948e592e5cb695ab230f0c9372d96a4d33ec0", func := "printworks/printworkslaw1.MorphDilateCells", spec := "morphDilateCells", unfollowed := true, recurses := true, apart := false, narrowed := true }
def MorphDilateCellsUptoSaid : Prop := morphDilateCellsUptoRow.holds Try.pinned (OpenSpec.upto morphDilateCellsSpec)

/-- 'printworkslaw1.MorphErodeCells', WHERE WHAT IT READS IS OF BULK AT MOST 1048576: true; the input reads as it did. -/
def morphErodeCellsUptoRow : OpenClaim := { program := "ytldbpabnfjnpbaa", sum := "04a684930bf392e3755f7022a44948e592e5cb695ab230f0c9372d96a4d33ec0", func := "printworks/printworkslaw1.MorphErodeCells", spec := "morphErodeCells", unfollowed := true, recurses := true, apart := false, narrowed := true }
def MorphErodeCellsUptoSaid : Prop := morphErodeCellsUptoRow.holds Try.pinned (OpenSpec.upto morphErodeCellsSpec)

/-- 'printworkslaw1.MorphOpenCloseCells', WHERE WHAT IT READS IS OF BULK AT MOST 1048576: true; the input reads as it did. -/
def morphOpenCloseCellsUptoRow : OpenClaim := { program := "ytldbpabnfjnpbaa", sum := "04a684930bf392e3755f7022a44948e592e5cb695ab230f0c9372d96a4d33ec0", func := "printworks/printworkslaw1.MorphOpenCloseCells", spec := "morphOpenCloseCells", unfollowed := true, recurses := true, apart := false, narrowed := true }
def MorphOpenCloseCellsUptoSaid : Prop := morphOpenCloseCellsUptoRow.holds Try.pinned (OpenSpec.upto morphOpenCloseCellsSpec)

/-- 'printworkslaw1.MorphEdgeCells', WHERE WHAT IT READS IS OF BULK AT MOST 1048576: true; the input reads as it did. -/
def morphEdgeCellsUptoRow : OpenClaim := { program := "ytldbpabnfjnpbaa", sum := "04a684930bf392e3755f7022a44948e592e5cb695ab230f0c9372d96a4d33ec0", func := "printworks/printworkslaw1.MorphEdgeCells", spec := "morphEdgeCells", unfollowed := true, recurses := true, apart := false, narrowed := true }
def MorphEdgeCellsUptoSaid : Prop := morphEdgeCellsUptoRow.holds Try.pinned (OpenSpec.upto morphEdgeCellsSpec)

end Rows
end Go.Proofs.Ytldbpabnfjnpbaa
