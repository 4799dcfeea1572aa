/-
  No cell of these rows narrows 'for every input' (looked for: loops, veiled, ifaces, maps, wideKeys, modest, calm, conditions, laid).
  DERIVED. THE GIVEN ROWS OF THIS SEAT. 9 by the template 'for every input the law returns true; each argument reads behind the call as it read before'; 0 by the template 'total and deterministic' (their statements: YtdjjijkdalpggaaTotals.lean).
  GIVEN WITH THE SEED: the statements are not yours to turn. If you find one false, say at which input.
  Laid BY PROGRAM, IN A SANDBOX (cutbox-rows.mjs): the forced cells as the released guide's own fill.sh prints them over the translation 4d40a18ff2c584f2… (all of the seat's roots in one cut). By AI agents, Wed Nov 11 2026. No macro, syntax, notation, axiom, sorry.
-/
import Derived.Test.YtdjjijkdalpggaaChecked
import GoSem.Claim
import GoSem.ClaimJoined
import GoSem.ClaimMapViews
import Derived.JoinedTies
import Derived.KernelRfl
namespace Go.Proofs.Ytdjjijkdalpggaa
/- THE CELL 'sum', in the pinned program and in every row, IS THE sha256 OF THE DUMP (.gsa) THAT YtdjjijkdalpggaaProg.lean LOADS. Nothing in Lean hashes anything: it is a label: what it is worth is what the hold of that sum in a sandbox is worth. -/
noncomputable def Try.pinned : Pinned := { name := "ytdjjijkdalpggaa", sum := "4d40a18ff2c584f2f60d128460349402adc12ad14bb39fa93847647afbbe9a64", checked := Try.checked }
namespace Rows
def none {H : Type} : Left H := { results := [], args := [] }

/-- 'printworkskeep1.RasterTurnsAdd': WHATEVER THE INPUT: true; the input reads as it did. -/
def rasterTurnsAddSpec : ChangeSpec := { name := "rasterTurnsAdd", fn := fun _ => fun
  | [d1, d2, d3, d4, d5] => { results := [.lit (.bool true)], args := [d1, d2, d3, d4, d5] }
  | _ => none }
def rasterTurnsAddRow : OpenClaim := { program := "ytdjjijkdalpggaa", sum := "4d40a18ff2c584f2f60d128460349402adc12ad14bb39fa93847647afbbe9a64", func := "printworks/printworkskeep1.RasterTurnsAdd", spec := "rasterTurnsAdd", unfollowed := true, recurses := true, apart := false }
def RasterTurnsAddSaid : Prop := rasterTurnsAddRow.holds Try.pinned (OpenSpec.ofChange rasterTurnsAddSpec)

/-- ITS FALSE NEIGHBOUR: 'it returns false'. Refute it at one input. -/
def rasterTurnsAddWrong : ChangeSpec := { name := "rasterTurnsAdd", fn := fun _ => fun
  | [d1, d2, d3, d4, d5] => { results := [.lit (.bool false)], args := [d1, d2, d3, d4, d5] }
  | _ => none }
def RasterTurnsAddWrongFalsely : Prop := rasterTurnsAddRow.holds Try.pinned (OpenSpec.ofChange rasterTurnsAddWrong)

/-- 'printworkskeep1.RasterCropPaste': WHATEVER THE INPUT: true; the input reads as it did. -/
def rasterCropPasteSpec : ChangeSpec := { name := "rasterCropPaste", fn := fun _ => fun
  | [d1, d2, d3, d4, d5, d6, d7, d8] => { results := [.lit (.bool true)], args := [d1, d2, d3, d4, d5, d6, d7, d8] }
  | _ => none }
def rasterCropPasteRow : OpenClaim := { program := "ytdjjijkdalpggaa", sum := "4d40a18ff2c584f2f60d128460349402adc12ad14bb39fa93847647afbbe9a64", func := "printworks/printworkskeep1.RasterCropPaste", spec := "rasterCropPaste", unfollowed := true, recurses := true, apart := false }
def RasterCropPasteSaid : Prop := rasterCropPasteRow.holds Try.pinned (OpenSpec.ofChange rasterCropPasteSpec)

/-- ITS FALSE NEIGHBOUR: 'it returns false'. Refute it at one input. -/
def rasterCropPasteWrong : ChangeSpec := { name := "rasterCropPaste", fn := fun _ => fun
  | [d1, d2, d3, d4, d5, d6, d7, d8] => { results := [.lit (.bool false)], args := [d1, d2, d3, d4, d5, d6, d7, d8] }
  | _ => none }
def RasterCropPasteWrongFalsely : Prop := rasterCropPasteRow.holds Try.pinned (OpenSpec.ofChange rasterCropPasteWrong)

/-- 'printworkskeep1.RasterMapCommutes': WHATEVER THE INPUT: true; the input reads as it did. -/
def rasterMapCommutesSpec : ChangeSpec := { name := "rasterMapCommutes", fn := fun _ => fun
  | [d1, d2, d3, d4, d5] => { results := [.lit (.bool true)], args := [d1, d2, d3, d4, d5] }
  | _ => none }
def rasterMapCommutesRow : OpenClaim := { program := "ytdjjijkdalpggaa", sum := "4d40a18ff2c584f2f60d128460349402adc12ad14bb39fa93847647afbbe9a64", func := "printworks/printworkskeep1.RasterMapCommutes", spec := "rasterMapCommutes", unfollowed := true, recurses := true, apart := false }
def RasterMapCommutesSaid : Prop := rasterMapCommutesRow.holds Try.pinned (OpenSpec.ofChange rasterMapCommutesSpec)

/-- ITS FALSE NEIGHBOUR: 'it returns false'. Refute it at one input. -/
def rasterMapCommutesWrong : ChangeSpec := { name := "rasterMapCommutes", fn := fun _ => fun
  | [d1, d2, d3, d4, d5] => { results := [.lit (.bool false)], args := [d1, d2, d3, d4, d5] }
  | _ => none }
def RasterMapCommutesWrongFalsely : Prop := rasterMapCommutesRow.holds Try.pinned (OpenSpec.ofChange rasterMapCommutesWrong)

/-- 'printworkslaw1.RasterChecks': WHATEVER THE INPUT: true; the input reads as it did. -/
def rasterChecksSpec : ChangeSpec := { name := "rasterChecks", fn := fun _ => fun
  | [d1, d2, d3, d4] => { results := [.lit (.bool true)], args := [d1, d2, d3, d4] }
  | _ => none }
def rasterChecksRow : OpenClaim := { program := "ytdjjijkdalpggaa", sum := "4d40a18ff2c584f2f60d128460349402adc12ad14bb39fa93847647afbbe9a64", func := "printworks/printworkslaw1.RasterChecks", spec := "rasterChecks", unfollowed := true, recurses := true, apart := false }
def RasterChecksSaid : Prop := rasterChecksRow.holds Try.pinned (OpenSpec.ofChange rasterChecksSpec)

/-- ITS FALSE NEIGHBOUR: 'it returns false'. Refute it at one input. -/
def rasterChecksWrong : ChangeSpec := { name := "rasterChecks", fn := fun _ => fun
  | [d1, d2, d3, d4] => { results := [.lit (.bool false)], args := [d1, d2, d3, d4] }
  | _ => none }
def RasterChecksWrongFalsely : Prop := rasterChecksRow.holds Try.pinned (OpenSpec.ofChange rasterChecksWrong)

/-- 'printworkslaw1.RasterCropPixels': WHATEVER THE INPUT: true; the input reads as it did. -/
def rasterCropPixelsSpec : ChangeSpec := { name := "rasterCropPixels", fn := fun _ => fun
  | [d1, d2, d3, d4, d5, d6, d7] => { results := [.lit (.bool true)], args := [d1, d2, d3, d4, d5, d6, d7] }
  | _ => none }
def rasterCropPixelsRow : OpenClaim := { program := "ytdjjijkdalpggaa", sum := "4d40a18ff2c584f2f60d128460349402adc12ad14bb39fa93847647afbbe9a64", func := "printworks/printworkslaw1.RasterCropPixels", spec := "rasterCropPixels", unfollowed := true, recurses := true, apart := false }
def RasterCropPixelsSaid : Prop := rasterCropPixelsRow.holds Try.pinned (OpenSpec.ofChange rasterCropPixelsSpec)

/-- ITS FALSE NEIGHBOUR: 'it returns false'. Refute it at one input. -/
def rasterCropPixelsWrong : ChangeSpec := { name := "rasterCropPixels", fn := fun _ => fun
  | [d1, d2, d3, d4, d5, d6, d7] => { results := [.lit (.bool false)], args := [d1, d2, d3, d4, d5, d6, d7] }
  | _ => none }
def RasterCropPixelsWrongFalsely : Prop := rasterCropPixelsRow.holds Try.pinned (OpenSpec.ofChange rasterCropPixelsWrong)

/-- 'printworkslaw1.RasterPastePixels': WHATEVER THE INPUT: true; the input reads as it did. -/
def rasterPastePixelsSpec : ChangeSpec := { name := "rasterPastePixels", fn := fun _ => fun
  | [d1, d2, d3, d4, d5, d6, d7, d8] => { results := [.lit (.bool true)], args := [d1, d2, d3, d4, d5, d6, d7, d8] }
  | _ => none }
def rasterPastePixelsRow : OpenClaim := { program := "ytdjjijkdalpggaa", sum := "4d40a18ff2c584f2f60d128460349402adc12ad14bb39fa93847647afbbe9a64", func := "printworks/printworkslaw1.RasterPastePixels", spec := "rasterPastePixels", unfollowed := true, recurses := true, apart := false }
def RasterPastePixelsSaid : Prop := rasterPastePixelsRow.holds Try.pinned (OpenSpec.ofChange rasterPastePixelsSpec)

/-- ITS FALSE NEIGHBOUR: 'it returns false'. Refute it at one input. -/
def rasterPastePixelsWrong : ChangeSpec := { name := "rasterPastePixels", fn := fun _ => fun
  | [d1, d2, d3, d4, d5, d6, d7, d8] => { results := [.lit (.bool false)], args := [d1, d2, d3, d4, d5, d6, d7, d8] }
  | _ => none }
def RasterPastePixelsWrongFalsely : Prop := rasterPastePixelsRow.holds Try.pinned (OpenSpec.ofChange rasterPastePixelsWrong)

/-- 'printworkslaw1.RasterTurnPixels': WHATEVER THE INPUT: true; the input reads as it did. -/
def rasterTurnPixelsSpec : ChangeSpec := { name := "rasterTurnPixels", fn := fun _ => fun
  | [d1, d2, d3, d4] => { results := [.lit (.bool true)], args := [d1, d2, d3, d4] }
  | _ => none }
def rasterTurnPixelsRow : OpenClaim := { program := "ytdjjijkdalpggaa", sum := "4d40a18ff2c584f2f60d128460349402adc12ad14bb39fa93847647afbbe9a64", func := "printworks/printworkslaw1.RasterTurnPixels", spec := "rasterTurnPixels", unfollowed := true, recurses := true, apart := false }
def RasterTurnPixelsSaid : Prop := rasterTurnPixelsRow.holds Try.pinned (OpenSpec.ofChange rasterTurnPixelsSpec)

/-- ITS FALSE NEIGHBOUR: 'it returns false'. Refute it at one input. -/
def rasterTurnPixelsWrong : ChangeSpec := { name := "rasterTurnPixels", fn := fun _ => fun
  | [d1, d2, d3, d4] => { results := [.lit (.bool false)], args := [d1, d2, d3, d4] }
  | _ => none }
def RasterTurnPixelsWrongFalsely : Prop := rasterTurnPixelsRow.holds Try.pinned (OpenSpec.ofChange rasterTurnPixelsWrong)

/-- 'printworkslaw1.RasterMapOnce': WHATEVER THE INPUT: true; the input reads as it did. -/
def rasterMapOnceSpec : ChangeSpec := { name := "rasterMapOnce", fn := fun _ => fun
  | [d1, d2, d3] => { results := [.lit (.bool true)], args := [d1, d2, d3] }
  | _ => none }
def rasterMapOnceRow : OpenClaim := { program := "ytdjjijkdalpggaa", sum := "4d40a18ff2c584f2f60d128460349402adc12ad14bb39fa93847647afbbe9a64", func := "printworks/printworkslaw1.RasterMapOnce", spec := "rasterMapOnce", unfollowed := true, recurses := true, apart := false }
def RasterMapOnceSaid : Prop := rasterMapOnceRow.holds Try.pinned (OpenSpec.ofChange rasterMapOnceSpec)

/-- ITS FALSE NEIGHBOUR: 'it returns false'. Refute it at one input. -/
def rasterMapOnceWrong : ChangeSpec := { name := "rasterMapOnce", fn := fun _ => fun
  | [d1, d2, d3] => { results := [.lit (.bool false)], args := [d1, d2, d3] }
  | _ => none }
def RasterMapOnceWrongFalsely : Prop := rasterMapOnceRow.holds Try.pinned (OpenSpec.ofChange rasterMapOnceWrong)

/-- 'printworkslaw1.RasterRowsInOrder': WHATEVER THE INPUT: true; the input reads as it did. -/
def rasterRowsInOrderSpec : ChangeSpec := { name := "rasterRowsInOrder", fn := fun _ => fun
  | [d1, d2, d3, d4] => { results := [.lit (.bool true)], args := [d1, d2, d3, d4] }
  | _ => none }
def rasterRowsInOrderRow : OpenClaim := { program := "ytdjjijkdalpggaa", sum := "4d40a18ff2c584f2f60d128460349402adc12ad14bb39fa93847647afbbe9a64", func := "printworks/printworkslaw1.RasterRowsInOrder", spec := "rasterRowsInOrder", unfollowed := true, recurses := true, apart := false }
def RasterRowsInOrderSaid : Prop := rasterRowsInOrderRow.holds Try.pinned (OpenSpec.ofChange rasterRowsInOrderSpec)

/-- ITS FALSE NEIGHBOUR: 'it returns false'. Refute it at one input. -/
def rasterRowsInOrderWrong : ChangeSpec := { name := "rasterRowsInOrder", fn := fun _ => fun
  | [d1, d2, d3, d4] => { results := [.lit (.bool false)], args := [d1, d2, d3, d4] }
  | _ => none }
def RasterRowsInOrderWrongFalsely : Prop := rasterRowsInOrderRow.holds Try.pinned (OpenSpec.ofChange rasterRowsInOrderWrong)

/- THE SECOND FORM. 'bulk': how many values and letters a reading holds, each counted each time it is reached (what is shared counts as often as it is met; a slice's spare places count too). A statement '..UptoSaid' is the law's where the arguments, and the package variables that the reading takes, are together of bulk at most 1048576: NARROWER than '..Said'. Prove '..Said' where nothing that the law and all that it calls make is longer than what came in: it says more and counts as full. Else prove '..UptoSaid'. A law counts once. -/
mutual
def uptoBulk {H : Type} : DataW H → Nat
  | .lit (.string bytes) => bytes.length + 1
  | .lit _ => 1
  | .nil => 1
  | .ptr d => uptoBulk d + 1
  | .slice elems spare => uptoBulkAll elems + uptoBulkAll spare + 1
  | .agg parts => uptoBulkAll parts + 1
  | .iface _ d => uptoBulk d + 1
  | .map entries => uptoBulkEntries entries + 1
  | .held _ => 1
def uptoBulkAll {H : Type} : List (DataW H) → Nat
  | [] => 0
  | d :: r => uptoBulk d + uptoBulkAll r
def uptoBulkEntries {H : Type} : List (Lit × DataW H) → Nat
  | [] => 0
  | x :: r => uptoBulkEntry x + uptoBulkEntries r
def uptoBulkEntry {H : Type} : Lit × DataW H → Nat
  | (.string bytes, d) => bytes.length + uptoBulk d + 1
  | (_, d) => uptoBulk d + 1
 end
def uptoSmall : (H : Type) → List (DataW H) → Bool := fun _ ds => decide (uptoBulkAll ds ≤ 1048576)
def OpenSpec.upto (s : _root_.Go.ChangeSpec) : _root_.Go.OpenSpec := { _root_.Go.OpenSpec.ofChange s with cond := some uptoSmall }

/-- 'printworkskeep1.RasterTurnsAdd', WHERE WHAT IT READS IS OF BULK AT MOST 1048576: true; the input reads as it did. -/
def rasterTurnsAddUptoRow : OpenClaim := { program := "ytdjjijkdalpggaa", sum := "4d40a18ff2c584f2f60d128460349402adc12ad14bb39fa93847647afbbe9a64", func := "printworks/printworkskeep1.RasterTurnsAdd", spec := "rasterTurnsAdd", unfollowed := true, recurses := true, apart := false, narrowed := true }
def RasterTurnsAddUptoSaid : Prop := rasterTurnsAddUptoRow.holds Try.pinned (OpenSpec.upto rasterTurnsAddSpec)

/-- 'printworkskeep1.RasterCropPaste', WHERE WHAT IT READS IS OF BULK AT MOST 1048576: true; the input reads as it did. -/
def rasterCropPasteUptoRow : OpenClaim := { program := "ytdjjijkdalpggaa", sum := "4d40a18ff2c584f2f60d128460349402adc12ad14bb39fa93847647afbbe9a64", func := "printworks/printworkskeep1.RasterCropPaste", spec := "rasterCropPaste", unfollowed := true, recurses := true, apart := false, narrowed := true }
def RasterCropPasteUptoSaid : Prop := rasterCropPasteUptoRow.holds Try.pinned (OpenSpec.upto rasterCropPasteSpec)

/-- 'printworkskeep1.RasterMapCommutes', WHERE WHAT IT READS IS OF BULK AT MOST 1048576: true; the input reads as it did. -/
def rasterMapCommutesUptoRow : OpenClaim := { program := "ytdjjijkdalpggaa", sum := "4d40a18ff2c584f2f60d128460349402adc12ad14bb39fa93847647afbbe9a64", func := "printworks/printworkskeep1.RasterMapCommutes", spec := "rasterMapCommutes", unfollowed := true, recurses := true, apart := false, narrowed := true }
def RasterMapCommutesUptoSaid : Prop := rasterMapCommutesUptoRow.holds Try.pinned (OpenSpec.upto rasterMapCommutesSpec)

/-- 'printworkslaw1.RasterChecks', WHERE WHAT IT READS IS OF BULK AT MOST 1048576: true; the input reads as it did. -/
def rasterChecksUptoRow : OpenClaim := { program := "ytdjjijkdalpggaa", sum := "4d40a18ff2c584f2f60d128460349402adc12ad14bb39fa93847647afbbe9a64", func := "printworks/printworkslaw1.RasterChecks", spec := "rasterChecks", unfollowed := true, recurses := true, apart := false, narrowed := true }
def RasterChecksUptoSaid : Prop := rasterChecksUptoRow.holds Try.pinned (OpenSpec.upto rasterChecksSpec)

/-- 'printworkslaw1.RasterCropPixels', WHERE WHAT IT READS IS OF BULK AT MOST 1048576: true; the input reads as it did. -/
def rasterCropPixelsUptoRow : OpenClaim := { program := "ytdjjijkdalpggaa", sum := "4d40a18ff2c584f2f60d128460349402adc12ad14bb39fa93847647afbbe9a64", func := "printworks/printworkslaw1.RasterCropPixels", spec := "rasterCropPixels", unfollowed := true, recurses := true, apart := false, narrowed := true }
def RasterCropPixelsUptoSaid : Prop := rasterCropPixelsUptoRow.holds Try.pinned (OpenSpec.upto rasterCropPixelsSpec)

/-- 'printworkslaw1.RasterPastePixels', WHERE WHAT IT READS IS OF BULK AT MOST 1048576: true; the input reads as it did. -/
def rasterPastePixelsUptoRow : OpenClaim := { program := "ytdjjijkdalpggaa", sum := "4d40a18ff2c584f2f60d128460349402adc12ad14bb39fa93847647afbbe9a64", func := "printworks/printworkslaw1.RasterPastePixels", spec := "rasterPastePixels", unfollowed := true, recurses := true, apart := false, narrowed := true }
def RasterPastePixelsUptoSaid : Prop := rasterPastePixelsUptoRow.holds Try.pinned (OpenSpec.upto rasterPastePixelsSpec)

/-- 'printworkslaw1.RasterTurnPixels', WHERE WHAT IT READS IS OF BULK AT MOST 1048576: true; the input reads as it did. -/
def rasterTurnPixelsUptoRow : OpenClaim := { program := "ytdjjijkdalpggaa", sum := "4d40a18ff2c584f2f60d128460349402adc12ad14bb39fa93847647afbbe9a64", func := "printworks/printworkslaw1.RasterTurnPixels", spec := "rasterTurnPixels", unfollowed := true, recurses := true, apart := false, narrowed := true }
def RasterTurnPixelsUptoSaid : Prop := rasterTurnPixelsUptoRow.holds Try.pinned (OpenSpec.upto rasterTurnPixelsSpec)

/-- 'printworkslaw1.RasterMapOnce', WHERE WHAT IT READS IS OF BULK AT MOST 1048576: true; the input reads as it did. -/
def rasterMapOnceUptoRow : OpenClaim := { program := "ytdjjijkdalpggaa", sum := "4d40a18ff2c584f2f60d128460349402adc12ad14bb39fa93847647afbbe9a64", func := "printworks/printworkslaw1.RasterMapOnce", spec := "rasterMapOnce", unfollowed := true, recurses := true, apart := false, narrowed := true }
def RasterMapOnceUptoSaid : Prop := rasterMapOnceUptoRow.holds Try.pinned (OpenSpec.upto rasterMapOnceSpec)

/-- 'printworkslaw1.RasterRowsInOrder', WHERE WHAT IT READS IS OF BULK AT MOST 1048576: true; the input reads as it did. -/
def rasterRowsInOrderUptoRow : OpenClaim := { program := "ytdjjijkdalpggaa", sum := "4d40a18ff2c584f2f60d128460349402adc12ad14bb39fa93847647afbbe9a64", func := "printworks/printworkslaw1.RasterRowsInOrder", spec := "rasterRowsInOrder", unfollowed := true, recurses := true, apart := false, narrowed := true }
def RasterRowsInOrderUptoSaid : Prop := rasterRowsInOrderUptoRow.holds Try.pinned (OpenSpec.upto rasterRowsInOrderSpec)

end Rows
end Go.Proofs.Ytdjjijkdalpggaa
