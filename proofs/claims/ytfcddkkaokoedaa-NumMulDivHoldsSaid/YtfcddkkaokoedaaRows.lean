/-
  No cell of these rows narrows 'for every input' (looked for: loops, veiled, ifaces, maps, wideKeys, modest, calm, conditions, laid).
  DERIVED. THE GIVEN ROWS OF THIS SEAT. 11 by the template 'for every input the law returns true; each argument reads behind the call as it read before'; 0 by the template 'total and deterministic' (their statements: YtfcddkkaokoedaaTotals.lean).
  GIVEN WITH THE SEED: the statements are not yours to turn. If you find one false, say at which input.
  Laid BY PROGRAM, IN A SANDBOX (cutbox-rows.mjs): the forced cells as the released guide's own fill.sh prints them over the translation b6d00b4f15e13357… (all of the seat's roots in one cut). By AI agents, Wed Nov 11 2026. No macro, syntax, notation, axiom, sorry.
-/
import Derived.Test.YtfcddkkaokoedaaChecked
import GoSem.Claim
import GoSem.ClaimJoined
import GoSem.ClaimMapViews
import Derived.JoinedTies
import Derived.KernelRfl
namespace Go.Proofs.Ytfcddkkaokoedaa
/- THE CELL 'sum', in the pinned program and in every row, IS THE sha256 OF THE DUMP (.gsa) THAT YtfcddkkaokoedaaProg.lean LOADS. Nothing in Lean hashes anything: it is a label: what it is worth is what the hold of that sum in a sandbox is worth. -/
noncomputable def Try.pinned : Pinned := { name := "ytfcddkkaokoedaa", sum := "b6d00b4f15e133579fc244ae9f2f2ed3f36a14aeb45f04565bfeff0f492f50fe", checked := Try.checked }
namespace Rows
def none {H : Type} : Left H := { results := [], args := [] }

/-- 'printworkskeep1.NumDivisionHolds': WHATEVER THE INPUT: true; the input reads as it did. -/
def numDivisionHoldsSpec : ChangeSpec := { name := "numDivisionHolds", fn := fun _ => fun
  | [d1, d2] => { results := [.lit (.bool true)], args := [d1, d2] }
  | _ => none }
def numDivisionHoldsRow : OpenClaim := { program := "ytfcddkkaokoedaa", sum := "b6d00b4f15e133579fc244ae9f2f2ed3f36a14aeb45f04565bfeff0f492f50fe", func := "printworks/printworkskeep1.NumDivisionHolds", spec := "numDivisionHolds", apart := false }
def NumDivisionHoldsSaid : Prop := numDivisionHoldsRow.holds Try.pinned (OpenSpec.ofChange numDivisionHoldsSpec)

/-- ITS FALSE NEIGHBOUR: 'it returns false'. Refute it at one input. -/
def numDivisionHoldsWrong : ChangeSpec := { name := "numDivisionHolds", fn := fun _ => fun
  | [d1, d2] => { results := [.lit (.bool false)], args := [d1, d2] }
  | _ => none }
def NumDivisionHoldsWrongFalsely : Prop := numDivisionHoldsRow.holds Try.pinned (OpenSpec.ofChange numDivisionHoldsWrong)

/-- 'printworkskeep1.NumRootHolds': WHATEVER THE INPUT: true; the input reads as it did. -/
def numRootHoldsSpec : ChangeSpec := { name := "numRootHolds", fn := fun _ => fun
  | [d] => { results := [.lit (.bool true)], args := [d] }
  | _ => none }
def numRootHoldsRow : OpenClaim := { program := "ytfcddkkaokoedaa", sum := "b6d00b4f15e133579fc244ae9f2f2ed3f36a14aeb45f04565bfeff0f492f50fe", func := "printworks/printworkskeep1.NumRootHolds", spec := "numRootHolds", apart := false }
def NumRootHoldsSaid : Prop := numRootHoldsRow.holds Try.pinned (OpenSpec.ofChange numRootHoldsSpec)

/-- ITS FALSE NEIGHBOUR: 'it returns false'. Refute it at one input. -/
def numRootHoldsWrong : ChangeSpec := { name := "numRootHolds", fn := fun _ => fun
  | [d] => { results := [.lit (.bool false)], args := [d] }
  | _ => none }
def NumRootHoldsWrongFalsely : Prop := numRootHoldsRow.holds Try.pinned (OpenSpec.ofChange numRootHoldsWrong)

/-- 'printworkskeep1.NumMulDivHolds': WHATEVER THE INPUT: true; the input reads as it did. -/
def numMulDivHoldsSpec : ChangeSpec := { name := "numMulDivHolds", fn := fun _ => fun
  | [d1, d2, d3] => { results := [.lit (.bool true)], args := [d1, d2, d3] }
  | _ => none }
def numMulDivHoldsRow : OpenClaim := { program := "ytfcddkkaokoedaa", sum := "b6d00b4f15e133579fc244ae9f2f2ed3f36a14aeb45f04565bfeff0f492f50fe", func := "printworks/printworkskeep1.NumMulDivHolds", spec := "numMulDivHolds", named := ["math/bits.divideError", "math/bits.overflowError"], apart := false }
def NumMulDivHoldsSaid : Prop := numMulDivHoldsRow.holds Try.pinned (OpenSpec.ofChange numMulDivHoldsSpec)

/-- ITS FALSE NEIGHBOUR: 'it returns false'. Refute it at one input. -/
def numMulDivHoldsWrong : ChangeSpec := { name := "numMulDivHolds", fn := fun _ => fun
  | [d1, d2, d3] => { results := [.lit (.bool false)], args := [d1, d2, d3] }
  | _ => none }
def NumMulDivHoldsWrongFalsely : Prop := numMulDivHoldsRow.holds Try.pinned (OpenSpec.ofChange numMulDivHoldsWrong)

/-- 'printworkskeep1.NumGcdDivides': WHATEVER THE INPUT: true; the input reads as it did. -/
def numGcdDividesSpec : ChangeSpec := { name := "numGcdDivides", fn := fun _ => fun
  | [d1, d2] => { results := [.lit (.bool true)], args := [d1, d2] }
  | _ => none }
def numGcdDividesRow : OpenClaim := { program := "ytfcddkkaokoedaa", sum := "b6d00b4f15e133579fc244ae9f2f2ed3f36a14aeb45f04565bfeff0f492f50fe", func := "printworks/printworkskeep1.NumGcdDivides", spec := "numGcdDivides", apart := false }
def NumGcdDividesSaid : Prop := numGcdDividesRow.holds Try.pinned (OpenSpec.ofChange numGcdDividesSpec)

/-- ITS FALSE NEIGHBOUR: 'it returns false'. Refute it at one input. -/
def numGcdDividesWrong : ChangeSpec := { name := "numGcdDivides", fn := fun _ => fun
  | [d1, d2] => { results := [.lit (.bool false)], args := [d1, d2] }
  | _ => none }
def NumGcdDividesWrongFalsely : Prop := numGcdDividesRow.holds Try.pinned (OpenSpec.ofChange numGcdDividesWrong)

/-- 'printworkskeep1.NumMixBetween': WHATEVER THE INPUT: true; the input reads as it did. -/
def numMixBetweenSpec : ChangeSpec := { name := "numMixBetween", fn := fun _ => fun
  | [d1, d2, d3] => { results := [.lit (.bool true)], args := [d1, d2, d3] }
  | _ => none }
def numMixBetweenRow : OpenClaim := { program := "ytfcddkkaokoedaa", sum := "b6d00b4f15e133579fc244ae9f2f2ed3f36a14aeb45f04565bfeff0f492f50fe", func := "printworks/printworkskeep1.NumMixBetween", spec := "numMixBetween", apart := false }
def NumMixBetweenSaid : Prop := numMixBetweenRow.holds Try.pinned (OpenSpec.ofChange numMixBetweenSpec)

/-- ITS FALSE NEIGHBOUR: 'it returns false'. Refute it at one input. -/
def numMixBetweenWrong : ChangeSpec := { name := "numMixBetween", fn := fun _ => fun
  | [d1, d2, d3] => { results := [.lit (.bool false)], args := [d1, d2, d3] }
  | _ => none }
def NumMixBetweenWrongFalsely : Prop := numMixBetweenRow.holds Try.pinned (OpenSpec.ofChange numMixBetweenWrong)

/-- 'printworkslaw1.NumFloorRemainder': WHATEVER THE INPUT: true; the input reads as it did. -/
def numFloorRemainderSpec : ChangeSpec := { name := "numFloorRemainder", fn := fun _ => fun
  | [d1, d2] => { results := [.lit (.bool true)], args := [d1, d2] }
  | _ => none }
def numFloorRemainderRow : OpenClaim := { program := "ytfcddkkaokoedaa", sum := "b6d00b4f15e133579fc244ae9f2f2ed3f36a14aeb45f04565bfeff0f492f50fe", func := "printworks/printworkslaw1.NumFloorRemainder", spec := "numFloorRemainder", apart := false }
def NumFloorRemainderSaid : Prop := numFloorRemainderRow.holds Try.pinned (OpenSpec.ofChange numFloorRemainderSpec)

/-- ITS FALSE NEIGHBOUR: 'it returns false'. Refute it at one input. -/
def numFloorRemainderWrong : ChangeSpec := { name := "numFloorRemainder", fn := fun _ => fun
  | [d1, d2] => { results := [.lit (.bool false)], args := [d1, d2] }
  | _ => none }
def NumFloorRemainderWrongFalsely : Prop := numFloorRemainderRow.holds Try.pinned (OpenSpec.ofChange numFloorRemainderWrong)

/-- 'printworkslaw1.NumRoundHalfUp': WHATEVER THE INPUT: true; the input reads as it did. -/
def numRoundHalfUpSpec : ChangeSpec := { name := "numRoundHalfUp", fn := fun _ => fun
  | [d1, d2] => { results := [.lit (.bool true)], args := [d1, d2] }
  | _ => none }
def numRoundHalfUpRow : OpenClaim := { program := "ytfcddkkaokoedaa", sum := "b6d00b4f15e133579fc244ae9f2f2ed3f36a14aeb45f04565bfeff0f492f50fe", func := "printworks/printworkslaw1.NumRoundHalfUp", spec := "numRoundHalfUp", apart := false }
def NumRoundHalfUpSaid : Prop := numRoundHalfUpRow.holds Try.pinned (OpenSpec.ofChange numRoundHalfUpSpec)

/-- ITS FALSE NEIGHBOUR: 'it returns false'. Refute it at one input. -/
def numRoundHalfUpWrong : ChangeSpec := { name := "numRoundHalfUp", fn := fun _ => fun
  | [d1, d2] => { results := [.lit (.bool false)], args := [d1, d2] }
  | _ => none }
def NumRoundHalfUpWrongFalsely : Prop := numRoundHalfUpRow.holds Try.pinned (OpenSpec.ofChange numRoundHalfUpWrong)

/-- 'printworkslaw1.NumMulDivExact': WHATEVER THE INPUT: true; the input reads as it did. -/
def numMulDivExactSpec : ChangeSpec := { name := "numMulDivExact", fn := fun _ => fun
  | [d1, d2, d3] => { results := [.lit (.bool true)], args := [d1, d2, d3] }
  | _ => none }
def numMulDivExactRow : OpenClaim := { program := "ytfcddkkaokoedaa", sum := "b6d00b4f15e133579fc244ae9f2f2ed3f36a14aeb45f04565bfeff0f492f50fe", func := "printworks/printworkslaw1.NumMulDivExact", spec := "numMulDivExact", named := ["math/bits.divideError", "math/bits.overflowError"], apart := false }
def NumMulDivExactSaid : Prop := numMulDivExactRow.holds Try.pinned (OpenSpec.ofChange numMulDivExactSpec)

/-- ITS FALSE NEIGHBOUR: 'it returns false'. Refute it at one input. -/
def numMulDivExactWrong : ChangeSpec := { name := "numMulDivExact", fn := fun _ => fun
  | [d1, d2, d3] => { results := [.lit (.bool false)], args := [d1, d2, d3] }
  | _ => none }
def NumMulDivExactWrongFalsely : Prop := numMulDivExactRow.holds Try.pinned (OpenSpec.ofChange numMulDivExactWrong)

/-- 'printworkslaw1.NumRootFloor': WHATEVER THE INPUT: true; the input reads as it did. -/
def numRootFloorSpec : ChangeSpec := { name := "numRootFloor", fn := fun _ => fun
  | [d] => { results := [.lit (.bool true)], args := [d] }
  | _ => none }
def numRootFloorRow : OpenClaim := { program := "ytfcddkkaokoedaa", sum := "b6d00b4f15e133579fc244ae9f2f2ed3f36a14aeb45f04565bfeff0f492f50fe", func := "printworks/printworkslaw1.NumRootFloor", spec := "numRootFloor", apart := false }
def NumRootFloorSaid : Prop := numRootFloorRow.holds Try.pinned (OpenSpec.ofChange numRootFloorSpec)

/-- ITS FALSE NEIGHBOUR: 'it returns false'. Refute it at one input. -/
def numRootFloorWrong : ChangeSpec := { name := "numRootFloor", fn := fun _ => fun
  | [d] => { results := [.lit (.bool false)], args := [d] }
  | _ => none }
def NumRootFloorWrongFalsely : Prop := numRootFloorRow.holds Try.pinned (OpenSpec.ofChange numRootFloorWrong)

/-- 'printworkslaw1.NumGcdGreatest': WHATEVER THE INPUT: true; the input reads as it did. -/
def numGcdGreatestSpec : ChangeSpec := { name := "numGcdGreatest", fn := fun _ => fun
  | [d1, d2] => { results := [.lit (.bool true)], args := [d1, d2] }
  | _ => none }
def numGcdGreatestRow : OpenClaim := { program := "ytfcddkkaokoedaa", sum := "b6d00b4f15e133579fc244ae9f2f2ed3f36a14aeb45f04565bfeff0f492f50fe", func := "printworks/printworkslaw1.NumGcdGreatest", spec := "numGcdGreatest", apart := false }
def NumGcdGreatestSaid : Prop := numGcdGreatestRow.holds Try.pinned (OpenSpec.ofChange numGcdGreatestSpec)

/-- ITS FALSE NEIGHBOUR: 'it returns false'. Refute it at one input. -/
def numGcdGreatestWrong : ChangeSpec := { name := "numGcdGreatest", fn := fun _ => fun
  | [d1, d2] => { results := [.lit (.bool false)], args := [d1, d2] }
  | _ => none }
def NumGcdGreatestWrongFalsely : Prop := numGcdGreatestRow.holds Try.pinned (OpenSpec.ofChange numGcdGreatestWrong)

/-- 'printworkslaw1.NumAmounts': WHATEVER THE INPUT: true; the input reads as it did. -/
def numAmountsSpec : ChangeSpec := { name := "numAmounts", fn := fun _ => fun
  | [d1, d2, d3] => { results := [.lit (.bool true)], args := [d1, d2, d3] }
  | _ => none }
def numAmountsRow : OpenClaim := { program := "ytfcddkkaokoedaa", sum := "b6d00b4f15e133579fc244ae9f2f2ed3f36a14aeb45f04565bfeff0f492f50fe", func := "printworks/printworkslaw1.NumAmounts", spec := "numAmounts", apart := false }
def NumAmountsSaid : Prop := numAmountsRow.holds Try.pinned (OpenSpec.ofChange numAmountsSpec)

/-- ITS FALSE NEIGHBOUR: 'it returns false'. Refute it at one input. -/
def numAmountsWrong : ChangeSpec := { name := "numAmounts", fn := fun _ => fun
  | [d1, d2, d3] => { results := [.lit (.bool false)], args := [d1, d2, d3] }
  | _ => none }
def NumAmountsWrongFalsely : Prop := numAmountsRow.holds Try.pinned (OpenSpec.ofChange numAmountsWrong)

/- THE SECOND FORM. 'bulk': how many values and letters a reading holds, each counted each time it is reached (what is shared counts as often as it is met; a slice's spare places count too). A statement '..UptoSaid' is the law's where the arguments, and the package variables that the reading takes, are together of bulk at most 1048576: NARROWER than '..Said'. Prove '..Said' where nothing that the law and all that it calls make is longer than what came in: it says more and counts as full. Else prove '..UptoSaid'. A law counts once. -/
mutual
def uptoBulk {H : Type} : DataW H → Nat
  | .lit (.string bytes) => bytes.length + 1
  | .lit _ => 1
  | .nil => 1
  | .ptr d => uptoBulk d + 1
  | .slice elems spare => uptoBulkAll elems + uptoBulkAll spare + 1
  | .agg parts => uptoBulkAll parts + 1
  | .iface _ d => uptoBulk d + 1
  | .map entries => uptoBulkEntries entries + 1
  | .held _ => 1
def uptoBulkAll {H : Type} : List (DataW H) → Nat
  | [] => 0
  | d :: r => uptoBulk d + uptoBulkAll r
def uptoBulkEntries {H : Type} : List (Lit × DataW H) → Nat
  | [] => 0
  | x :: r => uptoBulkEntry x + uptoBulkEntries r
def uptoBulkEntry {H : Type} : Lit × DataW H → Nat
  | (.string bytes, d) => bytes.length + uptoBulk d + 1
  | (_, d) => uptoBulk d + 1
 end
def uptoSmall : (H : Type) → List (DataW H) → Bool := fun _ ds => decide (uptoBulkAll ds ≤ 1048576)
def OpenSpec.upto (s : _root_.Go.ChangeSpec) : _root_.Go.OpenSpec := { _root_.Go.OpenSpec.ofChange s with cond := some uptoSmall }

/-- 'printworkskeep1.NumDivisionHolds', WHERE WHAT IT READS IS OF BULK AT MOST 1048576: true; the input reads as it did. -/
def numDivisionHoldsUptoRow : OpenClaim := { program := "ytfcddkkaokoedaa", sum := "b6d00b4f15e133579fc244ae9f2f2ed3f36a14aeb45f04565bfeff0f492f50fe", func := "printworks/printworkskeep1.NumDivisionHolds", spec := "numDivisionHolds", apart := false, narrowed := true }
def NumDivisionHoldsUptoSaid : Prop := numDivisionHoldsUptoRow.holds Try.pinned (OpenSpec.upto numDivisionHoldsSpec)

/-- 'printworkskeep1.NumRootHolds', WHERE WHAT IT READS IS OF BULK AT MOST 1048576: true; the input reads as it did. -/
def numRootHoldsUptoRow : OpenClaim := { program := "ytfcddkkaokoedaa", sum := "b6d00b4f15e133579fc244ae9f2f2ed3f36a14aeb45f04565bfeff0f492f50fe", func := "printworks/printworkskeep1.NumRootHolds", spec := "numRootHolds", apart := false, narrowed := true }
def NumRootHoldsUptoSaid : Prop := numRootHoldsUptoRow.holds Try.pinned (OpenSpec.upto numRootHoldsSpec)

/-- 'printworkskeep1.NumMulDivHolds', WHERE WHAT IT READS IS OF BULK AT MOST 1048576: true; the input reads as it did. -/
def numMulDivHoldsUptoRow : OpenClaim := { program := "ytfcddkkaokoedaa", sum := "b6d00b4f15e133579fc244ae9f2f2ed3f36a14aeb45f04565bfeff0f492f50fe", func := "printworks/printworkskeep1.NumMulDivHolds", spec := "numMulDivHolds", named := ["math/bits.divideError", "math/bits.overflowError"], apart := false, narrowed := true }
def NumMulDivHoldsUptoSaid : Prop := numMulDivHoldsUptoRow.holds Try.pinned (OpenSpec.upto numMulDivHoldsSpec)

/-- 'printworkskeep1.NumGcdDivides', WHERE WHAT IT READS IS OF BULK AT MOST 1048576: true; the input reads as it did. -/
def numGcdDividesUptoRow : OpenClaim := { program := "ytfcddkkaokoedaa", sum := "b6d00b4f15e133579fc244ae9f2f2ed3f36a14aeb45f04565bfeff0f492f50fe", func := "printworks/printworkskeep1.NumGcdDivides", spec := "numGcdDivides", apart := false, narrowed := true }
def NumGcdDividesUptoSaid : Prop := numGcdDividesUptoRow.holds Try.pinned (OpenSpec.upto numGcdDividesSpec)

/-- 'printworkskeep1.NumMixBetween', WHERE WHAT IT READS IS OF BULK AT MOST 1048576: true; the input reads as it did. -/
def numMixBetweenUptoRow : OpenClaim := { program := "ytfcddkkaokoedaa", sum := "b6d00b4f15e133579fc244ae9f2f2ed3f36a14aeb45f04565bfeff0f492f50fe", func := "printworks/printworkskeep1.NumMixBetween", spec := "numMixBetween", apart := false, narrowed := true }
def NumMixBetweenUptoSaid : Prop := numMixBetweenUptoRow.holds Try.pinned (OpenSpec.upto numMixBetweenSpec)

/-- 'printworkslaw1.NumFloorRemainder', WHERE WHAT IT READS IS OF BULK AT MOST 1048576: true; the input reads as it did. -/
def numFloorRemainderUptoRow : OpenClaim := { program := "ytfcddkkaokoedaa", sum := "b6d00b4f15e133579fc244ae9f2f2ed3f36a14aeb45f04565bfeff0f492f50fe", func := "printworks/printworkslaw1.NumFloorRemainder", spec := "numFloorRemainder", apart := false, narrowed := true }
def NumFloorRemainderUptoSaid : Prop := numFloorRemainderUptoRow.holds Try.pinned (OpenSpec.upto numFloorRemainderSpec)

/-- 'printworkslaw1.NumRoundHalfUp', WHERE WHAT IT READS IS OF BULK AT MOST 1048576: true; the input reads as it did. -/
def numRoundHalfUpUptoRow : OpenClaim := { program := "ytfcddkkaokoedaa", sum := "b6d00b4f15e133579fc244ae9f2f2ed3f36a14aeb45f04565bfeff0f492f50fe", func := "printworks/printworkslaw1.NumRoundHalfUp", spec := "numRoundHalfUp", apart := false, narrowed := true }
def NumRoundHalfUpUptoSaid : Prop := numRoundHalfUpUptoRow.holds Try.pinned (OpenSpec.upto numRoundHalfUpSpec)

/-- 'printworkslaw1.NumMulDivExact', WHERE WHAT IT READS IS OF BULK AT MOST 1048576: true; the input reads as it did. -/
def numMulDivExactUptoRow : OpenClaim := { program := "ytfcddkkaokoedaa", sum := "b6d00b4f15e133579fc244ae9f2f2ed3f36a14aeb45f04565bfeff0f492f50fe", func := "printworks/printworkslaw1.NumMulDivExact", spec := "numMulDivExact", named := ["math/bits.divideError", "math/bits.overflowError"], apart := false, narrowed := true }
def NumMulDivExactUptoSaid : Prop := numMulDivExactUptoRow.holds Try.pinned (OpenSpec.upto numMulDivExactSpec)

/-- 'printworkslaw1.NumRootFloor', WHERE WHAT IT READS IS OF BULK AT MOST 1048576: true; the input reads as it did. -/
def numRootFloorUptoRow : OpenClaim := { program := "ytfcddkkaokoedaa", sum := "b6d00b4f15e133579fc244ae9f2f2ed3f36a14aeb45f04565bfeff0f492f50fe", func := "printworks/printworkslaw1.NumRootFloor", spec := "numRootFloor", apart := false, narrowed := true }
def NumRootFloorUptoSaid : Prop := numRootFloorUptoRow.holds Try.pinned (OpenSpec.upto numRootFloorSpec)

/-- 'printworkslaw1.NumGcdGreatest', WHERE WHAT IT READS IS OF BULK AT MOST 1048576: true; the input reads as it did. -/
def numGcdGreatestUptoRow : OpenClaim := { program := "ytfcddkkaokoedaa", sum := "b6d00b4f15e133579fc244ae9f2f2ed3f36a14aeb45f04565bfeff0f492f50fe", func := "printworks/printworkslaw1.NumGcdGreatest", spec := "numGcdGreatest", apart := false, narrowed := true }
def NumGcdGreatestUptoSaid : Prop := numGcdGreatestUptoRow.holds Try.pinned (OpenSpec.upto numGcdGreatestSpec)

/-- 'printworkslaw1.NumAmounts', WHERE WHAT IT READS IS OF BULK AT MOST 1048576: true; the input reads as it did. -/
def numAmountsUptoRow : OpenClaim := { program := "ytfcddkkaokoedaa", sum := "b6d00b4f15e133579fc244ae9f2f2ed3f36a14aeb45f04565bfeff0f492f50fe", func := "printworks/printworkslaw1.NumAmounts", spec := "numAmounts", apart := false, narrowed := true }
def NumAmountsUptoSaid : Prop := numAmountsUptoRow.holds Try.pinned (OpenSpec.upto numAmountsSpec)

end Rows
end Go.Proofs.Ytfcddkkaokoedaa
