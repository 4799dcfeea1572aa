/-
  No cell of these rows narrows 'for every input' (looked for: loops, veiled, ifaces, maps, wideKeys, modest, calm, conditions, laid).
  DERIVED. THE GIVEN ROWS OF THIS SEAT. 7 by the template 'for every input the law returns true; each argument reads behind the call as it read before'; 0 by the template 'total and deterministic' (their statements: YtdelhelfphblcaaTotals.lean).
  GIVEN WITH THE SEED: the statements are not yours to turn. If you find one false, say at which input.
  Laid BY PROGRAM, IN A SANDBOX (cutbox-rows.mjs): the forced cells as the released guide's own fill.sh prints them over the translation 8dd3e65ac2480536… (all of the seat's roots in one cut). By AI agents, Wed Nov 11 2026. No macro, syntax, notation, axiom, sorry.
-/
import Derived.Test.YtdelhelfphblcaaChecked
import GoSem.Claim
import GoSem.ClaimJoined
import GoSem.ClaimMapViews
import Derived.JoinedTies
import Derived.KernelRfl
namespace Go.Proofs.Ytdelhelfphblcaa
/- THE CELL 'sum', in the pinned program and in every row, IS THE sha256 OF THE DUMP (.gsa) THAT YtdelhelfphblcaaProg.lean LOADS. Nothing in Lean hashes anything: it is a label: what it is worth is what the hold of that sum in a sandbox is worth. -/
noncomputable def Try.pinned : Pinned := { name := "ytdelhelfphblcaa", sum := "8dd3e65ac24805369c12902e34024b8481a93af361df21ac3e9101d31e5ca05c", checked := Try.checked }
namespace Rows
def none {H : Type} : Left H := { results := [], args := [] }

/-- 'printworkskeep1.AffineThenBound': WHATEVER THE INPUT: true; the input reads as it did. -/
def affineThenBoundSpec : ChangeSpec := { name := "affineThenBound", fn := fun _ => fun
  | [d1, d2, d3] => { results := [.lit (.bool true)], args := [d1, d2, d3] }
  | _ => none }
def affineThenBoundRow : OpenClaim := { program := "ytdelhelfphblcaa", sum := "8dd3e65ac24805369c12902e34024b8481a93af361df21ac3e9101d31e5ca05c", func := "printworks/printworkskeep1.AffineThenBound", spec := "affineThenBound", apart := false }
def AffineThenBoundSaid : Prop := affineThenBoundRow.holds Try.pinned (OpenSpec.ofChange affineThenBoundSpec)

/-- ITS FALSE NEIGHBOUR: 'it returns false'. Refute it at one input. -/
def affineThenBoundWrong : ChangeSpec := { name := "affineThenBound", fn := fun _ => fun
  | [d1, d2, d3] => { results := [.lit (.bool false)], args := [d1, d2, d3] }
  | _ => none }
def AffineThenBoundWrongFalsely : Prop := affineThenBoundRow.holds Try.pinned (OpenSpec.ofChange affineThenBoundWrong)

/-- 'printworkskeep1.AffineInverseBack': WHATEVER THE INPUT: true; the input reads as it did. -/
def affineInverseBackSpec : ChangeSpec := { name := "affineInverseBack", fn := fun _ => fun
  | [d1, d2] => { results := [.lit (.bool true)], args := [d1, d2] }
  | _ => none }
def affineInverseBackRow : OpenClaim := { program := "ytdelhelfphblcaa", sum := "8dd3e65ac24805369c12902e34024b8481a93af361df21ac3e9101d31e5ca05c", func := "printworks/printworkskeep1.AffineInverseBack", spec := "affineInverseBack", apart := false }
def AffineInverseBackSaid : Prop := affineInverseBackRow.holds Try.pinned (OpenSpec.ofChange affineInverseBackSpec)

/-- ITS FALSE NEIGHBOUR: 'it returns false'. Refute it at one input. -/
def affineInverseBackWrong : ChangeSpec := { name := "affineInverseBack", fn := fun _ => fun
  | [d1, d2] => { results := [.lit (.bool false)], args := [d1, d2] }
  | _ => none }
def AffineInverseBackWrongFalsely : Prop := affineInverseBackRow.holds Try.pinned (OpenSpec.ofChange affineInverseBackWrong)

/-- 'printworkskeep1.AffineQuarters': WHATEVER THE INPUT: true; the input reads as it did. -/
def affineQuartersSpec : ChangeSpec := { name := "affineQuarters", fn := fun _ => fun
  | [d1, d2, d3, d4] => { results := [.lit (.bool true)], args := [d1, d2, d3, d4] }
  | _ => none }
def affineQuartersRow : OpenClaim := { program := "ytdelhelfphblcaa", sum := "8dd3e65ac24805369c12902e34024b8481a93af361df21ac3e9101d31e5ca05c", func := "printworks/printworkskeep1.AffineQuarters", spec := "affineQuarters", apart := false }
def AffineQuartersSaid : Prop := affineQuartersRow.holds Try.pinned (OpenSpec.ofChange affineQuartersSpec)

/-- ITS FALSE NEIGHBOUR: 'it returns false'. Refute it at one input. -/
def affineQuartersWrong : ChangeSpec := { name := "affineQuarters", fn := fun _ => fun
  | [d1, d2, d3, d4] => { results := [.lit (.bool false)], args := [d1, d2, d3, d4] }
  | _ => none }
def AffineQuartersWrongFalsely : Prop := affineQuartersRow.holds Try.pinned (OpenSpec.ofChange affineQuartersWrong)

/-- 'printworkslaw1.AffineChecks': WHATEVER THE INPUT: true; the input reads as it did. -/
def affineChecksSpec : ChangeSpec := { name := "affineChecks", fn := fun _ => fun
  | [d1, d2, d3] => { results := [.lit (.bool true)], args := [d1, d2, d3] }
  | _ => none }
def affineChecksRow : OpenClaim := { program := "ytdelhelfphblcaa", sum := "8dd3e65ac24805369c12902e34024b8481a93af361df21ac3e9101d31e5ca05c", func := "printworks/printworkslaw1.AffineChecks", spec := "affineChecks", apart := false }
def AffineChecksSaid : Prop := affineChecksRow.holds Try.pinned (OpenSpec.ofChange affineChecksSpec)

/-- ITS FALSE NEIGHBOUR: 'it returns false'. Refute it at one input. -/
def affineChecksWrong : ChangeSpec := { name := "affineChecks", fn := fun _ => fun
  | [d1, d2, d3] => { results := [.lit (.bool false)], args := [d1, d2, d3] }
  | _ => none }
def AffineChecksWrongFalsely : Prop := affineChecksRow.holds Try.pinned (OpenSpec.ofChange affineChecksWrong)

/-- 'printworkslaw1.AffineApplyRounds': WHATEVER THE INPUT: true; the input reads as it did. -/
def affineApplyRoundsSpec : ChangeSpec := { name := "affineApplyRounds", fn := fun _ => fun
  | [d1, d2] => { results := [.lit (.bool true)], args := [d1, d2] }
  | _ => none }
def affineApplyRoundsRow : OpenClaim := { program := "ytdelhelfphblcaa", sum := "8dd3e65ac24805369c12902e34024b8481a93af361df21ac3e9101d31e5ca05c", func := "printworks/printworkslaw1.AffineApplyRounds", spec := "affineApplyRounds", apart := false }
def AffineApplyRoundsSaid : Prop := affineApplyRoundsRow.holds Try.pinned (OpenSpec.ofChange affineApplyRoundsSpec)

/-- ITS FALSE NEIGHBOUR: 'it returns false'. Refute it at one input. -/
def affineApplyRoundsWrong : ChangeSpec := { name := "affineApplyRounds", fn := fun _ => fun
  | [d1, d2] => { results := [.lit (.bool false)], args := [d1, d2] }
  | _ => none }
def AffineApplyRoundsWrongFalsely : Prop := affineApplyRoundsRow.holds Try.pinned (OpenSpec.ofChange affineApplyRoundsWrong)

/-- 'printworkslaw1.AffineThenEntries': WHATEVER THE INPUT: true; the input reads as it did. -/
def affineThenEntriesSpec : ChangeSpec := { name := "affineThenEntries", fn := fun _ => fun
  | [d1, d2] => { results := [.lit (.bool true)], args := [d1, d2] }
  | _ => none }
def affineThenEntriesRow : OpenClaim := { program := "ytdelhelfphblcaa", sum := "8dd3e65ac24805369c12902e34024b8481a93af361df21ac3e9101d31e5ca05c", func := "printworks/printworkslaw1.AffineThenEntries", spec := "affineThenEntries", apart := false }
def AffineThenEntriesSaid : Prop := affineThenEntriesRow.holds Try.pinned (OpenSpec.ofChange affineThenEntriesSpec)

/-- ITS FALSE NEIGHBOUR: 'it returns false'. Refute it at one input. -/
def affineThenEntriesWrong : ChangeSpec := { name := "affineThenEntries", fn := fun _ => fun
  | [d1, d2] => { results := [.lit (.bool false)], args := [d1, d2] }
  | _ => none }
def AffineThenEntriesWrongFalsely : Prop := affineThenEntriesRow.holds Try.pinned (OpenSpec.ofChange affineThenEntriesWrong)

/-- 'printworkslaw1.AffineInvertEntries': WHATEVER THE INPUT: true; the input reads as it did. -/
def affineInvertEntriesSpec : ChangeSpec := { name := "affineInvertEntries", fn := fun _ => fun
  | [d] => { results := [.lit (.bool true)], args := [d] }
  | _ => none }
def affineInvertEntriesRow : OpenClaim := { program := "ytdelhelfphblcaa", sum := "8dd3e65ac24805369c12902e34024b8481a93af361df21ac3e9101d31e5ca05c", func := "printworks/printworkslaw1.AffineInvertEntries", spec := "affineInvertEntries", apart := false }
def AffineInvertEntriesSaid : Prop := affineInvertEntriesRow.holds Try.pinned (OpenSpec.ofChange affineInvertEntriesSpec)

/-- ITS FALSE NEIGHBOUR: 'it returns false'. Refute it at one input. -/
def affineInvertEntriesWrong : ChangeSpec := { name := "affineInvertEntries", fn := fun _ => fun
  | [d] => { results := [.lit (.bool false)], args := [d] }
  | _ => none }
def AffineInvertEntriesWrongFalsely : Prop := affineInvertEntriesRow.holds Try.pinned (OpenSpec.ofChange affineInvertEntriesWrong)

/- THE SECOND FORM. 'bulk': how many values and letters a reading holds, each counted each time it is reached (what is shared counts as often as it is met; a slice's spare places count too). A statement '..UptoSaid' is the law's where the arguments, and the package variables that the reading takes, are together of bulk at most 1048576: NARROWER than '..Said'. Prove '..Said' where nothing that the law and all that it calls make is longer than what came in: it says more and counts as full. Else prove '..UptoSaid'. A law counts once. -/
mutual
def uptoBulk {H : Type} : DataW H → Nat
  | .lit (.string bytes) => bytes.length + 1
  | .lit _ => 1
  | .nil => 1
  | .ptr d => uptoBulk d + 1
  | .slice elems spare => uptoBulkAll elems + uptoBulkAll spare + 1
  | .agg parts => uptoBulkAll parts + 1
  | .iface _ d => uptoBulk d + 1
  | .map entries => uptoBulkEntries entries + 1
  | .held _ => 1
def uptoBulkAll {H : Type} : List (DataW H) → Nat
  | [] => 0
  | d :: r => uptoBulk d + uptoBulkAll r
def uptoBulkEntries {H : Type} : List (Lit × DataW H) → Nat
  | [] => 0
  | x :: r => uptoBulkEntry x + uptoBulkEntries r
def uptoBulkEntry {H : Type} : Lit × DataW H → Nat
  | (.string bytes, d) => bytes.length + uptoBulk d + 1
  | (_, d) => uptoBulk d + 1
 end
def uptoSmall : (H : Type) → List (DataW H) → Bool := fun _ ds => decide (uptoBulkAll ds ≤ 1048576)
def OpenSpec.upto (s : _root_.Go.ChangeSpec) : _root_.Go.OpenSpec := { _root_.Go.OpenSpec.ofChange s with cond := some uptoSmall }

/-- 'printworkskeep1.AffineThenBound', WHERE WHAT IT READS IS OF BULK AT MOST 1048576: true; the input reads as it did. -/
def affineThenBoundUptoRow : OpenClaim := { program := "ytdelhelfphblcaa", sum := "8dd3e65ac24805369c12902e34024b8481a93af361df21ac3e9101d31e5ca05c", func := "printworks/printworkskeep1.AffineThenBound", spec := "affineThenBound", apart := false, narrowed := true }
def AffineThenBoundUptoSaid : Prop := affineThenBoundUptoRow.holds Try.pinned (OpenSpec.upto affineThenBoundSpec)

/-- 'printworkskeep1.AffineInverseBack', WHERE WHAT IT READS IS OF BULK AT MOST 1048576: true; the input reads as it did. -/
def affineInverseBackUptoRow : OpenClaim := { program := "ytdelhelfphblcaa", sum := "8dd3e65ac24805369c12902e34024b8481a93af361df21ac3e9101d31e5ca05c", func := "printworks/printworkskeep1.AffineInverseBack", spec := "affineInverseBack", apart := false, narrowed := true }
def AffineInverseBackUptoSaid : Prop := affineInverseBackUptoRow.holds Try.pinned (OpenSpec.upto affineInverseBackSpec)

/-- 'printworkskeep1.AffineQuarters', WHERE WHAT IT READS IS OF BULK AT MOST 1048576: true; the input reads as it did. -/
def affineQuartersUptoRow : OpenClaim := { program := "ytdelhelfphblcaa", sum := "8dd3e65ac24805369c12902e34024b8481a93af361df21ac3e9101d31e5ca05c", func := "printworks/printworkskeep1.AffineQuarters", spec := "affineQuarters", apart := false, narrowed := true }
def AffineQuartersUptoSaid : Prop := affineQuartersUptoRow.holds Try.pinned (OpenSpec.upto affineQuartersSpec)

/-- 'printworkslaw1.AffineChecks', WHERE WHAT IT READS IS OF BULK AT MOST 1048576: true; the input reads as it did. -/
def affineChecksUptoRow : OpenClaim := { program := "ytdelhelfphblcaa", sum := "8dd3e65ac24805369c12902e34024b8481a93af361df21ac3e9101d31e5ca05c", func := "printworks/printworkslaw1.AffineChecks", spec := "affineChecks", apart := false, narrowed := true }
def AffineChecksUptoSaid : Prop := affineChecksUptoRow.holds Try.pinned (OpenSpec.upto affineChecksSpec)

/-- 'printworkslaw1.AffineApplyRounds', WHERE WHAT IT READS IS OF BULK AT MOST 1048576: true; the input reads as it did. -/
def affineApplyRoundsUptoRow : OpenClaim := { program := "ytdelhelfphblcaa", sum := "8dd3e65ac24805369c12902e34024b8481a93af361df21ac3e9101d31e5ca05c", func := "printworks/printworkslaw1.AffineApplyRounds", spec := "affineApplyRounds", apart := false, narrowed := true }
def AffineApplyRoundsUptoSaid : Prop := affineApplyRoundsUptoRow.holds Try.pinned (OpenSpec.upto affineApplyRoundsSpec)

/-- 'printworkslaw1.AffineThenEntries', WHERE WHAT IT READS IS OF BULK AT MOST 1048576: true; the input reads as it did. -/
def affineThenEntriesUptoRow : OpenClaim := { program := "ytdelhelfphblcaa", sum := "8dd3e65ac24805369c12902e34024b8481a93af361df21ac3e9101d31e5ca05c", func := "printworks/printworkslaw1.AffineThenEntries", spec := "affineThenEntries", apart := false, narrowed := true }
def AffineThenEntriesUptoSaid : Prop := affineThenEntriesUptoRow.holds Try.pinned (OpenSpec.upto affineThenEntriesSpec)

/-- 'printworkslaw1.AffineInvertEntries', WHERE WHAT IT READS IS OF BULK AT MOST 1048576: true; the input reads as it did. -/
def affineInvertEntriesUptoRow : OpenClaim := { program := "ytdelhelfphblcaa", sum := "8dd3e65ac24805369c12902e34024b8481a93af361df21ac3e9101d31e5ca05c", func := "printworks/printworkslaw1.AffineInvertEntries", spec := "affineInvertEntries", apart := false, narrowed := true }
def AffineInvertEntriesUptoSaid : Prop := affineInvertEntriesUptoRow.holds Try.pinned (OpenSpec.upto affineInvertEntriesSpec)

end Rows
end Go.Proofs.Ytdelhelfphblcaa
