/-
  No cell of these rows narrows 'for every input' (looked for: loops, veiled, ifaces, maps, wideKeys, modest, calm, conditions, laid).
  DERIVED. THE GIVEN ROWS OF THIS SEAT. 4 by the template 'for every input the law returns true; each argument reads behind the call as it read before'; 0 by the template 'total and deterministic' (their statements: YtjflgblplmgjlaaTotals.lean).
  GIVEN WITH THE SEED: the statements are not yours to turn. If you find one false, say at which input.
  Laid BY PROGRAM, IN A SANDBOX (cutbox-rows.mjs): the forced cells as the released guide's own fill.sh prints them over the translation ede94c7636c7d195… (all of the seat's roots in one cut). By AI agents, Wed Nov 11 2026. No macro, syntax, notation, axiom, sorry.
-/
import Derived.Test.YtjflgblplmgjlaaChecked
import GoSem.Claim
import GoSem.ClaimJoined
import GoSem.ClaimMapViews
import Derived.JoinedTies
import Derived.KernelRfl
namespace Go.Proofs.Ytjflgblplmgjlaa
/- THE CELL 'sum', in the pinned program and in every row, IS THE sha256 OF THE DUMP (.gsa) THAT YtjflgblplmgjlaaProg.lean LOADS. Nothing in Lean hashes anything: it is a label: what it is worth is what the hold of that sum in a sandbox is worth. -/
noncomputable def Try.pinned : Pinned := { name := "ytjflgblplmgjlaa", sum := "ede94c7636c7d19573058f3b1b32e3aedbfd58f2fb398c8860dda1362b519373", checked := Try.checked }
namespace Rows
def none {H : Type} : Left H := { results := [], args := [] }

/-- 'printworkskeep1.DashPeriod': WHATEVER THE INPUT: true; the input reads as it did. -/
def dashPeriodSpec : ChangeSpec := { name := "dashPeriod", fn := fun _ => fun
  | [d1, d2, d3] => { results := [.lit (.bool true)], args := [d1, d2, d3] }
  | _ => none }
def dashPeriodRow : OpenClaim := { program := "ytjflgblplmgjlaa", sum := "ede94c7636c7d19573058f3b1b32e3aedbfd58f2fb398c8860dda1362b519373", func := "printworks/printworkskeep1.DashPeriod", spec := "dashPeriod", unfollowed := true, recurses := true, apart := false }
def DashPeriodSaid : Prop := dashPeriodRow.holds Try.pinned (OpenSpec.ofChange dashPeriodSpec)

/-- ITS FALSE NEIGHBOUR: 'it returns false'. Refute it at one input. -/
def dashPeriodWrong : ChangeSpec := { name := "dashPeriod", fn := fun _ => fun
  | [d1, d2, d3] => { results := [.lit (.bool false)], args := [d1, d2, d3] }
  | _ => none }
def DashPeriodWrongFalsely : Prop := dashPeriodRow.holds Try.pinned (OpenSpec.ofChange dashPeriodWrong)

/-- 'printworkskeep1.DashComplement': WHATEVER THE INPUT: true; the input reads as it did. -/
def dashComplementSpec : ChangeSpec := { name := "dashComplement", fn := fun _ => fun
  | [d1, d2, d3] => { results := [.lit (.bool true)], args := [d1, d2, d3] }
  | _ => none }
def dashComplementRow : OpenClaim := { program := "ytjflgblplmgjlaa", sum := "ede94c7636c7d19573058f3b1b32e3aedbfd58f2fb398c8860dda1362b519373", func := "printworks/printworkskeep1.DashComplement", spec := "dashComplement", unfollowed := true, recurses := true, apart := false }
def DashComplementSaid : Prop := dashComplementRow.holds Try.pinned (OpenSpec.ofChange dashComplementSpec)

/-- ITS FALSE NEIGHBOUR: 'it returns false'. Refute it at one input. -/
def dashComplementWrong : ChangeSpec := { name := "dashComplement", fn := fun _ => fun
  | [d1, d2, d3] => { results := [.lit (.bool false)], args := [d1, d2, d3] }
  | _ => none }
def DashComplementWrongFalsely : Prop := dashComplementRow.holds Try.pinned (OpenSpec.ofChange dashComplementWrong)

/-- 'printworkslaw1.DashLengths': WHATEVER THE INPUT: true; the input reads as it did. -/
def dashLengthsSpec : ChangeSpec := { name := "dashLengths", fn := fun _ => fun
  | [d] => { results := [.lit (.bool true)], args := [d] }
  | _ => none }
def dashLengthsRow : OpenClaim := { program := "ytjflgblplmgjlaa", sum := "ede94c7636c7d19573058f3b1b32e3aedbfd58f2fb398c8860dda1362b519373", func := "printworks/printworkslaw1.DashLengths", spec := "dashLengths", unfollowed := true, recurses := true, apart := false }
def DashLengthsSaid : Prop := dashLengthsRow.holds Try.pinned (OpenSpec.ofChange dashLengthsSpec)

/-- ITS FALSE NEIGHBOUR: 'it returns false'. Refute it at one input. -/
def dashLengthsWrong : ChangeSpec := { name := "dashLengths", fn := fun _ => fun
  | [d] => { results := [.lit (.bool false)], args := [d] }
  | _ => none }
def DashLengthsWrongFalsely : Prop := dashLengthsRow.holds Try.pinned (OpenSpec.ofChange dashLengthsWrong)

/-- 'printworkslaw1.DashLines': WHATEVER THE INPUT: true; the input reads as it did. -/
def dashLinesSpec : ChangeSpec := { name := "dashLines", fn := fun _ => fun
  | [d1, d2, d3] => { results := [.lit (.bool true)], args := [d1, d2, d3] }
  | _ => none }
def dashLinesRow : OpenClaim := { program := "ytjflgblplmgjlaa", sum := "ede94c7636c7d19573058f3b1b32e3aedbfd58f2fb398c8860dda1362b519373", func := "printworks/printworkslaw1.DashLines", spec := "dashLines", unfollowed := true, recurses := true, apart := false }
def DashLinesSaid : Prop := dashLinesRow.holds Try.pinned (OpenSpec.ofChange dashLinesSpec)

/-- ITS FALSE NEIGHBOUR: 'it returns false'. Refute it at one input. -/
def dashLinesWrong : ChangeSpec := { name := "dashLines", fn := fun _ => fun
  | [d1, d2, d3] => { results := [.lit (.bool false)], args := [d1, d2, d3] }
  | _ => none }
def DashLinesWrongFalsely : Prop := dashLinesRow.holds Try.pinned (OpenSpec.ofChange dashLinesWrong)

/- THE SECOND FORM. 'bulk': how many values and letters a reading holds, each counted each time it is reached (what is shared counts as often as it is met; a slice's spare places count too). A statement '..UptoSaid' is the law's where the arguments, and the package variables that the reading takes, are together of bulk at most 1048576: NARROWER than '..Said'. Prove '..Said' where nothing that the law and all that it calls make is longer than what came in: it says more and counts as full. Else prove '..UptoSaid'. A law counts once. -/
mutual
def uptoBulk {H : Type} : DataW H → Nat
  | .lit (.string bytes) => bytes.length + 1
  | .lit _ => 1
  | .nil => 1
  | .ptr d => uptoBulk d + 1
  | .slice elems spare => uptoBulkAll elems + uptoBulkAll spare + 1
  | .agg parts => uptoBulkAll parts + 1
  | .iface _ d => uptoBulk d + 1
  | .map entries => uptoBulkEntries entries + 1
  | .held _ => 1
def uptoBulkAll {H : Type} : List (DataW H) → Nat
  | [] => 0
  | d :: r => uptoBulk d + uptoBulkAll r
def uptoBulkEntries {H : Type} : List (Lit × DataW H) → Nat
  | [] => 0
  | x :: r => uptoBulkEntry x + uptoBulkEntries r
def uptoBulkEntry {H : Type} : Lit × DataW H → Nat
  | (.string bytes, d) => bytes.length + uptoBulk d + 1
  | (_, d) => uptoBulk d + 1
 end
def uptoSmall : (H : Type) → List (DataW H) → Bool := fun _ ds => decide (uptoBulkAll ds ≤ 1048576)
def OpenSpec.upto (s : _root_.Go.ChangeSpec) : _root_.Go.OpenSpec := { _root_.Go.OpenSpec.ofChange s with cond := some uptoSmall }

/-- 'printworkskeep1.DashPeriod', WHERE WHAT IT READS IS OF BULK AT MOST 1048576: true; the input reads as it did. -/
def dashPeriodUptoRow : OpenClaim := { program := "ytjflgblplmgjlaa", sum := "ede94c7636c7d19573058f3b1b32e3aedbfd58f2fb398c8860dda1362b519373", func := "printworks/printworkskeep1.DashPeriod", spec := "dashPeriod", unfollowed := true, recurses := true, apart := false, narrowed := true }
def DashPeriodUptoSaid : Prop := dashPeriodUptoRow.holds Try.pinned (OpenSpec.upto dashPeriodSpec)

/-- 'printworkskeep1.DashComplement', WHERE WHAT IT READS IS OF BULK AT MOST 1048576: true; the input reads as it did. -/
def dashComplementUptoRow : OpenClaim := { program := "ytjflgblplmgjlaa", sum := "ede94c7636c7d19573058f3b1b32e3aedbfd58f2fb398c8860dda1362b519373", func := "printworks/printworkskeep1.DashComplement", spec := "dashComplement", unfollowed := true, recurses := true, apart := false, narrowed := true }
def DashComplementUptoSaid : Prop := dashComplementUptoRow.holds Try.pinned (OpenSpec.upto dashComplementSpec)

/-- 'printworkslaw1.DashLengths', WHERE WHAT IT READS IS OF BULK AT MOST 1048576: true; the input reads as it did. -/
def dashLengthsUptoRow : OpenClaim := { program := "ytjflgblplmgjlaa", sum := "ede94c7636c7d19573058f3b1b32e3aedbfd58f2fb398c8860dda1362b519373", func := "printworks/printworkslaw1.DashLengths", spec := "dashLengths", unfollowed := true, recurses := true, apart := false, narrowed := true }
def DashLengthsUptoSaid : Prop := dashLengthsUptoRow.holds Try.pinned (OpenSpec.upto dashLengthsSpec)

/-- 'printworkslaw1.DashLines', WHERE WHAT IT READS IS OF BULK AT MOST 1048576: true; the input reads as it did. -/
def dashLinesUptoRow : OpenClaim := { program := "ytjflgblplmgjlaa", sum := "ede94c7636c7d19573058f3b1b32e3aedbfd58f2fb398c8860dda1362b519373", func := "printworks/printworkslaw1.DashLines", spec := "dashLines", unfollowed := true, recurses := true, apart := false, narrowed := true }
def DashLinesUptoSaid : Prop := dashLinesUptoRow.holds Try.pinned (OpenSpec.upto dashLinesSpec)

end Rows
end Go.Proofs.Ytjflgblplmgjlaa
