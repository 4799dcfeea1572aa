/-
  DERIVED. GIVEN WITH THE SEED: THE CARDS: each row of YtijkoaggcmgjiabDoorRows.lean that lists a variable, with what it lists TIED to the program's text (the seventh form; the later family's looks); each row that meets fmt, with fmt's text TOLD by the authors' own Lean function (tested against real Go, not proved from fmt's source: count such statements apart). THE CARD IS WHAT COUNTS. Prove the row's statement (the work); the ties are given (YtijkoaggcmgjiabDoorTie.lean); close each card by the builder's one call (the guide's Derived/Test/ToyasCard.lean, 'card_holds'). Laid BY PROGRAM, IN A SANDBOX (cutbox-door.mjs). By AI agents, Wed Nov 11 2026. No macro, syntax, notation, axiom, sorry.
-/
import Derived.Test.YtijkoaggcmgjiabDoorRows
import GoSem.ClaimSeven
namespace Go.Proofs.YtijkoaggcmgjiabDoor
namespace Rows

/-- THE TIED CARD OF 'printworkslaw1.PathParseDamaged'. -/
def pathParseDamagedCard : Claim7 := { stood := { row := pathParseDamagedRow, standIns := [], harness := (true, "bdcca6c0efa83bc1155787700a1e1905ff21c01c84e45999f3430d83765a81f0"), looks := true }, kinds := [], alts := [], laidByText := true, laidKinds := [.data, .data, .data, .data, .sentinel, .sentinel, .pinned], laidTests := true, laidLooks := .later }
def PathParseDamagedCardSaid : Prop := Claim7.holds Tryd.pinned (.plain (OpenSpec.ofChange pathParseDamagedSpec)) pathParseDamagedCard

/-- THE SECOND FORM's CARD OF 'printworkslaw1.PathParseDamaged'. -/
def pathParseDamagedUptoCard : Claim7 := { stood := { row := pathParseDamagedUptoRow, standIns := [], harness := (true, "bdcca6c0efa83bc1155787700a1e1905ff21c01c84e45999f3430d83765a81f0"), looks := true }, kinds := [], alts := [], laidByText := true, laidKinds := [.data, .data, .data, .data, .sentinel, .sentinel, .pinned], laidTests := true, laidLooks := .later }
def PathParseDamagedUptoCardSaid : Prop := Claim7.holds Tryd.pinned (.plain (OpenSpec.upto pathParseDamagedSpec)) pathParseDamagedUptoCard
end Rows
end Go.Proofs.YtijkoaggcmgjiabDoor
