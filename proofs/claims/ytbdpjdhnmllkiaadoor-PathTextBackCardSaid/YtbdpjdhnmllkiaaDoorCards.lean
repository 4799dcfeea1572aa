/-
  DERIVED. GIVEN WITH THE SEED: THE CARDS: each row of YtbdpjdhnmllkiaaDoorRows.lean that lists a variable, with what it lists TIED to the program's text (the seventh form; the later family's looks); each row that meets fmt, with fmt's text TOLD by the authors' own Lean function (tested against real Go, not proved from fmt's source: count such statements apart). THE CARD IS WHAT COUNTS. Prove the row's statement (the work); the ties are given (YtbdpjdhnmllkiaaDoorTie.lean); close each card by the builder's one call (the guide's Derived/Test/ToyasCard.lean, 'card_holds'). Laid BY PROGRAM, IN A SANDBOX (cutbox-door.mjs). By AI agents, Wed Nov 11 2026. No macro, syntax, notation, axiom, sorry.
-/
import Derived.Test.YtbdpjdhnmllkiaaDoorRows
import GoSem.ClaimSeven
namespace Go.Proofs.YtbdpjdhnmllkiaaDoor
namespace Rows

/-- THE TIED CARD OF 'printworkskeep1.PathTextBack'. -/
def pathTextBackCard : Claim7 := { stood := { row := pathTextBackRow, standIns := [], harness := (true, "a858f4ee300c45865dd3a140a4267077e981c4c12717b43b7f5f471780ea243a"), looks := true }, kinds := [], alts := [], laidByText := true, laidKinds := [.data, .data, .data, .data, .sentinel, .sentinel, .pinned], laidTests := true, laidLooks := .later }
def PathTextBackCardSaid : Prop := Claim7.holds Tryd.pinned (.plain (OpenSpec.ofChange pathTextBackSpec)) pathTextBackCard

/-- THE TIED CARD OF 'printworkskeep1.PathReverseTwice'. -/
def pathReverseTwiceCard : Claim7 := { stood := { row := pathReverseTwiceRow, standIns := [], harness := (true, "a858f4ee300c45865dd3a140a4267077e981c4c12717b43b7f5f471780ea243a"), looks := true }, kinds := [], alts := [], laidByText := true, laidKinds := [.data, .data, .data], laidTests := true, laidLooks := .later }
def PathReverseTwiceCardSaid : Prop := Claim7.holds Tryd.pinned (.plain (OpenSpec.ofChange pathReverseTwiceSpec)) pathReverseTwiceCard

/-- THE TIED CARD OF 'printworkskeep1.PathMapMoves'. -/
def pathMapMovesCard : Claim7 := { stood := { row := pathMapMovesRow, standIns := [], harness := (true, "a858f4ee300c45865dd3a140a4267077e981c4c12717b43b7f5f471780ea243a"), looks := true }, kinds := [], alts := [], laidByText := true, laidKinds := [.data, .data, .data], laidTests := true, laidLooks := .later }
def PathMapMovesCardSaid : Prop := Claim7.holds Tryd.pinned (.plain (OpenSpec.ofChange pathMapMovesSpec)) pathMapMovesCard

/-- THE TIED CARD OF 'printworkslaw1.PathMapPoints'. -/
def pathMapPointsCard : Claim7 := { stood := { row := pathMapPointsRow, standIns := [], harness := (true, "a858f4ee300c45865dd3a140a4267077e981c4c12717b43b7f5f471780ea243a"), looks := true }, kinds := [], alts := [], laidByText := true, laidKinds := [.data, .data, .data], laidTests := true, laidLooks := .later }
def PathMapPointsCardSaid : Prop := Claim7.holds Tryd.pinned (.plain (OpenSpec.ofChange pathMapPointsSpec)) pathMapPointsCard

/-- THE TIED CARD OF 'printworkslaw1.PathReverseSubpaths'. -/
def pathReverseSubpathsCard : Claim7 := { stood := { row := pathReverseSubpathsRow, standIns := [], harness := (true, "a858f4ee300c45865dd3a140a4267077e981c4c12717b43b7f5f471780ea243a"), looks := true }, kinds := [], alts := [], laidByText := true, laidKinds := [.data, .data, .data], laidTests := true, laidLooks := .later }
def PathReverseSubpathsCardSaid : Prop := Claim7.holds Tryd.pinned (.plain (OpenSpec.ofChange pathReverseSubpathsSpec)) pathReverseSubpathsCard

/-- THE TIED CARD OF 'printworkslaw1.PathBoundsHold'. -/
def pathBoundsHoldCard : Claim7 := { stood := { row := pathBoundsHoldRow, standIns := [], harness := (true, "a858f4ee300c45865dd3a140a4267077e981c4c12717b43b7f5f471780ea243a"), looks := true }, kinds := [], alts := [], laidByText := true, laidKinds := [.data, .data, .data], laidTests := true, laidLooks := .later }
def PathBoundsHoldCardSaid : Prop := Claim7.holds Tryd.pinned (.plain (OpenSpec.ofChange pathBoundsHoldSpec)) pathBoundsHoldCard

/-- THE TIED CARD OF 'printworkslaw1.PathTextWords'. -/
def pathTextWordsCard : Claim7 := { stood := { row := pathTextWordsRow, standIns := [], harness := (true, "a858f4ee300c45865dd3a140a4267077e981c4c12717b43b7f5f471780ea243a"), looks := true }, kinds := [], alts := [], laidByText := true, laidKinds := [.data, .data, .data], laidTests := true, laidLooks := .later }
def PathTextWordsCardSaid : Prop := Claim7.holds Tryd.pinned (.plain (OpenSpec.ofChange pathTextWordsSpec)) pathTextWordsCard

/-- THE TIED CARD OF 'printworkslaw1.PathParseReads'. -/
def pathParseReadsCard : Claim7 := { stood := { row := pathParseReadsRow, standIns := [], harness := (true, "a858f4ee300c45865dd3a140a4267077e981c4c12717b43b7f5f471780ea243a"), looks := true }, kinds := [], alts := [], laidByText := true, laidKinds := [.data, .data, .data, .data, .sentinel, .sentinel, .pinned], laidTests := true, laidLooks := .later }
def PathParseReadsCardSaid : Prop := Claim7.holds Tryd.pinned (.plain (OpenSpec.ofChange pathParseReadsSpec)) pathParseReadsCard

/-- THE TIED CARD OF 'printworkslaw1.PathParseDamaged'. -/
def pathParseDamagedCard : Claim7 := { stood := { row := pathParseDamagedRow, standIns := [], harness := (true, "a858f4ee300c45865dd3a140a4267077e981c4c12717b43b7f5f471780ea243a"), looks := true }, kinds := [], alts := [], laidByText := true, laidKinds := [.data, .data, .data, .data, .sentinel, .sentinel, .pinned], laidTests := true, laidLooks := .later }
def PathParseDamagedCardSaid : Prop := Claim7.holds Tryd.pinned (.plain (OpenSpec.ofChange pathParseDamagedSpec)) pathParseDamagedCard

/-- THE TIED CARD OF 'printworkslaw1.PathRectangleSegs'. -/
def pathRectangleSegsCard : Claim7 := { stood := { row := pathRectangleSegsRow, standIns := [], harness := (true, "a858f4ee300c45865dd3a140a4267077e981c4c12717b43b7f5f471780ea243a"), looks := true }, kinds := [], alts := [], laidByText := true, laidKinds := [.data, .data, .data], laidTests := true, laidLooks := .later }
def PathRectangleSegsCardSaid : Prop := Claim7.holds Tryd.pinned (.plain (OpenSpec.ofChange pathRectangleSegsSpec)) pathRectangleSegsCard

/-- THE SECOND FORM's CARD OF 'printworkskeep1.PathTextBack'. -/
def pathTextBackUptoCard : Claim7 := { stood := { row := pathTextBackUptoRow, standIns := [], harness := (true, "a858f4ee300c45865dd3a140a4267077e981c4c12717b43b7f5f471780ea243a"), looks := true }, kinds := [], alts := [], laidByText := true, laidKinds := [.data, .data, .data, .data, .sentinel, .sentinel, .pinned], laidTests := true, laidLooks := .later }
def PathTextBackUptoCardSaid : Prop := Claim7.holds Tryd.pinned (.plain (OpenSpec.upto pathTextBackSpec)) pathTextBackUptoCard

/-- THE SECOND FORM's CARD OF 'printworkskeep1.PathReverseTwice'. -/
def pathReverseTwiceUptoCard : Claim7 := { stood := { row := pathReverseTwiceUptoRow, standIns := [], harness := (true, "a858f4ee300c45865dd3a140a4267077e981c4c12717b43b7f5f471780ea243a"), looks := true }, kinds := [], alts := [], laidByText := true, laidKinds := [.data, .data, .data], laidTests := true, laidLooks := .later }
def PathReverseTwiceUptoCardSaid : Prop := Claim7.holds Tryd.pinned (.plain (OpenSpec.upto pathReverseTwiceSpec)) pathReverseTwiceUptoCard

/-- THE SECOND FORM's CARD OF 'printworkskeep1.PathMapMoves'. -/
def pathMapMovesUptoCard : Claim7 := { stood := { row := pathMapMovesUptoRow, standIns := [], harness := (true, "a858f4ee300c45865dd3a140a4267077e981c4c12717b43b7f5f471780ea243a"), looks := true }, kinds := [], alts := [], laidByText := true, laidKinds := [.data, .data, .data], laidTests := true, laidLooks := .later }
def PathMapMovesUptoCardSaid : Prop := Claim7.holds Tryd.pinned (.plain (OpenSpec.upto pathMapMovesSpec)) pathMapMovesUptoCard

/-- THE SECOND FORM's CARD OF 'printworkslaw1.PathMapPoints'. -/
def pathMapPointsUptoCard : Claim7 := { stood := { row := pathMapPointsUptoRow, standIns := [], harness := (true, "a858f4ee300c45865dd3a140a4267077e981c4c12717b43b7f5f471780ea243a"), looks := true }, kinds := [], alts := [], laidByText := true, laidKinds := [.data, .data, .data], laidTests := true, laidLooks := .later }
def PathMapPointsUptoCardSaid : Prop := Claim7.holds Tryd.pinned (.plain (OpenSpec.upto pathMapPointsSpec)) pathMapPointsUptoCard

/-- THE SECOND FORM's CARD OF 'printworkslaw1.PathReverseSubpaths'. -/
def pathReverseSubpathsUptoCard : Claim7 := { stood := { row := pathReverseSubpathsUptoRow, standIns := [], harness := (true, "a858f4ee300c45865dd3a140a4267077e981c4c12717b43b7f5f471780ea243a"), looks := true }, kinds := [], alts := [], laidByText := true, laidKinds := [.data, .data, .data], laidTests := true, laidLooks := .later }
def PathReverseSubpathsUptoCardSaid : Prop := Claim7.holds Tryd.pinned (.plain (OpenSpec.upto pathReverseSubpathsSpec)) pathReverseSubpathsUptoCard

/-- THE SECOND FORM's CARD OF 'printworkslaw1.PathBoundsHold'. -/
def pathBoundsHoldUptoCard : Claim7 := { stood := { row := pathBoundsHoldUptoRow, standIns := [], harness := (true, "a858f4ee300c45865dd3a140a4267077e981c4c12717b43b7f5f471780ea243a"), looks := true }, kinds := [], alts := [], laidByText := true, laidKinds := [.data, .data, .data], laidTests := true, laidLooks := .later }
def PathBoundsHoldUptoCardSaid : Prop := Claim7.holds Tryd.pinned (.plain (OpenSpec.upto pathBoundsHoldSpec)) pathBoundsHoldUptoCard

/-- THE SECOND FORM's CARD OF 'printworkslaw1.PathTextWords'. -/
def pathTextWordsUptoCard : Claim7 := { stood := { row := pathTextWordsUptoRow, standIns := [], harness := (true, "a858f4ee300c45865dd3a140a4267077e981c4c12717b43b7f5f471780ea243a"), looks := true }, kinds := [], alts := [], laidByText := true, laidKinds := [.data, .data, .data], laidTests := true, laidLooks := .later }
def PathTextWordsUptoCardSaid : Prop := Claim7.holds Tryd.pinned (.plain (OpenSpec.upto pathTextWordsSpec)) pathTextWordsUptoCard

/-- THE SECOND FORM's CARD OF 'printworkslaw1.PathParseReads'. -/
def pathParseReadsUptoCard : Claim7 := { stood := { row := pathParseReadsUptoRow, standIns := [], harness := (true, "a858f4ee300c45865dd3a140a4267077e981c4c12717b43b7f5f471780ea243a"), looks := true }, kinds := [], alts := [], laidByText := true, laidKinds := [.data, .data, .data, .data, .sentinel, .sentinel, .pinned], laidTests := true, laidLooks := .later }
def PathParseReadsUptoCardSaid : Prop := Claim7.holds Tryd.pinned (.plain (OpenSpec.upto pathParseReadsSpec)) pathParseReadsUptoCard

/-- THE SECOND FORM's CARD OF 'printworkslaw1.PathParseDamaged'. -/
def pathParseDamagedUptoCard : Claim7 := { stood := { row := pathParseDamagedUptoRow, standIns := [], harness := (true, "a858f4ee300c45865dd3a140a4267077e981c4c12717b43b7f5f471780ea243a"), looks := true }, kinds := [], alts := [], laidByText := true, laidKinds := [.data, .data, .data, .data, .sentinel, .sentinel, .pinned], laidTests := true, laidLooks := .later }
def PathParseDamagedUptoCardSaid : Prop := Claim7.holds Tryd.pinned (.plain (OpenSpec.upto pathParseDamagedSpec)) pathParseDamagedUptoCard

/-- THE SECOND FORM's CARD OF 'printworkslaw1.PathRectangleSegs'. -/
def pathRectangleSegsUptoCard : Claim7 := { stood := { row := pathRectangleSegsUptoRow, standIns := [], harness := (true, "a858f4ee300c45865dd3a140a4267077e981c4c12717b43b7f5f471780ea243a"), looks := true }, kinds := [], alts := [], laidByText := true, laidKinds := [.data, .data, .data], laidTests := true, laidLooks := .later }
def PathRectangleSegsUptoCardSaid : Prop := Claim7.holds Tryd.pinned (.plain (OpenSpec.upto pathRectangleSegsSpec)) pathRectangleSegsUptoCard
end Rows
end Go.Proofs.YtbdpjdhnmllkiaaDoor
