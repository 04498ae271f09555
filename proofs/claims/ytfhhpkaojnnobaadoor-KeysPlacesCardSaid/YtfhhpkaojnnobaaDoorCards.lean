/-
  DERIVED. GIVEN WITH THE SEED: THE CARDS: each row of YtfhhpkaojnnobaaDoorRows.lean that lists a variable, with what it lists TIED to the program's text (the seventh form; the later family's looks); each row that meets fmt, with fmt's text TOLD by the authors' own Lean function (tested against real Go, not proved from fmt's source: count such statements apart). THE CARD IS WHAT COUNTS. Prove the row's statement (the work); the ties are given (YtfhhpkaojnnobaaDoorTie.lean); close each card by the builder's one call (the guide's Derived/Test/ToyasCard.lean, 'card_holds'). Laid BY PROGRAM, IN A SANDBOX (cutbox-door.mjs). By AI agents, Wed Nov 11 2026. No macro, syntax, notation, axiom, sorry.
-/
import Derived.Test.YtfhhpkaojnnobaaDoorRows
import GoSem.ClaimSeven
namespace Go.Proofs.YtfhhpkaojnnobaaDoor
namespace Rows

/-- THE TIED CARD OF 'understudylaw3.KeysIndex'. -/
def keysIndexCard : Claim7 := { stood := { row := keysIndexRow, standIns := [], harness := (true, "257f0260f0da750cb8fb165b5ebfa3d99a803a70892789dc8d01f0c895ccce7a"), looks := true }, kinds := [], alts := [], laidByText := true, laidKinds := [.data, .data, .data, .sentinel, .sentinel], laidTests := true, laidLooks := .later }
def KeysIndexCardSaid : Prop := Claim7.holds Tryd.pinned (.plain (OpenSpec.ofChange keysIndexSpec)) keysIndexCard

/-- THE TIED CARD OF 'understudylaw3.KeysPlaces'. -/
def keysPlacesCard : Claim7 := { stood := { row := keysPlacesRow, standIns := [], harness := (true, "257f0260f0da750cb8fb165b5ebfa3d99a803a70892789dc8d01f0c895ccce7a"), looks := true }, kinds := [], alts := [], laidByText := true, laidKinds := [.data, .data, .data, .sentinel, .sentinel], laidTests := true, laidLooks := .later }
def KeysPlacesCardSaid : Prop := Claim7.holds Tryd.pinned (.plain (OpenSpec.ofChange keysPlacesSpec)) keysPlacesCard

/-- THE SECOND FORM's CARD OF 'understudylaw3.KeysIndex'. -/
def keysIndexUptoCard : Claim7 := { stood := { row := keysIndexUptoRow, standIns := [], harness := (true, "257f0260f0da750cb8fb165b5ebfa3d99a803a70892789dc8d01f0c895ccce7a"), looks := true }, kinds := [], alts := [], laidByText := true, laidKinds := [.data, .data, .data, .sentinel, .sentinel], laidTests := true, laidLooks := .later }
def KeysIndexUptoCardSaid : Prop := Claim7.holds Tryd.pinned (.plain (OpenSpec.upto keysIndexSpec)) keysIndexUptoCard

/-- THE SECOND FORM's CARD OF 'understudylaw3.KeysPlaces'. -/
def keysPlacesUptoCard : Claim7 := { stood := { row := keysPlacesUptoRow, standIns := [], harness := (true, "257f0260f0da750cb8fb165b5ebfa3d99a803a70892789dc8d01f0c895ccce7a"), looks := true }, kinds := [], alts := [], laidByText := true, laidKinds := [.data, .data, .data, .sentinel, .sentinel], laidTests := true, laidLooks := .later }
def KeysPlacesUptoCardSaid : Prop := Claim7.holds Tryd.pinned (.plain (OpenSpec.upto keysPlacesSpec)) keysPlacesUptoCard
end Rows
end Go.Proofs.YtfhhpkaojnnobaaDoor
