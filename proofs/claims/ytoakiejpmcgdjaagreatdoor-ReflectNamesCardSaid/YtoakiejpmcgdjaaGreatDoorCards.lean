/-
  DERIVED. GIVEN WITH THE SEED: THE CARDS: each row of YtoakiejpmcgdjaaGreatDoorRows.lean that lists a variable, with what it lists TIED to the program's text (the seventh form; the later family's looks); each row that meets fmt, with fmt's text TOLD by the authors' own Lean function (tested against real Go, not proved from fmt's source: count such statements apart). THE CARD IS WHAT COUNTS. Prove the row's statement (the work); the ties are given (YtoakiejpmcgdjaaGreatDoorTie.lean); close each card by the builder's one call (the guide's Derived/Test/ToyasCard.lean, 'card_holds'). Laid BY PROGRAM, IN A SANDBOX (cutbox-door.mjs). By AI agents, Wed Nov 11 2026. No macro, syntax, notation, axiom, sorry.
-/
import Derived.Test.YtoakiejpmcgdjaaGreatDoorRows
import GoSem.ClaimSeven
namespace Go.Proofs.YtoakiejpmcgdjaaGreatDoor
namespace Rows

/-- THE TIED CARD OF 'understudylaw10.ReflectNames'. -/
def reflectNamesCard : Claim7 := { stood := { row := reflectNamesRow, standIns := [], harness := (true, "61d2e6c44830923d7b3cf4417eea06fae51f037e73b32116a7f56302cb009efe"), looks := true }, kinds := [], alts := [], laidByText := true, laidKinds := [.data, .data, .data, .sentinel, .sentinel], laidTests := true, laidLooks := .later }
def ReflectNamesCardSaid : Prop := Claim7.holds Tryz.pinned (.plain (OpenSpec.ofChange reflectNamesSpec)) reflectNamesCard

/-- THE SECOND FORM's CARD OF 'understudylaw10.ReflectNames'. -/
def reflectNamesUptoCard : Claim7 := { stood := { row := reflectNamesUptoRow, standIns := [], harness := (true, "61d2e6c44830923d7b3cf4417eea06fae51f037e73b32116a7f56302cb009efe"), looks := true }, kinds := [], alts := [], laidByText := true, laidKinds := [.data, .data, .data, .sentinel, .sentinel], laidTests := true, laidLooks := .later }
def ReflectNamesUptoCardSaid : Prop := Claim7.holds Tryz.pinned (.plain (OpenSpec.upto reflectNamesSpec)) reflectNamesUptoCard
end Rows
end Go.Proofs.YtoakiejpmcgdjaaGreatDoor
