/-
  DERIVED. GIVEN WITH THE SEED: THE CARDS: each row of YtifkfidkokdijaaDoorRows.lean that lists a variable, with what it lists TIED to the program's text (the seventh form; the later family's looks); each row that meets fmt, with fmt's text TOLD by the authors' own Lean function (tested against real Go, not proved from fmt's source: count such statements apart). THE CARD IS WHAT COUNTS. Prove the row's statement (the work); the ties are given (YtifkfidkokdijaaDoorTie.lean); close each card by the builder's one call (the guide's Derived/Test/ToyasCard.lean, 'card_holds'). Laid BY PROGRAM, IN A SANDBOX (cutbox-door.mjs). By AI agents, Wed Nov 11 2026. No macro, syntax, notation, axiom, sorry.
-/
import Derived.Test.YtifkfidkokdijaaDoorRows
import GoSem.ClaimSeven
namespace Go.Proofs.YtifkfidkokdijaaDoor
namespace Rows

/-- THE TIED CARD OF 'understudylaw6.ArraysLength'. -/
def arraysLengthCard : Claim7 := { stood := { row := arraysLengthRow, standIns := [], harness := (true, "d9765ff3416af359841f6456cc4111c733a335e8403cfe4c13883a0241cae45c"), looks := true }, kinds := [], alts := [], laidByText := true, laidKinds := [.data, .data, .data, .sentinel, .sentinel], laidTests := true, laidLooks := .later }
def ArraysLengthCardSaid : Prop := Claim7.holds Tryd.pinned (.plain (OpenSpec.ofChange arraysLengthSpec)) arraysLengthCard

/-- THE TIED CARD OF 'understudylaw6.ArraysAgain'. -/
def arraysAgainCard : Claim7 := { stood := { row := arraysAgainRow, standIns := [], harness := (true, "d9765ff3416af359841f6456cc4111c733a335e8403cfe4c13883a0241cae45c"), looks := true }, kinds := [], alts := [], laidByText := true, laidKinds := [.data, .data, .data, .sentinel, .sentinel], laidTests := true, laidLooks := .later }
def ArraysAgainCardSaid : Prop := Claim7.holds Tryd.pinned (.plain (OpenSpec.ofChange arraysAgainSpec)) arraysAgainCard

/-- THE SECOND FORM's CARD OF 'understudylaw6.ArraysLength'. -/
def arraysLengthUptoCard : Claim7 := { stood := { row := arraysLengthUptoRow, standIns := [], harness := (true, "d9765ff3416af359841f6456cc4111c733a335e8403cfe4c13883a0241cae45c"), looks := true }, kinds := [], alts := [], laidByText := true, laidKinds := [.data, .data, .data, .sentinel, .sentinel], laidTests := true, laidLooks := .later }
def ArraysLengthUptoCardSaid : Prop := Claim7.holds Tryd.pinned (.plain (OpenSpec.upto arraysLengthSpec)) arraysLengthUptoCard

/-- THE SECOND FORM's CARD OF 'understudylaw6.ArraysAgain'. -/
def arraysAgainUptoCard : Claim7 := { stood := { row := arraysAgainUptoRow, standIns := [], harness := (true, "d9765ff3416af359841f6456cc4111c733a335e8403cfe4c13883a0241cae45c"), looks := true }, kinds := [], alts := [], laidByText := true, laidKinds := [.data, .data, .data, .sentinel, .sentinel], laidTests := true, laidLooks := .later }
def ArraysAgainUptoCardSaid : Prop := Claim7.holds Tryd.pinned (.plain (OpenSpec.upto arraysAgainSpec)) arraysAgainUptoCard
end Rows
end Go.Proofs.YtifkfidkokdijaaDoor
