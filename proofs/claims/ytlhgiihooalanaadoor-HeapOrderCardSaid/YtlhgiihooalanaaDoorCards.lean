/-
  DERIVED. GIVEN WITH THE SEED: THE CARDS: each row of YtlhgiihooalanaaDoorRows.lean that lists a variable, with what it lists TIED to the program's text (the seventh form; the later family's looks); each row that meets fmt, with fmt's text TOLD by the authors' own Lean function (tested against real Go, not proved from fmt's source: count such statements apart). THE CARD IS WHAT COUNTS. Prove the row's statement (the work); the ties are given (YtlhgiihooalanaaDoorTie.lean); close each card by the builder's one call (the guide's Derived/Test/ToyasCard.lean, 'card_holds'). Laid BY PROGRAM, IN A SANDBOX (cutbox-door.mjs). By AI agents, Wed Nov 11 2026. No macro, syntax, notation, axiom, sorry.
-/
import Derived.Test.YtlhgiihooalanaaDoorRows
import GoSem.ClaimSeven
namespace Go.Proofs.YtlhgiihooalanaaDoor
namespace Rows

/-- THE TIED CARD OF 'understudylaw8.HeapOrder'. -/
def heapOrderCard : Claim7 := { stood := { row := heapOrderRow, standIns := [], harness := (true, "d6dbe7c5b2937d64c3f86dd4fed4cd85c5654f33c76e00f8ac7a39cbdbec4630"), looks := true }, kinds := [], alts := [], laidByText := true, laidKinds := [.data, .data, .data, .sentinel, .sentinel], laidTests := true, laidLooks := .later }
def HeapOrderCardSaid : Prop := Claim7.holds Tryd.pinned (.plain (OpenSpec.ofChange heapOrderSpec)) heapOrderCard

/-- THE SECOND FORM's CARD OF 'understudylaw8.HeapOrder'. -/
def heapOrderUptoCard : Claim7 := { stood := { row := heapOrderUptoRow, standIns := [], harness := (true, "d6dbe7c5b2937d64c3f86dd4fed4cd85c5654f33c76e00f8ac7a39cbdbec4630"), looks := true }, kinds := [], alts := [], laidByText := true, laidKinds := [.data, .data, .data, .sentinel, .sentinel], laidTests := true, laidLooks := .later }
def HeapOrderUptoCardSaid : Prop := Claim7.holds Tryd.pinned (.plain (OpenSpec.upto heapOrderSpec)) heapOrderUptoCard
end Rows
end Go.Proofs.YtlhgiihooalanaaDoor
