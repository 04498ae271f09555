/-
  DERIVED. GIVEN WITH THE SEED: THE CARDS: each row of YtphaefkaeinngaaGreatDoorRows.lean that lists a variable, with what it lists TIED to the program's text (the seventh form; the later family's looks); each row that meets fmt, with fmt's text TOLD by the authors' own Lean function (tested against real Go, not proved from fmt's source: count such statements apart). THE CARD IS WHAT COUNTS. Prove the row's statement (the work); the ties are given (YtphaefkaeinngaaGreatDoorTie.lean); close each card by the builder's one call (the guide's Derived/Test/ToyasCard.lean, 'card_holds'). Laid BY PROGRAM, IN A SANDBOX (cutbox-door.mjs). By AI agents, Wed Nov 11 2026. No macro, syntax, notation, axiom, sorry.
-/
import Derived.Test.YtphaefkaeinngaaGreatDoorRows
import GoSem.ClaimSeven
namespace Go.Proofs.YtphaefkaeinngaaGreatDoor
namespace Rows

/-- THE TIED CARD OF 'understudylaw9.MopArrays'. -/
def mopArraysCard : Claim7 := { stood := { row := mopArraysRow, standIns := [], harness := (true, "55a2330d963bb143a3b05fede5868a7c4575677d0e72b5084ba265e37367da6c"), looks := true }, kinds := [], alts := [], laidByText := true, laidKinds := [.data, .data, .data, .sentinel, .sentinel], laidTests := true, laidLooks := .later }
def MopArraysCardSaid : Prop := Claim7.holds Tryz.pinned (.plain (OpenSpec.ofChange mopArraysSpec)) mopArraysCard

/-- THE TIED CARD OF 'understudylaw9.MopChains'. -/
def mopChainsCard : Claim7 := { stood := { row := mopChainsRow, standIns := [], harness := (true, "55a2330d963bb143a3b05fede5868a7c4575677d0e72b5084ba265e37367da6c"), looks := true }, kinds := [], alts := [], laidByText := true, laidKinds := [.data, .data, .data, .sentinel, .sentinel], laidTests := true, laidLooks := .later }
def MopChainsCardSaid : Prop := Claim7.holds Tryz.pinned (.plain (OpenSpec.ofChange mopChainsSpec)) mopChainsCard

/-- THE TIED CARD OF 'understudylaw9.MopSets'. -/
def mopSetsCard : Claim7 := { stood := { row := mopSetsRow, standIns := [], harness := (true, "55a2330d963bb143a3b05fede5868a7c4575677d0e72b5084ba265e37367da6c"), looks := true }, kinds := [], alts := [], laidByText := true, laidKinds := [.data, .data, .data, .sentinel, .sentinel], laidTests := true, laidLooks := .later }
def MopSetsCardSaid : Prop := Claim7.holds Tryz.pinned (.plain (OpenSpec.ofChange mopSetsSpec)) mopSetsCard

/-- THE TIED CARD OF 'understudylaw9.MopDeep'. -/
def mopDeepCard : Claim7 := { stood := { row := mopDeepRow, standIns := [], harness := (true, "55a2330d963bb143a3b05fede5868a7c4575677d0e72b5084ba265e37367da6c"), looks := true }, kinds := [], alts := [], laidByText := true, laidKinds := [.data, .data, .data, .sentinel, .sentinel], laidTests := true, laidLooks := .later }
def MopDeepCardSaid : Prop := Claim7.holds Tryz.pinned (.plain (OpenSpec.ofChange mopDeepSpec)) mopDeepCard

/-- THE TIED CARD OF 'understudylaw9.MopBound'. -/
def mopBoundCard : Claim7 := { stood := { row := mopBoundRow, standIns := [], harness := (true, "55a2330d963bb143a3b05fede5868a7c4575677d0e72b5084ba265e37367da6c"), looks := true }, kinds := [], alts := [], laidByText := true, laidKinds := [.data, .data, .data, .sentinel, .sentinel], laidTests := true, laidLooks := .later }
def MopBoundCardSaid : Prop := Claim7.holds Tryz.pinned (.plain (OpenSpec.ofChange mopBoundSpec)) mopBoundCard

/-- THE TIED CARD OF 'understudylaw9.MopRings'. -/
def mopRingsCard : Claim7 := { stood := { row := mopRingsRow, standIns := [], harness := (true, "55a2330d963bb143a3b05fede5868a7c4575677d0e72b5084ba265e37367da6c"), looks := true }, kinds := [], alts := [], laidByText := true, laidKinds := [.data, .data, .data, .sentinel, .sentinel], laidTests := true, laidLooks := .later }
def MopRingsCardSaid : Prop := Claim7.holds Tryz.pinned (.plain (OpenSpec.ofChange mopRingsSpec)) mopRingsCard

/-- THE TIED CARD OF 'understudylaw9.MopLengths'. -/
def mopLengthsCard : Claim7 := { stood := { row := mopLengthsRow, standIns := [], harness := (true, "55a2330d963bb143a3b05fede5868a7c4575677d0e72b5084ba265e37367da6c"), looks := true }, kinds := [], alts := [], laidByText := true, laidKinds := [.data, .data, .data, .sentinel, .sentinel], laidTests := true, laidLooks := .later }
def MopLengthsCardSaid : Prop := Claim7.holds Tryz.pinned (.plain (OpenSpec.ofChange mopLengthsSpec)) mopLengthsCard

/-- THE SECOND FORM's CARD OF 'understudylaw9.MopArrays'. -/
def mopArraysUptoCard : Claim7 := { stood := { row := mopArraysUptoRow, standIns := [], harness := (true, "55a2330d963bb143a3b05fede5868a7c4575677d0e72b5084ba265e37367da6c"), looks := true }, kinds := [], alts := [], laidByText := true, laidKinds := [.data, .data, .data, .sentinel, .sentinel], laidTests := true, laidLooks := .later }
def MopArraysUptoCardSaid : Prop := Claim7.holds Tryz.pinned (.plain (OpenSpec.upto mopArraysSpec)) mopArraysUptoCard

/-- THE SECOND FORM's CARD OF 'understudylaw9.MopChains'. -/
def mopChainsUptoCard : Claim7 := { stood := { row := mopChainsUptoRow, standIns := [], harness := (true, "55a2330d963bb143a3b05fede5868a7c4575677d0e72b5084ba265e37367da6c"), looks := true }, kinds := [], alts := [], laidByText := true, laidKinds := [.data, .data, .data, .sentinel, .sentinel], laidTests := true, laidLooks := .later }
def MopChainsUptoCardSaid : Prop := Claim7.holds Tryz.pinned (.plain (OpenSpec.upto mopChainsSpec)) mopChainsUptoCard

/-- THE SECOND FORM's CARD OF 'understudylaw9.MopSets'. -/
def mopSetsUptoCard : Claim7 := { stood := { row := mopSetsUptoRow, standIns := [], harness := (true, "55a2330d963bb143a3b05fede5868a7c4575677d0e72b5084ba265e37367da6c"), looks := true }, kinds := [], alts := [], laidByText := true, laidKinds := [.data, .data, .data, .sentinel, .sentinel], laidTests := true, laidLooks := .later }
def MopSetsUptoCardSaid : Prop := Claim7.holds Tryz.pinned (.plain (OpenSpec.upto mopSetsSpec)) mopSetsUptoCard

/-- THE SECOND FORM's CARD OF 'understudylaw9.MopDeep'. -/
def mopDeepUptoCard : Claim7 := { stood := { row := mopDeepUptoRow, standIns := [], harness := (true, "55a2330d963bb143a3b05fede5868a7c4575677d0e72b5084ba265e37367da6c"), looks := true }, kinds := [], alts := [], laidByText := true, laidKinds := [.data, .data, .data, .sentinel, .sentinel], laidTests := true, laidLooks := .later }
def MopDeepUptoCardSaid : Prop := Claim7.holds Tryz.pinned (.plain (OpenSpec.upto mopDeepSpec)) mopDeepUptoCard

/-- THE SECOND FORM's CARD OF 'understudylaw9.MopBound'. -/
def mopBoundUptoCard : Claim7 := { stood := { row := mopBoundUptoRow, standIns := [], harness := (true, "55a2330d963bb143a3b05fede5868a7c4575677d0e72b5084ba265e37367da6c"), looks := true }, kinds := [], alts := [], laidByText := true, laidKinds := [.data, .data, .data, .sentinel, .sentinel], laidTests := true, laidLooks := .later }
def MopBoundUptoCardSaid : Prop := Claim7.holds Tryz.pinned (.plain (OpenSpec.upto mopBoundSpec)) mopBoundUptoCard

/-- THE SECOND FORM's CARD OF 'understudylaw9.MopRings'. -/
def mopRingsUptoCard : Claim7 := { stood := { row := mopRingsUptoRow, standIns := [], harness := (true, "55a2330d963bb143a3b05fede5868a7c4575677d0e72b5084ba265e37367da6c"), looks := true }, kinds := [], alts := [], laidByText := true, laidKinds := [.data, .data, .data, .sentinel, .sentinel], laidTests := true, laidLooks := .later }
def MopRingsUptoCardSaid : Prop := Claim7.holds Tryz.pinned (.plain (OpenSpec.upto mopRingsSpec)) mopRingsUptoCard

/-- THE SECOND FORM's CARD OF 'understudylaw9.MopLengths'. -/
def mopLengthsUptoCard : Claim7 := { stood := { row := mopLengthsUptoRow, standIns := [], harness := (true, "55a2330d963bb143a3b05fede5868a7c4575677d0e72b5084ba265e37367da6c"), looks := true }, kinds := [], alts := [], laidByText := true, laidKinds := [.data, .data, .data, .sentinel, .sentinel], laidTests := true, laidLooks := .later }
def MopLengthsUptoCardSaid : Prop := Claim7.holds Tryz.pinned (.plain (OpenSpec.upto mopLengthsSpec)) mopLengthsUptoCard
end Rows
end Go.Proofs.YtphaefkaeinngaaGreatDoor
