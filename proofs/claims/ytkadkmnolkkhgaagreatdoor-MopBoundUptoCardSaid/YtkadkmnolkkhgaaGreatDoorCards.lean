/-
  DERIVED. GIVEN WITH THE SEED: THE CARDS: each row of YtkadkmnolkkhgaaGreatDoorRows.lean that lists a variable, with what it lists TIED to the program's text (the seventh form; the later family's looks); each row that meets fmt, with fmt's text TOLD by the authors' own Lean function (tested against real Go, not proved from fmt's source: count such statements apart). THE CARD IS WHAT COUNTS. Prove the row's statement (the work); the ties are given (YtkadkmnolkkhgaaGreatDoorTie.lean); close each card by the builder's one call (the guide's Derived/Test/ToyasCard.lean, 'card_holds'). Laid BY PROGRAM, IN A SANDBOX (cutbox-door.mjs). By AI agents, Wed Nov 11 2026. No macro, syntax, notation, axiom, sorry.
-/
import Derived.Test.YtkadkmnolkkhgaaGreatDoorRows
import GoSem.ClaimSeven
namespace Go.Proofs.YtkadkmnolkkhgaaGreatDoor
namespace Rows

/-- THE TIED CARD OF 'understudylaw9.MopArrays'. -/
def mopArraysCard : Claim7 := { stood := { row := mopArraysRow, standIns := [], harness := (true, "f5d345721049576e5df4eb02435b678b54824469e8d4a94f13e19260c94d3d5a"), looks := true }, kinds := [], alts := [], laidByText := true, laidKinds := [.data, .data, .data, .sentinel, .sentinel], laidTests := true, laidLooks := .later }
def MopArraysCardSaid : Prop := Claim7.holds Tryz.pinned (.plain (OpenSpec.ofChange mopArraysSpec)) mopArraysCard

/-- THE TIED CARD OF 'understudylaw9.MopChains'. -/
def mopChainsCard : Claim7 := { stood := { row := mopChainsRow, standIns := [], harness := (true, "f5d345721049576e5df4eb02435b678b54824469e8d4a94f13e19260c94d3d5a"), looks := true }, kinds := [], alts := [], laidByText := true, laidKinds := [.data, .data, .data, .sentinel, .sentinel], laidTests := true, laidLooks := .later }
def MopChainsCardSaid : Prop := Claim7.holds Tryz.pinned (.plain (OpenSpec.ofChange mopChainsSpec)) mopChainsCard

/-- THE TIED CARD OF 'understudylaw9.MopSets'. -/
def mopSetsCard : Claim7 := { stood := { row := mopSetsRow, standIns := [], harness := (true, "f5d345721049576e5df4eb02435b678b54824469e8d4a94f13e19260c94d3d5a"), looks := true }, kinds := [], alts := [], laidByText := true, laidKinds := [.data, .data, .data, .sentinel, .sentinel], laidTests := true, laidLooks := .later }
def MopSetsCardSaid : Prop := Claim7.holds Tryz.pinned (.plain (OpenSpec.ofChange mopSetsSpec)) mopSetsCard

/-- THE TIED CARD OF 'understudylaw9.MopBound'. -/
def mopBoundCard : Claim7 := { stood := { row := mopBoundRow, standIns := [], harness := (true, "f5d345721049576e5df4eb02435b678b54824469e8d4a94f13e19260c94d3d5a"), looks := true }, kinds := [], alts := [], laidByText := true, laidKinds := [.data, .data, .data, .sentinel, .sentinel], laidTests := true, laidLooks := .later }
def MopBoundCardSaid : Prop := Claim7.holds Tryz.pinned (.plain (OpenSpec.ofChange mopBoundSpec)) mopBoundCard

/-- THE TIED CARD OF 'understudylaw9.MopLengths'. -/
def mopLengthsCard : Claim7 := { stood := { row := mopLengthsRow, standIns := [], harness := (true, "f5d345721049576e5df4eb02435b678b54824469e8d4a94f13e19260c94d3d5a"), looks := true }, kinds := [], alts := [], laidByText := true, laidKinds := [.data, .data, .data, .sentinel, .sentinel], laidTests := true, laidLooks := .later }
def MopLengthsCardSaid : Prop := Claim7.holds Tryz.pinned (.plain (OpenSpec.ofChange mopLengthsSpec)) mopLengthsCard

/-- THE TIED CARD OF 'understudylaw10.ReflectGets'. -/
def reflectGetsCard : Claim7 := { stood := { row := reflectGetsRow, standIns := [], harness := (true, "f5d345721049576e5df4eb02435b678b54824469e8d4a94f13e19260c94d3d5a"), looks := true }, kinds := [], alts := [], laidByText := true, laidKinds := [.data, .data, .data, .sentinel, .sentinel], laidTests := true, laidLooks := .later }
def ReflectGetsCardSaid : Prop := Claim7.holds Tryz.pinned (.plain (OpenSpec.ofChange reflectGetsSpec)) reflectGetsCard

/-- THE TIED CARD OF 'understudylaw10.ReflectDefines'. -/
def reflectDefinesCard : Claim7 := { stood := { row := reflectDefinesRow, standIns := [], harness := (true, "f5d345721049576e5df4eb02435b678b54824469e8d4a94f13e19260c94d3d5a"), looks := true }, kinds := [], alts := [], laidByText := true, laidKinds := [.data, .data, .data, .sentinel, .sentinel], laidTests := true, laidLooks := .later }
def ReflectDefinesCardSaid : Prop := Claim7.holds Tryz.pinned (.plain (OpenSpec.ofChange reflectDefinesSpec)) reflectDefinesCard

/-- THE TIED CARD OF 'understudylaw10.ReflectKeys'. -/
def reflectKeysCard : Claim7 := { stood := { row := reflectKeysRow, standIns := [], harness := (true, "f5d345721049576e5df4eb02435b678b54824469e8d4a94f13e19260c94d3d5a"), looks := true }, kinds := [], alts := [], laidByText := true, laidKinds := [.data, .data, .data, .sentinel, .sentinel], laidTests := true, laidLooks := .later }
def ReflectKeysCardSaid : Prop := Claim7.holds Tryz.pinned (.plain (OpenSpec.ofChange reflectKeysSpec)) reflectKeysCard

/-- THE TIED CARD OF 'understudylaw11.IntegrityHolds'. -/
def integrityHoldsCard : Claim7 := { stood := { row := integrityHoldsRow, standIns := [], harness := (true, "f5d345721049576e5df4eb02435b678b54824469e8d4a94f13e19260c94d3d5a"), looks := true }, kinds := [], alts := [], laidByText := true, laidKinds := [.data, .data, .data, .sentinel, .sentinel], laidTests := true, laidLooks := .later }
def IntegrityHoldsCardSaid : Prop := Claim7.holds Tryz.pinned (.plain (OpenSpec.ofChange integrityHoldsSpec)) integrityHoldsCard

/-- THE TIED CARD OF 'understudylaw11.IntegrityMore'. -/
def integrityMoreCard : Claim7 := { stood := { row := integrityMoreRow, standIns := [], harness := (true, "f5d345721049576e5df4eb02435b678b54824469e8d4a94f13e19260c94d3d5a"), looks := true }, kinds := [], alts := [], laidByText := true, laidKinds := [.data, .data, .data, .sentinel, .sentinel], laidTests := true, laidLooks := .later }
def IntegrityMoreCardSaid : Prop := Claim7.holds Tryz.pinned (.plain (OpenSpec.ofChange integrityMoreSpec)) integrityMoreCard

/-- THE SECOND FORM's CARD OF 'understudylaw9.MopArrays'. -/
def mopArraysUptoCard : Claim7 := { stood := { row := mopArraysUptoRow, standIns := [], harness := (true, "f5d345721049576e5df4eb02435b678b54824469e8d4a94f13e19260c94d3d5a"), looks := true }, kinds := [], alts := [], laidByText := true, laidKinds := [.data, .data, .data, .sentinel, .sentinel], laidTests := true, laidLooks := .later }
def MopArraysUptoCardSaid : Prop := Claim7.holds Tryz.pinned (.plain (OpenSpec.upto mopArraysSpec)) mopArraysUptoCard

/-- THE SECOND FORM's CARD OF 'understudylaw9.MopChains'. -/
def mopChainsUptoCard : Claim7 := { stood := { row := mopChainsUptoRow, standIns := [], harness := (true, "f5d345721049576e5df4eb02435b678b54824469e8d4a94f13e19260c94d3d5a"), looks := true }, kinds := [], alts := [], laidByText := true, laidKinds := [.data, .data, .data, .sentinel, .sentinel], laidTests := true, laidLooks := .later }
def MopChainsUptoCardSaid : Prop := Claim7.holds Tryz.pinned (.plain (OpenSpec.upto mopChainsSpec)) mopChainsUptoCard

/-- THE SECOND FORM's CARD OF 'understudylaw9.MopSets'. -/
def mopSetsUptoCard : Claim7 := { stood := { row := mopSetsUptoRow, standIns := [], harness := (true, "f5d345721049576e5df4eb02435b678b54824469e8d4a94f13e19260c94d3d5a"), looks := true }, kinds := [], alts := [], laidByText := true, laidKinds := [.data, .data, .data, .sentinel, .sentinel], laidTests := true, laidLooks := .later }
def MopSetsUptoCardSaid : Prop := Claim7.holds Tryz.pinned (.plain (OpenSpec.upto mopSetsSpec)) mopSetsUptoCard

/-- THE SECOND FORM's CARD OF 'understudylaw9.MopBound'. -/
def mopBoundUptoCard : Claim7 := { stood := { row := mopBoundUptoRow, standIns := [], harness := (true, "f5d345721049576e5df4eb02435b678b54824469e8d4a94f13e19260c94d3d5a"), looks := true }, kinds := [], alts := [], laidByText := true, laidKinds := [.data, .data, .data, .sentinel, .sentinel], laidTests := true, laidLooks := .later }
def MopBoundUptoCardSaid : Prop := Claim7.holds Tryz.pinned (.plain (OpenSpec.upto mopBoundSpec)) mopBoundUptoCard

/-- THE SECOND FORM's CARD OF 'understudylaw9.MopLengths'. -/
def mopLengthsUptoCard : Claim7 := { stood := { row := mopLengthsUptoRow, standIns := [], harness := (true, "f5d345721049576e5df4eb02435b678b54824469e8d4a94f13e19260c94d3d5a"), looks := true }, kinds := [], alts := [], laidByText := true, laidKinds := [.data, .data, .data, .sentinel, .sentinel], laidTests := true, laidLooks := .later }
def MopLengthsUptoCardSaid : Prop := Claim7.holds Tryz.pinned (.plain (OpenSpec.upto mopLengthsSpec)) mopLengthsUptoCard

/-- THE SECOND FORM's CARD OF 'understudylaw10.ReflectGets'. -/
def reflectGetsUptoCard : Claim7 := { stood := { row := reflectGetsUptoRow, standIns := [], harness := (true, "f5d345721049576e5df4eb02435b678b54824469e8d4a94f13e19260c94d3d5a"), looks := true }, kinds := [], alts := [], laidByText := true, laidKinds := [.data, .data, .data, .sentinel, .sentinel], laidTests := true, laidLooks := .later }
def ReflectGetsUptoCardSaid : Prop := Claim7.holds Tryz.pinned (.plain (OpenSpec.upto reflectGetsSpec)) reflectGetsUptoCard

/-- THE SECOND FORM's CARD OF 'understudylaw10.ReflectDefines'. -/
def reflectDefinesUptoCard : Claim7 := { stood := { row := reflectDefinesUptoRow, standIns := [], harness := (true, "f5d345721049576e5df4eb02435b678b54824469e8d4a94f13e19260c94d3d5a"), looks := true }, kinds := [], alts := [], laidByText := true, laidKinds := [.data, .data, .data, .sentinel, .sentinel], laidTests := true, laidLooks := .later }
def ReflectDefinesUptoCardSaid : Prop := Claim7.holds Tryz.pinned (.plain (OpenSpec.upto reflectDefinesSpec)) reflectDefinesUptoCard

/-- THE SECOND FORM's CARD OF 'understudylaw10.ReflectKeys'. -/
def reflectKeysUptoCard : Claim7 := { stood := { row := reflectKeysUptoRow, standIns := [], harness := (true, "f5d345721049576e5df4eb02435b678b54824469e8d4a94f13e19260c94d3d5a"), looks := true }, kinds := [], alts := [], laidByText := true, laidKinds := [.data, .data, .data, .sentinel, .sentinel], laidTests := true, laidLooks := .later }
def ReflectKeysUptoCardSaid : Prop := Claim7.holds Tryz.pinned (.plain (OpenSpec.upto reflectKeysSpec)) reflectKeysUptoCard

/-- THE SECOND FORM's CARD OF 'understudylaw11.IntegrityHolds'. -/
def integrityHoldsUptoCard : Claim7 := { stood := { row := integrityHoldsUptoRow, standIns := [], harness := (true, "f5d345721049576e5df4eb02435b678b54824469e8d4a94f13e19260c94d3d5a"), looks := true }, kinds := [], alts := [], laidByText := true, laidKinds := [.data, .data, .data, .sentinel, .sentinel], laidTests := true, laidLooks := .later }
def IntegrityHoldsUptoCardSaid : Prop := Claim7.holds Tryz.pinned (.plain (OpenSpec.upto integrityHoldsSpec)) integrityHoldsUptoCard

/-- THE SECOND FORM's CARD OF 'understudylaw11.IntegrityMore'. -/
def integrityMoreUptoCard : Claim7 := { stood := { row := integrityMoreUptoRow, standIns := [], harness := (true, "f5d345721049576e5df4eb02435b678b54824469e8d4a94f13e19260c94d3d5a"), looks := true }, kinds := [], alts := [], laidByText := true, laidKinds := [.data, .data, .data, .sentinel, .sentinel], laidTests := true, laidLooks := .later }
def IntegrityMoreUptoCardSaid : Prop := Claim7.holds Tryz.pinned (.plain (OpenSpec.upto integrityMoreSpec)) integrityMoreUptoCard
end Rows
end Go.Proofs.YtkadkmnolkkhgaaGreatDoor
