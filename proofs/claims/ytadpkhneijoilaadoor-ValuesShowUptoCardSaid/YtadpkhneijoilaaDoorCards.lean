/-
  DERIVED. GIVEN WITH THE SEED: THE CARDS: each row of YtadpkhneijoilaaDoorRows.lean that lists a variable, with what it lists TIED to the program's text (the seventh form; the later family's looks); each row that meets fmt, with fmt's text TOLD by the authors' own Lean function (tested against real Go, not proved from fmt's source: count such statements apart). THE CARD IS WHAT COUNTS. Prove the row's statement (the work); the ties are given (YtadpkhneijoilaaDoorTie.lean); close each card by the builder's one call (the guide's Derived/Test/ToyasCard.lean, 'card_holds'). Laid BY PROGRAM, IN A SANDBOX (cutbox-door.mjs). By AI agents, Wed Nov 11 2026. No macro, syntax, notation, axiom, sorry.
-/
import Derived.Test.YtadpkhneijoilaaDoorRows
import GoSem.ClaimSeven
namespace Go.Proofs.YtadpkhneijoilaaDoor
namespace Rows

/-- THE TIED CARD OF 'understudylaw4.ValuesTell'. -/
def valuesTellCard : Claim7 := { stood := { row := valuesTellRow, standIns := [], harness := (true, "04b99959542a44ef7dcdf3f022a2579cd6013134b1f89d06c1d2ea2dac158ee0"), looks := true }, kinds := [], alts := [], laidByText := true, laidKinds := [.data, .data, .data, .sentinel, .sentinel], laidTests := true, laidLooks := .later }
def ValuesTellCardSaid : Prop := Claim7.holds Tryd.pinned (.plain (OpenSpec.ofChange valuesTellSpec)) valuesTellCard

/-- THE TIED CARD OF 'understudylaw4.ValuesSame'. -/
def valuesSameCard : Claim7 := { stood := { row := valuesSameRow, standIns := [], harness := (true, "04b99959542a44ef7dcdf3f022a2579cd6013134b1f89d06c1d2ea2dac158ee0"), looks := true }, kinds := [], alts := [], laidByText := true, laidKinds := [.data, .data, .data], laidTests := true, laidLooks := .later }
def ValuesSameCardSaid : Prop := Claim7.holds Tryd.pinned (.plain (OpenSpec.ofChange valuesSameSpec)) valuesSameCard

/-- THE TIED CARD OF 'understudylaw4.ValuesShow'. -/
def valuesShowCard : Claim7 := { stood := { row := valuesShowRow, standIns := [], harness := (true, "04b99959542a44ef7dcdf3f022a2579cd6013134b1f89d06c1d2ea2dac158ee0"), looks := true }, kinds := [], alts := [], laidByText := true, laidKinds := [.data, .data, .data], laidTests := true, laidLooks := .later }
def ValuesShowCardSaid : Prop := Claim7.holds Tryd.pinned (.plain (OpenSpec.ofChange valuesShowSpec)) valuesShowCard

/-- THE TIED CARD OF 'understudylaw4.ValuesNumbers'. -/
def valuesNumbersCard : Claim7 := { stood := { row := valuesNumbersRow, standIns := [], harness := (true, "04b99959542a44ef7dcdf3f022a2579cd6013134b1f89d06c1d2ea2dac158ee0"), looks := true }, kinds := [], alts := [], laidByText := true, laidKinds := [.data, .data, .data, .sentinel, .sentinel], laidTests := true, laidLooks := .later }
def ValuesNumbersCardSaid : Prop := Claim7.holds Tryd.pinned (.plain (OpenSpec.ofChange valuesNumbersSpec)) valuesNumbersCard

/-- THE TIED CARD OF 'understudylaw4.ValuesTypes'. -/
def valuesTypesCard : Claim7 := { stood := { row := valuesTypesRow, standIns := [], harness := (true, "04b99959542a44ef7dcdf3f022a2579cd6013134b1f89d06c1d2ea2dac158ee0"), looks := true }, kinds := [], alts := [], laidByText := true, laidKinds := [.data, .data, .data], laidTests := true, laidLooks := .later }
def ValuesTypesCardSaid : Prop := Claim7.holds Tryd.pinned (.plain (OpenSpec.ofChange valuesTypesSpec)) valuesTypesCard

/-- THE SECOND FORM's CARD OF 'understudylaw4.ValuesTell'. -/
def valuesTellUptoCard : Claim7 := { stood := { row := valuesTellUptoRow, standIns := [], harness := (true, "04b99959542a44ef7dcdf3f022a2579cd6013134b1f89d06c1d2ea2dac158ee0"), looks := true }, kinds := [], alts := [], laidByText := true, laidKinds := [.data, .data, .data, .sentinel, .sentinel], laidTests := true, laidLooks := .later }
def ValuesTellUptoCardSaid : Prop := Claim7.holds Tryd.pinned (.plain (OpenSpec.upto valuesTellSpec)) valuesTellUptoCard

/-- THE SECOND FORM's CARD OF 'understudylaw4.ValuesSame'. -/
def valuesSameUptoCard : Claim7 := { stood := { row := valuesSameUptoRow, standIns := [], harness := (true, "04b99959542a44ef7dcdf3f022a2579cd6013134b1f89d06c1d2ea2dac158ee0"), looks := true }, kinds := [], alts := [], laidByText := true, laidKinds := [.data, .data, .data], laidTests := true, laidLooks := .later }
def ValuesSameUptoCardSaid : Prop := Claim7.holds Tryd.pinned (.plain (OpenSpec.upto valuesSameSpec)) valuesSameUptoCard

/-- THE SECOND FORM's CARD OF 'understudylaw4.ValuesShow'. -/
def valuesShowUptoCard : Claim7 := { stood := { row := valuesShowUptoRow, standIns := [], harness := (true, "04b99959542a44ef7dcdf3f022a2579cd6013134b1f89d06c1d2ea2dac158ee0"), looks := true }, kinds := [], alts := [], laidByText := true, laidKinds := [.data, .data, .data], laidTests := true, laidLooks := .later }
def ValuesShowUptoCardSaid : Prop := Claim7.holds Tryd.pinned (.plain (OpenSpec.upto valuesShowSpec)) valuesShowUptoCard

/-- THE SECOND FORM's CARD OF 'understudylaw4.ValuesNumbers'. -/
def valuesNumbersUptoCard : Claim7 := { stood := { row := valuesNumbersUptoRow, standIns := [], harness := (true, "04b99959542a44ef7dcdf3f022a2579cd6013134b1f89d06c1d2ea2dac158ee0"), looks := true }, kinds := [], alts := [], laidByText := true, laidKinds := [.data, .data, .data, .sentinel, .sentinel], laidTests := true, laidLooks := .later }
def ValuesNumbersUptoCardSaid : Prop := Claim7.holds Tryd.pinned (.plain (OpenSpec.upto valuesNumbersSpec)) valuesNumbersUptoCard

/-- THE SECOND FORM's CARD OF 'understudylaw4.ValuesTypes'. -/
def valuesTypesUptoCard : Claim7 := { stood := { row := valuesTypesUptoRow, standIns := [], harness := (true, "04b99959542a44ef7dcdf3f022a2579cd6013134b1f89d06c1d2ea2dac158ee0"), looks := true }, kinds := [], alts := [], laidByText := true, laidKinds := [.data, .data, .data], laidTests := true, laidLooks := .later }
def ValuesTypesUptoCardSaid : Prop := Claim7.holds Tryd.pinned (.plain (OpenSpec.upto valuesTypesSpec)) valuesTypesUptoCard
end Rows
end Go.Proofs.YtadpkhneijoilaaDoor
