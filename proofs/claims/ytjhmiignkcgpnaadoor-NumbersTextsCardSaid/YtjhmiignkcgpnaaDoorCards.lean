/-
  DERIVED. GIVEN WITH THE SEED: THE CARDS: each row of YtjhmiignkcgpnaaDoorRows.lean that lists a variable, with what it lists TIED to the program's text (the seventh form; the later family's looks); each row that meets fmt, with fmt's text TOLD by the authors' own Lean function (tested against real Go, not proved from fmt's source: count such statements apart). THE CARD IS WHAT COUNTS. Prove the row's statement (the work); the ties are given (YtjhmiignkcgpnaaDoorTie.lean); close each card by the builder's one call (the guide's Derived/Test/ToyasCard.lean, 'card_holds'). Laid BY PROGRAM, IN A SANDBOX (cutbox-door.mjs). By AI agents, Wed Nov 11 2026. No macro, syntax, notation, axiom, sorry.
-/
import Derived.Test.YtjhmiignkcgpnaaDoorRows
import GoSem.ClaimSeven
namespace Go.Proofs.YtjhmiignkcgpnaaDoor
namespace Rows

/-- THE TIED CARD OF 'understudylaw2.NumbersDo'. -/
def numbersDoCard : Claim7 := { stood := { row := numbersDoRow, standIns := [], harness := (true, "255b795cf017fc7f962749e2fe346b8b8fed061e874feec283be7f43846b528f"), looks := true }, kinds := [], alts := [], laidByText := true, laidKinds := [.data, .data, .data], laidTests := true, laidLooks := .later }
def NumbersDoCardSaid : Prop := Claim7.holds Tryd.pinned (.plain (OpenSpec.ofChange numbersDoSpec)) numbersDoCard

/-- THE TIED CARD OF 'understudylaw2.NumbersTexts'. -/
def numbersTextsCard : Claim7 := { stood := { row := numbersTextsRow, standIns := [], harness := (true, "255b795cf017fc7f962749e2fe346b8b8fed061e874feec283be7f43846b528f"), looks := true }, kinds := [], alts := [], laidByText := true, laidKinds := [.data, .data, .data, .sentinel, .sentinel], laidTests := true, laidLooks := .later }
def NumbersTextsCardSaid : Prop := Claim7.holds Tryd.pinned (.plain (OpenSpec.ofChange numbersTextsSpec)) numbersTextsCard

/-- THE TIED CARD OF 'understudylaw2.NumbersLaws'. -/
def numbersLawsCard : Claim7 := { stood := { row := numbersLawsRow, standIns := [], harness := (true, "255b795cf017fc7f962749e2fe346b8b8fed061e874feec283be7f43846b528f"), looks := true }, kinds := [], alts := [], laidByText := true, laidKinds := [.data, .data, .data], laidTests := true, laidLooks := .later }
def NumbersLawsCardSaid : Prop := Claim7.holds Tryd.pinned (.plain (OpenSpec.ofChange numbersLawsSpec)) numbersLawsCard

/-- THE TIED CARD OF 'understudylaw2.NumbersBack'. -/
def numbersBackCard : Claim7 := { stood := { row := numbersBackRow, standIns := [], harness := (true, "255b795cf017fc7f962749e2fe346b8b8fed061e874feec283be7f43846b528f"), looks := true }, kinds := [], alts := [], laidByText := true, laidKinds := [.data, .data, .data], laidTests := true, laidLooks := .later }
def NumbersBackCardSaid : Prop := Claim7.holds Tryd.pinned (.plain (OpenSpec.ofChange numbersBackSpec)) numbersBackCard

/-- THE SECOND FORM's CARD OF 'understudylaw2.NumbersDo'. -/
def numbersDoUptoCard : Claim7 := { stood := { row := numbersDoUptoRow, standIns := [], harness := (true, "255b795cf017fc7f962749e2fe346b8b8fed061e874feec283be7f43846b528f"), looks := true }, kinds := [], alts := [], laidByText := true, laidKinds := [.data, .data, .data], laidTests := true, laidLooks := .later }
def NumbersDoUptoCardSaid : Prop := Claim7.holds Tryd.pinned (.plain (OpenSpec.upto numbersDoSpec)) numbersDoUptoCard

/-- THE SECOND FORM's CARD OF 'understudylaw2.NumbersTexts'. -/
def numbersTextsUptoCard : Claim7 := { stood := { row := numbersTextsUptoRow, standIns := [], harness := (true, "255b795cf017fc7f962749e2fe346b8b8fed061e874feec283be7f43846b528f"), looks := true }, kinds := [], alts := [], laidByText := true, laidKinds := [.data, .data, .data, .sentinel, .sentinel], laidTests := true, laidLooks := .later }
def NumbersTextsUptoCardSaid : Prop := Claim7.holds Tryd.pinned (.plain (OpenSpec.upto numbersTextsSpec)) numbersTextsUptoCard

/-- THE SECOND FORM's CARD OF 'understudylaw2.NumbersLaws'. -/
def numbersLawsUptoCard : Claim7 := { stood := { row := numbersLawsUptoRow, standIns := [], harness := (true, "255b795cf017fc7f962749e2fe346b8b8fed061e874feec283be7f43846b528f"), looks := true }, kinds := [], alts := [], laidByText := true, laidKinds := [.data, .data, .data], laidTests := true, laidLooks := .later }
def NumbersLawsUptoCardSaid : Prop := Claim7.holds Tryd.pinned (.plain (OpenSpec.upto numbersLawsSpec)) numbersLawsUptoCard

/-- THE SECOND FORM's CARD OF 'understudylaw2.NumbersBack'. -/
def numbersBackUptoCard : Claim7 := { stood := { row := numbersBackUptoRow, standIns := [], harness := (true, "255b795cf017fc7f962749e2fe346b8b8fed061e874feec283be7f43846b528f"), looks := true }, kinds := [], alts := [], laidByText := true, laidKinds := [.data, .data, .data], laidTests := true, laidLooks := .later }
def NumbersBackUptoCardSaid : Prop := Claim7.holds Tryd.pinned (.plain (OpenSpec.upto numbersBackSpec)) numbersBackUptoCard
end Rows
end Go.Proofs.YtjhmiignkcgpnaaDoor
