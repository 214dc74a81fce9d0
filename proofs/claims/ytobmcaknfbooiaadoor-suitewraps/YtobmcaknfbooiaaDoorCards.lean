/-
  DERIVED. GIVEN WITH THE SEED: THE CARDS: each row of YtobmcaknfbooiaaDoorRows.lean that lists a variable, with what it lists TIED to the program's text (the seventh form; the later family's looks); each row that meets fmt, with fmt's text TOLD by the authors' own Lean function (tested against real Go, not proved from fmt's source: count such statements apart). THE CARD IS WHAT COUNTS. Prove the row's statement (the work); the ties are given (YtobmcaknfbooiaaDoorTie.lean); close each card by the builder's one call (the guide's Derived/Test/ToyasCard.lean, 'card_holds'). Laid BY PROGRAM, IN A SANDBOX (cutbox-door.mjs). By AI agents, Wed Nov 11 2026. No macro, syntax, notation, axiom, sorry.
-/
import Derived.Test.YtobmcaknfbooiaaDoorRows
import GoSem.ClaimSeven
namespace Go.Proofs.YtobmcaknfbooiaaDoor
namespace Rows

/-- THE TIED CARD OF 'tabulariumlaw07.SuiteIdeal'. -/
def suiteIdealCard : Claim7 := { stood := { row := suiteIdealRow, standIns := [], harness := (true, "3a719363ba645202dd3f0a8341914aa6c9c8ea8393bcc2275e16f708ebabfd47"), looks := false }, kinds := [], alts := [], laidByText := true, laidKinds := [.data, .data, .data], laidTests := true, laidLooks := .later }
def SuiteIdealCardSaid : Prop := Claim7.holds Tryd.pinned (.plain (OpenSpec.ofChange suiteIdealSpec)) suiteIdealCard

/-- THE TIED CARD OF 'tabulariumlaw07.SuiteBlind'. -/
def suiteBlindCard : Claim7 := { stood := { row := suiteBlindRow, standIns := [], harness := (true, "3a719363ba645202dd3f0a8341914aa6c9c8ea8393bcc2275e16f708ebabfd47"), looks := false }, kinds := [], alts := [], laidByText := true, laidKinds := [.data, .data, .data], laidTests := true, laidLooks := .later }
def SuiteBlindCardSaid : Prop := Claim7.holds Tryd.pinned (.plain (OpenSpec.ofChange suiteBlindSpec)) suiteBlindCard

/-- THE TIED CARD OF 'tabulariumlaw07.SuiteWraps'. -/
def suiteWrapsCard : Claim7 := { stood := { row := suiteWrapsRow, standIns := [], harness := (true, "3a719363ba645202dd3f0a8341914aa6c9c8ea8393bcc2275e16f708ebabfd47"), looks := false }, kinds := [], alts := [], laidByText := true, laidKinds := [.data, .data, .data], laidTests := true, laidLooks := .later }
def SuiteWrapsCardSaid : Prop := Claim7.holds Tryd.pinned (.plain (OpenSpec.ofChange suiteWrapsSpec)) suiteWrapsCard

/-- THE TIED CARD OF 'tabulariumlaw07.SuiteSizes'. -/
def suiteSizesCard : Claim7 := { stood := { row := suiteSizesRow, standIns := [], harness := (true, "3a719363ba645202dd3f0a8341914aa6c9c8ea8393bcc2275e16f708ebabfd47"), looks := false }, kinds := [], alts := [], laidByText := true, laidKinds := [.data], laidTests := true, laidLooks := .later }
def SuiteSizesCardSaid : Prop := Claim7.holds Tryd.pinned (.plain (OpenSpec.ofChange suiteSizesSpec)) suiteSizesCard

/-- THE SECOND FORM's CARD OF 'tabulariumlaw07.SuiteIdeal'. -/
def suiteIdealUptoCard : Claim7 := { stood := { row := suiteIdealUptoRow, standIns := [], harness := (true, "3a719363ba645202dd3f0a8341914aa6c9c8ea8393bcc2275e16f708ebabfd47"), looks := false }, kinds := [], alts := [], laidByText := true, laidKinds := [.data, .data, .data], laidTests := true, laidLooks := .later }
def SuiteIdealUptoCardSaid : Prop := Claim7.holds Tryd.pinned (.plain (OpenSpec.upto suiteIdealSpec)) suiteIdealUptoCard

/-- THE SECOND FORM's CARD OF 'tabulariumlaw07.SuiteBlind'. -/
def suiteBlindUptoCard : Claim7 := { stood := { row := suiteBlindUptoRow, standIns := [], harness := (true, "3a719363ba645202dd3f0a8341914aa6c9c8ea8393bcc2275e16f708ebabfd47"), looks := false }, kinds := [], alts := [], laidByText := true, laidKinds := [.data, .data, .data], laidTests := true, laidLooks := .later }
def SuiteBlindUptoCardSaid : Prop := Claim7.holds Tryd.pinned (.plain (OpenSpec.upto suiteBlindSpec)) suiteBlindUptoCard

/-- THE SECOND FORM's CARD OF 'tabulariumlaw07.SuiteWraps'. -/
def suiteWrapsUptoCard : Claim7 := { stood := { row := suiteWrapsUptoRow, standIns := [], harness := (true, "3a719363ba645202dd3f0a8341914aa6c9c8ea8393bcc2275e16f708ebabfd47"), looks := false }, kinds := [], alts := [], laidByText := true, laidKinds := [.data, .data, .data], laidTests := true, laidLooks := .later }
def SuiteWrapsUptoCardSaid : Prop := Claim7.holds Tryd.pinned (.plain (OpenSpec.upto suiteWrapsSpec)) suiteWrapsUptoCard

/-- THE SECOND FORM's CARD OF 'tabulariumlaw07.SuiteSizes'. -/
def suiteSizesUptoCard : Claim7 := { stood := { row := suiteSizesUptoRow, standIns := [], harness := (true, "3a719363ba645202dd3f0a8341914aa6c9c8ea8393bcc2275e16f708ebabfd47"), looks := false }, kinds := [], alts := [], laidByText := true, laidKinds := [.data], laidTests := true, laidLooks := .later }
def SuiteSizesUptoCardSaid : Prop := Claim7.holds Tryd.pinned (.plain (OpenSpec.upto suiteSizesSpec)) suiteSizesUptoCard
end Rows
end Go.Proofs.YtobmcaknfbooiaaDoor
