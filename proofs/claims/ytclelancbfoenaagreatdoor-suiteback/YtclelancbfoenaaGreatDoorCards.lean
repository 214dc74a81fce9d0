/-
  DERIVED. GIVEN WITH THE SEED: THE CARDS: each row of YtclelancbfoenaaGreatDoorRows.lean that lists a variable, with what it lists TIED to the program's text (the seventh form; the later family's looks); each row that meets fmt, with fmt's text TOLD by the authors' own Lean function (tested against real Go, not proved from fmt's source: count such statements apart). THE CARD IS WHAT COUNTS. Prove the row's statement (the work); the ties are given (YtclelancbfoenaaGreatDoorTie.lean); close each card by the builder's one call (the guide's Derived/Test/ToyasCard.lean, 'card_holds'). Laid BY PROGRAM, IN A SANDBOX (cutbox-door.mjs). By AI agents, Wed Nov 11 2026. No macro, syntax, notation, axiom, sorry.
-/
import Derived.Test.YtclelancbfoenaaGreatDoorRows
import GoSem.ClaimSeven
namespace Go.Proofs.YtclelancbfoenaaGreatDoor
namespace Rows

/-- THE TIED CARD OF 'tabulariumlaw07.SuiteBack'. -/
def suiteBackCard : Claim7 := { stood := { row := suiteBackRow, standIns := [], harness := (true, "e80b394fe6b8ddf6410cf9fb47cf9c6d66fdb7d3e78d88a3ff325d1f2c1008ef"), looks := false }, kinds := [], alts := [], laidByText := true, laidKinds := [.data, .data, .data], laidTests := true, laidLooks := .later }
def SuiteBackCardSaid : Prop := Claim7.holds Tryz.pinned (.plain (OpenSpec.ofChange suiteBackSpec)) suiteBackCard

/-- THE SECOND FORM's CARD OF 'tabulariumlaw07.SuiteBack'. -/
def suiteBackUptoCard : Claim7 := { stood := { row := suiteBackUptoRow, standIns := [], harness := (true, "e80b394fe6b8ddf6410cf9fb47cf9c6d66fdb7d3e78d88a3ff325d1f2c1008ef"), looks := false }, kinds := [], alts := [], laidByText := true, laidKinds := [.data, .data, .data], laidTests := true, laidLooks := .later }
def SuiteBackUptoCardSaid : Prop := Claim7.holds Tryz.pinned (.plain (OpenSpec.upto suiteBackSpec)) suiteBackUptoCard
end Rows
end Go.Proofs.YtclelancbfoenaaGreatDoor
