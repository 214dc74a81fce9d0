/-
  DERIVED. GIVEN WITH THE SEED: THE CARDS: each row of YtkpjbleogjmbjaaDoorRows.lean that lists a variable, with what it lists TIED to the program's text (the seventh form; the later family's looks); each row that meets fmt, with fmt's text TOLD by the authors' own Lean function (tested against real Go, not proved from fmt's source: count such statements apart). THE CARD IS WHAT COUNTS. Prove the row's statement (the work); the ties are given (YtkpjbleogjmbjaaDoorTie.lean); close each card by the builder's one call (the guide's Derived/Test/ToyasCard.lean, 'card_holds'). Laid BY PROGRAM, IN A SANDBOX (cutbox-door.mjs). By AI agents, Wed Nov 11 2026. No macro, syntax, notation, axiom, sorry.
-/
import Derived.Test.YtkpjbleogjmbjaaDoorRows
import GoSem.ClaimSeven
namespace Go.Proofs.YtkpjbleogjmbjaaDoor
namespace Rows

/-- THE TIED CARD OF 'tabulariumlaw10.RouteBlinds'. -/
def routeBlindsCard : Claim7 := { stood := { row := routeBlindsRow, standIns := [], harness := (true, "9b03a7c6fe8ddbf8a3e908d9b1589bcfb2b2367899138392d69160984da71997"), looks := false }, kinds := [], alts := [], laidByText := true, laidKinds := [.data], laidTests := true, laidLooks := .later }
def RouteBlindsCardSaid : Prop := Claim7.holds Tryd.pinned (.plain (OpenSpec.ofChange routeBlindsSpec)) routeBlindsCard

/-- THE SECOND FORM's CARD OF 'tabulariumlaw10.RouteBlinds'. -/
def routeBlindsUptoCard : Claim7 := { stood := { row := routeBlindsUptoRow, standIns := [], harness := (true, "9b03a7c6fe8ddbf8a3e908d9b1589bcfb2b2367899138392d69160984da71997"), looks := false }, kinds := [], alts := [], laidByText := true, laidKinds := [.data], laidTests := true, laidLooks := .later }
def RouteBlindsUptoCardSaid : Prop := Claim7.holds Tryd.pinned (.plain (OpenSpec.upto routeBlindsSpec)) routeBlindsUptoCard
end Rows
end Go.Proofs.YtkpjbleogjmbjaaDoor
