/-
  DERIVED. GIVEN WITH THE SEED: THE CARDS: each row of YtbaokodhoiledaaDoorRows.lean that lists a variable, with what it lists TIED to the program's text (the seventh form; the later family's looks); each row that meets fmt, with fmt's text TOLD by the authors' own Lean function (tested against real Go, not proved from fmt's source: count such statements apart). THE CARD IS WHAT COUNTS. Prove the row's statement (the work); the ties are given (YtbaokodhoiledaaDoorTie.lean); close each card by the builder's one call (the guide's Derived/Test/ToyasCard.lean, 'card_holds'). Laid BY PROGRAM, IN A SANDBOX (cutbox-door.mjs). By AI agents, Wed Nov 11 2026. No macro, syntax, notation, axiom, sorry.
-/
import Derived.Test.YtbaokodhoiledaaDoorRows
import GoSem.ClaimSeven
namespace Go.Proofs.YtbaokodhoiledaaDoor
namespace Rows

/-- THE TIED CARD OF 'tabulariumlaw09.EnvelIds'. -/
def envelIdsCard : Claim7 := { stood := { row := envelIdsRow, standIns := [], harness := (true, "83da69d91194f53f59aa1e0e1432d025c7ff32c0b9891950f97d4ac33a014c9a"), looks := false }, kinds := [], alts := [], laidByText := true, laidKinds := [.data], laidTests := true, laidLooks := .later }
def EnvelIdsCardSaid : Prop := Claim7.holds Tryd.pinned (.plain (OpenSpec.ofChange envelIdsSpec)) envelIdsCard

/-- THE SECOND FORM's CARD OF 'tabulariumlaw09.EnvelIds'. -/
def envelIdsUptoCard : Claim7 := { stood := { row := envelIdsUptoRow, standIns := [], harness := (true, "83da69d91194f53f59aa1e0e1432d025c7ff32c0b9891950f97d4ac33a014c9a"), looks := false }, kinds := [], alts := [], laidByText := true, laidKinds := [.data], laidTests := true, laidLooks := .later }
def EnvelIdsUptoCardSaid : Prop := Claim7.holds Tryd.pinned (.plain (OpenSpec.upto envelIdsSpec)) envelIdsUptoCard
end Rows
end Go.Proofs.YtbaokodhoiledaaDoor
