/-
  The start that the program's own initialiser leaves meets the rows' conditions.
-/
import Derived.Test.YtclelancbfoenaaGreatDoorRows
import Derived.Test.YtclelancbfoenaaGreatDoorArgs
import Derived.ProofKit
import Derived.LaidMore
import Derived.OpenShut
import Derived.Stop.Joined
namespace Go.Proofs.YtclelancbfoenaaGreatDoor
open Go.ChangeShapes Go.WideShapes Go.ChangeAt Go.RowKit

abbrev laidOne : List (String × DataW Unit) := [("tabularium/sha.roundWords", Rows.laid_tabularium_sha_roundWords)]
abbrev laidAll : List (String × DataW Unit) := [("tabularium/chacha.fixedWords", Rows.laid_tabularium_chacha_fixedWords), ("tabularium/chacha.quarters", Rows.laid_tabularium_chacha_quarters), ("tabularium/sha.roundWords", Rows.laid_tabularium_sha_roundWords)]

theorem door_one (os : Os) (args : Array Value) : laidMetH Tryz.prog laidOne ((World.doorLaid Tryz.prog 128 os).forCall (fun _ _ => 0) ⟨#[], args, []⟩).memory :=
  laidMetH_of_parts3 (fuel := 8) (laidMet_of_run' 8 (by kernel_rfl) (by kernel_rfl)) (by kernel_rfl) (by kernel_rfl)
theorem door_all (os : Os) (args : Array Value) : laidMetH Tryz.prog laidAll ((World.doorLaid Tryz.prog 128 os).forCall (fun _ _ => 0) ⟨#[], args, []⟩).memory :=
  laidMetH_of_parts3 (fuel := 8) (laidMet_of_run' 8 (by kernel_rfl) (by kernel_rfl)) (by kernel_rfl) (by kernel_rfl)

end Go.Proofs.YtclelancbfoenaaGreatDoor
