/-
  DERIVED. GIVEN WITH THE SEED: THE PROGRAM's TIES (one call each: nine closed facts by the kernel) AND EACH ROW's TIE, after the 31st guide's Derived/Test/Toyas{Tie, Card}.lean. No idea stands in it: it is a product of the set-up. Laid BY PROGRAM, IN A SANDBOX (cutbox-door.mjs). By AI agents, Wed Nov 11 2026. No macro, syntax, notation, axiom, sorry.
-/
import Derived.Test.YtobmcaknfbooiaaDoorRows
import Derived.LaidByTextLater
import Derived.SevenTiedAt
import Derived.LaidSub
import Derived.LaidOnce
namespace Go.Proofs.YtobmcaknfbooiaaDoor
open Go
set_option maxRecDepth 100000
theorem seatTie1 : Tryd.prog.laidByTextLater [("tabularium/chacha.fixedWords", Rows.laid_tabularium_chacha_fixedWords), ("tabularium/chacha.quarters", Rows.laid_tabularium_chacha_quarters), ("tabularium/sha.roundWords", Rows.laid_tabularium_sha_roundWords)] [.data, .data, .data] true :=
  Program.laidByTextLater_by_one 32 8 65 (by kernel_rfl) (by kernel_rfl) (by kernel_rfl) (by kernel_rfl) (by kernel_rfl) (by kernel_rfl) (fun _ _ => by kernel_rfl)
theorem noOwnUnsafe : Tryd.pinned.checked.prog.headLifts.contains "ownunsafe" = false := by kernel_rfl
theorem tie : Tryd.prog.laidByTextLater [("tabularium/chacha.fixedWords", Rows.laid_tabularium_chacha_fixedWords), ("tabularium/chacha.quarters", Rows.laid_tabularium_chacha_quarters), ("tabularium/sha.roundWords", Rows.laid_tabularium_sha_roundWords)] [.data, .data, .data] true :=
  Program.laidByTextLater.sub seatTie1 ["tabularium/chacha.fixedWords", "tabularium/chacha.quarters", "tabularium/sha.roundWords"] (by kernel_rfl) (by kernel_rfl)
theorem suiteIdeal_row_tie : Rows.suiteIdealRow.laidByTextAt .later Tryd.pinned [.data, .data, .data] true :=
  OpenClaim.laidByTextAt_later rfl rfl tie noOwnUnsafe
theorem suiteBlind_row_tie : Rows.suiteBlindRow.laidByTextAt .later Tryd.pinned [.data, .data, .data] true :=
  OpenClaim.laidByTextAt_later rfl rfl tie noOwnUnsafe
theorem suiteWraps_row_tie : Rows.suiteWrapsRow.laidByTextAt .later Tryd.pinned [.data, .data, .data] true :=
  OpenClaim.laidByTextAt_later rfl rfl tie noOwnUnsafe
theorem tie2 : Tryd.prog.laidByTextLater [("tabularium/sha.roundWords", Rows.laid_tabularium_sha_roundWords)] [.data] true :=
  Program.laidByTextLater.sub seatTie1 ["tabularium/sha.roundWords"] (by kernel_rfl) (by kernel_rfl)
theorem suiteSizes_row_tie : Rows.suiteSizesRow.laidByTextAt .later Tryd.pinned [.data] true :=
  OpenClaim.laidByTextAt_later rfl rfl tie2 noOwnUnsafe
theorem suiteIdealUpto_row_tie : Rows.suiteIdealUptoRow.laidByTextAt .later Tryd.pinned [.data, .data, .data] true :=
  OpenClaim.laidByTextAt_later rfl rfl tie noOwnUnsafe
theorem suiteBlindUpto_row_tie : Rows.suiteBlindUptoRow.laidByTextAt .later Tryd.pinned [.data, .data, .data] true :=
  OpenClaim.laidByTextAt_later rfl rfl tie noOwnUnsafe
theorem suiteWrapsUpto_row_tie : Rows.suiteWrapsUptoRow.laidByTextAt .later Tryd.pinned [.data, .data, .data] true :=
  OpenClaim.laidByTextAt_later rfl rfl tie noOwnUnsafe
theorem suiteSizesUpto_row_tie : Rows.suiteSizesUptoRow.laidByTextAt .later Tryd.pinned [.data] true :=
  OpenClaim.laidByTextAt_later rfl rfl tie2 noOwnUnsafe
end Go.Proofs.YtobmcaknfbooiaaDoor
