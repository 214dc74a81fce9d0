/-
  What the rows' condition gives: the table of the rounds' words lies where the program reads it; and the start that the program's own initialiser leaves meets the condition.
-/
import Derived.Test.YtkpjbleogjmbjaaDoorRows
import Derived.Test.YtkpjbleogjmbjaaDoorShA
import Derived.Test.YtkpjbleogjmbjaaDoorArgs
import Derived.ProofKit
import Derived.LaidMore
import Derived.OpenShut
import Derived.Stop.Joined
namespace Go.Proofs.YtkpjbleogjmbjaaDoor
open Go.ChangeShapes Go.WideShapes Go.ChangeAt Go.RowKit

abbrev laidL : List (String × DataW Unit) := [("tabularium/sha.roundWords", Rows.laid_tabularium_sha_roundWords)]

theorem gRound : Tryd.prog.globalNamed "tabularium/sha.roundWords" = some 0 := by kernel_rfl
theorem tRound : (Tryd.prog.globals[0]?).map (·.type) = some 112 := by kernel_rfl
theorem cells97 : Tryd.prog.cellsOf 97 = 1 := by kernel_rfl

theorem door_met (os : Os) (args : Array Value) : laidMetH Tryd.prog laidL ((World.doorLaid Tryd.prog 81 os).forCall (fun _ _ => 0) ⟨#[], args, []⟩).memory :=
  laidMetH_of_parts3 (fuel := 8) (laidMet_of_run' 8 (by kernel_rfl) (by kernel_rfl)) (by kernel_rfl) (by kernel_rfl)

theorem datum_list : Rows.laid_tabularium_sha_roundWords (H := Unit) = .agg (Sh.kW.map fun z => .lit (.int .u32 (z : Nat))) := rfl

theorem tab_of_laid {W : World} (h : laidMetH Tryd.prog laidL W) : Sh.Tab W := by
  rw [MakeChecks.laidMetH_plain _ _ _ (by kernel_rfl)] at h
  obtain ⟨ps, ⟨g0, t0, cs0, f0, p0, q0, hg0, ht0, hv0, hd0, _⟩, _, _⟩ := h
  obtain rfl := Option.some.inj (gRound.symm.trans hg0)
  obtain rfl := Option.some.inj (tRound.symm.trans ht0)
  obtain ⟨xs, m1, rfl, hx1, hlen, hn, hel⟩ := DataW.trod_array Tryd.underlying112 hd0
  rw [datum_list] at hx1
  simp only [Prod.mk.injEq, DataW.agg.injEq] at hx1
  intro i hi
  have h0 := hel i hi
  rw [cells97, Nat.mul_one, List.getElem?_eq_getElem (by omega : i < xs.length)] at h0
  obtain ⟨k, e1, e2, _⟩ := DataW.trod_int Tryd.underlying97 h0
  have hk := congrArg (fun l => l[i]?) hx1.1
  simp only [List.getElem?_map, List.getElem?_eq_getElem (by omega : i < xs.length), Option.map_some, e2] at hk
  have hik : i < Sh.kW.length := hi
  rw [List.getElem?_eq_getElem hik] at hk
  simp only [Option.map_some, Option.some.injEq, DataW.lit.injEq, Lit.int.injEq, true_and] at hk
  have hc := World.var?_cell hg0 hv0 i
  have hci := congrArg (fun l => l[0]?) e1
  simp only [List.getElem?_take, List.getElem?_drop, Nat.add_zero] at hci
  rw [hc]
  have : cs0[i]? = some (.int .u32 k) := by simpa using hci
  rw [this, ← hk]
  simp [List.getElem?_eq_getElem hik]
end Go.Proofs.YtkpjbleogjmbjaaDoor
