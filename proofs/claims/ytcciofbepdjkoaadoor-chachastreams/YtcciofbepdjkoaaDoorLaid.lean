/-
  What the rows' condition gives: the program's two tables lie where the program reads them; and the start that the program's own initialiser leaves meets the condition.
-/
import Derived.Test.YtcciofbepdjkoaaDoorRows
import Derived.Test.YtcciofbepdjkoaaDoorTab
import Derived.ProofKit
import Derived.LaidMore
import Derived.OpenShut
import Derived.Stop.Joined
namespace Go.Proofs.YtcciofbepdjkoaaDoor
open Go.ChangeShapes Go.WideShapes Go.ChangeAt Go.RowKit

abbrev laidL : List (String × DataW Unit) := [("tabularium/chacha.fixedWords", Rows.laid_tabularium_chacha_fixedWords), ("tabularium/chacha.quarters", Rows.laid_tabularium_chacha_quarters)]

theorem own : ownKnob Tryd.prog.godebug = none := by kernel_rfl
theorem laidOut : laidOutB Tryd.prog = true := by kernel_rfl
theorem gFixed : Tryd.prog.globalNamed "tabularium/chacha.fixedWords" = some 0 := by kernel_rfl
theorem tFixed : (Tryd.prog.globals[0]?).map (·.type) = some 23 := by kernel_rfl
theorem gQuar : Tryd.prog.globalNamed "tabularium/chacha.quarters" = some 1 := by kernel_rfl
theorem tQuar : (Tryd.prog.globals[1]?).map (·.type) = some 58 := by kernel_rfl
theorem cells22 : Tryd.prog.cellsOf 22 = 1 := by kernel_rfl
theorem cells5 : Tryd.prog.cellsOf 5 = 1 := by kernel_rfl
theorem cells57 : Tryd.prog.cellsOf 57 = 4 := by kernel_rfl

theorem door_met (os : Os) (args : Array Value) : laidMetH Tryd.prog laidL ((World.doorLaid Tryd.prog 52 os).forCall (fun _ _ => 0) ⟨#[], args, []⟩).memory :=
  laidMetH_of_parts3 (fuel := 8) (laidMet_of_run' 8 (by kernel_rfl) (by kernel_rfl)) (by kernel_rfl) (by kernel_rfl)

theorem fixed_list : Rows.laid_tabularium_chacha_fixedWords (H := Unit) = .agg (fixedL.map fun z => .lit (.int .u32 (z : Nat))) := rfl
theorem quar_list : Rows.laid_tabularium_chacha_quarters (H := Unit) = .agg ((List.range 8).map fun j => .agg ((quarRow j).map fun z => .lit (.int .u8 (z : Nat)))) := rfl
theorem quar_at : ∀ j, j < 8 → ∀ i, i < 4 → (quarRow j)[i]? = some (quarL.getD (j * 4 + i) 0) := by decide

theorem fixed_of {W : World} {t0 : TypeId} {cs0 : Array Value} {f0 : Nat} {p0 : List MemPlace} (ht : t0 = 23) (hv : W.var? Tryd.prog "tabularium/chacha.fixedWords" = some cs0)
    (hd : DataW.trod (fun _ => ()) Tryd.prog W 0 (fun _ => true) false f0 t0 cs0.toList = some (Rows.laid_tabularium_chacha_fixedWords, p0)) :
    ∀ i, i < 4 → W.cell? ⟨0, i, none⟩ = some (.int .u32 (fixedL.getD i 0 : Nat)) := by
  subst ht
  obtain ⟨xs, m1, rfl, hx1, hlen, hn, hel⟩ := DataW.trod_array Tryd.underlying23 hd
  rw [fixed_list] at hx1
  simp only [Prod.mk.injEq, DataW.agg.injEq] at hx1
  intro i hi
  have h0 := hel i hi
  rw [cells22, Nat.mul_one, List.getElem?_eq_getElem (by omega : i < xs.length)] at h0
  obtain ⟨k, e1, e2, _⟩ := DataW.trod_int Tryd.underlying22 h0
  have hk := congrArg (fun l => l[i]?) hx1.1
  have hik : i < fixedL.length := hi
  simp only [List.getElem?_map, List.getElem?_eq_getElem (by omega : i < xs.length), Option.map_some, e2, List.getElem?_eq_getElem hik, Option.some.injEq, DataW.lit.injEq, Lit.int.injEq, true_and] at hk
  have hc := World.var?_cell gFixed hv i
  have hci := congrArg (fun l => l[0]?) e1
  simp only [List.getElem?_take, List.getElem?_drop, Nat.add_zero] at hci
  rw [hc]
  have : cs0[i]? = some (.int .u32 k) := by simpa using hci
  rw [this, ← hk]
  simp [List.getElem?_eq_getElem hik]

theorem quar_of {W : World} {t0 : TypeId} {cs0 : Array Value} {f0 : Nat} {p0 : List MemPlace} (ht : t0 = 58) (hv : W.var? Tryd.prog "tabularium/chacha.quarters" = some cs0)
    (hd : DataW.trod (fun _ => ()) Tryd.prog W 0 (fun _ => true) false f0 t0 cs0.toList = some (Rows.laid_tabularium_chacha_quarters, p0)) :
    ∀ i, i < 32 → W.cell? ⟨1, i, none⟩ = some (.int .u8 (quarL.getD i 0 : Nat)) := by
  subst ht
  obtain ⟨xs, m1, rfl, hx1, hlen, hn, hel⟩ := DataW.trod_array Tryd.underlying58 hd
  rw [quar_list] at hx1
  simp only [Prod.mk.injEq, DataW.agg.injEq] at hx1
  intro i hi
  have hj : i / 4 < 8 := by omega
  have h0 := hel (i / 4) hj
  rw [cells57, List.getElem?_eq_getElem (by omega : i / 4 < xs.length)] at h0
  obtain ⟨ys, m2, hy1, hy2, hlen2, hn2, hel2⟩ := DataW.trod_array Tryd.underlying57 h0
  have h1 := hel2 (i % 4) (by omega)
  rw [cells5, Nat.mul_one, List.getElem?_eq_getElem (by omega : i % 4 < ys.length)] at h1
  obtain ⟨k, e1, e2, _⟩ := DataW.trod_int Tryd.underlying5 h1
  have hk := congrArg (fun l => l[i / 4]?) hx1.1
  simp only [List.getElem?_map, List.getElem?_eq_getElem (by omega : i / 4 < xs.length), Option.map_some, hy2, List.getElem?_range hj, Option.some.injEq, DataW.agg.injEq] at hk
  have hk2 := congrArg (fun l => l[i % 4]?) hk
  simp only [List.getElem?_map, List.getElem?_eq_getElem (by omega : i % 4 < ys.length), Option.map_some, e2, quar_at (i / 4) hj (i % 4) (by omega), Option.some.injEq, DataW.lit.injEq, Lit.int.injEq, true_and] at hk2
  rw [show i / 4 * 4 + i % 4 = i by omega] at hk2
  have hc := World.var?_cell gQuar hv i
  have hci := congrArg (fun l => l[0]?) e1
  simp only [List.getElem?_take, List.getElem?_drop, Nat.add_zero, show i / 4 * 4 + i % 4 = i by omega] at hci
  rw [hc]
  have : cs0[i]? = some (.int .u8 k) := by
    have hm : i % 4 < 4 := by omega
    simpa [hm] using hci
  rw [this, ← hk2]

theorem tab_of_laid {W : World} (h : laidMetH Tryd.prog laidL W) : Tab W := by
  rw [MakeChecks.laidMetH_plain _ _ _ (by kernel_rfl)] at h
  obtain ⟨ps, ⟨g0, t0, cs0, f0, p0, q0, hg0, ht0, hv0, hd0, hrest⟩, _, _⟩ := h
  obtain rfl := Option.some.inj (gFixed.symm.trans hg0)
  obtain rfl := Option.some.inj (tFixed.symm.trans ht0)
  obtain ⟨g1, t1, cs1, f1, p1, q1, hg1, ht1, hv1, hd1, _⟩ := hrest.1
  obtain rfl := Option.some.inj (gQuar.symm.trans hg1)
  obtain rfl := Option.some.inj (tQuar.symm.trans ht1)
  exact ⟨fixed_of rfl hv0 hd0, quar_of rfl hv1 hd1⟩
end Go.Proofs.YtcciofbepdjkoaaDoor
