/-
  What the rows' condition gives: the program's tables lie where the program reads them.
-/
import Derived.Test.YtclelancbfoenaaGreatDoorLaid
import Derived.Test.YtclelancbfoenaaGreatDoorReA
import Derived.Test.YtclelancbfoenaaGreatDoorShA
namespace Go.Proofs.YtclelancbfoenaaGreatDoor.tabs
open Go.ChangeShapes Go.WideShapes Go.ChangeAt Go.RowKit

theorem gFixed : Tryz.prog.globalNamed "tabularium/chacha.fixedWords" = some 0 := by kernel_rfl
theorem tFixed : (Tryz.prog.globals[0]?).map (·.type) = some 161 := by kernel_rfl
theorem gQuar : Tryz.prog.globalNamed "tabularium/chacha.quarters" = some 1 := by kernel_rfl
theorem tQuar : (Tryz.prog.globals[1]?).map (·.type) = some 163 := by kernel_rfl
theorem gRound : Tryz.prog.globalNamed "tabularium/sha.roundWords" = some 2 := by kernel_rfl
theorem tRound : (Tryz.prog.globals[2]?).map (·.type) = some 156 := by kernel_rfl
theorem cells53 : Tryz.prog.cellsOf 53 = 1 := by kernel_rfl
theorem cells5 : Tryz.prog.cellsOf 5 = 1 := by kernel_rfl
theorem cells162 : Tryz.prog.cellsOf 162 = 4 := by kernel_rfl

theorem fixed_list : Rows.laid_tabularium_chacha_fixedWords (H := Unit) = .agg (Re.fixedL.map fun z => .lit (.int .u32 (z : Nat))) := rfl
theorem quar_list : Rows.laid_tabularium_chacha_quarters (H := Unit) = .agg ((List.range 8).map fun j => .agg ((Re.quarRow j).map fun z => .lit (.int .u8 (z : Nat)))) := rfl
theorem quar_at : ∀ j, j < 8 → ∀ i, i < 4 → (Re.quarRow j)[i]? = some (Re.quarL.getD (j * 4 + i) 0) := by decide

theorem fixed_of {W : World} {t0 : TypeId} {cs0 : Array Value} {f0 : Nat} {p0 : List MemPlace} (ht : t0 = 161) (hv : W.var? Tryz.prog "tabularium/chacha.fixedWords" = some cs0)
    (hd : DataW.trod (fun _ => ()) Tryz.prog W 0 (fun _ => true) false f0 t0 cs0.toList = some (Rows.laid_tabularium_chacha_fixedWords, p0)) :
    ∀ i, i < 4 → W.cell? ⟨0, i, none⟩ = some (.int .u32 (Re.fixedL.getD i 0 : Nat)) := by
  subst ht
  obtain ⟨xs, m1, rfl, hx1, hlen, hn, hel⟩ := DataW.trod_array Tryz.underlying161 hd
  rw [fixed_list] at hx1
  simp only [Prod.mk.injEq, DataW.agg.injEq] at hx1
  intro i hi
  have h0 := hel i hi
  rw [cells53, Nat.mul_one, List.getElem?_eq_getElem (by omega : i < xs.length)] at h0
  obtain ⟨k, e1, e2, _⟩ := DataW.trod_int Tryz.underlying53 h0
  have hk := congrArg (fun l => l[i]?) hx1.1
  have hik : i < Re.fixedL.length := hi
  simp only [List.getElem?_map, List.getElem?_eq_getElem (by omega : i < xs.length), Option.map_some, e2, List.getElem?_eq_getElem hik, Option.some.injEq, DataW.lit.injEq, Lit.int.injEq, true_and] at hk
  have hc := World.var?_cell gFixed hv i
  have hci := congrArg (fun l => l[0]?) e1
  simp only [List.getElem?_take, List.getElem?_drop, Nat.add_zero] at hci
  rw [hc]
  have : cs0[i]? = some (.int .u32 k) := by simpa using hci
  rw [this, ← hk]
  simp [List.getElem?_eq_getElem hik]

theorem quar_of {W : World} {t0 : TypeId} {cs0 : Array Value} {f0 : Nat} {p0 : List MemPlace} (ht : t0 = 163) (hv : W.var? Tryz.prog "tabularium/chacha.quarters" = some cs0)
    (hd : DataW.trod (fun _ => ()) Tryz.prog W 0 (fun _ => true) false f0 t0 cs0.toList = some (Rows.laid_tabularium_chacha_quarters, p0)) :
    ∀ i, i < 32 → W.cell? ⟨1, i, none⟩ = some (.int .u8 (Re.quarL.getD i 0 : Nat)) := by
  subst ht
  obtain ⟨xs, m1, rfl, hx1, hlen, hn, hel⟩ := DataW.trod_array Tryz.underlying163 hd
  rw [quar_list] at hx1
  simp only [Prod.mk.injEq, DataW.agg.injEq] at hx1
  intro i hi
  have hj : i / 4 < 8 := by omega
  have h0 := hel (i / 4) hj
  rw [cells162, List.getElem?_eq_getElem (by omega : i / 4 < xs.length)] at h0
  obtain ⟨ys, m2, hy1, hy2, hlen2, hn2, hel2⟩ := DataW.trod_array Tryz.underlying162 h0
  have h1 := hel2 (i % 4) (by omega)
  rw [cells5, Nat.mul_one, List.getElem?_eq_getElem (by omega : i % 4 < ys.length)] at h1
  obtain ⟨k, e1, e2, _⟩ := DataW.trod_int Tryz.underlying5 h1
  have hk := congrArg (fun l => l[i / 4]?) hx1.1
  simp only [List.getElem?_map, List.getElem?_eq_getElem (by omega : i / 4 < xs.length), Option.map_some, hy2, List.getElem?_range hj, Option.some.injEq, DataW.agg.injEq] at hk
  have hk2 := congrArg (fun l => l[i % 4]?) hk
  simp only [List.getElem?_map, List.getElem?_eq_getElem (by omega : i % 4 < ys.length), Option.map_some, e2, quar_at (i / 4) hj (i % 4) (by omega), Option.some.injEq, DataW.lit.injEq, Lit.int.injEq, true_and] at hk2
  rw [show i / 4 * 4 + i % 4 = i by omega] at hk2
  have hc := World.var?_cell gQuar hv i
  have hci := congrArg (fun l => l[0]?) e1
  simp only [List.getElem?_take, List.getElem?_drop, Nat.add_zero, show i / 4 * 4 + i % 4 = i by omega] at hci
  rw [hc]
  have : cs0[i]? = some (.int .u8 k) := by
    have hm : i % 4 < 4 := by omega
    simpa [hm] using hci
  rw [this, ← hk2]

theorem datum_list : Rows.laid_tabularium_sha_roundWords (H := Unit) = .agg (Sh.kW.map fun z => .lit (.int .u32 (z : Nat))) := rfl
theorem round_of {W : World} {t0 : TypeId} {cs0 : Array Value} {f0 : Nat} {p0 : List MemPlace} (ht : t0 = 156) (hv0 : W.var? Tryz.prog "tabularium/sha.roundWords" = some cs0)
    (hd0 : DataW.trod (fun _ => ()) Tryz.prog W 0 (fun _ => true) false f0 t0 cs0.toList = some (Rows.laid_tabularium_sha_roundWords, p0)) : Sh.Tab W := by
  subst ht
  obtain ⟨xs, m1, rfl, hx1, hlen, hn, hel⟩ := DataW.trod_array Tryz.underlying156 hd0
  rw [datum_list] at hx1
  simp only [Prod.mk.injEq, DataW.agg.injEq] at hx1
  intro i hi
  have h0 := hel i hi
  rw [cells53, Nat.mul_one, List.getElem?_eq_getElem (by omega : i < xs.length)] at h0
  obtain ⟨k, e1, e2, _⟩ := DataW.trod_int Tryz.underlying53 h0
  have hk := congrArg (fun l => l[i]?) hx1.1
  simp only [List.getElem?_map, List.getElem?_eq_getElem (by omega : i < xs.length), Option.map_some, e2] at hk
  have hik : i < Sh.kW.length := hi
  rw [List.getElem?_eq_getElem hik] at hk
  simp only [Option.map_some, Option.some.injEq, DataW.lit.injEq, Lit.int.injEq, true_and] at hk
  have hc := World.var?_cell gRound hv0 i
  have hci := congrArg (fun l => l[0]?) e1
  simp only [List.getElem?_take, List.getElem?_drop, Nat.add_zero] at hci
  rw [hc]
  have : cs0[i]? = some (.int .u32 k) := by simpa using hci
  rw [this, ← hk]
  simp [List.getElem?_eq_getElem hik]

theorem all {W : World} (h : laidMetH Tryz.prog laidAll W) : Sh.Tab W ∧ Re.Tab W := by
  rw [MakeChecks.laidMetH_plain _ _ _ (by kernel_rfl)] at h
  obtain ⟨ps, ⟨g0, t0, cs0, f0, p0, q0, hg0, ht0, hv0, hd0, hrest⟩, _, _⟩ := h
  obtain ⟨g1, t1, cs1, f1, p1, q1, hg1, ht1, hv1, hd1, hrest1⟩ := hrest.1
  obtain ⟨g2, t2, cs2, f2, p2, q2, hg2, ht2, hv2, hd2, _⟩ := hrest1.1
  obtain rfl := Option.some.inj (gFixed.symm.trans hg0)
  obtain rfl := Option.some.inj (gQuar.symm.trans hg1)
  obtain rfl := Option.some.inj (gRound.symm.trans hg2)
  exact ⟨round_of (Option.some.inj (ht2.symm.trans tRound)) hv2 hd2, fixed_of (Option.some.inj (ht0.symm.trans tFixed)) hv0 hd0, quar_of (Option.some.inj (ht1.symm.trans tQuar)) hv1 hd1⟩
end Go.Proofs.YtclelancbfoenaaGreatDoor.tabs
namespace Go.Proofs.YtclelancbfoenaaGreatDoor
open Go.ChangeShapes Go.WideShapes Go.ChangeAt Go.RowKit
theorem tabs_of_laid {W : World} (h : laidMetH Tryz.prog laidAll W) : Sh.Tab W ∧ Re.Tab W := tabs.all h
end Go.Proofs.YtclelancbfoenaaGreatDoor
