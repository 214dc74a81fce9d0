/-
  What came in as an argument: a slice of bytes, an array of bytes or of words, a number.
-/
import Derived.Test.YtcciofbepdjkoaaDoorLaid
import Derived.Test.YtcciofbepdjkoaaDoorOwn
import Derived.OpenShut
import Derived.ChangeOld
namespace Go.Proofs.YtcciofbepdjkoaaDoor
open Go.ChangeShapes Go.WideShapes Go.ChangeAt Go.RowKit

/-- A slice of bytes that came in. -/
theorem open_bytes {H : Type} {enc : TypeId × Value → H} {W : World} {base : Nat} {v : Value} {x : DataW H} {p : List MemPlace} (hv : Value.okWide Tryd.prog W .any base 33 v) (h : ∃ fuel, DataW.trod enc Tryd.prog W 0 (fun _ => true) true fuel 33 v.cells.toList = some (x, p)) :
    ∃ a len cap zs, v = .slice a len cap ∧ IsBytes W.heap.size W a len cap zs := by
  obtain ⟨a, len, cap, rfl⟩ := okWide_slice Tryd.underlying33 hv
  obtain ⟨fuel, hf⟩ := h
  rcases open_ints Tryd.underlying33 Tryd.underlying5 (by kernel_rfl) hf with ⟨hcs, _⟩ | ⟨x, l, c, zs, hcs, _, hl, hm, hz, _, hcell, hwz⟩
  · simp [Value.cells] at hcs
    obtain ⟨rfl, rfl, rfl⟩ := hcs
    exact ⟨_, _, _, [], rfl, rfl, Nat.le_refl _, by omega, by simp, .inl rfl⟩
  · simp [Value.cells] at hcs
    obtain ⟨rfl, rfl, rfl⟩ := hcs
    have hz' : zs.length = cap := by simpa using hz
    refine ⟨_, _, _, (zs.take len).map Int.toNat, rfl, by simp; omega, hl, by simpa only [maxLen] using hm, ?_, ?_⟩
    · intro z hz'
      obtain ⟨n, hn, rfl⟩ := List.mem_map.1 hz'
      have := bounds_u8 (hwz n (List.mem_of_mem_take hn))
      omega
    · by_cases h0 : len = 0
      · exact .inl h0
      · obtain ⟨b, off, spot⟩ := x
        have hc0 := hcell 0 (by omega)
        have hspot : spot = none := by simpa [Addr.add] using World.cell?_spot hc0
        subst hspot
        refine .inr ⟨b, off, rfl, ?_, fun i hi => ?_⟩
        · rw [Addr.add_mid] at hc0
          exact World.block_lt_of_cell? W _ hc0
        · have hi' : i < zs.length := by omega
          have h1 := hcell i hi'
          rw [Addr.add_mid] at h1
          rw [h1]
          have hb := bounds_u8 (hwz zs[i] (List.getElem_mem hi'))
          simp [List.getElem?_eq_getElem hi', hi]
          omega
theorem nums_of {f : Nat → Value} {N : Nat} : ∀ {L : List Value}, (∀ v ∈ L, ∃ n : Nat, v = f n ∧ n < N) → ∃ l : List Nat, L = l.map f ∧ (∀ z ∈ l, z < N)
  | [], _ => ⟨[], rfl, fun z hz => by cases hz⟩
  | v :: L, h => by
    obtain ⟨n, rfl, hn⟩ := h v (by simp)
    obtain ⟨l, rfl, hl⟩ := nums_of (L := L) (fun u hu => h u (by simp [hu]))
    exact ⟨n :: l, rfl, fun z hz => by
      rcases List.mem_cons.1 hz with rfl | hz
      · exact hn
      · exact hl z hz⟩

theorem open_key {H : Type} {enc : TypeId × Value → H} {W : World} {base : Nat} {v : Value} {x : DataW H} {p : List MemPlace} (hv : Value.okWide Tryd.prog W .any base 25 v) (h : ∃ fuel, DataW.trod enc Tryd.prog W 0 (fun _ => true) true fuel 25 v.cells.toList = some (x, p)) :
    ∃ l : List Nat, v = .agg (u8s l).toArray ∧ (l.length = 32 ∧ ∀ z ∈ l, z < 256) := by
  obtain ⟨cs, rfl, hs⟩ : ∃ cs, v = .agg cs ∧ cs.size = Tryd.prog.cellsOf 25 := by
    simp only [Value.okWide, Tryd.underlying25] at hv
    obtain ⟨cs, e1, e2, _⟩ := hv
    exact ⟨cs, e1, e2⟩
  obtain ⟨fuel, hf⟩ := h
  have hc32 : Tryd.prog.cellsOf 25 = 32 := by kernel_rfl
  have hc5 : Tryd.prog.cellsOf 5 = 1 := by kernel_rfl
  obtain ⟨xs, m1, _, _, hlen, hn, hel⟩ := DataW.trod_array Tryd.underlying25 hf
  rw [hc32] at hs
  have key : ∀ u ∈ cs.toList, ∃ m : Nat, u = .int .u8 (m : Nat) ∧ m < 256 := by
    intro u hu
    obtain ⟨i, hi, rfl⟩ := List.mem_iff_getElem.1 hu
    have hi32 : i < 32 := by simpa [hs] using hi
    have h0 := hel i (by omega)
    rw [hc5, Nat.mul_one, List.getElem?_eq_getElem (by omega : i < xs.length)] at h0
    obtain ⟨z, e1, e2, hw⟩ := DataW.trod_int Tryd.underlying5 h0
    have hci := congrArg (fun l => l[0]?) e1
    simp only [List.getElem?_take, List.getElem?_drop, Nat.add_zero, Value.cells, List.getElem?_eq_getElem hi] at hci
    have hb := bounds_u8 hw
    refine ⟨z.toNat, ?_, by omega⟩
    rw [show ((z.toNat : Nat) : Int) = z by omega]
    simpa using hci
  obtain ⟨l, hl, hz⟩ := nums_of (f := fun z => .int .u8 (z : Nat)) key
  refine ⟨l, ?_, ?_, hz⟩
  · rw [← Array.toArray_toList (xs := cs), hl]; rfl
  · have := congrArg List.length hl
    simpa [hs] using this.symm
theorem open_nonce {H : Type} {enc : TypeId × Value → H} {W : World} {base : Nat} {v : Value} {x : DataW H} {p : List MemPlace} (hv : Value.okWide Tryd.prog W .any base 26 v) (h : ∃ fuel, DataW.trod enc Tryd.prog W 0 (fun _ => true) true fuel 26 v.cells.toList = some (x, p)) :
    ∃ l : List Nat, v = .agg (u8s l).toArray ∧ (l.length = 12 ∧ ∀ z ∈ l, z < 256) := by
  obtain ⟨cs, rfl, hs⟩ : ∃ cs, v = .agg cs ∧ cs.size = Tryd.prog.cellsOf 26 := by
    simp only [Value.okWide, Tryd.underlying26] at hv
    obtain ⟨cs, e1, e2, _⟩ := hv
    exact ⟨cs, e1, e2⟩
  obtain ⟨fuel, hf⟩ := h
  have hc32 : Tryd.prog.cellsOf 26 = 12 := by kernel_rfl
  have hc5 : Tryd.prog.cellsOf 5 = 1 := by kernel_rfl
  obtain ⟨xs, m1, _, _, hlen, hn, hel⟩ := DataW.trod_array Tryd.underlying26 hf
  rw [hc32] at hs
  have key : ∀ u ∈ cs.toList, ∃ m : Nat, u = .int .u8 (m : Nat) ∧ m < 256 := by
    intro u hu
    obtain ⟨i, hi, rfl⟩ := List.mem_iff_getElem.1 hu
    have hi32 : i < 12 := by simpa [hs] using hi
    have h0 := hel i (by omega)
    rw [hc5, Nat.mul_one, List.getElem?_eq_getElem (by omega : i < xs.length)] at h0
    obtain ⟨z, e1, e2, hw⟩ := DataW.trod_int Tryd.underlying5 h0
    have hci := congrArg (fun l => l[0]?) e1
    simp only [List.getElem?_take, List.getElem?_drop, Nat.add_zero, Value.cells, List.getElem?_eq_getElem hi] at hci
    have hb := bounds_u8 hw
    refine ⟨z.toNat, ?_, by omega⟩
    rw [show ((z.toNat : Nat) : Int) = z by omega]
    simpa using hci
  obtain ⟨l, hl, hz⟩ := nums_of (f := fun z => .int .u8 (z : Nat)) key
  refine ⟨l, ?_, ?_, hz⟩
  · rw [← Array.toArray_toList (xs := cs), hl]; rfl
  · have := congrArg List.length hl
    simpa [hs] using this.symm
theorem open_four {H : Type} {enc : TypeId × Value → H} {W : World} {base : Nat} {v : Value} {x : DataW H} {p : List MemPlace} (hv : Value.okWide Tryd.prog W .any base 23 v) (h : ∃ fuel, DataW.trod enc Tryd.prog W 0 (fun _ => true) true fuel 23 v.cells.toList = some (x, p)) :
    ∃ l : List Nat, v = .agg (u32s l).toArray ∧ (l.length = 4 ∧ ∀ z ∈ l, z < 4294967296) := by
  obtain ⟨cs, rfl, hs⟩ : ∃ cs, v = .agg cs ∧ cs.size = Tryd.prog.cellsOf 23 := by
    simp only [Value.okWide, Tryd.underlying23] at hv
    obtain ⟨cs, e1, e2, _⟩ := hv
    exact ⟨cs, e1, e2⟩
  obtain ⟨fuel, hf⟩ := h
  have hc32 : Tryd.prog.cellsOf 23 = 4 := by kernel_rfl
  have hc5 : Tryd.prog.cellsOf 22 = 1 := by kernel_rfl
  obtain ⟨xs, m1, _, _, hlen, hn, hel⟩ := DataW.trod_array Tryd.underlying23 hf
  rw [hc32] at hs
  have key : ∀ u ∈ cs.toList, ∃ m : Nat, u = .int .u32 (m : Nat) ∧ m < 4294967296 := by
    intro u hu
    obtain ⟨i, hi, rfl⟩ := List.mem_iff_getElem.1 hu
    have hi32 : i < 4 := by simpa [hs] using hi
    have h0 := hel i (by omega)
    rw [hc5, Nat.mul_one, List.getElem?_eq_getElem (by omega : i < xs.length)] at h0
    obtain ⟨z, e1, e2, hw⟩ := DataW.trod_int Tryd.underlying22 h0
    have hci := congrArg (fun l => l[0]?) e1
    simp only [List.getElem?_take, List.getElem?_drop, Nat.add_zero, Value.cells, List.getElem?_eq_getElem hi] at hci
    have hb := bounds_u32 hw
    refine ⟨z.toNat, ?_, by omega⟩
    rw [show ((z.toNat : Nat) : Int) = z by omega]
    simpa using hci
  obtain ⟨l, hl, hz⟩ := nums_of (f := fun z => .int .u32 (z : Nat)) key
  refine ⟨l, ?_, ?_, hz⟩
  · rw [← Array.toArray_toList (xs := cs), hl]; rfl
  · have := congrArg List.length hl
    simpa [hs] using this.symm
end Go.Proofs.YtcciofbepdjkoaaDoor
