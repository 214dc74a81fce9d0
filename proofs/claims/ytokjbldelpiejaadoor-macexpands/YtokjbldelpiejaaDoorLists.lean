/-
  A list of texts that came in; what a running sum and a text that is owned do to each other.
-/
import Derived.Test.YtokjbldelpiejaaDoorArgs
import Derived.Test.YtokjbldelpiejaaDoorRSum
namespace Go.Proofs.YtokjbldelpiejaaDoor
open Go.ChangeShapes Go.WideShapes Go.ChangeAt Go.RowKit

/-- A slice of slices of bytes. -/
def IsLists (n₀ : Nat) (W : World) (p : Option Addr) (len cap : Nat) (ts : List (List Nat)) : Prop :=
  ts.length = len ∧ len ≤ cap ∧ (len = 0 ∨ ∃ b off, p = some ⟨b, off, none⟩ ∧ b < n₀ ∧ ∀ i, i < len → ∃ q l c, W.cell? ⟨b, off + i, none⟩ = some (.slice q l c) ∧ IsBytes n₀ W q l c (ts.getD i []))

theorem IsLists.below {n₀ : Nat} {A B : World} (h : Below n₀ A B) {p : Option Addr} {len cap : Nat} {ts : List (List Nat)} : IsLists n₀ A p len cap ts → IsLists n₀ B p len cap ts
  | ⟨h1, h0, .inl e⟩ => ⟨h1, h0, .inl e⟩
  | ⟨h1, h0, .inr ⟨b, off, e, hb, hc⟩⟩ => ⟨h1, h0, .inr ⟨b, off, e, hb, fun i hi => by
      obtain ⟨q, l, c, h2, h3⟩ := hc i hi
      exact ⟨q, l, c, (h.cell (p := ⟨b, off + i, none⟩) hb).trans h2, h3.below h⟩⟩⟩

theorem lists_of {Q : Nat → List Nat → Prop} : ∀ (n : Nat), (∀ i, i < n → ∃ t, Q i t) → ∃ ts : List (List Nat), ts.length = n ∧ ∀ i, i < n → Q i (ts.getD i [])
  | 0, _ => ⟨[], rfl, fun i hi => by omega⟩
  | n + 1, h => by
    obtain ⟨ts, hl, ht⟩ := lists_of n (fun i hi => h i (by omega))
    obtain ⟨t, hq⟩ := h n (by omega)
    refine ⟨ts ++ [t], by simp [hl], fun i hi => ?_⟩
    by_cases h1 : i < n
    · rw [show (ts ++ [t]).getD i [] = ts.getD i [] by simp [List.getElem?_append_left (show i < ts.length by omega)]]
      exact ht i h1
    · obtain rfl : i = n := by omega
      rw [show (ts ++ [t]).getD i [] = t by simp [← hl]]
      exact hq

/-- A slice of bytes, as it is read. -/
theorem bytes_of_trod {H : Type} {enc : TypeId × Value → H} {W : World} {fuel : Nat} {cs : List Value} {x : DataW H × List MemPlace} (hf : DataW.trod enc Tryd.prog W 0 (fun _ => true) true fuel 22 cs = some x) :
    ∃ a len cap zs, cs = [.slice a len cap] ∧ IsBytes W.heap.size W a len cap zs := by
  rcases open_ints Tryd.underlying22 Tryd.underlying5 (by kernel_rfl) hf with ⟨hcs, _⟩ | ⟨y, len, cap, zs, hcs, _, hl, hm, hz, _, hcell, hwz⟩
  · exact ⟨_, _, _, [], hcs, rfl, Nat.le_refl _, by omega, by simp, .inl rfl⟩
  · have hz' : zs.length = cap := by simpa using hz
    refine ⟨_, _, _, (zs.take len).map Int.toNat, hcs, by simp; omega, hl, by simpa only [maxLen] using hm, ?_, ?_⟩
    · intro z hz'
      obtain ⟨n, hn, rfl⟩ := List.mem_map.1 hz'
      have := bounds_u8 (hwz n (List.mem_of_mem_take hn))
      omega
    · by_cases h0 : len = 0
      · exact .inl h0
      · obtain ⟨b, off, spot⟩ := y
        have hc0 := hcell 0 (by omega)
        have hspot : spot = none := by simpa [Addr.add] using World.cell?_spot hc0
        subst hspot
        refine .inr ⟨b, off, rfl, ?_, fun i hi => ?_⟩
        · rw [Addr.add_mid] at hc0
          exact World.block_lt_of_cell? W _ hc0
        · have hi' : i < zs.length := by omega
          have h1 := hcell i hi'
          rw [Addr.add_mid] at h1
          rw [h1]
          have hb := bounds_u8 (hwz zs[i] (List.getElem_mem hi'))
          simp [List.getElem?_eq_getElem hi', hi]
          omega

theorem cells22 : Tryd.prog.cellsOf 22 = 1 := by kernel_rfl

/-- A list of texts that came in. -/
theorem open_lists {H : Type} {enc : TypeId × Value → H} {W : World} {base : Nat} {v : Value} {x : DataW H} {p : List MemPlace} (hv : Value.okWide Tryd.prog W .any base 35 v) (h : ∃ fuel, DataW.trod enc Tryd.prog W 0 (fun _ => true) true fuel 35 v.cells.toList = some (x, p)) :
    ∃ a len cap ts, v = .slice a len cap ∧ IsLists W.heap.size W a len cap ts := by
  obtain ⟨a, len, cap, rfl⟩ := okWide_slice Tryd.underlying35 hv
  obtain ⟨fuel, hf⟩ := h
  rcases DataW.trod_slice Tryd.underlying35 hf with ⟨hcs, _⟩ | ⟨y, l, c, elems, rest, n, _, hcs, _, _, hl, _, hlen, hel, _, _⟩
  · simp [Value.cells] at hcs
    obtain ⟨rfl, rfl, rfl⟩ := hcs
    exact ⟨_, _, _, [], rfl, rfl, Nat.le_refl _, .inl rfl⟩
  · simp [Value.cells] at hcs
    obtain ⟨rfl, rfl, rfl⟩ := hcs
    have key : ∀ i, i < len → ∃ t q l c, W.cell? (y.add i) = some (.slice q l c) ∧ IsBytes W.heap.size W q l c t := by
      intro i hi
      have h0 := hel i hi
      rw [cells22, Nat.mul_one, List.getElem?_eq_getElem (by omega : i < elems.length)] at h0
      obtain ⟨cs, hc, ht⟩ := Option.bind_eq_some_iff.1 h0
      obtain ⟨a', l', c', zs, rfl, hI⟩ := bytes_of_trod ht
      exact ⟨zs, a', l', c', cell_of_cells?_one hc, hI⟩
    by_cases h0 : len = 0
    · subst h0
      exact ⟨_, _, _, [], rfl, rfl, hl, .inl rfl⟩
    · obtain ⟨b, off, spot⟩ := y
      obtain ⟨_, _, _, _, hc0, _⟩ := key 0 (by omega)
      have hspot : spot = none := by simpa [Addr.add] using World.cell?_spot hc0
      subst hspot
      rw [Addr.add_mid] at hc0
      obtain ⟨ts, htl, hts⟩ := lists_of (Q := fun i t => ∃ q l c, W.cell? ⟨b, off + i, none⟩ = some (.slice q l c) ∧ IsBytes W.heap.size W q l c t) len (fun i hi => by
        obtain ⟨t, q, l, c, h1, h2⟩ := key i hi
        rw [Addr.add_mid] at h1
        exact ⟨t, q, l, c, h1, h2⟩)
      exact ⟨_, _, _, ts, rfl, htl, hl, .inr ⟨b, off, rfl, World.block_lt_of_cell? W _ hc0, hts⟩⟩

/-- A running sum and bytes lie apart. -/
theorem But.keep {B : Nat} {w w' : World} {cs : List Nat} (h : But B w.heap.size w w') (hr : RunAt w B cs) {t : TypeId} (ht : t ≠ 63) : KeepT t w w' := fun k c fr hk => by
  obtain ⟨s, R, _, hrow⟩ := hr
  refine (h.block k (Array.getElem?_eq_some_iff.1 hk).1 (fun e => ?_)).trans hk
  subst e
  unfold Row at hrow
  rw [hk] at hrow
  cases hrow
  exact ht rfl
theorem RunAt.keep {A A' : World} (h : KeepT 63 A A') {B : Nat} {cs : List Nat} : RunAt A B cs → RunAt A' B cs
  | ⟨s, R, h1, h2⟩ => ⟨s, R, h1, h _ _ _ h2⟩

theorem flat_succ (ts : List (List Nat)) (k : Nat) (hk : k < ts.length) : (ts.take k).flatten ++ ts.getD k [] = (ts.take (k + 1)).flatten := by
  rw [List.take_succ_eq_append_getElem hk, List.flatten_append]
  simp [List.getElem?_eq_getElem hk]
end Go.Proofs.YtokjbldelpiejaaDoor
