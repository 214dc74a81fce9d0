/-
  What came in as an argument: fates, texts, bools.
-/
import Derived.Test.YthdfhbbfbohojaaArgs
import Derived.Test.YthdfhbbfbohojaaLk
import Derived.Deep.Grids
namespace Go.Proofs.Ythdfhbbfbohojaa
open Go.ChangeShapes Go.WideShapes Go.ChangeAt Go.RowKit

set_option maxRecDepth 100000 in
theorem list_of {α : Type} {d : α} {Q : Nat → α → Prop} : ∀ (n : Nat), (∀ i, i < n → ∃ t, Q i t) → ∃ ts : List α, ts.length = n ∧ ∀ i, i < n → Q i (ts.getD i d)
  | 0, _ => ⟨[], rfl, fun i hi => by omega⟩
  | n + 1, h => by
    obtain ⟨ts, hl, ht⟩ := list_of n (fun i hi => h i (by omega))
    obtain ⟨t, hq⟩ := h n (by omega)
    refine ⟨ts ++ [t], by simp [hl], fun i hi => ?_⟩
    by_cases h1 : i < n
    · rw [show (ts ++ [t]).getD i d = ts.getD i d by simp [List.getElem?_append_left (show i < ts.length by omega)]]
      exact ht i h1
    · obtain rfl : i = n := by omega
      rw [show (ts ++ [t]).getD i d = t by simp [← hl]]
      exact hq
theorem spot_of_cells {W : World} {base b off n : Nat} {spot : Option Nat} {cs : List Value} (h : W.cells? base ((⟨b, off, spot⟩ : Addr).add 0) n = some cs) (hn : 0 < n) : spot = none := by
  obtain ⟨_, hl, hc⟩ := World.cells?_some h
  have hc0 := hc 0 hn
  rw [List.getElem?_eq_getElem (by omega : 0 < cs.length)] at hc0
  simpa [Addr.add] using World.cell?_spot hc0
theorem range_of_cells {W : World} {base b off n k : Nat} {cs : List Value} (h : W.cells? base ((⟨b, off, none⟩ : Addr).add k) n = some cs) (hn : 0 < n) : b < W.heap.size ∧ W.rangeAt b (off + k) cs := by
  obtain ⟨_, hl, hc⟩ := World.cells?_some h
  have hc0 := hc 0 hn
  rw [List.getElem?_eq_getElem (by omega : 0 < cs.length), Addr.add_mid, Addr.add_mid] at hc0
  refine ⟨World.block_lt_of_cell? W _ hc0, fun j v hv => ?_⟩
  have hj : j < n := by
    rcases Nat.lt_or_ge j cs.length with h | h
    · omega
    · rw [List.getElem?_eq_none h] at hv; cases hv
  have := hc j hj
  rw [Addr.add_mid, Addr.add_mid] at this
  rw [this, hv]

set_option maxRecDepth 100000 in
theorem cr_of_trod {H : Type} {enc : TypeId × Value → H} {W : World} {fuel : Nat} {cs : List Value} {x : DataW H × List MemPlace} (hf : DataW.trod enc Try.prog W 0 (fun _ => true) true fuel 47 cs = some x) :
    ∃ c : Int × Int, cs = [.int .i64 c.1, .int .i64 c.2] := by
  have c3 : Try.prog.cellsOf 3 = 1 := by kernel_rfl
  have c47 : Try.prog.cellsOf 47 = 2 := by kernel_rfl
  obtain ⟨xs, n, _, _, hlen, hn, hel⟩ := DataW.trod_struct Try.underlying47 hf
  have hn : xs.length = 2 := hn
  rw [c47] at hlen
  have h0 : DataW.trod enc Try.prog W 0 (fun _ => true) true n 3 ((cs.drop 0).take (Try.prog.cellsOf 3)) = xs[0]? := hel 0 _ rfl
  rw [c3, List.getElem?_eq_getElem (by omega)] at h0
  have h1 : DataW.trod enc Try.prog W 0 (fun _ => true) true n 3 ((cs.drop 1).take (Try.prog.cellsOf 3)) = xs[1]? := hel 1 _ rfl
  rw [c3, List.getElem?_eq_getElem (by omega)] at h1
  obtain ⟨z0, e0, _, w0⟩ := DataW.trod_int Try.underlying3 h0
  obtain ⟨z1, e1, _, w1⟩ := DataW.trod_int Try.underlying3 h1
  have cut : ∀ k m, cs.drop k = (cs.drop k).take m ++ cs.drop (k + m) := fun k m => by
    rw [← List.drop_drop, List.take_append_drop]
  refine ⟨(z0, z1), ?_⟩
  have f : cs = cs.drop 0 := rfl
  rw [f, cut 0 1, e0, cut (0 + 1) 1, e1, List.drop_of_length_le (by omega)]
  rfl
theorem range_fC {W : World} {b : Nat} : ∀ (cr : List (Int × Int)) (off : Nat), (∀ i, i < cr.length → W.rangeAt b (off + i * 2) [.int .i64 (cr.getD i (0, 0)).1, .int .i64 (cr.getD i (0, 0)).2]) → W.rangeAt b off (cr.flatMap fC)
  | [], _, _ => fun j v hj => by simp at hj
  | c :: r, off, h => fun j v hj => by
    have h0 := h 0 (by simp)
    have ih := range_fC r (off + 2) (fun i hi => by
      have := h (i + 1) (by simp only [List.length_cons]; omega)
      rw [show off + 2 + i * 2 = off + (i + 1) * 2 by omega]
      simpa using this)
    match j, hj with
    | 0, hj => exact h0 0 v (by simpa [fC] using hj)
    | 1, hj => exact h0 1 v (by simpa [fC] using hj)
    | j + 2, hj =>
      have := ih j v (by simpa [fC] using hj)
      rw [show off + (j + 2) = off + 2 + j by omega]
      exact this
set_option maxRecDepth 100000 in
theorem open_fates {H : Type} {enc : TypeId × Value → H} {W : World} {base : Nat} {v : Value} {x : DataW H} {p : List MemPlace} (hv : Value.okWide Try.prog W .any base 22 v) (h : ∃ fuel, DataW.trod enc Try.prog W 0 (fun _ => true) true fuel 22 v.cells.toList = some (x, p)) :
    ∃ cr, FatesAt W.heap.size W v cr := by
  obtain ⟨a, len, cap, rfl⟩ := okWide_slice Try.underlying22 hv
  obtain ⟨fuel, hf⟩ := h
  have c5 : Try.prog.cellsOf 47 = 2 := by kernel_rfl
  rcases DataW.trod_slice Try.underlying22 hf with ⟨hcs, _⟩ | ⟨y, l, c, elems, rest, n, _, hcs, _, _, hl, hm, hlen, hel, _, _⟩
  · simp [Value.cells] at hcs
    obtain ⟨rfl, rfl, rfl⟩ := hcs
    exact ⟨[], _, _, rfl, Nat.le_refl _, by omega, .inl rfl⟩
  · simp [Value.cells] at hcs
    obtain ⟨rfl, rfl, rfl⟩ := hcs
    by_cases h0 : len = 0
    · subst h0
      exact ⟨[], _, _, rfl, hl, by simpa only [maxLen] using hm, .inl rfl⟩
    · obtain ⟨b, off, spot⟩ := y
      have hsp : spot = none := by
        have h1 := hel 0 (by omega)
        rw [c5, List.getElem?_eq_getElem (by omega : 0 < elems.length), Nat.zero_mul] at h1
        obtain ⟨cs', hc, _⟩ := Option.bind_eq_some_iff.1 h1
        exact spot_of_cells hc (by omega)
      subst hsp
      have key : ∀ i, i < len → ∃ t : Int × Int, b < W.heap.size ∧ W.rangeAt b (off + i * 2) [.int .i64 t.1, .int .i64 t.2] := by
        intro i hi
        have h0 := hel i hi
        rw [c5, List.getElem?_eq_getElem (by omega : i < elems.length)] at h0
        obtain ⟨cs', hc, ht⟩ := Option.bind_eq_some_iff.1 h0
        obtain ⟨t, rfl⟩ := cr_of_trod ht
        obtain ⟨r2, r3⟩ := range_of_cells hc (by omega)
        exact ⟨t, r2, r3⟩
      obtain ⟨_, hb, _⟩ := key 0 (by omega)
      obtain ⟨ts, htl, hts⟩ := list_of (d := (0, 0)) len key
      exact ⟨ts, _, cap, by rw [htl], by omega, by simpa only [maxLen] using hm, .inr ⟨b, off, rfl, hb, .inl hb, range_fC ts off (fun i hi => (hts i (by omega)).2)⟩⟩

/-- A list of bytes, as it is read. -/
def WantAt (W : World) (q : Option Addr) (len cap : Nat) (want : List (List Nat)) : Prop :=
  want.length = len ∧ len ≤ cap ∧ cap ≤ 9223372036854775807 ∧ (∀ z ∈ want, ∀ y ∈ z, y < 256) ∧ (len = 0 ∨ ∃ b off, q = some ⟨b, off, none⟩ ∧ b < W.heap.size ∧ ∀ i, i < len → ∃ qx lx cx, W.cell? ⟨b, off + i, none⟩ = some (.slice qx lx cx) ∧ IsBytes W.heap.size W qx lx cx (want.getD i []))
theorem WantAt.later {W W' : World} {q : Option Addr} {len cap : Nat} {want : List (List Nat)} (h : WantAt W q len cap want) (hb : Below W.heap.size W W') : WantAt W' q len cap want := by
  obtain ⟨h1, h2, h3, h3', h4⟩ := h
  refine ⟨h1, h2, h3, h3', ?_⟩
  rcases h4 with h | ⟨b, off, e, hlt, hc⟩
  · exact .inl h
  · refine .inr ⟨b, off, e, Nat.lt_of_lt_of_le hlt hb.size, fun i hi => ?_⟩
    obtain ⟨qx, lx, cx, e1, e2⟩ := hc i hi
    exact ⟨qx, lx, cx, (hb.cell (p := ⟨b, off + i, none⟩) hlt).trans e1, e2.later hb⟩
theorem bytesS_of_trod {H : Type} {enc : TypeId × Value → H} {W : World} {fuel : Nat} {cs : List Value} {x : DataW H × List MemPlace} (hf : DataW.trod enc Try.prog W 0 (fun _ => true) true fuel 32 cs = some x) :
    ∃ a len cap zs, cs = [.slice a len cap] ∧ IsBytes W.heap.size W a len cap zs := by
  rcases open_ints Try.underlying32 Try.underlying5 (by kernel_rfl) hf with ⟨hcs, _⟩ | ⟨y, len, cap, zs, hcs, _, hl, hm, hz, _, hcell, hwz⟩
  · exact ⟨_, _, _, [], hcs, rfl, Nat.le_refl _, by omega, by simp, .inl rfl⟩
  · have hz' : zs.length = cap := by simpa using hz
    refine ⟨_, _, _, (zs.take len).map Int.toNat, hcs, by simp; omega, hl, by simpa only [maxLen] using hm, ?_, ?_⟩
    · intro z hz'
      obtain ⟨n, hn, rfl⟩ := List.mem_map.1 hz'
      have := bounds_u8 (hwz n (List.mem_of_mem_take hn))
      omega
    · by_cases h0 : len = 0
      · exact .inl h0
      · obtain ⟨b, off, spot⟩ := y
        have hc0 := hcell 0 (by omega)
        have hspot : spot = none := by simpa [Addr.add] using World.cell?_spot hc0
        subst hspot
        refine .inr ⟨b, off, rfl, ?_, fun i hi => ?_⟩
        · rw [Addr.add_mid] at hc0
          exact World.block_lt_of_cell? W _ hc0
        · have hi' : i < zs.length := by omega
          have h1 := hcell i hi'
          rw [Addr.add_mid] at h1
          rw [h1]
          have hb := bounds_u8 (hwz zs[i] (List.getElem_mem hi'))
          simp [List.getElem?_eq_getElem hi', hi]
          omega

theorem cells32 : Try.prog.cellsOf 32 = 1 := by kernel_rfl
/-- A list of records that came in. -/
theorem open_recs {H : Type} {enc : TypeId × Value → H} {W : World} {base : Nat} {v : Value} {x : DataW H} {p : List MemPlace} (hv : Value.okWide Try.prog W .any base 23 v) (h : ∃ fuel, DataW.trod enc Try.prog W 0 (fun _ => true) true fuel 23 v.cells.toList = some (x, p)) :
    ∃ a len cap ts, v = .slice a len cap ∧ WantAt W a len cap ts := by
  obtain ⟨a, len, cap, rfl⟩ := okWide_slice Try.underlying23 hv
  obtain ⟨fuel, hf⟩ := h
  rcases DataW.trod_slice Try.underlying23 hf with ⟨hcs, _⟩ | ⟨y, l, c, elems, rest, n, _, hcs, _, _, hl, hm, hlen, hel, _, _⟩
  · simp [Value.cells] at hcs
    obtain ⟨rfl, rfl, rfl⟩ := hcs
    exact ⟨_, _, _, [], rfl, rfl, Nat.le_refl _, by omega, by simp, .inl rfl⟩
  · simp [Value.cells] at hcs
    obtain ⟨rfl, rfl, rfl⟩ := hcs
    have hm' : cap ≤ 9223372036854775807 := by simpa only [maxLen] using hm
    have key : ∀ i, i < len → ∃ t q l c, W.cell? (y.add i) = some (.slice q l c) ∧ IsBytes W.heap.size W q l c t := by
      intro i hi
      have h0 := hel i hi
      rw [cells32, Nat.mul_one, List.getElem?_eq_getElem (by omega : i < elems.length)] at h0
      obtain ⟨cs, hc, ht⟩ := Option.bind_eq_some_iff.1 h0
      obtain ⟨a', l', c', zs, rfl, hI⟩ := bytesS_of_trod ht
      exact ⟨zs, a', l', c', cell_of_cells?_one hc, hI⟩
    by_cases h0 : len = 0
    · subst h0
      exact ⟨_, _, _, [], rfl, rfl, hl, hm', by simp, .inl rfl⟩
    · obtain ⟨b, off, spot⟩ := y
      obtain ⟨_, _, _, _, hc0, _⟩ := key 0 (by omega)
      have hspot : spot = none := by simpa [Addr.add] using World.cell?_spot hc0
      subst hspot
      rw [Addr.add_mid] at hc0
      obtain ⟨ts, htl, hts⟩ := list_of (d := []) (Q := fun i t => ∃ q l c, W.cell? ⟨b, off + i, none⟩ = some (.slice q l c) ∧ IsBytes W.heap.size W q l c t) len (fun i hi => by
        obtain ⟨t, q, l, c, h1, h2⟩ := key i hi
        rw [Addr.add_mid] at h1
        exact ⟨t, q, l, c, h1, h2⟩)
      refine ⟨_, _, _, ts, rfl, htl, hl, hm', fun z hz => ?_, .inr ⟨b, off, rfl, World.block_lt_of_cell? W _ hc0, hts⟩⟩
      obtain ⟨i, hi, e⟩ := List.getElem_of_mem hz
      obtain ⟨_, _, _, _, hI⟩ := hts i (by omega)
      rw [List.getD_eq_getElem?_getD, List.getElem?_eq_getElem hi, Option.getD_some, e] at hI
      exact hI.2.2.2.1
/-- A list of bools, as it is read. -/
def BoolsAt (W : World) (q : Option Addr) (len cap : Nat) (bs : List Bool) : Prop :=
  bs.length = len ∧ len ≤ cap ∧ cap ≤ 9223372036854775807 ∧ (len = 0 ∨ ∃ b off, q = some ⟨b, off, none⟩ ∧ b < W.heap.size ∧ ∀ i, i < len → W.cell? ⟨b, off + i, none⟩ = some (.bool (bs.getD i false)))
theorem open_boolsL {H : Type} {enc : TypeId × Value → H} {W : World} {base : Nat} {v : Value} {x : DataW H} {p : List MemPlace} (hv : Value.okWide Try.prog W .any base 24 v) (h : ∃ fuel, DataW.trod enc Try.prog W 0 (fun _ => true) true fuel 24 v.cells.toList = some (x, p)) :
    ∃ a len cap bs, v = .slice a len cap ∧ BoolsAt W a len cap bs := by
  obtain ⟨a, len, cap, rfl⟩ := okWide_slice Try.underlying24 hv
  obtain ⟨fuel, hf⟩ := h
  rcases Go.Deep.open_bools Try.underlying24 Try.underlying4 (by kernel_rfl) hf with ⟨hcs, _⟩ | ⟨y, l, c, B, hcs, _, hl, hm, _, hc⟩
  · simp [Value.cells] at hcs
    obtain ⟨rfl, rfl, rfl⟩ := hcs
    exact ⟨_, _, _, [], rfl, rfl, Nat.le_refl _, by omega, .inl rfl⟩
  · simp [Value.cells] at hcs
    obtain ⟨rfl, rfl, rfl⟩ := hcs
    have hm' : cap ≤ 9223372036854775807 := by simpa only [maxLen] using hm
    by_cases h0 : len = 0
    · subst h0
      exact ⟨_, _, _, [], rfl, rfl, hl, hm', .inl rfl⟩
    · obtain ⟨b, off, spot⟩ := y
      have hc0 := hc 0 (by omega)
      have hspot : spot = none := by simpa [Addr.add] using World.cell?_spot hc0
      subst hspot
      rw [Addr.add_mid] at hc0
      refine ⟨_, _, _, (List.range len).map B, rfl, by simp, hl, hm', .inr ⟨b, off, rfl, World.block_lt_of_cell? W _ hc0, fun i hi => ?_⟩⟩
      have := hc i (by omega)
      rw [Addr.add_mid] at this
      rw [this]
      simp [List.getD_eq_getElem?_getD, hi]
end Go.Proofs.Ythdfhbbfbohojaa
