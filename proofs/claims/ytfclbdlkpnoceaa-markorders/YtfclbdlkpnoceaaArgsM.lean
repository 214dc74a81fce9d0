/-
  What came in as an argument: a commit, a list of commits.
-/
import Derived.Test.YtfclbdlkpnoceaaArgs
import Derived.Test.YtfclbdlkpnoceaaObj
namespace Go.Proofs.Ytfclbdlkpnoceaa
open Go.ChangeShapes Go.WideShapes Go.ChangeAt Go.RowKit


set_option maxRecDepth 100000 in
theorem nums_of {f : Nat → Value} {N : Nat} : ∀ {L : List Value}, (∀ v ∈ L, ∃ n : Nat, v = f n ∧ n < N) → ∃ l : List Nat, L = l.map f ∧ (∀ z ∈ l, z < N)
  | [], _ => ⟨[], rfl, fun z hz => by cases hz⟩
  | v :: L, h => by
    obtain ⟨n, rfl, hn⟩ := h v (by simp)
    obtain ⟨l, rfl, hl⟩ := nums_of (L := L) (fun u hu => h u (by simp [hu]))
    exact ⟨n :: l, rfl, fun z hz => by
      rcases List.mem_cons.1 hz with rfl | hz
      · exact hn
      · exact hl z hz⟩
set_option maxRecDepth 100000 in
theorem list_of {α : Type} {d : α} {Q : Nat → α → Prop} : ∀ (n : Nat), (∀ i, i < n → ∃ t, Q i t) → ∃ ts : List α, ts.length = n ∧ ∀ i, i < n → Q i (ts.getD i d)
  | 0, _ => ⟨[], rfl, fun i hi => by omega⟩
  | n + 1, h => by
    obtain ⟨ts, hl, ht⟩ := list_of n (fun i hi => h i (by omega))
    obtain ⟨t, hq⟩ := h n (by omega)
    refine ⟨ts ++ [t], by simp [hl], fun i hi => ?_⟩
    by_cases h1 : i < n
    · rw [show (ts ++ [t]).getD i d = ts.getD i d by simp [List.getElem?_append_left (show i < ts.length by omega)]]
      exact ht i h1
    · obtain rfl : i = n := by omega
      rw [show (ts ++ [t]).getD i d = t by simp [← hl]]
      exact hq
theorem mem_getD {α : Type} {d : α} {ts : List α} {P : α → Prop} (h : ∀ i, i < ts.length → P (ts.getD i d)) : ∀ x ∈ ts, P x := fun x hx => by
  obtain ⟨i, hi, rfl⟩ := List.getElem_of_mem hx
  have := h i hi
  rwa [List.getD_eq_getElem?_getD, List.getElem?_eq_getElem hi, Option.getD_some] at this
theorem spot_of_cells {W : World} {base b off n : Nat} {spot : Option Nat} {cs : List Value} (h : W.cells? base ((⟨b, off, spot⟩ : Addr).add 0) n = some cs) (hn : 0 < n) : spot = none := by
  obtain ⟨_, hl, hc⟩ := World.cells?_some h
  have hc0 := hc 0 hn
  rw [List.getElem?_eq_getElem (by omega : 0 < cs.length)] at hc0
  simpa [Addr.add] using World.cell?_spot hc0
theorem range_of_cells {W : World} {base b off n k : Nat} {cs : List Value} (h : W.cells? base ((⟨b, off, none⟩ : Addr).add k) n = some cs) (hn : 0 < n) : b < W.heap.size ∧ W.rangeAt b (off + k) cs := by
  obtain ⟨_, hl, hc⟩ := World.cells?_some h
  have hc0 := hc 0 hn
  rw [List.getElem?_eq_getElem (by omega : 0 < cs.length), Addr.add_mid, Addr.add_mid] at hc0
  refine ⟨World.block_lt_of_cell? W _ hc0, fun j v hv => ?_⟩
  have hj : j < n := by
    rcases Nat.lt_or_ge j cs.length with h | h
    · omega
    · rw [List.getElem?_eq_none h] at hv; cases hv
  have := hc j hj
  rw [Addr.add_mid, Addr.add_mid] at this
  rw [this, hv]

set_option maxRecDepth 100000 in
/-- 32 bytes, as they are read. -/
theorem arr_of_trod {H : Type} {enc : TypeId × Value → H} {W : World} {fuel : Nat} {T : TypeId} {cs : List Value} {x : DataW H × List MemPlace} (hu : Try.prog.underlying T = some (.array 32 5)) (hc32 : Try.prog.cellsOf T = 32) (hf : DataW.trod enc Try.prog W 0 (fun _ => true) true fuel T cs = some x) :
    ∃ l : List Nat, cs = u8s l ∧ IsId l := by
  have hc5 : Try.prog.cellsOf 5 = 1 := by kernel_rfl
  obtain ⟨xs, m1, _, _, hlen, hn, hel⟩ := DataW.trod_array hu hf
  rw [hc32] at hlen
  have key : ∀ u ∈ cs, ∃ m : Nat, u = .int .u8 (m : Nat) ∧ m < 256 := by
    intro u hu
    obtain ⟨i, hi, rfl⟩ := List.mem_iff_getElem.1 hu
    have h0 := hel i (by omega)
    rw [hc5, Nat.mul_one, List.getElem?_eq_getElem (by omega : i < xs.length)] at h0
    obtain ⟨z, e1, e2, hw⟩ := DataW.trod_int Try.underlying5 h0
    have hci := congrArg (fun l => l[0]?) e1
    simp only [List.getElem?_take, List.getElem?_drop, Nat.add_zero, List.getElem?_eq_getElem hi] at hci
    have hb := bounds_u8 hw
    refine ⟨z.toNat, ?_, by omega⟩
    rw [show ((z.toNat : Nat) : Int) = z by omega]
    simpa using hci
  obtain ⟨l, hl, hz⟩ := nums_of (f := fun z => .int .u8 (z : Nat)) key
  refine ⟨l, hl, ?_, hz⟩
  rw [← hlen, hl, List.length_map]

set_option maxRecDepth 100000 in
/-- A slice of ids, as it is read. -/
theorem ids_of_trod {H : Type} {enc : TypeId × Value → H} {W : World} {fuel : Nat} {cs : List Value} {x : DataW H × List MemPlace} (hf : DataW.trod enc Try.prog W 0 (fun _ => true) true fuel 23 cs = some x) :
    ∃ a len cap ids, cs = [.slice a len cap] ∧ IsIds W.heap.size W a len cap ids := by
  have hc32 : Try.prog.cellsOf 33 = 32 := by kernel_rfl
  rcases DataW.trod_slice Try.underlying23 hf with ⟨hcs, _⟩ | ⟨y, len, cap, elems, rest, n, _, hcs, _, _, hl, hm, hlen, hel, _, _⟩
  · exact ⟨_, _, _, [], hcs, rfl, Nat.le_refl _, by omega, by simp, .inl rfl⟩
  · by_cases h0 : len = 0
    · subst h0
      exact ⟨_, _, _, [], hcs, rfl, hl, by simpa only [maxLen] using hm, by simp, .inl rfl⟩
    · obtain ⟨b, off, spot⟩ := y
      have hsp : spot = none := by
        have h1 := hel 0 (by omega)
        rw [hc32, List.getElem?_eq_getElem (by omega : 0 < elems.length), Nat.zero_mul] at h1
        obtain ⟨cs', hc, _⟩ := Option.bind_eq_some_iff.1 h1
        exact spot_of_cells hc (by omega)
      subst hsp
      have key : ∀ i, i < len → ∃ t : List Nat, b < W.heap.size ∧ W.rangeAt b (off + i * 32) (u8s t) ∧ t.length = 32 ∧ ∀ z ∈ t, z < 256 := by
        intro i hi
        have h0 := hel i hi
        rw [hc32, List.getElem?_eq_getElem (by omega : i < elems.length)] at h0
        obtain ⟨cs', hc, ht⟩ := Option.bind_eq_some_iff.1 h0
        obtain ⟨t, rfl, h2, h3⟩ := arr_of_trod Try.underlying33 hc32 ht
        obtain ⟨r2, r3⟩ := range_of_cells hc (by omega)
        exact ⟨t, r2, r3, h2, h3⟩
      obtain ⟨_, hb, _⟩ := key 0 (by omega)
      obtain ⟨ts, htl, hts⟩ := list_of (d := []) len key
      exact ⟨_, _, _, ts, hcs, htl, hl, by simpa only [maxLen] using hm, mem_getD (d := []) (fun i hi => (hts i (by omega)).2.2), .inr ⟨b, off, rfl, hb, fun i hi => (hts i hi).2.1⟩⟩


set_option maxRecDepth 100000 in
/-- An object, as it is read. -/
theorem obj_of_trod {H : Type} {enc : TypeId × Value → H} {W : World} {fuel : Nat} {cs : List Value} {x : DataW H × List MemPlace} (hf : DataW.trod enc Try.prog W 0 (fun _ => true) true fuel 46 cs = some x) :
    ∃ o : O, cs = objC o ∧ o.ok ∧ IsIds W.heap.size W o.q o.n o.c o.links := by
  have c33 : Try.prog.cellsOf 33 = 32 := by kernel_rfl
  have c23 : Try.prog.cellsOf 23 = 1 := by kernel_rfl
  have c3 : Try.prog.cellsOf 3 = 1 := by kernel_rfl
  have c46 : Try.prog.cellsOf 46 = 34 := by kernel_rfl
  obtain ⟨xs, n, _, _, hlen, hn, hel⟩ := DataW.trod_struct Try.underlying46 hf
  have hn : xs.length = 3 := hn
  rw [c46] at hlen
  have h0 : DataW.trod enc Try.prog W 0 (fun _ => true) true n 33 ((cs.drop 0).take (Try.prog.cellsOf 33)) = xs[0]? := hel 0 _ rfl
  rw [c33, List.getElem?_eq_getElem (by omega)] at h0
  have h1 : DataW.trod enc Try.prog W 0 (fun _ => true) true n 23 ((cs.drop 32).take (Try.prog.cellsOf 23)) = xs[1]? := hel 1 _ rfl
  rw [c23, List.getElem?_eq_getElem (by omega)] at h1
  have h2 : DataW.trod enc Try.prog W 0 (fun _ => true) true n 3 ((cs.drop 33).take (Try.prog.cellsOf 3)) = xs[2]? := hel 2 _ rfl
  rw [c3, List.getElem?_eq_getElem (by omega)] at h2
  obtain ⟨id, e0, i0⟩ := arr_of_trod Try.underlying33 c33 h0
  obtain ⟨a, len, cap, ids, e1, hI⟩ := ids_of_trod h1
  obtain ⟨z2, e2, _, w2⟩ := DataW.trod_int Try.underlying3 h2
  have cut : ∀ k m, cs.drop k = (cs.drop k).take m ++ cs.drop (k + m) := fun k m => by
    rw [← List.drop_drop, List.take_append_drop]
  refine ⟨⟨id, a, len, cap, ids, z2⟩, ?_, ⟨i0, bounds_i64 w2⟩, hI⟩
  have f : cs = cs.drop 0 := rfl
  rw [f, cut 0 32, e0, cut (0 + 32) 1, e1, cut (0 + 32 + 1) 1, e2, List.drop_of_length_le (by omega)]
  rfl

set_option maxRecDepth 100000 in
/-- A list of ids that came in; a list of objects that came in. -/
theorem open_ids {H : Type} {enc : TypeId × Value → H} {W : World} {base : Nat} {v : Value} {x : DataW H} {p : List MemPlace} (_hv : Value.okWide Try.prog W .any base 23 v) (h : ∃ fuel, DataW.trod enc Try.prog W 0 (fun _ => true) true fuel 23 v.cells.toList = some (x, p)) :
    ∃ a len cap ids, v = .slice a len cap ∧ IsIds W.heap.size W a len cap ids := by
  obtain ⟨a, len, cap, rfl⟩ := okWide_slice Try.underlying23 _hv
  obtain ⟨fuel, hf⟩ := h
  obtain ⟨a', l', c', ids, e, hI⟩ := ids_of_trod hf
  simp [Value.cells] at e
  obtain ⟨rfl, rfl, rfl⟩ := e
  exact ⟨_, _, _, ids, rfl, hI⟩
set_option maxRecDepth 100000 in
theorem open_objs {H : Type} {enc : TypeId × Value → H} {W : World} {base : Nat} {v : Value} {x : DataW H} {p : List MemPlace} (hv : Value.okWide Try.prog W .any base 22 v) (h : ∃ fuel, DataW.trod enc Try.prog W 0 (fun _ => true) true fuel 22 v.cells.toList = some (x, p)) :
    ∃ a len cap l, v = .slice a len cap ∧ IsObjs W.heap.size W a len cap l := by
  obtain ⟨a, len, cap, rfl⟩ := okWide_slice Try.underlying22 hv
  obtain ⟨fuel, hf⟩ := h
  have c5 : Try.prog.cellsOf 46 = 34 := by kernel_rfl
  rcases DataW.trod_slice Try.underlying22 hf with ⟨hcs, _⟩ | ⟨y, l, c, elems, rest, n, _, hcs, _, _, hl, hm, hlen, hel, _, _⟩
  · simp [Value.cells] at hcs
    obtain ⟨rfl, rfl, rfl⟩ := hcs
    exact ⟨_, _, _, [], rfl, rfl, Nat.le_refl _, by omega, by simp, by simp, .inl rfl⟩
  · simp [Value.cells] at hcs
    obtain ⟨rfl, rfl, rfl⟩ := hcs
    by_cases h0 : len = 0
    · subst h0
      exact ⟨_, _, _, [], rfl, rfl, hl, by simpa only [maxLen] using hm, by simp, by simp, .inl rfl⟩
    · obtain ⟨b, off, spot⟩ := y
      have hsp : spot = none := by
        have h1 := hel 0 (by omega)
        rw [c5, List.getElem?_eq_getElem (by omega : 0 < elems.length), Nat.zero_mul] at h1
        obtain ⟨cs', hc, _⟩ := Option.bind_eq_some_iff.1 h1
        exact spot_of_cells hc (by omega)
      subst hsp
      have key : ∀ i, i < len → ∃ t : O, b < W.heap.size ∧ W.rangeAt b (off + i * 34) (objC t) ∧ t.ok ∧ IsIds W.heap.size W t.q t.n t.c t.links := by
        intro i hi
        have h0 := hel i hi
        rw [c5, List.getElem?_eq_getElem (by omega : i < elems.length)] at h0
        obtain ⟨cs', hc, ht⟩ := Option.bind_eq_some_iff.1 h0
        obtain ⟨t, rfl, h2, h3⟩ := obj_of_trod ht
        obtain ⟨r2, r3⟩ := range_of_cells hc (by omega)
        exact ⟨t, r2, r3, h2, h3⟩
      obtain ⟨_, hb, _⟩ := key 0 (by omega)
      obtain ⟨ts, htl, hts⟩ := list_of (d := noO) len key
      exact ⟨_, _, _, ts, rfl, htl, hl, by simpa only [maxLen] using hm, mem_getD (d := noO) (fun i hi => (hts i (by omega)).2.2.1), mem_getD (d := noO) (fun i hi => (hts i (by omega)).2.2.2), .inr ⟨b, off, rfl, hb, fun i hi => (hts i hi).2.1⟩⟩
end Go.Proofs.Ytfclbdlkpnoceaa
