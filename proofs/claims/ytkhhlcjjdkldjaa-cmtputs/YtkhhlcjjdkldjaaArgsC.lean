/-
  What came in as an argument: a commit, a list of commits.
-/
import Derived.Test.YtkhhlcjjdkldjaaArgs
import Derived.Test.YtkhhlcjjdkldjaaCmt
namespace Go.Proofs.Ytkhhlcjjdkldjaa
open Go.ChangeShapes Go.WideShapes Go.ChangeAt Go.RowKit


set_option maxRecDepth 100000 in
theorem nums_of {f : Nat → Value} {N : Nat} : ∀ {L : List Value}, (∀ v ∈ L, ∃ n : Nat, v = f n ∧ n < N) → ∃ l : List Nat, L = l.map f ∧ (∀ z ∈ l, z < N)
  | [], _ => ⟨[], rfl, fun z hz => by cases hz⟩
  | v :: L, h => by
    obtain ⟨n, rfl, hn⟩ := h v (by simp)
    obtain ⟨l, rfl, hl⟩ := nums_of (L := L) (fun u hu => h u (by simp [hu]))
    exact ⟨n :: l, rfl, fun z hz => by
      rcases List.mem_cons.1 hz with rfl | hz
      · exact hn
      · exact hl z hz⟩
set_option maxRecDepth 100000 in
theorem list_of {α : Type} {d : α} {Q : Nat → α → Prop} : ∀ (n : Nat), (∀ i, i < n → ∃ t, Q i t) → ∃ ts : List α, ts.length = n ∧ ∀ i, i < n → Q i (ts.getD i d)
  | 0, _ => ⟨[], rfl, fun i hi => by omega⟩
  | n + 1, h => by
    obtain ⟨ts, hl, ht⟩ := list_of n (fun i hi => h i (by omega))
    obtain ⟨t, hq⟩ := h n (by omega)
    refine ⟨ts ++ [t], by simp [hl], fun i hi => ?_⟩
    by_cases h1 : i < n
    · rw [show (ts ++ [t]).getD i d = ts.getD i d by simp [List.getElem?_append_left (show i < ts.length by omega)]]
      exact ht i h1
    · obtain rfl : i = n := by omega
      rw [show (ts ++ [t]).getD i d = t by simp [← hl]]
      exact hq
theorem mem_getD {α : Type} {d : α} {ts : List α} {P : α → Prop} (h : ∀ i, i < ts.length → P (ts.getD i d)) : ∀ x ∈ ts, P x := fun x hx => by
  obtain ⟨i, hi, rfl⟩ := List.getElem_of_mem hx
  have := h i hi
  rwa [List.getD_eq_getElem?_getD, List.getElem?_eq_getElem hi, Option.getD_some] at this
theorem spot_of_cells {W : World} {base b off n : Nat} {spot : Option Nat} {cs : List Value} (h : W.cells? base ((⟨b, off, spot⟩ : Addr).add 0) n = some cs) (hn : 0 < n) : spot = none := by
  obtain ⟨_, hl, hc⟩ := World.cells?_some h
  have hc0 := hc 0 hn
  rw [List.getElem?_eq_getElem (by omega : 0 < cs.length)] at hc0
  simpa [Addr.add] using World.cell?_spot hc0
theorem range_of_cells {W : World} {base b off n k : Nat} {cs : List Value} (h : W.cells? base ((⟨b, off, none⟩ : Addr).add k) n = some cs) (hn : 0 < n) : b < W.heap.size ∧ W.rangeAt b (off + k) cs := by
  obtain ⟨_, hl, hc⟩ := World.cells?_some h
  have hc0 := hc 0 hn
  rw [List.getElem?_eq_getElem (by omega : 0 < cs.length), Addr.add_mid, Addr.add_mid] at hc0
  refine ⟨World.block_lt_of_cell? W _ hc0, fun j v hv => ?_⟩
  have hj : j < n := by
    rcases Nat.lt_or_ge j cs.length with h | h
    · omega
    · rw [List.getElem?_eq_none h] at hv; cases hv
  have := hc j hj
  rw [Addr.add_mid, Addr.add_mid] at this
  rw [this, hv]

set_option maxRecDepth 100000 in
/-- 32 bytes, as they are read. -/
theorem arr_of_trod {H : Type} {enc : TypeId × Value → H} {W : World} {fuel : Nat} {T : TypeId} {cs : List Value} {x : DataW H × List MemPlace} (hu : Try.prog.underlying T = some (.array 32 5)) (hc32 : Try.prog.cellsOf T = 32) (hf : DataW.trod enc Try.prog W 0 (fun _ => true) true fuel T cs = some x) :
    ∃ l : List Nat, cs = u8s l ∧ IsId l := by
  have hc5 : Try.prog.cellsOf 5 = 1 := by kernel_rfl
  obtain ⟨xs, m1, _, _, hlen, hn, hel⟩ := DataW.trod_array hu hf
  rw [hc32] at hlen
  have key : ∀ u ∈ cs, ∃ m : Nat, u = .int .u8 (m : Nat) ∧ m < 256 := by
    intro u hu
    obtain ⟨i, hi, rfl⟩ := List.mem_iff_getElem.1 hu
    have h0 := hel i (by omega)
    rw [hc5, Nat.mul_one, List.getElem?_eq_getElem (by omega : i < xs.length)] at h0
    obtain ⟨z, e1, e2, hw⟩ := DataW.trod_int Try.underlying5 h0
    have hci := congrArg (fun l => l[0]?) e1
    simp only [List.getElem?_take, List.getElem?_drop, Nat.add_zero, List.getElem?_eq_getElem hi] at hci
    have hb := bounds_u8 hw
    refine ⟨z.toNat, ?_, by omega⟩
    rw [show ((z.toNat : Nat) : Int) = z by omega]
    simpa using hci
  obtain ⟨l, hl, hz⟩ := nums_of (f := fun z => .int .u8 (z : Nat)) key
  refine ⟨l, hl, ?_, hz⟩
  rw [← hlen, hl, List.length_map]

set_option maxRecDepth 100000 in
/-- A slice of ids, as it is read. -/
theorem ids_of_trod {H : Type} {enc : TypeId × Value → H} {W : World} {fuel : Nat} {cs : List Value} {x : DataW H × List MemPlace} (hf : DataW.trod enc Try.prog W 0 (fun _ => true) true fuel 22 cs = some x) :
    ∃ a len cap ids, cs = [.slice a len cap] ∧ IsIds W.heap.size W a len cap ids := by
  have hc32 : Try.prog.cellsOf 24 = 32 := by kernel_rfl
  rcases DataW.trod_slice Try.underlying22 hf with ⟨hcs, _⟩ | ⟨y, len, cap, elems, rest, n, _, hcs, _, _, hl, hm, hlen, hel, _, _⟩
  · exact ⟨_, _, _, [], hcs, rfl, Nat.le_refl _, by omega, by simp, .inl rfl⟩
  · by_cases h0 : len = 0
    · subst h0
      exact ⟨_, _, _, [], hcs, rfl, hl, by simpa only [maxLen] using hm, by simp, .inl rfl⟩
    · obtain ⟨b, off, spot⟩ := y
      have hsp : spot = none := by
        have h1 := hel 0 (by omega)
        rw [hc32, List.getElem?_eq_getElem (by omega : 0 < elems.length), Nat.zero_mul] at h1
        obtain ⟨cs', hc, _⟩ := Option.bind_eq_some_iff.1 h1
        exact spot_of_cells hc (by omega)
      subst hsp
      have key : ∀ i, i < len → ∃ t : List Nat, b < W.heap.size ∧ W.rangeAt b (off + i * 32) (u8s t) ∧ t.length = 32 ∧ ∀ z ∈ t, z < 256 := by
        intro i hi
        have h0 := hel i hi
        rw [hc32, List.getElem?_eq_getElem (by omega : i < elems.length)] at h0
        obtain ⟨cs', hc, ht⟩ := Option.bind_eq_some_iff.1 h0
        obtain ⟨t, rfl, h2, h3⟩ := arr_of_trod Try.underlying24 hc32 ht
        obtain ⟨r2, r3⟩ := range_of_cells hc (by omega)
        exact ⟨t, r2, r3, h2, h3⟩
      obtain ⟨_, hb, _⟩ := key 0 (by omega)
      obtain ⟨ts, htl, hts⟩ := list_of (d := []) len key
      exact ⟨_, _, _, ts, hcs, htl, hl, by simpa only [maxLen] using hm, mem_getD (d := []) (fun i hi => (hts i (by omega)).2.2), .inr ⟨b, off, rfl, hb, fun i hi => (hts i hi).2.1⟩⟩


set_option maxRecDepth 100000 in
/-- A commit, as it is read. -/
theorem cmt_of_trod {H : Type} {enc : TypeId × Value → H} {W : World} {fuel : Nat} {cs : List Value} {x : DataW H × List MemPlace} (hf : DataW.trod enc Try.prog W 0 (fun _ => true) true fuel 29 cs = some x) :
    ∃ (p : Option Addr) (len cap : Nat) (ids : List (List Nat)) (c : Cmt), cs = cmtC (.slice p len cap) c ∧ c.ok ∧ IsIds W.heap.size W p len cap ids := by
  have c22 : Try.prog.cellsOf 22 = 1 := by kernel_rfl
  have c24 : Try.prog.cellsOf 24 = 32 := by kernel_rfl
  have c25 : Try.prog.cellsOf 25 = 32 := by kernel_rfl
  have c9 : Try.prog.cellsOf 9 = 1 := by kernel_rfl
  have c26 : Try.prog.cellsOf 26 = 1 := by kernel_rfl
  have c27 : Try.prog.cellsOf 27 = 1 := by kernel_rfl
  have c29 : Try.prog.cellsOf 29 = 68 := by kernel_rfl
  obtain ⟨xs, n, _, _, hlen, hn, hel⟩ := DataW.trod_struct Try.underlying29 hf
  have hn : xs.length = 6 := hn
  rw [c29] at hlen
  have h0 : DataW.trod enc Try.prog W 0 (fun _ => true) true n 22 ((cs.drop 0).take (Try.prog.cellsOf 22)) = xs[0]? := hel 0 _ rfl
  rw [c22, List.getElem?_eq_getElem (by omega)] at h0
  have h1 : DataW.trod enc Try.prog W 0 (fun _ => true) true n 24 ((cs.drop 1).take (Try.prog.cellsOf 24)) = xs[1]? := hel 1 _ rfl
  rw [c24, List.getElem?_eq_getElem (by omega)] at h1
  have h2 : DataW.trod enc Try.prog W 0 (fun _ => true) true n 25 ((cs.drop 33).take (Try.prog.cellsOf 25)) = xs[2]? := hel 2 _ rfl
  rw [c25, List.getElem?_eq_getElem (by omega)] at h2
  have h3 : DataW.trod enc Try.prog W 0 (fun _ => true) true n 26 ((cs.drop 65).take (Try.prog.cellsOf 26)) = xs[3]? := hel 3 _ rfl
  rw [c26, List.getElem?_eq_getElem (by omega)] at h3
  have h4 : DataW.trod enc Try.prog W 0 (fun _ => true) true n 27 ((cs.drop 66).take (Try.prog.cellsOf 27)) = xs[4]? := hel 4 _ rfl
  rw [c27, List.getElem?_eq_getElem (by omega)] at h4
  have h5 : DataW.trod enc Try.prog W 0 (fun _ => true) true n 9 ((cs.drop 67).take (Try.prog.cellsOf 9)) = xs[5]? := hel 5 _ rfl
  rw [c9, List.getElem?_eq_getElem (by omega)] at h5
  obtain ⟨p, len, cap, ids, e0, i0⟩ := ids_of_trod h0
  obtain ⟨rt, e1, i1⟩ := arr_of_trod Try.underlying24 c24 h1
  obtain ⟨ky, e2, i2⟩ := arr_of_trod Try.underlying25 c25 h2
  obtain ⟨z3, e3, _, w3⟩ := DataW.trod_int Try.underlying26 h3
  obtain ⟨z4, e4, _, w4⟩ := DataW.trod_int Try.underlying27 h4
  obtain ⟨s5, e5, _⟩ := DataW.trod_string Try.underlying9 h5
  have b3 := bounds_u64 w3
  have b4 := bounds_u32 w4
  have cut : ∀ k m, cs.drop k = (cs.drop k).take m ++ cs.drop (k + m) := fun k m => by
    rw [← List.drop_drop, List.take_append_drop]
  refine ⟨p, len, cap, ids, ⟨rt, ky, z3.toNat, z4.toNat, s5⟩, ?_, ⟨i1, i2, by show z3.toNat < _; omega, by show z4.toNat < _; omega⟩, i0⟩
  have f : cs = cs.drop 0 := rfl
  rw [f, cut 0 1, e0, cut (0 + 1) 32, e1, cut (0 + 1 + 32) 32, e2, cut (0 + 1 + 32 + 32) 1, e3, cut (0 + 1 + 32 + 32 + 1) 1, e4, cut (0 + 1 + 32 + 32 + 1 + 1) 1, e5, List.drop_of_length_le (by omega)]
  simp only [cmtC, show ((z3.toNat : Nat) : Int) = z3 by omega, show ((z4.toNat : Nat) : Int) = z4 by omega]
  rfl

set_option maxRecDepth 100000 in
/-- A list of commits that came in; a commit that came in. -/
theorem open_cmts {H : Type} {enc : TypeId × Value → H} {W : World} {base : Nat} {v : Value} {x : DataW H} {p : List MemPlace} (hv : Value.okWide Try.prog W .any base 47 v) (h : ∃ fuel, DataW.trod enc Try.prog W 0 (fun _ => true) true fuel 47 v.cells.toList = some (x, p)) :
    ∃ a len cap es, v = .slice a len cap ∧ IsCmts W.heap.size W a len cap es := by
  obtain ⟨a, len, cap, rfl⟩ := okWide_slice Try.underlying47 hv
  obtain ⟨fuel, hf⟩ := h
  have c5 : Try.prog.cellsOf 29 = 68 := by kernel_rfl
  rcases DataW.trod_slice Try.underlying47 hf with ⟨hcs, _⟩ | ⟨y, l, c, elems, rest, n, _, hcs, _, _, hl, hm, hlen, hel, _, _⟩
  · simp [Value.cells] at hcs
    obtain ⟨rfl, rfl, rfl⟩ := hcs
    exact ⟨_, _, _, [], rfl, rfl, Nat.le_refl _, by omega, by simp, .inl rfl⟩
  · simp [Value.cells] at hcs
    obtain ⟨rfl, rfl, rfl⟩ := hcs
    by_cases h0 : len = 0
    · subst h0
      exact ⟨_, _, _, [], rfl, rfl, hl, by simpa only [maxLen] using hm, by simp, .inl rfl⟩
    · obtain ⟨b, off, spot⟩ := y
      have hsp : spot = none := by
        have h1 := hel 0 (by omega)
        rw [c5, List.getElem?_eq_getElem (by omega : 0 < elems.length), Nat.zero_mul] at h1
        obtain ⟨cs', hc, _⟩ := Option.bind_eq_some_iff.1 h1
        exact spot_of_cells hc (by omega)
      subst hsp
      have key : ∀ i, i < len → ∃ t : Value × Cmt, b < W.heap.size ∧ W.rangeAt b (off + i * 68) (cmtC t.1 t.2) ∧ t.1.oneCell' = true ∧ t.2.ok := by
        intro i hi
        have h0 := hel i hi
        rw [c5, List.getElem?_eq_getElem (by omega : i < elems.length)] at h0
        obtain ⟨cs', hc, ht⟩ := Option.bind_eq_some_iff.1 h0
        obtain ⟨q, l1, c1, ids, t, rfl, h2, _⟩ := cmt_of_trod ht
        obtain ⟨r2, r3⟩ := range_of_cells hc (by omega)
        exact ⟨(.slice q l1 c1, t), r2, r3, rfl, h2⟩
      obtain ⟨_, hb, _⟩ := key 0 (by omega)
      obtain ⟨ts, htl, hts⟩ := list_of (d := (undef, noCmt)) len key
      exact ⟨_, _, _, ts, rfl, htl, hl, by simpa only [maxLen] using hm, mem_getD (d := (undef, noCmt)) (fun i hi => (hts i (by omega)).2.2), .inr ⟨b, off, rfl, hb, fun i hi => (hts i hi).2.1⟩⟩
set_option maxRecDepth 100000 in
theorem open_cmt {H : Type} {enc : TypeId × Value → H} {W : World} {base : Nat} {v : Value} {x : DataW H} {p : List MemPlace} (hv : Value.okWide Try.prog W .any base 29 v) (h : ∃ fuel, DataW.trod enc Try.prog W 0 (fun _ => true) true fuel 29 v.cells.toList = some (x, p)) :
    ∃ (a : Option Addr) (len cap : Nat) (ids : List (List Nat)) (c : Cmt), v = .agg (cmtC (.slice a len cap) c).toArray ∧ c.ok ∧ IsIds W.heap.size W a len cap ids := by
  obtain ⟨cs, rfl, _⟩ := okWide_struct Try.underlying29 hv
  obtain ⟨fuel, hf⟩ := h
  obtain ⟨a, len, cap, ids, c, he, hok, hI⟩ := cmt_of_trod hf
  refine ⟨a, len, cap, ids, c, ?_, hok, hI⟩
  cases cs
  simp only [Value.cells] at he
  rw [← he]
end Go.Proofs.Ytkhhlcjjdkldjaa
