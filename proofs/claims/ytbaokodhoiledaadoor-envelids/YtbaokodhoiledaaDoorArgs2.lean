/-
  What came in as an argument: ids, an envelope.
-/
import Derived.Test.YtbaokodhoiledaaDoorArgs
import Derived.Test.YtbaokodhoiledaaDoorEnv
namespace Go.Proofs.YtbaokodhoiledaaDoor
open Go.ChangeShapes Go.WideShapes Go.ChangeAt Go.RowKit

set_option maxRecDepth 100000 in
theorem nums_of {f : Nat → Value} {N : Nat} : ∀ {L : List Value}, (∀ v ∈ L, ∃ n : Nat, v = f n ∧ n < N) → ∃ l : List Nat, L = l.map f ∧ (∀ z ∈ l, z < N)
  | [], _ => ⟨[], rfl, fun z hz => by cases hz⟩
  | v :: L, h => by
    obtain ⟨n, rfl, hn⟩ := h v (by simp)
    obtain ⟨l, rfl, hl⟩ := nums_of (L := L) (fun u hu => h u (by simp [hu]))
    exact ⟨n :: l, rfl, fun z hz => by
      rcases List.mem_cons.1 hz with rfl | hz
      · exact hn
      · exact hl z hz⟩
set_option maxRecDepth 100000 in
theorem list_of {α : Type} {d : α} {Q : Nat → α → Prop} : ∀ (n : Nat), (∀ i, i < n → ∃ t, Q i t) → ∃ ts : List α, ts.length = n ∧ ∀ i, i < n → Q i (ts.getD i d)
  | 0, _ => ⟨[], rfl, fun i hi => by omega⟩
  | n + 1, h => by
    obtain ⟨ts, hl, ht⟩ := list_of n (fun i hi => h i (by omega))
    obtain ⟨t, hq⟩ := h n (by omega)
    refine ⟨ts ++ [t], by simp [hl], fun i hi => ?_⟩
    by_cases h1 : i < n
    · rw [show (ts ++ [t]).getD i d = ts.getD i d by simp [List.getElem?_append_left (show i < ts.length by omega)]]
      exact ht i h1
    · obtain rfl : i = n := by omega
      rw [show (ts ++ [t]).getD i d = t by simp [← hl]]
      exact hq
set_option maxRecDepth 100000 in
theorem mem_getD {α : Type} {d : α} {ts : List α} {P : α → Prop} (h : ∀ i, i < ts.length → P (ts.getD i d)) : ∀ x ∈ ts, P x := fun x hx => by
  obtain ⟨i, hi, rfl⟩ := List.getElem_of_mem hx
  have := h i hi
  rwa [List.getD_eq_getElem?_getD, List.getElem?_eq_getElem hi, Option.getD_some] at this

set_option maxRecDepth 100000 in
/-- A slice of bytes, as it is read. -/
theorem bytes_of_trod {H : Type} {enc : TypeId × Value → H} {W : World} {fuel : Nat} {cs : List Value} {x : DataW H × List MemPlace} (hf : DataW.trod enc Tryd.prog W 0 (fun _ => true) true fuel 22 cs = some x) :
    ∃ a len cap zs, cs = [.slice a len cap] ∧ IsBytes W.heap.size W a len cap zs := by
  rcases open_ints Tryd.underlying22 Tryd.underlying5 (by kernel_rfl) hf with ⟨hcs, _⟩ | ⟨y, len, cap, zs, hcs, _, hl, hm, hz, _, hcell, hwz⟩
  · exact ⟨_, _, _, [], hcs, rfl, Nat.le_refl _, by omega, by simp, .inl rfl⟩
  · have hz' : zs.length = cap := by simpa using hz
    refine ⟨_, _, _, (zs.take len).map Int.toNat, hcs, by simp; omega, hl, by simpa only [maxLen] using hm, ?_, ?_⟩
    · intro z hz'
      obtain ⟨n, hn, rfl⟩ := List.mem_map.1 hz'
      have := bounds_u8 (hwz n (List.mem_of_mem_take hn))
      omega
    · by_cases h0 : len = 0
      · exact .inl h0
      · obtain ⟨b, off, spot⟩ := y
        have hc0 := hcell 0 (by omega)
        have hspot : spot = none := by simpa [Addr.add] using World.cell?_spot hc0
        subst hspot
        refine .inr ⟨b, off, rfl, ?_, fun i hi => ?_⟩
        · rw [Addr.add_mid] at hc0
          exact World.block_lt_of_cell? W _ hc0
        · have hi' : i < zs.length := by omega
          have h1 := hcell i hi'
          rw [Addr.add_mid] at h1
          rw [h1]
          have hb := bounds_u8 (hwz zs[i] (List.getElem_mem hi'))
          simp [List.getElem?_eq_getElem hi', hi]
          omega

set_option maxRecDepth 100000 in
/-- The cells of a place, each by itself. -/
theorem spot_of_cells {W : World} {base b off n : Nat} {spot : Option Nat} {cs : List Value} (h : W.cells? base ((⟨b, off, spot⟩ : Addr).add 0) n = some cs) (hn : 0 < n) : spot = none := by
  obtain ⟨_, hl, hc⟩ := World.cells?_some h
  have hc0 := hc 0 hn
  rw [List.getElem?_eq_getElem (by omega : 0 < cs.length)] at hc0
  simpa [Addr.add] using World.cell?_spot hc0
set_option maxRecDepth 100000 in
theorem range_of_cells {W : World} {base b off n k : Nat} {cs : List Value} (h : W.cells? base ((⟨b, off, none⟩ : Addr).add k) n = some cs) (hn : 0 < n) : b < W.heap.size ∧ W.rangeAt b (off + k) cs := by
  obtain ⟨_, hl, hc⟩ := World.cells?_some h
  have hc0 := hc 0 hn
  rw [List.getElem?_eq_getElem (by omega : 0 < cs.length), Addr.add_mid, Addr.add_mid] at hc0
  refine ⟨World.block_lt_of_cell? W _ hc0, fun j v hv => ?_⟩
  have hj : j < n := by
    rcases Nat.lt_or_ge j cs.length with h | h
    · omega
    · rw [List.getElem?_eq_none h] at hv; cases hv
  have := hc j hj
  rw [Addr.add_mid, Addr.add_mid] at this
  rw [this, hv]

set_option maxRecDepth 100000 in
/-- An id, as it is read. -/
theorem id_of_trod {H : Type} {enc : TypeId × Value → H} {W : World} {fuel : Nat} {cs : List Value} {x : DataW H × List MemPlace} (hf : DataW.trod enc Tryd.prog W 0 (fun _ => true) true fuel 38 cs = some x) :
    ∃ l : List Nat, cs = u8s l ∧ l.length = 32 ∧ ∀ z ∈ l, z < 256 := by
  have hc32 : Tryd.prog.cellsOf 38 = 32 := by kernel_rfl
  have hc5 : Tryd.prog.cellsOf 5 = 1 := by kernel_rfl
  obtain ⟨xs, m1, _, _, hlen, hn, hel⟩ := DataW.trod_array Tryd.underlying38 hf
  rw [hc32] at hlen
  have key : ∀ u ∈ cs, ∃ m : Nat, u = .int .u8 (m : Nat) ∧ m < 256 := by
    intro u hu
    obtain ⟨i, hi, rfl⟩ := List.mem_iff_getElem.1 hu
    have h0 := hel i (by omega)
    rw [hc5, Nat.mul_one, List.getElem?_eq_getElem (by omega : i < xs.length)] at h0
    obtain ⟨z, e1, e2, hw⟩ := DataW.trod_int Tryd.underlying5 h0
    have hci := congrArg (fun l => l[0]?) e1
    simp only [List.getElem?_take, List.getElem?_drop, Nat.add_zero, List.getElem?_eq_getElem hi] at hci
    have hb := bounds_u8 hw
    refine ⟨z.toNat, ?_, by omega⟩
    rw [show ((z.toNat : Nat) : Int) = z by omega]
    simpa using hci
  obtain ⟨l, hl, hz⟩ := nums_of (f := fun z => .int .u8 (z : Nat)) key
  refine ⟨l, hl, ?_, hz⟩
  rw [← hlen, hl, List.length_map]

set_option maxRecDepth 100000 in
/-- A slice of ids, as it is read. -/
theorem ids_of_trod {H : Type} {enc : TypeId × Value → H} {W : World} {fuel : Nat} {cs : List Value} {x : DataW H × List MemPlace} (hf : DataW.trod enc Tryd.prog W 0 (fun _ => true) true fuel 24 cs = some x) :
    ∃ a len cap ids, cs = [.slice a len cap] ∧ IsIds W.heap.size W a len cap ids := by
  have hc32 : Tryd.prog.cellsOf 38 = 32 := by kernel_rfl
  rcases DataW.trod_slice Tryd.underlying24 hf with ⟨hcs, _⟩ | ⟨y, len, cap, elems, rest, n, _, hcs, _, _, hl, hm, hlen, hel, _, _⟩
  · exact ⟨_, _, _, [], hcs, rfl, Nat.le_refl _, by omega, by simp, .inl rfl⟩
  · by_cases h0 : len = 0
    · subst h0
      exact ⟨_, _, _, [], hcs, rfl, hl, by simpa only [maxLen] using hm, by simp, .inl rfl⟩
    · obtain ⟨b, off, spot⟩ := y
      have hsp : spot = none := by
        have h1 := hel 0 (by omega)
        rw [hc32, List.getElem?_eq_getElem (by omega : 0 < elems.length), Nat.zero_mul] at h1
        obtain ⟨cs', hc, _⟩ := Option.bind_eq_some_iff.1 h1
        exact spot_of_cells hc (by omega)
      subst hsp
      have key : ∀ i, i < len → ∃ t : List Nat, b < W.heap.size ∧ W.rangeAt b (off + i * 32) (u8s t) ∧ t.length = 32 ∧ ∀ z ∈ t, z < 256 := by
        intro i hi
        have h0 := hel i hi
        rw [hc32, List.getElem?_eq_getElem (by omega : i < elems.length)] at h0
        obtain ⟨cs', hc, ht⟩ := Option.bind_eq_some_iff.1 h0
        obtain ⟨t, rfl, h2, h3⟩ := id_of_trod ht
        obtain ⟨r2, r3⟩ := range_of_cells hc (by omega)
        exact ⟨t, r2, r3, h2, h3⟩
      obtain ⟨_, hb, _⟩ := key 0 (by omega)
      obtain ⟨ts, htl, hts⟩ := list_of (d := []) len key
      exact ⟨_, _, _, ts, hcs, htl, hl, by simpa only [maxLen] using hm, mem_getD (d := []) (fun i hi => (hts i (by omega)).2.2), .inr ⟨b, off, rfl, hb, fun i hi => (hts i hi).2.1⟩⟩

set_option maxRecDepth 100000 in
/-- An envelope, as it is read. -/
theorem env_of_trod {H : Type} {enc : TypeId × Value → H} {W : World} {fuel : Nat} {cs : List Value} {x : DataW H × List MemPlace} (hf : DataW.trod enc Tryd.prog W 0 (fun _ => true) true fuel 26 cs = some x) :
    ∃ (kd : Int) (rl ep : Nat) (p : Option Addr) (len cap : Nat) (ids : List (List Nat)) (q : Option Addr) (lb cb : Nat) (bs : List Nat), cs = [.int .i64 kd, .int .u32 (rl : Nat), .int .u32 (ep : Nat), .slice p len cap, .slice q lb cb] ∧
      (-9223372036854775808 ≤ kd ∧ kd ≤ 9223372036854775807) ∧ rl < 4294967296 ∧ ep < 4294967296 ∧ IsIds W.heap.size W p len cap ids ∧ IsBytes W.heap.size W q lb cb bs := by
  have c1 : Tryd.prog.cellsOf 3 = 1 := by kernel_rfl
  have c2 : Tryd.prog.cellsOf 23 = 1 := by kernel_rfl
  have c3 : Tryd.prog.cellsOf 22 = 1 := by kernel_rfl
  have c4 : Tryd.prog.cellsOf 24 = 1 := by kernel_rfl
  have c5 : Tryd.prog.cellsOf 26 = 5 := by kernel_rfl
  obtain ⟨xs, n, _, _, hlen, hn, hel⟩ := DataW.trod_struct Tryd.underlying26 hf
  have hn : xs.length = 5 := hn
  rw [c5] at hlen
  match cs, hlen with
  | [v0, v1, v2, v3, v4], _ =>
    have h0 : DataW.trod enc Tryd.prog W 0 (fun _ => true) true n 3 (List.take (Tryd.prog.cellsOf 3) [v0, v1, v2, v3, v4]) = xs[0]? := hel 0 _ rfl
    have h1 : DataW.trod enc Tryd.prog W 0 (fun _ => true) true n 23 (List.take (Tryd.prog.cellsOf 23) [v1, v2, v3, v4]) = xs[1]? := hel 1 _ rfl
    have h2 : DataW.trod enc Tryd.prog W 0 (fun _ => true) true n 23 (List.take (Tryd.prog.cellsOf 23) [v2, v3, v4]) = xs[2]? := hel 2 _ rfl
    have h3 : DataW.trod enc Tryd.prog W 0 (fun _ => true) true n 24 (List.take (Tryd.prog.cellsOf 24) [v3, v4]) = xs[3]? := hel 3 _ rfl
    have h4 : DataW.trod enc Tryd.prog W 0 (fun _ => true) true n 22 (List.take (Tryd.prog.cellsOf 22) [v4]) = xs[4]? := hel 4 _ rfl
    rw [c1, List.getElem?_eq_getElem (by omega)] at h0
    rw [c2, List.getElem?_eq_getElem (by omega)] at h1
    rw [c2, List.getElem?_eq_getElem (by omega)] at h2
    rw [c4, List.getElem?_eq_getElem (by omega)] at h3
    rw [c3, List.getElem?_eq_getElem (by omega)] at h4
    simp only [List.take_succ_cons, List.take_zero] at h0 h1 h2 h3 h4
    obtain ⟨z0, e0, _, w0⟩ := DataW.trod_int Tryd.underlying3 h0
    obtain ⟨z1, e1, _, w1⟩ := DataW.trod_int Tryd.underlying23 h1
    obtain ⟨z2, e2, _, w2⟩ := DataW.trod_int Tryd.underlying23 h2
    obtain ⟨q2, l2, k2, ids, e3, hI2⟩ := ids_of_trod h3
    obtain ⟨q1, l1, k1, bs, e4, hI1⟩ := bytes_of_trod h4
    cases e0; cases e1; cases e2; cases e3; cases e4
    have b1 := bounds_u32 w1
    have b2 := bounds_u32 w2
    refine ⟨z0, z1.toNat, z2.toNat, q2, l2, k2, ids, q1, l1, k1, bs, ?_, bounds_i64 w0, by omega, by omega, hI2, hI1⟩
    rw [show ((z1.toNat : Nat) : Int) = z1 by omega, show ((z2.toNat : Nat) : Int) = z2 by omega]

set_option maxRecDepth 100000 in
/-- A list of ids that came in; an envelope that came in. -/
theorem open_ids {H : Type} {enc : TypeId × Value → H} {W : World} {base : Nat} {v : Value} {x : DataW H} {p : List MemPlace} (hv : Value.okWide Tryd.prog W .any base 24 v) (h : ∃ fuel, DataW.trod enc Tryd.prog W 0 (fun _ => true) true fuel 24 v.cells.toList = some (x, p)) :
    ∃ a len cap ids, v = .slice a len cap ∧ IsIds W.heap.size W a len cap ids := by
  obtain ⟨a, len, cap, rfl⟩ := okWide_slice Tryd.underlying24 hv
  obtain ⟨fuel, hf⟩ := h
  obtain ⟨a', len', cap', ids, e, hI⟩ := ids_of_trod hf
  simp [Value.cells] at e
  obtain ⟨rfl, rfl, rfl⟩ := e
  exact ⟨_, _, _, _, rfl, hI⟩
set_option maxRecDepth 100000 in
theorem open_env {H : Type} {enc : TypeId × Value → H} {W : World} {base : Nat} {v : Value} {x : DataW H} {p : List MemPlace} (hv : Value.okWide Tryd.prog W .any base 26 v) (h : ∃ fuel, DataW.trod enc Tryd.prog W 0 (fun _ => true) true fuel 26 v.cells.toList = some (x, p)) :
    ∃ (kd : Int) (rl ep : Nat) (p : Option Addr) (len cap : Nat) (ids : List (List Nat)) (q : Option Addr) (lb cb : Nat) (bs : List Nat), v = .agg #[.int .i64 kd, .int .u32 (rl : Nat), .int .u32 (ep : Nat), .slice p len cap, .slice q lb cb] ∧
      (-9223372036854775808 ≤ kd ∧ kd ≤ 9223372036854775807) ∧ rl < 4294967296 ∧ ep < 4294967296 ∧ IsIds W.heap.size W p len cap ids ∧ IsBytes W.heap.size W q lb cb bs := by
  obtain ⟨cs, rfl, _⟩ := okWide_struct Tryd.underlying26 hv
  obtain ⟨fuel, hf⟩ := h
  obtain ⟨kd, rl, ep, p, len, cap, ids, q, lb, cb, bs, e, h1, h2, h3, h4, h5⟩ := env_of_trod hf
  have e2 : cs = #[.int .i64 kd, .int .u32 (rl : Nat), .int .u32 (ep : Nat), .slice p len cap, .slice q lb cb] := by
    cases cs
    simpa [Value.cells] using e
  exact ⟨kd, rl, ep, p, len, cap, ids, q, lb, cb, bs, by rw [e2], h1, h2, h3, h4, h5⟩
end Go.Proofs.YtbaokodhoiledaaDoor
