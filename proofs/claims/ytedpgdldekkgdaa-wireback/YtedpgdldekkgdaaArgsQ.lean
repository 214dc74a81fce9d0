/-
  What came in as an argument: a request, a reply.
-/
import Derived.Test.YtedpgdldekkgdaaArgs
import Derived.Test.YtedpgdldekkgdaaArgs2
import Derived.Test.YtedpgdldekkgdaaReq
namespace Go.Proofs.Ytedpgdldekkgdaa
open Go.ChangeShapes Go.WideShapes Go.ChangeAt Go.RowKit

set_option maxRecDepth 100000 in
theorem nums_of {f : Nat → Value} {N : Nat} : ∀ {L : List Value}, (∀ v ∈ L, ∃ n : Nat, v = f n ∧ n < N) → ∃ l : List Nat, L = l.map f ∧ (∀ z ∈ l, z < N)
  | [], _ => ⟨[], rfl, fun z hz => by cases hz⟩
  | v :: L, h => by
    obtain ⟨n, rfl, hn⟩ := h v (by simp)
    obtain ⟨l, rfl, hl⟩ := nums_of (L := L) (fun u hu => h u (by simp [hu]))
    exact ⟨n :: l, rfl, fun z hz => by
      rcases List.mem_cons.1 hz with rfl | hz
      · exact hn
      · exact hl z hz⟩
set_option maxRecDepth 100000 in
theorem list_of {α : Type} {d : α} {Q : Nat → α → Prop} : ∀ (n : Nat), (∀ i, i < n → ∃ t, Q i t) → ∃ ts : List α, ts.length = n ∧ ∀ i, i < n → Q i (ts.getD i d)
  | 0, _ => ⟨[], rfl, fun i hi => by omega⟩
  | n + 1, h => by
    obtain ⟨ts, hl, ht⟩ := list_of n (fun i hi => h i (by omega))
    obtain ⟨t, hq⟩ := h n (by omega)
    refine ⟨ts ++ [t], by simp [hl], fun i hi => ?_⟩
    by_cases h1 : i < n
    · rw [show (ts ++ [t]).getD i d = ts.getD i d by simp [List.getElem?_append_left (show i < ts.length by omega)]]
      exact ht i h1
    · obtain rfl : i = n := by omega
      rw [show (ts ++ [t]).getD i d = t by simp [← hl]]
      exact hq
theorem mem_getD {α : Type} {d : α} {ts : List α} {P : α → Prop} (h : ∀ i, i < ts.length → P (ts.getD i d)) : ∀ x ∈ ts, P x := fun x hx => by
  obtain ⟨i, hi, rfl⟩ := List.getElem_of_mem hx
  have := h i hi
  rwa [List.getD_eq_getElem?_getD, List.getElem?_eq_getElem hi, Option.getD_some] at this
theorem spot_of_cells {W : World} {base b off n : Nat} {spot : Option Nat} {cs : List Value} (h : W.cells? base ((⟨b, off, spot⟩ : Addr).add 0) n = some cs) (hn : 0 < n) : spot = none := by
  obtain ⟨_, hl, hc⟩ := World.cells?_some h
  have hc0 := hc 0 hn
  rw [List.getElem?_eq_getElem (by omega : 0 < cs.length)] at hc0
  simpa [Addr.add] using World.cell?_spot hc0
theorem range_of_cells {W : World} {base b off n k : Nat} {cs : List Value} (h : W.cells? base ((⟨b, off, none⟩ : Addr).add k) n = some cs) (hn : 0 < n) : b < W.heap.size ∧ W.rangeAt b (off + k) cs := by
  obtain ⟨_, hl, hc⟩ := World.cells?_some h
  have hc0 := hc 0 hn
  rw [List.getElem?_eq_getElem (by omega : 0 < cs.length), Addr.add_mid, Addr.add_mid] at hc0
  refine ⟨World.block_lt_of_cell? W _ hc0, fun j v hv => ?_⟩
  have hj : j < n := by
    rcases Nat.lt_or_ge j cs.length with h | h
    · omega
    · rw [List.getElem?_eq_none h] at hv; cases hv
  have := hc j hj
  rw [Addr.add_mid, Addr.add_mid] at this
  rw [this, hv]

set_option maxRecDepth 100000 in
/-- 32 bytes, as they are read. -/
theorem arr_of_trod {H : Type} {enc : TypeId × Value → H} {W : World} {fuel : Nat} {T : TypeId} {cs : List Value} {x : DataW H × List MemPlace} (hu : Try.prog.underlying T = some (.array 32 5)) (hc32 : Try.prog.cellsOf T = 32) (hf : DataW.trod enc Try.prog W 0 (fun _ => true) true fuel T cs = some x) :
    ∃ l : List Nat, cs = u8s l ∧ IsId l := by
  have hc5 : Try.prog.cellsOf 5 = 1 := by kernel_rfl
  obtain ⟨xs, m1, _, _, hlen, hn, hel⟩ := DataW.trod_array hu hf
  rw [hc32] at hlen
  have key : ∀ u ∈ cs, ∃ m : Nat, u = .int .u8 (m : Nat) ∧ m < 256 := by
    intro u hu
    obtain ⟨i, hi, rfl⟩ := List.mem_iff_getElem.1 hu
    have h0 := hel i (by omega)
    rw [hc5, Nat.mul_one, List.getElem?_eq_getElem (by omega : i < xs.length)] at h0
    obtain ⟨z, e1, e2, hw⟩ := DataW.trod_int Try.underlying5 h0
    have hci := congrArg (fun l => l[0]?) e1
    simp only [List.getElem?_take, List.getElem?_drop, Nat.add_zero, List.getElem?_eq_getElem hi] at hci
    have hb := bounds_u8 hw
    refine ⟨z.toNat, ?_, by omega⟩
    rw [show ((z.toNat : Nat) : Int) = z by omega]
    simpa using hci
  obtain ⟨l, hl, hz⟩ := nums_of (f := fun z => .int .u8 (z : Nat)) key
  refine ⟨l, hl, ?_, hz⟩
  rw [← hlen, hl, List.length_map]

set_option maxRecDepth 100000 in
/-- A slice of bytes, as it is read. -/
theorem bytes_of_trod {H : Type} {enc : TypeId × Value → H} {W : World} {fuel : Nat} {cs : List Value} {x : DataW H × List MemPlace} (hf : DataW.trod enc Try.prog W 0 (fun _ => true) true fuel 26 cs = some x) :
    ∃ a len cap zs, cs = [.slice a len cap] ∧ IsBytes W.heap.size W a len cap zs := by
  rcases open_ints Try.underlying26 Try.underlying5 (by kernel_rfl) hf with ⟨hcs, _⟩ | ⟨x, l, c, zs, hcs, _, hl, hm, hz, _, hcell, hwz⟩
  · exact ⟨_, _, _, [], hcs, rfl, Nat.le_refl _, by omega, by simp, .inl rfl⟩
  · have hz' : zs.length = c := by simpa using hz
    refine ⟨_, _, _, (zs.take l).map Int.toNat, hcs, by simp; omega, hl, by simpa only [maxLen] using hm, ?_, ?_⟩
    · intro z hz'
      obtain ⟨n, hn, rfl⟩ := List.mem_map.1 hz'
      have := bounds_u8 (hwz n (List.mem_of_mem_take hn))
      omega
    · by_cases h0 : l = 0
      · exact .inl h0
      · obtain ⟨b, off, spot⟩ := x
        have hc0 := hcell 0 (by omega)
        have hspot : spot = none := by simpa [Addr.add] using World.cell?_spot hc0
        subst hspot
        refine .inr ⟨b, off, rfl, ?_, fun i hi => ?_⟩
        · rw [Addr.add_mid] at hc0
          exact World.block_lt_of_cell? W _ hc0
        · have hi' : i < zs.length := by omega
          have h1 := hcell i hi'
          rw [Addr.add_mid] at h1
          rw [h1]
          have hb := bounds_u8 (hwz zs[i] (List.getElem_mem hi'))
          simp [List.getElem?_eq_getElem hi', hi]
          omega
set_option maxRecDepth 100000 in
/-- A slice of texts, as it is read. -/
theorem strs_of_trod {H : Type} {enc : TypeId × Value → H} {W : World} {fuel : Nat} {cs : List Value} {x : DataW H × List MemPlace} (hf : DataW.trod enc Try.prog W 0 (fun _ => true) true fuel 42 cs = some x) :
    ∃ a len cap xs, cs = [.slice a len cap] ∧ IsStrs W.heap.size W a len cap xs := by
  rcases open_strings Try.underlying42 Try.underlying9 (by kernel_rfl) hf with ⟨hcs, _⟩ | ⟨x, l, c, ss, hcs, _, hl, hm, hz, _, hcell, hwz⟩
  · exact ⟨_, _, _, [], hcs, rfl, Nat.le_refl _, by omega, .inl rfl⟩
  · have hz' : ss.length = c := by simpa using hz
    refine ⟨_, _, _, ss.take l, hcs, by simp; omega, hl, by simpa only [maxLen] using hm, ?_⟩
    by_cases h0 : l = 0
    · exact .inl h0
    · obtain ⟨b, off, spot⟩ := x
      have hc0 := hcell 0 (by omega)
      have hspot : spot = none := by simpa [Addr.add] using World.cell?_spot hc0
      subst hspot
      refine .inr ⟨b, off, rfl, ?_, fun i hi => ?_⟩
      · rw [Addr.add_mid] at hc0
        exact World.block_lt_of_cell? W _ hc0
      · have hi2 : i < l := by simp at hi; omega
        have hi' : i < ss.length := by omega
        have h1 := hcell i hi'
        rw [Addr.add_mid] at h1
        rw [h1]
        simp [List.getElem?_eq_getElem hi']
set_option maxRecDepth 100000 in
theorem req_of_trod {H : Type} {enc : TypeId × Value → H} {W : World} {fuel : Nat} {cs : List Value} {x : DataW H × List MemPlace} (hf : DataW.trod enc Try.prog W 0 (fun _ => true) true fuel 28 cs = some x) :
    ∃ (p : Option Addr) (len cap : Nat) (b : List Nat) (r : Req), cs = reqC (.slice p len cap) r ∧ r.ok ∧ IsBytes W.heap.size W p len cap b := by
  have c3 : Try.prog.cellsOf 3 = 1 := by kernel_rfl
  have c9 : Try.prog.cellsOf 9 = 1 := by kernel_rfl
  have c22 : Try.prog.cellsOf 22 = 1 := by kernel_rfl
  have c23 : Try.prog.cellsOf 23 = 1 := by kernel_rfl
  have c25 : Try.prog.cellsOf 25 = 32 := by kernel_rfl
  have c26 : Try.prog.cellsOf 26 = 1 := by kernel_rfl
  have cT : Try.prog.cellsOf 28 = 71 := by kernel_rfl
  obtain ⟨xs, n, _, _, hlen, hn, hel⟩ := DataW.trod_struct Try.underlying28 hf
  have hn : xs.length = 9 := hn
  rw [cT] at hlen
  have h0 : DataW.trod enc Try.prog W 0 (fun _ => true) true n 22 ((cs.drop 0).take (Try.prog.cellsOf 22)) = xs[0]? := hel 0 _ rfl
  rw [c22, List.getElem?_eq_getElem (by omega)] at h0
  have h1 : DataW.trod enc Try.prog W 0 (fun _ => true) true n 23 ((cs.drop 1).take (Try.prog.cellsOf 23)) = xs[1]? := hel 1 _ rfl
  rw [c23, List.getElem?_eq_getElem (by omega)] at h1
  have h2 : DataW.trod enc Try.prog W 0 (fun _ => true) true n 3 ((cs.drop 2).take (Try.prog.cellsOf 3)) = xs[2]? := hel 2 _ rfl
  rw [c3, List.getElem?_eq_getElem (by omega)] at h2
  have h3 : DataW.trod enc Try.prog W 0 (fun _ => true) true n 22 ((cs.drop 3).take (Try.prog.cellsOf 22)) = xs[3]? := hel 3 _ rfl
  rw [c22, List.getElem?_eq_getElem (by omega)] at h3
  have h4 : DataW.trod enc Try.prog W 0 (fun _ => true) true n 9 ((cs.drop 4).take (Try.prog.cellsOf 9)) = xs[4]? := hel 4 _ rfl
  rw [c9, List.getElem?_eq_getElem (by omega)] at h4
  have h5 : DataW.trod enc Try.prog W 0 (fun _ => true) true n 25 ((cs.drop 5).take (Try.prog.cellsOf 25)) = xs[5]? := hel 5 _ rfl
  rw [c25, List.getElem?_eq_getElem (by omega)] at h5
  have h6 : DataW.trod enc Try.prog W 0 (fun _ => true) true n 25 ((cs.drop 37).take (Try.prog.cellsOf 25)) = xs[6]? := hel 6 _ rfl
  rw [c25, List.getElem?_eq_getElem (by omega)] at h6
  have h7 : DataW.trod enc Try.prog W 0 (fun _ => true) true n 23 ((cs.drop 69).take (Try.prog.cellsOf 23)) = xs[7]? := hel 7 _ rfl
  rw [c23, List.getElem?_eq_getElem (by omega)] at h7
  have h8 : DataW.trod enc Try.prog W 0 (fun _ => true) true n 26 ((cs.drop 70).take (Try.prog.cellsOf 26)) = xs[8]? := hel 8 _ rfl
  rw [c26, List.getElem?_eq_getElem (by omega)] at h8
  obtain ⟨z0, e0, _, w0⟩ := DataW.trod_int Try.underlying22 h0
  have b0 := bounds_u32 w0
  obtain ⟨z1, e1, _, w1⟩ := DataW.trod_int Try.underlying23 h1
  have b1 := bounds_u64 w1
  obtain ⟨z2, e2, _, w2⟩ := DataW.trod_int Try.underlying3 h2
  have b2 := bounds_i64 w2
  obtain ⟨z3, e3, _, w3⟩ := DataW.trod_int Try.underlying22 h3
  have b3 := bounds_u32 w3
  obtain ⟨s4, e4, _⟩ := DataW.trod_string Try.underlying9 h4
  obtain ⟨d5, e5, i5⟩ := arr_of_trod Try.underlying25 c25 h5
  obtain ⟨d6, e6, i6⟩ := arr_of_trod Try.underlying25 c25 h6
  obtain ⟨z7, e7, _, w7⟩ := DataW.trod_int Try.underlying23 h7
  have b7 := bounds_u64 w7
  obtain ⟨p8, l8, c8', b8, e8, i8⟩ := bytes_of_trod h8
  have cut : ∀ k m, cs.drop k = (cs.drop k).take m ++ cs.drop (k + m) := fun k m => by
    rw [← List.drop_drop, List.take_append_drop]
  refine ⟨p8, l8, c8', b8, ⟨z0.toNat, z1.toNat, z2, z3.toNat, s4, d5, d6, z7.toNat⟩, ?_, ⟨by show z0.toNat < _; omega, by show z1.toNat < _; omega, by show _ ≤ z2 ∧ z2 ≤ _; omega, by show z3.toNat < _; omega, i5, i6, by show z7.toNat < _; omega⟩, i8⟩
  have f : cs = cs.drop 0 := rfl
  rw [f, cut 0 1, e0, cut (0 + 1) 1, e1, cut (0 + 1 + 1) 1, e2, cut (0 + 1 + 1 + 1) 1, e3, cut (0 + 1 + 1 + 1 + 1) 1, e4, cut (0 + 1 + 1 + 1 + 1 + 1) 32, e5, cut (0 + 1 + 1 + 1 + 1 + 1 + 32) 32, e6, cut (0 + 1 + 1 + 1 + 1 + 1 + 32 + 32) 1, e7, cut (0 + 1 + 1 + 1 + 1 + 1 + 32 + 32 + 1) 1, e8, List.drop_of_length_le (by omega)]
  simp only [reqC, show ((z0.toNat : Nat) : Int) = z0 by omega, show ((z1.toNat : Nat) : Int) = z1 by omega, show ((z3.toNat : Nat) : Int) = z3 by omega, show ((z7.toNat : Nat) : Int) = z7 by omega]
  rfl
set_option maxRecDepth 100000 in
theorem rep_of_trod {H : Type} {enc : TypeId × Value → H} {W : World} {fuel : Nat} {cs : List Value} {x : DataW H × List MemPlace} (hf : DataW.trod enc Try.prog W 0 (fun _ => true) true fuel 44 cs = some x) :
    ∃ (p : Option Addr) (len cap : Nat) (b : List Nat) (p2 : Option Addr) (len2 cap2 : Nat) (xs : List ByteArray) (r : Rep), cs = repC (.slice p len cap) (.slice p2 len2 cap2) r ∧ r.ok ∧ IsBytes W.heap.size W p len cap b ∧ IsStrs W.heap.size W p2 len2 cap2 xs := by
  have c22 : Try.prog.cellsOf 22 = 1 := by kernel_rfl
  have c23 : Try.prog.cellsOf 23 = 1 := by kernel_rfl
  have c25 : Try.prog.cellsOf 25 = 32 := by kernel_rfl
  have c26 : Try.prog.cellsOf 26 = 1 := by kernel_rfl
  have c31 : Try.prog.cellsOf 31 = 1 := by kernel_rfl
  have c42 : Try.prog.cellsOf 42 = 1 := by kernel_rfl
  have cT : Try.prog.cellsOf 44 = 38 := by kernel_rfl
  obtain ⟨xs, n, _, _, hlen, hn, hel⟩ := DataW.trod_struct Try.underlying44 hf
  have hn : xs.length = 7 := hn
  rw [cT] at hlen
  have h0 : DataW.trod enc Try.prog W 0 (fun _ => true) true n 22 ((cs.drop 0).take (Try.prog.cellsOf 22)) = xs[0]? := hel 0 _ rfl
  rw [c22, List.getElem?_eq_getElem (by omega)] at h0
  have h1 : DataW.trod enc Try.prog W 0 (fun _ => true) true n 23 ((cs.drop 1).take (Try.prog.cellsOf 23)) = xs[1]? := hel 1 _ rfl
  rw [c23, List.getElem?_eq_getElem (by omega)] at h1
  have h2 : DataW.trod enc Try.prog W 0 (fun _ => true) true n 31 ((cs.drop 2).take (Try.prog.cellsOf 31)) = xs[2]? := hel 2 _ rfl
  rw [c31, List.getElem?_eq_getElem (by omega)] at h2
  have h3 : DataW.trod enc Try.prog W 0 (fun _ => true) true n 25 ((cs.drop 3).take (Try.prog.cellsOf 25)) = xs[3]? := hel 3 _ rfl
  rw [c25, List.getElem?_eq_getElem (by omega)] at h3
  have h4 : DataW.trod enc Try.prog W 0 (fun _ => true) true n 23 ((cs.drop 35).take (Try.prog.cellsOf 23)) = xs[4]? := hel 4 _ rfl
  rw [c23, List.getElem?_eq_getElem (by omega)] at h4
  have h5 : DataW.trod enc Try.prog W 0 (fun _ => true) true n 26 ((cs.drop 36).take (Try.prog.cellsOf 26)) = xs[5]? := hel 5 _ rfl
  rw [c26, List.getElem?_eq_getElem (by omega)] at h5
  have h6 : DataW.trod enc Try.prog W 0 (fun _ => true) true n 42 ((cs.drop 37).take (Try.prog.cellsOf 42)) = xs[6]? := hel 6 _ rfl
  rw [c42, List.getElem?_eq_getElem (by omega)] at h6
  obtain ⟨z0, e0, _, w0⟩ := DataW.trod_int Try.underlying22 h0
  have b0 := bounds_u32 w0
  obtain ⟨z1, e1, _, w1⟩ := DataW.trod_int Try.underlying23 h1
  have b1 := bounds_u64 w1
  obtain ⟨z2, e2, _, w2⟩ := DataW.trod_int Try.underlying31 h2
  have b2 := bounds_i64 w2
  obtain ⟨d3, e3, i3⟩ := arr_of_trod Try.underlying25 c25 h3
  obtain ⟨z4, e4, _, w4⟩ := DataW.trod_int Try.underlying23 h4
  have b4 := bounds_u64 w4
  obtain ⟨p5, l5, c5', b5, e5, i5⟩ := bytes_of_trod h5
  obtain ⟨p6, l6, c6', b6, e6, i6⟩ := strs_of_trod h6
  have cut : ∀ k m, cs.drop k = (cs.drop k).take m ++ cs.drop (k + m) := fun k m => by
    rw [← List.drop_drop, List.take_append_drop]
  refine ⟨p5, l5, c5', b5, p6, l6, c6', b6, ⟨z0.toNat, z1.toNat, z2, d3, z4.toNat⟩, ?_, ⟨by show z0.toNat < _; omega, by show z1.toNat < _; omega, by show _ ≤ z2 ∧ z2 ≤ _; omega, i3, by show z4.toNat < _; omega⟩, i5, i6⟩
  have f : cs = cs.drop 0 := rfl
  rw [f, cut 0 1, e0, cut (0 + 1) 1, e1, cut (0 + 1 + 1) 1, e2, cut (0 + 1 + 1 + 1) 32, e3, cut (0 + 1 + 1 + 1 + 32) 1, e4, cut (0 + 1 + 1 + 1 + 32 + 1) 1, e5, cut (0 + 1 + 1 + 1 + 32 + 1 + 1) 1, e6, List.drop_of_length_le (by omega)]
  simp only [repC, show ((z0.toNat : Nat) : Int) = z0 by omega, show ((z1.toNat : Nat) : Int) = z1 by omega, show ((z4.toNat : Nat) : Int) = z4 by omega]
  rfl
theorem open_req {H : Type} {enc : TypeId × Value → H} {W : World} {base : Nat} {v : Value} {x : DataW H} {p : List MemPlace} (hv : Value.okWide Try.prog W .any base 28 v) (h : ∃ fuel, DataW.trod enc Try.prog W 0 (fun _ => true) true fuel 28 v.cells.toList = some (x, p)) :
    ∃ (p : Option Addr) (len cap : Nat) (b : List Nat) (r : Req), v = .agg (reqC (.slice p len cap) r).toArray ∧ r.ok ∧ IsBytes W.heap.size W p len cap b := by
  obtain ⟨cs, rfl, _⟩ := okWide_struct Try.underlying28 hv
  obtain ⟨fuel, hf⟩ := h
  obtain ⟨a, len, cap, b, r, he, hok, hI⟩ := req_of_trod hf
  refine ⟨a, len, cap, b, r, ?_, hok, hI⟩
  cases cs
  simp only [Value.cells] at he
  rw [← he]
theorem open_rep {H : Type} {enc : TypeId × Value → H} {W : World} {base : Nat} {v : Value} {x : DataW H} {p : List MemPlace} (hv : Value.okWide Try.prog W .any base 44 v) (h : ∃ fuel, DataW.trod enc Try.prog W 0 (fun _ => true) true fuel 44 v.cells.toList = some (x, p)) :
    ∃ (p : Option Addr) (len cap : Nat) (b : List Nat) (p2 : Option Addr) (len2 cap2 : Nat) (xs : List ByteArray) (r : Rep), v = .agg (repC (.slice p len cap) (.slice p2 len2 cap2) r).toArray ∧ r.ok ∧ IsBytes W.heap.size W p len cap b ∧ IsStrs W.heap.size W p2 len2 cap2 xs := by
  obtain ⟨cs, rfl, _⟩ := okWide_struct Try.underlying44 hv
  obtain ⟨fuel, hf⟩ := h
  obtain ⟨a, len, cap, b, a2, len2, cap2, xs, r, he, hok, hI, hJ⟩ := rep_of_trod hf
  refine ⟨a, len, cap, b, a2, len2, cap2, xs, r, ?_, hok, hI, hJ⟩
  cases cs
  simp only [Value.cells] at he
  rw [← he]
end Go.Proofs.Ytedpgdldekkgdaa
