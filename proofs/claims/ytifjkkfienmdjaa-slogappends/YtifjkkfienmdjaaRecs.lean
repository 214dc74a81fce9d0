/-
  Lists of bytes in memory: rows of slices that are owned, what they lead to; the reference's log.
-/
import Derived.Test.YtifjkkfienmdjaaLogR
import Derived.Test.YtifjkkfienmdjaaOps
import Derived.Maps.AppendAt
namespace Go.Proofs.Ytifjkkfienmdjaa
open Go.RowKit

/-- A slice of bytes, in a block of bytes. -/
def Bytes5 (W : World) (v : Value) (zs : List Nat) : Prop :=
  ∃ q len cap, v = .slice q len cap ∧ zs.length = len ∧ len ≤ cap ∧ cap ≤ 9223372036854775807 ∧ (∀ z ∈ zs, z < 256) ∧
    (len = 0 ∨ ∃ b off c fr, q = some ⟨b, off, none⟩ ∧ W.heap[b]? = some (Obj.cells c 5 fr) ∧ ∀ i, i < len → c[off + i]? = some (.int .u8 (zs.getD i 0 : Nat)))
theorem Bytes5.kept {A B : World} {v : Value} {zs : List Nat} (h : Bytes5 A v zs) (hk : KeepT 5 A B) : Bytes5 B v zs := by
  obtain ⟨q, len, cap, h1, h2, h3, h4, h5, h6⟩ := h
  refine ⟨q, len, cap, h1, h2, h3, h4, h5, ?_⟩
  rcases h6 with h | ⟨b, off, c, fr, e1, e2, e3⟩
  · exact .inl h
  · exact .inr ⟨b, off, c, fr, e1, hk b c fr e2, e3⟩
theorem Bytes5.bytes {W : World} {q : Option Addr} {len cap : Nat} {zs : List Nat} (h : Bytes5 W (.slice q len cap) zs) : IsBytes W.heap.size W q len cap zs := by
  obtain ⟨q, len, cap, h1, h2, h3, h4, h5, h6⟩ := h
  cases h1
  refine ⟨h2, h3, h4, h5, ?_⟩
  rcases h6 with h | ⟨b, off, c, fr, e1, e2, e3⟩
  · exact .inl h
  · refine .inr ⟨b, off, e1, (Array.getElem?_eq_some_iff.1 e2).1, fun i hi => ?_⟩
    have := e3 i hi
    simp [World.cell?, e2, this]
theorem Bytes5.of_own {W : World} {n₀ : Nat} {v : Value} {zs : List Nat} (h : Own n₀ W v zs) (hz : ∀ z ∈ zs, z < 256) : Bytes5 W v zs := by
  rcases h.2 with ⟨rfl, hl⟩ | ⟨g, cp, cur, rfl, hg, hgg, hnc, hcm, hcs, ht⟩
  · exact ⟨none, 0, 0, rfl, hl, Nat.le_refl _, by omega, hz, .inl rfl⟩
  · refine ⟨_, zs.length, cp, rfl, rfl, hnc, by simpa only [maxLen] using hcm, hz, .inr ⟨g, 0, cur, (0, 0), rfl, hgg, fun i hi => ?_⟩⟩
    have e : (cur.toList.take (zs.length * 1))[i]? = (u8s zs)[i]? := by rw [ht]
    rw [Nat.mul_one, List.getElem?_take, if_pos hi, u8s_at hi] at e
    rw [Nat.zero_add, ← Array.getElem?_toList]
    exact e
theorem Bytes5.head {W : World} {q : Option Addr} {len cap : Nat} {zs : List Nat} (h : Bytes5 W (.slice q len cap) zs) {k : Nat} (hk : k ≤ len) : Bytes5 W (.slice q k cap) (zs.take k) := by
  obtain ⟨q, len, cap, h1, h2, h3, h4, h5, h6⟩ := h
  cases h1
  refine ⟨q, k, cap, rfl, by rw [List.length_take]; omega, by omega, h4, fun z hz => h5 z (List.mem_of_mem_take hz), ?_⟩
  by_cases h0 : k = 0
  · exact .inl h0
  rcases h6 with h | ⟨b, off, c, fr, e1, e2, e3⟩
  · omega
  · refine .inr ⟨b, off, c, fr, e1, e2, fun i hi => ?_⟩
    rw [e3 i (by omega), List.getD_eq_getElem?_getD, List.getD_eq_getElem?_getD, List.getElem?_take, if_pos hi]

/-- A row of slices that is owned, with the bytes that they lead to. -/
def RecsAt (n₀ : Nat) (W : World) (v : Value) (recs : List (List Nat)) : Prop :=
  ∃ cells : List Value, W.ownsRow n₀ 25 1 v recs.length cells ∧ (∀ u ∈ cells, u.oneCell' = true) ∧ ∀ i, i < recs.length → Bytes5 W (cells.getD i undef) (recs.getD i [])
theorem RecsAt.nil (n₀ : Nat) (W : World) : RecsAt n₀ W (.slice none 0 0) [] := ⟨[], World.ownsRow_nil _ _ _ _, by simp, fun i hi => by simp at hi⟩
theorem RecsAt.kept {n₀ : Nat} {A B : World} {v : Value} {recs : List (List Nat)} (h : RecsAt n₀ A v recs) (h5 : KeepT 5 A B) (h25 : KeepT 25 A B) : RecsAt n₀ B v recs := by
  obtain ⟨cells, a1, a2, a3⟩ := h
  exact ⟨cells, h25.own a1, a2, fun i hi => (a3 i hi).kept h5⟩
theorem RecsAt.slice {n₀ : Nat} {W : World} {v : Value} {recs : List (List Nat)} (h : RecsAt n₀ W v recs) : ∃ q c, v = .slice q recs.length c := by
  obtain ⟨cells, a1, _⟩ := h
  exact slice_of_row a1
theorem RecsAt.cap {n₀ : Nat} {W : World} {q : Option Addr} {len c : Nat} {recs : List (List Nat)} (h : RecsAt n₀ W (.slice q len c) recs) : recs.length = len ∧ len ≤ c ∧ c ≤ 9223372036854775807 := by
  obtain ⟨cells, a1, _⟩ := h
  rcases a1.2 with ⟨e, h0⟩ | ⟨g, cp, cur, e, hg, hgg, hnc, hcm, hcs, ht⟩
  · cases e; exact ⟨h0, Nat.le_refl _, by omega⟩
  · cases e; exact ⟨rfl, hnc, by simpa only [maxLen] using hcm⟩
/-- One of them, read. -/
theorem RecsAt.at {n₀ : Nat} {W : World} {q : Option Addr} {len c : Nat} {recs : List (List Nat)} (h : RecsAt n₀ W (.slice q len c) recs) {i : Nat} (hi : i < len) : ∃ G x, q = some ⟨G, 0, none⟩ ∧ W.cell? ⟨G, i, none⟩ = some x ∧ Bytes5 W x (recs.getD i []) := by
  have hl := h.cap.1
  obtain ⟨cells, a1, a2, a3⟩ := h
  rcases a1.2 with ⟨e, h0⟩ | ⟨g, cp, cur, e, hg, hgg, hnc, hcm, hcs, ht⟩
  · cases e; omega
  · cases e
    have hlen : cells.length = recs.length := by have := a1.1; omega
    refine ⟨g, cells.getD i undef, rfl, ?_, a3 i (by omega)⟩
    have hi' : i < cells.length := by omega
    rw [a1.cellAt i (by omega), List.getD_eq_getElem?_getD, List.getElem?_eq_getElem hi', Option.getD_some]
theorem info25 : (Try.prog.info? 25).map (fun i => (i.zero, i.size, i.bytes)) = some (some (.slice none 0 0), 1, 24) := by kernel_rfl
/-- append of one slice of bytes. -/
theorem run_append_rec (w : World) (n₀ : Nat) (ty : TypeId) (v : Value) (recs : List (List Nat)) (h : RecsAt n₀ w v recs) (b : Nat) (x : Value) (zs : List Nat) (hx : Bytes5 w x zs) (hb : w.cell? ⟨b, 0, none⟩ = some x) (hlen : recs.length ≤ 100000) (hbase : n₀ ≤ w.heap.size) :
    ∃ v' w', (Builtin.append_ #[39, 39] ty #[v, .slice (some ⟨b, 0, none⟩) 1 1]).run Try.prog w = .ok v' w' ∧ RecsAt n₀ w' v' (recs ++ [zs]) ∧ w.grownBy w' v.ownBlock ∧ KeepT 5 w w' ∧ (∀ k, v.ownBlock = some k → n₀ ≤ k ∧ ∃ c fr, w.heap[k]? = some (Obj.cells c 25 fr)) := by
  obtain ⟨cells, a1, a2, a3⟩ := h
  obtain ⟨i0, hi, hz0, hz1, hz2⟩ := info_parts info25
  have hx1 : x.oneCell' = true := by
    obtain ⟨q, len, cap, e, _⟩ := hx
    rw [e]; rfl
  obtain ⟨v', w', hr, ho, hg, _⟩ := run_append_own (P := Try.prog) w n₀ 39 ty 25 i0 _ 1 24 Try.underlying39 hi hz0 hz1 hz2 (by simp [Value.cells]) (by omega) v recs.length cells a1 ⟨b, 0, none⟩ 1 1 [x] (by simp) (fun j u hu => by
    have : j = 0 := by
      by_cases h : j = 0
      · exact h
      · rw [List.getElem?_eq_none (by simp; omega)] at hu; cases hu
    subst this
    simp at hu
    subst hu
    rw [Addr.add_mid]; exact hb) (fun u hu => by rw [List.mem_singleton] at hu; subst hu; exact hx1) (by simp only [maxLen]; omega) (by omega) hbase
  have hk5 : KeepT 5 w w' := KeepT.row (t := 5) hg a1 (by decide)
  refine ⟨v', w', hr, ⟨cells ++ [x], by rw [List.length_append]; exact ho, fun u hu => ?_, fun i hi => ?_⟩, hg, hk5, fun k hk => ⟨(World.ownsRow.lt a1 k hk).1, row_tag a1 k hk⟩⟩
  · rcases List.mem_append.1 hu with h | h
    · exact a2 u h
    · rw [List.mem_singleton] at h; subst h; exact hx1
  · have hcl : cells.length = recs.length := by have := a1.1; omega
    rw [List.length_append, List.length_singleton] at hi
    by_cases h : i < recs.length
    · have e1 : (cells ++ [x]).getD i undef = cells.getD i undef := by rw [List.getD_eq_getElem?_getD, List.getElem?_append_left (by omega), List.getD_eq_getElem?_getD]
      have e2 : (recs ++ [zs]).getD i [] = recs.getD i [] := by rw [List.getD_eq_getElem?_getD, List.getElem?_append_left h, List.getD_eq_getElem?_getD]
      rw [e1, e2]
      exact (a3 i h).kept hk5
    · obtain rfl : i = recs.length := by omega
      have e1 : (cells ++ [x]).getD recs.length undef = x := by rw [← hcl]; simp
      have e2 : (recs ++ [zs]).getD recs.length [] = zs := by simp
      rw [e1, e2]
      exact hx.kept hk5
end Go.Proofs.Ytifjkkfienmdjaa
