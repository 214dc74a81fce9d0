/-
  Slices that make has made, rows that are filled by copy; the beginning of a slice. What is owned outlasts a write to another block.
-/
import Derived.Test.YtlmfdifnkkdpfaaMem
import Derived.Test.YtlmfdifnkkdpfaaBut
import Derived.Test.YtlmfdifnkkdpfaaStr
import Derived.Laws.CopyOwn
namespace Go.Proofs.Ytlmfdifnkkdpfaa
open Go.RowKit

/-- The cells of a slice that make has just made. -/
theorem row_of_made {W : World} {n₀ g n : Nat} {e : TypeId} {xs : List Value} (h : W.ownsRow n₀ e 1 (.slice (some ⟨g, 0, none⟩) n n) n xs) : Row W g e xs := by
  rcases h.2 with ⟨h', _⟩ | ⟨g', cap', cur, h', _, hg, _, _, hcs, htake⟩
  · simp at h'
  · simp only [Value.slice.injEq, Option.some.injEq, Addr.mk.injEq, and_true, true_and] at h'
    obtain ⟨rfl, rfl⟩ := h'
    unfold Row
    rw [hg]
    have : cur.toList = xs := by rw [← htake, List.take_of_length_le (by simp; omega)]
    rw [← this]

theorem made_zeros (n : Nat) : (madeCells (Value.int .u8 0).cells (n * 1)).toList = u8s (List.replicate n 0) := by
  simp [madeCells, u8s, Value.cells, Nat.mod_one, List.map_const']

/-- A slice that is its whole row. -/
theorem own_of_row {W : World} {n₀ g : Nat} {zs : List Nat} (hr : Row W g 5 (u8s zs)) (hg : n₀ ≤ g) (hc : zs.length ≤ 9223372036854775807) : Own n₀ W (.slice (some ⟨g, 0, none⟩) zs.length zs.length) zs := by
  refine ⟨by simp, .inr ⟨g, zs.length, (u8s zs).toArray, rfl, hg, hr, Nat.le_refl _, by simpa only [maxLen] using hc, by simp, ?_⟩⟩
  exact List.take_of_length_le (by simp)

/-- What a copy reads: the bytes of a slice. -/
theorem bytes_src {n₀ : Nat} {W : World} {p : Option Addr} {len cap : Nat} {zs : List Nat} (h : IsBytes n₀ W p len cap zs) : 0 < (u8s zs).length → ∃ ad, p = some ad ∧ ∀ j v, (u8s zs)[j]? = some v → W.cell? (ad.add j) = some v := by
  intro h0
  obtain ⟨h1, _, _, _, rfl | ⟨b, off, rfl, hb, hcs⟩⟩ := h
  · simp at h0; omega
  · refine ⟨_, rfl, fun j v hv => ?_⟩
    have hj : j < zs.length := by
      rcases Nat.lt_or_ge j zs.length with h | h
      · exact h
      · rw [List.getElem?_eq_none (by simpa using h)] at hv; cases hv
    rw [Addr.add_mid, hcs j (by omega), ← u8s_at hj, hv]

theorem splice_all (ts : List Nat) (n : Nat) (h : ts.length = n) : splice (u8s (List.replicate n 0)) 0 (u8s ts) = u8s ts := by
  simp [splice, u8s, h]

/-- The first bytes of a slice. -/
theorem IsBytes.head {n₀ : Nat} {W : World} {p : Option Addr} {len cap : Nat} {zs : List Nat} (h : IsBytes n₀ W p len cap zs) {k c : Nat} (hk : k ≤ len) (hkc : k ≤ c) (hc : c ≤ cap) : IsBytes n₀ W p k c (zs.take k) := by
  obtain ⟨h1, h2, h3, h4, h5⟩ := h
  refine ⟨by simp; omega, hkc, by omega, fun z hz => h4 z (List.mem_of_mem_take hz), ?_⟩
  rcases h5 with h | ⟨b, off, rfl, hb, hc⟩
  · exact .inl (by omega)
  · refine .inr ⟨b, off, rfl, hb, fun i hi => ?_⟩
    rw [hc i (by omega)]
    simp [hi]

/-- What is owned is not turned by a write to a block below it. -/
theorem Own.but {A A' : World} {n₀ B : Nat} {v : Value} {zs : List Nat} (h : Own n₀ A v zs) (hb : But B A.heap.size A A') (hB : B < n₀) : Own n₀ A' v zs := by
  refine ⟨h.1, ?_⟩
  rcases h.2 with hn | ⟨g, cap, cur, rfl, hg, hgg, rest⟩
  · exact .inl hn
  · exact .inr ⟨g, cap, cur, rfl, hg, (hb.block g (Array.getElem?_eq_some_iff.1 hgg).1 (by omega)).trans hgg, rest⟩
theorem own_str {W : World} {n₀ : Nat} {v : Value} {zs : List Nat} (h : Own n₀ W v zs) : Str W v (strOf zs) := str_of_row rfl h

end Go.Proofs.Ytlmfdifnkkdpfaa
