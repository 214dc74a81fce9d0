/-
  Small laws of rows that are owned: how long such a slice is, what its cells are; a row in the middle. 
-/
import Derived.Test.YtlmfdifnkkdpfaaOwn
namespace Go.Proofs.Ytlmfdifnkkdpfaa
open Go Go.RowKit

theorem own_len {W : World} {n₀ : Nat} {v : Value} {zs : List Nat} (h : Own n₀ W v zs) {n : Nat} (hn : zs.length = n) : ∃ q c, v = .slice q n c := by
  obtain ⟨q, c, e⟩ := h.slice
  exact ⟨q, c, by rw [e, hn]⟩
theorem row_some {W : World} {n₀ k c : Nat} {e : TypeId} {size : Nat} {q : Option Addr} {xs : List Value} (h : W.ownsRow n₀ e size (.slice q k c) k xs) (hk : 0 < k) : ∃ g, q = some ⟨g, 0, none⟩ ∧ g < W.heap.size := by
  rcases h.2 with ⟨h', _⟩ | ⟨g, cap, cur, h', _, hg, _⟩
  · simp at h'; omega
  · simp only [Value.slice.injEq] at h'
    exact ⟨g, h'.1, (Array.getElem?_eq_some_iff.1 hg).1⟩
theorem row_at {W : World} {n₀ k : Nat} {e : TypeId} {v : Value} {xs : List Value} (h : W.ownsRow n₀ e 1 v k xs) {j : Nat} (hj : j < k) : xs[j]? = some (xs.getD j undef) := by
  have hl : j < xs.length := by rw [h.1]; omega
  simp [List.getElem?_eq_getElem hl]
theorem row_of_own {W : World} {n₀ k c : Nat} {e : TypeId} {size : Nat} {q : Option Addr} {xs : List Value} (h : W.ownsRow n₀ e size (.slice q k c) k xs) (hk : 0 < k) : ∃ g cur, q = some ⟨g, 0, none⟩ ∧ n₀ ≤ g ∧ Row W g e cur ∧ cur.take (k * size) = xs := by
  rcases h.2 with ⟨h', _⟩ | ⟨g, cap, cur, h', hg, hgg, _, _, _, ht⟩
  · simp at h'; omega
  · simp only [Value.slice.injEq] at h'
    exact ⟨g, cur.toList, h'.1, hg, by unfold Row; rw [Array.toArray_toList]; exact hgg, ht⟩
theorem Row.mid {W : World} {g : Nat} {e : TypeId} {cur xs : List Value} (h : Row W g e cur) {n : Nat} (ht : cur.take n = xs) (o l : Nat) (hl : o + l ≤ n) : W.rangeAt g o ((xs.drop o).take l) := by
  intro j v hj
  have hjl : j < l := by
    rcases Nat.lt_or_ge j l with h | h
    · exact h
    · rw [List.getElem?_eq_none (by simp; omega)] at hj; cases hj
  apply h.cell
  rw [← ht] at hj
  simpa [List.getElem?_take, List.getElem?_drop, hjl, show o + j < n by omega] using hj
/-- The whole blocks of a text; all blocks. -/
def fullL (zs : List Nat) (k : Nat) : List (List Nat) := (List.range k).map fun j => (zs.drop (64 * j)).take 64
theorem fullL_succ (zs : List Nat) (k : Nat) : fullL zs k ++ [(zs.drop (64 * k)).take 64] = fullL zs (k + 1) := by simp [fullL, List.range_succ]
@[simp] theorem fullL_length (zs : List Nat) (k : Nat) : (fullL zs k).length = k := by simp [fullL]
end Go.Proofs.Ytlmfdifnkkdpfaa
