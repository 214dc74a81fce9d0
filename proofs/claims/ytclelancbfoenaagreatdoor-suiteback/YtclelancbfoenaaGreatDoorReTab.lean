/-
  The program's two tables: the fixed words, and the places that each quarter turns. It names no program.
-/
import Derived.Test.YtclelancbfoenaaGreatDoorMade
import Derived.Test.YtclelancbfoenaaGreatDoorReChaSpec
namespace Go.Proofs.YtclelancbfoenaaGreatDoor.Re
open Go Go.RowKit

def fixedL : List Nat := [1634760805, 857760878, 2036477234, 1797285236]
/-- The places of quarter j. -/
def quarRow (j : Nat) : List Nat := [[0, 4, 8, 12], [1, 5, 9, 13], [2, 6, 10, 14], [3, 7, 11, 15], [0, 5, 10, 15], [1, 6, 11, 12], [2, 7, 8, 13], [3, 4, 9, 14]].getD j []
def quarL : List Nat := [0, 4, 8, 12, 1, 5, 9, 13, 2, 6, 10, 14, 3, 7, 11, 15, 0, 5, 10, 15, 1, 6, 11, 12, 2, 7, 8, 13, 3, 4, 9, 14]

/-- The program's tables hold them. -/
def Tab (w : World) : Prop := (∀ i, i < 4 → w.cell? ⟨0, i, none⟩ = some (.int .u32 (fixedL.getD i 0 : Nat))) ∧ (∀ i, i < 32 → w.cell? ⟨1, i, none⟩ = some (.int .u8 (quarL.getD i 0 : Nat)))
theorem Tab.below {n : Nat} {w w' : World} (h : Tab w) (hb : Below n w w') (hn : 1 < n) : Tab w' :=
  ⟨fun i hi => (hb.cell (p := ⟨0, i, none⟩) (by show 0 < n; omega)).trans (h.1 i hi), fun i hi => (hb.cell (p := ⟨1, i, none⟩) hn).trans (h.2 i hi)⟩
theorem Tab.pos {w : World} (h : Tab w) : 1 < w.heap.size := by have := World.block_lt_of_cell? w _ (h.2 0 (by omega)); exact this
theorem Tab.later {w w' : World} (h : Tab w) (hb : Below w.heap.size w w') : Tab w' := h.below hb h.pos
theorem Tab.fixed {w : World} (h : Tab w) : w.rangeAt 0 0 (u32s fixedL) := fun j v hv => by
  have hj : j < fixedL.length := by
    rcases Nat.lt_or_ge j fixedL.length with h | h
    · exact h
    · rw [List.getElem?_eq_none (by simpa using h)] at hv; cases hv
  rw [u32s_at hj] at hv
  cases hv
  rw [Nat.zero_add]
  exact h.1 j hj
theorem Tab.quarters {w : World} (h : Tab w) : w.rangeAt 1 0 (u8s quarL) := fun j v hv => by
  have hj : j < quarL.length := by
    rcases Nat.lt_or_ge j quarL.length with h | h
    · exact h
    · rw [List.getElem?_eq_none (by simpa using h)] at hv; cases hv
  rw [u8s_at hj] at hv
  cases hv
  rw [Nat.zero_add]
  exact h.2 j hj
end Go.Proofs.YtclelancbfoenaaGreatDoor.Re
