/-
  A text with all that stands behind it, cut into pieces of 64, is the blocks that sha.blocks tells.
-/
import Derived.Test.YtkpjbleogjmbjaaDoorBaseAll
import Derived.Test.YtkpjbleogjmbjaaDoorShSum
namespace Go.Proofs.YtkpjbleogjmbjaaDoor.Sh
open Go Go.RowKit

/-- What is filled in behind a text: so many noughts. -/
def gapN (len : Nat) : Nat := (119 - len % 64) % 64
/-- A text with all that stands behind it. -/
def padL (zs : List Nat) : List Nat := zs ++ 128 :: List.replicate (gapN zs.length) 0 ++ be8 (8 * zs.length % 18446744073709551616)
theorem padL_length (zs : List Nat) : (padL zs).length = zs.length + 9 + gapN zs.length := by simp [padL, be8_length]; omega
theorem padL_mod (zs : List Nat) : (padL zs).length % 64 = 0 := by rw [padL_length]; unfold gapN; omega

theorem fullL_append (a b : List Nat) (k : Nat) (h : 64 * k ≤ a.length) : fullL (a ++ b) k = fullL a k := by
  unfold fullL
  apply List.map_congr_left
  intro j hj
  have hj' := List.mem_range.1 hj
  rw [List.drop_append_of_le_length (by omega), List.take_append_of_le_length (by simp; omega)]

theorem padL_blocks (zs : List Nat) : fullL (padL zs) ((padL zs).length / 64) = blocksL zs := by
  have hk : 64 * (zs.length / 64) ≤ zs.length := by omega
  have hr : (zs.drop (64 * (zs.length / 64))).length = zs.length % 64 := by simp; omega
  have e0 : ∀ B, (zs ++ B).drop (64 * (zs.length / 64)) = zs.drop (64 * (zs.length / 64)) ++ B := fun B => List.drop_append_of_le_length hk
  have eP : ∃ B, padL zs = zs ++ B ∧ B = 128 :: List.replicate (gapN zs.length) 0 ++ be8 (8 * zs.length % 18446744073709551616) := ⟨_, by simp [padL], rfl⟩
  obtain ⟨B, hB, hBe⟩ := eP
  unfold blocksL lastL
  rw [hr]
  by_cases h : zs.length % 64 < 56
  · have hg : gapN zs.length = 55 - zs.length % 64 := by unfold gapN; omega
    have hl : (padL zs).length / 64 = zs.length / 64 + 1 := by rw [padL_length, hg]; omega
    rw [if_pos h, hl, ← fullL_succ, hB, fullL_append _ _ _ hk, e0]
    congr 2
    rw [List.take_of_length_le (by rw [List.length_append, hr, hBe, hg]; simp [be8_length]; omega), hBe, hg]
    simp
  · have hg : gapN zs.length = 119 - zs.length % 64 := by unfold gapN; omega
    have hl : (padL zs).length / 64 = zs.length / 64 + 1 + 1 := by rw [padL_length, hg]; omega
    rw [if_neg h, hl, ← fullL_succ, ← fullL_succ, hB, fullL_append _ _ _ hk, e0, List.append_assoc]
    have e1 : B = (128 :: List.replicate (63 - zs.length % 64) 0) ++ (List.replicate 56 0 ++ be8 (8 * zs.length % 18446744073709551616)) := by
      rw [hBe, hg, show 119 - zs.length % 64 = (63 - zs.length % 64) + 56 by omega, ← List.replicate_append_replicate]
      simp
    have l1 : (zs.drop (64 * (zs.length / 64)) ++ 128 :: List.replicate (63 - zs.length % 64) 0).length = 64 := by
      rw [List.length_append, hr]; simp; omega
    congr 1
    have e2 : (zs ++ B).drop (64 * (zs.length / 64 + 1)) = List.replicate 56 0 ++ be8 (8 * zs.length % 18446744073709551616) := by
      rw [show 64 * (zs.length / 64 + 1) = 64 * (zs.length / 64) + 64 by omega, ← List.drop_drop, e0, e1, ← List.append_assoc, List.drop_append_of_le_length (by omega), List.drop_eq_nil_of_le (by omega), List.nil_append]
    rw [e2, e1, ← List.append_assoc, List.take_append_of_le_length (by omega), List.take_of_length_le (by omega), List.take_of_length_le (by simp [be8_length])]
    rfl

theorem padL_lt (zs : List Nat) (hz : ∀ z ∈ zs, z < 256) : ∀ z ∈ padL zs, z < 256 := by
  intro z h
  rcases List.mem_append.1 h with h | h
  · rcases List.mem_append.1 h with h | h
    · exact hz z h
    · rcases List.mem_cons.1 h with h | h
      · omega
      · have := (List.mem_replicate.1 h).2; omega
  · exact be8_lt _ z h
theorem full_ok (M : List Nat) (hM : ∀ z ∈ M, z < 256) (k : Nat) (hk : 64 * (k + 1) ≤ M.length) : BlockOk ((M.drop (64 * k)).take 64) :=
  ⟨by simp; omega, fun z hz => hM z (List.mem_of_mem_drop (List.mem_of_mem_take hz))⟩
theorem take_block (M : List Nat) (k : Nat) : M.take (64 * k) ++ (M.drop (64 * k)).take 64 = M.take (64 * (k + 1)) := by
  rw [show 64 * (k + 1) = 64 * k + 64 by omega, List.take_add]
end Go.Proofs.YtkpjbleogjmbjaaDoor.Sh
