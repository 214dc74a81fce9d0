/-
  The law's own 'awake' answers true, for every start, and turns nothing that lay before.
-/
import Derived.Test.YthhjjijnjfbibaaWords
import Derived.Test.YthhjjijnjfbibaaRol
import Derived.ProofKit
namespace Go.Proofs.Ythhjjijnjfbibaa
open Go.RowKit

theorem wordAt_12345 : wordAt [1, 2, 3, 4, 5] 0 = 67305985 := by decide
theorem rolN_ex : rolN 2147483649 1 = 3 := by decide

/-- A slice that owns one element is written out. -/
theorem ownsRow_one {W : World} {n₀ : Nat} {e : TypeId} {v : Value} {x : Value} (h : W.ownsRow n₀ e 1 v 1 [x]) : ∃ g cap, v = .slice (some ⟨g, 0, none⟩) 1 cap ∧ W.cell? ⟨g, 0, none⟩ = some x := by
  obtain ⟨g, cap, rfl⟩ := ownsRow_succ h
  refine ⟨g, cap, rfl, ?_⟩
  have := h.cells (g := g) rfl 0 x rfl
  simpa [Addr.add] using this

theorem bytes5 (w : World) : IsBytes (w.alloc (.cells #[.int .u8 1, .int .u8 2, .int .u8 3, .int .u8 4, .int .u8 5] 5)).heap.size (w.alloc (.cells #[.int .u8 1, .int .u8 2, .int .u8 3, .int .u8 4, .int .u8 5] 5)) (some ⟨w.heap.size, 0, none⟩) 5 5 [1, 2, 3, 4, 5] := by
  refine ⟨rfl, by omega, by omega, by simp, .inr ⟨w.heap.size, 0, rfl, by simp, fun i hi => ?_⟩⟩
  have h := World.alloc_heap_new w (.cells #[.int .u8 1, .int .u8 2, .int .u8 3, .int .u8 4, .int .u8 5] 5)
  rw [cell_of_row _ w.heap.size (0 + i) _ 5 (0, 0) h]
  rcases i with _ | _ | _ | _ | _ | i
  · rfl
  · rfl
  · rfl
  · rfl
  · rfl
  · omega

theorem wordVals_one : wordVals [1, 2, 3, 4, 5] 1 = [.int .u32 67305985] := by
  show [Value.int .u32 ((wordAt [1, 2, 3, 4, 5] 0 : Nat) : Int)] = _
  rw [wordAt_12345]; rfl

/-- The words of the law's five bytes. -/
theorem words5 (w : World) : Calls Try.prog 11 #[.slice (some ⟨w.heap.size, 0, none⟩) 5 5] (w.alloc (.cells #[.int .u8 1, .int .u8 2, .int .u8 3, .int .u8 4, .int .u8 5] 5)) fun e W' =>
    ∃ g cap, e = .returned (.slice (some ⟨g, 0, none⟩) 1 cap) ∧ W'.cell? ⟨g, 0, none⟩ = some (.int .u32 67305985) ∧ Below w.heap.size w W' := by
  refine (words_any _ 5 5 _ (by omega) _ (bytes5 w)).mono ?_
  rintro e W' ⟨v, rfl, hrow, hb⟩
  have hrow' : W'.ownsRow _ 28 1 v 1 (wordVals [1, 2, 3, 4, 5] 1) := hrow
  rw [wordVals_one] at hrow'
  obtain ⟨g, cap, rfl, hc⟩ := ownsRow_one hrow'
  exact ⟨g, cap, rfl, hc, ((Below.refl _ w).alloc (Nat.le_refl _) _).trans (hb.mono (by simp))⟩

theorem rol_ex (w : World) : Calls Try.prog 15 #[.int .u32 2147483649, .int .i64 1] w fun e w' => e = .returned (.int .u32 3) ∧ w' = w := by
  have h := rol_any 2147483649 1 1 w (by omega) (by omega) (by omega)
  rw [rolN_ex] at h
  exact h

set_option maxHeartbeats 1000000 in
theorem awake_any (w : World) : Calls Try.prog 7 #[] w fun e w' => e = .returned (.bool true) ∧ Below w.heap.size w w' := by
  go_enter Try.func7, Try.ntmps7
  go_wp2_with (first | (go_at_call 11; refine (words5 w).mono ?_; rintro e w' ⟨g, cap, rfl, hc, hb⟩) | (go_at_call 15; refine (rol_ex _).mono ?_; rintro e w' ⟨rfl, rfl⟩))
  go_ret
  exact ⟨rfl, hb⟩
end Go.Proofs.Ythhjjijnjfbibaa
