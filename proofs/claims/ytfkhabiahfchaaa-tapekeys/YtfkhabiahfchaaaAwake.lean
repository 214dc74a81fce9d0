/-
  Clone; the example of the chapter.
-/
import Derived.Test.YtfkhabiahfchaaaTake
namespace Go.Proofs.Ytfkhabiahfchaaa
open Go.RowKit

set_option maxHeartbeats 1000000 in
/-- Clone -/
theorem clone_any (B : Nat) (zs : List Nat) (hlen : zs.length ≤ 70000) (w : World) (hT : TapeAt w B zs) :
    Calls Try.prog 11 #[.pointer (some ⟨B, 0, none⟩)] w fun e w' => ∃ C, e = .returned (.pointer (some ⟨C, 0, none⟩)) ∧ w.heap.size ≤ C ∧ TapeAt w' C zs ∧ Below w.heap.size w w' := by
  have hBl := hT.lt
  obtain ⟨q, len, cap, hr, hI⟩ := hT
  have c0 := hr.cell (i := 0) rfl
  have c1 := hr.cell (i := 1) rfl
  have hl := hI.1
  have HI : Hid (IsBytes w.heap.size w q len cap zs) := hI.mono (by omega)
  clear hr hI
  go_enter Try.func11, Try.ntmps11
  go_wp2_with (go_at_call 7; refine (new_any q len cap zs (by omega) _ HI.out).mono ?_; rintro e w1 ⟨C, rfl, hC, hT1, hb1⟩)
  go_ret
  exact ⟨C, rfl, hC, hT1, hb1⟩
theorem clone_none (w : World) : Calls Try.prog 11 #[.pointer none] w fun e w' => e = .returned (.pointer none) ∧ w' = w := by
  go_enter Try.func11, Try.ntmps11
  go_wp2
  go_ret
  exact ⟨rfl, rfl⟩

theorem bytes_three (w : World) : IsBytes (w.alloc (.cells #[.int .u8 1, .int .u8 2, .int .u8 3] 5)).heap.size (w.alloc (.cells #[.int .u8 1, .int .u8 2, .int .u8 3] 5)) (some ⟨w.heap.size, 0, none⟩) 3 3 [1, 2, 3] := by
  refine ⟨rfl, Nat.le_refl _, by omega, by decide, .inr ⟨w.heap.size, 0, rfl, by simp, fun i hi => ?_⟩⟩
  have hr := Row.new w 5 #[.int .u8 1, .int .u8 2, .int .u8 3]
  rw [Nat.zero_add]
  obtain rfl | rfl | rfl : i = 0 ∨ i = 1 ∨ i = 2 := by omega
  · exact hr.cell rfl
  · exact hr.cell rfl
  · exact hr.cell rfl

set_option maxRecDepth 100000 in
set_option maxHeartbeats 1000000 in
/-- awake -/
theorem awake_any (w : World) : Calls Try.prog 6 #[] w fun e w' => e = .returned (.bool true) ∧ Below w.heap.size w w' := by
  have HT1 : Hid (∀ B W, TapeAt W B [1, 2, 3] → Calls Try.prog 8 #[.pointer (some ⟨B, 0, none⟩), .int .i64 2] W fun e w' => ∃ g, e = .returned (.tuple #[.slice (some ⟨g, 0, none⟩) 2 2, .int .i64 0]) ∧ w'.cell? ⟨g, 1, none⟩ = some (.int .u8 2) ∧ TapeAt w' B [3] ∧ But B W.heap.size W w') := fun B W hT =>
    (take_some B 2 [1, 2, 3] (by decide) (by decide) (by decide) W hT).mono fun e w' ⟨g, h1, h2, h3, h4⟩ => ⟨g, h1, h2.cellAt 1 (by decide), h3, h4⟩
  have HT2 : Hid (∀ B W, TapeAt W B [3] → Calls Try.prog 8 #[.pointer (some ⟨B, 0, none⟩), .int .i64 2] W fun e w' => e = .returned (.tuple #[.slice none 0 0, .int .i64 60]) ∧ w' = W) := fun B W hT =>
    take_over _ 1 2 (by decide) (by decide) W (left_any B [3] W hT)
  have HL : Hid (∀ B W, TapeAt W B [3] → Calls Try.prog 10 #[.pointer (some ⟨B, 0, none⟩)] W fun e w' => e = .returned (.int .i64 1) ∧ w' = W) := fun B W hT => left_any B [3] W hT
  go_enter Try.func6, Try.ntmps6
  go_wp2_with (first
    | (go_at_call 7; refine (new_any _ 3 3 [1, 2, 3] (by decide) _ (bytes_three w)).mono ?_; rintro e w1 ⟨B, rfl, hB, hT1, hb1⟩)
    | (go_at_call 8; have h1 := HT1.out _ _ hT1; clear hT1; refine h1.mono ?_; clear h1; rintro e w2 ⟨g, rfl, hc2, hT2, hb2⟩)
    | (go_at_call 8; refine (HT2.out _ _ hT2).mono ?_; rintro e w3 ⟨rfl, hw3⟩; obtain rfl : w2 = w3 := hw3.symm; clear hw3)
    | (go_at_call 10; refine (HL.out _ _ hT2).mono ?_; rintro e w4 ⟨rfl, hw4⟩; obtain rfl : w2 = w4 := hw4.symm; clear hw4))
  go_ret
  simp only [World.size_alloc] at hB hb1
  have hs := hb1.size
  simp only [World.size_alloc] at hs
  refine ⟨rfl, ?_⟩
  exact (((Below.refl _ w).alloc (Nat.le_refl _) _).trans (hb1.mono (by omega))).trans (hb2.below (by omega) (by omega))

end Go.Proofs.Ytfkhabiahfchaaa
