/-
  The law's awake: chapter 8's examples.
-/
import Derived.Test.YtdebcpfjldgalaaRd3
namespace Go.Proofs.Ytdebcpfjldgalaa
open Go.RowKit

theorem enc300 : encs [300] = [172, 2] := by
  rw [encs_one, encN_great (by omega), encN_small (by omega)]
theorem read80 : readN 500 (some [128, 0]) = (0, none) := by decide
theorem bytes_two (w : World) : IsBytes (w.alloc (.cells #[.int .u8 128, .int .u8 0] 5)).heap.size (w.alloc (.cells #[.int .u8 128, .int .u8 0] 5)) (some ⟨w.heap.size, 0, none⟩) 2 2 [128, 0] := by
  refine ⟨rfl, by omega, by omega, by simp, .inr ⟨w.heap.size, 0, rfl, by simp, fun i hi => ?_⟩⟩
  have hr := Row.new w 5 #[.int .u8 128, .int .u8 0]
  rcases i with _ | _ | i
  · exact hr.cell (i := 0) rfl
  · exact hr.cell (i := 1) rfl
  · omega

set_option maxRecDepth 100000 in
set_option maxHeartbeats 1000000 in
theorem awake_any (w : World) : Calls Try.prog 8 #[] w fun e w' => e = .returned (.bool true) ∧ Below w.heap.size w w' := by
  have HN : Hid (∀ W, WrAt W w.heap.size [] → IsNums W (some ⟨w.heap.size + 1, 0, none⟩) 1 [300] → Calls Try.prog 25 #[.pointer (some ⟨w.heap.size, 0, none⟩), .slice (some ⟨w.heap.size + 1, 0, none⟩) 1 1] W fun e w' => (∃ v, e = .returned v) ∧ WrAt w' w.heap.size [172, 2] ∧ KeptW w.heap.size W w') := fun W h1 h2 => by
    have h := writerN_any w.heap.size [] [300] (some ⟨w.heap.size + 1, 0, none⟩) 1 1 W h1 h2 (by simp) (by omega)
    rw [enc300] at h
    exact h
  have h0 : Below w.heap.size w ((w.alloc (.cells #[.slice none 0 0] 46)).alloc (.cells #[.int .u64 300] 32)) := ((Below.refl _ w).alloc (Nat.le_refl _) _).alloc (by simp) _
  have HW0 : Hid (WrAt ((w.alloc (.cells #[.slice none 0 0] 46)).alloc (.cells #[.int .u64 300] 32)) w.heap.size []) := (WrAt.new w).alloc _
  have HN0 : Hid (IsNums ((w.alloc (.cells #[.slice none 0 0] 46)).alloc (.cells #[.int .u64 300] 32)) (some ⟨w.heap.size + 1, 0, none⟩) 1 [300]) := by
    have h := IsNums.one (w.alloc (.cells #[.slice none 0 0] 46)) 300 (by omega)
    rw [World.size_alloc] at h
    exact h
  have HN4 : Hid (∀ W B, RdAt W B (some [128, 0]) → Calls Try.prog 13 #[.pointer (some ⟨B, 0, none⟩), .int .u64 500] W fun e w' => e = .returned (.int .u64 0) ∧ RdAt w' B none ∧ But B W.heap.size W w') := fun W B h => by
    have h1 := readerN_any B (some [128, 0]) 500 (by omega) W h
    rw [read80] at h1
    exact h1
  go_enter Try.func8, Try.ntmps8
  go_wp2_with (first
    | (go_at_call 25; refine (HN.out _ HW0.out HN0.out).mono ?_; rintro e w1 ⟨⟨v1, rfl⟩, hW1, hk1⟩; have hb1 := h0.trans hk1.1; have HW1 : Hid (WrAt w1 w.heap.size [172, 2]) := hW1; clear hW1 hk1 HN HW0 HN0 h0)
    | (go_at_call 26; refine (writerBytes_any w.heap.size [172, 2] w1 HW1.out (by simp) (by simp)).mono ?_; rintro e w2 ⟨v2, rfl, hown2, hb2⟩; have hI2 := hown2; obtain ⟨q2, c2, hv2⟩ := own_len hown2 (n := 2) rfl; subst hv2; obtain ⟨g2, hq2, hg2, hgs2, hrg2⟩ := hown2.cells (by omega); subst hq2; have hbA := hb1.trans (hb2.mono hb1.size); have k0 : w2.cell? ⟨g2, 0, none⟩ = some (.int .u8 172) := hrg2 0 _ rfl; have k1 : w2.cell? ⟨g2, 1, none⟩ = some (.int .u8 2) := hrg2 1 _ rfl; clear hrg2 hown2 hI2)
    | (go_at_call 12; refine (read_any _ 2 2 [128, 0] (by omega) _ (bytes_two w2)).mono ?_; rintro e w3 ⟨B3, rfl, hB3, hR3, hb3⟩; have HR3 : Hid (RdAt w3 B3 (some [128, 0])) := hR3; have hbB : Below w2.heap.size w2 w3 := ((Below.refl _ w2).alloc (Nat.le_refl _) _).trans (hb3.mono (by simp)); have k0' := (hbB.cell (p := ⟨g2, 0, none⟩) hgs2).trans k0; have k1' := (hbB.cell (p := ⟨g2, 1, none⟩) hgs2).trans k1; have hbC := hbA.trans (hbB.mono hbA.size); have hBw : w.heap.size ≤ B3 := Nat.le_trans hbA.size (by simp at hB3; omega); clear hR3 hb3 k0 k1 hB3)
    | (go_at_call 13; refine (HN4.out w3 B3 HR3.out).mono ?_; rintro e w4 ⟨rfl, hR4, hb4⟩; have HR4 : Hid (RdAt w4 B3 none) := hR4; have hbD := hbC.trans (hb4.below hbC.size hBw); clear hR4 hb4)
    | (go_at_call 23; refine (end_any B3 none w4 HR4.out).mono ?_; rintro e w5 ⟨rfl, hw5⟩; obtain rfl : w4 = w5 := hw5.symm; clear hw5; unfold endE))
  go_ret
  exact ⟨rfl, hbD⟩
end Go.Proofs.Ytdebcpfjldgalaa
