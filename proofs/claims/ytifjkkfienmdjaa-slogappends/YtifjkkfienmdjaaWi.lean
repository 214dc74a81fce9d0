/-
  within, Len, Writes, Dead, refuses and strikes, of a disk and of one that nobody made.
-/
import Derived.Test.YtifjkkfienmdjaaDisk
namespace Go.Proofs.Ytifjkkfienmdjaa
open Go.RowKit

set_option maxHeartbeats 1000000 in
theorem within_any (n m : Int) (w : World) : Calls Try.prog 38 #[.int .i64 n, .int .i64 m] w fun e w' => e = .returned (.int .i64 (min (max n 0) m)) ∧ w' = w := by
  go_enter Try.func38, Try.ntmps38
  go_wp2
  all_goals
    go_ret
    refine ⟨congrArg (fun z => Ending.returned (Value.int IntKind.i64 z)) (?_ : _ = min (max n 0) m), rfl⟩
    omega

variable {F : List Nat} {p g : Nat} {d : St} {w : World}
set_option maxHeartbeats 1000000 in
theorem len_any (h : DiskAt F w p g d) : Calls Try.prog 44 #[.pointer (some ⟨p, 0, none⟩)] w fun e w' => e = .returned (.int .i64 (d.ss.length : Nat)) ∧ w' = w := by
  obtain ⟨h1, h2, h3, h4, h5, q, len, cap, h6, h7⟩ := h
  have c2 := h6.cell (i := 2) rfl
  have hl := h1.few
  clear h5 h6 h7
  go_enter Try.func44, Try.ntmps44
  go_wp2
  go_ret
  exact ⟨rfl, rfl⟩
theorem len_none (w : World) : Calls Try.prog 44 #[.pointer none] w fun e w' => e = .returned (.int .i64 0) ∧ w' = w := by
  go_enter Try.func44, Try.ntmps44
  go_wp2
  go_ret
  exact ⟨rfl, rfl⟩
set_option maxHeartbeats 1000000 in
theorem dead_any (h : DiskAt F w p g d) : Calls Try.prog 53 #[.pointer (some ⟨p, 0, none⟩)] w fun e w' => e = .returned (.bool d.dead) ∧ w' = w := by
  obtain ⟨h1, h2, h3, h4, h5, q, len, cap, h6, h7⟩ := h
  have c2 := h6.cell (i := 1) rfl
  clear h5 h6 h7
  go_enter Try.func53, Try.ntmps53
  go_wp2
  go_ret
  exact ⟨by simp, rfl⟩
theorem dead_none (w : World) : Calls Try.prog 53 #[.pointer none] w fun e w' => e = .returned (.bool true) ∧ w' = w := by
  go_enter Try.func53, Try.ntmps53
  go_wp2
  go_ret
  exact ⟨rfl, rfl⟩
set_option maxHeartbeats 1000000 in
theorem refuses_any (h : DiskAt F w p g d) (i : Int) : Calls Try.prog 42 #[.pointer (some ⟨p, 0, none⟩), .int .i64 i] w fun e w' => e = .returned (.int .i64 (d.err i)) ∧ w' = w := by
  have HD : Hid (Calls Try.prog 53 #[.pointer (some ⟨p, 0, none⟩)] w fun e w' => e = .returned (.bool d.dead) ∧ w' = w) := dead_any h
  have HL : Hid (Calls Try.prog 44 #[.pointer (some ⟨p, 0, none⟩)] w fun e w' => e = .returned (.int .i64 (d.ss.length : Nat)) ∧ w' = w) := len_any h
  clear h
  unfold St.err
  generalize d.ss.length = n at *
  cases hd : d.dead with
  | true =>
    rw [hd] at HD
    go_enter Try.func42, Try.ntmps42
    go_wp2_with (go_at_call 53; refine HD.out.mono ?_; rintro e w1 ⟨rfl, hw1⟩; obtain rfl : w = w1 := hw1.symm; clear hw1)
    go_ret
    exact ⟨rfl, rfl⟩
  | false =>
    rw [hd] at HD
    by_cases h0 : i < 0
    · go_enter Try.func42, Try.ntmps42
      go_wp2_with (go_at_call 53; refine HD.out.mono ?_; rintro e w1 ⟨rfl, hw1⟩; obtain rfl : w = w1 := hw1.symm; clear hw1)
      go_ret
      exact ⟨by simp, rfl⟩
    · by_cases h1 : (n : Int) ≤ i
      · go_enter Try.func42, Try.ntmps42
        go_wp2_with (first
          | (go_at_call 53; refine HD.out.mono ?_; rintro e w1 ⟨rfl, hw1⟩; obtain rfl : w = w1 := hw1.symm; clear hw1)
          | (go_at_call 44; refine HL.out.mono ?_; rintro e w1 ⟨rfl, hw1⟩; obtain rfl : w = w1 := hw1.symm; clear hw1))
        go_ret
        exact ⟨by simp, rfl⟩
      · go_enter Try.func42, Try.ntmps42
        go_wp2_with (first
          | (go_at_call 53; refine HD.out.mono ?_; rintro e w1 ⟨rfl, hw1⟩; obtain rfl : w = w1 := hw1.symm; clear hw1)
          | (go_at_call 44; refine HL.out.mono ?_; rintro e w1 ⟨rfl, hw1⟩; obtain rfl : w = w1 := hw1.symm; clear hw1))
        go_ret
        exact ⟨by simp, rfl⟩
theorem refuses_none (i : Int) (w : World) : Calls Try.prog 42 #[.pointer none, .int .i64 i] w fun e w' => e = .returned (.int .i64 131) ∧ w' = w := by
  go_enter Try.func42, Try.ntmps42
  go_wp2_with (go_at_call 53; refine (dead_none w).mono ?_; rintro e w1 ⟨rfl, hw1⟩; obtain rfl : w = w1 := hw1.symm; clear hw1)
  go_ret
  exact ⟨rfl, rfl⟩
set_option maxRecDepth 100000 in
set_option maxHeartbeats 1000000 in
theorem strikes_any (h : DiskAt F w p g d) : Calls Try.prog 43 #[.pointer (some ⟨p, 0, none⟩)] w fun e w' => e = .returned (.bool d.strikes) ∧ Below w.heap.size w w' := by
  obtain ⟨h1, h2, h3, h4, h5, q, len, cap, h6, h7⟩ := h
  have c3 := h6.cell (i := 3) rfl
  have c4 := h6.cell (i := 4) rfl
  obtain ⟨ss, cr, wr, dead⟩ := d
  simp only [St.strikes] at *
  cases cr with
  | nil =>
    have hl : len = 0 := h7.1.symm
    subst hl
    clear h5 h6 h7
    go_enter Try.func43, Try.ntmps43
    go_wp2_with (go_quiet (fail))
    all_goals (go_ret; exact ⟨rfl, below_drewN (Below.refl _ _) _⟩)
  | cons c r =>
    obtain ⟨a, k⟩ := c
    obtain ⟨b, off, rfl, hl, c5, c6⟩ := h7.first
    have hlen := h7.2.1
    have hcap := h7.2.2.1
    have hd : decide ((0 : Int) < ((len : Nat) : Int)) = true := decide_eq_true (by omega)
    clear h5 h6 h7
    go_enter Try.func43, Try.ntmps43
    go_wp2_with (go_quiet (fail))
    all_goals (go_ret; exact ⟨rfl, below_drewN (Below.refl _ _) _⟩)
end Go.Proofs.Ytifjkkfienmdjaa
