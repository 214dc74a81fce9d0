/-
  How many sectors a record of any length takes: the law's walk.
-/
import Derived.Test.YtifjkkfienmdjaaAwS
namespace Go.Proofs.Ytifjkkfienmdjaa
open Go.RowKit Go.Shelf

set_option maxRecDepth 100000 in
set_option maxHeartbeats 2000000 in
theorem slogSpans_walk (n : Int) (w : World) (hn : -9223372036854775808 ≤ n ∧ n ≤ 9223372036854775807) : Calls Try.prog 3 #[.int .i64 n] w fun e w' => e = .returned (.bool true) ∧ Below w.heap.size w w' := by
  have HA : Hid (Calls Try.prog 8 #[] w fun e w' => e = .returned (.bool true) ∧ Below w.heap.size w w') := awake_any w
  by_cases h1 : 1000 < n
  · by_cases h2 : n < 261144
    · have e1 : ((spanN n : Nat) : Int) = 1 + (n - 51 + 63) / 64 := by unfold spanN; rw [if_neg (by omega)]; omega
      have g1 : decide ((1000 : Int) < n) = true := decide_eq_true h1
      have g2 : decide (n < (261144 : Int)) = true := decide_eq_true h2
      have g3 : -9223372036854775808 ≤ n - 51 + 63 ∧ n - 51 + 63 ≤ 9223372036854775807 := by omega
      have g4 : 0 ≤ n - 51 + 63 := by omega
      go_enter Try.func3, Try.ntmps3
      go_wp2_with (first
        | (go_at_call 8; refine HA.out.mono ?_; rintro e w1 ⟨rfl, hb1⟩)
        | (go_at_call 9; refine (span_any _ _).mono ?_; rintro e wq ⟨rfl, hwq⟩; obtain rfl := hwq.symm; clear hwq))
      go_ret
      exact ⟨by first | rfl | (simp; done) | (simp; omega), hb1⟩
    · have g1 : decide ((1000 : Int) < n) = true := decide_eq_true h1
      have g2 : decide (n < (261144 : Int)) = false := decide_eq_false h2
      go_enter Try.func3, Try.ntmps3
      go_wp2_with (first
        | (go_at_call 8; refine HA.out.mono ?_; rintro e w1 ⟨rfl, hb1⟩)
        | (go_at_call 9; refine (span_any _ _).mono ?_; rintro e wq ⟨rfl, hwq⟩; obtain rfl := hwq.symm; clear hwq)
        | (go_at_call 10; refine (refSpan_any _ _).mono ?_; rintro e wq ⟨rfl, hwq⟩; obtain rfl := hwq.symm; clear hwq))
      go_ret
      exact ⟨by first | rfl | (simp; done), hb1⟩
  · have g1 : decide ((1000 : Int) < n) = false := decide_eq_false h1
    go_enter Try.func3, Try.ntmps3
    go_wp2_with (first
      | (go_at_call 8; refine HA.out.mono ?_; rintro e w1 ⟨rfl, hb1⟩)
      | (go_at_call 9; refine (span_any _ _).mono ?_; rintro e wq ⟨rfl, hwq⟩; obtain rfl := hwq.symm; clear hwq)
      | (go_at_call 10; refine (refSpan_any _ _).mono ?_; rintro e wq ⟨rfl, hwq⟩; obtain rfl := hwq.symm; clear hwq))
    go_ret
    exact ⟨by first | rfl | (simp; done), hb1⟩
end Go.Proofs.Ytifjkkfienmdjaa
