/-
  The walk of RouteNames.
-/
import Derived.Test.YtkpjbleogjmbjaaAwake
namespace Go.Proofs.Ytkpjbleogjmbjaa
open Go.RowKit

theorem under_self (l : List UInt8) : underL l l = true := under_same (by simp)

set_option maxRecDepth 100000 in
set_option maxHeartbeats 1000000 in
theorem routeNames_walk (s t : ByteArray) (w : World) : Calls Try.prog 3 #[.string s, .string t] w fun e w' => e = .returned (.bool true) ∧ Below w.heap.size w w' := by
  by_cases h1 : 500 < s.size
  · have i1 : (500 : Int) < (s.size : Int) := by omega
    go_enter Try.func3, Try.ntmps3
    go_wp2_with (go_at_call 6; refine (awake_any w).mono ?_; rintro e w1 ⟨rfl, hb1⟩)
    go_ret
    exact ⟨rfl, hb1⟩
  have i1 : ¬ (500 : Int) < (s.size : Int) := by omega
  by_cases h2 : 500 < t.size
  · have i2 : (500 : Int) < (t.size : Int) := by omega
    go_enter Try.func3, Try.ntmps3
    go_wp2_with (go_at_call 6; refine (awake_any w).mono ?_; rintro e w1 ⟨rfl, hb1⟩)
    go_ret
    exact ⟨rfl, hb1⟩
  have i2 : ¬ (500 : Int) < (t.size : Int) := by omega
  have HG : Hid (∀ W, Calls Try.prog 7 #[.string s] W fun e w' => e = .returned (.bool (goodL (bytesOf s))) ∧ w' = W) := fun W => good_any s (by omega) W
  have HR : Hid (∀ W, Calls Try.prog 8 #[.string s] W fun e w' => e = .returned (.bool (goodL (bytesOf s))) ∧ w' = W) := fun W => refGood_any s (by omega) W
  have HU : Hid (∀ W, Calls Try.prog 9 #[.string s, .string t] W fun e w' => e = .returned (.bool (underL (bytesOf s) (bytesOf t))) ∧ w' = W) := fun W => under_any s t (by omega) W
  have HV : Hid (∀ W, Calls Try.prog 10 #[.string s, .string t] W fun e w' => e = .returned (.bool (underL (bytesOf s) (bytesOf t))) ∧ w' = W) := fun W => refUnder_any s t (by omega) W
  have HS : Hid (∀ W, Calls Try.prog 9 #[.string s, .string s] W fun e w' => e = .returned (.bool true) ∧ w' = W) := fun W => by
    have := under_any s s (by omega) W
    rwa [under_self] at this
  have d1 : decide ((500 : Int) < (s.size : Int)) = false := decide_eq_false i1
  have d2 : decide ((500 : Int) < (t.size : Int)) = false := decide_eq_false i2
  clear h1 h2 i1 i2
  generalize goodL (bytesOf s) = G at *
  generalize underL (bytesOf s) (bytesOf t) = U at *
  go_enter Try.func3, Try.ntmps3
  go_wp2_with (first
    | (go_at_call 6; refine (awake_any w).mono ?_; rintro e w1 ⟨rfl, hb1⟩)
    | (go_at_call 7; refine (HG.out w1).mono ?_; rintro e w2 ⟨rfl, hw2⟩; obtain rfl : w1 = w2 := hw2.symm; clear hw2)
    | (go_at_call 8; refine (HR.out w1).mono ?_; rintro e w2 ⟨rfl, hw2⟩; obtain rfl : w1 = w2 := hw2.symm; clear hw2)
    | (go_at_call 9; have _ := HMark; refine (HS.out w1).mono ?_; rintro e w2 ⟨rfl, hw2⟩; obtain rfl : w1 = w2 := hw2.symm; clear hw2)
    | (go_at_call 9; refine (HU.out w1).mono ?_; rintro e w2 ⟨rfl, hw2⟩; obtain rfl : w1 = w2 := hw2.symm; clear hw2)
    | (go_at_call 10; refine (HV.out w1).mono ?_; rintro e w2 ⟨rfl, hw2⟩; obtain rfl : w1 = w2 := hw2.symm; clear hw2; have HMark : Hid True := trivial))
  go_ret
  exact ⟨rfl, hb1⟩
end Go.Proofs.Ytkpjbleogjmbjaa
