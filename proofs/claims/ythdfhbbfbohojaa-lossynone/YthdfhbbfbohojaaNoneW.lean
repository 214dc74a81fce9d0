/-
  A line that nobody made keeps nothing: the law's walk.
-/
import Derived.Test.YthdfhbbfbohojaaAw
namespace Go.Proofs.Ythdfhbbfbohojaa
open Go.RowKit Go.Shelf

set_option maxRecDepth 100000 in
set_option maxHeartbeats 4000000 in
theorem lossyNone_walk (q : Option Addr) (len cap : Nat) (zs : List Nat) (w : World) (_ : IsBytes w.heap.size w q len cap zs) : Calls Try.prog 5 #[.slice q len cap] w fun e w' => e = .returned (.bool true) ∧ Below w.heap.size w w' := by
  have HA : Hid (Calls Try.prog 6 #[] w fun e w' => e = .returned (.bool true) ∧ Below w.heap.size w w') := awake_any w
  go_enter Try.func5, Try.ntmps5
  go_wp2_with (first
    | (go_at_call 6; refine HA.out.mono ?_; rintro e w1 ⟨rfl, hb1⟩; obtain ⟨w2, hw2⟩ : ∃ w2, w1.alloc (.cells #[.bool false, .slice none 0 0, .int .i64 0, .slice none 0 0] 44) = w2 := ⟨_, rfl⟩; have hR : Row w2 w1.heap.size 44 [.bool false, .slice none 0 0, .int .i64 0, .slice none 0 0] := (by rw [← hw2]; exact Row.new w1 44 _); have G8 : Hid True := trivial; have G10 : Hid True := trivial; have G12 : Hid True := trivial; have hc0 := hR.cell (i := 0) rfl; have hc3 := hR.cell (i := 3) rfl; have HB : Hid (Below w.heap.size w w2) := (by rw [← hw2]; exact hb1.alloc hb1.size _); clear hb1 hR)
    | (go_at_call 8; clear G8; refine (send_nil _ _).mono ?_; rintro e w3 ⟨⟨v3, rfl⟩, hw3⟩; obtain rfl := hw3.symm; clear hw3)
    | (go_at_call 8; refine (send_zero _ _ hc0).mono ?_; rintro e w3 ⟨⟨v3, rfl⟩, hw3⟩; obtain rfl := hw3.symm; clear hw3)
    | (go_at_call 10; clear G10; refine (receive_nil _).mono ?_; rintro e w3 ⟨rfl, hw3⟩; obtain rfl := hw3.symm; clear hw3)
    | (go_at_call 10; refine (receive_none _ hc3).mono ?_; rintro e w3 ⟨rfl, hw3⟩; obtain rfl := hw3.symm; clear hw3)
    | (go_at_call 12; clear G12; refine (waiting_nil _).mono ?_; rintro e w3 ⟨rfl, hw3⟩; obtain rfl := hw3.symm; clear hw3)
    | (go_at_call 12; refine (waiting_row hc3).mono ?_; rintro e w3 ⟨rfl, hw3⟩; obtain rfl := hw3.symm; clear hw3))
  go_ret
  exact ⟨rfl, HB.out⟩
end Go.Proofs.Ythdfhbbfbohojaa
