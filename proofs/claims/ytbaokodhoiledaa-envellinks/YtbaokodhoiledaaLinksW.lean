/-
  EnvelLinks, walked.
-/
import Derived.Test.YtbaokodhoiledaaLinks2
import Derived.Test.YtbaokodhoiledaaRefLinks2
import Derived.Test.YtbaokodhoiledaaAwake
namespace Go.Proofs.Ytbaokodhoiledaa
open Go.RowKit

set_option maxRecDepth 100000 in
set_option maxHeartbeats 2000000 in
theorem links_small (p : Option Addr) (len cap : Nat) (ids : List (List Nat)) (hlen : len ≤ 60) (w : World) (hI : IsIds w.heap.size w p len cap ids) :
    Calls Try.prog 3 #[.slice p len cap] w fun e w' => e = .returned (.bool true) ∧ Below w.heap.size w w' := by
  have hli : ¬ (60 : Int) < (len : Int) := by omega
  have HL : Hid (∀ W, Below w.heap.size w W → Calls Try.prog 9 #[.slice p len cap] W (LinksPost W ids)) := fun W h => links_any p len cap ids (by omega) W ((hI.below h).mono h.size)
  have HR : Hid (∀ W, Below w.heap.size w W → Calls Try.prog 10 #[.slice p len cap] W fun e w' => ∃ q n c, e = .returned (.slice q n c) ∧ OutAt w' q n c (linksL ids) ∧ Below W.heap.size W w') := fun W h => refLinks_any p len cap ids (by omega) W ((hI.below h).mono h.size)
  clear hI
  go_enter Try.func3, Try.ntmps3
  go_wp2_with (first
    | (go_at_call 7; refine (awake_any w).mono ?_; rintro e w1 ⟨rfl, hb1⟩)
    | (go_at_call 9; refine (HL.out w1 hb1).mono ?_; rintro e w2 ⟨q2, n2, rfl, hI2, hb2⟩; have HI2 : Hid (IsIds w2.heap.size w2 q2 n2 n2 (linksL ids)) := hI2; have hB2 : Below w.heap.size w w2 := hb1.trans (hb2.mono hb1.size); clear hI2 hb2 hb1)
    | (go_at_call 10; refine (HR.out w2 hB2).mono ?_; rintro e w3 ⟨q3, n3, c3, rfl, hO3, hb3⟩; have HI3 : Hid (IsIds w3.heap.size w3 q3 n3 c3 (linksL ids)) := hO3.1; have HI23 : Hid (IsIds w3.heap.size w3 q2 n2 n2 (linksL ids)) := (HI2.out.below hb3).mono hb3.size; have hn3 : n3 = n2 := HI3.out.1.symm.trans HI23.out.1; subst hn3; have hB3 : Below w.heap.size w w3 := hB2.trans (hb3.mono hB2.size); clear hO3 hb3 hB2 HI2)
    | (go_at_call 8; refine (sameIds_any q2 _ _ q3 c3 (linksL ids) w3 HI23.out HI3.out).mono ?_; rintro e w4 ⟨rfl, hb4⟩))
  go_ret
  exact ⟨rfl, hB3.trans (hb4.mono hB3.size)⟩

set_option maxHeartbeats 1000000 in
theorem links_great (p : Option Addr) (len cap : Nat) (hlen : ¬ len ≤ 60) (w : World) :
    Calls Try.prog 3 #[.slice p len cap] w fun e w' => e = .returned (.bool true) ∧ Below w.heap.size w w' := by
  have hli : (60 : Int) < (len : Int) := by omega
  go_enter Try.func3, Try.ntmps3
  go_wp2_with (go_at_call 7; refine (awake_any w).mono ?_; rintro e w1 ⟨rfl, hb1⟩)
  go_ret
  exact ⟨rfl, hb1⟩

/-- EnvelLinks -/
theorem envelLinks_walk (p : Option Addr) (len cap : Nat) (ids : List (List Nat)) (w : World) (hI : IsIds w.heap.size w p len cap ids) :
    Calls Try.prog 3 #[.slice p len cap] w fun e w' => e = .returned (.bool true) ∧ Below w.heap.size w w' := by
  by_cases h : len ≤ 60
  · exact links_small p len cap ids h w hI
  · exact links_great p len cap h w
end Go.Proofs.Ytbaokodhoiledaa
