/-
  The law ShaSums, walked: for every slice of bytes it returns true.
-/
import Derived.Test.YtokjbldelpiejaaDoorAwake
import Derived.Test.YtokjbldelpiejaaDoorEq
import Derived.Test.YtokjbldelpiejaaDoorRefSum
namespace Go.Proofs.YtokjbldelpiejaaDoor
open Go.RowKit

set_option maxRecDepth 100000 in
set_option maxHeartbeats 1000000 in
theorem shaSums_walk (p : Option Addr) (len cap : Nat) (zs : List Nat) (w : World) (hT : Tab w) (hI : IsBytes w.heap.size w p len cap zs) :
    Calls Tryd.prog 3 #[.slice p len cap] w fun e w' => e = .returned (.bool true) ∧ Below w.heap.size w w' := by
  have HT : Hid (Tab w) := hT
  have HI : Hid (IsBytes w.heap.size w p len cap zs) := hI
  have hq := equal25 (u8s (sumN zs)) (u8s_int _ (digestN_length _))
  clear hT hI
  by_cases hlen : len ≤ 1000
  · have hli : ¬ (1000 : Int) < (len : Int) := by omega
    have H11 : Hid (∀ W, Below w.heap.size w W → Calls Tryd.prog 11 #[.slice p len cap] W fun e w' => e = .returned (.agg (u8s (sumN zs)).toArray) ∧ Below W.heap.size W w') := fun W hb => sum_any p len cap zs (by omega) W (HT.out.later hb) (HI.out.later hb)
    have H12 : Hid (∀ W, Below w.heap.size w W → Calls Tryd.prog 12 #[.slice p len cap] W fun e w' => e = .returned (.agg (u8s (sumN zs)).toArray) ∧ Below W.heap.size W w') := fun W hb => refSum_any p len cap zs W (by omega) (HI.out.later hb)
    generalize u8s (sumN zs) = V at *
    go_enter Tryd.func3, Tryd.ntmps3
    go_wp2_with (first
      | (go_at_call 10; refine (awake_any _ HT.out).mono ?_; rintro e w1 ⟨rfl, hb1⟩)
      | (go_at_call 11; refine (H11.out _ hb1).mono ?_; rintro e w2 ⟨rfl, hb2⟩; have hbB := hb1.trans (hb2.mono hb1.size))
      | (go_at_call 12; refine (H12.out _ hbB).mono ?_; rintro e w3 ⟨rfl, hb3⟩; have hbC := hbB.trans (hb3.mono hbB.size)))
    go_ret
    exact ⟨rfl, hbC⟩
  · have hli : (1000 : Int) < (len : Int) := by omega
    go_enter Tryd.func3, Tryd.ntmps3
    go_wp2_with (go_at_call 10; refine (awake_any _ HT.out).mono ?_; rintro e w1 ⟨rfl, hb1⟩)
    go_ret
    exact ⟨rfl, hb1⟩
end Go.Proofs.YtokjbldelpiejaaDoor
