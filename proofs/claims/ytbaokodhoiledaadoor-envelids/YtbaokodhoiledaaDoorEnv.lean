/-
  An envelope: what it holds, whether it may be (mayBe).
-/
import Derived.Test.YtbaokodhoiledaaDoorRise
namespace Go.Proofs.YtbaokodhoiledaaDoor
open Go.RowKit

theorem size26 : (Tryd.prog.info? 26).map (·.size) = some 5 := by kernel_rfl
/-- An envelope's five cells. -/
def envC (kd : Int) (rl ep : Nat) (p : Option Addr) (len cap : Nat) (q : Option Addr) (lb cb : Nat) : List Value := [.int .i64 kd, .int .u32 (rl : Nat), .int .u32 (ep : Nat), .slice p len cap, .slice q lb cb]
theorem envC_one (kd : Int) (rl ep : Nat) (p : Option Addr) (len cap : Nat) (q : Option Addr) (lb cb : Nat) : ∀ v ∈ envC kd rl ep p len cap q lb cb, v.oneCell' = true := by simp [envC, Value.oneCell']
/-- Whether a kind may be. -/
def okKind (kd : Int) : Bool := decide (1 ≤ kd ∧ kd ≤ 3)

set_option maxRecDepth 100000 in
set_option maxHeartbeats 1000000 in
/-- mayBe -/
theorem mayBe_any (kd : Int) (rl ep : Nat) (p : Option Addr) (len cap : Nat) (ids : List (List Nat)) (q : Option Addr) (lb cb : Nat) (hlen : len ≤ 1000) (hlb : lb ≤ 70000) (w : World) (hI : IsIds w.heap.size w p len cap ids) :
    Calls Tryd.prog 17 #[.agg #[.int .i64 kd, .int .u32 (rl : Nat), .int .u32 (ep : Nat), .slice p len cap, .slice q lb cb]] w fun e w' => e = .returned (.bool (okKind kd && riseB ids)) ∧ Below w.heap.size w w' := by
  have hli : (len : Int) ≤ 1000 := by omega
  have hbi : (lb : Int) ≤ 70000 := by omega
  have hb0 : Below w.heap.size w (w.alloc (.cells #[.int .i64 kd, .int .u32 (rl : Nat), .int .u32 (ep : Nat), .slice p len cap, .slice q lb cb] 26)) := (Below.refl _ w).alloc (Nat.le_refl _) _
  have HR : Hid (Calls Tryd.prog 30 #[.slice p len cap] (w.alloc (.cells #[.int .i64 kd, .int .u32 (rl : Nat), .int .u32 (ep : Nat), .slice p len cap, .slice q lb cb] 26)) fun e w' => e = .returned (.bool (riseB ids)) ∧ Below w.heap.size w w') := by
    refine (rising_any p len cap ids (by omega) _ ((hI.below hb0).mono hb0.size)).mono ?_
    rintro e w' ⟨h1, h2⟩
    exact ⟨h1, hb0.trans (h2.mono hb0.size)⟩
  clear hI
  generalize riseB ids = r at *
  by_cases h1 : kd = 1
  · subst h1
    go_enter Tryd.func17, Tryd.ntmps17
    go_wp2_with (go_at_call 30; refine HR.out.mono ?_; rintro e w1 ⟨rfl, hb1⟩)
    go_ret
    exact ⟨by simp [okKind], hb1⟩
  · by_cases h2 : kd = 2
    · subst h2
      go_enter Tryd.func17, Tryd.ntmps17
      go_wp2_with (go_at_call 30; refine HR.out.mono ?_; rintro e w1 ⟨rfl, hb1⟩)
      go_ret
      exact ⟨by simp [okKind], hb1⟩
    · by_cases h3 : kd = 3
      · subst h3
        go_enter Tryd.func17, Tryd.ntmps17
        go_wp2_with (go_at_call 30; refine HR.out.mono ?_; rintro e w1 ⟨rfl, hb1⟩)
        go_ret
        exact ⟨by simp [okKind], hb1⟩
      · have hk : okKind kd = false := by simp [okKind]; omega
        rw [hk]
        clear hk HR
        go_enter Tryd.func17, Tryd.ntmps17
        go_wp2
        go_ret
        exact ⟨rfl, hb0⟩
end Go.Proofs.YtbaokodhoiledaaDoor
