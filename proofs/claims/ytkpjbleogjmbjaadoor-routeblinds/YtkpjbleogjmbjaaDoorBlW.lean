/-
  The walk of RouteBlinds.
-/
import Derived.Test.YtkpjbleogjmbjaaDoorBlI
namespace Go.Proofs.YtkpjbleogjmbjaaDoor
open Classical
open Go.RowKit Go.Shelf

set_option maxRecDepth 100000 in
set_option maxHeartbeats 2000000 in
/-- A text, or the draws, that are too long. -/
theorem blinds_long (mode : Int) (p : Option Addr) (len cap : Nat) (hcap : len ≤ 9223372036854775807) (k : List Nat) (a b : ByteArray) (hl : 300 < a.size ∨ 300 < b.size ∨ 300 < len) (w : World) :
    Calls Tryd.prog 3 #[.int .i64 mode, .slice p len cap, .agg (u8s k).toArray, .string a, .string b] w fun e w' => e = .returned (.bool true) ∧ Below w.heap.size w w' := by
  obtain ⟨wa, hwa⟩ : ∃ wa, w.alloc (.cells (u8s k).toArray 24) = wa := ⟨_, rfl⟩
  have hba : Below w.heap.size w wa := by rw [← hwa]; exact (Below.refl _ w).alloc (Nat.le_refl _) _
  have HWA : Hid (w.alloc (.cells (u8s k).toArray 24) = wa) := hwa
  clear hwa
  generalize u8s k = Kz at *
  by_cases h1 : 300 < a.size
  · have q1 : decide ((300 : Int) < (a.size : Int)) = true := decide_eq_true (by omega)
    clear hl h1
    go_enter Tryd.func3, Tryd.ntmps3
    go_wp2_with (go_at_call 4; rw [HWA.out]; refine (awake_any wa).mono ?_; rintro e w1 ⟨rfl, hb1⟩)
    go_ret
    exact ⟨rfl, hba.trans (hb1.mono hba.size)⟩
  have q1 : decide ((300 : Int) < (a.size : Int)) = false := decide_eq_false (by omega)
  by_cases h2 : 300 < b.size
  · have q2 : decide ((300 : Int) < (b.size : Int)) = true := decide_eq_true (by omega)
    clear hl h1 h2
    go_enter Tryd.func3, Tryd.ntmps3
    go_wp2_with (go_at_call 4; rw [HWA.out]; refine (awake_any wa).mono ?_; rintro e w1 ⟨rfl, hb1⟩)
    go_ret
    exact ⟨rfl, hba.trans (hb1.mono hba.size)⟩
  have q2 : decide ((300 : Int) < (b.size : Int)) = false := decide_eq_false (by omega)
  have q3 : decide ((300 : Int) < (len : Int)) = true := decide_eq_true (by omega)
  clear hl h1 h2
  go_enter Tryd.func3, Tryd.ntmps3
  go_wp2_with (go_at_call 4; rw [HWA.out]; refine (awake_any wa).mono ?_; rintro e w1 ⟨rfl, hb1⟩)
  go_ret
  exact ⟨rfl, hba.trans (hb1.mono hba.size)⟩

theorem routeBlinds_walk (mode : Int) (p : Option Addr) (len cap : Nat) (zs : List Nat) (k : List Nat) (a b : ByteArray) (w : World) (hT : Sh.Tab w) (hZ : IsBytes w.heap.size w p len cap zs) (hk : IsKey32 k) :
    Calls Tryd.prog 3 #[.int .i64 mode, .slice p len cap, .agg (u8s k).toArray, .string a, .string b] w fun e w' => e = .returned (.bool true) ∧ Below w.heap.size w w' := by
  have hcap : len ≤ 9223372036854775807 := by have := hZ.2.1; have := hZ.2.2.1; omega
  by_cases hl : 300 < a.size ∨ 300 < b.size ∨ 300 < len
  · exact blinds_long mode p len cap hcap k a b hl w
  · rcases (show mode % 2 = 0 ∨ mode % 2 = 1 by omega) with hm | hm
    · exact blinds_real mode hm p len cap zs (by omega) k hk a b (by omega) (by omega) w hZ hT
    · exact blinds_ideal mode hm p len cap zs (by omega) k hk a b (by omega) (by omega) w hZ
end Go.Proofs.YtkpjbleogjmbjaaDoor
