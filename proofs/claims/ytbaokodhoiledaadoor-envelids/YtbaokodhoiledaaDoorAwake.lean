/-
  The law's awake and Few.
-/
import Derived.Test.YtbaokodhoiledaaDoorHead
namespace Go.Proofs.YtbaokodhoiledaaDoor
open Go.RowKit

theorem putE_first : putE 1 0 0 [] [] = [1, 0, 0, 0, 0] := by decide
theorem noIds (w : World) : IsIds w.heap.size w none 0 0 [] := ⟨rfl, Nat.le_refl _, by omega, by simp, .inl rfl⟩
theorem noBytes (w : World) : IsBytes w.heap.size w none 0 0 [] := ⟨rfl, Nat.le_refl _, by omega, by simp, .inl rfl⟩

set_option maxRecDepth 100000 in
set_option maxHeartbeats 1000000 in
/-- awake -/
theorem awake_any (w : World) : Calls Tryd.prog 4 #[] w fun e w' => e = .returned (.bool true) ∧ Below w.heap.size w w' := by
  have HP : Hid (Calls Tryd.prog 10 #[.agg #[.int .i64 1, .int .u32 0, .int .u32 0, .slice none 0 0, .slice none 0 0]] w fun e w' => ∃ g c, e = .returned (.tuple #[.slice (some ⟨g, 0, none⟩) 5 c, .int .i64 0]) ∧ w'.cell? ⟨g, 0, none⟩ = some (.int .u8 1) ∧ w'.cell? ⟨g, 4, none⟩ = some (.int .u8 0) ∧ Below w.heap.size w w') := by
    have h := put_some 1 0 0 none 0 0 [] none 0 0 [] rfl rfl (by omega) (by omega) (by omega) (by omega) w (noIds w) (noBytes w)
    rw [putE_first] at h
    refine Calls.mono h ?_
    rintro e w' ⟨v, rfl, ho, hb⟩
    obtain ⟨q, c, rfl⟩ := own_len ho (n := 5) rfl
    obtain ⟨g, rfl, _, _, hr⟩ := ho.cells (by omega)
    exact ⟨g, c, rfl, by simpa using hr 0 _ rfl, by simpa using hr 4 _ rfl, hb⟩
  go_enter Tryd.func4, Tryd.ntmps4
  go_wp2_with (go_at_call 10; refine HP.out.mono ?_; rintro e w1 ⟨g, c, rfl, hc0, hc4, hb1⟩)
  go_ret
  exact ⟨rfl, hb1⟩

set_option maxHeartbeats 1000000 in
/-- Few -/
theorem few_any (kd : Int) (rl ep : Nat) (p : Option Addr) (len cap : Nat) (q : Option Addr) (lb cb : Nat) (w : World) :
    Calls Tryd.prog 5 #[.agg #[.int .i64 kd, .int .u32 (rl : Nat), .int .u32 (ep : Nat), .slice p len cap, .slice q lb cb]] w fun e w' => e = .returned (.bool (decide (len ≤ 40 ∧ lb ≤ 1000))) ∧ Below w.heap.size w w' := by
  have hb0 : Below w.heap.size w (w.alloc (.cells #[.int .i64 kd, .int .u32 (rl : Nat), .int .u32 (ep : Nat), .slice p len cap, .slice q lb cb] 26)) := (Below.refl _ w).alloc (Nat.le_refl _) _
  by_cases h1 : len ≤ 40
  · have h1i : (len : Int) ≤ 40 := by omega
    by_cases h2 : lb ≤ 1000
    · have h2i : (lb : Int) ≤ 1000 := by omega
      go_enter Tryd.func5, Tryd.ntmps5
      go_wp2
      go_ret
      exact ⟨by simp [h1, h2], hb0⟩
    · have h2i : ¬ (lb : Int) ≤ 1000 := by omega
      go_enter Tryd.func5, Tryd.ntmps5
      go_wp2
      go_ret
      exact ⟨by simp, hb0⟩
  · have h1i : ¬ (len : Int) ≤ 40 := by omega
    go_enter Tryd.func5, Tryd.ntmps5
    go_wp2
    go_ret
    exact ⟨by simp, hb0⟩
end Go.Proofs.YtbaokodhoiledaaDoor
