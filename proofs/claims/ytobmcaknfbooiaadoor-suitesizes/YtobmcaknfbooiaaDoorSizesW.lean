/-
  What SuiteSizes answers: true, whatever the number. Nothing that lay before the call has turned.
-/
import Derived.Test.YtobmcaknfbooiaaDoorAwake
namespace Go.Proofs.YtobmcaknfbooiaaDoor
open Go.RowKit

set_option maxHeartbeats 1000000 in
/-- The reference's Size. -/
theorem refSize_any (z : Int) (hz : -9223372036854775808 ≤ z ∧ z ≤ 9223372036854775807) (w : World) :
    Calls Tryd.prog 19 #[.int .i64 z] w fun e w' => e = .returned (.int .i64 (sizeN z : Nat)) ∧ w' = w := by
  have HB := refBucket_any z hz w
  have hle : bucketN z ≤ 65536 := bucketN_le z
  have HS : Hid (sizeN z = if bucketN z = 0 then 0 else 44 + bucketN z) := rfl
  generalize bucketN z = k at *
  by_cases hk : k = 0
  · subst hk
    have HBH : Hid (Calls Tryd.prog 20 #[.int .i64 z] w fun e w' => e = .returned (.int .i64 ((0 : Nat) : Int)) ∧ w' = w) := HB
    clear HB
    go_enter Tryd.func19, Tryd.ntmps19
    go_wp2_with (go_at_call 20; refine HBH.out.mono ?_; rintro e w1 ⟨rfl, hw1⟩; obtain rfl : w = w1 := hw1.symm; clear hw1)
    go_ret
    exact ⟨by rw [HS.out]; rfl, rfl⟩
  · have HBH : Hid (Calls Tryd.prog 20 #[.int .i64 z] w fun e w' => e = .returned (.int .i64 (k : Nat)) ∧ w' = w) := HB
    clear HB
    have hk0 : (0 : Int) < (k : Int) := by omega
    have e1 : IntKind.i64.wrap ((k : Int) + 44) = ((44 + k : Nat) : Int) := by rw [IntKind.wrap_i64]; omega
    go_enter Tryd.func19, Tryd.ntmps19
    go_wp2_with (go_at_call 20; refine HBH.out.mono ?_; rintro e w1 ⟨rfl, hw1⟩; obtain rfl : w = w1 := hw1.symm; clear hw1)
    go_ret
    exact ⟨by rw [HS.out, if_neg hk]; push_cast; rfl, rfl⟩

theorem sizeN_zero (z : Int) : ((sizeN z : Int) == 0) = ((bucketN z : Int) == 0) := by
  unfold sizeN
  rw [Bool.eq_iff_iff]
  split
  · simp [*]
  · simp only [beq_iff_eq]; omega

set_option maxHeartbeats 1000000 in
theorem suiteSizes_walk (z : Int) (w : World) (hz : -9223372036854775808 ≤ z ∧ z ≤ 9223372036854775807) :
    Calls Tryd.prog 6 #[.int .i64 z] w fun e w' => e = .returned (.bool true) ∧ Below w.heap.size w w' := by
  have HA : Hid (Calls Tryd.prog 7 #[] w fun e w' => e = .returned (.bool true) ∧ Below w.heap.size w w') := awake_any w
  have HS : Hid (∀ S t d g W, SuiteAt W S 0 t d g → Calls Tryd.prog 16 #[.pointer (some ⟨S, 0, none⟩), .int .i64 z] W fun e w' => e = .returned (.int .i64 (sizeN z : Nat)) ∧ Below W.heap.size W w') := fun S t d g W h => size_some S 0 t d g z hz W h
  have HR : Hid (∀ W, Calls Tryd.prog 19 #[.int .i64 z] W fun e w' => e = .returned (.int .i64 (sizeN z : Nat)) ∧ w' = W) := fun W => refSize_any z hz W
  have HB : Hid (∀ W, Calls Tryd.prog 20 #[.int .i64 z] W fun e w' => e = .returned (.int .i64 (bucketN z : Nat)) ∧ w' = W) := fun W => refBucket_any z hz W
  have hzz := sizeN_zero z
  generalize sizeN z = k at *
  generalize bucketN z = m at *
  clear hz
  go_enter Tryd.func6, Tryd.ntmps6
  go_wp2_with (first
    | (go_at_call 7; refine HA.out.mono ?_; rintro e w1 ⟨rfl, hb1⟩)
    | (go_at_call 8; refine (newReal_any _ _).mono ?_; rintro e w2 ⟨S, g, rfl, hS, hs2, hb2⟩; have H1 : Hid (Calls Tryd.prog 16 #[.pointer (some ⟨S, 0, none⟩), .int .i64 z] w2 fun e w' => e = .returned (.int .i64 (k : Nat)) ∧ Below w2.heap.size w2 w') := HS.out S none none g w2 hs2; have HS2 : Hid (SuiteAt w2 S 0 none none g) := hs2; clear hs2)
    | (go_at_call 16; have h := H1.out; clear H1; refine h.mono ?_; clear h; rintro e w3 ⟨rfl, hb3⟩)
    | (go_at_call 16; refine (HS.out _ _ _ _ _ (HS2.out.later hb3)).mono ?_; rintro e w4 ⟨rfl, hb4⟩)
    | (go_at_call 19; refine (HR.out _).mono ?_; rintro e w5 ⟨rfl, hw5⟩; rw [hw5]; clear hw5)
    | (go_at_call 20; refine (HB.out _).mono ?_; rintro e w5 ⟨rfl, hw5⟩; rw [hw5]; clear hw5))
  go_ret
  exact ⟨rfl, hb1.trans ((hb2.mono hb1.size).trans ((hb3.mono (Nat.le_trans hb1.size hb2.size)).trans (hb4.mono (Nat.le_trans hb1.size (Nat.le_trans hb2.size hb3.size)))))⟩

end Go.Proofs.YtobmcaknfbooiaaDoor
