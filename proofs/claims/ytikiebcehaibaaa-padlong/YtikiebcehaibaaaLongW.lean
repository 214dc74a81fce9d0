/-
  What PadLong answers: true, whatever the number. Nothing that lay before the call has turned.
-/
import Derived.Test.YtikiebcehaibaaaPut
namespace Go.Proofs.Ytikiebcehaibaaa
open Go.RowKit

theorem bytes_of_made {W : World} {g n : Nat} (hr : Row W g 5 (u8s (List.replicate n 0))) (hn : n ≤ 9223372036854775807) : IsBytes W.heap.size W (some ⟨g, 0, none⟩) n n (List.replicate n 0) :=
  ⟨by simp, Nat.le_refl _, hn, fun z hz => by rw [(List.mem_replicate.1 hz).2]; decide, .inr ⟨g, 0, rfl, hr.lt, fun i hi => by rw [Nat.zero_add]; exact hr.cell (u8s_at (by simpa using hi))⟩⟩

set_option maxHeartbeats 1000000 in
theorem padLong_out (z : Int) (w : World) (hz : z < 0 ∨ 70000 < z) :
    Calls Try.prog 6 #[.int .i64 z] w fun e w' => e = .returned (.bool true) ∧ Below w.heap.size w w' := by
  by_cases h0 : z < 0
  · go_enter Try.func6, Try.ntmps6
    go_wp2_with (go_at_call 7; refine (awake_any _).mono ?_; rintro e w1 ⟨rfl, hb1⟩)
    go_ret
    exact ⟨rfl, hb1⟩
  · have h1 : 70000 < z := by omega
    go_enter Try.func6, Try.ntmps6
    go_wp2_with (go_at_call 7; refine (awake_any _).mono ?_; rintro e w1 ⟨rfl, hb1⟩)
    go_ret
    exact ⟨rfl, hb1⟩

set_option maxHeartbeats 1000000 in
theorem padLong_more (n : Nat) (w : World) (hn : n ≤ 70000) (hm : 65532 < n) :
    Calls Try.prog 6 #[.int .i64 n] w fun e w' => e = .returned (.bool true) ∧ Below w.heap.size w w' := by
  obtain ⟨i0, hi, hz0, hz1, hz2⟩ := info_parts info5
  have h0 : ¬ (n : Int) < 0 := by omega
  have h1 : ¬ (70000 : Int) < (n : Int) := by omega
  have h2 : (65532 : Int) < (n : Int) := by omega
  go_enter Try.func6, Try.ntmps6
  go_wp2_with (first
    | (go_at_call 7; refine (awake_any _).mono ?_; rintro e w1 ⟨rfl, hb1⟩)
    | (at_make; refine wpList_make_full _ rfl _ _ 28 rfl w1.heap.size 5 i0 (.int .u8 0) 1 Try.underlying28 hi hz0 hz1 _ _ _ _ n rfl rfl (by omega) (by omega) (by rw [hz2]; omega) (by simp only [maxLen]; omega) (Nat.le_refl _) ?_; intro w2 hown2 hgrow2; have hb2 : Below w1.heap.size w1 w2 := ((Below.refl _ w1).grown hgrow2 (Nat.le_refl _) (fun k e => by cases e)); clear hown2 hgrow2)
    | (go_at_call 11; refine (put_long _ n n hm (by omega) _).mono ?_; rintro e w3 ⟨rfl, hb3⟩))
  go_ret
  exact ⟨rfl, (hb1.trans (hb2.mono hb1.size)).trans (hb3.mono (by have := hb1.size; have := hb2.size; omega))⟩

set_option maxHeartbeats 1000000 in
theorem padLong_some (n : Nat) (w : World) (hn : n ≤ 65532) :
    Calls Try.prog 6 #[.int .i64 n] w fun e w' => e = .returned (.bool true) ∧ Below w.heap.size w w' := by
  obtain ⟨i0, hi, hz0, hz1, hz2⟩ := info_parts info5
  have h0 : ¬ (n : Int) < 0 := by omega
  have h1 : ¬ (70000 : Int) < (n : Int) := by omega
  have h2 : ¬ (65532 : Int) < (n : Int) := by omega
  go_enter Try.func6, Try.ntmps6
  go_wp2_with (first
    | (go_at_call 7; refine (awake_any _).mono ?_; rintro e w1 ⟨rfl, hb1⟩)
    | (at_make; refine wpList_make_full _ rfl _ _ 28 rfl w1.heap.size 5 i0 (.int .u8 0) 1 Try.underlying28 hi hz0 hz1 _ _ _ _ n rfl rfl (by omega) (by omega) (by rw [hz2]; omega) (by simp only [maxLen]; omega) (Nat.le_refl _) ?_; intro w2 hown2 hgrow2; rw [made_zeros] at hown2; have HI2 : Hid (IsBytes w2.heap.size w2 (some ⟨w1.heap.size, 0, none⟩) n n (List.replicate n 0)) := bytes_of_made (row_of_made hown2) (by omega); have hb2 : Below w1.heap.size w1 w2 := ((Below.refl _ w1).grown hgrow2 (Nat.le_refl _) (fun k e => by cases e)); clear hown2 hgrow2)
    | (go_at_call 11; refine (put_some _ n n _ hn _ HI2.out).mono ?_; rintro e w3 ⟨g3, rfl, hown3, hb3⟩; clear hown3)
    | (go_at_call 9; refine (refBucket_any _ (by omega) _).mono ?_; rintro e w4 ⟨rfl, hw4⟩; obtain rfl : w3 = w4 := hw4.symm; clear hw4))
  go_ret
  exact ⟨rfl, (hb1.trans (hb2.mono hb1.size)).trans (hb3.mono (by have := hb1.size; have := hb2.size; omega))⟩

/-- PadLong -/
theorem padLong_walk (z : Int) (w : World) (_ : -9223372036854775808 ≤ z ∧ z ≤ 9223372036854775807) :
    Calls Try.prog 6 #[.int .i64 z] w fun e w' => e = .returned (.bool true) ∧ Below w.heap.size w w' := by
  by_cases h : z < 0 ∨ 70000 < z
  · exact padLong_out z w h
  · obtain ⟨n, rfl⟩ : ∃ n : Nat, z = (n : Int) := ⟨z.toNat, by omega⟩
    by_cases h2 : 65532 < n
    · exact padLong_more n w (by omega) h2
    · exact padLong_some n w (by omega)

end Go.Proofs.Ytikiebcehaibaaa
