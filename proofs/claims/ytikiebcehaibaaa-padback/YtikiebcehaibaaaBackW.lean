/-
  What PadBack answers: true, whatever the bytes. Nothing that lay before the call has turned.
-/
import Derived.Test.YtikiebcehaibaaaOf
namespace Go.Proofs.Ytikiebcehaibaaa
open Go.RowKit

set_option maxHeartbeats 1000000 in
theorem padBack_long (p : Option Addr) (len cap : Nat) (hlen : 1000 < len) (w : World) :
    Calls Try.prog 5 #[.slice p len cap] w fun e w' => e = .returned (.bool true) ∧ Below w.heap.size w w' := by
  have h : (1000 : Int) < (len : Int) := by omega
  go_enter Try.func5, Try.ntmps5
  go_wp2_with (go_at_call 7; refine (awake_any _).mono ?_; rintro e w1 ⟨rfl, hb1⟩)
  go_ret
  exact ⟨rfl, hb1⟩

theorem firstB_small (z : Int) : ∀ (m j : Nat) (B : Int), ((32 * 2 ^ j : Nat) : Int) ≤ B → 2 * (z + 4) ≤ B → 0 ≤ B → (firstB z m j : Int) ≤ B
  | 0, _, B, _, _, h => by simpa [firstB] using h
  | m + 1, j, B, h1, h2, h3 => by
    rw [firstB]
    by_cases e : z + 4 ≤ ((32 * 2 ^ j : Nat) : Int)
    · rw [if_pos e]; exact h1
    · rw [if_neg e]
      exact firstB_small z m (j + 1) B (by rw [Nat.pow_succ]; omega) h2 h3

theorem bucketN_small {len : Nat} (h : len ≤ 1000) : bucketN len ≤ 60000 := by
  unfold bucketN
  rw [if_neg (by omega)]
  have := firstB_small (len : Int) 12 0 60000 (by decide) (by omega) (by decide)
  omega

theorem of_back (g K : Nat) (zs : List Nat) (n₀ : Nat) (W : World) (hK : K ≤ 60000) (hl : zs.length ≤ 65532) (hz : ∀ z ∈ zs, z < 256) (ho : Own n₀ W (.slice (some ⟨g, 0, none⟩) K K) (padL zs)) :
    Calls Try.prog 13 #[.slice (some ⟨g, 0, none⟩) K K] W fun e w' => ∃ v, e = .returned (.tuple #[v, .int .i64 0]) ∧ Str w' v (strOf zs) ∧ Below W.heap.size W w' := by
  have h := of_any _ K K (padL zs) hK W (ho.bytes (padL_lt hz))
  obtain ⟨h1, h2⟩ := isPad_padL hl
  rw [errU_pos h1, textU_pos h1, h2] at h
  exact h

set_option maxRecDepth 100000 in
set_option maxHeartbeats 1000000 in
theorem padBack_some (p : Option Addr) (len cap : Nat) (zs : List Nat) (hlen : len ≤ 1000) (w : World) (hI : IsBytes w.heap.size w p len cap zs) :
    Calls Try.prog 5 #[.slice p len cap] w fun e w' => e = .returned (.bool true) ∧ Below w.heap.size w w' := by
  have h : ¬ (1000 : Int) < (len : Int) := by omega
  have HSz : Hid (Str w (.slice p len cap) (strOf zs)) := str_of_bytes hI
  have HPu : Hid (∀ W, Below w.heap.size w W → Calls Try.prog 11 #[.slice p len cap] W fun e w' => ∃ g, e = .returned (.tuple #[.slice (some ⟨g, 0, none⟩) (bucketN len) (bucketN len), .int .i64 0]) ∧
      Own W.heap.size w' (.slice (some ⟨g, 0, none⟩) (bucketN len) (bucketN len)) (padL zs) ∧ Below W.heap.size W w') := fun W hW => put_some _ _ _ zs (by omega) _ (hI.later hW)
  have HOf : Hid (∀ g n₀ W, Own n₀ W (.slice (some ⟨g, 0, none⟩) (bucketN len) (bucketN len)) (padL zs) → Calls Try.prog 13 #[.slice (some ⟨g, 0, none⟩) (bucketN len) (bucketN len)] W fun e w' => ∃ v, e = .returned (.tuple #[v, .int .i64 0]) ∧ Str w' v (strOf zs) ∧ Below W.heap.size W w') :=
    fun g n₀ W ho => of_back g _ zs n₀ W (bucketN_small hlen) (by have := hI.1; omega) hI.2.2.2.1 ho
  have HRb : Hid (∀ W, Calls Try.prog 9 #[.int .i64 len] W fun e w' => e = .returned (.int .i64 (bucketN len : Nat)) ∧ w' = W) := fun W => refBucket_any _ (by omega) W
  clear hI
  generalize bucketN (len : Int) = K at *
  generalize strOf zs = S at *
  generalize padL zs = pd at *
  go_enter Try.func5, Try.ntmps5
  go_wp2_with (first
    | (go_at_call 7; refine (awake_any _).mono ?_; rintro e w1 ⟨rfl, hb1⟩)
    | (go_at_call 11; refine (HPu.out _ hb1).mono ?_; rintro e w2 ⟨g2, rfl, hown2, hb2⟩)
    | (go_at_call 13; refine (HOf.out _ _ _ hown2).mono ?_; rintro e w3 ⟨v3, rfl, hstr3, hb3⟩; have hbb : Below w.heap.size w w3 := (hb1.trans (hb2.mono hb1.size)).trans (hb3.mono (by have := hb1.size; have := hb2.size; omega)); have c1 := hstr3.here; have c2 := (HSz.out.later hbb).here)
    | (go_at_call 9; refine (HRb.out _).mono ?_; rintro e w4 ⟨rfl, hw4⟩; obtain rfl : w3 = w4 := hw4.symm; clear hw4))
  go_ret
  exact ⟨rfl, hbb⟩

/-- PadBack -/
theorem padBack_walk (p : Option Addr) (len cap : Nat) (zs : List Nat) (w : World) (hI : IsBytes w.heap.size w p len cap zs) :
    Calls Try.prog 5 #[.slice p len cap] w fun e w' => e = .returned (.bool true) ∧ Below w.heap.size w w' := by
  by_cases h : 1000 < len
  · exact padBack_long p len cap h w
  · exact padBack_some p len cap zs (by omega) w hI

end Go.Proofs.Ytikiebcehaibaaa
