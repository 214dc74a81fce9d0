/-
  What codec.numberAt answers: the number that bytes begin with, and in how many of them it stands; noughts, if they begin with none.
-/
import Derived.Test.YtedpgdldekkgdaaApp
import Derived.Laws.Bits64b
import Derived.Laws.BitsAllLaws
namespace Go.Proofs.Ytedpgdldekkgdaa
open Go.RowKit

/-- The number and how many bytes. -/
def numR (zs : List Nat) : Nat × Nat := (numL zs 0 0).getD (0, 0)

theorem num_bound {c k : Nat} (h : c < 128 ∧ k ≤ 8 ∨ c ≤ 1 ∧ k ≤ 9) : c * 2 ^ (7 * k) < 18446744073709551616 := by
  rcases h with ⟨hc, hk⟩ | ⟨hc, hk⟩
  · exact Nat.lt_of_le_of_lt (Nat.mul_le_mul (show c ≤ 127 by omega) (Nat.pow_le_pow_right (show 0 < 2 by decide) (show 7 * k ≤ 56 by omega))) (by decide)
  · exact Nat.lt_of_le_of_lt (Nat.mul_le_mul hc (Nat.pow_le_pow_right (show 0 < 2 by decide) (show 7 * k ≤ 63 by omega))) (by decide)
theorem num_less {c k x : Nat} (hx : x < 2 ^ (7 * k)) (hc : c < 128) : x + c * 2 ^ (7 * k) < 2 ^ (7 * (k + 1)) := by
  rw [pow7]
  have : (c + 1) * 2 ^ (7 * k) ≤ 128 * 2 ^ (7 * k) := Nat.mul_le_mul_right _ (by omega)
  rw [Nat.add_mul] at this
  omega
theorem num_join {c k x : Nat} (hx : x < 2 ^ (7 * k)) (h : c < 128 ∧ k ≤ 8 ∨ c ≤ 1 ∧ k ≤ 9) : bits .or .u64 (x : Int) (IntKind.u64.wrap ((c : Int) * 2 ^ (7 * k))) = ((x + c * 2 ^ (7 * k) : Nat) : Int) := by
  have hb := num_bound h
  have hx64 : x < 18446744073709551616 := Nat.lt_of_lt_of_le hx (Nat.le_trans (Nat.pow_le_pow_right (show 0 < 2 by decide) (show 7 * k ≤ 63 by omega)) (by decide))
  have e : IntKind.u64.wrap ((c : Int) * 2 ^ (7 * k)) = ((c * 2 ^ (7 * k) : Nat) : Int) := by
    rw [show (c : Int) * 2 ^ (7 * k) = ((c * 2 ^ (7 * k) : Nat) : Int) by push_cast; rfl, IntKind.wrap_u64]
    omega
  rw [e, bits_or_u64_nat _ _ hx64 hb, Nat.or_comm, Nat.mul_comm c, ← Nat.two_pow_add_eq_or_of_lt hx, Nat.add_comm]

set_option maxRecDepth 100000 in
set_option maxHeartbeats 2000000 in
theorem numberAt_any (p : Option Addr) (len cap : Nat) (zs : List Nat) (w : World) (hI : IsBytes w.heap.size w p len cap zs) :
    Calls Try.prog 46 #[.slice p len cap] w fun e w' => e = .returned (.tuple #[.int .u64 ((numR zs).1 : Nat), .int .i64 ((numR zs).2 : Nat)]) ∧ w' = w := by
  have HI : Hid (IsBytes w.heap.size w p len cap zs) := hI
  have HL : Hid (zs.length = len) := hI.1
  have hl63 : len ≤ 9223372036854775807 := by have := hI.2.1; have := hI.2.2.1; omega
  clear hI
  go_enter Try.func46, Try.ntmps46
  go_wp2
  go_step3
  go_wp2
  go_step3
  go_wp2
  go_loop [4, 9] (fun y i => ∃ (k x : Nat), k ≤ len ∧ k ≤ 9 ∧ i = .int .i64 k ∧ y = .int .u64 x ∧ x < 2 ^ (7 * k) ∧ numL zs 0 0 = numL (zs.drop k) k x) (fun _ i => len - (intOf i).toNat)
  case atStart => exact ⟨0, 0, Nat.zero_le _, by omega, rfl, rfl, by simp, rfl⟩
  case round =>
    obtain ⟨k, x, hk, hk9, rfl, rfl, hx, he⟩ := hrel
    have HX : Hid (x < 2 ^ (7 * k)) := hx
    have HE : Hid (numL zs 0 0 = numL (zs.drop k) k x) := he
    clear hx he
    by_cases hlt : k < len
    · have hki : (k : Int) < (len : Int) := by omega
      obtain ⟨b, off, rfl, hb, hcell⟩ : ∃ b off, p = some ⟨b, off, none⟩ ∧ b < w.heap.size ∧ ∀ i, i < len → w.cell? ⟨b, off + i, none⟩ = some (.int .u8 (zs.getD i 0 : Nat)) := by
        rcases HI.out.2.2.2.2 with h | h
        · omega
        · exact h
      have hc1 := hcell k hlt
      have HZ : Hid (zs.getD k 0 < 256) := getD_of_all HI.out.2.2.2.1 k
      have HD : Hid (zs.drop k = zs.getD k 0 :: zs.drop (k + 1)) := by
        show _ = _
        have hkl : k < zs.length := by rw [HL.out]; exact hlt
        rw [List.drop_eq_getElem_cons hkl]
        simp [List.getElem?_eq_getElem hkl]
      generalize zs.getD k 0 = c at *
      clear hcell
      by_cases h9 : k = 9
      · subst h9
        by_cases h1 : 1 < c
        · have h1b : (1 : Int) < (c : Int) := by omega
          go_wp2
          refine bodyPost_ret (results_tmp2 rfl _ _ _) rfl ?_
          rw [numR, HE.out, HD.out, numL_over _ _ ⟨rfl, h1⟩]
          exact ⟨rfl, rfl⟩
        · have h1b : ¬ (1 : Int) < (c : Int) := by omega
          by_cases h0 : c = 0
          · subst h0
            go_wp2
            refine bodyPost_ret (results_tmp2 rfl _ _ _) rfl ?_
            rw [numR, HE.out, HD.out, numL_nought _ _ (by omega) (by omega)]
            exact ⟨rfl, rfl⟩
          · obtain rfl : c = 1 := by omega
            go_wp2
            refine bodyPost_ret (results_tmp2 rfl _ _ _) rfl ?_
            have hj : bits .or .u64 (x : Int) 9223372036854775808 = ((x + 1 * 2 ^ (7 * 9) : Nat) : Int) := by
              rw [← num_join (c := 1) HX.out (.inr ⟨Nat.le_refl _, Nat.le_refl _⟩), show IntKind.u64.wrap (((1 : Nat) : Int) * 2 ^ (7 * 9)) = 9223372036854775808 by decide +kernel]
            rw [numR, HE.out, HD.out, numL_last _ _ (by omega) (by omega) (by omega), hj]
            exact ⟨rfl, rfl⟩
      · have h9i : ¬ (k : Int) = 9 := by omega
        by_cases h0 : 0 < k ∧ c = 0
        · obtain ⟨h0k, rfl⟩ := h0
          have h0i : (0 : Int) < (k : Int) := by omega
          go_wp2
          refine bodyPost_ret (results_tmp2 rfl _ _ _) rfl ?_
          rw [numR, HE.out, HD.out, numL_nought _ _ (by omega) ⟨h0k, rfl⟩]
          exact ⟨rfl, rfl⟩
        · by_cases hc : c < 128
          · have hci : (c : Int) < 128 := by omega
            have HJ : Hid (bits .or .u64 (x : Int) (IntKind.u64.wrap ((c : Int) * 2 ^ (7 * k))) = ((x + c * 2 ^ (7 * k) : Nat) : Int)) := num_join HX.out (.inl ⟨hc, by omega⟩)
            have HEnd : Hid (numR zs = (x + c * 2 ^ (7 * k), k + 1)) := by
              show _ = _
              rw [numR, HE.out, HD.out, numL_last _ _ (by omega) h0 hc]
              rfl
            by_cases hk0 : k = 0
            · have h0i : ¬ (0 : Int) < (k : Int) := by omega
              clear hk0
              go_wp2
              refine bodyPost_ret (results_tmp2 rfl _ _ _) rfl ?_
              rw [HJ.out, HEnd.out]
              exact ⟨rfl, rfl⟩
            · have h0i : (0 : Int) < (k : Int) := by omega
              have h0c : ¬ (c : Int) = 0 := by omega
              go_wp2
              refine bodyPost_ret (results_tmp2 rfl _ _ _) rfl ?_
              rw [HJ.out, HEnd.out]
              exact ⟨rfl, rfl⟩
          · obtain ⟨d, rfl⟩ : ∃ d, c = d + 128 := ⟨c - 128, by omega⟩
            have hci : ¬ ((d + 128 : Nat) : Int) < 128 := by omega
            have hc0 : ¬ ((d + 128 : Nat) : Int) = 0 := by omega
            have hdm : (d : Int) % 256 = (d : Int) := by have := HZ.out; omega
            have HJ : Hid (bits .or .u64 (x : Int) (IntKind.u64.wrap ((d : Int) * 2 ^ (7 * k))) = ((x + d * 2 ^ (7 * k) : Nat) : Int)) := num_join HX.out (.inl ⟨by have := HZ.out; omega, by omega⟩)
            have HEnd : Hid (numL zs 0 0 = numL (zs.drop (k + 1)) (k + 1) (x + d * 2 ^ (7 * k))) := by
              show _ = _
              rw [HE.out, HD.out, numL_more _ _ (by omega) hc, Nat.add_sub_cancel]
            by_cases hk0 : (0 : Int) < (k : Int)
            all_goals
              go_wp2
              go_roundw
              case rel =>
                exact ⟨k + 1, x + d * 2 ^ (7 * k), by omega, by omega, by go_num, by rw [HJ.out], num_less HX.out (by have := HZ.out; omega), HEnd.out⟩
              case measure => simp [intOf]; omega
    · obtain rfl : k = len := by omega
      go_wp2
      refine bodyPost_ret (results_tmp2 rfl _ _ _) rfl ?_
      rw [numR, HE.out, List.drop_of_length_le (by rw [HL.out]; exact Nat.le_refl _), numL_nil]
      exact ⟨rfl, rfl⟩
end Go.Proofs.Ytedpgdldekkgdaa
