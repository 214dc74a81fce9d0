/-
  What a reader's count and Text answer and leave.
-/
import Derived.Test.YtedpgdldekkgdaaRd2
namespace Go.Proofs.Ytedpgdldekkgdaa
open Go.RowKit

theorem readN_le (most : Nat) : ∀ (st : Option (List Nat)), (readN most st).1 ≤ most
  | none => Nat.zero_le _
  | some zs => by
    cases h : numL zs 0 0 with
    | none => rw [readN_bad h]; exact Nat.zero_le _
    | some y =>
      obtain ⟨x, s⟩ := y
      by_cases hm : most < x
      · rw [readN_over h hm]; exact Nat.zero_le _
      · rw [readN_some h hm]; exact Nat.le_of_not_lt hm

set_option maxHeartbeats 1000000 in
/-- count -/
theorem count_any (B : Nat) (st : Option (List Nat)) (z : Int) (hz : z ≤ 9223372036854775807) (w : World) (h : RdAt w B st) :
    Calls Try.prog 49 #[.pointer (some ⟨B, 0, none⟩), .int .i64 z] w fun e w' => e = .returned (.int .i64 ((readCount z st).1 : Nat)) ∧ RdAt w' B (readCount z st).2 ∧ But B w.heap.size w w' := by
  by_cases h0 : z < 0
  · have HFl : Hid (Calls Try.prog 47 #[.pointer (some ⟨B, 0, none⟩)] w fun e w' => (∃ v, e = .returned v) ∧ RdAt w' B none ∧ But B w.heap.size w w') := fail_any B st w h
    have HR : Hid (readCount z st = (0, none)) := if_pos h0
    rw [HR.out]
    clear h
    go_enter Try.func49, Try.ntmps49
    go_wp2_with (go_at_call 47; refine HFl.out.mono ?_; rintro e w1 ⟨⟨v1, rfl⟩, hR1, hb1⟩)
    go_ret
    exact ⟨rfl, hR1, hb1⟩
  · obtain ⟨m, rfl⟩ : ∃ m : Nat, z = (m : Int) := ⟨z.toNat, by omega⟩
    have HR : Hid (readCount (m : Int) st = readN m st) := by
      show _ = _
      rw [readCount, if_neg h0, Int.toNat_natCast]
    have HN : Hid (Calls Try.prog 30 #[.pointer (some ⟨B, 0, none⟩), .int .u64 (m : Nat)] w fun e w' => e = .returned (.int .u64 ((readN m st).1 : Nat)) ∧ RdAt w' B (readN m st).2 ∧ But B w.heap.size w w') := readerN_any B st m (by omega) w h
    have hle := readN_le m st
    rw [HR.out]
    generalize (readN m st).1 = x at *
    generalize (readN m st).2 = st' at *
    clear h HR
    have e1 : (m : Int) % 18446744073709551616 = (m : Int) := by omega
    go_enter Try.func49, Try.ntmps49
    go_wp2_with (go_at_call 30; refine HN.out.mono ?_; rintro e w1 ⟨rfl, hR1, hb1⟩)
    go_ret
    refine ⟨?_, hR1, hb1⟩
    go_num
theorem count_none (z : Int) (w : World) : Calls Try.prog 49 #[.pointer none, .int .i64 z] w fun e w' => e = .returned (.int .i64 0) ∧ w' = w := by
  by_cases h0 : z < 0
  · go_enter Try.func49, Try.ntmps49
    go_wp2_with (go_at_call 47; refine (fail_none w).mono ?_; rintro e w1 ⟨⟨v1, rfl⟩, hw1⟩; obtain rfl : w = w1 := hw1.symm; clear hw1)
    go_ret
    exact ⟨rfl, rfl⟩
  · go_enter Try.func49, Try.ntmps49
    go_wp2_with (go_at_call 30; refine (readerN_none _ w).mono ?_; rintro e w1 ⟨rfl, hw1⟩; obtain rfl : w = w1 := hw1.symm; clear hw1)
    go_ret
    exact ⟨rfl, rfl⟩

set_option maxHeartbeats 1000000 in
/-- Text -/
theorem readerText_any (B : Nat) (st : Option (List Nat)) (z : Int) (hz : z ≤ 9223372036854775807) (w : World) (h : RdAt w B st) :
    Calls Try.prog 31 #[.pointer (some ⟨B, 0, none⟩), .int .i64 z] w fun e w' => ∃ v, e = .returned v ∧ Own w.heap.size w' v (readText z st).1 ∧ RdAt w' B (readText z st).2 ∧ But B w.heap.size w w' := by
  have HC : Hid (Calls Try.prog 49 #[.pointer (some ⟨B, 0, none⟩), .int .i64 z] w fun e w' => e = .returned (.int .i64 ((readCount z st).1 : Nat)) ∧ RdAt w' B (readCount z st).2 ∧ But B w.heap.size w w') := count_any B st z hz w h
  clear h
  unfold readText
  generalize (readCount z st).1 = n at *
  generalize (readCount z st).2 = st' at *
  go_enter Try.func31, Try.ntmps31
  go_wp2_with (first
    | (go_at_call 49; refine HC.out.mono ?_; rintro e w1 ⟨rfl, hR1, hb1⟩)
    | (go_at_call 48; refine (readerRaw_any B st' n w1 hR1).mono ?_; rintro e w2 ⟨v2, rfl, hown2, hR2, hb2⟩))
  go_ret
  exact ⟨_, rfl, hown2.mono hb1.size, hR2, hb1.trans (hb2.mono hb1.size)⟩
theorem readerText_none (z : Int) (w : World) : Calls Try.prog 31 #[.pointer none, .int .i64 z] w fun e w' => e = .returned (.slice none 0 0) ∧ w' = w := by
  go_enter Try.func31, Try.ntmps31
  go_wp2_with (first
    | (go_at_call 49; refine (count_none z w).mono ?_; rintro e w1 ⟨rfl, hw1⟩; obtain rfl : w = w1 := hw1.symm; clear hw1)
    | (go_at_call 48; refine (readerRaw_none _ w).mono ?_; rintro e w1 ⟨rfl, hw1⟩; obtain rfl : w = w1 := hw1.symm; clear hw1))
  go_ret
  exact ⟨rfl, rfl⟩
end Go.Proofs.Ytedpgdldekkgdaa
