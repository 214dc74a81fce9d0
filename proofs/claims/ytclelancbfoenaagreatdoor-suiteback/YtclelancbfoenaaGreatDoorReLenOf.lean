/-
  pad.lengthOf: the length that bytes tell, and whether they are as long as a text of that length filled up. Nothing that lay before the call has turned.
-/
import Derived.Test.YtclelancbfoenaaGreatDoorMade
import Derived.Test.YtclelancbfoenaaGreatDoorRePut
namespace Go.Proofs.YtclelancbfoenaaGreatDoor.Re
open Go.RowKit

theorem wordAt_take (cs : List Nat) : wordAt (cs.take 4) 0 = wordAt cs 0 := by
  simp [wordAt]

set_option maxHeartbeats 1000000 in
theorem lengthOf_short (p : Option Addr) (len cap : Nat) (hlen : len < 4) (w : World) :
    Calls Tryz.prog 62 #[.slice p len cap] w fun e w' => e = .returned (.tuple #[.int .i64 0, .bool false]) ∧ Below w.heap.size w w' := by
  have h4 : (len : Int) < 4 := by omega
  go_enter Tryz.func62, Tryz.ntmps62
  go_wp2
  refine bodyPost_ret (results_tmp2 rfl _ _ _) rfl ?_
  exact ⟨rfl, Below.refl _ _⟩

set_option maxRecDepth 100000 in
set_option maxHeartbeats 1000000 in
theorem lengthOf_some (p : Option Addr) (len cap : Nat) (cs : List Nat) (hlen : 4 ≤ len) (w : World) (hI : IsBytes w.heap.size w p len cap cs) :
    Calls Tryz.prog 62 #[.slice p len cap] w fun e w' => e = .returned (.tuple #[.int .i64 (wordAt cs 0 : Nat), .bool (decide (bucketN (wordAt cs 0) = len))]) ∧ Below w.heap.size w w' := by
  have h4 : ¬ (len : Int) < 4 := by omega
  have hcap : 4 ≤ cap := by have := hI.2.1; omega
  have hcap2 : cap ≤ 9223372036854775807 := hI.2.2.1
  have HH : Hid (IsBytes w.heap.size w p 4 cap (cs.take 4)) := hI.head hlen (by have := hI.2.1; omega) (Nat.le_refl _)
  have hn : wordAt cs 0 < 4294967296 := wordAt_lt cs hI.2.2.2.1 0
  obtain ⟨b, off, rfl⟩ : ∃ b off, p = some ⟨b, off, none⟩ := by
    rcases hI.2.2.2.2 with h | ⟨b, off, h, _⟩
    · omega
    · exact ⟨b, off, h⟩
  clear hI
  have HW : Hid (wordVals (cs.take 4) 1 = [.int .u32 (wordAt cs 0 : Nat)]) := by show _ = _; simp only [wordVals, List.range_one, List.map_cons, List.map_nil, wordAt_take]
  generalize wordAt cs 0 = n at *
  have hq : ((bucketN (n : Int) : Int) == (len : Int)) = decide (bucketN (n : Int) = len) := by
    rw [Bool.eq_iff_iff]; simp; omega
  have e1 : IntKind.i64.wrap (n : Int) = (n : Int) := by rw [IntKind.wrap_i64]; omega
  have HBk : Hid (∀ w, Calls Tryz.prog 25 #[.int .i64 n] w fun e w' => e = .returned (.int .i64 (bucketN n : Nat)) ∧ Below w.heap.size w w') := fun w => bucket_any _ (by omega) _
  generalize bucketN (n : Int) = K at *
  go_enter Tryz.func62, Tryz.ntmps62
  go_wp2_with (first
    | (go_at_call 79; refine (words_any _ 4 cap _ (by decide) _ HH.out).mono ?_; rintro e w1 ⟨v1, rfl, hown1, hb1⟩; rw [show 4 / 4 = 1 from rfl, HW.out] at hown1; obtain ⟨q1, c1, rfl⟩ := slice_of_row hown1; obtain ⟨g1, cur1, rfl, hg1, hr1, ht1⟩ := row_of_own hown1 (by decide); have hc1 : w1.cell? ⟨g1, 0, none⟩ = some (.int .u32 (n : Nat)) := hown1.cellAt 0 (by decide); clear hown1 hr1 ht1)
    | (go_at_call 25; refine (HBk.out _).mono ?_; rintro e w2 ⟨rfl, hb2⟩))
  refine bodyPost_ret (results_tmp2 rfl _ _ _) rfl ?_
  exact ⟨by rw [← hq]; rfl, hb1.trans (hb2.mono hb1.size)⟩

end Go.Proofs.YtclelancbfoenaaGreatDoor.Re
