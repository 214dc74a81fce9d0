/-
  EnvelIds, walked whole.
-/
import Derived.Test.YtbaokodhoiledaaDoorIdsI
namespace Go.Proofs.YtbaokodhoiledaaDoor
open Classical
open Go.RowKit Go.Shelf

set_option maxRecDepth 100000 in
set_option maxHeartbeats 1000000 in
theorem ids_great1 (mode : Int) (p : Option Addr) (len cap : Nat) (kd : Int) (rl ep : Nat) (p1 : Option Addr) (l1 c1 : Nat) (q1 : Option Addr) (lb1 cb1 : Nat) (kd' : Int) (rl' ep' : Nat) (p2 : Option Addr) (l2 c2 : Nat) (q2 : Option Addr) (lb2 cb2 : Nat) (hf1 : ¬ (l1 ≤ 40 ∧ lb1 ≤ 1000)) (w : World) :
    Calls Tryd.prog 3 #[.int .i64 mode, .slice p len cap, .agg #[.int .i64 kd, .int .u32 (rl : Nat), .int .u32 (ep : Nat), .slice p1 l1 c1, .slice q1 lb1 cb1], .agg #[.int .i64 kd', .int .u32 (rl' : Nat), .int .u32 (ep' : Nat), .slice p2 l2 c2, .slice q2 lb2 cb2]] w fun e w' => e = .returned (.bool true) ∧ Below w.heap.size w w' := by
  obtain ⟨wa, hwa⟩ : ∃ wa, (w.alloc (.cells #[.int .i64 kd, .int .u32 (rl : Nat), .int .u32 (ep : Nat), .slice p1 l1 c1, .slice q1 lb1 cb1] 26)).alloc (.cells #[.int .i64 kd', .int .u32 (rl' : Nat), .int .u32 (ep' : Nat), .slice p2 l2 c2, .slice q2 lb2 cb2] 26) = wa := ⟨_, rfl⟩
  have hba : Below w.heap.size w wa := by rw [← hwa]; exact ((Below.refl _ w).alloc (Nat.le_refl _) _).alloc (by simp) _
  have hsa : wa.heap.size = w.heap.size + 2 := by rw [← hwa]; simp
  have hr1 : Row wa w.heap.size 26 [.int .i64 kd, .int .u32 (rl : Nat), .int .u32 (ep : Nat), .slice p1 l1 c1, .slice q1 lb1 cb1] := by rw [← hwa]; exact (Row.new w 26 _).alloc _
  have hr2 : Row wa (w.heap.size + 1) 26 [.int .i64 kd', .int .u32 (rl' : Nat), .int .u32 (ep' : Nat), .slice p2 l2 c2, .slice q2 lb2 cb2] := by rw [← hwa]; exact Row.newAt _ _ _ (by simp)
  have HWA : Hid ((w.alloc (.cells #[.int .i64 kd, .int .u32 (rl : Nat), .int .u32 (ep : Nat), .slice p1 l1 c1, .slice q1 lb1 cb1] 26)).alloc (.cells #[.int .i64 kd', .int .u32 (rl' : Nat), .int .u32 (ep' : Nat), .slice p2 l2 c2, .slice q2 lb2 cb2] 26) = wa) := hwa
  have HR1 : Hid (∀ W, Below wa.heap.size wa W → W.cell? ⟨w.heap.size, 0, none⟩ = some (.int .i64 kd) ∧ W.cell? ⟨w.heap.size, 1, none⟩ = some (.int .u32 (rl : Nat)) ∧ W.cell? ⟨w.heap.size, 2, none⟩ = some (.int .u32 (ep : Nat)) ∧ W.cell? ⟨w.heap.size, 3, none⟩ = some (.slice p1 l1 c1) ∧ W.cell? ⟨w.heap.size, 4, none⟩ = some (.slice q1 lb1 cb1)) := fun W h =>
    have hr := hr1.later h
    ⟨hr.cell (i := 0) rfl, hr.cell (i := 1) rfl, hr.cell (i := 2) rfl, hr.cell (i := 3) rfl, hr.cell (i := 4) rfl⟩
  have HR2 : Hid (∀ W, Below wa.heap.size wa W → W.cell? ⟨w.heap.size + 1, 0, none⟩ = some (.int .i64 kd') ∧ W.cell? ⟨w.heap.size + 1, 1, none⟩ = some (.int .u32 (rl' : Nat)) ∧ W.cell? ⟨w.heap.size + 1, 2, none⟩ = some (.int .u32 (ep' : Nat)) ∧ W.cell? ⟨w.heap.size + 1, 3, none⟩ = some (.slice p2 l2 c2) ∧ W.cell? ⟨w.heap.size + 1, 4, none⟩ = some (.slice q2 lb2 cb2)) := fun W h =>
    have hr := hr2.later h
    ⟨hr.cell (i := 0) rfl, hr.cell (i := 1) rfl, hr.cell (i := 2) rfl, hr.cell (i := 3) rfl, hr.cell (i := 4) rfl⟩
  have HF1 : Hid (∀ W, Calls Tryd.prog 5 #[.agg #[.int .i64 kd, .int .u32 (rl : Nat), .int .u32 (ep : Nat), .slice p1 l1 c1, .slice q1 lb1 cb1]] W fun e w' => e = .returned (.bool false) ∧ Below W.heap.size W w') := fun W => by
    have := few_any kd rl ep p1 l1 c1 q1 lb1 cb1 W
    rw [decide_eq_false hf1] at this
    exact this
  clear hwa hr1 hr2 hf1 hsa
  go_enter Tryd.func3, Tryd.ntmps3
  go_wp2_with (first
    | (go_at_call 4; rw [HWA.out]; refine (awake_any wa).mono ?_; rintro e w1 ⟨rfl, hb1⟩; obtain ⟨a0, a1, a2, a3, a4⟩ := HR1.out w1 hb1)
    | ((with_reducible show Calls Tryd.prog 5 #[.agg #[.int .i64 kd, .int .u32 (rl : Nat), .int .u32 (ep : Nat), .slice p1 l1 c1, .slice q1 lb1 cb1]] _ _); refine (HF1.out w1).mono ?_; rintro e w2 ⟨rfl, hb2⟩; have hB2 : Below wa.heap.size wa w2 := hb1.trans (hb2.mono hb1.size); obtain ⟨b0, b1, b2, b3, b4⟩ := HR2.out w2 hB2; clear a0 a1 a2 a3 a4 hb2))
  go_ret
  exact ⟨rfl, hba.trans (hB2.mono hba.size)⟩

set_option maxRecDepth 100000 in
set_option maxHeartbeats 1000000 in
theorem ids_great2 (mode : Int) (p : Option Addr) (len cap : Nat) (kd : Int) (rl ep : Nat) (p1 : Option Addr) (l1 c1 : Nat) (q1 : Option Addr) (lb1 cb1 : Nat) (kd' : Int) (rl' ep' : Nat) (p2 : Option Addr) (l2 c2 : Nat) (q2 : Option Addr) (lb2 cb2 : Nat) (hf1 : l1 ≤ 40 ∧ lb1 ≤ 1000) (hf2 : ¬ (l2 ≤ 40 ∧ lb2 ≤ 1000)) (w : World) :
    Calls Tryd.prog 3 #[.int .i64 mode, .slice p len cap, .agg #[.int .i64 kd, .int .u32 (rl : Nat), .int .u32 (ep : Nat), .slice p1 l1 c1, .slice q1 lb1 cb1], .agg #[.int .i64 kd', .int .u32 (rl' : Nat), .int .u32 (ep' : Nat), .slice p2 l2 c2, .slice q2 lb2 cb2]] w fun e w' => e = .returned (.bool true) ∧ Below w.heap.size w w' := by
  obtain ⟨wa, hwa⟩ : ∃ wa, (w.alloc (.cells #[.int .i64 kd, .int .u32 (rl : Nat), .int .u32 (ep : Nat), .slice p1 l1 c1, .slice q1 lb1 cb1] 26)).alloc (.cells #[.int .i64 kd', .int .u32 (rl' : Nat), .int .u32 (ep' : Nat), .slice p2 l2 c2, .slice q2 lb2 cb2] 26) = wa := ⟨_, rfl⟩
  have hba : Below w.heap.size w wa := by rw [← hwa]; exact ((Below.refl _ w).alloc (Nat.le_refl _) _).alloc (by simp) _
  have hsa : wa.heap.size = w.heap.size + 2 := by rw [← hwa]; simp
  have hr1 : Row wa w.heap.size 26 [.int .i64 kd, .int .u32 (rl : Nat), .int .u32 (ep : Nat), .slice p1 l1 c1, .slice q1 lb1 cb1] := by rw [← hwa]; exact (Row.new w 26 _).alloc _
  have hr2 : Row wa (w.heap.size + 1) 26 [.int .i64 kd', .int .u32 (rl' : Nat), .int .u32 (ep' : Nat), .slice p2 l2 c2, .slice q2 lb2 cb2] := by rw [← hwa]; exact Row.newAt _ _ _ (by simp)
  have HWA : Hid ((w.alloc (.cells #[.int .i64 kd, .int .u32 (rl : Nat), .int .u32 (ep : Nat), .slice p1 l1 c1, .slice q1 lb1 cb1] 26)).alloc (.cells #[.int .i64 kd', .int .u32 (rl' : Nat), .int .u32 (ep' : Nat), .slice p2 l2 c2, .slice q2 lb2 cb2] 26) = wa) := hwa
  have HR1 : Hid (∀ W, Below wa.heap.size wa W → W.cell? ⟨w.heap.size, 0, none⟩ = some (.int .i64 kd) ∧ W.cell? ⟨w.heap.size, 1, none⟩ = some (.int .u32 (rl : Nat)) ∧ W.cell? ⟨w.heap.size, 2, none⟩ = some (.int .u32 (ep : Nat)) ∧ W.cell? ⟨w.heap.size, 3, none⟩ = some (.slice p1 l1 c1) ∧ W.cell? ⟨w.heap.size, 4, none⟩ = some (.slice q1 lb1 cb1)) := fun W h =>
    have hr := hr1.later h
    ⟨hr.cell (i := 0) rfl, hr.cell (i := 1) rfl, hr.cell (i := 2) rfl, hr.cell (i := 3) rfl, hr.cell (i := 4) rfl⟩
  have HR2 : Hid (∀ W, Below wa.heap.size wa W → W.cell? ⟨w.heap.size + 1, 0, none⟩ = some (.int .i64 kd') ∧ W.cell? ⟨w.heap.size + 1, 1, none⟩ = some (.int .u32 (rl' : Nat)) ∧ W.cell? ⟨w.heap.size + 1, 2, none⟩ = some (.int .u32 (ep' : Nat)) ∧ W.cell? ⟨w.heap.size + 1, 3, none⟩ = some (.slice p2 l2 c2) ∧ W.cell? ⟨w.heap.size + 1, 4, none⟩ = some (.slice q2 lb2 cb2)) := fun W h =>
    have hr := hr2.later h
    ⟨hr.cell (i := 0) rfl, hr.cell (i := 1) rfl, hr.cell (i := 2) rfl, hr.cell (i := 3) rfl, hr.cell (i := 4) rfl⟩
  have HF1 : Hid (∀ W, Calls Tryd.prog 5 #[.agg #[.int .i64 kd, .int .u32 (rl : Nat), .int .u32 (ep : Nat), .slice p1 l1 c1, .slice q1 lb1 cb1]] W fun e w' => e = .returned (.bool true) ∧ Below W.heap.size W w') := fun W => by
    have := few_any kd rl ep p1 l1 c1 q1 lb1 cb1 W
    rw [decide_eq_true hf1] at this
    exact this
  have HF2 : Hid (∀ W, Calls Tryd.prog 5 #[.agg #[.int .i64 kd', .int .u32 (rl' : Nat), .int .u32 (ep' : Nat), .slice p2 l2 c2, .slice q2 lb2 cb2]] W fun e w' => e = .returned (.bool false) ∧ Below W.heap.size W w') := fun W => by
    have := few_any kd' rl' ep' p2 l2 c2 q2 lb2 cb2 W
    rw [decide_eq_false hf2] at this
    exact this
  clear hwa hr1 hr2 hf1 hf2 hsa
  go_enter Tryd.func3, Tryd.ntmps3
  go_wp2_with (first
    | (go_at_call 4; rw [HWA.out]; refine (awake_any wa).mono ?_; rintro e w1 ⟨rfl, hb1⟩; obtain ⟨a0, a1, a2, a3, a4⟩ := HR1.out w1 hb1)
    | ((with_reducible show Calls Tryd.prog 5 #[.agg #[.int .i64 kd, .int .u32 (rl : Nat), .int .u32 (ep : Nat), .slice p1 l1 c1, .slice q1 lb1 cb1]] _ _); refine (HF1.out w1).mono ?_; rintro e w2 ⟨rfl, hb2⟩; have hB2 : Below wa.heap.size wa w2 := hb1.trans (hb2.mono hb1.size); obtain ⟨b0, b1, b2, b3, b4⟩ := HR2.out w2 hB2; clear a0 a1 a2 a3 a4 hb2)
    | ((with_reducible show Calls Tryd.prog 5 #[.agg #[.int .i64 kd', .int .u32 (rl' : Nat), .int .u32 (ep' : Nat), .slice p2 l2 c2, .slice q2 lb2 cb2]] _ _); refine (HF2.out w2).mono ?_; rintro e w3 ⟨rfl, hb3⟩; have hB3 : Below wa.heap.size wa w3 := hB2.trans (hb3.mono hB2.size); clear b0 b1 b2 b3 b4 hb3))
  go_ret
  exact ⟨rfl, hba.trans (hB3.mono hba.size)⟩

set_option maxRecDepth 100000 in
set_option maxHeartbeats 1000000 in
theorem ids_long (mode : Int) (p : Option Addr) (len cap : Nat) (hcap : len ≤ 9223372036854775807) (kd : Int) (rl ep : Nat) (p1 : Option Addr) (l1 c1 : Nat) (q1 : Option Addr) (lb1 cb1 : Nat) (kd' : Int) (rl' ep' : Nat) (p2 : Option Addr) (l2 c2 : Nat) (q2 : Option Addr) (lb2 cb2 : Nat) (hf1 : l1 ≤ 40 ∧ lb1 ≤ 1000) (hf2 : l2 ≤ 40 ∧ lb2 ≤ 1000) (hlong : 300 < len) (w : World) :
    Calls Tryd.prog 3 #[.int .i64 mode, .slice p len cap, .agg #[.int .i64 kd, .int .u32 (rl : Nat), .int .u32 (ep : Nat), .slice p1 l1 c1, .slice q1 lb1 cb1], .agg #[.int .i64 kd', .int .u32 (rl' : Nat), .int .u32 (ep' : Nat), .slice p2 l2 c2, .slice q2 lb2 cb2]] w fun e w' => e = .returned (.bool true) ∧ Below w.heap.size w w' := by
  obtain ⟨wa, hwa⟩ : ∃ wa, (w.alloc (.cells #[.int .i64 kd, .int .u32 (rl : Nat), .int .u32 (ep : Nat), .slice p1 l1 c1, .slice q1 lb1 cb1] 26)).alloc (.cells #[.int .i64 kd', .int .u32 (rl' : Nat), .int .u32 (ep' : Nat), .slice p2 l2 c2, .slice q2 lb2 cb2] 26) = wa := ⟨_, rfl⟩
  have hba : Below w.heap.size w wa := by rw [← hwa]; exact ((Below.refl _ w).alloc (Nat.le_refl _) _).alloc (by simp) _
  have hsa : wa.heap.size = w.heap.size + 2 := by rw [← hwa]; simp
  have hr1 : Row wa w.heap.size 26 [.int .i64 kd, .int .u32 (rl : Nat), .int .u32 (ep : Nat), .slice p1 l1 c1, .slice q1 lb1 cb1] := by rw [← hwa]; exact (Row.new w 26 _).alloc _
  have hr2 : Row wa (w.heap.size + 1) 26 [.int .i64 kd', .int .u32 (rl' : Nat), .int .u32 (ep' : Nat), .slice p2 l2 c2, .slice q2 lb2 cb2] := by rw [← hwa]; exact Row.newAt _ _ _ (by simp)
  have HWA : Hid ((w.alloc (.cells #[.int .i64 kd, .int .u32 (rl : Nat), .int .u32 (ep : Nat), .slice p1 l1 c1, .slice q1 lb1 cb1] 26)).alloc (.cells #[.int .i64 kd', .int .u32 (rl' : Nat), .int .u32 (ep' : Nat), .slice p2 l2 c2, .slice q2 lb2 cb2] 26) = wa) := hwa
  have HR1 : Hid (∀ W, Below wa.heap.size wa W → W.cell? ⟨w.heap.size, 0, none⟩ = some (.int .i64 kd) ∧ W.cell? ⟨w.heap.size, 1, none⟩ = some (.int .u32 (rl : Nat)) ∧ W.cell? ⟨w.heap.size, 2, none⟩ = some (.int .u32 (ep : Nat)) ∧ W.cell? ⟨w.heap.size, 3, none⟩ = some (.slice p1 l1 c1) ∧ W.cell? ⟨w.heap.size, 4, none⟩ = some (.slice q1 lb1 cb1)) := fun W h =>
    have hr := hr1.later h
    ⟨hr.cell (i := 0) rfl, hr.cell (i := 1) rfl, hr.cell (i := 2) rfl, hr.cell (i := 3) rfl, hr.cell (i := 4) rfl⟩
  have HR2 : Hid (∀ W, Below wa.heap.size wa W → W.cell? ⟨w.heap.size + 1, 0, none⟩ = some (.int .i64 kd') ∧ W.cell? ⟨w.heap.size + 1, 1, none⟩ = some (.int .u32 (rl' : Nat)) ∧ W.cell? ⟨w.heap.size + 1, 2, none⟩ = some (.int .u32 (ep' : Nat)) ∧ W.cell? ⟨w.heap.size + 1, 3, none⟩ = some (.slice p2 l2 c2) ∧ W.cell? ⟨w.heap.size + 1, 4, none⟩ = some (.slice q2 lb2 cb2)) := fun W h =>
    have hr := hr2.later h
    ⟨hr.cell (i := 0) rfl, hr.cell (i := 1) rfl, hr.cell (i := 2) rfl, hr.cell (i := 3) rfl, hr.cell (i := 4) rfl⟩
  have HF1 : Hid (∀ W, Calls Tryd.prog 5 #[.agg #[.int .i64 kd, .int .u32 (rl : Nat), .int .u32 (ep : Nat), .slice p1 l1 c1, .slice q1 lb1 cb1]] W fun e w' => e = .returned (.bool true) ∧ Below W.heap.size W w') := fun W => by
    have := few_any kd rl ep p1 l1 c1 q1 lb1 cb1 W
    rw [decide_eq_true hf1] at this
    exact this
  have HF2 : Hid (∀ W, Calls Tryd.prog 5 #[.agg #[.int .i64 kd', .int .u32 (rl' : Nat), .int .u32 (ep' : Nat), .slice p2 l2 c2, .slice q2 lb2 cb2]] W fun e w' => e = .returned (.bool true) ∧ Below W.heap.size W w') := fun W => by
    have := few_any kd' rl' ep' p2 l2 c2 q2 lb2 cb2 W
    rw [decide_eq_true hf2] at this
    exact this
  have hl3 : (300 : Int) < (len : Int) := by omega
  clear hwa hr1 hr2 hf1 hf2 hsa hlong
  go_enter Tryd.func3, Tryd.ntmps3
  go_wp2_with (first
    | (go_at_call 4; rw [HWA.out]; refine (awake_any wa).mono ?_; rintro e w1 ⟨rfl, hb1⟩; obtain ⟨a0, a1, a2, a3, a4⟩ := HR1.out w1 hb1)
    | ((with_reducible show Calls Tryd.prog 5 #[.agg #[.int .i64 kd, .int .u32 (rl : Nat), .int .u32 (ep : Nat), .slice p1 l1 c1, .slice q1 lb1 cb1]] _ _); refine (HF1.out w1).mono ?_; rintro e w2 ⟨rfl, hb2⟩; have hB2 : Below wa.heap.size wa w2 := hb1.trans (hb2.mono hb1.size); obtain ⟨b0, b1, b2, b3, b4⟩ := HR2.out w2 hB2; clear a0 a1 a2 a3 a4 hb2)
    | ((with_reducible show Calls Tryd.prog 5 #[.agg #[.int .i64 kd', .int .u32 (rl' : Nat), .int .u32 (ep' : Nat), .slice p2 l2 c2, .slice q2 lb2 cb2]] _ _); refine (HF2.out w2).mono ?_; rintro e w3 ⟨rfl, hb3⟩; have hB3 : Below wa.heap.size wa w3 := hB2.trans (hb3.mono hB2.size); clear b0 b1 b2 b3 b4 hb3))
  go_ret
  exact ⟨rfl, hba.trans (hB3.mono hba.size)⟩

theorem envelIds_walk (mode : Int) (p : Option Addr) (len cap : Nat) (zs : List Nat) (kd : Int) (rl ep : Nat) (p1 : Option Addr) (l1 c1 : Nat) (ids1 : List (List Nat)) (q1 : Option Addr) (lb1 cb1 : Nat) (bs1 : List Nat) (kd' : Int) (rl' ep' : Nat) (p2 : Option Addr) (l2 c2 : Nat) (ids2 : List (List Nat)) (q2 : Option Addr) (lb2 cb2 : Nat) (bs2 : List Nat) (w : World) (hT : Sh.Tab w)
    (hZ : IsBytes w.heap.size w p len cap zs) (hkd : -9223372036854775808 ≤ kd ∧ kd ≤ 9223372036854775807) (hrl : rl < 4294967296) (hep : ep < 4294967296) (hI1 : IsIds w.heap.size w p1 l1 c1 ids1) (hJ1 : IsBytes w.heap.size w q1 lb1 cb1 bs1) (hkd' : -9223372036854775808 ≤ kd' ∧ kd' ≤ 9223372036854775807) (hrl' : rl' < 4294967296) (hep' : ep' < 4294967296) (hI2 : IsIds w.heap.size w p2 l2 c2 ids2) (hJ2 : IsBytes w.heap.size w q2 lb2 cb2 bs2) :
    Calls Tryd.prog 3 #[.int .i64 mode, .slice p len cap, .agg #[.int .i64 kd, .int .u32 (rl : Nat), .int .u32 (ep : Nat), .slice p1 l1 c1, .slice q1 lb1 cb1], .agg #[.int .i64 kd', .int .u32 (rl' : Nat), .int .u32 (ep' : Nat), .slice p2 l2 c2, .slice q2 lb2 cb2]] w fun e w' => e = .returned (.bool true) ∧ Below w.heap.size w w' := by
  have hcap : len ≤ 9223372036854775807 := by have := hZ.2.1; have := hZ.2.2.1; omega
  by_cases hf1 : l1 ≤ 40 ∧ lb1 ≤ 1000
  · by_cases hf2 : l2 ≤ 40 ∧ lb2 ≤ 1000
    · by_cases hlen : len ≤ 300
      · rcases (show mode % 2 = 0 ∨ mode % 2 = 1 by omega) with hm | hm
        · exact ids_real mode hm p len cap zs hlen kd rl ep p1 l1 c1 ids1 q1 lb1 cb1 bs1 kd' rl' ep' p2 l2 c2 ids2 q2 lb2 cb2 bs2 hf1 hf2 (by omega) hrl hep (by omega) hrl' hep' w hZ hI1 hJ1 hI2 hJ2 hT
        · exact ids_ideal mode hm p len cap zs hlen kd rl ep p1 l1 c1 ids1 q1 lb1 cb1 bs1 kd' rl' ep' p2 l2 c2 ids2 q2 lb2 cb2 bs2 hf1 hf2 (by omega) hrl hep (by omega) hrl' hep' w hZ hI1 hJ1 hI2 hJ2
      · exact ids_long mode p len cap hcap kd rl ep p1 l1 c1 q1 lb1 cb1 kd' rl' ep' p2 l2 c2 q2 lb2 cb2 hf1 hf2 (by omega) w
    · exact ids_great2 mode p len cap kd rl ep p1 l1 c1 q1 lb1 cb1 kd' rl' ep' p2 l2 c2 q2 lb2 cb2 hf1 hf2 w
  · exact ids_great1 mode p len cap kd rl ep p1 l1 c1 q1 lb1 cb1 kd' rl' ep' p2 l2 c2 q2 lb2 cb2 hf1 w

end Go.Proofs.YtbaokodhoiledaaDoor
