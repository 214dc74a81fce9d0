/-
  EnvelPuts, walked.
-/
import Derived.Test.YtbaokodhoiledaaRefPut
import Derived.BigQuiet
namespace Go.Proofs.Ytbaokodhoiledaa
open Go.RowKit

set_option maxRecDepth 100000 in
set_option maxHeartbeats 2000000 in
/-- Where the envelope may be. -/
theorem puts_ok (kd rl ep : Nat) (p : Option Addr) (len cap : Nat) (ids : List (List Nat)) (q : Option Addr) (lb cb : Nat) (bs : List Nat) (hk : okKind kd = true) (hr : riseB ids = true) (hrl : rl < 4294967296) (hep : ep < 4294967296) (hlen : len ≤ 40) (hlb : lb ≤ 1000) (w : World)
    (hI : IsIds w.heap.size w p len cap ids) (hJ : IsBytes w.heap.size w q lb cb bs) :
    Calls Try.prog 4 #[.agg #[.int .i64 (kd : Nat), .int .u32 (rl : Nat), .int .u32 (ep : Nat), .slice p len cap, .slice q lb cb]] w fun e w' => e = .returned (.bool true) ∧ Below w.heap.size w w' := by
  have hkd : kd < 9223372036854775808 := by simp [okKind] at hk; omega
  obtain ⟨wa, hwa⟩ : ∃ wa, w.alloc (.cells #[.int .i64 (kd : Nat), .int .u32 (rl : Nat), .int .u32 (ep : Nat), .slice p len cap, .slice q lb cb] 31) = wa := ⟨_, rfl⟩
  have HBA : Hid (Below w.heap.size w wa) := by rw [← hwa]; exact (Below.refl _ w).alloc (Nat.le_refl _) _
  have HWA : Hid (w.alloc (.cells #[.int .i64 (kd : Nat), .int .u32 (rl : Nat), .int .u32 (ep : Nat), .slice p len cap, .slice q lb cb] 31) = wa) := hwa
  have HRE : Hid (Row wa w.heap.size 31 [.int .i64 (kd : Nat), .int .u32 (rl : Nat), .int .u32 (ep : Nat), .slice p len cap, .slice q lb cb]) := by rw [← hwa]; exact Row.new w 31 _
  have HIW : Hid (∀ W, Below wa.heap.size wa W → IsIds W.heap.size W p len cap ids ∧ IsBytes W.heap.size W q lb cb bs) := fun W h => ⟨(((hI.below HBA.out).mono HBA.out.size).below h).mono h.size, (((hJ.below HBA.out).mono HBA.out.size).below h).mono h.size⟩
  have HS : Hid (∀ W, Below wa.heap.size wa W → W.cell? ⟨w.heap.size, 0, none⟩ = some (.int .i64 (kd : Nat)) ∧ W.cell? ⟨w.heap.size, 1, none⟩ = some (.int .u32 (rl : Nat)) ∧ W.cell? ⟨w.heap.size, 2, none⟩ = some (.int .u32 (ep : Nat)) ∧ W.cell? ⟨w.heap.size, 3, none⟩ = some (.slice p len cap) ∧ W.cell? ⟨w.heap.size, 4, none⟩ = some (.slice q lb cb)) := fun W h =>
    have hr := HRE.out.later h
    ⟨hr.cell (i := 0) rfl, hr.cell (i := 1) rfl, hr.cell (i := 2) rfl, hr.cell (i := 3) rfl, hr.cell (i := 4) rfl⟩
  have HF : Hid (∀ W, Calls Try.prog 11 #[.agg #[.int .i64 (kd : Nat), .int .u32 (rl : Nat), .int .u32 (ep : Nat), .slice p len cap, .slice q lb cb]] W fun e w' => e = .returned (.bool true) ∧ Below W.heap.size W w') := fun W => by
    have := few_any kd rl ep p len cap q lb cb W
    rw [decide_eq_true ⟨hlen, hlb⟩] at this
    exact this
  have HP : Hid (∀ W, Below wa.heap.size wa W → Calls Try.prog 12 #[.agg #[.int .i64 (kd : Nat), .int .u32 (rl : Nat), .int .u32 (ep : Nat), .slice p len cap, .slice q lb cb]] W fun e w' => ∃ v, e = .returned (.tuple #[v, .int .i64 0]) ∧ Own W.heap.size w' v (putE kd rl ep ids bs) ∧ Below W.heap.size W w') := fun W h =>
    put_some kd rl ep p len cap ids q lb cb bs hk hr hrl hep (by omega) (by omega) W (HIW.out W h).1 (HIW.out W h).2
  have HQ : Hid (∀ W, Below wa.heap.size wa W → Calls Try.prog 13 #[.agg #[.int .i64 (kd : Nat), .int .u32 (rl : Nat), .int .u32 (ep : Nat), .slice p len cap, .slice q lb cb]] W fun e w' => ∃ v, e = .returned (.tuple #[v, .int .i64 0]) ∧ Own W.heap.size w' v (putE kd rl ep ids bs) ∧ Below W.heap.size W w') := fun W h => by
    refine (refPut_ok kd rl ep p len cap ids q lb cb bs hk hrl hep (by omega) (by omega) W (HIW.out W h).1 (HIW.out W h).2).mono ?_
    rintro e w' (⟨_, h⟩ | ⟨h, _⟩)
    · exact h
    · rw [hr] at h; cases h
  have HA : Hid (∀ W, Below wa.heap.size wa W → Calls Try.prog 14 #[.agg #[.int .i64 (kd : Nat), .int .u32 (rl : Nat), .int .u32 (ep : Nat), .slice p len cap, .slice q lb cb]] W fun e w' => ∃ v, e = .returned v ∧ Str w' v (strOf (headL kd rl ep ids)) ∧ Below W.heap.size W w') := fun W h => by
    refine (ad_any kd rl ep p len cap ids q lb cb hkd hrl hep (by omega) W (HIW.out W h).1).mono ?_
    rintro e w' ⟨v, h1, h2, h3⟩
    exact ⟨v, h1, str_of_row rfl h2, h3⟩
  have HB : Hid (∀ W, Below wa.heap.size wa W → Calls Try.prog 15 #[.agg #[.int .i64 (kd : Nat), .int .u32 (rl : Nat), .int .u32 (ep : Nat), .slice p len cap, .slice q lb cb]] W fun e w' => ∃ v, e = .returned v ∧ Str w' v (strOf (headL kd rl ep ids)) ∧ Below W.heap.size W w') := fun W h => by
    refine (refAd_any kd rl ep p len cap ids q lb cb hkd hrl hep (by omega) W (HIW.out W h).1).mono ?_
    rintro e w' ⟨v, h1, h2, h3⟩
    exact ⟨v, h1, str_of_row rfl h2, h3⟩
  clear hI hJ hwa hk hr
  generalize putE kd rl ep ids bs = X at *
  generalize strOf (headL kd rl ep ids) = Y at *
  go_enter Try.func4, Try.ntmps4
  go_wp2_with (first
    | (go_at_call 7; rw [HWA.out]; refine (awake_any wa).mono ?_; rintro e w1 ⟨rfl, hb1⟩; obtain ⟨d0, d1, d2, d3, d4⟩ := HS.out w1 hb1)
    | (go_at_call 11; refine (HF.out w1).mono ?_; rintro e w2 ⟨rfl, hb2⟩; have hB2 : Below wa.heap.size wa w2 := hb1.trans (hb2.mono hb1.size); clear hb1 hb2 d0 d1 d2 d3 d4; obtain ⟨d0, d1, d2, d3, d4⟩ := HS.out w2 hB2)
    | (go_at_call 12; refine (HP.out w2 hB2).mono ?_; rintro e w3 ⟨v3, rfl, ho3, hb3⟩; have hS3 := str_of_row rfl ho3; have hB3 : Below wa.heap.size wa w3 := hB2.trans (hb3.mono hB2.size); clear hb3 hB2 ho3 d0 d1 d2 d3 d4; obtain ⟨d0, d1, d2, d3, d4⟩ := HS.out w3 hB3)
    | (go_at_call 13; refine (HQ.out w3 hB3).mono ?_; rintro e w4 ⟨v4, rfl, ho4, hb4⟩; have hS4 := str_of_row rfl ho4; have hS34 := hS3.later hb4; have hB4 : Below wa.heap.size wa w4 := hB3.trans (hb4.mono hB3.size); clear hb4 hB3 ho4 hS3 d0 d1 d2 d3 d4))
  have HS3 : Hid (Str w4 v3 (strOf X)) := hS34
  have HS4 : Hid (Str w4 v4 (strOf X)) := hS4
  clear hS34 hS4
  refine wp_region_held_drew (S := fun W => Below w4.heap.size w4 W) (by kernel_rfl) (Below.refl _ _).drew (fun hHeld => ?_)
  refine wpAnyH_takesAt 0 15 9 (of_decide_eq_true (by kernel_rfl)) rfl (fun _ _ _ d _ h => by cases d <;> exact h) (by kernel_rfl) (by kernel_rfl) hHeld ?_
  simp only [List.drop_zero, List.take_succ_cons, List.take_zero]
  iterate 15 (refine wpHeld_step (v := ?_) (by rfl) (fun wz hSw => ?_) ?_; rotate_left; (focus ((have g3 := HS3.out wz hSw; have g4 := HS4.out wz hSw; obtain ⟨c0, c1, c2, c3, c4⟩ := HS.out wz (hB4.trans (Below.mono hSw hB4.size)); clear hSw); go_simp; try with_reducible rfl)); (simp only [Act.put, List.setIfInBounds_toArray, List.set_cons_zero, List.set_cons_succ]))
  refine wpHeld_nil ?_
  refine wpAnyH_takesAt 17 1 8 (of_decide_eq_true (by kernel_rfl)) rfl (fun _ _ _ d _ h => by cases d <;> exact h) (by kernel_rfl) (by kernel_rfl) hHeld ?_
  simp only [List.drop_succ_cons, List.drop_zero, List.take_succ_cons, List.take_zero]
  iterate 1 (refine wpHeld_step (v := ?_) (by rfl) (fun wz hSw => ?_) ?_; rotate_left; (focus ((obtain ⟨c0, c1, c2, c3, c4⟩ := HS.out wz (hB4.trans (Below.mono hSw hB4.size)); clear hSw); go_simp; try with_reducible rfl)); ((simp only [Act.put]; (try simp only [List.setIfInBounds_toArray]); (try simp only [List.set_cons_succ]); (try simp only [List.set_cons_zero]))))
  refine wpHeld_nil ?_
  refine wpAnyH_only (i := 15) (by kernel_rfl) rfl (fun K hK => ?_)
  rw [if_pos (by rfl)]
  go_simp
  refine (HA.out w4.drew (hB4.trans ((Below.refl _ w4).drew.mono hB4.size))).mono ?_
  rintro e w5 ⟨v5, rfl, hs5, hb5⟩
  have hB5 : Below w4.heap.size w4 w5 := (Below.refl _ w4).drew.trans hb5
  refine hK.out _ _ hB5 ?_
  clear hK K hHeld
  refine wpAnyH_more (S' := fun W => Below w5.heap.size w5 W) (fun W h => hB5.trans (h.mono hB5.size)) _ _ _ _ ?_
  have hHeld : Below w5.heap.size w5 w5 := Below.refl _ _
  refine wpAnyH_takesAt 16 1 6 (of_decide_eq_true (by kernel_rfl)) rfl (fun _ _ _ d _ h => by cases d <;> exact h) (by kernel_rfl) (by kernel_rfl) hHeld ?_
  simp only [List.drop_succ_cons, List.drop_zero, List.take_succ_cons, List.take_zero]
  iterate 1 (refine wpHeld_step (v := ?_) (by rfl) (fun wz hSw => ?_) ?_; rotate_left; (focus ((have g5 := hs5 wz hSw; clear hSw); go_simp; try with_reducible rfl)); ((simp only [Act.put]; (try simp only [List.setIfInBounds_toArray]); (try simp only [List.set_cons_succ]); (try simp only [List.set_cons_zero]))))
  refine wpHeld_nil ?_
  refine wpAnyH_only (i := 18) (by kernel_rfl) rfl (fun K hK => ?_)
  rw [if_pos (by rfl)]
  go_simp
  refine (HB.out w5 (hB4.trans (hB5.mono hB4.size))).mono ?_
  rintro e w6 ⟨v6, rfl, hs6, hb6⟩
  refine hK.out _ _ hb6 ?_
  clear hK K hHeld
  refine wpAnyH_more (S' := fun W => Below w6.heap.size w6 W) (fun W h => hb6.trans (h.mono hb6.size)) _ _ _ _ ?_
  have hHeld : Below w6.heap.size w6 w6 := Below.refl _ _
  refine wpAnyH_takesAt 19 5 0 (of_decide_eq_true (by kernel_rfl)) rfl (fun _ _ _ d _ h => by cases d <;> exact h) (by kernel_rfl) (by kernel_rfl) hHeld ?_
  simp only [List.drop_succ_cons, List.drop_zero, List.take_succ_cons, List.take_zero]
  iterate 5 (refine wpHeld_step (v := ?_) (by rfl) (fun wz hSw => ?_) ?_; rotate_left; (focus ((have g6 := hs6 wz hSw; clear hSw); go_simp; try with_reducible rfl)); (simp only [Act.put, List.setIfInBounds_toArray, List.set_cons_zero, List.set_cons_succ]))
  refine wpHeld_nil ?_
  refine wpAnyH_done (by kernel_rfl) ?_ _
  go_wp2
  go_ret
  exact ⟨rfl, HBA.out.trans ((hB4.trans ((hB5.trans (hb6.mono hB5.size)).mono hB4.size)).mono HBA.out.size)⟩

set_option maxRecDepth 100000 in
set_option maxHeartbeats 2000000 in
/-- Where it may not be. -/
theorem puts_bad (kd : Int) (rl ep : Nat) (p : Option Addr) (len cap : Nat) (ids : List (List Nat)) (q : Option Addr) (lb cb : Nat) (bs : List Nat) (hk : (okKind kd && riseB ids) = false) (hrl : rl < 4294967296) (hep : ep < 4294967296) (hlen : len ≤ 40) (hlb : lb ≤ 1000) (w : World)
    (hI : IsIds w.heap.size w p len cap ids) (hJ : IsBytes w.heap.size w q lb cb bs) :
    Calls Try.prog 4 #[.agg #[.int .i64 kd, .int .u32 (rl : Nat), .int .u32 (ep : Nat), .slice p len cap, .slice q lb cb]] w fun e w' => e = .returned (.bool true) ∧ Below w.heap.size w w' := by
  obtain ⟨wa, hwa⟩ : ∃ wa, w.alloc (.cells #[.int .i64 kd, .int .u32 (rl : Nat), .int .u32 (ep : Nat), .slice p len cap, .slice q lb cb] 31) = wa := ⟨_, rfl⟩
  have HBA : Hid (Below w.heap.size w wa) := by rw [← hwa]; exact (Below.refl _ w).alloc (Nat.le_refl _) _
  have HWA : Hid (w.alloc (.cells #[.int .i64 kd, .int .u32 (rl : Nat), .int .u32 (ep : Nat), .slice p len cap, .slice q lb cb] 31) = wa) := hwa
  have HRE : Hid (Row wa w.heap.size 31 [.int .i64 kd, .int .u32 (rl : Nat), .int .u32 (ep : Nat), .slice p len cap, .slice q lb cb]) := by rw [← hwa]; exact Row.new w 31 _
  have HIW : Hid (∀ W, Below wa.heap.size wa W → IsIds W.heap.size W p len cap ids ∧ IsBytes W.heap.size W q lb cb bs) := fun W h => ⟨(((hI.below HBA.out).mono HBA.out.size).below h).mono h.size, (((hJ.below HBA.out).mono HBA.out.size).below h).mono h.size⟩
  have HS : Hid (∀ W, Below wa.heap.size wa W → W.cell? ⟨w.heap.size, 0, none⟩ = some (.int .i64 kd) ∧ W.cell? ⟨w.heap.size, 1, none⟩ = some (.int .u32 (rl : Nat)) ∧ W.cell? ⟨w.heap.size, 2, none⟩ = some (.int .u32 (ep : Nat)) ∧ W.cell? ⟨w.heap.size, 3, none⟩ = some (.slice p len cap) ∧ W.cell? ⟨w.heap.size, 4, none⟩ = some (.slice q lb cb)) := fun W h =>
    have hr := HRE.out.later h
    ⟨hr.cell (i := 0) rfl, hr.cell (i := 1) rfl, hr.cell (i := 2) rfl, hr.cell (i := 3) rfl, hr.cell (i := 4) rfl⟩
  have HF : Hid (∀ W, Calls Try.prog 11 #[.agg #[.int .i64 kd, .int .u32 (rl : Nat), .int .u32 (ep : Nat), .slice p len cap, .slice q lb cb]] W fun e w' => e = .returned (.bool true) ∧ Below W.heap.size W w') := fun W => by
    have := few_any kd rl ep p len cap q lb cb W
    rw [decide_eq_true ⟨hlen, hlb⟩] at this
    exact this
  have HP : Hid (∀ W, Below wa.heap.size wa W → Calls Try.prog 12 #[.agg #[.int .i64 kd, .int .u32 (rl : Nat), .int .u32 (ep : Nat), .slice p len cap, .slice q lb cb]] W fun e w' => e = .returned (.tuple #[.slice none 0 0, .int .i64 90]) ∧ Below W.heap.size W w') := fun W h =>
    put_none kd rl ep p len cap ids q lb cb hk (by omega) (by omega) W (HIW.out W h).1
  have HQ : Hid (∀ W, Below wa.heap.size wa W → Calls Try.prog 13 #[.agg #[.int .i64 kd, .int .u32 (rl : Nat), .int .u32 (ep : Nat), .slice p len cap, .slice q lb cb]] W fun e w' => e = .returned (.tuple #[.slice none 0 0, .int .i64 90]) ∧ Below W.heap.size W w') := fun W h => by
    cases hkk : okKind kd with
    | false => exact refPut_bad kd rl ep p len cap q lb cb hkk W
    | true =>
      have hr : riseB ids = false := by rw [hkk] at hk; simpa using hk
      obtain ⟨k, rfl⟩ : ∃ k : Nat, kd = (k : Int) := ⟨kd.toNat, by simp [okKind] at hkk; omega⟩
      refine (refPut_ok k rl ep p len cap ids q lb cb bs hkk hrl hep (by omega) (by omega) W (HIW.out W h).1 (HIW.out W h).2).mono ?_
      rintro e w' (⟨h, _⟩ | ⟨_, h⟩)
      · rw [hr] at h; cases h
      · exact h
  clear hI hJ hwa hk
  go_enter Try.func4, Try.ntmps4
  go_wp2_with (first
    | (go_at_call 7; rw [HWA.out]; refine (awake_any wa).mono ?_; rintro e w1 ⟨rfl, hb1⟩; obtain ⟨d0, d1, d2, d3, d4⟩ := HS.out w1 hb1)
    | (go_at_call 11; refine (HF.out w1).mono ?_; rintro e w2 ⟨rfl, hb2⟩; have hB2 : Below wa.heap.size wa w2 := hb1.trans (hb2.mono hb1.size); clear hb1 hb2 d0 d1 d2 d3 d4; obtain ⟨d0, d1, d2, d3, d4⟩ := HS.out w2 hB2)
    | (go_at_call 12; refine (HP.out w2 hB2).mono ?_; rintro e w3 ⟨rfl, hb3⟩; have hB3 : Below wa.heap.size wa w3 := hB2.trans (hb3.mono hB2.size); clear hb3 hB2 d0 d1 d2 d3 d4; obtain ⟨d0, d1, d2, d3, d4⟩ := HS.out w3 hB3)
    | (go_at_call 13; refine (HQ.out w3 hB3).mono ?_; rintro e w4 ⟨rfl, hb4⟩; have hB4 : Below wa.heap.size wa w4 := hB3.trans (hb4.mono hB3.size); clear hb4 hB3 d0 d1 d2 d3 d4))
  have hs : ∀ q, (convert 29 9 (.slice none 0 0)).run Try.prog (w4.drewN q) = .ok (.string (strOf [])) (w4.drewN q) := fun q => (str_none (w4.drewN q) none 0).here
  go_quiet (fail)
  go_wp2
  go_ret
  exact ⟨rfl, below_drewN (HBA.out.trans (hB4.mono HBA.out.size)) _⟩

set_option maxRecDepth 100000 in
set_option maxHeartbeats 1000000 in
/-- Where it is not small. -/
theorem puts_great (kd : Int) (rl ep : Nat) (p : Option Addr) (len cap : Nat) (q : Option Addr) (lb cb : Nat) (h : ¬ (len ≤ 40 ∧ lb ≤ 1000)) (w : World) :
    Calls Try.prog 4 #[.agg #[.int .i64 kd, .int .u32 (rl : Nat), .int .u32 (ep : Nat), .slice p len cap, .slice q lb cb]] w fun e w' => e = .returned (.bool true) ∧ Below w.heap.size w w' := by
  obtain ⟨wa, hwa⟩ : ∃ wa, w.alloc (.cells #[.int .i64 kd, .int .u32 (rl : Nat), .int .u32 (ep : Nat), .slice p len cap, .slice q lb cb] 31) = wa := ⟨_, rfl⟩
  have HBA : Hid (Below w.heap.size w wa) := by rw [← hwa]; exact (Below.refl _ w).alloc (Nat.le_refl _) _
  have HWA : Hid (w.alloc (.cells #[.int .i64 kd, .int .u32 (rl : Nat), .int .u32 (ep : Nat), .slice p len cap, .slice q lb cb] 31) = wa) := hwa
  have HRE : Hid (Row wa w.heap.size 31 [.int .i64 kd, .int .u32 (rl : Nat), .int .u32 (ep : Nat), .slice p len cap, .slice q lb cb]) := by rw [← hwa]; exact Row.new w 31 _
  have HF : Hid (∀ W, Calls Try.prog 11 #[.agg #[.int .i64 kd, .int .u32 (rl : Nat), .int .u32 (ep : Nat), .slice p len cap, .slice q lb cb]] W fun e w' => e = .returned (.bool false) ∧ Below W.heap.size W w') := fun W => by
    have := few_any kd rl ep p len cap q lb cb W
    rw [decide_eq_false h] at this
    exact this
  clear hwa h
  go_enter Try.func4, Try.ntmps4
  go_wp2_with (first
    | (go_at_call 7; rw [HWA.out]; refine (awake_any wa).mono ?_; rintro e w1 ⟨rfl, hb1⟩; have hr1 := HRE.out.later hb1; have d0 := hr1.cell (i := 0) rfl; have d1 := hr1.cell (i := 1) rfl; have d2 := hr1.cell (i := 2) rfl; have d3 := hr1.cell (i := 3) rfl; have d4 := hr1.cell (i := 4) rfl; clear hr1)
    | (go_at_call 11; refine (HF.out w1).mono ?_; rintro e w2 ⟨rfl, hb2⟩; have hB2 : Below wa.heap.size wa w2 := hb1.trans (hb2.mono hb1.size); clear hb1 hb2 d0 d1 d2 d3 d4))
  go_ret
  exact ⟨rfl, HBA.out.trans (hB2.mono HBA.out.size)⟩

/-- EnvelPuts -/
theorem envelPuts_walk (kd : Int) (rl ep : Nat) (p : Option Addr) (len cap : Nat) (ids : List (List Nat)) (q : Option Addr) (lb cb : Nat) (bs : List Nat) (w : World) (hrl : rl < 4294967296) (hep : ep < 4294967296) (hI : IsIds w.heap.size w p len cap ids) (hJ : IsBytes w.heap.size w q lb cb bs) :
    Calls Try.prog 4 #[.agg #[.int .i64 kd, .int .u32 (rl : Nat), .int .u32 (ep : Nat), .slice p len cap, .slice q lb cb]] w fun e w' => e = .returned (.bool true) ∧ Below w.heap.size w w' := by
  by_cases h : len ≤ 40 ∧ lb ≤ 1000
  · cases hk : okKind kd && riseB ids with
    | false => exact puts_bad kd rl ep p len cap ids q lb cb bs hk hrl hep h.1 h.2 w hI hJ
    | true =>
      rw [Bool.and_eq_true] at hk
      obtain ⟨k, rfl⟩ : ∃ k : Nat, kd = (k : Int) := ⟨kd.toNat, by have := hk.1; simp [okKind] at this; omega⟩
      exact puts_ok k rl ep p len cap ids q lb cb bs hk.1 hk.2 hrl hep h.1 h.2 w hI hJ
  · exact puts_great kd rl ep p len cap q lb cb h w
end Go.Proofs.Ytbaokodhoiledaa
