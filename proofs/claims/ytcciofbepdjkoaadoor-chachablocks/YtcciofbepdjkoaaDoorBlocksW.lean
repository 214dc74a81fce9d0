/-
  The law ChachaBlocks, walked: for every four words, every key, counter and nonce it returns true.
-/
import Derived.Test.YtcciofbepdjkoaaDoorRefBlock
import Derived.Test.YtcciofbepdjkoaaDoorHeld
namespace Go.Proofs.YtcciofbepdjkoaaDoor
open Go.RowKit

set_option maxRecDepth 100000 in
set_option maxHeartbeats 4000000 in
theorem chachaBlocks_core (ls : List Nat) (c : Nat) (KV NV V : List Value) (HKl : Hid (KV.length = 32)) (HNl : Hid (NV.length = 12)) (hll : ls.length = 4) (hlx : ∀ z ∈ ls, z < 4294967296)
    (hq : ∀ w, (Op.equalIn 10000 30 (.agg V.toArray) (.agg V.toArray)).run Tryd.prog w = .ok true w)
    (HBk : Hid (∀ w, Tab w → Calls Tryd.prog 11 #[.agg KV.toArray, .int .u32 c, .agg NV.toArray] w fun e w' => e = .returned (.agg V.toArray) ∧ Below w.heap.size w w'))
    (HBr : Hid (∀ w, Calls Tryd.prog 12 #[.agg KV.toArray, .int .u32 c, .agg NV.toArray] w fun e w' => e = .returned (.agg V.toArray) ∧ Below w.heap.size w w')) (w : World) (hT : Tab w) :
    Calls Tryd.prog 3 #[.agg (u32s ls).toArray, .agg KV.toArray, .int .u32 c, .agg NV.toArray] w fun e w' => e = .returned (.bool true) ∧ Below w.heap.size w w' := by
  have HT : Hid (Tab w) := hT
  obtain ⟨w0, hw0⟩ : ∃ w0, w0 = ((w.alloc (.cells (u32s ls).toArray 23)).alloc (.cells KV.toArray 25)).alloc (.cells NV.toArray 26) := ⟨_, rfl⟩
  have hrL : Row w0 w.heap.size 23 (u32s ls) := by rw [hw0]; exact ((Row.new' w 23 _).alloc _).alloc _
  have HrK : Hid (Row w0 (w.heap.size + 1) 25 KV) := by
    have h := Row.new' (w.alloc (.cells (u32s ls).toArray 23)) 25 KV
    rw [World.size_alloc] at h
    rw [hw0]
    exact h.alloc _
  have HrN : Hid (Row w0 (w.heap.size + 1 + 1) 26 NV) := by
    have h := Row.new' ((w.alloc (.cells (u32s ls).toArray 23)).alloc (.cells KV.toArray 25)) 26 NV
    rw [World.size_alloc, World.size_alloc] at h
    rw [hw0]
    exact h
  have Hb0 : Hid (Below w.heap.size w w0) := by rw [hw0]; exact (((Below.refl _ w).alloc (Nat.le_refl _) _).alloc (by simp) _).alloc (by simp; omega) _
  have HW0 : Hid (((w.alloc (.cells (u32s ls).toArray 23)).alloc (.cells KV.toArray 25)).alloc (.cells NV.toArray 26) = w0) := hw0.symm
  have c0 := hrL.cell (u32s_at (l := ls) (i := 0) (by omega))
  have c1 := hrL.cell (u32s_at (l := ls) (i := 1) (by omega))
  have c2 := hrL.cell (u32s_at (l := ls) (i := 2) (by omega))
  have c3 := hrL.cell (u32s_at (l := ls) (i := 3) (by omega))
  have bx : ∀ i, ls.getD i 0 < 4294967296 := fun i => all_getD (by decide) hlx i
  obtain ⟨p, q, r, s, hpq⟩ : ∃ p q r s, quarterN (ls.getD 0 0) (ls.getD 1 0) (ls.getD 2 0) (ls.getD 3 0) = (p, q, r, s) := ⟨_, _, _, _, rfl⟩
  have hQ := quarter_any _ _ _ _ (bx 0) (bx 1) (bx 2) (bx 3)
  have hR := refQuarter_any _ _ _ _ (bx 0) (bx 1) (bx 2) (bx 3)
  rw [hpq] at hQ hR
  dsimp only at hQ hR
  have HQ : Hid (∀ w, Calls Tryd.prog 9 #[.int .u32 (ls.getD 0 0 : Nat), .int .u32 (ls.getD 1 0 : Nat), .int .u32 (ls.getD 2 0 : Nat), .int .u32 (ls.getD 3 0 : Nat)] w fun e w' => e = .returned (.tuple #[.int .u32 p, .int .u32 q, .int .u32 r, .int .u32 s]) ∧ w' = w) := hQ
  have HR : Hid (∀ w, Calls Tryd.prog 10 #[.int .u32 (ls.getD 0 0 : Nat), .int .u32 (ls.getD 1 0 : Nat), .int .u32 (ls.getD 2 0 : Nat), .int .u32 (ls.getD 3 0 : Nat)] w fun e w' => e = .returned (.tuple #[.int .u32 p, .int .u32 q, .int .u32 r, .int .u32 s]) ∧ w' = w) := hR
  clear hT hQ hR hpq bx hrL hlx hll hw0
  generalize ls.getD 0 0 = l0 at *
  generalize ls.getD 1 0 = l1 at *
  generalize ls.getD 2 0 = l2 at *
  generalize ls.getD 3 0 = l3 at *
  go_enter Tryd.func3, Tryd.ntmps3
  go_wp2_with (first
    | (go_at_call 8; rw [HW0.out]; refine (awake_any _).mono ?_; rintro e w1 ⟨rfl, hw1⟩; obtain rfl : w0 = w1 := hw1.symm; clear hw1)
    | (go_at_call 9; refine (HQ.out _).mono ?_; rintro e w1 ⟨rfl, hw1⟩; obtain rfl : w0 = w1 := hw1.symm; clear hw1)
    | (go_at_call 10; refine (HR.out _).mono ?_; rintro e w1 ⟨rfl, hw1⟩; obtain rfl : w0 = w1 := hw1.symm; clear hw1))
  refine wp_region_noPanic ?_
  refine wp_region_held_drew (S := fun W' => Row W' (w.heap.size + 1) 25 KV ∧ Row W' (w.heap.size + 1 + 1) 26 NV) (by kernel_rfl) ⟨HrK.out.drew, HrN.out.drew⟩ (fun hHeld => ?_)
  refine wpAnyH_takesAt 0 22 8 (of_decide_eq_true (by kernel_rfl)) rfl (fun _ _ _ _ _ h => h) (by kernel_rfl) (by kernel_rfl) hHeld ?_
  simp only [List.drop_zero, List.take_succ_cons, List.take_zero]
  iterate 19 (refine wpHeld_step (v := ?_) (by rfl) (fun wz hSw => ?_) ?_; rotate_left; (focus ((try dsimp only at hSw); go_simp; try with_reducible rfl)); (simp only [Act.put, List.setIfInBounds_toArray, List.set_cons_zero, List.set_cons_succ]))
  refine wpHeld_load (by rfl) 25 (.tmp 5) (by rfl) (w.heap.size + 1) 0 (by rfl) KV (fun _ h => h.1.range) Tryd.underlying25 (by rw [HKl.out]; exact size25) ?_
  simp only [Act.put, List.setIfInBounds_toArray, List.set_cons_zero, List.set_cons_succ]
  (refine wpHeld_step (v := ?_) (by rfl) (fun wz hSw => ?_) ?_; rotate_left; (focus ((try dsimp only at hSw); go_simp; try with_reducible rfl)); (simp only [Act.put, List.setIfInBounds_toArray, List.set_cons_zero, List.set_cons_succ]))
  refine wpHeld_load (by rfl) 26 (.tmp 7) (by rfl) (w.heap.size + 1 + 1) 0 (by rfl) NV (fun _ h => h.2.range) Tryd.underlying26 (by rw [HNl.out]; exact size26) ?_
  simp only [Act.put, List.setIfInBounds_toArray, List.set_cons_zero, List.set_cons_succ]
  refine wpHeld_nil ?_
  refine wpAnyH_takesAt 23 3 5 (of_decide_eq_true (by kernel_rfl)) rfl (fun _ _ _ _ _ h => h) (by kernel_rfl) (by kernel_rfl) hHeld ?_
  simp only [List.drop_succ_cons, List.drop_zero, List.take_succ_cons, List.take_zero]
  refine wpHeld_load (by rfl) 25 (.tmp 5) (by rfl) (w.heap.size + 1) 0 (by rfl) KV (fun _ h => h.1.range) Tryd.underlying25 (by rw [HKl.out]; exact size25) ?_
  simp only [Act.put, List.setIfInBounds_toArray, List.set_cons_zero, List.set_cons_succ]
  (refine wpHeld_step (v := ?_) (by rfl) (fun wz hSw => ?_) ?_; rotate_left; (focus ((try dsimp only at hSw); go_simp; try with_reducible rfl)); (simp only [Act.put, List.setIfInBounds_toArray, List.set_cons_zero, List.set_cons_succ]))
  refine wpHeld_load (by rfl) 26 (.tmp 7) (by rfl) (w.heap.size + 1 + 1) 0 (by rfl) NV (fun _ h => h.2.range) Tryd.underlying26 (by rw [HNl.out]; exact size26) ?_
  simp only [Act.put, List.setIfInBounds_toArray, List.set_cons_zero, List.set_cons_succ]
  refine wpHeld_nil ?_
  refine wpAnyH_only (i := 22) (by kernel_rfl) rfl (fun K hK => ?_)
  rw [if_pos (by rfl)]
  go_simp
  refine (HBk.out _ (HT.out.later Hb0.out.drew)).mono ?_
  rintro e w3 ⟨rfl, hb3⟩
  have hHeld3 : Row w3 (w.heap.size + 1) 25 KV ∧ Row w3 (w.heap.size + 1 + 1) 26 NV := ⟨HrK.out.drew.later hb3, HrN.out.drew.later hb3⟩
  refine hK.out _ _ hHeld3 ?_
  clear hK K
  refine wpAnyH_only (i := 26) (by kernel_rfl) rfl (fun K hK => ?_)
  rw [if_pos (by rfl)]
  go_simp
  refine (HBr.out _).mono ?_
  rintro e w4 ⟨rfl, hb4⟩
  have hHeld4 : Row w4 (w.heap.size + 1) 25 KV ∧ Row w4 (w.heap.size + 1 + 1) 26 NV := ⟨hHeld3.1.later hb4, hHeld3.2.later hb4⟩
  refine hK.out _ _ hHeld4 ?_
  clear hK K
  refine wpAnyH_takesAt 27 3 0 (of_decide_eq_true (by kernel_rfl)) rfl (fun _ _ _ _ _ h => h) (by kernel_rfl) (by kernel_rfl) hHeld4 ?_
  simp only [List.drop_succ_cons, List.drop_zero, List.take_succ_cons, List.take_zero]
  iterate 3 (refine wpHeld_step (v := ?_) (by rfl) (fun wz hSw => ?_) ?_; rotate_left; (focus ((try dsimp only at hSw); go_simp; try with_reducible rfl)); (simp only [Act.put, List.setIfInBounds_toArray, List.set_cons_zero, List.set_cons_succ]))
  refine wpHeld_nil ?_
  refine wpAnyH_done (by kernel_rfl) ?_ _
  refine NoPanic.normal ?_
  have hs3 := hb3.size
  have hbE : Below w.heap.size w w4 := (Hb0.out.drew.trans (hb3.mono Hb0.out.size)).trans (hb4.mono (Nat.le_trans Hb0.out.size hs3))
  go_wp2
  go_ret
  exact ⟨rfl, hbE⟩
theorem chachaBlocks_walk (ls key : List Nat) (c : Nat) (nonce : List Nat) (w : World) (hT : Tab w) (hl : ls.length = 4 ∧ ∀ z ∈ ls, z < 4294967296) (hk : key.length = 32 ∧ ∀ z ∈ key, z < 256) (hc : c < 4294967296) (hn : nonce.length = 12 ∧ ∀ z ∈ nonce, z < 256) :
    Calls Tryd.prog 3 #[.agg (u32s ls).toArray, .agg (u8s key).toArray, .int .u32 c, .agg (u8s nonce).toArray] w fun e w' => e = .returned (.bool true) ∧ Below w.heap.size w w' :=
  chachaBlocks_core ls c (u8s key) (u8s nonce) (u8s (blockN key c nonce)) ((u8s_length _).trans hk.1) ((u8s_length _).trans hn.1) hl.1 hl.2 (equal30 _ (u8s_int _ (blockN_length _ _ _)))
    (fun w hT => block_any key c nonce hk.1 hk.2 hc hn.1 hn.2 w hT) (fun w => refBlock_any key c nonce hk.1 hk.2 hc hn.1 hn.2 w) w hT
end Go.Proofs.YtcciofbepdjkoaaDoor
