/-
  The law ChachaStreams, walked: for every key, counter, nonce and slice of bytes it returns true.
-/
import Derived.Test.YtcciofbepdjkoaaDoorTurned
import Derived.Test.YtcciofbepdjkoaaDoorRefStream
namespace Go.Proofs.YtcciofbepdjkoaaDoor
open Go.RowKit

set_option maxRecDepth 100000 in
set_option maxHeartbeats 4000000 in
theorem chachaStreams_core (c : Nat) (KV NV : List Value) (HKl : Hid (KV.length = 32)) (HNl : Hid (NV.length = 12)) (p : Option Addr) (len cap : Nat) (zs ts : List Nat) (w : World) (hI : IsBytes w.heap.size w p len cap zs) (htl : ts.length = zs.length) (htx : ∀ z ∈ ts, z < 256)
    (H1' : len ≤ 500 → ∀ W, Below w.heap.size w W → Calls Tryd.prog 13 #[.agg KV.toArray, .int .u32 c, .agg NV.toArray, .slice p len cap] W fun e w' => ∃ g, e = .returned (.slice (some ⟨g, 0, none⟩) len len) ∧ W.heap.size ≤ g ∧ Row w' g 5 (u8s ts) ∧ Below W.heap.size W w')
    (H2' : len ≤ 500 → ∀ W, Below w.heap.size w W → Calls Tryd.prog 14 #[.agg KV.toArray, .int .u32 c, .agg NV.toArray, .slice p len cap] W fun e w' => ∃ v, e = .returned v ∧ Own W.heap.size w' v ts ∧ Below W.heap.size W w') :
    Calls Tryd.prog 4 #[.agg KV.toArray, .int .u32 c, .agg NV.toArray, .slice p len cap] w fun e w' => e = .returned (.bool true) ∧ Below w.heap.size w w' := by
  have HI : Hid (IsBytes w.heap.size w p len cap zs) := hI
  have HTl : Hid (ts.length = len) := htl.trans hI.1
  have HTx : Hid (∀ z ∈ ts, z < 256) := htx
  have HSz : Hid (Str w (.slice p len cap) (strOf zs)) := str_of_bytes hI
  clear hI htl htx
  obtain ⟨w0, hw0⟩ : ∃ w0, w0 = (w.alloc (.cells KV.toArray 25)).alloc (.cells NV.toArray 26) := ⟨_, rfl⟩
  have HW0 : Hid ((w.alloc (.cells KV.toArray 25)).alloc (.cells NV.toArray 26) = w0) := hw0.symm
  have Hb0 : Hid (Below w.heap.size w w0) := by rw [hw0]; exact ((Below.refl _ w).alloc (Nat.le_refl _) _).alloc (by simp) _
  have HrK : Hid (Row w0 w.heap.size 25 KV) := by rw [hw0]; exact (Row.new' w 25 _).alloc _
  have HrN : Hid (Row w0 (w.heap.size + 1) 26 NV) := by
    have h := Row.new' (w.alloc (.cells KV.toArray 25)) 26 NV
    rw [World.size_alloc] at h
    rw [hw0]
    exact h
  clear hw0
  by_cases hlen : len ≤ 500
  · have hli : ¬ (500 : Int) < (len : Int) := by omega
    have H1 : Hid (∀ W, Below w.heap.size w W → Calls Tryd.prog 13 #[.agg KV.toArray, .int .u32 c, .agg NV.toArray, .slice p len cap] W fun e w' => ∃ g, e = .returned (.slice (some ⟨g, 0, none⟩) len len) ∧ W.heap.size ≤ g ∧ Row w' g 5 (u8s ts) ∧ Below W.heap.size W w') := H1' hlen
    have H2 : Hid (∀ W, Below w.heap.size w W → Calls Tryd.prog 14 #[.agg KV.toArray, .int .u32 c, .agg NV.toArray, .slice p len cap] W fun e w' => ∃ v, e = .returned v ∧ Own W.heap.size w' v ts ∧ Below W.heap.size W w') := H2' hlen
    clear H1' H2'
    go_enter Tryd.func4, Tryd.ntmps4
    go_wp2_with (go_at_call 8; rw [HW0.out]; refine (awake_any _).mono ?_; rintro e w1 ⟨rfl, hw1⟩; obtain rfl : w0 = w1 := hw1.symm; clear hw1)
    refine wp_region_noPanic ?_
    refine wp_region_held_drew (S := (fun W' => Row W' w.heap.size 25 KV ∧ Row W' (w.heap.size + 1) 26 NV ∧ Below w.heap.size w W')) (by kernel_rfl) ⟨HrK.out.drew, HrN.out.drew, Hb0.out.drew⟩ (fun hHeld => ?_)
    refine wpAnyH_takesAt 0 8 11 (of_decide_eq_true (by kernel_rfl)) rfl (fun _ _ _ _ _ h => h) (by kernel_rfl) (by kernel_rfl) hHeld ?_
    simp only [List.drop_zero, List.take_succ_cons, List.take_zero]
    iterate 2 (refine wpHeld_step (v := ?_) (by rfl) (fun wz hSw => ?_) ?_; rotate_left; (focus (go_simp; try with_reducible rfl)); (simp only [Act.put, List.setIfInBounds_toArray, List.set_cons_zero, List.set_cons_succ]))
    refine wpHeld_step (v := .bool false) (by rfl) (fun wz hSw => ?_) ?_
    · go_simp
    simp only [Act.put, List.setIfInBounds_toArray, List.set_cons_zero, List.set_cons_succ]
    (refine wpHeld_step (v := ?_) (by rfl) (fun wz hSw => ?_) ?_; rotate_left; (focus (go_simp; try with_reducible rfl)); (simp only [Act.put, List.setIfInBounds_toArray, List.set_cons_zero, List.set_cons_succ]))
    refine wpHeld_load (by rfl) 25 (.tmp 4) (by rfl) (w.heap.size) 0 (by rfl) KV (fun _ h => h.1.range) Tryd.underlying25 (by rw [HKl.out]; exact size25) ?_
    simp only [Act.put, List.setIfInBounds_toArray, List.set_cons_zero, List.set_cons_succ]
    (refine wpHeld_step (v := ?_) (by rfl) (fun wz hSw => ?_) ?_; rotate_left; (focus (go_simp; try with_reducible rfl)); (simp only [Act.put, List.setIfInBounds_toArray, List.set_cons_zero, List.set_cons_succ]))
    refine wpHeld_load (by rfl) 26 (.tmp 6) (by rfl) (w.heap.size + 1) 0 (by rfl) NV (fun _ h => h.2.1.range) Tryd.underlying26 (by rw [HNl.out]; exact size26) ?_
    simp only [Act.put, List.setIfInBounds_toArray, List.set_cons_zero, List.set_cons_succ]
    (refine wpHeld_step (v := ?_) (by rfl) (fun wz hSw => ?_) ?_; rotate_left; (focus (go_simp; try with_reducible rfl)); (simp only [Act.put, List.setIfInBounds_toArray, List.set_cons_zero, List.set_cons_succ]))
    refine wpHeld_nil ?_
    refine wpAnyH_takesAt 10 4 7 (of_decide_eq_true (by kernel_rfl)) rfl (fun _ _ _ _ _ h => h) (by kernel_rfl) (by kernel_rfl) hHeld ?_
    simp only [List.drop_succ_cons, List.drop_zero, List.take_succ_cons, List.take_zero]
    refine wpHeld_load (by rfl) 25 (.tmp 4) (by rfl) (w.heap.size) 0 (by rfl) KV (fun _ h => h.1.range) Tryd.underlying25 (by rw [HKl.out]; exact size25) ?_
    simp only [Act.put, List.setIfInBounds_toArray, List.set_cons_zero, List.set_cons_succ]
    (refine wpHeld_step (v := ?_) (by rfl) (fun wz hSw => ?_) ?_; rotate_left; (focus (go_simp; try with_reducible rfl)); (simp only [Act.put, List.setIfInBounds_toArray, List.set_cons_zero, List.set_cons_succ]))
    refine wpHeld_load (by rfl) 26 (.tmp 6) (by rfl) (w.heap.size + 1) 0 (by rfl) NV (fun _ h => h.2.1.range) Tryd.underlying26 (by rw [HNl.out]; exact size26) ?_
    simp only [Act.put, List.setIfInBounds_toArray, List.set_cons_zero, List.set_cons_succ]
    (refine wpHeld_step (v := ?_) (by rfl) (fun wz hSw => ?_) ?_; rotate_left; (focus (go_simp; try with_reducible rfl)); (simp only [Act.put, List.setIfInBounds_toArray, List.set_cons_zero, List.set_cons_succ]))
    refine wpHeld_nil ?_
    refine wpAnyH_only (i := 8) (by kernel_rfl) rfl (fun K hK => ?_)
    rw [if_pos (by rfl)]
    go_simp
    refine (H1.out _ Hb0.out.drew).mono ?_
    rintro e w3 ⟨g3, rfl, hg3, hr3, hb3⟩
    have hHeld3 : Row w3 w.heap.size 25 KV ∧ Row w3 (w.heap.size + 1) 26 NV ∧ Below w.heap.size w w3 := ⟨HrK.out.drew.later hb3, HrN.out.drew.later hb3, Hb0.out.drew.trans (hb3.mono Hb0.out.size)⟩
    refine hK.out _ _ hHeld3 ?_
    clear hK K
    have HS3 : Hid (Str w3 (.slice (some ⟨g3, 0, none⟩) len len) (strOf ts)) := str_of_bytes (bytes_of_row hr3 HTx.out HTl.out (by omega))
    refine wpAnyH_more (S' := fun W' => Below w3.heap.size w3 W') (fun W' h => ⟨hHeld3.1.later h, hHeld3.2.1.later h, hHeld3.2.2.trans (h.mono hHeld3.2.2.size)⟩) _ _ _ _ ?_
    have hHeldN : Below w3.heap.size w3 w3 := Below.refl _ _
    refine wpAnyH_takesAt 9 1 5 (of_decide_eq_true (by kernel_rfl)) rfl (fun _ _ _ _ _ h => h) (by kernel_rfl) (by kernel_rfl) hHeldN ?_
    simp only [List.drop_succ_cons, List.drop_zero, List.take_succ_cons, List.take_zero]
    refine wpHeld_step (v := .string (strOf ts)) (by rfl) (fun wz hSw => ?_) ?_
    · have hz := HS3.out wz hSw
      go_simp
    simp only [Act.put, List.setIfInBounds_toArray, List.set_cons_zero, List.set_cons_succ]
    refine wpHeld_nil ?_
    refine wpAnyH_only (i := 14) (by kernel_rfl) rfl (fun K hK => ?_)
    rw [if_pos (by rfl)]
    go_simp
    refine (H2.out _ hHeld3.2.2).mono ?_
    rintro e w4 ⟨v4, rfl, hown4, hb4⟩
    refine hK.out _ _ hb4 ?_
    clear hK K
    have hs4 := (str_of_row rfl hown4).here
    refine wpAnyH_only (i := 15) (by kernel_rfl) rfl (fun K hK => ?_)
    rw [if_pos (by rfl)]
    go_simp
    refine hK.out _ _ hb4 ?_
    clear hK K
    refine wpAnyH_takesAt 16 3 0 (of_decide_eq_true (by kernel_rfl)) rfl (fun _ _ _ _ _ h => h) (by kernel_rfl) (by kernel_rfl) hb4 ?_
    simp only [List.drop_succ_cons, List.drop_zero, List.take_succ_cons, List.take_zero]
    iterate 3 (refine wpHeld_step (v := ?_) (by rfl) (fun wz hSw => ?_) ?_; rotate_left; (focus (go_simp; try with_reducible rfl)); (simp only [Act.put, List.setIfInBounds_toArray, List.set_cons_zero, List.set_cons_succ]))
    refine wpHeld_nil ?_
    refine wpAnyH_done (by kernel_rfl) ?_ _
    refine NoPanic.normal ?_
    go_wp2
    go_ret
    exact ⟨rfl, hHeld3.2.2.trans (hb4.mono hHeld3.2.2.size)⟩
  · clear H1' H2'
    have hli : (500 : Int) < (len : Int) := by omega
    go_enter Tryd.func4, Tryd.ntmps4
    go_wp2_with (go_at_call 8; rw [HW0.out]; refine (awake_any _).mono ?_; rintro e w1 ⟨rfl, hw1⟩; obtain rfl : w0 = w1 := hw1.symm; clear hw1)
    refine wp_region_noPanic ?_
    refine wp_region_held_drew (S := (fun W' => Row W' w.heap.size 25 KV ∧ Row W' (w.heap.size + 1) 26 NV ∧ Below w.heap.size w W')) (by kernel_rfl) ⟨HrK.out.drew, HrN.out.drew, Hb0.out.drew⟩ (fun hHeld => ?_)
    refine wpAnyH_takesAt 0 19 0 (of_decide_eq_true (by kernel_rfl)) rfl (fun _ _ _ _ _ h => h) (by kernel_rfl) (by kernel_rfl) hHeld ?_
    simp only [List.drop_zero, List.take_succ_cons, List.take_zero]
    iterate 2 (refine wpHeld_step (v := ?_) (by rfl) (fun wz hSw => ?_) ?_; rotate_left; (focus (go_simp; try with_reducible rfl)); (simp only [Act.put, List.setIfInBounds_toArray, List.set_cons_zero, List.set_cons_succ]))
    refine wpHeld_step (v := .bool true) (by rfl) (fun wz hSw => ?_) ?_
    · go_simp
    simp only [Act.put, List.setIfInBounds_toArray, List.set_cons_zero, List.set_cons_succ]
    (refine wpHeld_step (v := ?_) (by rfl) (fun wz hSw => ?_) ?_; rotate_left; (focus (go_simp; try with_reducible rfl)); (simp only [Act.put, List.setIfInBounds_toArray, List.set_cons_zero, List.set_cons_succ]))
    iterate 13 (refine wpHeld_skip (by rfl) ?_; simp only [Act.put, List.setIfInBounds_toArray, List.set_cons_zero, List.set_cons_succ])
    iterate 2 (refine wpHeld_step (v := ?_) (by rfl) (fun wz hSw => ?_) ?_; rotate_left; (focus (go_simp; try with_reducible rfl)); (simp only [Act.put, List.setIfInBounds_toArray, List.set_cons_zero, List.set_cons_succ]))
    refine wpHeld_nil ?_
    refine wpAnyH_done (by kernel_rfl) ?_ _
    refine NoPanic.normal ?_
    go_wp2
    go_ret
    exact ⟨rfl, Hb0.out.drew⟩

theorem chachaStreams_walk (key : List Nat) (c : Nat) (nonce : List Nat) (p : Option Addr) (len cap : Nat) (zs : List Nat) (w : World) (hT : Tab w) (hk : key.length = 32 ∧ ∀ z ∈ key, z < 256) (hc : c < 4294967296) (hn : nonce.length = 12 ∧ ∀ z ∈ nonce, z < 256) (hI : IsBytes w.heap.size w p len cap zs) :
    Calls Tryd.prog 4 #[.agg (u8s key).toArray, .int .u32 c, .agg (u8s nonce).toArray, .slice p len cap] w fun e w' => e = .returned (.bool true) ∧ Below w.heap.size w w' :=
  chachaStreams_core c (u8s key) (u8s nonce) ((u8s_length _).trans hk.1) ((u8s_length _).trans hn.1) p len cap zs (streamN key c nonce zs) w hI (streamN_length _ _ _ _) (streamN_lt key c nonce hI.2.2.2.1) (fun hlen W hb => stream_any key c nonce hk hc hn p len cap zs (by omega) W (hT.later hb) (hI.later hb))
    (fun hlen W hb => refStream_any key c nonce hk hc hn p len cap zs (by omega) W (hI.later hb))
end Go.Proofs.YtcciofbepdjkoaaDoor
