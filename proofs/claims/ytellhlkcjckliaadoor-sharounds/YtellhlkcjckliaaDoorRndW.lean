/-
  The law ShaRounds, walked: for every eight words and every block it returns true.
-/
import Derived.Test.YtellhlkcjckliaaDoorAwake
import Derived.Test.YtellhlkcjckliaaDoorEq
import Derived.Test.YtellhlkcjckliaaDoorRefComp
namespace Go.Proofs.YtellhlkcjckliaaDoor
open Go.RowKit
attribute [local go_sem] Oper.semAt_some

set_option maxRecDepth 100000 in
set_option maxHeartbeats 2000000 in
theorem rounds_core (SV BV WV CV : List Value) (hSl : SV.length = 8) (hBl : BV.length = 64) (hWi : ∀ i, i < 64 → ∃ z, WV[i]? = some (.int .u32 z)) (hCi : ∀ i, i < 8 → ∃ z, CV[i]? = some (.int .u32 z))
    (H13 : Hid (∀ w, Calls Tryd.prog 13 #[.agg BV.toArray] w fun e w' => e = .returned (.agg WV.toArray) ∧ Below w.heap.size w w')) (H14 : Hid (∀ w, Calls Tryd.prog 14 #[.agg BV.toArray] w fun e w' => e = .returned (.agg WV.toArray) ∧ Below w.heap.size w w'))
    (H15 : Hid (∀ w, Tab w → Calls Tryd.prog 15 #[.agg SV.toArray, .agg BV.toArray] w fun e w' => e = .returned (.agg CV.toArray) ∧ Below w.heap.size w w')) (H16 : Hid (∀ w, Calls Tryd.prog 16 #[.agg SV.toArray, .agg BV.toArray] w fun e w' => e = .returned (.agg CV.toArray) ∧ Below w.heap.size w w'))
    (w : World) (hT : Tab w) : Calls Tryd.prog 5 #[.agg SV.toArray, .agg BV.toArray] w fun e w' => e = .returned (.bool true) ∧ Below w.heap.size w w' := by
  have hq37 := equal37 WV hWi
  have hq36 := equal36 CV hCi
  have HSl : Hid (SV.length = 8) := hSl
  have HBl : Hid (BV.length = 64) := hBl
  have hb0 : Below w.heap.size w ((w.alloc (.cells SV.toArray 36)).alloc (.cells BV.toArray 33)) := ((Below.refl _ w).alloc (Nat.le_refl _) _).alloc (by simp) _
  have h2 := Row.new' (w.alloc (.cells SV.toArray 36)) 33 BV
  rw [World.size_alloc] at h2
  have H0 : Hid (Row ((w.alloc (.cells SV.toArray 36)).alloc (.cells BV.toArray 33)) w.heap.size 36 SV ∧ Row ((w.alloc (.cells SV.toArray 36)).alloc (.cells BV.toArray 33)) (w.heap.size + 1) 33 BV ∧ Below w.heap.size w ((w.alloc (.cells SV.toArray 36)).alloc (.cells BV.toArray 33)) ∧ Tab ((w.alloc (.cells SV.toArray 36)).alloc (.cells BV.toArray 33))) := ⟨(Row.new' w 36 SV).alloc _, h2, hb0, hT.later hb0⟩
  clear hSl hBl hWi hCi hb0 h2 hT
  go_enter Tryd.func5, Tryd.ntmps5
  go_wp2_with (go_at_call 8; refine (awake_any _ H0.out.2.2.2).mono ?_; rintro e w1 ⟨rfl, hb1⟩)
  have HH : Hid (Row w1 w.heap.size 36 SV) := H0.out.1.later hb1
  have HB : Hid (Row w1 (w.heap.size + 1) 33 BV) := H0.out.2.1.later hb1
  have HT1 : Hid (Tab w1) := H0.out.2.2.2.later hb1
  have HW1 : Hid (Below w.heap.size w w1) := H0.out.2.2.1.trans (hb1.mono H0.out.2.2.1.size)
  clear hb1 H0
  refine wp_region_noPanic ?_
  refine wp_region_held_drew (S := fun W => Below w1.heap.size w1 W) (by kernel_rfl) (Below.refl _ _).drew (fun hHeld => ?_)
  refine wpAnyH_take (i := 0) rfl (by kernel_rfl) (by kernel_rfl) (by kernel_rfl) (fun _ _ _ h => h) (yieldsIf_load_mid (by rfl) 33 (.tmp 3) rfl (w.heap.size + 1) 0 rfl BV _ (fun W hW => (Row.below HB.out hW HB.out.lt).range) Tryd.underlying33 rfl (by rw [HBl.out]; exact size33)) hHeld ?_
  simp only [Act.put, List.setIfInBounds_toArray]
  refine wpAnyH_take (i := 2) rfl (by kernel_rfl) (by kernel_rfl) (by kernel_rfl) (fun _ _ _ h => h) (yieldsIf_load_mid (by rfl) 33 (.tmp 3) rfl (w.heap.size + 1) 0 rfl BV _ (fun W hW => (Row.below HB.out hW HB.out.lt).range) Tryd.underlying33 rfl (by rw [HBl.out]; exact size33)) hHeld ?_
  simp only [Act.put]
  refine wpAnyH_only (i := 1) (by kernel_rfl) rfl (fun K hK => ?_)
  rw [if_pos (by rfl)]
  go_simp
  refine (H13.out _).mono ?_
  rintro e w2 ⟨rfl, hbw2⟩
  have hHeldw2 : Below w1.heap.size w1 w2 := hHeld.trans (hbw2.mono hHeld.size)
  refine hK.out _ _ hHeldw2 ?_
  clear hK K hHeld
  have hHeld := hHeldw2
  refine wpAnyH_only (i := 3) (by kernel_rfl) rfl (fun K hK => ?_)
  rw [if_pos (by rfl)]
  go_simp
  refine (H14.out _).mono ?_
  rintro e w3 ⟨rfl, hbw3⟩
  have hHeldw3 : Below w1.heap.size w1 w3 := hHeldw2.trans (hbw3.mono hHeldw2.size)
  refine hK.out _ _ hHeldw3 ?_
  clear hK K hHeld
  have hHeld := hHeldw3
  refine wpAnyH_takesAt 4 2 9 (of_decide_eq_true (by kernel_rfl)) rfl (fun _ _ _ _ _ h => h) (by kernel_rfl) (by kernel_rfl) hHeld ?_
  simp only [List.drop_succ_cons, List.drop_zero, List.take_succ_cons, List.take_zero]
  iterate 2 (refine wpHeld_step (v := ?_) (by rfl) (fun wz hSw => ?_) ?_; rotate_left; (focus ((try dsimp only at hSw); go_simp; try with_reducible rfl)); (simp only [Act.put, List.setIfInBounds_toArray, List.set_cons_zero, List.set_cons_succ]))
  refine wpHeld_nil ?_
  refine wpAnyH_take (i := 6) rfl (by kernel_rfl) (by kernel_rfl) (by kernel_rfl) (fun _ _ _ h => h) (yieldsIf_load_mid (by rfl) 36 (.tmp 2) rfl (w.heap.size) 0 rfl SV _ (fun W hW => (Row.below HH.out hW HH.out.lt).range) Tryd.underlying36 rfl (by rw [HSl.out]; exact size36)) hHeld ?_
  simp only [Act.put, List.setIfInBounds_toArray]
  refine wpAnyH_take (i := 7) rfl (by kernel_rfl) (by kernel_rfl) (by kernel_rfl) (fun _ _ _ h => h) (yieldsIf_load_mid (by rfl) 33 (.tmp 3) rfl (w.heap.size + 1) 0 rfl BV _ (fun W hW => (Row.below HB.out hW HB.out.lt).range) Tryd.underlying33 rfl (by rw [HBl.out]; exact size33)) hHeld ?_
  simp only [Act.put]
  refine wpAnyH_take (i := 9) rfl (by kernel_rfl) (by kernel_rfl) (by kernel_rfl) (fun _ _ _ h => h) (yieldsIf_load_mid (by rfl) 36 (.tmp 2) rfl (w.heap.size) 0 rfl SV _ (fun W hW => (Row.below HH.out hW HH.out.lt).range) Tryd.underlying36 rfl (by rw [HSl.out]; exact size36)) hHeld ?_
  simp only [Act.put]
  refine wpAnyH_take (i := 10) rfl (by kernel_rfl) (by kernel_rfl) (by kernel_rfl) (fun _ _ _ h => h) (yieldsIf_load_mid (by rfl) 33 (.tmp 3) rfl (w.heap.size + 1) 0 rfl BV _ (fun W hW => (Row.below HB.out hW HB.out.lt).range) Tryd.underlying33 rfl (by rw [HBl.out]; exact size33)) hHeld ?_
  simp only [Act.put]
  refine wpAnyH_only (i := 8) (by kernel_rfl) rfl (fun K hK => ?_)
  rw [if_pos (by rfl)]
  go_simp
  refine (H15.out _ (HT1.out.below hHeldw3 HT1.out.pos)).mono ?_
  rintro e w4 ⟨rfl, hbw4⟩
  have hHeldw4 : Below w1.heap.size w1 w4 := hHeldw3.trans (hbw4.mono hHeldw3.size)
  refine hK.out _ _ hHeldw4 ?_
  clear hK K hHeld
  have hHeld := hHeldw4
  refine wpAnyH_only (i := 11) (by kernel_rfl) rfl (fun K hK => ?_)
  rw [if_pos (by rfl)]
  go_simp
  refine (H16.out _).mono ?_
  rintro e w5 ⟨rfl, hbw5⟩
  have hHeldw5 : Below w1.heap.size w1 w5 := hHeldw4.trans (hbw5.mono hHeldw4.size)
  refine hK.out _ _ hHeldw5 ?_
  clear hK K hHeld
  have hHeld := hHeldw5
  refine wpAnyH_takesAt 12 3 0 (of_decide_eq_true (by kernel_rfl)) rfl (fun _ _ _ _ _ h => h) (by kernel_rfl) (by kernel_rfl) hHeld ?_
  simp only [List.drop_succ_cons, List.drop_zero, List.take_succ_cons, List.take_zero]
  iterate 3 (refine wpHeld_step (v := ?_) (by rfl) (fun wz hSw => ?_) ?_; rotate_left; (focus ((try dsimp only at hSw); go_simp; try with_reducible rfl)); (simp only [Act.put, List.setIfInBounds_toArray, List.set_cons_zero, List.set_cons_succ]))
  refine wpHeld_nil ?_
  refine wpAnyH_done (by kernel_rfl) ?_ _
  refine NoPanic.normal ?_
  go_wp2
  go_ret
  exact ⟨rfl, HW1.out.trans (hHeldw5.mono HW1.out.size)⟩
/-- ShaRounds -/
theorem rounds_any (s : St) (hs : s.ok) (bs : List Nat) (hl : bs.length = 64) (hb : ∀ z ∈ bs, z < 256) (w : World) (hT : Tab w) :
    Calls Tryd.prog 5 #[.agg (u32s s.list).toArray, .agg (u8s bs).toArray] w fun e w' => e = .returned (.bool true) ∧ Below w.heap.size w w' :=
  rounds_core (u32s s.list) (u8s bs) (u32s (sched bs)) (u32s (compressN s bs).list) rfl (by rw [u8s_length]; exact hl) (u32s_int _ (sched_length bs)) (u32s_int _ (St.list_length _))
    (fun w => schedule_any bs hl hb w) (fun w => refSchedule_any bs hl hb w) (fun w hT => compress_any s hs bs hl hb w hT) (fun w => refCompress_any s hs bs hl hb w) w hT
end Go.Proofs.YtellhlkcjckliaaDoor
