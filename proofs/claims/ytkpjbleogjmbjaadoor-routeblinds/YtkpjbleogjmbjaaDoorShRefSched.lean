/-
  What the reference's Schedule answers: the words of a block, for every block; nothing that lay before the call has turned.
-/
import Derived.Test.YtkpjbleogjmbjaaDoorBaseAll
import Derived.Test.YtkpjbleogjmbjaaDoorShSched
import Derived.Test.YtkpjbleogjmbjaaDoorShA
namespace Go.Proofs.YtkpjbleogjmbjaaDoor.Sh
open Go.RowKit
attribute [local go_sem] Oper.semAt_some

/-- The first k words of a schedule. -/
def schedP (bs : List Nat) (k : Nat) : List Nat := if k ≤ 16 then firstW bs k else growW bs (k - 16)
theorem schedP_length (bs : List Nat) (k : Nat) (hk : k ≤ 64) : (schedP bs k).length = k := by
  unfold schedP
  split
  · exact firstW_length bs k
  · rw [growW_length]; omega
theorem schedP_low (bs : List Nat) (k : Nat) (hk : k < 16) : schedP bs k ++ [word4 bs k] = schedP bs (k + 1) := by
  unfold schedP
  rw [if_pos (by omega), if_pos (by omega), firstW_succ]
theorem schedP_high (bs : List Nat) (k : Nat) (hk : 16 ≤ k) : schedP bs k = growW bs (k - 16) := by
  unfold schedP
  by_cases h : k = 16
  · subst h; rfl
  · rw [if_neg (by omega)]

set_option maxRecDepth 100000 in
set_option maxHeartbeats 2000000 in
theorem refSchedule_any (bs : List Nat) (hl : bs.length = 64) (hb : ∀ z ∈ bs, z < 256) (w : World) :
    Calls Tryd.prog 46 #[.agg (u8s bs).toArray] w fun e w' => e = .returned (.agg (u32s (sched bs)).toArray) ∧ Below w.heap.size w w' := by
  have HL : Hid (bs.length = 64) := hl
  have HB : Hid (∀ z ∈ bs, z < 256) := hb
  clear hl hb
  go_enter Tryd.func46, Tryd.ntmps46
  go_wp2
  rw [z64u32]
  generalize hw3 : ((w.alloc (Obj.cells (u8s bs).toArray 91)).alloc (Obj.cells (List.replicate 64 (Value.int .u32 0)).toArray 112)).alloc (Obj.cells (List.replicate 64 (Value.int .u32 0)).toArray 112) = w3
  have rB : Row w3 w.heap.size 91 (u8s bs) := by rw [← hw3]; exact ((Row.new' w 91 _).alloc _).alloc _
  have rR : Row w3 (w.heap.size + 1) 112 (List.replicate 64 (Value.int .u32 0)) := by rw [← hw3]; have := Row.new' (w.alloc (Obj.cells (u8s bs).toArray 91)) 112 (List.replicate 64 (Value.int .u32 0)); rw [World.size_alloc] at this; exact this.alloc _
  have rW : Row w3 (w.heap.size + 1 + 1) 112 (List.replicate 64 (Value.int .u32 0)) := by rw [← hw3]; have := Row.new' ((w.alloc (Obj.cells (u8s bs).toArray 91)).alloc (Obj.cells (List.replicate 64 (Value.int .u32 0)).toArray 112)) 112 (List.replicate 64 (Value.int .u32 0)); simpa using this
  have hB3 : Below w.heap.size w w3 := by rw [← hw3]; exact (((Below.refl _ w).alloc (Nat.le_refl _) _).alloc (by simp) _).alloc (by simp; omega) _
  clear hw3
  go_loopw [7] (fun i wr => ∃ k : Nat, k ≤ 64 ∧ i = .int .i64 k ∧ Row wr w.heap.size 91 (u8s bs) ∧ Row wr (w.heap.size + 1) 112 (List.replicate 64 (Value.int .u32 0)) ∧ Row wr (w.heap.size + 1 + 1) 112 (fill 64 (.int .u32 0) (u32s (schedP bs k))) ∧ Below w.heap.size w wr)
    (fun i _ => 64 - (intOf i).toNat)
  case atStart => exact ⟨0, by omega, rfl, rB, rR, rW, hB3⟩
  case round =>
    obtain ⟨k, hk, rfl, hrB, hrR, hrW, hBw⟩ := hrel
    clear rB rR rW hB3
    by_cases hk16 : k < 16
    · have hki : (k : Int) < 16 := by omega
      have hkj : (k : Int) < 64 := by omega
      have hbl := HL.out
      have hbb := HB.out
      have c0 := hrB.cell (u8s_at (l := bs) (i := 4 * k) (by omega))
      have c1 := hrB.cell (u8s_at (l := bs) (i := 4 * k + 1) (by omega))
      have c2 := hrB.cell (u8s_at (l := bs) (i := 4 * k + 2) (by omega))
      have c3 := hrB.cell (u8s_at (l := bs) (i := 4 * k + 3) (by omega))
      have b0 : bs.getD (4 * k) 0 < 256 := all_getD (by decide) hbb _
      have b1 : bs.getD (4 * k + 1) 0 < 256 := all_getD (by decide) hbb _
      have b2 : bs.getD (4 * k + 2) 0 < 256 := all_getD (by decide) hbb _
      have b3 : bs.getD (4 * k + 3) 0 < 256 := all_getD (by decide) hbb _
      have HW : Hid (word4 bs k = wordB (bs.getD (4 * k) 0) (bs.getD (4 * k + 1) 0) (bs.getD (4 * k + 2) 0) (bs.getD (4 * k + 3) 0)) := rfl
      generalize bs.getD (4 * k) 0 = x0 at *
      generalize bs.getD (4 * k + 1) 0 = x1 at *
      generalize bs.getD (4 * k + 2) 0 = x2 at *
      generalize bs.getD (4 * k + 3) 0 = x3 at *
      have e0 : IntKind.i64.wrap (4 * (k : Int)) = ((4 * k : Nat) : Int) := by rw [IntKind.wrap_i64]; omega
      have e1 : IntKind.i64.wrap (((4 * k : Nat) : Int) + 1) = ((4 * k + 1 : Nat) : Int) := by rw [IntKind.wrap_i64]; omega
      have e2 : IntKind.i64.wrap (((4 * k : Nat) : Int) + 2) = ((4 * k + 2 : Nat) : Int) := by rw [IntKind.wrap_i64]; omega
      have e3 : IntKind.i64.wrap (((4 * k : Nat) : Int) + 3) = ((4 * k + 3 : Nat) : Int) := by rw [IntKind.wrap_i64]; omega
      have l0 : ((4 * k : Nat) : Int) < 64 := by omega
      have l1 : ((4 * k + 1 : Nat) : Int) < 64 := by omega
      have l2 : ((4 * k + 2 : Nat) : Int) < 64 := by omega
      have l3 : ((4 * k + 3 : Nat) : Int) < 64 := by omega
      generalize 4 * k + 1 = m1 at *
      generalize 4 * k + 2 = m2 at *
      generalize 4 * k + 3 = m3 at *
      generalize 4 * k = m0 at *
      have hWc := hrW.cell (i := k) (v := .int .u32 0) (fill_rest _ _ _ (by rw [u32s_length, schedP_length _ _ (by omega)]; omega) (by omega))
      have hWf := hrW.frozen k
      have HrB : Hid (Row wr w.heap.size 91 (u8s bs)) := hrB
      have HrR : Hid (Row wr (w.heap.size + 1) 112 (List.replicate 64 (Value.int .u32 0))) := hrR
      have HrW : Hid (Row wr (w.heap.size + 1 + 1) 112 (fill 64 (.int .u32 0) (u32s (schedP bs k)))) := hrW
      have HV : Hid (Value.int .u32 (word4 bs k : Nat) = .int .u32 (bits .or .u32 (bits .or .u32 (bits .or .u32 (IntKind.u32.wrap ((x0 : Int) * 16777216)) (IntKind.u32.wrap ((x1 : Int) * 65536))) (IntKind.u32.wrap ((x2 : Int) * 256))) (x3 : Int))) := by
        show _ = _
        rw [HW.out, wordB_or x0 x1 x2 x3 b0 b1 b2 b3]
      have u0 : IntKind.u32.wrap (x0 : Int) = x0 := by rw [IntKind.wrap_u32]; omega
      have u1 : IntKind.u32.wrap (x1 : Int) = x1 := by rw [IntKind.wrap_u32]; omega
      have u2 : IntKind.u32.wrap (x2 : Int) = x2 := by rw [IntKind.wrap_u32]; omega
      have u3 : IntKind.u32.wrap (x3 : Int) = x3 := by rw [IntKind.wrap_u32]; omega
      clear hbl hbb hrB hrR hrW HW
      go_wp2
      refine wp_region_noPanic ?_
      refine wp_region_held_drew (S := fun W' => W'.cell? ⟨w.heap.size, m0, none⟩ = some (.int .u8 x0) ∧ W'.cell? ⟨w.heap.size, m1, none⟩ = some (.int .u8 x1) ∧ W'.cell? ⟨w.heap.size, m2, none⟩ = some (.int .u8 x2) ∧ W'.cell? ⟨w.heap.size, m3, none⟩ = some (.int .u8 x3)) (by kernel_rfl) ⟨by simpa using c0, by simpa using c1, by simpa using c2, by simpa using c3⟩ (fun hHeld => ?_)
      refine wpAnyH_takesAt 0 31 1 (of_decide_eq_true (by kernel_rfl)) rfl (fun _ _ _ _ _ h => h) (by kernel_rfl) (by kernel_rfl) hHeld ?_
      simp only [List.drop_zero, List.take_succ_cons, List.take_zero]
      iterate 31 (refine wpHeld_step (v := ?_) (by rfl) (fun wz hSw => ?_) ?_; rotate_left; (focus ((try dsimp only at hSw); go_simp; try with_reducible rfl)); (simp only [Act.put, List.setIfInBounds_toArray, List.set_cons_zero, List.set_cons_succ]))
      refine wpHeld_nil ?_
      refine wpAnyH_only (i := 31) (by kernel_rfl) rfl (fun K hK => ?_)
      rw [if_pos (by rfl)]
      go_simp
      rw [← HV.out]
      refine hK.out _ _ ⟨(World.cell?_setCell_far _ _ _ _ (by simp; omega)).trans c0, (World.cell?_setCell_far _ _ _ _ (by simp; omega)).trans c1, (World.cell?_setCell_far _ _ _ _ (by simp; omega)).trans c2, (World.cell?_setCell_far _ _ _ _ (by simp; omega)).trans c3⟩ ?_
      clear hK K
      refine wpAnyH_done (by kernel_rfl) ?_ _
      refine NoPanic.normal ?_
      have r1 : Hid (Row (wr.setCell ⟨w.heap.size + 1 + 1, k, none⟩ (.int .u32 (word4 bs k : Nat))) (w.heap.size + 1 + 1) 112 (fill 64 (.int .u32 0) (u32s (schedP bs (k + 1))))) := by
        have h := HrW.out.set k (.int .u32 (word4 bs k : Nat))
        rw [fill_set _ _ _ _ (by rw [u32s_length, schedP_length _ _ (by omega)]) (by omega), u32s_snoc, schedP_low _ _ hk16] at h
        exact h
      have r2 : Hid (Row (wr.setCell ⟨w.heap.size + 1 + 1, k, none⟩ (.int .u32 (word4 bs k : Nat))) w.heap.size 91 (u8s bs)) := HrB.out.other (by simp; omega) _
      have r3 : Hid (Row (wr.setCell ⟨w.heap.size + 1 + 1, k, none⟩ (.int .u32 (word4 bs k : Nat))) (w.heap.size + 1) 112 (List.replicate 64 (Value.int .u32 0))) := HrR.out.other (by simp) _
      have hb2 : Hid (Below w.heap.size w (wr.setCell ⟨w.heap.size + 1 + 1, k, none⟩ (.int .u32 (word4 bs k : Nat)))) := hBw.setCell (p := ⟨w.heap.size + 1 + 1, k, none⟩) (by show _ ≤ w.heap.size + 1 + 1; omega) _
      go_wp2
      go_roundw
      case rel => exact ⟨k + 1, by omega, by go_num, r2.out.drew, r3.out.drew, r1.out.drew, hb2.out.drew⟩
      case measure => simp [intOf]; omega
    by_cases hk64 : k < 64
    · have hk16 : 16 ≤ k := by omega
      have hk16i : ¬ (k : Int) < 16 := by omega
      have hk16j : (16 : Int) ≤ (k : Int) := by omega
      have HrB : Hid (Row wr w.heap.size 91 (u8s bs)) := hrB
      clear hrB
      rw [schedP_high bs k hk16] at hrW
      have hlen : (growW bs (k - 16)).length = k := by rw [growW_length]; omega
      have hlt := growW_lt bs HB.out (k - 16)
      have HN : Hid (nextW (growW bs (k - 16)) = extN ((growW bs (k - 16)).getD (k - 16) 0) ((growW bs (k - 16)).getD (k - 7) 0) ((growW bs (k - 16)).getD (k - 2) 0) ((growW bs (k - 16)).getD (k - 15) 0)) := by
        show _ = _
        unfold nextW; rw [hlen]
      have HG : Hid (growW bs (k + 1 - 16) = growW bs (k - 16) ++ [nextW (growW bs (k - 16))]) := by
        show _ = _
        rw [show k + 1 - 16 = (k - 16) + 1 by omega]; rfl
      have ca := hrW.cell ((fill_at 64 (.int .u32 0) (u32s (growW bs (k - 16))) (i := k - 16) (by simp)).trans (u32s_at (by omega)))
      have cb := hrW.cell ((fill_at 64 (.int .u32 0) (u32s (growW bs (k - 16))) (i := k - 7) (by simp; omega)).trans (u32s_at (by omega)))
      have cc := hrW.cell ((fill_at 64 (.int .u32 0) (u32s (growW bs (k - 16))) (i := k - 2) (by simp; omega)).trans (u32s_at (by omega)))
      have cd := hrW.cell ((fill_at 64 (.int .u32 0) (u32s (growW bs (k - 16))) (i := k - 15) (by simp; omega)).trans (u32s_at (by omega)))
      have hWc := hrW.cell (i := k) (v := .int .u32 0) (fill_rest _ _ _ (by simp; omega) (by omega))
      have hWf := hrW.frozen k
      have ba : (growW bs (k - 16)).getD (k - 16) 0 < 4294967296 := all_getD (by decide) hlt _
      have bb : (growW bs (k - 16)).getD (k - 7) 0 < 4294967296 := all_getD (by decide) hlt _
      have bc : (growW bs (k - 16)).getD (k - 2) 0 < 4294967296 := all_getD (by decide) hlt _
      have bd : (growW bs (k - 16)).getD (k - 15) 0 < 4294967296 := all_getD (by decide) hlt _
      generalize (growW bs (k - 16)).getD (k - 16) 0 = xa at *
      generalize (growW bs (k - 16)).getD (k - 7) 0 = xb at *
      generalize (growW bs (k - 16)).getD (k - 2) 0 = xc at *
      generalize (growW bs (k - 16)).getD (k - 15) 0 = xd at *
      have hki : (k : Int) < 64 := by omega
      have ea : IntKind.i64.wrap ((k : Int) - 16) = ((k - 16 : Nat) : Int) := by rw [IntKind.wrap_i64]; omega
      have eb : IntKind.i64.wrap ((k : Int) - 7) = ((k - 7 : Nat) : Int) := by rw [IntKind.wrap_i64]; omega
      have ec : IntKind.i64.wrap ((k : Int) - 2) = ((k - 2 : Nat) : Int) := by rw [IntKind.wrap_i64]; omega
      have ed : IntKind.i64.wrap ((k : Int) - 15) = ((k - 15 : Nat) : Int) := by rw [IntKind.wrap_i64]; omega
      have la : ((k - 16 : Nat) : Int) < 64 := by omega
      have lb : ((k - 7 : Nat) : Int) < 64 := by omega
      have lc : ((k - 2 : Nat) : Int) < 64 := by omega
      have ld : ((k - 15 : Nat) : Int) < 64 := by omega
      have na : Hid (k ≠ k - 16) := by show _ ≠ _; omega
      have nb : Hid (k ≠ k - 7) := by show _ ≠ _; omega
      have nc : Hid (k ≠ k - 2) := by show _ ≠ _; omega
      have nd : Hid (k ≠ k - 15) := by show _ ≠ _; omega
      have HrR : Hid (Row wr (w.heap.size + 1) 112 (List.replicate 64 (Value.int .u32 0))) := hrR
      have HrW : Hid (Row wr (w.heap.size + 1 + 1) 112 (fill 64 (.int .u32 0) (u32s (growW bs (k - 16))))) := hrW
      have HL2 : Hid ((growW bs (k - 16)).length = k) := hlen
      generalize growW bs (k - 16) = G at *
      generalize k - 16 = ia at *
      generalize k - 7 = ib at *
      generalize k - 2 = ic at *
      generalize k - 15 = id at *
      have H17 : Hid (∀ w, Calls Tryd.prog 48 #[.int .u32 xc, .int .i64 (-17)] w fun e w' => e = .returned (.int .u32 (ror xc 17 : Nat)) ∧ w' = w) := fun w => refRor_int xc (-17) w bc (by omega) (by omega)
      have H19 : Hid (∀ w, Calls Tryd.prog 48 #[.int .u32 xc, .int .i64 (-19)] w fun e w' => e = .returned (.int .u32 (ror xc 19 : Nat)) ∧ w' = w) := fun w => refRor_int xc (-19) w bc (by omega) (by omega)
      have H7 : Hid (∀ w, Calls Tryd.prog 48 #[.int .u32 xd, .int .i64 (-7)] w fun e w' => e = .returned (.int .u32 (ror xd 7 : Nat)) ∧ w' = w) := fun w => refRor_int xd (-7) w bd (by omega) (by omega)
      have H18 : Hid (∀ w, Calls Tryd.prog 48 #[.int .u32 xd, .int .i64 (-18)] w fun e w' => e = .returned (.int .u32 (ror xd 18 : Nat)) ∧ w' = w) := fun w => refRor_int xd (-18) w bd (by omega) (by omega)
      clear hrR hrW hlen hlt
      go_wp2
      go_quiet (fail)
      go_wp2
      refine wp_region_noPanic ?_
      refine wp_region_held_drew (S := fun W' => W'.cell? ⟨w.heap.size + 1 + 1, ia, none⟩ = some (.int .u32 xa) ∧ W'.cell? ⟨w.heap.size + 1 + 1, ib, none⟩ = some (.int .u32 xb)) (by kernel_rfl) ⟨by simpa using ca, by simpa using cb⟩ (fun hHeld => ?_)
      refine wpAnyH_takesAt 0 2 28 (of_decide_eq_true (by kernel_rfl)) rfl (fun _ _ _ _ _ h => h) (by kernel_rfl) (by kernel_rfl) hHeld ?_
      simp only [List.drop_zero, List.take_succ_cons, List.take_zero]
      iterate 2 (refine wpHeld_step (v := ?_) (by rfl) (fun wz hSw => ?_) ?_; rotate_left; (focus ((try dsimp only at hSw); go_simp; try with_reducible rfl)); (simp only [Act.put, List.setIfInBounds_toArray, List.set_cons_zero, List.set_cons_succ]))
      refine wpHeld_nil ?_
      refine wpAnyH_takesAt 3 1 27 (of_decide_eq_true (by kernel_rfl)) rfl (fun _ _ _ _ _ h => h) (by kernel_rfl) (by kernel_rfl) hHeld ?_
      simp only [List.drop_succ_cons, List.drop_zero, List.take_succ_cons, List.take_zero]
      iterate 1 (refine wpHeld_step (v := ?_) (by rfl) (fun wz hSw => ?_) ?_; rotate_left; (focus ((try dsimp only at hSw); go_simp; try with_reducible rfl)); (simp only [Act.put, List.setIfInBounds_toArray, List.set_cons_zero, List.set_cons_succ]))
      refine wpHeld_nil ?_
      refine wpAnyH_takesAt 6 2 25 (of_decide_eq_true (by kernel_rfl)) rfl (fun _ _ _ _ _ h => h) (by kernel_rfl) (by kernel_rfl) hHeld ?_
      simp only [List.drop_succ_cons, List.drop_zero, List.take_succ_cons, List.take_zero]
      iterate 2 (refine wpHeld_step (v := ?_) (by rfl) (fun wz hSw => ?_) ?_; rotate_left; (focus ((try dsimp only at hSw); go_simp; try with_reducible rfl)); (simp only [Act.put, List.setIfInBounds_toArray, List.set_cons_zero, List.set_cons_succ]))
      refine wpHeld_nil ?_
      refine wpAnyH_takesAt 9 4 21 (of_decide_eq_true (by kernel_rfl)) rfl (fun _ _ _ _ _ h => h) (by kernel_rfl) (by kernel_rfl) hHeld ?_
      simp only [List.drop_succ_cons, List.drop_zero, List.take_succ_cons, List.take_zero]
      iterate 4 (refine wpHeld_step (v := ?_) (by rfl) (fun wz hSw => ?_) ?_; rotate_left; (focus ((try dsimp only at hSw); go_simp; try with_reducible rfl)); (simp only [Act.put, List.setIfInBounds_toArray, List.set_cons_zero, List.set_cons_succ]))
      refine wpHeld_nil ?_
      refine wpAnyH_takesAt 14 1 20 (of_decide_eq_true (by kernel_rfl)) rfl (fun _ _ _ _ _ h => h) (by kernel_rfl) (by kernel_rfl) hHeld ?_
      simp only [List.drop_succ_cons, List.drop_zero, List.take_succ_cons, List.take_zero]
      iterate 1 (refine wpHeld_step (v := ?_) (by rfl) (fun wz hSw => ?_) ?_; rotate_left; (focus ((try dsimp only at hSw); go_simp; try with_reducible rfl)); (simp only [Act.put, List.setIfInBounds_toArray, List.set_cons_zero, List.set_cons_succ]))
      refine wpHeld_nil ?_
      refine wpAnyH_takesAt 16 1 19 (of_decide_eq_true (by kernel_rfl)) rfl (fun _ _ _ _ _ h => h) (by kernel_rfl) (by kernel_rfl) hHeld ?_
      simp only [List.drop_succ_cons, List.drop_zero, List.take_succ_cons, List.take_zero]
      iterate 1 (refine wpHeld_step (v := ?_) (by rfl) (fun wz hSw => ?_) ?_; rotate_left; (focus ((try dsimp only at hSw); go_simp; try with_reducible rfl)); (simp only [Act.put, List.setIfInBounds_toArray, List.set_cons_zero, List.set_cons_succ]))
      refine wpHeld_nil ?_
      refine wpAnyH_takesAt 19 2 17 (of_decide_eq_true (by kernel_rfl)) rfl (fun _ _ _ _ _ h => h) (by kernel_rfl) (by kernel_rfl) hHeld ?_
      simp only [List.drop_succ_cons, List.drop_zero, List.take_succ_cons, List.take_zero]
      iterate 2 (refine wpHeld_step (v := ?_) (by rfl) (fun wz hSw => ?_) ?_; rotate_left; (focus ((try dsimp only at hSw); go_simp; try with_reducible rfl)); (simp only [Act.put, List.setIfInBounds_toArray, List.set_cons_zero, List.set_cons_succ]))
      refine wpHeld_nil ?_
      refine wpAnyH_takesAt 23 4 13 (of_decide_eq_true (by kernel_rfl)) rfl (fun _ _ _ _ _ h => h) (by kernel_rfl) (by kernel_rfl) hHeld ?_
      simp only [List.drop_succ_cons, List.drop_zero, List.take_succ_cons, List.take_zero]
      iterate 4 (refine wpHeld_step (v := ?_) (by rfl) (fun wz hSw => ?_) ?_; rotate_left; (focus ((try dsimp only at hSw); go_simp; try with_reducible rfl)); (simp only [Act.put, List.setIfInBounds_toArray, List.set_cons_zero, List.set_cons_succ]))
      refine wpHeld_nil ?_
      refine wpAnyH_only (i := 2) (by kernel_rfl) rfl (fun K hK => ?_)
      rw [if_pos (by rfl)]
      go_simp
      refine (H17.out _).mono ?_
      rintro e w' ⟨rfl, rfl⟩
      refine hK.out _ _ hHeld ?_
      clear hK K
      refine wpAnyH_only (i := 4) (by kernel_rfl) rfl (fun K hK => ?_)
      rw [if_pos (by rfl)]
      go_simp
      refine (H19.out _).mono ?_
      rintro e w' ⟨rfl, rfl⟩
      refine hK.out _ _ hHeld ?_
      clear hK K
      refine wpAnyH_takesAt 5 1 10 (of_decide_eq_true (by kernel_rfl)) rfl (fun _ _ _ _ _ h => h) (by kernel_rfl) (by kernel_rfl) hHeld ?_
      simp only [List.drop_succ_cons, List.drop_zero, List.take_succ_cons, List.take_zero]
      iterate 1 (refine wpHeld_step (v := ?_) (by rfl) (fun wz hSw => ?_) ?_; rotate_left; (focus ((try dsimp only at hSw); go_simp; try with_reducible rfl)); (simp only [Act.put, List.setIfInBounds_toArray, List.set_cons_zero, List.set_cons_succ]))
      refine wpHeld_nil ?_
      refine wpAnyH_takesAt 8 1 9 (of_decide_eq_true (by kernel_rfl)) rfl (fun _ _ _ _ _ h => h) (by kernel_rfl) (by kernel_rfl) hHeld ?_
      simp only [List.drop_succ_cons, List.drop_zero, List.take_succ_cons, List.take_zero]
      iterate 1 (refine wpHeld_step (v := ?_) (by rfl) (fun wz hSw => ?_) ?_; rotate_left; (focus ((try dsimp only at hSw); go_simp; try with_reducible rfl)); (simp only [Act.put, List.setIfInBounds_toArray, List.set_cons_zero, List.set_cons_succ]))
      refine wpHeld_nil ?_
      refine wpAnyH_takesAt 13 1 8 (of_decide_eq_true (by kernel_rfl)) rfl (fun _ _ _ _ _ h => h) (by kernel_rfl) (by kernel_rfl) hHeld ?_
      simp only [List.drop_succ_cons, List.drop_zero, List.take_succ_cons, List.take_zero]
      iterate 1 (refine wpHeld_step (v := ?_) (by rfl) (fun wz hSw => ?_) ?_; rotate_left; (focus ((try dsimp only at hSw); go_simp; try with_reducible rfl)); (simp only [Act.put, List.setIfInBounds_toArray, List.set_cons_zero, List.set_cons_succ]))
      refine wpHeld_nil ?_
      refine wpAnyH_only (i := 15) (by kernel_rfl) rfl (fun K hK => ?_)
      rw [if_pos (by rfl)]
      go_simp
      refine (H7.out _).mono ?_
      rintro e w' ⟨rfl, rfl⟩
      refine hK.out _ _ hHeld ?_
      clear hK K
      refine wpAnyH_only (i := 17) (by kernel_rfl) rfl (fun K hK => ?_)
      rw [if_pos (by rfl)]
      go_simp
      refine (H18.out _).mono ?_
      rintro e w' ⟨rfl, rfl⟩
      refine hK.out _ _ hHeld ?_
      clear hK K
      refine wpAnyH_takesAt 18 1 5 (of_decide_eq_true (by kernel_rfl)) rfl (fun _ _ _ _ _ h => h) (by kernel_rfl) (by kernel_rfl) hHeld ?_
      simp only [List.drop_succ_cons, List.drop_zero, List.take_succ_cons, List.take_zero]
      iterate 1 (refine wpHeld_step (v := ?_) (by rfl) (fun wz hSw => ?_) ?_; rotate_left; (focus ((try dsimp only at hSw); go_simp; try with_reducible rfl)); (simp only [Act.put, List.setIfInBounds_toArray, List.set_cons_zero, List.set_cons_succ]))
      refine wpHeld_nil ?_
      refine wpAnyH_takesAt 21 2 3 (of_decide_eq_true (by kernel_rfl)) rfl (fun _ _ _ _ _ h => h) (by kernel_rfl) (by kernel_rfl) hHeld ?_
      simp only [List.drop_succ_cons, List.drop_zero, List.take_succ_cons, List.take_zero]
      iterate 2 (refine wpHeld_step (v := ?_) (by rfl) (fun wz hSw => ?_) ?_; rotate_left; (focus ((try dsimp only at hSw); go_simp; try with_reducible rfl)); (simp only [Act.put, List.setIfInBounds_toArray, List.set_cons_zero, List.set_cons_succ]))
      refine wpHeld_nil ?_
      refine wpAnyH_takesAt 27 2 1 (of_decide_eq_true (by kernel_rfl)) rfl (fun _ _ _ _ _ h => h) (by kernel_rfl) (by kernel_rfl) hHeld ?_
      simp only [List.drop_succ_cons, List.drop_zero, List.take_succ_cons, List.take_zero]
      iterate 2 (refine wpHeld_step (v := ?_) (by rfl) (fun wz hSw => ?_) ?_; rotate_left; (focus ((try dsimp only at hSw); go_simp; try with_reducible rfl)); (simp only [Act.put, List.setIfInBounds_toArray, List.set_cons_zero, List.set_cons_succ]))
      refine wpHeld_nil ?_
      refine wpAnyH_only (i := 29) (by kernel_rfl) rfl (fun K hK => ?_)
      rw [if_pos (by rfl)]
      go_simp
      have HV : Hid (Value.int .u32 (nextW G : Nat) = .int .u32 (IntKind.u32.wrap (IntKind.u32.wrap (IntKind.u32.wrap (bits .xor .u32 (bits .xor .u32 ((ror xc 17 : Nat) : Int) ((ror xc 19 : Nat) : Int)) ((xc : Int) / 1024) + (xb : Int)) + bits .xor .u32 (bits .xor .u32 ((ror xd 7 : Nat) : Int) ((ror xd 18 : Nat) : Int)) ((xd : Int) / 8)) + (xa : Int)))) := by
        show _ = _
        rw [ext_eq' bc bd, HN.out]
      rw [← HV.out]
      refine hK.out _ _ ⟨(World.cell?_setCell_other _ _ _ _ (by simpa using na.out)).trans ca, (World.cell?_setCell_other _ _ _ _ (by simpa using nb.out)).trans cb⟩ ?_
      clear hK K
      refine wpAnyH_done (by kernel_rfl) ?_ _
      refine NoPanic.normal ?_
      have r1 : Hid (Row ((wr.drewN (nq + 1)).setCell ⟨w.heap.size + 1 + 1, k, none⟩ (.int .u32 (nextW G : Nat))) (w.heap.size + 1 + 1) 112 (fill 64 (.int .u32 0) (u32s (schedP bs (k + 1))))) := by
        have h := (HrW.out.drewN (nq + 1)).set k (.int .u32 (nextW G : Nat))
        rw [fill_set _ _ _ _ (by rw [u32s_length]; exact HL2.out) (by omega), u32s_snoc, ← HG.out, ← schedP_high bs (k + 1) (by omega)] at h
        exact h
      have r2 : Hid (Row ((wr.drewN (nq + 1)).setCell ⟨w.heap.size + 1 + 1, k, none⟩ (.int .u32 (nextW G : Nat))) w.heap.size 91 (u8s bs)) := (HrB.out.drewN (nq + 1)).other (by simp; omega) _
      have r3 : Hid (Row ((wr.drewN (nq + 1)).setCell ⟨w.heap.size + 1 + 1, k, none⟩ (.int .u32 (nextW G : Nat))) (w.heap.size + 1) 112 (List.replicate 64 (Value.int .u32 0))) := (HrR.out.drewN (nq + 1)).other (by simp) _
      have hb2 : Hid (Below w.heap.size w ((wr.drewN (nq + 1)).setCell ⟨w.heap.size + 1 + 1, k, none⟩ (.int .u32 (nextW G : Nat)))) := Below.setCell (below_drewN hBw (nq + 1)) (p := ⟨w.heap.size + 1 + 1, k, none⟩) (by show _ ≤ w.heap.size + 1 + 1; omega) _
      go_wp2
      go_roundw
      case rel => exact ⟨k + 1, by omega, by go_num, r2.out, r3.out, r1.out, hb2.out⟩
      case measure => simp [intOf]; omega
    · obtain rfl : k = 64 := by omega
      rw [schedP_high bs 64 (by omega)] at hrW
      have HrR : Hid (Row wr (w.heap.size + 1) 112 (List.replicate 64 (Value.int .u32 0))) := hrR
      have HrW : Hid (Row wr (w.heap.size + 1 + 1) 112 (u32s (sched bs))) := by
        rw [fill_full _ _ _ (by simp)] at hrW; exact hrW
      clear hrR hrW
      go_wp2_with (first
        | ((with_reducible show wpList _ _ _ (Oper.mk _ (Op.load 112 (.tmp 3)) _ _ _ _ :: _) _ _); refine wpList_load_Row rfl 112 (.tmp 3) rfl rfl HrW.out Tryd.underlying112 (by rw [u32s_length, sched_length]; exact size112) ?_; simp only [Act.put, List.setIfInBounds_toArray, List.set_cons_zero, List.set_cons_succ])
        | ((with_reducible show wpList _ _ _ (Oper.mk _ (Op.store 112 (.tmp 2) (.tmp 81)) _ _ _ _ :: _) _ _); refine wpList_store_Row rfl 112 (.tmp 2) (.tmp 81) rfl (u32s (sched bs)) rfl rfl HrR.out (by rw [u32s_length, sched_length]; exact size112) (by rw [u32s_length, sched_length]; rfl) (u32s_one _) ?_; simp only [Act.put]))
      refine bodyPost_ret (results_Row rfl rfl (HrR.out.sets_all (vs := u32s (sched bs)) (by rw [u32s_length, sched_length]; rfl)) Tryd.underlying112 (by rw [u32s_length, sched_length]; exact size112)) rfl ?_
      exact ⟨rfl, below_setCells (by omega) _ _ hBw⟩
end Go.Proofs.YtkpjbleogjmbjaaDoor.Sh
