/-
  The reference's PutCommit.
-/
import Derived.Test.YtkhhlcjjdkldjaaPutC
import Derived.Deep.CutRange
namespace Go.Proofs.Ytkhhlcjjdkldjaa
open Go.RowKit Go.Shelf

theorem dup_short {ids : List (List Nat)} (h : ids.length < 2) : dupI ids = false := by
  refine decide_eq_false (fun hn => hn ?_)
  match ids, h with
  | [], _ => exact List.nodup_nil
  | [a], _ => simp
theorem dup_two {ids : List (List Nat)} (h : ids.length = 2) : dupI ids = decide (ids.getD 0 [] = ids.getD 1 []) := by
  match ids, h with
  | [a, b], _ =>
    rw [dupI]
    by_cases hab : a = b
    · subst hab
      simp
    · have : [a, b].Nodup := by simp [hab]
      rw [decide_eq_false (fun hn => hn this)]
      simp [hab]

set_option maxRecDepth 100000 in
set_option maxHeartbeats 8000000 in
theorem refPut_any (p : Option Addr) (len cap : Nat) (ids : List (List Nat)) (c : Cmt) (hok : c.ok) (w : World) (hI : IsIds w.heap.size w p len cap ids) (htx : c.text.size ≤ 100000) :
    Calls Try.prog 10 #[.agg (cmtC (.slice p len cap) c).toArray] w fun e w' => ∃ v, e = .returned (.tuple #[v, .int .i64 (if mayC ids c = true then 0 else 120)]) ∧ Own w.heap.size w' v (if mayC ids c = true then encC ids c else []) ∧ Below w.heap.size w w' := by
  obtain ⟨wa, hwa⟩ : ∃ wa, w.alloc (.cells (cmtC (.slice p len cap) c).toArray 29) = wa := ⟨_, rfl⟩
  have HBA : Hid (Below w.heap.size w wa) := by rw [← hwa]; exact (Below.refl _ w).alloc (Nat.le_refl _) _
  have HWA : Hid (w.alloc (.cells (cmtC (.slice p len cap) c).toArray 29) = wa) := hwa
  have HCA : Hid (CmtAt wa w.heap.size (.slice p len cap) c) := by rw [← hwa]; exact CmtAt.new w _ c hok
  have HSA : Hid (wa.heap.size = w.heap.size + 1) := by show _ = _; rw [← hwa]; simp
  have HCl : Hid (∀ W, Below wa.heap.size wa W → W.cell? ⟨w.heap.size, 0, none⟩ = some (.slice p len cap) ∧ W.cell? ⟨w.heap.size, 65, none⟩ = some (.int .u64 (c.seq : Nat)) ∧ W.cell? ⟨w.heap.size, 66, none⟩ = some (.int .u32 (c.author : Nat)) ∧ W.cell? ⟨w.heap.size, 67, none⟩ = some (.string c.text)) := fun W h => ⟨(HCA.out.later h).par, (HCA.out.later h).seq, (HCA.out.later h).author, (HCA.out.later h).text⟩
  have HIa : Hid (IsIds wa.heap.size wa p len cap ids) := (hI.below HBA.out).mono HBA.out.size
  have HOk : Hid c.ok := hok
  have HL : Hid (ids.length = len) := hI.1
  have hlc := hI.2.1
  have hcc := hI.2.2.1
  clear hwa hI hok
  go_enter Try.func10, Try.ntmps10
  go_upto_region 1 with (rw [HWA.out])
  try rw [HWA.out]
  go_cut [31] from 5 to 31 (fun v wx => v = .bool (!mayC ids c) ∧ Below wa.heap.size wa wx)
  case first =>
    by_cases h1 : 2 < len
    · have h1i : (2 : Int) < (len : Int) := by omega
      have HM : Hid (mayC ids c = false) := by show _ = _; rw [mayC, HL.out, decide_eq_false (by omega)]; rfl
      refine wp_region_held_drew (S := fun W => Below wa.heap.size wa W) (by kernel_rfl) (Below.refl _ _).drew (fun hHeld => ?_)
      refine wpAnyH_takesAt 0 5 22 (of_decide_eq_true (by kernel_rfl)) rfl (fun _ _ _ d _ h => by cases d <;> exact h) (by kernel_rfl) (by kernel_rfl) hHeld ?_
      simp only [List.drop_zero, List.take_succ_cons, List.take_zero]
      iterate 5 (refine wpHeld_step (v := ?_) (by rfl) (fun wz hSw => ?_) ?_; rotate_left; (focus (obtain ⟨hc1, hc2, hc3, hc4⟩ := HCl.out wz hSw; clear hSw; go_simp; try with_reducible rfl)); (simp only [Act.put, List.setIfInBounds_toArray, List.set_cons_zero, List.set_cons_succ]))
      refine wpHeld_nil ?_
      refine wpAnyH_takesAt 5 5 17 (of_decide_eq_true (by kernel_rfl)) rfl (fun _ _ _ d _ h => by cases d <;> exact h) (by kernel_rfl) (by kernel_rfl) hHeld ?_
      simp only [List.drop_succ_cons, List.drop_zero, List.take_succ_cons, List.take_zero]
      iterate 5 (refine wpHeld_skip (by rfl) ?_; simp only [Act.put, List.setIfInBounds_toArray, List.set_cons_zero, List.set_cons_succ])
      refine wpHeld_nil ?_
      refine wpAnyH_takesAt 10 9 8 (of_decide_eq_true (by kernel_rfl)) rfl (fun _ _ _ d _ h => by cases d <;> exact h) (by kernel_rfl) (by kernel_rfl) hHeld ?_
      simp only [List.drop_succ_cons, List.drop_zero, List.take_succ_cons, List.take_zero]
      iterate 9 (refine wpHeld_skip (by rfl) ?_; simp only [Act.put, List.setIfInBounds_toArray, List.set_cons_zero, List.set_cons_succ])
      refine wpHeld_nil ?_
      refine wpAnyH_takesAt 19 1 7 (of_decide_eq_true (by kernel_rfl)) rfl (fun _ _ _ d _ h => by cases d <;> exact h) (by kernel_rfl) (by kernel_rfl) hHeld ?_
      simp only [List.drop_succ_cons, List.drop_zero, List.take_succ_cons, List.take_zero]
      iterate 1 (refine wpHeld_skip (by rfl) ?_; simp only [Act.put, List.setIfInBounds_toArray, List.set_cons_zero, List.set_cons_succ])
      refine wpHeld_nil ?_
      refine wpAnyH_takesAt 20 2 5 (of_decide_eq_true (by kernel_rfl)) rfl (fun _ _ _ d _ h => by cases d <;> exact h) (by kernel_rfl) (by kernel_rfl) hHeld ?_
      simp only [List.drop_succ_cons, List.drop_zero, List.take_succ_cons, List.take_zero]
      iterate 2 (refine wpHeld_step (v := ?_) (by rfl) (fun wz hSw => ?_) ?_; rotate_left; (focus ((try dsimp only at hSw); go_simp; try with_reducible rfl)); (simp only [Act.put, List.setIfInBounds_toArray, List.set_cons_zero, List.set_cons_succ]))
      refine wpHeld_nil ?_
      refine wpAnyH_takesAt 22 4 1 (of_decide_eq_true (by kernel_rfl)) rfl (fun _ _ _ d _ h => by cases d <;> exact h) (by kernel_rfl) (by kernel_rfl) hHeld ?_
      simp only [List.drop_succ_cons, List.drop_zero, List.take_succ_cons, List.take_zero]
      iterate 4 (refine wpHeld_skip (by rfl) ?_; simp only [Act.put, List.setIfInBounds_toArray, List.set_cons_zero, List.set_cons_succ])
      refine wpHeld_nil ?_
      refine wpAnyH_takesAt 26 1 0 (of_decide_eq_true (by kernel_rfl)) rfl (fun _ _ _ d _ h => by cases d <;> exact h) (by kernel_rfl) (by kernel_rfl) hHeld ?_
      simp only [List.drop_succ_cons, List.drop_zero, List.take_succ_cons, List.take_zero]
      iterate 1 (refine wpHeld_step (v := ?_) (by rfl) (fun wz hSw => ?_) ?_; rotate_left; (focus ((try dsimp only at hSw); go_simp; try with_reducible rfl)); ((simp only [Act.put]; (try simp only [List.setIfInBounds_toArray]); (try simp only [List.set_cons_succ]); (try simp only [List.set_cons_zero]))))
      refine wpHeld_nil ?_
      refine wpAnyH_done (by kernel_rfl) ?_ _
      go_wp2
      go_meet
      exact ⟨by rw [HM.out]; rfl, hHeld⟩
    · have h1i : ¬ (2 : Int) < (len : Int) := by omega
      by_cases h2 : len = 2
      · subst h2
        obtain ⟨b, off, rfl, hb, hcell⟩ : ∃ b off, p = some ⟨b, off, none⟩ ∧ b < wa.heap.size ∧ ∀ i, i < 2 → wa.rangeAt b (off + i * 32) (u8s (ids.getD i [])) := by
          rcases HIa.out.2.2.2.2 with h | h
          · omega
          · exact h
        have hx : IsId (ids.getD 0 []) := ids_at HIa.out.2.2.2.1 (k := 0) (by rw [HL.out]; omega)
        have hy : IsId (ids.getD 1 []) := ids_at HIa.out.2.2.2.1 (k := 1) (by rw [HL.out]; omega)
        have HRx : Hid (∀ W, Below wa.heap.size wa W → W.rangeAt b off (u8s (ids.getD 0 []))) := fun W h => by have := rangeAt_below h hb (hcell 0 (by omega)); simpa using this
        have HRy : Hid (∀ W, Below wa.heap.size wa W → W.rangeAt b (off + 32) (u8s (ids.getD 1 []))) := fun W h => by have := rangeAt_below h hb (hcell 1 (by omega)); simpa using this
        have HVx : Hid ((u8s (ids.getD 0 [])).length = 32) := by show _ = _; rw [u8s_length]; exact hx.1
        have HVy : Hid ((u8s (ids.getD 1 [])).length = 32) := by show _ = _; rw [u8s_length]; exact hy.1
        have hq := equal_ids hx hy
        have HD : Hid (dupI ids = decide (ids.getD 0 [] = ids.getD 1 [])) := dup_two HL.out
        clear hcell hx hy
        generalize u8s (ids.getD 0 []) = X at *
        generalize u8s (ids.getD 1 []) = Y at *
        cases hd : decide (ids.getD 0 [] = ids.getD 1 []) with
        | true =>
          rw [hd] at hq HD
          have HM : Hid (mayC ids c = false) := by show _ = _; rw [mayC, HD.out]; simp
          clear hd
          refine wp_region_held_drew (S := fun W => Below wa.heap.size wa W) (by kernel_rfl) (Below.refl _ _).drew (fun hHeld => ?_)
          refine wpAnyH_takesAt 0 10 17 (of_decide_eq_true (by kernel_rfl)) rfl (fun _ _ _ d _ h => by cases d <;> exact h) (by kernel_rfl) (by kernel_rfl) hHeld ?_
          simp only [List.drop_zero, List.take_succ_cons, List.take_zero]
          iterate 10 (refine wpHeld_step (v := ?_) (by rfl) (fun wz hSw => ?_) ?_; rotate_left; (focus (obtain ⟨hc1, hc2, hc3, hc4⟩ := HCl.out wz hSw; clear hSw; go_simp; try with_reducible rfl)); (simp only [Act.put, List.setIfInBounds_toArray, List.set_cons_zero, List.set_cons_succ]))
          refine wpHeld_nil ?_
          refine wpAnyH_takesAt 10 3 14 (of_decide_eq_true (by kernel_rfl)) rfl (fun _ _ _ d _ h => by cases d <;> exact h) (by kernel_rfl) (by kernel_rfl) hHeld ?_
          simp only [List.drop_succ_cons, List.drop_zero, List.take_succ_cons, List.take_zero]
          iterate 3 (refine wpHeld_step (v := ?_) (by rfl) (fun wz hSw => ?_) ?_; rotate_left; (focus (obtain ⟨hc1, hc2, hc3, hc4⟩ := HCl.out wz hSw; clear hSw; go_simp; try with_reducible rfl)); (simp only [Act.put, List.setIfInBounds_toArray, List.set_cons_zero, List.set_cons_succ]))
          refine wpHeld_nil ?_
          refine wpAnyH_takesAt 13 1 13 (of_decide_eq_true (by kernel_rfl)) rfl (fun _ _ _ d _ h => by cases d <;> exact h) (by kernel_rfl) (by kernel_rfl) hHeld ?_
          simp only [List.drop_succ_cons, List.drop_zero, List.take_succ_cons, List.take_zero]
          refine wpHeld_load (by rfl) 24 (.tmp 17) rfl b (off) rfl X (fun W hW => HRx.out W hW) Try.underlying24 (by rw [HVx.out]; exact size24) ?_
          (simp only [Act.put]; (try simp only [List.setIfInBounds_toArray]); (try simp only [List.set_cons_succ]); (try simp only [List.set_cons_zero]))
          refine wpHeld_nil ?_
          refine wpAnyH_takesAt 14 3 10 (of_decide_eq_true (by kernel_rfl)) rfl (fun _ _ _ d _ h => by cases d <;> exact h) (by kernel_rfl) (by kernel_rfl) hHeld ?_
          simp only [List.drop_succ_cons, List.drop_zero, List.take_succ_cons, List.take_zero]
          iterate 3 (refine wpHeld_step (v := ?_) (by rfl) (fun wz hSw => ?_) ?_; rotate_left; (focus (obtain ⟨hc1, hc2, hc3, hc4⟩ := HCl.out wz hSw; clear hSw; go_simp; try with_reducible rfl)); (simp only [Act.put, List.setIfInBounds_toArray, List.set_cons_zero, List.set_cons_succ]))
          refine wpHeld_nil ?_
          refine wpAnyH_takesAt 17 1 9 (of_decide_eq_true (by kernel_rfl)) rfl (fun _ _ _ d _ h => by cases d <;> exact h) (by kernel_rfl) (by kernel_rfl) hHeld ?_
          simp only [List.drop_succ_cons, List.drop_zero, List.take_succ_cons, List.take_zero]
          refine wpHeld_load (by rfl) 24 (.tmp 21) rfl b (off + 32) rfl Y (fun W hW => HRy.out W hW) Try.underlying24 (by rw [HVy.out]; exact size24) ?_
          (simp only [Act.put]; (try simp only [List.setIfInBounds_toArray]); (try simp only [List.set_cons_succ]); (try simp only [List.set_cons_zero]))
          refine wpHeld_nil ?_
          refine wpAnyH_takesAt 18 1 8 (of_decide_eq_true (by kernel_rfl)) rfl (fun _ _ _ d _ h => by cases d <;> exact h) (by kernel_rfl) (by kernel_rfl) hHeld ?_
          simp only [List.drop_succ_cons, List.drop_zero, List.take_succ_cons, List.take_zero]
          iterate 1 (refine wpHeld_step (v := ?_) (by rfl) (fun wz hSw => ?_) ?_; rotate_left; (focus ((try dsimp only at hSw); go_simp; try with_reducible rfl)); ((simp only [Act.put]; (try simp only [List.setIfInBounds_toArray]); (try simp only [List.set_cons_succ]); (try simp only [List.set_cons_zero]))))
          refine wpHeld_nil ?_
          refine wpAnyH_takesAt 19 3 5 (of_decide_eq_true (by kernel_rfl)) rfl (fun _ _ _ d _ h => by cases d <;> exact h) (by kernel_rfl) (by kernel_rfl) hHeld ?_
          simp only [List.drop_succ_cons, List.drop_zero, List.take_succ_cons, List.take_zero]
          iterate 3 (refine wpHeld_step (v := ?_) (by rfl) (fun wz hSw => ?_) ?_; rotate_left; (focus ((try dsimp only at hSw); go_simp; try with_reducible rfl)); (simp only [Act.put, List.setIfInBounds_toArray, List.set_cons_zero, List.set_cons_succ]))
          refine wpHeld_nil ?_
          refine wpAnyH_takesAt 22 4 1 (of_decide_eq_true (by kernel_rfl)) rfl (fun _ _ _ d _ h => by cases d <;> exact h) (by kernel_rfl) (by kernel_rfl) hHeld ?_
          simp only [List.drop_succ_cons, List.drop_zero, List.take_succ_cons, List.take_zero]
          iterate 4 (refine wpHeld_skip (by rfl) ?_; simp only [Act.put, List.setIfInBounds_toArray, List.set_cons_zero, List.set_cons_succ])
          refine wpHeld_nil ?_
          refine wpAnyH_takesAt 26 1 0 (of_decide_eq_true (by kernel_rfl)) rfl (fun _ _ _ d _ h => by cases d <;> exact h) (by kernel_rfl) (by kernel_rfl) hHeld ?_
          simp only [List.drop_succ_cons, List.drop_zero, List.take_succ_cons, List.take_zero]
          iterate 1 (refine wpHeld_step (v := ?_) (by rfl) (fun wz hSw => ?_) ?_; rotate_left; (focus ((try dsimp only at hSw); go_simp; try with_reducible rfl)); ((simp only [Act.put]; (try simp only [List.setIfInBounds_toArray]); (try simp only [List.set_cons_succ]); (try simp only [List.set_cons_zero]))))
          refine wpHeld_nil ?_
          refine wpAnyH_done (by kernel_rfl) ?_ _
          go_wp2
          go_meet
          exact ⟨by rw [HM.out]; rfl, hHeld⟩
        | false =>
          rw [hd] at hq HD
          clear hd
          by_cases h3 : 4096 < c.text.size
          · have h3i : (4096 : Int) < (c.text.size : Int) := by omega
            have HM : Hid (mayC ids c = false) := by show _ = _; rw [mayC, decide_eq_false (show ¬ c.text.size ≤ 4096 by omega)]; simp
            refine wp_region_held_drew (S := fun W => Below wa.heap.size wa W) (by kernel_rfl) (Below.refl _ _).drew (fun hHeld => ?_)
            refine wpAnyH_takesAt 0 10 17 (of_decide_eq_true (by kernel_rfl)) rfl (fun _ _ _ d _ h => by cases d <;> exact h) (by kernel_rfl) (by kernel_rfl) hHeld ?_
            simp only [List.drop_zero, List.take_succ_cons, List.take_zero]
            iterate 10 (refine wpHeld_step (v := ?_) (by rfl) (fun wz hSw => ?_) ?_; rotate_left; (focus (obtain ⟨hc1, hc2, hc3, hc4⟩ := HCl.out wz hSw; clear hSw; go_simp; try with_reducible rfl)); (simp only [Act.put, List.setIfInBounds_toArray, List.set_cons_zero, List.set_cons_succ]))
            refine wpHeld_nil ?_
            refine wpAnyH_takesAt 10 3 14 (of_decide_eq_true (by kernel_rfl)) rfl (fun _ _ _ d _ h => by cases d <;> exact h) (by kernel_rfl) (by kernel_rfl) hHeld ?_
            simp only [List.drop_succ_cons, List.drop_zero, List.take_succ_cons, List.take_zero]
            iterate 3 (refine wpHeld_step (v := ?_) (by rfl) (fun wz hSw => ?_) ?_; rotate_left; (focus (obtain ⟨hc1, hc2, hc3, hc4⟩ := HCl.out wz hSw; clear hSw; go_simp; try with_reducible rfl)); (simp only [Act.put, List.setIfInBounds_toArray, List.set_cons_zero, List.set_cons_succ]))
            refine wpHeld_nil ?_
            refine wpAnyH_takesAt 13 1 13 (of_decide_eq_true (by kernel_rfl)) rfl (fun _ _ _ d _ h => by cases d <;> exact h) (by kernel_rfl) (by kernel_rfl) hHeld ?_
            simp only [List.drop_succ_cons, List.drop_zero, List.take_succ_cons, List.take_zero]
            refine wpHeld_load (by rfl) 24 (.tmp 17) rfl b (off) rfl X (fun W hW => HRx.out W hW) Try.underlying24 (by rw [HVx.out]; exact size24) ?_
            (simp only [Act.put]; (try simp only [List.setIfInBounds_toArray]); (try simp only [List.set_cons_succ]); (try simp only [List.set_cons_zero]))
            refine wpHeld_nil ?_
            refine wpAnyH_takesAt 14 3 10 (of_decide_eq_true (by kernel_rfl)) rfl (fun _ _ _ d _ h => by cases d <;> exact h) (by kernel_rfl) (by kernel_rfl) hHeld ?_
            simp only [List.drop_succ_cons, List.drop_zero, List.take_succ_cons, List.take_zero]
            iterate 3 (refine wpHeld_step (v := ?_) (by rfl) (fun wz hSw => ?_) ?_; rotate_left; (focus (obtain ⟨hc1, hc2, hc3, hc4⟩ := HCl.out wz hSw; clear hSw; go_simp; try with_reducible rfl)); (simp only [Act.put, List.setIfInBounds_toArray, List.set_cons_zero, List.set_cons_succ]))
            refine wpHeld_nil ?_
            refine wpAnyH_takesAt 17 1 9 (of_decide_eq_true (by kernel_rfl)) rfl (fun _ _ _ d _ h => by cases d <;> exact h) (by kernel_rfl) (by kernel_rfl) hHeld ?_
            simp only [List.drop_succ_cons, List.drop_zero, List.take_succ_cons, List.take_zero]
            refine wpHeld_load (by rfl) 24 (.tmp 21) rfl b (off + 32) rfl Y (fun W hW => HRy.out W hW) Try.underlying24 (by rw [HVy.out]; exact size24) ?_
            (simp only [Act.put]; (try simp only [List.setIfInBounds_toArray]); (try simp only [List.set_cons_succ]); (try simp only [List.set_cons_zero]))
            refine wpHeld_nil ?_
            refine wpAnyH_takesAt 18 1 8 (of_decide_eq_true (by kernel_rfl)) rfl (fun _ _ _ d _ h => by cases d <;> exact h) (by kernel_rfl) (by kernel_rfl) hHeld ?_
            simp only [List.drop_succ_cons, List.drop_zero, List.take_succ_cons, List.take_zero]
            iterate 1 (refine wpHeld_step (v := ?_) (by rfl) (fun wz hSw => ?_) ?_; rotate_left; (focus ((try dsimp only at hSw); go_simp; try with_reducible rfl)); ((simp only [Act.put]; (try simp only [List.setIfInBounds_toArray]); (try simp only [List.set_cons_succ]); (try simp only [List.set_cons_zero]))))
            refine wpHeld_nil ?_
            refine wpAnyH_takesAt 19 3 5 (of_decide_eq_true (by kernel_rfl)) rfl (fun _ _ _ d _ h => by cases d <;> exact h) (by kernel_rfl) (by kernel_rfl) hHeld ?_
            simp only [List.drop_succ_cons, List.drop_zero, List.take_succ_cons, List.take_zero]
            iterate 3 (refine wpHeld_step (v := ?_) (by rfl) (fun wz hSw => ?_) ?_; rotate_left; (focus ((try dsimp only at hSw); go_simp; try with_reducible rfl)); (simp only [Act.put, List.setIfInBounds_toArray, List.set_cons_zero, List.set_cons_succ]))
            refine wpHeld_nil ?_
            refine wpAnyH_takesAt 22 4 1 (of_decide_eq_true (by kernel_rfl)) rfl (fun _ _ _ d _ h => by cases d <;> exact h) (by kernel_rfl) (by kernel_rfl) hHeld ?_
            simp only [List.drop_succ_cons, List.drop_zero, List.take_succ_cons, List.take_zero]
            iterate 4 (refine wpHeld_step (v := ?_) (by rfl) (fun wz hSw => ?_) ?_; rotate_left; (focus (obtain ⟨hc1, hc2, hc3, hc4⟩ := HCl.out wz hSw; clear hSw; go_simp; try with_reducible rfl)); (simp only [Act.put, List.setIfInBounds_toArray, List.set_cons_zero, List.set_cons_succ]))
            refine wpHeld_nil ?_
            refine wpAnyH_takesAt 26 1 0 (of_decide_eq_true (by kernel_rfl)) rfl (fun _ _ _ d _ h => by cases d <;> exact h) (by kernel_rfl) (by kernel_rfl) hHeld ?_
            simp only [List.drop_succ_cons, List.drop_zero, List.take_succ_cons, List.take_zero]
            iterate 1 (refine wpHeld_step (v := ?_) (by rfl) (fun wz hSw => ?_) ?_; rotate_left; (focus ((try dsimp only at hSw); go_simp; try with_reducible rfl)); ((simp only [Act.put]; (try simp only [List.setIfInBounds_toArray]); (try simp only [List.set_cons_succ]); (try simp only [List.set_cons_zero]))))
            refine wpHeld_nil ?_
            refine wpAnyH_done (by kernel_rfl) ?_ _
            go_wp2
            go_meet
            exact ⟨by rw [HM.out]; rfl, hHeld⟩
          · have h3i : ¬ (4096 : Int) < (c.text.size : Int) := by omega
            have HM : Hid (mayC ids c = true) := by show _ = _; rw [mayC, HD.out, decide_eq_true (show c.text.size ≤ 4096 by omega), HL.out]; rfl
            refine wp_region_held_drew (S := fun W => Below wa.heap.size wa W) (by kernel_rfl) (Below.refl _ _).drew (fun hHeld => ?_)
            refine wpAnyH_takesAt 0 10 17 (of_decide_eq_true (by kernel_rfl)) rfl (fun _ _ _ d _ h => by cases d <;> exact h) (by kernel_rfl) (by kernel_rfl) hHeld ?_
            simp only [List.drop_zero, List.take_succ_cons, List.take_zero]
            iterate 10 (refine wpHeld_step (v := ?_) (by rfl) (fun wz hSw => ?_) ?_; rotate_left; (focus (obtain ⟨hc1, hc2, hc3, hc4⟩ := HCl.out wz hSw; clear hSw; go_simp; try with_reducible rfl)); (simp only [Act.put, List.setIfInBounds_toArray, List.set_cons_zero, List.set_cons_succ]))
            refine wpHeld_nil ?_
            refine wpAnyH_takesAt 10 3 14 (of_decide_eq_true (by kernel_rfl)) rfl (fun _ _ _ d _ h => by cases d <;> exact h) (by kernel_rfl) (by kernel_rfl) hHeld ?_
            simp only [List.drop_succ_cons, List.drop_zero, List.take_succ_cons, List.take_zero]
            iterate 3 (refine wpHeld_step (v := ?_) (by rfl) (fun wz hSw => ?_) ?_; rotate_left; (focus (obtain ⟨hc1, hc2, hc3, hc4⟩ := HCl.out wz hSw; clear hSw; go_simp; try with_reducible rfl)); (simp only [Act.put, List.setIfInBounds_toArray, List.set_cons_zero, List.set_cons_succ]))
            refine wpHeld_nil ?_
            refine wpAnyH_takesAt 13 1 13 (of_decide_eq_true (by kernel_rfl)) rfl (fun _ _ _ d _ h => by cases d <;> exact h) (by kernel_rfl) (by kernel_rfl) hHeld ?_
            simp only [List.drop_succ_cons, List.drop_zero, List.take_succ_cons, List.take_zero]
            refine wpHeld_load (by rfl) 24 (.tmp 17) rfl b (off) rfl X (fun W hW => HRx.out W hW) Try.underlying24 (by rw [HVx.out]; exact size24) ?_
            (simp only [Act.put]; (try simp only [List.setIfInBounds_toArray]); (try simp only [List.set_cons_succ]); (try simp only [List.set_cons_zero]))
            refine wpHeld_nil ?_
            refine wpAnyH_takesAt 14 3 10 (of_decide_eq_true (by kernel_rfl)) rfl (fun _ _ _ d _ h => by cases d <;> exact h) (by kernel_rfl) (by kernel_rfl) hHeld ?_
            simp only [List.drop_succ_cons, List.drop_zero, List.take_succ_cons, List.take_zero]
            iterate 3 (refine wpHeld_step (v := ?_) (by rfl) (fun wz hSw => ?_) ?_; rotate_left; (focus (obtain ⟨hc1, hc2, hc3, hc4⟩ := HCl.out wz hSw; clear hSw; go_simp; try with_reducible rfl)); (simp only [Act.put, List.setIfInBounds_toArray, List.set_cons_zero, List.set_cons_succ]))
            refine wpHeld_nil ?_
            refine wpAnyH_takesAt 17 1 9 (of_decide_eq_true (by kernel_rfl)) rfl (fun _ _ _ d _ h => by cases d <;> exact h) (by kernel_rfl) (by kernel_rfl) hHeld ?_
            simp only [List.drop_succ_cons, List.drop_zero, List.take_succ_cons, List.take_zero]
            refine wpHeld_load (by rfl) 24 (.tmp 21) rfl b (off + 32) rfl Y (fun W hW => HRy.out W hW) Try.underlying24 (by rw [HVy.out]; exact size24) ?_
            (simp only [Act.put]; (try simp only [List.setIfInBounds_toArray]); (try simp only [List.set_cons_succ]); (try simp only [List.set_cons_zero]))
            refine wpHeld_nil ?_
            refine wpAnyH_takesAt 18 1 8 (of_decide_eq_true (by kernel_rfl)) rfl (fun _ _ _ d _ h => by cases d <;> exact h) (by kernel_rfl) (by kernel_rfl) hHeld ?_
            simp only [List.drop_succ_cons, List.drop_zero, List.take_succ_cons, List.take_zero]
            iterate 1 (refine wpHeld_step (v := ?_) (by rfl) (fun wz hSw => ?_) ?_; rotate_left; (focus ((try dsimp only at hSw); go_simp; try with_reducible rfl)); ((simp only [Act.put]; (try simp only [List.setIfInBounds_toArray]); (try simp only [List.set_cons_succ]); (try simp only [List.set_cons_zero]))))
            refine wpHeld_nil ?_
            refine wpAnyH_takesAt 19 3 5 (of_decide_eq_true (by kernel_rfl)) rfl (fun _ _ _ d _ h => by cases d <;> exact h) (by kernel_rfl) (by kernel_rfl) hHeld ?_
            simp only [List.drop_succ_cons, List.drop_zero, List.take_succ_cons, List.take_zero]
            iterate 3 (refine wpHeld_step (v := ?_) (by rfl) (fun wz hSw => ?_) ?_; rotate_left; (focus ((try dsimp only at hSw); go_simp; try with_reducible rfl)); (simp only [Act.put, List.setIfInBounds_toArray, List.set_cons_zero, List.set_cons_succ]))
            refine wpHeld_nil ?_
            refine wpAnyH_takesAt 22 4 1 (of_decide_eq_true (by kernel_rfl)) rfl (fun _ _ _ d _ h => by cases d <;> exact h) (by kernel_rfl) (by kernel_rfl) hHeld ?_
            simp only [List.drop_succ_cons, List.drop_zero, List.take_succ_cons, List.take_zero]
            iterate 4 (refine wpHeld_step (v := ?_) (by rfl) (fun wz hSw => ?_) ?_; rotate_left; (focus (obtain ⟨hc1, hc2, hc3, hc4⟩ := HCl.out wz hSw; clear hSw; go_simp; try with_reducible rfl)); (simp only [Act.put, List.setIfInBounds_toArray, List.set_cons_zero, List.set_cons_succ]))
            refine wpHeld_nil ?_
            refine wpAnyH_takesAt 26 1 0 (of_decide_eq_true (by kernel_rfl)) rfl (fun _ _ _ d _ h => by cases d <;> exact h) (by kernel_rfl) (by kernel_rfl) hHeld ?_
            simp only [List.drop_succ_cons, List.drop_zero, List.take_succ_cons, List.take_zero]
            iterate 1 (refine wpHeld_step (v := ?_) (by rfl) (fun wz hSw => ?_) ?_; rotate_left; (focus ((try dsimp only at hSw); go_simp; try with_reducible rfl)); ((simp only [Act.put]; (try simp only [List.setIfInBounds_toArray]); (try simp only [List.set_cons_succ]); (try simp only [List.set_cons_zero]))))
            refine wpHeld_nil ?_
            refine wpAnyH_done (by kernel_rfl) ?_ _
            go_wp2
            go_meet
            exact ⟨by rw [HM.out]; rfl, hHeld⟩
      · have h2i : ¬ (len : Int) = 2 := by omega
        have h2b : ((len : Int) == 2) = false := by rw [beq_eq_false_iff_ne]; exact h2i
        have HD : Hid (dupI ids = false) := dup_short (by rw [HL.out]; omega)
        by_cases h3 : 4096 < c.text.size
        · have h3i : (4096 : Int) < (c.text.size : Int) := by omega
          have HM : Hid (mayC ids c = false) := by show _ = _; rw [mayC, decide_eq_false (show ¬ c.text.size ≤ 4096 by omega)]; simp
          refine wp_region_held_drew (S := fun W => Below wa.heap.size wa W) (by kernel_rfl) (Below.refl _ _).drew (fun hHeld => ?_)
          refine wpAnyH_takesAt 0 10 17 (of_decide_eq_true (by kernel_rfl)) rfl (fun _ _ _ d _ h => by cases d <;> exact h) (by kernel_rfl) (by kernel_rfl) hHeld ?_
          simp only [List.drop_zero, List.take_succ_cons, List.take_zero]
          iterate 10 (refine wpHeld_step (v := ?_) (by rfl) (fun wz hSw => ?_) ?_; rotate_left; (focus (obtain ⟨hc1, hc2, hc3, hc4⟩ := HCl.out wz hSw; clear hSw; go_simp; try with_reducible rfl)); (simp only [Act.put, List.setIfInBounds_toArray, List.set_cons_zero, List.set_cons_succ]))
          refine wpHeld_nil ?_
          refine wpAnyH_takesAt 10 9 8 (of_decide_eq_true (by kernel_rfl)) rfl (fun _ _ _ d _ h => by cases d <;> exact h) (by kernel_rfl) (by kernel_rfl) hHeld ?_
          simp only [List.drop_succ_cons, List.drop_zero, List.take_succ_cons, List.take_zero]
          iterate 9 (refine wpHeld_skip (by rfl) ?_; simp only [Act.put, List.setIfInBounds_toArray, List.set_cons_zero, List.set_cons_succ])
          refine wpHeld_nil ?_
          refine wpAnyH_takesAt 19 3 5 (of_decide_eq_true (by kernel_rfl)) rfl (fun _ _ _ d _ h => by cases d <;> exact h) (by kernel_rfl) (by kernel_rfl) hHeld ?_
          simp only [List.drop_succ_cons, List.drop_zero, List.take_succ_cons, List.take_zero]
          iterate 3 (refine wpHeld_step (v := ?_) (by rfl) (fun wz hSw => ?_) ?_; rotate_left; (focus ((try dsimp only at hSw); go_simp; try with_reducible rfl)); (simp only [Act.put, List.setIfInBounds_toArray, List.set_cons_zero, List.set_cons_succ]))
          refine wpHeld_nil ?_
          refine wpAnyH_takesAt 22 4 1 (of_decide_eq_true (by kernel_rfl)) rfl (fun _ _ _ d _ h => by cases d <;> exact h) (by kernel_rfl) (by kernel_rfl) hHeld ?_
          simp only [List.drop_succ_cons, List.drop_zero, List.take_succ_cons, List.take_zero]
          iterate 4 (refine wpHeld_step (v := ?_) (by rfl) (fun wz hSw => ?_) ?_; rotate_left; (focus (obtain ⟨hc1, hc2, hc3, hc4⟩ := HCl.out wz hSw; clear hSw; go_simp; try with_reducible rfl)); (simp only [Act.put, List.setIfInBounds_toArray, List.set_cons_zero, List.set_cons_succ]))
          refine wpHeld_nil ?_
          refine wpAnyH_takesAt 26 1 0 (of_decide_eq_true (by kernel_rfl)) rfl (fun _ _ _ d _ h => by cases d <;> exact h) (by kernel_rfl) (by kernel_rfl) hHeld ?_
          simp only [List.drop_succ_cons, List.drop_zero, List.take_succ_cons, List.take_zero]
          iterate 1 (refine wpHeld_step (v := ?_) (by rfl) (fun wz hSw => ?_) ?_; rotate_left; (focus ((try dsimp only at hSw); go_simp; try with_reducible rfl)); ((simp only [Act.put]; (try simp only [List.setIfInBounds_toArray]); (try simp only [List.set_cons_succ]); (try simp only [List.set_cons_zero]))))
          refine wpHeld_nil ?_
          refine wpAnyH_done (by kernel_rfl) ?_ _
          go_wp2
          go_meet
          exact ⟨by rw [HM.out]; rfl, hHeld⟩
        · have h3i : ¬ (4096 : Int) < (c.text.size : Int) := by omega
          have HM : Hid (mayC ids c = true) := by show _ = _; rw [mayC, HD.out, decide_eq_true (show c.text.size ≤ 4096 by omega), HL.out, decide_eq_true (show len ≤ 2 by omega)]; rfl
          refine wp_region_held_drew (S := fun W => Below wa.heap.size wa W) (by kernel_rfl) (Below.refl _ _).drew (fun hHeld => ?_)
          refine wpAnyH_takesAt 0 10 17 (of_decide_eq_true (by kernel_rfl)) rfl (fun _ _ _ d _ h => by cases d <;> exact h) (by kernel_rfl) (by kernel_rfl) hHeld ?_
          simp only [List.drop_zero, List.take_succ_cons, List.take_zero]
          iterate 10 (refine wpHeld_step (v := ?_) (by rfl) (fun wz hSw => ?_) ?_; rotate_left; (focus (obtain ⟨hc1, hc2, hc3, hc4⟩ := HCl.out wz hSw; clear hSw; go_simp; try with_reducible rfl)); (simp only [Act.put, List.setIfInBounds_toArray, List.set_cons_zero, List.set_cons_succ]))
          refine wpHeld_nil ?_
          refine wpAnyH_takesAt 10 9 8 (of_decide_eq_true (by kernel_rfl)) rfl (fun _ _ _ d _ h => by cases d <;> exact h) (by kernel_rfl) (by kernel_rfl) hHeld ?_
          simp only [List.drop_succ_cons, List.drop_zero, List.take_succ_cons, List.take_zero]
          iterate 9 (refine wpHeld_skip (by rfl) ?_; simp only [Act.put, List.setIfInBounds_toArray, List.set_cons_zero, List.set_cons_succ])
          refine wpHeld_nil ?_
          refine wpAnyH_takesAt 19 3 5 (of_decide_eq_true (by kernel_rfl)) rfl (fun _ _ _ d _ h => by cases d <;> exact h) (by kernel_rfl) (by kernel_rfl) hHeld ?_
          simp only [List.drop_succ_cons, List.drop_zero, List.take_succ_cons, List.take_zero]
          iterate 3 (refine wpHeld_step (v := ?_) (by rfl) (fun wz hSw => ?_) ?_; rotate_left; (focus ((try dsimp only at hSw); go_simp; try with_reducible rfl)); (simp only [Act.put, List.setIfInBounds_toArray, List.set_cons_zero, List.set_cons_succ]))
          refine wpHeld_nil ?_
          refine wpAnyH_takesAt 22 4 1 (of_decide_eq_true (by kernel_rfl)) rfl (fun _ _ _ d _ h => by cases d <;> exact h) (by kernel_rfl) (by kernel_rfl) hHeld ?_
          simp only [List.drop_succ_cons, List.drop_zero, List.take_succ_cons, List.take_zero]
          iterate 4 (refine wpHeld_step (v := ?_) (by rfl) (fun wz hSw => ?_) ?_; rotate_left; (focus (obtain ⟨hc1, hc2, hc3, hc4⟩ := HCl.out wz hSw; clear hSw; go_simp; try with_reducible rfl)); (simp only [Act.put, List.setIfInBounds_toArray, List.set_cons_zero, List.set_cons_succ]))
          refine wpHeld_nil ?_
          refine wpAnyH_takesAt 26 1 0 (of_decide_eq_true (by kernel_rfl)) rfl (fun _ _ _ d _ h => by cases d <;> exact h) (by kernel_rfl) (by kernel_rfl) hHeld ?_
          simp only [List.drop_succ_cons, List.drop_zero, List.take_succ_cons, List.take_zero]
          iterate 1 (refine wpHeld_step (v := ?_) (by rfl) (fun wz hSw => ?_) ?_; rotate_left; (focus ((try dsimp only at hSw); go_simp; try with_reducible rfl)); ((simp only [Act.put]; (try simp only [List.setIfInBounds_toArray]); (try simp only [List.set_cons_succ]); (try simp only [List.set_cons_zero]))))
          refine wpHeld_nil ?_
          refine wpAnyH_done (by kernel_rfl) ?_ _
          go_wp2
          go_meet
          exact ⟨by rw [HM.out]; rfl, hHeld⟩
  case rest =>
    rename_i hcut
    obtain ⟨rfl, hbc⟩ := hcut
    have HBc : Hid (Below wa.heap.size wa wc) := hbc
    have hsa := HSA.out
    cases hm : mayC ids c with
    | false =>
      rw [Bool.not_false]
      go_wp2
      all_goals (refine bodyPost_ret (results_tmp2 rfl _ _ _) rfl ?_)
      all_goals (exact ⟨_, rfl, Own.nil _ _, HBA.out.trans (HBc.out.mono HBA.out.size)⟩)
    | true =>
      rw [Bool.not_true]
      have hm2 : ids.length ≤ 2 ∧ c.text.size ≤ 4096 := by
        simp only [mayC, Bool.and_eq_true, decide_eq_true_eq] at hm
        exact ⟨hm.1, hm.2.1⟩
      have HM : Hid (mayC ids c = true) := hm
      have hl2 : len ≤ 2 := by have := HL.out; omega
      have htx2 : c.text.size ≤ 4096 := hm2.2
      have HLi : Hid ((encIds ids).length ≤ 74) := encIds_length HIa.out.2.2.2.1 hm2.1
      have hsq := HOk.out.2.2.1
      have hau := HOk.out.2.2.2
      have ea : (c.author : Int) % 18446744073709551616 = (c.author : Int) := by omega
      have wa1 : IntKind.u64.wrap (c.author : Int) = (c.author : Int) := by rw [IntKind.wrap_u64]; omega
      have HS1 : Hid ((encN c.seq).length ≤ 10) := encN_ten hsq
      have HS2 : Hid ((encN c.author).length ≤ 10) := encN_ten (by omega)
      have l1 : Hid (c.root.length = 32) := HOk.out.1.1
      have l2 : Hid (c.key.length = 32) := HOk.out.2.1.1
      have HZ1 : Hid (∀ z ∈ encIds ids ++ c.root ++ c.key, z < 256) := fun z hz => encC_bytes HIa.out.2.2.2.1 HOk.out z (by
        simp only [encC, List.mem_append] at hz ⊢
        rcases hz with (h | h) | h <;> simp [h])
      have HZ2 : Hid (∀ z ∈ encIds ids ++ c.root ++ c.key ++ encN c.seq, z < 256) := fun z hz => by
        rcases List.mem_append.1 hz with h | h
        · exact HZ1.out z h
        · exact encN_bytes _ z h
      have HZ3 : Hid (∀ z ∈ encIds ids ++ c.root ++ c.key ++ encN c.seq ++ encN c.author, z < 256) := fun z hz => by
        rcases List.mem_append.1 hz with h | h
        · exact HZ2.out z h
        · exact encN_bytes _ z h
      have HE : Hid (encIds ids ++ c.root ++ c.key ++ encN c.seq ++ encN c.author ++ encText (nameL c.text) = encC ids c) := by show _ = _; rw [encC]; simp
      have HIc : Hid (IsIds wc.heap.size wc p len cap ids) := (HIa.out.below HBc.out).mono HBc.out.size
      obtain ⟨hcp, _, _, _⟩ := HCl.out wc HBc.out
      clear hm hm2 hbc
      go_wp2_with (go_at_call 26; refine (refIds_any none 0 0 [] p len cap ids wc ⟨rfl, Nat.le_refl _, by omega, by simp, .inl rfl⟩ HIc.out (by simp; omega)).mono ?_; rintro e w1 ⟨v1, rfl, hO1, hb1⟩; rw [List.nil_append] at hO1; obtain ⟨q1, k1, c1, hu1⟩ := own_any_slice hO1; subst hu1; have HB1 : Hid (Below wa.heap.size wa w1) := HBc.out.trans (hb1.mono HBc.out.size); have HO1 : Hid (Own wa.heap.size w1 (.slice q1 k1 c1) (encIds ids)) := hO1.mono HBc.out.size; clear hO1 hb1)
      refine wp_region_held_drew (S := fun W => Below wa.heap.size wa W) (by kernel_rfl) HB1.out.drew (fun hHeld => ?_)
      refine wpAnyH_takesAt 0 3 5 (of_decide_eq_true (by kernel_rfl)) rfl (fun _ _ _ d _ h => by cases d <;> exact h) (by kernel_rfl) (by kernel_rfl) hHeld ?_
      simp only [List.drop_zero, List.take_succ_cons, List.take_zero]
      iterate 3 (refine wpHeld_step (v := ?_) (by rfl) (fun wz hSw => ?_) ?_; rotate_left; (focus ((try dsimp only at hSw); go_simp; try with_reducible rfl)); (simp only [Act.put, List.setIfInBounds_toArray, List.set_cons_zero, List.set_cons_succ]))
      refine wpHeld_nil ?_
      refine wpAnyH_takesAt 4 2 3 (of_decide_eq_true (by kernel_rfl)) rfl (fun _ _ _ d _ h => by cases d <;> exact h) (by kernel_rfl) (by kernel_rfl) hHeld ?_
      simp only [List.drop_succ_cons, List.drop_zero, List.take_succ_cons, List.take_zero]
      iterate 2 (refine wpHeld_step (v := ?_) (by rfl) (fun wz hSw => ?_) ?_; rotate_left; (focus ((try dsimp only at hSw); go_simp; try with_reducible rfl)); (simp only [Act.put, List.setIfInBounds_toArray, List.set_cons_zero, List.set_cons_succ]))
      refine wpHeld_nil ?_
      refine wpAnyH_only (i := 3) (by kernel_rfl) rfl (fun K hK => ?_)
      rw [if_pos (by rfl)]
      refine wp_append_bytes (.tmp 35) (.tmp 37) rfl wa.heap.size (.slice q1 k1 c1) (encIds ids) rfl (HO1.out.later (Below.refl _ _).drew) rfl (bytes_part (n := wa.heap.size) (HCA.out.later hHeld).root HOk.out.1 (by omega)) (by have := HLi.out; omega) hHeld.size (fun v2 w2 ho2 hg2 => ?_)
      have hb2 : Below wa.heap.size wa w2 := below_own hHeld hHeld.size (HO1.out.later (Below.refl _ _).drew) hg2
      obtain ⟨q2, k2, c2, hu2⟩ := own_any_slice ho2
      subst hu2
      refine hK.out _ _ hb2 ?_
      clear hK K
      change wpAnyH _ _ _ _ _ _ _ (Act.put _ (some 38) _) _
      (simp only [Act.put]; (try simp only [List.setIfInBounds_toArray]); (try simp only [List.set_cons_succ]); (try simp only [List.set_cons_zero]))
      refine wpAnyH_only (i := 6) (by kernel_rfl) rfl (fun K hK => ?_)
      rw [if_pos (by rfl)]
      refine wp_append_bytes (.tmp 38) (.tmp 40) rfl wa.heap.size (.slice q2 k2 c2) (encIds ids ++ c.root) rfl ho2 rfl (bytes_part (n := wa.heap.size) (HCA.out.later hb2).key HOk.out.2.1 (by omega)) (by have := HLi.out; have := l1.out; simp only [List.length_append]; omega) hb2.size (fun v3 w3 ho3 hg3 => ?_)
      have hb3 : Below wa.heap.size wa w3 := below_own hb2 hb2.size ho2 hg3
      obtain ⟨q3, k3, c3, hu3⟩ := own_any_slice ho3
      subst hu3
      refine hK.out _ _ hb3 ?_
      clear hK K hHeld
      change wpAnyH _ _ _ _ _ _ _ (Act.put _ (some 41) _) _
      (simp only [Act.put]; (try simp only [List.setIfInBounds_toArray]); (try simp only [List.set_cons_succ]); (try simp only [List.set_cons_zero]))
      have hHeld := hb3
      refine wpAnyH_takesAt 7 1 0 (of_decide_eq_true (by kernel_rfl)) rfl (fun _ _ _ d _ h => by cases d <;> exact h) (by kernel_rfl) (by kernel_rfl) hHeld ?_
      simp only [List.drop_succ_cons, List.drop_zero, List.take_succ_cons, List.take_zero]
      iterate 1 (refine wpHeld_step (v := ?_) (by rfl) (fun wz hSw => ?_) ?_; rotate_left; (focus ((try dsimp only at hSw); go_simp; try with_reducible rfl)); ((simp only [Act.put]; (try simp only [List.setIfInBounds_toArray]); (try simp only [List.set_cons_succ]); (try simp only [List.set_cons_zero]))))
      refine wpHeld_nil ?_
      refine wpAnyH_done (by kernel_rfl) ?_ _
      have HB3 : Hid (Below wa.heap.size wa w3) := hb3
      have HO3 : Hid (Own wa.heap.size w3 (.slice q3 k3 c3) (encIds ids ++ c.root ++ c.key)) := ho3
      clear hHeld hb2 hb3 ho2 ho3 hg2 hg3
      go_wp2
      refine wp_region_held_drew (S := fun W => Below wa.heap.size wa W) (by kernel_rfl) HB3.out.drew (fun hHeld => ?_)
      refine wpAnyH_takesAt 0 3 11 (of_decide_eq_true (by kernel_rfl)) rfl (fun _ _ _ d _ h => by cases d <;> exact h) (by kernel_rfl) (by kernel_rfl) hHeld ?_
      simp only [List.drop_zero, List.take_succ_cons, List.take_zero]
      iterate 3 (refine wpHeld_step (v := ?_) (by rfl) (fun wz hSw => ?_) ?_; rotate_left; (focus (obtain ⟨hc1, hc2, hc3, hc4⟩ := HCl.out wz hSw; clear hSw; go_simp; try with_reducible rfl)); (simp only [Act.put, List.setIfInBounds_toArray, List.set_cons_zero, List.set_cons_succ]))
      refine wpHeld_nil ?_
      refine wpAnyH_takesAt 4 3 8 (of_decide_eq_true (by kernel_rfl)) rfl (fun _ _ _ d _ h => by cases d <;> exact h) (by kernel_rfl) (by kernel_rfl) hHeld ?_
      simp only [List.drop_succ_cons, List.drop_zero, List.take_succ_cons, List.take_zero]
      iterate 3 (refine wpHeld_step (v := ?_) (by rfl) (fun wz hSw => ?_) ?_; rotate_left; (focus (obtain ⟨hc1, hc2, hc3, hc4⟩ := HCl.out wz hSw; clear hSw; go_simp; try with_reducible rfl)); (simp only [Act.put, List.setIfInBounds_toArray, List.set_cons_zero, List.set_cons_succ]))
      refine wpHeld_nil ?_
      refine wpAnyH_takesAt 8 2 6 (of_decide_eq_true (by kernel_rfl)) rfl (fun _ _ _ d _ h => by cases d <;> exact h) (by kernel_rfl) (by kernel_rfl) hHeld ?_
      simp only [List.drop_succ_cons, List.drop_zero, List.take_succ_cons, List.take_zero]
      iterate 2 (refine wpHeld_step (v := ?_) (by rfl) (fun wz hSw => ?_) ?_; rotate_left; (focus (obtain ⟨hc1, hc2, hc3, hc4⟩ := HCl.out wz hSw; clear hSw; go_simp; try with_reducible rfl)); (simp only [Act.put, List.setIfInBounds_toArray, List.set_cons_zero, List.set_cons_succ]))
      refine wpHeld_nil ?_
      have hO3d : Own wa.heap.size w3.drew (.slice q3 k3 c3) (encIds ids ++ c.root ++ c.key) := HO3.out.later (Below.refl _ _).drew
      have hH3 : Below wa.heap.size wa w3.drew := hHeld
      refine wpAnyH_either (i := 3) (j := 10) (by kernel_rfl) rfl rfl (fun K hK => ?_) (fun K hK => ?_)
      · rw [if_pos (by rfl)]
        go_simp
        refine (refN_any q3 k3 c3 (encIds ids ++ c.root ++ c.key) c.seq w3.drew hsq (hO3d.bytes HZ1.out) (by have := HLi.out; have := l1.out; have := l2.out; have := HS1.out; simp only [List.length_append]; omega)).mono ?_
        rintro e x0 ⟨v0, rfl, hO0, hb0⟩
        obtain ⟨q0', k0', c0', hu0⟩ := own_any_slice hO0
        subst hu0
        have hH0x : Below wa.heap.size wa x0 := hH3.trans (hb0.mono hH3.size)
        refine hK.out _ _ hH0x ?_
        clear hK K
        refine wpAnyH_either (i := 7) (j := 10) (by kernel_rfl) rfl rfl (fun K hK => ?_) (fun K hK => ?_)
        · rw [if_pos (by rfl)]
          go_simp
          refine (refN_any q0' k0' c0' (encIds ids ++ c.root ++ c.key ++ encN c.seq) c.author x0 (by omega) (hO0.bytes HZ2.out) (by have := HLi.out; have := l1.out; have := l2.out; have := HS1.out; simp only [List.length_append]; omega)).mono ?_
          rintro e x1 ⟨v1, rfl, hO1, hb1⟩
          obtain ⟨q1', k1', c1', hu1⟩ := own_any_slice hO1
          subst hu1
          have hH1x : Below wa.heap.size wa x1 := hH0x.trans (hb1.mono hH0x.size)
          refine hK.out _ _ hH1x ?_
          clear hK K
          refine wpAnyH_only (i := 10) (by kernel_rfl) rfl (fun K hK => ?_)
          rw [if_pos (by rfl)]
          obtain ⟨cap2, x2, hcv2, hb2, hs2, hI2⟩ := bytes_of_name x1 c.text (by omega)
          go_simp
          have hH2x : Below wa.heap.size wa x2 := hH1x.trans (hb2.mono hH1x.size)
          refine hK.out _ _ hH2x ?_
          clear hK K
          have hO2l := hO1.later hb2
          clear hcv2
          refine wpAnyH_only (i := 11) (by kernel_rfl) rfl (fun K hK => ?_)
          rw [if_pos (by rfl)]
          go_simp
          refine (refText_any q1' k1' c1' (encIds ids ++ c.root ++ c.key ++ encN c.seq ++ encN c.author) _ c.text.size cap2 (nameL c.text) x2 (hO2l.bytes HZ3.out) ((hI2 _ (KeepF.refl _)).mono (by omega)) (by have := HLi.out; have := l1.out; have := l2.out; have := HS1.out; have := HS2.out; simp only [List.length_append]; omega)).mono ?_
          rintro e x3 ⟨v3, rfl, hO3, hb3⟩
          obtain ⟨q3', k3', c3', hu3⟩ := own_any_slice hO3
          subst hu3
          have hH3x : Below wa.heap.size wa x3 := hH2x.trans (hb3.mono hH2x.size)
          refine hK.out _ _ hH3x ?_
          clear hK K hHeld
          have hHeld := hH3x
          refine wpAnyH_takesAt 12 2 0 (of_decide_eq_true (by kernel_rfl)) rfl (fun _ _ _ d _ h => by cases d <;> exact h) (by kernel_rfl) (by kernel_rfl) hHeld ?_
          simp only [List.drop_succ_cons, List.drop_zero, List.take_succ_cons, List.take_zero]
          iterate 2 (refine wpHeld_step (v := ?_) (by rfl) (fun wz hSw => ?_) ?_; rotate_left; (focus ((try dsimp only at hSw); go_simp; try with_reducible rfl)); (simp only [Act.put, List.setIfInBounds_toArray, List.set_cons_zero, List.set_cons_succ]))
          refine wpHeld_nil ?_
          refine wpAnyH_done (by kernel_rfl) ?_ _
          go_wp2
          refine bodyPost_ret (results_tmp2 rfl _ _ _) rfl ?_
          exact ⟨_, rfl, by rw [← HE.out]; exact hO3.mono (by have := hH2x.size; omega), HBA.out.trans (hH3x.mono HBA.out.size)⟩
        · rw [if_pos (by rfl)]
          obtain ⟨cap4, x4, hcv4, hb4, hs4, hI4⟩ := bytes_of_name x0 c.text (by omega)
          go_simp
          have hH4x : Below wa.heap.size wa x4 := hH0x.trans (hb4.mono hH0x.size)
          refine hK.out _ _ hH4x ?_
          clear hK K
          have hO4l := hO0.later hb4
          clear hcv4
          refine wpAnyH_only (i := 7) (by kernel_rfl) rfl (fun K hK => ?_)
          rw [if_pos (by rfl)]
          go_simp
          refine (refN_any q0' k0' c0' (encIds ids ++ c.root ++ c.key ++ encN c.seq) c.author x4 (by omega) (hO4l.bytes HZ2.out) (by have := HLi.out; have := l1.out; have := l2.out; have := HS1.out; simp only [List.length_append]; omega)).mono ?_
          rintro e x5 ⟨v5, rfl, hO5, hb5⟩
          obtain ⟨q5', k5', c5', hu5⟩ := own_any_slice hO5
          subst hu5
          have hH5x : Below wa.heap.size wa x5 := hH4x.trans (hb5.mono hH4x.size)
          refine hK.out _ _ hH5x ?_
          clear hK K
          have hkf5 : KeepF x4 x5 := KeepF.of_below hb5
          have hsz5 := hb5.size
          refine wpAnyH_only (i := 11) (by kernel_rfl) rfl (fun K hK => ?_)
          rw [if_pos (by rfl)]
          go_simp
          refine (refText_any q5' k5' c5' (encIds ids ++ c.root ++ c.key ++ encN c.seq ++ encN c.author) _ c.text.size cap4 (nameL c.text) x5 (hO5.bytes HZ3.out) ((hI4 _ hkf5).mono (by omega)) (by have := HLi.out; have := l1.out; have := l2.out; have := HS1.out; have := HS2.out; simp only [List.length_append]; omega)).mono ?_
          rintro e x6 ⟨v6, rfl, hO6, hb6⟩
          obtain ⟨q6', k6', c6', hu6⟩ := own_any_slice hO6
          subst hu6
          have hH6x : Below wa.heap.size wa x6 := hH5x.trans (hb6.mono hH5x.size)
          refine hK.out _ _ hH6x ?_
          clear hK K hHeld
          have hHeld := hH6x
          refine wpAnyH_takesAt 12 2 0 (of_decide_eq_true (by kernel_rfl)) rfl (fun _ _ _ d _ h => by cases d <;> exact h) (by kernel_rfl) (by kernel_rfl) hHeld ?_
          simp only [List.drop_succ_cons, List.drop_zero, List.take_succ_cons, List.take_zero]
          iterate 2 (refine wpHeld_step (v := ?_) (by rfl) (fun wz hSw => ?_) ?_; rotate_left; (focus ((try dsimp only at hSw); go_simp; try with_reducible rfl)); (simp only [Act.put, List.setIfInBounds_toArray, List.set_cons_zero, List.set_cons_succ]))
          refine wpHeld_nil ?_
          refine wpAnyH_done (by kernel_rfl) ?_ _
          go_wp2
          refine bodyPost_ret (results_tmp2 rfl _ _ _) rfl ?_
          exact ⟨_, rfl, by rw [← HE.out]; exact hO6.mono (by have := hH5x.size; omega), HBA.out.trans (hH6x.mono HBA.out.size)⟩
      · rw [if_pos (by rfl)]
        obtain ⟨cap7, x7, hcv7, hb7, hs7, hI7⟩ := bytes_of_name w3.drew c.text (by omega)
        go_simp
        have hH7x : Below wa.heap.size wa x7 := hH3.trans (hb7.mono hH3.size)
        refine hK.out _ _ hH7x ?_
        clear hK K
        have hO7l := hO3d.later hb7
        clear hcv7
        refine wpAnyH_only (i := 3) (by kernel_rfl) rfl (fun K hK => ?_)
        rw [if_pos (by rfl)]
        go_simp
        refine (refN_any q3 k3 c3 (encIds ids ++ c.root ++ c.key) c.seq x7 hsq (hO7l.bytes HZ1.out) (by have := HLi.out; have := l1.out; have := l2.out; have := HS1.out; simp only [List.length_append]; omega)).mono ?_
        rintro e x8 ⟨v8, rfl, hO8, hb8⟩
        obtain ⟨q8', k8', c8', hu8⟩ := own_any_slice hO8
        subst hu8
        have hH8x : Below wa.heap.size wa x8 := hH7x.trans (hb8.mono hH7x.size)
        refine hK.out _ _ hH8x ?_
        clear hK K
        have hkf8 : KeepF x7 x8 := KeepF.of_below hb8
        have hsz8 := hb8.size
        refine wpAnyH_only (i := 7) (by kernel_rfl) rfl (fun K hK => ?_)
        rw [if_pos (by rfl)]
        go_simp
        refine (refN_any q8' k8' c8' (encIds ids ++ c.root ++ c.key ++ encN c.seq) c.author x8 (by omega) (hO8.bytes HZ2.out) (by have := HLi.out; have := l1.out; have := l2.out; have := HS1.out; simp only [List.length_append]; omega)).mono ?_
        rintro e x9 ⟨v9, rfl, hO9, hb9⟩
        obtain ⟨q9', k9', c9', hu9⟩ := own_any_slice hO9
        subst hu9
        have hH9x : Below wa.heap.size wa x9 := hH8x.trans (hb9.mono hH8x.size)
        refine hK.out _ _ hH9x ?_
        clear hK K
        have hkf9 : KeepF x7 x9 := hkf8.trans (KeepF.of_below hb9)
        have hsz9 := hb9.size
        refine wpAnyH_only (i := 11) (by kernel_rfl) rfl (fun K hK => ?_)
        rw [if_pos (by rfl)]
        go_simp
        refine (refText_any q9' k9' c9' (encIds ids ++ c.root ++ c.key ++ encN c.seq ++ encN c.author) _ c.text.size cap7 (nameL c.text) x9 (hO9.bytes HZ3.out) ((hI7 _ hkf9).mono (by omega)) (by have := HLi.out; have := l1.out; have := l2.out; have := HS1.out; have := HS2.out; simp only [List.length_append]; omega)).mono ?_
        rintro e x10 ⟨v10, rfl, hO10, hb10⟩
        obtain ⟨q10', k10', c10', hu10⟩ := own_any_slice hO10
        subst hu10
        have hH10x : Below wa.heap.size wa x10 := hH9x.trans (hb10.mono hH9x.size)
        refine hK.out _ _ hH10x ?_
        clear hK K hHeld
        have hHeld := hH10x
        refine wpAnyH_takesAt 12 2 0 (of_decide_eq_true (by kernel_rfl)) rfl (fun _ _ _ d _ h => by cases d <;> exact h) (by kernel_rfl) (by kernel_rfl) hHeld ?_
        simp only [List.drop_succ_cons, List.drop_zero, List.take_succ_cons, List.take_zero]
        iterate 2 (refine wpHeld_step (v := ?_) (by rfl) (fun wz hSw => ?_) ?_; rotate_left; (focus ((try dsimp only at hSw); go_simp; try with_reducible rfl)); (simp only [Act.put, List.setIfInBounds_toArray, List.set_cons_zero, List.set_cons_succ]))
        refine wpHeld_nil ?_
        refine wpAnyH_done (by kernel_rfl) ?_ _
        go_wp2
        refine bodyPost_ret (results_tmp2 rfl _ _ _) rfl ?_
        exact ⟨_, rfl, by rw [← HE.out]; exact hO10.mono (by have := hH9x.size; omega), HBA.out.trans (hH10x.mono HBA.out.size)⟩
end Go.Proofs.Ytkhhlcjjdkldjaa
