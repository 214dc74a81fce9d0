/-
  The law MacChecks, walked: for every key, text and tag it returns true.
-/
import Derived.Test.YtokjbldelpiejaaDoorAwake3
import Derived.Test.YtokjbldelpiejaaDoorCheck
import Derived.Test.YtokjbldelpiejaaDoorStr
namespace Go.Proofs.YtokjbldelpiejaaDoor
open Go.RowKit

set_option maxRecDepth 100000 in
set_option maxHeartbeats 1000000 in
theorem macChecks_walk (p : Option Addr) (len cap : Nat) (ks : List Nat) (pb : Option Addr) (bl bc : Nat) (bs : List Nat) (pt : Option Addr) (tl tc : Nat) (tag : List Nat) (w : World) (hT : Tab w) (hI : IsBytes w.heap.size w p len cap ks) (hB : IsBytes w.heap.size w pb bl bc bs) (hG : IsBytes w.heap.size w pt tl tc tag) :
    Calls Tryd.prog 7 #[.slice p len cap, .slice pb bl bc, .slice pt tl tc] w fun e w' => e = .returned (.bool true) ∧ Below w.heap.size w w' := by
  have HT : Hid (Tab w) := hT
  have HI : Hid (IsBytes w.heap.size w p len cap ks) := hI
  have HB : Hid (IsBytes w.heap.size w pb bl bc bs) := hB
  have HG : Hid (IsBytes w.heap.size w pt tl tc tag) := hG
  clear hT hI hB hG
  by_cases hlen : len ≤ 300
  · have hli : ¬ (300 : Int) < (len : Int) := by omega
    by_cases hbl : bl ≤ 300
    · have hbi : ¬ (300 : Int) < (bl : Int) := by omega
      by_cases htl : tl ≤ 300
      · have hti : ¬ (300 : Int) < (tl : Int) := by omega
        have H20 : Hid (∀ W, Below w.heap.size w W → Calls Tryd.prog 20 #[.slice p len cap, .slice pb bl bc] W fun e w' => e = .returned (.agg (u8s (macN ks bs)).toArray) ∧ Below W.heap.size W w') := fun W hb => refMac_any p len cap ks (by omega) pb bl bc bs (by omega) W (HI.out.later hb) (HB.out.later hb)
        have H22a : Hid (∀ W q, Below w.heap.size w W → IsBytes W.heap.size W q 32 32 (macN ks bs) → Calls Tryd.prog 22 #[.slice p len cap, .slice pb bl bc, .slice q 32 32] W fun e w' => e = .returned (.bool true) ∧ Below W.heap.size W w') := fun W q hb hq => by
          have h := check_any p len cap ks (by omega) pb bl bc bs (by omega) q 32 32 (macN ks bs) (by omega) W (HT.out.later hb) (HI.out.later hb) (HB.out.later hb) hq
          rw [show decide (macN ks bs = macN ks bs) = true by simp] at h
          exact h
        have H22b : Hid (∀ W, Below w.heap.size w W → Calls Tryd.prog 22 #[.slice p len cap, .slice pb bl bc, .slice pt tl tc] W fun e w' => e = .returned (.bool (decide (macN ks bs = tag))) ∧ Below W.heap.size W w') := fun W hb =>
          check_any p len cap ks (by omega) pb bl bc bs (by omega) pt tl tc tag (by omega) W (HT.out.later hb) (HI.out.later hb) (HB.out.later hb) (HG.out.later hb)
        have heq : ((strOf tag).toList == (strOf (macN ks bs)).toList) = decide (macN ks bs = tag) := by
          rw [strOf_eq _ _ HG.out.2.2.2.1 (macN_lt _ _)]
          exact decide_eq_decide.2 ⟨fun h => h.symm, fun h => h.symm⟩
        have HSg : Hid (Str w (.slice pt tl tc) (strOf tag)) := str_of_bytes HG.out
        have HMl : Hid ((macN ks bs).length = 32) := macN_length _ _
        have HMz : Hid (∀ z ∈ macN ks bs, z < 256) := macN_lt _ _
        have HVl : Hid ((u8s (macN ks bs)).length = 32) := by show _ = _; rw [u8s_length]; exact HMl.out
        have HV1 : Hid (∀ v ∈ u8s (macN ks bs), v.oneCell' = true) := u8s_one _
        generalize decide (macN ks bs = tag) = d at *
        generalize macN ks bs = M at *
        generalize hV : u8s M = V at *
        have HV : Hid (u8s M = V) := hV
        clear hV
        go_enter Tryd.func7, Tryd.ntmps7
        go_wp2_with (first
          | (go_at_call 18; refine (awake3_any _ HT.out).mono ?_; rintro e w1 ⟨rfl, hb1⟩)
          | (go_at_call 20; refine (H20.out _ hb1).mono ?_; rintro e w2 ⟨rfl, hb2⟩; have hbA := hb1.trans (hb2.mono hb1.size); clear hb2)
          | ((with_reducible show wpList _ _ _ (Oper.mk _ (Op.store 25 (.tmp 7) (.tmp 25)) _ _ _ _ :: _) _ _); refine wpList_store_Row rfl 25 (.tmp 7) (.tmp 25) rfl V rfl rfl (Row.new _ _ _) (by rw [HVl.out]; exact size25) (by rw [HVl.out]; rfl) HV1.out ?_; simp only [Act.put]))
        rw [z32u8]
        have HR : Hid (Row ((w2.alloc (.cells (List.replicate 32 (Value.int .u8 0)).toArray 25)).setCells w2.heap.size 0 V) w2.heap.size 25 (u8s M)) := by rw [HV.out]; exact Row.sets_all (vs := V) (Row.new w2 25 _) (by rw [HVl.out]; rfl)
        have hbB : Below w.heap.size w ((w2.alloc (.cells (List.replicate 32 (Value.int .u8 0)).toArray 25)).setCells w2.heap.size 0 V) := below_setCells hbA.size _ _ (hbA.alloc hbA.size _)
        generalize ((w2.alloc (.cells (List.replicate 32 (Value.int .u8 0)).toArray 25)).setCells w2.heap.size 0 V) = w3 at *
        have SA : Hid (Str w3 (.slice pt tl tc) (strOf tag)) := HSg.out.later hbB
        have SB : Hid (Str w3 (.slice (some ⟨w2.heap.size, 0, none⟩) 32 32) (strOf M)) := str_of_bytes (row_bytes HR.out HMl.out (by omega) HMz.out)
        have hM3 := row_bytes HR.out HMl.out (by omega) HMz.out
        have HM3 : Hid (IsBytes w3.heap.size w3 (some ⟨w2.heap.size, 0, none⟩) 32 32 M) := hM3
        clear hM3
        refine wp_region_noPanic ?_
        refine wp_region_held_drew (S := fun W => Below w3.heap.size w3 W) (by kernel_rfl) (Below.refl _ _).drew (fun hHeld => ?_)
        refine wpAnyH_takesAt 0 3 14 (of_decide_eq_true (by kernel_rfl)) rfl (fun _ _ _ _ _ h => h) (by kernel_rfl) (by kernel_rfl) hHeld ?_
        simp only [List.drop_zero, List.take_succ_cons, List.take_zero]
        iterate 3 (refine wpHeld_step (v := ?_) (by rfl) (fun wz hSw => ?_) ?_; rotate_left; (focus ((try dsimp only at hSw); go_simp; try with_reducible rfl)); (simp only [Act.put, List.setIfInBounds_toArray, List.set_cons_zero, List.set_cons_succ]))
        refine wpHeld_nil ?_
        refine wpAnyH_only (i := 3) (by kernel_rfl) rfl (fun K hK => ?_)
        rw [if_pos (by rfl)]
        go_simp
        refine (H22a.out w3.drew _ hbB.drew (HM3.out.later (Below.refl _ w3).drew)).mono ?_
        rintro e w4 ⟨rfl, hb4⟩
        have hHeld4 : Below w3.heap.size w3 w4 := hHeld.trans (hb4.mono hHeld.size)
        refine hK.out _ _ hHeld4 ?_
        clear hK K hHeld
        refine wpAnyH_takesAt 4 4 9 (of_decide_eq_true (by kernel_rfl)) rfl (fun _ _ _ _ _ h => h) (by kernel_rfl) (by kernel_rfl) hHeld4 ?_
        simp only [List.drop_succ_cons, List.drop_zero, List.take_succ_cons, List.take_zero]
        iterate 4 (refine wpHeld_step (v := ?_) (by rfl) (fun wz hSw => ?_) ?_; rotate_left; (focus ((try dsimp only at hSw); go_simp; try with_reducible rfl)); (simp only [Act.put, List.setIfInBounds_toArray, List.set_cons_zero, List.set_cons_succ]))
        refine wpHeld_nil ?_
        refine wpAnyH_takesAt 9 5 4 (of_decide_eq_true (by kernel_rfl)) rfl (fun _ _ _ _ _ h => h) (by kernel_rfl) (by kernel_rfl) hHeld4 ?_
        simp only [List.drop_succ_cons, List.drop_zero, List.take_succ_cons, List.take_zero]
        iterate 5 (refine wpHeld_step (v := ?_) (by rfl) (fun wz hSw => ?_) ?_; rotate_left; (focus ((try dsimp only at hSw); have hca := SA.out wz hSw; have hcb := SB.out wz hSw; go_simp; try with_reducible rfl)); (simp only [Act.put, List.setIfInBounds_toArray, List.set_cons_zero, List.set_cons_succ]))
        refine wpHeld_nil ?_
        refine wpAnyH_only (i := 8) (by kernel_rfl) rfl (fun K hK => ?_)
        rw [if_pos (by rfl)]
        go_simp
        refine (H22b.out w4 (hbB.trans (hHeld4.mono hbB.size))).mono ?_
        rintro e w5 ⟨rfl, hb5⟩
        have hHeld5 : Below w3.heap.size w3 w5 := hHeld4.trans (hb5.mono hHeld4.size)
        refine hK.out _ _ hHeld5 ?_
        clear hK K hHeld4
        refine wpAnyH_takesAt 14 3 0 (of_decide_eq_true (by kernel_rfl)) rfl (fun _ _ _ _ _ h => h) (by kernel_rfl) (by kernel_rfl) hHeld5 ?_
        simp only [List.drop_succ_cons, List.drop_zero, List.take_succ_cons, List.take_zero]
        iterate 3 (refine wpHeld_step (v := ?_) (by rfl) (fun wz hSw => ?_) ?_; rotate_left; (focus ((try dsimp only at hSw); go_simp; try with_reducible rfl)); (simp only [Act.put, List.setIfInBounds_toArray, List.set_cons_zero, List.set_cons_succ]))
        refine wpHeld_nil ?_
        refine wpAnyH_done (by kernel_rfl) ?_ _
        refine NoPanic.normal ?_
        go_wp2
        go_ret
        exact ⟨by simp, hbB.trans (hHeld5.mono hbB.size)⟩
      · have hti : (300 : Int) < (tl : Int) := by omega
        go_enter Tryd.func7, Tryd.ntmps7
        go_wp2_with (go_at_call 18; refine (awake3_any _ HT.out).mono ?_; rintro e w1 ⟨rfl, hb1⟩)
        go_ret
        exact ⟨rfl, hb1⟩
    · have hbi : (300 : Int) < (bl : Int) := by omega
      go_enter Tryd.func7, Tryd.ntmps7
      go_wp2_with (go_at_call 18; refine (awake3_any _ HT.out).mono ?_; rintro e w1 ⟨rfl, hb1⟩)
      go_ret
      exact ⟨rfl, hb1⟩
  · have hli : (300 : Int) < (len : Int) := by omega
    go_enter Tryd.func7, Tryd.ntmps7
    go_wp2_with (go_at_call 18; refine (awake3_any _ HT.out).mono ?_; rintro e w1 ⟨rfl, hb1⟩)
    go_ret
    exact ⟨rfl, hb1⟩
end Go.Proofs.YtokjbldelpiejaaDoor
