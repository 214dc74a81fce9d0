/-
  CmtPuts: the walk.
-/
import Derived.Test.YtkhhlcjjdkldjaaRefLC
import Derived.Test.YtkhhlcjjdkldjaaTellsW
namespace Go.Proofs.Ytkhhlcjjdkldjaa
open Go.RowKit Go.Shelf

set_option maxRecDepth 100000 in
set_option maxHeartbeats 4000000 in
theorem cmtPuts_walk (p : Option Addr) (len cap : Nat) (ids : List (List Nat)) (c : Cmt) (w : World) (hok : c.ok) (hI : IsIds w.heap.size w p len cap ids) :
    Calls Try.prog 3 #[.agg (cmtC (.slice p len cap) c).toArray] w fun e w' => e = .returned (.bool true) ∧ Below w.heap.size w w' := by
  obtain ⟨wa, hwa⟩ : ∃ wa, w.alloc (.cells (cmtC (.slice p len cap) c).toArray 29) = wa := ⟨_, rfl⟩
  have HBA : Hid (Below w.heap.size w wa) := by rw [← hwa]; exact (Below.refl _ w).alloc (Nat.le_refl _) _
  have HWA : Hid (w.alloc (.cells (cmtC (.slice p len cap) c).toArray 29) = wa) := hwa
  have HCA : Hid (CmtAt wa w.heap.size (.slice p len cap) c) := by rw [← hwa]; exact CmtAt.new w _ c hok
  have HF : Hid (∀ W, Calls Try.prog 8 #[.agg (cmtC (.slice p len cap) c).toArray] W fun e w' => e = .returned (.bool (fewC len c)) ∧ Below W.heap.size W w') := fun W => few_any p len cap c hok W
  have HOk : Hid c.ok := hok
  have HAw := awake_any wa
  cases hf : fewC len c with
  | false =>
    clear hwa hI hok
    rw [hf] at HF
    go_enter Try.func3, Try.ntmps3
    go_wp2_with (first
      | (rw [HWA.out])
      | (go_at_call 7; refine HAw.mono ?_; rintro e w1 ⟨rfl, hb1⟩; have HB1 : Hid (Below wa.heap.size wa w1) := hb1; clear hb1)
      | ((with_reducible show wpList _ _ _ (Oper.mk (some 9) (Op.load 29 (.tmp 1)) _ _ _ _ :: _) _ _); refine wpList_loadCmt rfl (.tmp 1) rfl rfl HOk.out (HCA.out.later HB1.out).row.range ?_; simp only [Act.put, List.setIfInBounds_toArray, List.set_cons_zero, List.set_cons_succ])
      | (go_at_call 8; refine (HF.out _).mono ?_; rintro e w2 ⟨rfl, hb2⟩; have HB2 : Hid (Below wa.heap.size wa w2) := HB1.out.trans (hb2.mono HB1.out.size); clear hb2))
    go_ret
    exact ⟨rfl, HBA.out.trans (HB2.out.mono HBA.out.size)⟩
  | true =>
    have hlt : len ≤ 10 ∧ c.text.size ≤ 5000 := by simp only [fewC, Bool.and_eq_true, decide_eq_true_eq] at hf; exact hf
    have hlen : len ≤ 10 := hlt.1
    have htx : c.text.size ≤ 5000 := hlt.2
    have HIW : Hid (∀ W, Below wa.heap.size wa W → IsIds W.heap.size W p len cap ids) := fun W h => (((hI.below HBA.out).mono HBA.out.size).below h).mono h.size
    have HP : Hid (∀ W, Below wa.heap.size wa W → Calls Try.prog 9 #[.agg (cmtC (.slice p len cap) c).toArray] W fun e w' => ∃ v, e = .returned (.tuple #[v, .int .i64 (if mayC ids c = true then 0 else 120)]) ∧ Own W.heap.size w' v (if mayC ids c = true then encC ids c else []) ∧ Below W.heap.size W w') := fun W h => put_any p len cap ids c hok (by omega) W (HIW.out W h)
    have HQ : Hid (∀ W, Below wa.heap.size wa W → Calls Try.prog 10 #[.agg (cmtC (.slice p len cap) c).toArray] W fun e w' => ∃ v, e = .returned (.tuple #[v, .int .i64 (if mayC ids c = true then 0 else 120)]) ∧ Own W.heap.size w' v (if mayC ids c = true then encC ids c else []) ∧ Below W.heap.size W w') := fun W h => refPut_any p len cap ids c hok W (HIW.out W h) (by omega)
    have HL1 : Hid (∀ W, Below wa.heap.size wa W → Calls Try.prog 12 #[.agg (cmtC (.slice p len cap) c).toArray] W fun e w' => ∃ q n k, e = .returned (.slice q n k) ∧ IsIds w'.heap.size w' q n k (linksL (ids ++ [c.root])) ∧ Below W.heap.size W w') := fun W h => by
      refine (cmtLinks_any p len cap ids c hok (by omega) W (HIW.out W h)).mono ?_
      rintro e w' ⟨q, n, rfl, h1, h2⟩
      rw [links_turn] at h1
      exact ⟨q, n, n, rfl, h1, h2⟩
    have HL2 : Hid (∀ W, Below wa.heap.size wa W → Calls Try.prog 13 #[.agg (cmtC (.slice p len cap) c).toArray] W fun e w' => ∃ q n k, e = .returned (.slice q n k) ∧ IsIds w'.heap.size w' q n k (linksL (ids ++ [c.root])) ∧ Below W.heap.size W w') := fun W h => refCmtLinks_any p len cap ids c hok (by omega) W (HIW.out W h)
    have HRg : Hid (∀ W, Below wa.heap.size wa W → W.rangeAt w.heap.size 0 (cmtC (.slice p len cap) c)) := fun W h => (HCA.out.later h).row.range
    clear hwa hI hok hlt
    rw [hf] at HF
    generalize (if mayC ids c = true then (0 : Int) else 120) = ee at *
    generalize (if mayC ids c = true then encC ids c else []) = X at *
    generalize linksL (ids ++ [c.root]) = Li at *
    go_enter Try.func3, Try.ntmps3
    go_wp2_with (first
      | (rw [HWA.out])
      | (go_at_call 7; refine HAw.mono ?_; rintro e w1 ⟨rfl, hb1⟩; have HB1 : Hid (Below wa.heap.size wa w1) := hb1; clear hb1)
      | ((with_reducible show wpList _ _ _ (Oper.mk (some 9) (Op.load 29 (.tmp 1)) _ _ _ _ :: _) _ _); refine wpList_loadCmt rfl (.tmp 1) rfl rfl HOk.out (HRg.out _ HB1.out) ?_; simp only [Act.put, List.setIfInBounds_toArray, List.set_cons_zero, List.set_cons_succ])
      | (go_at_call 8; refine (HF.out _).mono ?_; rintro e w2 ⟨rfl, hb2⟩; have HB2 : Hid (Below wa.heap.size wa w2) := HB1.out.trans (hb2.mono HB1.out.size); have HP2 := HP.out w2 HB2.out; clear hb2)
      | ((with_reducible show wpList _ _ _ (Oper.mk (some 13) (Op.load 29 (.tmp 1)) _ _ _ _ :: _) _ _); refine wpList_loadCmt rfl (.tmp 1) rfl rfl HOk.out (HRg.out _ HB2.out) ?_; simp only [Act.put, List.setIfInBounds_toArray, List.set_cons_zero, List.set_cons_succ])
      | (go_at_call 9; refine HP2.mono ?_; clear HP2; rintro e w3 ⟨v3, rfl, ho3, hb3⟩; obtain ⟨q3, k3, c3, hu3⟩ := own_any_slice ho3; subst hu3; have HB3 : Hid (Below wa.heap.size wa w3) := HB2.out.trans (hb3.mono HB2.out.size); have HS3 : Hid (Str w3 (.slice q3 k3 c3) (strOf X)) := str_of_row rfl ho3; have HQ3 := HQ.out w3 HB3.out; clear ho3 hb3)
      | ((with_reducible show wpList _ _ _ (Oper.mk (some 18) (Op.load 29 (.tmp 1)) _ _ _ _ :: _) _ _); refine wpList_loadCmt rfl (.tmp 1) rfl rfl HOk.out (HRg.out _ HB3.out) ?_; simp only [Act.put, List.setIfInBounds_toArray, List.set_cons_zero, List.set_cons_succ])
      | (go_at_call 10; refine HQ3.mono ?_; clear HQ3; rintro e w4 ⟨v4, rfl, ho4, hb4⟩; obtain ⟨q4, k4, c4, hu4⟩ := own_any_slice ho4; subst hu4; have HB4 : Hid (Below wa.heap.size wa w4) := HB3.out.trans (hb4.mono HB3.out.size); have HS4 : Hid (Str w4 (.slice q4 k4 c4) (strOf X)) := str_of_row rfl ho4; have HS34 : Hid (∀ W, Below w4.heap.size w4 W → (convert 32 9 (.slice q3 k3 c3)).run Try.prog W = .ok (.string (strOf X)) W ∧ (convert 32 9 (.slice q4 k4 c4)).run Try.prog W = .ok (.string (strOf X)) W) := (fun W h => ⟨HS3.out W (hb4.trans (h.mono hb4.size)), HS4.out W h⟩); clear ho4 hb4))
    have HB4w : Hid (∀ W, Below w4.heap.size w4 W → Below wa.heap.size wa W) := fun W h => HB4.out.trans (h.mono HB4.out.size)
    generalize strOf X = SX at *
    refine wp_region_held_drew (S := fun W => Below w4.heap.size w4 W) (by kernel_rfl) (Below.refl _ _).drew (fun hHeld => ?_)
    refine wpAnyH_takesAt 0 6 12 (of_decide_eq_true (by kernel_rfl)) rfl (fun _ _ _ d _ h => by cases d <;> exact h) (by kernel_rfl) (by kernel_rfl) hHeld ?_
    simp only [List.drop_zero, List.take_succ_cons, List.take_zero]
    iterate 6 (refine wpHeld_step (v := ?_) (by rfl) (fun wz hSw => ?_) ?_; rotate_left; (focus (obtain ⟨g3, g4⟩ := HS34.out wz hSw; clear hSw; go_simp; try with_reducible rfl)); (simp only [Act.put, List.setIfInBounds_toArray, List.set_cons_zero, List.set_cons_succ]))
    refine wpHeld_nil ?_
    refine wpAnyH_takesAt 6 5 7 (of_decide_eq_true (by kernel_rfl)) rfl (fun _ _ _ d _ h => by cases d <;> exact h) (by kernel_rfl) (by kernel_rfl) hHeld ?_
    simp only [List.drop_succ_cons, List.drop_zero, List.take_succ_cons, List.take_zero]
    iterate 5 (refine wpHeld_step (v := ?_) (by rfl) (fun wz hSw => ?_) ?_; rotate_left; (focus ((try dsimp only at hSw); go_simp; try with_reducible rfl)); (simp only [Act.put, List.setIfInBounds_toArray, List.set_cons_zero, List.set_cons_succ]))
    refine wpHeld_nil ?_
    refine wpAnyH_takesAt 11 1 6 (of_decide_eq_true (by kernel_rfl)) rfl (fun _ _ _ d _ h => by cases d <;> exact h) (by kernel_rfl) (by kernel_rfl) hHeld ?_
    simp only [List.drop_succ_cons, List.drop_zero, List.take_succ_cons, List.take_zero]
    refine wpHeld_loadE (by rfl) (.tmp 1) rfl w.heap.size (0) rfl (cmtC (.slice p len cap) c) (fun W hW => HRg.out W (HB4w.out W hW)) (size29' HOk.out) ?_
    (simp only [Act.put]; (try simp only [List.setIfInBounds_toArray]); (try simp only [List.set_cons_succ]); (try simp only [List.set_cons_zero]))
    refine wpHeld_nil ?_
    refine wpAnyH_takesAt 13 1 5 (of_decide_eq_true (by kernel_rfl)) rfl (fun _ _ _ d _ h => by cases d <;> exact h) (by kernel_rfl) (by kernel_rfl) hHeld ?_
    simp only [List.drop_succ_cons, List.drop_zero, List.take_succ_cons, List.take_zero]
    refine wpHeld_loadE (by rfl) (.tmp 1) rfl w.heap.size (0) rfl (cmtC (.slice p len cap) c) (fun W hW => HRg.out W (HB4w.out W hW)) (size29' HOk.out) ?_
    (simp only [Act.put]; (try simp only [List.setIfInBounds_toArray]); (try simp only [List.set_cons_succ]); (try simp only [List.set_cons_zero]))
    refine wpHeld_nil ?_
    refine wpAnyH_only (i := 12) (by kernel_rfl) rfl (fun K hK => ?_)
    rw [if_pos (by rfl)]
    go_simp
    refine (HL1.out _ (HB4w.out _ hHeld)).mono ?_
    rintro e x1 ⟨q5, n5, k5, rfl, hI5, hx1⟩
    have HX1 : Hid (Below w4.heap.size w4 x1) := hHeld.trans (hx1.mono hHeld.size)
    refine hK.out _ _ HX1.out ?_
    clear hK K hHeld
    have hHeld := HX1.out
    refine wpAnyH_only (i := 14) (by kernel_rfl) rfl (fun K hK => ?_)
    rw [if_pos (by rfl)]
    go_simp
    refine (HL2.out _ (HB4w.out _ hHeld)).mono ?_
    rintro e x2 ⟨q6, n6, k6, rfl, hI6, hx2⟩
    have HX2 : Hid (Below w4.heap.size w4 x2) := hHeld.trans (hx2.mono hHeld.size)
    refine hK.out _ _ HX2.out ?_
    clear hK K hHeld
    have hHeld := HX2.out
    have hI5' := (hI5.below hx2).mono hx2.size
    have hn : n5 = n6 := by rw [← hI5.1, ← hI6.1]
    subst hn
    refine wpAnyH_only (i := 15) (by kernel_rfl) rfl (fun K hK => ?_)
    rw [if_pos (by rfl)]
    go_simp
    refine (sameIds_any q5 n5 k5 q6 k6 Li x2 hI5' hI6).mono ?_
    rintro e x3 ⟨rfl, hx3⟩
    have HX3 : Hid (Below w4.heap.size w4 x3) := hHeld.trans (hx3.mono hHeld.size)
    refine hK.out _ _ HX3.out ?_
    clear hK K hHeld
    have hHeld := HX3.out
    refine wpAnyH_takesAt 16 2 0 (of_decide_eq_true (by kernel_rfl)) rfl (fun _ _ _ d _ h => by cases d <;> exact h) (by kernel_rfl) (by kernel_rfl) hHeld ?_
    simp only [List.drop_succ_cons, List.drop_zero, List.take_succ_cons, List.take_zero]
    iterate 2 (refine wpHeld_step (v := ?_) (by rfl) (fun wz hSw => ?_) ?_; rotate_left; (focus ((try dsimp only at hSw); go_simp; try with_reducible rfl)); (simp only [Act.put, List.setIfInBounds_toArray, List.set_cons_zero, List.set_cons_succ]))
    refine wpHeld_nil ?_
    refine wpAnyH_done (by kernel_rfl) ?_ _
    go_wp2
    go_ret
    exact ⟨rfl, HBA.out.trans ((HB4w.out _ HX3.out).mono HBA.out.size)⟩
end Go.Proofs.Ytkhhlcjjdkldjaa
