/-
  WireSame: the walk.
-/
import Derived.Test.YtedpgdldekkgdaaSamP
import Derived.Test.YtedpgdldekkgdaaAnsP
import Derived.Test.YtedpgdldekkgdaaAw
namespace Go.Proofs.Ytedpgdldekkgdaa
open Go.RowKit Go.Shelf

theorem wpHeld_loadP {ops : Array Oper} {S : World → Prop} {K : Act → Prop} {a : Act} {o : Oper} {rest : List Oper} (hw : Region.wanted o (yielded ops a.tmps) = true) (x : Operand) (ho : o.op = .load 44 x)
    (b off : Nat) (hx : a.eval x = .pointer (some ⟨b, off, none⟩)) (cs : List Value) (hS : ∀ w, S w → w.rangeAt b off cs) (hi : (Try.prog.info? 44).map (·.size) = some cs.length)
    (h : wpHeld Try.prog ops S K rest (a.put o.dst (.agg cs.toArray))) : wpHeld Try.prog ops S K (o :: rest) a := ⟨_, yieldsIf_load_mid hw 44 x ho b off hx cs _ hS Try.underlying44 rfl hi, h⟩

set_option maxRecDepth 100000 in
set_option maxHeartbeats 8000000 in
theorem wireSame_walk (p : Option Addr) (len cap : Nat) (x : List Nat) (q : Option Addr) (l c : Nat) (xs : List ByteArray) (a : Rep) (p2 : Option Addr) (len2 cap2 : Nat) (y : List Nat) (q2 : Option Addr) (l2 c2 : Nat) (ys : List ByteArray) (b : Rep) (w : World) (hoa : a.ok) (hI : IsBytes w.heap.size w p len cap x) (hM : IsStrs w.heap.size w q l c xs) (hob : b.ok)
    (hJ : IsBytes w.heap.size w p2 len2 cap2 y) (hN : IsStrs w.heap.size w q2 l2 c2 ys) :
    Calls Try.prog 7 #[.agg (repC (.slice p len cap) (.slice q l c) a).toArray, .agg (repC (.slice p2 len2 cap2) (.slice q2 l2 c2) b).toArray] w fun e w' => e = .returned (.bool true) ∧ Below w.heap.size w w' := by
  obtain ⟨w0, hw0⟩ : ∃ w0, (w.alloc (.cells (repC (.slice p len cap) (.slice q l c) a).toArray 44)).alloc (.cells (repC (.slice p2 len2 cap2) (.slice q2 l2 c2) b).toArray 44) = w0 := ⟨_, rfl⟩
  have hb0 : Below w.heap.size w w0 := by rw [← hw0]; exact ((Below.refl _ w).alloc (Nat.le_refl _) _).alloc (by simp) _
  have HA0 : Hid (RepAt w0 w.heap.size (.slice p len cap) (.slice q l c) a) := by rw [← hw0]; exact (RepAt.new w _ _ a hoa).later ((Below.refl _ _).alloc (Nat.le_refl _) _)
  have HB0 : Hid (RepAt w0 (w.heap.size + 1) (.slice p2 len2 cap2) (.slice q2 l2 c2) b) := by
    rw [← hw0]
    have := RepAt.new (w.alloc (.cells (repC (.slice p len cap) (.slice q l c) a).toArray 44)) (.slice p2 len2 cap2) (.slice q2 l2 c2) b hob
    rwa [World.size_alloc] at this
  have HW0 : Hid ((w.alloc (.cells (repC (.slice p len cap) (.slice q l c) a).toArray 44)).alloc (.cells (repC (.slice p2 len2 cap2) (.slice q2 l2 c2) b).toArray 44) = w0) := hw0
  have HAw := awake_any w0
  have F1 : Hid (∀ W, Below w.heap.size w W → Calls Try.prog 15 #[.agg (repC (.slice p len cap) (.slice q l c) a).toArray] W fun e w' => e = .returned (.bool (fewP xs len)) ∧ Below W.heap.size W w') := fun W h => answers_any p len cap q l c xs a hoa W ((hM.below h).mono h.size)
  have F2 : Hid (∀ W, Below w.heap.size w W → Calls Try.prog 15 #[.agg (repC (.slice p2 len2 cap2) (.slice q2 l2 c2) b).toArray] W fun e w' => e = .returned (.bool (fewP ys len2)) ∧ Below W.heap.size W w') := fun W h => answers_any p2 len2 cap2 q2 l2 c2 ys b hob W ((hN.below h).mono h.size)
  obtain ⟨dd, hdd⟩ : ∃ dd, sameP a x xs b y ys = dd := ⟨_, rfl⟩
  have G1 : Hid (∀ W, Below w.heap.size w W → Calls Try.prog 21 #[.agg (repC (.slice p len cap) (.slice q l c) a).toArray, .agg (repC (.slice p2 len2 cap2) (.slice q2 l2 c2) b).toArray] W fun e w' => e = .returned (.bool dd) ∧ Below W.heap.size W w') := fun W h => by
    have := sameR_any p len cap x q l c xs a p2 len2 cap2 y q2 l2 c2 ys b hoa hob W ((hI.below h).mono h.size) ((hJ.below h).mono h.size) ((hM.below h).mono h.size) ((hN.below h).mono h.size)
    rwa [hdd] at this
  have G2 : Hid (∀ W, Below w.heap.size w W → Calls Try.prog 20 #[.agg (repC (.slice p len cap) (.slice q l c) a).toArray, .agg (repC (.slice p2 len2 cap2) (.slice q2 l2 c2) b).toArray] W fun e w' => e = .returned (.bool dd) ∧ Below W.heap.size W w') := fun W h => by
    have := refSameR_any p len cap x q l c xs a p2 len2 cap2 y q2 l2 c2 ys b hoa hob W ((hI.below h).mono h.size) ((hJ.below h).mono h.size) ((hM.below h).mono h.size) ((hN.below h).mono h.size)
    rwa [hdd] at this
  have G3 : Hid (∀ W, Below w.heap.size w W → Calls Try.prog 21 #[.agg (repC (.slice p len cap) (.slice q l c) a).toArray, .agg (repC (.slice p len cap) (.slice q l c) a).toArray] W fun e w' => e = .returned (.bool true) ∧ Below W.heap.size W w') := fun W h => by
    have := sameR_any p len cap x q l c xs a p len cap x q l c xs a hoa hoa W ((hI.below h).mono h.size) ((hI.below h).mono h.size) ((hM.below h).mono h.size) ((hM.below h).mono h.size)
    rwa [sameP_refl] at this
  have HoA : Hid a.ok := hoa
  have HoB : Hid b.ok := hob
  clear hw0 hI hJ hM hN hdd hoa hob
  go_enter Try.func7, Try.ntmps7
  go_wp2_with (first
    | (rw [HW0.out])
    | (go_at_call 8; refine HAw.mono ?_; rintro e w1 ⟨rfl, hb1⟩; have HA1 : Hid (RepAt w1 w.heap.size (.slice p len cap) (.slice q l c) a) := HA0.out.later hb1; have HB1 : Hid (RepAt w1 (w.heap.size + 1) (.slice p2 len2 cap2) (.slice q2 l2 c2) b) := HB0.out.later hb1; have HU1 : Hid (Below w.heap.size w w1) := hb0.trans (hb1.mono hb0.size); clear hb1))
  refine wp_region_held_drew (S := fun W => Below w1.heap.size w1 W) (by kernel_rfl) (Below.refl _ _).drew (fun hHeld => ?_)
  have hU0 : Below w.heap.size w w1.drew := HU1.out.drew
  generalize w1.drew = x0 at *
  refine wpAnyH_takesAt 0 1 22 (of_decide_eq_true (by kernel_rfl)) rfl (fun _ _ _ d _ h => by cases d <;> exact h) (by kernel_rfl) (by kernel_rfl) hHeld ?_
  simp only [List.drop_zero, List.take_succ_cons, List.take_zero]
  refine wpHeld_loadP (by rfl) (.tmp 2) rfl w.heap.size 0 rfl (repC (.slice p len cap) (.slice q l c) a) (fun W hW => (HA1.out.later hW).row.range) (size44' HoA.out) ?_
  (simp only [Act.put]; (try simp only [List.setIfInBounds_toArray]); (try simp only [List.set_cons_succ]); (try simp only [List.set_cons_zero]))
  refine wpHeld_nil ?_
  cases hf1 : fewP xs len with
  | false =>
    rw [hf1] at F1
    refine wpAnyH_only (i := 1) (by kernel_rfl) rfl (fun K hK => ?_)
    rw [if_pos (by rfl)]
    go_simp
    refine (F1.out x0 hU0).mono ?_
    rintro e x1 ⟨rfl, hb⟩
    have hH1 : Below w1.heap.size w1 x1 := hHeld.trans (hb.mono hHeld.size)
    have hU1 : Below w.heap.size w x1 := hU0.trans (hb.mono hU0.size)
    refine hK.out _ _ hH1 ?_
    clear hK K hb
    refine wpAnyH_takesAt 2 2 19 (of_decide_eq_true (by kernel_rfl)) rfl (fun _ _ _ d _ h => by cases d <;> exact h) (by kernel_rfl) (by kernel_rfl) hH1 ?_
    simp only [List.drop_succ_cons, List.drop_zero, List.take_succ_cons, List.take_zero]
    iterate 2 (refine wpHeld_step (v := ?_) (by rfl) (fun wz hSw => ?_) ?_; rotate_left; (focus ((try dsimp only at hSw); go_simp; try with_reducible rfl)); (simp only [Act.put, List.setIfInBounds_toArray, List.set_cons_zero, List.set_cons_succ]))
    refine wpHeld_nil ?_
    refine wpAnyH_takesAt 4 3 16 (of_decide_eq_true (by kernel_rfl)) rfl (fun _ _ _ d _ h => by cases d <;> exact h) (by kernel_rfl) (by kernel_rfl) hH1 ?_
    simp only [List.drop_succ_cons, List.drop_zero, List.take_succ_cons, List.take_zero]
    iterate 3 (refine wpHeld_skip (by rfl) ?_; simp only [Act.put, List.setIfInBounds_toArray, List.set_cons_zero, List.set_cons_succ])
    refine wpHeld_nil ?_
    refine wpAnyH_takesAt 7 2 14 (of_decide_eq_true (by kernel_rfl)) rfl (fun _ _ _ d _ h => by cases d <;> exact h) (by kernel_rfl) (by kernel_rfl) hH1 ?_
    simp only [List.drop_succ_cons, List.drop_zero, List.take_succ_cons, List.take_zero]
    iterate 2 (refine wpHeld_step (v := ?_) (by rfl) (fun wz hSw => ?_) ?_; rotate_left; (focus ((try dsimp only at hSw); go_simp; try with_reducible rfl)); (simp only [Act.put, List.setIfInBounds_toArray, List.set_cons_zero, List.set_cons_succ]))
    refine wpHeld_nil ?_
    refine wpAnyH_takesAt 9 12 2 (of_decide_eq_true (by kernel_rfl)) rfl (fun _ _ _ d _ h => by cases d <;> exact h) (by kernel_rfl) (by kernel_rfl) hH1 ?_
    simp only [List.drop_succ_cons, List.drop_zero, List.take_succ_cons, List.take_zero]
    iterate 12 (refine wpHeld_skip (by rfl) ?_; simp only [Act.put, List.setIfInBounds_toArray, List.set_cons_zero, List.set_cons_succ])
    refine wpHeld_nil ?_
    refine wpAnyH_takesAt 21 2 0 (of_decide_eq_true (by kernel_rfl)) rfl (fun _ _ _ d _ h => by cases d <;> exact h) (by kernel_rfl) (by kernel_rfl) hH1 ?_
    simp only [List.drop_succ_cons, List.drop_zero, List.take_succ_cons, List.take_zero]
    iterate 2 (refine wpHeld_step (v := ?_) (by rfl) (fun wz hSw => ?_) ?_; rotate_left; (focus ((try dsimp only at hSw); go_simp; try with_reducible rfl)); (simp only [Act.put, List.setIfInBounds_toArray, List.set_cons_zero, List.set_cons_succ]))
    refine wpHeld_nil ?_
    refine wpAnyH_done (by kernel_rfl) ?_ _
    go_wp2
    go_ret
    exact ⟨rfl, hU1⟩
  | true =>
    rw [hf1] at F1
    refine wpAnyH_only (i := 1) (by kernel_rfl) rfl (fun K hK => ?_)
    rw [if_pos (by rfl)]
    go_simp
    refine (F1.out x0 hU0).mono ?_
    rintro e x1 ⟨rfl, hb⟩
    have hH1 : Below w1.heap.size w1 x1 := hHeld.trans (hb.mono hHeld.size)
    have hU1 : Below w.heap.size w x1 := hU0.trans (hb.mono hU0.size)
    refine hK.out _ _ hH1 ?_
    clear hK K hb
    refine wpAnyH_takesAt 2 2 19 (of_decide_eq_true (by kernel_rfl)) rfl (fun _ _ _ d _ h => by cases d <;> exact h) (by kernel_rfl) (by kernel_rfl) hH1 ?_
    simp only [List.drop_succ_cons, List.drop_zero, List.take_succ_cons, List.take_zero]
    iterate 2 (refine wpHeld_step (v := ?_) (by rfl) (fun wz hSw => ?_) ?_; rotate_left; (focus ((try dsimp only at hSw); go_simp; try with_reducible rfl)); (simp only [Act.put, List.setIfInBounds_toArray, List.set_cons_zero, List.set_cons_succ]))
    refine wpHeld_nil ?_
    refine wpAnyH_takesAt 4 1 18 (of_decide_eq_true (by kernel_rfl)) rfl (fun _ _ _ d _ h => by cases d <;> exact h) (by kernel_rfl) (by kernel_rfl) hH1 ?_
    simp only [List.drop_succ_cons, List.drop_zero, List.take_succ_cons, List.take_zero]
    refine wpHeld_loadP (by rfl) (.tmp 3) rfl (w.heap.size + 1) 0 rfl (repC (.slice p2 len2 cap2) (.slice q2 l2 c2) b) (fun W hW => (HB1.out.later hW).row.range) (size44' HoB.out) ?_
    (simp only [Act.put]; (try simp only [List.setIfInBounds_toArray]); (try simp only [List.set_cons_succ]); (try simp only [List.set_cons_zero]))
    refine wpHeld_nil ?_
    cases hf2 : fewP ys len2 with
    | false =>
      rw [hf2] at F2
      refine wpAnyH_only (i := 5) (by kernel_rfl) rfl (fun K hK => ?_)
      rw [if_pos (by rfl)]
      go_simp
      refine (F2.out x1 hU1).mono ?_
      rintro e x2 ⟨rfl, hb⟩
      have hH2 : Below w1.heap.size w1 x2 := hH1.trans (hb.mono hH1.size)
      have hU2 : Below w.heap.size w x2 := hU1.trans (hb.mono hU1.size)
      refine hK.out _ _ hH2 ?_
      clear hK K hb
      refine wpAnyH_takesAt 6 3 14 (of_decide_eq_true (by kernel_rfl)) rfl (fun _ _ _ d _ h => by cases d <;> exact h) (by kernel_rfl) (by kernel_rfl) hH2 ?_
      simp only [List.drop_succ_cons, List.drop_zero, List.take_succ_cons, List.take_zero]
      iterate 3 (refine wpHeld_step (v := ?_) (by rfl) (fun wz hSw => ?_) ?_; rotate_left; (focus ((try dsimp only at hSw); go_simp; try with_reducible rfl)); (simp only [Act.put, List.setIfInBounds_toArray, List.set_cons_zero, List.set_cons_succ]))
      refine wpHeld_nil ?_
      refine wpAnyH_takesAt 9 12 2 (of_decide_eq_true (by kernel_rfl)) rfl (fun _ _ _ d _ h => by cases d <;> exact h) (by kernel_rfl) (by kernel_rfl) hH2 ?_
      simp only [List.drop_succ_cons, List.drop_zero, List.take_succ_cons, List.take_zero]
      iterate 12 (refine wpHeld_skip (by rfl) ?_; simp only [Act.put, List.setIfInBounds_toArray, List.set_cons_zero, List.set_cons_succ])
      refine wpHeld_nil ?_
      refine wpAnyH_takesAt 21 2 0 (of_decide_eq_true (by kernel_rfl)) rfl (fun _ _ _ d _ h => by cases d <;> exact h) (by kernel_rfl) (by kernel_rfl) hH2 ?_
      simp only [List.drop_succ_cons, List.drop_zero, List.take_succ_cons, List.take_zero]
      iterate 2 (refine wpHeld_step (v := ?_) (by rfl) (fun wz hSw => ?_) ?_; rotate_left; (focus ((try dsimp only at hSw); go_simp; try with_reducible rfl)); (simp only [Act.put, List.setIfInBounds_toArray, List.set_cons_zero, List.set_cons_succ]))
      refine wpHeld_nil ?_
      refine wpAnyH_done (by kernel_rfl) ?_ _
      go_wp2
      go_ret
      exact ⟨rfl, hU2⟩
    | true =>
      rw [hf2] at F2
      refine wpAnyH_only (i := 5) (by kernel_rfl) rfl (fun K hK => ?_)
      rw [if_pos (by rfl)]
      go_simp
      refine (F2.out x1 hU1).mono ?_
      rintro e x2 ⟨rfl, hb⟩
      have hH2 : Below w1.heap.size w1 x2 := hH1.trans (hb.mono hH1.size)
      have hU2 : Below w.heap.size w x2 := hU1.trans (hb.mono hU1.size)
      refine hK.out _ _ hH2 ?_
      clear hK K hb
      refine wpAnyH_takesAt 6 3 14 (of_decide_eq_true (by kernel_rfl)) rfl (fun _ _ _ d _ h => by cases d <;> exact h) (by kernel_rfl) (by kernel_rfl) hH2 ?_
      simp only [List.drop_succ_cons, List.drop_zero, List.take_succ_cons, List.take_zero]
      iterate 3 (refine wpHeld_step (v := ?_) (by rfl) (fun wz hSw => ?_) ?_; rotate_left; (focus ((try dsimp only at hSw); go_simp; try with_reducible rfl)); (simp only [Act.put, List.setIfInBounds_toArray, List.set_cons_zero, List.set_cons_succ]))
      refine wpHeld_nil ?_
      refine wpAnyH_takesAt 9 1 13 (of_decide_eq_true (by kernel_rfl)) rfl (fun _ _ _ d _ h => by cases d <;> exact h) (by kernel_rfl) (by kernel_rfl) hH2 ?_
      simp only [List.drop_succ_cons, List.drop_zero, List.take_succ_cons, List.take_zero]
      refine wpHeld_loadP (by rfl) (.tmp 2) rfl w.heap.size 0 rfl (repC (.slice p len cap) (.slice q l c) a) (fun W hW => (HA1.out.later hW).row.range) (size44' HoA.out) ?_
      (simp only [Act.put]; (try simp only [List.setIfInBounds_toArray]); (try simp only [List.set_cons_succ]); (try simp only [List.set_cons_zero]))
      refine wpHeld_nil ?_
      refine wpAnyH_takesAt 10 1 12 (of_decide_eq_true (by kernel_rfl)) rfl (fun _ _ _ d _ h => by cases d <;> exact h) (by kernel_rfl) (by kernel_rfl) hH2 ?_
      simp only [List.drop_succ_cons, List.drop_zero, List.take_succ_cons, List.take_zero]
      refine wpHeld_loadP (by rfl) (.tmp 3) rfl (w.heap.size + 1) 0 rfl (repC (.slice p2 len2 cap2) (.slice q2 l2 c2) b) (fun W hW => (HB1.out.later hW).row.range) (size44' HoB.out) ?_
      (simp only [Act.put]; (try simp only [List.setIfInBounds_toArray]); (try simp only [List.set_cons_succ]); (try simp only [List.set_cons_zero]))
      refine wpHeld_nil ?_
      refine wpAnyH_takesAt 12 1 11 (of_decide_eq_true (by kernel_rfl)) rfl (fun _ _ _ d _ h => by cases d <;> exact h) (by kernel_rfl) (by kernel_rfl) hH2 ?_
      simp only [List.drop_succ_cons, List.drop_zero, List.take_succ_cons, List.take_zero]
      refine wpHeld_loadP (by rfl) (.tmp 2) rfl w.heap.size 0 rfl (repC (.slice p len cap) (.slice q l c) a) (fun W hW => (HA1.out.later hW).row.range) (size44' HoA.out) ?_
      (simp only [Act.put]; (try simp only [List.setIfInBounds_toArray]); (try simp only [List.set_cons_succ]); (try simp only [List.set_cons_zero]))
      refine wpHeld_nil ?_
      refine wpAnyH_takesAt 13 1 10 (of_decide_eq_true (by kernel_rfl)) rfl (fun _ _ _ d _ h => by cases d <;> exact h) (by kernel_rfl) (by kernel_rfl) hH2 ?_
      simp only [List.drop_succ_cons, List.drop_zero, List.take_succ_cons, List.take_zero]
      refine wpHeld_loadP (by rfl) (.tmp 3) rfl (w.heap.size + 1) 0 rfl (repC (.slice p2 len2 cap2) (.slice q2 l2 c2) b) (fun W hW => (HB1.out.later hW).row.range) (size44' HoB.out) ?_
      (simp only [Act.put]; (try simp only [List.setIfInBounds_toArray]); (try simp only [List.set_cons_succ]); (try simp only [List.set_cons_zero]))
      refine wpHeld_nil ?_
      refine wpAnyH_only (i := 11) (by kernel_rfl) rfl (fun K hK => ?_)
      rw [if_pos (by rfl)]
      go_simp
      refine (G1.out x2 hU2).mono ?_
      rintro e x3 ⟨rfl, hb⟩
      have hH3 : Below w1.heap.size w1 x3 := hH2.trans (hb.mono hH2.size)
      have hU3 : Below w.heap.size w x3 := hU2.trans (hb.mono hU2.size)
      refine hK.out _ _ hH3 ?_
      clear hK K hb
      refine wpAnyH_only (i := 14) (by kernel_rfl) rfl (fun K hK => ?_)
      rw [if_pos (by rfl)]
      go_simp
      refine (G2.out x3 hU3).mono ?_
      rintro e x4 ⟨rfl, hb⟩
      have hH4 : Below w1.heap.size w1 x4 := hH3.trans (hb.mono hH3.size)
      have hU4 : Below w.heap.size w x4 := hU3.trans (hb.mono hU3.size)
      refine hK.out _ _ hH4 ?_
      clear hK K hb
      refine wpAnyH_takesAt 15 2 6 (of_decide_eq_true (by kernel_rfl)) rfl (fun _ _ _ d _ h => by cases d <;> exact h) (by kernel_rfl) (by kernel_rfl) hH4 ?_
      simp only [List.drop_succ_cons, List.drop_zero, List.take_succ_cons, List.take_zero]
      iterate 2 (refine wpHeld_step (v := ?_) (by rfl) (fun wz hSw => ?_) ?_; rotate_left; (focus ((try dsimp only at hSw); go_simp; try with_reducible rfl)); (simp only [Act.put, List.setIfInBounds_toArray, List.set_cons_zero, List.set_cons_succ]))
      refine wpHeld_nil ?_
      refine wpAnyH_takesAt 17 1 5 (of_decide_eq_true (by kernel_rfl)) rfl (fun _ _ _ d _ h => by cases d <;> exact h) (by kernel_rfl) (by kernel_rfl) hH4 ?_
      simp only [List.drop_succ_cons, List.drop_zero, List.take_succ_cons, List.take_zero]
      refine wpHeld_loadP (by rfl) (.tmp 2) rfl w.heap.size 0 rfl (repC (.slice p len cap) (.slice q l c) a) (fun W hW => (HA1.out.later hW).row.range) (size44' HoA.out) ?_
      (simp only [Act.put]; (try simp only [List.setIfInBounds_toArray]); (try simp only [List.set_cons_succ]); (try simp only [List.set_cons_zero]))
      refine wpHeld_nil ?_
      refine wpAnyH_takesAt 18 1 4 (of_decide_eq_true (by kernel_rfl)) rfl (fun _ _ _ d _ h => by cases d <;> exact h) (by kernel_rfl) (by kernel_rfl) hH4 ?_
      simp only [List.drop_succ_cons, List.drop_zero, List.take_succ_cons, List.take_zero]
      refine wpHeld_loadP (by rfl) (.tmp 2) rfl w.heap.size 0 rfl (repC (.slice p len cap) (.slice q l c) a) (fun W hW => (HA1.out.later hW).row.range) (size44' HoA.out) ?_
      (simp only [Act.put]; (try simp only [List.setIfInBounds_toArray]); (try simp only [List.set_cons_succ]); (try simp only [List.set_cons_zero]))
      refine wpHeld_nil ?_
      refine wpAnyH_only (i := 19) (by kernel_rfl) rfl (fun K hK => ?_)
      rw [if_pos (by rfl)]
      go_simp
      refine (G3.out x4 hU4).mono ?_
      rintro e x5 ⟨rfl, hb⟩
      have hH5 : Below w1.heap.size w1 x5 := hH4.trans (hb.mono hH4.size)
      have hU5 : Below w.heap.size w x5 := hU4.trans (hb.mono hU4.size)
      refine hK.out _ _ hH5 ?_
      clear hK K hb
      refine wpAnyH_takesAt 20 3 0 (of_decide_eq_true (by kernel_rfl)) rfl (fun _ _ _ d _ h => by cases d <;> exact h) (by kernel_rfl) (by kernel_rfl) hH5 ?_
      simp only [List.drop_succ_cons, List.drop_zero, List.take_succ_cons, List.take_zero]
      iterate 3 (refine wpHeld_step (v := ?_) (by rfl) (fun wz hSw => ?_) ?_; rotate_left; (focus ((try dsimp only at hSw); go_simp; try with_reducible rfl)); (simp only [Act.put, List.setIfInBounds_toArray, List.set_cons_zero, List.set_cons_succ]))
      refine wpHeld_nil ?_
      refine wpAnyH_done (by kernel_rfl) ?_ _
      go_wp2
      go_ret
      exact ⟨rfl, hU5⟩
end Go.Proofs.Ytedpgdldekkgdaa
