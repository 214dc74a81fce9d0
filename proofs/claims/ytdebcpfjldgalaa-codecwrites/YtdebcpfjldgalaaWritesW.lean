/-
  The law CodecWrites, walked: for every list of parts it returns true.
-/
import Derived.Test.YtdebcpfjldgalaaWrote
import Derived.Test.YtdebcpfjldgalaaAwake
import Derived.Test.YtdebcpfjldgalaaHeld
namespace Go.Proofs.Ytdebcpfjldgalaa
open Go.RowKit

set_option maxRecDepth 100000 in
set_option maxHeartbeats 2000000 in
theorem codecWrites_walk (p : Option Addr) (len cap : Nat) (xs : List Pt) (w : World) (hI : IsParts w.heap.size w p len cap xs) :
    Calls Try.prog 3 #[.slice p len cap] w fun e w' => e = .returned (.bool true) ∧ Below w.heap.size w w' := by
  have HI : Hid (∀ W, Below w.heap.size w W → IsParts W.heap.size W p len cap xs) := fun W hb => by
    have h := hI.below hb
    have hs := hb.size
    refine ⟨h.1, h.2.1, h.2.2.1, ?_⟩
    rcases h.2.2.2 with e | ⟨b, off, e, hb', hc⟩
    · exact .inl e
    · refine .inr ⟨b, off, e, by omega, fun i hi => ?_⟩
      obtain ⟨q1, l1, c1, q2, l2, c2, h1, h2, h3, h4⟩ := hc i hi
      exact ⟨q1, l1, c1, q2, l2, c2, h1, h2.mono hs, h3.mono hs, h4⟩
  clear hI
  go_enter Try.func3, Try.ntmps3
  go_wp2_with (go_at_call 8; refine (awake_any _).mono ?_; rintro e w1 ⟨rfl, hb1⟩)
  refine wp_region_held_drew (S := fun W => Below w1.heap.size w1 W) (by kernel_rfl) (Below.refl _ _).drew (fun hHeld => ?_)
  refine wpAnyH_takesAt 0 1 12 (of_decide_eq_true (by kernel_rfl)) rfl (fun _ _ _ d _ h => by cases d <;> exact h) (by kernel_rfl) (by kernel_rfl) hHeld ?_
  simp only [List.drop_zero, List.take_succ_cons, List.take_zero]
  iterate 1 (refine wpHeld_step (v := ?_) (by rfl) (fun wz hSw => ?_) ?_; rotate_left; (focus ((try dsimp only at hSw); go_simp; try with_reducible rfl)); ((simp only [Act.put]; (try simp only [List.setIfInBounds_toArray]); (try simp only [List.set_cons_succ]); (try simp only [List.set_cons_zero]))))
  refine wpHeld_nil ?_
  refine wpAnyH_only (i := 1) (by kernel_rfl) rfl (fun K hK => ?_)
  rw [if_pos (by rfl)]
  go_simp
  refine (few_any p len cap xs _ (HI.out _ hb1.drew)).mono ?_
  rintro e w2 ⟨rfl, hb2⟩
  have h12 : Below w1.heap.size w1 w2 := (Below.refl _ w1).drew.trans hb2
  have hbA : Below w.heap.size w w2 := hb1.trans (h12.mono hb1.size)
  refine hK.out _ _ h12 ?_
  clear hK K hHeld
  refine wpAnyH_more (S' := fun W => Below w2.heap.size w2 W) (fun W h => h12.trans (h.mono h12.size)) _ _ _ _ ?_
  have hHeld := Below.refl w2.heap.size w2
  by_cases hf : fewB xs = true
  · rw [hf]
    refine wpAnyH_takesAt 2 3 8 (of_decide_eq_true (by kernel_rfl)) rfl (fun _ _ _ d _ h => by cases d <;> exact h) (by kernel_rfl) (by kernel_rfl) hHeld ?_
    simp only [List.drop_succ_cons, List.drop_zero, List.take_succ_cons, List.take_zero]
    iterate 3 (refine wpHeld_step (v := ?_) (by rfl) (fun wz hSw => ?_) ?_; rotate_left; (focus ((try dsimp only at hSw); go_simp; try with_reducible rfl)); (simp only [Act.put, List.setIfInBounds_toArray, List.set_cons_zero, List.set_cons_succ]))
    refine wpHeld_nil ?_
    refine wpAnyH_takesAt 7 1 7 (of_decide_eq_true (by kernel_rfl)) rfl (fun _ _ _ d _ h => by cases d <;> exact h) (by kernel_rfl) (by kernel_rfl) hHeld ?_
    simp only [List.drop_succ_cons, List.drop_zero, List.take_succ_cons, List.take_zero]
    iterate 1 (refine wpHeld_step (v := ?_) (by rfl) (fun wz hSw => ?_) ?_; rotate_left; (focus ((try dsimp only at hSw); go_simp; try with_reducible rfl)); ((simp only [Act.put]; (try simp only [List.setIfInBounds_toArray]); (try simp only [List.set_cons_succ]); (try simp only [List.set_cons_zero]))))
    refine wpHeld_nil ?_
    refine wpAnyH_only (i := 5) (by kernel_rfl) rfl (fun K hK => ?_)
    rw [if_pos (by rfl)]
    go_simp
    refine (wrote_any p len cap xs _ (HI.out _ hbA) hf).mono ?_
    rintro e w3 ⟨v3, rfl, hown3, hb3⟩
    have hs3 := own_str hown3
    refine hK.out _ _ hb3 ?_
    clear hK K hHeld
    refine wpAnyH_more (S' := fun W => Below w3.heap.size w3 W) (fun W h => hb3.trans (h.mono hb3.size)) _ _ _ _ ?_
    have hHeld := Below.refl w3.heap.size w3
    have hbB : Below w.heap.size w w3 := hbA.trans (hb3.mono hbA.size)
    have HW4 : Hid (Calls Try.prog 11 #[.slice p len cap] w3 fun e w' => ∃ v, e = .returned v ∧ Str w' v (strOf (encAll xs)) ∧ Below w3.heap.size w3 w') := (written_any p len cap xs _ (HI.out _ hbB) hf).mono fun e w' ⟨v, h1, h2, h3⟩ => ⟨v, h1, own_str h2, h3⟩
    generalize strOf (encAll xs) = s at *
    refine wpAnyH_takesAt 6 1 5 (of_decide_eq_true (by kernel_rfl)) rfl (fun _ _ _ d _ h => by cases d <;> exact h) (by kernel_rfl) (by kernel_rfl) hHeld ?_
    simp only [List.drop_succ_cons, List.drop_zero, List.take_succ_cons, List.take_zero]
    iterate 1 (refine wpHeld_step (v := ?_) (by rfl) (fun wz hSw => ?_) ?_; rotate_left; (focus (have hcv := hs3 wz hSw; go_simp; try with_reducible rfl)); ((simp only [Act.put]; (try simp only [List.setIfInBounds_toArray]); (try simp only [List.set_cons_succ]); (try simp only [List.set_cons_zero]))))
    refine wpHeld_nil ?_
    refine wpAnyH_only (i := 8) (by kernel_rfl) rfl (fun K hK => ?_)
    rw [if_pos (by rfl)]
    go_simp
    refine HW4.out.mono ?_
    rintro e w4 ⟨v4, rfl, hs4, hb4⟩
    refine hK.out _ _ hb4 ?_
    clear hK K hHeld
    refine wpAnyH_more (S' := fun W => Below w4.heap.size w4 W) (fun W h => hb4.trans (h.mono hb4.size)) _ _ _ _ ?_
    have hHeld := Below.refl w4.heap.size w4
    refine wpAnyH_takesAt 9 4 0 (of_decide_eq_true (by kernel_rfl)) rfl (fun _ _ _ d _ h => by cases d <;> exact h) (by kernel_rfl) (by kernel_rfl) hHeld ?_
    simp only [List.drop_succ_cons, List.drop_zero, List.take_succ_cons, List.take_zero]
    iterate 4 (refine wpHeld_step (v := ?_) (by rfl) (fun wz hSw => ?_) ?_; rotate_left; (focus (have hcv := hs4 wz hSw; go_simp; try with_reducible rfl)); (simp only [Act.put, List.setIfInBounds_toArray, List.set_cons_zero, List.set_cons_succ]))
    refine wpHeld_nil ?_
    refine wpAnyH_done (by kernel_rfl) ?_ _
    go_wp2
    go_ret
    exact ⟨by simp, hbB.trans (hb4.mono hbB.size)⟩
  · have hf : fewB xs = false := by simpa using hf
    rw [hf]
    refine wpAnyH_takesAt 2 2 9 (of_decide_eq_true (by kernel_rfl)) rfl (fun _ _ _ d _ h => by cases d <;> exact h) (by kernel_rfl) (by kernel_rfl) hHeld ?_
    simp only [List.drop_succ_cons, List.drop_zero, List.take_succ_cons, List.take_zero]
    iterate 2 (refine wpHeld_step (v := ?_) (by rfl) (fun wz hSw => ?_) ?_; rotate_left; (focus ((try dsimp only at hSw); go_simp; try with_reducible rfl)); (simp only [Act.put, List.setIfInBounds_toArray, List.set_cons_zero, List.set_cons_succ]))
    refine wpHeld_nil ?_
    refine wpAnyH_takesAt 4 9 0 (of_decide_eq_true (by kernel_rfl)) rfl (fun _ _ _ d _ h => by cases d <;> exact h) (by kernel_rfl) (by kernel_rfl) hHeld ?_
    simp only [List.drop_succ_cons, List.drop_zero, List.take_succ_cons, List.take_zero]
    iterate 7 (refine wpHeld_skip (by rfl) ?_; simp only [Act.put, List.setIfInBounds_toArray, List.set_cons_zero, List.set_cons_succ])
    iterate 2 (refine wpHeld_step (v := ?_) (by rfl) (fun wz hSw => ?_) ?_; rotate_left; (focus ((try dsimp only at hSw); go_simp; try with_reducible rfl)); (simp only [Act.put, List.setIfInBounds_toArray, List.set_cons_zero, List.set_cons_succ]))
    refine wpHeld_nil ?_
    refine wpAnyH_done (by kernel_rfl) ?_ _
    go_wp2
    go_ret
    exact ⟨rfl, hbA⟩
end Go.Proofs.Ytdebcpfjldgalaa
