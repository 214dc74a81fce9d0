/-
  CommitLinks, the reference's; Put in one form.
-/
import Derived.Test.YtkhhlcjjdkldjaaLkC
import Derived.Test.YtkhhlcjjdkldjaaRefPC
namespace Go.Proofs.Ytkhhlcjjdkldjaa
open Go.RowKit Go.Shelf

set_option maxRecDepth 100000 in
set_option maxHeartbeats 4000000 in
theorem refCmtLinks_any (p : Option Addr) (len cap : Nat) (ids : List (List Nat)) (c : Cmt) (hok : c.ok) (hlen : len ≤ 900) (w : World) (hI : IsIds w.heap.size w p len cap ids) :
    Calls Try.prog 13 #[.agg (cmtC (.slice p len cap) c).toArray] w fun e w' => ∃ q n k, e = .returned (.slice q n k) ∧ IsIds w'.heap.size w' q n k (linksL (ids ++ [c.root])) ∧ Below w.heap.size w w' := by
  obtain ⟨i0, hi0, hz0, hz1, hz2⟩ := info_parts info24
  obtain ⟨wa, hwa⟩ : ∃ wa, w.alloc (.cells (cmtC (.slice p len cap) c).toArray 29) = wa := ⟨_, rfl⟩
  have HBA : Hid (Below w.heap.size w wa) := by rw [← hwa]; exact (Below.refl _ w).alloc (Nat.le_refl _) _
  have HWA : Hid (w.alloc (.cells (cmtC (.slice p len cap) c).toArray 29) = wa) := hwa
  have HCA : Hid (CmtAt wa w.heap.size (.slice p len cap) c) := by rw [← hwa]; exact CmtAt.new w _ c hok
  have HCp : Hid (∀ W, Below wa.heap.size wa W → W.cell? ⟨w.heap.size, 0, none⟩ = some (.slice p len cap)) := fun W h => (HCA.out.later h).par
  have HRt : Hid (∀ W, Below wa.heap.size wa W → W.rangeAt w.heap.size 1 (u8s c.root)) := fun W h => (HCA.out.later h).root
  have HId : Hid (IsIds wa.heap.size wa.drew p len cap ids) := (hI.below HBA.out).mono HBA.out.size
  have HL : Hid (ids.length = len) := hI.1
  have HRL : Hid ((u8s c.root).length = 32) := by show _ = _; rw [u8s_length]; exact hok.1.1
  have HAll : Hid (∀ y ∈ ids ++ [c.root], y.length = 32 ∧ ∀ z ∈ y, z < 256) := fun y hy => by
    rcases List.mem_append.1 hy with h | h
    · exact hI.2.2.2.1 y h
    · rw [List.mem_singleton] at h; subst h; exact hok.1
  have HOne : Hid (∀ W : World, IsIds (W.alloc (.cells (u8s c.root).toArray 24)).heap.size (W.alloc (.cells (u8s c.root).toArray 24)) (some ⟨W.heap.size, 0, none⟩) 1 1 [c.root]) := fun W =>
    (OwnIds.one (n₀ := 0) hok.1 (Row.new' W 24 (u8s c.root)) (Nat.zero_le _)).ids rfl (fun y hy => by rw [List.mem_singleton] at hy; subst hy; exact hok.1)
  clear hwa hI hok
  generalize u8s c.root = V at *
  go_enter Try.func13, Try.ntmps13
  go_wp2_with (rw [HWA.out])
  try rw [HWA.out]
  refine wp_region_held_drew (S := fun W => Below wa.heap.size wa W) (by kernel_rfl) (Below.refl _ _).drew (fun hHeld => ?_)
  refine wpAnyH_takesAt 0 2 7 (of_decide_eq_true (by kernel_rfl)) rfl (fun _ _ _ d _ h => by cases d <;> exact h) (by kernel_rfl) (by kernel_rfl) hHeld ?_
  simp only [List.drop_zero, List.take_succ_cons, List.take_zero]
  iterate 2 (refine wpHeld_step (v := ?_) (by rfl) (fun wz hSw => ?_) ?_; rotate_left; (focus (have hcp := HCp.out wz hSw; clear hSw; go_simp; try with_reducible rfl)); (simp only [Act.put, List.setIfInBounds_toArray, List.set_cons_zero, List.set_cons_succ]))
  refine wpHeld_nil ?_
  refine wpAnyH_takesAt 3 1 6 (of_decide_eq_true (by kernel_rfl)) rfl (fun _ _ _ d _ h => by cases d <;> exact h) (by kernel_rfl) (by kernel_rfl) hHeld ?_
  simp only [List.drop_succ_cons, List.drop_zero, List.take_succ_cons, List.take_zero]
  iterate 1 (refine wpHeld_step (v := ?_) (by rfl) (fun wz hSw => ?_) ?_; rotate_left; (focus ((try dsimp only at hSw); go_simp; try with_reducible rfl)); ((simp only [Act.put]; (try simp only [List.setIfInBounds_toArray]); (try simp only [List.set_cons_succ]); (try simp only [List.set_cons_zero]))))
  refine wpHeld_nil ?_
  refine wpAnyH_takesAt 4 1 5 (of_decide_eq_true (by kernel_rfl)) rfl (fun _ _ _ d _ h => by cases d <;> exact h) (by kernel_rfl) (by kernel_rfl) hHeld ?_
  simp only [List.drop_succ_cons, List.drop_zero, List.take_succ_cons, List.take_zero]
  refine wpHeld_load (by rfl) 24 (.tmp 6) rfl w.heap.size 1 rfl V (fun W hW => HRt.out W hW) Try.underlying24 (by rw [HRL.out]; exact size24) ?_
  (simp only [Act.put]; (try simp only [List.setIfInBounds_toArray]); (try simp only [List.set_cons_succ]); (try simp only [List.set_cons_zero]))
  refine wpHeld_nil ?_
  refine wpAnyH_either (i := 2) (j := 5) (by kernel_rfl) rfl rfl (fun K hK => ?_) (fun K hK => ?_)
  · rw [if_pos (by rfl)]
    obtain ⟨v5, y1, hrun5, ho5, hg5⟩ := run_append_idl wa.drew wa.heap.size 22 (.slice none 0 0) [] (OwnIds.nil _ _) HId.out (by simp; omega) (Nat.le_refl _)
    rw [List.nil_append] at ho5
    have hB1 : Below wa.heap.size wa.drew y1 := (Below.refl _ wa.drew).grown hg5 (Nat.le_refl _) (fun k e => by cases e)
    have hH1 : Below wa.heap.size wa y1 := hHeld.trans hB1
    obtain ⟨q5, c5, hu5⟩ := OwnIds.slice ho5
    rw [HL.out] at hu5
    subst hu5
    refine wp_append_of (.const (.slice none 0 0)) (.tmp 4) 22 rfl rfl rfl hrun5 ?_
    refine hK.out _ _ hH1 ?_
    clear hK K
    change wpAnyH _ _ _ _ _ _ _ (Act.put _ (some 5) _) _
    (simp only [Act.put]; (try simp only [List.setIfInBounds_toArray]); (try simp only [List.set_cons_succ]); (try simp only [List.set_cons_zero]))
    refine wpAnyH_only (i := 5) (by kernel_rfl) rfl (fun K hK => ?_)
    rw [if_pos (by rfl)]
    refine wp_buildOne 22 24 (.tmp 7) rfl V rfl i0 _ Try.underlying22 hi0 hz0 (by rw [hz1, HRL.out]) (by rw [HRL.out]; omega) (by rw [HRL.out]; omega) ?_
    have hH2 : Below wa.heap.size wa (y1.alloc (.cells V.toArray 24)) := hH1.alloc hH1.size _
    refine hK.out _ _ hH2 ?_
    clear hK K
    change wpAnyH _ _ _ _ _ _ _ (Act.put _ (some 8) _) _
    (simp only [Act.put]; (try simp only [List.setIfInBounds_toArray]); (try simp only [List.set_cons_succ]); (try simp only [List.set_cons_zero]))
    have ho5' := World.ownsRow.alloc ho5 (.cells V.toArray 24)
    have hOne := HOne.out y1
    obtain ⟨v9, y9, hrun9, ho9, hg9⟩ := run_append_idl _ wa.heap.size 22 (.slice q5 len c5) ids ho5' hOne (by have := HL.out; omega) hH2.size
    have hH9 : Below wa.heap.size wa y9 := hH2.grown hg9 hH2.size (fun k e => (World.ownsRow.lt ho5' k e).1)
    obtain ⟨q9, c9, hu9⟩ := OwnIds.slice ho9
    obtain ⟨k9, hk9⟩ : ∃ k9, (ids ++ [c.root]).length = k9 := ⟨_, rfl⟩
    rw [hk9] at hu9
    subst hu9
    refine wpAnyH_only (i := 6) (by kernel_rfl) rfl (fun K hK => ?_)
    rw [if_pos (by rfl)]
    refine wp_append_of (.tmp 5) (.tmp 8) 22 rfl rfl rfl hrun9 ?_
    refine hK.out _ _ hH9 ?_
    clear hK K
    change wpAnyH _ _ _ _ _ _ _ (Act.put _ (some 9) _) _
    (simp only [Act.put]; (try simp only [List.setIfInBounds_toArray]); (try simp only [List.set_cons_succ]); (try simp only [List.set_cons_zero]))
    refine wpAnyH_only (i := 7) (by kernel_rfl) rfl (fun K hK => ?_)
    rw [if_pos (by rfl)]
    go_simp
    refine (refLinks_any q9 k9 c9 (ids ++ [c.root]) (by have := HL.out; rw [← hk9, List.length_append]; simp; omega) y9 (ho9.ids hk9 HAll.out)).mono ?_
    rintro e y10 ⟨q10, n10, c10, rfl, hI10, hb10⟩
    have hH10 : Below wa.heap.size wa y10 := hH9.trans (hb10.mono hH9.size)
    refine hK.out _ _ hH10 ?_
    clear hK K hHeld
    have hHeld := hH10
    refine wpAnyH_takesAt 8 1 0 (of_decide_eq_true (by kernel_rfl)) rfl (fun _ _ _ d _ h => by cases d <;> exact h) (by kernel_rfl) (by kernel_rfl) hHeld ?_
    simp only [List.drop_succ_cons, List.drop_zero, List.take_succ_cons, List.take_zero]
    iterate 1 (refine wpHeld_step (v := ?_) (by rfl) (fun wz hSw => ?_) ?_; rotate_left; (focus ((try dsimp only at hSw); go_simp; try with_reducible rfl)); ((simp only [Act.put]; (try simp only [List.setIfInBounds_toArray]); (try simp only [List.set_cons_succ]); (try simp only [List.set_cons_zero]))))
    refine wpHeld_nil ?_
    refine wpAnyH_done (by kernel_rfl) ?_ _
    go_wp2
    go_ret
    exact ⟨q10, n10, c10, rfl, hI10.1, HBA.out.trans (hH10.mono HBA.out.size)⟩
  · rw [if_pos (by rfl)]
    refine wp_buildOne 22 24 (.tmp 7) rfl V rfl i0 _ Try.underlying22 hi0 hz0 (by rw [hz1, HRL.out]) (by rw [HRL.out]; omega) (by rw [HRL.out]; omega) ?_
    have hH1 : Below wa.heap.size wa (wa.drew.alloc (.cells V.toArray 24)) := hHeld.alloc hHeld.size _
    refine hK.out _ _ hH1 ?_
    clear hK K
    change wpAnyH _ _ _ _ _ _ _ (Act.put _ (some 8) _) _
    (simp only [Act.put]; (try simp only [List.setIfInBounds_toArray]); (try simp only [List.set_cons_succ]); (try simp only [List.set_cons_zero]))
    have hOne := HOne.out wa.drew
    have hId1 := (HId.out.below ((Below.refl _ wa.drew).alloc (Nat.le_refl _) (.cells V.toArray 24)))
    obtain ⟨x1, hx1⟩ : ∃ x1, wa.drew.alloc (.cells V.toArray 24) = x1 := ⟨_, rfl⟩
    rw [hx1] at hH1 hOne hId1 ⊢
    obtain ⟨v5, y1, hrun5, ho5, hg5⟩ := run_append_idl x1 wa.heap.size 22 (.slice none 0 0) [] (OwnIds.nil _ _) hId1 (by simp; omega) hH1.size
    rw [List.nil_append] at ho5
    have hB2 : Below x1.heap.size x1 y1 := (Below.refl _ x1).grown hg5 (Nat.le_refl _) (fun k e => by cases e)
    have hH2 : Below wa.heap.size wa y1 := hH1.trans (hB2.mono hH1.size)
    obtain ⟨q5, c5, hu5⟩ := OwnIds.slice ho5
    rw [HL.out] at hu5
    subst hu5
    refine wpAnyH_only (i := 2) (by kernel_rfl) rfl (fun K hK => ?_)
    rw [if_pos (by rfl)]
    refine wp_append_of (.const (.slice none 0 0)) (.tmp 4) 22 rfl rfl rfl hrun5 ?_
    refine hK.out _ _ hH2 ?_
    clear hK K
    change wpAnyH _ _ _ _ _ _ _ (Act.put _ (some 5) _) _
    (simp only [Act.put]; (try simp only [List.setIfInBounds_toArray]); (try simp only [List.set_cons_succ]); (try simp only [List.set_cons_zero]))
    have hOne2 := (hOne.below hB2).mono hB2.size
    obtain ⟨v9, y9, hrun9, ho9, hg9⟩ := run_append_idl y1 wa.heap.size 22 (.slice q5 len c5) ids ho5 hOne2 (by have := HL.out; omega) hH2.size
    have hH9 : Below wa.heap.size wa y9 := hH2.grown hg9 hH2.size (fun k e => (World.ownsRow.lt ho5 k e).1)
    obtain ⟨q9, c9, hu9⟩ := OwnIds.slice ho9
    obtain ⟨k9, hk9⟩ : ∃ k9, (ids ++ [c.root]).length = k9 := ⟨_, rfl⟩
    rw [hk9] at hu9
    subst hu9
    refine wpAnyH_only (i := 6) (by kernel_rfl) rfl (fun K hK => ?_)
    rw [if_pos (by rfl)]
    refine wp_append_of (.tmp 5) (.tmp 8) 22 rfl rfl rfl hrun9 ?_
    refine hK.out _ _ hH9 ?_
    clear hK K
    change wpAnyH _ _ _ _ _ _ _ (Act.put _ (some 9) _) _
    (simp only [Act.put]; (try simp only [List.setIfInBounds_toArray]); (try simp only [List.set_cons_succ]); (try simp only [List.set_cons_zero]))
    refine wpAnyH_only (i := 7) (by kernel_rfl) rfl (fun K hK => ?_)
    rw [if_pos (by rfl)]
    go_simp
    refine (refLinks_any q9 k9 c9 (ids ++ [c.root]) (by have := HL.out; rw [← hk9, List.length_append]; simp; omega) y9 (ho9.ids hk9 HAll.out)).mono ?_
    rintro e y10 ⟨q10, n10, c10, rfl, hI10, hb10⟩
    have hH10 : Below wa.heap.size wa y10 := hH9.trans (hb10.mono hH9.size)
    refine hK.out _ _ hH10 ?_
    clear hK K hHeld
    have hHeld := hH10
    refine wpAnyH_takesAt 8 1 0 (of_decide_eq_true (by kernel_rfl)) rfl (fun _ _ _ d _ h => by cases d <;> exact h) (by kernel_rfl) (by kernel_rfl) hHeld ?_
    simp only [List.drop_succ_cons, List.drop_zero, List.take_succ_cons, List.take_zero]
    iterate 1 (refine wpHeld_step (v := ?_) (by rfl) (fun wz hSw => ?_) ?_; rotate_left; (focus ((try dsimp only at hSw); go_simp; try with_reducible rfl)); ((simp only [Act.put]; (try simp only [List.setIfInBounds_toArray]); (try simp only [List.set_cons_succ]); (try simp only [List.set_cons_zero]))))
    refine wpHeld_nil ?_
    refine wpAnyH_done (by kernel_rfl) ?_ _
    go_wp2
    go_ret
    exact ⟨q10, n10, c10, rfl, hI10.1, HBA.out.trans (hH10.mono HBA.out.size)⟩

/-- Put, in one form. -/
theorem put_any (p : Option Addr) (len cap : Nat) (ids : List (List Nat)) (c : Cmt) (hok : c.ok) (hlen : len ≤ 100000) (w : World) (hI : IsIds w.heap.size w p len cap ids) :
    Calls Try.prog 9 #[.agg (cmtC (.slice p len cap) c).toArray] w fun e w' => ∃ v, e = .returned (.tuple #[v, .int .i64 (if mayC ids c = true then 0 else 120)]) ∧ Own w.heap.size w' v (if mayC ids c = true then encC ids c else []) ∧ Below w.heap.size w w' := by
  cases hm : mayC ids c with
  | true => exact put_some p len cap ids c hok hlen hm w hI
  | false =>
    refine (put_none p len cap ids c hok hlen hm w hI).mono ?_
    rintro e w' ⟨rfl, hb⟩
    exact ⟨_, rfl, Own.nil _ _, hb⟩
end Go.Proofs.Ytkhhlcjjdkldjaa
