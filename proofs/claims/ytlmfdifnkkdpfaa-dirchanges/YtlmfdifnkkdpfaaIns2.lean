/-
  slices.Insert of one entry: where there is room.
-/
import Derived.Test.YtlmfdifnkkdpfaaIns
namespace Go.Proofs.Ytlmfdifnkkdpfaa
open Go.RowKit Go.Shelf

theorem flatE_take {es : List Ent} (h : ∀ e ∈ es, e.ok) (i : Nat) : (es.flatMap entC).take (i * 100) = (es.take i).flatMap entC := by
  by_cases hi : i ≤ es.length
  · conv => lhs; rw [← List.take_append_drop i es, List.flatMap_append]
    exact List.take_left' (by rw [flatE_length (fun e he => h e (List.mem_of_mem_take he)), List.length_take]; omega)
  · rw [List.take_of_length_le (by rw [flatE_length h]; omega), List.take_of_length_le (by omega)]
theorem flatE_dropI {es : List Ent} (h : ∀ e ∈ es, e.ok) {i : Nat} (hi : i ≤ es.length) : (es.flatMap entC).drop (i * 100) = (es.drop i).flatMap entC := by
  conv => lhs; rw [← List.take_append_drop i es, List.flatMap_append]
  exact List.drop_left' (by rw [flatE_length (fun e he => h e (List.mem_of_mem_take he)), List.length_take]; omega)

theorem row_shape {W : World} {b : Nat} {t : TypeId} {c : List Value} (h : Row W b t c) : W.shape? b = some (t, c.length) := by
  unfold World.shape?
  rw [show W.heap[b]? = some (.cells c.toArray t (0, 0)) from h]
  simp
theorem row_isSome {W : World} {b : Nat} {t : TypeId} {c : List Value} (h : Row W b t c) {i : Nat} (hi : i < c.length) : (W.cell? ⟨b, i, none⟩).isSome = true := by
  rw [h.cell (List.getElem?_eq_getElem hi)]; rfl

set_option maxRecDepth 100000 in
set_option maxHeartbeats 1000000 in
theorem ins_room (g n c i vb : Nat) (cur : List Value) (F : List Ent) (x : Ent) (hok : ∀ e ∈ F, e.ok) (hx : x.ok) (hF : F.length = n) (w : World) (hR : Row w g 43 cur) (hcl : cur.length = c * 100) (htk : cur.take (n * 100) = F.flatMap entC) (hRv : Row w vb 43 (entC x)) (hne : vb ≠ g) (hi : i < n) (hroom : n + 1 ≤ c) (hc63 : c ≤ maxLen) :
    Calls Try.prog 54 #[.slice (some ⟨g, 0, none⟩) n c, .int .i64 i, .slice (some ⟨vb, 0, none⟩) 1 1] w fun e w' => e = .returned (.slice (some ⟨g, 0, none⟩) (n + 1) c) ∧ w' = (w.drew.setCells g ((i + 1) * 100) ((F.drop i).flatMap entC)).setCells g (i * 100) (entC x) := by
  have hz2 : ¬ ((i : Int) = (n : Int)) := by omega
  have hc63' : c ≤ 9223372036854775807 := by simpa only [maxLen] using hc63
  have hin : i ≤ n := by omega
  have hb2 : ¬ (c = i + 1) := by omega
  have hb3 : (i : Int) ≤ (n : Int) + 1 := by omega
  have hb4 : ¬ (c = i) := by omega
  have hb1 : (0 : Int) ≤ (i : Int) + 1 := by omega
  have hb0 : (i : Int) ≤ (n : Int) := by omega
  have htn : ((i : Int) + 1).toNat = i + 1 := by omega
  have hw1 : IntKind.i64.wrap ((i : Int) + 1) = (i : Int) + 1 := by rw [IntKind.wrap_i64]; omega
  have hw2 : IntKind.i64.wrap ((n : Int) + 1) = (n : Int) + 1 := by rw [IntKind.wrap_i64]; omega
  have hg3 : ¬ ((c : Int) < (n : Int) + 1) := by omega
  have hov : ∀ lb cb, (callFunc 77 #[.slice (some ⟨vb, 0, none⟩) 1 1, .slice (some ⟨g, (i + 1) * 100, none⟩) lb cb]).run Try.prog w = .ok (.value (.bool false)) w := fun lb cb => by
    rw [run_callFunc_extern Try.func77 (by kernel_rfl) (by kernel_rfl) (by kernel_rfl) (e := Extern.SlicesOverlaps.overlaps #[22, 22] #[4]) (by kernel_rfl),
      Lib.run_overlaps_apart w 22 4 43 Try.underlying22 100 (fun w => by obtain ⟨i0, h1, h2, h3, h4⟩ := info_parts info43; simp [sizeOf, typeInfo, h1, h3]) ⟨vb, 0, none⟩ ⟨g, (i + 1) * 100, none⟩ 1 1 lb cb hne 43 43 (entC x).length cur.length (row_shape hRv) (row_shape hR) (by omega) (hRv.frozen _) (hRv.frozen _)]
    rfl
  have hD : (F.drop i).length = n - i := by rw [List.length_drop, hF]
  have hDo : ∀ e ∈ F.drop i, e.ok := fun e he => hok e (List.mem_of_mem_drop he)
  have HCp1 : ∀ ty dc sc, Hid ((Builtin.copy_ #[22, 22] ty #[.slice (some ⟨g, (i + 1) * 100, none⟩) (n - i) dc, .slice (some ⟨g, i * 100, none⟩) (n + 1 - i) sc]).run Try.prog w.drew = .ok (goInt (n - i : Nat)) (w.drew.setCells g ((i + 1) * 100) ((F.drop i).flatMap entC))) := fun ty dc sc =>
    run_copy_ents w.drew ty g ((i + 1) * 100) (n - i) dc ⟨g, i * 100, none⟩ (n + 1 - i) sc ((F.drop i).flatMap entC) (n - i) (by simp only [Nat.min_def]; split <;> omega) (by rw [flatE_length hDo, hD])
      (fun j v hj => by
        rw [← flatE_dropI hok (by omega), List.getElem?_drop, ← htk, List.getElem?_take] at hj
        split at hj
        · rw [Addr.add_lit]; exact hR.cell hj
        · cases hj)
      (fun j hj => by rw [flatE_length hDo, hD] at hj; exact row_isSome hR (by omega)) (fun j hj => hR.frozen _) (flatE_one _)
  have HR1 : Hid (Row (w.drew.setCells g ((i + 1) * 100) ((F.drop i).flatMap entC)) g 43 (putAt cur ((i + 1) * 100) ((F.drop i).flatMap entC))) := Row.sets _ _ hR.drew
  have HRv1 : Hid (Row (w.drew.setCells g ((i + 1) * 100) ((F.drop i).flatMap entC)) vb 43 (entC x)) := Row.others hne _ _ hRv.drew
  have HL1 : Hid ((putAt cur ((i + 1) * 100) ((F.drop i).flatMap entC)).length = c * 100) := by
    show _ = _
    rw [putAt_eq _ _ _ (by rw [flatE_length hDo, hD]; omega)]; simp [flatE_length hDo, hD]; omega
  generalize putAt cur ((i + 1) * 100) ((F.drop i).flatMap entC) = cur1 at *
  generalize hW1 : w.drew.setCells g ((i + 1) * 100) ((F.drop i).flatMap entC) = W1 at *
  have HCp2 : ∀ ty dc, Hid ((Builtin.copy_ #[22, 22] ty #[.slice (some ⟨g, i * 100, none⟩) (n + 1 - i) dc, .slice (some ⟨vb, 0, none⟩) 1 1]).run Try.prog W1 = .ok (goInt (1 : Nat)) (W1.setCells g (i * 100) (entC x))) := fun ty dc =>
    run_copy_ents W1 ty g (i * 100) (n + 1 - i) dc ⟨vb, 0, none⟩ 1 1 (entC x) 1 (by simp only [Nat.min_def]; split <;> omega) (by rw [entC_length hx])
      (fun j v hj => by rw [Addr.add_lit, Nat.zero_add]; exact HRv1.out.cell hj)
      (fun j hj => by rw [entC_length hx] at hj; exact row_isSome HR1.out (by rw [HL1.out]; omega)) (fun j hj => HR1.out.frozen _) (entC_one x)
  clear hR hRv hc63 hW1 htk hD hDo hok hx hF
  go_enter Try.func54, Try.ntmps54
  go_wp2_with (simp only [hov])
  refine wp_region_held_drew (S := fun _ => True) (by kernel_rfl) trivial (fun hHeld => ?_)
  refine wpAnyH_takesAt 0 8 1 (of_decide_eq_true (by kernel_rfl)) rfl (fun _ _ _ d _ h => by cases d <;> exact h) (by kernel_rfl) (by kernel_rfl) hHeld ?_
  simp only [List.drop_zero, List.take_succ_cons, List.take_zero]
  iterate 8 (refine wpHeld_step (v := ?_) (by rfl) (fun wz hSw => ?_) ?_; rotate_left; (focus ((try dsimp only at hSw); go_simp; try with_reducible rfl)); (simp only [Act.put, List.setIfInBounds_toArray, List.set_cons_zero, List.set_cons_succ]))
  refine wpHeld_nil ?_
  refine wpAnyH_only (i := 8) (by kernel_rfl) rfl (fun K hK => ?_)
  rw [if_pos (by rfl)]
  refine wp_copy_runI _ (.tmp 73) (.tmp 76) 22 22 rfl _ _ rfl rfl (HCp1 _ _ _).out (hK.out _ _ trivial ?_)
  clear hK K
  change wpAnyH _ _ _ _ _ _ _ (Act.put _ (some 77) _) _
  (simp only [Act.put]; (try simp only [List.setIfInBounds_toArray]); (try simp only [List.set_cons_succ]); (try simp only [List.set_cons_zero]))
  refine wpAnyH_done (by kernel_rfl) ?_ _
  clear hHeld
  have hcp2 : ∀ dc, (Builtin.copy_ #[22, 22] 3 #[.slice (some ⟨g, i * 100, none⟩) (n + 1 - i) dc, .slice (some ⟨vb, 0, none⟩) 1 1]).run Try.prog W1 = .ok (goInt (1 : Nat)) (W1.setCells g (i * 100) (entC x)) := fun dc => (HCp2 3 dc).out
  go_wp2_with (simp only [hcp2])
  go_ret
  exact ⟨rfl, rfl⟩
end Go.Proofs.Ytlmfdifnkkdpfaa
