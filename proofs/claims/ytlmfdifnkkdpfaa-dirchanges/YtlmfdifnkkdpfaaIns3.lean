/-
  slices.Insert of one entry: where there is no room.
-/
import Derived.Test.YtlmfdifnkkdpfaaIns2
namespace Go.Proofs.Ytlmfdifnkkdpfaa
open Go.RowKit Go.Shelf

theorem zero43_cells (k : Nat) : (Builtin.zeroCells (Value.agg Try.zeroCells43).cells k).size = k * 100 := by
  simp [Builtin.zeroCells, Value.cells]

set_option maxRecDepth 100000 in
set_option maxHeartbeats 1000000 in
theorem ins_grow (g n c i vb : Nat) (cur : List Value) (F : List Ent) (x : Ent) (hok : ∀ e ∈ F, e.ok) (hx : x.ok) (hF : F.length = n) (w : World) (hR : Row w g 43 cur) (hcl : cur.length = c * 100) (htk : cur.take (n * 100) = F.flatMap entC) (hRv : Row w vb 43 (entC x)) (hi : i < n) (hnc : n ≤ c) (hroom : c < n + 1) (hn : n ≤ 100000) :
    Calls Try.prog 54 #[.slice (some ⟨g, 0, none⟩) n c, .int .i64 i, .slice (some ⟨vb, 0, none⟩) 1 1] w fun e w' => ∃ G cur', e = .returned (.slice (some ⟨w.heap.size, 0, none⟩) (n + 1) G) ∧ n + 1 ≤ G ∧ G ≤ maxLen ∧ Row w' w.heap.size 43 cur' ∧ cur'.length = G * 100 ∧ cur'.take ((n + 1) * 100) = (insE F i x).flatMap entC ∧ Below w.heap.size w w' := by
  have hz2 : ¬ ((i : Int) = (n : Int)) := by omega
  have hin : i ≤ n := by omega
  have hb3 : (i : Int) ≤ (n : Int) + 1 := by omega
  have hci : ¬ (c = i) := by omega
  have hb1 : (0 : Int) ≤ (i : Int) + 1 := by omega
  have hb0 : (i : Int) ≤ (n : Int) := by omega
  have htn : ((i : Int) + 1).toNat = i + 1 := by omega
  have hw1 : IntKind.i64.wrap ((i : Int) + 1) = (i : Int) + 1 := by rw [IntKind.wrap_i64]; omega
  have hw2 : IntKind.i64.wrap ((n : Int) + 1) = (n : Int) + 1 := by rw [IntKind.wrap_i64]; omega
  have hg3 : (c : Int) < (n : Int) + 1 := by omega
  have hgw := hR.lt
  have hvw := hRv.lt
  have hT : (F.take i).length = i := by rw [List.length_take, hF]; omega
  have hTo : ∀ e ∈ F.take i, e.ok := fun e he => hok e (List.mem_of_mem_take he)
  have hD : (F.drop i).length = n - i := by rw [List.length_drop, hF]
  have hDo : ∀ e ∈ F.drop i, e.ok := fun e he => hok e (List.mem_of_mem_drop he)
  obtain ⟨i0, hi0, hz0, hzs, hzb⟩ := info_parts info43
  have hold : (Builtin.firstCells i0.size i (.slice (some ⟨g, 0, none⟩) i c)).run Try.prog w.drew = .ok ((F.take i).flatMap entC).toArray w.drew := by
    rw [hzs]
    exact run_firstCells_some w.drew 100 i ⟨g, 0, none⟩ i c ((F.take i).flatMap entC) (by rw [flatE_length hTo, hT]) (fun j v hj => by
      rw [Addr.add_lit, Nat.zero_add]
      rw [← flatE_take hok, ← htk, List.getElem?_take] at hj
      split at hj
      · rw [List.getElem?_take] at hj
        split at hj
        · exact hR.cell hj
        · cases hj
      · cases hj)
  have hik : i + (n + 1 - i) = n + 1 := by omega
  have hkk : (n : Int) + 1 - (i : Int) = ((n + 1 - i : Nat) : Int) := by omega
  obtain ⟨G, hG⟩ : ∃ G, G = grownCap w (n + 1) c 43 := ⟨_, rfl⟩
  have hGn : n + 1 ≤ G := by rw [hG]; exact grownCap_ge w _ _ _
  have hGm : G ≤ maxLen := by rw [hG]; exact grownCap_le_maxLen w (n + 1) c 43 (by unfold maxLen; omega)
  have hG63 : G ≤ 9223372036854775807 := by simpa only [maxLen] using hGm
  obtain ⟨ROW, hROW⟩ : ∃ ROW : Array Value, ROW = ((F.take i).flatMap entC).toArray ++ Builtin.zeroCells (Value.agg Try.zeroCells43).cells (n + 1 - i) ++ Builtin.zeroCells (Value.agg Try.zeroCells43).cells (G - (n + 1)) := ⟨_, rfl⟩
  have hRl : ROW.toList.length = G * 100 := by
    rw [hROW, Array.length_toList, Array.size_append, Array.size_append, zero43_cells, zero43_cells, List.size_toArray, flatE_length hTo, hT]
    omega
  have hRt : ROW.toList.take (i * 100) = (F.take i).flatMap entC := by
    rw [hROW, Array.toList_append, Array.toList_append, List.append_assoc]
    exact List.take_left' (by rw [flatE_length hTo, hT])
  have HRz : Hid ((Builtin.append_ #[22, 3] 22 #[.slice (some ⟨g, 0, none⟩) i c, .int .i64 ((n : Int) + 1 - (i : Int))]).run Try.prog w = .ok (.slice (some ⟨w.heap.size, 0, none⟩) (n + 1) G) (w.drew.alloc (.cells ROW 43))) := by
    have h := Lib.run_append_grow_zeros (P := Try.prog) w 22 3 22 43 i0 _ .i64 .i64 Try.underlying22 Try.underlying3 hi0 hz0 (some ⟨g, 0, none⟩) i c ((F.take i).flatMap entC) hold (n + 1 - i) (by omega) (by omega) (by omega) (by omega) (by rw [hzb]; omega) (by rw [hzb, hik]; exact growslice_fits hroom (by omega))
    rw [hik, ← hG, ← hROW] at h
    show _ = _
    rw [hkk]
    exact h
  have HR1 : Hid (Row (w.drew.alloc (.cells ROW 43)) w.heap.size 43 ROW.toList) := Row.new w.drew 43 ROW
  have HRg1 : Hid (Row (w.drew.alloc (.cells ROW 43)) g 43 cur) := hR.drew.alloc _
  have HRv1 : Hid (Row (w.drew.alloc (.cells ROW 43)) vb 43 (entC x)) := hRv.drew.alloc _
  have HB1 : Hid (Below w.heap.size w (w.drew.alloc (.cells ROW 43))) := (Below.refl _ w).drew.alloc (Nat.le_refl _) _
  clear hROW hold hG
  generalize w.drew.alloc (.cells ROW 43) = W1 at *
  have HCp1 : ∀ dc, Hid ((Builtin.copy_ #[22, 22] 3 #[.slice (some ⟨w.heap.size, i * 100, none⟩) (n + 1 - i) dc, .slice (some ⟨vb, 0, none⟩) 1 1]).run Try.prog W1 = .ok (goInt (1 : Nat)) (W1.setCells w.heap.size (i * 100) (entC x))) := fun dc =>
    run_copy_ents W1 3 w.heap.size (i * 100) (n + 1 - i) dc ⟨vb, 0, none⟩ 1 1 (entC x) 1 (by simp only [Nat.min_def]; split <;> omega) (by rw [entC_length hx])
      (fun j v hj => by rw [Addr.add_lit, Nat.zero_add]; exact HRv1.out.cell hj)
      (fun j hj => by rw [entC_length hx] at hj; exact row_isSome HR1.out (by rw [hRl]; omega)) (fun j hj => HR1.out.frozen _) (entC_one x)
  have HR2 : Hid (Row (W1.setCells w.heap.size (i * 100) (entC x)).drew w.heap.size 43 (putAt ROW.toList (i * 100) (entC x))) := (Row.sets _ _ HR1.out).drew
  have HRg2 : Hid (Row (W1.setCells w.heap.size (i * 100) (entC x)).drew g 43 cur) := (Row.others (by omega) _ _ HRg1.out).drew
  have HB2 : Hid (Below w.heap.size w (W1.setCells w.heap.size (i * 100) (entC x)).drew) := (below_setCells (Nat.le_refl _) _ _ HB1.out).drew
  generalize hW2 : W1.setCells w.heap.size (i * 100) (entC x) = W2 at *
  have HL2 : Hid ((putAt ROW.toList (i * 100) (entC x)).length = G * 100) := by
    show _ = _
    rw [putAt_eq _ _ _ (by rw [entC_length hx, hRl]; omega)]; simp [entC_length hx, hRl]; omega
  have HCp2 : ∀ ty dc sc, Hid ((Builtin.copy_ #[22, 22] ty #[.slice (some ⟨w.heap.size, (i + 1) * 100, none⟩) (n - i) dc, .slice (some ⟨g, i * 100, none⟩) (n - i) sc]).run Try.prog W2.drew = .ok (goInt (n - i : Nat)) (W2.drew.setCells w.heap.size ((i + 1) * 100) ((F.drop i).flatMap entC))) := fun ty dc sc =>
    run_copy_ents W2.drew ty w.heap.size ((i + 1) * 100) (n - i) dc ⟨g, i * 100, none⟩ (n - i) sc ((F.drop i).flatMap entC) (n - i) (by simp) (by rw [flatE_length hDo, hD])
      (fun j v hj => by
        rw [← flatE_dropI hok (by omega), List.getElem?_drop, ← htk, List.getElem?_take] at hj
        split at hj
        · rw [Addr.add_lit]; exact HRg2.out.cell hj
        · cases hj)
      (fun j hj => by rw [flatE_length hDo, hD] at hj; exact row_isSome HR2.out (by rw [HL2.out]; omega)) (fun j hj => HR2.out.frozen _) (flatE_one _)
  have hins := ins_row2 ROW.toList ((F.take i).flatMap entC) (entC x) ((F.drop i).flatMap entC) (by rw [flatE_length hTo, hT]; exact hRt) (by rw [flatE_length hTo, hT, entC_length hx, flatE_length hDo, hD, hRl]; omega)
  rw [flatE_length hTo, hT, entC_length hx, flatE_length hDo, hD, hRl, show i * 100 + 100 = (i + 1) * 100 by omega, show (i + 1) * 100 + (n - i) * 100 = (n + 1) * 100 by omega] at hins
  have HIns : Hid (_ ∧ _) := hins
  have HEnd : Hid ((insE F i x).flatMap entC = (F.take i).flatMap entC ++ (entC x ++ (F.drop i).flatMap entC)) := by show _ = _; simp [insE]
  have hGi : ¬ (G = i) := by omega
  have hGi1 : ¬ (G = i + 1) := by omega
  have hcp1 := fun dc => (HCp1 dc).out
  clear hins hW2 hRl hRt htk hok hx hF hT hTo hD hDo hR hRv hkk hik
  go_enter Try.func54, Try.ntmps54
  go_wp2_with (first | (at_builtin; refine Lib.wpList_append_run _ rfl _ _ _ _ rfl _ _ rfl rfl _ _ HRz.out ?_) | simp only [hcp1])
  refine wp_region_held_drew (S := fun _ => True) (by kernel_rfl) trivial (fun hHeld => ?_)
  refine wpAnyH_takesAt 0 8 1 (of_decide_eq_true (by kernel_rfl)) rfl (fun _ _ _ d _ h => by cases d <;> exact h) (by kernel_rfl) (by kernel_rfl) hHeld ?_
  simp only [List.drop_zero, List.take_succ_cons, List.take_zero]
  iterate 8 (refine wpHeld_step (v := ?_) (by rfl) (fun wz hSw => ?_) ?_; rotate_left; (focus ((try dsimp only at hSw); go_simp; try with_reducible rfl)); (simp only [Act.put, List.setIfInBounds_toArray, List.set_cons_zero, List.set_cons_succ]))
  refine wpHeld_nil ?_
  refine wpAnyH_only (i := 8) (by kernel_rfl) rfl (fun K hK => ?_)
  rw [if_pos (by rfl)]
  refine wp_copy_runI _ (.tmp 50) (.tmp 53) 22 22 rfl _ _ rfl rfl (HCp2 _ _ _).out (hK.out _ _ trivial ?_)
  clear hK K
  change wpAnyH _ _ _ _ _ _ _ (Act.put _ (some 54) _) _
  (simp only [Act.put]; (try simp only [List.setIfInBounds_toArray]); (try simp only [List.set_cons_succ]); (try simp only [List.set_cons_zero]))
  refine wpAnyH_done (by kernel_rfl) ?_ _
  clear hHeld
  go_wp2
  go_ret
  refine ⟨G, _, rfl, hGn, hGm, Row.sets _ _ HR2.out, HIns.out.2, ?_, below_setCells (Nat.le_refl _) _ _ HB2.out⟩
  rw [HEnd.out]
  exact HIns.out.1
end Go.Proofs.Ytlmfdifnkkdpfaa
