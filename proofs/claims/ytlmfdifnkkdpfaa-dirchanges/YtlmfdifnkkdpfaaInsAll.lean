/-
  Several texts in one: Ins, Ins2, Ins3, Ins4.
-/
import Derived.Test.YtlmfdifnkkdpfaaClAll
import Derived.Shelf.Spec.SlicesInsertGrow
/-
  slices.Insert of one entry.
-/
namespace Go.Proofs.Ytlmfdifnkkdpfaa
open Go.RowKit Go.Shelf

/-- copy of entries: all is read before anything is written. -/
theorem run_copy_ents (w : World) (ty : TypeId) (b o dLen dCap : Nat) (a : Addr) (sLen sCap : Nat) (cs : List Value) (m : Nat) (hm : m = Nat.min sLen dLen) (hn : cs.length = m * 100)
    (hsrc : ∀ j v, cs[j]? = some v → w.cell? (a.add j) = some v) (hc : ∀ j, j < cs.length → (w.cell? ⟨b, o + j, none⟩).isSome = true) (hf : ∀ j, j < cs.length → w.frozen? ⟨b, o + j, none⟩ = false) (h1 : ∀ v ∈ cs, v.oneCell' = true) :
    (Builtin.copy_ #[22, 22] ty #[.slice (some ⟨b, o, none⟩) dLen dCap, .slice (some a) sLen sCap]).run Try.prog w = .ok (goInt m) (w.setCells b o cs) := by
  have hl := run_loadCells_list (P := Try.prog) w a cs hsrc
  have hst := run_storeCells_cells (P := Try.prog) b o cs 0 w (by simpa using hc) (by simpa using hf) h1
  obtain ⟨i0, hq, hz0, hz1, hz2⟩ := info_parts info43
  have hmm : Nat.min sLen dLen * 100 = cs.length := by rw [hn, hm]
  simp [Builtin.copy_, run_underlying Try.underlying22, Builtin.lenOf, Builtin.firstCells, sizeOf, typeInfo, hq, hz1, hmm, hl, hst, hm]

theorem ins_row1 (cur P X D : List Value) (hP : cur.take P.length = P) (hl : P.length + X.length + D.length ≤ cur.length) :
    (putAt (putAt cur (P.length + X.length) D) P.length X).take (P.length + X.length + D.length) = P ++ (X ++ D) ∧ (putAt (putAt cur (P.length + X.length) D) P.length X).length = cur.length := by
  have e1 : putAt cur (P.length + X.length) D = cur.take (P.length + X.length) ++ D ++ cur.drop (P.length + X.length + D.length) := putAt_eq D cur _ (by omega)
  have hl1 : (putAt cur (P.length + X.length) D).length = cur.length := by rw [e1]; simp; omega
  rw [putAt_eq X _ _ (by rw [hl1]; omega)]
  have t1 : (putAt cur (P.length + X.length) D).take P.length = P := by
    rw [e1, List.append_assoc, List.take_append_of_le_length (by simp; omega), List.take_take, Nat.min_eq_left (by omega), hP]
  have t2 : (putAt cur (P.length + X.length) D).drop (P.length + X.length) = D ++ cur.drop (P.length + X.length + D.length) := by
    rw [e1, List.append_assoc, List.drop_left' (by simp; omega)]
  rw [t1, t2]
  refine ⟨?_, by simp; omega⟩
  rw [show P ++ X ++ (D ++ cur.drop (P.length + X.length + D.length)) = P ++ (X ++ D) ++ cur.drop (P.length + X.length + D.length) by simp]
  exact List.take_left' (by simp; omega)
theorem ins_row2 (cur P X D : List Value) (hP : cur.take P.length = P) (hl : P.length + X.length + D.length ≤ cur.length) :
    (putAt (putAt cur P.length X) (P.length + X.length) D).take (P.length + X.length + D.length) = P ++ (X ++ D) ∧ (putAt (putAt cur P.length X) (P.length + X.length) D).length = cur.length := by
  have e1 : putAt cur P.length X = P ++ X ++ cur.drop (P.length + X.length) := by rw [putAt_eq X cur _ (by omega), hP]
  have hl1 : (putAt cur P.length X).length = cur.length := by rw [e1]; simp; omega
  rw [putAt_eq D _ _ (by rw [hl1]; omega)]
  have t1 : (putAt cur P.length X).take (P.length + X.length) = P ++ X := by rw [e1]; exact List.take_left' (by simp)
  rw [t1]
  refine ⟨?_, by rw [List.length_append, List.length_append, List.length_drop, hl1]; simp; omega⟩
  rw [← List.append_assoc P X D]
  exact List.take_left' (by simp; omega)
theorem flatE_length {es : List Ent} (h : ∀ e ∈ es, e.ok) : (es.flatMap entC).length = es.length * 100 := by
  induction es with
  | nil => rfl
  | cons a r ih =>
    rw [List.flatMap_cons, List.length_append, entC_length (h a List.mem_cons_self), ih (fun e he => h e (List.mem_cons_of_mem _ he)), List.length_cons]
    omega
theorem flatE_one (es : List Ent) : ∀ v ∈ es.flatMap entC, v.oneCell' = true := fun v hv => by
  obtain ⟨e, _, h⟩ := List.mem_flatMap.1 hv
  exact entC_one e v h
/-- Entry x put in at place i. -/
def insE (F : List Ent) (i : Nat) (x : Ent) : List Ent := F.take i ++ x :: F.drop i
end Go.Proofs.Ytlmfdifnkkdpfaa
/-
  slices.Insert of one entry: where there is room.
-/
namespace Go.Proofs.Ytlmfdifnkkdpfaa
open Go.RowKit Go.Shelf

theorem flatE_take {es : List Ent} (h : ∀ e ∈ es, e.ok) (i : Nat) : (es.flatMap entC).take (i * 100) = (es.take i).flatMap entC := by
  by_cases hi : i ≤ es.length
  · conv => lhs; rw [← List.take_append_drop i es, List.flatMap_append]
    exact List.take_left' (by rw [flatE_length (fun e he => h e (List.mem_of_mem_take he)), List.length_take]; omega)
  · rw [List.take_of_length_le (by rw [flatE_length h]; omega), List.take_of_length_le (by omega)]
theorem flatE_dropI {es : List Ent} (h : ∀ e ∈ es, e.ok) {i : Nat} (hi : i ≤ es.length) : (es.flatMap entC).drop (i * 100) = (es.drop i).flatMap entC := by
  conv => lhs; rw [← List.take_append_drop i es, List.flatMap_append]
  exact List.drop_left' (by rw [flatE_length (fun e he => h e (List.mem_of_mem_take he)), List.length_take]; omega)

theorem row_shape {W : World} {b : Nat} {t : TypeId} {c : List Value} (h : Row W b t c) : W.shape? b = some (t, c.length) := by
  unfold World.shape?
  rw [show W.heap[b]? = some (.cells c.toArray t (0, 0)) from h]
  simp
theorem row_isSome {W : World} {b : Nat} {t : TypeId} {c : List Value} (h : Row W b t c) {i : Nat} (hi : i < c.length) : (W.cell? ⟨b, i, none⟩).isSome = true := by
  rw [h.cell (List.getElem?_eq_getElem hi)]; rfl

set_option maxRecDepth 100000 in
set_option maxHeartbeats 1000000 in
theorem ins_room (g n c i vb : Nat) (cur : List Value) (F : List Ent) (x : Ent) (hok : ∀ e ∈ F, e.ok) (hx : x.ok) (hF : F.length = n) (w : World) (hR : Row w g 43 cur) (hcl : cur.length = c * 100) (htk : cur.take (n * 100) = F.flatMap entC) (hRv : Row w vb 43 (entC x)) (hne : vb ≠ g) (hi : i < n) (hroom : n + 1 ≤ c) (hc63 : c ≤ maxLen) :
    Calls Try.prog 54 #[.slice (some ⟨g, 0, none⟩) n c, .int .i64 i, .slice (some ⟨vb, 0, none⟩) 1 1] w fun e w' => e = .returned (.slice (some ⟨g, 0, none⟩) (n + 1) c) ∧ w' = (w.drew.setCells g ((i + 1) * 100) ((F.drop i).flatMap entC)).setCells g (i * 100) (entC x) := by
  have hz2 : ¬ ((i : Int) = (n : Int)) := by omega
  have hc63' : c ≤ 9223372036854775807 := by simpa only [maxLen] using hc63
  have hin : i ≤ n := by omega
  have hb2 : ¬ (c = i + 1) := by omega
  have hb3 : (i : Int) ≤ (n : Int) + 1 := by omega
  have hb4 : ¬ (c = i) := by omega
  have hb1 : (0 : Int) ≤ (i : Int) + 1 := by omega
  have hb0 : (i : Int) ≤ (n : Int) := by omega
  have htn : ((i : Int) + 1).toNat = i + 1 := by omega
  have hw1 : IntKind.i64.wrap ((i : Int) + 1) = (i : Int) + 1 := by rw [IntKind.wrap_i64]; omega
  have hw2 : IntKind.i64.wrap ((n : Int) + 1) = (n : Int) + 1 := by rw [IntKind.wrap_i64]; omega
  have hg3 : ¬ ((c : Int) < (n : Int) + 1) := by omega
  have hov : ∀ lb cb, (callFunc 77 #[.slice (some ⟨vb, 0, none⟩) 1 1, .slice (some ⟨g, (i + 1) * 100, none⟩) lb cb]).run Try.prog w = .ok (.value (.bool false)) w := fun lb cb => by
    rw [run_callFunc_extern Try.func77 (by kernel_rfl) (by kernel_rfl) (by kernel_rfl) (e := Extern.SlicesOverlaps.overlaps #[22, 22] #[4]) (by kernel_rfl),
      Lib.run_overlaps_apart w 22 4 43 Try.underlying22 100 (fun w => by obtain ⟨i0, h1, h2, h3, h4⟩ := info_parts info43; simp [sizeOf, typeInfo, h1, h3]) ⟨vb, 0, none⟩ ⟨g, (i + 1) * 100, none⟩ 1 1 lb cb hne 43 43 (entC x).length cur.length (row_shape hRv) (row_shape hR) (by omega) (hRv.frozen _) (hRv.frozen _)]
    rfl
  have hD : (F.drop i).length = n - i := by rw [List.length_drop, hF]
  have hDo : ∀ e ∈ F.drop i, e.ok := fun e he => hok e (List.mem_of_mem_drop he)
  have HCp1 : ∀ ty dc sc, Hid ((Builtin.copy_ #[22, 22] ty #[.slice (some ⟨g, (i + 1) * 100, none⟩) (n - i) dc, .slice (some ⟨g, i * 100, none⟩) (n + 1 - i) sc]).run Try.prog w.drew = .ok (goInt (n - i : Nat)) (w.drew.setCells g ((i + 1) * 100) ((F.drop i).flatMap entC))) := fun ty dc sc =>
    run_copy_ents w.drew ty g ((i + 1) * 100) (n - i) dc ⟨g, i * 100, none⟩ (n + 1 - i) sc ((F.drop i).flatMap entC) (n - i) (by simp only [Nat.min_def]; split <;> omega) (by rw [flatE_length hDo, hD])
      (fun j v hj => by
        rw [← flatE_dropI hok (by omega), List.getElem?_drop, ← htk, List.getElem?_take] at hj
        split at hj
        · rw [Addr.add_lit]; exact hR.cell hj
        · cases hj)
      (fun j hj => by rw [flatE_length hDo, hD] at hj; exact row_isSome hR (by omega)) (fun j hj => hR.frozen _) (flatE_one _)
  have HR1 : Hid (Row (w.drew.setCells g ((i + 1) * 100) ((F.drop i).flatMap entC)) g 43 (putAt cur ((i + 1) * 100) ((F.drop i).flatMap entC))) := Row.sets _ _ hR.drew
  have HRv1 : Hid (Row (w.drew.setCells g ((i + 1) * 100) ((F.drop i).flatMap entC)) vb 43 (entC x)) := Row.others hne _ _ hRv.drew
  have HL1 : Hid ((putAt cur ((i + 1) * 100) ((F.drop i).flatMap entC)).length = c * 100) := by
    show _ = _
    rw [putAt_eq _ _ _ (by rw [flatE_length hDo, hD]; omega)]; simp [flatE_length hDo, hD]; omega
  generalize putAt cur ((i + 1) * 100) ((F.drop i).flatMap entC) = cur1 at *
  generalize hW1 : w.drew.setCells g ((i + 1) * 100) ((F.drop i).flatMap entC) = W1 at *
  have HCp2 : ∀ ty dc, Hid ((Builtin.copy_ #[22, 22] ty #[.slice (some ⟨g, i * 100, none⟩) (n + 1 - i) dc, .slice (some ⟨vb, 0, none⟩) 1 1]).run Try.prog W1 = .ok (goInt (1 : Nat)) (W1.setCells g (i * 100) (entC x))) := fun ty dc =>
    run_copy_ents W1 ty g (i * 100) (n + 1 - i) dc ⟨vb, 0, none⟩ 1 1 (entC x) 1 (by simp only [Nat.min_def]; split <;> omega) (by rw [entC_length hx])
      (fun j v hj => by rw [Addr.add_lit, Nat.zero_add]; exact HRv1.out.cell hj)
      (fun j hj => by rw [entC_length hx] at hj; exact row_isSome HR1.out (by rw [HL1.out]; omega)) (fun j hj => HR1.out.frozen _) (entC_one x)
  clear hR hRv hc63 hW1 htk hD hDo hok hx hF
  go_enter Try.func54, Try.ntmps54
  go_wp2_with (simp only [hov])
  refine wp_region_held_drew (S := fun _ => True) (by kernel_rfl) trivial (fun hHeld => ?_)
  refine wpAnyH_takesAt 0 8 1 (of_decide_eq_true (by kernel_rfl)) rfl (fun _ _ _ d _ h => by cases d <;> exact h) (by kernel_rfl) (by kernel_rfl) hHeld ?_
  simp only [List.drop_zero, List.take_succ_cons, List.take_zero]
  iterate 8 (refine wpHeld_step (v := ?_) (by rfl) (fun wz hSw => ?_) ?_; rotate_left; (focus ((try dsimp only at hSw); go_simp; try with_reducible rfl)); (simp only [Act.put, List.setIfInBounds_toArray, List.set_cons_zero, List.set_cons_succ]))
  refine wpHeld_nil ?_
  refine wpAnyH_only (i := 8) (by kernel_rfl) rfl (fun K hK => ?_)
  rw [if_pos (by rfl)]
  refine wp_copy_runI _ (.tmp 73) (.tmp 76) 22 22 rfl _ _ rfl rfl (HCp1 _ _ _).out (hK.out _ _ trivial ?_)
  clear hK K
  change wpAnyH _ _ _ _ _ _ _ (Act.put _ (some 77) _) _
  (simp only [Act.put]; (try simp only [List.setIfInBounds_toArray]); (try simp only [List.set_cons_succ]); (try simp only [List.set_cons_zero]))
  refine wpAnyH_done (by kernel_rfl) ?_ _
  clear hHeld
  have hcp2 : ∀ dc, (Builtin.copy_ #[22, 22] 3 #[.slice (some ⟨g, i * 100, none⟩) (n + 1 - i) dc, .slice (some ⟨vb, 0, none⟩) 1 1]).run Try.prog W1 = .ok (goInt (1 : Nat)) (W1.setCells g (i * 100) (entC x)) := fun dc => (HCp2 3 dc).out
  go_wp2_with (simp only [hcp2])
  go_ret
  exact ⟨rfl, rfl⟩
end Go.Proofs.Ytlmfdifnkkdpfaa
/-
  slices.Insert of one entry: where there is no room.
-/
namespace Go.Proofs.Ytlmfdifnkkdpfaa
open Go.RowKit Go.Shelf

theorem zero43_cells (k : Nat) : (Builtin.zeroCells (Value.agg Try.zeroCells43).cells k).size = k * 100 := by
  simp [Builtin.zeroCells, Value.cells]

set_option maxRecDepth 100000 in
set_option maxHeartbeats 1000000 in
theorem ins_grow (g n c i vb : Nat) (cur : List Value) (F : List Ent) (x : Ent) (hok : ∀ e ∈ F, e.ok) (hx : x.ok) (hF : F.length = n) (w : World) (hR : Row w g 43 cur) (hcl : cur.length = c * 100) (htk : cur.take (n * 100) = F.flatMap entC) (hRv : Row w vb 43 (entC x)) (hi : i < n) (hnc : n ≤ c) (hroom : c < n + 1) (hn : n ≤ 100000) :
    Calls Try.prog 54 #[.slice (some ⟨g, 0, none⟩) n c, .int .i64 i, .slice (some ⟨vb, 0, none⟩) 1 1] w fun e w' => ∃ G cur', e = .returned (.slice (some ⟨w.heap.size, 0, none⟩) (n + 1) G) ∧ n + 1 ≤ G ∧ G ≤ maxLen ∧ Row w' w.heap.size 43 cur' ∧ cur'.length = G * 100 ∧ cur'.take ((n + 1) * 100) = (insE F i x).flatMap entC ∧ Below w.heap.size w w' := by
  have hz2 : ¬ ((i : Int) = (n : Int)) := by omega
  have hin : i ≤ n := by omega
  have hb3 : (i : Int) ≤ (n : Int) + 1 := by omega
  have hci : ¬ (c = i) := by omega
  have hb1 : (0 : Int) ≤ (i : Int) + 1 := by omega
  have hb0 : (i : Int) ≤ (n : Int) := by omega
  have htn : ((i : Int) + 1).toNat = i + 1 := by omega
  have hw1 : IntKind.i64.wrap ((i : Int) + 1) = (i : Int) + 1 := by rw [IntKind.wrap_i64]; omega
  have hw2 : IntKind.i64.wrap ((n : Int) + 1) = (n : Int) + 1 := by rw [IntKind.wrap_i64]; omega
  have hg3 : (c : Int) < (n : Int) + 1 := by omega
  have hgw := hR.lt
  have hvw := hRv.lt
  have hT : (F.take i).length = i := by rw [List.length_take, hF]; omega
  have hTo : ∀ e ∈ F.take i, e.ok := fun e he => hok e (List.mem_of_mem_take he)
  have hD : (F.drop i).length = n - i := by rw [List.length_drop, hF]
  have hDo : ∀ e ∈ F.drop i, e.ok := fun e he => hok e (List.mem_of_mem_drop he)
  obtain ⟨i0, hi0, hz0, hzs, hzb⟩ := info_parts info43
  have hold : (Builtin.firstCells i0.size i (.slice (some ⟨g, 0, none⟩) i c)).run Try.prog w.drew = .ok ((F.take i).flatMap entC).toArray w.drew := by
    rw [hzs]
    exact run_firstCells_some w.drew 100 i ⟨g, 0, none⟩ i c ((F.take i).flatMap entC) (by rw [flatE_length hTo, hT]) (fun j v hj => by
      rw [Addr.add_lit, Nat.zero_add]
      rw [← flatE_take hok, ← htk, List.getElem?_take] at hj
      split at hj
      · rw [List.getElem?_take] at hj
        split at hj
        · exact hR.cell hj
        · cases hj
      · cases hj)
  have hik : i + (n + 1 - i) = n + 1 := by omega
  have hkk : (n : Int) + 1 - (i : Int) = ((n + 1 - i : Nat) : Int) := by omega
  obtain ⟨G, hG⟩ : ∃ G, G = grownCap w (n + 1) c 43 := ⟨_, rfl⟩
  have hGn : n + 1 ≤ G := by rw [hG]; exact grownCap_ge w _ _ _
  have hGm : G ≤ maxLen := by rw [hG]; exact grownCap_le_maxLen w (n + 1) c 43 (by unfold maxLen; omega)
  have hG63 : G ≤ 9223372036854775807 := by simpa only [maxLen] using hGm
  obtain ⟨ROW, hROW⟩ : ∃ ROW : Array Value, ROW = ((F.take i).flatMap entC).toArray ++ Builtin.zeroCells (Value.agg Try.zeroCells43).cells (n + 1 - i) ++ Builtin.zeroCells (Value.agg Try.zeroCells43).cells (G - (n + 1)) := ⟨_, rfl⟩
  have hRl : ROW.toList.length = G * 100 := by
    rw [hROW, Array.length_toList, Array.size_append, Array.size_append, zero43_cells, zero43_cells, List.size_toArray, flatE_length hTo, hT]
    omega
  have hRt : ROW.toList.take (i * 100) = (F.take i).flatMap entC := by
    rw [hROW, Array.toList_append, Array.toList_append, List.append_assoc]
    exact List.take_left' (by rw [flatE_length hTo, hT])
  have HRz : Hid ((Builtin.append_ #[22, 3] 22 #[.slice (some ⟨g, 0, none⟩) i c, .int .i64 ((n : Int) + 1 - (i : Int))]).run Try.prog w = .ok (.slice (some ⟨w.heap.size, 0, none⟩) (n + 1) G) (w.drew.alloc (.cells ROW 43))) := by
    have h := Lib.run_append_grow_zeros (P := Try.prog) w 22 3 22 43 i0 _ .i64 .i64 Try.underlying22 Try.underlying3 hi0 hz0 (some ⟨g, 0, none⟩) i c ((F.take i).flatMap entC) hold (n + 1 - i) (by omega) (by omega) (by omega) (by omega) (by rw [hzb]; omega) (by rw [hzb, hik]; exact growslice_fits hroom (by omega))
    rw [hik, ← hG, ← hROW] at h
    show _ = _
    rw [hkk]
    exact h
  have HR1 : Hid (Row (w.drew.alloc (.cells ROW 43)) w.heap.size 43 ROW.toList) := Row.new w.drew 43 ROW
  have HRg1 : Hid (Row (w.drew.alloc (.cells ROW 43)) g 43 cur) := hR.drew.alloc _
  have HRv1 : Hid (Row (w.drew.alloc (.cells ROW 43)) vb 43 (entC x)) := hRv.drew.alloc _
  have HB1 : Hid (Below w.heap.size w (w.drew.alloc (.cells ROW 43))) := (Below.refl _ w).drew.alloc (Nat.le_refl _) _
  clear hROW hold hG
  generalize w.drew.alloc (.cells ROW 43) = W1 at *
  have HCp1 : ∀ dc, Hid ((Builtin.copy_ #[22, 22] 3 #[.slice (some ⟨w.heap.size, i * 100, none⟩) (n + 1 - i) dc, .slice (some ⟨vb, 0, none⟩) 1 1]).run Try.prog W1 = .ok (goInt (1 : Nat)) (W1.setCells w.heap.size (i * 100) (entC x))) := fun dc =>
    run_copy_ents W1 3 w.heap.size (i * 100) (n + 1 - i) dc ⟨vb, 0, none⟩ 1 1 (entC x) 1 (by simp only [Nat.min_def]; split <;> omega) (by rw [entC_length hx])
      (fun j v hj => by rw [Addr.add_lit, Nat.zero_add]; exact HRv1.out.cell hj)
      (fun j hj => by rw [entC_length hx] at hj; exact row_isSome HR1.out (by rw [hRl]; omega)) (fun j hj => HR1.out.frozen _) (entC_one x)
  have HR2 : Hid (Row (W1.setCells w.heap.size (i * 100) (entC x)).drew w.heap.size 43 (putAt ROW.toList (i * 100) (entC x))) := (Row.sets _ _ HR1.out).drew
  have HRg2 : Hid (Row (W1.setCells w.heap.size (i * 100) (entC x)).drew g 43 cur) := (Row.others (by omega) _ _ HRg1.out).drew
  have HB2 : Hid (Below w.heap.size w (W1.setCells w.heap.size (i * 100) (entC x)).drew) := (below_setCells (Nat.le_refl _) _ _ HB1.out).drew
  generalize hW2 : W1.setCells w.heap.size (i * 100) (entC x) = W2 at *
  have HL2 : Hid ((putAt ROW.toList (i * 100) (entC x)).length = G * 100) := by
    show _ = _
    rw [putAt_eq _ _ _ (by rw [entC_length hx, hRl]; omega)]; simp [entC_length hx, hRl]; omega
  have HCp2 : ∀ ty dc sc, Hid ((Builtin.copy_ #[22, 22] ty #[.slice (some ⟨w.heap.size, (i + 1) * 100, none⟩) (n - i) dc, .slice (some ⟨g, i * 100, none⟩) (n - i) sc]).run Try.prog W2.drew = .ok (goInt (n - i : Nat)) (W2.drew.setCells w.heap.size ((i + 1) * 100) ((F.drop i).flatMap entC))) := fun ty dc sc =>
    run_copy_ents W2.drew ty w.heap.size ((i + 1) * 100) (n - i) dc ⟨g, i * 100, none⟩ (n - i) sc ((F.drop i).flatMap entC) (n - i) (by simp) (by rw [flatE_length hDo, hD])
      (fun j v hj => by
        rw [← flatE_dropI hok (by omega), List.getElem?_drop, ← htk, List.getElem?_take] at hj
        split at hj
        · rw [Addr.add_lit]; exact HRg2.out.cell hj
        · cases hj)
      (fun j hj => by rw [flatE_length hDo, hD] at hj; exact row_isSome HR2.out (by rw [HL2.out]; omega)) (fun j hj => HR2.out.frozen _) (flatE_one _)
  have hins := ins_row2 ROW.toList ((F.take i).flatMap entC) (entC x) ((F.drop i).flatMap entC) (by rw [flatE_length hTo, hT]; exact hRt) (by rw [flatE_length hTo, hT, entC_length hx, flatE_length hDo, hD, hRl]; omega)
  rw [flatE_length hTo, hT, entC_length hx, flatE_length hDo, hD, hRl, show i * 100 + 100 = (i + 1) * 100 by omega, show (i + 1) * 100 + (n - i) * 100 = (n + 1) * 100 by omega] at hins
  have HIns : Hid (_ ∧ _) := hins
  have HEnd : Hid ((insE F i x).flatMap entC = (F.take i).flatMap entC ++ (entC x ++ (F.drop i).flatMap entC)) := by show _ = _; simp [insE]
  have hGi : ¬ (G = i) := by omega
  have hGi1 : ¬ (G = i + 1) := by omega
  have hcp1 := fun dc => (HCp1 dc).out
  clear hins hW2 hRl hRt htk hok hx hF hT hTo hD hDo hR hRv hkk hik
  go_enter Try.func54, Try.ntmps54
  go_wp2_with (first | (at_builtin; refine Lib.wpList_append_run _ rfl _ _ _ _ rfl _ _ rfl rfl _ _ HRz.out ?_) | simp only [hcp1])
  refine wp_region_held_drew (S := fun _ => True) (by kernel_rfl) trivial (fun hHeld => ?_)
  refine wpAnyH_takesAt 0 8 1 (of_decide_eq_true (by kernel_rfl)) rfl (fun _ _ _ d _ h => by cases d <;> exact h) (by kernel_rfl) (by kernel_rfl) hHeld ?_
  simp only [List.drop_zero, List.take_succ_cons, List.take_zero]
  iterate 8 (refine wpHeld_step (v := ?_) (by rfl) (fun wz hSw => ?_) ?_; rotate_left; (focus ((try dsimp only at hSw); go_simp; try with_reducible rfl)); (simp only [Act.put, List.setIfInBounds_toArray, List.set_cons_zero, List.set_cons_succ]))
  refine wpHeld_nil ?_
  refine wpAnyH_only (i := 8) (by kernel_rfl) rfl (fun K hK => ?_)
  rw [if_pos (by rfl)]
  refine wp_copy_runI _ (.tmp 50) (.tmp 53) 22 22 rfl _ _ rfl rfl (HCp2 _ _ _).out (hK.out _ _ trivial ?_)
  clear hK K
  change wpAnyH _ _ _ _ _ _ _ (Act.put _ (some 54) _) _
  (simp only [Act.put]; (try simp only [List.setIfInBounds_toArray]); (try simp only [List.set_cons_succ]); (try simp only [List.set_cons_zero]))
  refine wpAnyH_done (by kernel_rfl) ?_ _
  clear hHeld
  go_wp2
  go_ret
  refine ⟨G, _, rfl, hGn, hGm, Row.sets _ _ HR2.out, HIns.out.2, ?_, below_setCells (Nat.le_refl _) _ _ HB2.out⟩
  rw [HEnd.out]
  exact HIns.out.1
end Go.Proofs.Ytlmfdifnkkdpfaa
/-
  slices.Insert of one entry.
-/
namespace Go.Proofs.Ytlmfdifnkkdpfaa
open Go.RowKit Go.Shelf

theorem OwnE.back {W : World} {n₀ : Nat} {q : Option Addr} {l c : Nat} {es : List Ent} (h : OwnE n₀ W (.slice q l c) es) : es.length = l ∧ ((q = none ∧ l = 0 ∧ c = 0) ∨ ∃ g cur, q = some ⟨g, 0, none⟩ ∧ n₀ ≤ g ∧ Row W g 43 cur ∧ l ≤ c ∧ c ≤ maxLen ∧ cur.length = c * 100 ∧ cur.take (l * 100) = es.flatMap entC) := by
  have hl : es.length = l := by obtain ⟨_, _, e⟩ := h.slice; cases e; rfl
  refine ⟨hl, ?_⟩
  unfold OwnE at h
  rw [hl] at h
  rcases h.2 with ⟨e, hz⟩ | ⟨g, c', cur, e, hg, hgg, hnc, hm, hs, ht⟩
  · cases e; exact .inl ⟨rfl, rfl, rfl⟩
  · cases e
    exact .inr ⟨g, cur.toList, rfl, hg, (by unfold Row; rw [Array.toArray_toList]; exact hgg), hnc, hm, by simpa using hs, ht⟩
theorem OwnE.mk {W : World} {n₀ : Nat} {g l c : Nat} {cur : List Value} {es : List Ent} (hl : es.length = l) (hok : ∀ e ∈ es, e.ok) (hg : n₀ ≤ g) (hr : Row W g 43 cur) (hlc : l ≤ c) (hm : c ≤ maxLen) (hs : cur.length = c * 100) (ht : cur.take (l * 100) = es.flatMap entC) : OwnE n₀ W (.slice (some ⟨g, 0, none⟩) l c) es := by
  unfold OwnE
  rw [hl]
  exact ⟨by rw [flatE_length hok, hl], .inr ⟨g, c, cur.toArray, rfl, hg, hr, hlc, hm, by simpa using hs, by simpa using ht⟩⟩
theorem insE_ok {F : List Ent} {i : Nat} {x : Ent} (hok : ∀ e ∈ F, e.ok) (hx : x.ok) : ∀ e ∈ insE F i x, e.ok := fun e he => by
  rw [insE, List.mem_append, List.mem_cons] at he
  rcases he with he | rfl | he
  · exact hok e (List.mem_of_mem_take he)
  · exact hx
  · exact hok e (List.mem_of_mem_drop he)
theorem insE_length {F : List Ent} {i : Nat} (x : Ent) (hi : i ≤ F.length) : (insE F i x).length = F.length + 1 := by
  simp [insE]; omega

set_option maxRecDepth 100000 in
set_option maxHeartbeats 1000000 in
theorem ins_end (base : Nat) (q : Option Addr) (l c : Nat) (F : List Ent) (x : Ent) (w : World) (hO : OwnE base w (.slice q l c) F) (hx : x.ok) (vb : Nat) (hRv : Row w vb 43 (entC x)) (hlen : l ≤ 100000) (hb : base ≤ w.heap.size) :
    Calls Try.prog 54 #[.slice q l c, .int .i64 l, .slice (some ⟨vb, 0, none⟩) 1 1] w fun e w' => ∃ q' l' c', e = .returned (.slice q' l' c') ∧ OwnE base w' (.slice q' l' c') (F ++ [x]) ∧ Below base w w' := by
  have hB := hO.back
  obtain ⟨ue, we, hrune, hoe, hge⟩ := run_append_ent w base 22 (.slice q l c) F hO vb x hx hRv.range (by omega) hb
  obtain ⟨qe, ce, hue⟩ := hoe.slice
  subst hue
  have HOe : Hid (OwnE base we (.slice qe (F ++ [x]).length ce) (F ++ [x])) := hoe
  have HBe : Hid (Below base w we) := (Below.refl base w).grown hge hb (fun j ej => (World.ownsRow.lt hO j ej).1)
  have HRn : Hid ((Builtin.append_ #[22, 22] 22 #[.slice q l c, .slice (some ⟨vb, 0, none⟩) 1 1]).run Try.prog w = .ok (.slice qe (F ++ [x]).length ce) we) := hrune
  clear hrune hoe hge hO hRv hx
  generalize (F ++ [x]).length = le at *
  generalize F ++ [x] = F1 at *
  obtain ⟨_, ⟨rfl, rfl, rfl⟩ | ⟨g, cur, rfl, hg, hr, hlc, hcm, hcl, ht⟩⟩ := hB
  · go_enter Try.func54, Try.ntmps54
    go_wp2_with (at_builtin; refine Lib.wpList_append_run _ rfl _ _ _ _ rfl _ _ rfl rfl _ _ HRn.out ?_)
    go_ret
    exact ⟨_, _, _, rfl, HOe.out, HBe.out⟩
  · have hlc' : (l : Int) ≤ (c : Int) := by omega
    clear hr ht
    have hc63' : c ≤ 9223372036854775807 := by simpa only [maxLen] using hcm
    by_cases hcc : c = l
    · subst hcc
      go_enter Try.func54, Try.ntmps54
      go_wp2_with (at_builtin; refine Lib.wpList_append_run _ rfl _ _ _ _ rfl _ _ rfl rfl _ _ HRn.out ?_)
      go_ret
      exact ⟨_, _, _, rfl, HOe.out, HBe.out⟩
    · go_enter Try.func54, Try.ntmps54
      go_wp2_with (at_builtin; refine Lib.wpList_append_run _ rfl _ _ _ _ rfl _ _ rfl rfl _ _ HRn.out ?_)
      go_ret
      exact ⟨_, _, _, rfl, HOe.out, HBe.out⟩

theorem insert_any (base : Nat) (q : Option Addr) (l c i : Nat) (F : List Ent) (x : Ent) (w : World) (hO : OwnE base w (.slice q l c) F) (hok : ∀ e ∈ F, e.ok) (hx : x.ok) (hi : i ≤ l) (vb : Nat) (hRv : Row w vb 43 (entC x)) (hne : ∀ a, q = some a → vb ≠ a.block) (hlen : l ≤ 100000) (hb : base ≤ w.heap.size) :
    Calls Try.prog 54 #[.slice q l c, .int .i64 i, .slice (some ⟨vb, 0, none⟩) 1 1] w fun e w' => ∃ q' l' c', e = .returned (.slice q' l' c') ∧ OwnE base w' (.slice q' l' c') (insE F i x) ∧ Below base w w' := by
  have hB := hO.back
  by_cases hil : i = l
  · subst hil
    have h := ins_end base q i c F x w hO hx vb hRv hlen hb
    rw [insE, List.take_of_length_le (by omega), List.drop_of_length_le (by omega)]
    exact h
  obtain ⟨hF, ⟨rfl, rfl, rfl⟩ | ⟨g, cur, rfl, hg, hr, hlc, hcm, hcl, ht⟩⟩ := hB
  · omega
  by_cases hr1 : c < l + 1
  · refine (ins_grow g l c i vb cur F x hok hx hF w hr hcl ht hRv (by omega) hlc hr1 hlen).mono ?_
    rintro e w' ⟨G, cur', rfl, h1, h2, h3, h4, h5, h6⟩
    exact ⟨_, _, _, rfl, OwnE.mk (by rw [insE_length x (by omega), hF]) (insE_ok hok hx) hb h3 h1 h2 h4 h5, h6.mono hb⟩
  · refine (ins_room g l c i vb cur F x hok hx hF w hr hcl ht hRv (hne _ rfl) (by omega) (by omega) hcm).mono ?_
    rintro e w' ⟨rfl, rfl⟩
    have hT : (F.take i).length = i := by rw [List.length_take, hF]; omega
    have hTo : ∀ e ∈ F.take i, e.ok := fun e he => hok e (List.mem_of_mem_take he)
    have hD : (F.drop i).length = l - i := by rw [List.length_drop, hF]
    have hDo : ∀ e ∈ F.drop i, e.ok := fun e he => hok e (List.mem_of_mem_drop he)
    have hins := ins_row1 cur ((F.take i).flatMap entC) (entC x) ((F.drop i).flatMap entC) (by
      rw [flatE_length hTo, hT, ← flatE_take hok, ← ht, List.take_take, Nat.min_eq_left (by omega)]) (by rw [flatE_length hTo, hT, entC_length hx, flatE_length hDo, hD, hcl]; omega)
    rw [flatE_length hTo, hT, entC_length hx, flatE_length hDo, hD, hcl, show i * 100 + 100 = (i + 1) * 100 by omega, show (i + 1) * 100 + (l - i) * 100 = (l + 1) * 100 by omega] at hins
    refine ⟨_, _, _, rfl, OwnE.mk (by rw [insE_length x (by omega), hF]) (insE_ok hok hx) hg (Row.sets _ _ (Row.sets _ _ hr.drew)) (by omega) hcm hins.2 ?_, below_setCells hg _ _ (below_setCells hg _ _ (Below.refl _ w).drew)⟩
    rw [hins.1]
    simp [insE]
end Go.Proofs.Ytlmfdifnkkdpfaa
