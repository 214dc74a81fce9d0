/-
  slices.Insert of one message: where there is no room; at the end; any.
-/
import Derived.Test.YthdfhbbfbohojaaIns
namespace Go.Proofs.Ythdfhbbfbohojaa
open Go.RowKit Go.Shelf

theorem zero53_cells (k : Nat) : (Builtin.zeroCells (Value.agg #[.int .i64 0, .slice none 0 0]).cells k).size = k * 2 := by
  simp [Builtin.zeroCells, Value.cells]

set_option maxRecDepth 100000 in
set_option maxHeartbeats 1000000 in
theorem ins_grow (g o n c i vb : Nat) (cur : List Value) (F : List Msg) (x : Msg) (hF : F.length = n) (w : World) (hR : Row w g 53 cur) (htk : (cur.drop o).take (n * 2) = F.flatMap Msg.cD) (hRv : Row w vb 53 x.cD) (hi : i < n) (hnc : n ≤ c) (hroom : c < n + 1) (hn : n ≤ 100000) :
    Calls Try.prog 18 #[.slice (some ⟨g, o, none⟩) n c, .int .i64 i, .slice (some ⟨vb, 0, none⟩) 1 1] w fun e w' => ∃ G cur', e = .returned (.slice (some ⟨w.heap.size, 0, none⟩) (n + 1) G) ∧ n + 1 ≤ G ∧ G ≤ 9223372036854775807 ∧ Row w' w.heap.size 53 cur' ∧ cur'.length = G * 2 ∧ cur'.take ((n + 1) * 2) = (insM F i x).flatMap Msg.cD ∧ Below w.heap.size w w' := by
  have hz2 : ¬ ((i : Int) = (n : Int)) := by omega
  have hin : i ≤ n := by omega
  have hb3 : (i : Int) ≤ (n : Int) + 1 := by omega
  have hci : ¬ (c = i) := by omega
  have hb1 : (0 : Int) ≤ (i : Int) + 1 := by omega
  have hb0 : (i : Int) ≤ (n : Int) := by omega
  have htn : ((i : Int) + 1).toNat = i + 1 := by omega
  have hw1 : IntKind.i64.wrap ((i : Int) + 1) = (i : Int) + 1 := by rw [IntKind.wrap_i64]; omega
  have hw2 : IntKind.i64.wrap ((n : Int) + 1) = (n : Int) + 1 := by rw [IntKind.wrap_i64]; omega
  have hg3 : (c : Int) < (n : Int) + 1 := by omega
  have hgw := hR.lt
  have hvw := hRv.lt
  have hT : (F.take i).length = i := by rw [List.length_take, hF]; omega
  have hD : (F.drop i).length = n - i := by rw [List.length_drop, hF]
  obtain ⟨i0, hi0, hz0, hzs, hzb⟩ := info_parts info53
  have hcell : ∀ k j v, k ≤ n → ((F.drop k).flatMap Msg.cD)[j]? = some v → w.cell? ⟨g, o + k * 2 + j, none⟩ = some v := fun k j v hk hj => by
    rw [← flat_drop encD F (by omega), List.getElem?_drop, ← htk, List.getElem?_take] at hj
    split at hj
    · rw [List.getElem?_drop] at hj; rw [Nat.add_assoc]; exact hR.cell hj
    · cases hj
  have hold : (Builtin.firstCells i0.size i (.slice (some ⟨g, o, none⟩) i c)).run Try.prog w.drew = .ok ((F.take i).flatMap Msg.cD).toArray w.drew := by
    rw [hzs]
    exact run_firstCells_some w.drew 2 i ⟨g, o, none⟩ i c ((F.take i).flatMap Msg.cD) (by rw [flat_len encD, hT]) (fun j v hj => by
      rw [Addr.add_lit]
      rw [← flat_take encD, List.getElem?_take] at hj
      split at hj
      · have := hcell 0 j v (by omega) (by simpa using hj)
        simpa using this
      · cases hj)
  have hik : i + (n + 1 - i) = n + 1 := by omega
  have hkk : (n : Int) + 1 - (i : Int) = ((n + 1 - i : Nat) : Int) := by omega
  obtain ⟨G, hG⟩ : ∃ G, G = grownCap w (n + 1) c 53 := ⟨_, rfl⟩
  have hGn : n + 1 ≤ G := by rw [hG]; exact grownCap_ge w _ _ _
  have hGm : G ≤ maxLen := by rw [hG]; exact grownCap_le_maxLen w (n + 1) c 53 (by unfold maxLen; omega)
  have hG63 : G ≤ 9223372036854775807 := by simpa only [maxLen] using hGm
  obtain ⟨ROW, hROW⟩ : ∃ ROW : Array Value, ROW = ((F.take i).flatMap Msg.cD).toArray ++ Builtin.zeroCells (Value.agg #[.int .i64 0, .slice none 0 0]).cells (n + 1 - i) ++ Builtin.zeroCells (Value.agg #[.int .i64 0, .slice none 0 0]).cells (G - (n + 1)) := ⟨_, rfl⟩
  have hRl : ROW.toList.length = G * 2 := by
    rw [hROW, Array.length_toList, Array.size_append, Array.size_append, zero53_cells, zero53_cells, List.size_toArray, flat_len encD, hT]
    omega
  have hRt : ROW.toList.take (i * 2) = (F.take i).flatMap Msg.cD := by
    rw [hROW, Array.toList_append, Array.toList_append, List.append_assoc]
    exact List.take_left' (by rw [flat_len encD, hT])
  have HRz : Hid ((Builtin.append_ #[42, 3] 42 #[.slice (some ⟨g, o, none⟩) i c, .int .i64 ((n : Int) + 1 - (i : Int))]).run Try.prog w = .ok (.slice (some ⟨w.heap.size, 0, none⟩) (n + 1) G) (w.drew.alloc (.cells ROW 53))) := by
    have h := Lib.run_append_grow_zeros (P := Try.prog) w 42 3 42 53 i0 _ .i64 .i64 Try.underlying42 Try.underlying3 hi0 hz0 (some ⟨g, o, none⟩) i c ((F.take i).flatMap Msg.cD) hold (n + 1 - i) (by omega) (by omega) (by omega) (by omega) (by rw [hzb]; omega) (by rw [hzb, hik]; exact growslice_fits hroom (by omega))
    rw [hik, ← hG, ← hROW] at h
    show _ = _
    rw [hkk]
    exact h
  have HR1 : Hid (Row (w.drew.alloc (.cells ROW 53)) w.heap.size 53 ROW.toList) := Row.new w.drew 53 ROW
  have HRg1 : Hid (∀ j v, ((F.drop i).flatMap Msg.cD)[j]? = some v → (w.drew.alloc (.cells ROW 53)).cell? ⟨g, o + i * 2 + j, none⟩ = some v) := fun j v hj => Lib.cell?_alloc_some (W := w.drew) _ (hcell i j v hin hj)
  have HRv1 : Hid (Row (w.drew.alloc (.cells ROW 53)) vb 53 x.cD) := hRv.drew.alloc _
  have HB1 : Hid (Below w.heap.size w (w.drew.alloc (.cells ROW 53))) := (Below.refl _ w).drew.alloc (Nat.le_refl _) _
  clear hROW hold hG
  generalize w.drew.alloc (.cells ROW 53) = W1 at *
  have HCp1 : ∀ dc, Hid ((Builtin.copy_ #[42, 42] 3 #[.slice (some ⟨w.heap.size, i * 2, none⟩) (n + 1 - i) dc, .slice (some ⟨vb, 0, none⟩) 1 1]).run Try.prog W1 = .ok (goInt (1 : Nat)) (W1.setCells w.heap.size (i * 2) x.cD)) := fun dc =>
    run_copy_msgs W1 3 w.heap.size (i * 2) (n + 1 - i) dc ⟨vb, 0, none⟩ 1 1 x.cD 1 (by simp only [Nat.min_def]; split <;> omega) rfl
      (fun j v hj => by rw [Addr.add_lit, Nat.zero_add]; exact HRv1.out.cell hj)
      (fun j hj => by have hj2 : j < 2 := hj; exact row_isSome HR1.out (by rw [hRl]; omega)) (fun j hj => HR1.out.frozen _) (encD.one x)
  have HR2 : Hid (Row (W1.setCells w.heap.size (i * 2) x.cD).drew w.heap.size 53 (putAt ROW.toList (i * 2) x.cD)) := (Row.sets _ _ HR1.out).drew
  have HB2 : Hid (Below w.heap.size w (W1.setCells w.heap.size (i * 2) x.cD).drew) := (below_setCells (Nat.le_refl _) _ _ HB1.out).drew
  have HRg2 : Hid (∀ j v, ((F.drop i).flatMap Msg.cD)[j]? = some v → (W1.setCells w.heap.size (i * 2) x.cD).drew.cell? ⟨g, o + i * 2 + j, none⟩ = some v) := fun j v hj =>
    ((below_setCells (B := w.heap.size) (Nat.le_refl _) x.cD (i * 2) (Below.refl _ W1)).drew.cell (p := ⟨g, _, none⟩) hgw).trans (HRg1.out j v hj)
  generalize hW2 : W1.setCells w.heap.size (i * 2) x.cD = W2 at *
  have HL2 : Hid ((putAt ROW.toList (i * 2) x.cD).length = G * 2) := by
    show _ = _
    rw [putAt_len _ _ _ (by rw [encD.len, hRl]; omega), hRl]
  have HCp2 : ∀ ty dc sc, Hid ((Builtin.copy_ #[42, 42] ty #[.slice (some ⟨w.heap.size, (i + 1) * 2, none⟩) (n - i) dc, .slice (some ⟨g, o + i * 2, none⟩) (n - i) sc]).run Try.prog W2.drew = .ok (goInt (n - i : Nat)) (W2.drew.setCells w.heap.size ((i + 1) * 2) ((F.drop i).flatMap Msg.cD))) := fun ty dc sc =>
    run_copy_msgs W2.drew ty w.heap.size ((i + 1) * 2) (n - i) dc ⟨g, o + i * 2, none⟩ (n - i) sc ((F.drop i).flatMap Msg.cD) (n - i) (by simp) (by rw [flat_len encD, hD])
      (fun j v hj => by rw [Addr.add_lit]; exact HRg2.out j v hj)
      (fun j hj => by rw [flat_len encD, hD] at hj; exact row_isSome HR2.out (by rw [HL2.out]; omega)) (fun j hj => HR2.out.frozen _) (flat_one encD _)
  have hins := ins_row2 ROW.toList ((F.take i).flatMap Msg.cD) x.cD ((F.drop i).flatMap Msg.cD) (by rw [flat_len encD, hT]; exact hRt) (by rw [flat_len encD, hT, encD.len, flat_len encD, hD, hRl]; omega)
  rw [flat_len encD, hT, encD.len, flat_len encD, hD, hRl, show i * 2 + 2 = (i + 1) * 2 by omega, show (i + 1) * 2 + (n - i) * 2 = (n + 1) * 2 by omega] at hins
  have HIns : Hid (_ ∧ _) := hins
  have HEnd : Hid ((insM F i x).flatMap Msg.cD = (F.take i).flatMap Msg.cD ++ (x.cD ++ (F.drop i).flatMap Msg.cD)) := insM_flat F i x
  have hGi : ¬ (G = i) := by omega
  have hGi1 : ¬ (G = i + 1) := by omega
  have hcp1 := fun dc => (HCp1 dc).out
  clear hins hW2 hRl hRt htk hF hT hD hR hRv hkk hik hcell
  go_enter Try.func18, Try.ntmps18
  go_wp2_with (first | (at_builtin; refine Lib.wpList_append_run _ rfl _ _ _ _ rfl _ _ rfl rfl _ _ HRz.out ?_) | simp only [hcp1])
  refine wp_region_held_drew (S := fun _ => True) (by kernel_rfl) trivial (fun hHeld => ?_)
  refine wpAnyH_takesAt 0 8 1 (of_decide_eq_true (by kernel_rfl)) rfl (fun _ _ _ d _ h => by cases d <;> exact h) (by kernel_rfl) (by kernel_rfl) hHeld ?_
  simp only [List.drop_zero, List.take_succ_cons, List.take_zero]
  iterate 8 (refine wpHeld_step (v := ?_) (by rfl) (fun wz hSw => ?_) ?_; rotate_left; (focus ((try dsimp only at hSw); go_simp; try with_reducible rfl)); (simp only [Act.put, List.setIfInBounds_toArray, List.set_cons_zero, List.set_cons_succ]))
  refine wpHeld_nil ?_
  refine wpAnyH_only (i := 8) (by kernel_rfl) rfl (fun K hK => ?_)
  rw [if_pos (by rfl)]
  refine wp_copy_runI _ (.tmp 50) (.tmp 53) 42 42 rfl _ _ rfl rfl (HCp2 _ _ _).out (hK.out _ _ trivial ?_)
  clear hK K
  change wpAnyH _ _ _ _ _ _ _ (Act.put _ (some 54) _) _
  (simp only [Act.put]; (try simp only [List.setIfInBounds_toArray]); (try simp only [List.set_cons_succ]); (try simp only [List.set_cons_zero]))
  refine wpAnyH_done (by kernel_rfl) ?_ _
  clear hHeld
  go_wp2
  go_ret
  refine ⟨G, _, rfl, hGn, hG63, Row.sets _ _ HR2.out, HIns.out.2, ?_, below_setCells (Nat.le_refl _) _ _ HB2.out⟩
  rw [HEnd.out]
  exact HIns.out.1

set_option maxRecDepth 100000 in
set_option maxHeartbeats 1000000 in
theorem ins_end {w : World} {p g : Nat} {q : Option Addr} {c : Nat} {F : List Msg} (l : Nat) (hl : F.length = l) (h : WaitAt 53 Msg.cD w p g (.slice q l c) F) (x : Msg) (vb : Nat) (hRv : Row w vb 53 x.cD) (hlen : l ≤ 100000) {tp : TypeId} {cp : List Value} (hp : Row w p tp cp) (htp : tp ≠ 53) :
    Calls Try.prog 18 #[.slice q l c, .int .i64 l, .slice (some ⟨vb, 0, none⟩) 1 1] w fun e w' => ∃ v' g', e = .returned v' ∧ WaitAt 53 Msg.cD w' p g' v' (F ++ [x]) ∧ (g' = g ∨ w.heap.size ≤ g') ∧ Buts p g w w' ∧ Row w' p tp cp := by
  have hcn : l ≤ c ∧ c ≤ 9223372036854775807 ∧ (q = none → l = 0 ∧ c = 0) := by
    obtain ⟨q', c', e, ⟨rfl, rfl, rfl, _⟩ | ⟨o, cur, rfl, hr, hnc, hcm, hoc, htk⟩⟩ := h
    · cases e; simp
    · cases e; exact ⟨by omega, hcm, by simp⟩
  obtain ⟨v', w1, g', hrun, hW, hg', hB, hp1⟩ := run_append_msg (t := 42) (ty := 42) encD Try.underlying42 info53 rfl h x ⟨vb, 0, none⟩ (fun j u hj => by rw [Addr.add_lit, Nat.zero_add]; exact hRv.cell hj) (by omega) hp htp
  obtain ⟨q', c', rfl, _⟩ := id hW
  have HRn : Hid ((Builtin.append_ #[42, 42] 42 #[.slice q l c, .slice (some ⟨vb, 0, none⟩) 1 1]).run Try.prog w = _) := hrun
  have HEnd : Hid (_ ∧ _ ∧ _ ∧ _) := ⟨hW, hg', hB, hp1⟩
  clear hrun hW hg' hB hRv h hp hp1
  generalize (F ++ [x]).length = le at *
  generalize F ++ [x] = F1 at *
  obtain ⟨h1, h2, h3⟩ := hcn
  have hlc' : (l : Int) ≤ (c : Int) := by omega
  cases q with
  | none =>
    obtain ⟨rfl, rfl⟩ := h3 rfl
    go_enter Try.func18, Try.ntmps18
    go_wp2_with (at_builtin; refine Lib.wpList_append_run _ rfl _ _ _ _ rfl _ _ rfl rfl _ _ HRn.out ?_)
    go_ret
    first | exact ⟨_, g', rfl, HEnd.out⟩ | exact ⟨_, rfl, g', HEnd.out⟩
  | some ad =>
    obtain ⟨b, o, f⟩ := ad
    clear h3
    by_cases hcc : c = l
    · subst hcc
      go_enter Try.func18, Try.ntmps18
      go_wp2_with (at_builtin; refine Lib.wpList_append_run _ rfl _ _ _ _ rfl _ _ rfl rfl _ _ HRn.out ?_)
      go_ret
      first | exact ⟨_, g', rfl, HEnd.out⟩ | exact ⟨_, rfl, g', HEnd.out⟩
    · go_enter Try.func18, Try.ntmps18
      go_wp2_with (at_builtin; refine Lib.wpList_append_run _ rfl _ _ _ _ rfl _ _ rfl rfl _ _ HRn.out ?_)
      go_ret
      first | exact ⟨_, g', rfl, HEnd.out⟩ | exact ⟨_, rfl, g', HEnd.out⟩

/-- slices.Insert of one message, anywhere. -/
theorem insert_any {w : World} {p g : Nat} {v : Value} {F : List Msg} (h : WaitAt 53 Msg.cD w p g v F) (x : Msg) (i vb : Nat) (hi : i ≤ F.length) (hRv : Row w vb 53 x.cD) (hne : vb ≠ g) (hlen : F.length ≤ 100000) {tp : TypeId} {cp : List Value} (hp : Row w p tp cp) (htp : tp ≠ 53) :
    Calls Try.prog 18 #[v, .int .i64 i, .slice (some ⟨vb, 0, none⟩) 1 1] w fun e w' => ∃ v' g', e = .returned v' ∧ WaitAt 53 Msg.cD w' p g' v' (insM F i x) ∧ (g' = g ∨ w.heap.size ≤ g') ∧ Buts p g w w' ∧ Row w' p tp cp := by
  obtain ⟨q, c, rfl, hh⟩ := id h
  by_cases hil : i = F.length
  · subst hil
    have h := ins_end _ rfl h x vb hRv hlen hp htp
    rw [insM, List.take_of_length_le (by omega), List.drop_of_length_le (by omega)]
    exact h
  rcases hh with ⟨_, rfl, _, _⟩ | ⟨o, cur, rfl, hr, hnc, hcm, hoc, htk⟩
  · simp at hi; subst hi; simp at hil
  by_cases hr1 : c < F.length + 1
  · refine (ins_grow g o F.length c i vb cur F x rfl w hr htk hRv (by omega) hnc hr1 hlen).mono ?_
    rintro e w' ⟨G, cur', rfl, h1, h2, h3, h4, h5, h6⟩
    exact ⟨_, w.heap.size, rfl, ⟨_, G, by rw [insM_length x hi], .inr ⟨0, cur', rfl, h3, by rw [insM_length x hi]; exact h1, h2, by omega, by rw [insM_length x hi]; simpa using h5⟩⟩, .inr (Nat.le_refl _), Buts.of_below h6, hp.later h6⟩
  · refine (ins_room g o F.length c i vb cur F x rfl w hr hoc htk hRv hne (by omega) (by omega) hcm).mono ?_
    rintro e w' ⟨rfl, rfl⟩
    have hT : (F.take i).length = i := by rw [List.length_take]; omega
    have hD : (F.drop i).length = F.length - i := by rw [List.length_drop]
    have hins := ins_row1 (cur.drop o) ((F.take i).flatMap Msg.cD) x.cD ((F.drop i).flatMap Msg.cD) (by
      rw [flat_len encD, hT, ← flat_take encD, ← htk, List.take_take, Nat.min_eq_left (by omega)]) (by rw [flat_len encD, hT, encD.len, flat_len encD, hD, List.length_drop]; omega)
    rw [flat_len encD, hT, encD.len, flat_len encD, hD, show i * 2 + 2 = (i + 1) * 2 by omega, show (i + 1) * 2 + (F.length - i) * 2 = (F.length + 1) * 2 by omega] at hins
    refine ⟨_, g, rfl, ⟨_, c, by rw [insM_length x hi], .inr ⟨o, _, rfl, Row.sets _ _ (Row.sets _ _ hr.drew), by rw [insM_length x hi]; omega, hcm, ?_, ?_⟩⟩, .inl rfl, ((Buts.refl w).drew.trans (.inl rfl) (Buts.setsG _ _ _)).trans (.inl rfl) (Buts.setsG _ _ _), Row.others (row_ne hp hr htp) _ _ (Row.others (row_ne hp hr htp) _ _ hp.drew)⟩
    · have l1 : (putAt cur (o + (i + 1) * 2) ((F.drop i).flatMap Msg.cD)).length = cur.length := putAt_len _ _ _ (by rw [flat_len encD, hD]; omega)
      rw [putAt_len _ _ _ (by rw [l1, encD.len]; omega), l1]
      exact hoc
    · rw [putAt_drop, putAt_drop, insM_length x hi, hins, insM_flat]
end Go.Proofs.Ythdfhbbfbohojaa
