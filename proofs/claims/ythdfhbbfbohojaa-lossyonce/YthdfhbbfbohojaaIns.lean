/-
  slices.Insert of one message.
-/
import Derived.Test.YthdfhbbfbohojaaApp
import Derived.Shelf.Spec.SlicesInsertGrow
import Derived.Lib.AppendZerosOnto
namespace Go.Proofs.Ythdfhbbfbohojaa
open Go.RowKit Go.Shelf

/-- copy of messages: all is read before anything is written. -/
theorem run_copy_msgs (w : World) (ty : TypeId) (b o dLen dCap : Nat) (a : Addr) (sLen sCap : Nat) (cs : List Value) (m : Nat) (hm : m = Nat.min sLen dLen) (hn : cs.length = m * 2)
    (hsrc : ∀ j v, cs[j]? = some v → w.cell? (a.add j) = some v) (hc : ∀ j, j < cs.length → (w.cell? ⟨b, o + j, none⟩).isSome = true) (hf : ∀ j, j < cs.length → w.frozen? ⟨b, o + j, none⟩ = false) (h1 : ∀ v ∈ cs, v.oneCell' = true) :
    (Builtin.copy_ #[42, 42] ty #[.slice (some ⟨b, o, none⟩) dLen dCap, .slice (some a) sLen sCap]).run Try.prog w = .ok (goInt m) (w.setCells b o cs) := by
  have hl := run_loadCells_list (P := Try.prog) w a cs hsrc
  have hst := run_storeCells_cells (P := Try.prog) b o cs 0 w (by simpa using hc) (by simpa using hf) h1
  obtain ⟨i0, hq, hz0, hz1, hz2⟩ := info_parts info53
  have hmm : Nat.min sLen dLen * 2 = cs.length := by rw [hn, hm]
  simp [Builtin.copy_, run_underlying Try.underlying42, Builtin.lenOf, Builtin.firstCells, sizeOf, typeInfo, hq, hz1, hmm, hl, hst, hm]

theorem ins_row1 (cur P X D : List Value) (hP : cur.take P.length = P) (hl : P.length + X.length + D.length ≤ cur.length) :
    (putAt (putAt cur (P.length + X.length) D) P.length X).take (P.length + X.length + D.length) = P ++ (X ++ D) := by
  have e1 : putAt cur (P.length + X.length) D = cur.take (P.length + X.length) ++ D ++ cur.drop (P.length + X.length + D.length) := putAt_eq D cur _ (by omega)
  have hl1 : (putAt cur (P.length + X.length) D).length = cur.length := by rw [e1]; simp; omega
  rw [putAt_eq X _ _ (by rw [hl1]; omega)]
  have t1 : (putAt cur (P.length + X.length) D).take P.length = P := by
    rw [e1, List.append_assoc, List.take_append_of_le_length (by simp; omega), List.take_take, Nat.min_eq_left (by omega), hP]
  have t2 : (putAt cur (P.length + X.length) D).drop (P.length + X.length) = D ++ cur.drop (P.length + X.length + D.length) := by
    rw [e1, List.append_assoc, List.drop_left' (by simp; omega)]
  rw [t1, t2]
  rw [show P ++ X ++ (D ++ cur.drop (P.length + X.length + D.length)) = P ++ (X ++ D) ++ cur.drop (P.length + X.length + D.length) by simp]
  exact List.take_left' (by simp; omega)
theorem ins_row2 (cur P X D : List Value) (hP : cur.take P.length = P) (hl : P.length + X.length + D.length ≤ cur.length) :
    (putAt (putAt cur P.length X) (P.length + X.length) D).take (P.length + X.length + D.length) = P ++ (X ++ D) ∧ (putAt (putAt cur P.length X) (P.length + X.length) D).length = cur.length := by
  have e1 : putAt cur P.length X = P ++ X ++ cur.drop (P.length + X.length) := by rw [putAt_eq X cur _ (by omega), hP]
  have hl1 : (putAt cur P.length X).length = cur.length := by rw [e1]; simp; omega
  rw [putAt_eq D _ _ (by rw [hl1]; omega)]
  have t1 : (putAt cur P.length X).take (P.length + X.length) = P ++ X := by rw [e1]; exact List.take_left' (by simp)
  rw [t1]
  refine ⟨?_, by rw [List.length_append, List.length_append, List.length_drop, hl1]; simp; omega⟩
  rw [← List.append_assoc P X D]
  exact List.take_left' (by simp; omega)
/-- Message x put in at place i. -/
def insM (F : List Msg) (i : Nat) (x : Msg) : List Msg := F.take i ++ x :: F.drop i
theorem insM_length {F : List Msg} {i : Nat} (x : Msg) (hi : i ≤ F.length) : (insM F i x).length = F.length + 1 := by
  simp [insM]; omega
theorem insM_flat (F : List Msg) (i : Nat) (x : Msg) : (insM F i x).flatMap Msg.cD = (F.take i).flatMap Msg.cD ++ (x.cD ++ (F.drop i).flatMap Msg.cD) := by simp [insM]

set_option maxRecDepth 100000 in
set_option maxHeartbeats 1000000 in
theorem ins_room (g o n c i vb : Nat) (cur : List Value) (F : List Msg) (x : Msg) (hF : F.length = n) (w : World) (hR : Row w g 53 cur) (hcl : o + c * 2 ≤ cur.length) (htk : (cur.drop o).take (n * 2) = F.flatMap Msg.cD) (hRv : Row w vb 53 x.cD) (hne : vb ≠ g) (hi : i < n) (hroom : n + 1 ≤ c) (hc63 : c ≤ 9223372036854775807) :
    Calls Try.prog 18 #[.slice (some ⟨g, o, none⟩) n c, .int .i64 i, .slice (some ⟨vb, 0, none⟩) 1 1] w fun e w' => e = .returned (.slice (some ⟨g, o, none⟩) (n + 1) c) ∧ w' = (w.drew.setCells g (o + (i + 1) * 2) ((F.drop i).flatMap Msg.cD)).setCells g (o + i * 2) x.cD := by
  have hz2 : ¬ ((i : Int) = (n : Int)) := by omega
  have hin : i ≤ n := by omega
  have hb2 : ¬ (c = i + 1) := by omega
  have hb3 : (i : Int) ≤ (n : Int) + 1 := by omega
  have hb4 : ¬ (c = i) := by omega
  have hb1 : (0 : Int) ≤ (i : Int) + 1 := by omega
  have hb0 : (i : Int) ≤ (n : Int) := by omega
  have htn : ((i : Int) + 1).toNat = i + 1 := by omega
  have hw1 : IntKind.i64.wrap ((i : Int) + 1) = (i : Int) + 1 := by rw [IntKind.wrap_i64]; omega
  have hw2 : IntKind.i64.wrap ((n : Int) + 1) = (n : Int) + 1 := by rw [IntKind.wrap_i64]; omega
  have hg3 : ¬ ((c : Int) < (n : Int) + 1) := by omega
  have hov : ∀ lb cb, (callFunc 22 #[.slice (some ⟨vb, 0, none⟩) 1 1, .slice (some ⟨g, o + (i + 1) * 2, none⟩) lb cb]).run Try.prog w = .ok (.value (.bool false)) w := fun lb cb => by
    rw [run_callFunc_extern Try.func22 (by kernel_rfl) (by kernel_rfl) (by kernel_rfl) (e := Extern.SlicesOverlaps.overlaps #[42, 42] #[4]) (by kernel_rfl),
      Lib.run_overlaps_apart w 42 4 53 Try.underlying42 2 (fun w => by obtain ⟨i0, h1, h2, h3, h4⟩ := info_parts info53; simp [sizeOf, typeInfo, h1, h3]) ⟨vb, 0, none⟩ ⟨g, o + (i + 1) * 2, none⟩ 1 1 lb cb hne 53 53 x.cD.length cur.length (row_shape hRv) (row_shape hR) (by omega) (hRv.frozen _) (hRv.frozen _)]
    rfl
  have hD : (F.drop i).length = n - i := by rw [List.length_drop, hF]
  have hcell : ∀ j v, ((F.drop i).flatMap Msg.cD)[j]? = some v → w.cell? ⟨g, o + i * 2 + j, none⟩ = some v := fun j v hj => by
    rw [← flat_drop encD F (by omega), List.getElem?_drop, ← htk, List.getElem?_take] at hj
    split at hj
    · rw [List.getElem?_drop] at hj; rw [Nat.add_assoc]; exact hR.cell hj
    · cases hj
  have HCp1 : ∀ ty dc sc, Hid ((Builtin.copy_ #[42, 42] ty #[.slice (some ⟨g, o + (i + 1) * 2, none⟩) (n - i) dc, .slice (some ⟨g, o + i * 2, none⟩) (n + 1 - i) sc]).run Try.prog w.drew = .ok (goInt (n - i : Nat)) (w.drew.setCells g (o + (i + 1) * 2) ((F.drop i).flatMap Msg.cD))) := fun ty dc sc =>
    run_copy_msgs w.drew ty g (o + (i + 1) * 2) (n - i) dc ⟨g, o + i * 2, none⟩ (n + 1 - i) sc ((F.drop i).flatMap Msg.cD) (n - i) (by simp only [Nat.min_def]; split <;> omega) (by rw [flat_len encD, hD])
      (fun j v hj => by rw [Addr.add_lit]; exact hcell j v hj)
      (fun j hj => by rw [flat_len encD, hD] at hj; exact row_isSome hR (by omega)) (fun j hj => hR.frozen _) (flat_one encD _)
  have HR1 : Hid (Row (w.drew.setCells g (o + (i + 1) * 2) ((F.drop i).flatMap Msg.cD)) g 53 (putAt cur (o + (i + 1) * 2) ((F.drop i).flatMap Msg.cD))) := Row.sets _ _ hR.drew
  have HRv1 : Hid (Row (w.drew.setCells g (o + (i + 1) * 2) ((F.drop i).flatMap Msg.cD)) vb 53 x.cD) := Row.others hne _ _ hRv.drew
  have HL1 : Hid ((putAt cur (o + (i + 1) * 2) ((F.drop i).flatMap Msg.cD)).length = cur.length) := putAt_len _ _ _ (by rw [flat_len encD, hD]; omega)
  generalize putAt cur (o + (i + 1) * 2) ((F.drop i).flatMap Msg.cD) = cur1 at *
  generalize hW1 : w.drew.setCells g (o + (i + 1) * 2) ((F.drop i).flatMap Msg.cD) = W1 at *
  have HCp2 : ∀ ty dc, Hid ((Builtin.copy_ #[42, 42] ty #[.slice (some ⟨g, o + i * 2, none⟩) (n + 1 - i) dc, .slice (some ⟨vb, 0, none⟩) 1 1]).run Try.prog W1 = .ok (goInt (1 : Nat)) (W1.setCells g (o + i * 2) x.cD)) := fun ty dc =>
    run_copy_msgs W1 ty g (o + i * 2) (n + 1 - i) dc ⟨vb, 0, none⟩ 1 1 x.cD 1 (by simp only [Nat.min_def]; split <;> omega) rfl
      (fun j v hj => by rw [Addr.add_lit, Nat.zero_add]; exact HRv1.out.cell hj)
      (fun j hj => by have hj2 : j < 2 := hj; exact row_isSome HR1.out (by rw [HL1.out]; omega)) (fun j hj => HR1.out.frozen _) (encD.one x)
  clear hR hRv hW1 htk hD hcell hF
  go_enter Try.func18, Try.ntmps18
  go_wp2_with (simp only [hov])
  refine wp_region_held_drew (S := fun _ => True) (by kernel_rfl) trivial (fun hHeld => ?_)
  refine wpAnyH_takesAt 0 8 1 (of_decide_eq_true (by kernel_rfl)) rfl (fun _ _ _ d _ h => by cases d <;> exact h) (by kernel_rfl) (by kernel_rfl) hHeld ?_
  simp only [List.drop_zero, List.take_succ_cons, List.take_zero]
  iterate 8 (refine wpHeld_step (v := ?_) (by rfl) (fun wz hSw => ?_) ?_; rotate_left; (focus ((try dsimp only at hSw); go_simp; try with_reducible rfl)); (simp only [Act.put, List.setIfInBounds_toArray, List.set_cons_zero, List.set_cons_succ]))
  refine wpHeld_nil ?_
  refine wpAnyH_only (i := 8) (by kernel_rfl) rfl (fun K hK => ?_)
  rw [if_pos (by rfl)]
  refine wp_copy_runI _ (.tmp 73) (.tmp 76) 42 42 rfl _ _ rfl rfl (HCp1 _ _ _).out (hK.out _ _ trivial ?_)
  clear hK K
  change wpAnyH _ _ _ _ _ _ _ (Act.put _ (some 77) _) _
  (simp only [Act.put]; (try simp only [List.setIfInBounds_toArray]); (try simp only [List.set_cons_succ]); (try simp only [List.set_cons_zero]))
  refine wpAnyH_done (by kernel_rfl) ?_ _
  clear hHeld
  have hcp2 : ∀ dc, (Builtin.copy_ #[42, 42] 3 #[.slice (some ⟨g, o + i * 2, none⟩) (n + 1 - i) dc, .slice (some ⟨vb, 0, none⟩) 1 1]).run Try.prog W1 = .ok (goInt (1 : Nat)) (W1.setCells g (o + i * 2) x.cD) := fun dc => (HCp2 3 dc).out
  go_wp2_with (simp only [hcp2])
  go_ret
  exact ⟨rfl, rfl⟩
end Go.Proofs.Ythdfhbbfbohojaa
