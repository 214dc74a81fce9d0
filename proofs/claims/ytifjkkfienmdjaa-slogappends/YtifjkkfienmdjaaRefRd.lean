/-
  The reference's Read and Start.
-/
import Derived.Test.YtifjkkfienmdjaaEq
namespace Go.Proofs.Ytifjkkfienmdjaa
open Go.RowKit Go.Shelf

variable {F : List Nat} {p g : Nat} {d : St} {w : World}

set_option maxRecDepth 100000 in
set_option maxHeartbeats 2000000 in
theorem refRead_any (h : RefAt F w p g d) (i : Int) :
    Calls Try.prog 34 #[.pointer (some ⟨p, 0, none⟩), .int .i64 i] w fun e w' => e = .returned (.tuple #[.agg (u8s (d.read i)).toArray, .int .i64 (d.err i)]) ∧ Below w.heap.size w w' := by
  obtain ⟨w0, HW0, hb0, hs0, hr0⟩ := new29 w
  have h' := h.later hb0
  have HR0 : Hid (Row w0 w.heap.size 55 (u8s zeros64)) := hr0
  have HLZ : Hid ((u8s zeros64).length = 64) := by show _ = _; simp [zeros64]
  have HOZ : Hid (∀ v ∈ u8s zeros64, v.oneCell' = true) := u8s_one _
  have HBu : Hid (Try.prog.built 55 [] = some (u8s zeros64).toArray) := built29
  obtain ⟨h1, h2, h3, h4, h5, q, len, cap, h6, h7⟩ := h'
  have c0 := h6.cell (i := 0) rfl
  have c3 := h6.cell (i := 3) rfl
  have hl := h1.few
  clear hr0
  cases hd : d.dead with
  | true =>
    rw [hd] at c3
    have e1 : d.err i = 131 := by simp [St.err, hd]
    rw [St.read, e1, if_pos (by simp)]
    clear h h1 h2 h3 h4 h5 h6 h7 e1
    generalize u8s zeros64 = Z at *
    go_enter Try.func34, Try.ntmps34
    go_wp2_with (first
      | (rw [HW0.out])
      | ((with_reducible show wpList _ _ _ (Oper.mk _ (Op.build 55 _) _ _ _ _ :: _) _ _); refine wpList_built_want (by rfl) 55 _ rfl _ _ (by simp only [List.map_toArray, List.map_nil]) HBu.out ?_; simp only [Act.put, List.setIfInBounds_toArray, List.set_cons_zero, List.set_cons_succ])
      | ((with_reducible show wpList _ _ _ (Oper.mk _ (Op.store 55 (.tmp 4) (.tmp 11)) _ _ _ _ :: _) _ _); refine wpList_store_Row rfl 55 (.tmp 4) (.tmp 11) rfl Z rfl rfl HR0.out (by rw [HLZ.out]; exact size55) rfl HOZ.out ?_; simp only [Act.put]))
    refine bodyPost_ret (results_Row_tmp rfl rfl (Row.sets_all (vs := Z) HR0.out rfl) Try.underlying55 (by rw [HLZ.out]; exact size55)) rfl ?_
    exact ⟨rfl, below_setCells (Nat.le_refl _) _ _ hb0⟩
  | false =>
    rw [hd] at c3
    by_cases hbad : i < 0 ∨ (d.ss.length : Int) ≤ i
    · have e1 : d.err i = 130 := by simp [St.err, hd, hbad]
      rw [St.read, e1, if_pos (by simp)]
      have hz : decide (i < 0) = true ∨ (decide (i < 0) = false ∧ (d.ss.length : Int) ≤ i) := by
        by_cases h0 : i < 0
        · exact .inl (decide_eq_true h0)
        · exact .inr ⟨decide_eq_false h0, by omega⟩
      clear h h1 h2 h3 h4 h5 h6 h7 e1 hbad
      generalize u8s zeros64 = Z at *
      generalize d.ss.length = n at *
      rcases hz with hz | ⟨hz, hz2⟩
      · go_enter Try.func34, Try.ntmps34
        go_wp2_with (first
          | (rw [HW0.out])
          | ((with_reducible show wpList _ _ _ (Oper.mk _ (Op.build 55 _) _ _ _ _ :: _) _ _); refine wpList_built_want (by rfl) 55 _ rfl _ _ (by simp only [List.map_toArray, List.map_nil]) HBu.out ?_; simp only [Act.put, List.setIfInBounds_toArray, List.set_cons_zero, List.set_cons_succ])
          | ((with_reducible show wpList _ _ _ (Oper.mk _ (Op.store 55 (.tmp 4) (.tmp 24)) _ _ _ _ :: _) _ _); refine wpList_store_Row rfl 55 (.tmp 4) (.tmp 24) rfl Z rfl rfl HR0.out (by rw [HLZ.out]; exact size55) rfl HOZ.out ?_; simp only [Act.put]))
        refine bodyPost_ret (results_Row_tmp rfl rfl (Row.sets_all (vs := Z) HR0.out rfl) Try.underlying55 (by rw [HLZ.out]; exact size55)) rfl ?_
        exact ⟨rfl, below_setCells (Nat.le_refl _) _ _ hb0⟩
      · go_enter Try.func34, Try.ntmps34
        go_wp2_with (first
          | (rw [HW0.out])
          | ((with_reducible show wpList _ _ _ (Oper.mk _ (Op.build 55 _) _ _ _ _ :: _) _ _); refine wpList_built_want (by rfl) 55 _ rfl _ _ (by simp only [List.map_toArray, List.map_nil]) HBu.out ?_; simp only [Act.put, List.setIfInBounds_toArray, List.set_cons_zero, List.set_cons_succ])
          | ((with_reducible show wpList _ _ _ (Oper.mk _ (Op.store 55 (.tmp 4) (.tmp 24)) _ _ _ _ :: _) _ _); refine wpList_store_Row rfl 55 (.tmp 4) (.tmp 24) rfl Z rfl rfl HR0.out (by rw [HLZ.out]; exact size55) rfl HOZ.out ?_; simp only [Act.put]))
        refine bodyPost_ret (results_Row_tmp rfl rfl (Row.sets_all (vs := Z) HR0.out rfl) Try.underlying55 (by rw [HLZ.out]; exact size55)) rfl ?_
        exact ⟨rfl, below_setCells (Nat.le_refl _) _ _ hb0⟩
    · have e1 : d.err i = 0 := by simp [St.err, hd, hbad]
      rw [St.read, e1, if_neg (by simp)]
      obtain ⟨k, rfl⟩ : ∃ k : Nat, i = (k : Int) := ⟨i.toNat, by omega⟩
      have hk : k < d.ss.length := by omega
      rw [Int.toNat_natCast]
      have HRg : Hid (w0.rangeAt g (k * 64) (u8s (d.ss.getD k []))) := sec_range h5 h1.secs hk
      have HL : Hid ((u8s (d.ss.getD k [])).length = 64) := by show _ = _; rw [u8s_length, (sec_at h1.secs hk).1]
      have HO : Hid (∀ v ∈ u8s (d.ss.getD k []), v.oneCell' = true) := u8s_one _
      clear h h1 h2 h3 h4 h5 h6 h7 e1 hbad
      generalize u8s (d.ss.getD k []) = S at *
      generalize u8s zeros64 = Z at *
      generalize d.ss.length = n at *
      have hz2 : ¬ (n : Int) ≤ (k : Int) := by omega
      go_enter Try.func34, Try.ntmps34
      go_wp2_with (first
        | (rw [HW0.out])
        | ((with_reducible show wpList _ _ _ (Oper.mk _ (Op.load 55 (.tmp 30)) _ _ _ _ :: _) _ _); refine wpList_load_mid rfl 55 (.tmp 30) rfl g (k * 64) rfl S _ HRg.out Try.underlying55 rfl (by rw [HL.out]; exact size55) ?_; simp only [Act.put, List.setIfInBounds_toArray, List.set_cons_zero, List.set_cons_succ])
        | ((with_reducible show wpList _ _ _ (Oper.mk _ (Op.store 55 (.tmp 4) (.tmp 31)) _ _ _ _ :: _) _ _); refine wpList_store_Row rfl 55 (.tmp 4) (.tmp 31) rfl S rfl rfl HR0.out (by rw [HL.out]; exact size55) (by rw [HL.out, HLZ.out]) HO.out ?_; simp only [Act.put]))
      refine bodyPost_ret (results_Row_tmp rfl rfl (Row.sets_all (vs := S) HR0.out (by rw [HL.out, HLZ.out])) Try.underlying55 (by rw [HL.out]; exact size55)) rfl ?_
      exact ⟨rfl, below_setCells (Nat.le_refl _) _ _ hb0⟩

set_option maxRecDepth 100000 in
set_option maxHeartbeats 2000000 in
theorem refStart_any (h : RefAt F w p g d) : Calls Try.prog 24 #[.pointer (some ⟨p, 0, none⟩)] w fun e w' => (∃ v, e = .returned v) ∧ RefAt F w' p g d.start ∧ Buts [p, g] w.heap.size w w' := by
  obtain ⟨h1, h2, h3, h4, h5, q, len, cap, h6, h7⟩ := h
  have c1 := h6.cell (i := 1) rfl
  have c2 := h6.cell (i := 2) rfl
  have c3 := h6.cell (i := 3) rfl
  have f1 := h6.frozen 1
  have f2 := h6.frozen 2
  have f3 := h6.frozen 3
  have HEnd : Hid (∀ q2 l2 c2, CrAt F w q2 l2 c2 (d.cr.drop 1) → RefAt F (((w.setCell ⟨p, 3, none⟩ (.bool false)).setCell ⟨p, 2, none⟩ (.int .i64 0)).setCell ⟨p, 1, none⟩ (.slice q2 l2 c2)) p g d.start ∧ Buts [p, g] w.heap.size w (((w.setCell ⟨p, 3, none⟩ (.bool false)).setCell ⟨p, 2, none⟩ (.int .i64 0)).setCell ⟨p, 1, none⟩ (.slice q2 l2 c2))) := fun q2 l2 c2 hc => by
    have hb : Buts [p, g] w.heap.size w (((w.setCell ⟨p, 3, none⟩ (.bool false)).setCell ⟨p, 2, none⟩ (.int .i64 0)).setCell ⟨p, 1, none⟩ (.slice q2 l2 c2)) := (((Buts.refl _ _ w).set (by simp) 3 _).set (by simp) 2 _).set (by simp) 1 _
    refine ⟨⟨h1.start, h2, h3, h4, ?_, q2, l2, c2, ?_, hc.buts hb (by simp [h3, h4])⟩, hb⟩
    · exact ((h5.other (a := ⟨p, 3, none⟩) (Ne.symm h2) _).other (a := ⟨p, 2, none⟩) (Ne.symm h2) _).other (a := ⟨p, 1, none⟩) (Ne.symm h2) _
    · exact ((h6.set 3 _).set 2 _).set 1 _
  have HEnd2 : Hid (d.cr = [] → RefAt F ((w.setCell ⟨p, 3, none⟩ (.bool false)).setCell ⟨p, 2, none⟩ (.int .i64 0)) p g d.start ∧ Buts [p, g] w.heap.size w ((w.setCell ⟨p, 3, none⟩ (.bool false)).setCell ⟨p, 2, none⟩ (.int .i64 0))) := fun hc => by
    have hb : Buts [p, g] w.heap.size w ((w.setCell ⟨p, 3, none⟩ (.bool false)).setCell ⟨p, 2, none⟩ (.int .i64 0)) := ((Buts.refl _ _ w).set (by simp) 3 _).set (by simp) 2 _
    refine ⟨⟨h1.start, h2, h3, h4, ?_, q, len, cap, ?_, ?_⟩, hb⟩
    · exact (h5.other (a := ⟨p, 3, none⟩) (Ne.symm h2) _).other (a := ⟨p, 2, none⟩) (Ne.symm h2) _
    · exact (h6.set 3 _).set 2 _
    · have := h7.buts hb (by simp [h3, h4])
      simp only [St.start, hc] at this ⊢
      exact this
  clear h5 h6
  cases hcr : d.cr with
  | nil =>
    rw [hcr] at h7
    have hl : len = 0 := h7.1.symm
    subst hl
    clear h7
    go_enter Try.func24, Try.ntmps24
    go_wp2
    refine bodyPost_end (results_none rfl _ _ _) rfl ?_
    exact ⟨⟨_, rfl⟩, HEnd2.out hcr⟩
  | cons c r =>
    rw [hcr] at h7
    obtain ⟨b, off, rfl, hl, _, _⟩ := h7.first (a := c.1) (k := c.2)
    have hl0 : (0 : Int) < ((len : Nat) : Int) := by omega
    have hlc := h7.2.1
    have hcc := h7.2.2.1
    have HC : Hid (∀ q2 l2 c2, l2 + 1 = len → c2 + 1 = cap → (0 < l2 → q2 = some ⟨b, off + 2, none⟩) → CrAt F w q2 l2 c2 (d.cr.drop 1)) := fun q2 l2 c2 e1 e2 e3 => by
      rw [hcr]
      exact h7.rest e1 e2 (fun hp b' off' e => by cases e; exact e3 hp)
    clear h7
    by_cases hcn : cap = 1
    · have hcn' : (cap = 1) = True := eq_true hcn
      go_enter Try.func24, Try.ntmps24
      go_wp2
      refine bodyPost_end (results_none rfl _ _ _) rfl ?_
      exact ⟨⟨_, rfl⟩, HEnd.out _ _ _ (HC.out _ _ _ (by omega) (by omega) (by omega))⟩
    · have hcn' : (cap = 1) = False := eq_false hcn
      go_enter Try.func24, Try.ntmps24
      go_wp2
      refine bodyPost_end (results_none rfl _ _ _) rfl ?_
      exact ⟨⟨_, rfl⟩, HEnd.out _ _ _ (HC.out _ _ _ (by omega) (by omega) (fun _ => rfl))⟩
end Go.Proofs.Ytifjkkfienmdjaa
