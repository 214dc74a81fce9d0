/-
  Records' parts: headOf.
-/
import Derived.Test.YtifjkkfienmdjaaRecB
namespace Go.Proofs.Ytifjkkfienmdjaa
open Go.RowKit Go.Shelf

theorem wpAnyH_strong {P : Program} {md : Region.Mode} {ops : Array Oper} {Q : Exit → Act → World → Prop} {S S' : World → Prop} (hS : ∀ W, S' W → S W) : ∀ (fuel : Nat) (listed : Array Bool) (a : Act) (w : World), wpAnyH P md ops Q S' fuel listed a w → wpAnyH P md ops Q S fuel listed a w
  | 0, _, _, _, h => h
  | fuel + 1, _, _, _, h => ⟨h.1, fun i hi => wpOp_mono (fun a' w' h' => ⟨hS w' h'.1, wpAnyH_strong hS fuel _ a' w' h'.2⟩) (h.2 i hi)⟩
theorem results_tmp_Row {P : Program} {fn : Func} {p u : Tmp} {ty : TypeId} (h : fn.results = #[.tmp u, .cell p ty]) {tmps : Array Value} {w : World} {g : Nat} {t : TypeId} {cs : List Value} (hp : tmps.getD p undef = .pointer (some ⟨g, 0, none⟩)) (hg : Row w g t cs)
    {n : Nat} {e : TypeId} (hu : P.underlying ty = some (.array n e)) (hi : (P.info? ty).map (·.size) = some cs.length) : (results fn tmps).run P w = .ok (.tuple #[tmps.getD u undef, .agg cs.toArray]) w := by
  have e1 : (results fn tmps).run P w = ((asAddr (tmps.getD p undef)).run P w).andThen fun a w₁ => ((loadVar ty a).run P w₁).andThen fun v w₂ => .ok (.tuple #[tmps.getD u undef, v]) w₂ := by
    simp only [results, h]
    simp [Sem.run_bind, Result.andThen]
  rw [e1, hp]
  simp [asAddr, run_loadVar_row w g t ty cs.toArray (0, 0) _ hg hu rfl (by simpa using hi)]
theorem word_take {s : List Nat} : Ch.wordAt (s.take 4) 0 = numFrom s 0 4 := by
  simp only [Ch.wordAt, numFrom, Nat.mul_zero, Nat.zero_add, Nat.reduceAdd]
  have e : ∀ i, i < 4 → (s.take 4).getD i 0 = s.getD i 0 := fun i hi => by rw [List.getD_eq_getElem?_getD, List.getElem?_take, if_pos hi, List.getD_eq_getElem?_getD]
  rw [e 0 (by omega), e 1 (by omega), e 2 (by omega), e 3 (by omega)]
  omega
theorem row_bytes {W : World} {b : Nat} {t : TypeId} {s : List Nat} (h : Row W b t (u8s s)) (hz : ∀ z ∈ s, z < 256) {k off c : Nat} (hk : off + k ≤ s.length) (hkc : k ≤ c) (hc : c ≤ 1000000) : IsBytes W.heap.size W (some ⟨b, off, none⟩) k c ((s.drop off).take k) := by
  refine ⟨by rw [List.length_take, List.length_drop]; omega, hkc, by omega, fun z h => hz z (List.mem_of_mem_drop (List.mem_of_mem_take h)), .inr ⟨b, off, rfl, h.lt, fun i hi => ?_⟩⟩
  rw [h.cell (i := off + i) (u8s_at (by omega)), List.getD_eq_getElem?_getD, List.getD_eq_getElem?_getD, List.getElem?_take, if_pos hi, List.getElem?_drop]

set_option maxRecDepth 100000 in
set_option maxHeartbeats 4000000 in
theorem headOf_any (s : List Nat) (hs : IsSec s) (w : World) :
    Calls Try.prog 45 #[.agg (u8s s).toArray] w fun e w' => e = .returned (.tuple #[.int .i64 (numFrom s 0 4 : Nat), .agg (u8s (s.drop 55)).toArray]) ∧ Below w.heap.size w w' := by
  obtain ⟨w0, hw0⟩ : ∃ w0, w.alloc (.cells (u8s s).toArray 55) = w0 := ⟨_, rfl⟩
  have hb0 : Below w.heap.size w w0 := by rw [← hw0]; exact (Below.refl _ w).alloc (Nat.le_refl _) _
  have hr0 : Row w0 w.heap.size 55 (u8s s) := by rw [← hw0]; exact Row.new' w 55 (u8s s)
  have hs0 : w0.heap.size = w.heap.size + 1 := by rw [← hw0]; simp
  have HW0 : Hid (w.alloc (.cells (u8s s).toArray 55) = w0) := hw0
  obtain ⟨w1, HW1, hb1, hs1, hr1⟩ := new91 w0
  have R1 : Hid (Row w1 w.heap.size 55 (u8s s)) := hr0.later hb1
  have R3 : Hid (Row w1 (w.heap.size + 1) 91 (u8s zeros9)) := by rw [← hs0]; exact hr1
  have B1 : Hid (Below w.heap.size w w1) := hb0.trans (hb1.mono hb0.size)
  have HWo : Hid (∀ W, Below w1.heap.size w1 W → Calls Try.prog 54 #[.slice (some ⟨w.heap.size, 0, none⟩) 4 64] W fun e W' => ∃ v, e = .returned v ∧ W'.ownsRow W.heap.size 26 1 v (4 / 4) (Ch.wordVals (s.take 4) (4 / 4)) ∧ Below W.heap.size W W') := fun W hb => by
    have := row_bytes (R1.out.later hb) hs.2 (k := 4) (off := 0) (c := 64) (by rw [hs.1]; omega) (by omega) (by omega)
    rw [List.drop_zero] at this
    exact Ch.words_any _ 4 64 _ (by omega) W this
  have HRg : Hid (∀ W, Buts [w.heap.size + 1] w1.heap.size w1 W → W.rangeAt w.heap.size 55 (u8s (s.drop 55))) := fun W hb j v hj => by
    refine (hb.row R1.out.lt (by simp) R1.out).cell ?_
    rw [← hj]
    simp only [u8s, List.map_drop, List.getElem?_drop]
  have HNl : Hid (numFrom s 0 4 < 4294967296) := numFrom_lt s hs.2 4 0
  have HWd : Hid (Ch.wordVals (s.take 4) (4 / 4) = [.int .u32 (numFrom s 0 4 : Nat)]) := by
    show _ = _
    simp only [Ch.wordVals]
    rw [show 4 / 4 = 1 from rfl]
    simp only [List.range_succ, List.range_zero, List.nil_append, List.map_cons, List.map_nil, word_take]
  obtain ⟨H, hH⟩ : ∃ H, u8s (s.drop 55) = H := ⟨_, rfl⟩
  have HHL : Hid (H.length = 9) := by show _ = _; rw [← hH, u8s_length, List.length_drop, hs.1]
  have HHO : Hid (∀ v ∈ H, v.oneCell' = true) := by rw [← hH]; exact u8s_one _
  have HXL : Hid ((u8s s).length = 64) := by show _ = _; rw [u8s_length, hs.1]
  rw [hH] at HRg ⊢
  rw [HWd.out] at HWo
  obtain ⟨m, hm⟩ : ∃ m, numFrom s 0 4 = m := ⟨_, rfl⟩
  rw [hm] at HWo HNl ⊢
  have hml := HNl.out
  clear hr0 hr1 hb0 hb1 hw0 hH hs HWd hm
  generalize u8s s = X at *
  go_enter Try.func45, Try.ntmps45
  go_upto_region 1 with (first
    | (rw [HW0.out])
    | (rw [HW1.out]))
  have hl3 := R3.out.lt
  refine wp_region_held_drew (S := fun W => Buts [w.heap.size + 1] w1.heap.size w1 W) (by kernel_rfl) (Buts.refl _ _ _).drew (fun hHeld => ?_)
  refine wpAnyH_takesAt 0 1 9 (of_decide_eq_true (by kernel_rfl)) rfl (fun _ _ _ d _ h => by cases d <;> exact h) (by kernel_rfl) (by kernel_rfl) hHeld ?_
  simp only [List.drop_zero, List.take_succ_cons, List.take_zero]
  iterate 1 (refine wpHeld_step (v := ?_) (by rfl) (fun wz hSw => ?_) ?_; rotate_left; (focus ((try dsimp only at hSw); go_simp; try with_reducible rfl)); ((simp only [Act.put]; (try simp only [List.setIfInBounds_toArray]); (try simp only [List.set_cons_succ]); (try simp only [List.set_cons_zero]))))
  refine wpHeld_nil ?_
  refine wpAnyH_takesAt 5 1 8 (of_decide_eq_true (by kernel_rfl)) rfl (fun _ _ _ d _ h => by cases d <;> exact h) (by kernel_rfl) (by kernel_rfl) hHeld ?_
  simp only [List.drop_succ_cons, List.drop_zero, List.take_succ_cons, List.take_zero]
  iterate 1 (refine wpHeld_step (v := ?_) (by rfl) (fun wz hSw => ?_) ?_; rotate_left; (focus ((try dsimp only at hSw); go_simp; try with_reducible rfl)); ((simp only [Act.put]; (try simp only [List.setIfInBounds_toArray]); (try simp only [List.set_cons_succ]); (try simp only [List.set_cons_zero]))))
  refine wpHeld_nil ?_
  have HAt : Hid (∀ wz, (Instr.arrayAt 91 (.slice (some ⟨w.heap.size, 55, none⟩) 9 9)).run Try.prog wz = .ok (.pointer (some ⟨w.heap.size, 55, none⟩)) wz) := fun wz => by
    simp [Instr.arrayAt, go_sem]
  refine wpAnyH_takesAt 6 1 7 (of_decide_eq_true (by kernel_rfl)) rfl (fun _ _ _ d _ h => by cases d <;> exact h) (by kernel_rfl) (by kernel_rfl) hHeld ?_
  simp only [List.drop_succ_cons, List.drop_zero, List.take_succ_cons, List.take_zero]
  refine wpHeld_step (v := .pointer (some ⟨w.heap.size, 55, none⟩)) (by rfl) (fun wz hSw => ?_) ?_
  · clear hSw
    have := HAt.out wz
    go_simp
  (simp only [Act.put]; (try simp only [List.setIfInBounds_toArray]); (try simp only [List.set_cons_succ]); (try simp only [List.set_cons_zero]))
  refine wpHeld_nil ?_
  refine wpAnyH_takesAt 7 1 6 (of_decide_eq_true (by kernel_rfl)) rfl (fun _ _ _ d _ h => by cases d <;> exact h) (by kernel_rfl) (by kernel_rfl) hHeld ?_
  simp only [List.drop_succ_cons, List.drop_zero, List.take_succ_cons, List.take_zero]
  refine wpHeld_load (by rfl) 91 (.tmp 10) rfl w.heap.size (55) rfl H (fun W hW => HRg.out W hW) Try.underlying91 (by rw [HHL.out]; exact size91) ?_
  (simp only [Act.put]; (try simp only [List.setIfInBounds_toArray]); (try simp only [List.set_cons_succ]); (try simp only [List.set_cons_zero]))
  refine wpHeld_nil ?_
  refine wpAnyH_only (i := 1) (by kernel_rfl) rfl (fun K hK => ?_)
  rw [if_pos (by rfl)]
  go_simp
  refine (HWo.out _ (Below.refl _ _).drew).mono ?_
  rintro e w2 ⟨v2, rfl, hown, hb2⟩
  obtain ⟨g2, c2, rfl, hg2, hg2l, hc2⟩ : ∃ g2 c2, v2 = .slice (some ⟨g2, 0, none⟩) 1 c2 ∧ g2 < w2.heap.size ∧ w1.heap.size ≤ g2 ∧ w2.cell? ⟨g2, 0, none⟩ = some (.int .u32 (m : Nat)) := by
    rcases hown.2 with ⟨_, h0⟩ | ⟨g2, cp, cur, rfl, hg, hgg, hnc, hcm, hcs, ht⟩
    · cases h0
    · exact ⟨g2, cp, rfl, (Array.getElem?_eq_some_iff.1 hgg).1, hg, hown.cellAt 0 (by omega)⟩
  have hb2' : Below w1.heap.size w1 w2 := ⟨hb2.os, hb2.tape, hb2.output, hb2.size, hb2.block⟩
  refine hK.out _ _ (Buts.of_below hb2' (Nat.le_refl _)) ?_
  clear hK K hHeld
  have HC2 : Hid (∀ W, Buts [w.heap.size + 1] w2.heap.size w2 W → W.cell? ⟨g2, 0, none⟩ = some (.int .u32 (m : Nat))) := fun W hb => by
    have hblk := hb.block g2 hg2 (by simp; omega)
    rw [World.cell?_of_block (a := ⟨g2, 0, none⟩) hblk]
    exact hc2
  clear hown hc2 hb2
  refine wpAnyH_strong (S' := fun W => Buts [w.heap.size + 1] w2.heap.size w2 W) (fun W h => (Buts.of_below hb2' (Nat.le_refl _)).trans (h.mono (fun _ h => h) hb2'.size)) _ _ _ _ ?_
  have hHeld : Buts [w.heap.size + 1] w2.heap.size w2 w2 := Buts.refl _ _ _
  refine wpAnyH_takesAt 2 2 3 (of_decide_eq_true (by kernel_rfl)) rfl (fun _ _ _ d _ h => by cases d <;> exact h) (by kernel_rfl) (by kernel_rfl) hHeld ?_
  simp only [List.drop_succ_cons, List.drop_zero, List.take_succ_cons, List.take_zero]
  iterate 2 (refine wpHeld_step (v := ?_) (by rfl) (fun wz hSw => ?_) ?_; rotate_left; (focus (have hc := HC2.out wz hSw; clear hSw; go_simp; try with_reducible rfl)); (simp only [Act.put, List.setIfInBounds_toArray, List.set_cons_zero, List.set_cons_succ]))
  refine wpHeld_nil ?_
  refine wpAnyH_takesAt 4 1 2 (of_decide_eq_true (by kernel_rfl)) rfl (fun _ _ _ d _ h => by cases d <;> exact h) (by kernel_rfl) (by kernel_rfl) hHeld ?_
  simp only [List.drop_succ_cons, List.drop_zero, List.take_succ_cons, List.take_zero]
  iterate 1 (refine wpHeld_step (v := ?_) (by rfl) (fun wz hSw => ?_) ?_; rotate_left; (focus ((try dsimp only at hSw); go_simp; try with_reducible rfl)); ((simp only [Act.put]; (try simp only [List.setIfInBounds_toArray]); (try simp only [List.set_cons_succ]); (try simp only [List.set_cons_zero]))))
  refine wpHeld_nil ?_
  refine wpAnyH_takesAt 8 1 1 (of_decide_eq_true (by kernel_rfl)) rfl (fun _ _ _ d _ h => by cases d <;> exact h) (by kernel_rfl) (by kernel_rfl) hHeld ?_
  simp only [List.drop_succ_cons, List.drop_zero, List.take_succ_cons, List.take_zero]
  iterate 1 (refine wpHeld_step (v := ?_) (by rfl) (fun wz hSw => ?_) ?_; rotate_left; (focus ((try dsimp only at hSw); go_simp; try with_reducible rfl)); ((simp only [Act.put]; (try simp only [List.setIfInBounds_toArray]); (try simp only [List.set_cons_succ]); (try simp only [List.set_cons_zero]))))
  refine wpHeld_nil ?_
  refine wpAnyH_only (i := 9) (by kernel_rfl) rfl (fun K hK => ?_)
  rw [if_pos (by rfl)]
  have R32 : Row w2 (w.heap.size + 1) 91 (u8s zeros9) := R3.out.later hb2'
  refine wp_store_mid 91 (.tmp 3) (.tmp 11) rfl (w.heap.size + 1) 0 H.toArray rfl rfl (by simp only [List.size_toArray]; rw [HHL.out]; exact R32.there_mid (by simp [u8s, zeros9])) (by simp only [List.size_toArray]; rw [HHL.out]; exact size91) (all_oneCell_toArray HHO.out) ?_
  refine hK.out _ _ ((Buts.refl _ _ _).sets (by simp) _ _) ?_
  clear hK K hHeld
  have hmw : IntKind.i64.wrap ((m : Nat) : Int) = ((m : Nat) : Int) := by rw [IntKind.wrap_i64]; omega
  have R4 : Hid (Row (w2.setCells (w.heap.size + 1) 0 H) (w.heap.size + 1) 91 H) := Row.sets_all R32 (by rw [HHL.out]; rfl)
  have B4 : Hid (Below w.heap.size w (w2.setCells (w.heap.size + 1) 0 H)) := below_setCells (by omega) _ _ (B1.out.trans (hb2'.mono B1.out.size))
  simp only [Act.put, List.getElem_toArray, List.getElem_cons_succ, List.getElem_cons_zero, hmw]
  refine wpAnyH_done (by kernel_rfl) ?_ _
  go_wp2
  refine bodyPost_ret (results_tmp_Row rfl rfl R4.out Try.underlying91 (by rw [HHL.out]; exact size91)) rfl ?_
  exact ⟨rfl, B4.out⟩
end Go.Proofs.Ytifjkkfienmdjaa
