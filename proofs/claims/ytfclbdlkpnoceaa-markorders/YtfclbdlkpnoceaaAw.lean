/-
  awake: the chapter's example.
-/
import Derived.Test.YtfclbdlkpnoceaaAw0
namespace Go.Proofs.Ytfclbdlkpnoceaa
open Go.RowKit Go.Shelf Go.Maps
attribute [local go_sem] Oper.semAt_some

theorem equal_idV {x y : List Nat} (hx : IsId x) (hy : IsId y) (w : World) : (Op.equalIn 10000 33 (idV x) (idV y)).run Try.prog w = .ok (decide (x = y)) w := equal_ids hx hy w
theorem build46a (q : Option Addr) (n c : Nat) (a : Act) (w : World) (o : Oper) (x y : Operand) (ho : o.op = .build 46 #[(0, x), (1, y)]) (hx : a.eval x = idV (idK 1)) (hy : a.eval y = .slice q n c) : (execOp a.eval o).run Try.prog w = .ok (.value (.agg (objC ⟨idK 1, q, n, c, [idK 2], 0⟩).toArray)) w := by
  unfold execOp
  rw [ho]
  simp only [List.map_toArray, List.map_cons, List.map_nil, hx, hy]
  kernel_rfl
theorem build46b (k : Nat) (hk : k = 2 ∨ k = 3) (a : Act) (w : World) (o : Oper) (x : Operand) (ho : o.op = .build 46 #[(0, x)]) (hx : a.eval x = idV (idK k)) : (execOp a.eval o).run Try.prog w = .ok (.value (.agg (objC ⟨idK k, none, 0, 0, [], 0⟩).toArray)) w := by
  unfold execOp
  rw [ho]
  simp only [List.map_toArray, List.map_cons, List.map_nil, hx]
  rcases hk with rfl | rfl <;> kernel_rfl
def exA (q : Option Addr) : O := ⟨idK 1, q, 1, 1, [idK 2], 0⟩
def exB : O := ⟨idK 2, none, 0, 0, [], 0⟩
def exC : O := ⟨idK 3, none, 0, 0, [], 0⟩
theorem build3 (q : Option Addr) (a : Act) (w : World) (o : Oper) (x y z : Operand) (ho : o.op = .buildSlice 22 3 #[(0, x), (1, y), (2, z)]) (hx : a.eval x = .agg (objC (exA q)).toArray) (hy : a.eval y = .agg (objC exB).toArray) (hz : a.eval z = .agg (objC exC).toArray) :
    (execOp a.eval o).run Try.prog w = .ok (.value (.slice (some ⟨w.heap.size, 0, none⟩) 3 3)) (w.alloc (.cells (objC (exA q) ++ (objC exB ++ objC exC)).toArray 46)) := by
  obtain ⟨i0, hi, hz0, hz1, hz2⟩ := info_parts info46
  unfold execOp
  rw [ho]
  simp only [List.map_toArray, List.map_cons, List.map_nil, hx, hy, hz]
  have hr := run_buildSlice (P := Try.prog) w 22 46 3 #[(0, .agg (objC (exA q)).toArray), (1, .agg (objC exB).toArray), (2, .agg (objC exC).toArray)] (objC (exA q) ++ (objC exB ++ objC exC)).toArray i0 _ Try.underlying22 hi hz0 (by rw [hz1]; decide) (by rw [hz1]; decide) (by rw [hz1]; kernel_rfl)
  simp only [Sem.run_bind, hr, Result.andThen_ok, Sem.run_pure]
theorem exReach (q : Option Addr) : reachL [exA q, exB, exC] [idK 1] = [idK 1, idK 2] := by kernel_rfl
theorem exRl (q : Option Addr) : (linksL (reachL [exA q, exB, exC] [idK 1])).length = 2 := by kernel_rfl
theorem exKept (q : Option Addr) : keptL [exA q, exB, exC] [idK 1] = [exA q, exB] := by kernel_rfl
theorem exGone (q : Option Addr) : linksL (goneL [exA q, exB, exC] [idK 1]) = [idK 3] := by kernel_rfl

theorem one_id {W : World} {g k : Nat} (hk : k < 256) (h : Row W g 33 (u8s (idK k))) : IsIds W.heap.size W (some ⟨g, 0, none⟩) 1 1 [idK k] :=
  ⟨rfl, Nat.le_refl _, by omega, fun x hx => by simp at hx; subst hx; exact isId_K hk, .inr ⟨g, 0, rfl, h.lt, fun i hi => by
    obtain rfl : i = 0 := by omega
    simpa using h.range⟩⟩
theorem ex_objs {W : World} {b g : Nat} (h : Row W b 46 (objC (exA (some ⟨g, 0, none⟩)) ++ (objC exB ++ objC exC))) (hg : Row W g 33 (u8s (idK 2))) : IsObjs W.heap.size W (some ⟨b, 0, none⟩) 3 3 [exA (some ⟨g, 0, none⟩), exB, exC] := by
  have hA : (exA (some ⟨g, 0, none⟩)).ok := ⟨isId_K (by omega), by simp [exA]⟩
  have hB : exB.ok := ⟨isId_K (by omega), by simp [exB]⟩
  have hC : exC.ok := ⟨isId_K (by omega), by simp [exC]⟩
  have hall : ∀ x ∈ [exA (some ⟨g, 0, none⟩), exB, exC], x.ok := by
    intro x hx
    simp only [List.mem_cons, List.not_mem_nil, or_false] at hx
    rcases hx with rfl | rfl | rfl
    · exact hA
    · exact hB
    · exact hC
  refine ⟨rfl, Nat.le_refl _, by omega, hall, fun o ho => ?_, .inr ⟨b, 0, rfl, h.lt, fun i hi => ?_⟩⟩
  · simp only [List.mem_cons, List.not_mem_nil, or_false] at ho
    rcases ho with rfl | rfl | rfl
    · exact one_id (by omega) hg
    · exact ⟨rfl, Nat.le_refl _, by simp [exB], by simp [exB], .inl rfl⟩
    · exact ⟨rfl, Nat.le_refl _, by simp [exC], by simp [exC], .inl rfl⟩
  · rw [← flatO_drop hall i hi]
    have h2 : Row W b 46 ([exA (some ⟨g, 0, none⟩), exB, exC].flatMap objC) := by simpa using h
    exact range_part h2.range rfl

set_option maxRecDepth 100000 in
set_option maxHeartbeats 1000000 in
theorem awake_any (w : World) : Calls Try.prog 7 #[] w fun e w' => e = .returned (.bool true) ∧ Below w.heap.size w w' := by
  obtain ⟨i0, hi0, hz0, hz1, hz2⟩ := info_parts info33
  go_enter Try.func7, Try.ntmps7
  go_wp2_with (first
      | ((with_reducible show wpList _ _ _ (Oper.mk (some 7) (Op.build 33 _) _ _ _ _ :: _) _ _); refine wpList_val (v := idV (idK 1)) rfl (by unfold execOp; kernel_rfl) ?_; simp only [Act.put, List.setIfInBounds_toArray, List.set_cons_zero, List.set_cons_succ])
      | ((with_reducible show wpList _ _ _ (Oper.mk (some 8) (Op.build 33 _) _ _ _ _ :: _) _ _); refine wpList_val (v := idV (idK 2)) rfl (by unfold execOp; kernel_rfl) ?_; simp only [Act.put, List.setIfInBounds_toArray, List.set_cons_zero, List.set_cons_succ])
      | ((with_reducible show wpList _ _ _ (Oper.mk (some 9) (Op.build 33 _) _ _ _ _ :: _) _ _); refine wpList_val (v := idV (idK 3)) rfl (by unfold execOp; kernel_rfl) ?_; simp only [Act.put, List.setIfInBounds_toArray, List.set_cons_zero, List.set_cons_succ])
      | ((with_reducible show wpList _ _ _ (Oper.mk (some 1) (Op.alloc 33) _ _ _ _ :: _) _ _); refine wpList_allocId rfl rfl (fun A1 b1 r1 s1 => ?_); have HR1 := (show Hid (Row _ _ _ _) from r1); have HS1 := (show Hid (_ = _) from s1); clear r1 s1; simp only [Act.put, List.setIfInBounds_toArray, List.set_cons_zero, List.set_cons_succ])
      | ((with_reducible show wpList _ _ _ (Oper.mk (some 2) (Op.alloc 33) _ _ _ _ :: _) _ _); refine wpList_allocId rfl rfl (fun A2 b2 r2 s2 => ?_); have HR2 := (show Hid (Row _ _ _ _) from r2); have HR12 := (show Hid (Row _ _ _ _) from HR1.out.below b2 HR1.out.lt); have HS2 := (show Hid (_ = _) from s2); clear r2 s2; simp only [Act.put, List.setIfInBounds_toArray, List.set_cons_zero, List.set_cons_succ])
      | ((with_reducible show wpList _ _ _ (Oper.mk (some 3) (Op.alloc 33) _ _ _ _ :: _) _ _); refine wpList_allocId rfl rfl (fun A3 b3 r3 s3 => ?_); have HR3 := (show Hid (Row _ _ _ _) from r3); have HR23 := (show Hid (Row _ _ _ _) from HR2.out.below b3 HR2.out.lt); have HR13 := (show Hid (Row _ _ _ _) from HR12.out.below b3 HR12.out.lt); have HS3 := (show Hid (_ = _) from s3); clear r3 s3; simp only [Act.put, List.setIfInBounds_toArray, List.set_cons_zero, List.set_cons_succ])
      | ((with_reducible show wpList _ _ _ (Oper.mk none (Op.store 33 (.tmp 1) _) _ _ _ _ :: _) _ _); refine wpList_putId rfl (.tmp 1) (.tmp 7) rfl (isId_K (k := 1) (by omega)) rfl rfl HR13.out (by simp) (fun A4 b4 r4 s4 => ?_); have HR14 := (show Hid (Row _ _ _ _) from r4); have HR24 := (show Hid (Row _ _ _ _) from b4.row HR23.out.lt (by have := HS1.out; omega) HR23.out); have HR34 := (show Hid (Row _ _ _ _) from b4.row HR3.out.lt (by have := HS1.out; have := HS2.out; omega) HR3.out); have HS4 := (show Hid (_ = _) from s4); clear r4 s4; simp only [Act.put])
      | ((with_reducible show wpList _ _ _ (Oper.mk none (Op.store 33 (.tmp 2) _) _ _ _ _ :: _) _ _); refine wpList_putId rfl (.tmp 2) (.tmp 8) rfl (isId_K (k := 2) (by omega)) rfl rfl HR24.out (by simp) (fun A5 b5 r5 s5 => ?_); have HR25 := (show Hid (Row _ _ _ _) from r5); have HR15 := (show Hid (Row _ _ _ _) from b5.row HR14.out.lt (by have := HS1.out; omega) HR14.out); have HR35 := (show Hid (Row _ _ _ _) from b5.row HR34.out.lt (by have := HS1.out; have := HS2.out; omega) HR34.out); have HS5 := (show Hid (_ = _) from s5); clear r5 s5; simp only [Act.put])
      | ((with_reducible show wpList _ _ _ (Oper.mk none (Op.store 33 (.tmp 3) _) _ _ _ _ :: _) _ _); refine wpList_putId rfl (.tmp 3) (.tmp 9) rfl (isId_K (k := 3) (by omega)) rfl rfl HR35.out (by simp) (fun A6 b6 r6 s6 => ?_); have HR36 := (show Hid (Row _ _ _ _) from r6); have HR16 := (show Hid (Row _ _ _ _) from b6.row HR15.out.lt (by have := HS1.out; have := HS2.out; omega) HR15.out); have HR26 := (show Hid (Row _ _ _ _) from b6.row HR25.out.lt (by have := HS1.out; have := HS2.out; omega) HR25.out); have HS6 := (show Hid (_ = _) from s6); clear r6 s6; simp only [Act.put])
      | ((with_reducible show wpList _ _ _ (Oper.mk (some 10) (Op.load 33 _) _ _ _ _ :: _) _ _); refine wpList_loadId rfl (.tmp 1) rfl rfl (isId_K (k := 1) (by omega)) HR16.out.range ?_; simp only [Act.put, List.setIfInBounds_toArray, List.set_cons_zero, List.set_cons_succ])
      | ((with_reducible show wpList _ _ _ (Oper.mk (some 11) (Op.load 33 _) _ _ _ _ :: _) _ _); refine wpList_loadId rfl (.tmp 2) rfl rfl (isId_K (k := 2) (by omega)) HR26.out.range ?_; simp only [Act.put, List.setIfInBounds_toArray, List.set_cons_zero, List.set_cons_succ])
      | ((with_reducible show wpList _ _ _ (Oper.mk (some 12) (Op.buildSlice 23 1 _) _ _ _ _ :: _) _ _); refine wpList_buildOne rfl 23 33 (.tmp 11) rfl (u8s (idK 2)) rfl i0 _ Try.underlying23 hi0 hz0 (by rw [hz1, id_len (isId_K (by omega))]) (by rw [id_len (isId_K (by omega))]; omega) (by rw [id_len (isId_K (by omega))]; omega) ?_; obtain ⟨A7, hA7⟩ : ∃ A7, A6.alloc (.cells (u8s (idK 2)).toArray 33) = A7 := ⟨_, rfl⟩; rw [hA7]; have b7 : Below A6.heap.size A6 A7 := (by rw [← hA7]; exact (Below.refl _ A6).alloc (Nat.le_refl _) _); have HG7 : Hid (Row A7 A6.heap.size 33 (u8s (idK 2))) := (by show Row _ _ _ _; rw [← hA7]; exact Row.new' A6 33 _); have HR17 := (show Hid (Row _ _ _ _) from HR16.out.below b7 HR16.out.lt); have HR27 := (show Hid (Row _ _ _ _) from HR26.out.below b7 HR26.out.lt); have HR37 := (show Hid (Row _ _ _ _) from HR36.out.below b7 HR36.out.lt); clear hA7; simp only [Act.put, List.setIfInBounds_toArray, List.set_cons_zero, List.set_cons_succ])
      | ((with_reducible show wpList _ _ _ (Oper.mk (some 13) (Op.build 46 _) _ _ _ _ :: _) _ _); refine wpList_val rfl (build46a _ _ _ _ _ _ _ _ rfl rfl rfl) ?_; simp only [Act.put, List.setIfInBounds_toArray, List.set_cons_zero, List.set_cons_succ])
      | ((with_reducible show wpList _ _ _ (Oper.mk (some 14) (Op.load 33 _) _ _ _ _ :: _) _ _); refine wpList_loadId rfl (.tmp 2) rfl rfl (isId_K (k := 2) (by omega)) HR27.out.range ?_; simp only [Act.put, List.setIfInBounds_toArray, List.set_cons_zero, List.set_cons_succ])
      | ((with_reducible show wpList _ _ _ (Oper.mk (some 15) (Op.build 46 _) _ _ _ _ :: _) _ _); refine wpList_val rfl (build46b 2 (.inl rfl) _ _ _ _ rfl rfl) ?_; simp only [Act.put, List.setIfInBounds_toArray, List.set_cons_zero, List.set_cons_succ])
      | ((with_reducible show wpList _ _ _ (Oper.mk (some 16) (Op.load 33 _) _ _ _ _ :: _) _ _); refine wpList_loadId rfl (.tmp 3) rfl rfl (isId_K (k := 3) (by omega)) HR37.out.range ?_; simp only [Act.put, List.setIfInBounds_toArray, List.set_cons_zero, List.set_cons_succ])
      | ((with_reducible show wpList _ _ _ (Oper.mk (some 17) (Op.build 46 _) _ _ _ _ :: _) _ _); refine wpList_val rfl (build46b 3 (.inr rfl) _ _ _ _ rfl rfl) ?_; simp only [Act.put, List.setIfInBounds_toArray, List.set_cons_zero, List.set_cons_succ])
      | ((with_reducible show wpList _ _ _ (Oper.mk (some 18) (Op.buildSlice 22 3 _) _ _ _ _ :: _) _ _); refine wpList_val rfl (build3 (some ⟨A6.heap.size, 0, none⟩) _ _ _ _ _ _ rfl rfl rfl rfl) ?_; obtain ⟨A8, hA8⟩ : ∃ A8, A7.alloc (.cells (objC (exA (some ⟨A6.heap.size, 0, none⟩)) ++ (objC exB ++ objC exC)).toArray 46) = A8 := ⟨_, rfl⟩; rw [hA8]; have b8 : Below A7.heap.size A7 A8 := (by rw [← hA8]; exact (Below.refl _ A7).alloc (Nat.le_refl _) _); have HO8 : Hid (Row A8 A7.heap.size 46 (objC (exA (some ⟨A6.heap.size, 0, none⟩)) ++ (objC exB ++ objC exC))) := (by show Row _ _ _ _; rw [← hA8]; exact Row.new' A7 46 _); have HR18 := (show Hid (Row _ _ _ _) from HR17.out.below b8 HR17.out.lt); have HR38 := (show Hid (Row _ _ _ _) from HR37.out.below b8 HR37.out.lt); have HG8 := (show Hid (Row _ _ _ _) from HG7.out.below b8 HG7.out.lt); clear hA8; simp only [Act.put, List.setIfInBounds_toArray, List.set_cons_zero, List.set_cons_succ])
      | ((with_reducible show wpList _ _ _ (Oper.mk (some 21) (Op.load 33 _) _ _ _ _ :: _) _ _); refine wpList_loadId rfl (.tmp 1) rfl rfl (isId_K (k := 1) (by omega)) HR18.out.range ?_; simp only [Act.put, List.setIfInBounds_toArray, List.set_cons_zero, List.set_cons_succ])
      | ((with_reducible show wpList _ _ _ (Oper.mk (some 22) (Op.buildSlice 23 1 _) _ _ _ _ :: _) _ _); refine wpList_buildOne rfl 23 33 (.tmp 21) rfl (u8s (idK 1)) rfl i0 _ Try.underlying23 hi0 hz0 (by rw [hz1, id_len (isId_K (by omega))]) (by rw [id_len (isId_K (by omega))]; omega) (by rw [id_len (isId_K (by omega))]; omega) ?_; obtain ⟨A9, hA9⟩ : ∃ A9, A8.alloc (.cells (u8s (idK 1)).toArray 33) = A9 := ⟨_, rfl⟩; rw [hA9]; have b9 : Below A8.heap.size A8 A9 := (by rw [← hA9]; exact (Below.refl _ A8).alloc (Nat.le_refl _) _); have HT9 : Hid (Row A9 A8.heap.size 33 (u8s (idK 1))) := (by show Row _ _ _ _; rw [← hA9]; exact Row.new' A8 33 _); have HR19 := (show Hid (Row _ _ _ _) from HR18.out.below b9 HR18.out.lt); have HR39 := (show Hid (Row _ _ _ _) from HR38.out.below b9 HR38.out.lt); have HG9 := (show Hid (Row _ _ _ _) from HG8.out.below b9 HG8.out.lt); have HO9 := (show Hid (Row _ _ _ _) from HO8.out.below b9 HO8.out.lt); clear hA9; simp only [Act.put, List.setIfInBounds_toArray, List.set_cons_zero, List.set_cons_succ])
      | (go_at_call 14; refine (sweep_any _ 3 3 _ 1 1 _ [idK 1] (by omega) (by omega) (by simp [exA, exB, exC]) A9 (ex_objs HO9.out HG9.out) (one_id (by omega) HT9.out)).mono ?_; rintro e A10 ⟨q1, n1, ks, q2, n2, rfl, hob, hkey, hgo, b10⟩; obtain rfl : n1 = 2 := (by have h1 := hob.1; have h2 := congrArg List.length hkey; rw [exKept] at h2; simp at h2; omega); rw [exGone] at hgo; obtain rfl : n2 = 1 := hgo.1.symm; have HOb := (show Hid (IsObjs _ _ _ _ _ _) from hob); have HGo := (show Hid (IsIds _ _ _ _ _ _) from hgo); clear hob hgo hkey))
  obtain ⟨gb, goff, e2, hgb, hgr, _⟩ := HGo.out.at (k := 0) (by omega)
  subst e2
  have hR1 : Row A10 w.heap.size 33 (u8s (idK 1)) := HR19.out.below b10 HR19.out.lt
  have hR3 : Row A10 A2.heap.size 33 (u8s (idK 3)) := HR39.out.below b10 HR39.out.lt
  have hO10 : Row A10 A7.heap.size 46 (objC (exA (some ⟨A6.heap.size, 0, none⟩)) ++ (objC exB ++ objC exC)) := HO9.out.below b10 HO9.out.lt
  have hG10 : Row A10 A6.heap.size 33 (u8s (idK 2)) := HG9.out.below b10 HG9.out.lt
  have hS : ∀ A, Below A10.heap.size A10 A → A.rangeAt w.heap.size 0 (u8s (idK 1)) ∧ A.rangeAt A2.heap.size 0 (u8s (idK 3)) ∧ A.rangeAt gb goff (u8s (idK 3)) := fun A hb =>
    ⟨(hR1.below hb hR1.lt).range, (hR3.below hb hR3.lt).range, rangeAt_below hb hgb (by simpa using hgr)⟩
  have hbw : Below w.heap.size w A10 := by
    have e1 := HS1.out; have e2 := HS2.out; have e3 := HS3.out; have e4 := HS4.out; have e5 := HS5.out; have e6 := HS6.out
    have f3 : Below w.heap.size w A3 := b1.trans ((b2.mono (by omega)).trans (b3.mono (by omega)))
    have f4 : Below w.heap.size w A4 := f3.trans ⟨b4.os, b4.tape, b4.output, b4.size, fun k hk => b4.block k (by omega) (by omega)⟩
    have f5 : Below w.heap.size w A5 := f4.trans ⟨b5.os, b5.tape, b5.output, b5.size, fun k hk => b5.block k (by omega) (by omega)⟩
    have f6 : Below w.heap.size w A6 := f5.trans ⟨b6.os, b6.tape, b6.output, b6.size, fun k hk => b6.block k (by omega) (by omega)⟩
    have g7 := b7.size; have g8 := b8.size; have g9 := b9.size
    exact ((f6.trans (b7.mono (by omega))).trans (b8.mono (by omega))).trans ((b9.mono (by omega)).trans (b10.mono (by omega)))
  have heq := equal_idV (isId_K (k := 3) (by omega)) (isId_K (k := 3) (by omega))
  have HSs := (show Hid (∀ A, Below A10.heap.size A10 A → A.rangeAt w.heap.size 0 (u8s (idK 1)) ∧ A.rangeAt A2.heap.size 0 (u8s (idK 3)) ∧ A.rangeAt gb goff (u8s (idK 3))) from hS)
  have HBw := (show Hid (Below _ _ _) from hbw)
  have HO10 := (show Hid (Row _ _ _ _) from hO10)
  have HG10 := (show Hid (Row _ _ _ _) from hG10)
  clear hS hbw hO10 hG10 hR1 hR3 hgr HGo HOb HS1 HS2 HS3 HS4 HS5 HS6 b1 b2 b3 b4 b5 b6 b7 b8 b9 b10 HR1 HR12 HR13 HR14 HR15 HR16 HR17 HR18 HR19 HR2 HR23 HR24 HR25 HR26 HR27 HR3 HR34 HR35 HR36 HR37 HR38 HR39 HG7 HG8 HG9 HO8 HO9 HT9
  refine wp_region_held_drew (S := fun A => A.rangeAt w.heap.size 0 (u8s (idK 1)) ∧ A.rangeAt A2.heap.size 0 (u8s (idK 3)) ∧ A.rangeAt gb goff (u8s (idK 3))) (by kernel_rfl) (HSs.out _ (Below.refl _ _).drew) (fun hHeld => ?_)
  refine wpAnyH_takesAt 0 1 23 (of_decide_eq_true (by kernel_rfl)) rfl (fun _ _ _ d _ h => by cases d <;> exact h) (by kernel_rfl) (by kernel_rfl) hHeld ?_
  simp only [List.drop_zero, List.take_succ_cons, List.take_zero]
  iterate 1 (refine wpHeld_step (v := ?_) (by rfl) (fun wz hSw => ?_) ?_; rotate_left; (focus ((try dsimp only at hSw); go_simp; try with_reducible rfl)); ((simp only [Act.put]; (try simp only [List.setIfInBounds_toArray]); (try simp only [List.set_cons_succ]); (try simp only [List.set_cons_zero]))))
  refine wpHeld_nil ?_
  refine wpAnyH_takesAt 1 1 22 (of_decide_eq_true (by kernel_rfl)) rfl (fun _ _ _ d _ h => by cases d <;> exact h) (by kernel_rfl) (by kernel_rfl) hHeld ?_
  simp only [List.drop_succ_cons, List.drop_zero, List.take_succ_cons, List.take_zero]
  refine wpHeld_load (by rfl) 33 (.tmp 1) rfl w.heap.size 0 rfl (u8s (idK 1)) (fun W hW => hW.1) Try.underlying33 (size33' (isId_K (by omega))) ?_
  (simp only [Act.put]; (try simp only [List.setIfInBounds_toArray]); (try simp only [List.set_cons_succ]); (try simp only [List.set_cons_zero]))
  refine wpHeld_nil ?_
  refine wpAnyH_only (i := 2) (by kernel_rfl) rfl (fun K hK => ?_)
  rw [if_pos (by rfl)]
  obtain ⟨A11, hA11⟩ : ∃ A11, A10.drew.alloc (.cells (u8s (idK 1)).toArray 33) = A11 := ⟨_, rfl⟩
  have b11 : Below A10.heap.size A10 A11 := by rw [← hA11]; exact (Below.refl _ A10).drew.alloc (Nat.le_refl _) _
  have HT11 : Hid (Row A11 A10.drew.heap.size 33 (u8s (idK 1))) := by show Row _ _ _ _; rw [← hA11]; exact Row.new' A10.drew 33 _
  refine wp_buildOne 23 33 (.tmp 27) rfl (u8s (idK 1)) rfl i0 _ Try.underlying23 hi0 hz0 (by rw [hz1, id_len (isId_K (by omega))]) (by rw [id_len (isId_K (by omega))]; omega) (by rw [id_len (isId_K (by omega))]; omega) ?_
  rw [hA11]
  refine hK.out _ _ (HSs.out _ b11) ?_
  clear hK K hA11
  (simp only [Act.put]; (try simp only [List.setIfInBounds_toArray]); (try simp only [List.set_cons_succ]); (try simp only [List.set_cons_zero]))
  have HO11 := (show Hid (Row _ _ _ _) from HO10.out.below b11 HO10.out.lt)
  have HG11 := (show Hid (Row _ _ _ _) from HG10.out.below b11 HG10.out.lt)
  refine wpAnyH_only (i := 3) (by kernel_rfl) rfl (fun K hK => ?_)
  rw [if_pos (by rfl)]
  go_simp
  refine (reach_any _ 3 3 _ 1 1 _ [idK 1] (by omega) (by omega) (by simp [exA, exB, exC]) A11 (ex_objs HO11.out HG11.out) (one_id (by omega) HT11.out)).mono ?_
  rintro e A12 ⟨q4, n4, rfl, hI4, b12⟩
  obtain rfl : n4 = 2 := by have h := hI4.1; rw [exRl] at h; exact h.symm
  have hHeld := HSs.out A12 (b11.trans (b12.mono b11.size))
  refine hK.out _ _ hHeld ?_
  clear hK K hI4
  refine wpAnyH_takesAt 4 15 5 (of_decide_eq_true (by kernel_rfl)) rfl (fun _ _ _ d _ h => by cases d <;> exact h) (by kernel_rfl) (by kernel_rfl) hHeld ?_
  simp only [List.drop_succ_cons, List.drop_zero, List.take_succ_cons, List.take_zero]
  iterate 15 (refine wpHeld_step (v := ?_) (by rfl) (fun wz hSw => ?_) ?_; rotate_left; (focus ((try dsimp only at hSw); go_simp; try with_reducible rfl)); (simp only [Act.put, List.setIfInBounds_toArray, List.set_cons_zero, List.set_cons_succ]))
  refine wpHeld_nil ?_
  refine wpAnyH_takesAt 19 1 4 (of_decide_eq_true (by kernel_rfl)) rfl (fun _ _ _ d _ h => by cases d <;> exact h) (by kernel_rfl) (by kernel_rfl) hHeld ?_
  simp only [List.drop_succ_cons, List.drop_zero, List.take_succ_cons, List.take_zero]
  refine wpHeld_load (by rfl) 33 (.tmp 44) rfl gb goff rfl (u8s (idK 3)) (fun W hW => hW.2.2) Try.underlying33 (size33' (isId_K (by omega))) ?_
  (simp only [Act.put]; (try simp only [List.setIfInBounds_toArray]); (try simp only [List.set_cons_succ]); (try simp only [List.set_cons_zero]))
  refine wpHeld_nil ?_
  refine wpAnyH_takesAt 20 1 3 (of_decide_eq_true (by kernel_rfl)) rfl (fun _ _ _ d _ h => by cases d <;> exact h) (by kernel_rfl) (by kernel_rfl) hHeld ?_
  simp only [List.drop_succ_cons, List.drop_zero, List.take_succ_cons, List.take_zero]
  refine wpHeld_load (by rfl) 33 (.tmp 3) rfl A2.heap.size 0 rfl (u8s (idK 3)) (fun W hW => hW.2.1) Try.underlying33 (size33' (isId_K (by omega))) ?_
  (simp only [Act.put]; (try simp only [List.setIfInBounds_toArray]); (try simp only [List.set_cons_succ]); (try simp only [List.set_cons_zero]))
  refine wpHeld_nil ?_
  change wpAnyH _ _ _ _ _ _ _ { tmps := #[_, _, _, _, _, _, _, _, _, _, _, _, _, _, _, _, _, _, _, _, _, _, _, _, _, _, _, _, _, _, _, _, _, _, _, _, _, _, _, _, _, _, _, _, _, idV (idK 3), idV (idK 3), _, _], defers := _ } _
  refine wpAnyH_takesAt 21 3 0 (of_decide_eq_true (by kernel_rfl)) rfl (fun _ _ _ d _ h => by cases d <;> exact h) (by kernel_rfl) (by kernel_rfl) hHeld ?_
  simp only [List.drop_succ_cons, List.drop_zero, List.take_succ_cons, List.take_zero]
  refine wpHeld_step (v := .bool true) (by rfl) (fun wz hSw => ?_) ?_
  · clear hSw hHeld
    kernel_rfl
  simp only [Act.put, List.setIfInBounds_toArray, List.set_cons_zero, List.set_cons_succ]
  refine wpHeld_step (v := .bool true) (by rfl) (fun wz hSw => by kernel_rfl) ?_
  simp only [Act.put, List.setIfInBounds_toArray, List.set_cons_zero, List.set_cons_succ]
  refine wpHeld_step (v := .bool true) (by rfl) (fun wz hSw => by kernel_rfl) ?_
  (simp only [Act.put]; (try simp only [List.setIfInBounds_toArray]); (try simp only [List.set_cons_succ]); (try simp only [List.set_cons_zero]))
  refine wpHeld_nil ?_
  refine wpAnyH_done (by kernel_rfl) ?_ _
  go_wp2
  go_ret
  exact ⟨rfl, HBw.out.trans ((b11.mono HBw.out.size).trans (b12.mono (Nat.le_trans HBw.out.size b11.size)))⟩
end Go.Proofs.Ytfclbdlkpnoceaa
