/-
  Records' parts: firstOf.
-/
import Derived.Test.YtifjkkfienmdjaaRecA
namespace Go.Proofs.Ytifjkkfienmdjaa
open Go.RowKit Go.Shelf

theorem wpList_copy_but {P : Program} {w : World} {ops : Array Oper} {rest : List Oper} {o : Oper} {a : Act} {Q : Exit → Act → World → Prop} (hgd : o.guard = none) (d s : Operand) (dT sT : TypeId)
    (ho : o.op = .call { callee := .builtin .copy, args := #[d, s], argTypes := #[dT, sT] }) (elem : TypeId) (hu : P.underlying dT = some (.slice elem)) (hsz : (P.info? elem).map (·.size) = some 1)
    (dp sp : Option Addr) (dLen dCap sLen sCap : Nat) (hd : a.eval d = .slice dp dLen dCap) (hs : a.eval s = .slice sp sLen sCap)
    (g off : Nat) (cur : List Value) (t : TypeId) (hg : Row w g t cur) (cs : List Value) (hn : cs.length = Nat.min sLen dLen)
    (hpos : 0 < cs.length → dp = some ⟨g, off, none⟩ ∧ ∃ ad, sp = some ad ∧ ∀ j v, cs[j]? = some v → w.cell? (ad.add j) = some v)
    (hfit : off + cs.length ≤ cur.length) (h1 : ∀ v ∈ cs, v.oneCell' = true)
    (h : ∀ w', Hid (Row w' g t (splice cur off cs)) → But g w.heap.size w w' → wpList P ops Q rest (a.put o.dst (goInt cs.length)) w') :
    wpList P ops Q (o :: rest) a w := by
  by_cases h0 : cs.length = 0
  · obtain rfl : cs = [] := List.eq_nil_of_length_eq_zero h0
    refine wpList_copy_nothing hgd d s dT sT ho elem hu hsz dp sp dLen dCap sLen sCap hd hs (by simpa using hn.symm) ?_
    exact h w (show Row _ _ _ _ by simpa [splice] using hg) ⟨rfl, rfl, rfl, Nat.le_refl _, fun _ _ _ => rfl⟩
  · obtain ⟨rfl, ad, rfl, hsrc⟩ := hpos (by omega)
    refine wpList_plain hgd fun K hK => ?_
    exact wp_copy_but d s dT sT ho elem hu hsz g off dLen dCap ad sLen sCap hd hs cur t hg cs hn hsrc hfit h1 (fun w' hr hb => hK _ _ (h w' hr hb))

theorem head_mark9 (zs : List Nat) (gen num : Nat) : splice (h2L zs) 55 (mark9 gen num) = headL zs gen num := by
  have l2 := h2L_len zs
  refine list_eq_getD (by rw [splice_length (by rw [l2, mark9_len]; omega), l2, headL_len]) (fun i hi => ?_)
  rw [splice_length (by rw [l2, mark9_len]; omega), l2] at hi
  have e4 : (headL zs gen num).getD i 0 = if i = 63 then 165 else (h4L zs gen num).getD i 0 := by
    rw [headL, List.getD_eq_getElem?_getD, List.getElem?_set]
    by_cases h : i = 63
    · subst h
      simp [h4L_len]
    · rw [if_neg (fun e => h e.symm), if_neg h, List.getD_eq_getElem?_getD]
  rw [e4, getD_splice (by rw [l2, mark9_len]; omega), mark9_len, h4L, getD_splice (by rw [h3L_len, le4_len]; omega), le4_len, h3L, getD_splice (by rw [l2, le4_len]; omega), le4_len]
  by_cases h : i < 55
  · rw [if_pos h, if_neg (by omega), if_pos (by omega), if_pos h]
  · obtain rfl | rfl | rfl | rfl | rfl | rfl | rfl | rfl | rfl : i = 55 ∨ i = 56 ∨ i = 57 ∨ i = 58 ∨ i = 59 ∨ i = 60 ∨ i = 61 ∨ i = 62 ∨ i = 63 := by omega
    all_goals rfl

set_option maxRecDepth 100000 in
set_option maxHeartbeats 4000000 in
theorem firstOf_any (p : Option Addr) (len cap : Nat) (zs : List Nat) (gen num : Nat) (w : World) (hI : IsBytes w.heap.size w p len cap zs) (hlen : len ≤ 1000000) (hnum : num ≤ 1000000) :
    Calls Try.prog 52 #[.slice p len cap, .int .u32 (gen : Nat), .int .i64 (num : Nat)] w fun e w' => e = .returned (.agg (u8s (headL zs gen num)).toArray) ∧ Below w.heap.size w w' := by
  obtain ⟨w0, HW0, hb0, hs0, hr0⟩ := new29 w
  obtain ⟨w1, HW1, hb1, hs1, hr1⟩ := new29 w0
  have HI : Hid (IsBytes w.heap.size w p len cap zs) := hI
  have hcv : IntKind.u32.wrap ((len : Nat) : Int) = ((len : Nat) : Int) := by rw [IntKind.wrap_u32]; omega
  have HMk : Hid (∀ W, Calls Try.prog 46 #[.int .u32 (gen : Nat), .int .i64 (num : Nat)] W fun e w' => e = .returned (.agg (u8s (mark9 gen num)).toArray) ∧ Below W.heap.size W w') := fun W => markOf_any gen num hnum W
  have R61 : Hid (Row w1 w.heap.size 55 (u8s zeros64)) := hr0.later hb1
  have R71 : Hid (Row w1 (w.heap.size + 1) 55 (u8s zeros64)) := by rw [← hs0]; exact hr1
  have B1 : Hid (Below w.heap.size w w1) := hb0.trans (hb1.mono hb0.size)
  have zeros64_len : zeros64.length = 64 := by simp [zeros64]
  have HLn : Hid (zs.length = len) := hI.1
  obtain ⟨M, hM⟩ : ∃ M, u8s (mark9 gen num) = M := ⟨_, rfl⟩
  have HM : Hid (u8s (mark9 gen num) = M) := hM
  have HML : Hid (M.length = 9) := by show _ = _; rw [← hM]; rfl
  have HMO : Hid (∀ v ∈ M, v.oneCell' = true) := by rw [← hM]; exact u8s_one _
  rw [hM] at HMk
  have HLh : Hid ((u8s (headL zs gen num)).length = 64) := by show _ = _; rw [u8s_length, headL, List.length_set, h4L_len]
  have HOh : Hid (∀ v ∈ u8s (headL zs gen num), v.oneCell' = true) := u8s_one _
  have HLz : Hid ((u8s zeros64).length = 64) := by show _ = _; simp [zeros64]
  obtain ⟨H, hH⟩ : ∃ H, u8s (headL zs gen num) = H := ⟨_, rfl⟩
  have HH : Hid (u8s (headL zs gen num) = H) := hH
  rw [hH] at HLh HOh ⊢
  clear hI hr0 hr1 hb0 hb1 hM hH
  go_enter Try.func52, Try.ntmps52
  go_upto_region 3 with (first
    | (rw [HW0.out])
    | (rw [HW1.out])
    | (go_at_call 46; refine (HMk.out _).mono ?_; rintro e wm ⟨rfl, hbm⟩; obtain ⟨w2, HW2, hb2, hs2, hr2⟩ := new91 wm; have R6m : Hid (Row w2 w.heap.size 55 (u8s zeros64)) := (R61.out.later hbm).later hb2; have R7m : Hid (Row w2 (w.heap.size + 1) 55 (u8s zeros64)) := (R71.out.later hbm).later hb2; have hm8 : w.heap.size + 1 < wm.heap.size := (R71.out.later hbm).lt; have R8m : Hid (Row w2 wm.heap.size 91 (u8s zeros9)) := hr2; have B2 : Hid (Below w.heap.size w w2) := (B1.out.trans (hbm.mono B1.out.size)).trans (hb2.mono (by omega)); clear hr2 hb2 hbm)
    | (rw [HW2.out])
    | ((with_reducible show wpList _ _ _ (Oper.mk _ (Op.store 91 (.tmp 8) (.tmp 11)) _ _ _ _ :: _) _ _); refine wpList_store_Row rfl 91 (.tmp 8) (.tmp 11) rfl M rfl rfl R8m.out (by rw [HML.out]; exact size91) (by rw [HML.out]; rfl) HMO.out ?_; simp only [Act.put]))
  obtain ⟨w3, hw3⟩ : ∃ w3, w2.setCells wm.heap.size 0 M = w3 := ⟨_, rfl⟩
  have R83 : Hid (Row w3 wm.heap.size 91 M) := by rw [← hw3]; exact Row.sets_all R8m.out (by rw [HML.out]; rfl)
  have R63 : Hid (Row w3 w.heap.size 55 (u8s zeros64)) := by rw [← hw3]; exact Row.others (by omega) M 0 R6m.out
  have R73 : Hid (Row w3 (w.heap.size + 1) 55 (u8s zeros64)) := by rw [← hw3]; exact Row.others (by omega) M 0 R7m.out
  have B3 : Hid (Below w.heap.size w w3) := by rw [← hw3]; exact below_setCells (by omega) _ _ B2.out
  rw [hw3]
  clear hw3 R6m R7m R8m B2
  have hl3 := R83.out.lt
  refine wp_region_held_drew (S := fun _ => True) (by kernel_rfl) trivial (fun hHeld => ?_)
  refine wpAnyH_takesAt 0 1 6 (of_decide_eq_true (by kernel_rfl)) rfl (fun _ _ _ d _ h => by cases d <;> exact h) (by kernel_rfl) (by kernel_rfl) hHeld ?_
  simp only [List.drop_zero, List.take_succ_cons, List.take_zero]
  iterate 1 (refine wpHeld_step (v := ?_) (by rfl) (fun wz hSw => ?_) ?_; rotate_left; (focus ((try dsimp only at hSw); go_simp; try with_reducible rfl)); ((simp only [Act.put]; (try simp only [List.setIfInBounds_toArray]); (try simp only [List.set_cons_succ]); (try simp only [List.set_cons_zero]))))
  refine wpHeld_nil ?_
  refine wpAnyH_takesAt 1 1 5 (of_decide_eq_true (by kernel_rfl)) rfl (fun _ _ _ d _ h => by cases d <;> exact h) (by kernel_rfl) (by kernel_rfl) hHeld ?_
  simp only [List.drop_succ_cons, List.drop_zero, List.take_succ_cons, List.take_zero]
  iterate 1 (refine wpHeld_step (v := ?_) (by rfl) (fun wz hSw => ?_) ?_; rotate_left; (focus ((try dsimp only at hSw); go_simp; try with_reducible rfl)); ((simp only [Act.put]; (try simp only [List.setIfInBounds_toArray]); (try simp only [List.set_cons_succ]); (try simp only [List.set_cons_zero]))))
  refine wpHeld_nil ?_
  refine wpAnyH_takesAt 2 1 4 (of_decide_eq_true (by kernel_rfl)) rfl (fun _ _ _ d _ h => by cases d <;> exact h) (by kernel_rfl) (by kernel_rfl) hHeld ?_
  simp only [List.drop_succ_cons, List.drop_zero, List.take_succ_cons, List.take_zero]
  iterate 1 (refine wpHeld_step (v := ?_) (by rfl) (fun wz hSw => ?_) ?_; rotate_left; (focus ((try dsimp only at hSw); go_simp; try with_reducible rfl)); ((simp only [Act.put]; (try simp only [List.setIfInBounds_toArray]); (try simp only [List.set_cons_succ]); (try simp only [List.set_cons_zero]))))
  refine wpHeld_nil ?_
  refine wpAnyH_takesAt 3 1 3 (of_decide_eq_true (by kernel_rfl)) rfl (fun _ _ _ d _ h => by cases d <;> exact h) (by kernel_rfl) (by kernel_rfl) hHeld ?_
  simp only [List.drop_succ_cons, List.drop_zero, List.take_succ_cons, List.take_zero]
  iterate 1 (refine wpHeld_step (v := ?_) (by rfl) (fun wz hSw => ?_) ?_; rotate_left; (focus ((try dsimp only at hSw); go_simp; try with_reducible rfl)); ((simp only [Act.put]; (try simp only [List.setIfInBounds_toArray]); (try simp only [List.set_cons_succ]); (try simp only [List.set_cons_zero]))))
  refine wpHeld_nil ?_
  refine wpAnyH_only (i := 4) (by kernel_rfl) rfl (fun K hK => ?_)
  rw [if_pos (by rfl)]
  go_simp
  refine hK.out _ _ trivial ?_
  clear hK K
  refine wpAnyH_only (i := 5) (by kernel_rfl) rfl (fun K hK => ?_)
  rw [if_pos (by rfl)]
  go_simp
  have hrB := (Row.new w3 26 #[.int .u32 (len : Nat)]).drew
  have hbB : Below w3.heap.size w3 (w3.alloc (.cells #[.int .u32 (len : Nat)] 26)).drew := ((Below.refl _ w3).alloc (Nat.le_refl _) _).drew
  refine (bytes_some w3.heap.size 0 1 1 [len] _ (by omega) hrB.lt (fun i hi => ?_)).mono ?_
  · obtain rfl : i = 0 := by omega
    exact hrB.cell (i := 0) rfl
  rintro e v4 ⟨u4, rfl, hown4, hb4⟩
  rw [bytes1] at hown4
  obtain ⟨g4, c4, rfl, hg4, hg4l, hsrc4⟩ := own_src hown4 (by omega)
  refine hK.out _ _ trivial ?_
  clear hK K
  have hbv4 : Below w3.heap.size w3 v4 := hbB.trans (hb4.mono hbB.size)
  refine wpAnyH_only (i := 6) (by kernel_rfl) rfl (fun K hK => ?_)
  rw [if_pos (by rfl)]
  refine wp_copy_but (.tmp 12) (.tmp 17) 25 25 rfl 5 Try.underlying25 size5 (w.heap.size + 1) 0 64 64 ⟨g4, 0, none⟩ 4 c4 rfl rfl _ 55 (R73.out.later hbv4) (u8s (le4 len)) (by rfl) hsrc4 (by simp only [u8s_length, zeros64_len]; simp [le4]) (u8s_one _) (fun w4 hrow4 hbut4 => ?_)
  refine hK.out _ _ trivial ?_
  clear hK K hHeld
  simp only [Act.put, List.getElem_toArray, List.getElem_cons_succ, List.getElem_cons_zero, List.setIfInBounds_toArray, List.set_cons_succ, List.set_cons_zero]
  refine wpAnyH_done (by kernel_rfl) ?_ _
  have R74 : Hid (Row w4 (w.heap.size + 1) 55 (u8s (h1L zs.length))) := by
    rw [splice_u8s] at hrow4
    rw [HLn.out]
    exact hrow4
  have R64 : Hid (Row w4 w.heap.size 55 (u8s zeros64)) := hbut4.row (R63.out.later hbv4).lt (by omega) (R63.out.later hbv4)
  have R84 : Hid (Row w4 wm.heap.size 91 M) := hbut4.row (R83.out.later hbv4).lt (by omega) (R83.out.later hbv4)
  have B4 : Hid (Below w.heap.size w w4) := (B3.out.trans (hbv4.mono B3.out.size)).trans (hbut4.below (by have := B3.out.size; have := hbv4.size; omega) (by omega))
  clear hrow4 hbut4 hsrc4 hown4 hb4 hbv4 hg4 hrB hbB
  go_upto_region 5 with ((with_reducible show wpList _ _ _ (Oper.mk (some 21) _ _ _ _ _ :: _) _ _); refine wpList_copy_but rfl (.tmp 19) (.tmp 20) 25 25 rfl 5 Try.underlying25 size5 _ _ _ _ _ _ rfl rfl (w.heap.size + 1) 4 (u8s (h1L zs.length)) 55 R74.out (u8s (zs.take 51)) (by rw [u8s_length, List.length_take, HLn.out]; exact Nat.min_comm _ _) (fun h0 => ⟨rfl, bytes_src_take (HI.out.below B4.out) 51 h0⟩) (by simp only [u8s_length, h1L_len, List.length_take]; omega) (u8s_one _) ?_; intro w5 HG5 hbut5; have R75 : Hid (Row w5 (w.heap.size + 1) 55 (u8s (h2L zs))) := (by have := HG5.out; rw [splice_u8s] at this; exact this); have R65 : Hid (Row w5 w.heap.size 55 (u8s zeros64)) := hbut5.row R64.out.lt (by omega) R64.out; have R85 : Hid (Row w5 wm.heap.size 91 M) := hbut5.row R84.out.lt (by omega) R84.out; have B5 : Hid (Below w.heap.size w w5) := B4.out.trans (hbut5.below (by have := B4.out.size; omega) (by omega)); clear HG5 hbut5; simp only [Act.put, List.setIfInBounds_toArray, List.set_cons_zero, List.set_cons_succ])
  refine wp_region_held_drew (S := fun _ => True) (by kernel_rfl) trivial (fun hHeld => ?_)
  refine wpAnyH_takesAt 0 1 2 (of_decide_eq_true (by kernel_rfl)) rfl (fun _ _ _ d _ h => by cases d <;> exact h) (by kernel_rfl) (by kernel_rfl) hHeld ?_
  simp only [List.drop_zero, List.take_succ_cons, List.take_zero]
  iterate 1 (refine wpHeld_step (v := ?_) (by rfl) (fun wz hSw => ?_) ?_; rotate_left; (focus ((try dsimp only at hSw); go_simp; try with_reducible rfl)); ((simp only [Act.put]; (try simp only [List.setIfInBounds_toArray]); (try simp only [List.set_cons_succ]); (try simp only [List.set_cons_zero]))))
  refine wpHeld_nil ?_
  refine wpAnyH_takesAt 1 1 1 (of_decide_eq_true (by kernel_rfl)) rfl (fun _ _ _ d _ h => by cases d <;> exact h) (by kernel_rfl) (by kernel_rfl) hHeld ?_
  simp only [List.drop_succ_cons, List.drop_zero, List.take_succ_cons, List.take_zero]
  iterate 1 (refine wpHeld_step (v := ?_) (by rfl) (fun wz hSw => ?_) ?_; rotate_left; (focus ((try dsimp only at hSw); go_simp; try with_reducible rfl)); ((simp only [Act.put]; (try simp only [List.setIfInBounds_toArray]); (try simp only [List.set_cons_succ]); (try simp only [List.set_cons_zero]))))
  refine wpHeld_nil ?_
  refine wpAnyH_only (i := 2) (by kernel_rfl) rfl (fun K hK => ?_)
  rw [if_pos (by rfl)]
  have HSrc : Hid (∀ j v, M[j]? = some v → w5.drew.cell? ((⟨wm.heap.size, 0, none⟩ : Addr).add j) = some v) := fun j v hj => by
    rw [Addr.add_mid, Nat.zero_add]
    exact R85.out.drew.cell hj
  refine wp_copy_but (.tmp 22) (.tmp 23) 25 25 rfl 5 Try.underlying25 size5 (w.heap.size + 1) 55 9 9 ⟨wm.heap.size, 0, none⟩ 9 9 rfl rfl _ 55 R75.out.drew M (by rw [HML.out]; rfl) HSrc.out (by rw [HML.out, u8s_length, h2L_len]; omega) HMO.out (fun w6 hrow6 hbut6 => ?_)
  refine hK.out _ _ trivial ?_
  clear hK K hHeld
  simp only [Act.put, List.getElem_toArray, List.getElem_cons_succ, List.getElem_cons_zero, List.setIfInBounds_toArray, List.set_cons_succ, List.set_cons_zero]
  refine wpAnyH_done (by kernel_rfl) ?_ _
  have R76 : Hid (Row w6 (w.heap.size + 1) 55 H) := by
    rw [← HM.out, splice_u8s, head_mark9, HH.out] at hrow6
    exact hrow6
  have R66 : Hid (Row w6 w.heap.size 55 (u8s zeros64)) := hbut6.row R65.out.drew.lt (by omega) R65.out.drew
  have B6 : Hid (Below w.heap.size w w6) := B5.out.drew.trans (hbut6.below (by have := B5.out.size; exact this) (by omega))
  clear hrow6 hbut6
  generalize u8s zeros64 = Z at *
  go_wp2_with (first
    | ((with_reducible show wpList _ _ _ (Oper.mk (some 25) (Op.load 55 (.tmp 7)) _ _ _ _ :: _) _ _); refine wpList_load_Row rfl 55 (.tmp 7) rfl rfl R76.out Try.underlying55 (by rw [HLh.out]; exact size55) ?_; simp only [Act.put, List.setIfInBounds_toArray, List.set_cons_zero, List.set_cons_succ])
    | ((with_reducible show wpList _ _ _ (Oper.mk _ (Op.store 55 (.tmp 6) (.tmp 25)) _ _ _ _ :: _) _ _); refine wpList_store_Row rfl 55 (.tmp 6) (.tmp 25) rfl H rfl rfl R66.out (by rw [HLh.out]; exact size55) (by rw [HLh.out, HLz.out]) HOh.out ?_; simp only [Act.put]))
  refine bodyPost_ret (results_Row rfl rfl (Row.sets_all (vs := H) R66.out (by rw [HLh.out, HLz.out])) Try.underlying55 (by rw [HLh.out]; exact size55)) rfl ?_
  exact ⟨rfl, below_setCells (Nat.le_refl _) _ _ B6.out⟩
end Go.Proofs.Ytifjkkfienmdjaa
