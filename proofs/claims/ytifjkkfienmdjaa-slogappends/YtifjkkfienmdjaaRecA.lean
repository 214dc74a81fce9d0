/-
  Records' parts: filled, markOf.
-/
import Derived.Test.YtifjkkfienmdjaaMLog
import Derived.Test.YtifjkkfienmdjaaChChunk
import Derived.Test.YtifjkkfienmdjaaVWords
import Derived.Test.YtifjkkfienmdjaaVBytes
namespace Go.Proofs.Ytifjkkfienmdjaa
open Go.RowKit Go.Shelf

set_option maxRecDepth 100000 in
set_option maxHeartbeats 2000000 in
theorem filled_any (q : Option Addr) (len cap : Nat) (zs : List Nat) (w : World) (hI : IsBytes w.heap.size w q len cap zs) (hlen : len ≤ 64) :
    Calls Try.prog 51 #[.slice q len cap] w fun e w' => e = .returned (.agg (u8s (splice zeros64 0 zs)).toArray) ∧ Below w.heap.size w w' := by
  obtain ⟨w0, HW0, hb0, hs0, hr0⟩ := new29 w
  obtain ⟨w1, HW1, hb1, hs1, hr1⟩ := new29 w0
  have HI : Hid (IsBytes w.heap.size w q len cap zs) := hI
  have R61 : Hid (Row w1 w.heap.size 55 (u8s zeros64)) := hr0.later hb1
  have R71 : Hid (Row w1 (w.heap.size + 1) 55 (u8s zeros64)) := by rw [← hs0]; exact hr1
  have B1 : Hid (Below w.heap.size w w1) := hb0.trans (hb1.mono hb0.size)
  have zeros64_len : zeros64.length = 64 := by simp [zeros64]
  have HLn : Hid (zs.length = len) := hI.1
  have HX : Hid ((u8s (splice zeros64 0 zs)).length = 64) := by show _ = _; rw [u8s_length, splice_length (by rw [zeros64_len, hI.1]; omega), zeros64_len]
  have HOx : Hid (∀ v ∈ u8s (splice zeros64 0 zs), v.oneCell' = true) := u8s_one _
  have HLz : Hid ((u8s zeros64).length = 64) := by show _ = _; simp [zeros64]
  clear hI hr0 hr1 hb0 hb1
  obtain ⟨H, hH⟩ : ∃ H, u8s (splice zeros64 0 zs) = H := ⟨_, rfl⟩
  have HH : Hid (u8s (splice zeros64 0 zs) = H) := hH
  rw [hH] at HX HOx ⊢
  clear hH
  go_enter Try.func51, Try.ntmps51
  go_upto_region 3 with (first
    | (rw [HW0.out])
    | (rw [HW1.out])
    | ((with_reducible show wpList _ _ _ (Oper.mk (some 6) _ _ _ _ _ :: _) _ _); refine wpList_copy_splice rfl (.tmp 4) (.tmp 5) 25 25 rfl 5 Try.underlying25 size5 _ _ _ _ _ _ rfl rfl (w.heap.size + 1) 0 (u8s zeros64) 55 R71.out (u8s zs) (by rw [u8s_length, HLn.out]; exact (Nat.min_eq_left hlen).symm) (fun h0 => ⟨rfl, bytes_src (HI.out.below B1.out) h0⟩) (by simp only [u8s_length, zeros64_len, HLn.out]; omega) (u8s_one _) (w.heap.size + 1) w1 (Below.refl _ _) (Nat.le_refl _) ?_; intro w3 HG3 hb3; have R73 : Hid (Row w3 (w.heap.size + 1) 55 (u8s (splice zeros64 0 zs))) := (by have := HG3.out; rw [splice_u8s] at this; exact this); have R63 : Hid (Row w3 w.heap.size 55 (u8s zeros64)) := R61.out.below hb3 (by omega); have B3 : Hid (Below w.heap.size w w3) := B1.out.trans (hb3.mono (by omega)); clear HG3 hb3))
  rw [HH.out] at R73
  generalize u8s zeros64 = Z at *
  go_wp2_with (first
    | ((with_reducible show wpList _ _ _ (Oper.mk (some 7) (Op.load 55 (.tmp 3)) _ _ _ _ :: _) _ _); refine wpList_load_Row rfl 55 (.tmp 3) rfl rfl R73.out Try.underlying55 (by rw [HX.out]; exact size55) ?_; simp only [Act.put, List.setIfInBounds_toArray, List.set_cons_zero, List.set_cons_succ])
    | ((with_reducible show wpList _ _ _ (Oper.mk _ (Op.store 55 (.tmp 2) (.tmp 7)) _ _ _ _ :: _) _ _); refine wpList_store_Row rfl 55 (.tmp 2) (.tmp 7) rfl H rfl rfl R63.out (by rw [HX.out]; exact size55) (by rw [HX.out, HLz.out]) HOx.out ?_; simp only [Act.put]))
  refine bodyPost_ret (results_Row rfl rfl (Row.sets_all (vs := H) R63.out (by rw [HX.out, HLz.out])) Try.underlying55 (by rw [HX.out]; exact size55)) rfl ?_
  exact ⟨rfl, below_setCells (Nat.le_refl _) _ _ B3.out⟩

/-- The mark of a record. -/
def mark9 (gen num : Nat) : List Nat := le4 gen ++ (le4 num ++ [165])
theorem mark9_len (gen num : Nat) : (mark9 gen num).length = 9 := rfl
theorem mark9_eq (gen num : Nat) : markL gen num = mark9 gen num := by
  unfold markL
  refine list_eq_getD (by rw [List.length_drop, headL_len, mark9_len]) (fun i hi => ?_)
  rw [List.length_drop, headL_len] at hi
  have e : ((headL [] gen num).drop 55).getD i 0 = (headL [] gen num).getD (55 + i) 0 := by rw [List.getD_eq_getElem?_getD, List.getElem?_drop, List.getD_eq_getElem?_getD]
  rw [e, head_tail [] gen num (by omega)]
  obtain rfl | rfl | rfl | rfl | rfl | rfl | rfl | rfl | rfl : i = 0 ∨ i = 1 ∨ i = 2 ∨ i = 3 ∨ i = 4 ∨ i = 5 ∨ i = 6 ∨ i = 7 ∨ i = 8 := by omega
  all_goals rfl
theorem size91 : (Try.prog.info? 91).map (·.size) = some 9 := by kernel_rfl
theorem built91 : Try.prog.built 91 [(8, .int .u8 165)] = some (u8s [0, 0, 0, 0, 0, 0, 0, 0, 165]).toArray := by kernel_rfl
def zeros9 : List Nat := [0, 0, 0, 0, 0, 0, 0, 0, 0]
theorem new91 (w : World) : ∃ w0, Hid (w.alloc (.cells #[.int .u8 0, .int .u8 0, .int .u8 0, .int .u8 0, .int .u8 0, .int .u8 0, .int .u8 0, .int .u8 0, .int .u8 0] 91) = w0) ∧ Below w.heap.size w w0 ∧ w0.heap.size = w.heap.size + 1 ∧ Row w0 w.heap.size 91 (u8s zeros9) :=
  ⟨_, rfl, (Below.refl _ w).alloc (Nat.le_refl _) _, by simp, Row.new' w 91 (u8s zeros9)⟩
theorem bytes2 (a b : Nat) : byteVals (bytesOf [a, b]) (4 * 2) = u8s (le4 a ++ le4 b) := rfl
theorem bytes1 (a : Nat) : byteVals (bytesOf [a]) (4 * 1) = u8s (le4 a) := rfl
theorem own_src {n₀ : Nat} {W : World} {v : Value} {n : Nat} {zs : List Nat} (h : W.ownsRow n₀ 5 1 v n (u8s zs)) (hn : 0 < n) : ∃ g c, v = .slice (some ⟨g, 0, none⟩) n c ∧ n₀ ≤ g ∧ g < W.heap.size ∧ ∀ j u, (u8s zs)[j]? = some u → W.cell? ((⟨g, 0, none⟩ : Addr).add j) = some u := by
  have hl : zs.length = n := by have := h.1; rw [u8s_length] at this; omega
  rcases h.2 with ⟨_, h0⟩ | ⟨g, cp, cur, rfl, hg, hgg, hnc, hcm, hcs, ht⟩
  · omega
  · refine ⟨g, cp, rfl, hg, (Array.getElem?_eq_some_iff.1 hgg).1, fun j u hj => ?_⟩
    have hjl : j < n := by have := (List.getElem?_eq_some_iff.1 hj).1; rw [u8s_length] at this; omega
    rw [Addr.add_mid, Nat.zero_add, h.cellAt j (by omega), hj]

set_option maxRecDepth 100000 in
set_option maxHeartbeats 2000000 in
theorem markOf_any (gen num : Nat) (hnum : num ≤ 1000000) (w : World) :
    Calls Try.prog 46 #[.int .u32 (gen : Nat), .int .i64 (num : Nat)] w fun e w' => e = .returned (.agg (u8s (mark9 gen num)).toArray) ∧ Below w.heap.size w w' := by
  have HBu : Hid (Try.prog.built 91 [(8, .int .u8 165)] = some (u8s [0, 0, 0, 0, 0, 0, 0, 0, 165]).toArray) := built91
  have hcv : IntKind.u32.wrap ((num : Nat) : Int) = ((num : Nat) : Int) := by rw [IntKind.wrap_u32]; omega
  obtain ⟨w0, HW0, hb0, hs0, hr0⟩ := new91 w
  obtain ⟨w1, HW1, hb1, hs1, hr1⟩ := new91 w0
  have R41 : Hid (Row w1 w.heap.size 91 (u8s zeros9)) := hr0.later hb1
  have R51 : Hid (Row w1 (w.heap.size + 1) 91 (u8s zeros9)) := by rw [← hs0]; exact hr1
  have B1 : Hid (Below w.heap.size w w1) := hb0.trans (hb1.mono hb0.size)
  have hs1' : w1.heap.size = w.heap.size + 2 := by omega
  obtain ⟨Z, hZ⟩ : ∃ Z, u8s [0, 0, 0, 0, 0, 0, 0, 0, 165] = Z := ⟨_, rfl⟩
  have HZL : Hid (Z.length = 9) := by show _ = _; rw [← hZ]; rfl
  have HZO : Hid (∀ v ∈ Z, v.oneCell' = true) := by rw [← hZ]; exact u8s_one _
  have HZ : Hid (u8s [0, 0, 0, 0, 0, 0, 0, 0, 165] = Z) := hZ
  rw [hZ] at HBu
  obtain ⟨H, hH⟩ : ∃ H, u8s (mark9 gen num) = H := ⟨_, rfl⟩
  have HH : Hid (u8s (mark9 gen num) = H) := hH
  have HHL : Hid (H.length = 9) := by show _ = _; rw [← hH]; rfl
  have HHO : Hid (∀ v ∈ H, v.oneCell' = true) := by rw [← hH]; exact u8s_one _
  rw [hH]
  clear hr0 hr1 hb0 hb1 hZ hH
  go_enter Try.func46, Try.ntmps46
  go_upto_region 2 with (first
    | (rw [HW0.out])
    | (rw [HW1.out])
    | ((with_reducible show wpList _ _ _ (Oper.mk _ (Op.build 91 _) _ _ _ _ :: _) _ _); refine wpList_built_want (by rfl) 91 _ rfl _ _ (by simp only [List.map_toArray, List.map_cons, List.map_nil]; rfl) HBu.out ?_; simp only [Act.put, List.setIfInBounds_toArray, List.set_cons_zero, List.set_cons_succ])
    | ((with_reducible show wpList _ _ _ (Oper.mk _ (Op.store 91 (.tmp 5) (.tmp 6)) _ _ _ _ :: _) _ _); refine wpList_store_Row rfl 91 (.tmp 5) (.tmp 6) rfl Z rfl rfl R51.out (by rw [HZL.out]; exact size91) (by rw [HZL.out]; rfl) HZO.out ?_; simp only [Act.put]))
  obtain ⟨w2, hw2⟩ : ∃ w2, w1.setCells (w.heap.size + 1) 0 Z = w2 := ⟨_, rfl⟩
  have R52 : Hid (Row w2 (w.heap.size + 1) 91 Z) := by rw [← hw2]; exact Row.sets_all R51.out (by rw [HZL.out]; rfl)
  have R42 : Hid (Row w2 w.heap.size 91 (u8s zeros9)) := by rw [← hw2]; exact Row.others (by omega) Z 0 R41.out
  have B2 : Hid (Below w.heap.size w w2) := by rw [← hw2]; exact below_setCells (by omega) _ _ B1.out
  rw [hw2]
  clear hw2 R41 R51 B1
  have hl5 := R52.out.lt
  refine wp_region_held_drew (S := fun _ => True) (by kernel_rfl) trivial (fun hHeld => ?_)
  refine wpAnyH_takesAt 0 1 6 (of_decide_eq_true (by kernel_rfl)) rfl (fun _ _ _ d _ h => by cases d <;> exact h) (by kernel_rfl) (by kernel_rfl) hHeld ?_
  simp only [List.drop_zero, List.take_succ_cons, List.take_zero]
  iterate 1 (refine wpHeld_step (v := ?_) (by rfl) (fun wz hSw => ?_) ?_; rotate_left; (focus ((try dsimp only at hSw); go_simp; try with_reducible rfl)); ((simp only [Act.put]; (try simp only [List.setIfInBounds_toArray]); (try simp only [List.set_cons_succ]); (try simp only [List.set_cons_zero]))))
  refine wpHeld_nil ?_
  refine wpAnyH_takesAt 1 1 5 (of_decide_eq_true (by kernel_rfl)) rfl (fun _ _ _ d _ h => by cases d <;> exact h) (by kernel_rfl) (by kernel_rfl) hHeld ?_
  simp only [List.drop_succ_cons, List.drop_zero, List.take_succ_cons, List.take_zero]
  iterate 1 (refine wpHeld_step (v := ?_) (by rfl) (fun wz hSw => ?_) ?_; rotate_left; (focus ((try dsimp only at hSw); go_simp; try with_reducible rfl)); ((simp only [Act.put]; (try simp only [List.setIfInBounds_toArray]); (try simp only [List.set_cons_succ]); (try simp only [List.set_cons_zero]))))
  refine wpHeld_nil ?_
  refine wpAnyH_takesAt 2 1 4 (of_decide_eq_true (by kernel_rfl)) rfl (fun _ _ _ d _ h => by cases d <;> exact h) (by kernel_rfl) (by kernel_rfl) hHeld ?_
  simp only [List.drop_succ_cons, List.drop_zero, List.take_succ_cons, List.take_zero]
  iterate 1 (refine wpHeld_step (v := ?_) (by rfl) (fun wz hSw => ?_) ?_; rotate_left; (focus ((try dsimp only at hSw); go_simp; try with_reducible rfl)); ((simp only [Act.put]; (try simp only [List.setIfInBounds_toArray]); (try simp only [List.set_cons_succ]); (try simp only [List.set_cons_zero]))))
  refine wpHeld_nil ?_
  refine wpAnyH_takesAt 3 1 3 (of_decide_eq_true (by kernel_rfl)) rfl (fun _ _ _ d _ h => by cases d <;> exact h) (by kernel_rfl) (by kernel_rfl) hHeld ?_
  simp only [List.drop_succ_cons, List.drop_zero, List.take_succ_cons, List.take_zero]
  iterate 1 (refine wpHeld_step (v := ?_) (by rfl) (fun wz hSw => ?_) ?_; rotate_left; (focus ((try dsimp only at hSw); go_simp; try with_reducible rfl)); ((simp only [Act.put]; (try simp only [List.setIfInBounds_toArray]); (try simp only [List.set_cons_succ]); (try simp only [List.set_cons_zero]))))
  refine wpHeld_nil ?_
  refine wpAnyH_only (i := 4) (by kernel_rfl) rfl (fun K hK => ?_)
  rw [if_pos (by rfl)]
  go_simp
  refine hK.out _ _ trivial ?_
  clear hK K
  refine wpAnyH_only (i := 5) (by kernel_rfl) rfl (fun K hK => ?_)
  rw [if_pos (by rfl)]
  go_simp
  have hrB := (Row.new w2 26 #[.int .u32 (gen : Nat), .int .u32 (num : Nat)]).drew
  have hbB : Below w2.heap.size w2 (w2.alloc (.cells #[.int .u32 (gen : Nat), .int .u32 (num : Nat)] 26)).drew := ((Below.refl _ w2).alloc (Nat.le_refl _) _).drew
  refine (bytes_some w2.heap.size 0 2 2 [gen, num] _ (by omega) hrB.lt (fun i hi => ?_)).mono ?_
  · rw [Nat.zero_add]
    obtain rfl | rfl : i = 0 ∨ i = 1 := by omega
    · exact hrB.cell (i := 0) rfl
    · exact hrB.cell (i := 1) rfl
  rintro e v3 ⟨u3, rfl, hown3, hb3⟩
  rw [bytes2] at hown3
  obtain ⟨g3, c3, rfl, hg3, hg3l, hsrc3⟩ := own_src hown3 (by omega)
  refine hK.out _ _ trivial ?_
  clear hK K
  have hbv3 : Below w2.heap.size w2 v3 := hbB.trans (hb3.mono hbB.size)
  refine wpAnyH_only (i := 6) (by kernel_rfl) rfl (fun K hK => ?_)
  rw [if_pos (by rfl)]
  refine wp_copy_but (.tmp 7) (.tmp 12) 25 25 rfl 5 Try.underlying25 size5 (w.heap.size + 1) 0 9 9 ⟨g3, 0, none⟩ 8 c3 rfl rfl _ 91 (R52.out.later hbv3) (u8s (le4 gen ++ le4 num)) (by rfl) hsrc3 (by rw [HZL.out]; simp [u8s, le4]) (u8s_one _) (fun w4 hrow4 hbut4 => ?_)
  refine hK.out _ _ trivial ?_
  clear hK K hHeld
  simp only [Act.put, List.getElem_toArray, List.getElem_cons_succ, List.getElem_cons_zero, List.setIfInBounds_toArray, List.set_cons_succ, List.set_cons_zero]
  refine wpAnyH_done (by kernel_rfl) ?_ _
  have R54 : Hid (Row w4 (w.heap.size + 1) 91 H) := by
    rw [← HZ.out, splice_u8s] at hrow4
    rw [← HH.out]
    exact hrow4
  have R44 : Hid (Row w4 w.heap.size 91 (u8s zeros9)) := hbut4.row (R42.out.later hbv3).lt (by omega) (R42.out.later hbv3)
  have B4 : Hid (Below w.heap.size w w4) := (B2.out.trans (hbv3.mono B2.out.size)).trans (hbut4.below (by have := B2.out.size; have := hbv3.size; omega) (by omega))
  clear hrow4 hbut4 hsrc3 hown3 hb3 hbv3 hg3 hrB hbB
  go_wp2_with (first
    | ((with_reducible show wpList _ _ _ (Oper.mk (some 14) (Op.load 91 (.tmp 5)) _ _ _ _ :: _) _ _); refine wpList_load_Row rfl 91 (.tmp 5) rfl rfl R54.out Try.underlying91 (by rw [HHL.out]; exact size91) ?_; simp only [Act.put, List.setIfInBounds_toArray, List.set_cons_zero, List.set_cons_succ])
    | ((with_reducible show wpList _ _ _ (Oper.mk _ (Op.store 91 (.tmp 4) (.tmp 14)) _ _ _ _ :: _) _ _); refine wpList_store_Row rfl 91 (.tmp 4) (.tmp 14) rfl H rfl rfl R44.out (by rw [HHL.out]; exact size91) (by rw [HHL.out]; rfl) HHO.out ?_; simp only [Act.put]))
  refine bodyPost_ret (results_Row rfl rfl (Row.sets_all (vs := H) R44.out (by rw [HHL.out]; rfl)) Try.underlying91 (by rw [HHL.out]; exact size91)) rfl ?_
  exact ⟨rfl, below_setCells (Nat.le_refl _) _ _ B4.out⟩
end Go.Proofs.Ytifjkkfienmdjaa
