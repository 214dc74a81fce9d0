/-
  The reference's first: a record's first sector.
-/
import Derived.Test.YtifjkkfienmdjaaSp
import Derived.Test.YtifjkkfienmdjaaNum
import Derived.Test.YtifjkkfienmdjaaHeld
namespace Go.Proofs.Ytifjkkfienmdjaa
open Go.RowKit Go.Shelf

def le4 (x : Nat) : List Nat := [byteAt x 0, byteAt x 1, byteAt x 2, byteAt x 3]
theorem byteVals4 (x : Nat) : byteVals (byteAt x) 4 = u8s (le4 x) := rfl
theorem byteAt_lt (x i : Nat) : byteAt x i < 256 := Nat.mod_lt _ (by decide)
def h1L (n : Nat) : List Nat := splice zeros64 0 (le4 n)
def h2L (zs : List Nat) : List Nat := splice (h1L zs.length) 4 (zs.take 51)
def h3L (zs : List Nat) (gen : Nat) : List Nat := splice (h2L zs) 55 (le4 gen)
def h4L (zs : List Nat) (gen num : Nat) : List Nat := splice (h3L zs gen) 59 (le4 num)
/-- A record's first sector. -/
def headL (zs : List Nat) (gen num : Nat) : List Nat := (h4L zs gen num).set 63 165
theorem splice_length {α : Type} {c v : List α} {o : Nat} (h : o + v.length ≤ c.length) : (splice c o v).length = c.length := by
  simp only [splice, List.length_append, List.length_take, List.length_drop]
  omega
theorem splice_u8s (c v : List Nat) (o : Nat) : splice (u8s c) o (u8s v) = u8s (splice c o v) := by
  simp only [splice, u8s, List.length_map, ← List.map_take, ← List.map_drop, ← List.map_append]
theorem splice_mem {c v : List Nat} {o : Nat} {P : Nat → Prop} (hc : ∀ z ∈ c, P z) (hv : ∀ z ∈ v, P z) : ∀ z ∈ splice c o v, P z := fun z hz => by
  simp only [splice, List.mem_append] at hz
  rcases hz with h | h | h
  · exact hc z (List.mem_of_mem_take h)
  · exact hv z h
  · exact hc z (List.mem_of_mem_drop h)
theorem le4_lt (x : Nat) : ∀ z ∈ le4 x, z < 256 := fun z hz => by
  simp only [le4, List.mem_cons, List.not_mem_nil, or_false] at hz
  rcases hz with rfl | rfl | rfl | rfl <;> exact byteAt_lt _ _
theorem h1L_len (n : Nat) : (h1L n).length = 64 := splice_length (by simp [zeros64, le4])
theorem h2L_len (zs : List Nat) : (h2L zs).length = 64 := by rw [h2L, splice_length (by rw [h1L_len, List.length_take]; omega), h1L_len]
theorem h3L_len (zs : List Nat) (gen : Nat) : (h3L zs gen).length = 64 := by rw [h3L, splice_length (by rw [h2L_len]; simp [le4]), h2L_len]
theorem h4L_len (zs : List Nat) (gen num : Nat) : (h4L zs gen num).length = 64 := by rw [h4L, splice_length (by rw [h3L_len]; simp [le4]), h3L_len]
theorem headL_sec {zs : List Nat} (hz : ∀ z ∈ zs, z < 256) (gen num : Nat) : IsSec (headL zs gen num) := by
  refine ⟨by rw [headL, List.length_set, h4L_len], fun z h => ?_⟩
  rcases List.mem_or_eq_of_mem_set h with h | rfl
  · exact splice_mem (splice_mem (splice_mem (splice_mem isSec_zeros.2 (le4_lt _)) (fun z h => hz z (List.mem_of_mem_take h))) (le4_lt _)) (le4_lt _) z h
  · omega
/-- Bytes that a slice leads to, for a copy of the first of them. -/
theorem bytes_src_take {n₀ : Nat} {W : World} {p : Option Addr} {len cap : Nat} {zs : List Nat} (h : IsBytes n₀ W p len cap zs) (k : Nat) : 0 < (u8s (zs.take k)).length → ∃ ad, p = some ad ∧ ∀ j v, (u8s (zs.take k))[j]? = some v → W.cell? (ad.add j) = some v := fun h0 => by
  have hl : 0 < (u8s zs).length := by simp [u8s] at h0 ⊢; omega
  obtain ⟨ad, e, hc⟩ := bytes_src h hl
  refine ⟨ad, e, fun j v hj => hc j v ?_⟩
  rw [← hj]
  simp only [u8s, List.map_take]
  have hj' := (List.getElem?_eq_some_iff.1 hj).1
  simp only [u8s, List.map_take, List.length_take] at hj'
  rw [List.getElem?_take, if_pos (by omega)]

theorem put_src {n₀ : Nat} {W : World} {v : Value} {x : Nat} (h : W.ownsRow n₀ 5 1 v 4 (byteVals (byteAt x) 4)) : ∃ g c, v = .slice (some ⟨g, 0, none⟩) 4 c ∧ n₀ ≤ g ∧ ∀ j u, (u8s (le4 x))[j]? = some u → W.cell? ((⟨g, 0, none⟩ : Addr).add j) = some u := by
  rcases h.2 with ⟨_, h0⟩ | ⟨g, cp, cur, rfl, hg, hgg, hnc, hcm, hcs, ht⟩
  · cases h0
  · refine ⟨g, cp, rfl, hg, fun j u hj => ?_⟩
    have hjl : j < 4 := by have := (List.getElem?_eq_some_iff.1 hj).1; simpa [u8s, le4] using this
    rw [Addr.add_mid, Nat.zero_add, h.cellAt j (by omega), byteVals4, hj]

set_option maxRecDepth 100000 in
set_option maxHeartbeats 4000000 in
theorem first_any (p : Option Addr) (len cap : Nat) (zs : List Nat) (gen num : Nat) (w : World) (hI : IsBytes w.heap.size w p len cap zs) (hlen : len ≤ 1000000) (hgen : gen < 4294967296) (hnum : num ≤ 1000000) :
    Calls Try.prog 36 #[.slice p len cap, .int .u32 (gen : Nat), .int .i64 (num : Nat)] w fun e w' => e = .returned (.agg (u8s (headL zs gen num)).toArray) ∧ Below w.heap.size w w' := by
  obtain ⟨w0, HW0, hb0, hs0, hr0⟩ := new29 w
  obtain ⟨w1, HW1, hb1, hs1, hr1⟩ := new29 w0
  have HI : Hid (IsBytes w.heap.size w p len cap zs) := hI
  have hcv1 : IntKind.u64.wrap ((len : Nat) : Int) = ((len : Nat) : Int) := by rw [IntKind.wrap_u64]; omega
  have hcv2 : IntKind.u64.wrap ((gen : Nat) : Int) = ((gen : Nat) : Int) := by rw [IntKind.wrap_u64]; omega
  have hcv3 : IntKind.u64.wrap ((num : Nat) : Int) = ((num : Nat) : Int) := by rw [IntKind.wrap_u64]; omega
  have hr0' := hr0.later hb1
  have R61 : Hid (Row w1 w.heap.size 55 (u8s zeros64)) := hr0'
  have R71 : Hid (Row w1 (w.heap.size + 1) 55 (u8s zeros64)) := by rw [← hs0]; exact hr1
  have B1 : Hid (Below w.heap.size w w1) := hb0.trans (hb1.mono hb0.size)
  have zeros64_len : zeros64.length = 64 := by simp [zeros64]
  have HLn : Hid (zs.length = len) := hI.1
  clear hI hr0 hr1 hr0' hb0 hb1
  go_enter Try.func36, Try.ntmps36
  go_upto_region 2 with (first
    | (rw [HW0.out])
    | (rw [HW1.out]))
  refine wp_region_held_drew (S := fun _ => True) (by kernel_rfl) trivial (fun hHeld => ?_)
  refine wpAnyH_takesAt 0 4 2 (of_decide_eq_true (by kernel_rfl)) rfl (fun _ _ _ d _ h => by cases d <;> exact h) (by kernel_rfl) (by kernel_rfl) hHeld ?_
  simp only [List.drop_zero, List.take_succ_cons, List.take_zero]
  iterate 4 (refine wpHeld_step (v := ?_) (by rfl) (fun wz hSw => ?_) ?_; rotate_left; (focus ((try dsimp only at hSw); go_simp; try with_reducible rfl)); (simp only [Act.put, List.setIfInBounds_toArray, List.set_cons_zero, List.set_cons_succ]))
  refine wpHeld_nil ?_
  refine wpAnyH_only (i := 4) (by kernel_rfl) rfl (fun K hK => ?_)
  rw [if_pos (by rfl)]
  go_simp
  refine (refPut_any len 4 (by omega) _).mono ?_
  rintro e v2 ⟨u2, rfl, hown2, hb2⟩
  obtain ⟨g2, c2, rfl, hg2, hsrc2⟩ := put_src hown2
  refine hK.out _ _ trivial ?_
  clear hK K
  have hbv2 : Below w1.heap.size w1 v2 := ⟨hb2.os, hb2.tape, hb2.output, hb2.size, hb2.block⟩
  refine wpAnyH_only (i := 5) (by kernel_rfl) rfl (fun K hK => ?_)
  rw [if_pos (by rfl)]
  refine wp_copy_but (.tmp 8) (.tmp 12) 25 25 rfl 5 Try.underlying25 size5 (w.heap.size + 1) 0 64 64 ⟨g2, 0, none⟩ 4 c2 rfl rfl _ 55 (R71.out.later hbv2) (u8s (le4 len)) (by rfl) hsrc2 (by simp only [u8s_length, zeros64_len]; simp [le4]) (u8s_one _) (fun w2 hrow2 hbut2 => ?_)
  refine hK.out _ _ trivial ?_
  clear hK K hHeld
  simp only [Act.put, List.setIfInBounds_toArray]
  refine wpAnyH_done (by kernel_rfl) ?_ _
  rw [splice_u8s] at hrow2
  have R72 : Hid (Row w2 (w.heap.size + 1) 55 (u8s (splice zeros64 0 (le4 len)))) := hrow2
  have R62 : Hid (Row w2 w.heap.size 55 (u8s zeros64)) := hbut2.row (R61.out.later hbv2).lt (by omega) (R61.out.later hbv2)
  have B2 : Hid (Below w.heap.size w w2) := (B1.out.trans (hbv2.mono B1.out.size)).trans (hbut2.below (by have := B1.out.size; have := hbv2.size; omega) (by omega))
  clear hrow2 hbut2 hsrc2 hown2 hb2 hbv2 hg2
  have E2 : Hid (splice zeros64 0 (le4 len) = h1L zs.length) := by show _ = _; rw [HLn.out]; rfl
  rw [E2.out] at R72
  go_upto_region 4 with ((with_reducible show wpList _ _ _ (Oper.mk (some 16) _ _ _ _ _ :: _) _ _); refine wpList_copy_splice rfl (.tmp 14) (.tmp 15) 25 25 rfl 5 Try.underlying25 size5 _ _ _ _ _ _ rfl rfl (w.heap.size + 1) 4 (u8s (h1L zs.length)) 55 R72.out (u8s (zs.take 51)) (by rw [u8s_length, List.length_take, HLn.out]; exact Nat.min_comm _ _) (fun h0 => ⟨rfl, bytes_src_take (HI.out.below B2.out) 51 h0⟩) (by simp only [u8s_length, h1L_len, List.length_take]; omega) (u8s_one _) (w.heap.size + 1) w2 (Below.refl _ _) (Nat.le_refl _) ?_; intro w3 HG3 hb3; have R73 : Hid (Row w3 (w.heap.size + 1) 55 (u8s (h2L zs))) := (by have := HG3.out; rw [splice_u8s] at this; exact this); have R63 : Hid (Row w3 w.heap.size 55 (u8s zeros64)) := R62.out.below hb3 (by omega); have B3 : Hid (Below w.heap.size w w3) := B2.out.trans (hb3.mono (by omega)); clear HG3 hb3)
  refine wp_region_held_drew (S := fun _ => True) (by kernel_rfl) trivial (fun hHeld => ?_)
  refine wpAnyH_takesAt 0 1 4 (of_decide_eq_true (by kernel_rfl)) rfl (fun _ _ _ d _ h => by cases d <;> exact h) (by kernel_rfl) (by kernel_rfl) hHeld ?_
  simp only [List.drop_zero, List.take_succ_cons, List.take_zero]
  iterate 1 (refine wpHeld_step (v := ?_) (by rfl) (fun wz hSw => ?_) ?_; rotate_left; (focus ((try dsimp only at hSw); go_simp; try with_reducible rfl)); ((simp only [Act.put]; (try simp only [List.setIfInBounds_toArray]); (try simp only [List.set_cons_succ]); (try simp only [List.set_cons_zero]))))
  refine wpHeld_nil ?_
  refine wpAnyH_takesAt 1 1 3 (of_decide_eq_true (by kernel_rfl)) rfl (fun _ _ _ d _ h => by cases d <;> exact h) (by kernel_rfl) (by kernel_rfl) hHeld ?_
  simp only [List.drop_succ_cons, List.drop_zero, List.take_succ_cons, List.take_zero]
  iterate 1 (refine wpHeld_step (v := ?_) (by rfl) (fun wz hSw => ?_) ?_; rotate_left; (focus ((try dsimp only at hSw); go_simp; try with_reducible rfl)); ((simp only [Act.put]; (try simp only [List.setIfInBounds_toArray]); (try simp only [List.set_cons_succ]); (try simp only [List.set_cons_zero]))))
  refine wpHeld_nil ?_
  refine wpAnyH_takesAt 2 1 2 (of_decide_eq_true (by kernel_rfl)) rfl (fun _ _ _ d _ h => by cases d <;> exact h) (by kernel_rfl) (by kernel_rfl) hHeld ?_
  simp only [List.drop_succ_cons, List.drop_zero, List.take_succ_cons, List.take_zero]
  iterate 1 (refine wpHeld_step (v := ?_) (by rfl) (fun wz hSw => ?_) ?_; rotate_left; (focus ((try dsimp only at hSw); go_simp; try with_reducible rfl)); ((simp only [Act.put]; (try simp only [List.setIfInBounds_toArray]); (try simp only [List.set_cons_succ]); (try simp only [List.set_cons_zero]))))
  refine wpHeld_nil ?_
  refine wpAnyH_only (i := 3) (by kernel_rfl) rfl (fun K hK => ?_)
  rw [if_pos (by rfl)]
  go_simp
  refine (refPut_any gen 4 (by omega) _).mono ?_
  rintro e v4 ⟨u4, rfl, hown4, hb4⟩
  obtain ⟨g4, c4, rfl, hg4, hsrc4⟩ := put_src hown4
  refine hK.out _ _ trivial ?_
  clear hK K
  have hbv4 : Below w3.heap.size w3 v4 := ⟨hb4.os, hb4.tape, hb4.output, hb4.size, hb4.block⟩
  refine wpAnyH_only (i := 4) (by kernel_rfl) rfl (fun K hK => ?_)
  rw [if_pos (by rfl)]
  refine wp_copy_but (.tmp 17) (.tmp 20) 25 25 rfl 5 Try.underlying25 size5 (w.heap.size + 1) 55 9 9 ⟨g4, 0, none⟩ 4 c4 rfl rfl _ 55 (R73.out.later hbv4) (u8s (le4 gen)) (by rfl) hsrc4 (by simp only [u8s_length, h2L_len]; simp [le4]) (u8s_one _) (fun w4 hrow4 hbut4 => ?_)
  refine hK.out _ _ trivial ?_
  clear hK K hHeld
  simp only [Act.put, List.setIfInBounds_toArray]
  refine wpAnyH_done (by kernel_rfl) ?_ _
  rw [splice_u8s] at hrow4
  have R74 : Hid (Row w4 (w.heap.size + 1) 55 (u8s (splice (h2L zs) 55 (le4 gen)))) := hrow4
  have R64 : Hid (Row w4 w.heap.size 55 (u8s zeros64)) := hbut4.row (R63.out.later hbv4).lt (by omega) (R63.out.later hbv4)
  have B4 : Hid (Below w.heap.size w w4) := (B3.out.trans (hbv4.mono B3.out.size)).trans (hbut4.below (by have := B3.out.size; have := hbv4.size; omega) (by omega))
  clear hrow4 hbut4 hsrc4 hown4 hb4 hbv4 hg4
  have R74 : Hid (Row w4 (w.heap.size + 1) 55 (u8s (h3L zs gen))) := R74.out
  go_upto_region 5 with fail
  refine wp_region_held_drew (S := fun _ => True) (by kernel_rfl) trivial (fun hHeld => ?_)
  refine wpAnyH_takesAt 0 1 4 (of_decide_eq_true (by kernel_rfl)) rfl (fun _ _ _ d _ h => by cases d <;> exact h) (by kernel_rfl) (by kernel_rfl) hHeld ?_
  simp only [List.drop_zero, List.take_succ_cons, List.take_zero]
  iterate 1 (refine wpHeld_step (v := ?_) (by rfl) (fun wz hSw => ?_) ?_; rotate_left; (focus ((try dsimp only at hSw); go_simp; try with_reducible rfl)); ((simp only [Act.put]; (try simp only [List.setIfInBounds_toArray]); (try simp only [List.set_cons_succ]); (try simp only [List.set_cons_zero]))))
  refine wpHeld_nil ?_
  refine wpAnyH_takesAt 1 1 3 (of_decide_eq_true (by kernel_rfl)) rfl (fun _ _ _ d _ h => by cases d <;> exact h) (by kernel_rfl) (by kernel_rfl) hHeld ?_
  simp only [List.drop_succ_cons, List.drop_zero, List.take_succ_cons, List.take_zero]
  iterate 1 (refine wpHeld_step (v := ?_) (by rfl) (fun wz hSw => ?_) ?_; rotate_left; (focus ((try dsimp only at hSw); go_simp; try with_reducible rfl)); ((simp only [Act.put]; (try simp only [List.setIfInBounds_toArray]); (try simp only [List.set_cons_succ]); (try simp only [List.set_cons_zero]))))
  refine wpHeld_nil ?_
  refine wpAnyH_takesAt 2 1 2 (of_decide_eq_true (by kernel_rfl)) rfl (fun _ _ _ d _ h => by cases d <;> exact h) (by kernel_rfl) (by kernel_rfl) hHeld ?_
  simp only [List.drop_succ_cons, List.drop_zero, List.take_succ_cons, List.take_zero]
  iterate 1 (refine wpHeld_step (v := ?_) (by rfl) (fun wz hSw => ?_) ?_; rotate_left; (focus ((try dsimp only at hSw); go_simp; try with_reducible rfl)); ((simp only [Act.put]; (try simp only [List.setIfInBounds_toArray]); (try simp only [List.set_cons_succ]); (try simp only [List.set_cons_zero]))))
  refine wpHeld_nil ?_
  refine wpAnyH_only (i := 3) (by kernel_rfl) rfl (fun K hK => ?_)
  rw [if_pos (by rfl)]
  go_simp
  refine (refPut_any num 4 (by omega) _).mono ?_
  rintro e v5 ⟨u5, rfl, hown5, hb5⟩
  obtain ⟨g5, c5, rfl, hg5, hsrc5⟩ := put_src hown5
  refine hK.out _ _ trivial ?_
  clear hK K
  have hbv5 : Below w4.heap.size w4 v5 := ⟨hb5.os, hb5.tape, hb5.output, hb5.size, hb5.block⟩
  refine wpAnyH_only (i := 4) (by kernel_rfl) rfl (fun K hK => ?_)
  rw [if_pos (by rfl)]
  refine wp_copy_but (.tmp 22) (.tmp 25) 25 25 rfl 5 Try.underlying25 size5 (w.heap.size + 1) 59 5 5 ⟨g5, 0, none⟩ 4 c5 rfl rfl _ 55 (R74.out.later hbv5) (u8s (le4 num)) (by rfl) hsrc5 (by simp only [u8s_length, h3L_len]; simp [le4]) (u8s_one _) (fun w5 hrow5 hbut5 => ?_)
  refine hK.out _ _ trivial ?_
  clear hK K hHeld
  simp only [Act.put, List.setIfInBounds_toArray]
  refine wpAnyH_done (by kernel_rfl) ?_ _
  rw [splice_u8s] at hrow5
  have R75 : Hid (Row w5 (w.heap.size + 1) 55 (u8s (splice (h3L zs gen) 59 (le4 num)))) := hrow5
  have R65 : Hid (Row w5 w.heap.size 55 (u8s zeros64)) := hbut5.row (R64.out.later hbv5).lt (by omega) (R64.out.later hbv5)
  have B5 : Hid (Below w.heap.size w w5) := (B4.out.trans (hbv5.mono B4.out.size)).trans (hbut5.below (by have := B4.out.size; have := hbv5.size; omega) (by omega))
  clear hrow5 hbut5 hsrc5 hown5 hb5 hbv5 hg5
  have R7 : Hid (Row w5 (w.heap.size + 1) 55 (u8s (h4L zs gen num))) := R75.out
  have hc63 := R7.out.cell (i := 63) (u8s_at (by rw [h4L_len]; omega))
  have hf63 := R7.out.frozen 63
  have R8 : Hid (Row (w5.setCell ⟨w.heap.size + 1, 63, none⟩ (.int .u8 165)) (w.heap.size + 1) 55 (u8s (headL zs gen num))) := by
    have := R7.out.set 63 (.int .u8 165)
    have e : (u8s (h4L zs gen num)).set 63 (.int .u8 165) = u8s (headL zs gen num) := by simp only [u8s, headL, List.map_set]; rfl
    rw [e] at this
    exact this
  have R9 : Hid (Row (w5.setCell ⟨w.heap.size + 1, 63, none⟩ (.int .u8 165)) w.heap.size 55 (u8s zeros64)) := R65.out.other (a := ⟨w.heap.size + 1, 63, none⟩) (by show w.heap.size ≠ w.heap.size + 1; omega) _
  have B9 : Hid (Below w.heap.size w (w5.setCell ⟨w.heap.size + 1, 63, none⟩ (.int .u8 165))) := B5.out.trans ((But.set (B := w.heap.size + 1) (n := w5.heap.size) 63 _).below B5.out.size (by omega))
  have HLh : Hid ((u8s (headL zs gen num)).length = 64) := by show _ = _; rw [u8s_length, headL, List.length_set, h4L_len]
  have HOh : Hid (∀ v ∈ u8s (headL zs gen num), v.oneCell' = true) := u8s_one _
  have HLz : Hid ((u8s zeros64).length = 64) := by show _ = _; simp [zeros64]
  clear R7 R75 R65
  obtain ⟨H, hH⟩ : ∃ H, u8s (headL zs gen num) = H := ⟨_, rfl⟩
  have HH : Hid (u8s (headL zs gen num) = H) := hH
  rw [hH] at R8 HLh HOh
  clear hH
  generalize u8s zeros64 = Z at *
  go_wp2_with (first
    | ((with_reducible show wpList _ _ _ (Oper.mk (some 28) (Op.load 55 (.tmp 7)) _ _ _ _ :: _) _ _); refine wpList_load_Row rfl 55 (.tmp 7) rfl rfl R8.out Try.underlying55 (by rw [HLh.out]; exact size55) ?_; simp only [Act.put, List.setIfInBounds_toArray, List.set_cons_zero, List.set_cons_succ])
    | ((with_reducible show wpList _ _ _ (Oper.mk _ (Op.store 55 (.tmp 6) (.tmp 28)) _ _ _ _ :: _) _ _); refine wpList_store_Row rfl 55 (.tmp 6) (.tmp 28) rfl H rfl rfl R9.out (by rw [HLh.out]; exact size55) (by rw [HLh.out, HLz.out]) HOh.out ?_; simp only [Act.put]))
  refine bodyPost_ret (results_Row rfl rfl (Row.sets_all (vs := H) R9.out (by rw [HLh.out, HLz.out])) Try.underlying55 (by rw [HLh.out]; exact size55)) rfl ?_
  exact ⟨by rw [HH.out], below_setCells (Nat.le_refl _) _ _ B9.out⟩
end Go.Proofs.Ytifjkkfienmdjaa
