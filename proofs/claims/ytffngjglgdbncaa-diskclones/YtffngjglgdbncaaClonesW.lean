/-
  DiskClones: the walk.
-/
import Derived.Test.YtffngjglgdbncaaClo
import Derived.Test.YtffngjglgdbncaaAwake
namespace Go.Proofs.Ytffngjglgdbncaa
open Go.RowKit

theorem err_new {n i : Int} : (newS n []).err i = 0 ∨ (newS n []).err i = 130 := by
  simp only [St.err, newS]
  simp only [Bool.false_eq_true, if_false]
  by_cases h : i < 0 ∨ ((List.replicate (sizeS n) zeros64).length : Int) ≤ i
  · exact .inr (if_pos h)
  · exact .inl (if_neg h)
theorem quiet_err (X : List (List Nat)) (k : Nat) (i : Int) : (St.mk X [] k false).wErr i = (St.mk X [] k false).err i := by
  simp only [St.wErr, St.strikes]
  split
  · rfl
  · rename_i h
    simp at h ⊢
    exact h.symm
theorem quiet_write {X : List (List Nat)} {k : Nat} {i : Int} {s : List Nat} : ∃ Y k', (St.mk X [] k false).write i s = ⟨Y, [], k', false⟩ ∧ Y.length = X.length ∧ k' ≤ k + 1 ∧ ((St.mk X [] k false).err i = 0 → Y.getD i.toNat [] = s) := by
  by_cases he : (St.mk X [] k false).err i = 0
  · have hi := (err_zero he).2.2
    rw [write_eq_ok he rfl]
    refine ⟨_, _, rfl, by simp, Nat.le_refl _, fun _ => ?_⟩
    have hi' : i.toNat < X.length := hi
    simp [List.getD, hi']
  · refine ⟨X, k, ?_, rfl, by omega, fun h => absurd h he⟩
    rw [St.write, if_pos he]
theorem err_len {X Y : List (List Nat)} {k k' : Nat} (h : Y.length = X.length) (i : Int) : (St.mk Y [] k' false).err i = (St.mk X [] k false).err i := by
  simp only [St.err, h]

set_option maxRecDepth 100000 in
set_option maxHeartbeats 8000000 in
theorem diskClones_walk (n i : Int) (a b : List Nat) (W : World) (ha : IsSec a) (hb : IsSec b) :
    Calls Try.prog 5 #[.int .i64 n, .int .i64 i, .agg (u8s a).toArray, .agg (u8s b).toArray] W fun e W' => e = .returned (.bool true) ∧ Below W.heap.size W W' := by
  obtain ⟨d0, hd0⟩ : ∃ d, newS n [] = d := ⟨_, rfl⟩
  obtain ⟨d1, hd1⟩ : ∃ d, d0.write i a = d := ⟨_, rfl⟩
  obtain ⟨d2, hd2⟩ : ∃ d, d1.write i b = d := ⟨_, rfl⟩
  obtain ⟨X1, k1, e1, l1, hk1, g1⟩ := quiet_write (X := List.replicate (sizeS n) zeros64) (k := 0) (i := i) (s := a)
  have e1' : d1 = ⟨X1, [], k1, false⟩ := by rw [← hd1, ← hd0]; exact e1
  obtain ⟨X2, k2, e2, l2, hk2, g2⟩ := quiet_write (X := X1) (k := k1) (i := i) (s := b)
  have e2' : d2 = ⟨X2, [], k2, false⟩ := by rw [← hd2, e1']; exact e2
  obtain ⟨er, her⟩ : ∃ er, d0.err i = er := ⟨_, rfl⟩
  have her2 : er = 0 ∨ er = 130 := by rw [← her, ← hd0]; exact err_new
  have her1 : d1.err i = er := by rw [e1', err_len l1, ← her, ← hd0]; rfl
  have her3 : d2.err i = er := by rw [e2', err_len l2, ← her1, e1']
  have hx : er = 0 → d1.read i = a := fun h => by rw [St.read, her1, if_neg (by simpa using h), e1']; exact g1 (by rw [show (St.mk (List.replicate (sizeS n) zeros64) [] 0 false) = d0 from hd0, her, h])
  have hy : er = 0 → d2.read i = b := fun h => by rw [St.read, her3, if_neg (by simpa using h), e2']; exact g2 (by rw [← e1', her1, h])
  have HN : Hid (∀ V : World, Calls Try.prog 7 #[.int .i64 n, .slice none 0 0] V fun e w' => ∃ p g, e = .returned (.pointer (some ⟨p, 0, none⟩)) ∧ V.heap.size ≤ p ∧ V.heap.size ≤ g ∧ DiskAt [p, g] w' p g d0 ∧ Below V.heap.size V w') := fun V => by rw [← hd0]; exact new_any n ⟨rfl, Nat.le_refl _, by omega, .inl rfl⟩ (by omega)
  have HWa : Hid (∀ V p g, DiskAt [p, g] V p g d0 → Calls Try.prog 9 #[.pointer (some ⟨p, 0, none⟩), .int .i64 i, .agg (u8s a).toArray] V fun e w' => e = .returned (.int .i64 er) ∧ DiskAt [p, g] w' p g d1 ∧ Buts [p, g] V.heap.size V w') := fun V p g h => by
    have := write_any h i ha (by rw [← hd0]; simp [newS])
    rw [hd1, ← hd0] at this
    rw [show (newS n []).wErr i = (newS n []).err i from quiet_err _ _ _, hd0, her] at this
    exact this
  have HWb : Hid (∀ V p g, DiskAt [p, g] V p g d1 → Calls Try.prog 9 #[.pointer (some ⟨p, 0, none⟩), .int .i64 i, .agg (u8s b).toArray] V fun e w' => e = .returned (.int .i64 er) ∧ DiskAt [p, g] w' p g d2 ∧ Buts [p, g] V.heap.size V w') := fun V p g h => by
    have := write_any h i hb (by rw [e1']; show k1 < _; omega)
    rw [hd2] at this
    rw [show d1.wErr i = d1.err i by rw [e1']; exact quiet_err _ _ _, her1] at this
    exact this
  have HCl : Hid (∀ V p g, DiskAt [p, g] V p g d1 → Calls Try.prog 19 #[.pointer (some ⟨p, 0, none⟩)] V fun e w' => ∃ p' g', e = .returned (.pointer (some ⟨p', 0, none⟩)) ∧ V.heap.size ≤ p' ∧ V.heap.size ≤ g' ∧ DiskAt [p', g'] w' p' g' d1 ∧ Below V.heap.size V w') := fun V p g h => clone_any h (by rw [e1']; simp)
  have HRx : Hid (∀ V F p g, DiskAt F V p g d1 → Calls Try.prog 11 #[.pointer (some ⟨p, 0, none⟩), .int .i64 i] V fun e w' => e = .returned (.tuple #[.agg (u8s (d1.read i)).toArray, .int .i64 er]) ∧ Below V.heap.size V w') := fun V F p g h => by
    have := read_any h i
    rw [her1] at this
    exact this
  have HRy : Hid (∀ V F p g, DiskAt F V p g d2 → Calls Try.prog 11 #[.pointer (some ⟨p, 0, none⟩), .int .i64 i] V fun e w' => e = .returned (.tuple #[.agg (u8s (d2.read i)).toArray, .int .i64 er]) ∧ Below V.heap.size V w') := fun V F p g h => by
    have := read_any h i
    rw [her3] at this
    exact this
  have hqx : er = 0 → ∀ w : World, (Op.equalIn 10000 29 (.agg (u8s (d1.read i)).toArray) (.agg (u8s a).toArray)).run Try.prog w = .ok true w := fun h w => by
    rw [hx h, equal_secs ha ha, decide_eq_true rfl]
  have hqy : er = 0 → ∀ w : World, (Op.equalIn 10000 29 (.agg (u8s (d2.read i)).toArray) (.agg (u8s b).toArray)).run Try.prog w = .ok true w := fun h w => by
    rw [hy h, equal_secs hb hb, decide_eq_true rfl]
  have hok1 : d1.ok := by rw [← hd1, ← hd0]; exact (newS_ok n []).write i ha
  have hok2 : d2.ok := by rw [← hd2]; exact hok1.write i hb
  have HLa : Hid ((u8s a).length = 64) := by show _ = _; rw [u8s_length]; exact ha.1
  have HLb : Hid ((u8s b).length = 64) := by show _ = _; rw [u8s_length]; exact hb.1
  have HLx : Hid ((u8s (d1.read i)).length = 64) := by show _ = _; rw [u8s_length]; exact (hok1.read i).1
  have HLy : Hid ((u8s (d2.read i)).length = 64) := by show _ = _; rw [u8s_length]; exact (hok2.read i).1
  have HOx : Hid (∀ v ∈ u8s (d1.read i), v.oneCell' = true) := u8s_one _
  have HOy : Hid (∀ v ∈ u8s (d2.read i), v.oneCell' = true) := u8s_one _
  have HLz : Hid ((u8s zeros64).length = 64) := by show _ = _; rw [u8s_length]; exact isSec_zeros.1
  have HOz : Hid (∀ v ∈ u8s zeros64, v.oneCell' = true) := u8s_one _
  clear hd0 hd1 hd2 e1 e1' e2 e2' l1 l2 g1 g2 her her1 her3 hx hy hok1 hok2 hk1 hk2
  obtain ⟨w0, hw0⟩ : ∃ w0, W.alloc (.cells (u8s a).toArray 29) = w0 := ⟨_, rfl⟩
  obtain ⟨w1, hw1⟩ : ∃ w1, w0.alloc (.cells (u8s b).toArray 29) = w1 := ⟨_, rfl⟩
  have HW0 : Hid (W.alloc (.cells (u8s a).toArray 29) = w0) := hw0
  have HW1 : Hid (w0.alloc (.cells (u8s b).toArray 29) = w1) := hw1
  have hs0 : w0.heap.size = W.heap.size + 1 := by rw [← hw0]; simp
  have hs1 : w1.heap.size = W.heap.size + 2 := by rw [← hw1]; simp [hs0]
  have hb0 : Below W.heap.size W w0 := by rw [← hw0]; exact (Below.refl _ W).alloc (Nat.le_refl _) _
  have hb1 : Below w0.heap.size w0 w1 := by rw [← hw1]; exact (Below.refl _ w0).alloc (Nat.le_refl _) _
  have HRa1 : Hid (Row w1 W.heap.size 29 (u8s a)) := by have := Row.new' W 29 (u8s a); rw [hw0] at this; exact this.later hb1
  have HRb1 : Hid (Row w1 w0.heap.size 29 (u8s b)) := by have := Row.new' w0 29 (u8s b); rw [hw1] at this; exact this
  have hb01 : Below W.heap.size W w1 := hb0.trans (hb1.mono (by omega))
  have hbe : ∀ w2, Below w1.heap.size w1 w2 → Below W.heap.size W w2 := fun w2 h => hb01.trans (h.mono (by omega))
  have HS1 : Hid (w1.heap.size = W.heap.size + 2) := hs1
  have HS0 : Hid (w0.heap.size = W.heap.size + 1) := hs0
  clear hw0 hw1 hs0 hs1 hb0 hb1
  generalize u8s a = A at *
  generalize u8s b = B at *
  generalize u8s (d1.read i) = X at *
  generalize u8s (d2.read i) = Y at *
  obtain ⟨Z, hZ⟩ : ∃ Z, u8s zeros64 = Z := ⟨_, rfl⟩
  have HZg : Hid (u8s zeros64 = Z) := hZ
  rw [hZ] at HLz HOz
  clear hZ
  by_cases h2 : 100 < n
  · go_enter Try.func5, Try.ntmps5
    go_wp2_with (first
      | (rw [HW0.out])
      | (rw [HW1.out])
      | (go_at_call 6; refine (awake_any _).mono ?_; rintro e w2 ⟨rfl, hb2⟩))
    go_ret
    exact ⟨rfl, hbe _ hb2⟩
  rcases her2 with rfl | rfl
  · have hqx := hqx rfl
    have hqy := hqy rfl
    go_enter Try.func5, Try.ntmps5
    go_wp2_with (first
      | (rw [HW0.out])
      | (rw [HW1.out])
      | (go_at_call 6; refine (awake_any _).mono ?_; rintro e w2 ⟨rfl, hb2⟩)
      | (go_at_call 7; refine (HN.out _).mono ?_; rintro e w3 ⟨p, g, rfl, hp3, hg3, hD3, hb3⟩; have HD3 : Hid (DiskAt [p, g] w3 p g d0) := hD3; have HRa3 : Hid (Row w3 W.heap.size 29 A) := (HRa1.out.later hb2).later hb3; have HRb3 : Hid (Row w3 w0.heap.size 29 B) := (HRb1.out.later hb2).later hb3; have HP : Hid (W.heap.size + 2 ≤ p ∧ W.heap.size + 2 ≤ g) := ⟨by have := hb2.size; have := HS1.out; omega, by have := hb2.size; have := HS1.out; omega⟩; have HB3 : Hid (Below W.heap.size W w3) := (hbe _ hb2).trans (hb3.mono (hbe _ hb2).size); clear hD3 hb2 hb3 hp3 hg3)
      | ((with_reducible show wpList _ _ _ (Oper.mk (some 28) (Op.load 29 (.tmp 6)) _ _ _ _ :: _) _ _); refine wpList_load_want (by rfl) 29 (.tmp 6) rfl (W.heap.size) 0 rfl A (HRa3.out).range Try.underlying29 (by rw [HLa.out]; exact size29) ?_; simp only [Act.put, List.setIfInBounds_toArray, List.set_cons_zero, List.set_cons_succ])
      | (go_at_call 9; (with_reducible show Calls _ _ #[.pointer (some ⟨p, 0, none⟩), _, _] _ _); refine (HWa.out _ _ _ HD3.out).mono ?_; rintro e w4 ⟨rfl, hD4, hb4⟩; have HD4 : Hid (DiskAt [p, g] w4 p g d1) := hD4; have HRa4 : Hid (Row w4 W.heap.size 29 A) := hb4.row HRa3.out.lt (by have := HP.out; simp; omega) HRa3.out; have HRb4 : Hid (Row w4 w0.heap.size 29 B) := hb4.row HRb3.out.lt (by have := HP.out; have := HS0.out; simp; omega) HRb3.out; have HB4 : Hid (Below W.heap.size W w4) := HB3.out.trans (hb4.below HB3.out.size (by have := HP.out; simp; omega)); clear hD4 hb4)
      | (go_at_call 19; (with_reducible show Calls _ _ #[.pointer (some ⟨p, 0, none⟩)] _ _); refine (HCl.out _ _ _ HD4.out).mono ?_; rintro e w5 ⟨pc, gc, rfl, hp5, hg5, hD5, hb5⟩; have HC5 : Hid (DiskAt [pc, gc] w5 pc gc d1) := hD5; have HD5 : Hid (DiskAt [p, g, pc, gc] w5 p g d1) := (HD4.out.more (fun x hx => by simp only [List.mem_cons, List.not_mem_nil, or_false] at hx ⊢; omega) (by simp) (by simp)).later hb5; have HRa5 : Hid (Row w5 W.heap.size 29 A) := HRa4.out.later hb5; have HRb5 : Hid (Row w5 w0.heap.size 29 B) := HRb4.out.later hb5; have HB5 : Hid (Below W.heap.size W w5) := HB4.out.trans (hb5.mono HB4.out.size); have HPc : Hid (w4.heap.size ≤ pc ∧ w4.heap.size ≤ gc ∧ p < w4.heap.size ∧ g < w4.heap.size ∧ W.heap.size < w4.heap.size ∧ w0.heap.size < w4.heap.size) := ⟨hp5, hg5, HD4.out.lt.1, HD4.out.lt.2, HRa4.out.lt, HRb4.out.lt⟩; clear hD5 hb5 hp5 hg5)
      | (go_at_call 17; (with_reducible show Calls _ _ #[.pointer (some ⟨pc, 0, none⟩)] _ _); refine (len_any HC5.out).mono ?_; rintro e wa ⟨rfl, hwa⟩; obtain rfl : w5 = wa := hwa.symm; clear hwa)
      | (go_at_call 17; (with_reducible show Calls _ _ #[.pointer (some ⟨p, 0, none⟩)] _ _); refine (len_any HD5.out).mono ?_; rintro e wa ⟨rfl, hwa⟩; obtain rfl : w5 = wa := hwa.symm; clear hwa)
      | (go_at_call 15; (with_reducible show Calls _ _ #[.pointer (some ⟨pc, 0, none⟩)] _ _); refine (writes_any HC5.out).mono ?_; rintro e wa ⟨rfl, hwa⟩; obtain rfl : w5 = wa := hwa.symm; clear hwa)
      | (go_at_call 15; (with_reducible show Calls _ _ #[.pointer (some ⟨p, 0, none⟩)] _ _); refine (writes_any HD5.out).mono ?_; rintro e wa ⟨rfl, hwa⟩; obtain rfl : w5 = wa := hwa.symm; clear hwa)
      | ((with_reducible show wpList _ _ _ (Oper.mk (some 50) (Op.load 29 (.tmp 7)) _ _ _ _ :: _) _ _); refine wpList_load_want (by rfl) 29 (.tmp 7) rfl (w0.heap.size) 0 rfl B (HRb5.out).range Try.underlying29 (by rw [HLb.out]; exact size29) ?_; simp only [Act.put, List.setIfInBounds_toArray, List.set_cons_zero, List.set_cons_succ])
      | (go_at_call 9; (with_reducible show Calls _ _ #[.pointer (some ⟨pc, 0, none⟩), _, _] _ _); refine (HWb.out _ _ _ HC5.out).mono ?_; rintro e w6 ⟨rfl, hD6, hb6⟩; have HC6 : Hid (DiskAt [pc, gc] w6 pc gc d2) := hD6; have HD6 : Hid (DiskAt [p, g, pc, gc] w6 p g d1) := HD5.out.buts hb6 (by simp) (by have := HPc.out; simp; omega) (by have := HPc.out; simp; omega); have HRa6 : Hid (Row w6 W.heap.size 29 A) := hb6.row HRa5.out.lt (by have := HPc.out; simp; omega) HRa5.out; have HRb6 : Hid (Row w6 w0.heap.size 29 B) := hb6.row HRb5.out.lt (by have := HPc.out; simp; omega) HRb5.out; have HB6 : Hid (Below W.heap.size W w6) := HB5.out.trans (hb6.below HB5.out.size (by have := HPc.out; simp; omega)); clear hD6 hb6)
      | (go_at_call 11; (with_reducible show Calls _ _ #[.pointer (some ⟨p, 0, none⟩), _] _ _); refine (HRx.out _ _ _ _ HD6.out).mono ?_; rintro e w7 ⟨rfl, hb7⟩)
      | ((with_reducible show wpList _ _ _ (Oper.mk none (Op.store 29 (.tmp 13) (.tmp 56)) _ _ _ _ :: _) _ _); rw [z64u8]; refine wpList_store_new rfl (.tmp 13) (.tmp 56) rfl X HLx.out HOx.out rfl rfl (fun w8 hb8 hR8 hs8 => ?_); have HbA : Hid (Below w6.heap.size w6 w8) := hb7.trans (hb8.mono hb7.size); have HX8 : Hid (Row w8 w7.heap.size 29 X) := hR8; have HC8 : Hid (DiskAt [pc, gc] w8 pc gc d2) := HC6.out.later HbA.out; clear hR8 hb7 hb8 hs8; simp only [Act.put])
      | (go_at_call 11; (with_reducible show Calls _ _ #[.pointer (some ⟨pc, 0, none⟩), _] _ _); refine (HRy.out _ _ _ _ HC8.out).mono ?_; rintro e w9 ⟨rfl, hb9⟩)
      | ((with_reducible show wpList _ _ _ (Oper.mk none (Op.store 29 (.tmp 15) (.tmp 62)) _ _ _ _ :: _) _ _); rw [z64u8]; refine wpList_store_new rfl (.tmp 15) (.tmp 62) rfl Y HLy.out HOy.out rfl rfl (fun w10 hb10 hR10 hs10 => ?_); have HbB : Hid (Below w8.heap.size w8 w10) := hb9.trans (hb10.mono hb9.size); have HY10 : Hid (Row w10 w9.heap.size 29 Y) := hR10; clear hR10 hb9 hb10 hs10; simp only [Act.put])
      | (go_at_call 13; (with_reducible show Calls _ _ #[.pointer none] _ _); refine (start_none _).mono ?_; rintro e wa ⟨⟨v13, rfl⟩, hwa⟩; obtain rfl : w10 = wa := hwa.symm; clear hwa)
      | (go_at_call 11; (with_reducible show Calls _ _ #[.pointer none, _] _ _); refine (read_none _ _).mono ?_; rintro e w11 ⟨rfl, hb11⟩; rw [HZg.out])
      | ((with_reducible show wpList _ _ _ (Oper.mk none (Op.store 29 (.tmp 18) (.tmp 70)) _ _ _ _ :: _) _ _); rw [z64u8]; refine wpList_store_new rfl (.tmp 18) (.tmp 70) rfl Z HLz.out HOz.out rfl rfl (fun w12 hb12 hR12 hs12 => ?_); have HbC : Hid (Below w10.heap.size w10 w12) := hb11.trans (hb12.mono hb11.size); have HRa12 : Hid (Row w12 W.heap.size 29 A) := ((HRa6.out.later HbA.out).later HbB.out).later HbC.out; clear hR12 hb11 hb12 hs12; simp only [Act.put])
      | (go_at_call 16; (with_reducible show Calls _ _ #[.pointer none] _ _); refine (dead_none _).mono ?_; rintro e wa ⟨rfl, hwa⟩; obtain rfl : w12 = wa := hwa.symm; clear hwa)
      | (go_at_call 17; (with_reducible show Calls _ _ #[.pointer none] _ _); refine (len_none _).mono ?_; rintro e wa ⟨rfl, hwa⟩; obtain rfl : w12 = wa := hwa.symm; clear hwa)
      | (go_at_call 19; (with_reducible show Calls _ _ #[.pointer none] _ _); refine (clone_none _).mono ?_; rintro e wa ⟨rfl, hwa⟩; obtain rfl : w12 = wa := hwa.symm; clear hwa)
      | ((with_reducible show wpList _ _ _ (Oper.mk (some 92) (Op.load 29 (.tmp 6)) _ _ _ _ :: _) _ _); refine wpList_load_want (by rfl) 29 (.tmp 6) rfl (W.heap.size) 0 rfl A (HRa12.out).range Try.underlying29 (by rw [HLa.out]; exact size29) ?_; simp only [Act.put, List.setIfInBounds_toArray, List.set_cons_zero, List.set_cons_succ])
      | (go_at_call 9; (with_reducible show Calls _ _ #[.pointer none, _, _] _ _); refine (write_none _ _ _).mono ?_; rintro e w13 ⟨rfl, hb13⟩; have HbD : Hid (Below w6.heap.size w6 w13) := ((HbA.out.trans (HbB.out.mono HbA.out.size)).trans (HbC.out.mono (by have := HbA.out.size; have := HbB.out.size; omega))).trans (hb13.mono (by have := HbA.out.size; have := HbB.out.size; have := HbC.out.size; omega)); have HRa13 : Hid (Row w13 W.heap.size 29 A) := HRa12.out.later hb13; have HRb13 : Hid (Row w13 w0.heap.size 29 B) := HRb6.out.later HbD.out; have HX13 : Hid (Row w13 w7.heap.size 29 X) := ((HX8.out.later HbB.out).later HbC.out).later hb13; have HY13 : Hid (Row w13 w9.heap.size 29 Y) := (HY10.out.later HbC.out).later hb13; clear hb13)
      | ((with_reducible show wpList _ _ _ (Oper.mk (some 108) (Op.load 29 (.tmp 13)) _ _ _ _ :: _) _ _); refine wpList_load_want (by rfl) 29 (.tmp 13) rfl (w7.heap.size) 0 rfl X (HX13.out).range Try.underlying29 (by rw [HLx.out]; exact size29) ?_; simp only [Act.put, List.setIfInBounds_toArray, List.set_cons_zero, List.set_cons_succ])
      | ((with_reducible show wpList _ _ _ (Oper.mk (some 109) (Op.load 29 (.tmp 6)) _ _ _ _ :: _) _ _); refine wpList_load_want (by rfl) 29 (.tmp 6) rfl (W.heap.size) 0 rfl A (HRa13.out).range Try.underlying29 (by rw [HLa.out]; exact size29) ?_; simp only [Act.put, List.setIfInBounds_toArray, List.set_cons_zero, List.set_cons_succ])
      | ((with_reducible show wpList _ _ _ (Oper.mk (some 112) (Op.load 29 (.tmp 15)) _ _ _ _ :: _) _ _); refine wpList_load_want (by rfl) 29 (.tmp 15) rfl (w9.heap.size) 0 rfl Y (HY13.out).range Try.underlying29 (by rw [HLy.out]; exact size29) ?_; simp only [Act.put, List.setIfInBounds_toArray, List.set_cons_zero, List.set_cons_succ])
      | ((with_reducible show wpList _ _ _ (Oper.mk (some 113) (Op.load 29 (.tmp 7)) _ _ _ _ :: _) _ _); refine wpList_load_want (by rfl) 29 (.tmp 7) rfl (w0.heap.size) 0 rfl B (HRb13.out).range Try.underlying29 (by rw [HLb.out]; exact size29) ?_; simp only [Act.put, List.setIfInBounds_toArray, List.set_cons_zero, List.set_cons_succ]))
    go_ret
    exact ⟨rfl, HB6.out.trans (HbD.out.mono HB6.out.size)⟩
  · clear hqx hqy
    go_enter Try.func5, Try.ntmps5
    go_wp2_with (first
      | (rw [HW0.out])
      | (rw [HW1.out])
      | (go_at_call 6; refine (awake_any _).mono ?_; rintro e w2 ⟨rfl, hb2⟩)
      | (go_at_call 7; refine (HN.out _).mono ?_; rintro e w3 ⟨p, g, rfl, hp3, hg3, hD3, hb3⟩; have HD3 : Hid (DiskAt [p, g] w3 p g d0) := hD3; have HRa3 : Hid (Row w3 W.heap.size 29 A) := (HRa1.out.later hb2).later hb3; have HRb3 : Hid (Row w3 w0.heap.size 29 B) := (HRb1.out.later hb2).later hb3; have HP : Hid (W.heap.size + 2 ≤ p ∧ W.heap.size + 2 ≤ g) := ⟨by have := hb2.size; have := HS1.out; omega, by have := hb2.size; have := HS1.out; omega⟩; have HB3 : Hid (Below W.heap.size W w3) := (hbe _ hb2).trans (hb3.mono (hbe _ hb2).size); clear hD3 hb2 hb3 hp3 hg3)
      | ((with_reducible show wpList _ _ _ (Oper.mk (some 28) (Op.load 29 (.tmp 6)) _ _ _ _ :: _) _ _); refine wpList_load_want (by rfl) 29 (.tmp 6) rfl (W.heap.size) 0 rfl A (HRa3.out).range Try.underlying29 (by rw [HLa.out]; exact size29) ?_; simp only [Act.put, List.setIfInBounds_toArray, List.set_cons_zero, List.set_cons_succ])
      | (go_at_call 9; (with_reducible show Calls _ _ #[.pointer (some ⟨p, 0, none⟩), _, _] _ _); refine (HWa.out _ _ _ HD3.out).mono ?_; rintro e w4 ⟨rfl, hD4, hb4⟩; have HD4 : Hid (DiskAt [p, g] w4 p g d1) := hD4; have HRa4 : Hid (Row w4 W.heap.size 29 A) := hb4.row HRa3.out.lt (by have := HP.out; simp; omega) HRa3.out; have HRb4 : Hid (Row w4 w0.heap.size 29 B) := hb4.row HRb3.out.lt (by have := HP.out; have := HS0.out; simp; omega) HRb3.out; have HB4 : Hid (Below W.heap.size W w4) := HB3.out.trans (hb4.below HB3.out.size (by have := HP.out; simp; omega)); clear hD4 hb4)
      | (go_at_call 19; (with_reducible show Calls _ _ #[.pointer (some ⟨p, 0, none⟩)] _ _); refine (HCl.out _ _ _ HD4.out).mono ?_; rintro e w5 ⟨pc, gc, rfl, hp5, hg5, hD5, hb5⟩; have HC5 : Hid (DiskAt [pc, gc] w5 pc gc d1) := hD5; have HD5 : Hid (DiskAt [p, g, pc, gc] w5 p g d1) := (HD4.out.more (fun x hx => by simp only [List.mem_cons, List.not_mem_nil, or_false] at hx ⊢; omega) (by simp) (by simp)).later hb5; have HRa5 : Hid (Row w5 W.heap.size 29 A) := HRa4.out.later hb5; have HRb5 : Hid (Row w5 w0.heap.size 29 B) := HRb4.out.later hb5; have HB5 : Hid (Below W.heap.size W w5) := HB4.out.trans (hb5.mono HB4.out.size); have HPc : Hid (w4.heap.size ≤ pc ∧ w4.heap.size ≤ gc ∧ p < w4.heap.size ∧ g < w4.heap.size ∧ W.heap.size < w4.heap.size ∧ w0.heap.size < w4.heap.size) := ⟨hp5, hg5, HD4.out.lt.1, HD4.out.lt.2, HRa4.out.lt, HRb4.out.lt⟩; clear hD5 hb5 hp5 hg5)
      | (go_at_call 17; (with_reducible show Calls _ _ #[.pointer (some ⟨pc, 0, none⟩)] _ _); refine (len_any HC5.out).mono ?_; rintro e wa ⟨rfl, hwa⟩; obtain rfl : w5 = wa := hwa.symm; clear hwa)
      | (go_at_call 17; (with_reducible show Calls _ _ #[.pointer (some ⟨p, 0, none⟩)] _ _); refine (len_any HD5.out).mono ?_; rintro e wa ⟨rfl, hwa⟩; obtain rfl : w5 = wa := hwa.symm; clear hwa)
      | (go_at_call 15; (with_reducible show Calls _ _ #[.pointer (some ⟨pc, 0, none⟩)] _ _); refine (writes_any HC5.out).mono ?_; rintro e wa ⟨rfl, hwa⟩; obtain rfl : w5 = wa := hwa.symm; clear hwa)
      | (go_at_call 15; (with_reducible show Calls _ _ #[.pointer (some ⟨p, 0, none⟩)] _ _); refine (writes_any HD5.out).mono ?_; rintro e wa ⟨rfl, hwa⟩; obtain rfl : w5 = wa := hwa.symm; clear hwa)
      | ((with_reducible show wpList _ _ _ (Oper.mk (some 50) (Op.load 29 (.tmp 7)) _ _ _ _ :: _) _ _); refine wpList_load_want (by rfl) 29 (.tmp 7) rfl (w0.heap.size) 0 rfl B (HRb5.out).range Try.underlying29 (by rw [HLb.out]; exact size29) ?_; simp only [Act.put, List.setIfInBounds_toArray, List.set_cons_zero, List.set_cons_succ])
      | (go_at_call 9; (with_reducible show Calls _ _ #[.pointer (some ⟨pc, 0, none⟩), _, _] _ _); refine (HWb.out _ _ _ HC5.out).mono ?_; rintro e w6 ⟨rfl, hD6, hb6⟩; have HC6 : Hid (DiskAt [pc, gc] w6 pc gc d2) := hD6; have HD6 : Hid (DiskAt [p, g, pc, gc] w6 p g d1) := HD5.out.buts hb6 (by simp) (by have := HPc.out; simp; omega) (by have := HPc.out; simp; omega); have HRa6 : Hid (Row w6 W.heap.size 29 A) := hb6.row HRa5.out.lt (by have := HPc.out; simp; omega) HRa5.out; have HRb6 : Hid (Row w6 w0.heap.size 29 B) := hb6.row HRb5.out.lt (by have := HPc.out; simp; omega) HRb5.out; have HB6 : Hid (Below W.heap.size W w6) := HB5.out.trans (hb6.below HB5.out.size (by have := HPc.out; simp; omega)); clear hD6 hb6)
      | (go_at_call 11; (with_reducible show Calls _ _ #[.pointer (some ⟨p, 0, none⟩), _] _ _); refine (HRx.out _ _ _ _ HD6.out).mono ?_; rintro e w7 ⟨rfl, hb7⟩)
      | ((with_reducible show wpList _ _ _ (Oper.mk none (Op.store 29 (.tmp 13) (.tmp 56)) _ _ _ _ :: _) _ _); rw [z64u8]; refine wpList_store_new rfl (.tmp 13) (.tmp 56) rfl X HLx.out HOx.out rfl rfl (fun w8 hb8 hR8 hs8 => ?_); have HbA : Hid (Below w6.heap.size w6 w8) := hb7.trans (hb8.mono hb7.size); have HX8 : Hid (Row w8 w7.heap.size 29 X) := hR8; have HC8 : Hid (DiskAt [pc, gc] w8 pc gc d2) := HC6.out.later HbA.out; clear hR8 hb7 hb8 hs8; simp only [Act.put])
      | (go_at_call 11; (with_reducible show Calls _ _ #[.pointer (some ⟨pc, 0, none⟩), _] _ _); refine (HRy.out _ _ _ _ HC8.out).mono ?_; rintro e w9 ⟨rfl, hb9⟩)
      | ((with_reducible show wpList _ _ _ (Oper.mk none (Op.store 29 (.tmp 15) (.tmp 62)) _ _ _ _ :: _) _ _); rw [z64u8]; refine wpList_store_new rfl (.tmp 15) (.tmp 62) rfl Y HLy.out HOy.out rfl rfl (fun w10 hb10 hR10 hs10 => ?_); have HbB : Hid (Below w8.heap.size w8 w10) := hb9.trans (hb10.mono hb9.size); have HY10 : Hid (Row w10 w9.heap.size 29 Y) := hR10; clear hR10 hb9 hb10 hs10; simp only [Act.put])
      | (go_at_call 13; (with_reducible show Calls _ _ #[.pointer none] _ _); refine (start_none _).mono ?_; rintro e wa ⟨⟨v13, rfl⟩, hwa⟩; obtain rfl : w10 = wa := hwa.symm; clear hwa)
      | (go_at_call 11; (with_reducible show Calls _ _ #[.pointer none, _] _ _); refine (read_none _ _).mono ?_; rintro e w11 ⟨rfl, hb11⟩; rw [HZg.out])
      | ((with_reducible show wpList _ _ _ (Oper.mk none (Op.store 29 (.tmp 18) (.tmp 70)) _ _ _ _ :: _) _ _); rw [z64u8]; refine wpList_store_new rfl (.tmp 18) (.tmp 70) rfl Z HLz.out HOz.out rfl rfl (fun w12 hb12 hR12 hs12 => ?_); have HbC : Hid (Below w10.heap.size w10 w12) := hb11.trans (hb12.mono hb11.size); have HRa12 : Hid (Row w12 W.heap.size 29 A) := ((HRa6.out.later HbA.out).later HbB.out).later HbC.out; clear hR12 hb11 hb12 hs12; simp only [Act.put])
      | (go_at_call 16; (with_reducible show Calls _ _ #[.pointer none] _ _); refine (dead_none _).mono ?_; rintro e wa ⟨rfl, hwa⟩; obtain rfl : w12 = wa := hwa.symm; clear hwa)
      | (go_at_call 17; (with_reducible show Calls _ _ #[.pointer none] _ _); refine (len_none _).mono ?_; rintro e wa ⟨rfl, hwa⟩; obtain rfl : w12 = wa := hwa.symm; clear hwa)
      | (go_at_call 19; (with_reducible show Calls _ _ #[.pointer none] _ _); refine (clone_none _).mono ?_; rintro e wa ⟨rfl, hwa⟩; obtain rfl : w12 = wa := hwa.symm; clear hwa)
      | ((with_reducible show wpList _ _ _ (Oper.mk (some 92) (Op.load 29 (.tmp 6)) _ _ _ _ :: _) _ _); refine wpList_load_want (by rfl) 29 (.tmp 6) rfl (W.heap.size) 0 rfl A (HRa12.out).range Try.underlying29 (by rw [HLa.out]; exact size29) ?_; simp only [Act.put, List.setIfInBounds_toArray, List.set_cons_zero, List.set_cons_succ])
      | (go_at_call 9; (with_reducible show Calls _ _ #[.pointer none, _, _] _ _); refine (write_none _ _ _).mono ?_; rintro e w13 ⟨rfl, hb13⟩; have HbD : Hid (Below w6.heap.size w6 w13) := ((HbA.out.trans (HbB.out.mono HbA.out.size)).trans (HbC.out.mono (by have := HbA.out.size; have := HbB.out.size; omega))).trans (hb13.mono (by have := HbA.out.size; have := HbB.out.size; have := HbC.out.size; omega)); have HRa13 : Hid (Row w13 W.heap.size 29 A) := HRa12.out.later hb13; have HRb13 : Hid (Row w13 w0.heap.size 29 B) := HRb6.out.later HbD.out; have HX13 : Hid (Row w13 w7.heap.size 29 X) := ((HX8.out.later HbB.out).later HbC.out).later hb13; have HY13 : Hid (Row w13 w9.heap.size 29 Y) := (HY10.out.later HbC.out).later hb13; clear hb13))
    go_ret
    exact ⟨rfl, HB6.out.trans (HbD.out.mono HB6.out.size)⟩
end Go.Proofs.Ytffngjglgdbncaa
