/-
  EnvelIds, walked, over what its calls tell.
-/
import Derived.Test.YtbaokodhoiledaaDoorRRow
import Derived.Test.YtbaokodhoiledaaDoorAwake
import Derived.Test.YtbaokodhoiledaaDoorEqId
namespace Go.Proofs.YtbaokodhoiledaaDoor
open Classical
open Go.RowKit Go.Shelf

theorem i64_and1 (n : Int) : bits .and .i64 n 1 = n % 2 := by
  have h31 : (BitVec.ofInt 64 1).toNat = 2 ^ 1 - 1 := by decide
  have key : (BitVec.ofInt 64 n &&& BitVec.ofInt 64 1).toNat = (n % ((2 ^ 64 : Nat) : Int)).toNat % 2 ^ 1 := by
    rw [BitVec.toNat_and, BitVec.toNat_ofInt, h31, Nat.and_two_pow_sub_one_eq_mod]
  show IntKind.i64.wrap ((BitVec.ofInt 64 n &&& BitVec.ofInt 64 1).toNat : Nat) = n % 2
  rw [key, IntKind.wrap_i64]
  omega

/-- What a call may turn. -/
def LFr (N : Nat) (W w' : World) : Prop := Below N W w' ∧ KeepT 38 W w'

set_option maxRecDepth 100000 in
set_option maxHeartbeats 4000000 in
theorem ids_core (mode m : Int) (hm : mode % 2 = m) (p : Option Addr) (len cap : Nat) (hlen : len ≤ 300) (kd : Int) (rl ep : Nat) (p1 : Option Addr) (l1 c1 : Nat) (q1 : Option Addr) (lb1 cb1 : Nat) (kd' : Int) (rl' ep' : Nat) (p2 : Option Addr) (l2 c2 : Nat) (q2 : Option Addr) (lb2 cb2 : Nat)
    (hf1 : l1 ≤ 40 ∧ lb1 ≤ 1000) (hf2 : l2 ≤ 40 ∧ lb2 ≤ 1000) (w : World) (d1 d2 : List Nat) (hd1 : IsId d1) (hd2 : IsId d2) (x1 x2 : Int) (s1 s2 : ByteArray)
    (JT JS : Nat → World → Prop) (J1 : Nat → Nat → World → Prop) (J2 : Nat → Nat → Value → World → Prop) (J3 : Nat → Nat → Value → Value → World → Prop) (J4 : Nat → Nat → Value → Value → Value → World → Prop) (J5 : Value → Value → Value → Value → World → Prop)
    (HT : Hid (∀ W, Below w.heap.size w W → w.heap.size + 2 ≤ W.heap.size → Calls Tryd.prog 7 #[.slice p len cap] W fun e w' => ∃ B, e = .returned (.pointer (some ⟨B, 0, none⟩)) ∧ JT B w' ∧ LFr (w.heap.size + 2) W w'))
    (HS : Hid (∀ B W, JT B W → Calls Tryd.prog 6 #[.int .i64 m, .pointer (some ⟨B, 0, none⟩)] W fun e w' => ∃ S, e = .returned (.pointer (some ⟨S, 0, none⟩)) ∧ JS S w' ∧ LFr (w.heap.size + 2) W w'))
    (HJ : Hid (∀ S W, JS S W → J1 S W.heap.size (W.alloc (.cells #[.int .i64 m, .slice p len cap, .slice none 0 0, .slice none 0 0, .slice none 0 0, .bool false] 36))))
    (HC1 : Hid (∀ S R W, J1 S R W → Calls Tryd.prog 8 #[.pointer (some ⟨S, 0, none⟩), .agg #[.int .i64 kd, .int .u32 (rl : Nat), .int .u32 (ep : Nat), .slice p1 l1 c1, .slice q1 lb1 cb1]] W fun e w' => ∃ v, e = .returned (.tuple #[.agg (u8s d1).toArray, v, .int .i64 x1]) ∧ J2 S R v w' ∧ LFr (w.heap.size + 2) W w'))
    (HC2 : Hid (∀ S R v W, J2 S R v W → Calls Tryd.prog 9 #[.pointer (some ⟨R, 0, none⟩), .agg #[.int .i64 kd, .int .u32 (rl : Nat), .int .u32 (ep : Nat), .slice p1 l1 c1, .slice q1 lb1 cb1]] W fun e w' => ∃ u, e = .returned (.tuple #[.agg (u8s d1).toArray, u, .int .i64 x1]) ∧ J3 S R v u w' ∧ LFr (w.heap.size + 2) W w'))
    (HC3 : Hid (∀ S R v u W, J3 S R v u W → Calls Tryd.prog 8 #[.pointer (some ⟨S, 0, none⟩), .agg #[.int .i64 kd', .int .u32 (rl' : Nat), .int .u32 (ep' : Nat), .slice p2 l2 c2, .slice q2 lb2 cb2]] W fun e w' => ∃ y, e = .returned (.tuple #[.agg (u8s d2).toArray, y, .int .i64 x2]) ∧ J4 S R v u y w' ∧ LFr (w.heap.size + 2) W w'))
    (HC4 : Hid (∀ S R v u y W, J4 S R v u y W → Calls Tryd.prog 9 #[.pointer (some ⟨R, 0, none⟩), .agg #[.int .i64 kd', .int .u32 (rl' : Nat), .int .u32 (ep' : Nat), .slice p2 l2 c2, .slice q2 lb2 cb2]] W fun e w' => ∃ z, e = .returned (.tuple #[.agg (u8s d2).toArray, z, .int .i64 x2]) ∧ J5 v u y z w' ∧ LFr (w.heap.size + 2) W w'))
    (K2 : Hid (∀ S R v W W', Below W.heap.size W W' → J2 S R v W → J2 S R v W')) (K3 : Hid (∀ S R v u W W', Below W.heap.size W W' → J3 S R v u W → J3 S R v u W')) (K4 : Hid (∀ S R v u y W W', Below W.heap.size W W' → J4 S R v u y W → J4 S R v u y W'))
    (K5 : Hid (∀ v u y z W W', Below W.heap.size W W' → J5 v u y z W → Str W' v s1 ∧ Str W' u s1 ∧ Str W' y s2 ∧ Str W' z s2)) :
    Calls Tryd.prog 3 #[.int .i64 mode, .slice p len cap, .agg #[.int .i64 kd, .int .u32 (rl : Nat), .int .u32 (ep : Nat), .slice p1 l1 c1, .slice q1 lb1 cb1], .agg #[.int .i64 kd', .int .u32 (rl' : Nat), .int .u32 (ep' : Nat), .slice p2 l2 c2, .slice q2 lb2 cb2]] w fun e w' => e = .returned (.bool true) ∧ Below w.heap.size w w' := by
  obtain ⟨wa, hwa⟩ : ∃ wa, (w.alloc (.cells #[.int .i64 kd, .int .u32 (rl : Nat), .int .u32 (ep : Nat), .slice p1 l1 c1, .slice q1 lb1 cb1] 26)).alloc (.cells #[.int .i64 kd', .int .u32 (rl' : Nat), .int .u32 (ep' : Nat), .slice p2 l2 c2, .slice q2 lb2 cb2] 26) = wa := ⟨_, rfl⟩
  have hba : Below w.heap.size w wa := by rw [← hwa]; exact ((Below.refl _ w).alloc (Nat.le_refl _) _).alloc (by simp) _
  have hsa : wa.heap.size = w.heap.size + 2 := by rw [← hwa]; simp
  have hr1 : Row wa w.heap.size 26 [.int .i64 kd, .int .u32 (rl : Nat), .int .u32 (ep : Nat), .slice p1 l1 c1, .slice q1 lb1 cb1] := by rw [← hwa]; exact (Row.new w 26 _).alloc _
  have hr2 : Row wa (w.heap.size + 1) 26 [.int .i64 kd', .int .u32 (rl' : Nat), .int .u32 (ep' : Nat), .slice p2 l2 c2, .slice q2 lb2 cb2] := by rw [← hwa]; exact Row.newAt _ _ _ (by simp)
  have HWA : Hid ((w.alloc (.cells #[.int .i64 kd, .int .u32 (rl : Nat), .int .u32 (ep : Nat), .slice p1 l1 c1, .slice q1 lb1 cb1] 26)).alloc (.cells #[.int .i64 kd', .int .u32 (rl' : Nat), .int .u32 (ep' : Nat), .slice p2 l2 c2, .slice q2 lb2 cb2] 26) = wa) := hwa
  have HR1 : Hid (∀ W, Below (w.heap.size + 2) wa W → W.cell? ⟨w.heap.size, 0, none⟩ = some (.int .i64 kd) ∧ W.cell? ⟨w.heap.size, 1, none⟩ = some (.int .u32 (rl : Nat)) ∧ W.cell? ⟨w.heap.size, 2, none⟩ = some (.int .u32 (ep : Nat)) ∧ W.cell? ⟨w.heap.size, 3, none⟩ = some (.slice p1 l1 c1) ∧ W.cell? ⟨w.heap.size, 4, none⟩ = some (.slice q1 lb1 cb1)) := fun W h =>
    have hr := hr1.below h (by omega)
    ⟨hr.cell (i := 0) rfl, hr.cell (i := 1) rfl, hr.cell (i := 2) rfl, hr.cell (i := 3) rfl, hr.cell (i := 4) rfl⟩
  have HR2 : Hid (∀ W, Below (w.heap.size + 2) wa W → W.cell? ⟨w.heap.size + 1, 0, none⟩ = some (.int .i64 kd') ∧ W.cell? ⟨w.heap.size + 1, 1, none⟩ = some (.int .u32 (rl' : Nat)) ∧ W.cell? ⟨w.heap.size + 1, 2, none⟩ = some (.int .u32 (ep' : Nat)) ∧ W.cell? ⟨w.heap.size + 1, 3, none⟩ = some (.slice p2 l2 c2) ∧ W.cell? ⟨w.heap.size + 1, 4, none⟩ = some (.slice q2 lb2 cb2)) := fun W h =>
    have hr := hr2.below h (by omega)
    ⟨hr.cell (i := 0) rfl, hr.cell (i := 1) rfl, hr.cell (i := 2) rfl, hr.cell (i := 3) rfl, hr.cell (i := 4) rfl⟩
  have HF1 : Hid (∀ W, Calls Tryd.prog 5 #[.agg #[.int .i64 kd, .int .u32 (rl : Nat), .int .u32 (ep : Nat), .slice p1 l1 c1, .slice q1 lb1 cb1]] W fun e w' => e = .returned (.bool true) ∧ Below W.heap.size W w') := fun W => by
    have := few_any kd rl ep p1 l1 c1 q1 lb1 cb1 W
    rw [decide_eq_true hf1] at this
    exact this
  have HF2 : Hid (∀ W, Calls Tryd.prog 5 #[.agg #[.int .i64 kd', .int .u32 (rl' : Nat), .int .u32 (ep' : Nat), .slice p2 l2 c2, .slice q2 lb2 cb2]] W fun e w' => e = .returned (.bool true) ∧ Below W.heap.size W w') := fun W => by
    have := few_any kd' rl' ep' p2 l2 c2 q2 lb2 cb2 W
    rw [decide_eq_true hf2] at this
    exact this
  have hand : bits .and .i64 mode 1 = m := by rw [i64_and1, hm]
  have hl3 : ¬ (300 : Int) < (len : Int) := by omega
  have HL1 : Hid ((u8s d1).length = 32) := by show _ = _; rw [u8s_length, hd1.1]
  have HL2 : Hid ((u8s d2).length = 32) := by show _ = _; rw [u8s_length, hd2.1]
  have HO1 : Hid (∀ v ∈ u8s d1, v.oneCell' = true) := u8s_one _
  have HO2 : Hid (∀ v ∈ u8s d2, v.oneCell' = true) := u8s_one _
  have heq1 : ∀ W, (Op.equalIn 10000 38 (.agg (u8s d1).toArray) (.agg (u8s d1).toArray)).run Tryd.prog W = .ok true W := fun W => by have := equal_ids hd1 hd1 W; rwa [decide_eq_true rfl] at this
  have heq2 : ∀ W, (Op.equalIn 10000 38 (.agg (u8s d2).toArray) (.agg (u8s d2).toArray)).run Tryd.prog W = .ok true W := fun W => by have := equal_ids hd2 hd2 W; rwa [decide_eq_true rfl] at this
  clear hwa hr1 hr2 hf1 hf2 hd1 hd2 hm
  generalize u8s d1 = D1 at *
  generalize u8s d2 = D2 at *
  go_enter Tryd.func3, Tryd.ntmps3
  go_wp2_with (first
    | (go_at_call 4; rw [HWA.out]; refine (awake_any wa).mono ?_; rintro e w1 ⟨rfl, hb1⟩; have hB1 : Below (w.heap.size + 2) wa w1 := (by rw [← hsa]; exact hb1); obtain ⟨a0, a1, a2, a3, a4⟩ := HR1.out w1 hB1; clear hb1)
    | ((with_reducible show Calls Tryd.prog 5 #[.agg #[.int .i64 kd, .int .u32 (rl : Nat), .int .u32 (ep : Nat), .slice p1 l1 c1, .slice q1 lb1 cb1]] _ _); refine (HF1.out w1).mono ?_; rintro e w2 ⟨rfl, hb2⟩; have hB2 : Below (w.heap.size + 2) wa w2 := hB1.trans (hb2.mono (by have := hB1.size; omega)); obtain ⟨b0, b1, b2, b3, b4⟩ := HR2.out w2 hB2; clear a0 a1 a2 a3 a4 hb2)
    | ((with_reducible show Calls Tryd.prog 5 #[.agg #[.int .i64 kd', .int .u32 (rl' : Nat), .int .u32 (ep' : Nat), .slice p2 l2 c2, .slice q2 lb2 cb2]] _ _); refine (HF2.out w2).mono ?_; rintro e w3 ⟨rfl, hb3⟩; have hB3 : Below (w.heap.size + 2) wa w3 := hB2.trans (hb3.mono (by have := hB2.size; omega)); clear b0 b1 b2 b3 b4 hb3)
    | (go_at_call 7; refine (HT.out w3 (hba.trans (hB3.mono (by omega))) (by have := hB3.size; omega)).mono ?_; rintro e w4 ⟨B, rfl, hj4, hf4⟩; have hB4 : Below (w.heap.size + 2) wa w4 := hB3.trans hf4.1; have HJ4 : Hid (JT B w4) := hj4; clear hj4 hf4)
    | (go_at_call 6; refine (HS.out B w4 HJ4.out).mono ?_; rintro e w5 ⟨S, rfl, hj5, hf5⟩; have hB5 : Below (w.heap.size + 2) wa w5 := hB4.trans hf5.1; have hj6 := HJ.out S w5 hj5; have hb6 : Below w5.heap.size w5 (w5.alloc (.cells #[.int .i64 m, .slice p len cap, .slice none 0 0, .slice none 0 0, .slice none 0 0, .bool false] 36)) := (Below.refl _ w5).alloc (Nat.le_refl _) _; have hB6 : Below (w.heap.size + 2) wa (w5.alloc (.cells #[.int .i64 m, .slice p len cap, .slice none 0 0, .slice none 0 0, .slice none 0 0, .bool false] 36)) := hB5.trans (hb6.mono (by have := hB5.size; omega)); obtain ⟨a0, a1, a2, a3, a4⟩ := HR1.out _ hB6; have HJ6 : Hid (J1 S w5.heap.size (w5.alloc (.cells #[.int .i64 m, .slice p len cap, .slice none 0 0, .slice none 0 0, .slice none 0 0, .bool false] 36))) := hj6; clear hj5 hf5 hj6 hb6)
    | ((with_reducible show Calls Tryd.prog 8 #[_, .agg #[.int .i64 kd, .int .u32 (rl : Nat), .int .u32 (ep : Nat), .slice p1 l1 c1, .slice q1 lb1 cb1]] _ _); refine (HC1.out _ _ _ HJ6.out).mono ?_; rintro e w7 ⟨v, rfl, hj7, hf7⟩; have hB7 : Below (w.heap.size + 2) wa w7 := hB6.trans hf7.1; have HJ7 : Hid (J2 S w5.heap.size v w7) := hj7; clear hj7 hf7 a0 a1 a2 a3 a4)
    | ((with_reducible show wpList _ _ _ (Oper.mk _ (Op.store 38 (.tmp 11) (.tmp 52)) _ _ _ _ :: _) _ _); refine wpList_store_Row rfl 38 (.tmp 11) (.tmp 52) rfl D1 rfl rfl (Row.new _ _ _) (by rw [HL1.out]; exact size38) (by rw [HL1.out]; rfl) HO1.out ?_; have hRV := (Row.new' w7 38 (List.replicate 32 (Value.int .u8 0))).sets_all (vs := D1) (by rw [HL1.out]; rfl); have hbn : Below w7.heap.size w7 ((w7.alloc (.cells (List.replicate 32 (Value.int .u8 0)).toArray 38)).setCells w7.heap.size 0 D1) := below_setCells (Nat.le_refl _) _ _ ((Below.refl _ w7).alloc (Nat.le_refl _) _); rw [z32u8]; generalize (w7.alloc (.cells (List.replicate 32 (Value.int .u8 0)).toArray 38)).setCells w7.heap.size 0 D1 = w8 at *; have hB8 : Below (w.heap.size + 2) wa w8 := hB7.trans (hbn.mono (by have := hB7.size; omega)); have HJ8 : Hid (J2 S w5.heap.size v w8) := K2.out _ _ _ _ _ hbn HJ7.out; have HA8 : Hid (Row w8 w7.heap.size 38 D1) := hRV; obtain ⟨a0, a1, a2, a3, a4⟩ := HR1.out w8 hB8; clear hRV hbn; simp only [Act.put])
    | ((with_reducible show Calls Tryd.prog 9 #[_, .agg #[.int .i64 kd, .int .u32 (rl : Nat), .int .u32 (ep : Nat), .slice p1 l1 c1, .slice q1 lb1 cb1]] _ _); refine (HC2.out _ _ _ _ HJ8.out).mono ?_; rintro e w9 ⟨u, rfl, hj9, hf9⟩; have hB9 : Below (w.heap.size + 2) wa w9 := hB8.trans hf9.1; have HJ9 : Hid (J3 S w5.heap.size v u w9) := hj9; have HA9 : Hid (Row w9 w7.heap.size 38 D1) := hf9.2 _ _ _ HA8.out; clear hj9 hf9 a0 a1 a2 a3 a4)
    | ((with_reducible show wpList _ _ _ (Oper.mk _ (Op.store 38 (.tmp 14) (.tmp 59)) _ _ _ _ :: _) _ _); refine wpList_store_Row rfl 38 (.tmp 14) (.tmp 59) rfl D1 rfl rfl (Row.new _ _ _) (by rw [HL1.out]; exact size38) (by rw [HL1.out]; rfl) HO1.out ?_; have hRV := (Row.new' w9 38 (List.replicate 32 (Value.int .u8 0))).sets_all (vs := D1) (by rw [HL1.out]; rfl); have hbn : Below w9.heap.size w9 ((w9.alloc (.cells (List.replicate 32 (Value.int .u8 0)).toArray 38)).setCells w9.heap.size 0 D1) := below_setCells (Nat.le_refl _) _ _ ((Below.refl _ w9).alloc (Nat.le_refl _) _); rw [z32u8]; generalize (w9.alloc (.cells (List.replicate 32 (Value.int .u8 0)).toArray 38)).setCells w9.heap.size 0 D1 = w10 at *; have hB10 : Below (w.heap.size + 2) wa w10 := hB9.trans (hbn.mono (by have := hB9.size; omega)); have HJ10 : Hid (J3 S w5.heap.size v u w10) := K3.out _ _ _ _ _ _ hbn HJ9.out; have HA10 : Hid (Row w10 w7.heap.size 38 D1) := HA9.out.later hbn; have HC10 : Hid (Row w10 w9.heap.size 38 D1) := hRV; obtain ⟨a0, a1, a2, a3, a4⟩ := HR2.out w10 hB10; clear hRV hbn; simp only [Act.put])
    | ((with_reducible show Calls Tryd.prog 8 #[_, .agg #[.int .i64 kd', .int .u32 (rl' : Nat), .int .u32 (ep' : Nat), .slice p2 l2 c2, .slice q2 lb2 cb2]] _ _); refine (HC3.out _ _ _ _ _ HJ10.out).mono ?_; rintro e w11 ⟨y, rfl, hj11, hf11⟩; have hB11 : Below (w.heap.size + 2) wa w11 := hB10.trans hf11.1; have HJ11 : Hid (J4 S w5.heap.size v u y w11) := hj11; have HA11 : Hid (Row w11 w7.heap.size 38 D1) := hf11.2 _ _ _ HA10.out; have HC11 : Hid (Row w11 w9.heap.size 38 D1) := hf11.2 _ _ _ HC10.out; clear hj11 hf11 a0 a1 a2 a3 a4)
    | ((with_reducible show wpList _ _ _ (Oper.mk _ (Op.store 38 (.tmp 17) (.tmp 66)) _ _ _ _ :: _) _ _); refine wpList_store_Row rfl 38 (.tmp 17) (.tmp 66) rfl D2 rfl rfl (Row.new _ _ _) (by rw [HL2.out]; exact size38) (by rw [HL2.out]; rfl) HO2.out ?_; have hRV := (Row.new' w11 38 (List.replicate 32 (Value.int .u8 0))).sets_all (vs := D2) (by rw [HL2.out]; rfl); have hbn : Below w11.heap.size w11 ((w11.alloc (.cells (List.replicate 32 (Value.int .u8 0)).toArray 38)).setCells w11.heap.size 0 D2) := below_setCells (Nat.le_refl _) _ _ ((Below.refl _ w11).alloc (Nat.le_refl _) _); rw [z32u8]; generalize (w11.alloc (.cells (List.replicate 32 (Value.int .u8 0)).toArray 38)).setCells w11.heap.size 0 D2 = w12 at *; have hB12 : Below (w.heap.size + 2) wa w12 := hB11.trans (hbn.mono (by have := hB11.size; omega)); have HJ12 : Hid (J4 S w5.heap.size v u y w12) := K4.out _ _ _ _ _ _ _ hbn HJ11.out; have HA12 : Hid (Row w12 w7.heap.size 38 D1) := HA11.out.later hbn; have HC12 : Hid (Row w12 w9.heap.size 38 D1) := HC11.out.later hbn; have HX12 : Hid (Row w12 w11.heap.size 38 D2) := hRV; obtain ⟨a0, a1, a2, a3, a4⟩ := HR2.out w12 hB12; clear hRV hbn; simp only [Act.put])
    | ((with_reducible show Calls Tryd.prog 9 #[_, .agg #[.int .i64 kd', .int .u32 (rl' : Nat), .int .u32 (ep' : Nat), .slice p2 l2 c2, .slice q2 lb2 cb2]] _ _); refine (HC4.out _ _ _ _ _ _ HJ12.out).mono ?_; rintro e w13 ⟨z, rfl, hj13, hf13⟩; have hB13 : Below (w.heap.size + 2) wa w13 := hB12.trans hf13.1; have HJ13 : Hid (J5 v u y z w13) := hj13; have HA13 : Hid (Row w13 w7.heap.size 38 D1) := hf13.2 _ _ _ HA12.out; have HC13 : Hid (Row w13 w9.heap.size 38 D1) := hf13.2 _ _ _ HC12.out; have HX13 : Hid (Row w13 w11.heap.size 38 D2) := hf13.2 _ _ _ HX12.out; clear hj13 hf13 a0 a1 a2 a3 a4)
    | ((with_reducible show wpList _ _ _ (Oper.mk _ (Op.store 38 (.tmp 20) (.tmp 73)) _ _ _ _ :: _) _ _); refine wpList_store_Row rfl 38 (.tmp 20) (.tmp 73) rfl D2 rfl rfl (Row.new _ _ _) (by rw [HL2.out]; exact size38) (by rw [HL2.out]; rfl) HO2.out ?_; have hRV := (Row.new' w13 38 (List.replicate 32 (Value.int .u8 0))).sets_all (vs := D2) (by rw [HL2.out]; rfl); have hbn : Below w13.heap.size w13 ((w13.alloc (.cells (List.replicate 32 (Value.int .u8 0)).toArray 38)).setCells w13.heap.size 0 D2) := below_setCells (Nat.le_refl _) _ _ ((Below.refl _ w13).alloc (Nat.le_refl _) _); rw [z32u8]; generalize (w13.alloc (.cells (List.replicate 32 (Value.int .u8 0)).toArray 38)).setCells w13.heap.size 0 D2 = w14 at *; have hB14 : Below (w.heap.size + 2) wa w14 := hB13.trans (hbn.mono (by have := hB13.size; omega)); have HA14 : Hid (Row w14 w7.heap.size 38 D1) := HA13.out.later hbn; have HC14 : Hid (Row w14 w9.heap.size 38 D1) := HC13.out.later hbn; have HX14 : Hid (Row w14 w11.heap.size 38 D2) := HX13.out.later hbn; have HZ14 : Hid (Row w14 w13.heap.size 38 D2) := hRV; obtain ⟨g1, g2, g3, g4⟩ := K5.out _ _ _ _ _ _ hbn HJ13.out; have k1 := g1.here; have k2 := g2.here; have k3 := g3.here; have k4 := g4.here; clear g1 g2 g3 g4; clear hRV hbn; simp only [Act.put])
    | ((with_reducible show wpList _ _ _ (Oper.mk (some 76) (Op.load 38 (.tmp 11)) _ _ _ _ :: _) _ _); refine wpList_load_wantMid (by rfl) 38 (.tmp 11) rfl _ 0 rfl D1 HA14.out.range Tryd.underlying38 rfl (by rw [HL1.out]; exact size38) ?_; simp only [Act.put, List.setIfInBounds_toArray, List.set_cons_zero, List.set_cons_succ])
    | ((with_reducible show wpList _ _ _ (Oper.mk (some 77) (Op.load 38 (.tmp 14)) _ _ _ _ :: _) _ _); refine wpList_load_wantMid (by rfl) 38 (.tmp 14) rfl _ 0 rfl D1 HC14.out.range Tryd.underlying38 rfl (by rw [HL1.out]; exact size38) ?_; simp only [Act.put, List.setIfInBounds_toArray, List.set_cons_zero, List.set_cons_succ])
    | ((with_reducible show wpList _ _ _ (Oper.mk (some 92) (Op.load 38 (.tmp 17)) _ _ _ _ :: _) _ _); refine wpList_load_wantMid (by rfl) 38 (.tmp 17) rfl _ 0 rfl D2 HX14.out.range Tryd.underlying38 rfl (by rw [HL2.out]; exact size38) ?_; simp only [Act.put, List.setIfInBounds_toArray, List.set_cons_zero, List.set_cons_succ])
    | ((with_reducible show wpList _ _ _ (Oper.mk (some 93) (Op.load 38 (.tmp 20)) _ _ _ _ :: _) _ _); refine wpList_load_wantMid (by rfl) 38 (.tmp 20) rfl _ 0 rfl D2 HZ14.out.range Tryd.underlying38 rfl (by rw [HL2.out]; exact size38) ?_; simp only [Act.put, List.setIfInBounds_toArray, List.set_cons_zero, List.set_cons_succ]))
  go_ret
  exact ⟨rfl, hba.trans (hB14.mono (by omega))⟩

end Go.Proofs.YtbaokodhoiledaaDoor
