/-
  The reference's EnvelopeId, by what PutEnvelope and Digest answer.
-/
import Derived.Test.YtbaokodhoiledaaDoorRDig
namespace Go.Proofs.YtbaokodhoiledaaDoor
open Classical
open Go.RowKit Go.Shelf

set_option maxRecDepth 100000 in
set_option maxHeartbeats 1000000 in
/-- The envelope may not be. -/
theorem refEId_no (S : Option Addr) (kd : Int) (rl ep : Nat) (p : Option Addr) (len cap : Nat) (q : Option Addr) (lb cb : Nat) (w : World)
    (HP : Hid (∀ W, Below w.heap.size w W → Calls Tryd.prog 15 #[.agg #[.int .i64 kd, .int .u32 (rl : Nat), .int .u32 (ep : Nat), .slice p len cap, .slice q lb cb]] W fun e w' => e = .returned (.tuple #[.slice none 0 0, .int .i64 90]) ∧ Below W.heap.size W w')) :
    Calls Tryd.prog 9 #[.pointer S, .agg #[.int .i64 kd, .int .u32 (rl : Nat), .int .u32 (ep : Nat), .slice p len cap, .slice q lb cb]] w fun e w' => e = .returned (.tuple #[.agg noKey.toArray, .slice none 0 0, .int .i64 90]) ∧ Below w.heap.size w w' := by
  obtain ⟨wa, hwa⟩ : ∃ wa, (w.alloc (.cells #[.int .i64 kd, .int .u32 (rl : Nat), .int .u32 (ep : Nat), .slice p len cap, .slice q lb cb] 26)).alloc (.cells (List.replicate 32 (Value.int .u8 0)).toArray 38) = wa := ⟨_, rfl⟩
  have hba : Below w.heap.size w wa := by rw [← hwa]; exact ((Below.refl _ w).alloc (Nat.le_refl _) _).alloc (by simp) _
  have hsa : wa.heap.size = w.heap.size + 1 + 1 := by rw [← hwa]; simp
  have hra : Row wa (w.heap.size + 1) 38 noKey := by rw [← hwa]; exact Row.newAt _ _ _ (by simp)
  have hre : Row wa w.heap.size 26 [.int .i64 kd, .int .u32 (rl : Nat), .int .u32 (ep : Nat), .slice p len cap, .slice q lb cb] := by rw [← hwa]; exact (Row.new w 26 _).alloc _
  have HWA : Hid ((w.alloc (.cells #[.int .i64 kd, .int .u32 (rl : Nat), .int .u32 (ep : Nat), .slice p len cap, .slice q lb cb] 26)).alloc (.cells (List.replicate 32 (Value.int .u8 0)).toArray 38) = wa) := hwa
  have HRA : Hid (Row wa (w.heap.size + 1) 38 noKey) := hra
  have d0 := hre.cell (i := 0) rfl
  have d1 := hre.cell (i := 1) rfl
  have d2 := hre.cell (i := 2) rfl
  have d3 := hre.cell (i := 3) rfl
  have d4 := hre.cell (i := 4) rfl
  clear hwa hra hre
  go_enter Tryd.func9, Tryd.ntmps9
  go_wp2_with fail
  rw [z32u8, HWA.out]
  go_wp2_with (first
    | (go_at_call 15; refine (HP.out _ hba).mono ?_; rintro e w1 ⟨rfl, hb1⟩; have HR1 : Hid (Row w1 (w.heap.size + 1) 38 noKey) := Row.later HRA.out hb1; have hB1 : Below w.heap.size w w1 := hba.trans (hb1.mono hba.size); clear hb1)
    | ((with_reducible show wpList _ _ _ (Oper.mk _ (Op.store 38 (.tmp 4) (.tmp 17)) _ _ _ _ :: _) _ _); refine wpList_store_Row rfl 38 (.tmp 4) (.tmp 17) rfl noKey rfl rfl HR1.out size38 rfl (by decide) ?_; simp only [Act.put]))
  refine bodyPost_ret (results_Row_tmp2 rfl rfl (Row.sets_all HR1.out rfl) Tryd.underlying38 size38) rfl ?_
  exact ⟨rfl, below_setCells (by omega) _ _ hB1⟩

set_option maxRecDepth 100000 in
set_option maxHeartbeats 1000000 in
theorem refEId_err (R : Nat) (S : Option Addr) (kd : Int) (rl ep : Nat) (p : Option Addr) (len cap : Nat) (q : Option Addr) (lb cb : Nat) (X : List Nat) (hX : ∀ z ∈ X, z < 256) (V : List Value) (hV : V.length = 32) (hV1 : ∀ v ∈ V, v.oneCell' = true) (x : Int) (hx0 : ¬ x = 0) (G : World → Prop) (hG : ∀ W W', (∀ t, t ≠ 38 → KeepT t W W') → Below R W W' → G W → G W') (w : World) (hN : R < w.heap.size)
    (HP : Hid (∀ W, Below w.heap.size w W → Calls Tryd.prog 15 #[.agg #[.int .i64 kd, .int .u32 (rl : Nat), .int .u32 (ep : Nat), .slice p len cap, .slice q lb cb]] W fun e w' => ∃ v, e = .returned (.tuple #[v, .int .i64 0]) ∧ Own W.heap.size w' v X ∧ Below W.heap.size W w'))
    (HD : Hid (∀ W p1 l1 c1, Below w.heap.size w W → IsBytes W.heap.size W p1 l1 c1 X → Own (w.heap.size + 2) W (.slice p1 l1 c1) X → Calls Tryd.prog 16 #[.pointer S, .slice p1 l1 c1] W fun e w' => e = .returned (.tuple #[.agg V.toArray, .int .i64 x]) ∧ G w' ∧ RFr R W w')) :
    Calls Tryd.prog 9 #[.pointer S, .agg #[.int .i64 kd, .int .u32 (rl : Nat), .int .u32 (ep : Nat), .slice p len cap, .slice q lb cb]] w fun e w' => e = .returned (.tuple #[.agg noKey.toArray, .slice none 0 0, .int .i64 x]) ∧ G w' ∧ RFr R w w' := by
  obtain ⟨wa, hwa⟩ : ∃ wa, (w.alloc (.cells #[.int .i64 kd, .int .u32 (rl : Nat), .int .u32 (ep : Nat), .slice p len cap, .slice q lb cb] 26)).alloc (.cells (List.replicate 32 (Value.int .u8 0)).toArray 38) = wa := ⟨_, rfl⟩
  have hba : Below w.heap.size w wa := by rw [← hwa]; exact ((Below.refl _ w).alloc (Nat.le_refl _) _).alloc (by simp) _
  have hsa : wa.heap.size = w.heap.size + 1 + 1 := by rw [← hwa]; simp
  have hra : Row wa (w.heap.size + 1) 38 noKey := by rw [← hwa]; exact Row.newAt _ _ _ (by simp)
  have hre : Row wa w.heap.size 26 [.int .i64 kd, .int .u32 (rl : Nat), .int .u32 (ep : Nat), .slice p len cap, .slice q lb cb] := by rw [← hwa]; exact (Row.new w 26 _).alloc _
  have HWA : Hid ((w.alloc (.cells #[.int .i64 kd, .int .u32 (rl : Nat), .int .u32 (ep : Nat), .slice p len cap, .slice q lb cb] 26)).alloc (.cells (List.replicate 32 (Value.int .u8 0)).toArray 38) = wa) := hwa
  have HRA : Hid (Row wa (w.heap.size + 1) 38 noKey) := hra
  have d0 := hre.cell (i := 0) rfl
  have d1 := hre.cell (i := 1) rfl
  have d2 := hre.cell (i := 2) rfl
  have d3 := hre.cell (i := 3) rfl
  have d4 := hre.cell (i := 4) rfl
  have HV : Hid (V.length = 32) := hV
  have HV1 : Hid (∀ v ∈ V, v.oneCell' = true) := hV1
  have HP2 : Hid (∀ W, Below w.heap.size w W → Calls Tryd.prog 15 #[.agg #[.int .i64 kd, .int .u32 (rl : Nat), .int .u32 (ep : Nat), .slice p len cap, .slice q lb cb]] W fun e w' => ∃ p1 l1 c1, e = .returned (.tuple #[.slice p1 l1 c1, .int .i64 0]) ∧ Own W.heap.size w' (.slice p1 l1 c1) X ∧ Below W.heap.size W w') := fun W hW => (HP.out W hW).mono fun e w' ⟨v, h1, h2, h3⟩ => by
    obtain ⟨p1, c1, rfl⟩ := h2.slice
    exact ⟨p1, _, c1, h1, h2, h3⟩
  clear hwa hra hre hV hV1 HP
  go_enter Tryd.func9, Tryd.ntmps9
  go_wp2_with fail
  rw [z32u8, HWA.out]
  go_wp2_with (first
    | (go_at_call 15; refine (HP2.out _ hba).mono ?_; rintro e w1 ⟨p1, l1, c1, rfl, ho1, hb1⟩; have HR1 : Hid (Row w1 (w.heap.size + 1) 38 noKey) := Row.later HRA.out hb1; have hB1 : Below w.heap.size w w1 := hba.trans (hb1.mono hba.size); have hs1 : w.heap.size + 1 < w1.heap.size := (by have := hb1.size; omega); have HO1 : Hid (Own (w.heap.size + 2) w1 (.slice p1 l1 c1) X) := ho1.mono (by omega); clear hb1 ho1 d0 d1 d2 d3 d4)
    | (go_at_call 16; refine (HD.out w1 p1 l1 c1 hB1 (HO1.out.bytes hX) HO1.out).mono ?_; rintro e w2 ⟨rfl, hg2, hb2⟩; have HR2 : Hid (Row w2 (w.heap.size + 1) 38 noKey) := hb2.keep HR1.out (by decide) (by decide); have HO2 : Hid (Own (w.heap.size + 2) w2 (.slice p1 l1 c1) X) := hb2.own HO1.out; have HG2 : Hid (G w2) := hg2; have hs2 : w.heap.size + 1 < w2.heap.size := Nat.lt_of_lt_of_le hs1 hb2.1.size; have HB2 : Hid (RFr R w w2) := (RFr.of_below hB1 (by omega)).trans hb2; clear hg2 hb2)
    | ((with_reducible show wpList _ _ _ (Oper.mk _ (Op.store 38 (.tmp 9) (.tmp 23)) _ _ _ _ :: _) _ _); refine wpList_store_Row rfl 38 (.tmp 9) (.tmp 23) rfl V rfl rfl (Row.new _ _ _) (by rw [HV.out]; exact size38) (by rw [HV.out]; rfl) HV1.out ?_; simp only [Act.put]; have hRV := (Row.new' w2 38 (List.replicate 32 (Value.int .u8 0))).sets_all (vs := V) (by rw [HV.out]; rfl); have hb3 : Below w2.heap.size w2 ((w2.alloc (.cells (List.replicate 32 (Value.int .u8 0)).toArray 38)).setCells w2.heap.size 0 V) := below_setCells (Nat.le_refl _) _ _ ((Below.refl _ w2).alloc (Nat.le_refl _) _); rw [z32u8]; generalize (w2.alloc (.cells (List.replicate 32 (Value.int .u8 0)).toArray 38)).setCells w2.heap.size 0 V = w3 at *; have HRV : Hid (Row w3 w2.heap.size 38 V) := hRV; have HR3 : Hid (Row w3 (w.heap.size + 1) 38 noKey) := HR2.out.later hb3; clear hRV)
    | ((with_reducible show wpList _ _ _ (Oper.mk _ (Op.store 38 (.tmp 4) (.tmp 27)) _ _ _ _ :: _) _ _); refine wpList_store_Row rfl 38 (.tmp 4) (.tmp 27) rfl noKey rfl rfl HR3.out size38 rfl (by decide) ?_; simp only [Act.put]))
  refine bodyPost_ret (results_Row_tmp2 rfl rfl (Row.sets_all HR3.out rfl) Tryd.underlying38 size38) rfl ?_
  have hend : Below w.heap.size w2 (w3.setCells (w.heap.size + 1) 0 noKey) := below_setCells (by omega) _ _ (hb3.mono (by omega))
  have hkt : ∀ t, t ≠ 38 → KeepT t w2 (w3.setCells (w.heap.size + 1) 0 noKey) := fun t ht => (KeepT.of_below hb3).trans (keepTs_of_but HR3.out (But.sets noKey 0 w3) t ht)
  exact ⟨rfl, hG _ _ hkt (hend.mono (by omega)) HG2.out, HB2.out.after hend (by omega)⟩

set_option maxRecDepth 100000 in
set_option maxHeartbeats 1000000 in
theorem refEId_ok (R : Nat) (S : Option Addr) (kd : Int) (rl ep : Nat) (p : Option Addr) (len cap : Nat) (q : Option Addr) (lb cb : Nat) (X : List Nat) (hX : ∀ z ∈ X, z < 256) (V : List Value) (hV : V.length = 32) (hV1 : ∀ v ∈ V, v.oneCell' = true) (G : World → Prop) (hG : ∀ W W', (∀ t, t ≠ 38 → KeepT t W W') → Below R W W' → G W → G W') (w : World) (hN : R < w.heap.size)
    (HP : Hid (∀ W, Below w.heap.size w W → Calls Tryd.prog 15 #[.agg #[.int .i64 kd, .int .u32 (rl : Nat), .int .u32 (ep : Nat), .slice p len cap, .slice q lb cb]] W fun e w' => ∃ v, e = .returned (.tuple #[v, .int .i64 0]) ∧ Own W.heap.size w' v X ∧ Below W.heap.size W w'))
    (HD : Hid (∀ W p1 l1 c1, Below w.heap.size w W → IsBytes W.heap.size W p1 l1 c1 X → Own (w.heap.size + 2) W (.slice p1 l1 c1) X → Calls Tryd.prog 16 #[.pointer S, .slice p1 l1 c1] W fun e w' => e = .returned (.tuple #[.agg V.toArray, .int .i64 0]) ∧ G w' ∧ RFr R W w')) :
    Calls Tryd.prog 9 #[.pointer S, .agg #[.int .i64 kd, .int .u32 (rl : Nat), .int .u32 (ep : Nat), .slice p len cap, .slice q lb cb]] w fun e w' => ∃ v, e = .returned (.tuple #[.agg V.toArray, v, .int .i64 0]) ∧ Own (w.heap.size + 2) w' v X ∧ G w' ∧ RFr R w w' := by
  obtain ⟨wa, hwa⟩ : ∃ wa, (w.alloc (.cells #[.int .i64 kd, .int .u32 (rl : Nat), .int .u32 (ep : Nat), .slice p len cap, .slice q lb cb] 26)).alloc (.cells (List.replicate 32 (Value.int .u8 0)).toArray 38) = wa := ⟨_, rfl⟩
  have hba : Below w.heap.size w wa := by rw [← hwa]; exact ((Below.refl _ w).alloc (Nat.le_refl _) _).alloc (by simp) _
  have hsa : wa.heap.size = w.heap.size + 1 + 1 := by rw [← hwa]; simp
  have hra : Row wa (w.heap.size + 1) 38 noKey := by rw [← hwa]; exact Row.newAt _ _ _ (by simp)
  have hre : Row wa w.heap.size 26 [.int .i64 kd, .int .u32 (rl : Nat), .int .u32 (ep : Nat), .slice p len cap, .slice q lb cb] := by rw [← hwa]; exact (Row.new w 26 _).alloc _
  have HWA : Hid ((w.alloc (.cells #[.int .i64 kd, .int .u32 (rl : Nat), .int .u32 (ep : Nat), .slice p len cap, .slice q lb cb] 26)).alloc (.cells (List.replicate 32 (Value.int .u8 0)).toArray 38) = wa) := hwa
  have HRA : Hid (Row wa (w.heap.size + 1) 38 noKey) := hra
  have d0 := hre.cell (i := 0) rfl
  have d1 := hre.cell (i := 1) rfl
  have d2 := hre.cell (i := 2) rfl
  have d3 := hre.cell (i := 3) rfl
  have d4 := hre.cell (i := 4) rfl
  have HV : Hid (V.length = 32) := hV
  have HV1 : Hid (∀ v ∈ V, v.oneCell' = true) := hV1
  have HP2 : Hid (∀ W, Below w.heap.size w W → Calls Tryd.prog 15 #[.agg #[.int .i64 kd, .int .u32 (rl : Nat), .int .u32 (ep : Nat), .slice p len cap, .slice q lb cb]] W fun e w' => ∃ p1 l1 c1, e = .returned (.tuple #[.slice p1 l1 c1, .int .i64 0]) ∧ Own W.heap.size w' (.slice p1 l1 c1) X ∧ Below W.heap.size W w') := fun W hW => (HP.out W hW).mono fun e w' ⟨v, h1, h2, h3⟩ => by
    obtain ⟨p1, c1, rfl⟩ := h2.slice
    exact ⟨p1, _, c1, h1, h2, h3⟩
  clear hwa hra hre hV hV1 HP
  go_enter Tryd.func9, Tryd.ntmps9
  go_wp2_with fail
  rw [z32u8, HWA.out]
  go_wp2_with (first
    | (go_at_call 15; refine (HP2.out _ hba).mono ?_; rintro e w1 ⟨p1, l1, c1, rfl, ho1, hb1⟩; have HR1 : Hid (Row w1 (w.heap.size + 1) 38 noKey) := Row.later HRA.out hb1; have hB1 : Below w.heap.size w w1 := hba.trans (hb1.mono hba.size); have hs1 : w.heap.size + 1 < w1.heap.size := (by have := hb1.size; omega); have HO1 : Hid (Own (w.heap.size + 2) w1 (.slice p1 l1 c1) X) := ho1.mono (by omega); clear hb1 ho1 d0 d1 d2 d3 d4)
    | (go_at_call 16; refine (HD.out w1 p1 l1 c1 hB1 (HO1.out.bytes hX) HO1.out).mono ?_; rintro e w2 ⟨rfl, hg2, hb2⟩; have HR2 : Hid (Row w2 (w.heap.size + 1) 38 noKey) := hb2.keep HR1.out (by decide) (by decide); have HO2 : Hid (Own (w.heap.size + 2) w2 (.slice p1 l1 c1) X) := hb2.own HO1.out; have HG2 : Hid (G w2) := hg2; have hs2 : w.heap.size + 1 < w2.heap.size := Nat.lt_of_lt_of_le hs1 hb2.1.size; have HB2 : Hid (RFr R w w2) := (RFr.of_below hB1 (by omega)).trans hb2; clear hg2 hb2)
    | ((with_reducible show wpList _ _ _ (Oper.mk _ (Op.store 38 (.tmp 9) (.tmp 23)) _ _ _ _ :: _) _ _); refine wpList_store_Row rfl 38 (.tmp 9) (.tmp 23) rfl V rfl rfl (Row.new _ _ _) (by rw [HV.out]; exact size38) (by rw [HV.out]; rfl) HV1.out ?_; simp only [Act.put]; have hRV := (Row.new' w2 38 (List.replicate 32 (Value.int .u8 0))).sets_all (vs := V) (by rw [HV.out]; rfl); have hb3 : Below w2.heap.size w2 ((w2.alloc (.cells (List.replicate 32 (Value.int .u8 0)).toArray 38)).setCells w2.heap.size 0 V) := below_setCells (Nat.le_refl _) _ _ ((Below.refl _ w2).alloc (Nat.le_refl _) _); rw [z32u8]; generalize (w2.alloc (.cells (List.replicate 32 (Value.int .u8 0)).toArray 38)).setCells w2.heap.size 0 V = w3 at *; have HRV : Hid (Row w3 w2.heap.size 38 V) := hRV; have HR3 : Hid (Row w3 (w.heap.size + 1) 38 noKey) := HR2.out.later hb3; clear hRV)
    | ((with_reducible show wpList _ _ _ (Oper.mk _ (Op.load 38 (.tmp 9)) _ _ _ _ :: _) _ _); refine wpList_load_Row rfl 38 (.tmp 9) rfl rfl HRV.out Tryd.underlying38 (by rw [HV.out]; exact size38) ?_; simp only [Act.put, List.setIfInBounds_toArray, List.set_cons_zero, List.set_cons_succ])
    | ((with_reducible show wpList _ _ _ (Oper.mk _ (Op.store 38 (.tmp 4) (.tmp 29)) _ _ _ _ :: _) _ _); refine wpList_store_Row rfl 38 (.tmp 4) (.tmp 29) rfl V rfl rfl HR3.out (by rw [HV.out]; exact size38) (by rw [HV.out]; rfl) HV1.out ?_; simp only [Act.put]))
  refine bodyPost_ret (results_Row_tmp2 rfl rfl (Row.sets_all HR3.out (by rw [HV.out]; rfl)) Tryd.underlying38 (by rw [HV.out]; exact size38)) rfl ?_
  have hend : Below w.heap.size w2 (w3.setCells (w.heap.size + 1) 0 V) := below_setCells (by omega) _ _ (hb3.mono (by omega))
  have hkt : ∀ t, t ≠ 38 → KeepT t w2 (w3.setCells (w.heap.size + 1) 0 V) := fun t ht => (KeepT.of_below hb3).trans (keepTs_of_but HR3.out (But.sets V 0 w3) t ht)
  have hend2 : But (w.heap.size + 1) w2.heap.size w2 (w3.setCells (w.heap.size + 1) 0 V) := (But.of_below hb3 (Nat.le_refl _)).trans (But.sets V 0 w3)
  exact ⟨_, rfl, HO2.out.but hend2 (by omega), hG _ _ hkt (hend.mono (by omega)) HG2.out, HB2.out.after hend (by omega)⟩

end Go.Proofs.YtbaokodhoiledaaDoor
