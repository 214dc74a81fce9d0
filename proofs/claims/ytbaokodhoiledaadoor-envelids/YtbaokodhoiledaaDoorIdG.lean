/-
  envel.Id and the reference's EnvelopeId, by what Put and Digest answer.
-/
import Derived.Test.YtbaokodhoiledaaDoorDigB
import Derived.Test.YtbaokodhoiledaaDoorSameE
namespace Go.Proofs.YtbaokodhoiledaaDoor
open Classical
open Go.RowKit Go.Shelf

theorem results_Row_tmp2 {P : Program} {fn : Func} {p u u2 : Tmp} {ty : TypeId} (h : fn.results = #[.cell p ty, .tmp u, .tmp u2]) {tmps : Array Value} {w : World} {g : Nat} {t : TypeId} {cs : List Value} (hp : tmps.getD p undef = .pointer (some ⟨g, 0, none⟩)) (hg : Row w g t cs)
    {n : Nat} {e : TypeId} (hu : P.underlying ty = some (.array n e)) (hi : (P.info? ty).map (·.size) = some cs.length) : (results fn tmps).run P w = .ok (.tuple #[.agg cs.toArray, tmps.getD u undef, tmps.getD u2 undef]) w := by
  have hl := run_loadVar_row w g t ty cs.toArray (0, 0) _ hg hu rfl (by simpa using hi)
  simp only [results, h]
  have hp' : tmps[p]?.getD undef = .pointer (some ⟨g, 0, none⟩) := by simpa using hp
  simp [Result.andThen, hp', asAddr, hl]

theorem own_keep {A A' : World} {n₀ : Nat} {v : Value} {zs : List Nat} (h : Own n₀ A v zs) (hk : ∀ b, v.ownBlock = some b → A'.heap[b]? = A.heap[b]?) : Own n₀ A' v zs := by
  refine ⟨h.1, ?_⟩
  rcases h.2 with hn | ⟨g, cap, cur, rfl, hg, hgg, rest⟩
  · exact .inl hn
  · exact .inr ⟨g, cap, cur, rfl, hg, (hk g rfl).trans hgg, rest⟩
theorem Own.buts {A A' : World} {n₀ : Nat} {F : List Nat} {v : Value} {zs : List Nat} (h : Own n₀ A v zs) (hb : Buts F A.heap.size A A') (hF : ∀ k ∈ F, k < n₀) : Own n₀ A' v zs :=
  own_keep h fun b hv => hb.block b (World.ownsRow.lt h b hv).2 (fun hm => by have := hF b hm; have := (World.ownsRow.lt h b hv).1; omega)

set_option maxRecDepth 100000 in
set_option maxHeartbeats 1000000 in
/-- The envelope may not be. -/
theorem myId_no (S : Option Addr) (kd : Int) (rl ep : Nat) (p : Option Addr) (len cap : Nat) (q : Option Addr) (lb cb : Nat) (w : World)
    (HP : Hid (∀ W, Below w.heap.size w W → Calls Tryd.prog 10 #[.agg #[.int .i64 kd, .int .u32 (rl : Nat), .int .u32 (ep : Nat), .slice p len cap, .slice q lb cb]] W fun e w' => e = .returned (.tuple #[.slice none 0 0, .int .i64 90]) ∧ Below W.heap.size W w')) :
    Calls Tryd.prog 8 #[.pointer S, .agg #[.int .i64 kd, .int .u32 (rl : Nat), .int .u32 (ep : Nat), .slice p len cap, .slice q lb cb]] w fun e w' => e = .returned (.tuple #[.agg noKey.toArray, .slice none 0 0, .int .i64 90]) ∧ Below w.heap.size w w' := by
  obtain ⟨wa, hwa⟩ : ∃ wa, (w.alloc (.cells #[.int .i64 kd, .int .u32 (rl : Nat), .int .u32 (ep : Nat), .slice p len cap, .slice q lb cb] 26)).alloc (.cells (List.replicate 32 (Value.int .u8 0)).toArray 38) = wa := ⟨_, rfl⟩
  have hba : Below w.heap.size w wa := by rw [← hwa]; exact ((Below.refl _ w).alloc (Nat.le_refl _) _).alloc (by simp) _
  have hsa : wa.heap.size = w.heap.size + 1 + 1 := by rw [← hwa]; simp
  have hra : Row wa (w.heap.size + 1) 38 noKey := by rw [← hwa]; exact Row.newAt _ _ _ (by simp)
  have hre : Row wa w.heap.size 26 [.int .i64 kd, .int .u32 (rl : Nat), .int .u32 (ep : Nat), .slice p len cap, .slice q lb cb] := by rw [← hwa]; exact (Row.new w 26 _).alloc _
  have HWA : Hid ((w.alloc (.cells #[.int .i64 kd, .int .u32 (rl : Nat), .int .u32 (ep : Nat), .slice p len cap, .slice q lb cb] 26)).alloc (.cells (List.replicate 32 (Value.int .u8 0)).toArray 38) = wa) := hwa
  have HRA : Hid (Row wa (w.heap.size + 1) 38 noKey) := hra
  have d0 := hre.cell (i := 0) rfl
  have d1 := hre.cell (i := 1) rfl
  have d2 := hre.cell (i := 2) rfl
  have d3 := hre.cell (i := 3) rfl
  have d4 := hre.cell (i := 4) rfl
  clear hwa hra hre
  go_enter Tryd.func8, Tryd.ntmps8
  go_wp2_with fail
  rw [z32u8, HWA.out]
  go_wp2_with (first
    | (go_at_call 10; refine (HP.out _ hba).mono ?_; rintro e w1 ⟨rfl, hb1⟩; have HR1 : Hid (Row w1 (w.heap.size + 1) 38 noKey) := Row.later HRA.out hb1; have hB1 : Below w.heap.size w w1 := hba.trans (hb1.mono hba.size); clear hb1)
    | ((with_reducible show wpList _ _ _ (Oper.mk _ (Op.store 38 (.tmp 4) (.tmp 17)) _ _ _ _ :: _) _ _); refine wpList_store_Row rfl 38 (.tmp 4) (.tmp 17) rfl noKey rfl rfl HR1.out size38 rfl (by decide) ?_; simp only [Act.put]))
  refine bodyPost_ret (results_Row_tmp2 rfl rfl (Row.sets_all HR1.out rfl) Tryd.underlying38 size38) rfl ?_
  exact ⟨rfl, below_setCells (by omega) _ _ hB1⟩

set_option maxRecDepth 100000 in
set_option maxHeartbeats 1000000 in
theorem myId_err (N : Nat) (S : Option Addr) (kd : Int) (rl ep : Nat) (p : Option Addr) (len cap : Nat) (q : Option Addr) (lb cb : Nat) (F : List Nat) (X : List Nat) (hX : ∀ z ∈ X, z < 256) (V : List Value) (hV : V.length = 32) (hV1 : ∀ v ∈ V, v.oneCell' = true) (x : Int) (hx0 : ¬ x = 0) (G : World → Prop) (hG : Stays N G) (w : World) (hN : N ≤ w.heap.size) (hF : ∀ k ∈ F, k < N)
    (HP : Hid (∀ W, Below w.heap.size w W → Calls Tryd.prog 10 #[.agg #[.int .i64 kd, .int .u32 (rl : Nat), .int .u32 (ep : Nat), .slice p len cap, .slice q lb cb]] W fun e w' => ∃ v, e = .returned (.tuple #[v, .int .i64 0]) ∧ Own W.heap.size w' v X ∧ Below W.heap.size W w'))
    (HD : Hid (∀ W p1 l1 c1, Below w.heap.size w W → IsBytes W.heap.size W p1 l1 c1 X → Own (w.heap.size + 2) W (.slice p1 l1 c1) X → Calls Tryd.prog 14 #[.pointer S, .slice p1 l1 c1] W fun e w' => e = .returned (.tuple #[.agg V.toArray, .int .i64 x]) ∧ G w' ∧ Buts F W.heap.size W w')) :
    Calls Tryd.prog 8 #[.pointer S, .agg #[.int .i64 kd, .int .u32 (rl : Nat), .int .u32 (ep : Nat), .slice p len cap, .slice q lb cb]] w fun e w' => e = .returned (.tuple #[.agg noKey.toArray, .slice none 0 0, .int .i64 x]) ∧ G w' ∧ Buts F w.heap.size w w' := by
  obtain ⟨wa, hwa⟩ : ∃ wa, (w.alloc (.cells #[.int .i64 kd, .int .u32 (rl : Nat), .int .u32 (ep : Nat), .slice p len cap, .slice q lb cb] 26)).alloc (.cells (List.replicate 32 (Value.int .u8 0)).toArray 38) = wa := ⟨_, rfl⟩
  have hba : Below w.heap.size w wa := by rw [← hwa]; exact ((Below.refl _ w).alloc (Nat.le_refl _) _).alloc (by simp) _
  have hsa : wa.heap.size = w.heap.size + 1 + 1 := by rw [← hwa]; simp
  have hra : Row wa (w.heap.size + 1) 38 noKey := by rw [← hwa]; exact Row.newAt _ _ _ (by simp)
  have hre : Row wa w.heap.size 26 [.int .i64 kd, .int .u32 (rl : Nat), .int .u32 (ep : Nat), .slice p len cap, .slice q lb cb] := by rw [← hwa]; exact (Row.new w 26 _).alloc _
  have HWA : Hid ((w.alloc (.cells #[.int .i64 kd, .int .u32 (rl : Nat), .int .u32 (ep : Nat), .slice p len cap, .slice q lb cb] 26)).alloc (.cells (List.replicate 32 (Value.int .u8 0)).toArray 38) = wa) := hwa
  have HRA : Hid (Row wa (w.heap.size + 1) 38 noKey) := hra
  have d0 := hre.cell (i := 0) rfl
  have d1 := hre.cell (i := 1) rfl
  have d2 := hre.cell (i := 2) rfl
  have d3 := hre.cell (i := 3) rfl
  have d4 := hre.cell (i := 4) rfl
  have HV : Hid (V.length = 32) := hV
  have HV1 : Hid (∀ v ∈ V, v.oneCell' = true) := hV1
  have HP2 : Hid (∀ W, Below w.heap.size w W → Calls Tryd.prog 10 #[.agg #[.int .i64 kd, .int .u32 (rl : Nat), .int .u32 (ep : Nat), .slice p len cap, .slice q lb cb]] W fun e w' => ∃ p1 l1 c1, e = .returned (.tuple #[.slice p1 l1 c1, .int .i64 0]) ∧ Own W.heap.size w' (.slice p1 l1 c1) X ∧ Below W.heap.size W w') := fun W hW => (HP.out W hW).mono fun e w' ⟨v, h1, h2, h3⟩ => by
    obtain ⟨p1, c1, rfl⟩ := h2.slice
    exact ⟨p1, _, c1, h1, h2, h3⟩
  have hFn : ∀ k, N ≤ k → k ∉ F := fun k hk h => by have := hF _ h; omega
  clear hwa hra hre hV hV1 HP
  go_enter Tryd.func8, Tryd.ntmps8
  go_wp2_with fail
  rw [z32u8, HWA.out]
  go_wp2_with (first
    | (go_at_call 10; refine (HP2.out _ hba).mono ?_; rintro e w1 ⟨p1, l1, c1, rfl, ho1, hb1⟩; have HR1 : Hid (Row w1 (w.heap.size + 1) 38 noKey) := Row.later HRA.out hb1; have hB1 : Below w.heap.size w w1 := hba.trans (hb1.mono hba.size); have hs1 : w.heap.size + 1 < w1.heap.size := (by have := hb1.size; omega); have HO1 : Hid (Own (w.heap.size + 2) w1 (.slice p1 l1 c1) X) := ho1.mono (by omega); clear hb1 ho1 d0 d1 d2 d3 d4)
    | (go_at_call 14; refine (HD.out w1 p1 l1 c1 hB1 (HO1.out.bytes hX) HO1.out).mono ?_; rintro e w2 ⟨rfl, hg2, hb2⟩; have HR2 : Hid (Row w2 (w.heap.size + 1) 38 noKey) := hb2.row hs1 (hFn _ (by omega)) HR1.out; have HO2 : Hid (Own (w.heap.size + 2) w2 (.slice p1 l1 c1) X) := HO1.out.buts hb2 (fun k hk => by have := hF k hk; omega); have HG2 : Hid (G w2) := hg2; have hs2 : w.heap.size + 1 < w2.heap.size := Nat.lt_of_lt_of_le hs1 hb2.size; have HB2 : Hid (Buts F w.heap.size w w2) := (Buts.of_below hB1 (Nat.le_refl _)).trans (hb2.mono (fun _ h => h) hB1.size); clear hg2 hb2)
    | ((with_reducible show wpList _ _ _ (Oper.mk _ (Op.store 38 (.tmp 9) (.tmp 23)) _ _ _ _ :: _) _ _); refine wpList_store_Row rfl 38 (.tmp 9) (.tmp 23) rfl V rfl rfl (Row.new _ _ _) (by rw [HV.out]; exact size38) (by rw [HV.out]; rfl) HV1.out ?_; simp only [Act.put]; have hRV := (Row.new' w2 38 (List.replicate 32 (Value.int .u8 0))).sets_all (vs := V) (by rw [HV.out]; rfl); have hb3 : Below w2.heap.size w2 ((w2.alloc (.cells (List.replicate 32 (Value.int .u8 0)).toArray 38)).setCells w2.heap.size 0 V) := below_setCells (Nat.le_refl _) _ _ ((Below.refl _ w2).alloc (Nat.le_refl _) _); rw [z32u8]; generalize (w2.alloc (.cells (List.replicate 32 (Value.int .u8 0)).toArray 38)).setCells w2.heap.size 0 V = w3 at *; have HRV : Hid (Row w3 w2.heap.size 38 V) := hRV; have HR3 : Hid (Row w3 (w.heap.size + 1) 38 noKey) := HR2.out.later hb3; clear hRV)
    | ((with_reducible show wpList _ _ _ (Oper.mk _ (Op.store 38 (.tmp 4) (.tmp 27)) _ _ _ _ :: _) _ _); refine wpList_store_Row rfl 38 (.tmp 4) (.tmp 27) rfl noKey rfl rfl HR3.out size38 rfl (by decide) ?_; simp only [Act.put]))
  refine bodyPost_ret (results_Row_tmp2 rfl rfl (Row.sets_all HR3.out rfl) Tryd.underlying38 size38) rfl ?_
  have hend : Below w.heap.size w2 (w3.setCells (w.heap.size + 1) 0 noKey) := below_setCells (by omega) _ _ (hb3.mono (by omega))
  exact ⟨rfl, hG _ _ (hend.mono hN) HG2.out, HB2.out.trans (Buts.of_below hend (Nat.le_refl _))⟩

set_option maxRecDepth 100000 in
set_option maxHeartbeats 1000000 in
theorem myId_ok (N : Nat) (S : Option Addr) (kd : Int) (rl ep : Nat) (p : Option Addr) (len cap : Nat) (q : Option Addr) (lb cb : Nat) (F : List Nat) (X : List Nat) (hX : ∀ z ∈ X, z < 256) (V : List Value) (hV : V.length = 32) (hV1 : ∀ v ∈ V, v.oneCell' = true) (G : World → Prop) (hG : Stays N G) (w : World) (hN : N ≤ w.heap.size) (hF : ∀ k ∈ F, k < N)
    (HP : Hid (∀ W, Below w.heap.size w W → Calls Tryd.prog 10 #[.agg #[.int .i64 kd, .int .u32 (rl : Nat), .int .u32 (ep : Nat), .slice p len cap, .slice q lb cb]] W fun e w' => ∃ v, e = .returned (.tuple #[v, .int .i64 0]) ∧ Own W.heap.size w' v X ∧ Below W.heap.size W w'))
    (HD : Hid (∀ W p1 l1 c1, Below w.heap.size w W → IsBytes W.heap.size W p1 l1 c1 X → Own (w.heap.size + 2) W (.slice p1 l1 c1) X → Calls Tryd.prog 14 #[.pointer S, .slice p1 l1 c1] W fun e w' => e = .returned (.tuple #[.agg V.toArray, .int .i64 0]) ∧ G w' ∧ Buts F W.heap.size W w')) :
    Calls Tryd.prog 8 #[.pointer S, .agg #[.int .i64 kd, .int .u32 (rl : Nat), .int .u32 (ep : Nat), .slice p len cap, .slice q lb cb]] w fun e w' => ∃ v, e = .returned (.tuple #[.agg V.toArray, v, .int .i64 0]) ∧ Own (w.heap.size + 2) w' v X ∧ G w' ∧ Buts F w.heap.size w w' := by
  obtain ⟨wa, hwa⟩ : ∃ wa, (w.alloc (.cells #[.int .i64 kd, .int .u32 (rl : Nat), .int .u32 (ep : Nat), .slice p len cap, .slice q lb cb] 26)).alloc (.cells (List.replicate 32 (Value.int .u8 0)).toArray 38) = wa := ⟨_, rfl⟩
  have hba : Below w.heap.size w wa := by rw [← hwa]; exact ((Below.refl _ w).alloc (Nat.le_refl _) _).alloc (by simp) _
  have hsa : wa.heap.size = w.heap.size + 1 + 1 := by rw [← hwa]; simp
  have hra : Row wa (w.heap.size + 1) 38 noKey := by rw [← hwa]; exact Row.newAt _ _ _ (by simp)
  have hre : Row wa w.heap.size 26 [.int .i64 kd, .int .u32 (rl : Nat), .int .u32 (ep : Nat), .slice p len cap, .slice q lb cb] := by rw [← hwa]; exact (Row.new w 26 _).alloc _
  have HWA : Hid ((w.alloc (.cells #[.int .i64 kd, .int .u32 (rl : Nat), .int .u32 (ep : Nat), .slice p len cap, .slice q lb cb] 26)).alloc (.cells (List.replicate 32 (Value.int .u8 0)).toArray 38) = wa) := hwa
  have HRA : Hid (Row wa (w.heap.size + 1) 38 noKey) := hra
  have d0 := hre.cell (i := 0) rfl
  have d1 := hre.cell (i := 1) rfl
  have d2 := hre.cell (i := 2) rfl
  have d3 := hre.cell (i := 3) rfl
  have d4 := hre.cell (i := 4) rfl
  have HV : Hid (V.length = 32) := hV
  have HV1 : Hid (∀ v ∈ V, v.oneCell' = true) := hV1
  have HP2 : Hid (∀ W, Below w.heap.size w W → Calls Tryd.prog 10 #[.agg #[.int .i64 kd, .int .u32 (rl : Nat), .int .u32 (ep : Nat), .slice p len cap, .slice q lb cb]] W fun e w' => ∃ p1 l1 c1, e = .returned (.tuple #[.slice p1 l1 c1, .int .i64 0]) ∧ Own W.heap.size w' (.slice p1 l1 c1) X ∧ Below W.heap.size W w') := fun W hW => (HP.out W hW).mono fun e w' ⟨v, h1, h2, h3⟩ => by
    obtain ⟨p1, c1, rfl⟩ := h2.slice
    exact ⟨p1, _, c1, h1, h2, h3⟩
  have hFn : ∀ k, N ≤ k → k ∉ F := fun k hk h => by have := hF _ h; omega
  clear hwa hra hre hV hV1 HP
  go_enter Tryd.func8, Tryd.ntmps8
  go_wp2_with fail
  rw [z32u8, HWA.out]
  go_wp2_with (first
    | (go_at_call 10; refine (HP2.out _ hba).mono ?_; rintro e w1 ⟨p1, l1, c1, rfl, ho1, hb1⟩; have HR1 : Hid (Row w1 (w.heap.size + 1) 38 noKey) := Row.later HRA.out hb1; have hB1 : Below w.heap.size w w1 := hba.trans (hb1.mono hba.size); have hs1 : w.heap.size + 1 < w1.heap.size := (by have := hb1.size; omega); have HO1 : Hid (Own (w.heap.size + 2) w1 (.slice p1 l1 c1) X) := ho1.mono (by omega); clear hb1 ho1 d0 d1 d2 d3 d4)
    | (go_at_call 14; refine (HD.out w1 p1 l1 c1 hB1 (HO1.out.bytes hX) HO1.out).mono ?_; rintro e w2 ⟨rfl, hg2, hb2⟩; have HR2 : Hid (Row w2 (w.heap.size + 1) 38 noKey) := hb2.row hs1 (hFn _ (by omega)) HR1.out; have HO2 : Hid (Own (w.heap.size + 2) w2 (.slice p1 l1 c1) X) := HO1.out.buts hb2 (fun k hk => by have := hF k hk; omega); have HG2 : Hid (G w2) := hg2; have hs2 : w.heap.size + 1 < w2.heap.size := Nat.lt_of_lt_of_le hs1 hb2.size; have HB2 : Hid (Buts F w.heap.size w w2) := (Buts.of_below hB1 (Nat.le_refl _)).trans (hb2.mono (fun _ h => h) hB1.size); clear hg2 hb2)
    | ((with_reducible show wpList _ _ _ (Oper.mk _ (Op.store 38 (.tmp 9) (.tmp 23)) _ _ _ _ :: _) _ _); refine wpList_store_Row rfl 38 (.tmp 9) (.tmp 23) rfl V rfl rfl (Row.new _ _ _) (by rw [HV.out]; exact size38) (by rw [HV.out]; rfl) HV1.out ?_; simp only [Act.put]; have hRV := (Row.new' w2 38 (List.replicate 32 (Value.int .u8 0))).sets_all (vs := V) (by rw [HV.out]; rfl); have hb3 : Below w2.heap.size w2 ((w2.alloc (.cells (List.replicate 32 (Value.int .u8 0)).toArray 38)).setCells w2.heap.size 0 V) := below_setCells (Nat.le_refl _) _ _ ((Below.refl _ w2).alloc (Nat.le_refl _) _); rw [z32u8]; generalize (w2.alloc (.cells (List.replicate 32 (Value.int .u8 0)).toArray 38)).setCells w2.heap.size 0 V = w3 at *; have HRV : Hid (Row w3 w2.heap.size 38 V) := hRV; have HR3 : Hid (Row w3 (w.heap.size + 1) 38 noKey) := HR2.out.later hb3; clear hRV)
    | ((with_reducible show wpList _ _ _ (Oper.mk _ (Op.load 38 (.tmp 9)) _ _ _ _ :: _) _ _); refine wpList_load_Row rfl 38 (.tmp 9) rfl rfl HRV.out Tryd.underlying38 (by rw [HV.out]; exact size38) ?_; simp only [Act.put, List.setIfInBounds_toArray, List.set_cons_zero, List.set_cons_succ])
    | ((with_reducible show wpList _ _ _ (Oper.mk _ (Op.store 38 (.tmp 4) (.tmp 29)) _ _ _ _ :: _) _ _); refine wpList_store_Row rfl 38 (.tmp 4) (.tmp 29) rfl V rfl rfl HR3.out (by rw [HV.out]; exact size38) (by rw [HV.out]; rfl) HV1.out ?_; simp only [Act.put]))
  refine bodyPost_ret (results_Row_tmp2 rfl rfl (Row.sets_all HR3.out (by rw [HV.out]; rfl)) Tryd.underlying38 (by rw [HV.out]; exact size38)) rfl ?_
  have hend : Below w.heap.size w2 (w3.setCells (w.heap.size + 1) 0 V) := below_setCells (by omega) _ _ (hb3.mono (by omega))
  have hend2 : But (w.heap.size + 1) w2.heap.size w2 (w3.setCells (w.heap.size + 1) 0 V) := (But.of_below hb3 (Nat.le_refl _)).trans (But.sets V 0 w3)
  exact ⟨_, rfl, HO2.out.but hend2 (by omega), hG _ _ (hend.mono hN) HG2.out, HB2.out.trans (Buts.of_below hend (Nat.le_refl _))⟩

set_option maxRecDepth 100000 in
set_option maxHeartbeats 1000000 in
/-- The envelope may not be. -/
theorem refId_no (S : Option Addr) (kd : Int) (rl ep : Nat) (p : Option Addr) (len cap : Nat) (q : Option Addr) (lb cb : Nat) (w : World)
    (HP : Hid (∀ W, Below w.heap.size w W → Calls Tryd.prog 15 #[.agg #[.int .i64 kd, .int .u32 (rl : Nat), .int .u32 (ep : Nat), .slice p len cap, .slice q lb cb]] W fun e w' => e = .returned (.tuple #[.slice none 0 0, .int .i64 90]) ∧ Below W.heap.size W w')) :
    Calls Tryd.prog 9 #[.pointer S, .agg #[.int .i64 kd, .int .u32 (rl : Nat), .int .u32 (ep : Nat), .slice p len cap, .slice q lb cb]] w fun e w' => e = .returned (.tuple #[.agg noKey.toArray, .slice none 0 0, .int .i64 90]) ∧ Below w.heap.size w w' := by
  obtain ⟨wa, hwa⟩ : ∃ wa, (w.alloc (.cells #[.int .i64 kd, .int .u32 (rl : Nat), .int .u32 (ep : Nat), .slice p len cap, .slice q lb cb] 26)).alloc (.cells (List.replicate 32 (Value.int .u8 0)).toArray 38) = wa := ⟨_, rfl⟩
  have hba : Below w.heap.size w wa := by rw [← hwa]; exact ((Below.refl _ w).alloc (Nat.le_refl _) _).alloc (by simp) _
  have hsa : wa.heap.size = w.heap.size + 1 + 1 := by rw [← hwa]; simp
  have hra : Row wa (w.heap.size + 1) 38 noKey := by rw [← hwa]; exact Row.newAt _ _ _ (by simp)
  have hre : Row wa w.heap.size 26 [.int .i64 kd, .int .u32 (rl : Nat), .int .u32 (ep : Nat), .slice p len cap, .slice q lb cb] := by rw [← hwa]; exact (Row.new w 26 _).alloc _
  have HWA : Hid ((w.alloc (.cells #[.int .i64 kd, .int .u32 (rl : Nat), .int .u32 (ep : Nat), .slice p len cap, .slice q lb cb] 26)).alloc (.cells (List.replicate 32 (Value.int .u8 0)).toArray 38) = wa) := hwa
  have HRA : Hid (Row wa (w.heap.size + 1) 38 noKey) := hra
  have d0 := hre.cell (i := 0) rfl
  have d1 := hre.cell (i := 1) rfl
  have d2 := hre.cell (i := 2) rfl
  have d3 := hre.cell (i := 3) rfl
  have d4 := hre.cell (i := 4) rfl
  clear hwa hra hre
  go_enter Tryd.func9, Tryd.ntmps9
  go_wp2_with fail
  rw [z32u8, HWA.out]
  go_wp2_with (first
    | (go_at_call 15; refine (HP.out _ hba).mono ?_; rintro e w1 ⟨rfl, hb1⟩; have HR1 : Hid (Row w1 (w.heap.size + 1) 38 noKey) := Row.later HRA.out hb1; have hB1 : Below w.heap.size w w1 := hba.trans (hb1.mono hba.size); clear hb1)
    | ((with_reducible show wpList _ _ _ (Oper.mk _ (Op.store 38 (.tmp 4) (.tmp 17)) _ _ _ _ :: _) _ _); refine wpList_store_Row rfl 38 (.tmp 4) (.tmp 17) rfl noKey rfl rfl HR1.out size38 rfl (by decide) ?_; simp only [Act.put]))
  refine bodyPost_ret (results_Row_tmp2 rfl rfl (Row.sets_all HR1.out rfl) Tryd.underlying38 size38) rfl ?_
  exact ⟨rfl, below_setCells (by omega) _ _ hB1⟩

set_option maxRecDepth 100000 in
set_option maxHeartbeats 1000000 in
theorem refId_err (N : Nat) (S : Option Addr) (kd : Int) (rl ep : Nat) (p : Option Addr) (len cap : Nat) (q : Option Addr) (lb cb : Nat) (F : List Nat) (X : List Nat) (hX : ∀ z ∈ X, z < 256) (V : List Value) (hV : V.length = 32) (hV1 : ∀ v ∈ V, v.oneCell' = true) (x : Int) (hx0 : ¬ x = 0) (G : World → Prop) (hG : Stays N G) (w : World) (hN : N ≤ w.heap.size) (hF : ∀ k ∈ F, k < N)
    (HP : Hid (∀ W, Below w.heap.size w W → Calls Tryd.prog 15 #[.agg #[.int .i64 kd, .int .u32 (rl : Nat), .int .u32 (ep : Nat), .slice p len cap, .slice q lb cb]] W fun e w' => ∃ v, e = .returned (.tuple #[v, .int .i64 0]) ∧ Own W.heap.size w' v X ∧ Below W.heap.size W w'))
    (HD : Hid (∀ W p1 l1 c1, Below w.heap.size w W → IsBytes W.heap.size W p1 l1 c1 X → Own (w.heap.size + 2) W (.slice p1 l1 c1) X → Calls Tryd.prog 16 #[.pointer S, .slice p1 l1 c1] W fun e w' => e = .returned (.tuple #[.agg V.toArray, .int .i64 x]) ∧ G w' ∧ Buts F W.heap.size W w')) :
    Calls Tryd.prog 9 #[.pointer S, .agg #[.int .i64 kd, .int .u32 (rl : Nat), .int .u32 (ep : Nat), .slice p len cap, .slice q lb cb]] w fun e w' => e = .returned (.tuple #[.agg noKey.toArray, .slice none 0 0, .int .i64 x]) ∧ G w' ∧ Buts F w.heap.size w w' := by
  obtain ⟨wa, hwa⟩ : ∃ wa, (w.alloc (.cells #[.int .i64 kd, .int .u32 (rl : Nat), .int .u32 (ep : Nat), .slice p len cap, .slice q lb cb] 26)).alloc (.cells (List.replicate 32 (Value.int .u8 0)).toArray 38) = wa := ⟨_, rfl⟩
  have hba : Below w.heap.size w wa := by rw [← hwa]; exact ((Below.refl _ w).alloc (Nat.le_refl _) _).alloc (by simp) _
  have hsa : wa.heap.size = w.heap.size + 1 + 1 := by rw [← hwa]; simp
  have hra : Row wa (w.heap.size + 1) 38 noKey := by rw [← hwa]; exact Row.newAt _ _ _ (by simp)
  have hre : Row wa w.heap.size 26 [.int .i64 kd, .int .u32 (rl : Nat), .int .u32 (ep : Nat), .slice p len cap, .slice q lb cb] := by rw [← hwa]; exact (Row.new w 26 _).alloc _
  have HWA : Hid ((w.alloc (.cells #[.int .i64 kd, .int .u32 (rl : Nat), .int .u32 (ep : Nat), .slice p len cap, .slice q lb cb] 26)).alloc (.cells (List.replicate 32 (Value.int .u8 0)).toArray 38) = wa) := hwa
  have HRA : Hid (Row wa (w.heap.size + 1) 38 noKey) := hra
  have d0 := hre.cell (i := 0) rfl
  have d1 := hre.cell (i := 1) rfl
  have d2 := hre.cell (i := 2) rfl
  have d3 := hre.cell (i := 3) rfl
  have d4 := hre.cell (i := 4) rfl
  have HV : Hid (V.length = 32) := hV
  have HV1 : Hid (∀ v ∈ V, v.oneCell' = true) := hV1
  have HP2 : Hid (∀ W, Below w.heap.size w W → Calls Tryd.prog 15 #[.agg #[.int .i64 kd, .int .u32 (rl : Nat), .int .u32 (ep : Nat), .slice p len cap, .slice q lb cb]] W fun e w' => ∃ p1 l1 c1, e = .returned (.tuple #[.slice p1 l1 c1, .int .i64 0]) ∧ Own W.heap.size w' (.slice p1 l1 c1) X ∧ Below W.heap.size W w') := fun W hW => (HP.out W hW).mono fun e w' ⟨v, h1, h2, h3⟩ => by
    obtain ⟨p1, c1, rfl⟩ := h2.slice
    exact ⟨p1, _, c1, h1, h2, h3⟩
  have hFn : ∀ k, N ≤ k → k ∉ F := fun k hk h => by have := hF _ h; omega
  clear hwa hra hre hV hV1 HP
  go_enter Tryd.func9, Tryd.ntmps9
  go_wp2_with fail
  rw [z32u8, HWA.out]
  go_wp2_with (first
    | (go_at_call 15; refine (HP2.out _ hba).mono ?_; rintro e w1 ⟨p1, l1, c1, rfl, ho1, hb1⟩; have HR1 : Hid (Row w1 (w.heap.size + 1) 38 noKey) := Row.later HRA.out hb1; have hB1 : Below w.heap.size w w1 := hba.trans (hb1.mono hba.size); have hs1 : w.heap.size + 1 < w1.heap.size := (by have := hb1.size; omega); have HO1 : Hid (Own (w.heap.size + 2) w1 (.slice p1 l1 c1) X) := ho1.mono (by omega); clear hb1 ho1 d0 d1 d2 d3 d4)
    | (go_at_call 16; refine (HD.out w1 p1 l1 c1 hB1 (HO1.out.bytes hX) HO1.out).mono ?_; rintro e w2 ⟨rfl, hg2, hb2⟩; have HR2 : Hid (Row w2 (w.heap.size + 1) 38 noKey) := hb2.row hs1 (hFn _ (by omega)) HR1.out; have HO2 : Hid (Own (w.heap.size + 2) w2 (.slice p1 l1 c1) X) := HO1.out.buts hb2 (fun k hk => by have := hF k hk; omega); have HG2 : Hid (G w2) := hg2; have hs2 : w.heap.size + 1 < w2.heap.size := Nat.lt_of_lt_of_le hs1 hb2.size; have HB2 : Hid (Buts F w.heap.size w w2) := (Buts.of_below hB1 (Nat.le_refl _)).trans (hb2.mono (fun _ h => h) hB1.size); clear hg2 hb2)
    | ((with_reducible show wpList _ _ _ (Oper.mk _ (Op.store 38 (.tmp 9) (.tmp 23)) _ _ _ _ :: _) _ _); refine wpList_store_Row rfl 38 (.tmp 9) (.tmp 23) rfl V rfl rfl (Row.new _ _ _) (by rw [HV.out]; exact size38) (by rw [HV.out]; rfl) HV1.out ?_; simp only [Act.put]; have hRV := (Row.new' w2 38 (List.replicate 32 (Value.int .u8 0))).sets_all (vs := V) (by rw [HV.out]; rfl); have hb3 : Below w2.heap.size w2 ((w2.alloc (.cells (List.replicate 32 (Value.int .u8 0)).toArray 38)).setCells w2.heap.size 0 V) := below_setCells (Nat.le_refl _) _ _ ((Below.refl _ w2).alloc (Nat.le_refl _) _); rw [z32u8]; generalize (w2.alloc (.cells (List.replicate 32 (Value.int .u8 0)).toArray 38)).setCells w2.heap.size 0 V = w3 at *; have HRV : Hid (Row w3 w2.heap.size 38 V) := hRV; have HR3 : Hid (Row w3 (w.heap.size + 1) 38 noKey) := HR2.out.later hb3; clear hRV)
    | ((with_reducible show wpList _ _ _ (Oper.mk _ (Op.store 38 (.tmp 4) (.tmp 27)) _ _ _ _ :: _) _ _); refine wpList_store_Row rfl 38 (.tmp 4) (.tmp 27) rfl noKey rfl rfl HR3.out size38 rfl (by decide) ?_; simp only [Act.put]))
  refine bodyPost_ret (results_Row_tmp2 rfl rfl (Row.sets_all HR3.out rfl) Tryd.underlying38 size38) rfl ?_
  have hend : Below w.heap.size w2 (w3.setCells (w.heap.size + 1) 0 noKey) := below_setCells (by omega) _ _ (hb3.mono (by omega))
  exact ⟨rfl, hG _ _ (hend.mono hN) HG2.out, HB2.out.trans (Buts.of_below hend (Nat.le_refl _))⟩

set_option maxRecDepth 100000 in
set_option maxHeartbeats 1000000 in
theorem refId_ok (N : Nat) (S : Option Addr) (kd : Int) (rl ep : Nat) (p : Option Addr) (len cap : Nat) (q : Option Addr) (lb cb : Nat) (F : List Nat) (X : List Nat) (hX : ∀ z ∈ X, z < 256) (V : List Value) (hV : V.length = 32) (hV1 : ∀ v ∈ V, v.oneCell' = true) (G : World → Prop) (hG : Stays N G) (w : World) (hN : N ≤ w.heap.size) (hF : ∀ k ∈ F, k < N)
    (HP : Hid (∀ W, Below w.heap.size w W → Calls Tryd.prog 15 #[.agg #[.int .i64 kd, .int .u32 (rl : Nat), .int .u32 (ep : Nat), .slice p len cap, .slice q lb cb]] W fun e w' => ∃ v, e = .returned (.tuple #[v, .int .i64 0]) ∧ Own W.heap.size w' v X ∧ Below W.heap.size W w'))
    (HD : Hid (∀ W p1 l1 c1, Below w.heap.size w W → IsBytes W.heap.size W p1 l1 c1 X → Own (w.heap.size + 2) W (.slice p1 l1 c1) X → Calls Tryd.prog 16 #[.pointer S, .slice p1 l1 c1] W fun e w' => e = .returned (.tuple #[.agg V.toArray, .int .i64 0]) ∧ G w' ∧ Buts F W.heap.size W w')) :
    Calls Tryd.prog 9 #[.pointer S, .agg #[.int .i64 kd, .int .u32 (rl : Nat), .int .u32 (ep : Nat), .slice p len cap, .slice q lb cb]] w fun e w' => ∃ v, e = .returned (.tuple #[.agg V.toArray, v, .int .i64 0]) ∧ Own (w.heap.size + 2) w' v X ∧ G w' ∧ Buts F w.heap.size w w' := by
  obtain ⟨wa, hwa⟩ : ∃ wa, (w.alloc (.cells #[.int .i64 kd, .int .u32 (rl : Nat), .int .u32 (ep : Nat), .slice p len cap, .slice q lb cb] 26)).alloc (.cells (List.replicate 32 (Value.int .u8 0)).toArray 38) = wa := ⟨_, rfl⟩
  have hba : Below w.heap.size w wa := by rw [← hwa]; exact ((Below.refl _ w).alloc (Nat.le_refl _) _).alloc (by simp) _
  have hsa : wa.heap.size = w.heap.size + 1 + 1 := by rw [← hwa]; simp
  have hra : Row wa (w.heap.size + 1) 38 noKey := by rw [← hwa]; exact Row.newAt _ _ _ (by simp)
  have hre : Row wa w.heap.size 26 [.int .i64 kd, .int .u32 (rl : Nat), .int .u32 (ep : Nat), .slice p len cap, .slice q lb cb] := by rw [← hwa]; exact (Row.new w 26 _).alloc _
  have HWA : Hid ((w.alloc (.cells #[.int .i64 kd, .int .u32 (rl : Nat), .int .u32 (ep : Nat), .slice p len cap, .slice q lb cb] 26)).alloc (.cells (List.replicate 32 (Value.int .u8 0)).toArray 38) = wa) := hwa
  have HRA : Hid (Row wa (w.heap.size + 1) 38 noKey) := hra
  have d0 := hre.cell (i := 0) rfl
  have d1 := hre.cell (i := 1) rfl
  have d2 := hre.cell (i := 2) rfl
  have d3 := hre.cell (i := 3) rfl
  have d4 := hre.cell (i := 4) rfl
  have HV : Hid (V.length = 32) := hV
  have HV1 : Hid (∀ v ∈ V, v.oneCell' = true) := hV1
  have HP2 : Hid (∀ W, Below w.heap.size w W → Calls Tryd.prog 15 #[.agg #[.int .i64 kd, .int .u32 (rl : Nat), .int .u32 (ep : Nat), .slice p len cap, .slice q lb cb]] W fun e w' => ∃ p1 l1 c1, e = .returned (.tuple #[.slice p1 l1 c1, .int .i64 0]) ∧ Own W.heap.size w' (.slice p1 l1 c1) X ∧ Below W.heap.size W w') := fun W hW => (HP.out W hW).mono fun e w' ⟨v, h1, h2, h3⟩ => by
    obtain ⟨p1, c1, rfl⟩ := h2.slice
    exact ⟨p1, _, c1, h1, h2, h3⟩
  have hFn : ∀ k, N ≤ k → k ∉ F := fun k hk h => by have := hF _ h; omega
  clear hwa hra hre hV hV1 HP
  go_enter Tryd.func9, Tryd.ntmps9
  go_wp2_with fail
  rw [z32u8, HWA.out]
  go_wp2_with (first
    | (go_at_call 15; refine (HP2.out _ hba).mono ?_; rintro e w1 ⟨p1, l1, c1, rfl, ho1, hb1⟩; have HR1 : Hid (Row w1 (w.heap.size + 1) 38 noKey) := Row.later HRA.out hb1; have hB1 : Below w.heap.size w w1 := hba.trans (hb1.mono hba.size); have hs1 : w.heap.size + 1 < w1.heap.size := (by have := hb1.size; omega); have HO1 : Hid (Own (w.heap.size + 2) w1 (.slice p1 l1 c1) X) := ho1.mono (by omega); clear hb1 ho1 d0 d1 d2 d3 d4)
    | (go_at_call 16; refine (HD.out w1 p1 l1 c1 hB1 (HO1.out.bytes hX) HO1.out).mono ?_; rintro e w2 ⟨rfl, hg2, hb2⟩; have HR2 : Hid (Row w2 (w.heap.size + 1) 38 noKey) := hb2.row hs1 (hFn _ (by omega)) HR1.out; have HO2 : Hid (Own (w.heap.size + 2) w2 (.slice p1 l1 c1) X) := HO1.out.buts hb2 (fun k hk => by have := hF k hk; omega); have HG2 : Hid (G w2) := hg2; have hs2 : w.heap.size + 1 < w2.heap.size := Nat.lt_of_lt_of_le hs1 hb2.size; have HB2 : Hid (Buts F w.heap.size w w2) := (Buts.of_below hB1 (Nat.le_refl _)).trans (hb2.mono (fun _ h => h) hB1.size); clear hg2 hb2)
    | ((with_reducible show wpList _ _ _ (Oper.mk _ (Op.store 38 (.tmp 9) (.tmp 23)) _ _ _ _ :: _) _ _); refine wpList_store_Row rfl 38 (.tmp 9) (.tmp 23) rfl V rfl rfl (Row.new _ _ _) (by rw [HV.out]; exact size38) (by rw [HV.out]; rfl) HV1.out ?_; simp only [Act.put]; have hRV := (Row.new' w2 38 (List.replicate 32 (Value.int .u8 0))).sets_all (vs := V) (by rw [HV.out]; rfl); have hb3 : Below w2.heap.size w2 ((w2.alloc (.cells (List.replicate 32 (Value.int .u8 0)).toArray 38)).setCells w2.heap.size 0 V) := below_setCells (Nat.le_refl _) _ _ ((Below.refl _ w2).alloc (Nat.le_refl _) _); rw [z32u8]; generalize (w2.alloc (.cells (List.replicate 32 (Value.int .u8 0)).toArray 38)).setCells w2.heap.size 0 V = w3 at *; have HRV : Hid (Row w3 w2.heap.size 38 V) := hRV; have HR3 : Hid (Row w3 (w.heap.size + 1) 38 noKey) := HR2.out.later hb3; clear hRV)
    | ((with_reducible show wpList _ _ _ (Oper.mk _ (Op.load 38 (.tmp 9)) _ _ _ _ :: _) _ _); refine wpList_load_Row rfl 38 (.tmp 9) rfl rfl HRV.out Tryd.underlying38 (by rw [HV.out]; exact size38) ?_; simp only [Act.put, List.setIfInBounds_toArray, List.set_cons_zero, List.set_cons_succ])
    | ((with_reducible show wpList _ _ _ (Oper.mk _ (Op.store 38 (.tmp 4) (.tmp 29)) _ _ _ _ :: _) _ _); refine wpList_store_Row rfl 38 (.tmp 4) (.tmp 29) rfl V rfl rfl HR3.out (by rw [HV.out]; exact size38) (by rw [HV.out]; rfl) HV1.out ?_; simp only [Act.put]))
  refine bodyPost_ret (results_Row_tmp2 rfl rfl (Row.sets_all HR3.out (by rw [HV.out]; rfl)) Tryd.underlying38 (by rw [HV.out]; exact size38)) rfl ?_
  have hend : Below w.heap.size w2 (w3.setCells (w.heap.size + 1) 0 V) := below_setCells (by omega) _ _ (hb3.mono (by omega))
  have hend2 : But (w.heap.size + 1) w2.heap.size w2 (w3.setCells (w.heap.size + 1) 0 V) := (But.of_below hb3 (Nat.le_refl _)).trans (But.sets V 0 w3)
  exact ⟨_, rfl, HO2.out.but hend2 (by omega), hG _ _ (hend.mono hN) HG2.out, HB2.out.trans (Buts.of_below hend (Nat.le_refl _))⟩

end Go.Proofs.YtbaokodhoiledaaDoor
