/-
  parents: what it tells; slices.Index and Contains of ids; doubled; mayBe.
-/
import Derived.Test.YtkhhlcjjdkldjaaCmt
import Derived.Test.YtkhhlcjjdkldjaaOnce
import Derived.Test.YtkhhlcjjdkldjaaColl
namespace Go.Proofs.Ytkhhlcjjdkldjaa
open Go.RowKit Go.Shelf
attribute [local go_sem] Oper.semAt_some

theorem wpListIn_load_mid {F : Fence} {n : Nat} {ops : Array Oper} {rest : List Oper} {o : Oper} {a : Act} {w : World} {Q : Exit → Act → World → Prop} (hw : Region.wanted o (yielded ops a.tmps) = true) (ty : TypeId) (x : Operand) (ho : o.op = .load ty x)
    {g off : Nat} (hx : a.eval x = .pointer (some ⟨g, off, none⟩)) {cs : List Value} (hg : w.rangeAt g off cs) {d : TypeDesc} (hu : Try.prog.underlying ty = some d) (hd : d.isRow = true) (hi : (Try.prog.info? ty).map (·.size) = some cs.length)
    (h : wpListIn F n Try.prog ops Q rest (a.put o.dst (.agg cs.toArray)) w) : wpListIn F n Try.prog ops Q (o :: rest) a w := by
  unfold wpListIn
  rw [if_pos hw]
  unfold Oper.wpIn
  refine ⟨by simp [Oper.about, ho], ?_⟩
  rw [Oper.semAt_plain F _ _ (by rw [ho]; intro c hc; cases hc)]
  simp only [execOp, ho, hx, Instr.loadAt, Instr.sureAddr, Sem.run_bind, Sem.run_pure, Result.andThen_ok, run_loadVar_mid w g off ty cs _ hg hu hd hi]
  exact h

/-- What lies below n₀ stands. -/
def KpL (n₀ : Nat) (A B : World) : Prop := A.heap.size ≤ B.heap.size ∧ ∀ (k : Nat) (c : Array Value) (t : TypeId) (fr : Nat × Nat), k < n₀ → A.heap[k]? = some (Obj.cells c t fr) → B.heap[k]? = some (Obj.cells c t fr)
theorem KpL.trans {n₀ : Nat} {A B C : World} (h : KpL n₀ A B) (k : KpL n₀ B C) : KpL n₀ A C := ⟨Nat.le_trans h.1 k.1, fun i c t fr hi ha => k.2 i c t fr hi (h.2 i c t fr hi ha)⟩
theorem KpL.record {n₀ l : Nat} {A : World} {o : Obj} (o' : Obj) (ho : A.heap[l]? = some o) (hc : o.isCells = false) : KpL n₀ A (A.putObj l o') := ⟨by simp [World.putObj], fun k c t fr _ hk => by
  rw [World.putObj_heap_other (fun e => by subst e; rw [hk] at ho; cases ho; cases hc)]; exact hk⟩
theorem KpL.of_below {n₀ : Nat} {A B : World} (h : Below A.heap.size A B) : KpL n₀ A B := ⟨h.size, fun k _ _ _ _ hk => (h.block k (Array.getElem?_eq_some_iff.1 hk).1).trans hk⟩
theorem KpL.low {n₀ : Nat} {A B : World} (h : Below n₀ A B) : KpL n₀ A B := ⟨h.size, fun k _ _ _ hl hk => (h.block k hl).trans hk⟩

set_option maxRecDepth 100000 in
theorem parents_any (s : Value) (c : Cmt) (hok : c.ok) (w : World) : Calls Try.prog 29 #[.agg (cmtC s c).toArray] w fun e w' => e = .returned (.func (.func 48) #[] #[.pointer (some ⟨w.heap.size, 0, none⟩)]) ∧ CmtAt w' w.heap.size s c ∧ w' = w.alloc (.cells (cmtC s c).toArray 29) := by
  have HA : Hid (CmtAt (w.alloc (.cells (cmtC s c).toArray 29)) w.heap.size s c) := CmtAt.new w s c hok
  go_enter Try.func29, Try.ntmps29
  go_wp2
  go_ret
  exact ⟨rfl, HA.out, rfl⟩

set_option maxRecDepth 100000 in
set_option maxHeartbeats 2000000 in
/-- What is told: the parents, one behind the other. -/
theorem parents1_iter (n : Nat) (hn : 2 ≤ n) (l n₀ Bc : Nat) (p : Option Addr) (len cap : Nat) (ids : List (List Nat)) (c : Cmt) (W : World) (hn₀ : n₀ ≤ W.heap.size) (hA : CmtAt W Bc (.slice p len cap) c) (hI : IsIds n₀ W p len cap ids) :
    IterAt Fence.wide n Try.prog 48 #[.pointer (some ⟨Bc, 0, none⟩)] (fun x : List Nat => #[.agg (u8s x).toArray]) (fun x _ => IsId x) (KpL n₀) (fun ys => ys = ids) (fun pre => pre <+: ids) len l W := by
  intro J Jx hJ hJx hY h0
  have hfn : ∀ f, Fence.wide.fn f := fun _ => trivial
  have hc := hA.par
  have hlc := hI.2.1
  have hcc := hI.2.2.1
  have HL : Hid (ids.length = len) := hI.1
  have HO : Hid (∀ x ∈ ids, x.length = 32 ∧ ∀ z ∈ x, z < 256) := hI.2.2.2.1
  have HI : Hid (IsIds n₀ W p len cap ids) := hI
  clear hA hI
  refine callsIn_of_wp Try.func48 rfl trivial ?_ rfl
  simp only [Try.ntmps48, List.size_toArray, List.length_cons, List.length_nil, Nat.reduceAdd, Nat.reduceSub, Array.replicate_succ, Array.replicate_zero, List.push_toArray, List.append_toArray, List.nil_append, List.cons_append]
  gi_wp2
  gi_loopw [8] (fun i wr => ∃ (k : Nat), k ≤ len ∧ i = .int .i64 k ∧ J (ids.take k) wr ∧ IsIds n₀ wr p len cap ids ∧ n₀ ≤ wr.heap.size) (fun i _ => len - (intOf i).toNat)
  case atStart => exact ⟨0, Nat.zero_le _, rfl, by rw [List.take_zero]; exact h0, HI.out, hn₀⟩
  case round =>
    obtain ⟨k, hk, rfl, hj, hIr, hnr⟩ := hrel
    have HI2 : Hid (IsIds n₀ wr p len cap ids) := hIr
    clear HI
    by_cases hlt : k < len
    · have hki : (k : Int) < (len : Int) := by omega
      obtain ⟨b, off, rfl, hb, hcell⟩ : ∃ b off, p = some ⟨b, off, none⟩ ∧ b < n₀ ∧ ∀ i, i < len → wr.rangeAt b (off + i * 32) (u8s (ids.getD i [])) := by
        rcases hIr.2.2.2.2 with h | h
        · omega
        · exact h
      have HT : Hid (ids.take (k + 1) = ids.take k ++ [ids.getD k []]) := by
        show _ = _
        have hl : k < ids.length := by rw [HL.out]; exact hlt
        rw [List.take_succ_eq_append_getElem hl, List.getD_eq_getElem?_getD, List.getElem?_eq_getElem hl, Option.getD_some]
      have hx : IsId (ids.getD k []) := ids_at HO.out (k := k) (by rw [HL.out]; exact hlt)
      have HRg : Hid (wr.rangeAt b (off + k * 32) (u8s (ids.getD k []))) := hcell k hlt
      have HXL : Hid ((u8s (ids.getD k [])).length = 32) := by show _ = _; rw [u8s_length]; exact hx.1
      have HX1 : Hid (∀ v ∈ u8s (ids.getD k []), v.oneCell' = true) := u8s_one _
      generalize ids.getD k [] = x at *
      have HY : Hid (∀ A, Below wr.heap.size wr A → YieldAt Fence.wide (n - 1) Try.prog l #[.agg (u8s x).toArray] A fun e W' => (e = .returned (.bool true) ∧ J (ids.take k ++ [x]) W' ∧ KpL n₀ A W') ∨ (e = .returned (.bool false) ∧ Jx (ids.take k ++ [x]) W' ∧ KpL n₀ A W')) := fun A hA =>
        hY (ids.take k) x A (OwnFrom.grow hJ hj hA) hx (by rw [List.length_take, HL.out]; omega)
      clear hIr hcell hj hx
      generalize u8s x = X at *
      gi_wp2_with (first
        | ((with_reducible show wpListIn _ _ _ _ _ (Oper.mk _ (Op.load 24 (.tmp 10)) _ _ _ _ :: _) _ _); refine wpListIn_load_mid (by rfl) 24 (.tmp 10) rfl rfl HRg.out Try.underlying24 rfl (by rw [HXL.out]; exact size24) ?_; simp only [Act.put, List.setIfInBounds_toArray, List.set_cons_zero, List.set_cons_succ])
        | ((with_reducible show wpListIn _ _ _ _ _ (Oper.mk _ (Op.store 24 (.tmp 4) (.tmp 11)) _ _ _ _ :: _) _ _); rw [z32u8]; refine wpListIn_store_Row rfl 24 (.tmp 4) (.tmp 11) rfl X rfl rfl (Row.new' wr 24 (List.replicate 32 (Value.int .u8 0))) (by rw [HXL.out]; exact size24) (by rw [HXL.out]; rfl) HX1.out ?_; have hR2 := (Row.new' wr 24 (List.replicate 32 (Value.int .u8 0))).sets_all (vs := X) (by rw [HXL.out]; rfl); have hb2 : Below wr.heap.size wr ((wr.alloc (.cells (List.replicate 32 (Value.int .u8 0)).toArray 24)).setCells wr.heap.size 0 X) := below_setCells (Nat.le_refl _) _ _ ((Below.refl _ wr).alloc (Nat.le_refl _) _); generalize (wr.alloc (.cells (List.replicate 32 (Value.int .u8 0)).toArray 24)).setCells wr.heap.size 0 X = A2 at *; have HR2 : Hid (Row A2 wr.heap.size 24 X) := hR2; have HB2 : Hid (Below wr.heap.size wr A2) := hb2; obtain ⟨fn, tmps, assign, body, hy, hR⟩ := HY.out A2 hb2; clear hR2 hb2; simp only [Act.put])
        | ((with_reducible show wpListIn _ _ _ _ _ (Oper.mk _ (Op.load 24 (.tmp 4)) _ _ _ _ :: _) _ _); refine wpListIn_load_Row rfl 24 (.tmp 4) rfl rfl HR2.out Try.underlying24 (by rw [HXL.out]; exact size24) ?_; simp only [Act.put, List.setIfInBounds_toArray, List.set_cons_zero, List.set_cons_succ]))
      refine ⟨fun _ => by omega, RoundIn.mono hR ?_⟩
      rintro e W3 (⟨rfl, hJ3, hk3⟩ | ⟨rfl, hJ3, hk3⟩)
      · have HI3 : Hid (IsIds n₀ W3 (some ⟨b, off, none⟩) len cap ids) := (HI2.out.below (HB2.out.mono hnr)).kept (fun k c t fr h1 h2 => hk3.2 k c t fr h1 h2)
        gi_wp2
        go_roundw
        case rel => exact ⟨k + 1, by omega, by go_num, by rw [HT.out]; exact hJ3, HI3.out, Nat.le_trans (Nat.le_trans hnr HB2.out.size) hk3.1⟩
        case measure => simp [intOf]; omega
      · gi_wp2
        refine bodyPost_ret (results_none rfl _ _ _) rfl ?_
        exact ⟨⟨_, rfl⟩, .inr ⟨_, by rw [← HT.out]; exact List.take_prefix _ _, hJ3⟩⟩
    · obtain rfl : k = len := by omega
      gi_wp2
      refine ⟨rfl, _, results_none rfl _ _ _, ?_⟩
      exact ⟨⟨_, rfl⟩, .inl ⟨ids, rfl, by rw [List.take_of_length_le (by rw [HL.out]; exact Nat.le_refl _)] at hj; exact hj⟩⟩

set_option maxRecDepth 100000 in
set_option maxHeartbeats 1000000 in
/-- slices.Index of ids. -/
theorem index_any (p : Option Addr) (len cap : Nat) (ids : List (List Nat)) (x : List Nat) (hx : IsId x) (w : World) (hI : IsIds w.heap.size w p len cap ids) :
    Calls Try.prog 75 #[.slice p len cap, .agg (u8s x).toArray] w fun e w' => (∃ r : Int, e = .returned (.int .i64 r) ∧ decide (0 ≤ r) = decide (x ∈ ids)) ∧ Below w.heap.size w w' := by
  obtain ⟨w0, hw0⟩ : ∃ w0, w.alloc (.cells (u8s x).toArray 24) = w0 := ⟨_, rfl⟩
  have hb0 : Below w.heap.size w w0 := by rw [← hw0]; exact (Below.refl _ w).alloc (Nat.le_refl _) _
  have HR0 : Hid (Row w0 w.heap.size 24 (u8s x)) := by rw [← hw0]; exact Row.new' w 24 (u8s x)
  have HW0 : Hid (w.alloc (.cells (u8s x).toArray 24) = w0) := hw0
  have HI : Hid (IsIds w0.heap.size w0 p len cap ids) := (hI.below hb0).mono hb0.size
  have HL : Hid (ids.length = len) := hI.1
  have HX : Hid (IsId x) := hx
  have hlc := hI.2.1
  have hcc := hI.2.2.1
  have hs0 : w.heap.size < w0.heap.size := by rw [← hw0]; simp
  clear hI hw0 hx
  go_enter Try.func75, Try.ntmps75
  go_wp2_with (rw [HW0.out])
  go_loopw [8] (fun i wr => ∃ (k : Nat), k ≤ len ∧ i = .int .i64 k ∧ ¬ x ∈ ids.take k ∧ Below w0.heap.size w0 wr) (fun i _ => len - (intOf i).toNat)
  case atStart => exact ⟨0, Nat.zero_le _, rfl, by simp, Below.refl _ _⟩
  case round =>
    obtain ⟨k, hk, rfl, htk, hbel⟩ := hrel
    have HTk : Hid (¬ x ∈ ids.take k) := htk
    clear htk
    by_cases hlt : k < len
    · have hki : (k : Int) < (len : Int) := by omega
      obtain ⟨b, off, rfl, hb, hcell⟩ : ∃ b off, p = some ⟨b, off, none⟩ ∧ b < w0.heap.size ∧ ∀ i, i < len → wr.rangeAt b (off + i * 32) (u8s (ids.getD i [])) := by
        rcases (HI.out.below hbel).2.2.2.2 with h | h
        · omega
        · exact h
      have hy : IsId (ids.getD k []) := ids_at HI.out.2.2.2.1 (k := k) (by rw [HL.out]; exact hlt)
      have HRg : Hid (wr.rangeAt b (off + k * 32) (u8s (ids.getD k []))) := hcell k hlt
      have HRx : Hid (wr.rangeAt w.heap.size 0 (u8s x)) := (HR0.out.later hbel).range
      have HV : Hid ((u8s x).length = 32) := by show _ = _; rw [u8s_length]; exact HX.out.1
      have HV2 : Hid ((u8s (ids.getD k [])).length = 32) := by show _ = _; rw [u8s_length]; exact hy.1
      have hq := equal_ids HX.out hy
      have HT : Hid (ids.take (k + 1) = ids.take k ++ [ids.getD k []]) := by
        show _ = _
        have hl : k < ids.length := by rw [HL.out]; exact hlt
        rw [List.take_succ_eq_append_getElem hl, List.getD_eq_getElem?_getD, List.getElem?_eq_getElem hl, Option.getD_some]
      have HM : Hid (ids.getD k [] ∈ ids) := by
        have hl : k < ids.length := by rw [HL.out]; exact hlt
        rw [List.getD_eq_getElem?_getD, List.getElem?_eq_getElem hl, Option.getD_some]
        exact List.getElem_mem hl
      have hsz := hbel.size
      clear hcell hy
      generalize ids.getD k [] = y at *
      generalize hX : u8s x = X at *
      generalize hY : u8s y = Y at *
      by_cases hxy : x = y
      · rw [decide_eq_true hxy] at hq
        have HIn : Hid (decide (x ∈ ids) = true) := decide_eq_true (by rw [hxy]; exact HM.out)
        clear hxy hX hY
        go_wp2
        refine wp_region_held_drew (S := fun W => Below wr.heap.size wr W) (by kernel_rfl) (Below.refl _ _).drew (fun hHeld => ?_)
        refine wpAnyH_takesAt 0 1 5 (of_decide_eq_true (by kernel_rfl)) rfl (fun _ _ _ d _ h => by cases d <;> exact h) (by kernel_rfl) (by kernel_rfl) hHeld ?_
        simp only [List.drop_zero, List.take_succ_cons, List.take_zero]
        refine wpHeld_load (by rfl) 24 (.tmp 3) rfl w.heap.size 0 rfl X (fun W hW => rangeAt_below hW (by omega) HRx.out) Try.underlying24 (by rw [HV.out]; exact size24) ?_
        (simp only [Act.put]; (try simp only [List.setIfInBounds_toArray]); (try simp only [List.set_cons_succ]); (try simp only [List.set_cons_zero]))
        refine wpHeld_nil ?_
        refine wpAnyH_takesAt 1 3 2 (of_decide_eq_true (by kernel_rfl)) rfl (fun _ _ _ d _ h => by cases d <;> exact h) (by kernel_rfl) (by kernel_rfl) hHeld ?_
        simp only [List.drop_succ_cons, List.drop_zero, List.take_succ_cons, List.take_zero]
        iterate 3 (refine wpHeld_step (v := ?_) (by rfl) (fun wz hSw => ?_) ?_; rotate_left; (focus ((try dsimp only at hSw); go_simp; try with_reducible rfl)); (simp only [Act.put, List.setIfInBounds_toArray, List.set_cons_zero, List.set_cons_succ]))
        refine wpHeld_nil ?_
        refine wpAnyH_takesAt 4 1 1 (of_decide_eq_true (by kernel_rfl)) rfl (fun _ _ _ d _ h => by cases d <;> exact h) (by kernel_rfl) (by kernel_rfl) hHeld ?_
        simp only [List.drop_succ_cons, List.drop_zero, List.take_succ_cons, List.take_zero]
        refine wpHeld_load (by rfl) 24 (.tmp 14) rfl b (off + k * 32) rfl Y (fun W hW => rangeAt_below hW (by omega) HRg.out) Try.underlying24 (by rw [HV2.out]; exact size24) ?_
        (simp only [Act.put]; (try simp only [List.setIfInBounds_toArray]); (try simp only [List.set_cons_succ]); (try simp only [List.set_cons_zero]))
        refine wpHeld_nil ?_
        refine wpAnyH_takesAt 5 1 0 (of_decide_eq_true (by kernel_rfl)) rfl (fun _ _ _ d _ h => by cases d <;> exact h) (by kernel_rfl) (by kernel_rfl) hHeld ?_
        simp only [List.drop_succ_cons, List.drop_zero, List.take_succ_cons, List.take_zero]
        iterate 1 (refine wpHeld_step (v := ?_) (by rfl) (fun wz hSw => ?_) ?_; rotate_left; (focus ((try dsimp only at hSw); go_simp; try with_reducible rfl)); ((simp only [Act.put]; (try simp only [List.setIfInBounds_toArray]); (try simp only [List.set_cons_succ]); (try simp only [List.set_cons_zero]))))
        refine wpHeld_nil ?_
        refine wpAnyH_done (by kernel_rfl) ?_ _
        go_wp2
        go_ret
        exact ⟨⟨_, rfl, by rw [HIn.out]; simp⟩, hb0.trans (hbel.drew.mono hb0.size)⟩
      · rw [decide_eq_false hxy] at hq
        have HNo : Hid (¬ x ∈ ids.take (k + 1)) := by
          show ¬ _
          rw [HT.out, List.mem_append, List.mem_singleton]
          rintro (h | h)
          · exact HTk.out h
          · exact hxy h
        clear hxy hX hY
        go_wp2
        refine wp_region_held_drew (S := fun W => Below wr.heap.size wr W) (by kernel_rfl) (Below.refl _ _).drew (fun hHeld => ?_)
        refine wpAnyH_takesAt 0 1 5 (of_decide_eq_true (by kernel_rfl)) rfl (fun _ _ _ d _ h => by cases d <;> exact h) (by kernel_rfl) (by kernel_rfl) hHeld ?_
        simp only [List.drop_zero, List.take_succ_cons, List.take_zero]
        refine wpHeld_load (by rfl) 24 (.tmp 3) rfl w.heap.size 0 rfl X (fun W hW => rangeAt_below hW (by omega) HRx.out) Try.underlying24 (by rw [HV.out]; exact size24) ?_
        (simp only [Act.put]; (try simp only [List.setIfInBounds_toArray]); (try simp only [List.set_cons_succ]); (try simp only [List.set_cons_zero]))
        refine wpHeld_nil ?_
        refine wpAnyH_takesAt 1 3 2 (of_decide_eq_true (by kernel_rfl)) rfl (fun _ _ _ d _ h => by cases d <;> exact h) (by kernel_rfl) (by kernel_rfl) hHeld ?_
        simp only [List.drop_succ_cons, List.drop_zero, List.take_succ_cons, List.take_zero]
        iterate 3 (refine wpHeld_step (v := ?_) (by rfl) (fun wz hSw => ?_) ?_; rotate_left; (focus ((try dsimp only at hSw); go_simp; try with_reducible rfl)); (simp only [Act.put, List.setIfInBounds_toArray, List.set_cons_zero, List.set_cons_succ]))
        refine wpHeld_nil ?_
        refine wpAnyH_takesAt 4 1 1 (of_decide_eq_true (by kernel_rfl)) rfl (fun _ _ _ d _ h => by cases d <;> exact h) (by kernel_rfl) (by kernel_rfl) hHeld ?_
        simp only [List.drop_succ_cons, List.drop_zero, List.take_succ_cons, List.take_zero]
        refine wpHeld_load (by rfl) 24 (.tmp 14) rfl b (off + k * 32) rfl Y (fun W hW => rangeAt_below hW (by omega) HRg.out) Try.underlying24 (by rw [HV2.out]; exact size24) ?_
        (simp only [Act.put]; (try simp only [List.setIfInBounds_toArray]); (try simp only [List.set_cons_succ]); (try simp only [List.set_cons_zero]))
        refine wpHeld_nil ?_
        refine wpAnyH_takesAt 5 1 0 (of_decide_eq_true (by kernel_rfl)) rfl (fun _ _ _ d _ h => by cases d <;> exact h) (by kernel_rfl) (by kernel_rfl) hHeld ?_
        simp only [List.drop_succ_cons, List.drop_zero, List.take_succ_cons, List.take_zero]
        iterate 1 (refine wpHeld_step (v := ?_) (by rfl) (fun wz hSw => ?_) ?_; rotate_left; (focus ((try dsimp only at hSw); go_simp; try with_reducible rfl)); ((simp only [Act.put]; (try simp only [List.setIfInBounds_toArray]); (try simp only [List.set_cons_succ]); (try simp only [List.set_cons_zero]))))
        refine wpHeld_nil ?_
        refine wpAnyH_done (by kernel_rfl) ?_ _
        go_wp2
        go_roundw
        case rel => exact ⟨k + 1, by omega, by go_num, HNo.out, hbel.drew⟩
        case measure => simp [intOf]; omega
    · obtain rfl : k = len := by omega
      have HNo : Hid (decide (x ∈ ids) = false) := by
        have h := HTk.out
        rw [List.take_of_length_le (by rw [HL.out]; exact Nat.le_refl _)] at h
        exact decide_eq_false h
      go_wp2
      go_ret
      exact ⟨⟨_, rfl, by rw [HNo.out]; rfl⟩, hb0.trans (hbel.mono hb0.size)⟩

set_option maxRecDepth 100000 in
/-- slices.Contains of ids. -/
theorem contains_any (p : Option Addr) (len cap : Nat) (ids : List (List Nat)) (x : List Nat) (hx : IsId x) (w : World) (hI : IsIds w.heap.size w p len cap ids) :
    Calls Try.prog 65 #[.slice p len cap, .agg (u8s x).toArray] w fun e w' => e = .returned (.bool (decide (x ∈ ids))) ∧ Below w.heap.size w w' := by
  obtain ⟨w0, hw0⟩ : ∃ w0, w.alloc (.cells (u8s x).toArray 24) = w0 := ⟨_, rfl⟩
  have hb0 : Below w.heap.size w w0 := by rw [← hw0]; exact (Below.refl _ w).alloc (Nat.le_refl _) _
  have HR0 : Hid (Row w0 w.heap.size 24 (u8s x)) := by rw [← hw0]; exact Row.new' w 24 (u8s x)
  have HW0 : Hid (w.alloc (.cells (u8s x).toArray 24) = w0) := hw0
  have HV : Hid ((u8s x).length = 32) := by show _ = _; rw [u8s_length]; exact hx.1
  have HQ := index_any p len cap ids x hx w0 ((hI.below hb0).mono hb0.size)
  clear hI hw0 hx
  generalize decide (x ∈ ids) = d at *
  generalize u8s x = X at *
  go_enter Try.func65, Try.ntmps65
  go_wp2_with (first
    | (rw [HW0.out])
    | ((with_reducible show wpList _ _ _ (Oper.mk _ (Op.load 24 (.tmp 3)) _ _ _ _ :: _) _ _); refine wpList_load_want (by rfl) 24 (.tmp 3) rfl w.heap.size 0 rfl X HR0.out.range Try.underlying24 (by rw [HV.out]; exact size24) ?_; simp only [Act.put, List.setIfInBounds_toArray, List.set_cons_zero, List.set_cons_succ])
    | (go_at_call 75; refine HQ.mono ?_; rintro e w1 ⟨⟨r, rfl, hr⟩, hb1⟩))
  go_ret
  exact ⟨by rw [← hr]; rfl, hb0.trans (hb1.mono hb0.size)⟩
end Go.Proofs.Ytkhhlcjjdkldjaa
