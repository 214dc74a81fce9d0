/-
  What a running sum's Begin and Sum answer: a sum of nothing yet; the sum of all that was taken in. Nothing that lay before the call has turned.
-/
import Derived.Test.YtkpjbleogjmbjaaDoorMade
import Derived.Test.YtkpjbleogjmbjaaDoorShMore
namespace Go.Proofs.YtkpjbleogjmbjaaDoor.Sh
open Go.RowKit Go.Shelf
attribute [local go_sem] Oper.semAt_some

theorem first8_cells : u32s first8.list = [.int .u32 1779033703, .int .u32 3144134277, .int .u32 1013904242, .int .u32 2773480762, .int .u32 1359893119, .int .u32 2600822924, .int .u32 528734635, .int .u32 1541459225] := rfl

theorem wpList_build_as {P : Program} {ops : Array Oper} {rest : List Oper} {o : Oper} {a : Act} {w : World} {Q : Exit → Act → World → Prop} (hg : o.guard = none) (t : TypeId) (parts : Array (Nat × Operand)) (ho : o.op = .build t parts) (vs : List (Nat × Value)) (hv : (parts.map fun (i, x) => (i, a.eval x)).toList = vs)
    (cells : Array Value) (hf : P.built t vs = some cells) (h : wpList P ops Q rest (a.put o.dst (.agg cells)) w) : wpList P ops Q (o :: rest) a w := by
  refine wpList_build hg t parts ho (by rw [hv, hf]; rfl) ?_
  rw [hv, hf]
  exact h

theorem built63 : Tryd.prog.built 106 [(0, .bool true), (1, .agg (u32s first8.list).toArray)] = some (runCells (u32s first8.list) (List.replicate 64 (.int .u8 0)) 0).toArray := by kernel_rfl

set_option maxRecDepth 100000 in
set_option maxHeartbeats 1000000 in
/-- Begin -/
theorem begin_any (w : World) : Calls Tryd.prog 40 #[] w fun e w' => ∃ B, e = .returned (.pointer (some ⟨B, 0, none⟩)) ∧ w.heap.size ≤ B ∧ RunAt w' B [] ∧ Below w.heap.size w w' := by
  have HB := built63
  have HF : Hid (∀ w, Calls Tryd.prog 49 #[] w fun e w' => e = .returned (.agg (u32s first8.list).toArray) ∧ Below w.heap.size w w') := firstWords_any
  obtain ⟨f8, hf8⟩ : ∃ f8, f8 = u32s first8.list := ⟨_, rfl⟩
  rw [← hf8] at HF HB
  have HF8 : Hid (f8 = u32s first8.list) := hf8
  obtain ⟨Z, hZ⟩ : ∃ Z, Z = runCells f8 (List.replicate 64 (.int .u8 0)) 0 := ⟨_, rfl⟩
  rw [← hZ] at HB
  have HBu : Hid (Tryd.prog.built 106 [(0, .bool true), (1, .agg f8.toArray)] = some Z.toArray) := HB
  have HZ : Hid (Z = runCells f8 (List.replicate 64 (.int .u8 0)) 0) := hZ
  clear hf8 hZ HB
  go_enter Tryd.func40, Tryd.ntmps40
  go_wp2_with (first
    | (go_at_call 49; refine (HF.out _).mono ?_; rintro e w1 ⟨rfl, hb1⟩)
    | ((with_reducible show wpList _ _ _ (Oper.mk _ (Op.build 106 _) _ _ _ _ :: _) _ _); refine wpList_build_as rfl 106 _ rfl [(0, .bool true), (1, .agg f8.toArray)] (by simp only [List.map_toArray, List.map_cons, List.map_nil]; rfl) Z.toArray HBu.out ?_; simp only [Act.put, List.setIfInBounds_toArray, List.set_cons_zero, List.set_cons_succ]))
  go_ret
  refine ⟨w1.heap.size, rfl, hb1.size, ⟨f8, List.replicate 64 (.int .u8 0), ⟨HF8.out, rfl, rfl⟩, ?_⟩, hb1.alloc hb1.size _⟩
  have h := Row.new' w1 106 Z
  rw [HZ.out] at h ⊢
  exact h

/-- The bytes that wait. -/
theorem rest_bytes {W : World} {B : Nat} {s R : List Value} {cs : List Nat} (hok : RunOk s R cs) (hr : Row W B 106 (runCells s R cs.length)) (hz : ∀ z ∈ cs, z < 256) : IsBytes W.heap.size W (some ⟨B, 9, none⟩) (cs.length % 64) 64 (cs.drop (64 * (cs.length / 64))) := by
  refine ⟨by simp; omega, by omega, by omega, fun z h => hz z (List.mem_of_mem_drop h), .inr ⟨B, 9, rfl, hr.lt, fun i hi => ?_⟩⟩
  refine runCells_rest hok.len hr i _ ?_
  have h := congrArg (fun l => l[i]?) hok.2.2
  simp only [List.getElem?_take, hi, if_true] at h
  rw [h, u8s_at (by simp; omega)]

theorem _root_.Go.Proofs.YtkpjbleogjmbjaaDoor.Row.newB (W : World) (o : Obj) (t : TypeId) (c : Array Value) : Row ((W.alloc o).alloc (.cells c t)) (W.heap.size + 1) t c.toList := by
  have := Row.new (W.alloc o) t c
  rwa [World.size_alloc] at this
theorem wpListIn_load_mid {F : Fence} {n : Nat} {P : Program} {ops : Array Oper} {rest : List Oper} {o : Oper} {a : Act} {w : World} {Q : Exit → Act → World → Prop} (hgd : o.guard = none) (ty : TypeId) (x : Operand) (ho : o.op = .load ty x)
    (g off : Nat) (hx : a.eval x = .pointer (some ⟨g, off, none⟩)) (cs : List Value) (hg : w.rangeAt g off cs) {m : Nat} {e : TypeId} (hu : P.underlying ty = some (.array m e)) (hi : (P.info? ty).map (·.size) = some cs.length)
    (h : wpListIn F n P ops Q rest (a.put o.dst (.agg cs.toArray)) w) : wpListIn F n P ops Q (o :: rest) a w := by
  refine wpListIn_plain hgd fun K hK => ?_
  unfold Oper.wpIn
  refine ⟨by simp [Oper.about, ho], ?_⟩
  rw [Oper.semAt_plain F _ _ (by rw [ho]; intro c hc; cases hc)]
  simp only [execOp, ho, hx, Instr.loadAt, Instr.sureAddr, Sem.run_bind, Sem.run_pure, Result.andThen_ok, run_loadVar_mid w g off ty cs _ hg hu rfl hi]
  exact hK _ _ h

set_option maxRecDepth 100000 in
set_option maxHeartbeats 2000000 in
theorem rsum_in (n : Nat) (hn : 8 ≤ n) (B : Nat) (cs : List Nat) (hcl : cs.length ≤ 100000) (hz : ∀ z ∈ cs, z < 256) (w : World) (hT : Tab w) (hR : RunAt w B cs) :
    CallsIn Fence.wide n Tryd.prog 35 #[.pointer (some ⟨B, 0, none⟩)] w fun e w' => e = .returned (.agg (u8s (sumN cs)).toArray) ∧ Below w.heap.size w w' := by
  have h1 : 1 ≤ n := by omega
  have hfn : ∀ f, Fence.wide.fn f := fun _ => trivial
  have HT : Hid (Tab w) := hT
  have hBl := hR.lt
  obtain ⟨s, R, hok, hrow⟩ := hR
  have HOK : Hid (RunOk s R cs) := hok
  have HRow : Hid (Row w B 106 (runCells s R cs.length)) := hrow
  have HZ : Hid (∀ z ∈ cs, z < 256) := hz
  have c0 := hrow.cell (runCells_0 _ _ _)
  have c0' := fun o => (hrow.alloc o).cell (runCells_0 _ _ _)
  obtain ⟨m, hm⟩ : ∃ m, m = cs.length := ⟨_, rfl⟩
  have HM : Hid (m = cs.length) := hm
  have hmb : m ≤ 100000 := by omega
  have HSl : Hid (s.length = 8) := hok.len
  have HS1 : Hid (∀ v ∈ s, v.oneCell' = true) := by rw [hok.1]; exact u32s_one _
  clear hT hok hrow hz hm hcl
  refine callsIn_of_wp_marks Tryd.func35 rfl trivial ?_ rfl
  simp only [Tryd.ntmps35, List.size_toArray, List.length_cons, List.length_nil, Nat.reduceAdd, Nat.reduceSub, Array.replicate_succ, Array.replicate_zero, List.push_toArray, List.append_toArray, List.nil_append, List.cons_append]
  gi_wp2_with (first
    | ((with_reducible show wpListIn _ _ _ _ _ (Oper.mk _ (Op.load 98 (.tmp 17)) _ _ _ _ :: _) _ _); refine wpListIn_load_mid rfl 98 (.tmp 17) rfl B 1 rfl s (runCells_words (HRow.out.alloc _)) Tryd.underlying98 (by rw [HSl.out]; exact size98) ?_; simp only [Act.put, List.setIfInBounds_toArray, List.set_cons_zero, List.set_cons_succ])
    | ((with_reducible show wpListIn _ _ _ _ _ (Oper.mk _ (Op.store 98 (.tmp 3) (.tmp 18)) _ _ _ _ :: _) _ _); refine wpListIn_store_Row rfl 98 (.tmp 3) (.tmp 18) rfl s rfl rfl (Row.newB _ _ _ _) (by rw [HSl.out]; exact size98) (by rw [HSl.out]; rfl) HS1.out ?_; simp only [Act.put]))
  rw [z32u8, z8u32]
  have rR : Row (((w.alloc (.cells (List.replicate 32 (Value.int .u8 0)).toArray 34)).alloc (.cells (List.replicate 8 (Value.int .u32 0)).toArray 98)).setCells (w.heap.size + 1) 0 s) w.heap.size 34 (List.replicate 32 (.int .u8 0)) := Row.others (by omega) _ _ ((Row.new' w 34 _).alloc _)
  have rH : Row (((w.alloc (.cells (List.replicate 32 (Value.int .u8 0)).toArray 34)).alloc (.cells (List.replicate 8 (Value.int .u32 0)).toArray 98)).setCells (w.heap.size + 1) 0 s) (w.heap.size + 1) 98 s := Row.sets_all (Row.newB _ _ _ _) (by rw [HSl.out]; rfl)
  have hbA : Below w.heap.size w (((w.alloc (.cells (List.replicate 32 (Value.int .u8 0)).toArray 34)).alloc (.cells (List.replicate 8 (Value.int .u32 0)).toArray 98)).setCells (w.heap.size + 1) 0 s) := below_setCells (by omega) _ _ (((Below.refl _ w).alloc (Nat.le_refl _) _).alloc (by simp) _)
  have hsA : (((w.alloc (.cells (List.replicate 32 (Value.int .u8 0)).toArray 34)).alloc (.cells (List.replicate 8 (Value.int .u32 0)).toArray 98)).setCells (w.heap.size + 1) 0 s).heap.size = w.heap.size + 2 := by rw [size_setCells, World.size_alloc, World.size_alloc]
  generalize (((w.alloc (.cells (List.replicate 32 (Value.int .u8 0)).toArray 34)).alloc (.cells (List.replicate 8 (Value.int .u32 0)).toArray 98)).setCells (w.heap.size + 1) 0 s) = w2 at *
  have HRow2 : Hid (Row w2 B 106 (runCells s R cs.length)) := HRow.out.later hbA
  have c73 := HRow2.out.cell (runCells_73 cs.length HOK.out.len HOK.out.2.1)
  rw [← HM.out] at c73
  have HHeld : Hid (∀ W : World, W.cell? ⟨B, 73, none⟩ = some (.int .u64 (m : Nat)) → Calls Tryd.prog 41 #[.pointer (some ⟨B, 0, none⟩)] W fun e w' => e = .returned (.int .i64 (m % 64 : Nat)) ∧ w' = W) := fun W hc => held_any B m (by omega) W hc
  have hm64 : m % 64 < 64 := by omega
  have hm64i : ((m % 64 : Nat) : Int) ≤ 64 := by omega
  clear c0 c0'
  generalize hh : m % 64 = h at *
  have HH : Hid (m % 64 = h) := hh
  clear hh
  refine wpIn_region_on_wide (S := fun W' => W'.cell? ⟨B, 73, none⟩ = some (.int .u64 (m : Nat))) (by kernel_rfl) (by kernel_rfl) c73 (fun hHeld => ?_)
  refine wpAnyH_takesAt 0 4 7 (of_decide_eq_true (by kernel_rfl)) rfl (fun _ _ _ _ _ h => h) (by kernel_rfl) (by kernel_rfl) hHeld ?_
  simp only [List.drop_zero, List.take_succ_cons, List.take_zero]
  iterate 4 (refine wpHeld_step (v := ?_) (by rfl) (fun wz hSw => ?_) ?_; rotate_left; (focus ((try dsimp only at hSw); go_simp; try with_reducible rfl)); (simp only [Act.put, List.setIfInBounds_toArray, List.set_cons_zero, List.set_cons_succ]))
  refine wpHeld_nil ?_
  refine wpAnyH_takesAt 6 4 3 (of_decide_eq_true (by kernel_rfl)) rfl (fun _ _ _ _ _ h => h) (by kernel_rfl) (by kernel_rfl) hHeld ?_
  simp only [List.drop_succ_cons, List.drop_zero, List.take_succ_cons, List.take_zero]
  iterate 4 (refine wpHeld_step (v := ?_) (by rfl) (fun wz hSw => ?_) ?_; rotate_left; (focus ((try dsimp only at hSw); go_simp; try with_reducible rfl)); (simp only [Act.put, List.setIfInBounds_toArray, List.set_cons_zero, List.set_cons_succ]))
  refine wpHeld_nil ?_
  refine wpAnyH_only (i := 4) (by kernel_rfl) rfl (fun K hK => ?_)
  rw [if_pos (by rfl)]
  go_simp
  refine (HHeld.out w2.drew c73).mono ?_
  rintro e w3 ⟨rfl, rfl⟩
  refine hK.out _ _ hHeld ?_
  clear hK K
  refine wpAnyH_takesAt 5 1 1 (of_decide_eq_true (by kernel_rfl)) rfl (fun _ _ _ _ _ h => h) (by kernel_rfl) (by kernel_rfl) hHeld ?_
  simp only [List.drop_succ_cons, List.drop_zero, List.take_succ_cons, List.take_zero]
  iterate 1 (refine wpHeld_step (v := ?_) (by rfl) (fun wz hSw => ?_) ?_; rotate_left; (focus ((try dsimp only at hSw); go_simp; try with_reducible rfl)); (simp only [Act.put, List.setIfInBounds_toArray, List.set_cons_zero, List.set_cons_succ]))
  refine wpHeld_nil ?_
  refine wpAnyH_only (i := 10) (by kernel_rfl) rfl (fun K hK => ?_)
  rw [if_pos (by rfl)]
  go_simp
  refine (callsIn_wide.1 (last_in 8 (.slice (some ⟨B, 9, none⟩) h 64) m w2.drew rfl)).mono ?_
  rintro e w3 ⟨rfl, rfl⟩
  refine hK.out _ _ (((HRow2.out.drew.alloc _).alloc _).cell (by rw [HM.out]; exact runCells_73 cs.length HOK.out.len HOK.out.2.1)) ?_
  clear hK K
  refine wpAnyH_done (by kernel_rfl) ?_ _
  refine OnOnly.on ?_
  have hs4 : ((w2.drew.alloc (Obj.cells #[Value.slice (some ⟨B, 9, none⟩) h 64] 22)).alloc (Obj.cells #[Value.int IntKind.u64 (m : Nat)] 104)).heap.size = w2.heap.size + 2 := by simp
  have H4 : Hid (Row ((w2.drew.alloc (Obj.cells #[Value.slice (some ⟨B, 9, none⟩) h 64] 22)).alloc (Obj.cells #[Value.int IntKind.u64 (m : Nat)] 104)) (w.heap.size + 1) 98 s ∧ Row ((w2.drew.alloc (Obj.cells #[Value.slice (some ⟨B, 9, none⟩) h 64] 22)).alloc (Obj.cells #[Value.int IntKind.u64 (m : Nat)] 104)) w.heap.size 34 (List.replicate 32 (.int .u8 0)) ∧ Below w.heap.size w ((w2.drew.alloc (Obj.cells #[Value.slice (some ⟨B, 9, none⟩) h 64] 22)).alloc (Obj.cells #[Value.int IntKind.u64 (m : Nat)] 104)) ∧ Row ((w2.drew.alloc (Obj.cells #[Value.slice (some ⟨B, 9, none⟩) h 64] 22)).alloc (Obj.cells #[Value.int IntKind.u64 (m : Nat)] 104)) w2.heap.size 22 [.slice (some ⟨B, 9, none⟩) h 64] ∧ Row ((w2.drew.alloc (Obj.cells #[Value.slice (some ⟨B, 9, none⟩) h 64] 22)).alloc (Obj.cells #[Value.int IntKind.u64 (m : Nat)] 104)) (w2.heap.size + 1) 104 [.int .u64 (m : Nat)] ∧ Row ((w2.drew.alloc (Obj.cells #[Value.slice (some ⟨B, 9, none⟩) h 64] 22)).alloc (Obj.cells #[Value.int IntKind.u64 (m : Nat)] 104)) B 106 (runCells s R cs.length)) :=
    ⟨(rH.drew.alloc _).alloc _, (rR.drew.alloc _).alloc _, (hbA.drew.alloc (by show _ ≤ w2.heap.size; omega) _).alloc (by simp; omega) _, (Row.new w2.drew 22 _).alloc _, Row.newB w2.drew _ 104 _, (HRow2.out.drew.alloc _).alloc _⟩
  clear rR rH hbA HRow2 c73 hHeld HRow
  generalize ((w2.drew.alloc (Obj.cells #[Value.slice (some ⟨B, 9, none⟩) h 64] 22)).alloc (Obj.cells #[Value.int IntKind.u64 (m : Nat)] 104)) = w4 at *
  rw [show w2.drew.heap.size = w2.heap.size from rfl]
  gi_wp2
  have HF0 : Hid (s = u32s (wordsN (fullL cs (m / 64))).list) := by have h := HOK.out.1; rw [← HM.out] at h; exact h
  have HBlk : Hid (fullL cs (m / 64) ++ lastL (cs.drop (64 * (m / 64))) m = blocksL cs) := by show _ = _; rw [blocksL, ← HM.out]
  have HWsn : Hid (∀ (pre : List (List Nat)) (x : List Nat), wordsN (fullL cs (m / 64) ++ (pre ++ [x])) = compressN (wordsN (fullL cs (m / 64) ++ pre)) x) := fun pre x => by rw [← List.append_assoc, wordsN_snoc]
  have HIr : Hid (IsBytes w4.heap.size w4 (some ⟨B, 9, none⟩) h 64 (cs.drop (64 * (m / 64)))) := by
    have h := rest_bytes HOK.out H4.out.2.2.2.2.2 HZ.out
    rw [← HM.out, HH.out] at h
    exact h
  have HOkL : Hid (h < 64) := hm64
  clear HOK HHeld
  refine wpIn_rangeFunc_arr rfl h1 (gf := 53) (lb := #[.pointer (some ⟨w2.heap.size, 0, none⟩), .pointer (some ⟨w2.heap.size + 1, 0, none⟩)]) rfl trivial (enters_of Tryd.func53 (by kernel_rfl) rfl)
    (encs := fun x : List Nat => #[.agg (u8s x).toArray]) (Ok := fun x _ => BlockOk x) (Kp := KpM (fun k => k = w.heap.size + 1) (w4.heap.size + 2)) (S := fun xs => xs = lastL (cs.drop (64 * (m / 64))) m) (Sp := fun pre => ∃ r, pre ++ r = lastL (cs.drop (64 * (m / 64))) m) (N := 2)
    (fun W' hs hb => last1_iter (n - 1) (by omega) _ w2.heap.size (w2.heap.size + 1) m (some ⟨B, 9, none⟩) h 64 (cs.drop (64 * (m / 64))) HOkL.out W' (HIr.out.later hb) ((H4.out.2.2.2.1.later hb).cell (i := 0) rfl) (H4.out.2.2.2.2.1.later hb) (fun k => k = w.heap.size + 1) _ (fun _ _ h => h.1) (fun j hj => by omega) (by omega))
    KpM.trans (fun A o o' ho hc => KpM.record (by omega) o' ho hc) KpM.of_below (fun _ => rfl) 91 (fun x => u8s x)
    (fun pre A => Row A (w.heap.size + 1) 98 (u32s (wordsN (fullL cs (m / 64) ++ pre)).list) ∧ Row A w.heap.size 34 (List.replicate 32 (.int .u8 0)) ∧ Below w.heap.size w A)
    (fun _ _ _ => False)
    (Low.and (low_row (by omega) _) (Low.and (low_row (by omega) _) (low_below w (by omega))))
    (fun _ _ _ _ h _ => h)
    (fun _ _ _ h _ => h)
    ⟨by rw [List.append_nil, ← HF0.out]; exact H4.out.1, H4.out.2.1, H4.out.2.2.1⟩
    (fun x A => { tmps := #[.pointer (some ⟨B, 0, none⟩), undef, .pointer (some ⟨w.heap.size, 0, none⟩), .pointer (some ⟨w.heap.size + 1, 0, none⟩), .pointer (some ⟨A.heap.size, 0, none⟩), .pointer (some ⟨B, 0, none⟩), .bool false, .bool false, .pointer (some ⟨B, 0, none⟩), .pointer (some ⟨B, 0, none⟩), .pointer (some ⟨B, 0, none⟩), .bool true, .bool false, .bool false, undef, .pointer (some ⟨B, 0, none⟩), .pointer (some ⟨B, 0, none⟩), .pointer (some ⟨B, 1, none⟩), .agg s.toArray, .pointer (some ⟨B, 0, none⟩), .pointer (some ⟨B, 0, none⟩), .pointer (some ⟨B, 9, none⟩), .pointer (some ⟨B, 0, none⟩), .int .i64 h, .slice (some ⟨B, 9, none⟩) h 64, .pointer (some ⟨B, 0, none⟩), .pointer (some ⟨B, 0, none⟩), .pointer (some ⟨B, 73, none⟩), .int .u64 m, .func (.func 53) #[] #[.pointer (some ⟨w2.heap.size, 0, none⟩), .pointer (some ⟨w2.heap.size + 1, 0, none⟩)], .agg (u8s x).toArray, undef, undef, undef, undef, undef], defers := [] }) ?assign ?body ?done ?stop
  case assign =>
    intro li x A K hok hK
    clear hsA hs4
    have HXL : Hid ((u8s x).length = 64) := by show _ = _; rw [u8s_length]; exact hok.1
    have HX1 : Hid (∀ v ∈ u8s x, v.oneCell' = true) := u8s_one x
    have HK : Hid (∀ W', Below A.heap.size A W' → Row W' A.heap.size 91 (u8s x) → K _ W') := hK
    clear hK
    generalize u8s x = V at *
    gi_wp2_with ((with_reducible show wpListIn _ _ _ _ _ (Oper.mk _ (Op.store 91 (.tmp 4) (.tmp 30)) _ _ _ _ :: _) _ _); refine wpListIn_store_Row rfl 91 (.tmp 4) (.tmp 30) rfl V rfl rfl (Row.new _ _ _) (by rw [HXL.out]; exact size91') (by rw [HXL.out]; rfl) HX1.out ?_; simp only [Act.put])
    exact HK.out _ (below_setCells (Nat.le_refl _) _ _ ((Below.refl _ A).alloc (Nat.le_refl _) _)) (Row.sets_all (Row.new _ _ _) (by rw [HXL.out]; rfl))
  case body =>
    rintro li pre x A₀ A ⟨hrH, hrR, hB⟩ hok hN hle hrow
    have HC : Hid (∀ A, Tab A → Calls Tryd.prog 42 #[.agg (u32s (wordsN (fullL cs (m / 64) ++ pre)).list).toArray, .agg (u8s x).toArray] A fun e w' => e = .returned (.agg (u32s (wordsN (fullL cs (m / 64) ++ (pre ++ [x]))).list).toArray) ∧ Below A.heap.size A w') := fun A hT => by
      rw [HWsn.out]; exact compress_any _ (wordsN_ok _) x hok.1 hok.2 A hT
    have HXL : Hid ((u8s x).length = 64) := by show _ = _; rw [u8s_length]; exact hok.1
    have HRow : Hid (Row A A₀.heap.size 91 (u8s x)) := hrow
    have HrH : Hid (Row A (w.heap.size + 1) 98 (u32s (wordsN (fullL cs (m / 64) ++ pre)).list)) := hrH
    have HrR : Hid (Row A w.heap.size 34 (List.replicate 32 (.int .u8 0))) := hrR
    have HHl : Hid ((u32s (wordsN (fullL cs (m / 64) ++ pre)).list).length = 8) := by show _ = _; rw [u32s_length, St.list_length]
    have HHl2 : Hid ((u32s (wordsN (fullL cs (m / 64) ++ (pre ++ [x]))).list).length = 8) := by show _ = _; rw [u32s_length, St.list_length]
    have HH2o : Hid (∀ v ∈ u32s (wordsN (fullL cs (m / 64) ++ (pre ++ [x]))).list, v.oneCell' = true) := u32s_one _
    clear hrow hrH hrR
    generalize u8s x = V at *
    generalize hS2 : u32s (wordsN (fullL cs (m / 64) ++ (pre ++ [x]))).list = S2 at *
    have HS2 : Hid (u32s (wordsN (fullL cs (m / 64) ++ (pre ++ [x]))).list = S2) := hS2
    clear hS2
    generalize u32s (wordsN (fullL cs (m / 64) ++ pre)).list = S1 at *
    gi_wp2_with (first
      | ((with_reducible show wpListIn _ _ _ _ _ (Oper.mk _ (Op.load 98 (.tmp 3)) _ _ _ _ :: _) _ _); refine wpListIn_load_Row rfl 98 (.tmp 3) rfl rfl HrH.out Tryd.underlying98 (by rw [HHl.out]; exact size98) ?_; simp only [Act.put, List.setIfInBounds_toArray, List.set_cons_zero, List.set_cons_succ])
      | ((with_reducible show wpListIn _ _ _ _ _ (Oper.mk _ (Op.load 91 (.tmp 4)) _ _ _ _ :: _) _ _); refine wpListIn_load_Row rfl 91 (.tmp 4) rfl rfl HRow.out Tryd.underlying91 (by rw [HXL.out]; exact size91') ?_; simp only [Act.put, List.setIfInBounds_toArray, List.set_cons_zero, List.set_cons_succ]))
    refine ⟨fun _ => by omega, (CallsIn.inRound li (callsIn_wide.2 (HC.out _ (HT.out.below hB HT.out.pos)))).mono ?_⟩
    rintro e A2 ⟨rfl, hb2⟩
    gi_wp2_with ((with_reducible show wpListIn _ _ _ _ _ (Oper.mk _ (Op.store 98 (.tmp 3) (.tmp 33)) _ _ _ _ :: _) _ _); refine wpListIn_store_Row rfl 98 (.tmp 3) (.tmp 33) rfl S2 rfl rfl (HrH.out.later hb2) (by rw [HHl2.out]; exact size98) (by rw [HHl2.out, HHl.out]) HH2o.out ?_; simp only [Act.put])
    have hkp : KpM (fun k => k = w.heap.size + 1) (w4.heap.size + 2) A (A2.setCells (w.heap.size + 1) 0 S2) := (KpM.of_below hb2).trans (KpM.sets (M := fun k => k = w.heap.size + 1) rfl _ _ _)
    have hkf : KpM (fun k => k = w.heap.size + 1) w4.heap.size A (A2.setCells (w.heap.size + 1) 0 S2) := (KpM.of_below hb2).trans (KpM.sets (M := fun k => k = w.heap.size + 1) rfl _ _ _)
    exact ⟨hkf.2, hkp, by rw [HS2.out]; exact (HrH.out.later hb2).sets_all (by rw [HHl2.out, HHl.out]), Row.others (by omega) _ _ (HrR.out.later hb2), below_setCells (by omega) _ _ (hB.trans (hb2.mono (by have := hB.size; omega)))⟩
  case done =>
    rintro D xs A hD rfl ⟨hrH, hrR, hB⟩ hKD
    rw [HBlk.out] at hrH
    have HDg : Hid (∀ A, Calls Tryd.prog 44 #[.agg (u32s (wordsN (blocksL cs)).list).toArray] A fun e w' => e = .returned (.agg (u8s (sumN cs)).toArray) ∧ Below A.heap.size A w') := fun A => digest_core _ (St.list_length _) (St.list_lt (wordsN_ok _)) A
    have HrH : Hid (Row A (w.heap.size + 1) 98 (u32s (wordsN (blocksL cs)).list)) := hrH
    have HrR : Hid (Row A w.heap.size 34 (List.replicate 32 (.int .u8 0))) := hrR
    have HHl : Hid ((u32s (wordsN (blocksL cs)).list).length = 8) := by show _ = _; rw [u32s_length, St.list_length]
    have HSl2 : Hid ((u8s (sumN cs)).length = 32) := by show _ = _; rw [u8s_length]; exact digestN_length _
    have HSo : Hid (∀ v ∈ u8s (sumN cs), v.oneCell' = true) := u8s_one _
    clear hrH hrR
    generalize u32s (wordsN (blocksL cs)).list = S1 at *
    gi_wp2_with (first
      | ((with_reducible show wpListIn _ _ _ _ _ (Oper.mk _ (Op.load 98 (.tmp 3)) _ _ _ _ :: _) _ _); refine wpListIn_load_Row rfl 98 (.tmp 3) rfl rfl HrH.out Tryd.underlying98 (by rw [HHl.out]; exact size98) ?_; simp only [Act.put, List.setIfInBounds_toArray, List.set_cons_zero, List.set_cons_succ])
      | (gi_at_call 44; refine (callsIn_wide.2 (HDg.out _)).mono ?_; rintro e A2 ⟨rfl, hb2⟩)
      | ((with_reducible show wpListIn _ _ _ _ _ (Oper.mk _ (Op.store 34 (.tmp 2) (.tmp 35)) _ _ _ _ :: _) _ _); refine wpListIn_store_Row rfl 34 (.tmp 2) (.tmp 35) rfl (u8s (sumN cs)) rfl rfl (HrR.out.later hb2) (by rw [HSl2.out]; exact size34) (by rw [HSl2.out]; rfl) HSo.out ?_; simp only [Act.put]))
    have hKE := (hb2.block D (Array.getElem?_eq_some_iff.1 hKD).1).trans hKD
    have hKF : (A2.setCells w.heap.size 0 (u8s (sumN cs))).heap[D]? = some (.deferred (some [])) := by
      rw [heap_setCells_other (by omega)]; exact hKE
    refine ⟨by simp, .inl ⟨_, _, rfl, run_takeDeferred hKF, ?_⟩⟩
    have hR3 := ((HrR.out.later hb2).sets_all (vs := u8s (sumN cs)) (by rw [HSl2.out]; rfl))
    refine ⟨_, results_Row rfl rfl ((World.putObj_heap_other (by omega)).trans hR3) Tryd.underlying34 (by rw [HSl2.out]; exact size34), rfl, ?_⟩
    exact (below_setCells (Nat.le_refl _) _ _ (hB.trans (hb2.mono (by have := hB.size; omega)))).trans (below_putObj _ _ (by omega))
  case stop =>
    rintro D c pre A hD _ h hKD
    exact h.elim

/-- Running.Sum -/
theorem rsum_any (B : Nat) (cs : List Nat) (hcl : cs.length ≤ 100000) (hz : ∀ z ∈ cs, z < 256) (w : World) (hT : Tab w) (hR : RunAt w B cs) :
    Calls Tryd.prog 35 #[.pointer (some ⟨B, 0, none⟩)] w fun e w' => e = .returned (.agg (u8s (sumN cs)).toArray) ∧ Below w.heap.size w w' :=
  callsIn_wide.1 (rsum_in 8 (Nat.le_refl _) B cs hcl hz w hT hR)
end Go.Proofs.YtkpjbleogjmbjaaDoor.Sh
