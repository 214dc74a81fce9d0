/-
  Several texts in one: ShRSum, ShMac1, ShMac2.
-/
import Derived.Test.YtclelancbfoenaaGreatDoorBaseAll
import Derived.Test.YtclelancbfoenaaGreatDoorShMore
import Derived.Test.YtclelancbfoenaaGreatDoorTapeAll
import Derived.Test.YtclelancbfoenaaGreatDoorArgs
import Derived.Laws.BitsAllLaws
/-
  What a running sum's Begin and Sum answer: a sum of nothing yet; the sum of all that was taken in. Nothing that lay before the call has turned.
-/
namespace Go.Proofs.YtclelancbfoenaaGreatDoor.Sh
open Go.RowKit Go.Shelf
attribute [local go_sem] Oper.semAt_some

theorem first8_cells : u32s first8.list = [.int .u32 1779033703, .int .u32 3144134277, .int .u32 1013904242, .int .u32 2773480762, .int .u32 1359893119, .int .u32 2600822924, .int .u32 528734635, .int .u32 1541459225] := rfl

theorem wpList_build_as {P : Program} {ops : Array Oper} {rest : List Oper} {o : Oper} {a : Act} {w : World} {Q : Exit → Act → World → Prop} (hg : o.guard = none) (t : TypeId) (parts : Array (Nat × Operand)) (ho : o.op = .build t parts) (vs : List (Nat × Value)) (hv : (parts.map fun (i, x) => (i, a.eval x)).toList = vs)
    (cells : Array Value) (hf : P.built t vs = some cells) (h : wpList P ops Q rest (a.put o.dst (.agg cells)) w) : wpList P ops Q (o :: rest) a w := by
  refine wpList_build hg t parts ho (by rw [hv, hf]; rfl) ?_
  rw [hv, hf]
  exact h

theorem built63 : Tryz.prog.built 149 [(0, .bool true), (1, .agg (u32s first8.list).toArray)] = some (runCells (u32s first8.list) (List.replicate 64 (.int .u8 0)) 0).toArray := by kernel_rfl

set_option maxRecDepth 100000 in
set_option maxHeartbeats 1000000 in
/-- Begin -/
theorem begin_any (w : World) : Calls Tryz.prog 87 #[] w fun e w' => ∃ B, e = .returned (.pointer (some ⟨B, 0, none⟩)) ∧ w.heap.size ≤ B ∧ RunAt w' B [] ∧ Below w.heap.size w w' := by
  have HB := built63
  have HF : Hid (∀ w, Calls Tryz.prog 83 #[] w fun e w' => e = .returned (.agg (u32s first8.list).toArray) ∧ Below w.heap.size w w') := firstWords_any
  obtain ⟨f8, hf8⟩ : ∃ f8, f8 = u32s first8.list := ⟨_, rfl⟩
  rw [← hf8] at HF HB
  have HF8 : Hid (f8 = u32s first8.list) := hf8
  obtain ⟨Z, hZ⟩ : ∃ Z, Z = runCells f8 (List.replicate 64 (.int .u8 0)) 0 := ⟨_, rfl⟩
  rw [← hZ] at HB
  have HBu : Hid (Tryz.prog.built 149 [(0, .bool true), (1, .agg f8.toArray)] = some Z.toArray) := HB
  have HZ : Hid (Z = runCells f8 (List.replicate 64 (.int .u8 0)) 0) := hZ
  clear hf8 hZ HB
  go_enter Tryz.func87, Tryz.ntmps87
  go_wp2_with (first
    | (go_at_call 83; refine (HF.out _).mono ?_; rintro e w1 ⟨rfl, hb1⟩)
    | ((with_reducible show wpList _ _ _ (Oper.mk _ (Op.build 149 _) _ _ _ _ :: _) _ _); refine wpList_build_as rfl 149 _ rfl [(0, .bool true), (1, .agg f8.toArray)] (by simp only [List.map_toArray, List.map_cons, List.map_nil]; rfl) Z.toArray HBu.out ?_; simp only [Act.put, List.setIfInBounds_toArray, List.set_cons_zero, List.set_cons_succ]))
  go_ret
  refine ⟨w1.heap.size, rfl, hb1.size, ⟨f8, List.replicate 64 (.int .u8 0), ⟨HF8.out, rfl, rfl⟩, ?_⟩, hb1.alloc hb1.size _⟩
  have h := Row.new' w1 149 Z
  rw [HZ.out] at h ⊢
  exact h

/-- The bytes that wait. -/
theorem rest_bytes {W : World} {B : Nat} {s R : List Value} {cs : List Nat} (hok : RunOk s R cs) (hr : Row W B 149 (runCells s R cs.length)) (hz : ∀ z ∈ cs, z < 256) : IsBytes W.heap.size W (some ⟨B, 9, none⟩) (cs.length % 64) 64 (cs.drop (64 * (cs.length / 64))) := by
  refine ⟨by simp; omega, by omega, by omega, fun z h => hz z (List.mem_of_mem_drop h), .inr ⟨B, 9, rfl, hr.lt, fun i hi => ?_⟩⟩
  refine runCells_rest hok.len hr i _ ?_
  have h := congrArg (fun l => l[i]?) hok.2.2
  simp only [List.getElem?_take, hi, if_true] at h
  rw [h, u8s_at (by simp; omega)]

theorem _root_.Go.Proofs.YtclelancbfoenaaGreatDoor.Row.newB (W : World) (o : Obj) (t : TypeId) (c : Array Value) : Row ((W.alloc o).alloc (.cells c t)) (W.heap.size + 1) t c.toList := by
  have := Row.new (W.alloc o) t c
  rwa [World.size_alloc] at this
theorem wpListIn_load_mid {F : Fence} {n : Nat} {P : Program} {ops : Array Oper} {rest : List Oper} {o : Oper} {a : Act} {w : World} {Q : Exit → Act → World → Prop} (hgd : o.guard = none) (ty : TypeId) (x : Operand) (ho : o.op = .load ty x)
    (g off : Nat) (hx : a.eval x = .pointer (some ⟨g, off, none⟩)) (cs : List Value) (hg : w.rangeAt g off cs) {m : Nat} {e : TypeId} (hu : P.underlying ty = some (.array m e)) (hi : (P.info? ty).map (·.size) = some cs.length)
    (h : wpListIn F n P ops Q rest (a.put o.dst (.agg cs.toArray)) w) : wpListIn F n P ops Q (o :: rest) a w := by
  refine wpListIn_plain hgd fun K hK => ?_
  unfold Oper.wpIn
  refine ⟨by simp [Oper.about, ho], ?_⟩
  rw [Oper.semAt_plain F _ _ (by rw [ho]; intro c hc; cases hc)]
  simp only [execOp, ho, hx, Instr.loadAt, Instr.sureAddr, Sem.run_bind, Sem.run_pure, Result.andThen_ok, run_loadVar_mid w g off ty cs _ hg hu rfl hi]
  exact hK _ _ h

set_option maxRecDepth 100000 in
set_option maxHeartbeats 2000000 in
theorem rsum_in (n : Nat) (hn : 8 ≤ n) (B : Nat) (cs : List Nat) (hcl : cs.length ≤ 100000) (hz : ∀ z ∈ cs, z < 256) (w : World) (hT : Tab w) (hR : RunAt w B cs) :
    CallsIn Fence.wide n Tryz.prog 75 #[.pointer (some ⟨B, 0, none⟩)] w fun e w' => e = .returned (.agg (u8s (sumN cs)).toArray) ∧ Below w.heap.size w w' := by
  have h1 : 1 ≤ n := by omega
  have hfn : ∀ f, Fence.wide.fn f := fun _ => trivial
  have HT : Hid (Tab w) := hT
  have hBl := hR.lt
  obtain ⟨s, R, hok, hrow⟩ := hR
  have HOK : Hid (RunOk s R cs) := hok
  have HRow : Hid (Row w B 149 (runCells s R cs.length)) := hrow
  have HZ : Hid (∀ z ∈ cs, z < 256) := hz
  have c0 := hrow.cell (runCells_0 _ _ _)
  have c0' := fun o => (hrow.alloc o).cell (runCells_0 _ _ _)
  obtain ⟨m, hm⟩ : ∃ m, m = cs.length := ⟨_, rfl⟩
  have HM : Hid (m = cs.length) := hm
  have hmb : m ≤ 100000 := by omega
  have HSl : Hid (s.length = 8) := hok.len
  have HS1 : Hid (∀ v ∈ s, v.oneCell' = true) := by rw [hok.1]; exact u32s_one _
  clear hT hok hrow hz hm hcl
  refine callsIn_of_wp_marks Tryz.func75 rfl trivial ?_ rfl
  simp only [Tryz.ntmps75, List.size_toArray, List.length_cons, List.length_nil, Nat.reduceAdd, Nat.reduceSub, Array.replicate_succ, Array.replicate_zero, List.push_toArray, List.append_toArray, List.nil_append, List.cons_append]
  gi_wp2_with (first
    | ((with_reducible show wpListIn _ _ _ _ _ (Oper.mk _ (Op.load 139 (.tmp 17)) _ _ _ _ :: _) _ _); refine wpListIn_load_mid rfl 139 (.tmp 17) rfl B 1 rfl s (runCells_words (HRow.out.alloc _)) Tryz.underlying139 (by rw [HSl.out]; exact size139) ?_; simp only [Act.put, List.setIfInBounds_toArray, List.set_cons_zero, List.set_cons_succ])
    | ((with_reducible show wpListIn _ _ _ _ _ (Oper.mk _ (Op.store 139 (.tmp 3) (.tmp 18)) _ _ _ _ :: _) _ _); refine wpListIn_store_Row rfl 139 (.tmp 3) (.tmp 18) rfl s rfl rfl (Row.newB _ _ _ _) (by rw [HSl.out]; exact size139) (by rw [HSl.out]; rfl) HS1.out ?_; simp only [Act.put]))
  rw [z32u8, z8u32]
  have rR : Row (((w.alloc (.cells (List.replicate 32 (Value.int .u8 0)).toArray 39)).alloc (.cells (List.replicate 8 (Value.int .u32 0)).toArray 139)).setCells (w.heap.size + 1) 0 s) w.heap.size 39 (List.replicate 32 (.int .u8 0)) := Row.others (by omega) _ _ ((Row.new' w 39 _).alloc _)
  have rH : Row (((w.alloc (.cells (List.replicate 32 (Value.int .u8 0)).toArray 39)).alloc (.cells (List.replicate 8 (Value.int .u32 0)).toArray 139)).setCells (w.heap.size + 1) 0 s) (w.heap.size + 1) 139 s := Row.sets_all (Row.newB _ _ _ _) (by rw [HSl.out]; rfl)
  have hbA : Below w.heap.size w (((w.alloc (.cells (List.replicate 32 (Value.int .u8 0)).toArray 39)).alloc (.cells (List.replicate 8 (Value.int .u32 0)).toArray 139)).setCells (w.heap.size + 1) 0 s) := below_setCells (by omega) _ _ (((Below.refl _ w).alloc (Nat.le_refl _) _).alloc (by simp) _)
  have hsA : (((w.alloc (.cells (List.replicate 32 (Value.int .u8 0)).toArray 39)).alloc (.cells (List.replicate 8 (Value.int .u32 0)).toArray 139)).setCells (w.heap.size + 1) 0 s).heap.size = w.heap.size + 2 := by rw [size_setCells, World.size_alloc, World.size_alloc]
  generalize (((w.alloc (.cells (List.replicate 32 (Value.int .u8 0)).toArray 39)).alloc (.cells (List.replicate 8 (Value.int .u32 0)).toArray 139)).setCells (w.heap.size + 1) 0 s) = w2 at *
  have HRow2 : Hid (Row w2 B 149 (runCells s R cs.length)) := HRow.out.later hbA
  have c73 := HRow2.out.cell (runCells_73 cs.length HOK.out.len HOK.out.2.1)
  rw [← HM.out] at c73
  have HHeld : Hid (∀ W : World, W.cell? ⟨B, 73, none⟩ = some (.int .u64 (m : Nat)) → Calls Tryz.prog 88 #[.pointer (some ⟨B, 0, none⟩)] W fun e w' => e = .returned (.int .i64 (m % 64 : Nat)) ∧ w' = W) := fun W hc => held_any B m (by omega) W hc
  have hm64 : m % 64 < 64 := by omega
  have hm64i : ((m % 64 : Nat) : Int) ≤ 64 := by omega
  clear c0 c0'
  generalize hh : m % 64 = h at *
  have HH : Hid (m % 64 = h) := hh
  clear hh
  refine wpIn_region_on_wide (S := fun W' => W'.cell? ⟨B, 73, none⟩ = some (.int .u64 (m : Nat))) (by kernel_rfl) (by kernel_rfl) c73 (fun hHeld => ?_)
  refine wpAnyH_takesAt 0 4 7 (of_decide_eq_true (by kernel_rfl)) rfl (fun _ _ _ _ _ h => h) (by kernel_rfl) (by kernel_rfl) hHeld ?_
  simp only [List.drop_zero, List.take_succ_cons, List.take_zero]
  iterate 4 (refine wpHeld_step (v := ?_) (by rfl) (fun wz hSw => ?_) ?_; rotate_left; (focus ((try dsimp only at hSw); go_simp; try with_reducible rfl)); (simp only [Act.put, List.setIfInBounds_toArray, List.set_cons_zero, List.set_cons_succ]))
  refine wpHeld_nil ?_
  refine wpAnyH_takesAt 6 4 3 (of_decide_eq_true (by kernel_rfl)) rfl (fun _ _ _ _ _ h => h) (by kernel_rfl) (by kernel_rfl) hHeld ?_
  simp only [List.drop_succ_cons, List.drop_zero, List.take_succ_cons, List.take_zero]
  iterate 4 (refine wpHeld_step (v := ?_) (by rfl) (fun wz hSw => ?_) ?_; rotate_left; (focus ((try dsimp only at hSw); go_simp; try with_reducible rfl)); (simp only [Act.put, List.setIfInBounds_toArray, List.set_cons_zero, List.set_cons_succ]))
  refine wpHeld_nil ?_
  refine wpAnyH_only (i := 4) (by kernel_rfl) rfl (fun K hK => ?_)
  rw [if_pos (by rfl)]
  go_simp
  refine (HHeld.out w2.drew c73).mono ?_
  rintro e w3 ⟨rfl, rfl⟩
  refine hK.out _ _ hHeld ?_
  clear hK K
  refine wpAnyH_takesAt 5 1 1 (of_decide_eq_true (by kernel_rfl)) rfl (fun _ _ _ _ _ h => h) (by kernel_rfl) (by kernel_rfl) hHeld ?_
  simp only [List.drop_succ_cons, List.drop_zero, List.take_succ_cons, List.take_zero]
  iterate 1 (refine wpHeld_step (v := ?_) (by rfl) (fun wz hSw => ?_) ?_; rotate_left; (focus ((try dsimp only at hSw); go_simp; try with_reducible rfl)); (simp only [Act.put, List.setIfInBounds_toArray, List.set_cons_zero, List.set_cons_succ]))
  refine wpHeld_nil ?_
  refine wpAnyH_only (i := 10) (by kernel_rfl) rfl (fun K hK => ?_)
  rw [if_pos (by rfl)]
  go_simp
  refine (callsIn_wide.1 (last_in 8 (.slice (some ⟨B, 9, none⟩) h 64) m w2.drew rfl)).mono ?_
  rintro e w3 ⟨rfl, rfl⟩
  refine hK.out _ _ (((HRow2.out.drew.alloc _).alloc _).cell (by rw [HM.out]; exact runCells_73 cs.length HOK.out.len HOK.out.2.1)) ?_
  clear hK K
  refine wpAnyH_done (by kernel_rfl) ?_ _
  refine OnOnly.on ?_
  have hs4 : ((w2.drew.alloc (Obj.cells #[Value.slice (some ⟨B, 9, none⟩) h 64] 24)).alloc (Obj.cells #[Value.int IntKind.u64 (m : Nat)] 90)).heap.size = w2.heap.size + 2 := by simp
  have H4 : Hid (Row ((w2.drew.alloc (Obj.cells #[Value.slice (some ⟨B, 9, none⟩) h 64] 24)).alloc (Obj.cells #[Value.int IntKind.u64 (m : Nat)] 90)) (w.heap.size + 1) 139 s ∧ Row ((w2.drew.alloc (Obj.cells #[Value.slice (some ⟨B, 9, none⟩) h 64] 24)).alloc (Obj.cells #[Value.int IntKind.u64 (m : Nat)] 90)) w.heap.size 39 (List.replicate 32 (.int .u8 0)) ∧ Below w.heap.size w ((w2.drew.alloc (Obj.cells #[Value.slice (some ⟨B, 9, none⟩) h 64] 24)).alloc (Obj.cells #[Value.int IntKind.u64 (m : Nat)] 90)) ∧ Row ((w2.drew.alloc (Obj.cells #[Value.slice (some ⟨B, 9, none⟩) h 64] 24)).alloc (Obj.cells #[Value.int IntKind.u64 (m : Nat)] 90)) w2.heap.size 24 [.slice (some ⟨B, 9, none⟩) h 64] ∧ Row ((w2.drew.alloc (Obj.cells #[Value.slice (some ⟨B, 9, none⟩) h 64] 24)).alloc (Obj.cells #[Value.int IntKind.u64 (m : Nat)] 90)) (w2.heap.size + 1) 90 [.int .u64 (m : Nat)] ∧ Row ((w2.drew.alloc (Obj.cells #[Value.slice (some ⟨B, 9, none⟩) h 64] 24)).alloc (Obj.cells #[Value.int IntKind.u64 (m : Nat)] 90)) B 149 (runCells s R cs.length)) :=
    ⟨(rH.drew.alloc _).alloc _, (rR.drew.alloc _).alloc _, (hbA.drew.alloc (by show _ ≤ w2.heap.size; omega) _).alloc (by simp; omega) _, (Row.new w2.drew 24 _).alloc _, Row.newB w2.drew _ 90 _, (HRow2.out.drew.alloc _).alloc _⟩
  clear rR rH hbA HRow2 c73 hHeld HRow
  generalize ((w2.drew.alloc (Obj.cells #[Value.slice (some ⟨B, 9, none⟩) h 64] 24)).alloc (Obj.cells #[Value.int IntKind.u64 (m : Nat)] 90)) = w4 at *
  rw [show w2.drew.heap.size = w2.heap.size from rfl]
  gi_wp2
  have HF0 : Hid (s = u32s (wordsN (fullL cs (m / 64))).list) := by have h := HOK.out.1; rw [← HM.out] at h; exact h
  have HBlk : Hid (fullL cs (m / 64) ++ lastL (cs.drop (64 * (m / 64))) m = blocksL cs) := by show _ = _; rw [blocksL, ← HM.out]
  have HWsn : Hid (∀ (pre : List (List Nat)) (x : List Nat), wordsN (fullL cs (m / 64) ++ (pre ++ [x])) = compressN (wordsN (fullL cs (m / 64) ++ pre)) x) := fun pre x => by rw [← List.append_assoc, wordsN_snoc]
  have HIr : Hid (IsBytes w4.heap.size w4 (some ⟨B, 9, none⟩) h 64 (cs.drop (64 * (m / 64)))) := by
    have h := rest_bytes HOK.out H4.out.2.2.2.2.2 HZ.out
    rw [← HM.out, HH.out] at h
    exact h
  have HOkL : Hid (h < 64) := hm64
  clear HOK HHeld
  refine wpIn_rangeFunc_arr rfl h1 (gf := 98) (lb := #[.pointer (some ⟨w2.heap.size, 0, none⟩), .pointer (some ⟨w2.heap.size + 1, 0, none⟩)]) rfl trivial (enters_of Tryz.func98 (by kernel_rfl) rfl)
    (encs := fun x : List Nat => #[.agg (u8s x).toArray]) (Ok := fun x _ => BlockOk x) (Kp := KpM (fun k => k = w.heap.size + 1) (w4.heap.size + 2)) (S := fun xs => xs = lastL (cs.drop (64 * (m / 64))) m) (Sp := fun pre => ∃ r, pre ++ r = lastL (cs.drop (64 * (m / 64))) m) (N := 2)
    (fun W' hs hb => last1_iter (n - 1) (by omega) _ w2.heap.size (w2.heap.size + 1) m (some ⟨B, 9, none⟩) h 64 (cs.drop (64 * (m / 64))) HOkL.out W' (HIr.out.later hb) ((H4.out.2.2.2.1.later hb).cell (i := 0) rfl) (H4.out.2.2.2.2.1.later hb) (fun k => k = w.heap.size + 1) _ (fun _ _ h => h.1) (fun j hj => by omega) (by omega))
    KpM.trans (fun A o o' ho hc => KpM.record (by omega) o' ho hc) KpM.of_below (fun _ => rfl) 86 (fun x => u8s x)
    (fun pre A => Row A (w.heap.size + 1) 139 (u32s (wordsN (fullL cs (m / 64) ++ pre)).list) ∧ Row A w.heap.size 39 (List.replicate 32 (.int .u8 0)) ∧ Below w.heap.size w A)
    (fun _ _ _ => False)
    (Low.and (low_row (by omega) _) (Low.and (low_row (by omega) _) (low_below w (by omega))))
    (fun _ _ _ _ h _ => h)
    (fun _ _ _ h _ => h)
    ⟨by rw [List.append_nil, ← HF0.out]; exact H4.out.1, H4.out.2.1, H4.out.2.2.1⟩
    (fun x A => { tmps := #[.pointer (some ⟨B, 0, none⟩), undef, .pointer (some ⟨w.heap.size, 0, none⟩), .pointer (some ⟨w.heap.size + 1, 0, none⟩), .pointer (some ⟨A.heap.size, 0, none⟩), .pointer (some ⟨B, 0, none⟩), .bool false, .bool false, .pointer (some ⟨B, 0, none⟩), .pointer (some ⟨B, 0, none⟩), .pointer (some ⟨B, 0, none⟩), .bool true, .bool false, .bool false, undef, .pointer (some ⟨B, 0, none⟩), .pointer (some ⟨B, 0, none⟩), .pointer (some ⟨B, 1, none⟩), .agg s.toArray, .pointer (some ⟨B, 0, none⟩), .pointer (some ⟨B, 0, none⟩), .pointer (some ⟨B, 9, none⟩), .pointer (some ⟨B, 0, none⟩), .int .i64 h, .slice (some ⟨B, 9, none⟩) h 64, .pointer (some ⟨B, 0, none⟩), .pointer (some ⟨B, 0, none⟩), .pointer (some ⟨B, 73, none⟩), .int .u64 m, .func (.func 98) #[] #[.pointer (some ⟨w2.heap.size, 0, none⟩), .pointer (some ⟨w2.heap.size + 1, 0, none⟩)], .agg (u8s x).toArray, undef, undef, undef, undef, undef], defers := [] }) ?assign ?body ?done ?stop
  case assign =>
    intro li x A K hok hK
    clear hsA hs4
    have HXL : Hid ((u8s x).length = 64) := by show _ = _; rw [u8s_length]; exact hok.1
    have HX1 : Hid (∀ v ∈ u8s x, v.oneCell' = true) := u8s_one x
    have HK : Hid (∀ W', Below A.heap.size A W' → Row W' A.heap.size 86 (u8s x) → K _ W') := hK
    clear hK
    generalize u8s x = V at *
    gi_wp2_with ((with_reducible show wpListIn _ _ _ _ _ (Oper.mk _ (Op.store 86 (.tmp 4) (.tmp 30)) _ _ _ _ :: _) _ _); refine wpListIn_store_Row rfl 86 (.tmp 4) (.tmp 30) rfl V rfl rfl (Row.new _ _ _) (by rw [HXL.out]; exact size86') (by rw [HXL.out]; rfl) HX1.out ?_; simp only [Act.put])
    exact HK.out _ (below_setCells (Nat.le_refl _) _ _ ((Below.refl _ A).alloc (Nat.le_refl _) _)) (Row.sets_all (Row.new _ _ _) (by rw [HXL.out]; rfl))
  case body =>
    rintro li pre x A₀ A ⟨hrH, hrR, hB⟩ hok hN hle hrow
    have HC : Hid (∀ A, Tab A → Calls Tryz.prog 85 #[.agg (u32s (wordsN (fullL cs (m / 64) ++ pre)).list).toArray, .agg (u8s x).toArray] A fun e w' => e = .returned (.agg (u32s (wordsN (fullL cs (m / 64) ++ (pre ++ [x]))).list).toArray) ∧ Below A.heap.size A w') := fun A hT => by
      rw [HWsn.out]; exact compress_any _ (wordsN_ok _) x hok.1 hok.2 A hT
    have HXL : Hid ((u8s x).length = 64) := by show _ = _; rw [u8s_length]; exact hok.1
    have HRow : Hid (Row A A₀.heap.size 86 (u8s x)) := hrow
    have HrH : Hid (Row A (w.heap.size + 1) 139 (u32s (wordsN (fullL cs (m / 64) ++ pre)).list)) := hrH
    have HrR : Hid (Row A w.heap.size 39 (List.replicate 32 (.int .u8 0))) := hrR
    have HHl : Hid ((u32s (wordsN (fullL cs (m / 64) ++ pre)).list).length = 8) := by show _ = _; rw [u32s_length, St.list_length]
    have HHl2 : Hid ((u32s (wordsN (fullL cs (m / 64) ++ (pre ++ [x]))).list).length = 8) := by show _ = _; rw [u32s_length, St.list_length]
    have HH2o : Hid (∀ v ∈ u32s (wordsN (fullL cs (m / 64) ++ (pre ++ [x]))).list, v.oneCell' = true) := u32s_one _
    clear hrow hrH hrR
    generalize u8s x = V at *
    generalize hS2 : u32s (wordsN (fullL cs (m / 64) ++ (pre ++ [x]))).list = S2 at *
    have HS2 : Hid (u32s (wordsN (fullL cs (m / 64) ++ (pre ++ [x]))).list = S2) := hS2
    clear hS2
    generalize u32s (wordsN (fullL cs (m / 64) ++ pre)).list = S1 at *
    gi_wp2_with (first
      | ((with_reducible show wpListIn _ _ _ _ _ (Oper.mk _ (Op.load 139 (.tmp 3)) _ _ _ _ :: _) _ _); refine wpListIn_load_Row rfl 139 (.tmp 3) rfl rfl HrH.out Tryz.underlying139 (by rw [HHl.out]; exact size139) ?_; simp only [Act.put, List.setIfInBounds_toArray, List.set_cons_zero, List.set_cons_succ])
      | ((with_reducible show wpListIn _ _ _ _ _ (Oper.mk _ (Op.load 86 (.tmp 4)) _ _ _ _ :: _) _ _); refine wpListIn_load_Row rfl 86 (.tmp 4) rfl rfl HRow.out Tryz.underlying86 (by rw [HXL.out]; exact size86') ?_; simp only [Act.put, List.setIfInBounds_toArray, List.set_cons_zero, List.set_cons_succ]))
    refine ⟨fun _ => by omega, (CallsIn.inRound li (callsIn_wide.2 (HC.out _ (HT.out.below hB HT.out.pos)))).mono ?_⟩
    rintro e A2 ⟨rfl, hb2⟩
    gi_wp2_with ((with_reducible show wpListIn _ _ _ _ _ (Oper.mk _ (Op.store 139 (.tmp 3) (.tmp 33)) _ _ _ _ :: _) _ _); refine wpListIn_store_Row rfl 139 (.tmp 3) (.tmp 33) rfl S2 rfl rfl (HrH.out.later hb2) (by rw [HHl2.out]; exact size139) (by rw [HHl2.out, HHl.out]) HH2o.out ?_; simp only [Act.put])
    have hkp : KpM (fun k => k = w.heap.size + 1) (w4.heap.size + 2) A (A2.setCells (w.heap.size + 1) 0 S2) := (KpM.of_below hb2).trans (KpM.sets (M := fun k => k = w.heap.size + 1) rfl _ _ _)
    have hkf : KpM (fun k => k = w.heap.size + 1) w4.heap.size A (A2.setCells (w.heap.size + 1) 0 S2) := (KpM.of_below hb2).trans (KpM.sets (M := fun k => k = w.heap.size + 1) rfl _ _ _)
    exact ⟨hkf.2, hkp, by rw [HS2.out]; exact (HrH.out.later hb2).sets_all (by rw [HHl2.out, HHl.out]), Row.others (by omega) _ _ (HrR.out.later hb2), below_setCells (by omega) _ _ (hB.trans (hb2.mono (by have := hB.size; omega)))⟩
  case done =>
    rintro D xs A hD rfl ⟨hrH, hrR, hB⟩ hKD
    rw [HBlk.out] at hrH
    have HDg : Hid (∀ A, Calls Tryz.prog 86 #[.agg (u32s (wordsN (blocksL cs)).list).toArray] A fun e w' => e = .returned (.agg (u8s (sumN cs)).toArray) ∧ Below A.heap.size A w') := fun A => digest_core _ (St.list_length _) (St.list_lt (wordsN_ok _)) A
    have HrH : Hid (Row A (w.heap.size + 1) 139 (u32s (wordsN (blocksL cs)).list)) := hrH
    have HrR : Hid (Row A w.heap.size 39 (List.replicate 32 (.int .u8 0))) := hrR
    have HHl : Hid ((u32s (wordsN (blocksL cs)).list).length = 8) := by show _ = _; rw [u32s_length, St.list_length]
    have HSl2 : Hid ((u8s (sumN cs)).length = 32) := by show _ = _; rw [u8s_length]; exact digestN_length _
    have HSo : Hid (∀ v ∈ u8s (sumN cs), v.oneCell' = true) := u8s_one _
    clear hrH hrR
    generalize u32s (wordsN (blocksL cs)).list = S1 at *
    gi_wp2_with (first
      | ((with_reducible show wpListIn _ _ _ _ _ (Oper.mk _ (Op.load 139 (.tmp 3)) _ _ _ _ :: _) _ _); refine wpListIn_load_Row rfl 139 (.tmp 3) rfl rfl HrH.out Tryz.underlying139 (by rw [HHl.out]; exact size139) ?_; simp only [Act.put, List.setIfInBounds_toArray, List.set_cons_zero, List.set_cons_succ])
      | (gi_at_call 86; refine (callsIn_wide.2 (HDg.out _)).mono ?_; rintro e A2 ⟨rfl, hb2⟩)
      | ((with_reducible show wpListIn _ _ _ _ _ (Oper.mk _ (Op.store 39 (.tmp 2) (.tmp 35)) _ _ _ _ :: _) _ _); refine wpListIn_store_Row rfl 39 (.tmp 2) (.tmp 35) rfl (u8s (sumN cs)) rfl rfl (HrR.out.later hb2) (by rw [HSl2.out]; exact size39) (by rw [HSl2.out]; rfl) HSo.out ?_; simp only [Act.put]))
    have hKE := (hb2.block D (Array.getElem?_eq_some_iff.1 hKD).1).trans hKD
    have hKF : (A2.setCells w.heap.size 0 (u8s (sumN cs))).heap[D]? = some (.deferred (some [])) := by
      rw [heap_setCells_other (by omega)]; exact hKE
    refine ⟨by simp, .inl ⟨_, _, rfl, run_takeDeferred hKF, ?_⟩⟩
    have hR3 := ((HrR.out.later hb2).sets_all (vs := u8s (sumN cs)) (by rw [HSl2.out]; rfl))
    refine ⟨_, results_Row rfl rfl ((World.putObj_heap_other (by omega)).trans hR3) Tryz.underlying39 (by rw [HSl2.out]; exact size39), rfl, ?_⟩
    exact (below_setCells (Nat.le_refl _) _ _ (hB.trans (hb2.mono (by have := hB.size; omega)))).trans (below_putObj _ _ (by omega))
  case stop =>
    rintro D c pre A hD _ h hKD
    exact h.elim

/-- Running.Sum -/
theorem rsum_any (B : Nat) (cs : List Nat) (hcl : cs.length ≤ 100000) (hz : ∀ z ∈ cs, z < 256) (w : World) (hT : Tab w) (hR : RunAt w B cs) :
    Calls Tryz.prog 75 #[.pointer (some ⟨B, 0, none⟩)] w fun e w' => e = .returned (.agg (u8s (sumN cs)).toArray) ∧ Below w.heap.size w w' :=
  callsIn_wide.1 (rsum_in 8 (Nat.le_refl _) B cs hcl hz w hT hR)
end Go.Proofs.YtclelancbfoenaaGreatDoor.Sh
/-
  HMAC on plain numbers; what mac.filledKey and mac.begun answer: the key, filled up to a block; a running sum that has taken in the filled key with the mark. Nothing that lay before a call has turned.
-/
namespace Go.Proofs.YtclelancbfoenaaGreatDoor.Sh
open Go Go.RowKit

/-- Filled up to 64 with noughts. -/
def fill64 (l : List Nat) : List Nat := l ++ List.replicate (64 - l.length) 0
/-- The key of a block. -/
def keyL (ks : List Nat) : List Nat := fill64 (if 64 < ks.length then sumN ks else ks)
def xorL (l : List Nat) (m : Nat) : List Nat := l.map (· ^^^ m)
/-- HMAC. -/
def macN (ks ts : List Nat) : List Nat := sumN (xorL (keyL ks) 92 ++ sumN (xorL (keyL ks) 54 ++ ts))

theorem byteBE_lt (l : List Nat) (j : Nat) : byteBE l j < 256 := Nat.mod_lt _ (by decide)
theorem sumN_lt (zs : List Nat) : ∀ z ∈ sumN zs, z < 256 := by
  intro z hz
  obtain ⟨i, _, rfl⟩ := List.mem_map.1 hz
  exact byteBE_lt _ _
theorem sumN_length (zs : List Nat) : (sumN zs).length = 32 := digestN_length _
theorem fill64_length (l : List Nat) (h : l.length ≤ 64) : (fill64 l).length = 64 := by simp [fill64]; omega
theorem fill64_lt (l : List Nat) (h : ∀ z ∈ l, z < 256) : ∀ z ∈ fill64 l, z < 256 := by
  intro z hz
  rcases List.mem_append.1 hz with h1 | h1
  · exact h z h1
  · have := (List.mem_replicate.1 h1).2; omega
theorem keyL_length (ks : List Nat) : (keyL ks).length = 64 := by
  unfold keyL
  split
  · exact fill64_length _ (by rw [sumN_length]; omega)
  · exact fill64_length _ (by omega)
theorem keyL_lt (ks : List Nat) (h : ∀ z ∈ ks, z < 256) : ∀ z ∈ keyL ks, z < 256 := by
  unfold keyL
  split
  · exact fill64_lt _ (sumN_lt _)
  · exact fill64_lt _ h
@[simp] theorem xorL_length (l : List Nat) (m : Nat) : (xorL l m).length = l.length := by simp [xorL]
theorem xorL_lt (l : List Nat) (m : Nat) (hm : m < 256) (h : ∀ z ∈ l, z < 256) : ∀ z ∈ xorL l m, z < 256 := by
  intro z hz
  obtain ⟨x, hx, rfl⟩ := List.mem_map.1 hz
  exact Nat.xor_lt_two_pow (n := 8) (h x hx) hm
theorem macN_length (ks ts : List Nat) : (macN ks ts).length = 32 := sumN_length _
theorem macN_lt (ks ts : List Nat) : ∀ z ∈ macN ks ts, z < 256 := sumN_lt _

theorem fill_u8s (l : List Nat) : fill 64 (.int .u8 0) (u8s l) = u8s (fill64 l) := by
  simp [fill, fill64, u8s]

set_option maxRecDepth 100000 in
set_option maxHeartbeats 2000000 in
/-- mac.filledKey -/
theorem filledKey_any (p : Option Addr) (len cap : Nat) (ks : List Nat) (hlen : len ≤ 60000) (w : World) (hT : Tab w) (hI : IsBytes w.heap.size w p len cap ks) :
    Calls Tryz.prog 72 #[.slice p len cap] w fun e w' => e = .returned (.agg (u8s (keyL ks)).toArray) ∧ Below w.heap.size w w' := by
  have HT : Hid (Tab w) := hT
  have HI : Hid (IsBytes w.heap.size w p len cap ks) := hI
  have HKl : Hid ((u8s (keyL ks)).length = 64) := by show _ = _; rw [u8s_length]; exact keyL_length ks
  have HK1 : Hid (∀ v ∈ u8s (keyL ks), v.oneCell' = true) := u8s_one _
  clear hT hI
  by_cases h64 : 64 < len
  · have h64i : (64 : Int) < (len : Int) := by omega
    have HKe : Hid (splice (List.replicate 64 (Value.int .u8 0)) 0 (u8s (sumN ks)) = u8s (keyL ks)) := by show _ = _; rw [splice_fill, fill_u8s, keyL, if_pos (by rw [HI.out.1]; exact h64)]
    have H11 : Hid (∀ W, Below w.heap.size w W → Calls Tryz.prog 70 #[.slice p len cap] W fun e w' => e = .returned (.agg (u8s (sumN ks)).toArray) ∧ Below W.heap.size W w') := fun W hb => sum_any p len cap ks hlen W (HT.out.later hb) (HI.out.later hb)
    have HSl : Hid ((u8s (sumN ks)).length = 32) := by show _ = _; rw [u8s_length]; exact sumN_length _
    have HSo : Hid (∀ v ∈ u8s (sumN ks), v.oneCell' = true) := u8s_one _
    generalize hKV : u8s (keyL ks) = KV at *
    have HKV : Hid (u8s (keyL ks) = KV) := hKV
    clear hKV
    generalize u8s (sumN ks) = SV at *
    go_enter Tryz.func72, Tryz.ntmps72
    go_wp2_with (first
      | (go_at_call 70; refine (H11.out _ (((Below.refl _ w).alloc (Nat.le_refl _) _).alloc (by simp) _)).mono ?_; rintro e w1 ⟨rfl, hb1⟩; have Hb1 : Hid (Below _ _ w1) := hb1; have hs1 : w.heap.size + 2 ≤ w1.heap.size := (by have h := hb1.size; simp only [World.size_alloc] at h; omega); clear hb1)
      | ((with_reducible show wpList _ _ _ (Oper.mk _ (Op.store 39 (.tmp 4) (.tmp 9)) _ _ _ _ :: _) _ _); refine wpList_store_Row rfl 39 (.tmp 4) (.tmp 9) rfl SV rfl rfl (Row.new _ _ _) (by rw [HSl.out]; exact size39) (by rw [HSl.out]; rfl) HSo.out ?_; simp only [Act.put])
      | ((with_reducible show wpList _ _ _ (Oper.mk (some 13) _ _ _ _ _ :: _) _ _); refine wpList_copy_splice rfl (.tmp 11) (.tmp 12) 24 24 rfl 5 Tryz.underlying24 size5 _ _ _ _ _ _ rfl rfl (w.heap.size + 1) 0 (List.replicate 64 (.int .u8 0)) 86 (Row.others (by omega) SV 0 (((Row.newB w _ 86 _).later Hb1.out).alloc _)) SV (by rw [HSl.out]; rfl) (fun _ => ⟨rfl, _, rfl, fun j v hj => by rw [Addr.add_mid, Nat.zero_add]; exact (Row.sets_all (vs := SV) (Row.new w1 39 _) (by rw [HSl.out]; rfl)).cell hj⟩) (by rw [HSl.out]; simp) HSo.out (w.heap.size + 1) _ (Below.refl _ _) (Nat.le_refl _) ?_; intro w2 HG2 hb2; rw [HKe.out] at HG2; have HR2 : Hid (Row w2 (w.heap.size + 1) 86 KV) := HG2; have HZ2 : Hid (Row w2 w.heap.size 86 (List.replicate 64 (.int .u8 0))) := (Row.below (Row.others (by omega) SV 0 ((((Row.new w 86 _).alloc _).later Hb1.out).alloc _)) hb2 (by omega)); have hb3 : Below w.heap.size w w2 := (below_setCells (by omega) SV 0 (((((Below.refl _ w).alloc (Nat.le_refl _) _).alloc (by simp) _).trans (Hb1.out.mono (by simp; omega))).alloc (by omega) _)).trans (hb2.mono (by omega)); clear hb2 HG2)
      | ((with_reducible show wpList _ _ _ (Oper.mk _ (Op.load 86 (.tmp 3)) _ _ _ _ :: _) _ _); refine wpList_load_Row rfl 86 (.tmp 3) rfl rfl HR2.out Tryz.underlying86 (by rw [HKl.out]; exact size86') ?_; simp only [Act.put, List.setIfInBounds_toArray, List.set_cons_zero, List.set_cons_succ])
      | ((with_reducible show wpList _ _ _ (Oper.mk _ (Op.store 86 (.tmp 2) (.tmp 14)) _ _ _ _ :: _) _ _); refine wpList_store_Row rfl 86 (.tmp 2) (.tmp 14) rfl KV rfl rfl HZ2.out (by rw [HKl.out]; exact size86') (by rw [HKl.out]; rfl) HK1.out ?_; simp only [Act.put]))
    refine bodyPost_ret (results_Row rfl rfl (Row.sets_all (vs := KV) HZ2.out (by rw [HKl.out]; rfl)) Tryz.underlying86 (by rw [HKl.out]; exact size86')) rfl ?_
    exact ⟨rfl, below_setCells (Nat.le_refl _) _ _ hb3⟩
  · have h64i : ¬ (64 : Int) < (len : Int) := by omega
    have HKe : Hid (splice (List.replicate 64 (Value.int .u8 0)) 0 (u8s ks) = u8s (keyL ks)) := by show _ = _; rw [splice_fill, fill_u8s, keyL, if_neg (by rw [HI.out.1]; exact h64)]
    have HSl : Hid ((u8s ks).length = len) := by show _ = _; rw [u8s_length]; exact HI.out.1
    have HSo : Hid (∀ v ∈ u8s ks, v.oneCell' = true) := u8s_one _
    have HSrc : Hid (∀ W, Below w.heap.size w W → 0 < (u8s ks).length → ∃ ad, p = some ad ∧ ∀ j v, (u8s ks)[j]? = some v → W.cell? (ad.add j) = some v) := fun W hb h0 => by
      rcases HI.out.2.2.2.2 with h | ⟨b, off, rfl, hbb, hc⟩
      · rw [HSl.out] at h0; omega
      · exact ⟨_, rfl, src_bytes HI.out.1 hc hbb hb⟩
    generalize hKV : u8s (keyL ks) = KV at *
    have HKV : Hid (u8s (keyL ks) = KV) := hKV
    clear hKV
    generalize u8s ks = SV at *
    go_enter Tryz.func72, Tryz.ntmps72
    go_wp2_with (first
      | ((with_reducible show wpList _ _ _ (Oper.mk (some 13) _ _ _ _ _ :: _) _ _); refine wpList_copy_splice rfl (.tmp 11) (.tmp 12) 24 24 rfl 5 Tryz.underlying24 size5 _ _ _ _ _ _ rfl rfl (w.heap.size + 1) 0 (List.replicate 64 (.int .u8 0)) 86 (Row.newB w _ 86 _) SV (by rw [HSl.out]; exact (Nat.min_eq_left (by omega)).symm) (fun h0 => ⟨rfl, HSrc.out _ (((Below.refl _ w).alloc (Nat.le_refl _) _).alloc (by simp) _) h0⟩) (by rw [HSl.out]; simp; omega) HSo.out (w.heap.size + 1) _ (Below.refl _ _) (Nat.le_refl _) ?_; intro w2 HG2 hb2; rw [HKe.out] at HG2; have HR2 : Hid (Row w2 (w.heap.size + 1) 86 KV) := HG2; have HZ2 : Hid (Row w2 w.heap.size 86 (List.replicate 64 (.int .u8 0))) := (Row.below ((Row.new w 86 _).alloc _) hb2 (by omega)); have hb3 : Below w.heap.size w w2 := (((Below.refl _ w).alloc (Nat.le_refl _) _).alloc (by simp) _).trans (hb2.mono (by omega)); clear hb2 HG2)
      | ((with_reducible show wpList _ _ _ (Oper.mk _ (Op.load 86 (.tmp 3)) _ _ _ _ :: _) _ _); refine wpList_load_Row rfl 86 (.tmp 3) rfl rfl HR2.out Tryz.underlying86 (by rw [HKl.out]; exact size86') ?_; simp only [Act.put, List.setIfInBounds_toArray, List.set_cons_zero, List.set_cons_succ])
      | ((with_reducible show wpList _ _ _ (Oper.mk _ (Op.store 86 (.tmp 2) (.tmp 14)) _ _ _ _ :: _) _ _); refine wpList_store_Row rfl 86 (.tmp 2) (.tmp 14) rfl KV rfl rfl HZ2.out (by rw [HKl.out]; exact size86') (by rw [HKl.out]; rfl) HK1.out ?_; simp only [Act.put]))
    refine bodyPost_ret (results_Row rfl rfl (Row.sets_all (vs := KV) HZ2.out (by rw [HKl.out]; rfl)) Tryz.underlying86 (by rw [HKl.out]; exact size86')) rfl ?_
    exact ⟨rfl, below_setCells (Nat.le_refl _) _ _ hb3⟩

/-- The first k bytes have the mark. -/
def markL (l : List Nat) (m k : Nat) : List Nat := xorL (l.take k) m ++ l.drop k
theorem markL_length (l : List Nat) (m k : Nat) : (markL l m k).length = l.length := by simp [markL]; omega
theorem markL_zero (l : List Nat) (m : Nat) : markL l m 0 = l := by simp [markL, xorL]
theorem markL_all (l : List Nat) (m : Nat) (k : Nat) (h : l.length ≤ k) : markL l m k = xorL l m := by simp [markL, List.take_of_length_le h, List.drop_eq_nil_of_le h]
theorem markL_at (l : List Nat) (m k : Nat) : (markL l m k).getD k 0 = l.getD k 0 := by
  unfold markL
  by_cases h : k < l.length
  · have hl : (xorL (l.take k) m).length = k := by simp; omega
    rw [List.getD_eq_getElem?_getD, List.getElem?_append_right (by omega), hl, List.getElem?_drop]
    simp
  · rw [List.drop_eq_nil_of_le (by omega), List.append_nil]
    simp [List.getElem?_eq_none (show (xorL (l.take k) m).length ≤ k by simp; omega), List.getElem?_eq_none (show l.length ≤ k by omega)]
theorem xorL_snoc (l : List Nat) (x m : Nat) : xorL (l ++ [x]) m = xorL l m ++ [x ^^^ m] := by simp [xorL]
theorem u8s_cons (x : Nat) (l : List Nat) : u8s (x :: l) = .int .u8 (x : Nat) :: u8s l := rfl
theorem markL_set (l : List Nat) (m k : Nat) (h : k < l.length) : (u8s (markL l m k)).set k (.int .u8 ((l.getD k 0 ^^^ m : Nat) : Int)) = u8s (markL l m (k + 1)) := by
  have hl : (xorL (l.take k) m).length = k := by simp; omega
  have e : l.getD k 0 = l[k] := by simp [List.getElem?_eq_getElem h]
  unfold markL
  rw [u8s_app, List.set_append_right _ _ (by rw [u8s_length]; omega), u8s_length, hl, Nat.sub_self, List.drop_eq_getElem_cons h, u8s_cons, List.set_cons_zero, List.take_succ_eq_append_getElem h, xorL_snoc, e, u8s_app, u8s_app, List.append_assoc]
  rfl

set_option maxRecDepth 100000 in
set_option maxHeartbeats 2000000 in
/-- mac.begun -/
theorem begun_any (ks : List Nat) (hl : ks.length = 64) (hz : ∀ z ∈ ks, z < 256) (m : Nat) (hm : m < 256) (w : World) (hT : Tab w) :
    Calls Tryz.prog 73 #[.agg (u8s ks).toArray, .int .u8 m] w fun e w' => ∃ B, e = .returned (.pointer (some ⟨B, 0, none⟩)) ∧ w.heap.size ≤ B ∧ RunAt w' B (xorL ks m) ∧ Below w.heap.size w w' := by
  have HT : Hid (Tab w) := hT
  have HL : Hid (ks.length = 64) := hl
  have HZ : Hid (∀ z ∈ ks, z < 256) := hz
  clear hT hl hz
  go_enter Tryz.func73, Tryz.ntmps73
  go_wp2
  have r0 := Row.new' w 86 (u8s ks)
  have hb0 : Below w.heap.size w (w.alloc (.cells (u8s ks).toArray 86)) := (Below.refl _ w).alloc (Nat.le_refl _) _
  generalize w.alloc (.cells (u8s ks).toArray 86) = w0 at *
  go_loopw [7] (fun i wr => ∃ k : Nat, k ≤ 64 ∧ i = .int .i64 k ∧ Row wr w.heap.size 86 (u8s (markL ks m k)) ∧ Below w.heap.size w wr)
    (fun i _ => 64 - (intOf i).toNat)
  case atStart => exact ⟨0, by omega, rfl, by rw [markL_zero]; exact r0, hb0⟩
  case round =>
    clear r0 hb0
    obtain ⟨k, hk, rfl, hrow, hbel⟩ := hrel
    by_cases hlt : k < 64
    · have hki : (k : Int) < 64 := by omega
      have cz := hrow.cell (u8s_at (l := markL ks m k) (i := k) (by rw [markL_length, HL.out]; omega))
      have fz := hrow.frozen k
      rw [markL_at] at cz
      have hx : ks.getD k 0 < 256 := all_getD (by decide) HZ.out k
      have HX := u8_xor_nat (ks.getD k 0) m hx hm
      have HS : Hid ((u8s (markL ks m k)).set k (.int .u8 ((ks.getD k 0 ^^^ m : Nat) : Int)) = u8s (markL ks m (k + 1))) := markL_set ks m k (by rw [HL.out]; omega)
      have HRow : Hid (Row wr w.heap.size 86 (u8s (markL ks m k))) := hrow
      clear hrow
      generalize ks.getD k 0 ^^^ m = y at *
      generalize ks.getD k 0 = x at *
      go_wp2
      go_roundw
      case rel =>
        have h := HRow.out.set k (.int .u8 (y : Int))
        rw [HS.out] at h
        exact ⟨k + 1, by omega, by go_num, h, hbel.setCell (p := ⟨w.heap.size, k, none⟩) (Nat.le_refl _) _⟩
      case measure => simp [intOf]; omega
    · obtain rfl : k = 64 := by omega
      rw [markL_all _ _ _ (by rw [HL.out]; omega)] at hrow
      have HRow : Hid (Row wr w.heap.size 86 (u8s (xorL ks m))) := hrow
      have hlr := hrow.lt
      clear hrow
      go_wp2_with (first
        | (go_at_call 87; refine (begin_any _).mono ?_; rintro e w2 ⟨B, rfl, hBs, hrun2, hb2⟩; have hb3 : Below w.heap.size w w2 := hbel.trans (hb2.mono hbel.size); have HRun2 : Hid (RunAt w2 B []) := hrun2; have HRow2 : Hid (Row w2 w.heap.size 86 (u8s (xorL ks m))) := HRow.out.later hb2; clear hrun2 hb2)
        | (go_at_call 74; refine (more_any B (by have := HT.out.pos; omega) [] (xorL ks m) _ 64 64 _ (HT.out.below hb3 HT.out.pos) HRun2.out ⟨by rw [xorL_length, HL.out], by omega, by omega, xorL_lt _ _ hm HZ.out, .inr ⟨w.heap.size, 0, rfl, HRow2.out.lt, fun i hi => by rw [Nat.zero_add]; exact HRow2.out.cell (u8s_at (by rw [xorL_length, HL.out]; exact hi))⟩⟩ (.inr (fun a ha => by cases ha; show w.heap.size ≠ B; omega)) (by simp) (by simp)).mono ?_; rintro e w4 ⟨⟨v4, rfl⟩, hrun4, hbut4⟩))
      go_ret
      exact ⟨B, rfl, by omega, hrun4, hb3.trans (hbut4.below (by have := hb3.size; omega) (by omega))⟩
end Go.Proofs.YtclelancbfoenaaGreatDoor.Sh
/-
  What mac.Sum answers: the HMAC of the parts, one behind the other. Nothing that lay before the call has turned.
-/
namespace Go.Proofs.YtclelancbfoenaaGreatDoor.Sh
open Go Go.RowKit

theorem flat_succ (ts : List (List Nat)) (k : Nat) (hk : k < ts.length) : (ts.take k).flatten ++ ts.getD k [] = (ts.take (k + 1)).flatten := by
  rw [List.take_succ_eq_append_getElem hk, List.flatten_append]
  simp [List.getElem?_eq_getElem hk]
theorem flat_lt {n₀ : Nat} {W : World} {p : Option Addr} {len cap : Nat} {ts : List (List Nat)} (h : IsLists n₀ W p len cap ts) : ∀ z ∈ ts.flatten, z < 256 := by
  intro z hz
  obtain ⟨t, ht, hzt⟩ := List.mem_flatten.1 hz
  obtain ⟨i, hi, rfl⟩ := List.mem_iff_getElem.1 ht
  rcases h.2.2 with h0 | ⟨b, off, _, _, hc⟩
  · have := h.1; omega
  · obtain ⟨q, l, c, _, hI⟩ := hc i (by have := h.1; omega)
    refine hI.2.2.2.1 z ?_
    simpa [List.getElem?_eq_getElem hi] using hzt

theorem flat_take_le (ts : List (List Nat)) (k : Nat) : (ts.take k).flatten.length ≤ ts.flatten.length := by
  have h := congrArg (fun l => l.flatten.length) (List.take_append_drop k ts)
  simp only [List.flatten_append, List.length_append] at h
  omega

set_option maxRecDepth 100000 in
set_option maxHeartbeats 400000 in
/-- mac.Sum -/
theorem macSum_any (p : Option Addr) (len cap : Nat) (ks : List Nat) (hlen : len ≤ 60000) (pp : Option Addr) (pl pc : Nat) (hpl : pl ≤ 1000) (ts : List (List Nat)) (hts : ts.flatten.length ≤ 50000) (w : World) (hT : Tab w) (hI : IsBytes w.heap.size w p len cap ks) (hL : IsLists w.heap.size w pp pl pc ts) :
    Calls Tryz.prog 57 #[.slice p len cap, .slice pp pl pc] w fun e w' => e = .returned (.agg (u8s (macN ks ts.flatten)).toArray) ∧ Below w.heap.size w w' := by
  have HT : Hid (Tab w) := hT
  have HL : Hid (IsLists w.heap.size w pp pl pc ts) := hL
  have HFz : Hid (∀ z ∈ ts.flatten, z < 256) := flat_lt hL
  have HTl : Hid (ts.length = pl) := hL.1
  have HKz : Hid (∀ z ∈ keyL ks, z < 256) := keyL_lt ks hI.2.2.2.1
  have HKn : Hid ((keyL ks).length = 64) := keyL_length ks
  have H34 : Hid (∀ W, Below w.heap.size w W → Calls Tryz.prog 72 #[.slice p len cap] W fun e w' => e = .returned (.agg (u8s (keyL ks)).toArray) ∧ Below W.heap.size W w') := fun W hb => filledKey_any p len cap ks hlen W (hT.later hb) (hI.later hb)
  have H35 : Hid (∀ (W : World) (m : Nat), m < 256 → Tab W → Calls Tryz.prog 73 #[.agg (u8s (keyL ks)).toArray, .int .u8 m] W fun e w' => ∃ B, e = .returned (.pointer (some ⟨B, 0, none⟩)) ∧ W.heap.size ≤ B ∧ RunAt w' B (xorL (keyL ks) m) ∧ Below W.heap.size W w') := fun W m hm hT => begun_any (keyL ks) HKn.out HKz.out m hm W hT
  have HKl : Hid ((u8s (keyL ks)).length = 64) := by show _ = _; rw [u8s_length]; exact HKn.out
  have HK1 : Hid (∀ v ∈ u8s (keyL ks), v.oneCell' = true) := u8s_one _
  obtain ⟨X, hX⟩ : ∃ X, X = xorL (keyL ks) 54 := ⟨_, rfl⟩
  have HXl : Hid (X.length = 64) := by show _ = _; rw [hX, xorL_length, HKn.out]
  have HXz : Hid (∀ z ∈ X, z < 256) := by rw [hX]; exact xorL_lt _ _ (by decide) HKz.out
  obtain ⟨Y, hY⟩ : ∃ Y, Y = xorL (keyL ks) 92 := ⟨_, rfl⟩
  have HYl : Hid (Y.length = 64) := by show _ = _; rw [hY, xorL_length, HKn.out]
  have HYz : Hid (∀ z ∈ Y, z < 256) := by rw [hY]; exact xorL_lt _ _ (by decide) HKz.out
  have HMac : Hid (macN ks ts.flatten = sumN (Y ++ sumN (X ++ ts.flatten))) := by show _ = _; rw [hX, hY, macN]
  have H35a : Hid (∀ W, Tab W → Calls Tryz.prog 73 #[.agg (u8s (keyL ks)).toArray, .int .u8 54] W fun e w' => ∃ B, e = .returned (.pointer (some ⟨B, 0, none⟩)) ∧ W.heap.size ≤ B ∧ RunAt w' B X ∧ Below W.heap.size W w') := fun W hT => by rw [hX]; exact H35.out W 54 (by omega) hT
  have H35b : Hid (∀ W, Tab W → Calls Tryz.prog 73 #[.agg (u8s (keyL ks)).toArray, .int .u8 92] W fun e w' => ∃ B, e = .returned (.pointer (some ⟨B, 0, none⟩)) ∧ W.heap.size ≤ B ∧ RunAt w' B Y ∧ Below W.heap.size W w') := fun W hT => by rw [hY]; exact H35.out W 92 (by omega) hT
  clear hT hI hL hX hY H35
  generalize u8s (keyL ks) = KV at *
  go_enter Tryz.func57, Tryz.ntmps57
  go_wp2_with (first
    | (go_at_call 72; refine (H34.out _ ((Below.refl _ w).alloc (Nat.le_refl _) _)).mono ?_; rintro e w1 ⟨rfl, hb1⟩; have hs1 : w.heap.size + 1 ≤ w1.heap.size := (by have h := hb1.size; rwa [World.size_alloc] at h); have HbA : Hid (Below w.heap.size w w1) := ((Below.refl _ w).alloc (Nat.le_refl _) _).trans (hb1.mono (by simp)); have HZ1 : Hid (Row w1 w.heap.size 39 (List.replicate 32 (.int .u8 0))) := (Row.new w 39 _).later hb1; clear hb1)
    | ((with_reducible show wpList _ _ _ (Oper.mk _ (Op.store 86 (.tmp 5) (.tmp 12)) _ _ _ _ :: _) _ _); refine wpList_store_Row rfl 86 (.tmp 5) (.tmp 12) rfl KV rfl rfl (Row.new _ _ _) (by rw [HKl.out]; exact size86') (by rw [HKl.out]; rfl) HK1.out ?_; simp only [Act.put])
    | ((with_reducible show wpList _ _ _ (Oper.mk _ (Op.load 86 (.tmp 5)) _ _ _ _ :: _) _ _); refine wpList_load_Row rfl 86 (.tmp 5) rfl rfl (Row.sets_all (Row.new w1 _ _) (by rw [HKl.out]; rfl)) Tryz.underlying86 (by rw [HKl.out]; exact size86') ?_; simp only [Act.put, List.setIfInBounds_toArray, List.set_cons_zero, List.set_cons_succ])
    | (go_at_call 73; refine (H35a.out _ (HT.out.below (below_setCells (by omega) _ _ (HbA.out.alloc HbA.out.size _)) HT.out.pos)).mono ?_; rintro e w2 ⟨B, rfl, hBs, hrun2, hb2⟩; have HRun2 : Hid (RunAt w2 B X) := hrun2; have Hb2 : Hid (Below _ _ w2) := hb2; have hBw : w1.heap.size + 1 ≤ B := (by rwa [size_setCells, World.size_alloc] at hBs); clear hrun2 hb2 hBs))
  have hb2 := Hb2.out
  have rZ2 : Row w2 w.heap.size 39 (List.replicate 32 (.int .u8 0)) := (Row.others (by omega) KV 0 (HZ1.out.alloc _)).later hb2
  have rK2 : Row w2 w1.heap.size 86 KV := (Row.sets_all (Row.new w1 _ _) (by rw [HKl.out]; rfl)).later hb2
  have hbB : Below w.heap.size w w2 := (below_setCells (by omega) _ _ (HbA.out.alloc HbA.out.size _)).trans (hb2.mono (by rw [size_setCells, World.size_alloc]; omega))
  clear hb2 Hb2 HZ1 HbA
  go_loopw [17] (fun i wr => ∃ k : Nat, k ≤ pl ∧ i = .int .i64 k ∧ RunAt wr B (X ++ (ts.take k).flatten) ∧ Row wr w.heap.size 39 (List.replicate 32 (.int .u8 0)) ∧ Row wr w1.heap.size 86 KV ∧ Below w.heap.size w wr)
    (fun i _ => pl - (intOf i).toNat)
  case atStart => exact ⟨0, Nat.zero_le _, rfl, by simpa using HRun2.out, rZ2, rK2, hbB⟩
  case round =>
    clear rZ2 rK2 hbB HRun2
    obtain ⟨k, hk, rfl, hrun, hrZ, hrK, hbel⟩ := hrel
    have hsz := hbel.size
    by_cases hlt : k < pl
    · have hki : (k : Int) < (pl : Int) := by omega
      obtain ⟨b, off, rfl, hb, hcell⟩ : ∃ b off, pp = some ⟨b, off, none⟩ ∧ b < w.heap.size ∧ ∀ i, i < pl → ∃ q l c, wr.cell? ⟨b, off + i, none⟩ = some (.slice q l c) ∧ IsBytes w.heap.size wr q l c (ts.getD i []) := by
        rcases (HL.out.below hbel).2.2 with h | h
        · omega
        · exact h
      obtain ⟨q1, l1, c1, hc1, hI1⟩ := hcell k hlt
      have HFs : Hid ((X ++ (ts.take k).flatten) ++ ts.getD k [] = X ++ (ts.take (k + 1)).flatten) := by show _ = _; rw [List.append_assoc, flat_succ ts k (by rw [HTl.out]; exact hlt)]
      have hl1 := flat_take_le ts (k + 1)
      have hl2 := congrArg List.length HFs.out
      simp only [List.length_append, hI1.1, HXl.out] at hl2
      have HM : Hid (Calls Tryz.prog 74 #[.pointer (some ⟨B, 0, none⟩), .slice q1 l1 c1] wr fun e w' => (∃ v, e = .returned v) ∧ RunAt w' B (X ++ (ts.take (k + 1)).flatten) ∧ But B wr.heap.size wr w') := by
        rw [← HFs.out]
        exact more_any B (by have := HT.out.pos; omega) _ _ q1 l1 c1 wr (HT.out.below hbel HT.out.pos) hrun (hI1.mono hsz) (by
          rcases hI1.2.2.2.2 with h | ⟨b', off', e, hb', _⟩
          · exact .inl h
          · exact .inr (fun a ha => by rw [e] at ha; cases ha; show b' ≠ B; omega)) (by rw [List.length_append, HXl.out]; omega) (fun z hz => by
          rcases List.mem_append.1 hz with h | h
          · exact HXz.out z h
          · obtain ⟨t, ht, hzt⟩ := List.mem_flatten.1 h
            exact HFz.out z (List.mem_flatten.2 ⟨t, List.mem_of_mem_take ht, hzt⟩))
      have HrZ : Hid (Row wr w.heap.size 39 (List.replicate 32 (.int .u8 0))) := hrZ
      have HrK : Hid (Row wr w1.heap.size 86 KV) := hrK
      have hlZ := hrZ.lt
      have hlK := hrK.lt
      clear hrun hrZ hrK hcell hI1 hl1 hl2
      go_wp2_with (go_at_call 74; refine HM.out.mono ?_; rintro e w5 ⟨⟨v5, rfl⟩, hrun5, hbut5⟩; have Hrun5 : Hid (RunAt w5 B (X ++ (ts.take (k + 1)).flatten)) := hrun5; have Hbut5 : Hid (But B wr.heap.size wr w5) := hbut5; clear hrun5 hbut5)
      go_roundw
      case rel => exact ⟨k + 1, by omega, by go_num, Hrun5.out, Hbut5.out.row hlZ (by omega) HrZ.out, Hbut5.out.row hlK (by omega) HrK.out, hbel.trans (Hbut5.out.below hsz (by omega))⟩
      case measure => simp [intOf]; omega
    · obtain rfl : k = pl := by omega
      rw [List.take_of_length_le (by rw [HTl.out]; exact Nat.le_refl _)] at hrun
      obtain ⟨IN, hIN⟩ : ∃ IN, IN = sumN (X ++ ts.flatten) := ⟨_, rfl⟩
      have HINl : Hid (IN.length = 32) := by show _ = _; rw [hIN]; exact sumN_length _
      have HINz : Hid (∀ z ∈ IN, z < 256) := by rw [hIN]; exact sumN_lt _
      have H17a : Hid (Calls Tryz.prog 75 #[.pointer (some ⟨B, 0, none⟩)] wr fun e w' => e = .returned (.agg (u8s IN).toArray) ∧ Below wr.heap.size wr w') := by
        rw [hIN]
        exact rsum_any B _ (by rw [List.length_append, HXl.out]; omega) (fun z hz => by
          rcases List.mem_append.1 hz with h | h
          · exact HXz.out z h
          · exact HFz.out z h) wr (HT.out.below hbel HT.out.pos) hrun
      have H17b : Hid (∀ W B', Tab W → RunAt W B' (Y ++ IN) → Calls Tryz.prog 75 #[.pointer (some ⟨B', 0, none⟩)] W fun e w' => e = .returned (.agg (u8s (macN ks ts.flatten)).toArray) ∧ Below W.heap.size W w') := fun W B' hT hR => by
        rw [HMac.out, ← hIN]
        exact rsum_any B' _ (by rw [List.length_append, HYl.out, HINl.out]; omega) (fun z hz => by
          rcases List.mem_append.1 hz with h | h
          · exact HYz.out z h
          · exact HINz.out z h) W hT hR
      have HIl : Hid ((u8s IN).length = 32) := by show _ = _; rw [u8s_length]; exact HINl.out
      have HI1 : Hid (∀ v ∈ u8s IN, v.oneCell' = true) := u8s_one _
      have HVl : Hid ((u8s (macN ks ts.flatten)).length = 32) := by show _ = _; rw [u8s_length]; exact macN_length _ _
      have HV1 : Hid (∀ v ∈ u8s (macN ks ts.flatten), v.oneCell' = true) := u8s_one _
      generalize hVV : u8s (macN ks ts.flatten) = VV at *
      have HVV : Hid (u8s (macN ks ts.flatten) = VV) := hVV
      have HrZ : Hid (Row wr w.heap.size 39 (List.replicate 32 (.int .u8 0))) := hrZ
      have HrK : Hid (Row wr w1.heap.size 86 KV) := hrK
      have hlZ := hrZ.lt
      have hlK := hrK.lt
      clear hrun hrZ hrK hIN hVV HMac
      generalize hIV : u8s IN = IV at *
      have HIV : Hid (u8s IN = IV) := hIV
      clear hIV
      go_wp2_with (first
        | (go_at_call 75; have h17 := H17a.out; clear H17a; refine h17.mono ?_; clear h17; rintro e w3 ⟨rfl, hb3⟩; have Hb3 : Hid (Below wr.heap.size wr w3) := hb3; have hs3 := hb3.size; clear hb3)
        | ((with_reducible show wpList _ _ _ (Oper.mk _ (Op.store 39 (.tmp 9) (.tmp 26)) _ _ _ _ :: _) _ _); refine wpList_store_Row rfl 39 (.tmp 9) (.tmp 26) rfl IV rfl rfl (Row.new _ _ _) (by rw [HIl.out]; exact size39) (by rw [HIl.out]; rfl) HI1.out ?_; simp only [Act.put])
        | ((with_reducible show wpList _ _ _ (Oper.mk _ (Op.load 86 (.tmp 5)) _ _ _ _ :: _) _ _); refine wpList_load_Row rfl 86 (.tmp 5) rfl rfl (Row.others (by omega) IV 0 ((HrK.out.later Hb3.out).alloc _)) Tryz.underlying86 (by rw [HKl.out]; exact size86') ?_; simp only [Act.put, List.setIfInBounds_toArray, List.set_cons_zero, List.set_cons_succ])
        | (go_at_call 73; refine (H35b.out _ (HT.out.below (below_setCells (b := w3.heap.size) (by omega) IV 0 ((hbel.trans (Hb3.out.mono hsz)).alloc (by omega) _)) HT.out.pos)).mono ?_; rintro e w4 ⟨B2, rfl, hBs4, hrun4, hb4⟩; have HRun4 : Hid (RunAt w4 B2 Y) := hrun4; have HI4 : Hid (Row w4 w3.heap.size 39 IV) := (Row.sets_all (vs := IV) (Row.new w3 _ _) (by rw [HIl.out]; rfl)).later hb4; have HZ4 : Hid (Row w4 w.heap.size 39 (List.replicate 32 (.int .u8 0))) := (Row.others (by omega) IV 0 ((HrZ.out.later Hb3.out).alloc _)).later hb4; have HbF : Hid (Below w.heap.size w w4) := (below_setCells (b := w3.heap.size) (by omega) IV 0 ((hbel.trans (Hb3.out.mono hsz)).alloc (by omega) _)).trans (hb4.mono (by rw [size_setCells, World.size_alloc]; omega)); rw [size_setCells, World.size_alloc] at hBs4; clear hrun4 hb4)
        | (go_at_call 74; refine (more_any B2 (by have := HT.out.pos; omega) Y IN _ 32 32 _ (HT.out.below HbF.out HT.out.pos) HRun4.out ⟨HINl.out, by omega, by omega, HINz.out, .inr ⟨w3.heap.size, 0, rfl, HI4.out.lt, fun i hi => by rw [Nat.zero_add]; exact HI4.out.cell (by rw [← HIV.out]; exact u8s_at (by rw [HINl.out]; exact hi))⟩⟩ (.inr (fun a ha => by cases ha; show w3.heap.size ≠ B2; omega)) (by rw [HYl.out]; omega) HYz.out).mono ?_; rintro e w5 ⟨⟨v5, rfl⟩, hrun5, hbut5⟩; have HRun5 : Hid (RunAt w5 B2 (Y ++ IN)) := hrun5; have HZ5 : Hid (Row w5 w.heap.size 39 (List.replicate 32 (.int .u8 0))) := hbut5.row HZ4.out.lt (by omega) HZ4.out; have HbG : Hid (Below w.heap.size w w5) := HbF.out.trans (hbut5.below HbF.out.size (by omega)); clear hrun5 hbut5)
        | (go_at_call 75; refine (H17b.out _ _ (HT.out.below HbG.out HT.out.pos) HRun5.out).mono ?_; rintro e w6 ⟨rfl, hb6⟩; have HZ6 : Hid (Row w6 w.heap.size 39 (List.replicate 32 (.int .u8 0))) := HZ5.out.later hb6; have HbH : Hid (Below w.heap.size w w6) := HbG.out.trans (hb6.mono HbG.out.size); clear hb6)
        | ((with_reducible show wpList _ _ _ (Oper.mk _ (Op.store 39 (.tmp 4) (.tmp 33)) _ _ _ _ :: _) _ _); refine wpList_store_Row rfl 39 (.tmp 4) (.tmp 33) rfl VV rfl rfl HZ6.out (by rw [HVl.out]; exact size39) (by rw [HVl.out]; rfl) HV1.out ?_; simp only [Act.put]))
      refine bodyPost_ret (results_Row rfl rfl (Row.sets_all (vs := VV) HZ6.out (by rw [HVl.out]; rfl)) Tryz.underlying39 (by rw [HVl.out]; exact size39)) rfl ?_
      exact ⟨by rw [HVV.out], below_setCells (Nat.le_refl _) _ _ HbH.out⟩
end Go.Proofs.YtclelancbfoenaaGreatDoor.Sh
