/-
  Read and Start, of a disk and of one that nobody made.
-/
import Derived.Test.YtifjkkfienmdjaaWi
import Derived.Lib.Walk
namespace Go.Proofs.Ytifjkkfienmdjaa
open Go.RowKit Go.Shelf

variable {F : List Nat} {p g : Nat} {d : St} {w : World}

theorem built29 : Try.prog.built 55 [] = some (u8s zeros64).toArray := by kernel_rfl
theorem wpList_built_want {ops : Array Oper} {rest : List Oper} {o : Oper} {a : Act} {w : World} {Q : Exit → Act → World → Prop} (hw : Region.wanted o (yielded ops a.tmps) = true) (t : TypeId) (parts : Array (Nat × Operand)) (ho : o.op = .build t parts) (cells : Array Value) (L : List (Nat × Value)) (hL : (parts.map fun (i, x) => (i, a.eval x)).toList = L)
    (hc : Try.prog.built t L = some cells) (h : wpList Try.prog ops Q rest (a.put o.dst (.agg cells)) w) : wpList Try.prog ops Q (o :: rest) a w :=
  BigFrame.wpList_want hw fun _ hK => by
    unfold Oper.wp execOp
    simp only [ho, Sem.run_bind, run_build w t _ cells (hL ▸ hc), Result.andThen_ok]
    exact hK _ _ h
theorem results_Row_tmp {P : Program} {fn : Func} {p u : Tmp} {ty : TypeId} (h : fn.results = #[.cell p ty, .tmp u]) {tmps : Array Value} {w : World} {g : Nat} {t : TypeId} {cs : List Value} (hp : tmps.getD p undef = .pointer (some ⟨g, 0, none⟩)) (hg : Row w g t cs)
    {n : Nat} {e : TypeId} (hu : P.underlying ty = some (.array n e)) (hi : (P.info? ty).map (·.size) = some cs.length) : (results fn tmps).run P w = .ok (.tuple #[.agg cs.toArray, tmps.getD u undef]) w := by
  rw [results_cell_tmp h, hp]
  simp [asAddr, run_loadVar_row w g t ty cs.toArray (0, 0) _ hg hu rfl (by simpa using hi)]
/-- A new sector of bytes 0. -/
theorem new29 (w : World) : ∃ w0, Hid (w.alloc (.cells #[.int .u8 0, .int .u8 0, .int .u8 0, .int .u8 0, .int .u8 0, .int .u8 0, .int .u8 0, .int .u8 0, .int .u8 0, .int .u8 0, .int .u8 0, .int .u8 0, .int .u8 0, .int .u8 0, .int .u8 0, .int .u8 0, .int .u8 0, .int .u8 0, .int .u8 0, .int .u8 0, .int .u8 0, .int .u8 0, .int .u8 0, .int .u8 0, .int .u8 0, .int .u8 0, .int .u8 0, .int .u8 0, .int .u8 0, .int .u8 0, .int .u8 0, .int .u8 0, .int .u8 0, .int .u8 0, .int .u8 0, .int .u8 0, .int .u8 0, .int .u8 0, .int .u8 0, .int .u8 0, .int .u8 0, .int .u8 0, .int .u8 0, .int .u8 0, .int .u8 0, .int .u8 0, .int .u8 0, .int .u8 0, .int .u8 0, .int .u8 0, .int .u8 0, .int .u8 0, .int .u8 0, .int .u8 0, .int .u8 0, .int .u8 0, .int .u8 0, .int .u8 0, .int .u8 0, .int .u8 0, .int .u8 0, .int .u8 0, .int .u8 0, .int .u8 0] 55) = w0) ∧ Below w.heap.size w w0 ∧ w0.heap.size = w.heap.size + 1 ∧ Row w0 w.heap.size 55 (u8s zeros64) :=
  ⟨_, rfl, (Below.refl _ w).alloc (Nat.le_refl _) _, by simp, by rw [z64u8]; exact Row.new' w 55 (List.replicate 64 (Value.int .u8 0))⟩

set_option maxRecDepth 100000 in
set_option maxHeartbeats 2000000 in
theorem read_bad (a : Option Addr) (i e0 : Int) (he : (e0 == 0) = false) (w : World) (H : ∀ W, Below w.heap.size w W → Calls Try.prog 42 #[.pointer a, .int .i64 i] W fun e w' => e = .returned (.int .i64 e0) ∧ w' = W) :
    Calls Try.prog 29 #[.pointer a, .int .i64 i] w fun e w' => e = .returned (.tuple #[.agg (u8s zeros64).toArray, .int .i64 e0]) ∧ Below w.heap.size w w' := by
  obtain ⟨w0, HW0, hb0, hs0, hr0⟩ := new29 w
  have HR : Hid (Calls Try.prog 42 #[.pointer a, .int .i64 i] w0 fun e w' => e = .returned (.int .i64 e0) ∧ w' = w0) := H w0 hb0
  have HBu : Hid (Try.prog.built 55 [] = some (u8s zeros64).toArray) := built29
  have HR0 : Hid (Row w0 w.heap.size 55 (u8s zeros64)) := hr0
  have HL : Hid ((u8s zeros64).length = 64) := by show _ = _; simp [zeros64]
  have HO : Hid (∀ v ∈ u8s zeros64, v.oneCell' = true) := u8s_one _
  clear hr0 H
  generalize u8s zeros64 = Z at *
  go_enter Try.func29, Try.ntmps29
  go_wp2_with (first
    | (rw [HW0.out])
    | (go_at_call 42; refine HR.out.mono ?_; rintro e w1 ⟨rfl, hw1⟩; obtain rfl : w0 = w1 := hw1.symm; clear hw1)
    | ((with_reducible show wpList _ _ _ (Oper.mk _ (Op.build 55 _) _ _ _ _ :: _) _ _); refine wpList_built_want (by rfl) 55 _ rfl _ _ (by simp only [List.map_toArray, List.map_nil]) HBu.out ?_; simp only [Act.put, List.setIfInBounds_toArray, List.set_cons_zero, List.set_cons_succ])
    | ((with_reducible show wpList _ _ _ (Oper.mk _ (Op.store 55 (.tmp 4) (.tmp 12)) _ _ _ _ :: _) _ _); refine wpList_store_Row rfl 55 (.tmp 4) (.tmp 12) rfl Z rfl rfl HR0.out (by rw [HL.out]; exact size55) rfl HO.out ?_; simp only [Act.put]))
  refine bodyPost_ret (results_Row_tmp rfl rfl (Row.sets_all HR0.out rfl) Try.underlying55 (by rw [HL.out]; exact size55)) rfl ?_
  exact ⟨rfl, below_setCells (Nat.le_refl _) _ _ hb0⟩

set_option maxRecDepth 100000 in
set_option maxHeartbeats 2000000 in
theorem read_some (h : DiskAt F w p g d) (i : Nat) (hi : i < d.ss.length) (hd : d.dead = false) :
    Calls Try.prog 29 #[.pointer (some ⟨p, 0, none⟩), .int .i64 (i : Nat)] w fun e w' => e = .returned (.tuple #[.agg (u8s (d.ss.getD i [])).toArray, .int .i64 0]) ∧ Below w.heap.size w w' := by
  obtain ⟨w0, HW0, hb0, hs0, hr0⟩ := new29 w
  have h' := h.later hb0
  have he : d.err (i : Nat) = 0 := by simp only [St.err, hd]; simp; omega
  have HR : Hid (Calls Try.prog 42 #[.pointer (some ⟨p, 0, none⟩), .int .i64 (i : Nat)] w0 fun e w' => e = .returned (.int .i64 0) ∧ w' = w0) := by
    have := refuses_any h' (i : Nat)
    rw [he] at this
    exact this
  have HR0 : Hid (Row w0 w.heap.size 55 (u8s zeros64)) := hr0
  have HLZ : Hid ((u8s zeros64).length = 64) := by show _ = _; simp [zeros64]
  obtain ⟨h1, h2, h3, h4, h5, q, len, cap, h6, h7⟩ := h'
  have c2 := h6.cell (i := 2) rfl
  have hl := h1.few
  have HRg : Hid (w0.rangeAt g (i * 64) (u8s (d.ss.getD i []))) := sec_range h5 h1.secs hi
  have HL : Hid ((u8s (d.ss.getD i [])).length = 64) := by show _ = _; rw [u8s_length, (sec_at h1.secs hi).1]
  have HO : Hid (∀ v ∈ u8s (d.ss.getD i []), v.oneCell' = true) := u8s_one _
  clear hr0 h h1 h2 h3 h4 h5 h6 h7 he
  generalize u8s (d.ss.getD i []) = S at *
  generalize u8s zeros64 = Z at *
  generalize d.ss.length = n at *
  go_enter Try.func29, Try.ntmps29
  go_wp2_with (first
    | (rw [HW0.out])
    | (go_at_call 42; refine HR.out.mono ?_; rintro e w1 ⟨rfl, hw1⟩; obtain rfl : w0 = w1 := hw1.symm; clear hw1)
    | ((with_reducible show wpList _ _ _ (Oper.mk _ (Op.load 55 (.tmp 19)) _ _ _ _ :: _) _ _); refine wpList_load_mid rfl 55 (.tmp 19) rfl g (i * 64) rfl S _ HRg.out Try.underlying55 rfl (by rw [HL.out]; exact size55) ?_; simp only [Act.put, List.setIfInBounds_toArray, List.set_cons_zero, List.set_cons_succ])
    | ((with_reducible show wpList _ _ _ (Oper.mk _ (Op.store 55 (.tmp 4) (.tmp 20)) _ _ _ _ :: _) _ _); refine wpList_store_Row rfl 55 (.tmp 4) (.tmp 20) rfl S rfl rfl HR0.out (by rw [HL.out]; exact size55) (by rw [HL.out, HLZ.out]) HO.out ?_; simp only [Act.put]))
  refine bodyPost_ret (results_Row_tmp rfl rfl (Row.sets_all (vs := S) HR0.out (by rw [HL.out, HLZ.out])) Try.underlying55 (by rw [HL.out]; exact size55)) rfl ?_
  exact ⟨rfl, below_setCells (Nat.le_refl _) _ _ hb0⟩

/-- Read -/
theorem read_any (h : DiskAt F w p g d) (i : Int) :
    Calls Try.prog 29 #[.pointer (some ⟨p, 0, none⟩), .int .i64 i] w fun e w' => e = .returned (.tuple #[.agg (u8s (d.read i)).toArray, .int .i64 (d.err i)]) ∧ Below w.heap.size w w' := by
  by_cases he : d.err i = 0
  · obtain ⟨h1, h2, h3⟩ := err_zero he
    rw [St.read, he, if_neg (by simp)]
    have := read_some h i.toNat h3 h1
    rw [show ((i.toNat : Nat) : Int) = i by omega] at this
    exact this
  · rw [St.read, if_pos he]
    exact read_bad _ i (d.err i) (by simpa using he) w (fun W hb => refuses_any (h.later hb) i)
theorem read_none (i : Int) (w : World) : Calls Try.prog 29 #[.pointer none, .int .i64 i] w fun e w' => e = .returned (.tuple #[.agg (u8s zeros64).toArray, .int .i64 131]) ∧ Below w.heap.size w w' :=
  read_bad none i 131 rfl w (fun W _ => refuses_none i W)
end Go.Proofs.Ytifjkkfienmdjaa
