/-
  Ids and objects that are built: how new variables come about.
-/
import Derived.Test.YtfclbdlkpnoceaaSwpAll
namespace Go.Proofs.Ytfclbdlkpnoceaa
open Go.RowKit Go.Shelf Go.Maps
attribute [local go_sem] Oper.semAt_some

def idK (k : Nat) : List Nat := k :: List.replicate 31 0
theorem isId_K {k : Nat} (h : k < 256) : IsId (idK k) := ⟨by simp [idK], fun z hz => by
  rcases List.mem_cons.1 hz with rfl | hz
  · exact h
  · rw [List.eq_of_mem_replicate hz]; omega⟩
section
variable {ops : Array Oper} {rest : List Oper} {o : Oper} {a : Act} {w : World} {Q : Exit → Act → World → Prop}
theorem wpList_val {v : Value} {w' : World} (hgd : o.guard = none) (hy : (execOp a.eval o).run Try.prog w = .ok (.value v) w') (h : wpList Try.prog ops Q rest (a.put o.dst v) w') : wpList Try.prog ops Q (o :: rest) a w := by
  refine wpList_plain hgd fun K hK => ?_
  unfold Oper.wp
  rw [hy]
  exact hK _ _ h
theorem exec_alloc33 (ho : o.op = .alloc 33) : (execOp a.eval o).run Try.prog w = .ok (.value (.pointer (some ⟨w.heap.size, 0, none⟩))) (w.alloc (.cells (List.replicate 32 (Value.int .u8 0)).toArray 33)) := by
  unfold execOp
  rw [ho]
  kernel_rfl
theorem wpList_allocId (hgd : o.guard = none) (ho : o.op = .alloc 33) (h : ∀ W2, Below w.heap.size w W2 → Row W2 w.heap.size 33 (List.replicate 32 (Value.int .u8 0)) → W2.heap.size = w.heap.size + 1 → wpList Try.prog ops Q rest (a.put o.dst (.pointer (some ⟨w.heap.size, 0, none⟩))) W2) : wpList Try.prog ops Q (o :: rest) a w :=
  wpList_val hgd (exec_alloc33 ho) (h _ ((Below.refl _ w).alloc (Nat.le_refl _) _) (Row.new' w 33 _) (World.size_alloc _ _))
/-- An id, stored into a variable. -/
theorem wpList_putId (hgd : o.guard = none) (x y : Operand) (ho : o.op = .store 33 x y) {i : List Nat} (hi : IsId i) {g : Nat} {cs : List Value} (hx : a.eval x = .pointer (some ⟨g, 0, none⟩)) (hy : a.eval y = idV i) (hr : Row w g 33 cs) (hl : cs.length = 32)
    (h : ∀ W2, But g w.heap.size w W2 → Row W2 g 33 (u8s i) → W2.heap.size = w.heap.size → wpList Try.prog ops Q rest (a.put o.dst undef) W2) : wpList Try.prog ops Q (o :: rest) a w :=
  wpList_store_Row hgd 33 x y ho (u8s i) hx hy hr (size33' hi) (by rw [id_len hi, hl]) (u8s_one i) (h _ (But.sets _ _ _) (hr.sets_all (by rw [id_len hi, hl])) (size_setCells _ _ _))
end
theorem build1 (a : Act) (w : World) (o : Oper) (ho : o.op = .build 33 #[(0, .const (.int .u8 1))]) : (execOp a.eval o).run Try.prog w = .ok (.value (idV (idK 1))) w := by
  unfold execOp
  rw [ho]
  kernel_rfl
end Go.Proofs.Ytfclbdlkpnoceaa
