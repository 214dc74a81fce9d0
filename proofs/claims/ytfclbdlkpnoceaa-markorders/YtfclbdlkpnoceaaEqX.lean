/-
  Two ids, held against each other, at the operation.
-/
import Derived.Test.YtfclbdlkpnoceaaFew
namespace Go.Proofs.Ytfclbdlkpnoceaa
open Go.RowKit Go.Shelf Go.Maps
attribute [local go_sem] Oper.semAt_some

theorem exec_eqId {a : Act} {o : Oper} {w : World} (x y : Operand) (ho : o.op = .binOp .eql 33 x y 33) {i j : List Nat} (hx : a.eval x = idV i) (hy : a.eval y = idV j) (hi : IsId i) (hj : IsId j) : (execOp a.eval o).run Try.prog w = .ok (.value (.bool (decide (i = j)))) w := by
  have hq := equal_ids hi hj
  unfold execOp
  rw [ho]
  simp only [hx, hy, idV]
  generalize u8s i = A at *
  generalize u8s j = B at *
  go_simp
theorem exec_neId {a : Act} {o : Oper} {w : World} (x y : Operand) (ho : o.op = .binOp .neq 33 x y 33) {i j : List Nat} (hx : a.eval x = idV i) (hy : a.eval y = idV j) (hi : IsId i) (hj : IsId j) : (execOp a.eval o).run Try.prog w = .ok (.value (.bool (! decide (i = j)))) w := by
  have hq := equal_ids hi hj
  unfold execOp
  rw [ho]
  simp only [hx, hy, idV]
  generalize u8s i = A at *
  generalize u8s j = B at *
  go_simp
section
variable {ops : Array Oper} {rest : List Oper} {o : Oper} {a : Act} {w : World} {Q : Exit → Act → World → Prop}
theorem wpList_eqId (hw : Region.wanted o (yielded ops a.tmps) = true) (x y : Operand) (ho : o.op = .binOp .eql 33 x y 33) {i j : List Nat} (hx : a.eval x = idV i) (hy : a.eval y = idV j) (hi : IsId i) (hj : IsId j) (b : Bool) (hb : decide (i = j) = b)
    (h : wpList Try.prog ops Q rest (a.put o.dst (.bool b)) w) : wpList Try.prog ops Q (o :: rest) a w := by
  refine BigFrame.wpList_want hw fun K hK => ?_
  unfold Oper.wp
  rw [exec_eqId x y ho hx hy hi hj, hb]
  exact hK _ _ h
theorem wpList_neId (hw : Region.wanted o (yielded ops a.tmps) = true) (x y : Operand) (ho : o.op = .binOp .neq 33 x y 33) {i j : List Nat} (hx : a.eval x = idV i) (hy : a.eval y = idV j) (hi : IsId i) (hj : IsId j) (b : Bool) (hb : decide (i ≠ j) = b)
    (h : wpList Try.prog ops Q rest (a.put o.dst (.bool b)) w) : wpList Try.prog ops Q (o :: rest) a w := by
  refine BigFrame.wpList_want hw fun K hK => ?_
  unfold Oper.wp
  rw [exec_neId x y ho hx hy hi hj, show (! decide (i = j)) = b by rw [← hb]; simp]
  exact hK _ _ h
end
end Go.Proofs.Ytfclbdlkpnoceaa
