/-
  The reference's Digest of an ideal suite that can draw nothing.
-/
import Derived.Test.YtbaokodhoiledaaDoorRDig
namespace Go.Proofs.YtbaokodhoiledaaDoor
open Classical
open Go.RowKit Go.Shelf
attribute [local go_sem] Oper.semAt_some

set_option maxRecDepth 100000 in
set_option maxHeartbeats 1000000 in
theorem refDig_none (R : Nat) (zs : List Nat) (es : List REnt) (q : Option Addr) (ql qc : Nat) (rq : Option Addr) (rc : Nat) (x3 x4 : Value) (p : Option Addr) (len cap : Nat) (w : World) (h : RefSt w R 1 zs es q ql qc rq rc x3 x4)
    (HI : Hid (∀ W, Below w.heap.size w W → Calls Tryd.prog 29 #[.pointer (some ⟨R, 0, none⟩), .int .i64 2, .agg noKey.toArray, .slice none 0 0, .slice p len cap, .int .i64 32] W fun e w' => e = .returned (.tuple #[.slice none 0 0, .int .i64 60]) ∧ Below W.heap.size W w')) :
    Calls Tryd.prog 16 #[.pointer (some ⟨R, 0, none⟩), .slice p len cap] w fun e w' => e = .returned (.tuple #[.agg noKey.toArray, .int .i64 60]) ∧ Below w.heap.size w w' := by
  obtain ⟨wa, hwa⟩ : ∃ wa, (w.alloc (.cells (List.replicate 32 (Value.int .u8 0)).toArray 38)).alloc (.cells (List.replicate 32 (Value.int .u8 0)).toArray 38) = wa := ⟨_, rfl⟩
  have hba : Below w.heap.size w wa := by rw [← hwa]; exact ((Below.refl _ w).alloc (Nat.le_refl _) _).alloc (by simp) _
  have HZa : Hid (Row wa w.heap.size 38 noKey) := by rw [← hwa]; exact (Row.new' w 38 noKey).alloc _
  have HWA : Hid ((w.alloc (.cells (List.replicate 32 (Value.int .u8 0)).toArray 38)).alloc (.cells (List.replicate 32 (Value.int .u8 0)).toArray 38) = wa) := hwa
  have c0 : ∀ o o', ((w.alloc o).alloc o').cell? ⟨R, 0, none⟩ = some (.int .i64 1) := fun o o' => ((h.row.alloc o).alloc o').cell (i := 0) rfl
  clear h hwa
  go_enter Tryd.func16, Tryd.ntmps16
  go_wp2_with (first
    | (go_at_call 29; rw [z32u8, HWA.out]; refine (HI.out wa hba).mono ?_; rintro e w1 ⟨rfl, hb1⟩; have HZ1 : Hid (Row w1 w.heap.size 38 noKey) := HZa.out.later hb1; have hB1 : Below w.heap.size w w1 := hba.trans (hb1.mono hba.size); clear hb1 c0)
    | ((with_reducible show wpList _ _ _ (Oper.mk _ (Op.store 38 (.tmp 4) (.tmp 53)) _ _ _ _ :: _) _ _); refine wpList_store_Row rfl 38 (.tmp 4) (.tmp 53) rfl noKey rfl rfl HZ1.out size38 rfl (by decide) ?_; simp only [Act.put]))
  refine bodyPost_ret (results_Row_tmp rfl rfl (Row.sets_all HZ1.out rfl) Tryd.underlying38 size38) rfl ?_
  exact ⟨rfl, below_setCells (Nat.le_refl _) _ _ hB1⟩

end Go.Proofs.YtbaokodhoiledaaDoor
