/-
  slices.Clone of bytes: the same ones, in memory of their own.
-/
import Derived.Test.YtobmcaknfbooiaaDoorLast
namespace Go.Proofs.YtobmcaknfbooiaaDoor
open Go.RowKit Go.Shelf

theorem nil25 (a : Addr) (n c : Nat) (W : World) : (binOp .eql 25 (.slice (some a) n c) (.slice none 0 0)).run Tryd.prog W = .ok (.bool false) W := by
  have h : (Op.equal 25 (.slice (some a) n c) (.slice none 0 0)).run Tryd.prog W = .ok false W := by
    have h' : ∀ d : Nat, (Op.equalIn (d + 1) 25 (.slice (some a) n c) (.slice none 0 0)).run Tryd.prog W = .ok false W := fun d => by simp [Op.equalIn, run_underlying Tryd.underlying25]
    exact h' 9999
  simp [binOp, h]

set_option maxRecDepth 100000 in
set_option maxHeartbeats 1000000 in
theorem clone_any (b : Nat) (zs : List Nat) (hlen : zs.length ≤ 70000) (hz : ∀ z ∈ zs, z < 256) (w : World) (hb : Row w b 5 (u8s zs)) :
    Calls Tryd.prog 40 #[.slice (some ⟨b, 0, none⟩) zs.length zs.length] w fun e w' => ∃ v, e = .returned v ∧ Own w.heap.size w' v zs ∧ Below w.heap.size w w' := by
  have HI : Hid (IsBytes w.heap.size w (some ⟨b, 0, none⟩) zs.length zs.length zs) := ⟨rfl, Nat.le_refl _, by omega, hz, .inr ⟨b, 0, rfl, hb.lt, fun i hi => by rw [Nat.zero_add]; exact hb.cell (u8s_at hi)⟩⟩
  have hnil := fun W => nil25 ⟨b, 0, none⟩ zs.length zs.length W
  clear hb
  generalize hl : zs.length = n at *
  go_enter Tryd.func40, Tryd.ntmps40
  go_wp2_with (first
    | ((with_reducible show wpList _ _ _ (Oper.mk (some 7) _ _ _ _ _ :: _) _ _); refine wpList_append_bytes rfl (.tmp 5) (.tmp 6) rfl w.heap.size _ [] rfl (⟨rfl, .inr ⟨w.heap.size, 0, #[], rfl, Nat.le_refl _, heap_alloc_last w _, Nat.le_refl _, Nat.zero_le _, rfl, rfl⟩⟩ : Own _ _ _ _) rfl (HI.out.below ((Below.refl _ w).alloc (Nat.le_refl _) _)) (by simp; omega) (by simp) ?_; intro v' w1 ho1 hg1))
  go_ret
  exact ⟨v', rfl, by simpa using ho1, ((Below.refl _ w).alloc (Nat.le_refl _) _).grown hg1 (by simp) (fun k e => by cases e; exact Nat.le_refl _)⟩

end Go.Proofs.YtobmcaknfbooiaaDoor
