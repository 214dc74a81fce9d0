/-
  The laws' own 'awake' answers true: the sum of "abc" is the published one.
-/
import Derived.Test.YtokjbldelpiejaaDoorSum
import Derived.KernelRfl
import Derived.Lib.SlBytesConst
namespace Go.Proofs.YtokjbldelpiejaaDoor
open Go.RowKit

theorem sum_abc : sumN [97, 98, 99] = [186, 120, 22, 191, 143, 1, 207, 234, 65, 65, 64, 222, 93, 174, 34, 35, 176, 3, 97, 163, 150, 23, 122, 156, 180, 16, 255, 97, 242, 0, 21, 173] := by kernel_rfl

theorem bytes3 (w : World) : IsBytes (w.alloc (.cells #[.int .u8 97, .int .u8 98, .int .u8 99] 5 (3, 4))).heap.size (w.alloc (.cells #[.int .u8 97, .int .u8 98, .int .u8 99] 5 (3, 4))) (some ⟨w.heap.size, 0, none⟩) 3 3 [97, 98, 99] := by
  refine ⟨rfl, by omega, by omega, by simp, .inr ⟨w.heap.size, 0, rfl, by simp, fun i hi => ?_⟩⟩
  have h := World.alloc_heap_new w (.cells #[.int .u8 97, .int .u8 98, .int .u8 99] 5 (3, 4))
  rw [cell_of_row _ w.heap.size (0 + i) _ 5 (3, 4) h]
  rcases i with _ | _ | _ | i
  · rfl
  · rfl
  · rfl
  · omega

/-- The sum of the law's three bytes. -/
theorem sum3 (w : World) (hT : Tab w) : Calls Tryd.prog 11 #[.slice (some ⟨w.heap.size, 0, none⟩) 3 3] (w.alloc (.cells #[.int .u8 97, .int .u8 98, .int .u8 99] 5 (3, 4))) fun e w' => ∃ S : List Value, e = .returned (.agg S.toArray) ∧ S.length = 32 ∧ (∀ v ∈ S, v.oneCell' = true) ∧ S[0]? = some (.int .u8 186) ∧ S[1]? = some (.int .u8 120) ∧ S[31]? = some (.int .u8 173) ∧ Below w.heap.size w w' := by
  have hb0 : Below w.heap.size w (w.alloc (.cells #[.int .u8 97, .int .u8 98, .int .u8 99] 5 (3, 4))) := (Below.refl _ w).alloc (Nat.le_refl _) _
  refine (sum_any _ 3 3 _ (by omega) _ (hT.below hb0 hT.pos) (bytes3 w)).mono ?_
  rintro e w' ⟨rfl, hb⟩
  refine ⟨_, rfl, by rw [u8s_length]; exact digestN_length _, u8s_one _, ?_, ?_, ?_, hb0.trans (hb.mono hb0.size)⟩
  · rw [sum_abc]; rfl
  · rw [sum_abc]; rfl
  · rw [sum_abc]; rfl

theorem sum_cell (w1 : World) (S : List Value) (hl : S.length = 32) {i : Nat} {v : Value} (hi : S[i]? = some v) (c : Array Value) (hc : c.size = 32) : ((w1.alloc (.cells c 25)).setCells w1.heap.size 0 S).cell? ⟨w1.heap.size, i, none⟩ = some v :=
  (Row.sets_all (vs := S) (Row.new w1 25 c) (by rw [hl]; simp [hc])).cell hi

set_option maxHeartbeats 1000000 in
theorem awake_any (w : World) (hT : Tab w) : Calls Tryd.prog 10 #[] w fun e w' => e = .returned (.bool true) ∧ Below w.heap.size w w' := by
  have HT : Hid (Tab w) := hT
  have hcv := fun (w : World) (C : Array Value) (n c : Nat) => Lib.run_convert_bytes_const (P := Tryd.prog) w 22 5 C n c Tryd.underlying22 Tryd.underlying5
  clear hT
  go_enter Tryd.func10, Tryd.ntmps10
  go_wp2_with (first
    | (go_at_call 11; refine (sum3 w HT.out).mono ?_; rintro e w1 ⟨S, rfl, hSl, hS1, h0, h1, h31, hb⟩; have c0 := sum_cell w1 S hSl h0; have c1 := sum_cell w1 S hSl h1; have c31 := sum_cell w1 S hSl h31; have HSl : Hid (S.length = 32) := hSl; have HS1 : Hid (∀ v ∈ S, v.oneCell' = true) := hS1; clear hSl hS1 h0 h1 h31)
    | ((with_reducible show wpList _ _ _ (Oper.mk _ (Op.store 25 (.tmp 1) (.tmp 4)) _ _ _ _ :: _) _ _); refine wpList_store_Row rfl 25 (.tmp 1) (.tmp 4) rfl S rfl rfl (Row.new _ _ _) (by rw [HSl.out]; exact size25) (by rw [HSl.out]; rfl) HS1.out ?_; simp only [Act.put]))
  go_ret
  exact ⟨rfl, below_setCells (by have := hb.size; omega) _ _ (hb.alloc (by have := hb.size; omega) _)⟩
end Go.Proofs.YtokjbldelpiejaaDoor
