/-
  What mac.Extract answers: the mac; what the reference's Expand says of a length that it refuses.
-/
import Derived.Test.YtokjbldelpiejaaDoorCheck
import Derived.Test.YtokjbldelpiejaaDoorMac3
import Derived.Test.YtokjbldelpiejaaDoorBeginsW
namespace Go.Proofs.YtokjbldelpiejaaDoor
open Go.RowKit Go.Shelf
attribute [local go_sem] Oper.semAt_some

set_option maxRecDepth 100000 in
set_option maxHeartbeats 1000000 in
theorem extract_any (p : Option Addr) (len cap : Nat) (ks : List Nat) (hlen : len ≤ 20000) (pb : Option Addr) (bl bc : Nat) (bs : List Nat) (hbl : bl ≤ 20000) (w : World) (hT : Tab w) (hI : IsBytes w.heap.size w p len cap ks) (hB : IsBytes w.heap.size w pb bl bc bs) :
    Calls Tryd.prog 23 #[.slice p len cap, .slice pb bl bc] w fun e w' => e = .returned (.agg (u8s (macN ks bs)).toArray) ∧ Below w.heap.size w w' := by
  obtain ⟨w0, hw0⟩ : ∃ w0, w0 = w.alloc (.cells (List.replicate 32 (Value.int .u8 0)).toArray 46) := ⟨_, rfl⟩
  have hb0 : Below w.heap.size w w0 := by rw [hw0]; exact (Below.refl _ w).alloc (Nat.le_refl _) _
  have hs0 : w0.heap.size = w.heap.size + 1 := by rw [hw0]; simp
  have HR0 : Hid (Row w0 w.heap.size 46 (List.replicate 32 (.int .u8 0))) := by rw [hw0]; exact Row.new' w 46 _
  have HB : Hid (Below w0.heap.size w0 (w0.alloc (.cells #[.slice pb bl bc] 22))) := (Below.refl _ w0).alloc (Nat.le_refl _) _
  have H19 : Hid (Calls Tryd.prog 19 #[.slice p len cap, .slice (some ⟨w.heap.size + 1, 0, none⟩) 1 1] (w0.alloc (.cells #[.slice pb bl bc] 22)) fun e w' => e = .returned (.agg (u8s (macN ks bs)).toArray) ∧ Below (w0.alloc (.cells #[.slice pb bl bc] 22)).heap.size (w0.alloc (.cells #[.slice pb bl bc] 22)) w') := by
    have h := macSum_any p len cap ks (by omega) (some ⟨w0.heap.size, 0, none⟩) 1 1 (by omega) [bs] (by simp [hB.1]; omega) _ ((hT.later hb0).later HB.out) ((hI.later hb0).later HB.out) (lists_one (hB.later hb0))
    rw [show ([bs] : List (List Nat)).flatten = bs by simp, hs0] at h
    exact h
  have Hb0 : Hid (Below w.heap.size w w0) := hb0
  have HVl : Hid ((u8s (macN ks bs)).length = 32) := by show _ = _; rw [u8s_length]; exact macN_length _ _
  have HV1 : Hid (∀ v ∈ u8s (macN ks bs), v.oneCell' = true) := u8s_one _
  clear hT hI hB hb0
  generalize u8s (macN ks bs) = V at *
  go_enter Tryd.func23, Tryd.ntmps23
  go_wp2_with (first
    | (go_at_call 19; rw [z32u8, ← hw0]; refine H19.out.mono ?_; rintro e w1 ⟨rfl, hb1⟩; have hb2 : Below w0.heap.size w0 w1 := HB.out.trans (hb1.mono HB.out.size); have HR1 : Hid (Row w1 w.heap.size 46 (List.replicate 32 (.int .u8 0))) := HR0.out.later hb2; have hbA : Below w.heap.size w w1 := Hb0.out.trans (hb2.mono (by omega)); clear hb1 hb2)
    | ((with_reducible show wpList _ _ _ (Oper.mk _ (Op.store 46 (.tmp 4) (.tmp 8)) _ _ _ _ :: _) _ _); refine wpList_store_Row rfl 46 (.tmp 4) (.tmp 8) rfl V rfl rfl HR1.out (by rw [HVl.out]; exact size46) (by rw [HVl.out]; rfl) HV1.out ?_; simp only [Act.put]))
  refine bodyPost_ret (results_Row rfl rfl (Row.sets_all (vs := V) HR1.out (by rw [HVl.out]; rfl)) Tryd.underlying46 (by rw [HVl.out]; exact size46)) rfl ?_
  exact ⟨rfl, below_setCells (Nat.le_refl _) _ _ hbA⟩

set_option maxRecDepth 100000 in
set_option maxHeartbeats 1000000 in
theorem refExpand_err (KV : List Value) (hK : KV.length = 32) (p : Option Addr) (len cap : Nat) (z : Int) (hz : z < 0 ∨ 8160 < z) (w : World) :
    Calls Tryd.prog 25 #[.agg KV.toArray, .slice p len cap, .int .i64 z] w fun e w' => e = .returned (.tuple #[.slice none 0 0, .int .i64 1]) ∧ Below w.heap.size w w' := by
  have HK : Hid (KV.length = 32) := hK
  have hb : Below w.heap.size w (w.alloc (.cells KV.toArray 46)) := (Below.refl _ w).alloc (Nat.le_refl _) _
  clear hK
  rcases hz with hz | hz
  · go_enter Tryd.func25, Tryd.ntmps25
    go_wp2
    refine bodyPost_ret (results_tmp2 rfl _ _ _) rfl ?_
    exact ⟨rfl, hb⟩
  · have hz0 : ¬ z < 0 := by omega
    go_enter Tryd.func25, Tryd.ntmps25
    go_wp2
    refine bodyPost_ret (results_tmp2 rfl _ _ _) rfl ?_
    exact ⟨rfl, hb⟩
end Go.Proofs.YtokjbldelpiejaaDoor
