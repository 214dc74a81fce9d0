/-
  What mac.Check answers: whether the tag is the HMAC of the text. Nothing that lay before the call has turned.
-/
import Derived.Test.YtokjbldelpiejaaDoorMac3
import Derived.Test.YtokjbldelpiejaaDoorVEq
namespace Go.Proofs.YtokjbldelpiejaaDoor
open Go Go.RowKit

/-- A list of one text, in a block of its own. -/
theorem lists_one {w : World} {p : Option Addr} {len cap : Nat} {bs : List Nat} (h : IsBytes w.heap.size w p len cap bs) : IsLists (w.alloc (.cells #[.slice p len cap] 22)).heap.size (w.alloc (.cells #[.slice p len cap] 22)) (some ⟨w.heap.size, 0, none⟩) 1 1 [bs] := by
  have hb : Below w.heap.size w (w.alloc (.cells #[.slice p len cap] 22)) := (Below.refl _ w).alloc (Nat.le_refl _) _
  refine ⟨rfl, by omega, .inr ⟨w.heap.size, 0, rfl, by simp, fun i hi => ?_⟩⟩
  obtain rfl : i = 0 := by omega
  exact ⟨p, len, cap, (Row.new w 22 #[.slice p len cap]).cell (i := 0) rfl, h.later hb⟩

set_option maxRecDepth 100000 in
set_option maxHeartbeats 1000000 in
/-- mac.Check -/
theorem check_any (p : Option Addr) (len cap : Nat) (ks : List Nat) (hlen : len ≤ 20000) (pb : Option Addr) (bl bc : Nat) (bs : List Nat) (hbl : bl ≤ 20000) (pt : Option Addr) (tl tc : Nat) (tag : List Nat) (htl : tl ≤ 20000) (w : World) (hT : Tab w) (hI : IsBytes w.heap.size w p len cap ks) (hB : IsBytes w.heap.size w pb bl bc bs) (hG : IsBytes w.heap.size w pt tl tc tag) :
    Calls Tryd.prog 22 #[.slice p len cap, .slice pb bl bc, .slice pt tl tc] w fun e w' => e = .returned (.bool (decide (macN ks bs = tag))) ∧ Below w.heap.size w w' := by
  have HB : Hid (Below w.heap.size w (w.alloc (.cells #[.slice pb bl bc] 22))) := (Below.refl _ w).alloc (Nat.le_refl _) _
  have H19 : Hid (Calls Tryd.prog 19 #[.slice p len cap, .slice (some ⟨w.heap.size, 0, none⟩) 1 1] (w.alloc (.cells #[.slice pb bl bc] 22)) fun e w' => e = .returned (.agg (u8s (macN ks bs)).toArray) ∧ Below (w.alloc (.cells #[.slice pb bl bc] 22)).heap.size (w.alloc (.cells #[.slice pb bl bc] 22)) w') := by
    have h := macSum_any p len cap ks (by omega) (some ⟨w.heap.size, 0, none⟩) 1 1 (by omega) [bs] (by simp [hB.1]; omega) _ (hT.later HB.out) (hI.later HB.out) (lists_one hB)
    rw [show ([bs] : List (List Nat)).flatten = bs by simp] at h
    exact h
  have HG : Hid (IsBytes w.heap.size w pt tl tc tag) := hG
  have HMl : Hid ((macN ks bs).length = 32) := macN_length _ _
  have HMz : Hid (∀ z ∈ macN ks bs, z < 256) := macN_lt _ _
  have HVl : Hid ((u8s (macN ks bs)).length = 32) := by show _ = _; rw [u8s_length]; exact HMl.out
  have HV1 : Hid (∀ v ∈ u8s (macN ks bs), v.oneCell' = true) := u8s_one _
  clear hT hI hB hG
  generalize macN ks bs = M at *
  generalize hV : u8s M = V at *
  have HV : Hid (u8s M = V) := hV
  clear hV
  go_enter Tryd.func22, Tryd.ntmps22
  go_wp2_with (first
    | (go_at_call 19; refine H19.out.mono ?_; rintro e w1 ⟨rfl, hb1⟩; have hbA : Below w.heap.size w w1 := HB.out.trans (hb1.mono HB.out.size); clear hb1)
    | ((with_reducible show wpList _ _ _ (Oper.mk _ (Op.store 25 (.tmp 7) (.tmp 11)) _ _ _ _ :: _) _ _); refine wpList_store_Row rfl 25 (.tmp 7) (.tmp 11) rfl V rfl rfl (Row.new _ _ _) (by rw [HVl.out]; exact size25) (by rw [HVl.out]; rfl) HV1.out ?_; simp only [Act.put]; rw [z32u8]; have HR : Hid (Row ((w1.alloc (.cells (List.replicate 32 (Value.int .u8 0)).toArray 25)).setCells w1.heap.size 0 V) w1.heap.size 25 (u8s M)) := (by rw [HV.out]; exact Row.sets_all (vs := V) (Row.new w1 25 _) (by rw [HVl.out]; rfl)); have hbB : Below w.heap.size w ((w1.alloc (.cells (List.replicate 32 (Value.int .u8 0)).toArray 25)).setCells w1.heap.size 0 V) := below_setCells hbA.size _ _ (hbA.alloc hbA.size _); generalize ((w1.alloc (.cells (List.replicate 32 (Value.int .u8 0)).toArray 25)).setCells w1.heap.size 0 V) = w2 at *)
    | (go_at_call 36; refine (equal_any _ _ _ _ 32 tl M tag _ (by omega) (by omega) (row_bytes HR.out HMl.out (by omega) HMz.out) (HG.out.later hbB)).mono ?_; rintro e w3 ⟨rfl, hb3⟩))
  go_ret
  exact ⟨rfl, hbB.trans (hb3.mono hbB.size)⟩
end Go.Proofs.YtokjbldelpiejaaDoor
