/-
  pad.Put: the text filled up in fresh memory, or ErrLong. Nothing that lay before the call has turned.
-/
import Derived.Test.YtclelancbfoenaaGreatDoorMade
import Derived.Test.YtclelancbfoenaaGreatDoorRePadSpec
import Derived.Test.YtclelancbfoenaaGreatDoorBucket
import Derived.Test.YtclelancbfoenaaGreatDoorMem
import Derived.Laws.CopyOwn
namespace Go.Proofs.YtclelancbfoenaaGreatDoor.Re
open Go.RowKit
theorem splice_pad (n K : Nat) (zs : List Nat) (hn : zs.length = n) (hK : n + 4 ≤ K) : splice (splice (u8s (List.replicate K 0)) 0 (u8s (lenL n))) 4 (u8s zs) = u8s (lenL n ++ zs ++ List.replicate (K - (n + 4)) 0) := by
  have h1 : splice (u8s (List.replicate K 0)) 0 (u8s (lenL n)) = u8s (lenL n) ++ u8s (List.replicate (K - 4) 0) := by
    simp [splice, u8s]
  rw [h1]
  simp only [splice, u8s_length, hn]
  rw [List.take_append_of_le_length (by simp), List.take_of_length_le (by simp), List.drop_append, List.drop_eq_nil_of_le (by simp), ← List.append_assoc, List.nil_append, ← u8s_append, ← u8s_append]
  congr 1
  simp [u8s]
  omega

set_option maxHeartbeats 1000000 in
theorem put_long (p : Option Addr) (len cap : Nat) (hlen : 65532 < len) (hl2 : len ≤ 9223372036854775807) (w : World) :
    Calls Tryz.prog 31 #[.slice p len cap] w fun e w' => e = .returned (.tuple #[.slice none 0 0, .int .i64 2]) ∧ Below w.heap.size w w' := by
  have b0 : bucketN (len : Int) = 0 := bucketN_none (.inr (by omega))
  go_enter Tryz.func31, Tryz.ntmps31
  go_wp2_with (go_at_call 25; refine (bucket_any _ (by omega) _).mono ?_; rintro e w1 ⟨rfl, hb⟩; rw [b0])
  refine bodyPost_ret (results_tmp2 rfl _ _ _) rfl ?_
  exact ⟨rfl, hb⟩

set_option maxRecDepth 100000 in
set_option maxHeartbeats 1000000 in
theorem put_some (p : Option Addr) (len cap : Nat) (zs : List Nat) (hlen : len ≤ 65532) (w : World) (hI : IsBytes w.heap.size w p len cap zs) :
    Calls Tryz.prog 31 #[.slice p len cap] w fun e w' => ∃ g, e = .returned (.tuple #[.slice (some ⟨g, 0, none⟩) (bucketN len) (bucketN len), .int .i64 0]) ∧
      Own w.heap.size w' (.slice (some ⟨g, 0, none⟩) (bucketN len) (bucketN len)) (padL zs) ∧ Below w.heap.size w w' := by
  obtain ⟨i0, hi, hz0, hz1, hz2⟩ := info_parts info5
  have hpos := bucketN_pos (z := (len : Int)) (by omega) (by omega)
  have HI : Hid (IsBytes w.heap.size w p len cap zs) := hI
  have HP : Hid (padL zs = lenL len ++ zs ++ List.replicate (bucketN len - (len + 4)) 0) := by show _ = _; rw [padL, hI.1]
  clear hI
  have HBk : Hid (∀ w, Calls Tryz.prog 25 #[.int .i64 len] w fun e w' => e = .returned (.int .i64 (bucketN len : Nat)) ∧ Below w.heap.size w w') := fun w => bucket_any _ (by omega) _
  generalize bucketN (len : Int) = K at *
  obtain ⟨hk1, hk2, hk3⟩ := hpos
  have hk0 : ((K : Int) == 0) = false := by simp; omega
  have hk4 : (K = 4) = False := by simp; omega
  have hk5 : (4 : Int) ≤ (K : Int) := by omega
  have e1 : IntKind.u32.wrap (len : Int) = (len : Int) := by rw [IntKind.wrap_u32]; omega
  have HK : Hid (len + 4 ≤ K) := by show len + 4 ≤ K; omega
  go_enter Tryz.func31, Tryz.ntmps31
  go_wp2_with (first
    | (go_at_call 25; refine (HBk.out _).mono ?_; rintro e w1 ⟨rfl, hb1⟩)
    | (at_make; refine wpList_make_full _ rfl _ _ 24 rfl w1.heap.size 5 i0 (.int .u8 0) 1 Tryz.underlying24 hi hz0 hz1 _ _ _ _ K rfl rfl (by omega) (by omega) (by rw [hz2]; omega) (by simp only [maxLen]; omega) (Nat.le_refl _) ?_; intro w2 hown2 hgrow2; rw [made_zeros] at hown2; have HR2 : Hid (Row w2 w1.heap.size 5 (u8s (List.replicate K 0))) := row_of_made hown2; have hb2 : Below w1.heap.size w1 w2 := ((Below.refl _ w1).grown hgrow2 (Nat.le_refl _) (fun k e => by cases e)); clear hown2 hgrow2)
    | (go_at_call 56; refine (bytes_some w2.heap.size 0 1 1 [len] _ (by decide) (by simp) (fun i hi => by obtain rfl : i = 0 := (by omega); exact (Row.new w2 53 #[.int .u32 (len : Nat)]).cell (i := 0) rfl)).mono ?_; rintro e w3 ⟨v3, rfl, hown3, hb3⟩; rw [show 4 * 1 = 4 from rfl, bytesOf_len] at hown3; obtain ⟨q3, c3, rfl⟩ := slice_of_row hown3; have HI3 : Hid (IsBytes w3.heap.size w3 q3 4 c3 (lenL len)) := Own.bytes (zs := lenL len) hown3 (lenL_lt _); have HR3 : Hid (Row w3 w1.heap.size 5 (u8s (List.replicate K 0))) := (HR2.out.alloc _).later hb3; have hb13 : Below w1.heap.size w1 w3 := ((hb2.alloc hb2.size _).trans (hb3.mono (by have := hb2.size; simp only [World.size_alloc]; omega))); clear hown3 hb3)
    | ((with_reducible show wpList _ _ _ (Oper.mk (some 19) _ _ _ _ _ :: _) _ _); refine wpList_copy_splice rfl (.tmp 13) (.tmp 18) 24 24 rfl 5 Tryz.underlying24 size5 _ _ _ _ _ _ rfl rfl w1.heap.size 0 (u8s (List.replicate K 0)) 5 HR3.out (u8s (lenL len)) (by rw [u8s_length, lenL_length]; exact (Nat.min_eq_left (by omega)).symm) (fun h0 => ⟨rfl, bytes_src HI3.out h0⟩) (by simp; omega) (u8s_one _) w1.heap.size w1 hb13 (Nat.le_refl _) ?_; intro w4 HG4 hb4; rw [u8s_length, lenL_length])
    | ((with_reducible show wpList _ _ _ (Oper.mk (some 23) _ _ _ _ _ :: _) _ _); refine wpList_copy_splice rfl (.tmp 21) (.tmp 22) 24 24 rfl 5 Tryz.underlying24 size5 _ _ _ _ _ _ rfl rfl w1.heap.size 4 (splice (u8s (List.replicate K 0)) 0 (u8s (lenL len))) 5 HG4.out (u8s zs) (by rw [u8s_length, HI.out.1]; exact (Nat.min_eq_left (by omega)).symm) (fun h0 => ⟨rfl, bytes_src ((HI.out.later hb1).below hb4) h0⟩) (by rw [length_splice _ _ _ (by simp; omega)]; have := HI.out.1; simp; omega) (u8s_one _) w1.heap.size w1 hb4 (Nat.le_refl _) ?_; intro w5 HG5 hb5; rw [u8s_length, HI.out.1]))
  refine bodyPost_ret (results_tmp2 rfl _ _ _) rfl ?_
  have hg := HG5.out
  rw [splice_pad len K zs HI.out.1 HK.out, ← HP.out] at hg
  have hl : (padL zs).length = K := by rw [HP.out]; have := HI.out.1; simp; omega
  have ho := own_of_row (W := w5) (n₀ := w.heap.size) (g := w1.heap.size) (zs := padL zs) hg hb1.size (by omega)
  rw [hl] at ho
  exact ⟨w1.heap.size, rfl, ho, hb1.trans (hb5.mono hb1.size)⟩

end Go.Proofs.YtclelancbfoenaaGreatDoor.Re
