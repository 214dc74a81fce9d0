/-
  The reference's Pad: the text filled up in fresh memory, or ErrLong. Nothing that lay before the call has turned.
-/
import Derived.Test.YtclelancbfoenaaGreatDoorMade
import Derived.Test.YtclelancbfoenaaGreatDoorRePut
namespace Go.Proofs.YtclelancbfoenaaGreatDoor.Re
open Go.RowKit

set_option maxRecDepth 100000 in
set_option maxHeartbeats 1000000 in
theorem refPad_some (p : Option Addr) (len cap : Nat) (zs : List Nat) (hlen : len ≤ 65532) (w : World) (hI : IsBytes w.heap.size w p len cap zs) :
    Calls Tryz.prog 45 #[.slice p len cap] w fun e w' => ∃ q c, e = .returned (.tuple #[.slice q (bucketN len) c, .int .i64 0]) ∧
      Own w.heap.size w' (.slice q (bucketN len) c) (padL zs) ∧ Below w.heap.size w w' := by
  have hpos := bucketN_pos (z := (len : Int)) (by omega) (by omega)
  have HI : Hid (IsBytes w.heap.size w p len cap zs) := hI
  have HP : Hid (padL zs = lenL len ++ zs ++ List.replicate (bucketN len - (len + 4)) 0) := by show _ = _; rw [padL, hI.1]
  have HRb : Hid (∀ W, Calls Tryz.prog 66 #[.int .i64 len] W fun e w' => e = .returned (.int .i64 (bucketN len : Nat)) ∧ w' = W) := fun W => refBucket_any _ (by omega) W
  have HF : Hid ((lenL len ++ zs).length = len + 4) := by show _ = _; have := hI.1; simp; omega
  clear hI
  generalize bucketN (len : Int) = K at *
  obtain ⟨hk1, hk2, hk3⟩ := hpos
  have hk0 : ((K : Int) == 0) = false := by simp; omega
  have e1 : IntKind.u64.wrap (len : Int) = (len : Int) := by rw [IntKind.wrap_u64]; omega
  have HK : Hid (len + 4 ≤ K) := by show len + 4 ≤ K; omega
  go_enter Tryz.func45, Tryz.ntmps45
  go_wp2_with (first
    | (go_at_call 66; refine (HRb.out _).mono ?_; rintro e w1 ⟨rfl, hw1⟩; obtain rfl : w = w1 := hw1.symm; clear hw1)
    | (go_at_call 46; refine (put_any len 4 (by decide) _).mono ?_; rintro e w2 ⟨v2, rfl, hown2, hb2⟩; rw [byteVals_len] at hown2; obtain ⟨q2, c2, rfl⟩ := slice_of_row hown2; have HO2 : Hid (Own w.heap.size w2 (.slice q2 4 c2) (lenL len)) := hown2; clear hown2)
    | (at_builtin; refine wpList_append_bytes rfl _ _ rfl w.heap.size (.slice q2 4 c2) (lenL len) rfl HO2.out rfl (HI.out.later hb2) (by simp; omega) hb2.size ?_; intro u3 w3 hown3 hgrow3; have hb3 : Below w.heap.size w w3 := below_own hb2 hb2.size HO2.out hgrow3; obtain ⟨q3, c3, hu3⟩ := own_len hown3 (n := len + 4) HF.out; subst hu3; have HO3 : Hid (Own w.heap.size w3 (.slice q3 (len + 4) c3) (lenL len ++ zs)) := hown3; clear hown3 hgrow3))
  go_loopw [5] (fun v wr => ∃ (j : Nat) (q : Option Addr) (c : Nat), len + 4 + j ≤ K ∧ v = .slice q (len + 4 + j) c ∧ Own w.heap.size wr v (lenL len ++ zs ++ List.replicate j 0) ∧ Below w.heap.size w wr)
    (fun v _ => K - sliceLen v)
  case atStart => exact ⟨0, _, _, HK.out, rfl, by simpa using HO3.out, hb3⟩
  case round =>
    clear HO3 hb3
    obtain ⟨j, q, c, hj, rfl, hown, hbel⟩ := hrel
    have HO : Hid (Own w.heap.size wr (.slice q (len + 4 + j) c) (lenL len ++ zs ++ List.replicate j 0)) := hown
    have hsz : w.heap.size ≤ wr.heap.size := hbel.size
    clear hown
    by_cases hlt : len + 4 + j < K
    · have hlti : ((len + 4 + j : Nat) : Int) < (K : Int) := by omega
      generalize hn : len + 4 + j = n at *
      have HN : Hid (len + 4 + j = n) := hn
      clear hn
      generalize hF : lenL len ++ zs = F at *
      clear hF
      go_wp2_with (at_builtin; refine wpList_append_bytes rfl _ _ rfl w.heap.size (.slice q n c) _ rfl (HO.out.alloc _) rfl (bytes_one wr 0 (by omega)) (by have := HN.out; have := HF.out; simp; omega) (by simp; omega) ?_; intro u2 w2 hown2 hgrow2; have hb2 : Below w.heap.size w w2 := below_own (hbel.alloc hsz _) (by simp; omega) (HO.out.alloc _) hgrow2; obtain ⟨q3, c3, hu2⟩ := own_len hown2 (n := n + 1) (by have := HN.out; have := HF.out; simp; omega); subst hu2; have HO2 : Hid (Own w.heap.size w2 (.slice q3 (n + 1) c3) ((F ++ List.replicate j 0) ++ [0])) := hown2; clear hown2 hgrow2)
      go_roundw
      case rel =>
        have h2 := HO2.out
        rw [List.append_assoc, show List.replicate j 0 ++ [0] = List.replicate (j + 1) 0 from List.replicate_succ'.symm] at h2
        exact ⟨j + 1, q3, c3, by have := HN.out; omega, by rw [← HN.out]; rfl, h2, hb2⟩
      case measure => simp only [sliceLen]; omega
    · have hjK : len + 4 + j = K := by omega
      have hO := HO.out
      rw [show j = K - (len + 4) by omega, ← HP.out, show len + 4 + (K - (len + 4)) = K by omega] at hO
      rw [hjK]
      clear HO hlt hj hjK
      go_wp2
      refine bodyPost_ret (results_tmp2 rfl _ _ _) rfl ?_
      exact ⟨q, c, rfl, hO, hbel⟩

end Go.Proofs.YtclelancbfoenaaGreatDoor.Re
