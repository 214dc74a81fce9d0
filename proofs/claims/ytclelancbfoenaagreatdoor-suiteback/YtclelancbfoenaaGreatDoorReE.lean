/-
  Several texts in one: ReRefPad, ReUnpad.
-/
import Derived.Test.YtclelancbfoenaaGreatDoorBaseAll
import Derived.Test.YtclelancbfoenaaGreatDoorReC
/-
  The reference's Pad: the text filled up in fresh memory, or ErrLong. Nothing that lay before the call has turned.
-/
namespace Go.Proofs.YtclelancbfoenaaGreatDoor.Re
open Go.RowKit

set_option maxRecDepth 100000 in
set_option maxHeartbeats 1000000 in
theorem refPad_some (p : Option Addr) (len cap : Nat) (zs : List Nat) (hlen : len ≤ 65532) (w : World) (hI : IsBytes w.heap.size w p len cap zs) :
    Calls Tryz.prog 45 #[.slice p len cap] w fun e w' => ∃ q c, e = .returned (.tuple #[.slice q (bucketN len) c, .int .i64 0]) ∧
      Own w.heap.size w' (.slice q (bucketN len) c) (padL zs) ∧ Below w.heap.size w w' := by
  have hpos := bucketN_pos (z := (len : Int)) (by omega) (by omega)
  have HI : Hid (IsBytes w.heap.size w p len cap zs) := hI
  have HP : Hid (padL zs = lenL len ++ zs ++ List.replicate (bucketN len - (len + 4)) 0) := by show _ = _; rw [padL, hI.1]
  have HRb : Hid (∀ W, Calls Tryz.prog 66 #[.int .i64 len] W fun e w' => e = .returned (.int .i64 (bucketN len : Nat)) ∧ w' = W) := fun W => refBucket_any _ (by omega) W
  have HF : Hid ((lenL len ++ zs).length = len + 4) := by show _ = _; have := hI.1; simp; omega
  clear hI
  generalize bucketN (len : Int) = K at *
  obtain ⟨hk1, hk2, hk3⟩ := hpos
  have hk0 : ((K : Int) == 0) = false := by simp; omega
  have e1 : IntKind.u64.wrap (len : Int) = (len : Int) := by rw [IntKind.wrap_u64]; omega
  have HK : Hid (len + 4 ≤ K) := by show len + 4 ≤ K; omega
  go_enter Tryz.func45, Tryz.ntmps45
  go_wp2_with (first
    | (go_at_call 66; refine (HRb.out _).mono ?_; rintro e w1 ⟨rfl, hw1⟩; obtain rfl : w = w1 := hw1.symm; clear hw1)
    | (go_at_call 46; refine (put_any len 4 (by decide) _).mono ?_; rintro e w2 ⟨v2, rfl, hown2, hb2⟩; rw [byteVals_len] at hown2; obtain ⟨q2, c2, rfl⟩ := slice_of_row hown2; have HO2 : Hid (Own w.heap.size w2 (.slice q2 4 c2) (lenL len)) := hown2; clear hown2)
    | (at_builtin; refine wpList_append_bytes rfl _ _ rfl w.heap.size (.slice q2 4 c2) (lenL len) rfl HO2.out rfl (HI.out.later hb2) (by simp; omega) hb2.size ?_; intro u3 w3 hown3 hgrow3; have hb3 : Below w.heap.size w w3 := below_own hb2 hb2.size HO2.out hgrow3; obtain ⟨q3, c3, hu3⟩ := own_len hown3 (n := len + 4) HF.out; subst hu3; have HO3 : Hid (Own w.heap.size w3 (.slice q3 (len + 4) c3) (lenL len ++ zs)) := hown3; clear hown3 hgrow3))
  go_loopw [5] (fun v wr => ∃ (j : Nat) (q : Option Addr) (c : Nat), len + 4 + j ≤ K ∧ v = .slice q (len + 4 + j) c ∧ Own w.heap.size wr v (lenL len ++ zs ++ List.replicate j 0) ∧ Below w.heap.size w wr)
    (fun v _ => K - sliceLen v)
  case atStart => exact ⟨0, _, _, HK.out, rfl, by simpa using HO3.out, hb3⟩
  case round =>
    clear HO3 hb3
    obtain ⟨j, q, c, hj, rfl, hown, hbel⟩ := hrel
    have HO : Hid (Own w.heap.size wr (.slice q (len + 4 + j) c) (lenL len ++ zs ++ List.replicate j 0)) := hown
    have hsz : w.heap.size ≤ wr.heap.size := hbel.size
    clear hown
    by_cases hlt : len + 4 + j < K
    · have hlti : ((len + 4 + j : Nat) : Int) < (K : Int) := by omega
      generalize hn : len + 4 + j = n at *
      have HN : Hid (len + 4 + j = n) := hn
      clear hn
      generalize hF : lenL len ++ zs = F at *
      clear hF
      go_wp2_with (at_builtin; refine wpList_append_bytes rfl _ _ rfl w.heap.size (.slice q n c) _ rfl (HO.out.alloc _) rfl (bytes_one wr 0 (by omega)) (by have := HN.out; have := HF.out; simp; omega) (by simp; omega) ?_; intro u2 w2 hown2 hgrow2; have hb2 : Below w.heap.size w w2 := below_own (hbel.alloc hsz _) (by simp; omega) (HO.out.alloc _) hgrow2; obtain ⟨q3, c3, hu2⟩ := own_len hown2 (n := n + 1) (by have := HN.out; have := HF.out; simp; omega); subst hu2; have HO2 : Hid (Own w.heap.size w2 (.slice q3 (n + 1) c3) ((F ++ List.replicate j 0) ++ [0])) := hown2; clear hown2 hgrow2)
      go_roundw
      case rel =>
        have h2 := HO2.out
        rw [List.append_assoc, show List.replicate j 0 ++ [0] = List.replicate (j + 1) 0 from List.replicate_succ'.symm] at h2
        exact ⟨j + 1, q3, c3, by have := HN.out; omega, by rw [← HN.out]; rfl, h2, hb2⟩
      case measure => simp only [sliceLen]; omega
    · have hjK : len + 4 + j = K := by omega
      have hO := HO.out
      rw [show j = K - (len + 4) by omega, ← HP.out, show len + 4 + (K - (len + 4)) = K by omega] at hO
      rw [hjK]
      clear HO hlt hj hjK
      go_wp2
      refine bodyPost_ret (results_tmp2 rfl _ _ _) rfl ?_
      exact ⟨q, c, rfl, hO, hbel⟩

end Go.Proofs.YtclelancbfoenaaGreatDoor.Re
/-
  The reference's Unpad: the text that bytes are filled up from, a part of these bytes, or ErrPad. Nothing that lay before the call has turned.
-/
namespace Go.Proofs.YtclelancbfoenaaGreatDoor.Re
open Go.RowKit

set_option maxHeartbeats 1000000 in
theorem unpad_short (p : Option Addr) (len cap : Nat) (hlen : len < 4) (w : World) :
    Calls Tryz.prog 21 #[.slice p len cap] w fun e w' => e = .returned (.tuple #[.slice none 0 0, .int .i64 50]) ∧ Below w.heap.size w w' := by
  have h4 : (len : Int) < 4 := by omega
  go_enter Tryz.func21, Tryz.ntmps21
  go_wp2
  refine bodyPost_ret (results_tmp2 rfl _ _ _) rfl ?_
  exact ⟨rfl, Below.refl _ _⟩

set_option maxHeartbeats 1000000 in
theorem unpad_far (b off len cap n : Nat) (h4 : 4 ≤ len) (hcap : len ≤ cap) (hcap2 : cap ≤ 9223372036854775807) (hlen : len ≤ 60000) (hn : len < n + 4) (w : World)
    (HN : Hid (Calls Tryz.prog 44 #[.slice (some ⟨b, off, none⟩) 4 cap] w fun e w' => e = .returned (.int .u64 (n : Nat)) ∧ w' = w)) :
    Calls Tryz.prog 21 #[.slice (some ⟨b, off, none⟩) len cap] w fun e w' => e = .returned (.tuple #[.slice none 0 0, .int .i64 50]) ∧ Below w.heap.size w w' := by
  have h0 : ¬ (len : Int) < 4 := by omega
  have e1 : IntKind.i64.wrap ((len : Int) - 4) = (len : Int) - 4 := by rw [IntKind.wrap_i64]; omega
  have e2 : IntKind.u64.wrap ((len : Int) - 4) = (len : Int) - 4 := by rw [IntKind.wrap_u64]; omega
  have h1 : (len : Int) - 4 < (n : Int) := by omega
  go_enter Tryz.func21, Tryz.ntmps21
  go_wp2_with (go_at_call 44; refine HN.out.mono ?_; rintro e w1 ⟨rfl, hw1⟩; obtain rfl : w = w1 := hw1.symm; clear hw1)
  refine bodyPost_ret (results_tmp2 rfl _ _ _) rfl ?_
  exact ⟨rfl, Below.refl _ _⟩

set_option maxRecDepth 100000 in
set_option maxHeartbeats 1000000 in
/-- The walk: n bytes behind the first four are the text; filled up it reads S, what came in reads T; r says whether these are alike. -/
theorem unpad_core (b off len cap n o4 C K : Nat) (r : Bool) (S T : ByteArray) (hS : (S.toList == T.toList) = r) (hc : (cap = 4 ∧ o4 = off ∧ C = 0) ∨ (cap ≠ 4 ∧ o4 = off + 4 ∧ C = cap - 4)) (h4 : 4 ≤ len) (hcap : len ≤ cap) (hcap2 : cap ≤ 9223372036854775807) (hlen : len ≤ 60000) (hn : n + 4 ≤ len) (w : World)
    (HN : Hid (Calls Tryz.prog 44 #[.slice (some ⟨b, off, none⟩) 4 cap] w fun e w' => e = .returned (.int .u64 (n : Nat)) ∧ w' = w))
    (HPa : Hid (Calls Tryz.prog 45 #[.slice (some ⟨b, o4, none⟩) n C] w fun e w' => ∃ q c, e = .returned (.tuple #[.slice q K c, .int .i64 0]) ∧ Str w' (.slice q K c) S ∧ Below w.heap.size w w'))
    (HT : Hid (∀ W, Below w.heap.size w W → Str W (.slice (some ⟨b, off, none⟩) len cap) T)) :
    Calls Tryz.prog 21 #[.slice (some ⟨b, off, none⟩) len cap] w fun e w' => ∃ v, e = .returned (.tuple #[v, .int .i64 (if r then 0 else 50)]) ∧ (v = if r then .slice (some ⟨b, o4, none⟩) n C else .slice none 0 0) ∧ Below w.heap.size w w' := by
  have h0 : ¬ (len : Int) < 4 := by omega
  have e1 : IntKind.i64.wrap ((len : Int) - 4) = (len : Int) - 4 := by rw [IntKind.wrap_i64]; omega
  have e2 : IntKind.u64.wrap ((len : Int) - 4) = (len : Int) - 4 := by rw [IntKind.wrap_u64]; omega
  have e3 : IntKind.u64.wrap (4 + (n : Int)) = 4 + (n : Int) := by rw [IntKind.wrap_u64]; omega
  have h1 : ¬ (len : Int) - 4 < (n : Int) := by omega
  have h2 : (4 : Int) + (n : Int) ≤ (cap : Int) := by omega
  rcases hc with ⟨rfl, rfl, rfl⟩ | ⟨hc, rfl, rfl⟩
  all_goals
    try have hc4 : (cap = 4) = False := by simpa using hc
    cases r
    all_goals
      go_enter Tryz.func21, Tryz.ntmps21
      go_wp2_with (first
        | (go_at_call 44; refine HN.out.mono ?_; rintro e w1 ⟨rfl, hw1⟩; obtain rfl : w = w1 := hw1.symm; clear hw1)
        | (go_at_call 45; refine HPa.out.mono ?_; rintro e w2 ⟨q2, c2, rfl, hs2, hb2⟩; have c1 := hs2.here; have c2 := (HT.out _ hb2).here))
      refine bodyPost_ret (results_tmp2 rfl _ _ _) rfl ?_
      exact ⟨_, rfl, rfl, hb2⟩

theorem numFrom_take (cs : List Nat) : numFrom (cs.take 4) 0 4 = wordAt cs 0 := (numFrom_word _).trans (wordAt_take cs)

/-- Unpad -/
theorem unpad_any (p : Option Addr) (len cap : Nat) (cs : List Nat) (hlen : len ≤ 60000) (w : World) (hI : IsBytes w.heap.size w p len cap cs) :
    Calls Tryz.prog 21 #[.slice p len cap] w fun e w' => ∃ v, e = .returned (.tuple #[v, .int .i64 (errU cs)]) ∧ Str w' v (strOf (textU cs)) ∧ Below w.heap.size w w' := by
  have hcl := hI.1
  by_cases h4 : 4 ≤ len
  · obtain ⟨b, off, rfl, hbb, hcs⟩ : ∃ b off, p = some ⟨b, off, none⟩ ∧ b < w.heap.size ∧ ∀ i, i < len → w.cell? ⟨b, off + i, none⟩ = some (.int .u8 (cs.getD i 0 : Nat)) := by
      rcases hI.2.2.2.2 with h | h
      · omega
      · exact h
    have HN : Hid (Calls Tryz.prog 44 #[.slice (some ⟨b, off, none⟩) 4 cap] w fun e w' => e = .returned (.int .u64 (wordAt cs 0 : Nat)) ∧ w' = w) := by
      have h := number_some b off 4 cap (cs.take 4) w (by decide) (fun z hz => hI.2.2.2.1 z (List.mem_of_mem_take hz)) (fun i hi => by rw [hcs i (by omega)]; simp [hi])
      rw [numFrom_take] at h
      exact h
    by_cases hn : wordAt cs 0 + 4 ≤ len
    · have hT : (toldL cs).length = wordAt cs 0 := toldL_length (by omega)
      have hTz : ∀ z ∈ toldL cs, z < 256 := toldL_lt hI.2.2.2.1
      have hp : IsPad cs ↔ padL (toldL cs) = cs := ⟨fun h => h.2.2, fun h => ⟨by omega, by omega, h⟩⟩
      obtain ⟨o4, C, hc⟩ : ∃ o4 C, (cap = 4 ∧ o4 = off ∧ C = 0) ∨ (cap ≠ 4 ∧ o4 = off + 4 ∧ C = cap - 4) := by
        by_cases h : cap = 4
        · exact ⟨off, 0, .inl ⟨h, rfl, rfl⟩⟩
        · exact ⟨off + 4, cap - 4, .inr ⟨h, rfl, rfl⟩⟩
      have hIt : IsBytes w.heap.size w (some ⟨b, o4, none⟩) (wordAt cs 0) C (toldL cs) := by
        have h2 := hI.2.1
        have h3 := hI.2.2.1
        refine ⟨hT, by omega, by omega, hTz, ?_⟩
        rcases hc with ⟨h, _, _⟩ | ⟨_, rfl, rfl⟩
        · exact .inl (by omega)
        · refine .inr ⟨b, off + 4, rfl, hbb, fun i hi => ?_⟩
          rw [show off + 4 + i = off + (4 + i) by omega, hcs (4 + i) (by omega)]
          simp [toldL, hi]
      have hse : ((strOf (padL (toldL cs))).toList == (strOf cs).toList) = decide (padL (toldL cs) = cs) := strOf_eq _ _ (padL_lt hTz) hI.2.2.2.1
      refine (unpad_core b off len cap (wordAt cs 0) o4 C (bucketN (wordAt cs 0)) (decide (padL (toldL cs) = cs)) (strOf (padL (toldL cs))) (strOf cs) hse hc h4 hI.2.1 hI.2.2.1 hlen hn w HN ?_ ?_).mono ?_
      · refine (refPad_some _ _ _ _ (by omega) w hIt).mono ?_
        rintro e w' ⟨q, c, rfl, ho, hb⟩
        exact ⟨q, c, rfl, str_of_row (by rw [padL_length (by omega), hT]) (by have h := ho; unfold Own at h; rwa [padL_length (by omega), hT] at h), hb⟩
      · intro W hW
        exact str_of_bytes (hI.later hW)
      · rintro e w' ⟨v, rfl, rfl, hbel⟩
        by_cases he : padL (toldL cs) = cs
        · rw [errU_pos (hp.2 he), textU_pos (hp.2 he), decide_eq_true he]
          exact ⟨_, rfl, str_of_bytes (hIt.later hbel), hbel⟩
        · rw [errU_neg (fun h => he (hp.1 h)), textU_neg (fun h => he (hp.1 h)), decide_eq_false he]
          exact ⟨_, rfl, str_none _ _ _, hbel⟩
    · have hp : ¬ IsPad cs := fun h => hn (by have := h.2.1; omega)
      rw [errU_neg hp, textU_neg hp]
      refine (unpad_far b off len cap (wordAt cs 0) h4 hI.2.1 hI.2.2.1 hlen (by omega) w HN).mono ?_
      rintro e w' ⟨rfl, hbel⟩
      exact ⟨_, rfl, str_none _ _ _, hbel⟩
  · have hp : ¬ IsPad cs := fun h => h4 (by have := h.1; omega)
    rw [errU_neg hp, textU_neg hp]
    refine (unpad_short p len cap (by omega) w).mono ?_
    rintro e w' ⟨rfl, hbel⟩
    exact ⟨_, rfl, str_none _ _ _, hbel⟩

end Go.Proofs.YtclelancbfoenaaGreatDoor.Re
