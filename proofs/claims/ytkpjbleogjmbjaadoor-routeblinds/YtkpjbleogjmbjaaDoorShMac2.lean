/-
  What mac.Sum answers: the HMAC of the parts, one behind the other. Nothing that lay before the call has turned.
-/
import Derived.Test.YtkpjbleogjmbjaaDoorBaseAll
import Derived.Test.YtkpjbleogjmbjaaDoorShMac1
namespace Go.Proofs.YtkpjbleogjmbjaaDoor.Sh
open Go Go.RowKit

theorem flat_succ (ts : List (List Nat)) (k : Nat) (hk : k < ts.length) : (ts.take k).flatten ++ ts.getD k [] = (ts.take (k + 1)).flatten := by
  rw [List.take_succ_eq_append_getElem hk, List.flatten_append]
  simp [List.getElem?_eq_getElem hk]
theorem flat_lt {n₀ : Nat} {W : World} {p : Option Addr} {len cap : Nat} {ts : List (List Nat)} (h : IsLists n₀ W p len cap ts) : ∀ z ∈ ts.flatten, z < 256 := by
  intro z hz
  obtain ⟨t, ht, hzt⟩ := List.mem_flatten.1 hz
  obtain ⟨i, hi, rfl⟩ := List.mem_iff_getElem.1 ht
  rcases h.2.2 with h0 | ⟨b, off, _, _, hc⟩
  · have := h.1; omega
  · obtain ⟨q, l, c, _, hI⟩ := hc i (by have := h.1; omega)
    refine hI.2.2.2.1 z ?_
    simpa [List.getElem?_eq_getElem hi] using hzt

theorem flat_take_le (ts : List (List Nat)) (k : Nat) : (ts.take k).flatten.length ≤ ts.flatten.length := by
  have h := congrArg (fun l => l.flatten.length) (List.take_append_drop k ts)
  simp only [List.flatten_append, List.length_append] at h
  omega

set_option maxRecDepth 100000 in
set_option maxHeartbeats 400000 in
/-- mac.Sum -/
theorem macSum_any (p : Option Addr) (len cap : Nat) (ks : List Nat) (hlen : len ≤ 60000) (pp : Option Addr) (pl pc : Nat) (hpl : pl ≤ 1000) (ts : List (List Nat)) (hts : ts.flatten.length ≤ 50000) (w : World) (hT : Tab w) (hI : IsBytes w.heap.size w p len cap ks) (hL : IsLists w.heap.size w pp pl pc ts) :
    Calls Tryd.prog 27 #[.slice p len cap, .slice pp pl pc] w fun e w' => e = .returned (.agg (u8s (macN ks ts.flatten)).toArray) ∧ Below w.heap.size w w' := by
  have HT : Hid (Tab w) := hT
  have HL : Hid (IsLists w.heap.size w pp pl pc ts) := hL
  have HFz : Hid (∀ z ∈ ts.flatten, z < 256) := flat_lt hL
  have HTl : Hid (ts.length = pl) := hL.1
  have HKz : Hid (∀ z ∈ keyL ks, z < 256) := keyL_lt ks hI.2.2.2.1
  have HKn : Hid ((keyL ks).length = 64) := keyL_length ks
  have H34 : Hid (∀ W, Below w.heap.size w W → Calls Tryd.prog 32 #[.slice p len cap] W fun e w' => e = .returned (.agg (u8s (keyL ks)).toArray) ∧ Below W.heap.size W w') := fun W hb => filledKey_any p len cap ks hlen W (hT.later hb) (hI.later hb)
  have H35 : Hid (∀ (W : World) (m : Nat), m < 256 → Tab W → Calls Tryd.prog 33 #[.agg (u8s (keyL ks)).toArray, .int .u8 m] W fun e w' => ∃ B, e = .returned (.pointer (some ⟨B, 0, none⟩)) ∧ W.heap.size ≤ B ∧ RunAt w' B (xorL (keyL ks) m) ∧ Below W.heap.size W w') := fun W m hm hT => begun_any (keyL ks) HKn.out HKz.out m hm W hT
  have HKl : Hid ((u8s (keyL ks)).length = 64) := by show _ = _; rw [u8s_length]; exact HKn.out
  have HK1 : Hid (∀ v ∈ u8s (keyL ks), v.oneCell' = true) := u8s_one _
  obtain ⟨X, hX⟩ : ∃ X, X = xorL (keyL ks) 54 := ⟨_, rfl⟩
  have HXl : Hid (X.length = 64) := by show _ = _; rw [hX, xorL_length, HKn.out]
  have HXz : Hid (∀ z ∈ X, z < 256) := by rw [hX]; exact xorL_lt _ _ (by decide) HKz.out
  obtain ⟨Y, hY⟩ : ∃ Y, Y = xorL (keyL ks) 92 := ⟨_, rfl⟩
  have HYl : Hid (Y.length = 64) := by show _ = _; rw [hY, xorL_length, HKn.out]
  have HYz : Hid (∀ z ∈ Y, z < 256) := by rw [hY]; exact xorL_lt _ _ (by decide) HKz.out
  have HMac : Hid (macN ks ts.flatten = sumN (Y ++ sumN (X ++ ts.flatten))) := by show _ = _; rw [hX, hY, macN]
  have H35a : Hid (∀ W, Tab W → Calls Tryd.prog 33 #[.agg (u8s (keyL ks)).toArray, .int .u8 54] W fun e w' => ∃ B, e = .returned (.pointer (some ⟨B, 0, none⟩)) ∧ W.heap.size ≤ B ∧ RunAt w' B X ∧ Below W.heap.size W w') := fun W hT => by rw [hX]; exact H35.out W 54 (by omega) hT
  have H35b : Hid (∀ W, Tab W → Calls Tryd.prog 33 #[.agg (u8s (keyL ks)).toArray, .int .u8 92] W fun e w' => ∃ B, e = .returned (.pointer (some ⟨B, 0, none⟩)) ∧ W.heap.size ≤ B ∧ RunAt w' B Y ∧ Below W.heap.size W w') := fun W hT => by rw [hY]; exact H35.out W 92 (by omega) hT
  clear hT hI hL hX hY H35
  generalize u8s (keyL ks) = KV at *
  go_enter Tryd.func27, Tryd.ntmps27
  go_wp2_with (first
    | (go_at_call 32; refine (H34.out _ ((Below.refl _ w).alloc (Nat.le_refl _) _)).mono ?_; rintro e w1 ⟨rfl, hb1⟩; have hs1 : w.heap.size + 1 ≤ w1.heap.size := (by have h := hb1.size; rwa [World.size_alloc] at h); have HbA : Hid (Below w.heap.size w w1) := ((Below.refl _ w).alloc (Nat.le_refl _) _).trans (hb1.mono (by simp)); have HZ1 : Hid (Row w1 w.heap.size 34 (List.replicate 32 (.int .u8 0))) := (Row.new w 34 _).later hb1; clear hb1)
    | ((with_reducible show wpList _ _ _ (Oper.mk _ (Op.store 91 (.tmp 5) (.tmp 12)) _ _ _ _ :: _) _ _); refine wpList_store_Row rfl 91 (.tmp 5) (.tmp 12) rfl KV rfl rfl (Row.new _ _ _) (by rw [HKl.out]; exact size91') (by rw [HKl.out]; rfl) HK1.out ?_; simp only [Act.put])
    | ((with_reducible show wpList _ _ _ (Oper.mk _ (Op.load 91 (.tmp 5)) _ _ _ _ :: _) _ _); refine wpList_load_Row rfl 91 (.tmp 5) rfl rfl (Row.sets_all (Row.new w1 _ _) (by rw [HKl.out]; rfl)) Tryd.underlying91 (by rw [HKl.out]; exact size91') ?_; simp only [Act.put, List.setIfInBounds_toArray, List.set_cons_zero, List.set_cons_succ])
    | (go_at_call 33; refine (H35a.out _ (HT.out.below (below_setCells (by omega) _ _ (HbA.out.alloc HbA.out.size _)) HT.out.pos)).mono ?_; rintro e w2 ⟨B, rfl, hBs, hrun2, hb2⟩; have HRun2 : Hid (RunAt w2 B X) := hrun2; have Hb2 : Hid (Below _ _ w2) := hb2; have hBw : w1.heap.size + 1 ≤ B := (by rwa [size_setCells, World.size_alloc] at hBs); clear hrun2 hb2 hBs))
  have hb2 := Hb2.out
  have rZ2 : Row w2 w.heap.size 34 (List.replicate 32 (.int .u8 0)) := (Row.others (by omega) KV 0 (HZ1.out.alloc _)).later hb2
  have rK2 : Row w2 w1.heap.size 91 KV := (Row.sets_all (Row.new w1 _ _) (by rw [HKl.out]; rfl)).later hb2
  have hbB : Below w.heap.size w w2 := (below_setCells (by omega) _ _ (HbA.out.alloc HbA.out.size _)).trans (hb2.mono (by rw [size_setCells, World.size_alloc]; omega))
  clear hb2 Hb2 HZ1 HbA
  go_loopw [17] (fun i wr => ∃ k : Nat, k ≤ pl ∧ i = .int .i64 k ∧ RunAt wr B (X ++ (ts.take k).flatten) ∧ Row wr w.heap.size 34 (List.replicate 32 (.int .u8 0)) ∧ Row wr w1.heap.size 91 KV ∧ Below w.heap.size w wr)
    (fun i _ => pl - (intOf i).toNat)
  case atStart => exact ⟨0, Nat.zero_le _, rfl, by simpa using HRun2.out, rZ2, rK2, hbB⟩
  case round =>
    clear rZ2 rK2 hbB HRun2
    obtain ⟨k, hk, rfl, hrun, hrZ, hrK, hbel⟩ := hrel
    have hsz := hbel.size
    by_cases hlt : k < pl
    · have hki : (k : Int) < (pl : Int) := by omega
      obtain ⟨b, off, rfl, hb, hcell⟩ : ∃ b off, pp = some ⟨b, off, none⟩ ∧ b < w.heap.size ∧ ∀ i, i < pl → ∃ q l c, wr.cell? ⟨b, off + i, none⟩ = some (.slice q l c) ∧ IsBytes w.heap.size wr q l c (ts.getD i []) := by
        rcases (HL.out.below hbel).2.2 with h | h
        · omega
        · exact h
      obtain ⟨q1, l1, c1, hc1, hI1⟩ := hcell k hlt
      have HFs : Hid ((X ++ (ts.take k).flatten) ++ ts.getD k [] = X ++ (ts.take (k + 1)).flatten) := by show _ = _; rw [List.append_assoc, flat_succ ts k (by rw [HTl.out]; exact hlt)]
      have hl1 := flat_take_le ts (k + 1)
      have hl2 := congrArg List.length HFs.out
      simp only [List.length_append, hI1.1, HXl.out] at hl2
      have HM : Hid (Calls Tryd.prog 34 #[.pointer (some ⟨B, 0, none⟩), .slice q1 l1 c1] wr fun e w' => (∃ v, e = .returned v) ∧ RunAt w' B (X ++ (ts.take (k + 1)).flatten) ∧ But B wr.heap.size wr w') := by
        rw [← HFs.out]
        exact more_any B (by omega) _ _ q1 l1 c1 wr (HT.out.below hbel HT.out.pos) hrun (hI1.mono hsz) (by
          rcases hI1.2.2.2.2 with h | ⟨b', off', e, hb', _⟩
          · exact .inl h
          · exact .inr (fun a ha => by rw [e] at ha; cases ha; show b' ≠ B; omega)) (by rw [List.length_append, HXl.out]; omega) (fun z hz => by
          rcases List.mem_append.1 hz with h | h
          · exact HXz.out z h
          · obtain ⟨t, ht, hzt⟩ := List.mem_flatten.1 h
            exact HFz.out z (List.mem_flatten.2 ⟨t, List.mem_of_mem_take ht, hzt⟩))
      have HrZ : Hid (Row wr w.heap.size 34 (List.replicate 32 (.int .u8 0))) := hrZ
      have HrK : Hid (Row wr w1.heap.size 91 KV) := hrK
      have hlZ := hrZ.lt
      have hlK := hrK.lt
      clear hrun hrZ hrK hcell hI1 hl1 hl2
      go_wp2_with (go_at_call 34; refine HM.out.mono ?_; rintro e w5 ⟨⟨v5, rfl⟩, hrun5, hbut5⟩; have Hrun5 : Hid (RunAt w5 B (X ++ (ts.take (k + 1)).flatten)) := hrun5; have Hbut5 : Hid (But B wr.heap.size wr w5) := hbut5; clear hrun5 hbut5)
      go_roundw
      case rel => exact ⟨k + 1, by omega, by go_num, Hrun5.out, Hbut5.out.row hlZ (by omega) HrZ.out, Hbut5.out.row hlK (by omega) HrK.out, hbel.trans (Hbut5.out.below hsz (by omega))⟩
      case measure => simp [intOf]; omega
    · obtain rfl : k = pl := by omega
      rw [List.take_of_length_le (by rw [HTl.out]; exact Nat.le_refl _)] at hrun
      obtain ⟨IN, hIN⟩ : ∃ IN, IN = sumN (X ++ ts.flatten) := ⟨_, rfl⟩
      have HINl : Hid (IN.length = 32) := by show _ = _; rw [hIN]; exact sumN_length _
      have HINz : Hid (∀ z ∈ IN, z < 256) := by rw [hIN]; exact sumN_lt _
      have H17a : Hid (Calls Tryd.prog 35 #[.pointer (some ⟨B, 0, none⟩)] wr fun e w' => e = .returned (.agg (u8s IN).toArray) ∧ Below wr.heap.size wr w') := by
        rw [hIN]
        exact rsum_any B _ (by rw [List.length_append, HXl.out]; omega) (fun z hz => by
          rcases List.mem_append.1 hz with h | h
          · exact HXz.out z h
          · exact HFz.out z h) wr (HT.out.below hbel HT.out.pos) hrun
      have H17b : Hid (∀ W B', Tab W → RunAt W B' (Y ++ IN) → Calls Tryd.prog 35 #[.pointer (some ⟨B', 0, none⟩)] W fun e w' => e = .returned (.agg (u8s (macN ks ts.flatten)).toArray) ∧ Below W.heap.size W w') := fun W B' hT hR => by
        rw [HMac.out, ← hIN]
        exact rsum_any B' _ (by rw [List.length_append, HYl.out, HINl.out]; omega) (fun z hz => by
          rcases List.mem_append.1 hz with h | h
          · exact HYz.out z h
          · exact HINz.out z h) W hT hR
      have HIl : Hid ((u8s IN).length = 32) := by show _ = _; rw [u8s_length]; exact HINl.out
      have HI1 : Hid (∀ v ∈ u8s IN, v.oneCell' = true) := u8s_one _
      have HVl : Hid ((u8s (macN ks ts.flatten)).length = 32) := by show _ = _; rw [u8s_length]; exact macN_length _ _
      have HV1 : Hid (∀ v ∈ u8s (macN ks ts.flatten), v.oneCell' = true) := u8s_one _
      generalize hVV : u8s (macN ks ts.flatten) = VV at *
      have HVV : Hid (u8s (macN ks ts.flatten) = VV) := hVV
      have HrZ : Hid (Row wr w.heap.size 34 (List.replicate 32 (.int .u8 0))) := hrZ
      have HrK : Hid (Row wr w1.heap.size 91 KV) := hrK
      have hlZ := hrZ.lt
      have hlK := hrK.lt
      clear hrun hrZ hrK hIN hVV HMac
      generalize hIV : u8s IN = IV at *
      have HIV : Hid (u8s IN = IV) := hIV
      clear hIV
      go_wp2_with (first
        | (go_at_call 35; have h17 := H17a.out; clear H17a; refine h17.mono ?_; clear h17; rintro e w3 ⟨rfl, hb3⟩; have Hb3 : Hid (Below wr.heap.size wr w3) := hb3; have hs3 := hb3.size; clear hb3)
        | ((with_reducible show wpList _ _ _ (Oper.mk _ (Op.store 34 (.tmp 9) (.tmp 26)) _ _ _ _ :: _) _ _); refine wpList_store_Row rfl 34 (.tmp 9) (.tmp 26) rfl IV rfl rfl (Row.new _ _ _) (by rw [HIl.out]; exact size34) (by rw [HIl.out]; rfl) HI1.out ?_; simp only [Act.put])
        | ((with_reducible show wpList _ _ _ (Oper.mk _ (Op.load 91 (.tmp 5)) _ _ _ _ :: _) _ _); refine wpList_load_Row rfl 91 (.tmp 5) rfl rfl (Row.others (by omega) IV 0 ((HrK.out.later Hb3.out).alloc _)) Tryd.underlying91 (by rw [HKl.out]; exact size91') ?_; simp only [Act.put, List.setIfInBounds_toArray, List.set_cons_zero, List.set_cons_succ])
        | (go_at_call 33; refine (H35b.out _ (HT.out.below (below_setCells (b := w3.heap.size) (by omega) IV 0 ((hbel.trans (Hb3.out.mono hsz)).alloc (by omega) _)) HT.out.pos)).mono ?_; rintro e w4 ⟨B2, rfl, hBs4, hrun4, hb4⟩; have HRun4 : Hid (RunAt w4 B2 Y) := hrun4; have HI4 : Hid (Row w4 w3.heap.size 34 IV) := (Row.sets_all (vs := IV) (Row.new w3 _ _) (by rw [HIl.out]; rfl)).later hb4; have HZ4 : Hid (Row w4 w.heap.size 34 (List.replicate 32 (.int .u8 0))) := (Row.others (by omega) IV 0 ((HrZ.out.later Hb3.out).alloc _)).later hb4; have HbF : Hid (Below w.heap.size w w4) := (below_setCells (b := w3.heap.size) (by omega) IV 0 ((hbel.trans (Hb3.out.mono hsz)).alloc (by omega) _)).trans (hb4.mono (by rw [size_setCells, World.size_alloc]; omega)); rw [size_setCells, World.size_alloc] at hBs4; clear hrun4 hb4)
        | (go_at_call 34; refine (more_any B2 (by omega) Y IN _ 32 32 _ (HT.out.below HbF.out HT.out.pos) HRun4.out ⟨HINl.out, by omega, by omega, HINz.out, .inr ⟨w3.heap.size, 0, rfl, HI4.out.lt, fun i hi => by rw [Nat.zero_add]; exact HI4.out.cell (by rw [← HIV.out]; exact u8s_at (by rw [HINl.out]; exact hi))⟩⟩ (.inr (fun a ha => by cases ha; show w3.heap.size ≠ B2; omega)) (by rw [HYl.out]; omega) HYz.out).mono ?_; rintro e w5 ⟨⟨v5, rfl⟩, hrun5, hbut5⟩; have HRun5 : Hid (RunAt w5 B2 (Y ++ IN)) := hrun5; have HZ5 : Hid (Row w5 w.heap.size 34 (List.replicate 32 (.int .u8 0))) := hbut5.row HZ4.out.lt (by omega) HZ4.out; have HbG : Hid (Below w.heap.size w w5) := HbF.out.trans (hbut5.below HbF.out.size (by omega)); clear hrun5 hbut5)
        | (go_at_call 35; refine (H17b.out _ _ (HT.out.below HbG.out HT.out.pos) HRun5.out).mono ?_; rintro e w6 ⟨rfl, hb6⟩; have HZ6 : Hid (Row w6 w.heap.size 34 (List.replicate 32 (.int .u8 0))) := HZ5.out.later hb6; have HbH : Hid (Below w.heap.size w w6) := HbG.out.trans (hb6.mono HbG.out.size); clear hb6)
        | ((with_reducible show wpList _ _ _ (Oper.mk _ (Op.store 34 (.tmp 4) (.tmp 33)) _ _ _ _ :: _) _ _); refine wpList_store_Row rfl 34 (.tmp 4) (.tmp 33) rfl VV rfl rfl HZ6.out (by rw [HVl.out]; exact size34) (by rw [HVl.out]; rfl) HV1.out ?_; simp only [Act.put]))
      refine bodyPost_ret (results_Row rfl rfl (Row.sets_all (vs := VV) HZ6.out (by rw [HVl.out]; rfl)) Tryd.underlying34 (by rw [HVl.out]; exact size34)) rfl ?_
      exact ⟨by rw [HVV.out], below_setCells (Nat.le_refl _) _ _ HbH.out⟩
end Go.Proofs.YtkpjbleogjmbjaaDoor.Sh
