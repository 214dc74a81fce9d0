/-
  What the reference's Sum answers: the sum of any bytes (up to 50,000). Nothing that lay before the call has turned.
-/
import Derived.Test.YtkpjbleogjmbjaaDoorBaseAll
import Derived.Test.YtkpjbleogjmbjaaDoorShRefBlk
import Derived.Test.YtkpjbleogjmbjaaDoorShRefComp
namespace Go.Proofs.YtkpjbleogjmbjaaDoor.Sh
open Go Go.RowKit
set_option maxRecDepth 100000 in
set_option maxHeartbeats 4000000 in
theorem refSum_any (p : Option Addr) (len cap : Nat) (zs : List Nat) (w : World) (hlen : len ≤ 50000) (hI : IsBytes w.heap.size w p len cap zs) :
    Calls Tryd.prog 28 #[.slice p len cap] w fun e w' => e = .returned (.agg (u8s (sumN zs)).toArray) ∧ Below w.heap.size w w' := by
  have HI : Hid (IsBytes w.heap.size w p len cap zs) := hI
  have HZ : Hid (∀ z ∈ zs, z < 256) := hI.2.2.2.1
  have HZL : Hid (zs.length = len) := hI.1
  obtain ⟨f8, hf8⟩ : ∃ f8, f8 = u32s first8.list := ⟨_, rfl⟩
  have HF8 : Hid (f8 = u32s first8.list) := hf8
  have HFl : Hid (f8.length = 8) := by show _ = _; rw [hf8]; rfl
  have HFo : Hid (∀ v ∈ f8, v.oneCell' = true) := by rw [hf8]; exact u32s_one _
  have HFe : Hid (f8 = [.int .u32 1779033703, .int .u32 3144134277, .int .u32 1013904242, .int .u32 2773480762, .int .u32 1359893119, .int .u32 2600822924, .int .u32 528734635, .int .u32 1541459225]) := by show _ = _; rw [hf8]; rfl
  clear hI hf8
  obtain ⟨M, hM⟩ : ∃ M, M = padL zs := ⟨_, rfl⟩
  have HMe : Hid (M = padL zs) := hM
  obtain ⟨K, hK⟩ : ∃ K, K = M.length / 64 := ⟨_, rfl⟩
  have HK : Hid (64 * K = M.length ∧ 0 < K ∧ K ≤ 1000) := by
    have h1 := padL_mod zs
    have h2 := padL_length zs
    have h3 := HZL.out
    have h4 : gapN zs.length < 64 := by unfold gapN; omega
    rw [← hM] at h1 h2
    exact ⟨by omega, by omega, by omega⟩
  have HML : Hid (∀ z ∈ M, z < 256) := by rw [hM]; exact padL_lt zs HZ.out
  have HB : Hid (∀ W, IsBytes W.heap.size W p len cap zs → Calls Tryd.prog 36 #[.slice p len cap] W fun e w' => ∃ q c, e = .returned (.slice q K c) ∧ w'.ownsRow W.heap.size 91 64 (.slice q K c) K (u8s M) ∧ Below W.heap.size W w') := fun W hI => by
    rw [hK, hM]; exact refBlocks_any p len cap zs W hlen hI
  have HKb : Hid (fullL M K = blocksL zs) := by show _ = _; rw [hK, hM]; exact padL_blocks zs
  clear hK hM
  have hK1 := HK.out.2.1
  have hK2 := HK.out.2.2
  go_enter Tryd.func28, Tryd.ntmps28
  go_wp2_with (go_at_call 36; refine (HB.out _ (HI.out.later (((Below.refl _ w).alloc (Nat.le_refl _) _).alloc (by simp) _))).mono ?_; rintro e w3 ⟨q3, c3, rfl, hrow3, hb3⟩; have HR3 : Hid _ := hrow3; have Hb3 : Hid _ := hb3; clear hrow3 hb3)
  rw [z32u8] at HR3 Hb3
  obtain ⟨g, cur, rfl, hgn, hrg, htk⟩ := row_of_own HR3.out hK1
  clear HR3
  rw [World.size_alloc, World.size_alloc] at hgn
  have hb3 := Hb3.out
  have rZ : Row w3 w.heap.size 34 (List.replicate 32 (.int .u8 0)) := ((Row.new' w 34 _).alloc _).later hb3
  have rH : Row w3 (w.heap.size + 1) 98 (u32s (wordsN (fullL M 0)).list) := by
    have h := Row.new' (w.alloc (.cells (List.replicate 32 (Value.int .u8 0)).toArray 34)) 98 f8
    rw [World.size_alloc, HFe.out] at h
    have h2 := h.later hb3
    rw [← HFe.out, HF8.out] at h2
    exact h2
  have hbA : Below w.heap.size w w3 := (((Below.refl _ w).alloc (Nat.le_refl _) _).alloc (by simp) _).trans (hb3.mono (by simp; omega))
  have HTk : Hid (cur.take (K * 64) = u8s M) := htk
  clear hb3 Hb3 htk
  go_loopw [12] (fun i wr => ∃ k : Nat, k ≤ K ∧ i = .int .i64 k ∧ Row wr w.heap.size 34 (List.replicate 32 (.int .u8 0)) ∧ Row wr (w.heap.size + 1) 98 (u32s (wordsN (fullL M k)).list) ∧ Row wr g 91 cur ∧ Below w.heap.size w wr)
    (fun i _ => K - (intOf i).toNat)
  case atStart => exact ⟨0, Nat.zero_le _, rfl, rZ, rH, hrg, hbA⟩
  case round =>
    clear rZ rH hrg hbA
    obtain ⟨k, hk, rfl, hrZ, hrH, hrg, hbw⟩ := hrel
    by_cases hlt : k < K
    · have hki : (k : Int) < (K : Int) := by omega
      have HOk : Hid (BlockOk ((M.drop (64 * k)).take 64)) := full_ok M HML.out k (by have := HK.out; omega)
      have HRng : Hid (wr.rangeAt g (k * 64) (u8s ((M.drop (64 * k)).take 64))) := by
        have h := Row.mid hrg HTk.out (64 * k) 64 (by omega)
        rw [show 64 * k = k * 64 by omega] at h ⊢
        have e : u8s ((M.drop (k * 64)).take 64) = ((u8s M).drop (k * 64)).take 64 := by simp [u8s]
        rw [e]; exact h
      have HC : Hid (∀ A, Calls Tryd.prog 37 #[.agg (u32s (wordsN (fullL M k)).list).toArray, .agg (u8s ((M.drop (64 * k)).take 64)).toArray] A fun e w' => e = .returned (.agg (u32s (wordsN (fullL M (k + 1))).list).toArray) ∧ Below A.heap.size A w') := fun A => by
        rw [← fullL_succ, wordsN_snoc]; exact refCompress_any _ (wordsN_ok _) _ HOk.out.1 HOk.out.2 A
      have HXL : Hid ((u8s ((M.drop (64 * k)).take 64)).length = 64) := by show _ = _; rw [u8s_length]; exact HOk.out.1
      have HX1 : Hid (∀ v ∈ u8s ((M.drop (64 * k)).take 64), v.oneCell' = true) := u8s_one _
      have HHl : Hid ((u32s (wordsN (fullL M k)).list).length = 8) := by show _ = _; rw [u32s_length, St.list_length]
      have HHl2 : Hid ((u32s (wordsN (fullL M (k + 1))).list).length = 8) := by show _ = _; rw [u32s_length, St.list_length]
      have HH2o : Hid (∀ v ∈ u32s (wordsN (fullL M (k + 1))).list, v.oneCell' = true) := u32s_one _
      have HrZ : Hid (Row wr w.heap.size 34 (List.replicate 32 (.int .u8 0))) := hrZ
      have HrH : Hid (Row wr (w.heap.size + 1) 98 (u32s (wordsN (fullL M k)).list)) := hrH
      have Hrg : Hid (Row wr g 91 cur) := hrg
      clear hrZ hrH hrg HOk
      generalize hS2 : u32s (wordsN (fullL M (k + 1))).list = S2 at *
      have HS2 : Hid (u32s (wordsN (fullL M (k + 1))).list = S2) := hS2
      clear hS2
      generalize u32s (wordsN (fullL M k)).list = S1 at *
      generalize u8s ((M.drop (64 * k)).take 64) = V at *
      go_wp2_with (first
        | ((with_reducible show wpList _ _ _ (Oper.mk _ (Op.load 91 (.tmp 14)) _ _ _ _ :: _) _ _); refine wpList_load_mid rfl 91 (.tmp 14) rfl g (k * 64) rfl V _ HRng.out Tryd.underlying91 rfl (by rw [HXL.out]; exact size91') ?_; simp only [Act.put, List.setIfInBounds_toArray, List.set_cons_zero, List.set_cons_succ])
        | ((with_reducible show wpList _ _ _ (Oper.mk _ (Op.store 91 (.tmp 5) (.tmp 15)) _ _ _ _ :: _) _ _); refine wpList_store_Row rfl 91 (.tmp 5) (.tmp 15) rfl V rfl rfl (Row.new _ _ _) (by rw [HXL.out]; exact size91') (by rw [HXL.out]; rfl) HX1.out ?_; simp only [Act.put])
        | ((with_reducible show wpList _ _ _ (Oper.mk _ (Op.load 98 (.tmp 3)) _ _ _ _ :: _) _ _); refine wpList_load_Row rfl 98 (.tmp 3) rfl rfl (Row.others (by have := HrH.out.lt; omega) V 0 (HrH.out.alloc _)) Tryd.underlying98 (by rw [HHl.out]; exact size98) ?_; simp only [Act.put, List.setIfInBounds_toArray, List.set_cons_zero, List.set_cons_succ])
        | ((with_reducible show wpList _ _ _ (Oper.mk _ (Op.load 91 (.tmp 5)) _ _ _ _ :: _) _ _); refine wpList_load_Row rfl 91 (.tmp 5) rfl rfl (Row.sets_all (Row.new _ _ _) (by rw [HXL.out]; rfl)) Tryd.underlying91 (by rw [HXL.out]; exact size91') ?_; simp only [Act.put, List.setIfInBounds_toArray, List.set_cons_zero, List.set_cons_succ])
        | (go_at_call 37; refine (HC.out _).mono ?_; rintro e w5 ⟨rfl, hb5⟩; have Hb5 : Hid _ := hb5; clear hb5)
        | ((with_reducible show wpList _ _ _ (Oper.mk _ (Op.store 98 (.tmp 3) (.tmp 18)) _ _ _ _ :: _) _ _); refine wpList_store_Row rfl 98 (.tmp 3) (.tmp 18) rfl S2 rfl rfl (Row.later (Row.others (by have := HrH.out.lt; omega) V 0 (HrH.out.alloc _)) Hb5.out) (by rw [HHl2.out]; exact size98) (by rw [HHl2.out, HHl.out]) HH2o.out ?_; simp only [Act.put]))
      go_roundw
      case rel =>
        have hb5 := Hb5.out
        have hl := HrH.out.lt
        have hsz := hbw.size
        refine ⟨k + 1, by omega, by go_num, ?_, ?_, ?_, ?_⟩
        · exact Row.others (by omega) S2 0 (Row.later (Row.others (by omega) V 0 (HrZ.out.alloc _)) hb5)
        · rw [HS2.out]; exact Row.sets_all (Row.later (Row.others (by omega) V 0 (HrH.out.alloc _)) hb5) (by rw [HHl2.out, HHl.out])
        · exact Row.others (by omega) S2 0 (Row.later (Row.others (by have := Hrg.out.lt; omega) V 0 (Hrg.out.alloc _)) hb5)
        · exact below_setCells (by omega) _ _ ((below_setCells (by omega) V 0 (hbw.alloc hsz _)).trans (hb5.mono (by rw [size_setCells, World.size_alloc]; omega)))
      case measure => simp [intOf]; omega
    · obtain rfl : k = K := by omega
      rw [HKb.out] at hrH
      have HrZ : Hid (Row wr w.heap.size 34 (List.replicate 32 (.int .u8 0))) := hrZ
      obtain ⟨L, hL⟩ : ∃ L, L = (wordsN (blocksL zs)).list := ⟨_, rfl⟩
      rw [← hL] at hrH
      have HL8 : Hid (L.length = 8) := by show _ = _; rw [hL]; exact St.list_length _
      have HLx : Hid (∀ z ∈ L, z < 4294967296) := by rw [hL]; exact St.list_lt (wordsN_ok _)
      have HSum : Hid (bytesBE L 32 = sumN zs) := by show _ = _; rw [hL]; rfl
      have HrH : Hid (Row wr (w.heap.size + 1) 98 (u32s L)) := hrH
      clear hrZ hrH hrg hL
      go_wp2
      rw [z32u8]
      have hsz := hbw.size
      have rO := Row.new' wr 34 (List.replicate 32 (Value.int .u8 0))
      have hbO : Below w.heap.size w (wr.alloc (.cells (List.replicate 32 (Value.int .u8 0)).toArray 34)) := hbw.alloc hsz _
      have rZ := HrZ.out.alloc (.cells (List.replicate 32 (Value.int .u8 0)).toArray 34)
      have rH := HrH.out.alloc (.cells (List.replicate 32 (Value.int .u8 0)).toArray 34)
      have hlH := HrH.out.lt
      generalize wr.alloc (.cells (List.replicate 32 (Value.int .u8 0)).toArray 34) = wo at *
      go_loopw [20] (fun i wq => ∃ j : Nat, j ≤ 32 ∧ i = .int .i64 j ∧ Row wq w.heap.size 34 (List.replicate 32 (.int .u8 0)) ∧ Row wq (w.heap.size + 1) 98 (u32s L) ∧ Row wq wr.heap.size 34 (fill 32 (.int .u8 0) (u8s (bytesBE L j))) ∧ Below w.heap.size w wq)
        (fun i _ => 32 - (intOf i).toNat)
      case atStart => exact ⟨0, by omega, rfl, rZ, rH, rO, hbO⟩
      case round =>
        clear rZ rH rO hbO
        obtain ⟨j, hj, rfl, hrZ, hrH, hrO, hbq⟩ := hrel
        by_cases hj32 : j < 32
        · have hji : (j : Int) < 32 := by omega
          have cH := hrH.cell (u32s_at (l := L) (i := j / 4) (by rw [HL8.out]; omega))
          have cz := hrO.cell (i := j) (v := .int .u8 0) (fill_rest _ _ _ (by rw [u8s_length, bytesBE_length]; omega) hj32)
          have fz := hrO.frozen j
          obtain ⟨x, hx⟩ : ∃ x, x = L.getD (j / 4) 0 := ⟨_, rfl⟩
          rw [← hx] at cH
          have HY : Hid (byteBE L j = x / 2 ^ (24 - 8 * (j % 4)) % 256) := by show _ = _; rw [hx]; rfl
          have HrZ2 : Hid _ := hrZ
          have HrH2 : Hid _ := hrH
          have HrO2 : Hid _ := hrO
          clear hrZ hrH hrO hx
          go_wp2
          go_roundw
          case rel =>
            refine ⟨j + 1, by omega, by go_num, Row.other HrZ2.out (by simp; omega) _, Row.other HrH2.out (by simp; omega) _, ?_, hbq.setCell (p := ⟨_, j, none⟩) (by show _ ≤ _; omega) _⟩
            have e : ((x : Int) / 2 ^ (24 - 8 * (j % 4)) % 256) = ((byteBE L j : Nat) : Int) := by rw [HY.out]; simp
            have h := Row.set HrO2.out j (.int .u8 (byteBE L j : Nat))
            rw [fill_set _ _ _ _ (by rw [u8s_length, bytesBE_length]) hj32, u8s_snoc, bytesBE_succ] at h
            rw [e]
            exact h
          case measure => simp [intOf]; omega
        · obtain rfl : j = 32 := by omega
          rw [fill_full _ _ _ (by rw [u8s_length, bytesBE_length]), HSum.out] at hrO
          have HrZ2 : Hid _ := hrZ
          have HrO2 : Hid _ := hrO
          have HSl : Hid ((u8s (sumN zs)).length = 32) := by show _ = _; rw [u8s_length]; exact digestN_length _
          have HSo : Hid (∀ v ∈ u8s (sumN zs), v.oneCell' = true) := u8s_one _
          clear hrZ hrH hrO
          generalize hV : u8s (sumN zs) = V at *
          have HV : Hid (u8s (sumN zs) = V) := hV
          clear hV
          go_wp2_with (first
            | ((with_reducible show wpList _ _ _ (Oper.mk _ (Op.load 34 (.tmp 6)) _ _ _ _ :: _) _ _); refine wpList_load_Row rfl 34 (.tmp 6) rfl rfl HrO2.out Tryd.underlying34 (by rw [HSl.out]; exact size34) ?_; simp only [Act.put, List.setIfInBounds_toArray, List.set_cons_zero, List.set_cons_succ])
            | ((with_reducible show wpList _ _ _ (Oper.mk _ (Op.store 34 (.tmp 2) (.tmp 36)) _ _ _ _ :: _) _ _); refine wpList_store_Row rfl 34 (.tmp 2) (.tmp 36) rfl V rfl rfl HrZ2.out (by rw [HSl.out]; exact size34) (by rw [HSl.out]; rfl) HSo.out ?_; simp only [Act.put]))
          refine bodyPost_ret (results_Row rfl rfl (Row.sets_all (vs := V) HrZ2.out (by rw [HSl.out]; rfl)) Tryd.underlying34 (by rw [HSl.out]; exact size34)) rfl ?_
          exact ⟨by rw [HV.out], below_setCells (Nat.le_refl _) _ _ hbq⟩
end Go.Proofs.YtkpjbleogjmbjaaDoor.Sh
