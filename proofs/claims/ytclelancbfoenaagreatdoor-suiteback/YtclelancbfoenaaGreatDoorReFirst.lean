/-
  What chacha.firstState answers: the fixed words, the key's, the counter and the nonce's. Nothing that lay before the call has turned.
-/
import Derived.Test.YtclelancbfoenaaGreatDoorMade
import Derived.Test.YtclelancbfoenaaGreatDoorReMixed
import Derived.Test.YtclelancbfoenaaGreatDoorMem
import Derived.Test.YtclelancbfoenaaGreatDoorBut
import Derived.Test.YtclelancbfoenaaGreatDoorReWords
namespace Go.Proofs.YtclelancbfoenaaGreatDoor.Re
open Go.RowKit

theorem size23 : (Tryz.prog.info? 23).map (·.size) = some 32 := by kernel_rfl
theorem size54 : (Tryz.prog.info? 54).map (·.size) = some 12 := by kernel_rfl
theorem size161 : (Tryz.prog.info? 161).map (·.size) = some 4 := by kernel_rfl
theorem size53 : (Tryz.prog.info? 53).map (·.size) = some 1 := by kernel_rfl
theorem z12 : #[Value.int .u32 0, Value.int .u32 0, Value.int .u32 0, Value.int .u32 0] = (List.replicate 4 (Value.int .u32 0)).toArray := rfl

theorem run_index161 (cs : List Value) (k : Nat) (v : Value) (hk : k < 4) (hv : cs[k]? = some v) (w : World) : (Instr.index 161 (.agg cs.toArray) (.int .i64 (k : Int))).run Tryz.prog w = .ok v w := by
  simp [Instr.index, run_underlying Tryz.underlying161, asIntOf, go_sem, hv]
  omega

theorem wordAt_low (zs : List Nat) (j : Nat) : wordAt zs j = wordL zs j := by unfold wordAt wordL wordB; omega
theorem wordVals_low (zs : List Nat) (k : Nat) : wordVals zs k = u32s (wordsLow zs k) := by
  unfold wordVals u32s wordsLow
  rw [List.map_map]
  exact List.map_congr_left (fun i _ => by simp [wordAt_low])

/-- A row of bytes as a slice. -/
theorem bytes_of_row {W : World} {b : Nat} {t : TypeId} {zs : List Nat} (h : Row W b t (u8s zs)) (hz : ∀ z ∈ zs, z < 256) {n : Nat} (hn : zs.length = n) (hn2 : n ≤ 60000) : IsBytes W.heap.size W (some ⟨b, 0, none⟩) n n zs :=
  ⟨hn, Nat.le_refl _, by omega, hz, .inr ⟨b, 0, rfl, h.lt, fun i hi => by rw [Nat.zero_add]; exact h.cell (u8s_at (by omega))⟩⟩

theorem state_list : ∀ (f K N : List Value) (c z : Value), f.length = 4 → K.length = 8 → N.length = 3 → splice ((splice (fill 16 z f) 4 K).set 12 c) 13 N = f ++ K ++ [c] ++ N
  | [_, _, _, _], [_, _, _, _, _, _, _, _], [_, _, _], _, _, _, _, _ => rfl
theorem stateN_list (key : List Nat) (c : Nat) (nonce : List Nat) : u32s fixedL ++ u32s (wordsLow key 8) ++ [.int .u32 (c : Nat)] ++ u32s (wordsLow nonce 3) = u32s (stateN key c nonce) := by
  simp [u32s, stateN, fixedL]

set_option maxRecDepth 100000 in
set_option maxHeartbeats 4000000 in
theorem firstState_any (key : List Nat) (c : Nat) (nonce : List Nat) (hk : key.length = 32) (hkx : ∀ z ∈ key, z < 256) (hn : nonce.length = 12) (hnx : ∀ z ∈ nonce, z < 256) (w : World) (hT : Tab w) :
    Calls Tryz.prog 90 #[.agg (u8s key).toArray, .int .u32 c, .agg (u8s nonce).toArray] w fun e w' => e = .returned (.agg (u32s (stateN key c nonce)).toArray) ∧ Below w.heap.size w w' := by
  have HT : Hid (Tab w) := hT
  have HTp : Hid (1 < w.heap.size) := hT.pos
  have HKx : Hid (∀ z ∈ key, z < 256) := hkx
  have HNx : Hid (∀ z ∈ nonce, z < 256) := hnx
  have HKl : Hid (key.length = 32) := hk
  have HNl : Hid (nonce.length = 12) := hn
  obtain ⟨FV, hFV⟩ : ∃ FV, FV = u32s fixedL := ⟨_, rfl⟩
  have HFV : Hid (FV = u32s fixedL) := hFV
  have HFl : Hid (FV.length = 4) := by show _ = _; rw [hFV]; rfl
  have HFn : Hid (∀ i, i < 4 → FV[i]? = some (.int .u32 (fixedL.getD i 0 : Nat))) := fun i hi => by rw [hFV]; exact u32s_at hi
  clear hT hkx hnx hFV hk hn
  go_enter Tryz.func90, Tryz.ntmps90
  go_wp2_with ((with_reducible show wpList _ _ _ (Oper.mk _ (Op.load 161 (.global 0)) _ _ _ _ :: _) _ _); refine wpList_load_mid rfl 161 (.global 0) rfl 0 0 rfl FV _ (by rw [HFV.out]; exact (HT.out.below (((((Below.refl w.heap.size w).alloc (Nat.le_refl _) _).alloc (by simp) _).alloc (by simp; omega) _).alloc (by simp; omega) _) HTp.out).fixed) Tryz.underlying161 rfl (by rw [HFl.out]; exact size161) ?_; simp only [Act.put, List.setIfInBounds_toArray, List.set_cons_zero, List.set_cons_succ])
  rw [z16u32]
  obtain ⟨Z, hZ⟩ : ∃ Z, Z = List.replicate 16 (Value.int .u32 0) := ⟨_, rfl⟩
  have HZ : Hid (Z = List.replicate 16 (Value.int .u32 0)) := hZ
  have HZl : Hid (Z.length = 16) := by show _ = _; rw [hZ]; rfl
  rw [← hZ]
  clear hZ
  have rK : Row ((((w.alloc (.cells (u8s key).toArray 23)).alloc (.cells (u8s nonce).toArray 54)).alloc (.cells Z.toArray 120)).alloc (.cells Z.toArray 120)) w.heap.size 23 (u8s key) := (((Row.new' w 23 _).alloc _).alloc _).alloc _
  have rN : Row ((((w.alloc (.cells (u8s key).toArray 23)).alloc (.cells (u8s nonce).toArray 54)).alloc (.cells Z.toArray 120)).alloc (.cells Z.toArray 120)) (w.heap.size + 1) 54 (u8s nonce) := by
    have := Row.new' (w.alloc (.cells (u8s key).toArray 23)) 54 (u8s nonce)
    rw [World.size_alloc] at this
    exact (this.alloc _).alloc _
  have rR : Row ((((w.alloc (.cells (u8s key).toArray 23)).alloc (.cells (u8s nonce).toArray 54)).alloc (.cells Z.toArray 120)).alloc (.cells Z.toArray 120)) (w.heap.size + 1 + 1) 120 Z := by
    have := Row.new' ((w.alloc (.cells (u8s key).toArray 23)).alloc (.cells (u8s nonce).toArray 54)) 120 Z
    rw [World.size_alloc, World.size_alloc] at this
    exact this.alloc _
  have rS : Row ((((w.alloc (.cells (u8s key).toArray 23)).alloc (.cells (u8s nonce).toArray 54)).alloc (.cells Z.toArray 120)).alloc (.cells Z.toArray 120)) (w.heap.size + 1 + 1 + 1) 120 (fill 16 (.int .u32 0) (u32s (fixedL.take 0))) := by
    have := Row.new' (((w.alloc (.cells (u8s key).toArray 23)).alloc (.cells (u8s nonce).toArray 54)).alloc (.cells Z.toArray 120)) 120 Z
    rw [World.size_alloc, World.size_alloc, World.size_alloc] at this
    rw [HZ.out] at this ⊢
    exact this
  have hb0 : Below w.heap.size w ((((w.alloc (.cells (u8s key).toArray 23)).alloc (.cells (u8s nonce).toArray 54)).alloc (.cells Z.toArray 120)).alloc (.cells Z.toArray 120)) := ((((Below.refl w.heap.size w).alloc (Nat.le_refl _) _).alloc (by simp) _).alloc (by simp; omega) _).alloc (by simp; omega) _
  generalize ((((w.alloc (.cells (u8s key).toArray 23)).alloc (.cells (u8s nonce).toArray 54)).alloc (.cells Z.toArray 120)).alloc (.cells Z.toArray 120)) = w0 at *
  go_loopw [11] (fun i wr => ∃ k : Nat, k ≤ 4 ∧ i = .int .i64 k ∧ Row wr w.heap.size 23 (u8s key) ∧ Row wr (w.heap.size + 1) 54 (u8s nonce) ∧ Row wr (w.heap.size + 1 + 1) 120 Z ∧ Row wr (w.heap.size + 1 + 1 + 1) 120 (fill 16 (.int .u32 0) (u32s (fixedL.take k))) ∧ Below w.heap.size w wr)
    (fun i _ => 4 - (intOf i).toNat)
  case atStart => exact ⟨0, by omega, rfl, rK, rN, rR, rS, hb0⟩
  case round =>
    clear rK rN rR rS hb0
    obtain ⟨k, hk, rfl, hrK, hrN, hrR, hrS, hBw⟩ := hrel
    by_cases hk4 : k < 4
    · have hki : (k : Int) < 4 := by omega
      have cI : ∀ w : World, (Instr.index 161 (.agg FV.toArray) (.int .i64 (k : Int))).run Tryz.prog w = .ok (.int .u32 (fixedL.getD k 0 : Nat)) w := fun w => run_index161 _ k _ hk4 (HFn.out k hk4) w
      have HFt : Hid (fixedL.take k ++ [fixedL.getD k 0] = fixedL.take (k + 1)) := by
        show _ = _
        rcases k with _ | _ | _ | _ | k
        all_goals first | rfl | omega
      have HFk : Hid ((u32s (fixedL.take k)).length = k) := by show _ = _; rw [u32s_length, List.length_take]; show min k 4 = k; omega
      have cz := hrS.cell (i := k) (v := .int .u32 0) (fill_rest _ _ _ (by rw [HFk.out]; omega) (by omega))
      have fz := hrS.frozen k
      have hki16 : (k : Int) < 16 := by omega
      have HrK : Hid _ := hrK
      have HrN : Hid _ := hrN
      have HrR : Hid _ := hrR
      have HrS : Hid _ := hrS
      clear hrK hrN hrR hrS
      generalize hx : fixedL.getD k 0 = x at *
      have Hx : Hid (fixedL.getD k 0 = x) := hx
      clear hx
      go_wp2
      go_roundw
      case rel =>
        refine ⟨k + 1, by omega, by go_num, Row.other HrK.out (by simp; omega) _, Row.other HrN.out (by simp) _, Row.other HrR.out (by simp) _, ?_, hBw.setCell (p := ⟨w.heap.size + 1 + 1 + 1, k, none⟩) (by show _ ≤ w.heap.size + 1 + 1 + 1; omega) _⟩
        have h := Row.set HrS.out k (.int .u32 (x : Nat))
        rw [fill_set _ _ _ _ HFk.out (by omega), u32s_snoc, HFt.out] at h
        exact h
      case measure => simp [intOf]; omega
    · obtain rfl : k = 4 := by omega
      have HrK : Hid (Row wr w.heap.size 23 (u8s key)) := hrK
      have HrN : Hid (Row wr (w.heap.size + 1) 54 (u8s nonce)) := hrN
      have HrR : Hid (Row wr (w.heap.size + 1 + 1) 120 Z) := hrR
      have HrS : Hid (Row wr (w.heap.size + 1 + 1 + 1) 120 (fill 16 (.int .u32 0) (u32s fixedL))) := hrS
      have HBw : Hid (Below w.heap.size w wr) := hBw
      clear hrK hrN hrR hrS hBw
      go_wp2
      refine wp_region_noPanic ?_
      refine wp_region_gate' 3 (fun _ => True) (by kernel_rfl) ?_
      refine wpAnyG_takesAt 0 2 2 (of_decide_eq_true (by kernel_rfl)) rfl (fun _ _ _ _ _ h => h) (by kernel_rfl) (by kernel_rfl) (fun _ => trivial) ?_
      simp only [List.drop_zero, List.take_succ_cons, List.take_zero]
      iterate 2 (refine wpHeldG_free (v := ?_) (by rfl) (fun wz => ?_) ?_; rotate_left; (focus (go_simp; try with_reducible rfl)); (simp only [Act.put, List.setIfInBounds_toArray, List.set_cons_zero, List.set_cons_succ]))
      refine wpHeldG_nil ?_
      refine wpAnyG_only (i := 2) (by kernel_rfl) rfl (by rfl) (fun K hK => ?_)
      go_simp
      refine (words_any (some ⟨w.heap.size, 0, none⟩) 32 32 key (by omega) wr.drew (bytes_of_row HrK.out.drew HKx.out HKl.out (by omega))).mono ?_
      rintro e w3 ⟨v3, rfl, hrow3, hb3⟩
      rw [wordVals_low] at hrow3
      obtain ⟨q3, c3, rfl⟩ := slice_of_row hrow3
      obtain ⟨g3, rfl, _⟩ := row_some hrow3 (by omega)
      refine hK.out _ _ (fun _ => trivial) ?_
      clear hK K
      refine wpAnyG_only (i := 3) (by kernel_rfl) rfl (by rfl) (fun K hK => ?_)
      refine wp_copy_but (.tmp 19) (.tmp 21) 121 121 (by rfl) 53 Tryz.underlying121 size53 (w.heap.size + 1 + 1 + 1) 4 8 12 ⟨g3, 0, none⟩ (32 / 4) c3 (by rfl) (by rfl) (fill 16 (.int .u32 0) (u32s fixedL)) 120 (HrS.out.drew.later hb3) (u32s (wordsLow key 8)) (by rw [u32s_length, wordsLow_length]; rfl) (row_src hrow3) (by rw [u32s_length, wordsLow_length]; show 4 + 8 ≤ 16; omega) (u32s_one _) (fun w4 hr4 hbut4 => ?_)
      refine hK.out _ _ (gone (by kernel_rfl)) ?_
      clear hK K
      refine wpAnyG_done (by kernel_rfl) ?_ _
      refine NoPanic.normal ?_
      simp only [Act.put, List.getElem_toArray, List.getElem_cons_succ, List.getElem_cons_zero, List.setIfInBounds_toArray, List.set_cons_zero, List.set_cons_succ]
      have hsw := HBw.out.size
      have hls := HrS.out.lt
      have hs3 : wr.heap.size ≤ w3.heap.size := hb3.size
      have HrN4 : Hid (Row w4 (w.heap.size + 1) 54 (u8s nonce)) := hbut4.row (by omega) (by omega) (HrN.out.drew.later hb3)
      have HrR4 : Hid (Row w4 (w.heap.size + 1 + 1) 120 Z) := hbut4.row (by omega) (by omega) (HrR.out.drew.later hb3)
      have HB4 : Hid (Below w.heap.size w w4) := (HBw.out.drew.trans (hb3.mono (show w.heap.size ≤ wr.heap.size by omega))).trans (hbut4.below (by omega) (by omega))
      have HL4 : Hid ((splice (fill 16 (.int .u32 0) (u32s fixedL)) 4 (u32s (wordsLow key 8))).length = 16) := by
        show _ = _
        rw [length_splice _ _ _ (by rw [u32s_length, wordsLow_length]; show 4 + 8 ≤ 16; omega)]
        rfl
      have HS4 : Hid (Row w4 (w.heap.size + 1 + 1 + 1) 120 (splice (fill 16 (.int .u32 0) (u32s fixedL)) 4 (u32s (wordsLow key 8)))) := hr4
      clear hr4 hbut4 hb3 hrow3 hs3 HrK HrN HrR HrS HBw
      generalize hX4 : splice (fill 16 (.int .u32 0) (u32s fixedL)) 4 (u32s (wordsLow key 8)) = X4 at *
      have HX4 : Hid (splice (fill 16 (.int .u32 0) (u32s fixedL)) 4 (u32s (wordsLow key 8)) = X4) := hX4
      clear hX4
      obtain ⟨v12, hv12⟩ : ∃ v, w4.cell? ⟨w.heap.size + 1 + 1 + 1, 12, none⟩ = some v := ⟨_, HS4.out.cell (List.getElem?_eq_getElem (by rw [HL4.out]; omega))⟩
      have fz12 := HS4.out.frozen 12
      go_wp2
      have HrN5 : Hid (Row (w4.setCell ⟨w.heap.size + 1 + 1 + 1, 12, none⟩ (.int .u32 (c : Nat))) (w.heap.size + 1) 54 (u8s nonce)) := HrN4.out.other (by simp) _
      have HrR5 : Hid (Row (w4.setCell ⟨w.heap.size + 1 + 1 + 1, 12, none⟩ (.int .u32 (c : Nat))) (w.heap.size + 1 + 1) 120 Z) := HrR4.out.other (by simp) _
      have HS5 : Hid (Row (w4.setCell ⟨w.heap.size + 1 + 1 + 1, 12, none⟩ (.int .u32 (c : Nat))) (w.heap.size + 1 + 1 + 1) 120 (X4.set 12 (.int .u32 (c : Nat)))) := HS4.out.set _ _
      have HB5 : Hid (Below w.heap.size w (w4.setCell ⟨w.heap.size + 1 + 1 + 1, 12, none⟩ (.int .u32 (c : Nat)))) := HB4.out.setCell (p := ⟨w.heap.size + 1 + 1 + 1, 12, none⟩) (by show _ ≤ w.heap.size + 1 + 1 + 1; omega) _
      clear hv12 fz12 HrN4 HrR4 HS4 HB4
      generalize w4.setCell ⟨w.heap.size + 1 + 1 + 1, 12, none⟩ (.int .u32 (c : Nat)) = w5 at *
      refine wp_region_noPanic ?_
      refine wp_region_gate' 3 (fun _ => True) (by kernel_rfl) ?_
      refine wpAnyG_takesAt 0 2 2 (of_decide_eq_true (by kernel_rfl)) rfl (fun _ _ _ _ _ h => h) (by kernel_rfl) (by kernel_rfl) (fun _ => trivial) ?_
      simp only [List.drop_zero, List.take_succ_cons, List.take_zero]
      iterate 2 (refine wpHeldG_free (v := ?_) (by rfl) (fun wz => ?_) ?_; rotate_left; (focus (go_simp; try with_reducible rfl)); (simp only [Act.put, List.setIfInBounds_toArray, List.set_cons_zero, List.set_cons_succ]))
      refine wpHeldG_nil ?_
      refine wpAnyG_only (i := 2) (by kernel_rfl) rfl (by rfl) (fun K hK => ?_)
      go_simp
      refine (words_any (some ⟨w.heap.size + 1, 0, none⟩) 12 12 nonce (by omega) w5.drew (bytes_of_row HrN5.out.drew HNx.out HNl.out (by omega))).mono ?_
      rintro e w6 ⟨v6, rfl, hrow6, hb6⟩
      rw [wordVals_low] at hrow6
      obtain ⟨q6, c6, rfl⟩ := slice_of_row hrow6
      obtain ⟨g6, rfl, _⟩ := row_some hrow6 (by omega)
      refine hK.out _ _ (fun _ => trivial) ?_
      clear hK K
      refine wpAnyG_only (i := 3) (by kernel_rfl) rfl (by rfl) (fun K hK => ?_)
      refine wp_copy_but (.tmp 25) (.tmp 27) 121 121 (by rfl) 53 Tryz.underlying121 size53 (w.heap.size + 1 + 1 + 1) 13 3 3 ⟨g6, 0, none⟩ (12 / 4) c6 (by rfl) (by rfl) (X4.set 12 (.int .u32 (c : Nat))) 120 (HS5.out.drew.later hb6) (u32s (wordsLow nonce 3)) (by rw [u32s_length, wordsLow_length]; rfl) (row_src hrow6) (by rw [u32s_length, wordsLow_length, List.length_set, HL4.out]; omega) (u32s_one _) (fun w7 hr7 hbut7 => ?_)
      refine hK.out _ _ (gone (by kernel_rfl)) ?_
      clear hK K
      refine wpAnyG_done (by kernel_rfl) ?_ _
      refine NoPanic.normal ?_
      simp only [Act.put, List.getElem_toArray, List.getElem_cons_succ, List.getElem_cons_zero, List.setIfInBounds_toArray, List.set_cons_zero, List.set_cons_succ]
      have hsw5 := HB5.out.size
      have hls5 := HS5.out.lt
      have hs6 : w5.heap.size ≤ w6.heap.size := hb6.size
      have HrR7 : Hid (Row w7 (w.heap.size + 1 + 1) 120 Z) := hbut7.row (by omega) (by omega) (HrR5.out.drew.later hb6)
      have HB7 : Hid (Below w.heap.size w w7) := (HB5.out.drew.trans (hb6.mono (show w.heap.size ≤ w5.heap.size by omega))).trans (hbut7.below (by omega) (by omega))
      have HS7 : Hid (Row w7 (w.heap.size + 1 + 1 + 1) 120 (u32s (stateN key c nonce))) := by
        rw [← stateN_list, ← state_list (u32s fixedL) (u32s (wordsLow key 8)) (u32s (wordsLow nonce 3)) (.int .u32 (c : Nat)) (.int .u32 0) rfl (by rw [u32s_length, wordsLow_length]) (by rw [u32s_length, wordsLow_length]), HX4.out]
        exact hr7
      have HLs : Hid ((u32s (stateN key c nonce)).length = 16) := by show _ = _; rw [u32s_length, stateN_length]
      have H1s : Hid (∀ v ∈ u32s (stateN key c nonce), v.oneCell' = true) := u32s_one _
      clear hr7 hbut7 hb6 hrow6 hs6 HrN5 HrR5 HS5 HB5
      generalize hV : u32s (stateN key c nonce) = V at *
      have HV : Hid (u32s (stateN key c nonce) = V) := hV
      clear hV
      go_wp2_with (first
        | ((with_reducible show wpList _ _ _ (Oper.mk _ (Op.load 120 (.tmp 7)) _ _ _ _ :: _) _ _); refine wpList_load_Row rfl 120 (.tmp 7) rfl rfl HS7.out Tryz.underlying120 (by rw [HLs.out]; exact size120) ?_; simp only [Act.put, List.setIfInBounds_toArray, List.set_cons_zero, List.set_cons_succ])
        | ((with_reducible show wpList _ _ _ (Oper.mk _ (Op.store 120 (.tmp 6) (.tmp 29)) _ _ _ _ :: _) _ _); refine wpList_store_Row rfl 120 (.tmp 6) (.tmp 29) rfl V rfl rfl HrR7.out (by rw [HLs.out]; exact size120) (by rw [HLs.out, HZl.out]) H1s.out ?_; simp only [Act.put]))
      refine bodyPost_ret (results_Row rfl rfl (Row.sets_all (vs := V) HrR7.out (by rw [HLs.out, HZl.out])) Tryz.underlying120 (by rw [HLs.out]; exact size120)) rfl ?_
      exact ⟨by rw [HV.out], below_setCells (by omega) _ _ HB7.out⟩
end Go.Proofs.YtclelancbfoenaaGreatDoor.Re
