/-
  Several texts in one: ReFirst, ReNum, ReBytes, ReBlock, ReKey.
-/
import Derived.Test.YtclelancbfoenaaGreatDoorBaseAll
import Derived.Test.YtclelancbfoenaaGreatDoorReMixed
import Derived.Test.YtclelancbfoenaaGreatDoorReWords
import Derived.Test.YtclelancbfoenaaGreatDoorReA
import Derived.Laws.Bits64b
import Derived.Maps.AppendAt
import Derived.Deep.AppendLies
import Derived.Laws.BitsAllLaws
/-
  What chacha.firstState answers: the fixed words, the key's, the counter and the nonce's. Nothing that lay before the call has turned.
-/
namespace Go.Proofs.YtclelancbfoenaaGreatDoor.Re
open Go.RowKit

theorem size23 : (Tryz.prog.info? 23).map (·.size) = some 32 := by kernel_rfl
theorem size54 : (Tryz.prog.info? 54).map (·.size) = some 12 := by kernel_rfl
theorem size161 : (Tryz.prog.info? 161).map (·.size) = some 4 := by kernel_rfl
theorem size53 : (Tryz.prog.info? 53).map (·.size) = some 1 := by kernel_rfl
theorem z12 : #[Value.int .u32 0, Value.int .u32 0, Value.int .u32 0, Value.int .u32 0] = (List.replicate 4 (Value.int .u32 0)).toArray := rfl

theorem run_index161 (cs : List Value) (k : Nat) (v : Value) (hk : k < 4) (hv : cs[k]? = some v) (w : World) : (Instr.index 161 (.agg cs.toArray) (.int .i64 (k : Int))).run Tryz.prog w = .ok v w := by
  simp [Instr.index, run_underlying Tryz.underlying161, asIntOf, go_sem, hv]
  omega

theorem wordAt_low (zs : List Nat) (j : Nat) : wordAt zs j = wordL zs j := by unfold wordAt wordL wordB; omega
theorem wordVals_low (zs : List Nat) (k : Nat) : wordVals zs k = u32s (wordsLow zs k) := by
  unfold wordVals u32s wordsLow
  rw [List.map_map]
  exact List.map_congr_left (fun i _ => by simp [wordAt_low])

/-- A row of bytes as a slice. -/
theorem bytes_of_row {W : World} {b : Nat} {t : TypeId} {zs : List Nat} (h : Row W b t (u8s zs)) (hz : ∀ z ∈ zs, z < 256) {n : Nat} (hn : zs.length = n) (hn2 : n ≤ 60000) : IsBytes W.heap.size W (some ⟨b, 0, none⟩) n n zs :=
  ⟨hn, Nat.le_refl _, by omega, hz, .inr ⟨b, 0, rfl, h.lt, fun i hi => by rw [Nat.zero_add]; exact h.cell (u8s_at (by omega))⟩⟩

theorem state_list : ∀ (f K N : List Value) (c z : Value), f.length = 4 → K.length = 8 → N.length = 3 → splice ((splice (fill 16 z f) 4 K).set 12 c) 13 N = f ++ K ++ [c] ++ N
  | [_, _, _, _], [_, _, _, _, _, _, _, _], [_, _, _], _, _, _, _, _ => rfl
theorem stateN_list (key : List Nat) (c : Nat) (nonce : List Nat) : u32s fixedL ++ u32s (wordsLow key 8) ++ [.int .u32 (c : Nat)] ++ u32s (wordsLow nonce 3) = u32s (stateN key c nonce) := by
  simp [u32s, stateN, fixedL]

set_option maxRecDepth 100000 in
set_option maxHeartbeats 4000000 in
theorem firstState_any (key : List Nat) (c : Nat) (nonce : List Nat) (hk : key.length = 32) (hkx : ∀ z ∈ key, z < 256) (hn : nonce.length = 12) (hnx : ∀ z ∈ nonce, z < 256) (w : World) (hT : Tab w) :
    Calls Tryz.prog 90 #[.agg (u8s key).toArray, .int .u32 c, .agg (u8s nonce).toArray] w fun e w' => e = .returned (.agg (u32s (stateN key c nonce)).toArray) ∧ Below w.heap.size w w' := by
  have HT : Hid (Tab w) := hT
  have HTp : Hid (1 < w.heap.size) := hT.pos
  have HKx : Hid (∀ z ∈ key, z < 256) := hkx
  have HNx : Hid (∀ z ∈ nonce, z < 256) := hnx
  have HKl : Hid (key.length = 32) := hk
  have HNl : Hid (nonce.length = 12) := hn
  obtain ⟨FV, hFV⟩ : ∃ FV, FV = u32s fixedL := ⟨_, rfl⟩
  have HFV : Hid (FV = u32s fixedL) := hFV
  have HFl : Hid (FV.length = 4) := by show _ = _; rw [hFV]; rfl
  have HFn : Hid (∀ i, i < 4 → FV[i]? = some (.int .u32 (fixedL.getD i 0 : Nat))) := fun i hi => by rw [hFV]; exact u32s_at hi
  clear hT hkx hnx hFV hk hn
  go_enter Tryz.func90, Tryz.ntmps90
  go_wp2_with ((with_reducible show wpList _ _ _ (Oper.mk _ (Op.load 161 (.global 0)) _ _ _ _ :: _) _ _); refine wpList_load_mid rfl 161 (.global 0) rfl 0 0 rfl FV _ (by rw [HFV.out]; exact (HT.out.below (((((Below.refl w.heap.size w).alloc (Nat.le_refl _) _).alloc (by simp) _).alloc (by simp; omega) _).alloc (by simp; omega) _) HTp.out).fixed) Tryz.underlying161 rfl (by rw [HFl.out]; exact size161) ?_; simp only [Act.put, List.setIfInBounds_toArray, List.set_cons_zero, List.set_cons_succ])
  rw [z16u32]
  obtain ⟨Z, hZ⟩ : ∃ Z, Z = List.replicate 16 (Value.int .u32 0) := ⟨_, rfl⟩
  have HZ : Hid (Z = List.replicate 16 (Value.int .u32 0)) := hZ
  have HZl : Hid (Z.length = 16) := by show _ = _; rw [hZ]; rfl
  rw [← hZ]
  clear hZ
  have rK : Row ((((w.alloc (.cells (u8s key).toArray 23)).alloc (.cells (u8s nonce).toArray 54)).alloc (.cells Z.toArray 120)).alloc (.cells Z.toArray 120)) w.heap.size 23 (u8s key) := (((Row.new' w 23 _).alloc _).alloc _).alloc _
  have rN : Row ((((w.alloc (.cells (u8s key).toArray 23)).alloc (.cells (u8s nonce).toArray 54)).alloc (.cells Z.toArray 120)).alloc (.cells Z.toArray 120)) (w.heap.size + 1) 54 (u8s nonce) := by
    have := Row.new' (w.alloc (.cells (u8s key).toArray 23)) 54 (u8s nonce)
    rw [World.size_alloc] at this
    exact (this.alloc _).alloc _
  have rR : Row ((((w.alloc (.cells (u8s key).toArray 23)).alloc (.cells (u8s nonce).toArray 54)).alloc (.cells Z.toArray 120)).alloc (.cells Z.toArray 120)) (w.heap.size + 1 + 1) 120 Z := by
    have := Row.new' ((w.alloc (.cells (u8s key).toArray 23)).alloc (.cells (u8s nonce).toArray 54)) 120 Z
    rw [World.size_alloc, World.size_alloc] at this
    exact this.alloc _
  have rS : Row ((((w.alloc (.cells (u8s key).toArray 23)).alloc (.cells (u8s nonce).toArray 54)).alloc (.cells Z.toArray 120)).alloc (.cells Z.toArray 120)) (w.heap.size + 1 + 1 + 1) 120 (fill 16 (.int .u32 0) (u32s (fixedL.take 0))) := by
    have := Row.new' (((w.alloc (.cells (u8s key).toArray 23)).alloc (.cells (u8s nonce).toArray 54)).alloc (.cells Z.toArray 120)) 120 Z
    rw [World.size_alloc, World.size_alloc, World.size_alloc] at this
    rw [HZ.out] at this ⊢
    exact this
  have hb0 : Below w.heap.size w ((((w.alloc (.cells (u8s key).toArray 23)).alloc (.cells (u8s nonce).toArray 54)).alloc (.cells Z.toArray 120)).alloc (.cells Z.toArray 120)) := ((((Below.refl w.heap.size w).alloc (Nat.le_refl _) _).alloc (by simp) _).alloc (by simp; omega) _).alloc (by simp; omega) _
  generalize ((((w.alloc (.cells (u8s key).toArray 23)).alloc (.cells (u8s nonce).toArray 54)).alloc (.cells Z.toArray 120)).alloc (.cells Z.toArray 120)) = w0 at *
  go_loopw [11] (fun i wr => ∃ k : Nat, k ≤ 4 ∧ i = .int .i64 k ∧ Row wr w.heap.size 23 (u8s key) ∧ Row wr (w.heap.size + 1) 54 (u8s nonce) ∧ Row wr (w.heap.size + 1 + 1) 120 Z ∧ Row wr (w.heap.size + 1 + 1 + 1) 120 (fill 16 (.int .u32 0) (u32s (fixedL.take k))) ∧ Below w.heap.size w wr)
    (fun i _ => 4 - (intOf i).toNat)
  case atStart => exact ⟨0, by omega, rfl, rK, rN, rR, rS, hb0⟩
  case round =>
    clear rK rN rR rS hb0
    obtain ⟨k, hk, rfl, hrK, hrN, hrR, hrS, hBw⟩ := hrel
    by_cases hk4 : k < 4
    · have hki : (k : Int) < 4 := by omega
      have cI : ∀ w : World, (Instr.index 161 (.agg FV.toArray) (.int .i64 (k : Int))).run Tryz.prog w = .ok (.int .u32 (fixedL.getD k 0 : Nat)) w := fun w => run_index161 _ k _ hk4 (HFn.out k hk4) w
      have HFt : Hid (fixedL.take k ++ [fixedL.getD k 0] = fixedL.take (k + 1)) := by
        show _ = _
        rcases k with _ | _ | _ | _ | k
        all_goals first | rfl | omega
      have HFk : Hid ((u32s (fixedL.take k)).length = k) := by show _ = _; rw [u32s_length, List.length_take]; show min k 4 = k; omega
      have cz := hrS.cell (i := k) (v := .int .u32 0) (fill_rest _ _ _ (by rw [HFk.out]; omega) (by omega))
      have fz := hrS.frozen k
      have hki16 : (k : Int) < 16 := by omega
      have HrK : Hid _ := hrK
      have HrN : Hid _ := hrN
      have HrR : Hid _ := hrR
      have HrS : Hid _ := hrS
      clear hrK hrN hrR hrS
      generalize hx : fixedL.getD k 0 = x at *
      have Hx : Hid (fixedL.getD k 0 = x) := hx
      clear hx
      go_wp2
      go_roundw
      case rel =>
        refine ⟨k + 1, by omega, by go_num, Row.other HrK.out (by simp; omega) _, Row.other HrN.out (by simp) _, Row.other HrR.out (by simp) _, ?_, hBw.setCell (p := ⟨w.heap.size + 1 + 1 + 1, k, none⟩) (by show _ ≤ w.heap.size + 1 + 1 + 1; omega) _⟩
        have h := Row.set HrS.out k (.int .u32 (x : Nat))
        rw [fill_set _ _ _ _ HFk.out (by omega), u32s_snoc, HFt.out] at h
        exact h
      case measure => simp [intOf]; omega
    · obtain rfl : k = 4 := by omega
      have HrK : Hid (Row wr w.heap.size 23 (u8s key)) := hrK
      have HrN : Hid (Row wr (w.heap.size + 1) 54 (u8s nonce)) := hrN
      have HrR : Hid (Row wr (w.heap.size + 1 + 1) 120 Z) := hrR
      have HrS : Hid (Row wr (w.heap.size + 1 + 1 + 1) 120 (fill 16 (.int .u32 0) (u32s fixedL))) := hrS
      have HBw : Hid (Below w.heap.size w wr) := hBw
      clear hrK hrN hrR hrS hBw
      go_wp2
      refine wp_region_noPanic ?_
      refine wp_region_gate' 3 (fun _ => True) (by kernel_rfl) ?_
      refine wpAnyG_takesAt 0 2 2 (of_decide_eq_true (by kernel_rfl)) rfl (fun _ _ _ _ _ h => h) (by kernel_rfl) (by kernel_rfl) (fun _ => trivial) ?_
      simp only [List.drop_zero, List.take_succ_cons, List.take_zero]
      iterate 2 (refine wpHeldG_free (v := ?_) (by rfl) (fun wz => ?_) ?_; rotate_left; (focus (go_simp; try with_reducible rfl)); (simp only [Act.put, List.setIfInBounds_toArray, List.set_cons_zero, List.set_cons_succ]))
      refine wpHeldG_nil ?_
      refine wpAnyG_only (i := 2) (by kernel_rfl) rfl (by rfl) (fun K hK => ?_)
      go_simp
      refine (words_any (some ⟨w.heap.size, 0, none⟩) 32 32 key (by omega) wr.drew (bytes_of_row HrK.out.drew HKx.out HKl.out (by omega))).mono ?_
      rintro e w3 ⟨v3, rfl, hrow3, hb3⟩
      rw [wordVals_low] at hrow3
      obtain ⟨q3, c3, rfl⟩ := slice_of_row hrow3
      obtain ⟨g3, rfl, _⟩ := row_some hrow3 (by omega)
      refine hK.out _ _ (fun _ => trivial) ?_
      clear hK K
      refine wpAnyG_only (i := 3) (by kernel_rfl) rfl (by rfl) (fun K hK => ?_)
      refine wp_copy_but (.tmp 19) (.tmp 21) 121 121 (by rfl) 53 Tryz.underlying121 size53 (w.heap.size + 1 + 1 + 1) 4 8 12 ⟨g3, 0, none⟩ (32 / 4) c3 (by rfl) (by rfl) (fill 16 (.int .u32 0) (u32s fixedL)) 120 (HrS.out.drew.later hb3) (u32s (wordsLow key 8)) (by rw [u32s_length, wordsLow_length]; rfl) (row_src hrow3) (by rw [u32s_length, wordsLow_length]; show 4 + 8 ≤ 16; omega) (u32s_one _) (fun w4 hr4 hbut4 => ?_)
      refine hK.out _ _ (gone (by kernel_rfl)) ?_
      clear hK K
      refine wpAnyG_done (by kernel_rfl) ?_ _
      refine NoPanic.normal ?_
      simp only [Act.put, List.getElem_toArray, List.getElem_cons_succ, List.getElem_cons_zero, List.setIfInBounds_toArray, List.set_cons_zero, List.set_cons_succ]
      have hsw := HBw.out.size
      have hls := HrS.out.lt
      have hs3 : wr.heap.size ≤ w3.heap.size := hb3.size
      have HrN4 : Hid (Row w4 (w.heap.size + 1) 54 (u8s nonce)) := hbut4.row (by omega) (by omega) (HrN.out.drew.later hb3)
      have HrR4 : Hid (Row w4 (w.heap.size + 1 + 1) 120 Z) := hbut4.row (by omega) (by omega) (HrR.out.drew.later hb3)
      have HB4 : Hid (Below w.heap.size w w4) := (HBw.out.drew.trans (hb3.mono (show w.heap.size ≤ wr.heap.size by omega))).trans (hbut4.below (by omega) (by omega))
      have HL4 : Hid ((splice (fill 16 (.int .u32 0) (u32s fixedL)) 4 (u32s (wordsLow key 8))).length = 16) := by
        show _ = _
        rw [length_splice _ _ _ (by rw [u32s_length, wordsLow_length]; show 4 + 8 ≤ 16; omega)]
        rfl
      have HS4 : Hid (Row w4 (w.heap.size + 1 + 1 + 1) 120 (splice (fill 16 (.int .u32 0) (u32s fixedL)) 4 (u32s (wordsLow key 8)))) := hr4
      clear hr4 hbut4 hb3 hrow3 hs3 HrK HrN HrR HrS HBw
      generalize hX4 : splice (fill 16 (.int .u32 0) (u32s fixedL)) 4 (u32s (wordsLow key 8)) = X4 at *
      have HX4 : Hid (splice (fill 16 (.int .u32 0) (u32s fixedL)) 4 (u32s (wordsLow key 8)) = X4) := hX4
      clear hX4
      obtain ⟨v12, hv12⟩ : ∃ v, w4.cell? ⟨w.heap.size + 1 + 1 + 1, 12, none⟩ = some v := ⟨_, HS4.out.cell (List.getElem?_eq_getElem (by rw [HL4.out]; omega))⟩
      have fz12 := HS4.out.frozen 12
      go_wp2
      have HrN5 : Hid (Row (w4.setCell ⟨w.heap.size + 1 + 1 + 1, 12, none⟩ (.int .u32 (c : Nat))) (w.heap.size + 1) 54 (u8s nonce)) := HrN4.out.other (by simp) _
      have HrR5 : Hid (Row (w4.setCell ⟨w.heap.size + 1 + 1 + 1, 12, none⟩ (.int .u32 (c : Nat))) (w.heap.size + 1 + 1) 120 Z) := HrR4.out.other (by simp) _
      have HS5 : Hid (Row (w4.setCell ⟨w.heap.size + 1 + 1 + 1, 12, none⟩ (.int .u32 (c : Nat))) (w.heap.size + 1 + 1 + 1) 120 (X4.set 12 (.int .u32 (c : Nat)))) := HS4.out.set _ _
      have HB5 : Hid (Below w.heap.size w (w4.setCell ⟨w.heap.size + 1 + 1 + 1, 12, none⟩ (.int .u32 (c : Nat)))) := HB4.out.setCell (p := ⟨w.heap.size + 1 + 1 + 1, 12, none⟩) (by show _ ≤ w.heap.size + 1 + 1 + 1; omega) _
      clear hv12 fz12 HrN4 HrR4 HS4 HB4
      generalize w4.setCell ⟨w.heap.size + 1 + 1 + 1, 12, none⟩ (.int .u32 (c : Nat)) = w5 at *
      refine wp_region_noPanic ?_
      refine wp_region_gate' 3 (fun _ => True) (by kernel_rfl) ?_
      refine wpAnyG_takesAt 0 2 2 (of_decide_eq_true (by kernel_rfl)) rfl (fun _ _ _ _ _ h => h) (by kernel_rfl) (by kernel_rfl) (fun _ => trivial) ?_
      simp only [List.drop_zero, List.take_succ_cons, List.take_zero]
      iterate 2 (refine wpHeldG_free (v := ?_) (by rfl) (fun wz => ?_) ?_; rotate_left; (focus (go_simp; try with_reducible rfl)); (simp only [Act.put, List.setIfInBounds_toArray, List.set_cons_zero, List.set_cons_succ]))
      refine wpHeldG_nil ?_
      refine wpAnyG_only (i := 2) (by kernel_rfl) rfl (by rfl) (fun K hK => ?_)
      go_simp
      refine (words_any (some ⟨w.heap.size + 1, 0, none⟩) 12 12 nonce (by omega) w5.drew (bytes_of_row HrN5.out.drew HNx.out HNl.out (by omega))).mono ?_
      rintro e w6 ⟨v6, rfl, hrow6, hb6⟩
      rw [wordVals_low] at hrow6
      obtain ⟨q6, c6, rfl⟩ := slice_of_row hrow6
      obtain ⟨g6, rfl, _⟩ := row_some hrow6 (by omega)
      refine hK.out _ _ (fun _ => trivial) ?_
      clear hK K
      refine wpAnyG_only (i := 3) (by kernel_rfl) rfl (by rfl) (fun K hK => ?_)
      refine wp_copy_but (.tmp 25) (.tmp 27) 121 121 (by rfl) 53 Tryz.underlying121 size53 (w.heap.size + 1 + 1 + 1) 13 3 3 ⟨g6, 0, none⟩ (12 / 4) c6 (by rfl) (by rfl) (X4.set 12 (.int .u32 (c : Nat))) 120 (HS5.out.drew.later hb6) (u32s (wordsLow nonce 3)) (by rw [u32s_length, wordsLow_length]; rfl) (row_src hrow6) (by rw [u32s_length, wordsLow_length, List.length_set, HL4.out]; omega) (u32s_one _) (fun w7 hr7 hbut7 => ?_)
      refine hK.out _ _ (gone (by kernel_rfl)) ?_
      clear hK K
      refine wpAnyG_done (by kernel_rfl) ?_ _
      refine NoPanic.normal ?_
      simp only [Act.put, List.getElem_toArray, List.getElem_cons_succ, List.getElem_cons_zero, List.setIfInBounds_toArray, List.set_cons_zero, List.set_cons_succ]
      have hsw5 := HB5.out.size
      have hls5 := HS5.out.lt
      have hs6 : w5.heap.size ≤ w6.heap.size := hb6.size
      have HrR7 : Hid (Row w7 (w.heap.size + 1 + 1) 120 Z) := hbut7.row (by omega) (by omega) (HrR5.out.drew.later hb6)
      have HB7 : Hid (Below w.heap.size w w7) := (HB5.out.drew.trans (hb6.mono (show w.heap.size ≤ w5.heap.size by omega))).trans (hbut7.below (by omega) (by omega))
      have HS7 : Hid (Row w7 (w.heap.size + 1 + 1 + 1) 120 (u32s (stateN key c nonce))) := by
        rw [← stateN_list, ← state_list (u32s fixedL) (u32s (wordsLow key 8)) (u32s (wordsLow nonce 3)) (.int .u32 (c : Nat)) (.int .u32 0) rfl (by rw [u32s_length, wordsLow_length]) (by rw [u32s_length, wordsLow_length]), HX4.out]
        exact hr7
      have HLs : Hid ((u32s (stateN key c nonce)).length = 16) := by show _ = _; rw [u32s_length, stateN_length]
      have H1s : Hid (∀ v ∈ u32s (stateN key c nonce), v.oneCell' = true) := u32s_one _
      clear hr7 hbut7 hb6 hrow6 hs6 HrN5 HrR5 HS5 HB5
      generalize hV : u32s (stateN key c nonce) = V at *
      have HV : Hid (u32s (stateN key c nonce) = V) := hV
      clear hV
      go_wp2_with (first
        | ((with_reducible show wpList _ _ _ (Oper.mk _ (Op.load 120 (.tmp 7)) _ _ _ _ :: _) _ _); refine wpList_load_Row rfl 120 (.tmp 7) rfl rfl HS7.out Tryz.underlying120 (by rw [HLs.out]; exact size120) ?_; simp only [Act.put, List.setIfInBounds_toArray, List.set_cons_zero, List.set_cons_succ])
        | ((with_reducible show wpList _ _ _ (Oper.mk _ (Op.store 120 (.tmp 6) (.tmp 29)) _ _ _ _ :: _) _ _); refine wpList_store_Row rfl 120 (.tmp 6) (.tmp 29) rfl V rfl rfl HrR7.out (by rw [HLs.out]; exact size120) (by rw [HLs.out, HZl.out]) H1s.out ?_; simp only [Act.put]))
      refine bodyPost_ret (results_Row rfl rfl (Row.sets_all (vs := V) HrR7.out (by rw [HLs.out, HZl.out])) Tryz.underlying120 (by rw [HLs.out]; exact size120)) rfl ?_
      exact ⟨by rw [HV.out], below_setCells (by omega) _ _ HB7.out⟩
end Go.Proofs.YtclelancbfoenaaGreatDoor.Re
/-
  What the reference's Number, Put and Words answer. Nothing that lay before a call has turned.
-/
namespace Go.Proofs.YtclelancbfoenaaGreatDoor.Re
open Go.RowKit
def byteVals (f : Nat → Nat) (k : Nat) : List Value := (List.range k).map fun i => .int .u8 (f i : Nat)
theorem byteVals_succ (f : Nat → Nat) (k : Nat) : byteVals f k ++ [.int .u8 (f k : Nat)] = byteVals f (k + 1) := by simp [byteVals, List.range_succ]
/-- The number of the bytes i, .., len - 1 of zs, the lowest ahead; in m steps. -/
def numFrom (zs : List Nat) (i : Nat) : Nat → Nat
  | 0 => 0
  | m + 1 => zs.getD i 0 + 256 * numFrom zs (i + 1) m

theorem numFrom_lt (zs : List Nat) (h : ∀ z ∈ zs, z < 256) : ∀ (m i : Nat), numFrom zs i m < 256 ^ m
  | 0, _ => by simp [numFrom]
  | m + 1, i => by
    have h1 := numFrom_lt zs h m (i + 1)
    have h2 := getD_of_all h i
    rw [numFrom, Nat.pow_succ]
    omega

theorem u64_join (x y : Nat) (i : Nat) (h1 : x % 2 ^ i = 0) (h2 : y < 2 ^ i) (hx : x < 18446744073709551616) (hy : y < 18446744073709551616) : bits .or .u64 (x : Int) (y : Int) = ((x + y : Nat) : Int) := by
  rw [bits_join .u64 64 (by decide) (fun n h0 h1 => by rw [IntKind.wrap_u64]; omega) i x y (by omega) (by exact_mod_cast h1) (by omega) (by omega) (by exact_mod_cast h2) (by omega)]
  omega

theorem num_step (zs : List Nat) (hz : ∀ z ∈ zs, z < 256) (j len : Nat) (hj : j + 1 ≤ len) (hlen : len ≤ 8) :
    bits .or .u64 (IntKind.u64.wrap (((numFrom zs (j + 1) (len - (j + 1)) : Nat) : Int) * 256)) (IntKind.u64.wrap ((zs[j]?.getD 0 : Nat) : Int)) = ((numFrom zs j (len - j) : Nat) : Int) := by
  have h1 := numFrom_lt zs hz (len - (j + 1)) (j + 1)
  have h2 : zs[j]?.getD 0 < 256 := getD_of_all hz j
  have h3 : 256 ^ (len - (j + 1)) ≤ 256 ^ 7 := Nat.pow_le_pow_right (by decide) (by omega)
  rw [show len - j = (len - (j + 1)) + 1 by omega, numFrom, List.getD_eq_getElem?_getD]
  generalize numFrom zs (j + 1) (len - (j + 1)) = N at *
  generalize zs[j]?.getD 0 = z at *
  have e1 : IntKind.u64.wrap ((N : Int) * 256) = ((256 * N : Nat) : Int) := by rw [IntKind.wrap_u64]; omega
  have e2 : IntKind.u64.wrap (z : Int) = ((z : Nat) : Int) := by rw [IntKind.wrap_u64]; omega
  rw [e1, e2, u64_join _ _ 8 (by omega) (by omega) (by omega) (by omega)]
  omega

set_option maxRecDepth 100000 in
set_option maxHeartbeats 1000000 in
theorem number_some (b off len cap : Nat) (zs : List Nat) (w : World) (hlen : len ≤ 8) (hz : ∀ z ∈ zs, z < 256)
    (hA : ∀ i, i < len → w.cell? ⟨b, off + i, none⟩ = some (.int .u8 (zs.getD i 0 : Nat))) :
    Calls Tryz.prog 44 #[.slice (some ⟨b, off, none⟩) len cap] w fun e w' => e = .returned (.int .u64 (numFrom zs 0 len : Nat)) ∧ w' = w := by
  go_enter Tryz.func44, Tryz.ntmps44
  go_wp2
  go_loop [3, 4] (fun n i => ∃ k : Nat, k ≤ len ∧ i = .int .i64 ((k : Int) - 1) ∧ n = .int .u64 (numFrom zs k (len - k) : Nat)) (fun _ i => (intOf i + 1).toNat)
  case atStart => exact ⟨len, Nat.le_refl _, rfl, by simp [numFrom]⟩
  case round =>
    obtain ⟨k, hk, rfl, rfl⟩ := hrel
    by_cases h0 : k = 0
    · subst h0
      go_wp2
      go_ret
      exact ⟨rfl, rfl⟩
    · obtain ⟨j, rfl⟩ : ∃ j, k = j + 1 := ⟨k - 1, by omega⟩
      have hc := hA j (by omega)
      have HS : Hid (bits .or .u64 (IntKind.u64.wrap (((numFrom zs (j + 1) (len - (j + 1)) : Nat) : Int) * 256)) (IntKind.u64.wrap ((zs[j]?.getD 0 : Nat) : Int)) = ((numFrom zs j (len - j) : Nat) : Int)) := num_step zs hz j len hk hlen
      go_wp2
      go_round
      case rel => exact ⟨j, by omega, rfl, by rw [HS.out]⟩
      case measure => simp [intOf]

theorem numFrom_word (zs : List Nat) : numFrom zs 0 4 = wordAt zs 0 := by
  simp only [numFrom, wordAt, Nat.zero_add, Nat.mul_zero, Nat.reduceAdd]; omega

/-- Byte i of a number. -/
def byteAt (n i : Nat) : Nat := n / 256 ^ i % 256

theorem byteAt_eq (n k : Nat) : ((byteAt n k : Nat) : Int) = (n : Int) / 2 ^ (8 * k) % 256 := by
  rw [byteAt, show (256 : Nat) = 2 ^ 8 from rfl, ← Nat.pow_mul]
  simp

set_option maxRecDepth 100000 in
set_option maxHeartbeats 1000000 in
/-- the reference's Put -/
theorem put_any (n size : Nat) (hs : size ≤ 8) (w : World) :
    Calls Tryz.prog 46 #[.int .u64 n, .int .i64 size] w fun e w' => ∃ v, e = .returned v ∧ w'.ownsRow w.heap.size 5 1 v size (byteVals (byteAt n) size) ∧ Below w.heap.size w w' := by
  obtain ⟨i0, hi, hz0, hz1, hz2⟩ := info_parts info5
  go_enter Tryz.func46, Tryz.ntmps46
  go_wp2
  go_loopw [5, 6] (fun v i wr => ∃ k : Nat, k ≤ size ∧ i = .int .i64 k ∧ wr.ownsRow w.heap.size 5 1 v k (byteVals (byteAt n) k) ∧ Below w.heap.size w wr)
    (fun _ i _ => size - (intOf i).toNat)
  case atStart => exact ⟨0, Nat.zero_le _, rfl, World.ownsRow_nil _ _ _ _, Below.refl _ _⟩
  case round =>
    obtain ⟨k, hk, rfl, hown, hbel⟩ := hrel
    by_cases hlt : k < size
    · have i1 : (k : Int) < (size : Int) := by omega
      have HY : Hid (((byteAt n k : Nat) : Int) = (n : Int) / 2 ^ (8 * k) % 256) := byteAt_eq n k
      have hsz := hbel.size
      go_wp2_with (at_builtin; refine wpList_append_lies _ rfl _ _ 24 rfl w.heap.size 5 i0 (.int .u8 0) 1 1 Tryz.underlying24 hi hz0 hz1 hz2 rfl (by decide) u5 k _ rfl (hown.alloc _) ⟨wr.heap.size, 0, none⟩ 1 1 [.int .u8 (byteAt n k : Nat)] rfl rfl (by rw [HY.out]; exact cell_one_new _ _ _) (by simp [Value.oneCell']) (by omega) (by simp only [maxLen]; omega) (by omega) (by simp; omega) (wr.heap.size + 1) (by simp) ?_; intro gg cap w1 hown1 hgrow hat hlt1)
      go_roundw
      case rel => exact ⟨k + 1, by omega, by go_num, by rw [← byteVals_succ]; exact hown1, (hbel.alloc hsz _).grown hgrow (by simp; omega) (fun j e => (hown.lt j e).1)⟩
      case measure => simp [intOf]; omega
    · obtain rfl : k = size := by omega
      go_wp2
      go_ret
      exact ⟨_, rfl, hown, hbel⟩

theorem wordVals_succ (zs : List Nat) (k : Nat) : wordVals zs k ++ [.int .u32 (wordAt zs k : Nat)] = wordVals zs (k + 1) := by simp [wordVals, List.range_succ]

theorem getD_drop (zs : List Nat) (a i : Nat) : (zs.drop a).getD i 0 = zs.getD (a + i) 0 := by simp [List.getElem?_drop]

theorem wordAt_drop (zs : List Nat) (k : Nat) : wordAt (zs.drop (4 * k)) 0 = wordAt zs k := by
  simp only [wordAt, getD_drop, Nat.mul_zero, Nat.zero_add, Nat.add_zero]

theorem wordAt_lt (zs : List Nat) (h : ∀ z ∈ zs, z < 256) (k : Nat) : wordAt zs k < 4294967296 := by
  have h0 := getD_of_all h (4 * k)
  have h1 := getD_of_all h (4 * k + 1)
  have h2 := getD_of_all h (4 * k + 2)
  have h3 := getD_of_all h (4 * k + 3)
  unfold wordAt
  omega

set_option maxRecDepth 100000 in
set_option maxHeartbeats 1000000 in
theorem refWords_some (b off len cap : Nat) (zs : List Nat) (w : World) (hlen : len ≤ 60000) (hlc : len ≤ cap) (hcap : cap ≤ 9223372036854775807) (hbb : b < w.heap.size) (hz : ∀ z ∈ zs, z < 256)
    (hA : ∀ i, i < len → w.cell? ⟨b, off + i, none⟩ = some (.int .u8 (zs.getD i 0 : Nat))) :
    Calls Tryz.prog 63 #[.slice (some ⟨b, off, none⟩) len cap] w fun e w' => ∃ v, e = .returned v ∧ w'.ownsRow w.heap.size 53 1 v (len / 4) (wordVals zs (len / 4)) ∧ Below w.heap.size w w' := by
  obtain ⟨i0, hi, hz0, hz1, hz2⟩ := info_parts info53
  go_enter Tryz.func63, Tryz.ntmps63
  go_wp2
  go_loopw [0, 3] (fun s v wr => ∃ (k L C : Nat) (q : Option Addr), s = .slice q L C ∧ L + 4 * k = len ∧ C + 4 * k = cap ∧ (0 < L → q = some ⟨b, off + 4 * k, none⟩) ∧ wr.ownsRow w.heap.size 53 1 v k (wordVals zs k) ∧ Below w.heap.size w wr)
    (fun s _ _ => sliceLen s)
  case atStart => exact ⟨0, len, cap, _, rfl, by omega, by omega, fun _ => rfl, World.ownsRow_nil _ _ _ _, Below.refl _ _⟩
  case round =>
    obtain ⟨k, L, C, q, rfl, hL, hC, hq, hown, hbel⟩ := hrel
    have HL : Hid (L + 4 * k = len ∧ C + 4 * k = cap) := ⟨hL, hC⟩
    have hLC : L ≤ C := by omega
    have hCc : C ≤ 9223372036854775807 := by omega
    by_cases hfull : 4 ≤ L
    · obtain rfl := hq (by omega)
      have hn := number_some b (off + 4 * k) 4 C (zs.drop (4 * k)) wr (by omega) (fun z h => hz z (List.mem_of_mem_drop h)) (fun i hi => by
        have := (hbel.cell (p := ⟨b, off + (4 * k + i), none⟩) hbb).trans (hA (4 * k + i) (by omega))
        rw [getD_drop, Nat.add_assoc]
        exact this)
      rw [numFrom_word, wordAt_drop] at hn
      have hw := wordAt_lt zs hz k
      have hwr : IntKind.u32.wrap ((wordAt zs k : Nat) : Int) = (wordAt zs k : Nat) := by rw [IntKind.wrap_u32]; omega
      have HN : Hid (Calls Tryz.prog 44 #[.slice (some ⟨b, off + 4 * k, none⟩) 4 C] wr fun e w' => e = .returned (.int .u64 (wordAt zs k : Nat)) ∧ w' = wr) := hn
      have hLi : (4 : Int) ≤ (L : Int) := by omega
      have hsz := hbel.size
      have hkk : k + 1 ≤ 60000 := by omega
      have HQ : Hid (4 * k + L = 4 * k + L) := rfl
      clear hn hA hz hL hC hq
      generalize hO : off + 4 * k = O at *
      have HO : Hid (off + 4 * k = O) := hO
      clear hO
      go_wp2_with (first
        | (go_at_call 44; refine HN.out.mono ?_; rintro e w' ⟨rfl, hw'⟩; obtain rfl : wr = w' := hw'.symm)
        | (at_builtin; refine wpList_append_lies _ rfl _ _ 121 rfl w.heap.size 53 i0 (.int .u32 0) 1 4 Tryz.underlying121 hi hz0 hz1 hz2 rfl (by decide) u3 k _ rfl (hown.alloc _) ⟨wr.heap.size, 0, none⟩ 1 1 [.int .u32 (wordAt zs k : Nat)] rfl rfl (cell_one_new _ _ _) (by simp [Value.oneCell']) (by omega) (by simp only [maxLen]; omega) (by omega) (by simp; omega) (wr.heap.size + 1) (by simp) ?_; intro gg cap' w1 hown1 hgrow hat hlt1))
      go_roundw
      case rel =>
        have h1 := HL.out
        refine ⟨k + 1, L - 4, C - 4, _, rfl, by omega, by omega, fun hh => ?_, by rw [← wordVals_succ]; exact hown1, (hbel.alloc hsz _).grown hgrow (by simp; omega) (fun j e => (hown.lt j e).1)⟩
        rw [if_neg (by omega), ← HO.out]
        rfl
      case measure => simp only [sliceLen]; omega
    · have hLi : ¬ (4 : Int) ≤ (L : Int) := by omega
      have hLi' : (L : Int) < 4 := by omega
      obtain rfl : k = len / 4 := by omega
      clear hL hC
      go_wp2
      go_ret
      exact ⟨_, rfl, hown, hbel⟩

end Go.Proofs.YtclelancbfoenaaGreatDoor.Re
/-
  What vec.Bytes answers for any words (up to 60,000): four bytes of each, the lowest ahead, in memory of their own. Nothing that lay before the call has turned.
-/
namespace Go.Proofs.YtclelancbfoenaaGreatDoor.Re
open Go.RowKit

def IsWords (n₀ : Nat) (W : World) (p : Option Addr) (len : Nat) (ls : List Nat) : Prop :=
  ls.length = len ∧ (∀ x ∈ ls, x < 4294967296) ∧
  (len = 0 ∨ ∃ b off, p = some ⟨b, off, none⟩ ∧ b < n₀ ∧ ∀ i, i < len → W.cell? ⟨b, off + i, none⟩ = some (.int .u32 (ls.getD i 0 : Nat)))

/-- The bytes of some words. -/
def bytesOf (ls : List Nat) (i : Nat) : Nat := byteAt (ls.getD (i / 4) 0) (i % 4)

theorem byteVals_four (ls : List Nat) (k : Nat) :
    byteVals (bytesOf ls) (4 * k) ++ [.int .u8 (byteAt (ls.getD k 0) 0 : Nat), .int .u8 (byteAt (ls.getD k 0) 1 : Nat), .int .u8 (byteAt (ls.getD k 0) 2 : Nat), .int .u8 (byteAt (ls.getD k 0) 3 : Nat)] = byteVals (bytesOf ls) (4 * (k + 1)) := by
  have e : ∀ r, r < 4 → bytesOf ls (4 * k + r) = byteAt (ls.getD k 0) r := fun r hr => by
    unfold bytesOf
    rw [show (4 * k + r) / 4 = k by omega, show (4 * k + r) % 4 = r by omega]
  rw [show 4 * (k + 1) = 4 * k + 1 + 1 + 1 + 1 by omega, ← byteVals_succ, ← byteVals_succ, ← byteVals_succ, ← byteVals_succ]
  have e0 := e 0 (by omega)
  rw [Nat.add_zero] at e0
  rw [show 4 * k + 1 + 1 = 4 * k + 2 by omega, show 4 * k + 2 + 1 = 4 * k + 3 by omega, e0, e 1 (by omega), e 2 (by omega), e 3 (by omega)]
  simp

theorem four_eq (x : Nat) : [Value.int .u8 ((x : Int) % 256), .int .u8 ((x : Int) / 256 % 256), .int .u8 ((x : Int) / 65536 % 256), .int .u8 ((x : Int) / 16777216 % 256)] =
    [.int .u8 (byteAt x 0 : Nat), .int .u8 (byteAt x 1 : Nat), .int .u8 (byteAt x 2 : Nat), .int .u8 (byteAt x 3 : Nat)] := by
  simp [byteAt]

set_option maxRecDepth 100000 in
set_option maxHeartbeats 1000000 in
theorem bytes_some (b off len cap : Nat) (ls : List Nat) (w : World) (hlen : len ≤ 60000) (hbb : b < w.heap.size)
    (hA : ∀ i, i < len → w.cell? ⟨b, off + i, none⟩ = some (.int .u32 (ls.getD i 0 : Nat))) :
    Calls Tryz.prog 56 #[.slice (some ⟨b, off, none⟩) len cap] w fun e w' => ∃ v, e = .returned v ∧ w'.ownsRow w.heap.size 5 1 v (4 * len) (byteVals (bytesOf ls) (4 * len)) ∧ Below w.heap.size w w' := by
  obtain ⟨i0, hi, hz0, hz1, hz2⟩ := info_parts info5
  go_enter Tryz.func56, Tryz.ntmps56
  go_wp2_with (at_make; refine wpList_make_own _ rfl _ _ 24 rfl w.heap.size 5 i0 (.int .u8 0) 1 Tryz.underlying24 hi hz0 hz1 _ _ _ (4 * len) rfl rfl (by omega) (by rw [hz2]; omega) (by simp only [maxLen]; omega) (Nat.le_refl _) ?_; intro w1 hown1 hgrow1)
  have hB1 : Below w.heap.size w w1 := (Below.refl _ w).grown hgrow1 (Nat.le_refl _) (fun k e => by cases e)
  clear hgrow1
  go_loopw [3, 12] (fun v i wr => ∃ k : Nat, k ≤ len ∧ i = .int .i64 k ∧ wr.ownsRow w.heap.size 5 1 v (4 * k) (byteVals (bytesOf ls) (4 * k)) ∧ Below w.heap.size w wr)
    (fun _ i _ => len - (intOf i).toNat)
  case atStart => exact ⟨0, Nat.zero_le _, rfl, hown1, hB1⟩
  case round =>
    obtain ⟨k, hk, rfl, hown, hbel⟩ := hrel
    by_cases hlt : k < len
    · have i1 : (k : Int) < (len : Int) := by omega
      have hc := (hbel.cell (p := ⟨b, off + k, none⟩) hbb).trans (hA k hlt)
      have hsz := hbel.size
      clear hA hB1 hown1
      have HF := byteVals_four ls k
      obtain ⟨x, hx⟩ : ∃ x, x = ls.getD k 0 := ⟨_, rfl⟩
      rw [← hx] at hc HF
      have HF' : Hid (byteVals (bytesOf ls) (4 * k) ++ [.int .u8 (byteAt x 0 : Nat), .int .u8 (byteAt x 1 : Nat), .int .u8 (byteAt x 2 : Nat), .int .u8 (byteAt x 3 : Nat)] = byteVals (bytesOf ls) (4 * (k + 1))) := HF
      clear HF hx
      go_wp2_with (at_builtin; refine wpList_append_lies _ rfl _ _ 24 rfl w.heap.size 5 i0 (.int .u8 0) 1 1 Tryz.underlying24 hi hz0 hz1 hz2 rfl (by decide) u3 (4 * k) _ rfl (hown.alloc _) ⟨wr.heap.size, 0, none⟩ 4 4 [.int .u8 ((x : Int) % 256), .int .u8 ((x : Int) / 256 % 256), .int .u8 ((x : Int) / 65536 % 256), .int .u8 ((x : Int) / 16777216 % 256)] rfl rfl (World.news_of_block (cs := #[.int .u8 ((x : Int) % 256), .int .u8 ((x : Int) / 256 % 256), .int .u8 ((x : Int) / 65536 % 256), .int .u8 ((x : Int) / 16777216 % 256)]) (t := 5) (fr := (0, 0)) (heap_alloc_new wr _)) (by simp [Value.oneCell']) (by omega) (by simp only [maxLen]; omega) (by omega) (by simp; omega) (wr.heap.size + 1) (by simp) ?_; intro gg cap' w2 hown2 hgrow hat hlt1)
      go_roundw
      case rel =>
        refine ⟨k + 1, by omega, by go_num, ?_, (hbel.alloc hsz _).grown hgrow (by simp; omega) (fun j e => (hown.lt j e).1)⟩
        rw [← HF'.out, ← four_eq]
        exact hown2
      case measure => simp [intOf]; omega
    · obtain rfl : k = len := by omega
      go_wp2
      go_ret
      exact ⟨_, rfl, hown, hbel⟩

set_option maxRecDepth 100000 in
set_option maxHeartbeats 1000000 in
theorem bytes_none (p : Option Addr) (cap : Nat) (w : World) :
    Calls Tryz.prog 56 #[.slice p 0 cap] w fun e w' => ∃ v, e = .returned v ∧ w'.ownsRow w.heap.size 5 1 v 0 [] ∧ Below w.heap.size w w' := by
  obtain ⟨i0, hi, hz0, hz1, hz2⟩ := info_parts info5
  go_enter Tryz.func56, Tryz.ntmps56
  go_wp2_with (at_make; refine wpList_make_own _ rfl _ _ 24 rfl w.heap.size 5 i0 (.int .u8 0) 1 Tryz.underlying24 hi hz0 hz1 _ _ _ 0 rfl rfl (by omega) (by omega) (by simp only [maxLen]; omega) (Nat.le_refl _) ?_; intro w1 hown1 hgrow1)
  have hB1 : Below w.heap.size w w1 := (Below.refl _ w).grown hgrow1 (Nat.le_refl _) (fun k e => by cases e)
  go_loopw [3, 12] (fun v i wr => v = .slice (some ⟨w.heap.size, 0, none⟩) 0 0 ∧ i = .int .i64 0 ∧ wr = w1) (fun _ _ _ => 0)
  case atStart => exact ⟨rfl, rfl, rfl⟩
  case round =>
    obtain ⟨rfl, rfl, rfl⟩ := hrel
    go_wp2
    go_ret
    exact ⟨_, rfl, hown1, hB1⟩

end Go.Proofs.YtclelancbfoenaaGreatDoor.Re
/-
  What chacha.Block answers: the block of a key, a counter and a nonce. Nothing that lay before the call has turned.
-/
namespace Go.Proofs.YtclelancbfoenaaGreatDoor.Re
open Go.RowKit

theorem size86 : (Tryz.prog.info? 86).map (·.size) = some 64 := by kernel_rfl

theorem run_index120 (cs : List Value) (k : Nat) (v : Value) (hk : k < 16) (hv : cs[k]? = some v) (w : World) : (Instr.index 120 (.agg cs.toArray) (.int .i64 (k : Int))).run Tryz.prog w = .ok v w := by
  simp [Instr.index, run_underlying Tryz.underlying120, asIntOf, go_sem, hv]
  omega
theorem run_arrayAt86 (b o L C : Nat) (h : 64 ≤ L) (w : World) : (Instr.arrayAt 86 (.slice (some ⟨b, o, none⟩) L C)).run Tryz.prog w = .ok (.pointer (some ⟨b, o, none⟩)) w := by
  have hi : (64 : Int) ≤ (L : Int) := by omega
  simp [Instr.arrayAt, run_underlying Tryz.underlying86, go_sem, h]

/-- The first k of x with those of s added. -/
def addP (x s : List Nat) (k : Nat) : List Nat := (List.range 16).map fun i => if i < k then (x.getD i 0 + s.getD i 0) % 4294967296 else x.getD i 0
@[simp] theorem addP_length (x s : List Nat) (k : Nat) : (addP x s k).length = 16 := by simp [addP]
theorem addP_at (x s : List Nat) (k i : Nat) (hi : i < 16) : (addP x s k).getD i 0 = if i < k then (x.getD i 0 + s.getD i 0) % 4294967296 else x.getD i 0 := by
  simp only [addP, List.getD_eq_getElem?_getD, List.getElem?_map, List.getElem?_range hi, Option.map_some, Option.getD_some]
theorem addP_zero (x s : List Nat) (hx : x.length = 16) : addP x s 0 = x := by
  apply List.ext_getElem?
  intro i
  simp only [addP, List.getElem?_map]
  by_cases hi : i < 16
  · rw [List.getElem?_range hi, List.getElem?_eq_getElem (show i < x.length by omega)]
    simp [List.getElem?_eq_getElem (show i < x.length by omega)]
  · rw [List.getElem?_eq_none (by simp; omega), List.getElem?_eq_none (show x.length ≤ i by omega)]
    rfl
theorem addP_all (x s : List Nat) : addP x s 16 = addN x s := by
  unfold addP addN
  exact List.map_congr_left (fun i hi => by rw [if_pos (List.mem_range.1 hi)])
theorem addP_set (x s : List Nat) (k : Nat) (hk : k < 16) : (u32s (addP x s k)).set k (.int .u32 ((x.getD k 0 + s.getD k 0) % 4294967296 : Nat)) = u32s (addP x s (k + 1)) := by
  apply List.ext_getElem?
  intro i
  rw [List.getElem?_set]
  by_cases h : k = i
  · subst h
    simp [u32s, addP, hk]
  · simp only [h, if_false, u32s, addP, List.getElem?_map]
    by_cases hi : i < 16
    · rw [List.getElem?_range hi]
      simp only [Option.map_some]
      by_cases h2 : i < k
      · simp [h2, show i < k + 1 by omega]
      · simp [h2, show ¬ i < k + 1 by omega]
    · simp [List.getElem?_eq_none (show (List.range 16).length ≤ i by simp; omega)]
theorem addN_lt (x s : List Nat) : ∀ z ∈ addN x s, z < 4294967296 := fun z hz => by
  obtain ⟨i, _, rfl⟩ := List.mem_map.1 hz
  exact Nat.mod_lt _ (by decide)
theorem bytesOf_low (ls : List Nat) {k : Nat} (hk : k = 4 * ls.length) : byteVals (bytesOf ls) k = u8s (lowBytes ls) := by
  subst hk
  unfold byteVals u8s lowBytes
  rw [List.map_map]
  exact List.map_congr_left (fun i _ => by simp [bytesOf, byteAt])

set_option maxRecDepth 100000 in
set_option maxHeartbeats 4000000 in
theorem block_core (key : List Nat) (c : Nat) (nonce st dn : List Nat) (hsl : st.length = 16) (hsx : ∀ z ∈ st, z < 4294967296) (hdl : dn.length = 16) (hdx : ∀ z ∈ dn, z < 4294967296) (hk : key.length = 32) (hn : nonce.length = 12)
    (HF : Hid (∀ w, Tab w → Calls Tryz.prog 90 #[.agg (u8s key).toArray, .int .u32 c, .agg (u8s nonce).toArray] w fun e w' => e = .returned (.agg (u32s st).toArray) ∧ Below w.heap.size w w'))
    (HM : Hid (∀ w, Tab w → Calls Tryz.prog 91 #[.agg (u32s st).toArray] w fun e w' => e = .returned (.agg (u32s dn).toArray) ∧ Below w.heap.size w w')) (w : World) (hT : Tab w) :
    Calls Tryz.prog 77 #[.agg (u8s key).toArray, .int .u32 c, .agg (u8s nonce).toArray] w fun e w' => e = .returned (.agg (u8s (lowBytes (addN dn st))).toArray) ∧ Below w.heap.size w w' := by
  have HT : Hid (Tab w) := hT
  have HKl : Hid ((u8s key).length = 32) := by show _ = _; rw [u8s_length, hk]
  have HNl : Hid ((u8s nonce).length = 12) := by show _ = _; rw [u8s_length, hn]
  have HSl : Hid ((u32s st).length = 16) := by show _ = _; rw [u32s_length, hsl]
  have HDl : Hid ((u32s dn).length = 16) := by show _ = _; rw [u32s_length, hdl]
  have HS1 : Hid (∀ v ∈ u32s st, v.oneCell' = true) := u32s_one _
  have HD1 : Hid (∀ v ∈ u32s dn, v.oneCell' = true) := u32s_one _
  have HSi : Hid (∀ i, i < 16 → (u32s st)[i]? = some (.int .u32 (st.getD i 0 : Nat))) := fun i hi => u32s_at (by omega)
  have HSx : Hid (∀ z ∈ st, z < 4294967296) := hsx
  have HDx : Hid (∀ z ∈ dn, z < 4294967296) := hdx
  have HD0 : Hid (u32s dn = u32s (addP dn st 0)) := by show _ = _; rw [addP_zero _ _ hdl]
  clear hT hk hn hsl hdl hsx hdx
  generalize hKV : u8s key = KV at *
  generalize hNV : u8s nonce = NV at *
  clear hKV hNV
  generalize hSV : u32s st = SV at *
  have HSV : Hid (u32s st = SV) := hSV
  clear hSV
  generalize hDV : u32s dn = DV at *
  clear hDV
  have H0 : Hid (∀ z : Array Value, Row (((w.alloc (.cells KV.toArray 23)).alloc (.cells NV.toArray 54)).alloc (.cells z 86)) w.heap.size 23 KV ∧ Row (((w.alloc (.cells KV.toArray 23)).alloc (.cells NV.toArray 54)).alloc (.cells z 86)) (w.heap.size + 1) 54 NV ∧ Row (((w.alloc (.cells KV.toArray 23)).alloc (.cells NV.toArray 54)).alloc (.cells z 86)) (w.heap.size + 1 + 1) 86 z.toList ∧ Below w.heap.size w (((w.alloc (.cells KV.toArray 23)).alloc (.cells NV.toArray 54)).alloc (.cells z 86)) ∧ w.heap.size + 3 ≤ (((w.alloc (.cells KV.toArray 23)).alloc (.cells NV.toArray 54)).alloc (.cells z 86)).heap.size) := fun z => by
    have h2 := Row.new' (w.alloc (.cells KV.toArray 23)) 54 NV
    rw [World.size_alloc] at h2
    have h3 := Row.new ((w.alloc (.cells KV.toArray 23)).alloc (.cells NV.toArray 54)) 86 z
    rw [World.size_alloc, World.size_alloc] at h3
    exact ⟨((Row.new' w 23 KV).alloc _).alloc _, h2.alloc _, h3, (((Below.refl _ w).alloc (Nat.le_refl _) _).alloc (by simp) _).alloc (by simp; omega) _, by simp⟩
  go_enter Tryz.func77, Tryz.ntmps77
  go_wp2_with (first
    | ((with_reducible show wpList _ _ _ (Oper.mk _ (Op.load 23 (.tmp 3)) _ _ _ _ :: _) _ _); refine wpList_load_Row rfl 23 (.tmp 3) rfl rfl (H0.out _).1 Tryz.underlying23 (by rw [HKl.out]; exact size23) ?_; simp only [Act.put, List.setIfInBounds_toArray, List.set_cons_zero, List.set_cons_succ])
    | ((with_reducible show wpList _ _ _ (Oper.mk _ (Op.load 54 (.tmp 5)) _ _ _ _ :: _) _ _); refine wpList_load_Row rfl 54 (.tmp 5) rfl rfl (H0.out _).2.1 Tryz.underlying54 (by rw [HNl.out]; exact size54) ?_; simp only [Act.put, List.setIfInBounds_toArray, List.set_cons_zero, List.set_cons_succ])
    | (go_at_call 90; refine (HF.out _ (HT.out.later (H0.out _).2.2.2.1)).mono ?_; rintro e w1 ⟨rfl, hb1⟩; have HR1 := ((H0.out _).2.2.1.later hb1); have hbA : Below w.heap.size w w1 := ((H0.out _).2.2.2.1.trans (hb1.mono (H0.out _).2.2.2.1.size)); have hs1 : w.heap.size + 3 ≤ w1.heap.size := Nat.le_trans (H0.out _).2.2.2.2 hb1.size; have HT1 : Hid (Tab w1) := HT.out.later hbA; clear hb1; have HbA : Hid (Below w.heap.size w w1) := hbA; clear hbA)
    | ((with_reducible show wpList _ _ _ (Oper.mk _ (Op.store 120 (.tmp 7) (.tmp 14)) _ _ _ _ :: _) _ _); refine wpList_store_Row rfl 120 (.tmp 7) (.tmp 14) rfl SV rfl rfl (Row.new w1 120 _) (by rw [HSl.out]; exact size120) (by rw [HSl.out]; rfl) HS1.out ?_; simp only [Act.put])
    | ((with_reducible show wpList _ _ _ (Oper.mk (some 15) (Op.load 120 (.tmp 7)) _ _ _ _ :: _) _ _); refine wpList_load_Row rfl 120 (.tmp 7) rfl rfl (Row.sets_all (Row.new w1 120 _) (by rw [HSl.out]; rfl)) Tryz.underlying120 (by rw [HSl.out]; exact size120) ?_; simp only [Act.put, List.setIfInBounds_toArray, List.set_cons_zero, List.set_cons_succ])
    | (go_at_call 91; refine (HM.out _ (HT1.out.later (below_setCells (Nat.le_refl _) SV 0 ((Below.refl _ w1).alloc (Nat.le_refl _) _)))).mono ?_; rintro e w2 ⟨rfl, hb2⟩; have Hb2 : Hid _ := hb2; have hs2 : w1.heap.size + 1 ≤ w2.heap.size := (by have h := hb2.size; rw [size_setCells, World.size_alloc] at h; exact h); clear hb2)
    | ((with_reducible show wpList _ _ _ (Oper.mk _ (Op.store 120 (.tmp 8) (.tmp 16)) _ _ _ _ :: _) _ _); refine wpList_store_Row rfl 120 (.tmp 8) (.tmp 16) rfl DV rfl rfl (Row.new w2 120 _) (by rw [HDl.out]; exact size120) (by rw [HDl.out]; rfl) HD1.out ?_; simp only [Act.put])
    | ((with_reducible show wpList _ _ _ (Oper.mk (some 17) (Op.load 120 (.tmp 7)) _ _ _ _ :: _) _ _); refine wpList_load_Row rfl 120 (.tmp 7) rfl rfl (Row.others (by omega) DV 0 (Row.alloc (Row.later (Row.sets_all (Row.new w1 120 _) (by rw [HSl.out]; rfl)) Hb2.out) _)) Tryz.underlying120 (by rw [HSl.out]; exact size120) ?_; simp only [Act.put, List.setIfInBounds_toArray, List.set_cons_zero, List.set_cons_succ]))
  rw [z16u32]
  rw [z16u32] at Hb2
  have rO : Row w2 (w.heap.size + 1 + 1) 86 (List.replicate 64 (Value.int .u8 0)) := Row.later (Row.others (by omega) SV 0 (HR1.alloc _)) Hb2.out
  have rO4 : Row ((w2.alloc (.cells (List.replicate 16 (Value.int .u32 0)).toArray 120)).setCells w2.heap.size 0 DV) (w.heap.size + 1 + 1) 86 (List.replicate 64 (Value.int .u8 0)) := Row.others (by omega) DV 0 (rO.alloc _)
  have rL4 : Row ((w2.alloc (.cells (List.replicate 16 (Value.int .u32 0)).toArray 120)).setCells w2.heap.size 0 DV) w2.heap.size 120 (u32s (addP dn st 0)) := by rw [← HD0.out]; exact Row.sets_all (Row.new' w2 120 _) (by rw [HDl.out]; rfl)
  have hb4 : Below w.heap.size w ((w2.alloc (.cells (List.replicate 16 (Value.int .u32 0)).toArray 120)).setCells w2.heap.size 0 DV) :=
    below_setCells (by omega) DV 0 (((below_setCells (by omega) SV 0 (HbA.out.alloc (by omega) _)).trans (Hb2.out.mono (by rw [size_setCells, World.size_alloc]; omega))).alloc (by omega) _)
  generalize ((w2.alloc (.cells (List.replicate 16 (Value.int .u32 0)).toArray 120)).setCells w2.heap.size 0 DV) = w4 at *
  clear HR1 Hb2 HbA rO HT1 HF HM H0
  go_loopw [18] (fun i wr => ∃ k : Nat, k ≤ 16 ∧ i = .int .i64 k ∧ Row wr w2.heap.size 120 (u32s (addP dn st k)) ∧ Row wr (w.heap.size + 1 + 1) 86 (List.replicate 64 (Value.int .u8 0)) ∧ Below w.heap.size w wr)
    (fun i _ => 16 - (intOf i).toNat)
  case atStart => exact ⟨0, by omega, rfl, rL4, rO4, hb4⟩
  case round =>
    clear rO4 rL4 hb4
    obtain ⟨k, hk, rfl, hrL, hrO, hBw⟩ := hrel
    by_cases hk16 : k < 16
    · have hki : (k : Int) < 16 := by omega
      have cL := hrL.cell (u32s_at (l := addP dn st k) (i := k) (by simp; omega))
      rw [addP_at _ _ _ _ hk16, if_neg (by omega)] at cL
      have cf := hrL.frozen k
      have bx : dn.getD k 0 < 4294967296 := all_getD (by decide) HDx.out _
      have by' : st.getD k 0 < 4294967296 := all_getD (by decide) HSx.out _
      have HM : Hid ((u32s (addP dn st k)).set k (.int .u32 ((dn.getD k 0 + st.getD k 0) % 4294967296 : Nat)) = u32s (addP dn st (k + 1))) := addP_set dn st k hk16
      have HrL : Hid (Row wr w2.heap.size 120 (u32s (addP dn st k))) := hrL
      have HrO : Hid (Row wr (w.heap.size + 1 + 1) 86 (List.replicate 64 (Value.int .u8 0))) := hrO
      have cI : ∀ w : World, (Instr.index 120 (.agg SV.toArray) (.int .i64 (k : Int))).run Tryz.prog w = .ok (.int .u32 (st.getD k 0 : Nat)) w := fun w => run_index120 _ k _ hk16 (HSi.out k hk16) w
      generalize dn.getD k 0 = x at *
      generalize st.getD k 0 = y at *
      clear hrL hrO
      go_wp2
      go_roundw
      case rel =>
        have e1 : (((x : Int) + y) % 4294967296) = (((x + y) % 4294967296 : Nat) : Int) := by omega
        refine ⟨k + 1, by omega, by go_num, ?_, HrO.out.other (by simp; omega) _, hBw.setCell (p := ⟨w2.heap.size, k, none⟩) (by show _ ≤ w2.heap.size; omega) _⟩
        have h := HrL.out.set k (.int .u32 ((x + y) % 4294967296 : Nat))
        rw [HM.out] at h
        rw [e1]
        exact h
      case measure => simp [intOf]; omega
    · obtain rfl : k = 16 := by omega
      rw [addP_all] at hrL
      have HrL : Hid (Row wr w2.heap.size 120 (u32s (addN dn st))) := hrL
      have HrO : Hid (Row wr (w.heap.size + 1 + 1) 86 (List.replicate 64 (Value.int .u8 0))) := hrO
      have HBw : Hid (Below w.heap.size w wr) := hBw
      have hlw := hrL.lt
      have HB : Hid (Calls Tryz.prog 56 #[.slice (some ⟨w2.heap.size, 0, none⟩) 16 16] wr fun e w' => ∃ v, e = .returned v ∧ w'.ownsRow wr.heap.size 5 1 v 64 (u8s (lowBytes (addN dn st))) ∧ Below wr.heap.size wr w') := by
        have h := bytes_some w2.heap.size 0 16 16 (addN dn st) wr (by omega) hlw (fun i hi => by rw [Nat.zero_add]; exact hrL.cell (u32s_at (by simp; omega)))
        rw [bytesOf_low _ (by simp)] at h
        exact h
      have HVl : Hid ((u8s (lowBytes (addN dn st))).length = 64) := by show _ = _; rw [u8s_length, lowBytes_length, addN_length]
      have HV1 : Hid (∀ v ∈ u8s (lowBytes (addN dn st)), v.oneCell' = true) := u8s_one _
      clear hrL hrO hBw
      generalize hV : u8s (lowBytes (addN dn st)) = V at *
      have HV : Hid (u8s (lowBytes (addN dn st)) = V) := hV
      clear hV
      go_wp2_with (first
        | (go_at_call 56; refine HB.out.mono ?_; rintro e w5 ⟨v5, rfl, hrow5, hb5⟩; obtain ⟨q5, c5, rfl⟩ := slice_of_row hrow5; obtain ⟨g5, cur5, rfl, hg5, hrg5, htk5⟩ := row_of_own hrow5 (by omega); have Hrg5 : Hid (w5.rangeAt g5 0 V) := (by have h := Row.mid hrg5 htk5 0 64 (by omega); rw [List.drop_zero, List.take_of_length_le (by rw [HVl.out]; omega)] at h; exact h); have Hb5 : Hid _ := hb5; clear hb5 hrow5 hrg5 htk5; have hA := run_arrayAt86 g5 0 64 c5 (by omega))
        | ((with_reducible show wpList _ _ _ (Oper.mk _ (Op.load 86 (.tmp 31)) _ _ _ _ :: _) _ _); refine wpList_load_mid rfl 86 (.tmp 31) rfl g5 0 rfl V _ Hrg5.out Tryz.underlying86 rfl (by rw [HVl.out]; exact size86) ?_; simp only [Act.put, List.setIfInBounds_toArray, List.set_cons_zero, List.set_cons_succ])
        | ((with_reducible show wpList _ _ _ (Oper.mk _ (Op.store 86 (.tmp 6) (.tmp 32)) _ _ _ _ :: _) _ _); refine wpList_store_Row rfl 86 (.tmp 6) (.tmp 32) rfl V rfl rfl (HrO.out.later Hb5.out) (by rw [HVl.out]; exact size86) (by rw [HVl.out]; rfl) HV1.out ?_; simp only [Act.put]))
      refine bodyPost_ret (results_Row rfl rfl (Row.sets_all (vs := V) (HrO.out.later Hb5.out) (by rw [HVl.out]; rfl)) Tryz.underlying86 (by rw [HVl.out]; exact size86)) rfl ?_
      exact ⟨by rw [HV.out], below_setCells (by omega) _ _ (HBw.out.trans (Hb5.out.mono HBw.out.size))⟩

/-- chacha.Block. -/
theorem block_any (key : List Nat) (c : Nat) (nonce : List Nat) (hk : key.length = 32) (hkx : ∀ z ∈ key, z < 256) (hc : c < 4294967296) (hn : nonce.length = 12) (hnx : ∀ z ∈ nonce, z < 256) (w : World) (hT : Tab w) :
    Calls Tryz.prog 77 #[.agg (u8s key).toArray, .int .u32 c, .agg (u8s nonce).toArray] w fun e w' => e = .returned (.agg (u8s (blockN key c nonce)).toArray) ∧ Below w.heap.size w w' :=
  block_core key c nonce (stateN key c nonce) (doublesN (stateN key c nonce) 10) (stateN_length _ _ _) (stateN_lt hkx hc hnx) (by rw [doublesN_length, stateN_length]) (doublesN_lt (stateN_lt hkx hc hnx) 10) hk hn
    (fun w hT => firstState_any key c nonce hk hkx hn hnx w hT) (fun w hT => mixed_any _ (stateN_length _ _ _) (stateN_lt hkx hc hnx) w hT) w hT
end Go.Proofs.YtclelancbfoenaaGreatDoor.Re
/-
  What chacha.Keystream tells: the blocks of a key, a counter and a nonce, one behind the other, for every loop body that leaves it within N rounds and keeps the boxes and the program's tables.
-/
namespace Go.Proofs.YtclelancbfoenaaGreatDoor.Re
open Go.RowKit Go.Shelf
attribute [local go_sem] Oper.semAt_some

theorem Tab.kept {M : Nat → Prop} {A B : World} (h : ∀ (k : Nat) (c : Array Value) (t : TypeId) (fr : Nat × Nat), ¬ M k → A.heap[k]? = some (Obj.cells c t fr) → B.heap[k]? = some (Obj.cells c t fr)) (h0 : ¬ M 0) (h1 : ¬ M 1) (hT : Tab A) : Tab B := by
  refine ⟨fun i hi => ?_, fun i hi => ?_⟩
  · obtain ⟨c, t, fr, hh, hci⟩ := cells_of_cell (hT.1 i hi)
    rw [cell_of_row B 0 i c t fr (h 0 c t fr h0 hh)]
    exact hci
  · obtain ⟨c, t, fr, hh, hci⟩ := cells_of_cell (hT.2 i hi)
    rw [cell_of_row B 1 i c t fr (h 1 c t fr h1 hh)]
    exact hci

set_option maxRecDepth 100000 in
set_option maxHeartbeats 2000000 in
theorem key1_iter (n : Nat) (hn : 2 ≤ n) (l Bc Bk Bn c N : Nat) (KV NV : List Value) (B : Nat → List Value) (HKl : Hid (KV.length = 32)) (HNl : Hid (NV.length = 12))
    (HBk : Hid (∀ k w, Tab w → Calls Tryz.prog 77 #[.agg KV.toArray, .int .u32 ((c + k) % 4294967296 : Nat), .agg NV.toArray] w fun e w' => e = .returned (.agg (B k).toArray) ∧ Below w.heap.size w w'))
    (W : World) (hc : c < 4294967296) (hN : N ≤ 4294967296) (hT : Tab W) (hrC : Row W Bc 53 [.int .u32 c]) (hrK : Row W Bk 23 KV) (hrN : Row W Bn 54 NV)
    (M : Nat → Prop) (Kp : World → World → Prop) (hK1 : ∀ A B, Kp A B → ∀ (k : Nat) (c : Array Value) (t : TypeId) (fr : Nat × Nat), ¬ M k → A.heap[k]? = some (Obj.cells c t fr) → B.heap[k]? = some (Obj.cells c t fr)) (hK2 : ∀ A B, Kp A B → A.heap.size ≤ B.heap.size)
    (hM0 : ¬ M 0) (hM1 : ¬ M 1) (hMk : ¬ M Bk) (hMn : ¬ M Bn) :
    IterEver Fence.wide n Tryz.prog 76 #[.pointer (some ⟨Bc, 0, none⟩), .pointer (some ⟨Bk, 0, none⟩), .pointer (some ⟨Bn, 0, none⟩)] (fun k => #[.agg (B k).toArray]) Kp N l W := by
  intro J Jx hJ hJx hJN hY h0
  have hfn : ∀ f, Fence.wide.fn f := fun _ => trivial
  have h1 : 1 ≤ n := by omega
  have HK1 : Hid (∀ A B, Kp A B → ∀ (k : Nat) (c : Array Value) (t : TypeId) (fr : Nat × Nat), ¬ M k → A.heap[k]? = some (Obj.cells c t fr) → B.heap[k]? = some (Obj.cells c t fr)) := hK1
  have HK2 : Hid (∀ A B, Kp A B → A.heap.size ≤ B.heap.size) := hK2
  have HJ : Hid (Low W.heap.size J) := hJ
  have HJN : Hid (∀ k W1, J k W1 → k < N) := hJN
  have HY : Hid (∀ k W1, J k W1 → YieldAt Fence.wide (n - 1) Tryz.prog l #[.agg (B k).toArray] W1 fun e W' => (e = .returned (.bool true) ∧ J (k + 1) W' ∧ Kp W1 W') ∨ (e = .returned (.bool false) ∧ Jx (k + 1) W' ∧ Kp W1 W')) := hY
  have HT : Hid (Tab W) := hT
  have HrK : Hid (Row W Bk 23 KV) := hrK
  have HrN : Hid (Row W Bn 54 NV) := hrN
  have H0 : Hid (J 0 W) := h0
  have cc := hrC.cell (i := 0) rfl
  have HC0 : Hid ((c + 0) % 4294967296 = c) := by show _ = _; omega
  clear hK1 hK2 hJ hJx hJN hY hT hrK hrN hrC h0
  refine callsIn_of_wp Tryz.func76 rfl trivial ?_ rfl
  simp only [Tryz.ntmps76, List.size_toArray, List.length_cons, List.length_nil, Nat.reduceAdd, Nat.reduceSub, Array.replicate_succ, Array.replicate_zero, List.push_toArray, List.append_toArray, List.nil_append, List.cons_append]
  gi_wp2
  gi_loopw [5] (fun v wr => ∃ k : Nat, v = .int .u32 ((c + k) % 4294967296 : Nat) ∧ J k wr ∧ Tab wr ∧ Row wr Bk 23 KV ∧ Row wr Bn 54 NV ∧ W.heap.size ≤ wr.heap.size) (fun v _ => N - ((intOf v).toNat + (4294967296 - c)) % 4294967296)
  case atStart => exact ⟨0, by rw [HC0.out], H0.out, HT.out, HrK.out, HrN.out, Nat.le_refl _⟩
  case round =>
    obtain ⟨k, rfl, hJk, hTr, hrK, hrN, hsz⟩ := hrel
    have hkN := HJN.out k wr hJk
    have HJk : Hid (J k wr) := hJk
    have HTr : Hid (Tab wr) := hTr
    have HrK2 : Hid (Row wr Bk 23 KV) := hrK
    have HrN2 : Hid (Row wr Bn 54 NV) := hrN
    have HM : Hid ((((c + k) % 4294967296 + (4294967296 - c)) % 4294967296 = k)) := by show _ = _; omega
    have HA : Hid (((((c + k) % 4294967296 : Nat) : Int) + 1) % 4294967296 = (((c + (k + 1)) % 4294967296 : Nat) : Int)) := by show _ = _; omega
    have HBk2 := HBk.out k
    clear hJk hTr hrK hrN HT HrK HrN H0
    generalize hck : (c + k) % 4294967296 = ck at *
    clear hck
    gi_wp2_with (first
      | ((with_reducible show wpListIn _ _ _ _ _ (Oper.mk _ (Op.load 23 (.tmp 2)) _ _ _ _ :: _) _ _); refine wpListIn_load_Row rfl 23 (.tmp 2) rfl rfl HrK2.out Tryz.underlying23 (by rw [HKl.out]; exact size23) ?_; simp only [Act.put, List.setIfInBounds_toArray, List.set_cons_zero, List.set_cons_succ])
      | ((with_reducible show wpListIn _ _ _ _ _ (Oper.mk _ (Op.load 54 (.tmp 3)) _ _ _ _ :: _) _ _); refine wpListIn_load_Row rfl 54 (.tmp 3) rfl rfl HrN2.out Tryz.underlying54 (by rw [HNl.out]; exact size54) ?_; simp only [Act.put, List.setIfInBounds_toArray, List.set_cons_zero, List.set_cons_succ])
      | (gi_at_call 77; refine (callsIn_wide.2 (HBk2 _ HTr.out)).mono ?_; rintro e w1 ⟨rfl, hb1⟩; have Hb1 : Hid (Below wr.heap.size wr w1) := hb1; clear hb1; obtain ⟨fn, tmps, assign, body, hy, hR⟩ := HY.out k w1 (HJ.out k wr w1 HJk.out (Hb1.out.mono hsz))))
    refine hR.mono ?_
    rintro e W3 (⟨rfl, hJ3, hk3⟩ | ⟨rfl, hJx3, _⟩)
    · have hs3 : W.heap.size ≤ W3.heap.size := Nat.le_trans hsz (Nat.le_trans Hb1.out.size (HK2.out _ _ hk3))
      have HT3 : Hid (Tab W3) := Tab.kept (HK1.out _ _ hk3) hM0 hM1 (HTr.out.later Hb1.out)
      have HK3 : Hid (Row W3 Bk 23 KV) := HK1.out _ _ hk3 _ _ _ _ hMk (HrK2.out.later Hb1.out)
      have HN3 : Hid (Row W3 Bn 54 NV) := HK1.out _ _ hk3 _ _ _ _ hMn (HrN2.out.later Hb1.out)
      have HJ3 : Hid (J (k + 1) W3) := hJ3
      clear hR hy hJ3 hk3
      gi_wp2
      go_roundw
      case rel => exact ⟨k + 1, by rw [HA.out], HJ3.out, HT3.out, HK3.out, HN3.out, hs3⟩
      case measure =>
        have h1 := HM.out
        have h2 := HJN.out (k + 1) W3 HJ3.out
        rw [HA.out]
        simp only [intOf, Int.toNat_natCast]
        rw [h1, show ((c + (k + 1)) % 4294967296 + (4294967296 - c)) % 4294967296 = k + 1 by omega]
        omega
    · clear hR hy
      gi_wp2
      go_end0
      exact ⟨⟨_, rfl⟩, ⟨k + 1, hJx3⟩⟩

set_option maxHeartbeats 1000000 in
/-- chacha.Keystream: the three arguments are boxed; the function value captures the boxes. -/
theorem keystream_any (c : Nat) (KV NV : List Value) (w : World) :
    Calls Tryz.prog 59 #[.agg KV.toArray, .int .u32 c, .agg NV.toArray] w fun e w' =>
      e = .returned (.func (.func 76) #[] #[.pointer (some ⟨w.heap.size + 1, 0, none⟩), .pointer (some ⟨w.heap.size, 0, none⟩), .pointer (some ⟨w.heap.size + 1 + 1, 0, none⟩)]) ∧ Row w' w.heap.size 23 KV ∧ Row w' (w.heap.size + 1) 53 [.int .u32 c] ∧ Row w' (w.heap.size + 1 + 1) 54 NV ∧ Below w.heap.size w w' := by
  go_enter Tryz.func59, Tryz.ntmps59
  go_wp2
  go_ret
  have h2 := Row.new' (w.alloc (.cells KV.toArray 23)) 53 [.int .u32 c]
  rw [World.size_alloc] at h2
  have h3 := Row.new' ((w.alloc (.cells KV.toArray 23)).alloc (.cells [.int .u32 c].toArray 53)) 54 NV
  rw [World.size_alloc, World.size_alloc] at h3
  exact ⟨rfl, ((Row.new' w 23 KV).alloc _).alloc _, h2.alloc _, h3, (((Below.refl _ w).alloc (Nat.le_refl _) _).alloc (by simp) _).alloc (by simp; omega) _⟩
end Go.Proofs.YtclelancbfoenaaGreatDoor.Re
