/-
  What the reference's Block answers: the block of a key, a counter and a nonce. Nothing that lay before the call has turned.
-/
import Derived.Test.YtclelancbfoenaaGreatDoorBaseAll
import Derived.Test.YtclelancbfoenaaGreatDoorReD
namespace Go.Proofs.YtclelancbfoenaaGreatDoor.Re
open Go.RowKit

/-- the reference's Words, of a row of bytes -/
theorem refWords_row {W : World} {b : Nat} {t : TypeId} {zs : List Nat} (h : Row W b t (u8s zs)) (hz : ∀ z ∈ zs, z < 256) {n m : Nat} (hn : zs.length = n) (hn2 : n ≤ 60000) (hm : n / 4 = m) :
    Calls Tryz.prog 63 #[.slice (some ⟨b, 0, none⟩) n n] W fun e w' => ∃ v, e = .returned v ∧ w'.ownsRow W.heap.size 53 1 v m (u32s (wordsLow zs m)) ∧ Below W.heap.size W w' := by
  subst hm
  have h' := refWords_some b 0 n n zs W hn2 (Nat.le_refl _) (by omega) h.lt hz (fun i hi => by rw [Nat.zero_add]; exact h.cell (u8s_at (by omega)))
  rw [wordVals_low] at h'
  exact h'

theorem fixed16 : #[Value.int .u32 1634760805, Value.int .u32 857760878, Value.int .u32 2036477234, Value.int .u32 1797285236, Value.int .u32 0, Value.int .u32 0, Value.int .u32 0, Value.int .u32 0, Value.int .u32 0, Value.int .u32 0, Value.int .u32 0, Value.int .u32 0, Value.int .u32 0, Value.int .u32 0, Value.int .u32 0, Value.int .u32 0] = (fill 16 (Value.int .u32 0) (u32s fixedL)).toArray := rfl
set_option maxRecDepth 100000 in
set_option maxHeartbeats 8000000 in
theorem refBlock_core (key : List Nat) (c : Nat) (nonce st : List Nat) (D : Nat → List Nat) (hst : st = stateN key c nonce) (HD0 : Hid (D 0 = st)) (HDs : Hid (∀ k, D (k + 1) = diagsN (colsN (D k) 4) 4)) (HDl : Hid (∀ k, (D k).length = 16)) (HDx : Hid (∀ k, ∀ z ∈ D k, z < 4294967296))
    (hsl : st.length = 16) (hsx : ∀ z ∈ st, z < 4294967296) (hk : key.length = 32) (hkx : ∀ z ∈ key, z < 256) (hn : nonce.length = 12) (hnx : ∀ z ∈ nonce, z < 256) (w : World) :
    Calls Tryz.prog 41 #[.agg (u8s key).toArray, .int .u32 c, .agg (u8s nonce).toArray] w fun e w' => e = .returned (.agg (u8s (lowBytes (addN (D 10) st))).toArray) ∧ Below w.heap.size w w' := by
  have HKx : Hid (∀ z ∈ key, z < 256) := hkx
  have HNx : Hid (∀ z ∈ nonce, z < 256) := hnx
  have HKl : Hid (key.length = 32) := hk
  have HNl : Hid (nonce.length = 12) := hn
  have HSt : Hid (st = stateN key c nonce) := hst
  have HSx : Hid (∀ z ∈ st, z < 4294967296) := hsx
  have HSl : Hid (st.length = 16) := hsl
  obtain ⟨F, hF⟩ : ∃ F, F = fill 16 (Value.int .u32 0) (u32s fixedL) := ⟨_, rfl⟩
  have HF : Hid (F = fill 16 (Value.int .u32 0) (u32s fixedL)) := hF
  have HFl : Hid (F.length = 16) := by show _ = _; rw [hF]; rfl
  have HF1 : Hid (∀ v ∈ F, v.oneCell' = true) := by
    show ∀ v ∈ F, _
    rw [hF]
    intro v hv
    rcases List.mem_append.1 hv with hv | hv
    · exact u32s_one _ v hv
    · rw [(List.mem_replicate.1 hv).2]; rfl
  have H0 : Hid (∀ z : Array Value, Row (((w.alloc (.cells (u8s key).toArray 23)).alloc (.cells (u8s nonce).toArray 54)).alloc (.cells z 86)) w.heap.size 23 (u8s key) ∧ Row (((w.alloc (.cells (u8s key).toArray 23)).alloc (.cells (u8s nonce).toArray 54)).alloc (.cells z 86)) (w.heap.size + 1) 54 (u8s nonce) ∧ Row (((w.alloc (.cells (u8s key).toArray 23)).alloc (.cells (u8s nonce).toArray 54)).alloc (.cells z 86)) (w.heap.size + 1 + 1) 86 z.toList ∧ Below w.heap.size w (((w.alloc (.cells (u8s key).toArray 23)).alloc (.cells (u8s nonce).toArray 54)).alloc (.cells z 86)) ∧ (((w.alloc (.cells (u8s key).toArray 23)).alloc (.cells (u8s nonce).toArray 54)).alloc (.cells z 86)).heap.size = w.heap.size + 1 + 1 + 1) := fun z => by
    have h2 := Row.new' (w.alloc (.cells (u8s key).toArray 23)) 54 (u8s nonce)
    rw [World.size_alloc] at h2
    have h3 := Row.new ((w.alloc (.cells (u8s key).toArray 23)).alloc (.cells (u8s nonce).toArray 54)) 86 z
    rw [World.size_alloc, World.size_alloc] at h3
    exact ⟨((Row.new' w 23 _).alloc _).alloc _, h2.alloc _, h3, (((Below.refl _ w).alloc (Nat.le_refl _) _).alloc (by simp) _).alloc (by simp; omega) _, by simp⟩
  clear hkx hnx hk hn hst hsx hsl hF
  go_enter Tryz.func41, Tryz.ntmps41
  go_wp2
  rw [z64u8, fixed16, ← HF.out]
  obtain ⟨O, hO⟩ : ∃ O, O = List.replicate 64 (Value.int .u8 0) := ⟨_, rfl⟩
  have HO : Hid (O = List.replicate 64 (Value.int .u8 0)) := hO
  have HOl : Hid (O.length = 64) := by show _ = _; rw [hO]; rfl
  rw [← hO]
  clear hO
  have HrK : Hid (Row ((((w.alloc (.cells (u8s key).toArray 23)).alloc (.cells (u8s nonce).toArray 54)).alloc (.cells O.toArray 86)).alloc (.cells F.toArray 120)) w.heap.size 23 (u8s key)) := (H0.out _).1.alloc _
  have HrN : Hid (Row ((((w.alloc (.cells (u8s key).toArray 23)).alloc (.cells (u8s nonce).toArray 54)).alloc (.cells O.toArray 86)).alloc (.cells F.toArray 120)) (w.heap.size + 1) 54 (u8s nonce)) := (H0.out _).2.1.alloc _
  have HrR : Hid (Row ((((w.alloc (.cells (u8s key).toArray 23)).alloc (.cells (u8s nonce).toArray 54)).alloc (.cells O.toArray 86)).alloc (.cells F.toArray 120)) (w.heap.size + 1 + 1) 86 O) := (H0.out O.toArray).2.2.1.alloc _
  have HrS : Hid (Row ((((w.alloc (.cells (u8s key).toArray 23)).alloc (.cells (u8s nonce).toArray 54)).alloc (.cells O.toArray 86)).alloc (.cells F.toArray 120)) (w.heap.size + 1 + 1 + 1) 120 F) := by
    have h := Row.new' (((w.alloc (.cells (u8s key).toArray 23)).alloc (.cells (u8s nonce).toArray 54)).alloc (.cells O.toArray 86)) 120 F
    rw [(H0.out _).2.2.2.2] at h
    exact h
  have HBw : Hid (Below w.heap.size w ((((w.alloc (.cells (u8s key).toArray 23)).alloc (.cells (u8s nonce).toArray 54)).alloc (.cells O.toArray 86)).alloc (.cells F.toArray 120))) := (H0.out _).2.2.2.1.alloc (by rw [(H0.out _).2.2.2.2]; omega) _
  clear H0
  generalize ((((w.alloc (.cells (u8s key).toArray 23)).alloc (.cells (u8s nonce).toArray 54)).alloc (.cells O.toArray 86)).alloc (.cells F.toArray 120)) = w0 at *
  refine wp_region_noPanic ?_
  refine wp_region_gate' 3 (fun _ => True) (by kernel_rfl) ?_
  refine wpAnyG_takesAt 0 2 2 (of_decide_eq_true (by kernel_rfl)) rfl (fun _ _ _ _ _ h => h) (by kernel_rfl) (by kernel_rfl) (fun _ => trivial) ?_
  simp only [List.drop_zero, List.take_succ_cons, List.take_zero]
  iterate 2 (refine wpHeldG_free (v := ?_) (by rfl) (fun wz => ?_) ?_; rotate_left; (focus (go_simp; try with_reducible rfl)); (simp only [Act.put, List.setIfInBounds_toArray, List.set_cons_zero, List.set_cons_succ]))
  refine wpHeldG_nil ?_
  refine wpAnyG_only (i := 2) (by kernel_rfl) rfl (by rfl) (fun K hK => ?_)
  go_simp
  refine (refWords_row (m := 8) HrK.out.drew HKx.out HKl.out (by omega) (by decide)).mono ?_
  rintro e w3 ⟨v_w3, rfl, hrow_w3, hb_w3⟩
  obtain ⟨q_w3, c_w3, rfl⟩ := slice_of_row hrow_w3
  obtain ⟨g_w3, rfl, _⟩ := row_some hrow_w3 (by omega)
  refine hK.out _ _ (fun _ => trivial) ?_
  clear hK K
  refine wpAnyG_only (i := 3) (by kernel_rfl) rfl (by rfl) (fun K hK => ?_)
  refine wp_copy_but (.tmp 18) (.tmp 20) 121 121 (by rfl) 53 Tryz.underlying121 size53 (w.heap.size + 1 + 1 + 1) 4 12 12 ⟨g_w3, 0, none⟩ 8 c_w3 (by rfl) (by rfl) F 120 (HrS.out.drew.later hb_w3) (u32s (wordsLow key 8)) (by rw [u32s_length, wordsLow_length]; rfl) (row_src hrow_w3) (by rw [u32s_length, wordsLow_length, HFl.out]; omega) (u32s_one _) (fun w4 hr_w4 hbut_w4 => ?_)
  refine hK.out _ _ (gone (by kernel_rfl)) ?_
  clear hK K
  refine wpAnyG_done (by kernel_rfl) ?_ _
  refine NoPanic.normal ?_
  simp only [Act.put, List.getElem_toArray, List.getElem_cons_succ, List.getElem_cons_zero, List.setIfInBounds_toArray, List.set_cons_zero, List.set_cons_succ]
  rw [show goInt ((u32s (wordsLow key 8)).length : Int) = .int .i64 8 from by rw [u32s_length, wordsLow_length]; rfl]
  have hsw := HBw.out.size
  have hls := HrS.out.lt
  have hs3 : w0.heap.size ≤ w3.heap.size := hb_w3.size
  have HrN4 : Hid (Row w4 (w.heap.size + 1) 54 (u8s nonce)) := hbut_w4.row (by omega) (by omega) (HrN.out.drew.later hb_w3)
  have HrR4 : Hid (Row w4 (w.heap.size + 1 + 1) 86 O) := hbut_w4.row (by omega) (by omega) (HrR.out.drew.later hb_w3)
  have HB4 : Hid (Below w.heap.size w w4) := (HBw.out.drew.trans (hb_w3.mono (show w.heap.size ≤ w0.heap.size by omega))).trans (hbut_w4.below (by omega) (by omega))
  have HL4 : Hid ((splice F 4 (u32s (wordsLow key 8))).length = 16) := by
    show _ = _
    rw [length_splice _ _ _ (by rw [u32s_length, wordsLow_length, HFl.out]; omega), HFl.out]
  have HS4 : Hid (Row w4 (w.heap.size + 1 + 1 + 1) 120 (splice F 4 (u32s (wordsLow key 8)))) := hr_w4
  clear hr_w4 hbut_w4 hb_w3 hrow_w3 hs3 HrK HrN HrR HrS HBw
  generalize hX4 : splice F 4 (u32s (wordsLow key 8)) = X4 at *
  have HX4 : Hid (splice (fill 16 (.int .u32 0) (u32s fixedL)) 4 (u32s (wordsLow key 8)) = X4) := by show _ = _; rw [← hX4, HF.out]
  clear hX4
  obtain ⟨v12, hv12⟩ : ∃ v, w4.cell? ⟨w.heap.size + 1 + 1 + 1, 12, none⟩ = some v := ⟨_, HS4.out.cell (List.getElem?_eq_getElem (by rw [HL4.out]; omega))⟩
  have fz12 := HS4.out.frozen 12
  go_wp2
  have HrN5 : Hid (Row (w4.setCell ⟨w.heap.size + 1 + 1 + 1, 12, none⟩ (.int .u32 (c : Nat))) (w.heap.size + 1) 54 (u8s nonce)) := HrN4.out.other (by simp) _
  have HrR5 : Hid (Row (w4.setCell ⟨w.heap.size + 1 + 1 + 1, 12, none⟩ (.int .u32 (c : Nat))) (w.heap.size + 1 + 1) 86 O) := HrR4.out.other (by simp) _
  have HS5 : Hid (Row (w4.setCell ⟨w.heap.size + 1 + 1 + 1, 12, none⟩ (.int .u32 (c : Nat))) (w.heap.size + 1 + 1 + 1) 120 (X4.set 12 (.int .u32 (c : Nat)))) := HS4.out.set _ _
  have HB5 : Hid (Below w.heap.size w (w4.setCell ⟨w.heap.size + 1 + 1 + 1, 12, none⟩ (.int .u32 (c : Nat)))) := HB4.out.setCell (p := ⟨w.heap.size + 1 + 1 + 1, 12, none⟩) (by show _ ≤ w.heap.size + 1 + 1 + 1; omega) _
  clear hv12 fz12 HrN4 HrR4 HS4 HB4
  generalize w4.setCell ⟨w.heap.size + 1 + 1 + 1, 12, none⟩ (.int .u32 (c : Nat)) = w5 at *
  refine wp_region_noPanic ?_
  refine wp_region_gate' 3 (fun _ => True) (by kernel_rfl) ?_
  refine wpAnyG_takesAt 0 2 2 (of_decide_eq_true (by kernel_rfl)) rfl (fun _ _ _ _ _ h => h) (by kernel_rfl) (by kernel_rfl) (fun _ => trivial) ?_
  simp only [List.drop_zero, List.take_succ_cons, List.take_zero]
  iterate 2 (refine wpHeldG_free (v := ?_) (by rfl) (fun wz => ?_) ?_; rotate_left; (focus (go_simp; try with_reducible rfl)); (simp only [Act.put, List.setIfInBounds_toArray, List.set_cons_zero, List.set_cons_succ]))
  refine wpHeldG_nil ?_
  refine wpAnyG_only (i := 2) (by kernel_rfl) rfl (by rfl) (fun K hK => ?_)
  go_simp
  refine (refWords_row (m := 3) HrN5.out.drew HNx.out HNl.out (by omega) (by decide)).mono ?_
  rintro e w6 ⟨v_w6, rfl, hrow_w6, hb_w6⟩
  obtain ⟨q_w6, c_w6, rfl⟩ := slice_of_row hrow_w6
  obtain ⟨g_w6, rfl, _⟩ := row_some hrow_w6 (by omega)
  refine hK.out _ _ (fun _ => trivial) ?_
  clear hK K
  refine wpAnyG_only (i := 3) (by kernel_rfl) rfl (by rfl) (fun K hK => ?_)
  refine wp_copy_but (.tmp 24) (.tmp 26) 121 121 (by rfl) 53 Tryz.underlying121 size53 (w.heap.size + 1 + 1 + 1) 13 3 3 ⟨g_w6, 0, none⟩ 3 c_w6 (by rfl) (by rfl) (X4.set 12 (.int .u32 (c : Nat))) 120 (HS5.out.drew.later hb_w6) (u32s (wordsLow nonce 3)) (by rw [u32s_length, wordsLow_length]; rfl) (row_src hrow_w6) (by rw [u32s_length, wordsLow_length, List.length_set, HL4.out]; omega) (u32s_one _) (fun w7 hr_w7 hbut_w7 => ?_)
  refine hK.out _ _ (gone (by kernel_rfl)) ?_
  clear hK K
  refine wpAnyG_done (by kernel_rfl) ?_ _
  refine NoPanic.normal ?_
  simp only [Act.put, List.getElem_toArray, List.getElem_cons_succ, List.getElem_cons_zero, List.setIfInBounds_toArray, List.set_cons_zero, List.set_cons_succ]
  rw [show goInt ((u32s (wordsLow nonce 3)).length : Int) = .int .i64 3 from by rw [u32s_length, wordsLow_length]; rfl]
  have hsw5 := HB5.out.size
  have hls5 := HS5.out.lt
  have hs6 : w5.heap.size ≤ w6.heap.size := hb_w6.size
  have HrR7 : Hid (Row w7 (w.heap.size + 1 + 1) 86 O) := hbut_w7.row (by omega) (by omega) (HrR5.out.drew.later hb_w6)
  have HB7 : Hid (Below w.heap.size w w7) := (HB5.out.drew.trans (hb_w6.mono (show w.heap.size ≤ w5.heap.size by omega))).trans (hbut_w7.below (by omega) (by omega))
  have HS7 : Hid (Row w7 (w.heap.size + 1 + 1 + 1) 120 (u32s st)) := by
    rw [HSt.out, ← stateN_list, ← state_list (u32s fixedL) (u32s (wordsLow key 8)) (u32s (wordsLow nonce 3)) (.int .u32 (c : Nat)) (.int .u32 0) rfl (by rw [u32s_length, wordsLow_length]) (by rw [u32s_length, wordsLow_length]), HX4.out]
    exact hr_w7
  have HLs : Hid ((u32s st).length = 16) := by show _ = _; rw [u32s_length, HSl.out]
  have H1s : Hid (∀ v ∈ u32s st, v.oneCell' = true) := u32s_one _
  have hs7 : w.heap.size + 4 ≤ w7.heap.size := HS7.out.lt
  clear hr_w7 hbut_w7 hb_w6 hrow_w6 hs6 HrN5 HrR5 HS5 HB5 HKx HNx HKl HNl HF HFl HF1 HX4 HL4 HSt hsw hls hsw5 hls5
  generalize hSV : u32s st = SV at *
  have HSV : Hid (u32s st = SV) := hSV
  clear hSV
  go_wp2_with (first
    | ((with_reducible show wpList _ _ _ (Oper.mk _ (Op.load 120 (.tmp 7)) _ _ _ _ :: _) _ _); refine wpList_load_Row rfl 120 (.tmp 7) rfl rfl HS7.out Tryz.underlying120 (by rw [HLs.out]; exact size120) ?_; simp only [Act.put, List.setIfInBounds_toArray, List.set_cons_zero, List.set_cons_succ])
    | ((with_reducible show wpList _ _ _ (Oper.mk _ (Op.store 120 (.tmp 8) (.tmp 28)) _ _ _ _ :: _) _ _); refine wpList_store_Row rfl 120 (.tmp 8) (.tmp 28) rfl SV rfl rfl (Row.new w7 120 _) (by rw [HLs.out]; exact size120) (by rw [HLs.out]; rfl) H1s.out ?_; simp only [Act.put]))
  rw [z16u32]
  have rX : Row ((w7.alloc (.cells (List.replicate 16 (Value.int .u32 0)).toArray 120)).setCells w7.heap.size 0 SV) w7.heap.size 120 (u32s (D 0)) := by rw [HD0.out, HSV.out]; exact Row.sets_all (Row.new' w7 120 _) (by rw [HLs.out]; rfl)
  have rS : Row ((w7.alloc (.cells (List.replicate 16 (Value.int .u32 0)).toArray 120)).setCells w7.heap.size 0 SV) (w.heap.size + 1 + 1 + 1) 120 SV := Row.others (by omega) SV 0 (HS7.out.alloc _)
  have rR : Row ((w7.alloc (.cells (List.replicate 16 (Value.int .u32 0)).toArray 120)).setCells w7.heap.size 0 SV) (w.heap.size + 1 + 1) 86 O := Row.others (by omega) SV 0 (HrR7.out.alloc _)
  have hb8 : Below w.heap.size w ((w7.alloc (.cells (List.replicate 16 (Value.int .u32 0)).toArray 120)).setCells w7.heap.size 0 SV) := below_setCells (by omega) SV 0 (HB7.out.alloc (by omega) _)
  generalize ((w7.alloc (.cells (List.replicate 16 (Value.int .u32 0)).toArray 120)).setCells w7.heap.size 0 SV) = w8 at *
  clear HS7 HrR7 HB7 HD0
  generalize hBX : w7.heap.size = BX at *
  clear hBX
  go_loopw [9] (fun i wr => ∃ k : Nat, k ≤ 10 ∧ i = .int .i64 k ∧ Row wr BX 120 (u32s (D k)) ∧ Row wr (w.heap.size + 1 + 1 + 1) 120 SV ∧ Row wr (w.heap.size + 1 + 1) 86 O ∧ Below w.heap.size w wr)
    (fun i _ => 10 - (intOf i).toNat)
  case atStart => exact ⟨0, by omega, rfl, rX, rS, rR, hb8⟩
  case round =>
    clear rX rS rR hb8
    obtain ⟨k, hk, rfl, hrX, hrS, hrR, hBw⟩ := hrel
    by_cases hk10 : k < 10
    · have hki : (k : Int) < 10 := by omega
      have HKs : Hid (D (k + 1) = diagsN (colsN (D k) 4) 4) := HDs.out k
      have HXl : Hid ((D k).length = 16) := HDl.out k
      have HXx : Hid (∀ z ∈ D k, z < 4294967296) := HDx.out k
      have HrX0 : Hid (Row wr BX 120 (u32s (colsN (D k) 0))) := hrX
      generalize D k = X at *
      go_wp2
      go_loopw [10] (fun i wq => ∃ j : Nat, j ≤ 4 ∧ i = .int .i64 j ∧ Row wq BX 120 (u32s (colsN X j)) ∧ Row wq (w.heap.size + 1 + 1 + 1) 120 SV ∧ Row wq (w.heap.size + 1 + 1) 86 O ∧ Below w.heap.size w wq)
        (fun i _ => 4 - (intOf i).toNat)
      case atStart => exact ⟨0, by omega, rfl, HrX0.out, hrS, hrR, hBw⟩
      case round =>
        clear HrX0 hrX hrS hrR hBw
        obtain ⟨j, hj, rfl, hrX, hrS, hrR, hBw⟩ := hrel
        by_cases hj4 : j < 4
        · have hji : (j : Int) < 4 := by omega
          have HJ2 : Hid (colsN X (j + 1) = quarterAt (colsN X j) j (4 + j) (8 + j) (12 + j)) := rfl
          have HYl : Hid ((u32s (colsN X j)).length = 16) := by show _ = _; rw [u32s_length, colsN_length]; exact HXl.out
          have HYx : Hid (∀ z ∈ colsN X j, z < 4294967296) := colsN_lt HXx.out j
          have HXi : Hid (Row wr BX 120 (u32s (colsN X j))) := hrX
          have HSi : Hid (Row wr (w.heap.size + 1 + 1 + 1) 120 SV) := hrS
          have HRi : Hid (Row wr (w.heap.size + 1 + 1) 86 O) := hrR
          have HBi : Hid (Below w.heap.size w wr) := hBw
          clear hrX hrS hrR hBw
          generalize colsN X j = Y at *
          have ea : IntKind.i64.wrap (4 + (j : Int)) = ((4 + j : Nat) : Int) := by rw [IntKind.wrap_i64]; omega
          have eb : IntKind.i64.wrap (8 + (j : Int)) = ((8 + j : Nat) : Int) := by rw [IntKind.wrap_i64]; omega
          have ec : IntKind.i64.wrap (12 + (j : Int)) = ((12 + j : Nat) : Int) := by rw [IntKind.wrap_i64]; omega
          have ha : j < 16 := by omega
          have hb : 4 + j < 16 := by omega
          have hc : 8 + j < 16 := by omega
          have hd : 12 + j < 16 := by omega
          generalize hpa : 4 + j = pb at *
          generalize hpb : 8 + j = pc at *
          generalize hpc : 12 + j = pd at *
          clear hpa hpb hpc
          have cA : (u32s Y)[j]? = some (.int .u32 (Y.getD j 0 : Nat)) := u32s_at (by have h := HYl.out; rw [u32s_length] at h; omega)
          have cB : (u32s Y)[pb]? = some (.int .u32 (Y.getD pb 0 : Nat)) := u32s_at (by have h := HYl.out; rw [u32s_length] at h; omega)
          have cC : (u32s Y)[pc]? = some (.int .u32 (Y.getD pc 0 : Nat)) := u32s_at (by have h := HYl.out; rw [u32s_length] at h; omega)
          have cD : (u32s Y)[pd]? = some (.int .u32 (Y.getD pd 0 : Nat)) := u32s_at (by have h := HYl.out; rw [u32s_length] at h; omega)
          have c0 := HXi.out.cell cA
          have c1 := HXi.out.cell cB
          have c2 := HXi.out.cell cC
          have c3 := HXi.out.cell cD
          have bx : ∀ i, Y.getD i 0 < 4294967296 := fun i => all_getD (by decide) HYx.out i
          have HQ := refQuarter_any _ _ _ _ (bx j) (bx pb) (bx pc) (bx pd)
          obtain ⟨p, q, r, s, hpq⟩ : ∃ p q r s, quarterN (Y.getD j 0) (Y.getD pb 0) (Y.getD pc 0) (Y.getD pd 0) = (p, q, r, s) := ⟨_, _, _, _, rfl⟩
          rw [hpq] at HQ
          dsimp only at HQ
          have HPQ0 : Hid (∀ x, x = Y → quarterN (x.getD j 0) (x.getD pb 0) (x.getD pc 0) (x.getD pd 0) = (p, q, r, s)) := fun x e => by rw [e]; exact hpq
          have HC : Hid (∀ w, Calls Tryz.prog 64 #[.int .u32 (Y.getD j 0 : Nat), .int .u32 (Y.getD pb 0 : Nat), .int .u32 (Y.getD pc 0 : Nat), .int .u32 (Y.getD pd 0 : Nat)] w fun e w' => e = .returned (.tuple #[.int .u32 p, .int .u32 q, .int .u32 r, .int .u32 s]) ∧ w' = w) := HQ
          have hai : (j : Int) < 16 := by omega
          have hbi : (pb : Int) < 16 := by omega
          have hci : (pc : Int) < 16 := by omega
          have hdi : (pd : Int) < 16 := by omega
          clear HQ hpq bx cA cB cC cD
          generalize Y.getD j 0 = xa at *
          generalize Y.getD pb 0 = xb at *
          generalize Y.getD pc 0 = xc at *
          generalize Y.getD pd 0 = xd at *
          go_wp2
          refine wp_region_noPanic ?_
          refine wp_region_gate' 29 (fun W' => W'.cell? ⟨BX, j, none⟩ = some (.int .u32 xa) ∧ W'.cell? ⟨BX, pb, none⟩ = some (.int .u32 xb) ∧ W'.cell? ⟨BX, pc, none⟩ = some (.int .u32 xc) ∧ W'.cell? ⟨BX, pd, none⟩ = some (.int .u32 xd)) (by kernel_rfl) ?_
          refine wpAnyG_takesAt 0 22 14 (of_decide_eq_true (by kernel_rfl)) rfl (fun _ _ _ _ _ h => h) (by kernel_rfl) (by kernel_rfl) (fun _ => ⟨by simpa using c0, by simpa using c1, by simpa using c2, by simpa using c3⟩) ?_
          simp only [List.drop_zero, List.take_succ_cons, List.take_zero]
          iterate 9 (refine wpHeldG_free (v := ?_) (by rfl) (fun wz => ?_) ?_; rotate_left; (focus (go_simp; try with_reducible rfl)); (simp only [Act.put, List.setIfInBounds_toArray, List.set_cons_zero, List.set_cons_succ]))
          iterate 1 (refine wpHeldG_step (v := ?_) (by rfl) (by kernel_rfl) (fun wz hSw => ?_) ?_; rotate_left; (focus ((try dsimp only at hSw); go_simp; try with_reducible rfl)); (simp only [Act.put, List.setIfInBounds_toArray, List.set_cons_zero, List.set_cons_succ]))
          iterate 3 (refine wpHeldG_free (v := ?_) (by rfl) (fun wz => ?_) ?_; rotate_left; (focus (go_simp; try with_reducible rfl)); (simp only [Act.put, List.setIfInBounds_toArray, List.set_cons_zero, List.set_cons_succ]))
          iterate 1 (refine wpHeldG_step (v := ?_) (by rfl) (by kernel_rfl) (fun wz hSw => ?_) ?_; rotate_left; (focus ((try dsimp only at hSw); go_simp; try with_reducible rfl)); (simp only [Act.put, List.setIfInBounds_toArray, List.set_cons_zero, List.set_cons_succ]))
          iterate 3 (refine wpHeldG_free (v := ?_) (by rfl) (fun wz => ?_) ?_; rotate_left; (focus (go_simp; try with_reducible rfl)); (simp only [Act.put, List.setIfInBounds_toArray, List.set_cons_zero, List.set_cons_succ]))
          iterate 1 (refine wpHeldG_step (v := ?_) (by rfl) (by kernel_rfl) (fun wz hSw => ?_) ?_; rotate_left; (focus ((try dsimp only at hSw); go_simp; try with_reducible rfl)); (simp only [Act.put, List.setIfInBounds_toArray, List.set_cons_zero, List.set_cons_succ]))
          iterate 3 (refine wpHeldG_free (v := ?_) (by rfl) (fun wz => ?_) ?_; rotate_left; (focus (go_simp; try with_reducible rfl)); (simp only [Act.put, List.setIfInBounds_toArray, List.set_cons_zero, List.set_cons_succ]))
          iterate 1 (refine wpHeldG_step (v := ?_) (by rfl) (by kernel_rfl) (fun wz hSw => ?_) ?_; rotate_left; (focus ((try dsimp only at hSw); go_simp; try with_reducible rfl)); (simp only [Act.put, List.setIfInBounds_toArray, List.set_cons_zero, List.set_cons_succ]))
          refine wpHeldG_nil ?_
          refine wpAnyG_only (i := 22) (by kernel_rfl) rfl (by rfl) (fun K hK => ?_)
          go_simp
          refine (HC.out _).mono ?_
          rintro e w' ⟨rfl, rfl⟩
          refine hK.out _ _ (fun _ => ⟨by simpa using c0, by simpa using c1, by simpa using c2, by simpa using c3⟩) ?_
          clear hK K
          refine wpAnyG_takesAt 23 6 7 (of_decide_eq_true (by kernel_rfl)) rfl (fun _ _ _ _ _ h => h) (by kernel_rfl) (by kernel_rfl) (fun _ => ⟨by simpa using c0, by simpa using c1, by simpa using c2, by simpa using c3⟩) ?_
          simp only [List.drop_succ_cons, List.drop_zero, List.take_succ_cons, List.take_zero]
          iterate 6 (refine wpHeldG_free (v := ?_) (by rfl) (fun wz => ?_) ?_; rotate_left; (focus (go_simp; try with_reducible rfl)); (simp only [Act.put, List.setIfInBounds_toArray, List.set_cons_zero, List.set_cons_succ]))
          refine wpHeldG_nil ?_
          have HX0 : Hid (Row wr.drew BX 120 (u32s Y)) := HXi.out
          have HS0 : Hid (Row wr.drew (w.heap.size + 1 + 1 + 1) 120 SV) := HSi.out
          have HR0 : Hid (Row wr.drew (w.heap.size + 1 + 1) 86 O) := HRi.out
          have HB0 : Hid (Below w.heap.size w wr.drew) := HBi.out.drew
          clear HXi HSi HRi HBi
          generalize hV0 : wr.drew = V0 at *
          clear hV0 c0 c1 c2 c3
          obtain ⟨v0, hv0⟩ : ∃ v, V0.cell? ⟨BX, j, none⟩ = some v := ⟨_, HX0.out.cell (List.getElem?_eq_getElem (by (try simp only [List.length_set]); rw [HYl.out]; omega))⟩
          have fz0 := HX0.out.frozen j
          refine wpAnyG_only (i := 29) (by kernel_rfl) rfl (by rfl) (fun K hK => ?_)
          go_simp
          refine hK.out _ _ (gone (by kernel_rfl)) ?_
          clear hK K
          have HX1 : Hid (Row (V0.setCell ⟨BX, j, none⟩ (.int .u32 (p : Nat))) BX 120 ((u32s Y).set j (.int .u32 (p : Nat)))) := HX0.out.set _ _
          have HS1 : Hid (Row (V0.setCell ⟨BX, j, none⟩ (.int .u32 (p : Nat))) (w.heap.size + 1 + 1 + 1) 120 SV) := HS0.out.other (by simp; omega) _
          have HR1 : Hid (Row (V0.setCell ⟨BX, j, none⟩ (.int .u32 (p : Nat))) (w.heap.size + 1 + 1) 86 O) := HR0.out.other (by simp; omega) _
          have HB1 : Hid (Below w.heap.size w (V0.setCell ⟨BX, j, none⟩ (.int .u32 (p : Nat)))) := HB0.out.setCell (p := ⟨BX, j, none⟩) (by show _ ≤ BX; omega) _
          generalize V0.setCell ⟨BX, j, none⟩ (.int .u32 (p : Nat)) = V1 at *
          clear hv0 fz0 HX0 HS0 HR0 HB0
          obtain ⟨v1, hv1⟩ : ∃ v, V1.cell? ⟨BX, pb, none⟩ = some v := ⟨_, HX1.out.cell (List.getElem?_eq_getElem (by (try simp only [List.length_set]); rw [HYl.out]; omega))⟩
          have fz1 := HX1.out.frozen pb
          refine wpAnyG_takesAt 30 1 5 (of_decide_eq_true (by kernel_rfl)) rfl (fun _ _ _ _ _ h => h) (by kernel_rfl) (by kernel_rfl) (gone (by kernel_rfl)) ?_
          simp only [List.drop_succ_cons, List.drop_zero, List.take_succ_cons, List.take_zero]
          iterate 1 (refine wpHeldG_free (v := ?_) (by rfl) (fun wz => ?_) ?_; rotate_left; (focus (go_simp; try with_reducible rfl)); (simp only [Act.put, List.setIfInBounds_toArray, List.set_cons_zero, List.set_cons_succ]))
          refine wpHeldG_nil ?_
          refine wpAnyG_only (i := 31) (by kernel_rfl) rfl (by rfl) (fun K hK => ?_)
          go_simp
          refine hK.out _ _ (gone (by kernel_rfl)) ?_
          clear hK K
          have HX2 : Hid (Row (V1.setCell ⟨BX, pb, none⟩ (.int .u32 (q : Nat))) BX 120 (((u32s Y).set j (.int .u32 (p : Nat))).set pb (.int .u32 (q : Nat)))) := HX1.out.set _ _
          have HS2 : Hid (Row (V1.setCell ⟨BX, pb, none⟩ (.int .u32 (q : Nat))) (w.heap.size + 1 + 1 + 1) 120 SV) := HS1.out.other (by simp; omega) _
          have HR2 : Hid (Row (V1.setCell ⟨BX, pb, none⟩ (.int .u32 (q : Nat))) (w.heap.size + 1 + 1) 86 O) := HR1.out.other (by simp; omega) _
          have HB2 : Hid (Below w.heap.size w (V1.setCell ⟨BX, pb, none⟩ (.int .u32 (q : Nat)))) := HB1.out.setCell (p := ⟨BX, pb, none⟩) (by show _ ≤ BX; omega) _
          generalize V1.setCell ⟨BX, pb, none⟩ (.int .u32 (q : Nat)) = V2 at *
          clear hv1 fz1 HX1 HS1 HR1 HB1
          obtain ⟨v2, hv2⟩ : ∃ v, V2.cell? ⟨BX, pc, none⟩ = some v := ⟨_, HX2.out.cell (List.getElem?_eq_getElem (by (try simp only [List.length_set]); rw [HYl.out]; omega))⟩
          have fz2 := HX2.out.frozen pc
          refine wpAnyG_takesAt 32 1 3 (of_decide_eq_true (by kernel_rfl)) rfl (fun _ _ _ _ _ h => h) (by kernel_rfl) (by kernel_rfl) (gone (by kernel_rfl)) ?_
          simp only [List.drop_succ_cons, List.drop_zero, List.take_succ_cons, List.take_zero]
          iterate 1 (refine wpHeldG_free (v := ?_) (by rfl) (fun wz => ?_) ?_; rotate_left; (focus (go_simp; try with_reducible rfl)); (simp only [Act.put, List.setIfInBounds_toArray, List.set_cons_zero, List.set_cons_succ]))
          refine wpHeldG_nil ?_
          refine wpAnyG_only (i := 33) (by kernel_rfl) rfl (by rfl) (fun K hK => ?_)
          go_simp
          refine hK.out _ _ (gone (by kernel_rfl)) ?_
          clear hK K
          have HX3 : Hid (Row (V2.setCell ⟨BX, pc, none⟩ (.int .u32 (r : Nat))) BX 120 ((((u32s Y).set j (.int .u32 (p : Nat))).set pb (.int .u32 (q : Nat))).set pc (.int .u32 (r : Nat)))) := HX2.out.set _ _
          have HS3 : Hid (Row (V2.setCell ⟨BX, pc, none⟩ (.int .u32 (r : Nat))) (w.heap.size + 1 + 1 + 1) 120 SV) := HS2.out.other (by simp; omega) _
          have HR3 : Hid (Row (V2.setCell ⟨BX, pc, none⟩ (.int .u32 (r : Nat))) (w.heap.size + 1 + 1) 86 O) := HR2.out.other (by simp; omega) _
          have HB3 : Hid (Below w.heap.size w (V2.setCell ⟨BX, pc, none⟩ (.int .u32 (r : Nat)))) := HB2.out.setCell (p := ⟨BX, pc, none⟩) (by show _ ≤ BX; omega) _
          generalize V2.setCell ⟨BX, pc, none⟩ (.int .u32 (r : Nat)) = V3 at *
          clear hv2 fz2 HX2 HS2 HR2 HB2
          obtain ⟨v3, hv3⟩ : ∃ v, V3.cell? ⟨BX, pd, none⟩ = some v := ⟨_, HX3.out.cell (List.getElem?_eq_getElem (by (try simp only [List.length_set]); rw [HYl.out]; omega))⟩
          have fz3 := HX3.out.frozen pd
          refine wpAnyG_takesAt 34 1 1 (of_decide_eq_true (by kernel_rfl)) rfl (fun _ _ _ _ _ h => h) (by kernel_rfl) (by kernel_rfl) (gone (by kernel_rfl)) ?_
          simp only [List.drop_succ_cons, List.drop_zero, List.take_succ_cons, List.take_zero]
          iterate 1 (refine wpHeldG_free (v := ?_) (by rfl) (fun wz => ?_) ?_; rotate_left; (focus (go_simp; try with_reducible rfl)); (simp only [Act.put, List.setIfInBounds_toArray, List.set_cons_zero, List.set_cons_succ]))
          refine wpHeldG_nil ?_
          refine wpAnyG_only (i := 35) (by kernel_rfl) rfl (by rfl) (fun K hK => ?_)
          go_simp
          refine hK.out _ _ (gone (by kernel_rfl)) ?_
          clear hK K
          have HX4 : Hid (Row (V3.setCell ⟨BX, pd, none⟩ (.int .u32 (s : Nat))) BX 120 (((((u32s Y).set j (.int .u32 (p : Nat))).set pb (.int .u32 (q : Nat))).set pc (.int .u32 (r : Nat))).set pd (.int .u32 (s : Nat)))) := HX3.out.set _ _
          have HS4 : Hid (Row (V3.setCell ⟨BX, pd, none⟩ (.int .u32 (s : Nat))) (w.heap.size + 1 + 1 + 1) 120 SV) := HS3.out.other (by simp; omega) _
          have HR4 : Hid (Row (V3.setCell ⟨BX, pd, none⟩ (.int .u32 (s : Nat))) (w.heap.size + 1 + 1) 86 O) := HR3.out.other (by simp; omega) _
          have HB4 : Hid (Below w.heap.size w (V3.setCell ⟨BX, pd, none⟩ (.int .u32 (s : Nat)))) := HB3.out.setCell (p := ⟨BX, pd, none⟩) (by show _ ≤ BX; omega) _
          generalize V3.setCell ⟨BX, pd, none⟩ (.int .u32 (s : Nat)) = V4 at *
          clear hv3 fz3 HX3 HS3 HR3 HB3
          refine wpAnyG_done (by kernel_rfl) ?_ _
          refine NoPanic.normal ?_
          go_wp2
          go_roundw
          case rel =>
            refine ⟨j + 1, by omega, by go_num, ?_, HS4.out, HR4.out, HB4.out⟩
            have h := HX4.out
            rw [u32s_set, u32s_set, u32s_set, u32s_set] at h
            rw [HJ2.out]
            unfold quarterAt
            rw [HPQ0.out _ rfl]
            exact h
          case measure => simp [intOf]; omega
        · obtain rfl : j = 4 := by omega
          have HXl2 : Hid ((colsN X 4).length = 16) := by show _ = _; rw [colsN_length]; exact HXl.out
          have HXx2 : Hid (∀ z ∈ colsN X 4, z < 4294967296) := colsN_lt HXx.out 4
          have HrX0 : Hid (Row wr BX 120 (u32s (diagsN (colsN X 4) 0))) := hrX
          clear HXl HXx
          generalize colsN X 4 = X2 at *
          go_wp2
          rw [show ((4 : Nat) : Int) = 4 from rfl]
          go_loopw [11] (fun i wq => ∃ j : Nat, j ≤ 4 ∧ i = .int .i64 j ∧ Row wq BX 120 (u32s (diagsN X2 j)) ∧ Row wq (w.heap.size + 1 + 1 + 1) 120 SV ∧ Row wq (w.heap.size + 1 + 1) 86 O ∧ Below w.heap.size w wq)
            (fun i _ => 4 - (intOf i).toNat)
          case atStart => exact ⟨0, by omega, rfl, HrX0.out, hrS, hrR, hBw⟩
          case round =>
            clear HrX0 hrX hrS hrR hBw
            obtain ⟨j, hj, rfl, hrX, hrS, hrR, hBw⟩ := hrel
            by_cases hj4 : j < 4
            · have hji : (j : Int) < 4 := by omega
              have HJ2 : Hid (diagsN X2 (j + 1) = quarterAt (diagsN X2 j) j (4 + (j + 1) % 4) (8 + (j + 2) % 4) (12 + (j + 3) % 4)) := rfl
              have HYl : Hid ((u32s (diagsN X2 j)).length = 16) := by show _ = _; rw [u32s_length, diagsN_length]; exact HXl2.out
              have HYx : Hid (∀ z ∈ diagsN X2 j, z < 4294967296) := diagsN_lt HXx2.out j
              have HXi : Hid (Row wr BX 120 (u32s (diagsN X2 j))) := hrX
              have HSi : Hid (Row wr (w.heap.size + 1 + 1 + 1) 120 SV) := hrS
              have HRi : Hid (Row wr (w.heap.size + 1 + 1) 86 O) := hrR
              have HBi : Hid (Below w.heap.size w wr) := hBw
              clear hrX hrS hrR hBw
              generalize diagsN X2 j = Y at *
              have ha : j < 16 := by omega
              have hb : 4 + (j + 1) % 4 < 16 := by omega
              have hc : 8 + (j + 2) % 4 < 16 := by omega
              have hd : 12 + (j + 3) % 4 < 16 := by omega
              have ea : ((4 : Int) + ((j : Int) + 1) % 4) = ((4 + (j + 1) % 4 : Nat) : Int) := by omega
              have eb : ((8 : Int) + ((j : Int) + 2) % 4) = ((8 + (j + 2) % 4 : Nat) : Int) := by omega
              have ec : ((12 : Int) + ((j : Int) + 3) % 4) = ((12 + (j + 3) % 4 : Nat) : Int) := by omega
              generalize hpa : 4 + (j + 1) % 4 = pb at *
              generalize hpb : 8 + (j + 2) % 4 = pc at *
              generalize hpc : 12 + (j + 3) % 4 = pd at *
              clear hpa hpb hpc
              go_wp2
              clear ea eb ec
              have cA : (u32s Y)[j]? = some (.int .u32 (Y.getD j 0 : Nat)) := u32s_at (by have h := HYl.out; rw [u32s_length] at h; omega)
              have cB : (u32s Y)[pb]? = some (.int .u32 (Y.getD pb 0 : Nat)) := u32s_at (by have h := HYl.out; rw [u32s_length] at h; omega)
              have cC : (u32s Y)[pc]? = some (.int .u32 (Y.getD pc 0 : Nat)) := u32s_at (by have h := HYl.out; rw [u32s_length] at h; omega)
              have cD : (u32s Y)[pd]? = some (.int .u32 (Y.getD pd 0 : Nat)) := u32s_at (by have h := HYl.out; rw [u32s_length] at h; omega)
              have c0 := HXi.out.cell cA
              have c1 := HXi.out.cell cB
              have c2 := HXi.out.cell cC
              have c3 := HXi.out.cell cD
              have bx : ∀ i, Y.getD i 0 < 4294967296 := fun i => all_getD (by decide) HYx.out i
              have HQ := refQuarter_any _ _ _ _ (bx j) (bx pb) (bx pc) (bx pd)
              obtain ⟨p, q, r, s, hpq⟩ : ∃ p q r s, quarterN (Y.getD j 0) (Y.getD pb 0) (Y.getD pc 0) (Y.getD pd 0) = (p, q, r, s) := ⟨_, _, _, _, rfl⟩
              rw [hpq] at HQ
              dsimp only at HQ
              have HPQ0 : Hid (∀ x, x = Y → quarterN (x.getD j 0) (x.getD pb 0) (x.getD pc 0) (x.getD pd 0) = (p, q, r, s)) := fun x e => by rw [e]; exact hpq
              have HC : Hid (∀ w, Calls Tryz.prog 64 #[.int .u32 (Y.getD j 0 : Nat), .int .u32 (Y.getD pb 0 : Nat), .int .u32 (Y.getD pc 0 : Nat), .int .u32 (Y.getD pd 0 : Nat)] w fun e w' => e = .returned (.tuple #[.int .u32 p, .int .u32 q, .int .u32 r, .int .u32 s]) ∧ w' = w) := HQ
              have hai : (j : Int) < 16 := by omega
              have hbi : (pb : Int) < 16 := by omega
              have hci : (pc : Int) < 16 := by omega
              have hdi : (pd : Int) < 16 := by omega
              clear HQ hpq bx cA cB cC cD
              generalize Y.getD j 0 = xa at *
              generalize Y.getD pb 0 = xb at *
              generalize Y.getD pc 0 = xc at *
              generalize Y.getD pd 0 = xd at *
              refine wp_region_noPanic ?_
              refine wp_region_gate' 23 (fun W' => W'.cell? ⟨BX, j, none⟩ = some (.int .u32 xa) ∧ W'.cell? ⟨BX, pb, none⟩ = some (.int .u32 xb) ∧ W'.cell? ⟨BX, pc, none⟩ = some (.int .u32 xc) ∧ W'.cell? ⟨BX, pd, none⟩ = some (.int .u32 xd)) (by kernel_rfl) ?_
              refine wpAnyG_takesAt 0 16 14 (of_decide_eq_true (by kernel_rfl)) rfl (fun _ _ _ _ _ h => h) (by kernel_rfl) (by kernel_rfl) (fun _ => ⟨by simpa using c0, by simpa using c1, by simpa using c2, by simpa using c3⟩) ?_
              simp only [List.drop_zero, List.take_succ_cons, List.take_zero]
              iterate 6 (refine wpHeldG_free (v := ?_) (by rfl) (fun wz => ?_) ?_; rotate_left; (focus (go_simp; try with_reducible rfl)); (simp only [Act.put, List.setIfInBounds_toArray, List.set_cons_zero, List.set_cons_succ]))
              iterate 1 (refine wpHeldG_step (v := ?_) (by rfl) (by kernel_rfl) (fun wz hSw => ?_) ?_; rotate_left; (focus ((try dsimp only at hSw); go_simp; try with_reducible rfl)); (simp only [Act.put, List.setIfInBounds_toArray, List.set_cons_zero, List.set_cons_succ]))
              iterate 2 (refine wpHeldG_free (v := ?_) (by rfl) (fun wz => ?_) ?_; rotate_left; (focus (go_simp; try with_reducible rfl)); (simp only [Act.put, List.setIfInBounds_toArray, List.set_cons_zero, List.set_cons_succ]))
              iterate 1 (refine wpHeldG_step (v := ?_) (by rfl) (by kernel_rfl) (fun wz hSw => ?_) ?_; rotate_left; (focus ((try dsimp only at hSw); go_simp; try with_reducible rfl)); (simp only [Act.put, List.setIfInBounds_toArray, List.set_cons_zero, List.set_cons_succ]))
              iterate 2 (refine wpHeldG_free (v := ?_) (by rfl) (fun wz => ?_) ?_; rotate_left; (focus (go_simp; try with_reducible rfl)); (simp only [Act.put, List.setIfInBounds_toArray, List.set_cons_zero, List.set_cons_succ]))
              iterate 1 (refine wpHeldG_step (v := ?_) (by rfl) (by kernel_rfl) (fun wz hSw => ?_) ?_; rotate_left; (focus ((try dsimp only at hSw); go_simp; try with_reducible rfl)); (simp only [Act.put, List.setIfInBounds_toArray, List.set_cons_zero, List.set_cons_succ]))
              iterate 2 (refine wpHeldG_free (v := ?_) (by rfl) (fun wz => ?_) ?_; rotate_left; (focus (go_simp; try with_reducible rfl)); (simp only [Act.put, List.setIfInBounds_toArray, List.set_cons_zero, List.set_cons_succ]))
              iterate 1 (refine wpHeldG_step (v := ?_) (by rfl) (by kernel_rfl) (fun wz hSw => ?_) ?_; rotate_left; (focus ((try dsimp only at hSw); go_simp; try with_reducible rfl)); (simp only [Act.put, List.setIfInBounds_toArray, List.set_cons_zero, List.set_cons_succ]))
              refine wpHeldG_nil ?_
              refine wpAnyG_only (i := 16) (by kernel_rfl) rfl (by rfl) (fun K hK => ?_)
              go_simp
              refine (HC.out _).mono ?_
              rintro e w' ⟨rfl, rfl⟩
              refine hK.out _ _ (fun _ => ⟨by simpa using c0, by simpa using c1, by simpa using c2, by simpa using c3⟩) ?_
              clear hK K
              refine wpAnyG_takesAt 17 6 7 (of_decide_eq_true (by kernel_rfl)) rfl (fun _ _ _ _ _ h => h) (by kernel_rfl) (by kernel_rfl) (fun _ => ⟨by simpa using c0, by simpa using c1, by simpa using c2, by simpa using c3⟩) ?_
              simp only [List.drop_succ_cons, List.drop_zero, List.take_succ_cons, List.take_zero]
              iterate 6 (refine wpHeldG_free (v := ?_) (by rfl) (fun wz => ?_) ?_; rotate_left; (focus (go_simp; try with_reducible rfl)); (simp only [Act.put, List.setIfInBounds_toArray, List.set_cons_zero, List.set_cons_succ]))
              refine wpHeldG_nil ?_
              have HX0 : Hid (Row wr.drew BX 120 (u32s Y)) := HXi.out
              have HS0 : Hid (Row wr.drew (w.heap.size + 1 + 1 + 1) 120 SV) := HSi.out
              have HR0 : Hid (Row wr.drew (w.heap.size + 1 + 1) 86 O) := HRi.out
              have HB0 : Hid (Below w.heap.size w wr.drew) := HBi.out.drew
              clear HXi HSi HRi HBi
              generalize hV0 : wr.drew = V0 at *
              clear hV0 c0 c1 c2 c3
              obtain ⟨v0, hv0⟩ : ∃ v, V0.cell? ⟨BX, j, none⟩ = some v := ⟨_, HX0.out.cell (List.getElem?_eq_getElem (by (try simp only [List.length_set]); rw [HYl.out]; omega))⟩
              have fz0 := HX0.out.frozen j
              refine wpAnyG_only (i := 23) (by kernel_rfl) rfl (by rfl) (fun K hK => ?_)
              go_simp
              refine hK.out _ _ (gone (by kernel_rfl)) ?_
              clear hK K
              have HX1 : Hid (Row (V0.setCell ⟨BX, j, none⟩ (.int .u32 (p : Nat))) BX 120 ((u32s Y).set j (.int .u32 (p : Nat)))) := HX0.out.set _ _
              have HS1 : Hid (Row (V0.setCell ⟨BX, j, none⟩ (.int .u32 (p : Nat))) (w.heap.size + 1 + 1 + 1) 120 SV) := HS0.out.other (by simp; omega) _
              have HR1 : Hid (Row (V0.setCell ⟨BX, j, none⟩ (.int .u32 (p : Nat))) (w.heap.size + 1 + 1) 86 O) := HR0.out.other (by simp; omega) _
              have HB1 : Hid (Below w.heap.size w (V0.setCell ⟨BX, j, none⟩ (.int .u32 (p : Nat)))) := HB0.out.setCell (p := ⟨BX, j, none⟩) (by show _ ≤ BX; omega) _
              generalize V0.setCell ⟨BX, j, none⟩ (.int .u32 (p : Nat)) = V1 at *
              clear hv0 fz0 HX0 HS0 HR0 HB0
              obtain ⟨v1, hv1⟩ : ∃ v, V1.cell? ⟨BX, pb, none⟩ = some v := ⟨_, HX1.out.cell (List.getElem?_eq_getElem (by (try simp only [List.length_set]); rw [HYl.out]; omega))⟩
              have fz1 := HX1.out.frozen pb
              refine wpAnyG_takesAt 24 1 5 (of_decide_eq_true (by kernel_rfl)) rfl (fun _ _ _ _ _ h => h) (by kernel_rfl) (by kernel_rfl) (gone (by kernel_rfl)) ?_
              simp only [List.drop_succ_cons, List.drop_zero, List.take_succ_cons, List.take_zero]
              iterate 1 (refine wpHeldG_free (v := ?_) (by rfl) (fun wz => ?_) ?_; rotate_left; (focus (go_simp; try with_reducible rfl)); (simp only [Act.put, List.setIfInBounds_toArray, List.set_cons_zero, List.set_cons_succ]))
              refine wpHeldG_nil ?_
              refine wpAnyG_only (i := 25) (by kernel_rfl) rfl (by rfl) (fun K hK => ?_)
              go_simp
              refine hK.out _ _ (gone (by kernel_rfl)) ?_
              clear hK K
              have HX2 : Hid (Row (V1.setCell ⟨BX, pb, none⟩ (.int .u32 (q : Nat))) BX 120 (((u32s Y).set j (.int .u32 (p : Nat))).set pb (.int .u32 (q : Nat)))) := HX1.out.set _ _
              have HS2 : Hid (Row (V1.setCell ⟨BX, pb, none⟩ (.int .u32 (q : Nat))) (w.heap.size + 1 + 1 + 1) 120 SV) := HS1.out.other (by simp; omega) _
              have HR2 : Hid (Row (V1.setCell ⟨BX, pb, none⟩ (.int .u32 (q : Nat))) (w.heap.size + 1 + 1) 86 O) := HR1.out.other (by simp; omega) _
              have HB2 : Hid (Below w.heap.size w (V1.setCell ⟨BX, pb, none⟩ (.int .u32 (q : Nat)))) := HB1.out.setCell (p := ⟨BX, pb, none⟩) (by show _ ≤ BX; omega) _
              generalize V1.setCell ⟨BX, pb, none⟩ (.int .u32 (q : Nat)) = V2 at *
              clear hv1 fz1 HX1 HS1 HR1 HB1
              obtain ⟨v2, hv2⟩ : ∃ v, V2.cell? ⟨BX, pc, none⟩ = some v := ⟨_, HX2.out.cell (List.getElem?_eq_getElem (by (try simp only [List.length_set]); rw [HYl.out]; omega))⟩
              have fz2 := HX2.out.frozen pc
              refine wpAnyG_takesAt 26 1 3 (of_decide_eq_true (by kernel_rfl)) rfl (fun _ _ _ _ _ h => h) (by kernel_rfl) (by kernel_rfl) (gone (by kernel_rfl)) ?_
              simp only [List.drop_succ_cons, List.drop_zero, List.take_succ_cons, List.take_zero]
              iterate 1 (refine wpHeldG_free (v := ?_) (by rfl) (fun wz => ?_) ?_; rotate_left; (focus (go_simp; try with_reducible rfl)); (simp only [Act.put, List.setIfInBounds_toArray, List.set_cons_zero, List.set_cons_succ]))
              refine wpHeldG_nil ?_
              refine wpAnyG_only (i := 27) (by kernel_rfl) rfl (by rfl) (fun K hK => ?_)
              go_simp
              refine hK.out _ _ (gone (by kernel_rfl)) ?_
              clear hK K
              have HX3 : Hid (Row (V2.setCell ⟨BX, pc, none⟩ (.int .u32 (r : Nat))) BX 120 ((((u32s Y).set j (.int .u32 (p : Nat))).set pb (.int .u32 (q : Nat))).set pc (.int .u32 (r : Nat)))) := HX2.out.set _ _
              have HS3 : Hid (Row (V2.setCell ⟨BX, pc, none⟩ (.int .u32 (r : Nat))) (w.heap.size + 1 + 1 + 1) 120 SV) := HS2.out.other (by simp; omega) _
              have HR3 : Hid (Row (V2.setCell ⟨BX, pc, none⟩ (.int .u32 (r : Nat))) (w.heap.size + 1 + 1) 86 O) := HR2.out.other (by simp; omega) _
              have HB3 : Hid (Below w.heap.size w (V2.setCell ⟨BX, pc, none⟩ (.int .u32 (r : Nat)))) := HB2.out.setCell (p := ⟨BX, pc, none⟩) (by show _ ≤ BX; omega) _
              generalize V2.setCell ⟨BX, pc, none⟩ (.int .u32 (r : Nat)) = V3 at *
              clear hv2 fz2 HX2 HS2 HR2 HB2
              obtain ⟨v3, hv3⟩ : ∃ v, V3.cell? ⟨BX, pd, none⟩ = some v := ⟨_, HX3.out.cell (List.getElem?_eq_getElem (by (try simp only [List.length_set]); rw [HYl.out]; omega))⟩
              have fz3 := HX3.out.frozen pd
              refine wpAnyG_takesAt 28 1 1 (of_decide_eq_true (by kernel_rfl)) rfl (fun _ _ _ _ _ h => h) (by kernel_rfl) (by kernel_rfl) (gone (by kernel_rfl)) ?_
              simp only [List.drop_succ_cons, List.drop_zero, List.take_succ_cons, List.take_zero]
              iterate 1 (refine wpHeldG_free (v := ?_) (by rfl) (fun wz => ?_) ?_; rotate_left; (focus (go_simp; try with_reducible rfl)); (simp only [Act.put, List.setIfInBounds_toArray, List.set_cons_zero, List.set_cons_succ]))
              refine wpHeldG_nil ?_
              refine wpAnyG_only (i := 29) (by kernel_rfl) rfl (by rfl) (fun K hK => ?_)
              go_simp
              refine hK.out _ _ (gone (by kernel_rfl)) ?_
              clear hK K
              have HX4 : Hid (Row (V3.setCell ⟨BX, pd, none⟩ (.int .u32 (s : Nat))) BX 120 (((((u32s Y).set j (.int .u32 (p : Nat))).set pb (.int .u32 (q : Nat))).set pc (.int .u32 (r : Nat))).set pd (.int .u32 (s : Nat)))) := HX3.out.set _ _
              have HS4 : Hid (Row (V3.setCell ⟨BX, pd, none⟩ (.int .u32 (s : Nat))) (w.heap.size + 1 + 1 + 1) 120 SV) := HS3.out.other (by simp; omega) _
              have HR4 : Hid (Row (V3.setCell ⟨BX, pd, none⟩ (.int .u32 (s : Nat))) (w.heap.size + 1 + 1) 86 O) := HR3.out.other (by simp; omega) _
              have HB4 : Hid (Below w.heap.size w (V3.setCell ⟨BX, pd, none⟩ (.int .u32 (s : Nat)))) := HB3.out.setCell (p := ⟨BX, pd, none⟩) (by show _ ≤ BX; omega) _
              generalize V3.setCell ⟨BX, pd, none⟩ (.int .u32 (s : Nat)) = V4 at *
              clear hv3 fz3 HX3 HS3 HR3 HB3
              refine wpAnyG_done (by kernel_rfl) ?_ _
              refine NoPanic.normal ?_
              go_wp2
              go_roundw
              case rel =>
                refine ⟨j + 1, by omega, by go_num, ?_, HS4.out, HR4.out, HB4.out⟩
                have h := HX4.out
                rw [u32s_set, u32s_set, u32s_set, u32s_set] at h
                rw [HJ2.out]
                unfold quarterAt
                rw [HPQ0.out _ rfl]
                exact h
              case measure => simp [intOf]; omega
            · obtain rfl : j = 4 := by omega
              go_wp2
              go_roundw
              case rel => exact ⟨k + 1, by omega, by go_num, by rw [HKs.out]; exact hrX, hrS, hrR, hBw⟩
              case measure => simp [intOf]; omega
    · obtain rfl : k = 10 := by omega
      have HXl : Hid ((D 10).length = 16) := HDl.out 10
      have HXx : Hid (∀ z ∈ D 10, z < 4294967296) := HDx.out 10
      generalize hDN : D 10 = dn at *
      have HDN : Hid (D 10 = dn) := hDN
      clear hDN HDs HDl HDx
      go_wp2
      rw [z64u8, show ((10 : Nat) : Int) = 10 from rfl]
      have rO := Row.new' wr 86 (List.replicate 64 (Value.int .u8 0))
      have rX := hrX.alloc (.cells (List.replicate 64 (Value.int .u8 0)).toArray 86)
      have rS := hrS.alloc (.cells (List.replicate 64 (Value.int .u8 0)).toArray 86)
      have rR := hrR.alloc (.cells (List.replicate 64 (Value.int .u8 0)).toArray 86)
      have hsw := hBw.size
      have hlx := hrX.lt
      have hlS := hrS.lt
      have hb9 : Below w.heap.size w (wr.alloc (.cells (List.replicate 64 (Value.int .u8 0)).toArray 86)) := hBw.alloc hsw _
      clear hrX hrS hrR hBw
      generalize (wr.alloc (.cells (List.replicate 64 (Value.int .u8 0)).toArray 86)) = w9 at *
      generalize hBO : wr.heap.size = BO at *
      clear hBO
      go_loopw [111] (fun i wq => ∃ j : Nat, j ≤ 16 ∧ i = .int .i64 j ∧ Row wq BO 86 (fill 64 (.int .u8 0) (u8s ((lowBytes (addN dn st)).take (4 * j)))) ∧ Row wq BX 120 (u32s dn) ∧ Row wq (w.heap.size + 1 + 1 + 1) 120 SV ∧ Row wq (w.heap.size + 1 + 1) 86 O ∧ Below w.heap.size w wq)
        (fun i _ => 16 - (intOf i).toNat)
      case atStart => exact ⟨0, by omega, rfl, rO, rX, rS, rR, hb9⟩
      case round =>
        clear rO rX rS rR hb9
        obtain ⟨j, hj, rfl, hrO, hrX, hrS, hrR, hBw⟩ := hrel
        by_cases hj16 : j < 16
        · have hji : (j : Int) < 16 := by omega
          have c0 := hrX.cell (u32s_at (l := dn) (i := j) (by rw [HXl.out]; omega))
          rw [← HSV.out] at hrS
          have c1 := hrS.cell (u32s_at (l := st) (i := j) (by rw [HSl.out]; omega))
          rw [HSV.out] at hrS
          have bx : dn.getD j 0 < 4294967296 := all_getD (by decide) HXx.out _
          have by' : st.getD j 0 < 4294967296 := all_getD (by decide) HSx.out _
          have HT : Hid (fill 64 (.int .u8 0) (u8s ((lowBytes (addN dn st)).take (4 * (j + 1)))) = splice (fill 64 (.int .u8 0) (u8s ((lowBytes (addN dn st)).take (4 * j)))) (4 * j) (byteVals (byteAt ((dn.getD j 0 + st.getD j 0) % 4294967296)) 4)) := put_four _ _ j hj16
          have HFl : Hid ((fill 64 (Value.int .u8 0) (u8s ((lowBytes (addN dn st)).take (4 * j)))).length = 64) := fill_length _ _ _ (by simp; omega)
          have HrO : Hid (Row wr BO 86 (fill 64 (.int .u8 0) (u8s ((lowBytes (addN dn st)).take (4 * j))))) := hrO
          have HrX : Hid (Row wr BX 120 (u32s dn)) := hrX
          have HrS : Hid (Row wr (w.heap.size + 1 + 1 + 1) 120 SV) := hrS
          have HrR : Hid (Row wr (w.heap.size + 1 + 1) 86 O) := hrR
          have HBw : Hid (Below w.heap.size w wr) := hBw
          have HlO : Hid (BO < wr.heap.size) := hrO.lt
          have HlX : Hid (BX < wr.heap.size) := hrX.lt
          have HlS : Hid (w.heap.size + 1 + 1 + 1 < wr.heap.size) := hrS.lt
          clear hrO hrX hrS hrR hBw
          generalize fill 64 (Value.int .u8 0) (u8s ((lowBytes (addN dn st)).take (4 * j))) = C1 at *
          generalize hC2 : fill 64 (Value.int .u8 0) (u8s ((lowBytes (addN dn st)).take (4 * (j + 1)))) = C2 at *
          have HC2 : Hid (fill 64 (Value.int .u8 0) (u8s ((lowBytes (addN dn st)).take (4 * (j + 1)))) = C2) := hC2
          clear hC2
          generalize dn.getD j 0 = x at *
          generalize st.getD j 0 = y at *
          have e4 : IntKind.i64.wrap (4 * (j : Int)) = ((4 * j : Nat) : Int) := by rw [IntKind.wrap_i64]; omega
          have h4 : 4 * j ≤ 64 := by omega
          have h4i : ((4 * j : Nat) : Int) ≤ 64 := by omega
          obtain ⟨m, hm⟩ : ∃ m, m = (x + y) % 4294967296 := ⟨_, rfl⟩
          have em : IntKind.u32.wrap ((x : Int) + (y : Int)) = (m : Int) := by rw [IntKind.wrap_u32]; omega
          have em2 : IntKind.u64.wrap (m : Int) = (m : Int) := by rw [IntKind.wrap_u64]; omega
          rw [← hm] at HT
          have HPut := put_any m 4 (by omega)
          have HPu : Hid (∀ w, Calls Tryz.prog 46 #[.int .u64 m, .int .i64 4] w fun e w' => ∃ v, e = .returned v ∧ w'.ownsRow w.heap.size 5 1 v 4 (byteVals (byteAt m) 4) ∧ Below w.heap.size w w') := HPut
          clear HPut hm
          generalize hj4 : 4 * j = j4 at *
          have Hj4 : Hid (4 * j = j4) := hj4
          clear hj4
          have h60 : j4 + 4 ≤ 64 := by have := Hj4.out; omega
          have hne0 : ¬ 64 = j4 := by omega
          go_wp2
          refine wp_region_noPanic ?_
          refine wp_region_held_drew (S := fun W' => W'.cell? ⟨BX, j, none⟩ = some (.int .u32 x) ∧ W'.cell? ⟨w.heap.size + 1 + 1 + 1, j, none⟩ = some (.int .u32 y)) (by kernel_rfl) ⟨by simpa using c0, by simpa using c1⟩ (fun hHeld => ?_)
          refine wpAnyH_takesAt 0 11 2 (of_decide_eq_true (by kernel_rfl)) rfl (fun _ _ _ _ _ h => h) (by kernel_rfl) (by kernel_rfl) hHeld ?_
          simp only [List.drop_zero, List.take_succ_cons, List.take_zero]
          iterate 11 (refine wpHeld_step (v := ?_) (by rfl) (fun wz hSw => ?_) ?_; rotate_left; (focus ((try dsimp only at hSw); go_simp; try with_reducible rfl)); (simp only [Act.put, List.setIfInBounds_toArray, List.set_cons_zero, List.set_cons_succ]))
          refine wpHeld_nil ?_
          refine wpAnyH_only (i := 11) (by kernel_rfl) rfl (fun K hK => ?_)
          rw [if_pos (by rfl)]
          go_simp
          refine (HPu.out _).mono ?_
          rintro e w3 ⟨v3, rfl, hrow3, hb3⟩
          obtain ⟨q3, c3, rfl⟩ := slice_of_row hrow3
          obtain ⟨g3, rfl, _⟩ := row_some hrow3 (by omega)
          refine hK.out _ _ ⟨(hb3.cell (p := ⟨BX, j, none⟩) HlX.out).trans c0, (hb3.cell (p := ⟨w.heap.size + 1 + 1 + 1, j, none⟩) HlS.out).trans c1⟩ ?_
          clear hK K
          refine wpAnyH_only (i := 12) (by kernel_rfl) rfl (fun K hK => ?_)
          rw [if_pos (by rfl)]
          refine wp_copy_but (.tmp 116) (.tmp 125) 24 24 (by rfl) 5 Tryz.underlying24 size5 BO j4 (64 - j4) (64 - j4) ⟨g3, 0, none⟩ 4 c3 (by rfl) (by rfl) C1 86 (HrO.out.drew.later hb3) (byteVals (byteAt m) 4) (by show 4 = min 4 (64 - j4); omega) (row_src hrow3) (by rw [HFl.out]; show j4 + 4 ≤ 64; omega) (by intro v hv; obtain ⟨i, _, rfl⟩ := List.mem_map.1 hv; rfl) (fun w4 hr4 hbut4 => ?_)
          have hs3' : wr.heap.size ≤ w3.heap.size := hb3.size
          refine hK.out _ _ ⟨(World.cell?_of_block (a := ⟨BX, j, none⟩) (hbut4.block BX (by have := HlX.out; omega) (by omega))).trans ((hb3.cell (p := ⟨BX, j, none⟩) HlX.out).trans c0), (World.cell?_of_block (a := ⟨w.heap.size + 1 + 1 + 1, j, none⟩) (hbut4.block (w.heap.size + 1 + 1 + 1) (by have := HlS.out; omega) (by omega))).trans ((hb3.cell (p := ⟨w.heap.size + 1 + 1 + 1, j, none⟩) HlS.out).trans c1)⟩ ?_
          clear hK K
          refine wpAnyH_done (by kernel_rfl) ?_ _
          refine NoPanic.normal ?_
          simp only [Act.put, List.getElem_toArray, List.getElem_cons_succ, List.getElem_cons_zero, List.setIfInBounds_toArray, List.set_cons_zero, List.set_cons_succ]
          have hs3 : wr.heap.size ≤ w3.heap.size := hb3.size
          have HO4 : Hid (Row w4 BO 86 C2) := by rw [HT.out]; exact hr4
          have HX4 : Hid (Row w4 BX 120 (u32s dn)) := hbut4.row (by have := HlX.out; omega) (by omega) (HrX.out.drew.later hb3)
          have HS4 : Hid (Row w4 (w.heap.size + 1 + 1 + 1) 120 SV) := hbut4.row (by have := HlS.out; omega) (by omega) (HrS.out.drew.later hb3)
          have HR4 : Hid (Row w4 (w.heap.size + 1 + 1) 86 O) := hbut4.row (by have := HlS.out; omega) (by omega) (HrR.out.drew.later hb3)
          have HB4 : Hid (Below w.heap.size w w4) := (HBw.out.drew.trans (hb3.mono (show w.heap.size ≤ wr.heap.size from HBw.out.size))).trans (hbut4.below (by have := HBw.out.size; omega) (by omega))
          clear hr4 hbut4 hb3 hrow3 c0 c1
          go_wp2
          go_roundw
          case rel => exact ⟨j + 1, by omega, by go_num, by rw [HC2.out]; exact HO4.out, HX4.out, HS4.out, HR4.out, HB4.out⟩
          case measure => simp [intOf]; omega
        · obtain rfl : j = 16 := by omega
          have HLl : Hid ((lowBytes (addN dn st)).length = 64) := by show _ = _; rw [lowBytes_length, addN_length]
          rw [List.take_of_length_le (by rw [HLl.out]; omega), fill_full _ _ _ (by rw [u8s_length, HLl.out])] at hrO
          have HrO : Hid (Row wr BO 86 (u8s (lowBytes (addN dn st)))) := hrO
          have HrR : Hid (Row wr (w.heap.size + 1 + 1) 86 O) := hrR
          have HVl : Hid ((u8s (lowBytes (addN dn st))).length = 64) := by show _ = _; rw [u8s_length, HLl.out]
          have HV1 : Hid (∀ v ∈ u8s (lowBytes (addN dn st)), v.oneCell' = true) := u8s_one _
          clear hrO hrX hrS hrR
          generalize hV : u8s (lowBytes (addN dn st)) = V at *
          have HV : Hid (u8s (lowBytes (addN dn st)) = V) := hV
          clear hV
          go_wp2_with (first
            | ((with_reducible show wpList _ _ _ (Oper.mk _ (Op.load 86 (.tmp 15)) _ _ _ _ :: _) _ _); refine wpList_load_Row rfl 86 (.tmp 15) rfl rfl HrO.out Tryz.underlying86 (by rw [HVl.out]; exact size86) ?_; simp only [Act.put, List.setIfInBounds_toArray, List.set_cons_zero, List.set_cons_succ])
            | ((with_reducible show wpList _ _ _ (Oper.mk _ (Op.store 86 (.tmp 6) (.tmp 128)) _ _ _ _ :: _) _ _); refine wpList_store_Row rfl 86 (.tmp 6) (.tmp 128) rfl V rfl rfl HrR.out (by rw [HVl.out]; exact size86) (by rw [HVl.out, HOl.out]) HV1.out ?_; simp only [Act.put]))
          refine bodyPost_ret (results_Row rfl rfl (Row.sets_all (vs := V) HrR.out (by rw [HVl.out, HOl.out])) Tryz.underlying86 (by rw [HVl.out]; exact size86)) rfl ?_
          exact ⟨by rw [HDN.out, HV.out], below_setCells (by omega) _ _ hBw⟩

/-- the reference's Block -/
theorem refBlock_any (key : List Nat) (c : Nat) (nonce : List Nat) (hk : key.length = 32) (hkx : ∀ z ∈ key, z < 256) (hc : c < 4294967296) (hn : nonce.length = 12) (hnx : ∀ z ∈ nonce, z < 256) (w : World) :
    Calls Tryz.prog 41 #[.agg (u8s key).toArray, .int .u32 c, .agg (u8s nonce).toArray] w fun e w' => e = .returned (.agg (u8s (blockN key c nonce)).toArray) ∧ Below w.heap.size w w' :=
  refBlock_core key c nonce (stateN key c nonce) (doublesN (stateN key c nonce)) rfl rfl (fun _ => rfl) (fun k => by rw [doublesN_length, stateN_length]) (fun k => doublesN_lt (stateN_lt hkx hc hnx) k) (stateN_length _ _ _) (stateN_lt hkx hc hnx) hk hkx hn hnx w
end Go.Proofs.YtclelancbfoenaaGreatDoor.Re
