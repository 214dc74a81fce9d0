/-
  tagOf: the tag of the words beside a text, the nonce and the turned text.
-/
import Derived.Test.YtclelancbfoenaaGreatDoorReal1
import Derived.Test.YtclelancbfoenaaGreatDoorBaseAll
namespace Go.Proofs.YtclelancbfoenaaGreatDoor
open Go.RowKit Go.Shelf

theorem size54 : (Tryz.prog.info? 54).map (·.size) = some 12 := by kernel_rfl
/-- The tag. -/
def tagN (k a n c : List Nat) : List Nat := Sh.macN (useN k 109) (lenB a.length ++ a ++ n ++ c)
theorem tagN_length (k a n c : List Nat) : (tagN k a n c).length = 32 := Sh.macN_length _ _
theorem tagN_lt (k a n c : List Nat) : ∀ z ∈ tagN k a n c, z < 256 := Sh.macN_lt _ _

set_option maxRecDepth 100000 in
set_option maxHeartbeats 1000000 in
theorem tagOf_any (k : List Nat) (hk : IsKey32 k) (pa : Option Addr) (la ca : Nat) (za : List Nat) (hla : la ≤ 10000) (nn : List Nat) (hnl : nn.length = 12) (hnz : ∀ z ∈ nn, z < 256) (pc : Option Addr) (lc cc : Nat) (zc : List Nat) (hlc : lc ≤ 30000) (w : World) (hT : Sh.Tab w)
    (hIa : IsBytes w.heap.size w pa la ca za) (hIc : IsBytes w.heap.size w pc lc cc zc) :
    Calls Tryz.prog 35 #[.agg (u8s k).toArray, .slice pa la ca, .agg (u8s nn).toArray, .slice pc lc cc] w fun e w' => e = .returned (.agg (u8s (tagN k za nn zc)).toArray) ∧ Below w.heap.size w w' := by
  obtain ⟨V, hV⟩ : ∃ V, u8s (tagN k za nn zc) = V := ⟨_, rfl⟩
  have HV : Hid (V.length = 32) := by show _ = _; rw [← hV, u8s_length, tagN_length]
  have HV1 : Hid (∀ v ∈ V, v.oneCell' = true) := by rw [← hV]; exact u8s_one _
  have HVe : Hid (u8s (tagN k za nn zc) = V) := hV
  rw [hV]
  clear hV
  obtain ⟨w0, hw0⟩ : ∃ w0, (((w.alloc (.cells (u8s k).toArray 23)).alloc (.cells (u8s nn).toArray 54)).alloc (.cells noKey.toArray 39)) = w0 := ⟨_, rfl⟩
  have HW0 : Hid ((((w.alloc (.cells (u8s k).toArray 23)).alloc (.cells (u8s nn).toArray 54)).alloc (.cells noKey.toArray 39)) = w0) := hw0
  have hb0 : Below w.heap.size w w0 := by rw [← hw0]; exact (((Below.refl _ w).alloc (Nat.le_refl _) _).alloc (by simp) _).alloc (by simp; omega) _
  have hk0 : Row w0 w.heap.size 23 (u8s k) := by rw [← hw0]; exact ((Row.new' w 23 (u8s k)).alloc _).alloc _
  have hn0 : Row w0 (w.heap.size + 1) 54 (u8s nn) := by rw [← hw0]; exact (Row.newAt (w.alloc (.cells (u8s k).toArray 23)) 54 (u8s nn).toArray (by simp)).alloc _
  have hz0 : Row w0 (w.heap.size + 1 + 1) 39 noKey := by rw [← hw0]; exact Row.newAt _ 39 noKey.toArray (by simp)
  have HU : Hid (Calls Tryz.prog 34 #[.agg (u8s k).toArray, .int .u8 109] w0 fun e w' => e = .returned (.agg (u8s (useN k 109)).toArray) ∧ Below w0.heap.size w0 w') := useKey_any k hk 109 (by omega) w0 (hT.later hb0)
  have HK0 : Hid (Row w0 w.heap.size 23 (u8s k)) := hk0
  have HN0 : Hid (Row w0 (w.heap.size + 1) 54 (u8s nn)) := hn0
  have HZ0 : Hid (Row w0 (w.heap.size + 1 + 1) 39 noKey) := hz0
  have HKl : Hid ((u8s k).length = 32) := by show _ = _; rw [u8s_length, hk.1]
  have HUl : Hid ((u8s (useN k 109)).length = 32) := by show _ = _; rw [u8s_length, (useN_key k 109).1]
  have HU1 : Hid (∀ v ∈ u8s (useN k 109), v.oneCell' = true) := u8s_one _
  have HIa : Hid (IsBytes w.heap.size w pa la ca za) := hIa
  have HIc : Hid (IsBytes w.heap.size w pc lc cc zc) := hIc
  have hac := hIa.2.1
  have hac2 := hIa.2.2.1
  clear hw0 hk0 hn0 hz0 hIa hIc
  go_enter Tryz.func35, Tryz.ntmps35
  go_wp2_with (first
    | ((with_reducible show wpList _ _ _ (Oper.mk _ (Op.load 23 (.tmp 4)) _ _ _ _ :: _) _ _); change wpList _ _ _ _ _ (((w.alloc (.cells (u8s k).toArray 23)).alloc (.cells (u8s nn).toArray 54)).alloc (.cells noKey.toArray 39)); rw [HW0.out]; refine wpList_load_Row rfl 23 (.tmp 4) rfl rfl HK0.out Tryz.underlying23 (by rw [HKl.out]; exact size23) ?_; simp only [Act.put, List.setIfInBounds_toArray, List.set_cons_zero, List.set_cons_succ])
    | (go_at_call 34; refine HU.out.mono ?_; rintro e w1 ⟨rfl, hb1⟩; have hB1 : Below w.heap.size w w1 := hb0.trans (hb1.mono hb0.size); have HN1 : Hid (Row w1 (w.heap.size + 1) 54 (u8s nn)) := Row.later HN0.out hb1; have HZ1 : Hid (Row w1 (w.heap.size + 1 + 1) 39 noKey) := Row.later HZ0.out hb1; clear hb1)
    | ((with_reducible show wpList _ _ _ (Oper.mk _ (Op.store 23 (.tmp 9) (.tmp 11)) _ _ _ _ :: _) _ _); change wpList _ _ _ _ _ (w1.alloc (.cells noKey.toArray 23)); refine wpList_store_Row rfl 23 (.tmp 9) (.tmp 11) rfl (u8s (useN k 109)) rfl rfl (Row.new' _ _ _) (by rw [HUl.out]; exact size23) (by rw [HUl.out]; rfl) HU1.out ?_; simp only [Act.put]))
  obtain ⟨w2, hw2⟩ : ∃ w2, (w1.alloc (.cells noKey.toArray 23)).setCells w1.heap.size 0 (u8s (useN k 109)) = w2 := ⟨_, rfl⟩
  have hb2 : Below w1.heap.size w1 w2 := by rw [← hw2]; exact below_setCells (Nat.le_refl _) _ _ ((Below.refl _ w1).alloc (Nat.le_refl _) _)
  have hu2 : Row w2 w1.heap.size 23 (u8s (useN k 109)) := by rw [← hw2]; exact Row.sets_all (Row.new' _ _ _) (by rw [HUl.out]; rfl)
  rw [hw2]
  have HU2 : Hid (Row w2 w1.heap.size 23 (u8s (useN k 109))) := hu2
  have HN2 : Hid (Row w2 (w.heap.size + 1) 54 (u8s nn)) := Row.later HN1.out hb2
  have HZ2 : Hid (Row w2 (w.heap.size + 1 + 1) 39 noKey) := Row.later HZ1.out hb2
  have hB2 : Below w.heap.size w w2 := hB1.trans (hb2.mono hB1.size)
  clear hw2 hu2 HN1 HZ1 HU HN0 HZ0
  refine wp_region_noPanic ?_
  refine wp_region_held_drew (S := fun _ => True) (by kernel_rfl) trivial (fun hHeld => ?_)
  refine wpAnyH_takesAt 0 2 7 (of_decide_eq_true (by kernel_rfl)) rfl (fun _ _ _ _ _ h => h) (by kernel_rfl) (by kernel_rfl) hHeld ?_
  simp only [List.drop_zero, List.take_succ_cons, List.take_zero]
  iterate 2 (refine wpHeld_step (v := ?_) (by rfl) (fun wz hSw => ?_) ?_; rotate_left; (focus ((try dsimp only at hSw); go_simp; try with_reducible rfl)); (simp only [Act.put, List.setIfInBounds_toArray, List.set_cons_zero, List.set_cons_succ]))
  refine wpHeld_nil ?_
  refine wpAnyH_takesAt 3 3 4 (of_decide_eq_true (by kernel_rfl)) rfl (fun _ _ _ _ _ h => h) (by kernel_rfl) (by kernel_rfl) hHeld ?_
  simp only [List.drop_succ_cons, List.drop_zero, List.take_succ_cons, List.take_zero]
  iterate 3 (refine wpHeld_step (v := ?_) (by rfl) (fun wz hSw => ?_) ?_; rotate_left; (focus ((try dsimp only at hSw); go_simp; try with_reducible rfl)); (simp only [Act.put, List.setIfInBounds_toArray, List.set_cons_zero, List.set_cons_succ]))
  refine wpHeld_nil ?_
  refine wpAnyH_only (i := 2) (by kernel_rfl) rfl (fun K hK => ?_)
  rw [if_pos (by rfl)]
  go_simp
  refine (lengthB_any pa la ca (by omega) hac hac2 _).mono ?_
  rintro e w3 ⟨v3, rfl, hO3, hb3⟩
  have hB2d : Below w.heap.size w w2.drew := below_drewN hB2 1
  have hB3 : Below w.heap.size w w3 := hB2d.trans (hb3.mono hB2d.size)
  obtain ⟨q3, c3, rfl⟩ := own_len hO3 (lenB_length la)
  refine hK.out _ _ trivial ?_
  clear hK K
  refine wpAnyH_only (i := 6) (by kernel_rfl) rfl (fun K hK => ?_)
  rw [if_pos (by rfl)]
  go_simp
  have hb23 : Below w2.heap.size w2 w3 := (below_drewN (Below.refl _ w2) 1).trans hb3
  have hL4 := lists_four (hO3.bytes (lenB_lt la)) ((HIa.out.below hB3).mono hB3.size) (bytes_of_box (Row.later HN2.out hb23) hnl (by omega) hnz) ((HIc.out.below hB3).mono hB3.size)
  refine hK.out _ _ trivial ?_
  clear hK K
  obtain ⟨w4, hw4⟩ : ∃ w4, w3.alloc (.cells #[.slice q3 8 c3, .slice pa la ca, .slice (some ⟨w.heap.size + 1, 0, none⟩) 12 12, .slice pc lc cc] 24) = w4 := ⟨_, rfl⟩
  have hb4 : Below w3.heap.size w3 w4 := by rw [← hw4]; exact (Below.refl _ w3).alloc (Nat.le_refl _) _
  have hs4 : w4.heap.size = w3.heap.size + 1 := by rw [← hw4]; simp
  rw [hw4, ← hs4] at hL4
  rw [hw4]
  have hb24 : Below w2.heap.size w2 w4 := hb23.trans (hb4.mono hb23.size)
  have hB4 : Below w.heap.size w w4 := hB3.trans (hb4.mono hB3.size)
  have HM : Hid (Calls Tryz.prog 57 #[.slice (some ⟨w1.heap.size, 0, none⟩) 32 32, .slice (some ⟨w3.heap.size, 0, none⟩) 4 4] w4 fun e w' => e = .returned (.agg V.toArray) ∧ Below w4.heap.size w4 w') := by
    have h := Sh.macSum_any _ 32 32 (useN k 109) (by omega) _ 4 4 (by omega) [lenB la, za, nn, zc] (by have := HIa.out.1; have := HIc.out.1; simp [lenB_length]; omega) w4 (hT.later hB4) (bytes_of_box (Row.later HU2.out hb24) (useN_key k 109).1 (by omega) (useN_key k 109).2) hL4
    have e : Sh.macN (useN k 109) [lenB la, za, nn, zc].flatten = tagN k za nn zc := by unfold tagN; rw [HIa.out.1]; simp [List.append_assoc]
    rw [e, HVe.out] at h
    exact h
  have HZ4 : Hid (Row w4 (w.heap.size + 1 + 1) 39 noKey) := Row.later HZ2.out hb24
  clear hw4 hL4 hs4 hO3
  refine wpAnyH_only (i := 7) (by kernel_rfl) rfl (fun K hK => ?_)
  rw [if_pos (by rfl)]
  go_simp
  refine HM.out.mono ?_
  rintro e w5 ⟨rfl, hb5⟩
  have HZ5 : Hid (Row w5 (w.heap.size + 1 + 1) 39 noKey) := Row.later HZ4.out hb5
  refine hK.out _ _ trivial ?_
  clear hK K
  refine wpAnyH_only (i := 8) (by kernel_rfl) rfl (fun K hK => ?_)
  rw [if_pos (by rfl)]
  refine wp_store_mid 39 (.tmp 8) (.tmp 19) rfl (w.heap.size + 1 + 1) 0 V.toArray rfl rfl (by have h := Row.there HZ5.out; show World.there _ _ 0 V.length; rw [HV.out]; exact h) (by show _ = some V.length; rw [HV.out]; kernel_rfl) (by rw [List.all_toArray]; exact List.all_eq_true.2 HV1.out) ?_
  refine hK.out _ _ trivial ?_
  clear hK K
  refine wpAnyH_done (by kernel_rfl) ?_ _
  refine NoPanic.normal ?_
  go_wp2
  refine bodyPost_ret (results_Row rfl rfl (Row.sets_all (vs := V) HZ5.out (by rw [HV.out]; rfl)) Tryz.underlying39 (by rw [HV.out]; kernel_rfl)) rfl ?_
  exact ⟨rfl, below_setCells (by omega) _ _ (hB4.trans (hb5.mono hB4.size))⟩

end Go.Proofs.YtclelancbfoenaaGreatDoor
