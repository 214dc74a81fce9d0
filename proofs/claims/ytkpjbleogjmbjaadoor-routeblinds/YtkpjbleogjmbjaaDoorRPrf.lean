/-
  The reference's Prf.
-/
import Derived.Test.YtkpjbleogjmbjaaDoorPrf3
namespace Go.Proofs.YtkpjbleogjmbjaaDoor
open Classical
open Go.RowKit Go.Shelf
attribute [local go_sem] Oper.semAt_some

set_option maxRecDepth 100000 in
set_option maxHeartbeats 2000000 in
/-- Of a real suite. -/
theorem refPrf_real (R : Nat) (x1 x2 x3 x4 x5 : Value) (k : List Nat) (hk : IsKey32 k) (p : Option Addr) (len cap : Nat) (L : List Nat) (hl : len ≤ 1000) (w : World) (hR : Row w R 33 [.int .i64 0, x1, x2, x3, x4, x5]) (hI : IsBytes w.heap.size w p len cap L) :
    Calls Tryd.prog 14 #[.pointer (some ⟨R, 0, none⟩), .agg (u8s k).toArray, .int .u8 110, .slice p len cap] w fun e w' => e = .returned (.tuple #[.agg (u8s (Sh.macN k (110 :: L))).toArray, .int .i64 0]) ∧ Below w.heap.size w w' := by
  have hb0 := twoW_below w (u8s k) 24
  have hs0 := twoW_size w (u8s k) 24
  have c0 : ∀ o o', ((w.alloc o).alloc o').cell? ⟨R, 0, none⟩ = some (.int .i64 0) := fun o o' => ((hR.alloc o).alloc o').cell (i := 0) rfl
  have HI0 : Hid (IsBytes (twoW w (u8s k) 24).heap.size (twoW w (u8s k) 24) p len cap L) := hI.later hb0
  have HK : Hid (Row (twoW w (u8s k) 24) w.heap.size 24 (u8s k)) := twoW_key w (u8s k) 24
  have HRs : Hid (Row (twoW w (u8s k) 24) (w.heap.size + 1) 24 noKey) := twoW_res w (u8s k) 24
  have HW0 : Hid ((w.alloc (.cells (u8s k).toArray 24)).alloc (.cells (List.replicate 32 (Value.int .u8 0)).toArray 24) = twoW w (u8s k) 24) := rfl
  have HMac : Hid (∀ (q : Option Addr) (n c : Nat) (W : World), n ≤ 2000 → Below (w.heap.size + 1 + 1) (twoW w (u8s k) 24) W → IsBytes W.heap.size W q n c (110 :: L) → Calls Tryd.prog 21 #[.slice (some ⟨w.heap.size, 0, none⟩) 32 32, .slice q n c] W fun e w' => e = .returned (.agg (u8s (Sh.macN k (110 :: L))).toArray) ∧ Below W.heap.size W w') := fun q n c W hn hW hB => by
    have rK : Row W w.heap.size 24 (u8s k) := (twoW_key w (u8s k) 24).below hW (by omega)
    refine Sh.refMac_any (some ⟨w.heap.size, 0, none⟩) 32 32 k (by omega) q n c (110 :: L) (by omega) W ⟨hk.1, Nat.le_refl _, by omega, hk.2, .inr ⟨_, 0, rfl, rK.lt, fun i hi => ?_⟩⟩ hB
    rw [Nat.zero_add]
    exact rK.cell (u8s_at (by rw [hk.1]; exact hi))
  have HVl : Hid ((u8s (Sh.macN k (110 :: L))).length = 32) := by show _ = _; rw [u8s_length]; exact Sh.macN_length _ _
  have HV1 : Hid (∀ v ∈ u8s (Sh.macN k (110 :: L)), v.oneCell' = true) := u8s_one _
  have HL : Hid (L.length = len ∧ ∀ z ∈ L, z < 256) := ⟨hI.1, hI.2.2.2.1⟩
  clear hR hI hk
  generalize u8s (Sh.macN k (110 :: L)) = V at *
  generalize twoW w (u8s k) 24 = w0 at *
  generalize u8s k = Kz at *
  have HB0 : Hid (Below w.heap.size w w0) := hb0
  have HZ0 : Hid (w0.heap.size = w.heap.size + 1 + 1) := hs0
  have hlt : w.heap.size + 1 < w0.heap.size := by omega
  clear hs0 hb0
  go_enter Tryd.func14, Tryd.ntmps14
  go_wp2_with fail
  rw [z32u8, HW0.out]
  clear c0
  refine wp_region_noPanic ?_
  refine wp_region_held_drew (S := fun _ => True) (by kernel_rfl) trivial (fun hHeld => ?_)
  refine wpAnyH_takesAt 0 2 6 (of_decide_eq_true (by kernel_rfl)) rfl (fun _ _ _ d _ h => by cases d <;> exact h) (by kernel_rfl) (by kernel_rfl) hHeld ?_
  simp only [List.drop_zero, List.take_succ_cons, List.take_zero]
  iterate 2 (refine wpHeld_step (v := ?_) (by rfl) (fun wz hSw => ?_) ?_; rotate_left; (focus ((clear hSw); go_simp; try with_reducible rfl)); (simp only [Act.put, List.setIfInBounds_toArray, List.set_cons_zero, List.set_cons_succ]))
  refine wpHeld_nil ?_
  refine wpAnyH_takesAt 3 1 5 (of_decide_eq_true (by kernel_rfl)) rfl (fun _ _ _ d _ h => by cases d <;> exact h) (by kernel_rfl) (by kernel_rfl) hHeld ?_
  simp only [List.drop_succ_cons, List.drop_zero, List.take_succ_cons, List.take_zero]
  iterate 1 (refine wpHeld_step (v := ?_) (by rfl) (fun wz hSw => ?_) ?_; rotate_left; (focus ((clear hSw); go_simp; try with_reducible rfl)); ((simp only [Act.put]; (try simp only [List.setIfInBounds_toArray]); (try simp only [List.set_cons_succ]); (try simp only [List.set_cons_zero]))))
  refine wpHeld_nil ?_
  refine wpAnyH_only (i := 2) (by kernel_rfl) rfl (fun K hK => ?_)
  rw [if_pos (by rfl)]
  go_simp
  refine hK.out _ _ trivial ?_
  clear hK K
  obtain ⟨w1, hw1⟩ : ∃ w1, w0.drew.alloc (.cells #[.int .u8 110] 5) = w1 := ⟨_, rfl⟩
  have hb1 : Below w0.heap.size w0 w1 := by rw [← hw1]; exact (Below.refl _ w0).drew.alloc (Nat.le_refl _) _
  have ho1 : Own w0.heap.size w1 (.slice (some ⟨w0.heap.size, 0, none⟩) 1 1) [110] := by
    rw [← hw1]
    exact ⟨rfl, .inr ⟨w0.heap.size, 1, _, rfl, Nat.le_refl _, heap_alloc_last w0.drew (.cells #[.int .u8 110] 5), Nat.le_refl _, by simp only [maxLen]; omega, rfl, rfl⟩⟩
  change wpAnyH _ _ _ _ _ _ _ _ (w0.drew.alloc (.cells #[.int .u8 110] 5))
  rw [hw1]
  refine wpAnyH_only (i := 4) (by kernel_rfl) rfl (fun K hK => ?_)
  rw [if_pos (by rfl)]
  refine wp_append_bytes (.tmp 19) (.tmp 20) rfl w0.heap.size _ [110] rfl ho1 rfl (HI0.out.later hb1) (by have := HL.out.1; simp; omega) hb1.size (fun v2 w2 ho2 hg2 => ?_)
  have hb2 : Below w0.heap.size w0 w2 := below_own hb1 hb1.size ho1 hg2
  obtain ⟨q2, c2, hv2⟩ := ho2.slice
  obtain ⟨n2, hn2⟩ : ∃ n2, ([110] ++ L).length = n2 := ⟨_, rfl⟩
  rw [hn2] at hv2
  subst hv2
  have hB2 : IsBytes w2.heap.size w2 q2 n2 c2 (110 :: L) := Own.bytes ho2 (fun z hz => by
    rcases List.mem_cons.1 hz with h | h
    · omega
    · exact HL.out.2 z h)
  have hn2l : n2 ≤ 2000 := by have := HL.out.1; simp at hn2; omega
  refine hK.out _ _ trivial ?_
  clear hK K
  change wpAnyH _ _ _ _ _ _ _ (Act.put _ (some 21) _) _
  (simp only [Act.put]; (try simp only [List.setIfInBounds_toArray]); (try simp only [List.set_cons_succ]); (try simp only [List.set_cons_zero]))
  refine wpAnyH_only (i := 5) (by kernel_rfl) rfl (fun K hK => ?_)
  rw [if_pos (by rfl)]
  go_simp
  refine (HMac.out q2 n2 c2 w2 hn2l (by rw [← HZ0.out]; exact hb2) hB2).mono ?_
  rintro e w3 ⟨rfl, hb3⟩
  have hb03 : Below w0.heap.size w0 w3 := hb2.trans (hb3.mono hb2.size)
  have HR3 : Hid (Row w3 (w.heap.size + 1) 24 noKey) := HRs.out.later hb03
  refine hK.out _ _ trivial ?_
  clear hK K
  refine wpAnyH_only (i := 6) (by kernel_rfl) rfl (fun K hK => ?_)
  rw [if_pos (by rfl)]
  refine wp_store_mid 24 (.tmp 8) (.tmp 22) rfl (w.heap.size + 1) 0 V.toArray rfl rfl (by have h := Row.there HR3.out; show World.there _ _ 0 V.length; rw [HVl.out]; exact h) (by show _ = some V.length; rw [HVl.out]; exact size24) (by rw [List.all_toArray]; exact List.all_eq_true.2 HV1.out) ?_
  have HR4 : Hid (Row (w3.setCells (w.heap.size + 1) 0 V) (w.heap.size + 1) 24 V) := Row.sets_all HR3.out (by rw [HVl.out]; rfl)
  have hend : Below w.heap.size w (w3.setCells (w.heap.size + 1) 0 V) := below_setCells (by omega) V 0 (HB0.out.trans (hb03.mono (by have := HZ0.out; omega)))
  refine hK.out _ _ trivial ?_
  clear hK K
  refine wpAnyH_only (i := 7) (by kernel_rfl) rfl (fun K hK => ?_)
  rw [if_pos (by rfl)]
  go_simp
  refine hK.out _ _ trivial ?_
  clear hK K
  refine wpAnyH_done (by kernel_rfl) ?_ _
  refine NoPanic.normal ?_
  go_wp2
  refine bodyPost_ret (results_Row_tmp rfl rfl HR4.out Tryd.underlying24 (by rw [HVl.out]; exact size24)) rfl ?_
  exact ⟨rfl, hend⟩

/-- What lies when the reference's ideal is asked. -/
def threeW (w : World) (K : List Value) : World := (twoW w K 24).alloc (.cells #[.int .u8 110] 5)
theorem threeW_below2 (w : World) (K : List Value) : Below (twoW w K 24).heap.size (twoW w K 24) (threeW w K) := (Below.refl _ _).alloc (Nat.le_refl _) _
theorem threeW_below (w : World) (K : List Value) : Below w.heap.size w (threeW w K) := (twoW_below w K 24).trans ((threeW_below2 w K).mono (by rw [twoW_size]; omega))
theorem threeW_size (w : World) (K : List Value) : (threeW w K).heap.size = w.heap.size + 1 + 1 + 1 := by simp [threeW, twoW_size]
theorem threeW_label (w : World) (K : List Value) : IsBytes (threeW w K).heap.size (threeW w K) (some ⟨w.heap.size + 1 + 1, 0, none⟩) 1 1 [110] := by
  have h := Row.new (twoW w K 24) 5 #[.int .u8 110]
  rw [twoW_size] at h
  refine ⟨rfl, Nat.le_refl _, by omega, by simp, .inr ⟨_, 0, rfl, h.lt, fun i hi => ?_⟩⟩
  obtain rfl : i = 0 := by omega
  exact h.cell (i := 0) rfl

/-- A slice of 32 bytes that owns its row, as an array. -/
theorem own32 {n₀ : Nat} {W : World} {v : Value} {d : List Nat} (h : Own n₀ W v d) (hd : IsKey32 d) : ∃ g c, v = .slice (some ⟨g, 0, none⟩) 32 c ∧ 32 ≤ c ∧ g < W.heap.size ∧ W.rangeAt g 0 (u8s d) := by
  obtain ⟨q, c, e⟩ := h.slice
  rw [hd.1] at e
  subst e
  obtain ⟨g, rfl, _, hg, hr⟩ := h.cells (by omega)
  refine ⟨g, c, rfl, ?_, hg, hr⟩
  rcases h.2 with ⟨e, _⟩ | ⟨_, _, _, e, _, _, hnc, _⟩
  · cases e
  · rw [hd.1] at e hnc
    cases e; exact hnc

set_option maxRecDepth 100000 in
set_option maxHeartbeats 2000000 in
/-- Of an ideal suite, by what ideal answers: an answer. -/
theorem refPrf_of (R : Nat) (x1 x2 x3 x4 x5 : Value) (k : List Nat) (hk : IsKey32 k) (p : Option Addr) (len cap : Nat) (d : List Nat) (hd : IsKey32 d) (G : World → Prop) (w : World) (hR : Row w R 33 [.int .i64 1, x1, x2, x3, x4, x5])
    (hGt : ∀ W V, G W → Row W (w.heap.size + 1) 24 noKey → G (W.setCells (w.heap.size + 1) 0 V))
    (HI : Hid (Calls Tryd.prog 22 #[.pointer (some ⟨R, 0, none⟩), .int .i64 1, .agg (u8s k).toArray, .slice (some ⟨w.heap.size + 1 + 1, 0, none⟩) 1 1, .slice p len cap, .int .i64 32] (threeW w (u8s k)) fun e w' => ∃ v, e = .returned (.tuple #[v, .int .i64 0]) ∧ Own R w' v d ∧ Row w' (w.heap.size + 1) 24 noKey ∧ G w')) :
    Calls Tryd.prog 14 #[.pointer (some ⟨R, 0, none⟩), .agg (u8s k).toArray, .int .u8 110, .slice p len cap] w fun e w' => e = .returned (.tuple #[.agg (u8s d).toArray, .int .i64 0]) ∧ G w' := by
  have hK32 : (u8s k).length = 32 := by rw [u8s_length]; exact hk.1
  have c0 : ∀ o o', ((w.alloc o).alloc o').cell? ⟨R, 0, none⟩ = some (.int .i64 1) := fun o o' => ((hR.alloc o).alloc o').cell (i := 0) rfl
  have HKr : Hid (Row ((w.alloc (.cells (u8s k).toArray 24)).alloc (.cells (List.replicate 32 (Value.int .u8 0)).toArray 24)) w.heap.size 24 (u8s k)) := twoW_key w (u8s k) 24
  have HW : Hid (((w.alloc (.cells (u8s k).toArray 24)).alloc (.cells (List.replicate 32 (Value.int .u8 0)).toArray 24)).alloc (.cells #[.int .u8 110] 5) = threeW w (u8s k)) := rfl
  have HSK : Hid ((Tryd.prog.info? 24).map (·.size) = some (u8s k).length) := by show _ = _; rw [hK32]; exact size24
  have HD32 : Hid (IsKey32 d) := hd
  have HVl : Hid ((u8s d).length = 32) := by show _ = _; rw [u8s_length]; exact hd.1
  have HV1 : Hid (∀ v ∈ u8s d, v.oneCell' = true) := u8s_one _
  obtain ⟨V, hVd⟩ : ∃ V, u8s d = V := ⟨_, rfl⟩
  rw [hVd] at HVl HV1
  rw [hVd]
  have HVd : Hid (u8s d = V) := hVd
  clear hR hK32 hk hd hVd
  generalize threeW w (u8s k) = w0 at *
  generalize u8s k = Kz at *
  go_enter Tryd.func14, Tryd.ntmps14
  go_wp2_with (first
    | ((with_reducible show wpList _ _ _ (Oper.mk _ (Op.load 24 (.tmp 5)) _ _ _ _ :: _) _ _); rw [z32u8]; refine wpList_load_Row rfl 24 (.tmp 5) rfl rfl HKr.out Tryd.underlying24 HSK.out ?_; simp only [Act.put, List.setIfInBounds_toArray, List.set_cons_zero, List.set_cons_succ])
    | (go_at_call 22; rw [z32u8, HW.out]; refine HI.out.mono ?_; rintro e w1 ⟨v, rfl, ho1, hr1, hg1⟩; obtain ⟨gg, cc, rfl, hc32, hgl, hrg⟩ := own32 ho1 HD32.out; have HR1 : Hid (Row w1 (w.heap.size + 1) 24 noKey) := hr1; rw [HVd.out] at hrg; have HRg : Hid (w1.rangeAt gg 0 V) := hrg; have HG1 : Hid (G w1) := hg1; have hA := run_arrayAt24 gg 0 32 cc (Nat.le_refl _); clear ho1 hr1 hrg hg1)
    | ((with_reducible show wpList _ _ _ (Oper.mk (some 38) (Op.load 24 (.tmp 37)) _ _ _ _ :: _) _ _); refine wpList_load_mid rfl 24 (.tmp 37) rfl gg 0 rfl V _ HRg.out Tryd.underlying24 rfl (by rw [HVl.out]; exact size24) ?_; simp only [Act.put, List.setIfInBounds_toArray, List.set_cons_zero, List.set_cons_succ])
    | ((with_reducible show wpList _ _ _ (Oper.mk _ (Op.store 24 (.tmp 8) (.tmp 38)) _ _ _ _ :: _) _ _); refine wpList_store_Row rfl 24 (.tmp 8) (.tmp 38) rfl V rfl rfl HR1.out (by rw [HVl.out]; exact size24) (by rw [HVl.out]; rfl) HV1.out ?_; simp only [Act.put]))
  refine bodyPost_ret (results_Row_tmp rfl rfl (Row.sets_all HR1.out (by rw [HVl.out]; rfl)) Tryd.underlying24 (by rw [HVl.out]; exact size24)) rfl ?_
  exact ⟨rfl, hGt _ _ HG1.out HR1.out⟩

set_option maxRecDepth 100000 in
set_option maxHeartbeats 2000000 in
/-- Of an ideal suite, by what ideal answers: refused. -/
theorem refPrf_not (R : Nat) (x1 x2 x3 x4 x5 : Value) (k : List Nat) (hk : IsKey32 k) (p : Option Addr) (len cap : Nat) (w : World) (hR : Row w R 33 [.int .i64 1, x1, x2, x3, x4, x5])
    (HI : Hid (Calls Tryd.prog 22 #[.pointer (some ⟨R, 0, none⟩), .int .i64 1, .agg (u8s k).toArray, .slice (some ⟨w.heap.size + 1 + 1, 0, none⟩) 1 1, .slice p len cap, .int .i64 32] (threeW w (u8s k)) fun e w' => e = .returned (.tuple #[.slice none 0 0, .int .i64 60]) ∧ Below (threeW w (u8s k)).heap.size (threeW w (u8s k)) w')) :
    Calls Tryd.prog 14 #[.pointer (some ⟨R, 0, none⟩), .agg (u8s k).toArray, .int .u8 110, .slice p len cap] w fun e w' => e = .returned (.tuple #[.agg noKey.toArray, .int .i64 60]) ∧ Below w.heap.size w w' := by
  have hK32 : (u8s k).length = 32 := by rw [u8s_length]; exact hk.1
  have c0 : ∀ o o', ((w.alloc o).alloc o').cell? ⟨R, 0, none⟩ = some (.int .i64 1) := fun o o' => ((hR.alloc o).alloc o').cell (i := 0) rfl
  have HKr : Hid (Row ((w.alloc (.cells (u8s k).toArray 24)).alloc (.cells (List.replicate 32 (Value.int .u8 0)).toArray 24)) w.heap.size 24 (u8s k)) := twoW_key w (u8s k) 24
  have HRs : Hid (Row (threeW w (u8s k)) (w.heap.size + 1) 24 noKey) := (twoW_res w (u8s k) 24).alloc _
  have HW : Hid (((w.alloc (.cells (u8s k).toArray 24)).alloc (.cells (List.replicate 32 (Value.int .u8 0)).toArray 24)).alloc (.cells #[.int .u8 110] 5) = threeW w (u8s k)) := rfl
  have HSK : Hid ((Tryd.prog.info? 24).map (·.size) = some (u8s k).length) := by show _ = _; rw [hK32]; exact size24
  have HB : Hid (Below w.heap.size w (threeW w (u8s k)) ∧ w.heap.size ≤ (threeW w (u8s k)).heap.size) := ⟨threeW_below w _, by rw [threeW_size]; omega⟩
  clear hR hK32 hk
  generalize threeW w (u8s k) = w0 at *
  generalize u8s k = Kz at *
  go_enter Tryd.func14, Tryd.ntmps14
  go_wp2_with (first
    | ((with_reducible show wpList _ _ _ (Oper.mk _ (Op.load 24 (.tmp 5)) _ _ _ _ :: _) _ _); rw [z32u8]; refine wpList_load_Row rfl 24 (.tmp 5) rfl rfl HKr.out Tryd.underlying24 HSK.out ?_; simp only [Act.put, List.setIfInBounds_toArray, List.set_cons_zero, List.set_cons_succ])
    | (go_at_call 22; rw [z32u8, HW.out]; refine HI.out.mono ?_; rintro e w1 ⟨rfl, hb1⟩)
    | ((with_reducible show wpList _ _ _ (Oper.mk _ (Op.store 24 (.tmp 8) (.tmp 34)) _ _ _ _ :: _) _ _); refine wpList_store_Row rfl 24 (.tmp 8) (.tmp 34) rfl noKey rfl rfl (HRs.out.later hb1) size24 rfl (by decide) ?_; simp only [Act.put]))
  refine bodyPost_ret (results_Row_tmp rfl rfl (Row.sets_all (HRs.out.later hb1) rfl) Tryd.underlying24 size24) rfl ?_
  exact ⟨rfl, below_setCells (by omega) _ _ (HB.out.1.trans (hb1.mono HB.out.2))⟩
end Go.Proofs.YtkpjbleogjmbjaaDoor
