/-
  Prf of an ideal suite, by what drawn.prf answers; Prf of a real suite.
-/
import Derived.Test.YtkpjbleogjmbjaaDoorPrf2
namespace Go.Proofs.YtkpjbleogjmbjaaDoor
open Classical
open Go.RowKit Go.Shelf
attribute [local go_sem] Oper.semAt_some

set_option maxRecDepth 100000 in
set_option maxHeartbeats 2000000 in
theorem prf_ideal (N S D : Nat) (F : List Nat) (t g : Option Addr) (k : List Nat) (hk : IsKey32 k) (p : Option Addr) (len cap : Nat) (V : List Value) (hV : V.length = 32) (hV1 : ∀ v ∈ V, v.oneCell' = true) (x : Int) (G : World → Prop) (hG : Stays N G) (w : World) (hN : N ≤ w.heap.size) (hF : ∀ k ∈ F, k < N) (hS : SuiteAt w S 1 t (some ⟨D, 0, none⟩) g) (hSF : S ∉ F)
    (HD : Hid (∀ W, Below w.heap.size w W → Calls Tryd.prog 19 #[.pointer (some ⟨D, 0, none⟩), .agg (u8s k).toArray, .int .u8 110, .slice p len cap] W fun e w' => e = .returned (.tuple #[.agg V.toArray, .int .i64 x]) ∧ G w' ∧ Buts F W.heap.size W w')) :
    Calls Tryd.prog 13 #[.pointer (some ⟨S, 0, none⟩), .agg (u8s k).toArray, .int .u8 110, .slice p len cap] w fun e w' => e = .returned (.tuple #[.agg V.toArray, .int .i64 x]) ∧ G w' ∧ Buts F w.heap.size w w' := by
  have hK32 : (u8s k).length = 32 := by rw [u8s_length]; exact hk.1
  have hb0 := twoW_below w (u8s k) 24
  have hs0 := twoW_size w (u8s k) 24
  have hS0 := hS.later hb0
  have HS0 : Hid (SuiteAt (twoW w (u8s k) 24) S 1 t (some ⟨D, 0, none⟩) g) := hS0
  have c1 := Row.cell hS0 (i := 1) rfl
  have HT : Hid ((twoW w (u8s k) 24).cell? ⟨S, 3, none⟩ = some (.pointer (some ⟨D, 0, none⟩)) ∧ (twoW w (u8s k) 24).rangeAt w.heap.size 0 (u8s k)) := ⟨Row.cell hS0 (i := 3) rfl, (twoW_key w (u8s k) 24).range⟩
  have HAft : Hid (∀ w1 w2, Buts F (twoW w (u8s k) 24).drew.heap.size (twoW w (u8s k) 24).drew w1 → Below (w.heap.size + 1) w1 w2 → w2.cell? ⟨S, 3, none⟩ = some (.pointer (some ⟨D, 0, none⟩)) ∧ w2.rangeAt w.heap.size 0 (u8s k)) := fun w1 w2 hb1 hb2 => by
    have hSl := Row.lt hS
    have d1 : Row w1 S 48 _ := hb1.row (by have := Row.lt hS0; exact this) hSF hS0
    have k1 : Row w1 w.heap.size 24 (u8s k) := hb1.row (by have := (twoW_key w (u8s k) 24).lt; exact this) (fun h => by have := hF _ h; omega) (twoW_key w (u8s k) 24)
    have d2 := d1.below hb2 (by omega)
    have k2 := k1.below hb2 (by omega)
    exact ⟨d2.cell (i := 3) rfl, k2.range⟩
  have HRs : Hid (Row (twoW w (u8s k) 24) (w.heap.size + 1) 24 noKey) := twoW_res w (u8s k) 24
  have HW0 : Hid ((w.alloc (.cells (u8s k).toArray 24)).alloc (.cells (List.replicate 32 (Value.int .u8 0)).toArray 24) = twoW w (u8s k) 24) := rfl
  have HSK : Hid ((Tryd.prog.info? 24).map (·.size) = some (u8s k).length) := by show _ = _; rw [hK32]; exact size24
  have HV : Hid (V.length = 32) := hV
  have HV1 : Hid (∀ v ∈ V, v.oneCell' = true) := hV1
  have hFn : w.heap.size + 1 ∉ F := fun h => by have := hF _ h; omega
  clear hS hS0 hK32 hV hV1 hk
  generalize twoW w (u8s k) 24 = w0 at *
  generalize u8s k = Kz at *
  have HB0 : Hid (Below w.heap.size w w0) := hb0
  have hlt : w.heap.size + 1 < w0.heap.size := by omega
  clear hs0 hb0
  go_enter Tryd.func13, Tryd.ntmps13
  go_wp2_with (go_at_call 18; rw [z32u8, HW0.out]; refine (isMade_some S 1 t (some ⟨D, 0, none⟩) g w0 HS0.out).mono ?_; rintro e w' ⟨rfl, hw'⟩; obtain rfl : w0 = w' := hw'.symm; clear hw')
  refine wp_region_noPanic ?_
  refine wp_region_held_drew (S := fun W' => W'.cell? ⟨S, 3, none⟩ = some (.pointer (some ⟨D, 0, none⟩)) ∧ W'.rangeAt w.heap.size 0 Kz) (by kernel_rfl) ⟨HT.out.1, HT.out.2⟩ (fun hHeld => ?_)
  refine wpAnyH_takesAt 0 4 8 (of_decide_eq_true (by kernel_rfl)) rfl (fun _ _ _ d _ h => by cases d <;> exact h) (by kernel_rfl) (by kernel_rfl) hHeld ?_
  simp only [List.drop_zero, List.take_succ_cons, List.take_zero]
  iterate 4 (refine wpHeld_step (v := ?_) (by rfl) (fun wz hSw => ?_) ?_; rotate_left; (focus ((obtain ⟨s1, _⟩ := hSw); go_simp; try with_reducible rfl)); (simp only [Act.put, List.setIfInBounds_toArray, List.set_cons_zero, List.set_cons_succ]))
  refine wpHeld_nil ?_
  refine wpAnyH_takesAt 4 1 7 (of_decide_eq_true (by kernel_rfl)) rfl (fun _ _ _ d _ h => by cases d <;> exact h) (by kernel_rfl) (by kernel_rfl) hHeld ?_
  simp only [List.drop_succ_cons, List.drop_zero, List.take_succ_cons, List.take_zero]
  refine wpHeld_load (by rfl) 24 (.tmp 5) rfl w.heap.size 0 rfl Kz (fun W hW => hW.2) Tryd.underlying24 HSK.out ?_
  (simp only [Act.put]; (try simp only [List.setIfInBounds_toArray]); (try simp only [List.set_cons_succ]); (try simp only [List.set_cons_zero]))
  refine wpHeld_nil ?_
  refine wpAnyH_takesAt 5 2 5 (of_decide_eq_true (by kernel_rfl)) rfl (fun _ _ _ d _ h => by cases d <;> exact h) (by kernel_rfl) (by kernel_rfl) hHeld ?_
  simp only [List.drop_succ_cons, List.drop_zero, List.take_succ_cons, List.take_zero]
  iterate 2 (refine wpHeld_step (v := ?_) (by rfl) (fun wz hSw => ?_) ?_; rotate_left; (focus ((clear hSw); go_simp; try with_reducible rfl)); (simp only [Act.put, List.setIfInBounds_toArray, List.set_cons_zero, List.set_cons_succ]))
  refine wpHeld_nil ?_
  refine wpAnyH_only (i := 7) (by kernel_rfl) rfl (fun K hK => ?_)
  rw [if_pos (by rfl)]
  go_simp
  refine (HD.out w0.drew HB0.out.drew).mono ?_
  rintro e w1 ⟨rfl, hg1, hb1⟩
  have HR1 : Hid (Row w1 (w.heap.size + 1) 24 noKey) := hb1.row (by exact hlt) hFn HRs.out
  have HB1 : Hid (Buts F w.heap.size w w1) := (Buts.of_below HB0.out.drew (Nat.le_refl _)).trans (hb1.mono (fun _ h => h) HB0.out.size)
  have HG1 : Hid (G w1) := hg1
  have hHeld1 := HAft.out w1 w1 hb1 (Below.refl _ _)
  have HA2 : Hid _ := HAft.out w1 (w1.setCells (w.heap.size + 1) 0 V) hb1 (below_setCells (Nat.le_refl _) V 0 (Below.refl _ _))
  refine hK.out _ _ hHeld1 ?_
  clear hK K hHeld
  have hHeld := hHeld1
  clear hHeld1
  refine wpAnyH_takesAt 8 2 2 (of_decide_eq_true (by kernel_rfl)) rfl (fun _ _ _ d _ h => by cases d <;> exact h) (by kernel_rfl) (by kernel_rfl) hHeld ?_
  simp only [List.drop_succ_cons, List.drop_zero, List.take_succ_cons, List.take_zero]
  iterate 2 (refine wpHeld_step (v := ?_) (by rfl) (fun wz hSw => ?_) ?_; rotate_left; (focus ((clear hSw); go_simp; try with_reducible rfl)); (simp only [Act.put, List.setIfInBounds_toArray, List.set_cons_zero, List.set_cons_succ]))
  refine wpHeld_nil ?_
  refine wpAnyH_only (i := 10) (by kernel_rfl) rfl (fun K hK => ?_)
  rw [if_pos (by rfl)]
  refine wp_store_mid 24 (.tmp 8) (.tmp 32) rfl (w.heap.size + 1) 0 V.toArray rfl rfl (by have h := Row.there HR1.out; show World.there _ _ 0 V.length; rw [HV.out]; exact h) (by show _ = some V.length; rw [HV.out]; exact size24) (by rw [List.all_toArray]; exact List.all_eq_true.2 HV1.out) ?_
  have HR2 : Hid (Row (w1.setCells (w.heap.size + 1) 0 V) (w.heap.size + 1) 24 V) := Row.sets_all HR1.out (by rw [HV.out]; rfl)
  have hend : Below w.heap.size w1 (w1.setCells (w.heap.size + 1) 0 V) := below_setCells (by omega) V 0 (Below.refl _ _)
  refine hK.out _ _ HA2.out ?_
  clear hK K hHeld
  refine wpAnyH_only (i := 11) (by kernel_rfl) rfl (fun K hK => ?_)
  rw [if_pos (by rfl)]
  go_simp
  refine hK.out _ _ HA2.out ?_
  clear hK K
  refine wpAnyH_done (by kernel_rfl) ?_ _
  refine NoPanic.normal ?_
  go_wp2
  refine bodyPost_ret (results_Row_tmp rfl rfl HR2.out Tryd.underlying24 (by rw [HV.out]; exact size24)) rfl ?_
  exact ⟨rfl, hG _ _ (hend.mono hN) HG1.out, HB1.out.trans (Buts.of_below hend (Nat.le_refl _))⟩

theorem info22 : (Tryd.prog.info? 22).map (fun i => (i.zero, i.size, i.bytes)) = some (some (.slice none 0 0), 1, 24) := by kernel_rfl

set_option maxRecDepth 100000 in
set_option maxHeartbeats 1000000 in
theorem realPrf_any (k : List Nat) (hk : IsKey32 k) (p : Option Addr) (len cap : Nat) (L : List Nat) (hl : len ≤ 1000) (w : World) (hT : Sh.Tab w) (hI : IsBytes w.heap.size w p len cap L) :
    Calls Tryd.prog 20 #[.agg (u8s k).toArray, .int .u8 110, .slice p len cap] w fun e w' => e = .returned (.agg (u8s (Sh.macN k (110 :: L))).toArray) ∧ Below w.heap.size w w' := by
  obtain ⟨w2, hw2⟩ : ∃ w2, ((twoW w (u8s k) 24).alloc (.cells #[.int .u8 110] 5)).alloc (.cells #[.slice (some ⟨w.heap.size + 1 + 1, 0, none⟩) 1 1, .slice p len cap] 22) = w2 := ⟨_, rfl⟩
  have hb0 := twoW_below w (u8s k) 24
  have hs0 := twoW_size w (u8s k) 24
  have hs2 : w2.heap.size = w.heap.size + 1 + 1 + 1 + 1 := by rw [← hw2]; simp [hs0]
  have hb02 : Below (w.heap.size + 1 + 1) (twoW w (u8s k) 24) w2 := by rw [← hw2]; exact ((Below.refl _ _).alloc (by omega) _).alloc (by simp; omega) _
  have hb2 : Below w.heap.size w w2 := hb0.trans (hb02.mono (by omega))
  have rK : Row w2 w.heap.size 24 (u8s k) := (twoW_key w (u8s k) 24).below hb02 (by omega)
  have rR : Row w2 (w.heap.size + 1) 24 noKey := (twoW_res w (u8s k) 24).below hb02 (by omega)
  have rL : Row w2 (w.heap.size + 1 + 1) 5 [.int .u8 110] := by
    have h := (Row.new (twoW w (u8s k) 24) 5 #[.int .u8 110]).alloc (.cells #[.slice (some ⟨w.heap.size + 1 + 1, 0, none⟩) 1 1, .slice p len cap] 22)
    rw [hs0, hw2] at h
    exact h
  have rP : Row w2 (w.heap.size + 1 + 1 + 1) 22 [.slice (some ⟨w.heap.size + 1 + 1, 0, none⟩) 1 1, .slice p len cap] := by
    have h := Row.new ((twoW w (u8s k) 24).alloc (.cells #[.int .u8 110] 5)) 22 #[.slice (some ⟨w.heap.size + 1 + 1, 0, none⟩) 1 1, .slice p len cap]
    rw [World.size_alloc, hs0, hw2] at h
    exact h
  have hIL : IsBytes w2.heap.size w2 (some ⟨w.heap.size + 1 + 1, 0, none⟩) 1 1 [110] := by
    refine ⟨rfl, Nat.le_refl _, by omega, by simp, .inr ⟨_, 0, rfl, rL.lt, fun i hi => ?_⟩⟩
    obtain rfl : i = 0 := by omega
    exact rL.cell (i := 0) rfl
  have hI2 : IsBytes w2.heap.size w2 p len cap L := hI.later hb2
  have hIK : IsBytes w2.heap.size w2 (some ⟨w.heap.size, 0, none⟩) 32 32 k := by
    refine ⟨hk.1, Nat.le_refl _, by omega, hk.2, .inr ⟨_, 0, rfl, rK.lt, fun i hi => ?_⟩⟩
    rw [Nat.zero_add]
    exact rK.cell (u8s_at (by rw [hk.1]; exact hi))
  have hLs : IsLists w2.heap.size w2 (some ⟨w.heap.size + 1 + 1 + 1, 0, none⟩) 2 2 [[110], L] := by
    refine ⟨rfl, Nat.le_refl _, .inr ⟨_, 0, rfl, rP.lt, fun i hi => ?_⟩⟩
    rcases (show i = 0 ∨ i = 1 by omega) with rfl | rfl
    · exact ⟨_, _, _, rP.cell (i := 0) rfl, hIL⟩
    · exact ⟨_, _, _, rP.cell (i := 1) rfl, hI2⟩
  have HM : Hid (Calls Tryd.prog 27 #[.slice (some ⟨w.heap.size, 0, none⟩) 32 32, .slice (some ⟨w.heap.size + 1 + 1 + 1, 0, none⟩) 2 2] w2 fun e w' => e = .returned (.agg (u8s (Sh.macN k (110 :: L))).toArray) ∧ Below w2.heap.size w2 w') := by
    have h := Sh.macSum_any (some ⟨w.heap.size, 0, none⟩) 32 32 k (by omega) (some ⟨w.heap.size + 1 + 1 + 1, 0, none⟩) 2 2 (by omega) [[110], L] (by have := hI.1; simp; omega) w2 (hT.later hb2) hIK hLs
    rw [show ([[110], L] : List (List Nat)).flatten = 110 :: L by simp] at h
    exact h
  have HW2 : Hid ((((w.alloc (.cells (u8s k).toArray 24)).alloc (.cells (List.replicate 32 (Value.int .u8 0)).toArray 24)).alloc (.cells #[.int .u8 110] 5)).alloc (.cells #[.slice (some ⟨w.heap.size + 1 + 1, 0, none⟩) 1 1, .slice p len cap] 22) = w2) := hw2
  have HR : Hid (Row w2 (w.heap.size + 1) 24 noKey) := rR
  have HVl : Hid ((u8s (Sh.macN k (110 :: L))).length = 32) := by show _ = _; rw [u8s_length]; exact Sh.macN_length _ _
  have HV1 : Hid (∀ v ∈ u8s (Sh.macN k (110 :: L)), v.oneCell' = true) := u8s_one _
  clear hw2 hb0 hs0 hb02 rK rR rL rP hIL hI2 hIK hLs hI hT hk
  generalize u8s (Sh.macN k (110 :: L)) = V at *
  generalize u8s k = Kz at *
  have hlt : w.heap.size + 1 < w2.heap.size := by omega
  clear hs2
  go_enter Tryd.func20, Tryd.ntmps20
  go_wp2_with (first
    | (go_at_call 27; rw [z32u8, HW2.out]; refine HM.out.mono ?_; rintro e w3 ⟨rfl, hb3⟩)
    | ((with_reducible show wpList _ _ _ (Oper.mk _ (Op.store 24 (.tmp 6) (.tmp 12)) _ _ _ _ :: _) _ _); refine wpList_store_Row rfl 24 (.tmp 6) (.tmp 12) rfl V rfl rfl (HR.out.later hb3) (by rw [HVl.out]; exact size24) (by rw [HVl.out]; rfl) HV1.out ?_; simp only [Act.put]))
  refine bodyPost_ret (results_Row rfl rfl (Row.sets_all (HR.out.later hb3) (by rw [HVl.out]; rfl)) Tryd.underlying24 (by rw [HVl.out]; exact size24)) rfl ?_
  exact ⟨rfl, below_setCells (by omega) _ _ (hb2.trans (hb3.mono (by omega)))⟩

set_option maxRecDepth 100000 in
set_option maxHeartbeats 1000000 in
theorem prf_real (S : Nat) (t d g : Option Addr) (k : List Nat) (hk : IsKey32 k) (p : Option Addr) (len cap : Nat) (L : List Nat) (hl : len ≤ 1000) (w : World) (hT : Sh.Tab w) (hS : SuiteAt w S 0 t d g) (hI : IsBytes w.heap.size w p len cap L) :
    Calls Tryd.prog 13 #[.pointer (some ⟨S, 0, none⟩), .agg (u8s k).toArray, .int .u8 110, .slice p len cap] w fun e w' => e = .returned (.tuple #[.agg (u8s (Sh.macN k (110 :: L))).toArray, .int .i64 0]) ∧ Below w.heap.size w w' := by
  have hK32 : (u8s k).length = 32 := by rw [u8s_length]; exact hk.1
  have hb0 := twoW_below w (u8s k) 24
  have hs0 := twoW_size w (u8s k) 24
  have hS0 := hS.later hb0
  have HS0 : Hid (SuiteAt (twoW w (u8s k) 24) S 0 t d g) := hS0
  have c1 := Row.cell hS0 (i := 1) rfl
  have HP : Hid (Calls Tryd.prog 20 #[.agg (u8s k).toArray, .int .u8 110, .slice p len cap] (twoW w (u8s k) 24) fun e w' => e = .returned (.agg (u8s (Sh.macN k (110 :: L))).toArray) ∧ Below (twoW w (u8s k) 24).heap.size (twoW w (u8s k) 24) w') := realPrf_any k hk p len cap L hl _ (hT.later hb0) (hI.later hb0)
  have HK : Hid (Row (twoW w (u8s k) 24) w.heap.size 24 (u8s k)) := twoW_key w (u8s k) 24
  have HRs : Hid (Row (twoW w (u8s k) 24) (w.heap.size + 1) 24 noKey) := twoW_res w (u8s k) 24
  have HW0 : Hid ((w.alloc (.cells (u8s k).toArray 24)).alloc (.cells (List.replicate 32 (Value.int .u8 0)).toArray 24) = twoW w (u8s k) 24) := rfl
  have HSK : Hid ((Tryd.prog.info? 24).map (·.size) = some (u8s k).length) := by show _ = _; rw [hK32]; exact size24
  have HVl : Hid ((u8s (Sh.macN k (110 :: L))).length = 32) := by show _ = _; rw [u8s_length]; exact Sh.macN_length _ _
  have HV1 : Hid (∀ v ∈ u8s (Sh.macN k (110 :: L)), v.oneCell' = true) := u8s_one _
  clear hS hS0 hK32 hk hI hT
  generalize u8s (Sh.macN k (110 :: L)) = V at *
  generalize twoW w (u8s k) 24 = w0 at *
  generalize u8s k = Kz at *
  have HB0 : Hid (Below w.heap.size w w0) := hb0
  have hlt : w.heap.size + 1 < w0.heap.size := by omega
  clear hs0 hb0
  go_enter Tryd.func13, Tryd.ntmps13
  go_wp2_with (first
    | (go_at_call 18; rw [z32u8, HW0.out]; refine (isMade_some S 0 t d g w0 HS0.out).mono ?_; rintro e w' ⟨rfl, hw'⟩; obtain rfl : w0 = w' := hw'.symm; clear hw')
    | ((with_reducible show wpList _ _ _ (Oper.mk _ (Op.load 24 (.tmp 5)) _ _ _ _ :: _) _ _); refine wpList_load_Row rfl 24 (.tmp 5) rfl rfl HK.out Tryd.underlying24 HSK.out ?_; simp only [Act.put, List.setIfInBounds_toArray, List.set_cons_zero, List.set_cons_succ])
    | (go_at_call 20; refine HP.out.mono ?_; rintro e w3 ⟨rfl, hb3⟩)
    | ((with_reducible show wpList _ _ _ (Oper.mk _ (Op.store 24 (.tmp 8) (.tmp 21)) _ _ _ _ :: _) _ _); refine wpList_store_Row rfl 24 (.tmp 8) (.tmp 21) rfl V rfl rfl (HRs.out.later hb3) (by rw [HVl.out]; exact size24) (by rw [HVl.out]; rfl) HV1.out ?_; simp only [Act.put]))
  refine bodyPost_ret (results_Row_tmp rfl rfl (Row.sets_all (HRs.out.later hb3) (by rw [HVl.out]; rfl)) Tryd.underlying24 (by rw [HVl.out]; exact size24)) rfl ?_
  exact ⟨rfl, below_setCells (by omega) _ _ (HB0.out.trans (hb3.mono (by omega)))⟩
end Go.Proofs.YtkpjbleogjmbjaaDoor
