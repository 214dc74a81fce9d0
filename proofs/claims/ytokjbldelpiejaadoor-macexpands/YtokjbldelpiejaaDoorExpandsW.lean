/-
  The law MacExpands, walked: for every three slices of bytes and every number it returns true.
-/
import Derived.Test.YtokjbldelpiejaaDoorAwake3
import Derived.Test.YtokjbldelpiejaaDoorBlocksW
import Derived.Test.YtokjbldelpiejaaDoorExtract
import Derived.Test.YtokjbldelpiejaaDoorRefExpand
import Derived.Test.YtokjbldelpiejaaDoorStr
namespace Go.Proofs.YtokjbldelpiejaaDoor
open Go.RowKit Go.Shelf
attribute [local go_sem] Oper.semAt_some

theorem equal46 (S : List Value) (hS : ∀ i, i < 32 → ∃ z, S[i]? = some (.int .u8 z)) (w : World) : (Op.equalIn 10000 46 (.agg S.toArray) (.agg S.toArray)).run Tryd.prog w = .ok true w :=
  equal_same Tryd.underlying46 (by kernel_rfl) Tryd.underlying5 (by kernel_rfl) size5 S hS w

theorem bytes_nil (W : World) : IsBytes W.heap.size W none 0 0 [] := ⟨rfl, by omega, by omega, by simp, .inl rfl⟩

/-- Expand and the reference's Expand say the same bytes and the same error. -/
theorem both_any (ks info : List Nat) (hkl : ks.length = 32) (hkz : ∀ z ∈ ks, z < 256) (p : Option Addr) (len cap : Nat) (hlen : len ≤ 300) (z : Int) (w : World) (hT : Tab w) (hI : IsBytes w.heap.size w p len cap info) :
    ∃ (l : Nat) (zs : List Nat) (er : Int), (∀ W, Below w.heap.size w W → Calls Tryd.prog 24 #[.agg (u8s ks).toArray, .slice p len cap, .int .i64 z] W fun e w' => ∃ q c, e = .returned (.tuple #[.slice q l c, .int .i64 er]) ∧ IsBytes w'.heap.size w' q l c zs ∧ Below W.heap.size W w') ∧
      (∀ W, Below w.heap.size w W → Calls Tryd.prog 25 #[.agg (u8s ks).toArray, .slice p len cap, .int .i64 z] W fun e w' => ∃ q c, e = .returned (.tuple #[.slice q l c, .int .i64 er]) ∧ IsBytes w'.heap.size w' q l c zs ∧ Below W.heap.size W w') := by
  by_cases hz : z < 0 ∨ 8160 < z
  · refine ⟨0, [], 1, fun W hb => ?_, fun W hb => ?_⟩
    · refine (expand_err (u8s ks) (by rw [u8s_length]; exact hkl) p len cap z hz W).mono ?_
      rintro e w' ⟨rfl, hb'⟩
      exact ⟨none, 0, rfl, bytes_nil _, hb'⟩
    · refine (refExpand_err (u8s ks) (by rw [u8s_length]; exact hkl) p len cap z hz W).mono ?_
      rintro e w' ⟨rfl, hb'⟩
      exact ⟨none, 0, rfl, bytes_nil _, hb'⟩
  · obtain ⟨N, rfl⟩ := Int.eq_ofNat_of_zero_le (show 0 ≤ z by omega)
    have hN : N ≤ 8160 := by omega
    refine ⟨N, expandN ks info N, 0, fun W hb => ?_, fun W hb => ?_⟩
    · refine (expand_any ks info hkl hkz p len cap (by omega) N hN W (hT.later hb) (hI.later hb)).mono ?_
      rintro e w' ⟨g, rfl, hown, hb'⟩
      exact ⟨_, _, rfl, hown.bytes (expandN_lt ks info N), hb'⟩
    · exact refExpand_any ks info hkl hkz p len cap (by omega) N hN W (hI.later hb)

set_option maxRecDepth 100000 in
set_option maxHeartbeats 4000000 in
theorem macExpands_walk (p : Option Addr) (len cap : Nat) (ks : List Nat) (pb : Option Addr) (bl bc : Nat) (bs : List Nat) (pt : Option Addr) (tl tc : Nat) (info : List Nat) (z : Int) (w : World) (hT : Tab w) (hI : IsBytes w.heap.size w p len cap ks) (hB : IsBytes w.heap.size w pb bl bc bs) (hG : IsBytes w.heap.size w pt tl tc info) (_hz : -9223372036854775808 ≤ z ∧ z ≤ 9223372036854775807) :
    Calls Tryd.prog 8 #[.slice p len cap, .slice pb bl bc, .slice pt tl tc, .int .i64 z] w fun e w' => e = .returned (.bool true) ∧ Below w.heap.size w w' := by
  have HT : Hid (Tab w) := hT
  have HI : Hid (IsBytes w.heap.size w p len cap ks) := hI
  have HB : Hid (IsBytes w.heap.size w pb bl bc bs) := hB
  have HG : Hid (IsBytes w.heap.size w pt tl tc info) := hG
  clear hT hI hB hG _hz
  by_cases hlen : len ≤ 300
  · have hli : ¬ (300 : Int) < (len : Int) := by omega
    by_cases hbl : bl ≤ 300
    · have hbi : ¬ (300 : Int) < (bl : Int) := by omega
      by_cases htl : tl ≤ 300
      · have hti : ¬ (300 : Int) < (tl : Int) := by omega
        have H23 : Hid (∀ W, Below w.heap.size w W → Calls Tryd.prog 23 #[.slice p len cap, .slice pb bl bc] W fun e w' => e = .returned (.agg (u8s (macN ks bs)).toArray) ∧ Below W.heap.size W w') := fun W hb => extract_any p len cap ks (by omega) pb bl bc bs (by omega) W (HT.out.later hb) (HI.out.later hb) (HB.out.later hb)
        have H20 : Hid (∀ W, Below w.heap.size w W → Calls Tryd.prog 20 #[.slice p len cap, .slice pb bl bc] W fun e w' => e = .returned (.agg (u8s (macN ks bs)).toArray) ∧ Below W.heap.size W w') := fun W hb => refMac_any p len cap ks (by omega) pb bl bc bs (by omega) W (HI.out.later hb) (HB.out.later hb)
        obtain ⟨l, zs, er, h24, h25⟩ := both_any (macN ks bs) info (macN_length _ _) (macN_lt _ _) pt tl tc htl z w HT.out HG.out
        have hq := equal46 (u8s (macN ks bs)) (u8s_int _ (macN_length _ _))
        have HVl : Hid ((u8s (macN ks bs)).length = 32) := by show _ = _; rw [u8s_length]; exact macN_length _ _
        have HV1 : Hid (∀ v ∈ u8s (macN ks bs), v.oneCell' = true) := u8s_one _
        generalize u8s (macN ks bs) = V at *
        have H24 : Hid (∀ W, Below w.heap.size w W → Calls Tryd.prog 24 #[.agg V.toArray, .slice pt tl tc, .int .i64 z] W fun e w' => ∃ q c, e = .returned (.tuple #[.slice q l c, .int .i64 er]) ∧ IsBytes w'.heap.size w' q l c zs ∧ Below W.heap.size W w') := h24
        have H25 : Hid (∀ W, Below w.heap.size w W → Calls Tryd.prog 25 #[.agg V.toArray, .slice pt tl tc, .int .i64 z] W fun e w' => ∃ q c, e = .returned (.tuple #[.slice q l c, .int .i64 er]) ∧ IsBytes w'.heap.size w' q l c zs ∧ Below W.heap.size W w') := h25
        clear h24 h25
        by_cases hz4 : 400 < z
        · by_cases hz8 : z ≤ 8160
          · go_enter Tryd.func8, Tryd.ntmps8
            go_wp2_with (go_at_call 18; refine (awake3_any _ HT.out).mono ?_; rintro e w1 ⟨rfl, hb1⟩)
            go_ret
            exact ⟨rfl, hb1⟩
          · go_enter Tryd.func8, Tryd.ntmps8
            go_wp2_with (first
              | (go_at_call 18; refine (awake3_any _ HT.out).mono ?_; rintro e w1 ⟨rfl, hb1⟩)
              | (go_at_call 23; refine (H23.out _ hb1).mono ?_; rintro e w2 ⟨rfl, hb2⟩; have hbA := hb1.trans (hb2.mono hb1.size); clear hb2)
              | ((with_reducible show wpList _ _ _ (Oper.mk _ (Op.store 46 (.tmp 9) (.tmp 39)) _ _ _ _ :: _) _ _); refine wpList_store_Row rfl 46 (.tmp 9) (.tmp 39) rfl V rfl rfl (Row.new _ _ _) (by rw [HVl.out]; exact size46) (by rw [HVl.out]; rfl) HV1.out ?_; simp only [Act.put]; rw [z32u8]; have HR : Hid (Row ((w2.alloc (.cells (List.replicate 32 (Value.int .u8 0)).toArray 46)).setCells w2.heap.size 0 V) w2.heap.size 46 V) := Row.sets_all (vs := V) (Row.new w2 46 _) (by rw [HVl.out]; rfl); have hbB : Below w.heap.size w ((w2.alloc (.cells (List.replicate 32 (Value.int .u8 0)).toArray 46)).setCells w2.heap.size 0 V) := below_setCells hbA.size _ _ (hbA.alloc hbA.size _); generalize ((w2.alloc (.cells (List.replicate 32 (Value.int .u8 0)).toArray 46)).setCells w2.heap.size 0 V) = w3 at *)
              | ((with_reducible show wpList _ _ _ (Oper.mk (some 41) _ _ _ _ _ :: _) _ _); refine wpList_load_Row rfl 46 (.tmp 9) rfl rfl HR.out Tryd.underlying46 (by rw [HVl.out]; exact size46) ?_; simp only [Act.put, List.setIfInBounds_toArray, List.set_cons_zero, List.set_cons_succ])
              | ((with_reducible show wpList _ _ _ (Oper.mk (some 48) _ _ _ _ _ :: _) _ _); refine wpList_load_Row rfl 46 (.tmp 9) rfl rfl HR4.out Tryd.underlying46 (by rw [HVl.out]; exact size46) ?_; simp only [Act.put, List.setIfInBounds_toArray, List.set_cons_zero, List.set_cons_succ])
              | (go_at_call 24; refine (H24.out _ hbB).mono ?_; rintro e w4 ⟨q4, c4, rfl, hI4, hb4⟩; have HR4 : Hid (Row w4 w2.heap.size 46 V) := HR.out.later hb4; have hbC := hbB.trans (hb4.mono hbB.size); have HI4 : Hid (IsBytes w4.heap.size w4 q4 l c4 zs) := hI4; clear hb4 hI4)
              | (go_at_call 25; refine (H25.out _ hbC).mono ?_; rintro e w5 ⟨q5, c5, rfl, hI5, hb5⟩; have HR5 : Hid (Row w5 w2.heap.size 46 V) := HR4.out.later hb5; have hbD := hbC.trans (hb5.mono hbC.size); have SB : Hid (Str w5 (.slice q5 l c5) (strOf zs)) := str_of_bytes hI5; have SA : Hid (Str w5 (.slice q4 l c4) (strOf zs)) := str_of_bytes (HI4.out.later hb5); clear hb5 hI5 HI4))
            generalize strOf zs = st at *
            refine wp_region_noPanic ?_
            refine wp_region_held_drew (S := fun W => Below w5.heap.size w5 W) (by kernel_rfl) (Below.refl _ _).drew (fun hHeld => ?_)
            refine wpAnyH_takesAt 0 3 15 (of_decide_eq_true (by kernel_rfl)) rfl (fun _ _ _ _ _ h => h) (by kernel_rfl) (by kernel_rfl) hHeld ?_
            simp only [List.drop_zero, List.take_succ_cons, List.take_zero]
            refine wpHeld_load (by rfl) 46 (.tmp 9) rfl w2.heap.size 0 rfl V (fun wz h => (HR5.out.later h).range) Tryd.underlying46 (by rw [HVl.out]; exact size46) ?_
            simp only [Act.put, List.setIfInBounds_toArray, List.set_cons_zero, List.set_cons_succ]
            iterate 2 (refine wpHeld_step (v := ?_) (by rfl) (fun wz hSw => ?_) ?_; rotate_left; (focus ((try dsimp only at hSw); go_simp; try with_reducible rfl)); (simp only [Act.put, List.setIfInBounds_toArray, List.set_cons_zero, List.set_cons_succ]))
            refine wpHeld_nil ?_
            refine wpAnyH_only (i := 3) (by kernel_rfl) rfl (fun K hK => ?_)
            rw [if_pos (by rfl)]
            go_simp
            refine (H20.out w5.drew hbD.drew).mono ?_
            rintro e w6 ⟨rfl, hb6⟩
            have hHeld6 : Below w5.heap.size w5 w6 := hHeld.trans (hb6.mono hHeld.size)
            refine hK.out _ _ hHeld6 ?_
            clear hK K hHeld
            refine wpAnyH_takesAt 4 14 0 (of_decide_eq_true (by kernel_rfl)) rfl (fun _ _ _ _ _ h => h) (by kernel_rfl) (by kernel_rfl) hHeld6 ?_
            simp only [List.drop_succ_cons, List.drop_zero, List.take_succ_cons, List.take_zero]
            refine wpHeld_step (v := .bool true) (by rfl) (fun wz hSw => ?_) ?_
            · go_simp
            simp only [Act.put, List.setIfInBounds_toArray, List.set_cons_zero, List.set_cons_succ]
            iterate 13 (refine wpHeld_step (v := ?_) (by rfl) (fun wz hSw => ?_) ?_; rotate_left; (focus ((try dsimp only at hSw); have hca := SA.out wz hSw; have hcb := SB.out wz hSw; go_simp; try with_reducible rfl)); (simp only [Act.put, List.setIfInBounds_toArray, List.set_cons_zero, List.set_cons_succ]))
            refine wpHeld_nil ?_
            refine wpAnyH_done (by kernel_rfl) ?_ _
            refine NoPanic.normal ?_
            go_wp2
            go_ret
            exact ⟨by simp, hbD.trans (hHeld6.mono hbD.size)⟩
        · go_enter Tryd.func8, Tryd.ntmps8
          go_wp2_with (first
            | (go_at_call 18; refine (awake3_any _ HT.out).mono ?_; rintro e w1 ⟨rfl, hb1⟩)
            | (go_at_call 23; refine (H23.out _ hb1).mono ?_; rintro e w2 ⟨rfl, hb2⟩; have hbA := hb1.trans (hb2.mono hb1.size); clear hb2)
            | ((with_reducible show wpList _ _ _ (Oper.mk _ (Op.store 46 (.tmp 9) (.tmp 39)) _ _ _ _ :: _) _ _); refine wpList_store_Row rfl 46 (.tmp 9) (.tmp 39) rfl V rfl rfl (Row.new _ _ _) (by rw [HVl.out]; exact size46) (by rw [HVl.out]; rfl) HV1.out ?_; simp only [Act.put]; rw [z32u8]; have HR : Hid (Row ((w2.alloc (.cells (List.replicate 32 (Value.int .u8 0)).toArray 46)).setCells w2.heap.size 0 V) w2.heap.size 46 V) := Row.sets_all (vs := V) (Row.new w2 46 _) (by rw [HVl.out]; rfl); have hbB : Below w.heap.size w ((w2.alloc (.cells (List.replicate 32 (Value.int .u8 0)).toArray 46)).setCells w2.heap.size 0 V) := below_setCells hbA.size _ _ (hbA.alloc hbA.size _); generalize ((w2.alloc (.cells (List.replicate 32 (Value.int .u8 0)).toArray 46)).setCells w2.heap.size 0 V) = w3 at *)
            | ((with_reducible show wpList _ _ _ (Oper.mk (some 41) _ _ _ _ _ :: _) _ _); refine wpList_load_Row rfl 46 (.tmp 9) rfl rfl HR.out Tryd.underlying46 (by rw [HVl.out]; exact size46) ?_; simp only [Act.put, List.setIfInBounds_toArray, List.set_cons_zero, List.set_cons_succ])
            | ((with_reducible show wpList _ _ _ (Oper.mk (some 48) _ _ _ _ _ :: _) _ _); refine wpList_load_Row rfl 46 (.tmp 9) rfl rfl HR4.out Tryd.underlying46 (by rw [HVl.out]; exact size46) ?_; simp only [Act.put, List.setIfInBounds_toArray, List.set_cons_zero, List.set_cons_succ])
            | (go_at_call 24; refine (H24.out _ hbB).mono ?_; rintro e w4 ⟨q4, c4, rfl, hI4, hb4⟩; have HR4 : Hid (Row w4 w2.heap.size 46 V) := HR.out.later hb4; have hbC := hbB.trans (hb4.mono hbB.size); have HI4 : Hid (IsBytes w4.heap.size w4 q4 l c4 zs) := hI4; clear hb4 hI4)
            | (go_at_call 25; refine (H25.out _ hbC).mono ?_; rintro e w5 ⟨q5, c5, rfl, hI5, hb5⟩; have HR5 : Hid (Row w5 w2.heap.size 46 V) := HR4.out.later hb5; have hbD := hbC.trans (hb5.mono hbC.size); have SB : Hid (Str w5 (.slice q5 l c5) (strOf zs)) := str_of_bytes hI5; have SA : Hid (Str w5 (.slice q4 l c4) (strOf zs)) := str_of_bytes (HI4.out.later hb5); clear hb5 hI5 HI4))
          generalize strOf zs = st at *
          refine wp_region_noPanic ?_
          refine wp_region_held_drew (S := fun W => Below w5.heap.size w5 W) (by kernel_rfl) (Below.refl _ _).drew (fun hHeld => ?_)
          refine wpAnyH_takesAt 0 3 15 (of_decide_eq_true (by kernel_rfl)) rfl (fun _ _ _ _ _ h => h) (by kernel_rfl) (by kernel_rfl) hHeld ?_
          simp only [List.drop_zero, List.take_succ_cons, List.take_zero]
          refine wpHeld_load (by rfl) 46 (.tmp 9) rfl w2.heap.size 0 rfl V (fun wz h => (HR5.out.later h).range) Tryd.underlying46 (by rw [HVl.out]; exact size46) ?_
          simp only [Act.put, List.setIfInBounds_toArray, List.set_cons_zero, List.set_cons_succ]
          iterate 2 (refine wpHeld_step (v := ?_) (by rfl) (fun wz hSw => ?_) ?_; rotate_left; (focus ((try dsimp only at hSw); go_simp; try with_reducible rfl)); (simp only [Act.put, List.setIfInBounds_toArray, List.set_cons_zero, List.set_cons_succ]))
          refine wpHeld_nil ?_
          refine wpAnyH_only (i := 3) (by kernel_rfl) rfl (fun K hK => ?_)
          rw [if_pos (by rfl)]
          go_simp
          refine (H20.out w5.drew hbD.drew).mono ?_
          rintro e w6 ⟨rfl, hb6⟩
          have hHeld6 : Below w5.heap.size w5 w6 := hHeld.trans (hb6.mono hHeld.size)
          refine hK.out _ _ hHeld6 ?_
          clear hK K hHeld
          refine wpAnyH_takesAt 4 14 0 (of_decide_eq_true (by kernel_rfl)) rfl (fun _ _ _ _ _ h => h) (by kernel_rfl) (by kernel_rfl) hHeld6 ?_
          simp only [List.drop_succ_cons, List.drop_zero, List.take_succ_cons, List.take_zero]
          refine wpHeld_step (v := .bool true) (by rfl) (fun wz hSw => ?_) ?_
          · go_simp
          simp only [Act.put, List.setIfInBounds_toArray, List.set_cons_zero, List.set_cons_succ]
          iterate 13 (refine wpHeld_step (v := ?_) (by rfl) (fun wz hSw => ?_) ?_; rotate_left; (focus ((try dsimp only at hSw); have hca := SA.out wz hSw; have hcb := SB.out wz hSw; go_simp; try with_reducible rfl)); (simp only [Act.put, List.setIfInBounds_toArray, List.set_cons_zero, List.set_cons_succ]))
          refine wpHeld_nil ?_
          refine wpAnyH_done (by kernel_rfl) ?_ _
          refine NoPanic.normal ?_
          go_wp2
          go_ret
          exact ⟨by simp, hbD.trans (hHeld6.mono hbD.size)⟩
      · have hti : (300 : Int) < (tl : Int) := by omega
        go_enter Tryd.func8, Tryd.ntmps8
        go_wp2_with (go_at_call 18; refine (awake3_any _ HT.out).mono ?_; rintro e w1 ⟨rfl, hb1⟩)
        go_ret
        exact ⟨rfl, hb1⟩
    · have hbi : (300 : Int) < (bl : Int) := by omega
      go_enter Tryd.func8, Tryd.ntmps8
      go_wp2_with (go_at_call 18; refine (awake3_any _ HT.out).mono ?_; rintro e w1 ⟨rfl, hb1⟩)
      go_ret
      exact ⟨rfl, hb1⟩
  · have hli : (300 : Int) < (len : Int) := by omega
    go_enter Tryd.func8, Tryd.ntmps8
    go_wp2_with (go_at_call 18; refine (awake3_any _ HT.out).mono ?_; rintro e w1 ⟨rfl, hb1⟩)
    go_ret
    exact ⟨rfl, hb1⟩
end Go.Proofs.YtokjbldelpiejaaDoor
