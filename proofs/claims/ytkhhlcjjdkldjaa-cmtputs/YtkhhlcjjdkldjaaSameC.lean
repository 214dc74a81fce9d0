/-
  Same, and the reference's: which commits are alike.
-/
import Derived.Test.YtkhhlcjjdkldjaaCmt
namespace Go.Proofs.Ytkhhlcjjdkldjaa
open Go.RowKit

theorem ids_getD {l : List (List Nat)} (h : ∀ x ∈ l, x.length = 32 ∧ ∀ z ∈ x, z < 256) {k : Nat} (hk : k < l.length) : IsId (l.getD k []) := by
  rw [List.getD_eq_getElem?_getD, List.getElem?_eq_getElem hk, Option.getD_some]
  exact h _ (List.getElem_mem hk)
theorem id_take (l : List (List Nat)) {k : Nat} (hk : k < l.length) : l.take (k + 1) = l.take k ++ [l.getD k []] := by
  rw [List.take_succ_eq_append_getElem hk, List.getD_eq_getElem?_getD, List.getElem?_eq_getElem hk, Option.getD_some]
theorem ne_at {a b : List (List Nat)} {k : Nat} (h : ¬ a.getD k [] = b.getD k []) : ¬ a = b := fun e => h (by rw [e])

set_option maxRecDepth 100000 in
set_option maxHeartbeats 1000000 in
/-- slices.Equal of ids. -/
theorem equalIds_any (p : Option Addr) (len cap : Nat) (a : List (List Nat)) (p2 : Option Addr) (len2 cap2 : Nat) (b : List (List Nat)) (w : World) (hI : IsIds w.heap.size w p len cap a) (hJ : IsIds w.heap.size w p2 len2 cap2 b) :
    Calls Try.prog 43 #[.slice p len cap, .slice p2 len2 cap2] w fun e w' => e = .returned (.bool (decide (a = b))) ∧ Below w.heap.size w w' := by
  have HI : Hid (IsIds w.heap.size w p len cap a) := hI
  have HJ : Hid (IsIds w.heap.size w p2 len2 cap2 b) := hJ
  have HL : Hid (a.length = len) := hI.1
  have HL2 : Hid (b.length = len2) := hJ.1
  have hlc := hI.2.1
  have hcc := hI.2.2.1
  have hcc2 := hJ.2.2.1
  have hlc2 := hJ.2.1
  clear hI hJ
  by_cases hne : len = len2
  · subst hne
    go_enter Try.func43, Try.ntmps43
    go_wp2
    go_loopw [13] (fun i wr => ∃ (k : Nat), k ≤ len ∧ i = .int .i64 k ∧ a.take k = b.take k ∧ Below w.heap.size w wr) (fun i _ => len - (intOf i).toNat)
    case atStart => exact ⟨0, Nat.zero_le _, rfl, rfl, Below.refl _ _⟩
    case round =>
      obtain ⟨k, hk, rfl, htk, hbel⟩ := hrel
      have HTk : Hid (a.take k = b.take k) := htk
      clear htk
      by_cases hlt : k < len
      · have hki : (k : Int) < (len : Int) := by omega
        obtain ⟨ba, off, rfl, hb, hcell⟩ : ∃ b off, p = some ⟨b, off, none⟩ ∧ b < w.heap.size ∧ ∀ i, i < len → wr.rangeAt b (off + i * 32) (u8s (a.getD i [])) := by
          rcases (HI.out.below hbel).2.2.2.2 with h | h
          · omega
          · exact h
        obtain ⟨b2, off2, rfl, hb2, hcell2⟩ : ∃ c off, p2 = some ⟨c, off, none⟩ ∧ c < w.heap.size ∧ ∀ i, i < len → wr.rangeAt c (off + i * 32) (u8s (b.getD i [])) := by
          rcases (HJ.out.below hbel).2.2.2.2 with h | h
          · omega
          · exact h
        have hx : IsId (a.getD k []) := ids_getD HI.out.2.2.2.1 (by rw [HL.out]; exact hlt)
        have hy : IsId (b.getD k []) := ids_getD HJ.out.2.2.2.1 (by rw [HL2.out]; exact hlt)
        have HRg : Hid (wr.rangeAt ba (off + k * 32) (u8s (a.getD k []))) := hcell k hlt
        have HRg2 : Hid (wr.rangeAt b2 (off2 + k * 32) (u8s (b.getD k []))) := hcell2 k hlt
        have HV : Hid ((u8s (a.getD k [])).length = 32) := by show _ = _; rw [u8s_length]; exact hx.1
        have HV2 : Hid ((u8s (b.getD k [])).length = 32) := by show _ = _; rw [u8s_length]; exact hy.1
        have hq := equal_ids hx hy
        have HTs : Hid (a.getD k [] = b.getD k [] → a.take (k + 1) = b.take (k + 1)) := fun e => by rw [id_take a (by rw [HL.out]; exact hlt), id_take b (by rw [HL2.out]; exact hlt), HTk.out, e]
        have HNe : Hid (¬ a.getD k [] = b.getD k [] → ¬ a = b) := ne_at
        have hsz := hbel.size
        clear hcell hcell2 hx hy
        generalize u8s (a.getD k []) = V at *
        generalize u8s (b.getD k []) = V2 at *
        generalize a.getD k [] = x at *
        generalize b.getD k [] = y at *
        by_cases hxy : x = y
        · rw [decide_eq_true hxy] at hq
          go_wp2
          refine wp_region_held_drew (S := fun W => Below wr.heap.size wr W) (by kernel_rfl) (Below.refl _ _).drew (fun hHeld => ?_)
          refine wpAnyH_takesAt 0 3 6 (of_decide_eq_true (by kernel_rfl)) rfl (fun _ _ _ d _ h => by cases d <;> exact h) (by kernel_rfl) (by kernel_rfl) hHeld ?_
          simp only [List.drop_zero, List.take_succ_cons, List.take_zero]
          iterate 3 (refine wpHeld_step (v := ?_) (by rfl) (fun wz hSw => ?_) ?_; rotate_left; (focus ((try dsimp only at hSw); go_simp; try with_reducible rfl)); (simp only [Act.put, List.setIfInBounds_toArray, List.set_cons_zero, List.set_cons_succ]))
          refine wpHeld_nil ?_
          refine wpAnyH_takesAt 3 1 5 (of_decide_eq_true (by kernel_rfl)) rfl (fun _ _ _ d _ h => by cases d <;> exact h) (by kernel_rfl) (by kernel_rfl) hHeld ?_
          simp only [List.drop_succ_cons, List.drop_zero, List.take_succ_cons, List.take_zero]
          refine wpHeld_load (by rfl) 24 (.tmp 18) rfl ba (off + k * 32) rfl V (fun W hW => rangeAt_below hW (by omega) HRg.out) Try.underlying24 (by rw [HV.out]; exact size24) ?_
          (simp only [Act.put]; (try simp only [List.setIfInBounds_toArray]); (try simp only [List.set_cons_succ]); (try simp only [List.set_cons_zero]))
          refine wpHeld_nil ?_
          refine wpAnyH_takesAt 4 3 2 (of_decide_eq_true (by kernel_rfl)) rfl (fun _ _ _ d _ h => by cases d <;> exact h) (by kernel_rfl) (by kernel_rfl) hHeld ?_
          simp only [List.drop_succ_cons, List.drop_zero, List.take_succ_cons, List.take_zero]
          iterate 3 (refine wpHeld_step (v := ?_) (by rfl) (fun wz hSw => ?_) ?_; rotate_left; (focus ((try dsimp only at hSw); go_simp; try with_reducible rfl)); (simp only [Act.put, List.setIfInBounds_toArray, List.set_cons_zero, List.set_cons_succ]))
          refine wpHeld_nil ?_
          refine wpAnyH_takesAt 7 1 1 (of_decide_eq_true (by kernel_rfl)) rfl (fun _ _ _ d _ h => by cases d <;> exact h) (by kernel_rfl) (by kernel_rfl) hHeld ?_
          simp only [List.drop_succ_cons, List.drop_zero, List.take_succ_cons, List.take_zero]
          refine wpHeld_load (by rfl) 24 (.tmp 22) rfl b2 (off2 + k * 32) rfl V2 (fun W hW => rangeAt_below hW (by omega) HRg2.out) Try.underlying24 (by rw [HV2.out]; exact size24) ?_
          (simp only [Act.put]; (try simp only [List.setIfInBounds_toArray]); (try simp only [List.set_cons_succ]); (try simp only [List.set_cons_zero]))
          refine wpHeld_nil ?_
          refine wpAnyH_takesAt 8 1 0 (of_decide_eq_true (by kernel_rfl)) rfl (fun _ _ _ d _ h => by cases d <;> exact h) (by kernel_rfl) (by kernel_rfl) hHeld ?_
          simp only [List.drop_succ_cons, List.drop_zero, List.take_succ_cons, List.take_zero]
          iterate 1 (refine wpHeld_step (v := ?_) (by rfl) (fun wz hSw => ?_) ?_; rotate_left; (focus ((try dsimp only at hSw); go_simp; try with_reducible rfl)); ((simp only [Act.put]; (try simp only [List.setIfInBounds_toArray]); (try simp only [List.set_cons_succ]); (try simp only [List.set_cons_zero]))))
          refine wpHeld_nil ?_
          refine wpAnyH_done (by kernel_rfl) ?_ _
          go_wp2
          go_roundw
          case rel => exact ⟨k + 1, by omega, by go_num, HTs.out hxy, hbel.drew⟩
          case measure => simp [intOf]; omega
        · rw [decide_eq_false hxy] at hq
          go_wp2
          refine wp_region_held_drew (S := fun W => Below wr.heap.size wr W) (by kernel_rfl) (Below.refl _ _).drew (fun hHeld => ?_)
          refine wpAnyH_takesAt 0 3 6 (of_decide_eq_true (by kernel_rfl)) rfl (fun _ _ _ d _ h => by cases d <;> exact h) (by kernel_rfl) (by kernel_rfl) hHeld ?_
          simp only [List.drop_zero, List.take_succ_cons, List.take_zero]
          iterate 3 (refine wpHeld_step (v := ?_) (by rfl) (fun wz hSw => ?_) ?_; rotate_left; (focus ((try dsimp only at hSw); go_simp; try with_reducible rfl)); (simp only [Act.put, List.setIfInBounds_toArray, List.set_cons_zero, List.set_cons_succ]))
          refine wpHeld_nil ?_
          refine wpAnyH_takesAt 3 1 5 (of_decide_eq_true (by kernel_rfl)) rfl (fun _ _ _ d _ h => by cases d <;> exact h) (by kernel_rfl) (by kernel_rfl) hHeld ?_
          simp only [List.drop_succ_cons, List.drop_zero, List.take_succ_cons, List.take_zero]
          refine wpHeld_load (by rfl) 24 (.tmp 18) rfl ba (off + k * 32) rfl V (fun W hW => rangeAt_below hW (by omega) HRg.out) Try.underlying24 (by rw [HV.out]; exact size24) ?_
          (simp only [Act.put]; (try simp only [List.setIfInBounds_toArray]); (try simp only [List.set_cons_succ]); (try simp only [List.set_cons_zero]))
          refine wpHeld_nil ?_
          refine wpAnyH_takesAt 4 3 2 (of_decide_eq_true (by kernel_rfl)) rfl (fun _ _ _ d _ h => by cases d <;> exact h) (by kernel_rfl) (by kernel_rfl) hHeld ?_
          simp only [List.drop_succ_cons, List.drop_zero, List.take_succ_cons, List.take_zero]
          iterate 3 (refine wpHeld_step (v := ?_) (by rfl) (fun wz hSw => ?_) ?_; rotate_left; (focus ((try dsimp only at hSw); go_simp; try with_reducible rfl)); (simp only [Act.put, List.setIfInBounds_toArray, List.set_cons_zero, List.set_cons_succ]))
          refine wpHeld_nil ?_
          refine wpAnyH_takesAt 7 1 1 (of_decide_eq_true (by kernel_rfl)) rfl (fun _ _ _ d _ h => by cases d <;> exact h) (by kernel_rfl) (by kernel_rfl) hHeld ?_
          simp only [List.drop_succ_cons, List.drop_zero, List.take_succ_cons, List.take_zero]
          refine wpHeld_load (by rfl) 24 (.tmp 22) rfl b2 (off2 + k * 32) rfl V2 (fun W hW => rangeAt_below hW (by omega) HRg2.out) Try.underlying24 (by rw [HV2.out]; exact size24) ?_
          (simp only [Act.put]; (try simp only [List.setIfInBounds_toArray]); (try simp only [List.set_cons_succ]); (try simp only [List.set_cons_zero]))
          refine wpHeld_nil ?_
          refine wpAnyH_takesAt 8 1 0 (of_decide_eq_true (by kernel_rfl)) rfl (fun _ _ _ d _ h => by cases d <;> exact h) (by kernel_rfl) (by kernel_rfl) hHeld ?_
          simp only [List.drop_succ_cons, List.drop_zero, List.take_succ_cons, List.take_zero]
          iterate 1 (refine wpHeld_step (v := ?_) (by rfl) (fun wz hSw => ?_) ?_; rotate_left; (focus ((try dsimp only at hSw); go_simp; try with_reducible rfl)); ((simp only [Act.put]; (try simp only [List.setIfInBounds_toArray]); (try simp only [List.set_cons_succ]); (try simp only [List.set_cons_zero]))))
          refine wpHeld_nil ?_
          refine wpAnyH_done (by kernel_rfl) ?_ _
          go_wp2
          go_ret
          exact ⟨by rw [decide_eq_false (HNe.out hxy)]; rfl, hbel.drew⟩
      · obtain rfl : k = len := by omega
        have HE : Hid (decide (a = b) = true) := by
          have h := HTk.out
          rw [List.take_of_length_le (by rw [HL.out]; exact Nat.le_refl _), List.take_of_length_le (by rw [HL2.out]; exact Nat.le_refl _)] at h
          exact decide_eq_true h
        go_wp2
        go_ret
        exact ⟨by rw [HE.out]; rfl, hbel⟩
  · have hnei : ¬ (len : Int) = (len2 : Int) := by omega
    have HE : Hid (decide (a = b) = false) := decide_eq_false (fun e => hne (by rw [← HL.out, ← HL2.out, e]))
    go_enter Try.func43, Try.ntmps43
    go_wp2
    go_ret
    exact ⟨by rw [HE.out]; rfl, Below.refl _ _⟩

set_option maxRecDepth 100000 in
set_option maxHeartbeats 1000000 in
/-- SameIds of any two lists of ids. -/
theorem sameIds2_any (p : Option Addr) (len cap : Nat) (a : List (List Nat)) (p2 : Option Addr) (len2 cap2 : Nat) (b : List (List Nat)) (w : World) (hI : IsIds w.heap.size w p len cap a) (hJ : IsIds w.heap.size w p2 len2 cap2 b) :
    Calls Try.prog 11 #[.slice p len cap, .slice p2 len2 cap2] w fun e w' => e = .returned (.bool (decide (a = b))) ∧ Below w.heap.size w w' := by
  have HI : Hid (IsIds w.heap.size w p len cap a) := hI
  have HJ : Hid (IsIds w.heap.size w p2 len2 cap2 b) := hJ
  have HL : Hid (a.length = len) := hI.1
  have HL2 : Hid (b.length = len2) := hJ.1
  have hlc := hI.2.1
  have hcc := hI.2.2.1
  have hcc2 := hJ.2.2.1
  have hlc2 := hJ.2.1
  clear hI hJ
  by_cases hne : len = len2
  · subst hne
    go_enter Try.func11, Try.ntmps11
    go_wp2
    go_loopw [13] (fun i wr => ∃ (k : Nat), k ≤ len ∧ i = .int .i64 k ∧ a.take k = b.take k ∧ Below w.heap.size w wr) (fun i _ => len - (intOf i).toNat)
    case atStart => exact ⟨0, Nat.zero_le _, rfl, rfl, Below.refl _ _⟩
    case round =>
      obtain ⟨k, hk, rfl, htk, hbel⟩ := hrel
      have HTk : Hid (a.take k = b.take k) := htk
      clear htk
      by_cases hlt : k < len
      · have hki : (k : Int) < (len : Int) := by omega
        obtain ⟨ba, off, rfl, hb, hcell⟩ : ∃ b off, p = some ⟨b, off, none⟩ ∧ b < w.heap.size ∧ ∀ i, i < len → wr.rangeAt b (off + i * 32) (u8s (a.getD i [])) := by
          rcases (HI.out.below hbel).2.2.2.2 with h | h
          · omega
          · exact h
        obtain ⟨b2, off2, rfl, hb2, hcell2⟩ : ∃ c off, p2 = some ⟨c, off, none⟩ ∧ c < w.heap.size ∧ ∀ i, i < len → wr.rangeAt c (off + i * 32) (u8s (b.getD i [])) := by
          rcases (HJ.out.below hbel).2.2.2.2 with h | h
          · omega
          · exact h
        have hx : IsId (a.getD k []) := ids_getD HI.out.2.2.2.1 (by rw [HL.out]; exact hlt)
        have hy : IsId (b.getD k []) := ids_getD HJ.out.2.2.2.1 (by rw [HL2.out]; exact hlt)
        have HRg : Hid (wr.rangeAt ba (off + k * 32) (u8s (a.getD k []))) := hcell k hlt
        have HRg2 : Hid (wr.rangeAt b2 (off2 + k * 32) (u8s (b.getD k []))) := hcell2 k hlt
        have HV : Hid ((u8s (a.getD k [])).length = 32) := by show _ = _; rw [u8s_length]; exact hx.1
        have HV2 : Hid ((u8s (b.getD k [])).length = 32) := by show _ = _; rw [u8s_length]; exact hy.1
        have hq := equal_ids hx hy
        have HTs : Hid (a.getD k [] = b.getD k [] → a.take (k + 1) = b.take (k + 1)) := fun e => by rw [id_take a (by rw [HL.out]; exact hlt), id_take b (by rw [HL2.out]; exact hlt), HTk.out, e]
        have HNe : Hid (¬ a.getD k [] = b.getD k [] → ¬ a = b) := ne_at
        have hsz := hbel.size
        clear hcell hcell2 hx hy
        generalize u8s (a.getD k []) = V at *
        generalize u8s (b.getD k []) = V2 at *
        generalize a.getD k [] = x at *
        generalize b.getD k [] = y at *
        by_cases hxy : x = y
        · rw [decide_eq_true hxy] at hq
          go_wp2
          refine wp_region_held_drew (S := fun W => Below wr.heap.size wr W) (by kernel_rfl) (Below.refl _ _).drew (fun hHeld => ?_)
          refine wpAnyH_takesAt 0 3 6 (of_decide_eq_true (by kernel_rfl)) rfl (fun _ _ _ d _ h => by cases d <;> exact h) (by kernel_rfl) (by kernel_rfl) hHeld ?_
          simp only [List.drop_zero, List.take_succ_cons, List.take_zero]
          iterate 3 (refine wpHeld_step (v := ?_) (by rfl) (fun wz hSw => ?_) ?_; rotate_left; (focus ((try dsimp only at hSw); go_simp; try with_reducible rfl)); (simp only [Act.put, List.setIfInBounds_toArray, List.set_cons_zero, List.set_cons_succ]))
          refine wpHeld_nil ?_
          refine wpAnyH_takesAt 3 1 5 (of_decide_eq_true (by kernel_rfl)) rfl (fun _ _ _ d _ h => by cases d <;> exact h) (by kernel_rfl) (by kernel_rfl) hHeld ?_
          simp only [List.drop_succ_cons, List.drop_zero, List.take_succ_cons, List.take_zero]
          refine wpHeld_load (by rfl) 24 (.tmp 18) rfl ba (off + k * 32) rfl V (fun W hW => rangeAt_below hW (by omega) HRg.out) Try.underlying24 (by rw [HV.out]; exact size24) ?_
          (simp only [Act.put]; (try simp only [List.setIfInBounds_toArray]); (try simp only [List.set_cons_succ]); (try simp only [List.set_cons_zero]))
          refine wpHeld_nil ?_
          refine wpAnyH_takesAt 4 3 2 (of_decide_eq_true (by kernel_rfl)) rfl (fun _ _ _ d _ h => by cases d <;> exact h) (by kernel_rfl) (by kernel_rfl) hHeld ?_
          simp only [List.drop_succ_cons, List.drop_zero, List.take_succ_cons, List.take_zero]
          iterate 3 (refine wpHeld_step (v := ?_) (by rfl) (fun wz hSw => ?_) ?_; rotate_left; (focus ((try dsimp only at hSw); go_simp; try with_reducible rfl)); (simp only [Act.put, List.setIfInBounds_toArray, List.set_cons_zero, List.set_cons_succ]))
          refine wpHeld_nil ?_
          refine wpAnyH_takesAt 7 1 1 (of_decide_eq_true (by kernel_rfl)) rfl (fun _ _ _ d _ h => by cases d <;> exact h) (by kernel_rfl) (by kernel_rfl) hHeld ?_
          simp only [List.drop_succ_cons, List.drop_zero, List.take_succ_cons, List.take_zero]
          refine wpHeld_load (by rfl) 24 (.tmp 22) rfl b2 (off2 + k * 32) rfl V2 (fun W hW => rangeAt_below hW (by omega) HRg2.out) Try.underlying24 (by rw [HV2.out]; exact size24) ?_
          (simp only [Act.put]; (try simp only [List.setIfInBounds_toArray]); (try simp only [List.set_cons_succ]); (try simp only [List.set_cons_zero]))
          refine wpHeld_nil ?_
          refine wpAnyH_takesAt 8 1 0 (of_decide_eq_true (by kernel_rfl)) rfl (fun _ _ _ d _ h => by cases d <;> exact h) (by kernel_rfl) (by kernel_rfl) hHeld ?_
          simp only [List.drop_succ_cons, List.drop_zero, List.take_succ_cons, List.take_zero]
          iterate 1 (refine wpHeld_step (v := ?_) (by rfl) (fun wz hSw => ?_) ?_; rotate_left; (focus ((try dsimp only at hSw); go_simp; try with_reducible rfl)); ((simp only [Act.put]; (try simp only [List.setIfInBounds_toArray]); (try simp only [List.set_cons_succ]); (try simp only [List.set_cons_zero]))))
          refine wpHeld_nil ?_
          refine wpAnyH_done (by kernel_rfl) ?_ _
          go_wp2
          go_roundw
          case rel => exact ⟨k + 1, by omega, by go_num, HTs.out hxy, hbel.drew⟩
          case measure => simp [intOf]; omega
        · rw [decide_eq_false hxy] at hq
          go_wp2
          refine wp_region_held_drew (S := fun W => Below wr.heap.size wr W) (by kernel_rfl) (Below.refl _ _).drew (fun hHeld => ?_)
          refine wpAnyH_takesAt 0 3 6 (of_decide_eq_true (by kernel_rfl)) rfl (fun _ _ _ d _ h => by cases d <;> exact h) (by kernel_rfl) (by kernel_rfl) hHeld ?_
          simp only [List.drop_zero, List.take_succ_cons, List.take_zero]
          iterate 3 (refine wpHeld_step (v := ?_) (by rfl) (fun wz hSw => ?_) ?_; rotate_left; (focus ((try dsimp only at hSw); go_simp; try with_reducible rfl)); (simp only [Act.put, List.setIfInBounds_toArray, List.set_cons_zero, List.set_cons_succ]))
          refine wpHeld_nil ?_
          refine wpAnyH_takesAt 3 1 5 (of_decide_eq_true (by kernel_rfl)) rfl (fun _ _ _ d _ h => by cases d <;> exact h) (by kernel_rfl) (by kernel_rfl) hHeld ?_
          simp only [List.drop_succ_cons, List.drop_zero, List.take_succ_cons, List.take_zero]
          refine wpHeld_load (by rfl) 24 (.tmp 18) rfl ba (off + k * 32) rfl V (fun W hW => rangeAt_below hW (by omega) HRg.out) Try.underlying24 (by rw [HV.out]; exact size24) ?_
          (simp only [Act.put]; (try simp only [List.setIfInBounds_toArray]); (try simp only [List.set_cons_succ]); (try simp only [List.set_cons_zero]))
          refine wpHeld_nil ?_
          refine wpAnyH_takesAt 4 3 2 (of_decide_eq_true (by kernel_rfl)) rfl (fun _ _ _ d _ h => by cases d <;> exact h) (by kernel_rfl) (by kernel_rfl) hHeld ?_
          simp only [List.drop_succ_cons, List.drop_zero, List.take_succ_cons, List.take_zero]
          iterate 3 (refine wpHeld_step (v := ?_) (by rfl) (fun wz hSw => ?_) ?_; rotate_left; (focus ((try dsimp only at hSw); go_simp; try with_reducible rfl)); (simp only [Act.put, List.setIfInBounds_toArray, List.set_cons_zero, List.set_cons_succ]))
          refine wpHeld_nil ?_
          refine wpAnyH_takesAt 7 1 1 (of_decide_eq_true (by kernel_rfl)) rfl (fun _ _ _ d _ h => by cases d <;> exact h) (by kernel_rfl) (by kernel_rfl) hHeld ?_
          simp only [List.drop_succ_cons, List.drop_zero, List.take_succ_cons, List.take_zero]
          refine wpHeld_load (by rfl) 24 (.tmp 22) rfl b2 (off2 + k * 32) rfl V2 (fun W hW => rangeAt_below hW (by omega) HRg2.out) Try.underlying24 (by rw [HV2.out]; exact size24) ?_
          (simp only [Act.put]; (try simp only [List.setIfInBounds_toArray]); (try simp only [List.set_cons_succ]); (try simp only [List.set_cons_zero]))
          refine wpHeld_nil ?_
          refine wpAnyH_takesAt 8 1 0 (of_decide_eq_true (by kernel_rfl)) rfl (fun _ _ _ d _ h => by cases d <;> exact h) (by kernel_rfl) (by kernel_rfl) hHeld ?_
          simp only [List.drop_succ_cons, List.drop_zero, List.take_succ_cons, List.take_zero]
          iterate 1 (refine wpHeld_step (v := ?_) (by rfl) (fun wz hSw => ?_) ?_; rotate_left; (focus ((try dsimp only at hSw); go_simp; try with_reducible rfl)); ((simp only [Act.put]; (try simp only [List.setIfInBounds_toArray]); (try simp only [List.set_cons_succ]); (try simp only [List.set_cons_zero]))))
          refine wpHeld_nil ?_
          refine wpAnyH_done (by kernel_rfl) ?_ _
          go_wp2
          go_ret
          exact ⟨by rw [decide_eq_false (HNe.out hxy)]; rfl, hbel.drew⟩
      · obtain rfl : k = len := by omega
        have HE : Hid (decide (a = b) = true) := by
          have h := HTk.out
          rw [List.take_of_length_le (by rw [HL.out]; exact Nat.le_refl _), List.take_of_length_le (by rw [HL2.out]; exact Nat.le_refl _)] at h
          exact decide_eq_true h
        go_wp2
        go_ret
        exact ⟨by rw [HE.out]; rfl, hbel⟩
  · have hnei : ¬ (len : Int) = (len2 : Int) := by omega
    have HE : Hid (decide (a = b) = false) := decide_eq_false (fun e => hne (by rw [← HL.out, ← HL2.out, e]))
    go_enter Try.func11, Try.ntmps11
    go_wp2
    go_ret
    exact ⟨by rw [HE.out]; rfl, Below.refl _ _⟩


/-- Whether two commits are alike. -/
def sameC (pa : List (List Nat)) (a : Cmt) (pb : List (List Nat)) (b : Cmt) : Bool := decide (pa = pb) && (decide (a.root = b.root) && (decide (a.key = b.key) && (decide (a.seq = b.seq) && (decide (a.author = b.author) && (a.text.toList == b.text.toList)))))

set_option maxRecDepth 100000 in
set_option maxHeartbeats 2000000 in
theorem same_any (p : Option Addr) (len cap : Nat) (pa : List (List Nat)) (a : Cmt) (p2 : Option Addr) (len2 cap2 : Nat) (pb : List (List Nat)) (b : Cmt) (hoa : a.ok) (hob : b.ok) (w : World) (hI : IsIds w.heap.size w p len cap pa) (hJ : IsIds w.heap.size w p2 len2 cap2 pb) :
    Calls Try.prog 17 #[.agg (cmtC (.slice p len cap) a).toArray, .agg (cmtC (.slice p2 len2 cap2) b).toArray] w fun e w' => e = .returned (.bool (sameC pa a pb b)) ∧ Below w.heap.size w w' := by
  obtain ⟨w0, hw0⟩ : ∃ w0, (w.alloc (.cells (cmtC (.slice p len cap) a).toArray 29)).alloc (.cells (cmtC (.slice p2 len2 cap2) b).toArray 29) = w0 := ⟨_, rfl⟩
  have hb0 : Below w.heap.size w w0 := by rw [← hw0]; exact ((Below.refl _ w).alloc (Nat.le_refl _) _).alloc (by simp) _
  have HA0 : Hid (CmtAt w0 w.heap.size (.slice p len cap) a) := by rw [← hw0]; exact ⟨hoa, (Row.new' w 29 _).alloc _⟩
  have HB0 : Hid (CmtAt w0 (w.heap.size + 1) (.slice p2 len2 cap2) b) := by
    rw [← hw0]
    have h := Row.new' (w.alloc (.cells (cmtC (.slice p len cap) a).toArray 29)) 29 (cmtC (.slice p2 len2 cap2) b)
    rw [World.size_alloc] at h
    exact ⟨hob, h⟩
  have HW0 : Hid ((w.alloc (.cells (cmtC (.slice p len cap) a).toArray 29)).alloc (.cells (cmtC (.slice p2 len2 cap2) b).toArray 29) = w0) := hw0
  have HQ := equalIds_any p len cap pa p2 len2 cap2 pb w0 ((hI.below hb0).mono hb0.size) ((hJ.below hb0).mono hb0.size)
  have hp1 := HA0.out.par
  have hp2 := HB0.out.par
  have hqR := equal_ids hoa.1 hob.1
  have hqK := equal_keys hoa.2.1 hob.2.1
  have HoA : Hid a.ok := hoa
  have HoB : Hid b.ok := hob
  clear hw0 hI hJ hoa hob
  unfold sameC
  by_cases h0 : pa = pb
  rotate_left
  · rw [decide_eq_false h0] at *
    go_enter Try.func17, Try.ntmps17
    go_wp2_with (first
      | (rw [HW0.out])
      | (go_at_call 43; refine HQ.mono ?_; rintro e w1 ⟨rfl, hb1⟩; have HA1 := HA0.out.later hb1; have HB1 := HB0.out.later hb1; have c1 := HA1.seq; have c2 := HB1.seq; have c3 := HA1.author; have c4 := HB1.author; have c5 := HA1.text; have c6 := HB1.text; have HA1 : Hid (CmtAt _ _ _ _) := HA1; have HB1 : Hid (CmtAt _ _ _ _) := HB1)
      | ((with_reducible show wpList _ _ _ (Oper.mk _ (Op.load 24 (.tmp 11)) _ _ _ _ :: _) _ _); refine wpList_load_want (by rfl) 24 (.tmp 11) rfl w.heap.size 1 rfl (u8s a.root) HA1.out.root Try.underlying24 (size24' HoA.out.1) ?_; simp only [Act.put, List.setIfInBounds_toArray, List.set_cons_zero, List.set_cons_succ])
      | ((with_reducible show wpList _ _ _ (Oper.mk _ (Op.load 24 (.tmp 13)) _ _ _ _ :: _) _ _); refine wpList_load_want (by rfl) 24 (.tmp 13) rfl (w.heap.size + 1) 1 rfl (u8s b.root) HB1.out.root Try.underlying24 (size24' HoB.out.1) ?_; simp only [Act.put, List.setIfInBounds_toArray, List.set_cons_zero, List.set_cons_succ])
      | ((with_reducible show wpList _ _ _ (Oper.mk _ (Op.load 25 (.tmp 18)) _ _ _ _ :: _) _ _); refine wpList_load_want (by rfl) 25 (.tmp 18) rfl w.heap.size 33 rfl (u8s a.key) HA1.out.key Try.underlying25 (size25' HoA.out.2.1) ?_; simp only [Act.put, List.setIfInBounds_toArray, List.set_cons_zero, List.set_cons_succ])
      | ((with_reducible show wpList _ _ _ (Oper.mk _ (Op.load 25 (.tmp 20)) _ _ _ _ :: _) _ _); refine wpList_load_want (by rfl) 25 (.tmp 20) rfl (w.heap.size + 1) 33 rfl (u8s b.key) HB1.out.key Try.underlying25 (size25' HoB.out.2.1) ?_; simp only [Act.put, List.setIfInBounds_toArray, List.set_cons_zero, List.set_cons_succ]))
    go_ret
    refine ⟨?_, hb0.trans (hb1.mono hb0.size)⟩
    rfl
  rw [decide_eq_true h0] at *
  clear h0
  by_cases h1 : a.root = b.root
  rotate_left
  · rw [decide_eq_false h1] at *
    go_enter Try.func17, Try.ntmps17
    go_wp2_with (first
      | (rw [HW0.out])
      | (go_at_call 43; refine HQ.mono ?_; rintro e w1 ⟨rfl, hb1⟩; have HA1 := HA0.out.later hb1; have HB1 := HB0.out.later hb1; have c1 := HA1.seq; have c2 := HB1.seq; have c3 := HA1.author; have c4 := HB1.author; have c5 := HA1.text; have c6 := HB1.text; have HA1 : Hid (CmtAt _ _ _ _) := HA1; have HB1 : Hid (CmtAt _ _ _ _) := HB1)
      | ((with_reducible show wpList _ _ _ (Oper.mk _ (Op.load 24 (.tmp 11)) _ _ _ _ :: _) _ _); refine wpList_load_want (by rfl) 24 (.tmp 11) rfl w.heap.size 1 rfl (u8s a.root) HA1.out.root Try.underlying24 (size24' HoA.out.1) ?_; simp only [Act.put, List.setIfInBounds_toArray, List.set_cons_zero, List.set_cons_succ])
      | ((with_reducible show wpList _ _ _ (Oper.mk _ (Op.load 24 (.tmp 13)) _ _ _ _ :: _) _ _); refine wpList_load_want (by rfl) 24 (.tmp 13) rfl (w.heap.size + 1) 1 rfl (u8s b.root) HB1.out.root Try.underlying24 (size24' HoB.out.1) ?_; simp only [Act.put, List.setIfInBounds_toArray, List.set_cons_zero, List.set_cons_succ])
      | ((with_reducible show wpList _ _ _ (Oper.mk _ (Op.load 25 (.tmp 18)) _ _ _ _ :: _) _ _); refine wpList_load_want (by rfl) 25 (.tmp 18) rfl w.heap.size 33 rfl (u8s a.key) HA1.out.key Try.underlying25 (size25' HoA.out.2.1) ?_; simp only [Act.put, List.setIfInBounds_toArray, List.set_cons_zero, List.set_cons_succ])
      | ((with_reducible show wpList _ _ _ (Oper.mk _ (Op.load 25 (.tmp 20)) _ _ _ _ :: _) _ _); refine wpList_load_want (by rfl) 25 (.tmp 20) rfl (w.heap.size + 1) 33 rfl (u8s b.key) HB1.out.key Try.underlying25 (size25' HoB.out.2.1) ?_; simp only [Act.put, List.setIfInBounds_toArray, List.set_cons_zero, List.set_cons_succ]))
    go_ret
    refine ⟨?_, hb0.trans (hb1.mono hb0.size)⟩
    rfl
  rw [decide_eq_true h1] at *
  clear h1
  by_cases h2 : a.key = b.key
  rotate_left
  · rw [decide_eq_false h2] at *
    go_enter Try.func17, Try.ntmps17
    go_wp2_with (first
      | (rw [HW0.out])
      | (go_at_call 43; refine HQ.mono ?_; rintro e w1 ⟨rfl, hb1⟩; have HA1 := HA0.out.later hb1; have HB1 := HB0.out.later hb1; have c1 := HA1.seq; have c2 := HB1.seq; have c3 := HA1.author; have c4 := HB1.author; have c5 := HA1.text; have c6 := HB1.text; have HA1 : Hid (CmtAt _ _ _ _) := HA1; have HB1 : Hid (CmtAt _ _ _ _) := HB1)
      | ((with_reducible show wpList _ _ _ (Oper.mk _ (Op.load 24 (.tmp 11)) _ _ _ _ :: _) _ _); refine wpList_load_want (by rfl) 24 (.tmp 11) rfl w.heap.size 1 rfl (u8s a.root) HA1.out.root Try.underlying24 (size24' HoA.out.1) ?_; simp only [Act.put, List.setIfInBounds_toArray, List.set_cons_zero, List.set_cons_succ])
      | ((with_reducible show wpList _ _ _ (Oper.mk _ (Op.load 24 (.tmp 13)) _ _ _ _ :: _) _ _); refine wpList_load_want (by rfl) 24 (.tmp 13) rfl (w.heap.size + 1) 1 rfl (u8s b.root) HB1.out.root Try.underlying24 (size24' HoB.out.1) ?_; simp only [Act.put, List.setIfInBounds_toArray, List.set_cons_zero, List.set_cons_succ])
      | ((with_reducible show wpList _ _ _ (Oper.mk _ (Op.load 25 (.tmp 18)) _ _ _ _ :: _) _ _); refine wpList_load_want (by rfl) 25 (.tmp 18) rfl w.heap.size 33 rfl (u8s a.key) HA1.out.key Try.underlying25 (size25' HoA.out.2.1) ?_; simp only [Act.put, List.setIfInBounds_toArray, List.set_cons_zero, List.set_cons_succ])
      | ((with_reducible show wpList _ _ _ (Oper.mk _ (Op.load 25 (.tmp 20)) _ _ _ _ :: _) _ _); refine wpList_load_want (by rfl) 25 (.tmp 20) rfl (w.heap.size + 1) 33 rfl (u8s b.key) HB1.out.key Try.underlying25 (size25' HoB.out.2.1) ?_; simp only [Act.put, List.setIfInBounds_toArray, List.set_cons_zero, List.set_cons_succ]))
    go_ret
    refine ⟨?_, hb0.trans (hb1.mono hb0.size)⟩
    rfl
  rw [decide_eq_true h2] at *
  clear h2
  by_cases h3 : a.seq = b.seq
  rotate_left
  · have h3i : ¬ (a.seq : Int) = (b.seq : Int) := by omega
    rw [decide_eq_false h3]
    go_enter Try.func17, Try.ntmps17
    go_wp2_with (first
      | (rw [HW0.out])
      | (go_at_call 43; refine HQ.mono ?_; rintro e w1 ⟨rfl, hb1⟩; have HA1 := HA0.out.later hb1; have HB1 := HB0.out.later hb1; have c1 := HA1.seq; have c2 := HB1.seq; have c3 := HA1.author; have c4 := HB1.author; have c5 := HA1.text; have c6 := HB1.text; have HA1 : Hid (CmtAt _ _ _ _) := HA1; have HB1 : Hid (CmtAt _ _ _ _) := HB1)
      | ((with_reducible show wpList _ _ _ (Oper.mk _ (Op.load 24 (.tmp 11)) _ _ _ _ :: _) _ _); refine wpList_load_want (by rfl) 24 (.tmp 11) rfl w.heap.size 1 rfl (u8s a.root) HA1.out.root Try.underlying24 (size24' HoA.out.1) ?_; simp only [Act.put, List.setIfInBounds_toArray, List.set_cons_zero, List.set_cons_succ])
      | ((with_reducible show wpList _ _ _ (Oper.mk _ (Op.load 24 (.tmp 13)) _ _ _ _ :: _) _ _); refine wpList_load_want (by rfl) 24 (.tmp 13) rfl (w.heap.size + 1) 1 rfl (u8s b.root) HB1.out.root Try.underlying24 (size24' HoB.out.1) ?_; simp only [Act.put, List.setIfInBounds_toArray, List.set_cons_zero, List.set_cons_succ])
      | ((with_reducible show wpList _ _ _ (Oper.mk _ (Op.load 25 (.tmp 18)) _ _ _ _ :: _) _ _); refine wpList_load_want (by rfl) 25 (.tmp 18) rfl w.heap.size 33 rfl (u8s a.key) HA1.out.key Try.underlying25 (size25' HoA.out.2.1) ?_; simp only [Act.put, List.setIfInBounds_toArray, List.set_cons_zero, List.set_cons_succ])
      | ((with_reducible show wpList _ _ _ (Oper.mk _ (Op.load 25 (.tmp 20)) _ _ _ _ :: _) _ _); refine wpList_load_want (by rfl) 25 (.tmp 20) rfl (w.heap.size + 1) 33 rfl (u8s b.key) HB1.out.key Try.underlying25 (size25' HoB.out.2.1) ?_; simp only [Act.put, List.setIfInBounds_toArray, List.set_cons_zero, List.set_cons_succ]))
    go_ret
    refine ⟨?_, hb0.trans (hb1.mono hb0.size)⟩
    rfl
  have h3i : (a.seq : Int) = (b.seq : Int) := by omega
  rw [decide_eq_true h3]
  clear h3
  by_cases h4 : a.author = b.author
  rotate_left
  · have h4i : ¬ (a.author : Int) = (b.author : Int) := by omega
    rw [decide_eq_false h4]
    go_enter Try.func17, Try.ntmps17
    go_wp2_with (first
      | (rw [HW0.out])
      | (go_at_call 43; refine HQ.mono ?_; rintro e w1 ⟨rfl, hb1⟩; have HA1 := HA0.out.later hb1; have HB1 := HB0.out.later hb1; have c1 := HA1.seq; have c2 := HB1.seq; have c3 := HA1.author; have c4 := HB1.author; have c5 := HA1.text; have c6 := HB1.text; have HA1 : Hid (CmtAt _ _ _ _) := HA1; have HB1 : Hid (CmtAt _ _ _ _) := HB1)
      | ((with_reducible show wpList _ _ _ (Oper.mk _ (Op.load 24 (.tmp 11)) _ _ _ _ :: _) _ _); refine wpList_load_want (by rfl) 24 (.tmp 11) rfl w.heap.size 1 rfl (u8s a.root) HA1.out.root Try.underlying24 (size24' HoA.out.1) ?_; simp only [Act.put, List.setIfInBounds_toArray, List.set_cons_zero, List.set_cons_succ])
      | ((with_reducible show wpList _ _ _ (Oper.mk _ (Op.load 24 (.tmp 13)) _ _ _ _ :: _) _ _); refine wpList_load_want (by rfl) 24 (.tmp 13) rfl (w.heap.size + 1) 1 rfl (u8s b.root) HB1.out.root Try.underlying24 (size24' HoB.out.1) ?_; simp only [Act.put, List.setIfInBounds_toArray, List.set_cons_zero, List.set_cons_succ])
      | ((with_reducible show wpList _ _ _ (Oper.mk _ (Op.load 25 (.tmp 18)) _ _ _ _ :: _) _ _); refine wpList_load_want (by rfl) 25 (.tmp 18) rfl w.heap.size 33 rfl (u8s a.key) HA1.out.key Try.underlying25 (size25' HoA.out.2.1) ?_; simp only [Act.put, List.setIfInBounds_toArray, List.set_cons_zero, List.set_cons_succ])
      | ((with_reducible show wpList _ _ _ (Oper.mk _ (Op.load 25 (.tmp 20)) _ _ _ _ :: _) _ _); refine wpList_load_want (by rfl) 25 (.tmp 20) rfl (w.heap.size + 1) 33 rfl (u8s b.key) HB1.out.key Try.underlying25 (size25' HoB.out.2.1) ?_; simp only [Act.put, List.setIfInBounds_toArray, List.set_cons_zero, List.set_cons_succ]))
    go_ret
    refine ⟨?_, hb0.trans (hb1.mono hb0.size)⟩
    rfl
  have h4i : (a.author : Int) = (b.author : Int) := by omega
  rw [decide_eq_true h4]
  clear h4
  cases ht : (a.text.toList == b.text.toList) with
  | true =>
    go_enter Try.func17, Try.ntmps17
    go_wp2_with (first
      | (rw [HW0.out])
      | (go_at_call 43; refine HQ.mono ?_; rintro e w1 ⟨rfl, hb1⟩; have HA1 := HA0.out.later hb1; have HB1 := HB0.out.later hb1; have c1 := HA1.seq; have c2 := HB1.seq; have c3 := HA1.author; have c4 := HB1.author; have c5 := HA1.text; have c6 := HB1.text; have HA1 : Hid (CmtAt _ _ _ _) := HA1; have HB1 : Hid (CmtAt _ _ _ _) := HB1)
      | ((with_reducible show wpList _ _ _ (Oper.mk _ (Op.load 24 (.tmp 11)) _ _ _ _ :: _) _ _); refine wpList_load_want (by rfl) 24 (.tmp 11) rfl w.heap.size 1 rfl (u8s a.root) HA1.out.root Try.underlying24 (size24' HoA.out.1) ?_; simp only [Act.put, List.setIfInBounds_toArray, List.set_cons_zero, List.set_cons_succ])
      | ((with_reducible show wpList _ _ _ (Oper.mk _ (Op.load 24 (.tmp 13)) _ _ _ _ :: _) _ _); refine wpList_load_want (by rfl) 24 (.tmp 13) rfl (w.heap.size + 1) 1 rfl (u8s b.root) HB1.out.root Try.underlying24 (size24' HoB.out.1) ?_; simp only [Act.put, List.setIfInBounds_toArray, List.set_cons_zero, List.set_cons_succ])
      | ((with_reducible show wpList _ _ _ (Oper.mk _ (Op.load 25 (.tmp 18)) _ _ _ _ :: _) _ _); refine wpList_load_want (by rfl) 25 (.tmp 18) rfl w.heap.size 33 rfl (u8s a.key) HA1.out.key Try.underlying25 (size25' HoA.out.2.1) ?_; simp only [Act.put, List.setIfInBounds_toArray, List.set_cons_zero, List.set_cons_succ])
      | ((with_reducible show wpList _ _ _ (Oper.mk _ (Op.load 25 (.tmp 20)) _ _ _ _ :: _) _ _); refine wpList_load_want (by rfl) 25 (.tmp 20) rfl (w.heap.size + 1) 33 rfl (u8s b.key) HB1.out.key Try.underlying25 (size25' HoB.out.2.1) ?_; simp only [Act.put, List.setIfInBounds_toArray, List.set_cons_zero, List.set_cons_succ]))
    go_ret
    refine ⟨?_, hb0.trans (hb1.mono hb0.size)⟩
    rfl
  | false =>
    go_enter Try.func17, Try.ntmps17
    go_wp2_with (first
      | (rw [HW0.out])
      | (go_at_call 43; refine HQ.mono ?_; rintro e w1 ⟨rfl, hb1⟩; have HA1 := HA0.out.later hb1; have HB1 := HB0.out.later hb1; have c1 := HA1.seq; have c2 := HB1.seq; have c3 := HA1.author; have c4 := HB1.author; have c5 := HA1.text; have c6 := HB1.text; have HA1 : Hid (CmtAt _ _ _ _) := HA1; have HB1 : Hid (CmtAt _ _ _ _) := HB1)
      | ((with_reducible show wpList _ _ _ (Oper.mk _ (Op.load 24 (.tmp 11)) _ _ _ _ :: _) _ _); refine wpList_load_want (by rfl) 24 (.tmp 11) rfl w.heap.size 1 rfl (u8s a.root) HA1.out.root Try.underlying24 (size24' HoA.out.1) ?_; simp only [Act.put, List.setIfInBounds_toArray, List.set_cons_zero, List.set_cons_succ])
      | ((with_reducible show wpList _ _ _ (Oper.mk _ (Op.load 24 (.tmp 13)) _ _ _ _ :: _) _ _); refine wpList_load_want (by rfl) 24 (.tmp 13) rfl (w.heap.size + 1) 1 rfl (u8s b.root) HB1.out.root Try.underlying24 (size24' HoB.out.1) ?_; simp only [Act.put, List.setIfInBounds_toArray, List.set_cons_zero, List.set_cons_succ])
      | ((with_reducible show wpList _ _ _ (Oper.mk _ (Op.load 25 (.tmp 18)) _ _ _ _ :: _) _ _); refine wpList_load_want (by rfl) 25 (.tmp 18) rfl w.heap.size 33 rfl (u8s a.key) HA1.out.key Try.underlying25 (size25' HoA.out.2.1) ?_; simp only [Act.put, List.setIfInBounds_toArray, List.set_cons_zero, List.set_cons_succ])
      | ((with_reducible show wpList _ _ _ (Oper.mk _ (Op.load 25 (.tmp 20)) _ _ _ _ :: _) _ _); refine wpList_load_want (by rfl) 25 (.tmp 20) rfl (w.heap.size + 1) 33 rfl (u8s b.key) HB1.out.key Try.underlying25 (size25' HoB.out.2.1) ?_; simp only [Act.put, List.setIfInBounds_toArray, List.set_cons_zero, List.set_cons_succ]))
    go_ret
    refine ⟨?_, hb0.trans (hb1.mono hb0.size)⟩
    rfl

set_option maxRecDepth 100000 in
set_option maxHeartbeats 2000000 in
theorem sameCommit_any (p : Option Addr) (len cap : Nat) (pa : List (List Nat)) (a : Cmt) (p2 : Option Addr) (len2 cap2 : Nat) (pb : List (List Nat)) (b : Cmt) (hoa : a.ok) (hob : b.ok) (w : World) (hI : IsIds w.heap.size w p len cap pa) (hJ : IsIds w.heap.size w p2 len2 cap2 pb) :
    Calls Try.prog 16 #[.agg (cmtC (.slice p len cap) a).toArray, .agg (cmtC (.slice p2 len2 cap2) b).toArray] w fun e w' => e = .returned (.bool (sameC pa a pb b)) ∧ Below w.heap.size w w' := by
  obtain ⟨w0, hw0⟩ : ∃ w0, (w.alloc (.cells (cmtC (.slice p len cap) a).toArray 29)).alloc (.cells (cmtC (.slice p2 len2 cap2) b).toArray 29) = w0 := ⟨_, rfl⟩
  have hb0 : Below w.heap.size w w0 := by rw [← hw0]; exact ((Below.refl _ w).alloc (Nat.le_refl _) _).alloc (by simp) _
  have HA0 : Hid (CmtAt w0 w.heap.size (.slice p len cap) a) := by rw [← hw0]; exact ⟨hoa, (Row.new' w 29 _).alloc _⟩
  have HB0 : Hid (CmtAt w0 (w.heap.size + 1) (.slice p2 len2 cap2) b) := by
    rw [← hw0]
    have h := Row.new' (w.alloc (.cells (cmtC (.slice p len cap) a).toArray 29)) 29 (cmtC (.slice p2 len2 cap2) b)
    rw [World.size_alloc] at h
    exact ⟨hob, h⟩
  have HW0 : Hid ((w.alloc (.cells (cmtC (.slice p len cap) a).toArray 29)).alloc (.cells (cmtC (.slice p2 len2 cap2) b).toArray 29) = w0) := hw0
  have HQ := sameIds2_any p len cap pa p2 len2 cap2 pb w0 ((hI.below hb0).mono hb0.size) ((hJ.below hb0).mono hb0.size)
  have hp1 := HA0.out.par
  have hp2 := HB0.out.par
  have hqR := equal_ids hoa.1 hob.1
  have hqK := equal_keys hoa.2.1 hob.2.1
  have HoA : Hid a.ok := hoa
  have HoB : Hid b.ok := hob
  clear hw0 hI hJ hoa hob
  unfold sameC
  by_cases h0 : pa = pb
  rotate_left
  · rw [decide_eq_false h0] at *
    go_enter Try.func16, Try.ntmps16
    go_wp2_with (first
      | (rw [HW0.out])
      | (go_at_call 11; refine HQ.mono ?_; rintro e w1 ⟨rfl, hb1⟩; have HA1 := HA0.out.later hb1; have HB1 := HB0.out.later hb1; have c1 := HA1.seq; have c2 := HB1.seq; have c3 := HA1.author; have c4 := HB1.author; have c5 := HA1.text; have c6 := HB1.text; have HA1 : Hid (CmtAt _ _ _ _) := HA1; have HB1 : Hid (CmtAt _ _ _ _) := HB1)
      | ((with_reducible show wpList _ _ _ (Oper.mk _ (Op.load 24 (.tmp 11)) _ _ _ _ :: _) _ _); refine wpList_load_want (by rfl) 24 (.tmp 11) rfl w.heap.size 1 rfl (u8s a.root) HA1.out.root Try.underlying24 (size24' HoA.out.1) ?_; simp only [Act.put, List.setIfInBounds_toArray, List.set_cons_zero, List.set_cons_succ])
      | ((with_reducible show wpList _ _ _ (Oper.mk _ (Op.load 24 (.tmp 13)) _ _ _ _ :: _) _ _); refine wpList_load_want (by rfl) 24 (.tmp 13) rfl (w.heap.size + 1) 1 rfl (u8s b.root) HB1.out.root Try.underlying24 (size24' HoB.out.1) ?_; simp only [Act.put, List.setIfInBounds_toArray, List.set_cons_zero, List.set_cons_succ])
      | ((with_reducible show wpList _ _ _ (Oper.mk _ (Op.load 25 (.tmp 18)) _ _ _ _ :: _) _ _); refine wpList_load_want (by rfl) 25 (.tmp 18) rfl w.heap.size 33 rfl (u8s a.key) HA1.out.key Try.underlying25 (size25' HoA.out.2.1) ?_; simp only [Act.put, List.setIfInBounds_toArray, List.set_cons_zero, List.set_cons_succ])
      | ((with_reducible show wpList _ _ _ (Oper.mk _ (Op.load 25 (.tmp 20)) _ _ _ _ :: _) _ _); refine wpList_load_want (by rfl) 25 (.tmp 20) rfl (w.heap.size + 1) 33 rfl (u8s b.key) HB1.out.key Try.underlying25 (size25' HoB.out.2.1) ?_; simp only [Act.put, List.setIfInBounds_toArray, List.set_cons_zero, List.set_cons_succ]))
    go_ret
    refine ⟨?_, hb0.trans (hb1.mono hb0.size)⟩
    rfl
  rw [decide_eq_true h0] at *
  clear h0
  by_cases h1 : a.root = b.root
  rotate_left
  · rw [decide_eq_false h1] at *
    go_enter Try.func16, Try.ntmps16
    go_wp2_with (first
      | (rw [HW0.out])
      | (go_at_call 11; refine HQ.mono ?_; rintro e w1 ⟨rfl, hb1⟩; have HA1 := HA0.out.later hb1; have HB1 := HB0.out.later hb1; have c1 := HA1.seq; have c2 := HB1.seq; have c3 := HA1.author; have c4 := HB1.author; have c5 := HA1.text; have c6 := HB1.text; have HA1 : Hid (CmtAt _ _ _ _) := HA1; have HB1 : Hid (CmtAt _ _ _ _) := HB1)
      | ((with_reducible show wpList _ _ _ (Oper.mk _ (Op.load 24 (.tmp 11)) _ _ _ _ :: _) _ _); refine wpList_load_want (by rfl) 24 (.tmp 11) rfl w.heap.size 1 rfl (u8s a.root) HA1.out.root Try.underlying24 (size24' HoA.out.1) ?_; simp only [Act.put, List.setIfInBounds_toArray, List.set_cons_zero, List.set_cons_succ])
      | ((with_reducible show wpList _ _ _ (Oper.mk _ (Op.load 24 (.tmp 13)) _ _ _ _ :: _) _ _); refine wpList_load_want (by rfl) 24 (.tmp 13) rfl (w.heap.size + 1) 1 rfl (u8s b.root) HB1.out.root Try.underlying24 (size24' HoB.out.1) ?_; simp only [Act.put, List.setIfInBounds_toArray, List.set_cons_zero, List.set_cons_succ])
      | ((with_reducible show wpList _ _ _ (Oper.mk _ (Op.load 25 (.tmp 18)) _ _ _ _ :: _) _ _); refine wpList_load_want (by rfl) 25 (.tmp 18) rfl w.heap.size 33 rfl (u8s a.key) HA1.out.key Try.underlying25 (size25' HoA.out.2.1) ?_; simp only [Act.put, List.setIfInBounds_toArray, List.set_cons_zero, List.set_cons_succ])
      | ((with_reducible show wpList _ _ _ (Oper.mk _ (Op.load 25 (.tmp 20)) _ _ _ _ :: _) _ _); refine wpList_load_want (by rfl) 25 (.tmp 20) rfl (w.heap.size + 1) 33 rfl (u8s b.key) HB1.out.key Try.underlying25 (size25' HoB.out.2.1) ?_; simp only [Act.put, List.setIfInBounds_toArray, List.set_cons_zero, List.set_cons_succ]))
    go_ret
    refine ⟨?_, hb0.trans (hb1.mono hb0.size)⟩
    rfl
  rw [decide_eq_true h1] at *
  clear h1
  by_cases h2 : a.key = b.key
  rotate_left
  · rw [decide_eq_false h2] at *
    go_enter Try.func16, Try.ntmps16
    go_wp2_with (first
      | (rw [HW0.out])
      | (go_at_call 11; refine HQ.mono ?_; rintro e w1 ⟨rfl, hb1⟩; have HA1 := HA0.out.later hb1; have HB1 := HB0.out.later hb1; have c1 := HA1.seq; have c2 := HB1.seq; have c3 := HA1.author; have c4 := HB1.author; have c5 := HA1.text; have c6 := HB1.text; have HA1 : Hid (CmtAt _ _ _ _) := HA1; have HB1 : Hid (CmtAt _ _ _ _) := HB1)
      | ((with_reducible show wpList _ _ _ (Oper.mk _ (Op.load 24 (.tmp 11)) _ _ _ _ :: _) _ _); refine wpList_load_want (by rfl) 24 (.tmp 11) rfl w.heap.size 1 rfl (u8s a.root) HA1.out.root Try.underlying24 (size24' HoA.out.1) ?_; simp only [Act.put, List.setIfInBounds_toArray, List.set_cons_zero, List.set_cons_succ])
      | ((with_reducible show wpList _ _ _ (Oper.mk _ (Op.load 24 (.tmp 13)) _ _ _ _ :: _) _ _); refine wpList_load_want (by rfl) 24 (.tmp 13) rfl (w.heap.size + 1) 1 rfl (u8s b.root) HB1.out.root Try.underlying24 (size24' HoB.out.1) ?_; simp only [Act.put, List.setIfInBounds_toArray, List.set_cons_zero, List.set_cons_succ])
      | ((with_reducible show wpList _ _ _ (Oper.mk _ (Op.load 25 (.tmp 18)) _ _ _ _ :: _) _ _); refine wpList_load_want (by rfl) 25 (.tmp 18) rfl w.heap.size 33 rfl (u8s a.key) HA1.out.key Try.underlying25 (size25' HoA.out.2.1) ?_; simp only [Act.put, List.setIfInBounds_toArray, List.set_cons_zero, List.set_cons_succ])
      | ((with_reducible show wpList _ _ _ (Oper.mk _ (Op.load 25 (.tmp 20)) _ _ _ _ :: _) _ _); refine wpList_load_want (by rfl) 25 (.tmp 20) rfl (w.heap.size + 1) 33 rfl (u8s b.key) HB1.out.key Try.underlying25 (size25' HoB.out.2.1) ?_; simp only [Act.put, List.setIfInBounds_toArray, List.set_cons_zero, List.set_cons_succ]))
    go_ret
    refine ⟨?_, hb0.trans (hb1.mono hb0.size)⟩
    rfl
  rw [decide_eq_true h2] at *
  clear h2
  by_cases h3 : a.seq = b.seq
  rotate_left
  · have h3i : ¬ (a.seq : Int) = (b.seq : Int) := by omega
    rw [decide_eq_false h3]
    go_enter Try.func16, Try.ntmps16
    go_wp2_with (first
      | (rw [HW0.out])
      | (go_at_call 11; refine HQ.mono ?_; rintro e w1 ⟨rfl, hb1⟩; have HA1 := HA0.out.later hb1; have HB1 := HB0.out.later hb1; have c1 := HA1.seq; have c2 := HB1.seq; have c3 := HA1.author; have c4 := HB1.author; have c5 := HA1.text; have c6 := HB1.text; have HA1 : Hid (CmtAt _ _ _ _) := HA1; have HB1 : Hid (CmtAt _ _ _ _) := HB1)
      | ((with_reducible show wpList _ _ _ (Oper.mk _ (Op.load 24 (.tmp 11)) _ _ _ _ :: _) _ _); refine wpList_load_want (by rfl) 24 (.tmp 11) rfl w.heap.size 1 rfl (u8s a.root) HA1.out.root Try.underlying24 (size24' HoA.out.1) ?_; simp only [Act.put, List.setIfInBounds_toArray, List.set_cons_zero, List.set_cons_succ])
      | ((with_reducible show wpList _ _ _ (Oper.mk _ (Op.load 24 (.tmp 13)) _ _ _ _ :: _) _ _); refine wpList_load_want (by rfl) 24 (.tmp 13) rfl (w.heap.size + 1) 1 rfl (u8s b.root) HB1.out.root Try.underlying24 (size24' HoB.out.1) ?_; simp only [Act.put, List.setIfInBounds_toArray, List.set_cons_zero, List.set_cons_succ])
      | ((with_reducible show wpList _ _ _ (Oper.mk _ (Op.load 25 (.tmp 18)) _ _ _ _ :: _) _ _); refine wpList_load_want (by rfl) 25 (.tmp 18) rfl w.heap.size 33 rfl (u8s a.key) HA1.out.key Try.underlying25 (size25' HoA.out.2.1) ?_; simp only [Act.put, List.setIfInBounds_toArray, List.set_cons_zero, List.set_cons_succ])
      | ((with_reducible show wpList _ _ _ (Oper.mk _ (Op.load 25 (.tmp 20)) _ _ _ _ :: _) _ _); refine wpList_load_want (by rfl) 25 (.tmp 20) rfl (w.heap.size + 1) 33 rfl (u8s b.key) HB1.out.key Try.underlying25 (size25' HoB.out.2.1) ?_; simp only [Act.put, List.setIfInBounds_toArray, List.set_cons_zero, List.set_cons_succ]))
    go_ret
    refine ⟨?_, hb0.trans (hb1.mono hb0.size)⟩
    rfl
  have h3i : (a.seq : Int) = (b.seq : Int) := by omega
  rw [decide_eq_true h3]
  clear h3
  by_cases h4 : a.author = b.author
  rotate_left
  · have h4i : ¬ (a.author : Int) = (b.author : Int) := by omega
    rw [decide_eq_false h4]
    go_enter Try.func16, Try.ntmps16
    go_wp2_with (first
      | (rw [HW0.out])
      | (go_at_call 11; refine HQ.mono ?_; rintro e w1 ⟨rfl, hb1⟩; have HA1 := HA0.out.later hb1; have HB1 := HB0.out.later hb1; have c1 := HA1.seq; have c2 := HB1.seq; have c3 := HA1.author; have c4 := HB1.author; have c5 := HA1.text; have c6 := HB1.text; have HA1 : Hid (CmtAt _ _ _ _) := HA1; have HB1 : Hid (CmtAt _ _ _ _) := HB1)
      | ((with_reducible show wpList _ _ _ (Oper.mk _ (Op.load 24 (.tmp 11)) _ _ _ _ :: _) _ _); refine wpList_load_want (by rfl) 24 (.tmp 11) rfl w.heap.size 1 rfl (u8s a.root) HA1.out.root Try.underlying24 (size24' HoA.out.1) ?_; simp only [Act.put, List.setIfInBounds_toArray, List.set_cons_zero, List.set_cons_succ])
      | ((with_reducible show wpList _ _ _ (Oper.mk _ (Op.load 24 (.tmp 13)) _ _ _ _ :: _) _ _); refine wpList_load_want (by rfl) 24 (.tmp 13) rfl (w.heap.size + 1) 1 rfl (u8s b.root) HB1.out.root Try.underlying24 (size24' HoB.out.1) ?_; simp only [Act.put, List.setIfInBounds_toArray, List.set_cons_zero, List.set_cons_succ])
      | ((with_reducible show wpList _ _ _ (Oper.mk _ (Op.load 25 (.tmp 18)) _ _ _ _ :: _) _ _); refine wpList_load_want (by rfl) 25 (.tmp 18) rfl w.heap.size 33 rfl (u8s a.key) HA1.out.key Try.underlying25 (size25' HoA.out.2.1) ?_; simp only [Act.put, List.setIfInBounds_toArray, List.set_cons_zero, List.set_cons_succ])
      | ((with_reducible show wpList _ _ _ (Oper.mk _ (Op.load 25 (.tmp 20)) _ _ _ _ :: _) _ _); refine wpList_load_want (by rfl) 25 (.tmp 20) rfl (w.heap.size + 1) 33 rfl (u8s b.key) HB1.out.key Try.underlying25 (size25' HoB.out.2.1) ?_; simp only [Act.put, List.setIfInBounds_toArray, List.set_cons_zero, List.set_cons_succ]))
    go_ret
    refine ⟨?_, hb0.trans (hb1.mono hb0.size)⟩
    rfl
  have h4i : (a.author : Int) = (b.author : Int) := by omega
  rw [decide_eq_true h4]
  clear h4
  cases ht : (a.text.toList == b.text.toList) with
  | true =>
    go_enter Try.func16, Try.ntmps16
    go_wp2_with (first
      | (rw [HW0.out])
      | (go_at_call 11; refine HQ.mono ?_; rintro e w1 ⟨rfl, hb1⟩; have HA1 := HA0.out.later hb1; have HB1 := HB0.out.later hb1; have c1 := HA1.seq; have c2 := HB1.seq; have c3 := HA1.author; have c4 := HB1.author; have c5 := HA1.text; have c6 := HB1.text; have HA1 : Hid (CmtAt _ _ _ _) := HA1; have HB1 : Hid (CmtAt _ _ _ _) := HB1)
      | ((with_reducible show wpList _ _ _ (Oper.mk _ (Op.load 24 (.tmp 11)) _ _ _ _ :: _) _ _); refine wpList_load_want (by rfl) 24 (.tmp 11) rfl w.heap.size 1 rfl (u8s a.root) HA1.out.root Try.underlying24 (size24' HoA.out.1) ?_; simp only [Act.put, List.setIfInBounds_toArray, List.set_cons_zero, List.set_cons_succ])
      | ((with_reducible show wpList _ _ _ (Oper.mk _ (Op.load 24 (.tmp 13)) _ _ _ _ :: _) _ _); refine wpList_load_want (by rfl) 24 (.tmp 13) rfl (w.heap.size + 1) 1 rfl (u8s b.root) HB1.out.root Try.underlying24 (size24' HoB.out.1) ?_; simp only [Act.put, List.setIfInBounds_toArray, List.set_cons_zero, List.set_cons_succ])
      | ((with_reducible show wpList _ _ _ (Oper.mk _ (Op.load 25 (.tmp 18)) _ _ _ _ :: _) _ _); refine wpList_load_want (by rfl) 25 (.tmp 18) rfl w.heap.size 33 rfl (u8s a.key) HA1.out.key Try.underlying25 (size25' HoA.out.2.1) ?_; simp only [Act.put, List.setIfInBounds_toArray, List.set_cons_zero, List.set_cons_succ])
      | ((with_reducible show wpList _ _ _ (Oper.mk _ (Op.load 25 (.tmp 20)) _ _ _ _ :: _) _ _); refine wpList_load_want (by rfl) 25 (.tmp 20) rfl (w.heap.size + 1) 33 rfl (u8s b.key) HB1.out.key Try.underlying25 (size25' HoB.out.2.1) ?_; simp only [Act.put, List.setIfInBounds_toArray, List.set_cons_zero, List.set_cons_succ]))
    go_ret
    refine ⟨?_, hb0.trans (hb1.mono hb0.size)⟩
    rfl
  | false =>
    go_enter Try.func16, Try.ntmps16
    go_wp2_with (first
      | (rw [HW0.out])
      | (go_at_call 11; refine HQ.mono ?_; rintro e w1 ⟨rfl, hb1⟩; have HA1 := HA0.out.later hb1; have HB1 := HB0.out.later hb1; have c1 := HA1.seq; have c2 := HB1.seq; have c3 := HA1.author; have c4 := HB1.author; have c5 := HA1.text; have c6 := HB1.text; have HA1 : Hid (CmtAt _ _ _ _) := HA1; have HB1 : Hid (CmtAt _ _ _ _) := HB1)
      | ((with_reducible show wpList _ _ _ (Oper.mk _ (Op.load 24 (.tmp 11)) _ _ _ _ :: _) _ _); refine wpList_load_want (by rfl) 24 (.tmp 11) rfl w.heap.size 1 rfl (u8s a.root) HA1.out.root Try.underlying24 (size24' HoA.out.1) ?_; simp only [Act.put, List.setIfInBounds_toArray, List.set_cons_zero, List.set_cons_succ])
      | ((with_reducible show wpList _ _ _ (Oper.mk _ (Op.load 24 (.tmp 13)) _ _ _ _ :: _) _ _); refine wpList_load_want (by rfl) 24 (.tmp 13) rfl (w.heap.size + 1) 1 rfl (u8s b.root) HB1.out.root Try.underlying24 (size24' HoB.out.1) ?_; simp only [Act.put, List.setIfInBounds_toArray, List.set_cons_zero, List.set_cons_succ])
      | ((with_reducible show wpList _ _ _ (Oper.mk _ (Op.load 25 (.tmp 18)) _ _ _ _ :: _) _ _); refine wpList_load_want (by rfl) 25 (.tmp 18) rfl w.heap.size 33 rfl (u8s a.key) HA1.out.key Try.underlying25 (size25' HoA.out.2.1) ?_; simp only [Act.put, List.setIfInBounds_toArray, List.set_cons_zero, List.set_cons_succ])
      | ((with_reducible show wpList _ _ _ (Oper.mk _ (Op.load 25 (.tmp 20)) _ _ _ _ :: _) _ _); refine wpList_load_want (by rfl) 25 (.tmp 20) rfl (w.heap.size + 1) 33 rfl (u8s b.key) HB1.out.key Try.underlying25 (size25' HoB.out.2.1) ?_; simp only [Act.put, List.setIfInBounds_toArray, List.set_cons_zero, List.set_cons_succ]))
    go_ret
    refine ⟨?_, hb0.trans (hb1.mono hb0.size)⟩
    rfl

end Go.Proofs.Ytkhhlcjjdkldjaa
