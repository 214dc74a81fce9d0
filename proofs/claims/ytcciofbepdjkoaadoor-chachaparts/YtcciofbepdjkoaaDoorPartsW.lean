/-
  The law ChachaParts, walked: for every key, counter, nonce, slice of bytes and number it returns true.
-/
import Derived.Test.YtcciofbepdjkoaaDoorTurned
namespace Go.Proofs.YtcciofbepdjkoaaDoor
open Go.RowKit

set_option maxRecDepth 100000 in
set_option maxHeartbeats 4000000 in
theorem chachaParts_out (c : Nat) (KV NV : List Value) (p : Option Addr) (len cap : Nat) (mz : Int) (w : World) (h : ¬ (len ≤ 500 ∧ 0 ≤ mz ∧ mz ≤ (len : Int) / 64)) :
    Calls Tryd.prog 7 #[.agg KV.toArray, .int .u32 c, .agg NV.toArray, .slice p len cap, .int .i64 mz] w fun e w' => e = .returned (.bool true) ∧ Below w.heap.size w w' := by
  obtain ⟨w0, hw0⟩ : ∃ w0, w0 = (w.alloc (.cells KV.toArray 25)).alloc (.cells NV.toArray 26) := ⟨_, rfl⟩
  have HW0 : Hid ((w.alloc (.cells KV.toArray 25)).alloc (.cells NV.toArray 26) = w0) := hw0.symm
  have Hb0 : Hid (Below w.heap.size w w0) := by rw [hw0]; exact ((Below.refl _ w).alloc (Nat.le_refl _) _).alloc (by simp) _
  clear hw0
  by_cases h1 : (500 : Int) < (len : Int)
  · go_enter Tryd.func7, Tryd.ntmps7
    go_wp2_with (go_at_call 8; rw [HW0.out]; refine (awake_any _).mono ?_; rintro e w1 ⟨rfl, hw1⟩; obtain rfl : w0 = w1 := hw1.symm; clear hw1)
    go_ret
    exact ⟨rfl, Hb0.out⟩
  · by_cases h2 : mz < 0
    · go_enter Tryd.func7, Tryd.ntmps7
      go_wp2_with (go_at_call 8; rw [HW0.out]; refine (awake_any _).mono ?_; rintro e w1 ⟨rfl, hw1⟩; obtain rfl : w0 = w1 := hw1.symm; clear hw1)
      go_ret
      exact ⟨rfl, Hb0.out⟩
    · have h3 : (len : Int) / 64 < mz := by omega
      clear h
      go_enter Tryd.func7, Tryd.ntmps7
      go_wp2_with (go_at_call 8; rw [HW0.out]; refine (awake_any _).mono ?_; rintro e w1 ⟨rfl, hw1⟩; obtain rfl : w0 = w1 := hw1.symm; clear hw1)
      go_ret
      exact ⟨rfl, Hb0.out⟩

set_option maxRecDepth 100000 in
set_option maxHeartbeats 4000000 in
theorem chachaParts_main (c : Nat) (KV NV : List Value) (HKl : Hid (KV.length = 32)) (HNl : Hid (NV.length = 12)) (p : Option Addr) (len cap : Nat) (zs ts rs : List Nat) (k K6 L ck : Nat) (hck : (c + k) % 4294967296 = ck) (hK6 : 64 * k = K6) (hL : L + K6 = len) (hlen : len ≤ 500) (w : World) (hI : IsBytes w.heap.size w p len cap zs) (htl : ts.length = len) (htx : ∀ z ∈ ts, z < 256) (hrs : rs = ts.drop K6)
    (H1 : Hid (∀ W, Below w.heap.size w W → Calls Tryd.prog 13 #[.agg KV.toArray, .int .u32 c, .agg NV.toArray, .slice p len cap] W fun e w' => ∃ g, e = .returned (.slice (some ⟨g, 0, none⟩) len len) ∧ W.heap.size ≤ g ∧ Row w' g 5 (u8s ts) ∧ Below W.heap.size W w'))
    (H2 : Hid (∀ W q C, Below w.heap.size w W → IsBytes W.heap.size W q L C (zs.drop K6) → Calls Tryd.prog 13 #[.agg KV.toArray, .int .u32 ck, .agg NV.toArray, .slice q L C] W fun e w' => ∃ g, e = .returned (.slice (some ⟨g, 0, none⟩) L L) ∧ W.heap.size ≤ g ∧ Row w' g 5 (u8s rs) ∧ Below W.heap.size W w')) :
    Calls Tryd.prog 7 #[.agg KV.toArray, .int .u32 c, .agg NV.toArray, .slice p len cap, .int .i64 k] w fun e w' => e = .returned (.bool true) ∧ Below w.heap.size w w' := by
  have HI : Hid (IsBytes w.heap.size w p len cap zs) := hI
  have HTl : Hid (ts.length = len) := htl
  have HTx : Hid (∀ z ∈ ts, z < 256) := htx
  have HRs : Hid (rs = ts.drop K6) := hrs
  have HRl : Hid (rs.length = L) := by show _ = _; rw [hrs, List.length_drop]; omega
  have HRx : Hid (∀ z ∈ rs, z < 256) := fun z hz => htx z (List.mem_of_mem_drop (by rw [← hrs]; exact hz))
  have hlc := hI.2.1
  have hcc := hI.2.2.1
  have h64 : k ≤ len / 64 := by omega
  have h64i : ¬ ((len : Int) / 64 < (k : Int)) := by omega
  have hk0 : ¬ (k : Int) < 0 := by omega
  have hli : ¬ (500 : Int) < (len : Int) := by omega
  have e1 : IntKind.u32.wrap (k : Int) = (k : Int) := by rw [IntKind.wrap_u32]; omega
  have e2 : IntKind.u32.wrap ((c : Int) + (k : Int)) = (ck : Int) := by rw [IntKind.wrap_u32]; omega
  have e3 : IntKind.i64.wrap (64 * (k : Int)) = (K6 : Int) := by rw [IntKind.wrap_i64]; omega
  have hKi : (K6 : Int) ≤ (len : Int) := by omega
  have hKn : K6 ≤ len := by omega
  have HLe : Hid (len - K6 = L) := by show _ = _; omega
  obtain rfl : L = len - K6 := by omega
  clear hI htl htx hrs HLe
  obtain ⟨w0, hw0⟩ : ∃ w0, w0 = (w.alloc (.cells KV.toArray 25)).alloc (.cells NV.toArray 26) := ⟨_, rfl⟩
  have HW0 : Hid ((w.alloc (.cells KV.toArray 25)).alloc (.cells NV.toArray 26) = w0) := hw0.symm
  have Hb0 : Hid (Below w.heap.size w w0) := by rw [hw0]; exact ((Below.refl _ w).alloc (Nat.le_refl _) _).alloc (by simp) _
  have HrK : Hid (Row w0 w.heap.size 25 KV) := by rw [hw0]; exact (Row.new' w 25 _).alloc _
  have HrN : Hid (Row w0 (w.heap.size + 1) 26 NV) := by
    have h := Row.new' (w.alloc (.cells KV.toArray 25)) 26 NV
    rw [World.size_alloc] at h
    rw [hw0]
    exact h
  clear hw0 hck hL hK6
  go_enter Tryd.func7, Tryd.ntmps7
  go_wp2_with (first
    | (go_at_call 8; rw [HW0.out]; refine (awake_any _).mono ?_; rintro e w1 ⟨rfl, hw1⟩; obtain rfl : w0 = w1 := hw1.symm; clear hw1)
    | ((with_reducible show wpList _ _ _ (Oper.mk (some 29) (Op.load 25 (.tmp 5)) _ _ _ _ :: _) _ _); refine wpList_load_Row rfl 25 (.tmp 5) rfl rfl HrK.out Tryd.underlying25 (by rw [HKl.out]; exact size25) ?_; simp only [Act.put, List.setIfInBounds_toArray, List.set_cons_zero, List.set_cons_succ])
    | ((with_reducible show wpList _ _ _ (Oper.mk (some 31) (Op.load 26 (.tmp 7)) _ _ _ _ :: _) _ _); refine wpList_load_Row rfl 26 (.tmp 7) rfl rfl HrN.out Tryd.underlying26 (by rw [HNl.out]; exact size26) ?_; simp only [Act.put, List.setIfInBounds_toArray, List.set_cons_zero, List.set_cons_succ])
    | (go_at_call 13; refine (H1.out _ Hb0.out).mono ?_; rintro e w3 ⟨g3, rfl, hg3, hr3, hb3⟩; have HrK3 : Hid (Row w3 w.heap.size 25 KV) := HrK.out.later hb3; have HrN3 : Hid (Row w3 (w.heap.size + 1) 26 NV) := HrN.out.later hb3; have Hb3 : Hid (Below w.heap.size w w3) := Hb0.out.trans (hb3.mono Hb0.out.size); have Hr3 : Hid (Row w3 g3 5 (u8s ts)) := hr3; clear hr3 hb3))
  have HWh : Hid (IsBytes w3.heap.size w3 (some ⟨g3, 0, none⟩) len len ts) := bytes_of_row Hr3.out HTx.out HTl.out (by omega)
  have HKK : Hid (len - K6 + K6 = len ∧ cap - K6 + K6 = cap) := ⟨by omega, by omega⟩
  have HI3 : Hid (IsBytes w3.heap.size w3 p len cap zs) := HI.out.later Hb3.out
  rcases p with _ | ad
  · have HQ : Hid (IsBytes w3.drew.heap.size w3.drew none (len - K6) (cap - K6) (zs.drop K6)) := IsBytes.rest (W := w3.drew) (HI3.out) HKK.out.1 HKK.out.2 (fun hp => by
      rcases HI3.out.2.2.2.2 with h | ⟨b, off, e, _⟩
      · omega
      · cases e)
    by_cases hKe : len = K6
    · have hK1 : (len = K6) = True := eq_true hKe
      have HS3w : Hid (Str w3 (.slice (some ⟨g3, 0, none⟩) (len - K6) (len - K6)) (strOf rs)) := by rw [HRs.out]; exact str_of_bytes (IsBytes.rest HWh.out HKK.out.1 HKK.out.1 (fun hp => by omega))
      clear hKe
      refine wp_region_noPanic ?_
      refine wp_region_held_drew (S := (fun W' => Row W' w.heap.size 25 KV ∧ Row W' (w.heap.size + 1) 26 NV ∧ Below w3.heap.size w3 W')) (by kernel_rfl) ⟨HrK3.out.drew, HrN3.out.drew, (Below.refl _ w3).drew⟩ (fun hHeld => ?_)
      refine wpAnyH_takesAt 0 10 2 (of_decide_eq_true (by kernel_rfl)) rfl (fun _ _ _ _ _ h => h) (by kernel_rfl) (by kernel_rfl) hHeld ?_
      simp only [List.drop_zero, List.take_succ_cons, List.take_zero]
      refine wpHeld_load (by rfl) 25 (.tmp 5) (by rfl) (w.heap.size) 0 (by rfl) KV (fun _ h => h.1.range) Tryd.underlying25 (by rw [HKl.out]; exact size25) ?_
      simp only [Act.put, List.setIfInBounds_toArray, List.set_cons_zero, List.set_cons_succ]
      iterate 4 (refine wpHeld_step (v := ?_) (by rfl) (fun wz hSw => ?_) ?_; rotate_left; (focus (go_simp; try with_reducible rfl)); (simp only [Act.put, List.setIfInBounds_toArray, List.set_cons_zero, List.set_cons_succ]))
      refine wpHeld_load (by rfl) 26 (.tmp 7) (by rfl) (w.heap.size + 1) 0 (by rfl) NV (fun _ h => h.2.1.range) Tryd.underlying26 (by rw [HNl.out]; exact size26) ?_
      simp only [Act.put, List.setIfInBounds_toArray, List.set_cons_zero, List.set_cons_succ]
      iterate 4 (refine wpHeld_step (v := ?_) (by rfl) (fun wz hSw => ?_) ?_; rotate_left; (focus (go_simp; try with_reducible rfl)); (simp only [Act.put, List.setIfInBounds_toArray, List.set_cons_zero, List.set_cons_succ]))
      refine wpHeld_nil ?_
      refine wpAnyH_only (i := 10) (by kernel_rfl) rfl (fun K hK => ?_)
      rw [if_pos (by rfl)]
      go_simp
      refine (H2.out _ _ _ Hb3.out.drew HQ.out).mono ?_
      rintro e w4 ⟨g4, rfl, hg4, hr4, hb4⟩
      have hb34 : Below w3.heap.size w3 w4 := (Below.refl _ w3).drew.trans hb4
      have hHeld4 : Row w4 w.heap.size 25 KV ∧ Row w4 (w.heap.size + 1) 26 NV ∧ Below w3.heap.size w3 w4 := ⟨HrK3.out.drew.later hb4, HrN3.out.drew.later hb4, hb34⟩
      refine hK.out _ _ hHeld4 ?_
      clear hK K
      refine wpAnyH_takesAt 11 1 0 (of_decide_eq_true (by kernel_rfl)) rfl (fun _ _ _ _ _ h => h) (by kernel_rfl) (by kernel_rfl) hHeld4 ?_
      simp only [List.drop_succ_cons, List.drop_zero, List.take_succ_cons, List.take_zero]
      (refine wpHeld_step (v := ?_) (by rfl) (fun wz hSw => ?_) ?_; rotate_left; (focus (go_simp; try with_reducible rfl)); (simp only [Act.put, List.setIfInBounds_toArray, List.set_cons_zero, List.set_cons_succ]))
      refine wpHeld_nil ?_
      refine wpAnyH_done (by kernel_rfl) ?_ _
      refine NoPanic.normal ?_
      have Hr4 : Hid (Row w4 g4 5 (u8s rs)) := hr4
      have Hb34 : Hid (Below w3.heap.size w3 w4) := hb34
      have HbE : Hid (Below w.heap.size w w4) := Hb3.out.trans (hb34.mono Hb3.out.size)
      have HS4 : Hid (Str w4 (.slice (some ⟨g4, 0, none⟩) (len - K6) (len - K6)) (strOf rs)) := str_of_bytes (bytes_of_row hr4 HRx.out HRl.out (by omega))
      have HS3 := HS3w.out.later hb34
      have HS3h : Hid _ := HS3
      clear HS3
      clear hr4 hb34 hHeld4 hHeld hb4 hg4
      go_wp2
      refine wp_region_noPanic ?_
      refine wp_region_held_drew (S := fun W' => Below w4.heap.size w4 W') (by kernel_rfl) (Below.refl _ w4).drew (fun hHeld => ?_)
      refine wpAnyH_takesAt 0 16 0 (of_decide_eq_true (by kernel_rfl)) rfl (fun _ _ _ _ _ h => h) (by kernel_rfl) (by kernel_rfl) hHeld ?_
      simp only [List.drop_zero, List.take_succ_cons, List.take_zero]
      iterate 4 (refine wpHeld_step (v := ?_) (by rfl) (fun wz hSw => ?_) ?_; rotate_left; (focus (go_simp; try with_reducible rfl)); (simp only [Act.put, List.setIfInBounds_toArray, List.set_cons_zero, List.set_cons_succ]))
      refine wpHeld_step (v := .bool true) (by rfl) (fun wz hSw => ?_) ?_
      · go_simp
      simp only [Act.put, List.setIfInBounds_toArray, List.set_cons_zero, List.set_cons_succ]
      iterate 2 (refine wpHeld_step (v := ?_) (by rfl) (fun wz hSw => ?_) ?_; rotate_left; (focus (go_simp; try with_reducible rfl)); (simp only [Act.put, List.setIfInBounds_toArray, List.set_cons_zero, List.set_cons_succ]))
      refine wpHeld_step (v := .string (strOf rs)) (by rfl) (fun wz hSw => ?_) ?_
      · have hz := HS4.out wz hSw
        go_simp
      simp only [Act.put, List.setIfInBounds_toArray, List.set_cons_zero, List.set_cons_succ]
      iterate 4 (refine wpHeld_step (v := ?_) (by rfl) (fun wz hSw => ?_) ?_; rotate_left; (focus (go_simp; try with_reducible rfl)); (simp only [Act.put, List.setIfInBounds_toArray, List.set_cons_zero, List.set_cons_succ]))
      refine wpHeld_step (v := .string (strOf rs)) (by rfl) (fun wz hSw => ?_) ?_
      · have hz := HS3h.out wz hSw
        go_simp
      simp only [Act.put, List.setIfInBounds_toArray, List.set_cons_zero, List.set_cons_succ]
      iterate 3 (refine wpHeld_step (v := ?_) (by rfl) (fun wz hSw => ?_) ?_; rotate_left; (focus (go_simp; try with_reducible rfl)); (simp only [Act.put, List.setIfInBounds_toArray, List.set_cons_zero, List.set_cons_succ]))
      refine wpHeld_nil ?_
      refine wpAnyH_done (by kernel_rfl) ?_ _
      refine NoPanic.normal ?_
      go_wp2
      go_ret
      exact ⟨rfl, HbE.out.drew⟩
    · have hK1 : (len = K6) = False := eq_false hKe
      have HS3w : Hid (Str w3 (.slice (some ⟨g3, K6, none⟩) (len - K6) (len - K6)) (strOf rs)) := by rw [HRs.out]; exact str_of_bytes (IsBytes.rest HWh.out HKK.out.1 HKK.out.1 (fun hp => ⟨g3, 0, rfl, by rw [Nat.zero_add]⟩))
      clear hKe
      refine wp_region_noPanic ?_
      refine wp_region_held_drew (S := (fun W' => Row W' w.heap.size 25 KV ∧ Row W' (w.heap.size + 1) 26 NV ∧ Below w3.heap.size w3 W')) (by kernel_rfl) ⟨HrK3.out.drew, HrN3.out.drew, (Below.refl _ w3).drew⟩ (fun hHeld => ?_)
      refine wpAnyH_takesAt 0 10 2 (of_decide_eq_true (by kernel_rfl)) rfl (fun _ _ _ _ _ h => h) (by kernel_rfl) (by kernel_rfl) hHeld ?_
      simp only [List.drop_zero, List.take_succ_cons, List.take_zero]
      refine wpHeld_load (by rfl) 25 (.tmp 5) (by rfl) (w.heap.size) 0 (by rfl) KV (fun _ h => h.1.range) Tryd.underlying25 (by rw [HKl.out]; exact size25) ?_
      simp only [Act.put, List.setIfInBounds_toArray, List.set_cons_zero, List.set_cons_succ]
      iterate 4 (refine wpHeld_step (v := ?_) (by rfl) (fun wz hSw => ?_) ?_; rotate_left; (focus (go_simp; try with_reducible rfl)); (simp only [Act.put, List.setIfInBounds_toArray, List.set_cons_zero, List.set_cons_succ]))
      refine wpHeld_load (by rfl) 26 (.tmp 7) (by rfl) (w.heap.size + 1) 0 (by rfl) NV (fun _ h => h.2.1.range) Tryd.underlying26 (by rw [HNl.out]; exact size26) ?_
      simp only [Act.put, List.setIfInBounds_toArray, List.set_cons_zero, List.set_cons_succ]
      iterate 4 (refine wpHeld_step (v := ?_) (by rfl) (fun wz hSw => ?_) ?_; rotate_left; (focus (go_simp; try with_reducible rfl)); (simp only [Act.put, List.setIfInBounds_toArray, List.set_cons_zero, List.set_cons_succ]))
      refine wpHeld_nil ?_
      refine wpAnyH_only (i := 10) (by kernel_rfl) rfl (fun K hK => ?_)
      rw [if_pos (by rfl)]
      go_simp
      refine (H2.out _ _ _ Hb3.out.drew HQ.out).mono ?_
      rintro e w4 ⟨g4, rfl, hg4, hr4, hb4⟩
      have hb34 : Below w3.heap.size w3 w4 := (Below.refl _ w3).drew.trans hb4
      have hHeld4 : Row w4 w.heap.size 25 KV ∧ Row w4 (w.heap.size + 1) 26 NV ∧ Below w3.heap.size w3 w4 := ⟨HrK3.out.drew.later hb4, HrN3.out.drew.later hb4, hb34⟩
      refine hK.out _ _ hHeld4 ?_
      clear hK K
      refine wpAnyH_takesAt 11 1 0 (of_decide_eq_true (by kernel_rfl)) rfl (fun _ _ _ _ _ h => h) (by kernel_rfl) (by kernel_rfl) hHeld4 ?_
      simp only [List.drop_succ_cons, List.drop_zero, List.take_succ_cons, List.take_zero]
      (refine wpHeld_step (v := ?_) (by rfl) (fun wz hSw => ?_) ?_; rotate_left; (focus (go_simp; try with_reducible rfl)); (simp only [Act.put, List.setIfInBounds_toArray, List.set_cons_zero, List.set_cons_succ]))
      refine wpHeld_nil ?_
      refine wpAnyH_done (by kernel_rfl) ?_ _
      refine NoPanic.normal ?_
      have Hr4 : Hid (Row w4 g4 5 (u8s rs)) := hr4
      have Hb34 : Hid (Below w3.heap.size w3 w4) := hb34
      have HbE : Hid (Below w.heap.size w w4) := Hb3.out.trans (hb34.mono Hb3.out.size)
      have HS4 : Hid (Str w4 (.slice (some ⟨g4, 0, none⟩) (len - K6) (len - K6)) (strOf rs)) := str_of_bytes (bytes_of_row hr4 HRx.out HRl.out (by omega))
      have HS3 := HS3w.out.later hb34
      have HS3h : Hid _ := HS3
      clear HS3
      clear hr4 hb34 hHeld4 hHeld hb4 hg4
      go_wp2
      refine wp_region_noPanic ?_
      refine wp_region_held_drew (S := fun W' => Below w4.heap.size w4 W') (by kernel_rfl) (Below.refl _ w4).drew (fun hHeld => ?_)
      refine wpAnyH_takesAt 0 16 0 (of_decide_eq_true (by kernel_rfl)) rfl (fun _ _ _ _ _ h => h) (by kernel_rfl) (by kernel_rfl) hHeld ?_
      simp only [List.drop_zero, List.take_succ_cons, List.take_zero]
      iterate 4 (refine wpHeld_step (v := ?_) (by rfl) (fun wz hSw => ?_) ?_; rotate_left; (focus (go_simp; try with_reducible rfl)); (simp only [Act.put, List.setIfInBounds_toArray, List.set_cons_zero, List.set_cons_succ]))
      refine wpHeld_step (v := .bool true) (by rfl) (fun wz hSw => ?_) ?_
      · go_simp
      simp only [Act.put, List.setIfInBounds_toArray, List.set_cons_zero, List.set_cons_succ]
      iterate 2 (refine wpHeld_step (v := ?_) (by rfl) (fun wz hSw => ?_) ?_; rotate_left; (focus (go_simp; try with_reducible rfl)); (simp only [Act.put, List.setIfInBounds_toArray, List.set_cons_zero, List.set_cons_succ]))
      refine wpHeld_step (v := .string (strOf rs)) (by rfl) (fun wz hSw => ?_) ?_
      · have hz := HS4.out wz hSw
        go_simp
      simp only [Act.put, List.setIfInBounds_toArray, List.set_cons_zero, List.set_cons_succ]
      iterate 4 (refine wpHeld_step (v := ?_) (by rfl) (fun wz hSw => ?_) ?_; rotate_left; (focus (go_simp; try with_reducible rfl)); (simp only [Act.put, List.setIfInBounds_toArray, List.set_cons_zero, List.set_cons_succ]))
      refine wpHeld_step (v := .string (strOf rs)) (by rfl) (fun wz hSw => ?_) ?_
      · have hz := HS3h.out wz hSw
        go_simp
      simp only [Act.put, List.setIfInBounds_toArray, List.set_cons_zero, List.set_cons_succ]
      iterate 3 (refine wpHeld_step (v := ?_) (by rfl) (fun wz hSw => ?_) ?_; rotate_left; (focus (go_simp; try with_reducible rfl)); (simp only [Act.put, List.setIfInBounds_toArray, List.set_cons_zero, List.set_cons_succ]))
      refine wpHeld_nil ?_
      refine wpAnyH_done (by kernel_rfl) ?_ _
      refine NoPanic.normal ?_
      go_wp2
      go_ret
      exact ⟨rfl, HbE.out.drew⟩
  · by_cases hCe : cap = K6
    · have hC1 : (cap = K6) = True := eq_true hCe
      have HQ : Hid (IsBytes w3.drew.heap.size w3.drew (some ad) (len - K6) (cap - K6) (zs.drop K6)) := IsBytes.rest (W := w3.drew) (HI3.out) HKK.out.1 HKK.out.2 (fun hp => by omega)
      have hK1 : (len = K6) = True := eq_true (by omega)
      have HS3w : Hid (Str w3 (.slice (some ⟨g3, 0, none⟩) (len - K6) (len - K6)) (strOf rs)) := by rw [HRs.out]; exact str_of_bytes (IsBytes.rest HWh.out HKK.out.1 HKK.out.1 (fun hp => by omega))
      clear hCe
      refine wp_region_noPanic ?_
      refine wp_region_held_drew (S := (fun W' => Row W' w.heap.size 25 KV ∧ Row W' (w.heap.size + 1) 26 NV ∧ Below w3.heap.size w3 W')) (by kernel_rfl) ⟨HrK3.out.drew, HrN3.out.drew, (Below.refl _ w3).drew⟩ (fun hHeld => ?_)
      refine wpAnyH_takesAt 0 10 2 (of_decide_eq_true (by kernel_rfl)) rfl (fun _ _ _ _ _ h => h) (by kernel_rfl) (by kernel_rfl) hHeld ?_
      simp only [List.drop_zero, List.take_succ_cons, List.take_zero]
      refine wpHeld_load (by rfl) 25 (.tmp 5) (by rfl) (w.heap.size) 0 (by rfl) KV (fun _ h => h.1.range) Tryd.underlying25 (by rw [HKl.out]; exact size25) ?_
      simp only [Act.put, List.setIfInBounds_toArray, List.set_cons_zero, List.set_cons_succ]
      iterate 4 (refine wpHeld_step (v := ?_) (by rfl) (fun wz hSw => ?_) ?_; rotate_left; (focus (go_simp; try with_reducible rfl)); (simp only [Act.put, List.setIfInBounds_toArray, List.set_cons_zero, List.set_cons_succ]))
      refine wpHeld_load (by rfl) 26 (.tmp 7) (by rfl) (w.heap.size + 1) 0 (by rfl) NV (fun _ h => h.2.1.range) Tryd.underlying26 (by rw [HNl.out]; exact size26) ?_
      simp only [Act.put, List.setIfInBounds_toArray, List.set_cons_zero, List.set_cons_succ]
      iterate 4 (refine wpHeld_step (v := ?_) (by rfl) (fun wz hSw => ?_) ?_; rotate_left; (focus (go_simp; try with_reducible rfl)); (simp only [Act.put, List.setIfInBounds_toArray, List.set_cons_zero, List.set_cons_succ]))
      refine wpHeld_nil ?_
      refine wpAnyH_only (i := 10) (by kernel_rfl) rfl (fun K hK => ?_)
      rw [if_pos (by rfl)]
      go_simp
      refine (H2.out _ _ _ Hb3.out.drew HQ.out).mono ?_
      rintro e w4 ⟨g4, rfl, hg4, hr4, hb4⟩
      have hb34 : Below w3.heap.size w3 w4 := (Below.refl _ w3).drew.trans hb4
      have hHeld4 : Row w4 w.heap.size 25 KV ∧ Row w4 (w.heap.size + 1) 26 NV ∧ Below w3.heap.size w3 w4 := ⟨HrK3.out.drew.later hb4, HrN3.out.drew.later hb4, hb34⟩
      refine hK.out _ _ hHeld4 ?_
      clear hK K
      refine wpAnyH_takesAt 11 1 0 (of_decide_eq_true (by kernel_rfl)) rfl (fun _ _ _ _ _ h => h) (by kernel_rfl) (by kernel_rfl) hHeld4 ?_
      simp only [List.drop_succ_cons, List.drop_zero, List.take_succ_cons, List.take_zero]
      (refine wpHeld_step (v := ?_) (by rfl) (fun wz hSw => ?_) ?_; rotate_left; (focus (go_simp; try with_reducible rfl)); (simp only [Act.put, List.setIfInBounds_toArray, List.set_cons_zero, List.set_cons_succ]))
      refine wpHeld_nil ?_
      refine wpAnyH_done (by kernel_rfl) ?_ _
      refine NoPanic.normal ?_
      have Hr4 : Hid (Row w4 g4 5 (u8s rs)) := hr4
      have Hb34 : Hid (Below w3.heap.size w3 w4) := hb34
      have HbE : Hid (Below w.heap.size w w4) := Hb3.out.trans (hb34.mono Hb3.out.size)
      have HS4 : Hid (Str w4 (.slice (some ⟨g4, 0, none⟩) (len - K6) (len - K6)) (strOf rs)) := str_of_bytes (bytes_of_row hr4 HRx.out HRl.out (by omega))
      have HS3 := HS3w.out.later hb34
      have HS3h : Hid _ := HS3
      clear HS3
      clear hr4 hb34 hHeld4 hHeld hb4 hg4
      go_wp2
      refine wp_region_noPanic ?_
      refine wp_region_held_drew (S := fun W' => Below w4.heap.size w4 W') (by kernel_rfl) (Below.refl _ w4).drew (fun hHeld => ?_)
      refine wpAnyH_takesAt 0 16 0 (of_decide_eq_true (by kernel_rfl)) rfl (fun _ _ _ _ _ h => h) (by kernel_rfl) (by kernel_rfl) hHeld ?_
      simp only [List.drop_zero, List.take_succ_cons, List.take_zero]
      iterate 4 (refine wpHeld_step (v := ?_) (by rfl) (fun wz hSw => ?_) ?_; rotate_left; (focus (go_simp; try with_reducible rfl)); (simp only [Act.put, List.setIfInBounds_toArray, List.set_cons_zero, List.set_cons_succ]))
      refine wpHeld_step (v := .bool true) (by rfl) (fun wz hSw => ?_) ?_
      · go_simp
      simp only [Act.put, List.setIfInBounds_toArray, List.set_cons_zero, List.set_cons_succ]
      iterate 2 (refine wpHeld_step (v := ?_) (by rfl) (fun wz hSw => ?_) ?_; rotate_left; (focus (go_simp; try with_reducible rfl)); (simp only [Act.put, List.setIfInBounds_toArray, List.set_cons_zero, List.set_cons_succ]))
      refine wpHeld_step (v := .string (strOf rs)) (by rfl) (fun wz hSw => ?_) ?_
      · have hz := HS4.out wz hSw
        go_simp
      simp only [Act.put, List.setIfInBounds_toArray, List.set_cons_zero, List.set_cons_succ]
      iterate 4 (refine wpHeld_step (v := ?_) (by rfl) (fun wz hSw => ?_) ?_; rotate_left; (focus (go_simp; try with_reducible rfl)); (simp only [Act.put, List.setIfInBounds_toArray, List.set_cons_zero, List.set_cons_succ]))
      refine wpHeld_step (v := .string (strOf rs)) (by rfl) (fun wz hSw => ?_) ?_
      · have hz := HS3h.out wz hSw
        go_simp
      simp only [Act.put, List.setIfInBounds_toArray, List.set_cons_zero, List.set_cons_succ]
      iterate 3 (refine wpHeld_step (v := ?_) (by rfl) (fun wz hSw => ?_) ?_; rotate_left; (focus (go_simp; try with_reducible rfl)); (simp only [Act.put, List.setIfInBounds_toArray, List.set_cons_zero, List.set_cons_succ]))
      refine wpHeld_nil ?_
      refine wpAnyH_done (by kernel_rfl) ?_ _
      refine NoPanic.normal ?_
      go_wp2
      go_ret
      exact ⟨rfl, HbE.out.drew⟩
    · have hC1 : (cap = K6) = False := eq_false hCe
      have HQ : Hid (IsBytes w3.drew.heap.size w3.drew (some (ad.add K6)) (len - K6) (cap - K6) (zs.drop K6)) := IsBytes.rest (W := w3.drew) (HI3.out) HKK.out.1 HKK.out.2 (fun hp => by
        rcases HI3.out.2.2.2.2 with h | ⟨b, off, e, _⟩
        · omega
        · cases e
          exact ⟨b, off, rfl, by rw [Addr.add_mid]⟩)
      clear hCe
      by_cases hKe : len = K6
      · have hK1 : (len = K6) = True := eq_true hKe
        have HS3w : Hid (Str w3 (.slice (some ⟨g3, 0, none⟩) (len - K6) (len - K6)) (strOf rs)) := by rw [HRs.out]; exact str_of_bytes (IsBytes.rest HWh.out HKK.out.1 HKK.out.1 (fun hp => by omega))
        clear hKe
        refine wp_region_noPanic ?_
        refine wp_region_held_drew (S := (fun W' => Row W' w.heap.size 25 KV ∧ Row W' (w.heap.size + 1) 26 NV ∧ Below w3.heap.size w3 W')) (by kernel_rfl) ⟨HrK3.out.drew, HrN3.out.drew, (Below.refl _ w3).drew⟩ (fun hHeld => ?_)
        refine wpAnyH_takesAt 0 10 2 (of_decide_eq_true (by kernel_rfl)) rfl (fun _ _ _ _ _ h => h) (by kernel_rfl) (by kernel_rfl) hHeld ?_
        simp only [List.drop_zero, List.take_succ_cons, List.take_zero]
        refine wpHeld_load (by rfl) 25 (.tmp 5) (by rfl) (w.heap.size) 0 (by rfl) KV (fun _ h => h.1.range) Tryd.underlying25 (by rw [HKl.out]; exact size25) ?_
        simp only [Act.put, List.setIfInBounds_toArray, List.set_cons_zero, List.set_cons_succ]
        iterate 4 (refine wpHeld_step (v := ?_) (by rfl) (fun wz hSw => ?_) ?_; rotate_left; (focus (go_simp; try with_reducible rfl)); (simp only [Act.put, List.setIfInBounds_toArray, List.set_cons_zero, List.set_cons_succ]))
        refine wpHeld_load (by rfl) 26 (.tmp 7) (by rfl) (w.heap.size + 1) 0 (by rfl) NV (fun _ h => h.2.1.range) Tryd.underlying26 (by rw [HNl.out]; exact size26) ?_
        simp only [Act.put, List.setIfInBounds_toArray, List.set_cons_zero, List.set_cons_succ]
        iterate 4 (refine wpHeld_step (v := ?_) (by rfl) (fun wz hSw => ?_) ?_; rotate_left; (focus (go_simp; try with_reducible rfl)); (simp only [Act.put, List.setIfInBounds_toArray, List.set_cons_zero, List.set_cons_succ]))
        refine wpHeld_nil ?_
        refine wpAnyH_only (i := 10) (by kernel_rfl) rfl (fun K hK => ?_)
        rw [if_pos (by rfl)]
        go_simp
        refine (H2.out _ _ _ Hb3.out.drew HQ.out).mono ?_
        rintro e w4 ⟨g4, rfl, hg4, hr4, hb4⟩
        have hb34 : Below w3.heap.size w3 w4 := (Below.refl _ w3).drew.trans hb4
        have hHeld4 : Row w4 w.heap.size 25 KV ∧ Row w4 (w.heap.size + 1) 26 NV ∧ Below w3.heap.size w3 w4 := ⟨HrK3.out.drew.later hb4, HrN3.out.drew.later hb4, hb34⟩
        refine hK.out _ _ hHeld4 ?_
        clear hK K
        refine wpAnyH_takesAt 11 1 0 (of_decide_eq_true (by kernel_rfl)) rfl (fun _ _ _ _ _ h => h) (by kernel_rfl) (by kernel_rfl) hHeld4 ?_
        simp only [List.drop_succ_cons, List.drop_zero, List.take_succ_cons, List.take_zero]
        (refine wpHeld_step (v := ?_) (by rfl) (fun wz hSw => ?_) ?_; rotate_left; (focus (go_simp; try with_reducible rfl)); (simp only [Act.put, List.setIfInBounds_toArray, List.set_cons_zero, List.set_cons_succ]))
        refine wpHeld_nil ?_
        refine wpAnyH_done (by kernel_rfl) ?_ _
        refine NoPanic.normal ?_
        have Hr4 : Hid (Row w4 g4 5 (u8s rs)) := hr4
        have Hb34 : Hid (Below w3.heap.size w3 w4) := hb34
        have HbE : Hid (Below w.heap.size w w4) := Hb3.out.trans (hb34.mono Hb3.out.size)
        have HS4 : Hid (Str w4 (.slice (some ⟨g4, 0, none⟩) (len - K6) (len - K6)) (strOf rs)) := str_of_bytes (bytes_of_row hr4 HRx.out HRl.out (by omega))
        have HS3 := HS3w.out.later hb34
        have HS3h : Hid _ := HS3
        clear HS3
        clear hr4 hb34 hHeld4 hHeld hb4 hg4
        go_wp2
        refine wp_region_noPanic ?_
        refine wp_region_held_drew (S := fun W' => Below w4.heap.size w4 W') (by kernel_rfl) (Below.refl _ w4).drew (fun hHeld => ?_)
        refine wpAnyH_takesAt 0 16 0 (of_decide_eq_true (by kernel_rfl)) rfl (fun _ _ _ _ _ h => h) (by kernel_rfl) (by kernel_rfl) hHeld ?_
        simp only [List.drop_zero, List.take_succ_cons, List.take_zero]
        iterate 4 (refine wpHeld_step (v := ?_) (by rfl) (fun wz hSw => ?_) ?_; rotate_left; (focus (go_simp; try with_reducible rfl)); (simp only [Act.put, List.setIfInBounds_toArray, List.set_cons_zero, List.set_cons_succ]))
        refine wpHeld_step (v := .bool true) (by rfl) (fun wz hSw => ?_) ?_
        · go_simp
        simp only [Act.put, List.setIfInBounds_toArray, List.set_cons_zero, List.set_cons_succ]
        iterate 2 (refine wpHeld_step (v := ?_) (by rfl) (fun wz hSw => ?_) ?_; rotate_left; (focus (go_simp; try with_reducible rfl)); (simp only [Act.put, List.setIfInBounds_toArray, List.set_cons_zero, List.set_cons_succ]))
        refine wpHeld_step (v := .string (strOf rs)) (by rfl) (fun wz hSw => ?_) ?_
        · have hz := HS4.out wz hSw
          go_simp
        simp only [Act.put, List.setIfInBounds_toArray, List.set_cons_zero, List.set_cons_succ]
        iterate 4 (refine wpHeld_step (v := ?_) (by rfl) (fun wz hSw => ?_) ?_; rotate_left; (focus (go_simp; try with_reducible rfl)); (simp only [Act.put, List.setIfInBounds_toArray, List.set_cons_zero, List.set_cons_succ]))
        refine wpHeld_step (v := .string (strOf rs)) (by rfl) (fun wz hSw => ?_) ?_
        · have hz := HS3h.out wz hSw
          go_simp
        simp only [Act.put, List.setIfInBounds_toArray, List.set_cons_zero, List.set_cons_succ]
        iterate 3 (refine wpHeld_step (v := ?_) (by rfl) (fun wz hSw => ?_) ?_; rotate_left; (focus (go_simp; try with_reducible rfl)); (simp only [Act.put, List.setIfInBounds_toArray, List.set_cons_zero, List.set_cons_succ]))
        refine wpHeld_nil ?_
        refine wpAnyH_done (by kernel_rfl) ?_ _
        refine NoPanic.normal ?_
        go_wp2
        go_ret
        exact ⟨rfl, HbE.out.drew⟩
      · have hK1 : (len = K6) = False := eq_false hKe
        have HS3w : Hid (Str w3 (.slice (some ⟨g3, K6, none⟩) (len - K6) (len - K6)) (strOf rs)) := by rw [HRs.out]; exact str_of_bytes (IsBytes.rest HWh.out HKK.out.1 HKK.out.1 (fun hp => ⟨g3, 0, rfl, by rw [Nat.zero_add]⟩))
        clear hKe
        refine wp_region_noPanic ?_
        refine wp_region_held_drew (S := (fun W' => Row W' w.heap.size 25 KV ∧ Row W' (w.heap.size + 1) 26 NV ∧ Below w3.heap.size w3 W')) (by kernel_rfl) ⟨HrK3.out.drew, HrN3.out.drew, (Below.refl _ w3).drew⟩ (fun hHeld => ?_)
        refine wpAnyH_takesAt 0 10 2 (of_decide_eq_true (by kernel_rfl)) rfl (fun _ _ _ _ _ h => h) (by kernel_rfl) (by kernel_rfl) hHeld ?_
        simp only [List.drop_zero, List.take_succ_cons, List.take_zero]
        refine wpHeld_load (by rfl) 25 (.tmp 5) (by rfl) (w.heap.size) 0 (by rfl) KV (fun _ h => h.1.range) Tryd.underlying25 (by rw [HKl.out]; exact size25) ?_
        simp only [Act.put, List.setIfInBounds_toArray, List.set_cons_zero, List.set_cons_succ]
        iterate 4 (refine wpHeld_step (v := ?_) (by rfl) (fun wz hSw => ?_) ?_; rotate_left; (focus (go_simp; try with_reducible rfl)); (simp only [Act.put, List.setIfInBounds_toArray, List.set_cons_zero, List.set_cons_succ]))
        refine wpHeld_load (by rfl) 26 (.tmp 7) (by rfl) (w.heap.size + 1) 0 (by rfl) NV (fun _ h => h.2.1.range) Tryd.underlying26 (by rw [HNl.out]; exact size26) ?_
        simp only [Act.put, List.setIfInBounds_toArray, List.set_cons_zero, List.set_cons_succ]
        iterate 4 (refine wpHeld_step (v := ?_) (by rfl) (fun wz hSw => ?_) ?_; rotate_left; (focus (go_simp; try with_reducible rfl)); (simp only [Act.put, List.setIfInBounds_toArray, List.set_cons_zero, List.set_cons_succ]))
        refine wpHeld_nil ?_
        refine wpAnyH_only (i := 10) (by kernel_rfl) rfl (fun K hK => ?_)
        rw [if_pos (by rfl)]
        go_simp
        refine (H2.out _ _ _ Hb3.out.drew HQ.out).mono ?_
        rintro e w4 ⟨g4, rfl, hg4, hr4, hb4⟩
        have hb34 : Below w3.heap.size w3 w4 := (Below.refl _ w3).drew.trans hb4
        have hHeld4 : Row w4 w.heap.size 25 KV ∧ Row w4 (w.heap.size + 1) 26 NV ∧ Below w3.heap.size w3 w4 := ⟨HrK3.out.drew.later hb4, HrN3.out.drew.later hb4, hb34⟩
        refine hK.out _ _ hHeld4 ?_
        clear hK K
        refine wpAnyH_takesAt 11 1 0 (of_decide_eq_true (by kernel_rfl)) rfl (fun _ _ _ _ _ h => h) (by kernel_rfl) (by kernel_rfl) hHeld4 ?_
        simp only [List.drop_succ_cons, List.drop_zero, List.take_succ_cons, List.take_zero]
        (refine wpHeld_step (v := ?_) (by rfl) (fun wz hSw => ?_) ?_; rotate_left; (focus (go_simp; try with_reducible rfl)); (simp only [Act.put, List.setIfInBounds_toArray, List.set_cons_zero, List.set_cons_succ]))
        refine wpHeld_nil ?_
        refine wpAnyH_done (by kernel_rfl) ?_ _
        refine NoPanic.normal ?_
        have Hr4 : Hid (Row w4 g4 5 (u8s rs)) := hr4
        have Hb34 : Hid (Below w3.heap.size w3 w4) := hb34
        have HbE : Hid (Below w.heap.size w w4) := Hb3.out.trans (hb34.mono Hb3.out.size)
        have HS4 : Hid (Str w4 (.slice (some ⟨g4, 0, none⟩) (len - K6) (len - K6)) (strOf rs)) := str_of_bytes (bytes_of_row hr4 HRx.out HRl.out (by omega))
        have HS3 := HS3w.out.later hb34
        have HS3h : Hid _ := HS3
        clear HS3
        clear hr4 hb34 hHeld4 hHeld hb4 hg4
        go_wp2
        refine wp_region_noPanic ?_
        refine wp_region_held_drew (S := fun W' => Below w4.heap.size w4 W') (by kernel_rfl) (Below.refl _ w4).drew (fun hHeld => ?_)
        refine wpAnyH_takesAt 0 16 0 (of_decide_eq_true (by kernel_rfl)) rfl (fun _ _ _ _ _ h => h) (by kernel_rfl) (by kernel_rfl) hHeld ?_
        simp only [List.drop_zero, List.take_succ_cons, List.take_zero]
        iterate 4 (refine wpHeld_step (v := ?_) (by rfl) (fun wz hSw => ?_) ?_; rotate_left; (focus (go_simp; try with_reducible rfl)); (simp only [Act.put, List.setIfInBounds_toArray, List.set_cons_zero, List.set_cons_succ]))
        refine wpHeld_step (v := .bool true) (by rfl) (fun wz hSw => ?_) ?_
        · go_simp
        simp only [Act.put, List.setIfInBounds_toArray, List.set_cons_zero, List.set_cons_succ]
        iterate 2 (refine wpHeld_step (v := ?_) (by rfl) (fun wz hSw => ?_) ?_; rotate_left; (focus (go_simp; try with_reducible rfl)); (simp only [Act.put, List.setIfInBounds_toArray, List.set_cons_zero, List.set_cons_succ]))
        refine wpHeld_step (v := .string (strOf rs)) (by rfl) (fun wz hSw => ?_) ?_
        · have hz := HS4.out wz hSw
          go_simp
        simp only [Act.put, List.setIfInBounds_toArray, List.set_cons_zero, List.set_cons_succ]
        iterate 4 (refine wpHeld_step (v := ?_) (by rfl) (fun wz hSw => ?_) ?_; rotate_left; (focus (go_simp; try with_reducible rfl)); (simp only [Act.put, List.setIfInBounds_toArray, List.set_cons_zero, List.set_cons_succ]))
        refine wpHeld_step (v := .string (strOf rs)) (by rfl) (fun wz hSw => ?_) ?_
        · have hz := HS3h.out wz hSw
          go_simp
        simp only [Act.put, List.setIfInBounds_toArray, List.set_cons_zero, List.set_cons_succ]
        iterate 3 (refine wpHeld_step (v := ?_) (by rfl) (fun wz hSw => ?_) ?_; rotate_left; (focus (go_simp; try with_reducible rfl)); (simp only [Act.put, List.setIfInBounds_toArray, List.set_cons_zero, List.set_cons_succ]))
        refine wpHeld_nil ?_
        refine wpAnyH_done (by kernel_rfl) ?_ _
        refine NoPanic.normal ?_
        go_wp2
        go_ret
        exact ⟨rfl, HbE.out.drew⟩

theorem chachaParts_walk (key : List Nat) (c : Nat) (nonce : List Nat) (p : Option Addr) (len cap : Nat) (zs : List Nat) (mz : Int) (w : World) (hT : Tab w) (hk : key.length = 32 ∧ ∀ z ∈ key, z < 256) (hc : c < 4294967296) (hn : nonce.length = 12 ∧ ∀ z ∈ nonce, z < 256) (hI : IsBytes w.heap.size w p len cap zs) (_ : -9223372036854775808 ≤ mz ∧ mz ≤ 9223372036854775807) :
    Calls Tryd.prog 7 #[.agg (u8s key).toArray, .int .u32 c, .agg (u8s nonce).toArray, .slice p len cap, .int .i64 mz] w fun e w' => e = .returned (.bool true) ∧ Below w.heap.size w w' := by
  by_cases h : len ≤ 500 ∧ 0 ≤ mz ∧ mz ≤ (len : Int) / 64
  · obtain ⟨k, rfl⟩ : ∃ k : Nat, mz = (k : Int) := ⟨mz.toNat, by omega⟩
    obtain ⟨h1, _, h3⟩ := h
    refine chachaParts_main c (u8s key) (u8s nonce) ((u8s_length _).trans hk.1) ((u8s_length _).trans hn.1) p len cap zs (streamN key c nonce zs) ((streamN key c nonce zs).drop (64 * k)) k (64 * k) (len - 64 * k) ((c + k) % 4294967296) rfl rfl (by omega) h1 w hI ((streamN_length _ _ _ _).trans hI.1) (streamN_lt key c nonce hI.2.2.2.1) rfl
      (fun W hb => stream_any key c nonce hk hc hn p len cap zs (by omega) W (hT.later hb) (hI.later hb)) (fun W q C hb hq => ?_)
    have h := stream_any key ((c + k) % 4294967296) nonce hk (Nat.mod_lt _ (by decide)) hn q (len - 64 * k) C (zs.drop (64 * k)) (by omega) W (hT.later hb) hq
    rw [streamN_drop]
    exact h
  · exact chachaParts_out c (u8s key) (u8s nonce) p len cap mz w h
end Go.Proofs.YtcciofbepdjkoaaDoor
