/-
  The law ChachaTells, walked: for every key, counter, nonce and number it returns true.
-/
import Derived.Test.YtcciofbepdjkoaaDoorKey
import Derived.Test.YtcciofbepdjkoaaDoorRefBlock
import Derived.Test.YtcciofbepdjkoaaDoorHeld
namespace Go.Proofs.YtcciofbepdjkoaaDoor
open Go.RowKit Go.Shelf
attribute [local go_sem] Oper.semAt_some

theorem Row.newB (W : World) (o : Obj) (t : TypeId) (c : Array Value) : Row ((W.alloc o).alloc (.cells c t)) (W.heap.size + 1) t c.toList := by
  have := Row.new (W.alloc o) t c
  rwa [World.size_alloc] at this

set_option maxRecDepth 100000 in
set_option maxHeartbeats 4000000 in
theorem chachaTells_in (n : Nat) (hn : 12 ≤ n) (c : Nat) (mz : Int) (KV NV : List Value) (B : Nat → List Value) (HKl : Hid (KV.length = 32)) (HNl : Hid (NV.length = 12)) (HBl : Hid (∀ k, (B k).length = 64)) (HB1 : Hid (∀ k, ∀ v ∈ B k, v.oneCell' = true)) (hc : c < 4294967296)
    (HQ : Hid (∀ k w, (Op.equalIn 10000 30 (.agg (B k).toArray) (.agg (B k).toArray)).run Tryd.prog w = .ok true w))
    (HBk : Hid (∀ k w, Tab w → Calls Tryd.prog 11 #[.agg KV.toArray, .int .u32 ((c + k) % 4294967296 : Nat), .agg NV.toArray] w fun e w' => e = .returned (.agg (B k).toArray) ∧ Below w.heap.size w w'))
    (HBr : Hid (∀ k w, Calls Tryd.prog 12 #[.agg KV.toArray, .int .u32 ((c + k) % 4294967296 : Nat), .agg NV.toArray] w fun e w' => e = .returned (.agg (B k).toArray) ∧ Below w.heap.size w w'))
    (w : World) (hT : Tab w) :
    CallsIn Fence.wide n Tryd.prog 6 #[.agg KV.toArray, .int .u32 c, .agg NV.toArray, .int .i64 mz] w fun e w' => e = .returned (.bool true) ∧ Below w.heap.size w w' := by
  have h1 : 1 ≤ n := by omega
  have hfn : ∀ f, Fence.wide.fn f := fun _ => trivial
  have HT : Hid (Tab w) := hT
  have HTp : Hid (1 < w.heap.size) := hT.pos
  clear hT
  obtain ⟨w0, hw0⟩ : ∃ w0, w0 = ((((w.alloc (.cells KV.toArray 25)).alloc (.cells #[.int .u32 c] 22)).alloc (.cells NV.toArray 26)).alloc (.cells #[.int .i64 mz] 3)).alloc (.cells #[.bool false] 4) := ⟨_, rfl⟩
  have HW0 : Hid (((((w.alloc (.cells KV.toArray 25)).alloc (.cells #[.int .u32 c] 22)).alloc (.cells NV.toArray 26)).alloc (.cells #[.int .i64 mz] 3)).alloc (.cells #[.bool false] 4) = w0) := hw0.symm
  have hb0 : Below w.heap.size w w0 := by rw [hw0]; exact (((((Below.refl _ w).alloc (Nat.le_refl _) _).alloc (by simp) _).alloc (by simp; omega) _).alloc (by simp; omega) _).alloc (by simp; omega) _
  have HrK : Hid (Row w0 w.heap.size 25 KV) := by rw [hw0]; exact ((((Row.new' w 25 _).alloc _).alloc _).alloc _).alloc _
  have HrC : Hid (Row w0 (w.heap.size + 1) 22 [.int .u32 c]) := by rw [hw0]; exact (((Row.newB w _ 22 _).alloc _).alloc _).alloc _
  have HrN : Hid (Row w0 (w.heap.size + 1 + 1) 26 NV) := by
    have h := Row.newB (w.alloc (.cells KV.toArray 25)) (.cells #[.int .u32 c] 22) 26 NV.toArray
    rw [World.size_alloc] at h
    rw [hw0]
    exact (h.alloc _).alloc _
  have HrM : Hid (Row w0 (w.heap.size + 1 + 1 + 1) 3 [.int .i64 mz]) := by
    have h := Row.newB ((w.alloc (.cells KV.toArray 25)).alloc (.cells #[.int .u32 c] 22)) (.cells NV.toArray 26) 3 #[.int .i64 mz]
    rw [World.size_alloc, World.size_alloc] at h
    rw [hw0]
    exact h.alloc _
  have HrR : Hid (Row w0 (w.heap.size + 1 + 1 + 1 + 1) 4 [.bool false]) := by
    have h := Row.newB (((w.alloc (.cells KV.toArray 25)).alloc (.cells #[.int .u32 c] 22)).alloc (.cells NV.toArray 26)) (.cells #[.int .i64 mz] 3) 4 #[.bool false]
    rw [World.size_alloc, World.size_alloc, World.size_alloc] at h
    rw [hw0]
    exact h
  have hs0 : w0.heap.size = w.heap.size + 1 + 1 + 1 + 1 + 1 := by rw [hw0]; simp
  have cm := HrM.out.cell (i := 0) rfl
  have cr := HrR.out.cell (i := 0) rfl
  have fr := HrR.out.frozen 0
  have HT0 : Hid (Tab w0) := HT.out.later hb0
  clear hw0
  by_cases hm : 0 ≤ mz ∧ mz ≤ 8
  · obtain ⟨m, rfl⟩ : ∃ m : Nat, mz = (m : Int) := ⟨mz.toNat, by omega⟩
    have hm8 : m ≤ 8 := by omega
    have hm1 : ¬ (m : Int) < 0 := by omega
    have hm2 : ¬ (8 : Int) < (m : Int) := by omega
    clear hm
    have HS1 : Hid (∀ o, Row (w0.alloc o) w.heap.size 25 KV ∧ Row (w0.alloc o) (w.heap.size + 1) 22 [.int .u32 c] ∧ Row (w0.alloc o) (w.heap.size + 1 + 1) 26 NV) := fun o => ⟨HrK.out.alloc _, HrC.out.alloc _, HrN.out.alloc _⟩
    have cc : ∀ o, (w0.alloc o).cell? ⟨w.heap.size + 1, 0, none⟩ = some (.int .u32 c) := fun o => (HS1.out o).2.1.cell (i := 0) rfl
    refine callsIn_of_wp_marks Tryd.func6 rfl trivial ?_ rfl
    simp only [Tryd.ntmps6, List.size_toArray, List.length_cons, List.length_nil, Nat.reduceAdd, Nat.reduceSub, Array.replicate_succ, Array.replicate_zero, List.push_toArray, List.append_toArray, List.nil_append, List.cons_append]
    gi_wp2_with (first
      | (gi_at_call 8; rw [HW0.out]; refine (callsIn_wide.2 (awake_any _)).mono ?_; rintro e w1 ⟨rfl, hw1⟩; obtain rfl : w0 = w1 := hw1.symm; clear hw1)
      | ((with_reducible show wpListIn _ _ _ _ _ (Oper.mk _ (Op.load 25 (.tmp 4)) _ _ _ _ :: _) _ _); refine wpListIn_load_Row rfl 25 (.tmp 4) rfl rfl (HS1.out _).1 Tryd.underlying25 (by rw [HKl.out]; exact size25) ?_; simp only [Act.put, List.setIfInBounds_toArray, List.set_cons_zero, List.set_cons_succ])
      | ((with_reducible show wpListIn _ _ _ _ _ (Oper.mk _ (Op.load 26 (.tmp 6)) _ _ _ _ :: _) _ _); refine wpListIn_load_Row rfl 26 (.tmp 6) rfl rfl (HS1.out _).2.2 Tryd.underlying26 (by rw [HNl.out]; exact size26) ?_; simp only [Act.put, List.setIfInBounds_toArray, List.set_cons_zero, List.set_cons_succ])
      | (gi_at_call 15; refine (callsIn_wide.2 (keystream_any c KV NV _)).mono ?_; rintro e w4 ⟨rfl, hk4, hc4, hn4, hb4⟩))
    have hs1 : (w0.alloc (.cells #[.int .i64 0] 3)).heap.size = w.heap.size + 1 + 1 + 1 + 1 + 1 + 1 := by rw [World.size_alloc, hs0]
    rw [hs1] at hk4 hc4 hn4 hb4
    have hrI0 := Row.new w0 3 #[.int .i64 0]
    rw [hs0] at hrI0
    have hb04 : Below w.heap.size w w4 := (hb0.alloc (by omega) _).trans (hb4.mono (by omega))
    have hs4 : w.heap.size + 9 ≤ w4.heap.size := hn4.lt
    have HK4 : Hid (Row w4 w.heap.size 25 KV) := (HrK.out.alloc _).below hb4 (by omega)
    have HC4 : Hid (Row w4 (w.heap.size + 1) 22 [.int .u32 c]) := (HrC.out.alloc _).below hb4 (by omega)
    have HN4 : Hid (Row w4 (w.heap.size + 1 + 1) 26 NV) := (HrN.out.alloc _).below hb4 (by omega)
    have HM4 : Hid (Row w4 (w.heap.size + 1 + 1 + 1) 3 [.int .i64 m]) := (HrM.out.alloc _).below hb4 (by omega)
    have HR4 : Hid (Row w4 (w.heap.size + 1 + 1 + 1 + 1) 4 [.bool false]) := (HrR.out.alloc _).below hb4 (by omega)
    have HI4 : Hid (Row w4 (w.heap.size + 1 + 1 + 1 + 1 + 1) 3 [.int .i64 0]) := hrI0.below hb4 (by omega)
    have HT4 : Hid (Tab w4) := HT.out.later hb04
    have HB4 : Hid (Below w.heap.size w w4) := hb04
    have Hk4 : Hid (Row w4 (w.heap.size + 1 + 1 + 1 + 1 + 1 + 1) 25 KV) := hk4
    have Hc4 : Hid (Row w4 (w.heap.size + 1 + 1 + 1 + 1 + 1 + 1 + 1) 22 [.int .u32 c]) := hc4
    have Hn4 : Hid (Row w4 (w.heap.size + 1 + 1 + 1 + 1 + 1 + 1 + 1 + 1) 26 NV) := hn4
    clear hk4 hc4 hn4 hb4 hrI0 hb04 HrK HrC HrN HrM HrR HS1 cc cm cr fr HT0 HW0 hb0 hs0 hs1
    refine wpIn_rangeFunc_ever rfl h1 (gf := 25) (lb := #[.pointer (some ⟨w.heap.size + 1 + 1 + 1 + 1 + 1 + 1 + 1, 0, none⟩), .pointer (some ⟨w.heap.size + 1 + 1 + 1 + 1 + 1 + 1, 0, none⟩), .pointer (some ⟨w.heap.size + 1 + 1 + 1 + 1 + 1 + 1 + 1 + 1, 0, none⟩)]) rfl trivial (enters_of Tryd.func25 (by kernel_rfl) rfl)
      (encs := fun k => #[.agg (B k).toArray]) (Kp := KpM (fun k => k = w.heap.size + 1 + 1 + 1 + 1 ∨ k = w.heap.size + 1 + 1 + 1 + 1 + 1) (w4.heap.size + 2)) (N := 10)
      (fun W' hs hb => key1_iter (n - 1) (by omega) _ _ _ _ c 10 KV NV B HKl HNl HBk W' hc (by decide) (HT4.out.later hb) (Hc4.out.later hb) (Hk4.out.later hb) (Hn4.out.later hb) (fun k => k = w.heap.size + 1 + 1 + 1 + 1 ∨ k = w.heap.size + 1 + 1 + 1 + 1 + 1) _ (fun _ _ h => h.1) (fun _ _ h => h.2.size) (by have := HTp.out; omega) (by have := HTp.out; omega) (by omega) (by omega))
      KpM.trans (fun A o o' ho hc => KpM.record (by omega) o' ho hc) KpM.of_below (fun _ => rfl) 30 (fun k => B k)
      (fun k A => (Row A w.heap.size 25 KV ∧ Row A (w.heap.size + 1) 22 [.int .u32 c] ∧ Row A (w.heap.size + 1 + 1) 26 NV ∧ Row A (w.heap.size + 1 + 1 + 1) 3 [.int .i64 m] ∧ Row A (w.heap.size + 1 + 1 + 1 + 1) 4 [.bool false] ∧ Row A (w.heap.size + 1 + 1 + 1 + 1 + 1) 3 [.int .i64 k] ∧ k ≤ m) ∧ Below w.heap.size w A)
      (fun c _ A => (c = .ret ∧ Row A (w.heap.size + 1 + 1 + 1 + 1) 4 [.bool true]) ∧ Below w.heap.size w A)
      (fun k A A' ⟨⟨h1, h2, h3, h4, h5, h6, h7⟩, h8⟩ hb => ⟨⟨h1.below hb (by omega), h2.below hb (by omega), h3.below hb (by omega), h4.below hb (by omega), h5.below hb (by omega), h6.below hb (by omega), h7⟩, h8.trans (hb.mono (by omega))⟩)
      (fun _ k A A' ⟨⟨h0, h1⟩, h8⟩ hb => ⟨⟨h0, h1.below hb (by omega)⟩, h8.trans (hb.mono (by omega))⟩)
      (fun k A h => by have := h.1.2.2.2.2.2.2; omega)
      ⟨⟨HK4.out, HC4.out, HN4.out, HM4.out, HR4.out, HI4.out, Nat.zero_le _⟩, HB4.out⟩
      (fun k A => { tmps := #[.agg KV.toArray, .int .u32 c, .agg NV.toArray, .int .i64 m, .pointer (some ⟨w.heap.size, 0, none⟩), .pointer (some ⟨w.heap.size + 1, 0, none⟩), .pointer (some ⟨w.heap.size + 1 + 1, 0, none⟩), .pointer (some ⟨w.heap.size + 1 + 1 + 1, 0, none⟩), .pointer (some ⟨w.heap.size + 1 + 1 + 1 + 1, 0, none⟩), .pointer (some ⟨w.heap.size + 1 + 1 + 1 + 1 + 1, 0, none⟩), .pointer (some ⟨A.heap.size, 0, none⟩), .bool true, .bool false, .int .i64 m, .bool (decide ((m : Int) < 0)), .bool (decide ((m : Int) < 0)), .int .i64 m, .bool (decide (8 < (m : Int))), .bool (decide ((m : Int) < 0) || decide (8 < (m : Int))), .agg KV.toArray, .int .u32 c, .agg NV.toArray, .func (.func 25) #[] #[.pointer (some ⟨w.heap.size + 1 + 1 + 1 + 1 + 1 + 1 + 1, 0, none⟩), .pointer (some ⟨w.heap.size + 1 + 1 + 1 + 1 + 1 + 1, 0, none⟩), .pointer (some ⟨w.heap.size + 1 + 1 + 1 + 1 + 1 + 1 + 1 + 1, 0, none⟩)], .agg (B k).toArray, undef, undef, undef, undef, undef, undef, undef, undef, undef, undef, undef, undef, undef, undef], defers := [] }) ?assign ?body ?stop
    case assign =>
      intro li k A K' hK'
      have HXL : Hid ((B k).length = 64) := HBl.out k
      have HX1 : Hid (∀ v ∈ B k, v.oneCell' = true) := HB1.out k
      have HK' : Hid (∀ W', Below A.heap.size A W' → Row W' A.heap.size 30 (B k) → K' _ W') := hK'
      clear hK'
      generalize B k = V at *
      gi_wp2_with ((with_reducible show wpListIn _ _ _ _ _ (Oper.mk _ (Op.store 30 (.tmp 10) (.tmp 23)) _ _ _ _ :: _) _ _); refine wpListIn_store_Row rfl 30 (.tmp 10) (.tmp 23) rfl V rfl rfl (Row.new _ _ _) (by rw [HXL.out]; exact size30) (by rw [HXL.out]; rfl) HX1.out ?_; simp only [Act.put])
      exact HK'.out _ (below_setCells (Nat.le_refl _) _ _ ((Below.refl _ A).alloc (Nat.le_refl _) _)) (Row.sets_all (Row.new _ _ _) (by rw [HXL.out]; rfl))
    case body =>
      rintro li k A₀ A ⟨⟨hrK, hrC, hrN, hrM, hrR, hrI, hkm⟩, hB⟩ hle hrow
      have cm := hrM.cell (i := 0) rfl
      have ci := hrI.cell (i := 0) rfl
      have fi := hrI.frozen 0
      have cr := hrR.cell (i := 0) rfl
      have fr := hrR.frozen 0
      have cc := hrC.cell (i := 0) rfl
      have HrK : Hid (Row A w.heap.size 25 KV) := hrK
      have HrC : Hid (Row A (w.heap.size + 1) 22 [.int .u32 c]) := hrC
      have HrN : Hid (Row A (w.heap.size + 1 + 1) 26 NV) := hrN
      have HrM : Hid (Row A (w.heap.size + 1 + 1 + 1) 3 [.int .i64 m]) := hrM
      have HrR : Hid (Row A (w.heap.size + 1 + 1 + 1 + 1) 4 [.bool false]) := hrR
      have HrI : Hid (Row A (w.heap.size + 1 + 1 + 1 + 1 + 1) 3 [.int .i64 k]) := hrI
      have Hrow : Hid (Row A A₀.heap.size 30 (B k)) := hrow
      clear hrK hrC hrN hrM hrR hrI hrow
      by_cases hke : k = m
      · subst hke
        gi_wp2
        exact ⟨(KeepsOthers.setCell A _ _).from _, KpM.set (a := ⟨w.heap.size + 1 + 1 + 1 + 1, 0, none⟩) (.inl rfl) _, ⟨rfl, HrR.out.set 0 _⟩, hB.setCell (p := ⟨w.heap.size + 1 + 1 + 1 + 1, 0, none⟩) (by show _ ≤ w.heap.size + 1 + 1 + 1 + 1; omega) _⟩
      · have hki : ((k : Int) == (m : Int)) = false := by simp; omega
        have HVl : Hid ((B k).length = 64) := HBl.out k
        have hq := HQ.out k
        have HC := HBr.out k
        have e1 : IntKind.u32.wrap (k : Int) = (k : Int) := by rw [IntKind.wrap_u32]; omega
        have e2 : IntKind.u32.wrap ((c : Int) + (k : Int)) = (((c + k) % 4294967296 : Nat) : Int) := by rw [IntKind.wrap_u32]; omega
        have HC2 : Hid (∀ w, Calls Tryd.prog 12 #[.agg KV.toArray, .int .u32 ((c + k) % 4294967296 : Nat), .agg NV.toArray] w fun e w' => e = .returned (.agg (B k).toArray) ∧ Below w.heap.size w w') := HC
        clear HC
        generalize B k = V at *
        generalize hck : (c + k) % 4294967296 = ck at *
        clear hck
        gi_wp2
        refine wpIn_region_on_round (S := fun W' => Row W' A₀.heap.size 30 V ∧ Row W' w.heap.size 25 KV ∧ Row W' (w.heap.size + 1) 22 [.int .u32 c] ∧ Row W' (w.heap.size + 1 + 1 + 1 + 1 + 1) 3 [.int .i64 k] ∧ Row W' (w.heap.size + 1 + 1) 26 NV) (by kernel_rfl) (by kernel_rfl) ⟨Hrow.out.drew, HrK.out.drew, HrC.out.drew, HrI.out.drew, HrN.out.drew⟩ (fun hHeld => ?_)
        refine wpAnyH_takesAt 0 7 2 (of_decide_eq_true (by kernel_rfl)) rfl (fun _ _ _ _ _ h => h) (by kernel_rfl) (by kernel_rfl) hHeld ?_
        simp only [List.drop_zero, List.take_succ_cons, List.take_zero]
        refine wpHeld_load (by rfl) 30 (.tmp 10) (by rfl) (A₀.heap.size) 0 (by rfl) V (fun _ h => h.1.range) Tryd.underlying30 (by rw [HVl.out]; exact size30) ?_
        simp only [Act.put, List.setIfInBounds_toArray, List.set_cons_zero, List.set_cons_succ]
        refine wpHeld_load (by rfl) 25 (.tmp 4) (by rfl) (w.heap.size) 0 (by rfl) KV (fun _ h => h.2.1.range) Tryd.underlying25 (by rw [HKl.out]; exact size25) ?_
        simp only [Act.put, List.setIfInBounds_toArray, List.set_cons_zero, List.set_cons_succ]
        iterate 2 (refine wpHeld_step (v := ?_) (by rfl) (fun wz hSw => ?_) ?_; rotate_left; (focus (obtain ⟨s1, s2, s3, s4, s5⟩ := hSw; have t3 := s3.cell (i := 0) rfl; have t4 := s4.cell (i := 0) rfl; go_simp; try with_reducible rfl)); (simp only [Act.put, List.setIfInBounds_toArray, List.set_cons_zero, List.set_cons_succ]))
        iterate 2 (refine wpHeld_step (v := ?_) (by rfl) (fun wz hSw => ?_) ?_; rotate_left; (focus (go_simp; try with_reducible rfl)); (simp only [Act.put, List.setIfInBounds_toArray, List.set_cons_zero, List.set_cons_succ]))
        refine wpHeld_load (by rfl) 26 (.tmp 6) (by rfl) (w.heap.size + 1 + 1) 0 (by rfl) NV (fun _ h => h.2.2.2.2.range) Tryd.underlying26 (by rw [HNl.out]; exact size26) ?_
        simp only [Act.put, List.setIfInBounds_toArray, List.set_cons_zero, List.set_cons_succ]
        refine wpHeld_nil ?_
        refine wpAnyH_only (i := 7) (by kernel_rfl) rfl (fun K hK => ?_)
        rw [if_pos (by rfl)]
        go_simp
        refine (HC2.out _).mono ?_
        rintro e w5 ⟨rfl, hb5⟩
        have hHeld5 : Row w5 A₀.heap.size 30 V ∧ Row w5 w.heap.size 25 KV ∧ Row w5 (w.heap.size + 1) 22 [.int .u32 c] ∧ Row w5 (w.heap.size + 1 + 1 + 1 + 1 + 1) 3 [.int .i64 k] ∧ Row w5 (w.heap.size + 1 + 1) 26 NV := ⟨Hrow.out.drew.later hb5, HrK.out.drew.later hb5, HrC.out.drew.later hb5, HrI.out.drew.later hb5, HrN.out.drew.later hb5⟩
        refine hK.out _ _ hHeld5 ?_
        clear hK K
        refine wpAnyH_takesAt 8 1 0 (of_decide_eq_true (by kernel_rfl)) rfl (fun _ _ _ _ _ h => h) (by kernel_rfl) (by kernel_rfl) hHeld5 ?_
        simp only [List.drop_succ_cons, List.drop_zero, List.take_succ_cons, List.take_zero]
        (refine wpHeld_step (v := ?_) (by rfl) (fun wz hSw => ?_) ?_; rotate_left; (focus (go_simp; try with_reducible rfl)); (simp only [Act.put, List.setIfInBounds_toArray, List.set_cons_zero, List.set_cons_succ]))
        refine wpHeld_nil ?_
        refine wpAnyH_done (by kernel_rfl) ?_ _
        refine OnOnly.on ?_
        have hI5 := hHeld5.2.2.2.1
        clear hHeld5 hHeld
        have hB5 : Below w.heap.size w w5 := hB.drew.trans (hb5.mono (show w.heap.size ≤ A.heap.size from hB.size))
        have ci5 := hI5.cell (i := 0) rfl
        have fi5 := hI5.frozen 0
        have HI5 : Hid (Row w5 (w.heap.size + 1 + 1 + 1 + 1 + 1) 3 [.int .i64 k]) := hI5
        have hA5 : Below A.heap.size A w5 := (Below.refl _ A).drew.trans hb5
        have HA5 : Hid (Below A.heap.size A w5) := hA5
        have eA : IntKind.i64.wrap ((k : Int) + 1) = ((k + 1 : Nat) : Int) := by rw [IntKind.wrap_i64]; omega
        have HB5 : Hid (Below w.heap.size w w5) := hB5
        clear hI5 hb5 hA5 hB5
        gi_wp2
        refine ⟨(keepsFrom_of_below HA5.out).trans ((KeepsOthers.setCell w5 _ _).from _), (KpM.of_below HA5.out).trans (KpM.set (a := ⟨w.heap.size + 1 + 1 + 1 + 1 + 1, 0, none⟩) (.inr rfl) _), ⟨(HrK.out.later HA5.out).other (by simp <;> omega) _, (HrC.out.later HA5.out).other (by simp <;> omega) _, (HrN.out.later HA5.out).other (by simp) _, (HrM.out.later HA5.out).other (by simp) _, (HrR.out.later HA5.out).other (by simp) _, HI5.out.set 0 _, by omega⟩, HB5.out.setCell (p := ⟨w.heap.size + 1 + 1 + 1 + 1 + 1, 0, none⟩) (by show _ ≤ w.heap.size + 1 + 1 + 1 + 1 + 1; omega) _⟩
    case stop =>
      rintro D c' k A hD ⟨⟨rfl, hrr⟩, hB⟩ hKD
      gi_wp2
      refine ⟨by simp, .inl ⟨_, _, rfl, run_takeDeferred hKD, ?_⟩⟩
      refine ⟨_, results_bool rfl rfl ((World.putObj_heap_other (by omega)).trans hrr), rfl, ?_⟩
      exact hB.trans (below_putObj _ _ (by omega))
  · refine callsIn_of_wp_marks Tryd.func6 rfl trivial ?_ rfl
    simp only [Tryd.ntmps6, List.size_toArray, List.length_cons, List.length_nil, Nat.reduceAdd, Nat.reduceSub, Array.replicate_succ, Array.replicate_zero, List.push_toArray, List.append_toArray, List.nil_append, List.cons_append]
    by_cases h0 : mz < 0
    · gi_wp2_with (gi_at_call 8; rw [HW0.out]; refine (callsIn_wide.2 (awake_any _)).mono ?_; rintro e w1 ⟨rfl, hw1⟩; obtain rfl : w0 = w1 := hw1.symm; clear hw1)
      exact ⟨_, results_bool rfl rfl (HrR.out.set 0 _), rfl, hb0.setCell (p := ⟨w.heap.size + 1 + 1 + 1 + 1, 0, none⟩) (by show _ ≤ w.heap.size + 1 + 1 + 1 + 1; omega) _⟩
    · have h8 : (8 : Int) < mz := by omega
      gi_wp2_with (gi_at_call 8; rw [HW0.out]; refine (callsIn_wide.2 (awake_any _)).mono ?_; rintro e w1 ⟨rfl, hw1⟩; obtain rfl : w0 = w1 := hw1.symm; clear hw1)
      exact ⟨_, results_bool rfl rfl (HrR.out.set 0 _), rfl, hb0.setCell (p := ⟨w.heap.size + 1 + 1 + 1 + 1, 0, none⟩) (by show _ ≤ w.heap.size + 1 + 1 + 1 + 1; omega) _⟩

theorem chachaTells_walk (key : List Nat) (c : Nat) (nonce : List Nat) (mz : Int) (w : World) (hT : Tab w) (hk : key.length = 32 ∧ ∀ z ∈ key, z < 256) (hc : c < 4294967296) (hn : nonce.length = 12 ∧ ∀ z ∈ nonce, z < 256) (_ : -9223372036854775808 ≤ mz ∧ mz ≤ 9223372036854775807) :
    Calls Tryd.prog 6 #[.agg (u8s key).toArray, .int .u32 c, .agg (u8s nonce).toArray, .int .i64 mz] w fun e w' => e = .returned (.bool true) ∧ Below w.heap.size w w' :=
  callsIn_wide.1 (chachaTells_in 12 (by omega) c mz (u8s key) (u8s nonce) (fun k => u8s (blockN key ((c + k) % 4294967296) nonce)) ((u8s_length _).trans hk.1) ((u8s_length _).trans hn.1) (fun k => (u8s_length _).trans (blockN_length _ _ _)) (fun k => u8s_one _) hc
    (fun k => equal30 _ (u8s_int _ (blockN_length _ _ _))) (fun k w hT => block_any key _ nonce hk.1 hk.2 (Nat.mod_lt _ (by decide)) hn.1 hn.2 w hT) (fun k w => refBlock_any key _ nonce hk.1 hk.2 (Nat.mod_lt _ (by decide)) hn.1 hn.2 w) w hT)
end Go.Proofs.YtcciofbepdjkoaaDoor
