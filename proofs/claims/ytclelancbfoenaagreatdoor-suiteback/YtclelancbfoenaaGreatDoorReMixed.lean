/-
  What chacha.mixed answers: the state behind ten double rounds. Nothing that lay before the call has turned.
-/
import Derived.Test.YtclelancbfoenaaGreatDoorBaseAll
import Derived.Test.YtclelancbfoenaaGreatDoorReA
import Derived.BigQuiet
namespace Go.Proofs.YtclelancbfoenaaGreatDoor.Re
open Go.RowKit

theorem size120 : (Tryz.prog.info? 120).map (·.size) = some 16 := by kernel_rfl
theorem size162 : (Tryz.prog.info? 162).map (·.size) = some 4 := by kernel_rfl
theorem size163 : (Tryz.prog.info? 163).map (·.size) = some 32 := by kernel_rfl
theorem z16u32 : #[Value.int .u32 0, Value.int .u32 0, Value.int .u32 0, Value.int .u32 0, Value.int .u32 0, Value.int .u32 0, Value.int .u32 0, Value.int .u32 0, Value.int .u32 0, Value.int .u32 0, Value.int .u32 0, Value.int .u32 0, Value.int .u32 0, Value.int .u32 0, Value.int .u32 0, Value.int .u32 0] = (List.replicate 16 (Value.int .u32 0)).toArray := rfl

set_option maxRecDepth 100000 in
theorem run_index163 (k : Nat) (hk : k < 8) (w : World) : (Instr.index 163 (.agg (u8s quarL).toArray) (.int .i64 (k : Int))).run Tryz.prog w = .ok (.agg (u8s (quarRow k)).toArray) w := by
  have h : ∀ k : Nat, k < 8 → (Instr.index 163 (.agg (u8s quarL).toArray) (.int .i64 (k : Int))).run Tryz.prog w = .ok (.agg (u8s (quarRow k)).toArray) w := by
    intro k hk
    rcases k with _ | _ | _ | _ | _ | _ | _ | _ | k
    all_goals first | rfl | omega
  exact h k hk

theorem quar_four : ∀ j, j < 8 → ∃ a b c d, quarRow j = [a, b, c, d] ∧ a < 16 ∧ b < 16 ∧ c < 16 ∧ d < 16 := by
  intro j hj
  rcases j with _ | _ | _ | _ | _ | _ | _ | _ | j
  all_goals first | exact ⟨_, _, _, _, rfl, by decide, by decide, by decide, by decide⟩ | omega

/-- The first j quarters of a double round. -/
def stepsN (x : List Nat) : Nat → List Nat
  | 0 => x
  | j + 1 => quarterAt (stepsN x j) ((quarRow j).getD 0 0) ((quarRow j).getD 1 0) ((quarRow j).getD 2 0) ((quarRow j).getD 3 0)
@[simp] theorem stepsN_length (x : List Nat) : ∀ j, (stepsN x j).length = x.length
  | 0 => rfl
  | j + 1 => by rw [stepsN, quarterAt_length, stepsN_length x j]
theorem stepsN_lt {x : List Nat} (h : ∀ z ∈ x, z < 4294967296) : ∀ j, ∀ z ∈ stepsN x j, z < 4294967296
  | 0 => h
  | j + 1 => by rw [stepsN]; exact quarterAt_lt (stepsN_lt h j) _ _ _ _
theorem stepsN_all (x : List Nat) : stepsN x 8 = diagsN (colsN x 4) 4 := by
  simp only [stepsN, colsN, diagsN, quarRow]
  rfl

theorem u32s_set (l : List Nat) (i x : Nat) : (u32s l).set i (.int .u32 (x : Nat)) = u32s (l.set i x) := by simp [u32s, List.map_set]
set_option maxRecDepth 100000 in
set_option maxHeartbeats 4000000 in
theorem mixed_any (xs : List Nat) (hl : xs.length = 16) (hx : ∀ z ∈ xs, z < 4294967296) (w : World) (hT : Tab w) :
    Calls Tryz.prog 91 #[.agg (u32s xs).toArray] w fun e w' => e = .returned (.agg (u32s (doublesN xs 10)).toArray) ∧ Below w.heap.size w w' := by
  have HT : Hid (Tab w) := hT
  have HTp : Hid (1 < w.heap.size) := hT.pos
  obtain ⟨D, hD⟩ : ∃ D : Nat → List Nat, D = doublesN xs := ⟨_, rfl⟩
  have HD0 : Hid (D 0 = xs) := by show _ = _; rw [hD]; rfl
  have HDs : Hid (∀ k, D (k + 1) = stepsN (D k) 8) := fun k => by rw [hD, stepsN_all]; rfl
  have HDl : Hid (∀ k, (D k).length = 16) := fun k => by rw [hD, doublesN_length, hl]
  have HDx : Hid (∀ k, ∀ z ∈ D k, z < 4294967296) := fun k => by rw [hD]; exact doublesN_lt hx k
  rw [← hD]
  have HX : Hid ((u32s xs).length = 16) := by show _ = _; rw [u32s_length, hl]
  obtain ⟨QV, hQV⟩ : ∃ QV, QV = u8s quarL := ⟨_, rfl⟩
  have HQV : Hid (QV = u8s quarL) := hQV
  have HQl : Hid (QV.length = 32) := by show _ = _; rw [hQV]; rfl
  have HQi : Hid (∀ k : Nat, k < 8 → ∀ w, (Instr.index 163 (.agg QV.toArray) (.int .i64 (k : Int))).run Tryz.prog w = .ok (.agg (u8s (quarRow k)).toArray) w) := fun k hk w => by rw [hQV]; exact run_index163 k hk w
  clear hT hD hl hx hQV
  go_enter Tryz.func91, Tryz.ntmps91
  go_wp2
  rw [z16u32]
  have rX : Row ((w.alloc (.cells (u32s xs).toArray 120)).alloc (.cells (List.replicate 16 (Value.int .u32 0)).toArray 120)) w.heap.size 120 (u32s (D 0)) := by rw [HD0.out]; exact (Row.new' w 120 _).alloc _
  have rR : Row ((w.alloc (.cells (u32s xs).toArray 120)).alloc (.cells (List.replicate 16 (Value.int .u32 0)).toArray 120)) (w.heap.size + 1) 120 (List.replicate 16 (Value.int .u32 0)) := by
    have := Row.new' (w.alloc (.cells (u32s xs).toArray 120)) 120 (List.replicate 16 (Value.int .u32 0))
    rwa [World.size_alloc] at this
  have hb0 : Below w.heap.size w ((w.alloc (.cells (u32s xs).toArray 120)).alloc (.cells (List.replicate 16 (Value.int .u32 0)).toArray 120)) := ((Below.refl _ w).alloc (Nat.le_refl _) _).alloc (by simp) _
  have hs0 : w.heap.size + 2 ≤ ((w.alloc (.cells (u32s xs).toArray 120)).alloc (.cells (List.replicate 16 (Value.int .u32 0)).toArray 120)).heap.size := by simp
  generalize ((w.alloc (.cells (u32s xs).toArray 120)).alloc (.cells (List.replicate 16 (Value.int .u32 0)).toArray 120)) = w0 at *
  go_loopw [9] (fun i wr => ∃ k : Nat, k ≤ 10 ∧ i = .int .i64 k ∧ Row wr w.heap.size 120 (u32s (D k)) ∧ Row wr (w.heap.size + 1) 120 (List.replicate 16 (Value.int .u32 0)) ∧ Below w.heap.size w wr)
    (fun i _ => 10 - (intOf i).toNat)
  case atStart => exact ⟨0, by omega, rfl, rX, rR, hb0⟩
  case round =>
    clear rX rR hb0 hs0
    obtain ⟨k, hk, rfl, hrX, hrR, hBw⟩ := hrel
    by_cases hk10 : k < 10
    · have hki : (k : Int) < 10 := by omega
      have HrX : Hid (Row wr w.heap.size 120 (u32s (stepsN (D k) 0))) := hrX
      have HrR : Hid (Row wr (w.heap.size + 1) 120 (List.replicate 16 (Value.int .u32 0))) := hrR
      have HBw : Hid (Below w.heap.size w wr) := hBw
      have HTr : Hid (wr.rangeAt 1 0 QV) := by rw [HQV.out]; exact (HT.out.below hBw HTp.out).quarters
      have HY : Hid (∀ j, (stepsN (D k) j).length = 16) := fun j => by rw [stepsN_length, HDl.out]
      have HYx : Hid (∀ j, ∀ z ∈ stepsN (D k) j, z < 4294967296) := fun j => stepsN_lt (HDx.out k) j
      have HYs : Hid (D (k + 1) = stepsN (D k) 8) := HDs.out k
      have HYq : Hid (∀ j, stepsN (D k) (j + 1) = quarterAt (stepsN (D k) j) ((quarRow j).getD 0 0) ((quarRow j).getD 1 0) ((quarRow j).getD 2 0) ((quarRow j).getD 3 0)) := fun j => rfl
      clear hrX hrR hBw
      generalize stepsN (D k) = Y at *
      go_wp2_with ((with_reducible show wpList _ _ _ (Oper.mk _ (Op.load 163 (.global 1)) _ _ _ _ :: _) _ _); refine wpList_load_mid rfl 163 (.global 1) rfl 1 0 rfl QV _ HTr.out Tryz.underlying163 rfl (by rw [HQl.out]; exact size163) ?_; simp only [Act.put, List.setIfInBounds_toArray, List.set_cons_zero, List.set_cons_succ])
      go_loopw [12] (fun i wq => ∃ j : Nat, j ≤ 8 ∧ i = .int .i64 j ∧ Row wq w.heap.size 120 (u32s (Y j)) ∧ Row wq (w.heap.size + 1) 120 (List.replicate 16 (Value.int .u32 0)) ∧ Below w.heap.size w wq)
        (fun i _ => 8 - (intOf i).toNat)
      case atStart => exact ⟨0, by omega, rfl, HrX.out, HrR.out, HBw.out⟩
      case round =>
        clear HrX HrR HBw HTr
        obtain ⟨j, hj, rfl, hrX, hrR, hBq⟩ := hrel
        by_cases hj8 : j < 8
        · have hji : (j : Int) < 8 := by omega
          have cI := HQi.out j hj8
          obtain ⟨a, b, c, d, hq, ha, hb, hc, hd⟩ := quar_four j hj8
          have HJ := HYq.out j
          rw [hq] at cI HJ
          have HJ2 : Hid (Y (j + 1) = quarterAt (Y j) a b c d) := HJ
          clear HJ hq
          have HrX : Hid (Row wr w.heap.size 120 (u32s (Y j))) := hrX
          have HrR : Hid (Row wr (w.heap.size + 1) 120 (List.replicate 16 (Value.int .u32 0))) := hrR
          have HBq : Hid (Below w.heap.size w wr) := hBq
          have HA : Hid ((u32s (Y j))[a]? = some (.int .u32 ((Y j).getD a 0 : Nat)) ∧ (u32s (Y j))[b]? = some (.int .u32 ((Y j).getD b 0 : Nat)) ∧ (u32s (Y j))[c]? = some (.int .u32 ((Y j).getD c 0 : Nat)) ∧ (u32s (Y j))[d]? = some (.int .u32 ((Y j).getD d 0 : Nat))) :=
            ⟨u32s_at (by rw [HY.out]; omega), u32s_at (by rw [HY.out]; omega), u32s_at (by rw [HY.out]; omega), u32s_at (by rw [HY.out]; omega)⟩
          have bx : ∀ i, (Y j).getD i 0 < 4294967296 := fun i => all_getD (by decide) (HYx.out j) i
          have HQ := quarter_any _ _ _ _ (bx a) (bx b) (bx c) (bx d)
          obtain ⟨p, q, r, s, hpq⟩ : ∃ p q r s, quarterN ((Y j).getD a 0) ((Y j).getD b 0) ((Y j).getD c 0) ((Y j).getD d 0) = (p, q, r, s) := ⟨_, _, _, _, rfl⟩
          rw [hpq] at HQ
          dsimp only at HQ
          have HPQ0 : Hid (∀ x, x = Y j → quarterN (x.getD a 0) (x.getD b 0) (x.getD c 0) (x.getD d 0) = (p, q, r, s)) := fun x e => by rw [e]; exact hpq
          have HC : Hid (∀ w, Calls Tryz.prog 99 #[.int .u32 ((Y j).getD a 0 : Nat), .int .u32 ((Y j).getD b 0 : Nat), .int .u32 ((Y j).getD c 0 : Nat), .int .u32 ((Y j).getD d 0 : Nat)] w fun e w' => e = .returned (.tuple #[.int .u32 p, .int .u32 q, .int .u32 r, .int .u32 s]) ∧ w' = w) := HQ
          have hai : (a : Int) < 16 := by omega
          have hbi : (b : Int) < 16 := by omega
          have hci : (c : Int) < 16 := by omega
          have hdi : (d : Int) < 16 := by omega
          have hsq := hBq.size
          have hlq := hrR.lt
          clear HQ hpq bx hrX hrR hBq
          generalize (Y j).getD a 0 = xa at *
          generalize (Y j).getD b 0 = xb at *
          generalize (Y j).getD c 0 = xc at *
          generalize (Y j).getD d 0 = xd at *
          go_wp2_with ((with_reducible show wpList _ _ _ (Oper.mk _ (Op.store 162 (.tmp 4) (.tmp 14)) _ _ _ _ :: _) _ _); refine wpList_store_Row rfl 162 (.tmp 4) (.tmp 14) rfl (u8s [a, b, c, d]) rfl rfl (Row.new _ _ _) size162 rfl (u8s_one _) ?_; simp only [Act.put])
          have rN := Row.sets_all (vs := u8s [a, b, c, d]) (Row.new wr 162 #[.int .u8 0, .int .u8 0, .int .u8 0, .int .u8 0]) rfl
          have d0 := rN.cell (i := 0) rfl
          have d1 := rN.cell (i := 1) rfl
          have d2 := rN.cell (i := 2) rfl
          have d3 := rN.cell (i := 3) rfl
          have hne : w.heap.size ≠ wr.heap.size := by omega
          have hne1 : w.heap.size + 1 ≠ wr.heap.size := by omega
          have HrX1 : Hid (Row ((wr.alloc (.cells #[.int .u8 0, .int .u8 0, .int .u8 0, .int .u8 0] 162)).setCells wr.heap.size 0 (u8s [a, b, c, d])) w.heap.size 120 (u32s (Y j))) := Row.others hne _ 0 (HrX.out.alloc _)
          have HrR1 : Hid (Row ((wr.alloc (.cells #[.int .u8 0, .int .u8 0, .int .u8 0, .int .u8 0] 162)).setCells wr.heap.size 0 (u8s [a, b, c, d])) (w.heap.size + 1) 120 (List.replicate 16 (Value.int .u32 0))) := Row.others hne1 _ 0 (HrR.out.alloc _)
          have HBq1 : Hid (Below w.heap.size w ((wr.alloc (.cells #[.int .u8 0, .int .u8 0, .int .u8 0, .int .u8 0] 162)).setCells wr.heap.size 0 (u8s [a, b, c, d]))) := below_setCells hsq _ 0 (HBq.out.alloc hsq _)
          clear hne hne1 HrX HrR HBq rN
          have c0 : ((wr.alloc (.cells #[.int .u8 0, .int .u8 0, .int .u8 0, .int .u8 0] 162)).setCells wr.heap.size 0 (u8s [a, b, c, d])).cell? ⟨w.heap.size, a, none⟩ = some (.int .u32 (xa : Nat)) := HrX1.out.cell HA.out.1
          have c1 : ((wr.alloc (.cells #[.int .u8 0, .int .u8 0, .int .u8 0, .int .u8 0] 162)).setCells wr.heap.size 0 (u8s [a, b, c, d])).cell? ⟨w.heap.size, b, none⟩ = some (.int .u32 (xb : Nat)) := HrX1.out.cell HA.out.2.1
          have c2 : ((wr.alloc (.cells #[.int .u8 0, .int .u8 0, .int .u8 0, .int .u8 0] 162)).setCells wr.heap.size 0 (u8s [a, b, c, d])).cell? ⟨w.heap.size, c, none⟩ = some (.int .u32 (xc : Nat)) := HrX1.out.cell HA.out.2.2.1
          have c3 : ((wr.alloc (.cells #[.int .u8 0, .int .u8 0, .int .u8 0, .int .u8 0] 162)).setCells wr.heap.size 0 (u8s [a, b, c, d])).cell? ⟨w.heap.size, d, none⟩ = some (.int .u32 (xd : Nat)) := HrX1.out.cell HA.out.2.2.2
          have fz : ∀ i, ((wr.alloc (.cells #[.int .u8 0, .int .u8 0, .int .u8 0, .int .u8 0] 162)).setCells wr.heap.size 0 (u8s [a, b, c, d])).frozen? ⟨w.heap.size, i, none⟩ = false := fun i => HrX1.out.frozen i
          generalize hW1 : ((wr.alloc (.cells #[.int .u8 0, .int .u8 0, .int .u8 0, .int .u8 0] 162)).setCells wr.heap.size 0 (u8s [a, b, c, d])) = W1 at *
          generalize wr.heap.size = Bq at *
          clear hW1
          go_quiet (fail)
          go_wp2
          refine wp_region_noPanic ?_
          refine wp_region_gate' 23 (fun W' => W'.cell? ⟨w.heap.size, a, none⟩ = some (.int .u32 xa) ∧ W'.cell? ⟨w.heap.size, b, none⟩ = some (.int .u32 xb) ∧ W'.cell? ⟨w.heap.size, c, none⟩ = some (.int .u32 xc) ∧ W'.cell? ⟨w.heap.size, d, none⟩ = some (.int .u32 xd)) (by kernel_rfl) ?_
          refine wpAnyG_takesAt 0 16 14 (of_decide_eq_true (by kernel_rfl)) rfl (fun _ _ _ _ _ h => h) (by kernel_rfl) (by kernel_rfl) (fun _ => ⟨by simpa using c0, by simpa using c1, by simpa using c2, by simpa using c3⟩) ?_
          simp only [List.drop_zero, List.take_succ_cons, List.take_zero]
          iterate 6 (refine wpHeldG_free (v := ?_) (by rfl) (fun wz => ?_) ?_; rotate_left; (focus (go_simp; try with_reducible rfl)); (simp only [Act.put, List.setIfInBounds_toArray, List.set_cons_zero, List.set_cons_succ]))
          iterate 1 (refine wpHeldG_step (v := ?_) (by rfl) (by kernel_rfl) (fun wz hSw => ?_) ?_; rotate_left; (focus ((try dsimp only at hSw); go_simp; try with_reducible rfl)); (simp only [Act.put, List.setIfInBounds_toArray, List.set_cons_zero, List.set_cons_succ]))
          iterate 2 (refine wpHeldG_free (v := ?_) (by rfl) (fun wz => ?_) ?_; rotate_left; (focus (go_simp; try with_reducible rfl)); (simp only [Act.put, List.setIfInBounds_toArray, List.set_cons_zero, List.set_cons_succ]))
          iterate 1 (refine wpHeldG_step (v := ?_) (by rfl) (by kernel_rfl) (fun wz hSw => ?_) ?_; rotate_left; (focus ((try dsimp only at hSw); go_simp; try with_reducible rfl)); (simp only [Act.put, List.setIfInBounds_toArray, List.set_cons_zero, List.set_cons_succ]))
          iterate 2 (refine wpHeldG_free (v := ?_) (by rfl) (fun wz => ?_) ?_; rotate_left; (focus (go_simp; try with_reducible rfl)); (simp only [Act.put, List.setIfInBounds_toArray, List.set_cons_zero, List.set_cons_succ]))
          iterate 1 (refine wpHeldG_step (v := ?_) (by rfl) (by kernel_rfl) (fun wz hSw => ?_) ?_; rotate_left; (focus ((try dsimp only at hSw); go_simp; try with_reducible rfl)); (simp only [Act.put, List.setIfInBounds_toArray, List.set_cons_zero, List.set_cons_succ]))
          iterate 2 (refine wpHeldG_free (v := ?_) (by rfl) (fun wz => ?_) ?_; rotate_left; (focus (go_simp; try with_reducible rfl)); (simp only [Act.put, List.setIfInBounds_toArray, List.set_cons_zero, List.set_cons_succ]))
          iterate 1 (refine wpHeldG_step (v := ?_) (by rfl) (by kernel_rfl) (fun wz hSw => ?_) ?_; rotate_left; (focus ((try dsimp only at hSw); go_simp; try with_reducible rfl)); (simp only [Act.put, List.setIfInBounds_toArray, List.set_cons_zero, List.set_cons_succ]))
          refine wpHeldG_nil ?_
          refine wpAnyG_only (i := 16) (by kernel_rfl) rfl (by rfl) (fun K hK => ?_)
          go_simp
          refine (HC.out _).mono ?_
          rintro e w' ⟨rfl, rfl⟩
          refine hK.out _ _ (fun _ => ⟨by simpa using c0, by simpa using c1, by simpa using c2, by simpa using c3⟩) ?_
          clear hK K
          refine wpAnyG_takesAt 17 6 7 (of_decide_eq_true (by kernel_rfl)) rfl (fun _ _ _ _ _ h => h) (by kernel_rfl) (by kernel_rfl) (fun _ => ⟨by simpa using c0, by simpa using c1, by simpa using c2, by simpa using c3⟩) ?_
          simp only [List.drop_succ_cons, List.drop_zero, List.take_succ_cons, List.take_zero]
          iterate 6 (refine wpHeldG_free (v := ?_) (by rfl) (fun wz => ?_) ?_; rotate_left; (focus (go_simp; try with_reducible rfl)); (simp only [Act.put, List.setIfInBounds_toArray, List.set_cons_zero, List.set_cons_succ]))
          refine wpHeldG_nil ?_
          have HX0 : Hid (Row (W1.drewN (nq + 1)) w.heap.size 120 (u32s (Y j))) := HrX1.out
          have HR0 : Hid (Row (W1.drewN (nq + 1)) (w.heap.size + 1) 120 (List.replicate 16 (Value.int .u32 0))) := HrR1.out
          have HB0 : Hid (Below w.heap.size w (W1.drewN (nq + 1))) := below_drewN HBq1.out _
          have HYl : Hid ((u32s (Y j)).length = 16) := by show _ = _; rw [u32s_length]; exact HY.out j
          clear HrX1 HrR1 HBq1
          generalize hV0 : W1.drewN (nq + 1) = V0 at *
          clear hV0 c0 c1 c2 c3 fz d0 d1 d2 d3
          obtain ⟨v0, hv0⟩ : ∃ v, V0.cell? ⟨w.heap.size, a, none⟩ = some v := ⟨_, HX0.out.cell (List.getElem?_eq_getElem (by (try simp only [List.length_set]); rw [HYl.out]; omega))⟩
          have fz0 := HX0.out.frozen a
          refine wpAnyG_only (i := 23) (by kernel_rfl) rfl (by rfl) (fun K hK => ?_)
          go_simp
          refine hK.out _ _ (gone (by kernel_rfl)) ?_
          clear hK K
          have HX1 : Hid (Row (V0.setCell ⟨w.heap.size, a, none⟩ (.int .u32 (p : Nat))) w.heap.size 120 ((u32s (Y j)).set a (.int .u32 (p : Nat)))) := HX0.out.set _ _
          have HR1 : Hid (Row (V0.setCell ⟨w.heap.size, a, none⟩ (.int .u32 (p : Nat))) (w.heap.size + 1) 120 (List.replicate 16 (Value.int .u32 0))) := HR0.out.other (by simp) _
          have HB1 : Hid (Below w.heap.size w (V0.setCell ⟨w.heap.size, a, none⟩ (.int .u32 (p : Nat)))) := HB0.out.setCell (p := ⟨w.heap.size, a, none⟩) (Nat.le_refl _) _
          generalize V0.setCell ⟨w.heap.size, a, none⟩ (.int .u32 (p : Nat)) = V1 at *
          clear hv0 fz0 HX0 HR0 HB0
          obtain ⟨v1, hv1⟩ : ∃ v, V1.cell? ⟨w.heap.size, b, none⟩ = some v := ⟨_, HX1.out.cell (List.getElem?_eq_getElem (by (try simp only [List.length_set]); rw [HYl.out]; omega))⟩
          have fz1 := HX1.out.frozen b
          refine wpAnyG_takesAt 24 1 5 (of_decide_eq_true (by kernel_rfl)) rfl (fun _ _ _ _ _ h => h) (by kernel_rfl) (by kernel_rfl) (gone (by kernel_rfl)) ?_
          simp only [List.drop_succ_cons, List.drop_zero, List.take_succ_cons, List.take_zero]
          iterate 1 (refine wpHeldG_free (v := ?_) (by rfl) (fun wz => ?_) ?_; rotate_left; (focus (go_simp; try with_reducible rfl)); (simp only [Act.put, List.setIfInBounds_toArray, List.set_cons_zero, List.set_cons_succ]))
          refine wpHeldG_nil ?_
          refine wpAnyG_only (i := 25) (by kernel_rfl) rfl (by rfl) (fun K hK => ?_)
          go_simp
          refine hK.out _ _ (gone (by kernel_rfl)) ?_
          clear hK K
          have HX2 : Hid (Row (V1.setCell ⟨w.heap.size, b, none⟩ (.int .u32 (q : Nat))) w.heap.size 120 (((u32s (Y j)).set a (.int .u32 (p : Nat))).set b (.int .u32 (q : Nat)))) := HX1.out.set _ _
          have HR2 : Hid (Row (V1.setCell ⟨w.heap.size, b, none⟩ (.int .u32 (q : Nat))) (w.heap.size + 1) 120 (List.replicate 16 (Value.int .u32 0))) := HR1.out.other (by simp) _
          have HB2 : Hid (Below w.heap.size w (V1.setCell ⟨w.heap.size, b, none⟩ (.int .u32 (q : Nat)))) := HB1.out.setCell (p := ⟨w.heap.size, b, none⟩) (Nat.le_refl _) _
          generalize V1.setCell ⟨w.heap.size, b, none⟩ (.int .u32 (q : Nat)) = V2 at *
          clear hv1 fz1 HX1 HR1 HB1
          obtain ⟨v2, hv2⟩ : ∃ v, V2.cell? ⟨w.heap.size, c, none⟩ = some v := ⟨_, HX2.out.cell (List.getElem?_eq_getElem (by (try simp only [List.length_set]); rw [HYl.out]; omega))⟩
          have fz2 := HX2.out.frozen c
          refine wpAnyG_takesAt 26 1 3 (of_decide_eq_true (by kernel_rfl)) rfl (fun _ _ _ _ _ h => h) (by kernel_rfl) (by kernel_rfl) (gone (by kernel_rfl)) ?_
          simp only [List.drop_succ_cons, List.drop_zero, List.take_succ_cons, List.take_zero]
          iterate 1 (refine wpHeldG_free (v := ?_) (by rfl) (fun wz => ?_) ?_; rotate_left; (focus (go_simp; try with_reducible rfl)); (simp only [Act.put, List.setIfInBounds_toArray, List.set_cons_zero, List.set_cons_succ]))
          refine wpHeldG_nil ?_
          refine wpAnyG_only (i := 27) (by kernel_rfl) rfl (by rfl) (fun K hK => ?_)
          go_simp
          refine hK.out _ _ (gone (by kernel_rfl)) ?_
          clear hK K
          have HX3 : Hid (Row (V2.setCell ⟨w.heap.size, c, none⟩ (.int .u32 (r : Nat))) w.heap.size 120 ((((u32s (Y j)).set a (.int .u32 (p : Nat))).set b (.int .u32 (q : Nat))).set c (.int .u32 (r : Nat)))) := HX2.out.set _ _
          have HR3 : Hid (Row (V2.setCell ⟨w.heap.size, c, none⟩ (.int .u32 (r : Nat))) (w.heap.size + 1) 120 (List.replicate 16 (Value.int .u32 0))) := HR2.out.other (by simp) _
          have HB3 : Hid (Below w.heap.size w (V2.setCell ⟨w.heap.size, c, none⟩ (.int .u32 (r : Nat)))) := HB2.out.setCell (p := ⟨w.heap.size, c, none⟩) (Nat.le_refl _) _
          generalize V2.setCell ⟨w.heap.size, c, none⟩ (.int .u32 (r : Nat)) = V3 at *
          clear hv2 fz2 HX2 HR2 HB2
          obtain ⟨v3, hv3⟩ : ∃ v, V3.cell? ⟨w.heap.size, d, none⟩ = some v := ⟨_, HX3.out.cell (List.getElem?_eq_getElem (by (try simp only [List.length_set]); rw [HYl.out]; omega))⟩
          have fz3 := HX3.out.frozen d
          refine wpAnyG_takesAt 28 1 1 (of_decide_eq_true (by kernel_rfl)) rfl (fun _ _ _ _ _ h => h) (by kernel_rfl) (by kernel_rfl) (gone (by kernel_rfl)) ?_
          simp only [List.drop_succ_cons, List.drop_zero, List.take_succ_cons, List.take_zero]
          iterate 1 (refine wpHeldG_free (v := ?_) (by rfl) (fun wz => ?_) ?_; rotate_left; (focus (go_simp; try with_reducible rfl)); (simp only [Act.put, List.setIfInBounds_toArray, List.set_cons_zero, List.set_cons_succ]))
          refine wpHeldG_nil ?_
          refine wpAnyG_only (i := 29) (by kernel_rfl) rfl (by rfl) (fun K hK => ?_)
          go_simp
          refine hK.out _ _ (gone (by kernel_rfl)) ?_
          clear hK K
          have HX4 : Hid (Row (V3.setCell ⟨w.heap.size, d, none⟩ (.int .u32 (s : Nat))) w.heap.size 120 (((((u32s (Y j)).set a (.int .u32 (p : Nat))).set b (.int .u32 (q : Nat))).set c (.int .u32 (r : Nat))).set d (.int .u32 (s : Nat)))) := HX3.out.set _ _
          have HR4 : Hid (Row (V3.setCell ⟨w.heap.size, d, none⟩ (.int .u32 (s : Nat))) (w.heap.size + 1) 120 (List.replicate 16 (Value.int .u32 0))) := HR3.out.other (by simp) _
          have HB4 : Hid (Below w.heap.size w (V3.setCell ⟨w.heap.size, d, none⟩ (.int .u32 (s : Nat)))) := HB3.out.setCell (p := ⟨w.heap.size, d, none⟩) (Nat.le_refl _) _
          generalize V3.setCell ⟨w.heap.size, d, none⟩ (.int .u32 (s : Nat)) = V4 at *
          clear hv3 fz3 HX3 HR3 HB3
          refine wpAnyG_done (by kernel_rfl) ?_ _
          refine NoPanic.normal ?_
          go_wp2
          go_roundw
          case rel =>
            refine ⟨j + 1, by omega, by go_num, ?_, HR4.out, HB4.out⟩
            have h := HX4.out
            rw [u32s_set, u32s_set, u32s_set, u32s_set] at h
            rw [HJ2.out]
            unfold quarterAt
            rw [HPQ0.out _ rfl]
            exact h
          case measure => simp [intOf]; omega
        · obtain rfl : j = 8 := by omega
          rw [← HYs.out] at hrX
          go_wp2
          go_roundw
          case rel => exact ⟨k + 1, by omega, by go_num, hrX, hrR, hBq⟩
          case measure => simp [intOf]; omega
    · obtain rfl : k = 10 := by omega
      have HrX : Hid (Row wr w.heap.size 120 (u32s (D 10))) := hrX
      have HrR : Hid (Row wr (w.heap.size + 1) 120 (List.replicate 16 (Value.int .u32 0))) := hrR
      have HL : Hid ((u32s (D 10)).length = 16) := by show _ = _; rw [u32s_length, HDl.out]
      have H1 : Hid (∀ v ∈ u32s (D 10), v.oneCell' = true) := u32s_one _
      clear hrX hrR
      generalize hV : u32s (D 10) = V at *
      have HV : Hid (u32s (D 10) = V) := hV
      clear hV
      go_wp2_with (first
        | ((with_reducible show wpList _ _ _ (Oper.mk _ (Op.load 120 (.tmp 1)) _ _ _ _ :: _) _ _); refine wpList_load_Row rfl 120 (.tmp 1) rfl rfl HrX.out Tryz.underlying120 (by rw [HL.out]; exact size120) ?_; simp only [Act.put, List.setIfInBounds_toArray, List.set_cons_zero, List.set_cons_succ])
        | ((with_reducible show wpList _ _ _ (Oper.mk _ (Op.store 120 (.tmp 2) (.tmp 51)) _ _ _ _ :: _) _ _); refine wpList_store_Row rfl 120 (.tmp 2) (.tmp 51) rfl V rfl rfl HrR.out (by rw [HL.out]; exact size120) (by rw [HL.out]; rfl) H1.out ?_; simp only [Act.put]))
      refine bodyPost_ret (results_Row rfl rfl (Row.sets_all (vs := V) HrR.out (by rw [HL.out]; rfl)) Tryz.underlying120 (by rw [HL.out]; exact size120)) rfl ?_
      exact ⟨by rw [HV.out], below_setCells (by omega) _ _ hBw⟩
end Go.Proofs.YtclelancbfoenaaGreatDoor.Re
