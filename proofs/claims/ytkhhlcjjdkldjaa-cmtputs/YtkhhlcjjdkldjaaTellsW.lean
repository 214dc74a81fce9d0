/-
  CmtTells: the walk.
-/
import Derived.Test.YtkhhlcjjdkldjaaAwC
import Derived.Test.YtkhhlcjjdkldjaaSameC
import Derived.Deep.CutRange
namespace Go.Proofs.Ytkhhlcjjdkldjaa
open Go.RowKit

theorem wpHeld_loadE {ops : Array Oper} {S : World → Prop} {K : Act → Prop} {a : Act} {o : Oper} {rest : List Oper} (hw : Region.wanted o (yielded ops a.tmps) = true) (x : Operand) (ho : o.op = .load 29 x)
    (b off : Nat) (hx : a.eval x = .pointer (some ⟨b, off, none⟩)) (cs : List Value) (hS : ∀ w, S w → w.rangeAt b off cs) (hi : (Try.prog.info? 29).map (·.size) = some cs.length)
    (h : wpHeld Try.prog ops S K rest (a.put o.dst (.agg cs.toArray))) : wpHeld Try.prog ops S K (o :: rest) a := ⟨_, yieldsIf_load_mid hw 29 x ho b off hx cs _ hS Try.underlying29 rfl hi, h⟩
theorem wpList_load_want29 {ops : Array Oper} {rest : List Oper} {o : Oper} {a : Act} {w : World} {Q : Exit → Act → World → Prop} (hw : Region.wanted o (yielded ops a.tmps) = true) (x : Operand) (ho : o.op = .load 29 x) {b off : Nat} (hx : a.eval x = .pointer (some ⟨b, off, none⟩)) {s : Value} {c : Cmt} (hok : c.ok) (hr : w.rangeAt b off (cmtC s c))
    (h : wpList Try.prog ops Q rest (a.put o.dst (.agg (cmtC s c).toArray)) w) : wpList Try.prog ops Q (o :: rest) a w :=
  BigFrame.wpList_want hw fun _ hK => wp_load_mid 29 x ho b off hx (cmtC s c) _ hr Try.underlying29 rfl (size29' hok) (hK _ _ h)
theorem sameC_refl (pa : List (List Nat)) (a : Cmt) : sameC pa a pa a = true := by simp [sameC]

set_option maxRecDepth 100000 in
set_option maxHeartbeats 4000000 in
theorem cmtTells_walk (p : Option Addr) (len cap : Nat) (pa : List (List Nat)) (a : Cmt) (p2 : Option Addr) (len2 cap2 : Nat) (pb : List (List Nat)) (b : Cmt) (p3 : Option Addr) (len3 cap3 : Nat) (cs : List (Value × Cmt)) (w : World) (hoa : a.ok) (hI : IsIds w.heap.size w p len cap pa) (hob : b.ok) (hJ : IsIds w.heap.size w p2 len2 cap2 pb) (hL : IsCmts w.heap.size w p3 len3 cap3 cs) :
    Calls Try.prog 6 #[.agg (cmtC (.slice p len cap) a).toArray, .agg (cmtC (.slice p2 len2 cap2) b).toArray, .slice p3 len3 cap3] w fun e w' => e = .returned (.bool true) ∧ Below w.heap.size w w' := by
  obtain ⟨w0, hw0⟩ : ∃ w0, (w.alloc (.cells (cmtC (.slice p len cap) a).toArray 29)).alloc (.cells (cmtC (.slice p2 len2 cap2) b).toArray 29) = w0 := ⟨_, rfl⟩
  have hb0 : Below w.heap.size w w0 := by rw [← hw0]; exact ((Below.refl _ w).alloc (Nat.le_refl _) _).alloc (by simp) _
  have HA0 : Hid (CmtAt w0 w.heap.size (.slice p len cap) a) := by rw [← hw0]; exact ⟨hoa, (Row.new' w 29 _).alloc _⟩
  have HB0 : Hid (CmtAt w0 (w.heap.size + 1) (.slice p2 len2 cap2) b) := by
    rw [← hw0]
    have h := Row.new' (w.alloc (.cells (cmtC (.slice p len cap) a).toArray 29)) 29 (cmtC (.slice p2 len2 cap2) b)
    rw [World.size_alloc] at h
    exact ⟨hob, h⟩
  have HW0 : Hid ((w.alloc (.cells (cmtC (.slice p len cap) a).toArray 29)).alloc (.cells (cmtC (.slice p2 len2 cap2) b).toArray 29) = w0) := hw0
  have HAw := awake_any w0
  have HFa : Hid (∀ W, Calls Try.prog 8 #[.agg (cmtC (.slice p len cap) a).toArray] W fun e w' => e = .returned (.bool (fewC len a)) ∧ Below W.heap.size W w') := fun W => few_any p len cap a hoa W
  have HFb : Hid (∀ W, Calls Try.prog 8 #[.agg (cmtC (.slice p2 len2 cap2) b).toArray] W fun e w' => e = .returned (.bool (fewC len2 b)) ∧ Below W.heap.size W w') := fun W => few_any p2 len2 cap2 b hob W
  have HoA : Hid a.ok := hoa
  have HoB : Hid b.ok := hob
  have HI : Hid (IsIds w0.heap.size w0 p len cap pa) := (hI.below hb0).mono hb0.size
  have HJ : Hid (IsIds w0.heap.size w0 p2 len2 cap2 pb) := (hJ.below hb0).mono hb0.size
  have HL : Hid (IsCmts w0.heap.size w0 p3 len3 cap3 cs) := hL.later hb0
  have hl3 := hL.2.1
  have hc3 := hL.2.2.1
  clear hw0 hI hJ hL hoa hob
  generalize fewC len a = fa at *
  generalize fewC len2 b = fb at *
  cases fa with
  | false =>
    go_enter Try.func6, Try.ntmps6
    go_wp2_with (first
      | (rw [HW0.out])
      | (go_at_call 7; refine HAw.mono ?_; rintro e w1 ⟨rfl, hb1⟩; have HB1 : Hid (Below w0.heap.size w0 w1) := hb1; clear hb1)
      | ((with_reducible show wpList _ _ _ (Oper.mk _ (Op.load 29 (.tmp 3)) _ _ _ _ :: _) _ _); refine wpList_loadCmt rfl (.tmp 3) rfl rfl HoA.out (HA0.out.later HB1.out).row.range ?_; simp only [Act.put, List.setIfInBounds_toArray, List.set_cons_zero, List.set_cons_succ])
      | ((with_reducible show wpList _ _ _ (Oper.mk _ (Op.load 29 (.tmp 4)) _ _ _ _ :: _) _ _); refine wpList_load_want29 (by rfl) (.tmp 4) rfl rfl HoB.out (HB0.out.later HB2.out).row.range ?_; simp only [Act.put, List.setIfInBounds_toArray, List.set_cons_zero, List.set_cons_succ])
      | (go_at_call 8; have _ := HB2; refine (HFb.out _).mono ?_; rintro e w3 ⟨rfl, hb3⟩; have HB3 : Hid (Below w0.heap.size w0 w3) := HB2.out.trans (hb3.mono HB2.out.size); clear hb3)
      | (go_at_call 8; refine (HFa.out _).mono ?_; rintro e w2 ⟨rfl, hb2⟩; have HB2 : Hid (Below w0.heap.size w0 w2) := HB1.out.trans (hb2.mono HB1.out.size); clear hb2))
    go_ret
    exact ⟨rfl, hb0.trans (HB2.out.mono hb0.size)⟩
  | true =>
    cases fb with
    | false =>
      go_enter Try.func6, Try.ntmps6
      go_wp2_with (first
        | (rw [HW0.out])
        | (go_at_call 7; refine HAw.mono ?_; rintro e w1 ⟨rfl, hb1⟩; have HB1 : Hid (Below w0.heap.size w0 w1) := hb1; clear hb1)
        | ((with_reducible show wpList _ _ _ (Oper.mk _ (Op.load 29 (.tmp 3)) _ _ _ _ :: _) _ _); refine wpList_loadCmt rfl (.tmp 3) rfl rfl HoA.out (HA0.out.later HB1.out).row.range ?_; simp only [Act.put, List.setIfInBounds_toArray, List.set_cons_zero, List.set_cons_succ])
        | ((with_reducible show wpList _ _ _ (Oper.mk _ (Op.load 29 (.tmp 4)) _ _ _ _ :: _) _ _); refine wpList_load_want29 (by rfl) (.tmp 4) rfl rfl HoB.out (HB0.out.later HB2.out).row.range ?_; simp only [Act.put, List.setIfInBounds_toArray, List.set_cons_zero, List.set_cons_succ])
        | (go_at_call 8; have _ := HB2; refine (HFb.out _).mono ?_; rintro e w3 ⟨rfl, hb3⟩; have HB3 : Hid (Below w0.heap.size w0 w3) := HB2.out.trans (hb3.mono HB2.out.size); clear hb3)
        | (go_at_call 8; refine (HFa.out _).mono ?_; rintro e w2 ⟨rfl, hb2⟩; have HB2 : Hid (Below w0.heap.size w0 w2) := HB1.out.trans (hb2.mono HB1.out.size); clear hb2))
      go_ret
      exact ⟨rfl, hb0.trans (HB3.out.mono hb0.size)⟩
    | true =>
      by_cases hll : 40 < len3
      · have hlli : (40 : Int) < (len3 : Int) := by omega
        go_enter Try.func6, Try.ntmps6
        go_wp2_with (first
          | (rw [HW0.out])
          | (go_at_call 7; refine HAw.mono ?_; rintro e w1 ⟨rfl, hb1⟩; have HB1 : Hid (Below w0.heap.size w0 w1) := hb1; clear hb1)
          | ((with_reducible show wpList _ _ _ (Oper.mk _ (Op.load 29 (.tmp 3)) _ _ _ _ :: _) _ _); refine wpList_loadCmt rfl (.tmp 3) rfl rfl HoA.out (HA0.out.later HB1.out).row.range ?_; simp only [Act.put, List.setIfInBounds_toArray, List.set_cons_zero, List.set_cons_succ])
          | ((with_reducible show wpList _ _ _ (Oper.mk _ (Op.load 29 (.tmp 4)) _ _ _ _ :: _) _ _); refine wpList_load_want29 (by rfl) (.tmp 4) rfl rfl HoB.out (HB0.out.later HB2.out).row.range ?_; simp only [Act.put, List.setIfInBounds_toArray, List.set_cons_zero, List.set_cons_succ])
          | (go_at_call 8; have _ := HB2; refine (HFb.out _).mono ?_; rintro e w3 ⟨rfl, hb3⟩; have HB3 : Hid (Below w0.heap.size w0 w3) := HB2.out.trans (hb3.mono HB2.out.size); clear hb3)
          | (go_at_call 8; refine (HFa.out _).mono ?_; rintro e w2 ⟨rfl, hb2⟩; have HB2 : Hid (Below w0.heap.size w0 w2) := HB1.out.trans (hb2.mono HB1.out.size); clear hb2))
        go_ret
        exact ⟨rfl, hb0.trans (HB3.out.mono hb0.size)⟩
      · have hlli : ¬ (40 : Int) < (len3 : Int) := by omega
        have HS1 : Hid (∀ W, Below w0.heap.size w0 W → Calls Try.prog 17 #[.agg (cmtC (.slice p len cap) a).toArray, .agg (cmtC (.slice p2 len2 cap2) b).toArray] W fun e w' => e = .returned (.bool (sameC pa a pb b)) ∧ Below W.heap.size W w') := fun W h => same_any p len cap pa a p2 len2 cap2 pb b HoA.out HoB.out W ((HI.out.below h).mono h.size) ((HJ.out.below h).mono h.size)
        have HS2 : Hid (∀ W, Below w0.heap.size w0 W → Calls Try.prog 16 #[.agg (cmtC (.slice p len cap) a).toArray, .agg (cmtC (.slice p2 len2 cap2) b).toArray] W fun e w' => e = .returned (.bool (sameC pa a pb b)) ∧ Below W.heap.size W w') := fun W h => sameCommit_any p len cap pa a p2 len2 cap2 pb b HoA.out HoB.out W ((HI.out.below h).mono h.size) ((HJ.out.below h).mono h.size)
        have HS3 : Hid (∀ W, Below w0.heap.size w0 W → Calls Try.prog 17 #[.agg (cmtC (.slice p len cap) a).toArray, .agg (cmtC (.slice p len cap) a).toArray] W fun e w' => e = .returned (.bool true) ∧ Below W.heap.size W w') := fun W h => by
          have := same_any p len cap pa a p len cap pa a HoA.out HoA.out W ((HI.out.below h).mono h.size) ((HI.out.below h).mono h.size)
          rwa [sameC_refl] at this
        have HN1 : Hid (∀ W, Below w0.heap.size w0 W → Calls Try.prog 18 #[.slice p3 len3 cap3] W fun e w' => e = .returned (.int .u64 (nextN cs : Nat)) ∧ Below W.heap.size W w') := fun W h => next_any p3 len3 cap3 cs W (HL.out.later h)
        have HN2 : Hid (∀ W, Below w0.heap.size w0 W → Calls Try.prog 19 #[.slice p3 len3 cap3] W fun e w' => e = .returned (.int .u64 (nextN cs : Nat)) ∧ Below W.heap.size W w') := fun W h => refNext_any p3 len3 cap3 cs W (HL.out.later h)
        generalize sameC pa a pb b = sb at *
        generalize nextN cs = nx at *
        go_enter Try.func6, Try.ntmps6
        go_upto_region 5 with (first
          | (rw [HW0.out])
          | (go_at_call 7; refine HAw.mono ?_; rintro e w1 ⟨rfl, hb1⟩; have HB1 : Hid (Below w0.heap.size w0 w1) := hb1; clear hb1)
          | ((with_reducible show wpList _ _ _ (Oper.mk _ (Op.load 29 (.tmp 3)) _ _ _ _ :: _) _ _); refine wpList_loadCmt rfl (.tmp 3) rfl rfl HoA.out (HA0.out.later HB1.out).row.range ?_; simp only [Act.put, List.setIfInBounds_toArray, List.set_cons_zero, List.set_cons_succ])
          | ((with_reducible show wpList _ _ _ (Oper.mk _ (Op.load 29 (.tmp 4)) _ _ _ _ :: _) _ _); refine wpList_load_want29 (by rfl) (.tmp 4) rfl rfl HoB.out (HB0.out.later HB2.out).row.range ?_; simp only [Act.put, List.setIfInBounds_toArray, List.set_cons_zero, List.set_cons_succ])
          | (go_at_call 8; have _ := HB2; refine (HFb.out _).mono ?_; rintro e w3 ⟨rfl, hb3⟩; have HB3 : Hid (Below w0.heap.size w0 w3) := HB2.out.trans (hb3.mono HB2.out.size); clear hb3)
          | (go_at_call 8; refine (HFa.out _).mono ?_; rintro e w2 ⟨rfl, hb2⟩; have HB2 : Hid (Below w0.heap.size w0 w2) := HB1.out.trans (hb2.mono HB1.out.size); clear hb2))
        go_cut [40, 6] from 22 to 40 (fun v u wx => u = .bool true ∧ Below w0.heap.size w0 wx)
        case first =>
          cases sb with
          | true =>
            refine wp_region_held_drew (S := fun W => Below w0.heap.size w0 W) (by kernel_rfl) HB3.out.drew (fun hHeld => ?_)
            refine wpAnyH_takesAt 0 1 19 (of_decide_eq_true (by kernel_rfl)) rfl (fun _ _ _ d _ h => by cases d <;> exact h) (by kernel_rfl) (by kernel_rfl) hHeld ?_
            simp only [List.drop_zero, List.take_succ_cons, List.take_zero]
            refine wpHeld_loadE (by rfl) (.tmp 3) rfl w.heap.size (0) rfl (cmtC (.slice p len cap) a) (fun W hW => (HA0.out.later hW).row.range) (size29' HoA.out) ?_
            (simp only [Act.put]; (try simp only [List.setIfInBounds_toArray]); (try simp only [List.set_cons_succ]); (try simp only [List.set_cons_zero]))
            refine wpHeld_nil ?_
            refine wpAnyH_takesAt 1 1 18 (of_decide_eq_true (by kernel_rfl)) rfl (fun _ _ _ d _ h => by cases d <;> exact h) (by kernel_rfl) (by kernel_rfl) hHeld ?_
            simp only [List.drop_succ_cons, List.drop_zero, List.take_succ_cons, List.take_zero]
            refine wpHeld_loadE (by rfl) (.tmp 4) rfl (w.heap.size + 1) (0) rfl (cmtC (.slice p2 len2 cap2) b) (fun W hW => (HB0.out.later hW).row.range) (size29' HoB.out) ?_
            (simp only [Act.put]; (try simp only [List.setIfInBounds_toArray]); (try simp only [List.set_cons_succ]); (try simp only [List.set_cons_zero]))
            refine wpHeld_nil ?_
            refine wpAnyH_takesAt 3 1 17 (of_decide_eq_true (by kernel_rfl)) rfl (fun _ _ _ d _ h => by cases d <;> exact h) (by kernel_rfl) (by kernel_rfl) hHeld ?_
            simp only [List.drop_succ_cons, List.drop_zero, List.take_succ_cons, List.take_zero]
            refine wpHeld_loadE (by rfl) (.tmp 3) rfl w.heap.size (0) rfl (cmtC (.slice p len cap) a) (fun W hW => (HA0.out.later hW).row.range) (size29' HoA.out) ?_
            (simp only [Act.put]; (try simp only [List.setIfInBounds_toArray]); (try simp only [List.set_cons_succ]); (try simp only [List.set_cons_zero]))
            refine wpHeld_nil ?_
            refine wpAnyH_takesAt 4 1 16 (of_decide_eq_true (by kernel_rfl)) rfl (fun _ _ _ d _ h => by cases d <;> exact h) (by kernel_rfl) (by kernel_rfl) hHeld ?_
            simp only [List.drop_succ_cons, List.drop_zero, List.take_succ_cons, List.take_zero]
            refine wpHeld_loadE (by rfl) (.tmp 4) rfl (w.heap.size + 1) (0) rfl (cmtC (.slice p2 len2 cap2) b) (fun W hW => (HB0.out.later hW).row.range) (size29' HoB.out) ?_
            (simp only [Act.put]; (try simp only [List.setIfInBounds_toArray]); (try simp only [List.set_cons_succ]); (try simp only [List.set_cons_zero]))
            refine wpHeld_nil ?_
            refine wpAnyH_only (i := 2) (by kernel_rfl) rfl (fun K hK => ?_)
            rw [if_pos (by rfl)]
            go_simp
            refine (HS1.out _ hHeld).mono ?_
            rintro e x1 ⟨rfl, hx1⟩
            have HX1 : Hid (Below w0.heap.size w0 x1) := hHeld.trans (hx1.mono hHeld.size)
            refine hK.out _ _ HX1.out ?_
            clear hK K hHeld
            have hHeld := HX1.out
            refine wpAnyH_only (i := 5) (by kernel_rfl) rfl (fun K hK => ?_)
            rw [if_pos (by rfl)]
            go_simp
            refine (HS2.out _ hHeld).mono ?_
            rintro e x2 ⟨rfl, hx2⟩
            have HX2 : Hid (Below w0.heap.size w0 x2) := hHeld.trans (hx2.mono hHeld.size)
            refine hK.out _ _ HX2.out ?_
            clear hK K hHeld
            have hHeld := HX2.out
            refine wpAnyH_takesAt 6 2 12 (of_decide_eq_true (by kernel_rfl)) rfl (fun _ _ _ d _ h => by cases d <;> exact h) (by kernel_rfl) (by kernel_rfl) hHeld ?_
            simp only [List.drop_succ_cons, List.drop_zero, List.take_succ_cons, List.take_zero]
            iterate 2 (refine wpHeld_step (v := ?_) (by rfl) (fun wz hSw => ?_) ?_; rotate_left; (focus ((try dsimp only at hSw); go_simp; try with_reducible rfl)); (simp only [Act.put, List.setIfInBounds_toArray, List.set_cons_zero, List.set_cons_succ]))
            refine wpHeld_nil ?_
            refine wpAnyH_takesAt 8 1 11 (of_decide_eq_true (by kernel_rfl)) rfl (fun _ _ _ d _ h => by cases d <;> exact h) (by kernel_rfl) (by kernel_rfl) hHeld ?_
            simp only [List.drop_succ_cons, List.drop_zero, List.take_succ_cons, List.take_zero]
            refine wpHeld_loadE (by rfl) (.tmp 3) rfl w.heap.size (0) rfl (cmtC (.slice p len cap) a) (fun W hW => (HA0.out.later hW).row.range) (size29' HoA.out) ?_
            (simp only [Act.put]; (try simp only [List.setIfInBounds_toArray]); (try simp only [List.set_cons_succ]); (try simp only [List.set_cons_zero]))
            refine wpHeld_nil ?_
            refine wpAnyH_takesAt 9 1 10 (of_decide_eq_true (by kernel_rfl)) rfl (fun _ _ _ d _ h => by cases d <;> exact h) (by kernel_rfl) (by kernel_rfl) hHeld ?_
            simp only [List.drop_succ_cons, List.drop_zero, List.take_succ_cons, List.take_zero]
            refine wpHeld_loadE (by rfl) (.tmp 3) rfl w.heap.size (0) rfl (cmtC (.slice p len cap) a) (fun W hW => (HA0.out.later hW).row.range) (size29' HoA.out) ?_
            (simp only [Act.put]; (try simp only [List.setIfInBounds_toArray]); (try simp only [List.set_cons_succ]); (try simp only [List.set_cons_zero]))
            refine wpHeld_nil ?_
            refine wpAnyH_only (i := 10) (by kernel_rfl) rfl (fun K hK => ?_)
            rw [if_pos (by rfl)]
            go_simp
            refine (HS3.out _ hHeld).mono ?_
            rintro e x3 ⟨rfl, hx3⟩
            have HX3 : Hid (Below w0.heap.size w0 x3) := hHeld.trans (hx3.mono hHeld.size)
            refine hK.out _ _ HX3.out ?_
            clear hK K hHeld
            have hHeld := HX3.out
            refine wpAnyH_takesAt 11 2 7 (of_decide_eq_true (by kernel_rfl)) rfl (fun _ _ _ d _ h => by cases d <;> exact h) (by kernel_rfl) (by kernel_rfl) hHeld ?_
            simp only [List.drop_succ_cons, List.drop_zero, List.take_succ_cons, List.take_zero]
            iterate 2 (refine wpHeld_step (v := ?_) (by rfl) (fun wz hSw => ?_) ?_; rotate_left; (focus ((try dsimp only at hSw); go_simp; try with_reducible rfl)); (simp only [Act.put, List.setIfInBounds_toArray, List.set_cons_zero, List.set_cons_succ]))
            refine wpHeld_nil ?_
            refine wpAnyH_takesAt 13 1 6 (of_decide_eq_true (by kernel_rfl)) rfl (fun _ _ _ d _ h => by cases d <;> exact h) (by kernel_rfl) (by kernel_rfl) hHeld ?_
            simp only [List.drop_succ_cons, List.drop_zero, List.take_succ_cons, List.take_zero]
            iterate 1 (refine wpHeld_step (v := ?_) (by rfl) (fun wz hSw => ?_) ?_; rotate_left; (focus ((try dsimp only at hSw); go_simp; try with_reducible rfl)); ((simp only [Act.put]; (try simp only [List.setIfInBounds_toArray]); (try simp only [List.set_cons_succ]); (try simp only [List.set_cons_zero]))))
            refine wpHeld_nil ?_
            refine wpAnyH_takesAt 15 1 5 (of_decide_eq_true (by kernel_rfl)) rfl (fun _ _ _ d _ h => by cases d <;> exact h) (by kernel_rfl) (by kernel_rfl) hHeld ?_
            simp only [List.drop_succ_cons, List.drop_zero, List.take_succ_cons, List.take_zero]
            iterate 1 (refine wpHeld_step (v := ?_) (by rfl) (fun wz hSw => ?_) ?_; rotate_left; (focus ((try dsimp only at hSw); go_simp; try with_reducible rfl)); ((simp only [Act.put]; (try simp only [List.setIfInBounds_toArray]); (try simp only [List.set_cons_succ]); (try simp only [List.set_cons_zero]))))
            refine wpHeld_nil ?_
            refine wpAnyH_only (i := 14) (by kernel_rfl) rfl (fun K hK => ?_)
            rw [if_pos (by rfl)]
            go_simp
            refine (HN1.out _ hHeld).mono ?_
            rintro e x4 ⟨rfl, hx4⟩
            have HX4 : Hid (Below w0.heap.size w0 x4) := hHeld.trans (hx4.mono hHeld.size)
            refine hK.out _ _ HX4.out ?_
            clear hK K hHeld
            have hHeld := HX4.out
            refine wpAnyH_only (i := 16) (by kernel_rfl) rfl (fun K hK => ?_)
            rw [if_pos (by rfl)]
            go_simp
            refine (HN2.out _ hHeld).mono ?_
            rintro e x5 ⟨rfl, hx5⟩
            have HX5 : Hid (Below w0.heap.size w0 x5) := hHeld.trans (hx5.mono hHeld.size)
            refine hK.out _ _ HX5.out ?_
            clear hK K hHeld
            have hHeld := HX5.out
            refine wpAnyH_takesAt 17 3 0 (of_decide_eq_true (by kernel_rfl)) rfl (fun _ _ _ d _ h => by cases d <;> exact h) (by kernel_rfl) (by kernel_rfl) hHeld ?_
            simp only [List.drop_succ_cons, List.drop_zero, List.take_succ_cons, List.take_zero]
            iterate 3 (refine wpHeld_step (v := ?_) (by rfl) (fun wz hSw => ?_) ?_; rotate_left; (focus ((try dsimp only at hSw); go_simp; try with_reducible rfl)); (simp only [Act.put, List.setIfInBounds_toArray, List.set_cons_zero, List.set_cons_succ]))
            refine wpHeld_nil ?_
            refine wpAnyH_done (by kernel_rfl) ?_ _
            go_wp2
            go_meet
            exact ⟨rfl, HX5.out⟩
          | false =>
            refine wp_region_held_drew (S := fun W => Below w0.heap.size w0 W) (by kernel_rfl) HB3.out.drew (fun hHeld => ?_)
            refine wpAnyH_takesAt 0 1 19 (of_decide_eq_true (by kernel_rfl)) rfl (fun _ _ _ d _ h => by cases d <;> exact h) (by kernel_rfl) (by kernel_rfl) hHeld ?_
            simp only [List.drop_zero, List.take_succ_cons, List.take_zero]
            refine wpHeld_loadE (by rfl) (.tmp 3) rfl w.heap.size (0) rfl (cmtC (.slice p len cap) a) (fun W hW => (HA0.out.later hW).row.range) (size29' HoA.out) ?_
            (simp only [Act.put]; (try simp only [List.setIfInBounds_toArray]); (try simp only [List.set_cons_succ]); (try simp only [List.set_cons_zero]))
            refine wpHeld_nil ?_
            refine wpAnyH_takesAt 1 1 18 (of_decide_eq_true (by kernel_rfl)) rfl (fun _ _ _ d _ h => by cases d <;> exact h) (by kernel_rfl) (by kernel_rfl) hHeld ?_
            simp only [List.drop_succ_cons, List.drop_zero, List.take_succ_cons, List.take_zero]
            refine wpHeld_loadE (by rfl) (.tmp 4) rfl (w.heap.size + 1) (0) rfl (cmtC (.slice p2 len2 cap2) b) (fun W hW => (HB0.out.later hW).row.range) (size29' HoB.out) ?_
            (simp only [Act.put]; (try simp only [List.setIfInBounds_toArray]); (try simp only [List.set_cons_succ]); (try simp only [List.set_cons_zero]))
            refine wpHeld_nil ?_
            refine wpAnyH_takesAt 3 1 17 (of_decide_eq_true (by kernel_rfl)) rfl (fun _ _ _ d _ h => by cases d <;> exact h) (by kernel_rfl) (by kernel_rfl) hHeld ?_
            simp only [List.drop_succ_cons, List.drop_zero, List.take_succ_cons, List.take_zero]
            refine wpHeld_loadE (by rfl) (.tmp 3) rfl w.heap.size (0) rfl (cmtC (.slice p len cap) a) (fun W hW => (HA0.out.later hW).row.range) (size29' HoA.out) ?_
            (simp only [Act.put]; (try simp only [List.setIfInBounds_toArray]); (try simp only [List.set_cons_succ]); (try simp only [List.set_cons_zero]))
            refine wpHeld_nil ?_
            refine wpAnyH_takesAt 4 1 16 (of_decide_eq_true (by kernel_rfl)) rfl (fun _ _ _ d _ h => by cases d <;> exact h) (by kernel_rfl) (by kernel_rfl) hHeld ?_
            simp only [List.drop_succ_cons, List.drop_zero, List.take_succ_cons, List.take_zero]
            refine wpHeld_loadE (by rfl) (.tmp 4) rfl (w.heap.size + 1) (0) rfl (cmtC (.slice p2 len2 cap2) b) (fun W hW => (HB0.out.later hW).row.range) (size29' HoB.out) ?_
            (simp only [Act.put]; (try simp only [List.setIfInBounds_toArray]); (try simp only [List.set_cons_succ]); (try simp only [List.set_cons_zero]))
            refine wpHeld_nil ?_
            refine wpAnyH_only (i := 2) (by kernel_rfl) rfl (fun K hK => ?_)
            rw [if_pos (by rfl)]
            go_simp
            refine (HS1.out _ hHeld).mono ?_
            rintro e x1 ⟨rfl, hx1⟩
            have HX1 : Hid (Below w0.heap.size w0 x1) := hHeld.trans (hx1.mono hHeld.size)
            refine hK.out _ _ HX1.out ?_
            clear hK K hHeld
            have hHeld := HX1.out
            refine wpAnyH_only (i := 5) (by kernel_rfl) rfl (fun K hK => ?_)
            rw [if_pos (by rfl)]
            go_simp
            refine (HS2.out _ hHeld).mono ?_
            rintro e x2 ⟨rfl, hx2⟩
            have HX2 : Hid (Below w0.heap.size w0 x2) := hHeld.trans (hx2.mono hHeld.size)
            refine hK.out _ _ HX2.out ?_
            clear hK K hHeld
            have hHeld := HX2.out
            refine wpAnyH_takesAt 6 2 12 (of_decide_eq_true (by kernel_rfl)) rfl (fun _ _ _ d _ h => by cases d <;> exact h) (by kernel_rfl) (by kernel_rfl) hHeld ?_
            simp only [List.drop_succ_cons, List.drop_zero, List.take_succ_cons, List.take_zero]
            iterate 2 (refine wpHeld_step (v := ?_) (by rfl) (fun wz hSw => ?_) ?_; rotate_left; (focus ((try dsimp only at hSw); go_simp; try with_reducible rfl)); (simp only [Act.put, List.setIfInBounds_toArray, List.set_cons_zero, List.set_cons_succ]))
            refine wpHeld_nil ?_
            refine wpAnyH_takesAt 8 1 11 (of_decide_eq_true (by kernel_rfl)) rfl (fun _ _ _ d _ h => by cases d <;> exact h) (by kernel_rfl) (by kernel_rfl) hHeld ?_
            simp only [List.drop_succ_cons, List.drop_zero, List.take_succ_cons, List.take_zero]
            refine wpHeld_loadE (by rfl) (.tmp 3) rfl w.heap.size (0) rfl (cmtC (.slice p len cap) a) (fun W hW => (HA0.out.later hW).row.range) (size29' HoA.out) ?_
            (simp only [Act.put]; (try simp only [List.setIfInBounds_toArray]); (try simp only [List.set_cons_succ]); (try simp only [List.set_cons_zero]))
            refine wpHeld_nil ?_
            refine wpAnyH_takesAt 9 1 10 (of_decide_eq_true (by kernel_rfl)) rfl (fun _ _ _ d _ h => by cases d <;> exact h) (by kernel_rfl) (by kernel_rfl) hHeld ?_
            simp only [List.drop_succ_cons, List.drop_zero, List.take_succ_cons, List.take_zero]
            refine wpHeld_loadE (by rfl) (.tmp 3) rfl w.heap.size (0) rfl (cmtC (.slice p len cap) a) (fun W hW => (HA0.out.later hW).row.range) (size29' HoA.out) ?_
            (simp only [Act.put]; (try simp only [List.setIfInBounds_toArray]); (try simp only [List.set_cons_succ]); (try simp only [List.set_cons_zero]))
            refine wpHeld_nil ?_
            refine wpAnyH_only (i := 10) (by kernel_rfl) rfl (fun K hK => ?_)
            rw [if_pos (by rfl)]
            go_simp
            refine (HS3.out _ hHeld).mono ?_
            rintro e x3 ⟨rfl, hx3⟩
            have HX3 : Hid (Below w0.heap.size w0 x3) := hHeld.trans (hx3.mono hHeld.size)
            refine hK.out _ _ HX3.out ?_
            clear hK K hHeld
            have hHeld := HX3.out
            refine wpAnyH_takesAt 11 2 7 (of_decide_eq_true (by kernel_rfl)) rfl (fun _ _ _ d _ h => by cases d <;> exact h) (by kernel_rfl) (by kernel_rfl) hHeld ?_
            simp only [List.drop_succ_cons, List.drop_zero, List.take_succ_cons, List.take_zero]
            iterate 2 (refine wpHeld_step (v := ?_) (by rfl) (fun wz hSw => ?_) ?_; rotate_left; (focus ((try dsimp only at hSw); go_simp; try with_reducible rfl)); (simp only [Act.put, List.setIfInBounds_toArray, List.set_cons_zero, List.set_cons_succ]))
            refine wpHeld_nil ?_
            refine wpAnyH_takesAt 13 1 6 (of_decide_eq_true (by kernel_rfl)) rfl (fun _ _ _ d _ h => by cases d <;> exact h) (by kernel_rfl) (by kernel_rfl) hHeld ?_
            simp only [List.drop_succ_cons, List.drop_zero, List.take_succ_cons, List.take_zero]
            iterate 1 (refine wpHeld_step (v := ?_) (by rfl) (fun wz hSw => ?_) ?_; rotate_left; (focus ((try dsimp only at hSw); go_simp; try with_reducible rfl)); ((simp only [Act.put]; (try simp only [List.setIfInBounds_toArray]); (try simp only [List.set_cons_succ]); (try simp only [List.set_cons_zero]))))
            refine wpHeld_nil ?_
            refine wpAnyH_takesAt 15 1 5 (of_decide_eq_true (by kernel_rfl)) rfl (fun _ _ _ d _ h => by cases d <;> exact h) (by kernel_rfl) (by kernel_rfl) hHeld ?_
            simp only [List.drop_succ_cons, List.drop_zero, List.take_succ_cons, List.take_zero]
            iterate 1 (refine wpHeld_step (v := ?_) (by rfl) (fun wz hSw => ?_) ?_; rotate_left; (focus ((try dsimp only at hSw); go_simp; try with_reducible rfl)); ((simp only [Act.put]; (try simp only [List.setIfInBounds_toArray]); (try simp only [List.set_cons_succ]); (try simp only [List.set_cons_zero]))))
            refine wpHeld_nil ?_
            refine wpAnyH_only (i := 14) (by kernel_rfl) rfl (fun K hK => ?_)
            rw [if_pos (by rfl)]
            go_simp
            refine (HN1.out _ hHeld).mono ?_
            rintro e x4 ⟨rfl, hx4⟩
            have HX4 : Hid (Below w0.heap.size w0 x4) := hHeld.trans (hx4.mono hHeld.size)
            refine hK.out _ _ HX4.out ?_
            clear hK K hHeld
            have hHeld := HX4.out
            refine wpAnyH_only (i := 16) (by kernel_rfl) rfl (fun K hK => ?_)
            rw [if_pos (by rfl)]
            go_simp
            refine (HN2.out _ hHeld).mono ?_
            rintro e x5 ⟨rfl, hx5⟩
            have HX5 : Hid (Below w0.heap.size w0 x5) := hHeld.trans (hx5.mono hHeld.size)
            refine hK.out _ _ HX5.out ?_
            clear hK K hHeld
            have hHeld := HX5.out
            refine wpAnyH_takesAt 17 3 0 (of_decide_eq_true (by kernel_rfl)) rfl (fun _ _ _ d _ h => by cases d <;> exact h) (by kernel_rfl) (by kernel_rfl) hHeld ?_
            simp only [List.drop_succ_cons, List.drop_zero, List.take_succ_cons, List.take_zero]
            iterate 3 (refine wpHeld_step (v := ?_) (by rfl) (fun wz hSw => ?_) ?_; rotate_left; (focus ((try dsimp only at hSw); go_simp; try with_reducible rfl)); (simp only [Act.put, List.setIfInBounds_toArray, List.set_cons_zero, List.set_cons_succ]))
            refine wpHeld_nil ?_
            refine wpAnyH_done (by kernel_rfl) ?_ _
            go_wp2
            go_meet
            exact ⟨rfl, HX5.out⟩
        case rest =>
          rename_i hcut
          obtain ⟨rfl, hbc⟩ := hcut
          go_wp2
          go_ret
          exact ⟨rfl, hb0.trans (hbc.mono hb0.size)⟩
end Go.Proofs.Ytkhhlcjjdkldjaa
