/-
  DirChanges: the walk.
-/
import Derived.Test.YtlmfdifnkkdpfaaStayL
import Derived.Test.YtlmfdifnkkdpfaaPutsW
import Derived.Test.YtlmfdifnkkdpfaaRefW
import Derived.Test.YtlmfdifnkkdpfaaRefWo
import Derived.Test.YtlmfdifnkkdpfaaCla
import Derived.Test.YtlmfdifnkkdpfaaLkE
import Derived.Test.YtlmfdifnkkdpfaaSrtAll
import Derived.Deep.CutRange
import Derived.Test.YtlmfdifnkkdpfaaChT
namespace Go.Proofs.Ytlmfdifnkkdpfaa
open Go.RowKit Go.Shelf

def AtRel (s : ByteArray) (es : List Ent) (k : Nat) (v : Value) : Prop := (v = .int .i64 (-1) ∧ ((es.take k).any fun y => nameB y s) = false) ∨ (v = .int .i64 (firstN (fun y => nameB y s) es : Nat) ∧ (es.any fun y => nameB y s) = true)

theorem sortedE_length (es : List Ent) : (sortedE es).length = es.length := by
  have h := srt_length (namesE es)
  rw [srt_sortL] at h
  rw [sortedE, h, namesE, List.length_map]

/-- What the body must achieve: it returns, whatever is deferred. -/
def retPost (R : Ending → World → Prop) : Exit → Act → World → Prop
  | .normal, a, w => bodyPostM Fence.wide 7 Try.prog Try.f6 R .normal a w
  | .ret, a, w => bodyPostM Fence.wide 7 Try.prog Try.f6 R .ret a w
  | _, _, _ => False
theorem calls_ret {c : Code} {args : Array Value} {w : World} {R : Ending → World → Prop} (hb : Try.f6.body = some c) (h : c.wp Try.prog (retPost R) { tmps := args ++ Array.replicate (Try.f6.ntmps - args.size) undef, defers := [] } w) : Calls Try.prog 6 args w R :=
  (callsIn_wide (n := 7)).1 (callsIn_of_wp_marks Try.func6 hb trivial ((wpIn_wide (n := 7)).2 (wp_mono h (fun e a w hq => by
    cases e with
    | normal => exact hq
    | ret => exact hq
    | _ => exact hq.elim))) rfl)

attribute [local go_sem] Oper.semAt_some
set_option maxRecDepth 100000 in
set_option maxHeartbeats 4000000 in
theorem dirChanges_walk (p : Option Addr) (len cap : Nat) (es : List Ent) (x : Ent) (s : ByteArray) (z : Int) (w : World) (hI : IsEnts w.heap.size w p len cap es) (hok : x.ok) (hz : -9223372036854775808 ≤ z ∧ z ≤ 9223372036854775807) :
    Calls Try.prog 6 #[.slice p len cap, .agg (entC x).toArray, .string s, .int .i64 z] w fun e w' => e = .returned (.bool true) ∧ Below w.heap.size w w' := by
  obtain ⟨w0, hw0⟩ : ∃ w0, ((w.alloc (.cells (entC x).toArray 43)).alloc (.cells #[.int .i64 z] 3)).alloc (.cells #[.bool false] 4) = w0 := ⟨_, rfl⟩
  have hb0 : Below w.heap.size w w0 := by rw [← hw0]; exact (((Below.refl _ w).alloc (Nat.le_refl _) _).alloc (by simp) _).alloc (by simp; omega) _
  have HE0 : Hid (EntAt w0 w.heap.size x) := by rw [← hw0]; exact ⟨hok, ((Row.new' w 43 (entC x)).alloc _).alloc _⟩
  have HM0 : Hid (Boxed w0 (w.heap.size + 1) 3 (.int .i64 z)) := by
    rw [← hw0]
    have h := Row.new (w.alloc (.cells (entC x).toArray 43)) 3 #[.int .i64 z]
    rw [World.size_alloc] at h
    exact h.alloc _
  have HR0 : Hid (Boxed w0 (w.heap.size + 1 + 1) 4 (.bool false)) := by
    rw [← hw0]
    have h := Row.new ((w.alloc (.cells (entC x).toArray 43)).alloc (.cells #[.int .i64 z] 3)) 4 #[.bool false]
    rw [World.size_alloc, World.size_alloc] at h
    exact h
  have HW0 : Hid (((w.alloc (.cells (entC x).toArray 43)).alloc (.cells #[.int .i64 z] 3)).alloc (.cells #[.bool false] 4) = w0) := hw0
  have HI : Hid (IsEnts w.heap.size w p len cap es) := hI
  have HL : Hid (es.length = len) := hI.1
  have HX : Hid x.ok := hok
  have HA := awake_any w0
  clear hw0 hI hok
  cases hf : fewB es with
  | false =>
    go_enter Try.func6, Try.ntmps6
    go_wp2_with (first
      | (go_at_call 8; rw [HW0.out]; refine HA.mono ?_; rintro e w1 ⟨rfl, hb1⟩)
      | (go_at_call 9; refine (few_any p len cap es w1 ((HI.out.later hb0).later hb1)).mono ?_; rintro e w2 ⟨rfl, hb2⟩; rw [hf]; have HB2 : Hid (Below w0.heap.size w0 w2) := hb1.trans (hb2.mono hb1.size); have hcN2 := (HE0.out.later HB2.out).name; have hcM2 := (boxed_below HM0.out HB2.out).cell; have hcR2 := (boxed_below HR0.out HB2.out).cell; have hfR2 := (boxed_below HR0.out HB2.out).frozen; have HR2 : Hid (Boxed w2 (w.heap.size + 1 + 1) 4 (.bool false)) := boxed_below HR0.out HB2.out; clear hb1 hb2))
    refine bodyPost_ret (results_bool rfl rfl (HR2.out.set _)) rfl ?_
    exact ⟨rfl, hb0.trans ((HB2.out.mono hb0.size).setCell (p := ⟨w.heap.size + 1 + 1, 0, none⟩) (by show _ ≤ w.heap.size + 1 + 1; omega) _)⟩
  | true =>
    by_cases hx2 : 200 < x.name.size
    · have hx2i : (200 : Int) < (x.name.size : Int) := by omega
      go_enter Try.func6, Try.ntmps6
      go_wp2_with (first
        | (go_at_call 8; rw [HW0.out]; refine HA.mono ?_; rintro e w1 ⟨rfl, hb1⟩)
        | (go_at_call 9; refine (few_any p len cap es w1 ((HI.out.later hb0).later hb1)).mono ?_; rintro e w2 ⟨rfl, hb2⟩; rw [hf]; have HB2 : Hid (Below w0.heap.size w0 w2) := hb1.trans (hb2.mono hb1.size); have hcN2 := (HE0.out.later HB2.out).name; have hcM2 := (boxed_below HM0.out HB2.out).cell; have hcR2 := (boxed_below HR0.out HB2.out).cell; have hfR2 := (boxed_below HR0.out HB2.out).frozen; have HR2 : Hid (Boxed w2 (w.heap.size + 1 + 1) 4 (.bool false)) := boxed_below HR0.out HB2.out; clear hb1 hb2))
      refine bodyPost_ret (results_bool rfl rfl (HR2.out.set _)) rfl ?_
      exact ⟨rfl, hb0.trans ((HB2.out.mono hb0.size).setCell (p := ⟨w.heap.size + 1 + 1, 0, none⟩) (by show _ ≤ w.heap.size + 1 + 1; omega) _)⟩
    have hx2i : ¬ (200 : Int) < (x.name.size : Int) := by omega
    by_cases hs2 : 200 < s.size
    · have hs2i : (200 : Int) < (s.size : Int) := by omega
      go_enter Try.func6, Try.ntmps6
      go_wp2_with (first
        | (go_at_call 8; rw [HW0.out]; refine HA.mono ?_; rintro e w1 ⟨rfl, hb1⟩)
        | (go_at_call 9; refine (few_any p len cap es w1 ((HI.out.later hb0).later hb1)).mono ?_; rintro e w2 ⟨rfl, hb2⟩; rw [hf]; have HB2 : Hid (Below w0.heap.size w0 w2) := hb1.trans (hb2.mono hb1.size); have hcN2 := (HE0.out.later HB2.out).name; have hcM2 := (boxed_below HM0.out HB2.out).cell; have hcR2 := (boxed_below HR0.out HB2.out).cell; have hfR2 := (boxed_below HR0.out HB2.out).frozen; have HR2 : Hid (Boxed w2 (w.heap.size + 1 + 1) 4 (.bool false)) := boxed_below HR0.out HB2.out; clear hb1 hb2))
      refine bodyPost_ret (results_bool rfl rfl (HR2.out.set _)) rfl ?_
      exact ⟨rfl, hb0.trans ((HB2.out.mono hb0.size).setCell (p := ⟨w.heap.size + 1 + 1, 0, none⟩) (by show _ ≤ w.heap.size + 1 + 1; omega) _)⟩
    have hs2i : ¬ (200 : Int) < (s.size : Int) := by omega
    by_cases hz2 : z < 0
    · skip
      go_enter Try.func6, Try.ntmps6
      go_wp2_with (first
        | (go_at_call 8; rw [HW0.out]; refine HA.mono ?_; rintro e w1 ⟨rfl, hb1⟩)
        | (go_at_call 9; refine (few_any p len cap es w1 ((HI.out.later hb0).later hb1)).mono ?_; rintro e w2 ⟨rfl, hb2⟩; rw [hf]; have HB2 : Hid (Below w0.heap.size w0 w2) := hb1.trans (hb2.mono hb1.size); have hcN2 := (HE0.out.later HB2.out).name; have hcM2 := (boxed_below HM0.out HB2.out).cell; have hcR2 := (boxed_below HR0.out HB2.out).cell; have hfR2 := (boxed_below HR0.out HB2.out).frozen; have HR2 : Hid (Boxed w2 (w.heap.size + 1 + 1) 4 (.bool false)) := boxed_below HR0.out HB2.out; clear hb1 hb2))
      refine bodyPost_ret (results_bool rfl rfl (HR2.out.set _)) rfl ?_
      exact ⟨rfl, hb0.trans ((HB2.out.mono hb0.size).setCell (p := ⟨w.heap.size + 1 + 1, 0, none⟩) (by show _ ≤ w.heap.size + 1 + 1; omega) _)⟩
    have HNm : Hid (∀ e ∈ es, e.name.size ≤ 1000000) := fun e he => by have := few_name hf e he; omega
    have hlen : len ≤ 1000 := by have := few_len hf; have := HL.out; omega
    have HWi : Hid (∀ W, Below w0.heap.size w0 W → Calls Try.prog 17 #[.slice p len cap, .agg (entC x).toArray] W fun e w' => ∃ q c, e = .returned (.slice q (withL x es).length c) ∧ IsEnts w'.heap.size w' q (withL x es).length c (withL x es) ∧ Below W.heap.size W w') := fun W h => by
      refine (with_any p len cap es x HX.out (by omega) W ((HI.out.later hb0).later h) HNm.out (by omega)).mono ?_
      rintro e w' ⟨q, l, rfl, hE, hb⟩
      obtain rfl := hE.1
      exact ⟨q, _, rfl, hE, hb⟩
    have HWr : Hid (∀ W, Below w0.heap.size w0 W → Calls Try.prog 18 #[.slice p len cap, .agg (entC x).toArray] W fun e w' => ∃ q c, e = .returned (.slice q (withL x es).length c) ∧ IsEnts w'.heap.size w' q (withL x es).length c (withL x es) ∧ Below W.heap.size W w') := fun W h => by
      refine (refWith_any p len cap es x HX.out W ((HI.out.later hb0).later h) hlen).mono ?_
      rintro e w' ⟨q, l, c, rfl, hO, hb⟩
      have hE := hO.ents (withL_ok HX.out HI.out.2.2.2.1)
      obtain rfl := hE.1
      exact ⟨q, _, rfl, hE, hb⟩
    have HOi : Hid (∀ W, Below w0.heap.size w0 W → Calls Try.prog 19 #[.slice p len cap, .string s] W fun e w' => ∃ q c, e = .returned (.slice q (filt (fun y => nameB y s) es).length c) ∧ IsEnts w'.heap.size w' q (filt (fun y => nameB y s) es).length c (filt (fun y => nameB y s) es) ∧ Below W.heap.size W w') := fun W h => by
      refine (withoutD_any p len cap es s W ((HI.out.later hb0).later h) HNm.out (by omega)).mono ?_
      rintro e w' ⟨q, l, rfl, hE, hb⟩
      obtain rfl := hE.1
      exact ⟨q, _, rfl, hE, hb⟩
    have HOr : Hid (∀ W, Below w0.heap.size w0 W → Calls Try.prog 20 #[.slice p len cap, .string s] W fun e w' => ∃ q c, e = .returned (.slice q (filt (fun y => nameB y s) es).length c) ∧ IsEnts w'.heap.size w' q (filt (fun y => nameB y s) es).length c (filt (fun y => nameB y s) es) ∧ Below W.heap.size W w') := fun W h => by
      refine (refWithout_any p len cap es s W ((HI.out.later hb0).later h) (by omega)).mono ?_
      rintro e w' ⟨q, l, c, rfl, hO, hb⟩
      have hE := hO.ents (filt_ok HI.out.2.2.2.1)
      obtain rfl := hE.1
      exact ⟨q, _, rfl, hE, hb⟩
    have HNw : Hid (∀ e ∈ withL x es, e.name.size ≤ 1000000) := fun e he => by
      rcases insE_mem he with rfl | he
      · omega
      · exact HNm.out e (List.mem_filter.1 he).1
    have HNf : Hid (∀ e ∈ filt (fun y => nameB y s) es, e.name.size ≤ 1000000) := fun e he => HNm.out e (List.mem_filter.1 he).1
    generalize withL x es = Lw at *
    generalize filt (fun y => nameB y s) es = Lf at *
    generalize hlw : Lw.length = lw at *
    generalize hlf : Lf.length = lf at *
    refine calls_ret rfl ?_
    simp only [Try.ntmps6, List.size_toArray, List.length_cons, List.length_nil, Nat.reduceAdd, Nat.reduceSub, Array.replicate_succ, Array.replicate_zero, List.push_toArray, List.append_toArray, List.nil_append, List.cons_append]
    go_wp2_with (first
      | (go_at_call 8; rw [HW0.out]; refine HA.mono ?_; rintro e w1 ⟨rfl, hb1⟩)
      | (go_at_call 9; refine (few_any p len cap es w1 ((HI.out.later hb0).later hb1)).mono ?_; rintro e w2 ⟨rfl, hb2⟩; rw [hf]; have HB2 : Hid (Below w0.heap.size w0 w2) := hb1.trans (hb2.mono hb1.size); have hcN2 := (HE0.out.later HB2.out).name; have hcM2 := (boxed_below HM0.out HB2.out).cell; have hcR2 := (boxed_below HR0.out HB2.out).cell; have hfR2 := (boxed_below HR0.out HB2.out).frozen; have HR2 : Hid (Boxed w2 (w.heap.size + 1 + 1) 4 (.bool false)) := boxed_below HR0.out HB2.out; clear hb1 hb2))
    refine wp_region_held_drew (S := fun W => Below w0.heap.size w0 W) (by kernel_rfl) HB2.out.drew (fun hHeld => ?_)
    refine wpAnyH_takesAt 0 1 17 (of_decide_eq_true (by kernel_rfl)) rfl (fun _ _ _ d _ h => by cases d <;> exact h) (by kernel_rfl) (by kernel_rfl) hHeld ?_
    simp only [List.drop_zero, List.take_succ_cons, List.take_zero]
    iterate 1 (refine wpHeld_step (v := ?_) (by rfl) (fun wz hSw => ?_) ?_; rotate_left; (focus ((try dsimp only at hSw); go_simp; try with_reducible rfl)); ((simp only [Act.put]; (try simp only [List.setIfInBounds_toArray]); (try simp only [List.set_cons_succ]); (try simp only [List.set_cons_zero]))))
    refine wpHeld_nil ?_
    refine wpAnyH_takesAt 1 1 16 (of_decide_eq_true (by kernel_rfl)) rfl (fun _ _ _ d _ h => by cases d <;> exact h) (by kernel_rfl) (by kernel_rfl) hHeld ?_
    simp only [List.drop_succ_cons, List.drop_zero, List.take_succ_cons, List.take_zero]
    refine wpHeld_loadE (by rfl) (.tmp 5) rfl w.heap.size (0) rfl (entC x) (fun W hW => (HE0.out.later hW).row.range) (size43' HX.out) ?_
    (simp only [Act.put]; (try simp only [List.setIfInBounds_toArray]); (try simp only [List.set_cons_succ]); (try simp only [List.set_cons_zero]))
    refine wpHeld_nil ?_
    refine wpAnyH_takesAt 3 1 15 (of_decide_eq_true (by kernel_rfl)) rfl (fun _ _ _ d _ h => by cases d <;> exact h) (by kernel_rfl) (by kernel_rfl) hHeld ?_
    simp only [List.drop_succ_cons, List.drop_zero, List.take_succ_cons, List.take_zero]
    iterate 1 (refine wpHeld_step (v := ?_) (by rfl) (fun wz hSw => ?_) ?_; rotate_left; (focus ((try dsimp only at hSw); go_simp; try with_reducible rfl)); ((simp only [Act.put]; (try simp only [List.setIfInBounds_toArray]); (try simp only [List.set_cons_succ]); (try simp only [List.set_cons_zero]))))
    refine wpHeld_nil ?_
    refine wpAnyH_takesAt 4 1 14 (of_decide_eq_true (by kernel_rfl)) rfl (fun _ _ _ d _ h => by cases d <;> exact h) (by kernel_rfl) (by kernel_rfl) hHeld ?_
    simp only [List.drop_succ_cons, List.drop_zero, List.take_succ_cons, List.take_zero]
    refine wpHeld_loadE (by rfl) (.tmp 5) rfl w.heap.size (0) rfl (entC x) (fun W hW => (HE0.out.later hW).row.range) (size43' HX.out) ?_
    (simp only [Act.put]; (try simp only [List.setIfInBounds_toArray]); (try simp only [List.set_cons_succ]); (try simp only [List.set_cons_zero]))
    refine wpHeld_nil ?_
    refine wpAnyH_only (i := 2) (by kernel_rfl) rfl (fun K hK => ?_)
    rw [if_pos (by rfl)]
    go_simp
    refine (HWi.out _ hHeld).mono ?_
    rintro e w3 ⟨q3, c3, rfl, hE3, hb3⟩
    have HE3 : Hid (IsEnts w3.heap.size w3 q3 lw c3 Lw) := hE3
    have HB3 : Hid (Below w0.heap.size w0 w3) := hHeld.trans (hb3.mono hHeld.size)
    refine hK.out _ _ HB3.out ?_
    clear hK K hHeld
    have hHeld := HB3.out
    refine wpAnyH_only (i := 5) (by kernel_rfl) rfl (fun K hK => ?_)
    rw [if_pos (by rfl)]
    go_simp
    refine (HWr.out _ hHeld).mono ?_
    rintro e w4 ⟨q4, c4, rfl, hE4, hb4⟩
    have HE4 : Hid (IsEnts w4.heap.size w4 q4 lw c4 Lw) := hE4
    have HB4 : Hid (Below w0.heap.size w0 w4) := hHeld.trans (hb4.mono hHeld.size)
    have HE34 : Hid (IsEnts w4.heap.size w4 q3 lw c3 Lw) := HE3.out.later hb4
    refine hK.out _ _ HB4.out ?_
    clear hK K hHeld
    have hHeld := HB4.out
    refine wpAnyH_only (i := 6) (by kernel_rfl) rfl (fun K hK => ?_)
    rw [if_pos (by rfl)]
    go_simp
    refine (sameEnts_any q3 lw c3 q4 c4 Lw w4 HE34.out HE4.out HNw.out).mono ?_
    rintro e w5 ⟨rfl, hb5⟩
    have HB5 : Hid (Below w0.heap.size w0 w5) := hHeld.trans (hb5.mono hHeld.size)
    refine hK.out _ _ HB5.out ?_
    clear hK K hHeld
    have hHeld := HB5.out
    refine wpAnyH_takesAt 7 2 9 (of_decide_eq_true (by kernel_rfl)) rfl (fun _ _ _ d _ h => by cases d <;> exact h) (by kernel_rfl) (by kernel_rfl) hHeld ?_
    simp only [List.drop_succ_cons, List.drop_zero, List.take_succ_cons, List.take_zero]
    iterate 2 (refine wpHeld_step (v := ?_) (by rfl) (fun wz hSw => ?_) ?_; rotate_left; (focus ((try dsimp only at hSw); go_simp; try with_reducible rfl)); (simp only [Act.put, List.setIfInBounds_toArray, List.set_cons_zero, List.set_cons_succ]))
    refine wpHeld_nil ?_
    refine wpAnyH_takesAt 9 2 7 (of_decide_eq_true (by kernel_rfl)) rfl (fun _ _ _ d _ h => by cases d <;> exact h) (by kernel_rfl) (by kernel_rfl) hHeld ?_
    simp only [List.drop_succ_cons, List.drop_zero, List.take_succ_cons, List.take_zero]
    iterate 2 (refine wpHeld_step (v := ?_) (by rfl) (fun wz hSw => ?_) ?_; rotate_left; (focus ((try dsimp only at hSw); go_simp; try with_reducible rfl)); (simp only [Act.put, List.setIfInBounds_toArray, List.set_cons_zero, List.set_cons_succ]))
    refine wpHeld_nil ?_
    refine wpAnyH_takesAt 12 2 5 (of_decide_eq_true (by kernel_rfl)) rfl (fun _ _ _ d _ h => by cases d <;> exact h) (by kernel_rfl) (by kernel_rfl) hHeld ?_
    simp only [List.drop_succ_cons, List.drop_zero, List.take_succ_cons, List.take_zero]
    iterate 2 (refine wpHeld_step (v := ?_) (by rfl) (fun wz hSw => ?_) ?_; rotate_left; (focus ((try dsimp only at hSw); go_simp; try with_reducible rfl)); (simp only [Act.put, List.setIfInBounds_toArray, List.set_cons_zero, List.set_cons_succ]))
    refine wpHeld_nil ?_
    refine wpAnyH_only (i := 11) (by kernel_rfl) rfl (fun K hK => ?_)
    rw [if_pos (by rfl)]
    go_simp
    refine (HOi.out _ hHeld).mono ?_
    rintro e w6 ⟨q6, c6, rfl, hE6, hb6⟩
    have HE6 : Hid (IsEnts w6.heap.size w6 q6 lf c6 Lf) := hE6
    have HB6 : Hid (Below w0.heap.size w0 w6) := hHeld.trans (hb6.mono hHeld.size)
    refine hK.out _ _ HB6.out ?_
    clear hK K hHeld
    have hHeld := HB6.out
    refine wpAnyH_only (i := 14) (by kernel_rfl) rfl (fun K hK => ?_)
    rw [if_pos (by rfl)]
    go_simp
    refine (HOr.out _ hHeld).mono ?_
    rintro e w7 ⟨q7, c7, rfl, hE7, hb7⟩
    have HE7 : Hid (IsEnts w7.heap.size w7 q7 lf c7 Lf) := hE7
    have HB7 : Hid (Below w0.heap.size w0 w7) := hHeld.trans (hb7.mono hHeld.size)
    have HE67 : Hid (IsEnts w7.heap.size w7 q6 lf c6 Lf) := HE6.out.later hb7
    refine hK.out _ _ HB7.out ?_
    clear hK K hHeld
    have hHeld := HB7.out
    refine wpAnyH_only (i := 15) (by kernel_rfl) rfl (fun K hK => ?_)
    rw [if_pos (by rfl)]
    go_simp
    refine (sameEnts_any q6 lf c6 q7 c7 Lf w7 HE67.out HE7.out HNf.out).mono ?_
    rintro e w8 ⟨rfl, hb8⟩
    have HB8 : Hid (Below w0.heap.size w0 w8) := hHeld.trans (hb8.mono hHeld.size)
    refine hK.out _ _ HB8.out ?_
    clear hK K hHeld
    have hHeld := HB8.out
    refine wpAnyH_takesAt 16 2 0 (of_decide_eq_true (by kernel_rfl)) rfl (fun _ _ _ d _ h => by cases d <;> exact h) (by kernel_rfl) (by kernel_rfl) hHeld ?_
    simp only [List.drop_succ_cons, List.drop_zero, List.take_succ_cons, List.take_zero]
    iterate 2 (refine wpHeld_step (v := ?_) (by rfl) (fun wz hSw => ?_) ?_; rotate_left; (focus ((try dsimp only at hSw); go_simp; try with_reducible rfl)); (simp only [Act.put, List.setIfInBounds_toArray, List.set_cons_zero, List.set_cons_succ]))
    refine wpHeld_nil ?_
    refine wpAnyH_done (by kernel_rfl) ?_ _
    have hHs := hHeld
    clear hHeld HB2 HB3 HB4 HB5 HB6 HB7 HE3 HE4 HE34 HE6 HE7 HE67 hb3 hb4 hb5 hb6 hb7 hb8 hE3 hE4 hE6 hE7 hcN2 hcM2 hcR2 hfR2 HR2 HWi HWr HOi HOr HNw HNf hlw hlf
    have HFd := find_any p len cap es s w8 ((HI.out.later hb0).later HB8.out)
    have hs8 := HB8.out.size
    obtain ⟨i0, hi0, hz0, hz1, hz9⟩ := info_parts info9
    have HFst : Hid (∀ k, k < es.length → nameB (es.getD k noEnt) s = true → ((es.take k).any fun y => nameB y s) = false → (es.any fun y => nameB y s) = true ∧ firstN (fun y => nameB y s) es = k) := fun k h1 h2 h3 => first_hit (pr := fun y => nameB y s) h1 h2 h3
    have hlc := HI.out.2.1
    have hcc := HI.out.2.2.1
    go_wp2_with (go_at_call 21; refine HFd.mono ?_; rintro e w9 ⟨rfl, hb9⟩; have HB9 : Hid (Below w0.heap.size w0 w9) := HB8.out.trans (hb9.mono hs8); clear hb9)
    go_loopw [11, 12, 64] (fun v a i wr => ∃ (k : Nat) (q : Option Addr) (l c : Nat), k ≤ len ∧ i = .int .i64 k ∧ a = .slice q l c ∧ AtRel s es k v ∧ OwnS w0.heap.size wr (.slice q l c) (namesE (es.take k)) ∧ Below w0.heap.size w0 wr) (fun _ _ i _ => len - (intOf i).toNat)
    case atStart => exact ⟨0, none, 0, 0, Nat.zero_le _, rfl, rfl, .inl ⟨rfl, rfl⟩, OwnS.nil _ _, HB9.out⟩
    case round =>
      obtain ⟨k, q, l, c, hk, rfl, rfl, hat, hown, hbel⟩ := hrel
      have HO : Hid (OwnS w0.heap.size wr (.slice q l c) (namesE (es.take k))) := hown
      have HBr : Hid (Below w0.heap.size w0 wr) := hbel
      clear hown
      by_cases hlt : k < len
      · have hki : (k : Int) < (len : Int) := by omega
        obtain ⟨b, off, hpe, hb, hrg, hoky, hmem⟩ := ((HI.out.later hb0).below hbel).at hlt
        subst hpe
        have HT : Hid (namesE (es.take (k + 1)) = namesE (es.take k) ++ [(es.getD k noEnt).name]) := by
          show _ = _
          rw [ent_take es (by rw [HL.out]; exact hlt)]; simp [namesE]
        have HTa : Hid (((es.take (k + 1)).any fun y => nameB y s) = (((es.take k).any fun y => nameB y s) || nameB (es.getD k noEnt) s)) := by
          show _ = _
          rw [ent_take es (by rw [HL.out]; exact hlt), List.any_append]; simp
        have HFk := HFst.out k (by rw [HL.out]; exact hlt)
        have HFl : Hid ((namesE (es.take k)).length ≤ 100000) := by show _ ≤ _; simp [namesE]; omega
        have HRy : Hid (wr.rangeAt b (off + k * 100) (entC (es.getD k noEnt))) := hrg
        clear hrg hmem
        generalize es.getD k noEnt = y at *
        generalize namesE (es.take k) = F at *
        have hsz := hbel.size
        rcases hat with ⟨rfl, ha⟩ | ⟨rfl, ha⟩
        · cases hn : (y.name.toList == s.toList) with
          | true =>
            have HAt : Hid (AtRel s es (k + 1) (.int .i64 (k : Nat))) := by
              obtain ⟨e1, e2⟩ := HFk hn ha
              exact .inr ⟨by rw [e2], e1⟩
            clear HFk ha
            go_wp2_with (first
              | ((with_reducible show wpList _ _ _ (Oper.mk _ (Op.load 43 (.tmp 67)) _ _ _ _ :: _) _ _); refine wpList_loadEnt rfl (.tmp 67) rfl rfl hoky HRy.out ?_; simp only [Act.put, List.setIfInBounds_toArray, List.set_cons_zero, List.set_cons_succ])
              | ((with_reducible show wpList _ _ _ (Oper.mk _ (Op.store 43 (.tmp 14) (.tmp 68)) _ _ _ _ :: _) _ _); refine wpList_storeNew rfl (.tmp 14) (.tmp 68) rfl y hoky rfl rfl (fun W2 hb2 hE => ?_); have hcY := hE.name; have HBW : Hid (Below w0.heap.size w0 W2) := hbel.trans (hb2.mono hsz); obtain ⟨ue, we, hrune, hoe, hge, _⟩ := run_append_str (W2.alloc (.cells #[.string y.name] 9)) w0.heap.size 48 (.slice q l c) F (World.ownsRow.alloc (HO.out.later hb2) _) W2.heap.size y.name (Boxed.new W2 9 _).cell HFl.out (by have := HBW.out.size; simp; omega); obtain ⟨qe, ce, hue⟩ := hoe.slice; subst hue; have HRune : Hid ((Builtin.append_ #[48, 48] 48 #[.slice q l c, .slice (some ⟨W2.heap.size, 0, none⟩) 1 1]).run Try.prog (W2.alloc (.cells #[.string y.name] 9)) = .ok (.slice qe (F ++ [y.name]).length ce) we) := hrune; have HOe : Hid (OwnS w0.heap.size we (.slice qe (F ++ [y.name]).length ce) (F ++ [y.name])) := hoe; have HBe : Hid (Below w0.heap.size w0 we) := (HBW.out.alloc HBW.out.size _).grown hge (by have := HBW.out.size; simp; omega) (fun j ej => (World.ownsRow.lt (World.ownsRow.alloc (HO.out.later hb2) (.cells #[.string y.name] 9)) j ej).1); clear hE hrune hoe hge; simp only [Act.put])
              | (at_builtin; refine wpList_plain rfl fun K hK => wp_append_of (.tmp 78) (.tmp 81) 48 rfl rfl rfl HRune.out (hK _ _ ?_); clear hK; simp only [Act.put, List.setIfInBounds_toArray, List.set_cons_zero, List.set_cons_succ]))
            go_roundw
            case rel => exact ⟨k + 1, qe, _, ce, by omega, by go_num, rfl, HAt.out, by rw [HT.out]; exact HOe.out, HBe.out⟩
            case measure => simp [intOf]; omega
          | false =>
            have HAt : Hid (AtRel s es (k + 1) (.int .i64 (-1))) := .inl ⟨rfl, by rw [HTa.out, ha]; exact hn⟩
            clear HFk ha
            go_wp2_with (first
              | ((with_reducible show wpList _ _ _ (Oper.mk _ (Op.load 43 (.tmp 67)) _ _ _ _ :: _) _ _); refine wpList_loadEnt rfl (.tmp 67) rfl rfl hoky HRy.out ?_; simp only [Act.put, List.setIfInBounds_toArray, List.set_cons_zero, List.set_cons_succ])
              | ((with_reducible show wpList _ _ _ (Oper.mk _ (Op.store 43 (.tmp 14) (.tmp 68)) _ _ _ _ :: _) _ _); refine wpList_storeNew rfl (.tmp 14) (.tmp 68) rfl y hoky rfl rfl (fun W2 hb2 hE => ?_); have hcY := hE.name; have HBW : Hid (Below w0.heap.size w0 W2) := hbel.trans (hb2.mono hsz); obtain ⟨ue, we, hrune, hoe, hge, _⟩ := run_append_str (W2.alloc (.cells #[.string y.name] 9)) w0.heap.size 48 (.slice q l c) F (World.ownsRow.alloc (HO.out.later hb2) _) W2.heap.size y.name (Boxed.new W2 9 _).cell HFl.out (by have := HBW.out.size; simp; omega); obtain ⟨qe, ce, hue⟩ := hoe.slice; subst hue; have HRune : Hid ((Builtin.append_ #[48, 48] 48 #[.slice q l c, .slice (some ⟨W2.heap.size, 0, none⟩) 1 1]).run Try.prog (W2.alloc (.cells #[.string y.name] 9)) = .ok (.slice qe (F ++ [y.name]).length ce) we) := hrune; have HOe : Hid (OwnS w0.heap.size we (.slice qe (F ++ [y.name]).length ce) (F ++ [y.name])) := hoe; have HBe : Hid (Below w0.heap.size w0 we) := (HBW.out.alloc HBW.out.size _).grown hge (by have := HBW.out.size; simp; omega) (fun j ej => (World.ownsRow.lt (World.ownsRow.alloc (HO.out.later hb2) (.cells #[.string y.name] 9)) j ej).1); clear hE hrune hoe hge; simp only [Act.put])
              | (at_builtin; refine wpList_plain rfl fun K hK => wp_append_of (.tmp 78) (.tmp 81) 48 rfl rfl rfl HRune.out (hK _ _ ?_); clear hK; simp only [Act.put, List.setIfInBounds_toArray, List.set_cons_zero, List.set_cons_succ]))
            go_roundw
            case rel => exact ⟨k + 1, qe, _, ce, by omega, by go_num, rfl, HAt.out, by rw [HT.out]; exact HOe.out, HBe.out⟩
            case measure => simp [intOf]; omega
        · have HAt : Hid (AtRel s es (k + 1) (.int .i64 (firstN (fun y => nameB y s) es : Nat))) := .inr ⟨rfl, ha⟩
          generalize firstN (fun y => nameB y s) es = fn at *
          have hnn : ¬ ((fn : Int) < 0) := by omega
          clear HFk ha
          go_wp2_with (first
            | ((with_reducible show wpList _ _ _ (Oper.mk _ (Op.load 43 (.tmp 67)) _ _ _ _ :: _) _ _); refine wpList_loadEnt rfl (.tmp 67) rfl rfl hoky HRy.out ?_; simp only [Act.put, List.setIfInBounds_toArray, List.set_cons_zero, List.set_cons_succ])
            | ((with_reducible show wpList _ _ _ (Oper.mk _ (Op.store 43 (.tmp 14) (.tmp 68)) _ _ _ _ :: _) _ _); refine wpList_storeNew rfl (.tmp 14) (.tmp 68) rfl y hoky rfl rfl (fun W2 hb2 hE => ?_); have hcY := hE.name; have HBW : Hid (Below w0.heap.size w0 W2) := hbel.trans (hb2.mono hsz); obtain ⟨ue, we, hrune, hoe, hge, _⟩ := run_append_str (W2.alloc (.cells #[.string y.name] 9)) w0.heap.size 48 (.slice q l c) F (World.ownsRow.alloc (HO.out.later hb2) _) W2.heap.size y.name (Boxed.new W2 9 _).cell HFl.out (by have := HBW.out.size; simp; omega); obtain ⟨qe, ce, hue⟩ := hoe.slice; subst hue; have HRune : Hid ((Builtin.append_ #[48, 48] 48 #[.slice q l c, .slice (some ⟨W2.heap.size, 0, none⟩) 1 1]).run Try.prog (W2.alloc (.cells #[.string y.name] 9)) = .ok (.slice qe (F ++ [y.name]).length ce) we) := hrune; have HOe : Hid (OwnS w0.heap.size we (.slice qe (F ++ [y.name]).length ce) (F ++ [y.name])) := hoe; have HBe : Hid (Below w0.heap.size w0 we) := (HBW.out.alloc HBW.out.size _).grown hge (by have := HBW.out.size; simp; omega) (fun j ej => (World.ownsRow.lt (World.ownsRow.alloc (HO.out.later hb2) (.cells #[.string y.name] 9)) j ej).1); clear hE hrune hoe hge; simp only [Act.put])
            | (at_builtin; refine wpList_plain rfl fun K hK => wp_append_of (.tmp 78) (.tmp 81) 48 rfl rfl rfl HRune.out (hK _ _ ?_); clear hK; simp only [Act.put, List.setIfInBounds_toArray, List.set_cons_zero, List.set_cons_succ]))
          go_roundw
          case rel => exact ⟨k + 1, qe, _, ce, by omega, by go_num, rfl, HAt.out, by rw [HT.out]; exact HOe.out, HBe.out⟩
          case measure => simp [intOf]; omega
      · obtain rfl : k = len := by omega
        have HTk : es.take k = es := List.take_of_length_le (by rw [HL.out]; exact Nat.le_refl _)
        rw [HTk] at HO
        have HCi : Hid (∀ W, Below w0.heap.size w0 W → Calls Try.prog 22 #[.slice p k cap, .agg (entC x).toArray] W fun e w' => e = .returned (.bool (es.any (clashB x))) ∧ Below W.heap.size W w') := fun W h => clashes_any p k cap es x HX.out W ((HI.out.later hb0).later h)
        have HCr : Hid (∀ W, Below w0.heap.size w0 W → Calls Try.prog 23 #[.slice p k cap, .agg (entC x).toArray] W fun e w' => e = .returned (.bool (es.any (clashB x))) ∧ Below W.heap.size W w') := fun W h => refClashes_any p k cap es x HX.out W ((HI.out.later hb0).later h)
        have HLi : Hid (∀ W, Below w0.heap.size w0 W → Calls Try.prog 25 #[.slice p k cap] W fun e w' => ∃ q c, e = .returned (.slice q (linksL (idsE es)).length c) ∧ IsIds w'.heap.size w' q (linksL (idsE es)).length c (linksL (idsE es)) ∧ Below W.heap.size W w') := fun W h => by
          refine (dirLinks_any p k cap es W ((HI.out.later hb0).later h) hlen).mono ?_
          rintro e w' ⟨q, n, rfl, hE, hb⟩
          obtain rfl := hE.1
          exact ⟨q, _, rfl, hE, hb⟩
        have HLr : Hid (∀ W, Below w0.heap.size w0 W → Calls Try.prog 26 #[.slice p k cap] W fun e w' => ∃ q c, e = .returned (.slice q (linksL (idsE es)).length c) ∧ IsIds w'.heap.size w' q (linksL (idsE es)).length c (linksL (idsE es)) ∧ Below W.heap.size W w') := fun W h => by
          refine (refDirLinks_any p k cap es W ((HI.out.later hb0).later h) hlen).mono ?_
          rintro e w' ⟨q, n, c, rfl, hE, hb⟩
          obtain rfl := hE.1.1
          exact ⟨q, _, rfl, hE.1, hb⟩
        generalize es.any (clashB x) = cl at *
        generalize linksL (idsE es) = Li at *
        generalize Li.length = nl at *
        unfold AtRel at hat
        rw [HTk] at hat
        generalize (es.any fun y => nameB y s) = fb at *
        generalize firstN (fun y => nameB y s) es = fn at *
        go_upto_region 17 with fail
        go_cut [112] from 84 to 112 (fun v wx => v = .bool false ∧ Below wr.heap.size wr wx)
        case first =>
          rcases hat with ⟨rfl, ha⟩ | ⟨rfl, ha⟩
          · subst ha
            cases cl with
            | true =>
              refine wp_region_held_drew (S := fun W => Below wr.heap.size wr W) (by kernel_rfl) (Below.refl _ _).drew (fun hHeld => ?_)
              refine wpAnyH_takesAt 0 1 28 (of_decide_eq_true (by kernel_rfl)) rfl (fun _ _ _ d _ h => by cases d <;> exact h) (by kernel_rfl) (by kernel_rfl) hHeld ?_
              simp only [List.drop_zero, List.take_succ_cons, List.take_zero]
              iterate 1 (refine wpHeld_step (v := ?_) (by rfl) (fun wz hSw => ?_) ?_; rotate_left; (focus ((try dsimp only at hSw); go_simp; try with_reducible rfl)); ((simp only [Act.put]; (try simp only [List.setIfInBounds_toArray]); (try simp only [List.set_cons_succ]); (try simp only [List.set_cons_zero]))))
              refine wpHeld_nil ?_
              refine wpAnyH_takesAt 1 1 27 (of_decide_eq_true (by kernel_rfl)) rfl (fun _ _ _ d _ h => by cases d <;> exact h) (by kernel_rfl) (by kernel_rfl) hHeld ?_
              simp only [List.drop_succ_cons, List.drop_zero, List.take_succ_cons, List.take_zero]
              refine wpHeld_loadE (by rfl) (.tmp 5) rfl w.heap.size (0) rfl (entC x) (fun W hW => (HE0.out.later (HBr.out.trans (hW.mono HBr.out.size))).row.range) (size43' HX.out) ?_
              (simp only [Act.put]; (try simp only [List.setIfInBounds_toArray]); (try simp only [List.set_cons_succ]); (try simp only [List.set_cons_zero]))
              refine wpHeld_nil ?_
              refine wpAnyH_takesAt 3 1 26 (of_decide_eq_true (by kernel_rfl)) rfl (fun _ _ _ d _ h => by cases d <;> exact h) (by kernel_rfl) (by kernel_rfl) hHeld ?_
              simp only [List.drop_succ_cons, List.drop_zero, List.take_succ_cons, List.take_zero]
              iterate 1 (refine wpHeld_step (v := ?_) (by rfl) (fun wz hSw => ?_) ?_; rotate_left; (focus ((try dsimp only at hSw); go_simp; try with_reducible rfl)); ((simp only [Act.put]; (try simp only [List.setIfInBounds_toArray]); (try simp only [List.set_cons_succ]); (try simp only [List.set_cons_zero]))))
              refine wpHeld_nil ?_
              refine wpAnyH_takesAt 4 1 25 (of_decide_eq_true (by kernel_rfl)) rfl (fun _ _ _ d _ h => by cases d <;> exact h) (by kernel_rfl) (by kernel_rfl) hHeld ?_
              simp only [List.drop_succ_cons, List.drop_zero, List.take_succ_cons, List.take_zero]
              refine wpHeld_loadE (by rfl) (.tmp 5) rfl w.heap.size (0) rfl (entC x) (fun W hW => (HE0.out.later (HBr.out.trans (hW.mono HBr.out.size))).row.range) (size43' HX.out) ?_
              (simp only [Act.put]; (try simp only [List.setIfInBounds_toArray]); (try simp only [List.set_cons_succ]); (try simp only [List.set_cons_zero]))
              refine wpHeld_nil ?_
              refine wpAnyH_only (i := 2) (by kernel_rfl) rfl (fun K hK => ?_)
              rw [if_pos (by rfl)]
              go_simp
              refine (HCi.out _ (HBr.out.trans (hHeld.mono HBr.out.size))).mono ?_
              rintro e w3 ⟨rfl, hc3⟩
              have HC3 : Hid (Below wr.heap.size wr w3) := hHeld.trans (hc3.mono hHeld.size)
              refine hK.out _ _ HC3.out ?_
              clear hK K hHeld
              have hHeld := HC3.out
              refine wpAnyH_only (i := 5) (by kernel_rfl) rfl (fun K hK => ?_)
              rw [if_pos (by rfl)]
              go_simp
              refine (HCr.out _ (HBr.out.trans (hHeld.mono HBr.out.size))).mono ?_
              rintro e w4 ⟨rfl, hc4⟩
              have HC4 : Hid (Below wr.heap.size wr w4) := hHeld.trans (hc4.mono hHeld.size)
              refine hK.out _ _ HC4.out ?_
              clear hK K hHeld
              have hHeld := HC4.out
              refine wpAnyH_takesAt 6 2 21 (of_decide_eq_true (by kernel_rfl)) rfl (fun _ _ _ d _ h => by cases d <;> exact h) (by kernel_rfl) (by kernel_rfl) hHeld ?_
              simp only [List.drop_succ_cons, List.drop_zero, List.take_succ_cons, List.take_zero]
              iterate 2 (refine wpHeld_step (v := ?_) (by rfl) (fun wz hSw => ?_) ?_; rotate_left; (focus ((try dsimp only at hSw); go_simp; try with_reducible rfl)); (simp only [Act.put, List.setIfInBounds_toArray, List.set_cons_zero, List.set_cons_succ]))
              refine wpHeld_nil ?_
              refine wpAnyH_takesAt 8 6 15 (of_decide_eq_true (by kernel_rfl)) rfl (fun _ _ _ d _ h => by cases d <;> exact h) (by kernel_rfl) (by kernel_rfl) hHeld ?_
              simp only [List.drop_succ_cons, List.drop_zero, List.take_succ_cons, List.take_zero]
              iterate 6 (refine wpHeld_step (v := ?_) (by rfl) (fun wz hSw => ?_) ?_; rotate_left; (focus ((try dsimp only at hSw); go_simp; try with_reducible rfl)); (simp only [Act.put, List.setIfInBounds_toArray, List.set_cons_zero, List.set_cons_succ]))
              refine wpHeld_nil ?_
              refine wpAnyH_takesAt 14 2 13 (of_decide_eq_true (by kernel_rfl)) rfl (fun _ _ _ d _ h => by cases d <;> exact h) (by kernel_rfl) (by kernel_rfl) hHeld ?_
              simp only [List.drop_succ_cons, List.drop_zero, List.take_succ_cons, List.take_zero]
              iterate 2 (refine wpHeld_step (v := ?_) (by rfl) (fun wz hSw => ?_) ?_; rotate_left; (focus ((try dsimp only at hSw); go_simp; try with_reducible rfl)); (simp only [Act.put, List.setIfInBounds_toArray, List.set_cons_zero, List.set_cons_succ]))
              refine wpHeld_nil ?_
              refine wpAnyH_takesAt 16 3 10 (of_decide_eq_true (by kernel_rfl)) rfl (fun _ _ _ d _ h => by cases d <;> exact h) (by kernel_rfl) (by kernel_rfl) hHeld ?_
              simp only [List.drop_succ_cons, List.drop_zero, List.take_succ_cons, List.take_zero]
              iterate 3 (refine wpHeld_skip (by rfl) ?_; simp only [Act.put, List.setIfInBounds_toArray, List.set_cons_zero, List.set_cons_succ])
              refine wpHeld_nil ?_
              refine wpAnyH_takesAt 19 3 7 (of_decide_eq_true (by kernel_rfl)) rfl (fun _ _ _ d _ h => by cases d <;> exact h) (by kernel_rfl) (by kernel_rfl) hHeld ?_
              simp only [List.drop_succ_cons, List.drop_zero, List.take_succ_cons, List.take_zero]
              iterate 3 (refine wpHeld_step (v := ?_) (by rfl) (fun wz hSw => ?_) ?_; rotate_left; (focus ((try dsimp only at hSw); go_simp; try with_reducible rfl)); (simp only [Act.put, List.setIfInBounds_toArray, List.set_cons_zero, List.set_cons_succ]))
              refine wpHeld_nil ?_
              refine wpAnyH_takesAt 22 1 6 (of_decide_eq_true (by kernel_rfl)) rfl (fun _ _ _ d _ h => by cases d <;> exact h) (by kernel_rfl) (by kernel_rfl) hHeld ?_
              simp only [List.drop_succ_cons, List.drop_zero, List.take_succ_cons, List.take_zero]
              iterate 1 (refine wpHeld_step (v := ?_) (by rfl) (fun wz hSw => ?_) ?_; rotate_left; (focus ((try dsimp only at hSw); go_simp; try with_reducible rfl)); ((simp only [Act.put]; (try simp only [List.setIfInBounds_toArray]); (try simp only [List.set_cons_succ]); (try simp only [List.set_cons_zero]))))
              refine wpHeld_nil ?_
              refine wpAnyH_takesAt 24 1 5 (of_decide_eq_true (by kernel_rfl)) rfl (fun _ _ _ d _ h => by cases d <;> exact h) (by kernel_rfl) (by kernel_rfl) hHeld ?_
              simp only [List.drop_succ_cons, List.drop_zero, List.take_succ_cons, List.take_zero]
              iterate 1 (refine wpHeld_step (v := ?_) (by rfl) (fun wz hSw => ?_) ?_; rotate_left; (focus ((try dsimp only at hSw); go_simp; try with_reducible rfl)); ((simp only [Act.put]; (try simp only [List.setIfInBounds_toArray]); (try simp only [List.set_cons_succ]); (try simp only [List.set_cons_zero]))))
              refine wpHeld_nil ?_
              refine wpAnyH_only (i := 23) (by kernel_rfl) rfl (fun K hK => ?_)
              rw [if_pos (by rfl)]
              go_simp
              refine (HLi.out _ (HBr.out.trans (hHeld.mono HBr.out.size))).mono ?_
              rintro e w5 ⟨q5, c5, rfl, hI5, hc5⟩
              have HC5 : Hid (Below wr.heap.size wr w5) := hHeld.trans (hc5.mono hHeld.size)
              refine hK.out _ _ HC5.out ?_
              clear hK K hHeld
              have hHeld := HC5.out
              refine wpAnyH_only (i := 25) (by kernel_rfl) rfl (fun K hK => ?_)
              rw [if_pos (by rfl)]
              go_simp
              refine (HLr.out _ (HBr.out.trans (hHeld.mono HBr.out.size))).mono ?_
              rintro e w6 ⟨q6, c6, rfl, hI6, hc6⟩
              have HC6 : Hid (Below wr.heap.size wr w6) := hHeld.trans (hc6.mono hHeld.size)
              refine hK.out _ _ HC6.out ?_
              clear hK K hHeld
              have hHeld := HC6.out
              refine wpAnyH_only (i := 26) (by kernel_rfl) rfl (fun K hK => ?_)
              rw [if_pos (by rfl)]
              go_simp
              refine (sameIds_any q5 nl c5 q6 c6 Li w6 ((hI5.below hc6).mono hc6.size) hI6).mono ?_
              rintro e w7 ⟨rfl, hc7⟩
              have HC7 : Hid (Below wr.heap.size wr w7) := hHeld.trans (hc7.mono hHeld.size)
              refine hK.out _ _ HC7.out ?_
              clear hK K hHeld
              have hHeld := HC7.out
              refine wpAnyH_takesAt 27 2 0 (of_decide_eq_true (by kernel_rfl)) rfl (fun _ _ _ d _ h => by cases d <;> exact h) (by kernel_rfl) (by kernel_rfl) hHeld ?_
              simp only [List.drop_succ_cons, List.drop_zero, List.take_succ_cons, List.take_zero]
              iterate 2 (refine wpHeld_step (v := ?_) (by rfl) (fun wz hSw => ?_) ?_; rotate_left; (focus ((try dsimp only at hSw); go_simp; try with_reducible rfl)); (simp only [Act.put, List.setIfInBounds_toArray, List.set_cons_zero, List.set_cons_succ]))
              refine wpHeld_nil ?_
              refine wpAnyH_done (by kernel_rfl) ?_ _
              go_wp2
              go_meet
              exact ⟨rfl, HC7.out⟩
            | false =>
              refine wp_region_held_drew (S := fun W => Below wr.heap.size wr W) (by kernel_rfl) (Below.refl _ _).drew (fun hHeld => ?_)
              refine wpAnyH_takesAt 0 1 28 (of_decide_eq_true (by kernel_rfl)) rfl (fun _ _ _ d _ h => by cases d <;> exact h) (by kernel_rfl) (by kernel_rfl) hHeld ?_
              simp only [List.drop_zero, List.take_succ_cons, List.take_zero]
              iterate 1 (refine wpHeld_step (v := ?_) (by rfl) (fun wz hSw => ?_) ?_; rotate_left; (focus ((try dsimp only at hSw); go_simp; try with_reducible rfl)); ((simp only [Act.put]; (try simp only [List.setIfInBounds_toArray]); (try simp only [List.set_cons_succ]); (try simp only [List.set_cons_zero]))))
              refine wpHeld_nil ?_
              refine wpAnyH_takesAt 1 1 27 (of_decide_eq_true (by kernel_rfl)) rfl (fun _ _ _ d _ h => by cases d <;> exact h) (by kernel_rfl) (by kernel_rfl) hHeld ?_
              simp only [List.drop_succ_cons, List.drop_zero, List.take_succ_cons, List.take_zero]
              refine wpHeld_loadE (by rfl) (.tmp 5) rfl w.heap.size (0) rfl (entC x) (fun W hW => (HE0.out.later (HBr.out.trans (hW.mono HBr.out.size))).row.range) (size43' HX.out) ?_
              (simp only [Act.put]; (try simp only [List.setIfInBounds_toArray]); (try simp only [List.set_cons_succ]); (try simp only [List.set_cons_zero]))
              refine wpHeld_nil ?_
              refine wpAnyH_takesAt 3 1 26 (of_decide_eq_true (by kernel_rfl)) rfl (fun _ _ _ d _ h => by cases d <;> exact h) (by kernel_rfl) (by kernel_rfl) hHeld ?_
              simp only [List.drop_succ_cons, List.drop_zero, List.take_succ_cons, List.take_zero]
              iterate 1 (refine wpHeld_step (v := ?_) (by rfl) (fun wz hSw => ?_) ?_; rotate_left; (focus ((try dsimp only at hSw); go_simp; try with_reducible rfl)); ((simp only [Act.put]; (try simp only [List.setIfInBounds_toArray]); (try simp only [List.set_cons_succ]); (try simp only [List.set_cons_zero]))))
              refine wpHeld_nil ?_
              refine wpAnyH_takesAt 4 1 25 (of_decide_eq_true (by kernel_rfl)) rfl (fun _ _ _ d _ h => by cases d <;> exact h) (by kernel_rfl) (by kernel_rfl) hHeld ?_
              simp only [List.drop_succ_cons, List.drop_zero, List.take_succ_cons, List.take_zero]
              refine wpHeld_loadE (by rfl) (.tmp 5) rfl w.heap.size (0) rfl (entC x) (fun W hW => (HE0.out.later (HBr.out.trans (hW.mono HBr.out.size))).row.range) (size43' HX.out) ?_
              (simp only [Act.put]; (try simp only [List.setIfInBounds_toArray]); (try simp only [List.set_cons_succ]); (try simp only [List.set_cons_zero]))
              refine wpHeld_nil ?_
              refine wpAnyH_only (i := 2) (by kernel_rfl) rfl (fun K hK => ?_)
              rw [if_pos (by rfl)]
              go_simp
              refine (HCi.out _ (HBr.out.trans (hHeld.mono HBr.out.size))).mono ?_
              rintro e w3 ⟨rfl, hc3⟩
              have HC3 : Hid (Below wr.heap.size wr w3) := hHeld.trans (hc3.mono hHeld.size)
              refine hK.out _ _ HC3.out ?_
              clear hK K hHeld
              have hHeld := HC3.out
              refine wpAnyH_only (i := 5) (by kernel_rfl) rfl (fun K hK => ?_)
              rw [if_pos (by rfl)]
              go_simp
              refine (HCr.out _ (HBr.out.trans (hHeld.mono HBr.out.size))).mono ?_
              rintro e w4 ⟨rfl, hc4⟩
              have HC4 : Hid (Below wr.heap.size wr w4) := hHeld.trans (hc4.mono hHeld.size)
              refine hK.out _ _ HC4.out ?_
              clear hK K hHeld
              have hHeld := HC4.out
              refine wpAnyH_takesAt 6 2 21 (of_decide_eq_true (by kernel_rfl)) rfl (fun _ _ _ d _ h => by cases d <;> exact h) (by kernel_rfl) (by kernel_rfl) hHeld ?_
              simp only [List.drop_succ_cons, List.drop_zero, List.take_succ_cons, List.take_zero]
              iterate 2 (refine wpHeld_step (v := ?_) (by rfl) (fun wz hSw => ?_) ?_; rotate_left; (focus ((try dsimp only at hSw); go_simp; try with_reducible rfl)); (simp only [Act.put, List.setIfInBounds_toArray, List.set_cons_zero, List.set_cons_succ]))
              refine wpHeld_nil ?_
              refine wpAnyH_takesAt 8 6 15 (of_decide_eq_true (by kernel_rfl)) rfl (fun _ _ _ d _ h => by cases d <;> exact h) (by kernel_rfl) (by kernel_rfl) hHeld ?_
              simp only [List.drop_succ_cons, List.drop_zero, List.take_succ_cons, List.take_zero]
              iterate 6 (refine wpHeld_step (v := ?_) (by rfl) (fun wz hSw => ?_) ?_; rotate_left; (focus ((try dsimp only at hSw); go_simp; try with_reducible rfl)); (simp only [Act.put, List.setIfInBounds_toArray, List.set_cons_zero, List.set_cons_succ]))
              refine wpHeld_nil ?_
              refine wpAnyH_takesAt 14 2 13 (of_decide_eq_true (by kernel_rfl)) rfl (fun _ _ _ d _ h => by cases d <;> exact h) (by kernel_rfl) (by kernel_rfl) hHeld ?_
              simp only [List.drop_succ_cons, List.drop_zero, List.take_succ_cons, List.take_zero]
              iterate 2 (refine wpHeld_step (v := ?_) (by rfl) (fun wz hSw => ?_) ?_; rotate_left; (focus ((try dsimp only at hSw); go_simp; try with_reducible rfl)); (simp only [Act.put, List.setIfInBounds_toArray, List.set_cons_zero, List.set_cons_succ]))
              refine wpHeld_nil ?_
              refine wpAnyH_takesAt 16 3 10 (of_decide_eq_true (by kernel_rfl)) rfl (fun _ _ _ d _ h => by cases d <;> exact h) (by kernel_rfl) (by kernel_rfl) hHeld ?_
              simp only [List.drop_succ_cons, List.drop_zero, List.take_succ_cons, List.take_zero]
              iterate 3 (refine wpHeld_skip (by rfl) ?_; simp only [Act.put, List.setIfInBounds_toArray, List.set_cons_zero, List.set_cons_succ])
              refine wpHeld_nil ?_
              refine wpAnyH_takesAt 19 3 7 (of_decide_eq_true (by kernel_rfl)) rfl (fun _ _ _ d _ h => by cases d <;> exact h) (by kernel_rfl) (by kernel_rfl) hHeld ?_
              simp only [List.drop_succ_cons, List.drop_zero, List.take_succ_cons, List.take_zero]
              iterate 3 (refine wpHeld_step (v := ?_) (by rfl) (fun wz hSw => ?_) ?_; rotate_left; (focus ((try dsimp only at hSw); go_simp; try with_reducible rfl)); (simp only [Act.put, List.setIfInBounds_toArray, List.set_cons_zero, List.set_cons_succ]))
              refine wpHeld_nil ?_
              refine wpAnyH_takesAt 22 1 6 (of_decide_eq_true (by kernel_rfl)) rfl (fun _ _ _ d _ h => by cases d <;> exact h) (by kernel_rfl) (by kernel_rfl) hHeld ?_
              simp only [List.drop_succ_cons, List.drop_zero, List.take_succ_cons, List.take_zero]
              iterate 1 (refine wpHeld_step (v := ?_) (by rfl) (fun wz hSw => ?_) ?_; rotate_left; (focus ((try dsimp only at hSw); go_simp; try with_reducible rfl)); ((simp only [Act.put]; (try simp only [List.setIfInBounds_toArray]); (try simp only [List.set_cons_succ]); (try simp only [List.set_cons_zero]))))
              refine wpHeld_nil ?_
              refine wpAnyH_takesAt 24 1 5 (of_decide_eq_true (by kernel_rfl)) rfl (fun _ _ _ d _ h => by cases d <;> exact h) (by kernel_rfl) (by kernel_rfl) hHeld ?_
              simp only [List.drop_succ_cons, List.drop_zero, List.take_succ_cons, List.take_zero]
              iterate 1 (refine wpHeld_step (v := ?_) (by rfl) (fun wz hSw => ?_) ?_; rotate_left; (focus ((try dsimp only at hSw); go_simp; try with_reducible rfl)); ((simp only [Act.put]; (try simp only [List.setIfInBounds_toArray]); (try simp only [List.set_cons_succ]); (try simp only [List.set_cons_zero]))))
              refine wpHeld_nil ?_
              refine wpAnyH_only (i := 23) (by kernel_rfl) rfl (fun K hK => ?_)
              rw [if_pos (by rfl)]
              go_simp
              refine (HLi.out _ (HBr.out.trans (hHeld.mono HBr.out.size))).mono ?_
              rintro e w5 ⟨q5, c5, rfl, hI5, hc5⟩
              have HC5 : Hid (Below wr.heap.size wr w5) := hHeld.trans (hc5.mono hHeld.size)
              refine hK.out _ _ HC5.out ?_
              clear hK K hHeld
              have hHeld := HC5.out
              refine wpAnyH_only (i := 25) (by kernel_rfl) rfl (fun K hK => ?_)
              rw [if_pos (by rfl)]
              go_simp
              refine (HLr.out _ (HBr.out.trans (hHeld.mono HBr.out.size))).mono ?_
              rintro e w6 ⟨q6, c6, rfl, hI6, hc6⟩
              have HC6 : Hid (Below wr.heap.size wr w6) := hHeld.trans (hc6.mono hHeld.size)
              refine hK.out _ _ HC6.out ?_
              clear hK K hHeld
              have hHeld := HC6.out
              refine wpAnyH_only (i := 26) (by kernel_rfl) rfl (fun K hK => ?_)
              rw [if_pos (by rfl)]
              go_simp
              refine (sameIds_any q5 nl c5 q6 c6 Li w6 ((hI5.below hc6).mono hc6.size) hI6).mono ?_
              rintro e w7 ⟨rfl, hc7⟩
              have HC7 : Hid (Below wr.heap.size wr w7) := hHeld.trans (hc7.mono hHeld.size)
              refine hK.out _ _ HC7.out ?_
              clear hK K hHeld
              have hHeld := HC7.out
              refine wpAnyH_takesAt 27 2 0 (of_decide_eq_true (by kernel_rfl)) rfl (fun _ _ _ d _ h => by cases d <;> exact h) (by kernel_rfl) (by kernel_rfl) hHeld ?_
              simp only [List.drop_succ_cons, List.drop_zero, List.take_succ_cons, List.take_zero]
              iterate 2 (refine wpHeld_step (v := ?_) (by rfl) (fun wz hSw => ?_) ?_; rotate_left; (focus ((try dsimp only at hSw); go_simp; try with_reducible rfl)); (simp only [Act.put, List.setIfInBounds_toArray, List.set_cons_zero, List.set_cons_succ]))
              refine wpHeld_nil ?_
              refine wpAnyH_done (by kernel_rfl) ?_ _
              go_wp2
              go_meet
              exact ⟨rfl, HC7.out⟩
          · subst ha
            have hnn : (0 : Int) ≤ (fn : Int) := by omega
            cases cl with
            | true =>
              refine wp_region_held_drew (S := fun W => Below wr.heap.size wr W) (by kernel_rfl) (Below.refl _ _).drew (fun hHeld => ?_)
              refine wpAnyH_takesAt 0 1 28 (of_decide_eq_true (by kernel_rfl)) rfl (fun _ _ _ d _ h => by cases d <;> exact h) (by kernel_rfl) (by kernel_rfl) hHeld ?_
              simp only [List.drop_zero, List.take_succ_cons, List.take_zero]
              iterate 1 (refine wpHeld_step (v := ?_) (by rfl) (fun wz hSw => ?_) ?_; rotate_left; (focus ((try dsimp only at hSw); go_simp; try with_reducible rfl)); ((simp only [Act.put]; (try simp only [List.setIfInBounds_toArray]); (try simp only [List.set_cons_succ]); (try simp only [List.set_cons_zero]))))
              refine wpHeld_nil ?_
              refine wpAnyH_takesAt 1 1 27 (of_decide_eq_true (by kernel_rfl)) rfl (fun _ _ _ d _ h => by cases d <;> exact h) (by kernel_rfl) (by kernel_rfl) hHeld ?_
              simp only [List.drop_succ_cons, List.drop_zero, List.take_succ_cons, List.take_zero]
              refine wpHeld_loadE (by rfl) (.tmp 5) rfl w.heap.size (0) rfl (entC x) (fun W hW => (HE0.out.later (HBr.out.trans (hW.mono HBr.out.size))).row.range) (size43' HX.out) ?_
              (simp only [Act.put]; (try simp only [List.setIfInBounds_toArray]); (try simp only [List.set_cons_succ]); (try simp only [List.set_cons_zero]))
              refine wpHeld_nil ?_
              refine wpAnyH_takesAt 3 1 26 (of_decide_eq_true (by kernel_rfl)) rfl (fun _ _ _ d _ h => by cases d <;> exact h) (by kernel_rfl) (by kernel_rfl) hHeld ?_
              simp only [List.drop_succ_cons, List.drop_zero, List.take_succ_cons, List.take_zero]
              iterate 1 (refine wpHeld_step (v := ?_) (by rfl) (fun wz hSw => ?_) ?_; rotate_left; (focus ((try dsimp only at hSw); go_simp; try with_reducible rfl)); ((simp only [Act.put]; (try simp only [List.setIfInBounds_toArray]); (try simp only [List.set_cons_succ]); (try simp only [List.set_cons_zero]))))
              refine wpHeld_nil ?_
              refine wpAnyH_takesAt 4 1 25 (of_decide_eq_true (by kernel_rfl)) rfl (fun _ _ _ d _ h => by cases d <;> exact h) (by kernel_rfl) (by kernel_rfl) hHeld ?_
              simp only [List.drop_succ_cons, List.drop_zero, List.take_succ_cons, List.take_zero]
              refine wpHeld_loadE (by rfl) (.tmp 5) rfl w.heap.size (0) rfl (entC x) (fun W hW => (HE0.out.later (HBr.out.trans (hW.mono HBr.out.size))).row.range) (size43' HX.out) ?_
              (simp only [Act.put]; (try simp only [List.setIfInBounds_toArray]); (try simp only [List.set_cons_succ]); (try simp only [List.set_cons_zero]))
              refine wpHeld_nil ?_
              refine wpAnyH_only (i := 2) (by kernel_rfl) rfl (fun K hK => ?_)
              rw [if_pos (by rfl)]
              go_simp
              refine (HCi.out _ (HBr.out.trans (hHeld.mono HBr.out.size))).mono ?_
              rintro e w3 ⟨rfl, hc3⟩
              have HC3 : Hid (Below wr.heap.size wr w3) := hHeld.trans (hc3.mono hHeld.size)
              refine hK.out _ _ HC3.out ?_
              clear hK K hHeld
              have hHeld := HC3.out
              refine wpAnyH_only (i := 5) (by kernel_rfl) rfl (fun K hK => ?_)
              rw [if_pos (by rfl)]
              go_simp
              refine (HCr.out _ (HBr.out.trans (hHeld.mono HBr.out.size))).mono ?_
              rintro e w4 ⟨rfl, hc4⟩
              have HC4 : Hid (Below wr.heap.size wr w4) := hHeld.trans (hc4.mono hHeld.size)
              refine hK.out _ _ HC4.out ?_
              clear hK K hHeld
              have hHeld := HC4.out
              refine wpAnyH_takesAt 6 2 21 (of_decide_eq_true (by kernel_rfl)) rfl (fun _ _ _ d _ h => by cases d <;> exact h) (by kernel_rfl) (by kernel_rfl) hHeld ?_
              simp only [List.drop_succ_cons, List.drop_zero, List.take_succ_cons, List.take_zero]
              iterate 2 (refine wpHeld_step (v := ?_) (by rfl) (fun wz hSw => ?_) ?_; rotate_left; (focus ((try dsimp only at hSw); go_simp; try with_reducible rfl)); (simp only [Act.put, List.setIfInBounds_toArray, List.set_cons_zero, List.set_cons_succ]))
              refine wpHeld_nil ?_
              refine wpAnyH_takesAt 8 6 15 (of_decide_eq_true (by kernel_rfl)) rfl (fun _ _ _ d _ h => by cases d <;> exact h) (by kernel_rfl) (by kernel_rfl) hHeld ?_
              simp only [List.drop_succ_cons, List.drop_zero, List.take_succ_cons, List.take_zero]
              iterate 6 (refine wpHeld_step (v := ?_) (by rfl) (fun wz hSw => ?_) ?_; rotate_left; (focus ((try dsimp only at hSw); go_simp; try with_reducible rfl)); (simp only [Act.put, List.setIfInBounds_toArray, List.set_cons_zero, List.set_cons_succ]))
              refine wpHeld_nil ?_
              refine wpAnyH_takesAt 14 2 13 (of_decide_eq_true (by kernel_rfl)) rfl (fun _ _ _ d _ h => by cases d <;> exact h) (by kernel_rfl) (by kernel_rfl) hHeld ?_
              simp only [List.drop_succ_cons, List.drop_zero, List.take_succ_cons, List.take_zero]
              iterate 2 (refine wpHeld_step (v := ?_) (by rfl) (fun wz hSw => ?_) ?_; rotate_left; (focus ((try dsimp only at hSw); go_simp; try with_reducible rfl)); (simp only [Act.put, List.setIfInBounds_toArray, List.set_cons_zero, List.set_cons_succ]))
              refine wpHeld_nil ?_
              refine wpAnyH_takesAt 16 3 10 (of_decide_eq_true (by kernel_rfl)) rfl (fun _ _ _ d _ h => by cases d <;> exact h) (by kernel_rfl) (by kernel_rfl) hHeld ?_
              simp only [List.drop_succ_cons, List.drop_zero, List.take_succ_cons, List.take_zero]
              iterate 3 (refine wpHeld_step (v := ?_) (by rfl) (fun wz hSw => ?_) ?_; rotate_left; (focus ((try dsimp only at hSw); go_simp; try with_reducible rfl)); (simp only [Act.put, List.setIfInBounds_toArray, List.set_cons_zero, List.set_cons_succ]))
              refine wpHeld_nil ?_
              refine wpAnyH_takesAt 19 3 7 (of_decide_eq_true (by kernel_rfl)) rfl (fun _ _ _ d _ h => by cases d <;> exact h) (by kernel_rfl) (by kernel_rfl) hHeld ?_
              simp only [List.drop_succ_cons, List.drop_zero, List.take_succ_cons, List.take_zero]
              iterate 3 (refine wpHeld_step (v := ?_) (by rfl) (fun wz hSw => ?_) ?_; rotate_left; (focus ((try dsimp only at hSw); go_simp; try with_reducible rfl)); (simp only [Act.put, List.setIfInBounds_toArray, List.set_cons_zero, List.set_cons_succ]))
              refine wpHeld_nil ?_
              refine wpAnyH_takesAt 22 1 6 (of_decide_eq_true (by kernel_rfl)) rfl (fun _ _ _ d _ h => by cases d <;> exact h) (by kernel_rfl) (by kernel_rfl) hHeld ?_
              simp only [List.drop_succ_cons, List.drop_zero, List.take_succ_cons, List.take_zero]
              iterate 1 (refine wpHeld_step (v := ?_) (by rfl) (fun wz hSw => ?_) ?_; rotate_left; (focus ((try dsimp only at hSw); go_simp; try with_reducible rfl)); ((simp only [Act.put]; (try simp only [List.setIfInBounds_toArray]); (try simp only [List.set_cons_succ]); (try simp only [List.set_cons_zero]))))
              refine wpHeld_nil ?_
              refine wpAnyH_takesAt 24 1 5 (of_decide_eq_true (by kernel_rfl)) rfl (fun _ _ _ d _ h => by cases d <;> exact h) (by kernel_rfl) (by kernel_rfl) hHeld ?_
              simp only [List.drop_succ_cons, List.drop_zero, List.take_succ_cons, List.take_zero]
              iterate 1 (refine wpHeld_step (v := ?_) (by rfl) (fun wz hSw => ?_) ?_; rotate_left; (focus ((try dsimp only at hSw); go_simp; try with_reducible rfl)); ((simp only [Act.put]; (try simp only [List.setIfInBounds_toArray]); (try simp only [List.set_cons_succ]); (try simp only [List.set_cons_zero]))))
              refine wpHeld_nil ?_
              refine wpAnyH_only (i := 23) (by kernel_rfl) rfl (fun K hK => ?_)
              rw [if_pos (by rfl)]
              go_simp
              refine (HLi.out _ (HBr.out.trans (hHeld.mono HBr.out.size))).mono ?_
              rintro e w5 ⟨q5, c5, rfl, hI5, hc5⟩
              have HC5 : Hid (Below wr.heap.size wr w5) := hHeld.trans (hc5.mono hHeld.size)
              refine hK.out _ _ HC5.out ?_
              clear hK K hHeld
              have hHeld := HC5.out
              refine wpAnyH_only (i := 25) (by kernel_rfl) rfl (fun K hK => ?_)
              rw [if_pos (by rfl)]
              go_simp
              refine (HLr.out _ (HBr.out.trans (hHeld.mono HBr.out.size))).mono ?_
              rintro e w6 ⟨q6, c6, rfl, hI6, hc6⟩
              have HC6 : Hid (Below wr.heap.size wr w6) := hHeld.trans (hc6.mono hHeld.size)
              refine hK.out _ _ HC6.out ?_
              clear hK K hHeld
              have hHeld := HC6.out
              refine wpAnyH_only (i := 26) (by kernel_rfl) rfl (fun K hK => ?_)
              rw [if_pos (by rfl)]
              go_simp
              refine (sameIds_any q5 nl c5 q6 c6 Li w6 ((hI5.below hc6).mono hc6.size) hI6).mono ?_
              rintro e w7 ⟨rfl, hc7⟩
              have HC7 : Hid (Below wr.heap.size wr w7) := hHeld.trans (hc7.mono hHeld.size)
              refine hK.out _ _ HC7.out ?_
              clear hK K hHeld
              have hHeld := HC7.out
              refine wpAnyH_takesAt 27 2 0 (of_decide_eq_true (by kernel_rfl)) rfl (fun _ _ _ d _ h => by cases d <;> exact h) (by kernel_rfl) (by kernel_rfl) hHeld ?_
              simp only [List.drop_succ_cons, List.drop_zero, List.take_succ_cons, List.take_zero]
              iterate 2 (refine wpHeld_step (v := ?_) (by rfl) (fun wz hSw => ?_) ?_; rotate_left; (focus ((try dsimp only at hSw); go_simp; try with_reducible rfl)); (simp only [Act.put, List.setIfInBounds_toArray, List.set_cons_zero, List.set_cons_succ]))
              refine wpHeld_nil ?_
              refine wpAnyH_done (by kernel_rfl) ?_ _
              go_wp2
              go_meet
              exact ⟨rfl, HC7.out⟩
            | false =>
              refine wp_region_held_drew (S := fun W => Below wr.heap.size wr W) (by kernel_rfl) (Below.refl _ _).drew (fun hHeld => ?_)
              refine wpAnyH_takesAt 0 1 28 (of_decide_eq_true (by kernel_rfl)) rfl (fun _ _ _ d _ h => by cases d <;> exact h) (by kernel_rfl) (by kernel_rfl) hHeld ?_
              simp only [List.drop_zero, List.take_succ_cons, List.take_zero]
              iterate 1 (refine wpHeld_step (v := ?_) (by rfl) (fun wz hSw => ?_) ?_; rotate_left; (focus ((try dsimp only at hSw); go_simp; try with_reducible rfl)); ((simp only [Act.put]; (try simp only [List.setIfInBounds_toArray]); (try simp only [List.set_cons_succ]); (try simp only [List.set_cons_zero]))))
              refine wpHeld_nil ?_
              refine wpAnyH_takesAt 1 1 27 (of_decide_eq_true (by kernel_rfl)) rfl (fun _ _ _ d _ h => by cases d <;> exact h) (by kernel_rfl) (by kernel_rfl) hHeld ?_
              simp only [List.drop_succ_cons, List.drop_zero, List.take_succ_cons, List.take_zero]
              refine wpHeld_loadE (by rfl) (.tmp 5) rfl w.heap.size (0) rfl (entC x) (fun W hW => (HE0.out.later (HBr.out.trans (hW.mono HBr.out.size))).row.range) (size43' HX.out) ?_
              (simp only [Act.put]; (try simp only [List.setIfInBounds_toArray]); (try simp only [List.set_cons_succ]); (try simp only [List.set_cons_zero]))
              refine wpHeld_nil ?_
              refine wpAnyH_takesAt 3 1 26 (of_decide_eq_true (by kernel_rfl)) rfl (fun _ _ _ d _ h => by cases d <;> exact h) (by kernel_rfl) (by kernel_rfl) hHeld ?_
              simp only [List.drop_succ_cons, List.drop_zero, List.take_succ_cons, List.take_zero]
              iterate 1 (refine wpHeld_step (v := ?_) (by rfl) (fun wz hSw => ?_) ?_; rotate_left; (focus ((try dsimp only at hSw); go_simp; try with_reducible rfl)); ((simp only [Act.put]; (try simp only [List.setIfInBounds_toArray]); (try simp only [List.set_cons_succ]); (try simp only [List.set_cons_zero]))))
              refine wpHeld_nil ?_
              refine wpAnyH_takesAt 4 1 25 (of_decide_eq_true (by kernel_rfl)) rfl (fun _ _ _ d _ h => by cases d <;> exact h) (by kernel_rfl) (by kernel_rfl) hHeld ?_
              simp only [List.drop_succ_cons, List.drop_zero, List.take_succ_cons, List.take_zero]
              refine wpHeld_loadE (by rfl) (.tmp 5) rfl w.heap.size (0) rfl (entC x) (fun W hW => (HE0.out.later (HBr.out.trans (hW.mono HBr.out.size))).row.range) (size43' HX.out) ?_
              (simp only [Act.put]; (try simp only [List.setIfInBounds_toArray]); (try simp only [List.set_cons_succ]); (try simp only [List.set_cons_zero]))
              refine wpHeld_nil ?_
              refine wpAnyH_only (i := 2) (by kernel_rfl) rfl (fun K hK => ?_)
              rw [if_pos (by rfl)]
              go_simp
              refine (HCi.out _ (HBr.out.trans (hHeld.mono HBr.out.size))).mono ?_
              rintro e w3 ⟨rfl, hc3⟩
              have HC3 : Hid (Below wr.heap.size wr w3) := hHeld.trans (hc3.mono hHeld.size)
              refine hK.out _ _ HC3.out ?_
              clear hK K hHeld
              have hHeld := HC3.out
              refine wpAnyH_only (i := 5) (by kernel_rfl) rfl (fun K hK => ?_)
              rw [if_pos (by rfl)]
              go_simp
              refine (HCr.out _ (HBr.out.trans (hHeld.mono HBr.out.size))).mono ?_
              rintro e w4 ⟨rfl, hc4⟩
              have HC4 : Hid (Below wr.heap.size wr w4) := hHeld.trans (hc4.mono hHeld.size)
              refine hK.out _ _ HC4.out ?_
              clear hK K hHeld
              have hHeld := HC4.out
              refine wpAnyH_takesAt 6 2 21 (of_decide_eq_true (by kernel_rfl)) rfl (fun _ _ _ d _ h => by cases d <;> exact h) (by kernel_rfl) (by kernel_rfl) hHeld ?_
              simp only [List.drop_succ_cons, List.drop_zero, List.take_succ_cons, List.take_zero]
              iterate 2 (refine wpHeld_step (v := ?_) (by rfl) (fun wz hSw => ?_) ?_; rotate_left; (focus ((try dsimp only at hSw); go_simp; try with_reducible rfl)); (simp only [Act.put, List.setIfInBounds_toArray, List.set_cons_zero, List.set_cons_succ]))
              refine wpHeld_nil ?_
              refine wpAnyH_takesAt 8 6 15 (of_decide_eq_true (by kernel_rfl)) rfl (fun _ _ _ d _ h => by cases d <;> exact h) (by kernel_rfl) (by kernel_rfl) hHeld ?_
              simp only [List.drop_succ_cons, List.drop_zero, List.take_succ_cons, List.take_zero]
              iterate 6 (refine wpHeld_step (v := ?_) (by rfl) (fun wz hSw => ?_) ?_; rotate_left; (focus ((try dsimp only at hSw); go_simp; try with_reducible rfl)); (simp only [Act.put, List.setIfInBounds_toArray, List.set_cons_zero, List.set_cons_succ]))
              refine wpHeld_nil ?_
              refine wpAnyH_takesAt 14 2 13 (of_decide_eq_true (by kernel_rfl)) rfl (fun _ _ _ d _ h => by cases d <;> exact h) (by kernel_rfl) (by kernel_rfl) hHeld ?_
              simp only [List.drop_succ_cons, List.drop_zero, List.take_succ_cons, List.take_zero]
              iterate 2 (refine wpHeld_step (v := ?_) (by rfl) (fun wz hSw => ?_) ?_; rotate_left; (focus ((try dsimp only at hSw); go_simp; try with_reducible rfl)); (simp only [Act.put, List.setIfInBounds_toArray, List.set_cons_zero, List.set_cons_succ]))
              refine wpHeld_nil ?_
              refine wpAnyH_takesAt 16 3 10 (of_decide_eq_true (by kernel_rfl)) rfl (fun _ _ _ d _ h => by cases d <;> exact h) (by kernel_rfl) (by kernel_rfl) hHeld ?_
              simp only [List.drop_succ_cons, List.drop_zero, List.take_succ_cons, List.take_zero]
              iterate 3 (refine wpHeld_step (v := ?_) (by rfl) (fun wz hSw => ?_) ?_; rotate_left; (focus ((try dsimp only at hSw); go_simp; try with_reducible rfl)); (simp only [Act.put, List.setIfInBounds_toArray, List.set_cons_zero, List.set_cons_succ]))
              refine wpHeld_nil ?_
              refine wpAnyH_takesAt 19 3 7 (of_decide_eq_true (by kernel_rfl)) rfl (fun _ _ _ d _ h => by cases d <;> exact h) (by kernel_rfl) (by kernel_rfl) hHeld ?_
              simp only [List.drop_succ_cons, List.drop_zero, List.take_succ_cons, List.take_zero]
              iterate 3 (refine wpHeld_step (v := ?_) (by rfl) (fun wz hSw => ?_) ?_; rotate_left; (focus ((try dsimp only at hSw); go_simp; try with_reducible rfl)); (simp only [Act.put, List.setIfInBounds_toArray, List.set_cons_zero, List.set_cons_succ]))
              refine wpHeld_nil ?_
              refine wpAnyH_takesAt 22 1 6 (of_decide_eq_true (by kernel_rfl)) rfl (fun _ _ _ d _ h => by cases d <;> exact h) (by kernel_rfl) (by kernel_rfl) hHeld ?_
              simp only [List.drop_succ_cons, List.drop_zero, List.take_succ_cons, List.take_zero]
              iterate 1 (refine wpHeld_step (v := ?_) (by rfl) (fun wz hSw => ?_) ?_; rotate_left; (focus ((try dsimp only at hSw); go_simp; try with_reducible rfl)); ((simp only [Act.put]; (try simp only [List.setIfInBounds_toArray]); (try simp only [List.set_cons_succ]); (try simp only [List.set_cons_zero]))))
              refine wpHeld_nil ?_
              refine wpAnyH_takesAt 24 1 5 (of_decide_eq_true (by kernel_rfl)) rfl (fun _ _ _ d _ h => by cases d <;> exact h) (by kernel_rfl) (by kernel_rfl) hHeld ?_
              simp only [List.drop_succ_cons, List.drop_zero, List.take_succ_cons, List.take_zero]
              iterate 1 (refine wpHeld_step (v := ?_) (by rfl) (fun wz hSw => ?_) ?_; rotate_left; (focus ((try dsimp only at hSw); go_simp; try with_reducible rfl)); ((simp only [Act.put]; (try simp only [List.setIfInBounds_toArray]); (try simp only [List.set_cons_succ]); (try simp only [List.set_cons_zero]))))
              refine wpHeld_nil ?_
              refine wpAnyH_only (i := 23) (by kernel_rfl) rfl (fun K hK => ?_)
              rw [if_pos (by rfl)]
              go_simp
              refine (HLi.out _ (HBr.out.trans (hHeld.mono HBr.out.size))).mono ?_
              rintro e w5 ⟨q5, c5, rfl, hI5, hc5⟩
              have HC5 : Hid (Below wr.heap.size wr w5) := hHeld.trans (hc5.mono hHeld.size)
              refine hK.out _ _ HC5.out ?_
              clear hK K hHeld
              have hHeld := HC5.out
              refine wpAnyH_only (i := 25) (by kernel_rfl) rfl (fun K hK => ?_)
              rw [if_pos (by rfl)]
              go_simp
              refine (HLr.out _ (HBr.out.trans (hHeld.mono HBr.out.size))).mono ?_
              rintro e w6 ⟨q6, c6, rfl, hI6, hc6⟩
              have HC6 : Hid (Below wr.heap.size wr w6) := hHeld.trans (hc6.mono hHeld.size)
              refine hK.out _ _ HC6.out ?_
              clear hK K hHeld
              have hHeld := HC6.out
              refine wpAnyH_only (i := 26) (by kernel_rfl) rfl (fun K hK => ?_)
              rw [if_pos (by rfl)]
              go_simp
              refine (sameIds_any q5 nl c5 q6 c6 Li w6 ((hI5.below hc6).mono hc6.size) hI6).mono ?_
              rintro e w7 ⟨rfl, hc7⟩
              have HC7 : Hid (Below wr.heap.size wr w7) := hHeld.trans (hc7.mono hHeld.size)
              refine hK.out _ _ HC7.out ?_
              clear hK K hHeld
              have hHeld := HC7.out
              refine wpAnyH_takesAt 27 2 0 (of_decide_eq_true (by kernel_rfl)) rfl (fun _ _ _ d _ h => by cases d <;> exact h) (by kernel_rfl) (by kernel_rfl) hHeld ?_
              simp only [List.drop_succ_cons, List.drop_zero, List.take_succ_cons, List.take_zero]
              iterate 2 (refine wpHeld_step (v := ?_) (by rfl) (fun wz hSw => ?_) ?_; rotate_left; (focus ((try dsimp only at hSw); go_simp; try with_reducible rfl)); (simp only [Act.put, List.setIfInBounds_toArray, List.set_cons_zero, List.set_cons_succ]))
              refine wpHeld_nil ?_
              refine wpAnyH_done (by kernel_rfl) ?_ _
              go_wp2
              go_meet
              exact ⟨rfl, HC7.out⟩
        case rest =>
          rename_i hcut
          obtain ⟨rfl, hbc⟩ := hcut
          have HBc : Hid (Below wr.heap.size wr wc) := hbc
          have hl1 : (namesE es).length = l := HO.out.strs.1
          have hl2 : (namesE es).length = es.length := by simp [namesE]
          have hl3 : l ≤ 1000 := by rw [← hl1, hl2, HL.out]; exact hlen
          have HSo : Hid (Calls Try.prog 27 #[.slice q l c] wc fun e w' => ∃ q c, e = .returned (.slice q k c) ∧ OwnS wc.heap.size w' (.slice q k c) (sortedE es) ∧ Below wc.heap.size wc w') := by
            refine (sorted_any q l c (namesE es) hl3 wc (HO.out.later HBc.out).strs).mono ?_
            rintro e w' ⟨q', n', c', rfl, hO, hb⟩
            rw [srt_sortL] at hO
            have hn : (sortedE es).length = n' := hO.strs.1
            have hk2 : (sortedE es).length = k := by rw [sortedE_length, HL.out]
            obtain rfl : n' = k := by omega
            exact ⟨q', c', rfl, hO, hb⟩
          have HNa : Hid (∀ W, Below wc.heap.size wc W → Calls Try.prog 28 #[.slice p k cap] W fun e w' => ∃ B q c, e = .returned (.func (.func 63) #[] #[.pointer (some ⟨B, 0, none⟩)]) ∧ W.heap.size ≤ B ∧ Boxed w' B 48 (.slice q k c) ∧ OwnS W.heap.size w' (.slice q k c) (sortedE es) ∧ Below W.heap.size W w') := fun W h =>
            names_any p k cap es W ((((HI.out.later hb0).later HBr.out).later HBc.out).later h) (by omega) HNm.out
          clear hbc HCi HCr HLi HLr HB9 HFd hl1 hl2 hl3 hat HFst
          have hs0 : w0.heap.size = w.heap.size + 1 + 1 + 1 := by rw [← HW0.out]; simp
          go_wp2_with (first
            | (go_at_call 27; refine HSo.out.mono ?_; rintro e w4 ⟨q8, c8, rfl, hO4, hb4⟩)
            | (go_at_call 28; have _ := hb4; refine (HNa.out _ ((hb4.alloc hb4.size _).alloc (by have := hb4.size; simp; omega) _)).mono ?_; rintro e w5 ⟨Bp, q9, c9, rfl, hBp, hbp, hown, hb5⟩))
          have hnA : ((w4.alloc (Obj.cells #[Value.slice q8 k c8] 48)).alloc (Obj.cells #[Value.int IntKind.i64 0] 3)).heap.size = w4.heap.size + 1 + 1 := by simp
          have hB4A : Below w4.heap.size w4 ((w4.alloc (Obj.cells #[Value.slice q8 k c8] 48)).alloc (Obj.cells #[Value.int IntKind.i64 0] 3)) := ((Below.refl _ w4).alloc (Nat.le_refl _) _).alloc (by simp) _
          have r15 := boxed_below ((Boxed.new w4 48 (.slice q8 k c8)).alloc (Obj.cells #[Value.int IntKind.i64 0] 3)) hb5
          have r16 := boxed_below (Boxed.new (w4.alloc (Obj.cells #[Value.slice q8 k c8] 48)) 3 (.int .i64 0)) hb5
          rw [World.size_alloc] at r16
          have hB45 : Below w4.heap.size w4 w5 := hB4A.trans (hb5.mono hB4A.size)
          rw [hnA] at hBp hown hb5
          have hBr5 : Below wr.heap.size wr w5 := (HBc.out.trans (hb4.mono HBc.out.size)).trans (hB45.mono (Nat.le_trans HBc.out.size hb4.size))
          have hB05 : Below w0.heap.size w0 w5 := HBr.out.trans (hBr5.mono HBr.out.size)
          have rW := (WantAt.of hO4).later hB45
          have r7 := boxed_below HM0.out hB05
          have r8 := boxed_below HR0.out hB05
          have hbw5 : Below w.heap.size w w5 := hb0.trans (hB05.mono hb0.size)
          have hxl : (sortedE es).length = k := by rw [sortedE_length, HL.out]
          have hz5 : w4.heap.size + 1 + 1 ≤ w5.heap.size := by have := hb5.size; rw [hnA] at this; exact this
          have hz4 : w0.heap.size ≤ wc.heap.size := Nat.le_trans HBr.out.size HBc.out.size
          have hz3 := hb4.size
          clear hB4A hnA hb5 hBr5 hB45 hb4 hO4 HSo HNa HBc HI HL HNm HTk HO HBr HB8 hHs hs8
          generalize sortedE es = xs at *
          refine wp_range_txt 7 (by omega) (gf := 63) (lb := #[.pointer (some ⟨Bp, 0, none⟩)]) rfl (enters_of Try.func63 (by kernel_rfl) rfl) (Ok := fun _ _ => True) (Kp := fun X Y => OwnS (w4.heap.size + 1 + 1) X (.slice q9 k c9) xs → OwnS (w4.heap.size + 1 + 1) Y (.slice q9 k c9) xs) (S := fun ys => ys = xs) (Sp := fun pre => pre <+: xs) (N := k)
            (fun W' hsz hb => names1_iter 6 (by omega) _ (w4.heap.size + 1 + 1) Bp q9 k c9 xs W' (boxed_below hbp hb) (hown.later hb)) (fun h k x => k (h x)) (fun A o o' ho hc h => OwnS.put h o' ho hc)
            (fun pre A => ((Boxed A (w.heap.size + 1) 3 (.int .i64 z) ∧ Boxed A (w.heap.size + 1 + 1) 4 (.bool false)) ∧ (Boxed A w4.heap.size 48 (.slice q8 k c8) ∧ Boxed A (w4.heap.size + 1) 3 (.int .i64 (pre.length : Nat)))) ∧ (WantAt wc.heap.size w4.heap.size q8 xs A ∧ pre <+: xs) ∧ Below w.heap.size w5 A)
            (fun c pre A => (c = .ret ∧ (pre <+: xs → Boxed A (w.heap.size + 1 + 1) 4 (.bool true))) ∧ Below w.heap.size w5 A)
            (fun s A A' row h hg hr => ⟨⟨⟨box_from h.1.1.1 hg hr, box_from h.1.1.2 hg hr⟩, ⟨box_from h.1.2.1 hg hr, box_from h.1.2.2 hg hr⟩⟩, ⟨h.2.1.1.grow hg hr, h.2.1.2⟩, ownFrom_below (by omega) (by omega) s A A' row h.2.2 hg hr⟩)
            (fun c s A A' row h hg hr => ⟨⟨h.1.1, fun hp => box_from (h.1.2 hp) hg hr⟩, ownFrom_below (by omega) (by omega) s A A' row h.2 hg hr⟩)
            (fun _ _ _ _ h _ _ => h)
            ⟨⟨⟨r7, r8⟩, ⟨r15, r16⟩⟩, ⟨rW, List.nil_prefix⟩, Below.refl _ _⟩ ?assign ?body ?done ?stop
          case assign =>
            intro l x W K hK
            simp only [List.setIfInBounds_toArray, List.set_cons_succ, List.set_cons_zero] at hK ⊢
            gi_wp2
            exact hK
          case body =>
            rintro li pre y A ⟨⟨⟨b7, b8⟩, b15, b16⟩, ⟨bW, hpre⟩, hB⟩ _ hN
            simp only [List.setIfInBounds_toArray, List.set_cons_succ, List.set_cons_zero]
            obtain ⟨g, hq8, hcg⟩ := bW.at (k := pre.length) (by omega)
            have HPn : Hid ((y.toList == (xs.getD pre.length ⟨#[]⟩).toList) = true → pre ++ [y] <+: xs) := pre_next hpre (by omega)
            have HPx : Hid (pre ++ [y] <+: xs → (y.toList == (xs.getD pre.length ⟨#[]⟩).toList) = true) := pre_not
            generalize xs.getD pre.length ⟨#[]⟩ = v at *
            have hni : (pre.length : Int) < (k : Int) := by omega
            have H7 : Hid (Boxed A (w.heap.size + 1) 3 (.int .i64 z)) := b7
            have H8 : Hid (Boxed A (w.heap.size + 1 + 1) 4 (.bool false)) := b8
            have H15 : Hid (Boxed A w4.heap.size 48 (.slice q8 k c8)) := b15
            have H16 : Hid (Boxed A (w4.heap.size + 1) 3 (.int .i64 (pre.length : Nat))) := b16
            have HW : Hid (WantAt wc.heap.size w4.heap.size q8 xs A) := bW
            have HB : Hid (Below w.heap.size w5 A) := hB
            have c7 := b7.cell
            have cR := b8.cell
            have c15 := b15.cell
            have c16 := b16.cell
            have f8 := b8.frozen
            have f16 := b16.frozen
            rw [hq8] at c15
            clear b7 b8 b15 b16 bW hB hpre r7 r8 r15 r16 rW
            cases hzb : ((pre.length : Int) == z) with
            | true =>
              have HFin : Hid (KeepsFrom w5.heap.size A (A.setCell ⟨w.heap.size + 1 + 1, 0, none⟩ (.bool true)) ∧ (OwnS (w4.heap.size + 1 + 1) A (.slice q9 k c9) xs → OwnS (w4.heap.size + 1 + 1) (A.setCell ⟨w.heap.size + 1 + 1, 0, none⟩ (.bool true)) (.slice q9 k c9) xs) ∧ ((pre ++ [y] <+: xs → Boxed (A.setCell ⟨w.heap.size + 1 + 1, 0, none⟩ (.bool true)) (w.heap.size + 1 + 1) 4 (.bool true)) ∧ Below w.heap.size w5 (A.setCell ⟨w.heap.size + 1 + 1, 0, none⟩ (.bool true)))) :=
                ⟨(KeepsOthers.setCell A _ _).from _, fun h => h.setLow (by omega) _, fun _ => H8.out.set _, HB.out.setCell (p := ⟨w.heap.size + 1 + 1, 0, none⟩) (by show _ ≤ w.heap.size + 1 + 1; omega) _⟩
              clear H7 H8 H15 H16
              gi_wp2
              exact ⟨HFin.out.1, HFin.out.2.1, ⟨rfl, HFin.out.2.2.1⟩, HFin.out.2.2.2⟩
            | false =>
              cases hyv : (y.toList == v.toList) with
              | true =>
                have HFin : Hid (KeepsFrom w5.heap.size A (A.setCell ⟨w4.heap.size + 1, 0, none⟩ (.int .i64 ((pre.length : Int) + 1))) ∧ (OwnS (w4.heap.size + 1 + 1) A (.slice q9 k c9) xs → OwnS (w4.heap.size + 1 + 1) (A.setCell ⟨w4.heap.size + 1, 0, none⟩ (.int .i64 ((pre.length : Int) + 1))) (.slice q9 k c9) xs) ∧
                    ((Boxed (A.setCell ⟨w4.heap.size + 1, 0, none⟩ (.int .i64 ((pre.length : Int) + 1))) (w.heap.size + 1) 3 (.int .i64 z) ∧ Boxed (A.setCell ⟨w4.heap.size + 1, 0, none⟩ (.int .i64 ((pre.length : Int) + 1))) (w.heap.size + 1 + 1) 4 (.bool false)) ∧ (Boxed (A.setCell ⟨w4.heap.size + 1, 0, none⟩ (.int .i64 ((pre.length : Int) + 1))) w4.heap.size 48 (.slice q8 k c8) ∧ Boxed (A.setCell ⟨w4.heap.size + 1, 0, none⟩ (.int .i64 ((pre.length : Int) + 1))) (w4.heap.size + 1) 3 (.int .i64 ((pre ++ [y]).length : Nat)))) ∧
                    (WantAt wc.heap.size w4.heap.size q8 xs (A.setCell ⟨w4.heap.size + 1, 0, none⟩ (.int .i64 ((pre.length : Int) + 1))) ∧ pre ++ [y] <+: xs) ∧ Below w.heap.size w5 (A.setCell ⟨w4.heap.size + 1, 0, none⟩ (.int .i64 ((pre.length : Int) + 1)))) := by
                  refine ⟨(KeepsOthers.setCell A _ _).from _, fun h => h.setLow (by omega) _, ⟨⟨H7.out.other (by omega) _, H8.out.other (by omega) _⟩, H15.out.other (by omega) _, ?_⟩, ⟨HW.out.set (by omega) _, HPn.out hyv⟩, HB.out.setCell (p := ⟨w4.heap.size + 1, 0, none⟩) (by show _ ≤ w4.heap.size + 1; omega) _⟩
                  rw [show (((pre ++ [y]).length : Nat) : Int) = (pre.length : Int) + 1 by simp]
                  exact H16.out.set _
                clear H7 H8 H15 H16
                gi_wp2
                exact HFin.out
              | false =>
                have HFin : Hid (KeepsFrom w5.heap.size A (A.setCell ⟨w.heap.size + 1 + 1, 0, none⟩ (.bool false)) ∧ (OwnS (w4.heap.size + 1 + 1) A (.slice q9 k c9) xs → OwnS (w4.heap.size + 1 + 1) (A.setCell ⟨w.heap.size + 1 + 1, 0, none⟩ (.bool false)) (.slice q9 k c9) xs) ∧ ((pre ++ [y] <+: xs → Boxed (A.setCell ⟨w.heap.size + 1 + 1, 0, none⟩ (.bool false)) (w.heap.size + 1 + 1) 4 (.bool true)) ∧ Below w.heap.size w5 (A.setCell ⟨w.heap.size + 1 + 1, 0, none⟩ (.bool false)))) :=
                  ⟨(KeepsOthers.setCell A _ _).from _, fun h => h.setLow (by omega) _, (fun hp => absurd (HPx.out hp) (by rw [hyv]; exact Bool.false_ne_true)), HB.out.setCell (p := ⟨w.heap.size + 1 + 1, 0, none⟩) (by show _ ≤ w.heap.size + 1 + 1; omega) _⟩
                clear H7 H8 H15 H16
                gi_wp2
                exact ⟨HFin.out.1, HFin.out.2.1, ⟨rfl, HFin.out.2.2.1⟩, HFin.out.2.2.2⟩
          case done =>
            rintro D ys A hD hys ⟨⟨⟨b7, b8⟩, b15, b16⟩, ⟨bW, hpre⟩, hB⟩ hK
            rw [hys] at b16
            have c15 := b15.cell
            have c16 := b16.cell
            have cR := b8.cell
            have f8 := b8.frozen
            have hkk : ((xs.length : Int) == (k : Int)) = true := by rw [hxl]; simp
            go_wp2
            refine ⟨by simp, .inl ⟨_, _, rfl, run_takeDeferred ((heap_setCell_other A ⟨w.heap.size + 1 + 1, 0, none⟩ D _ (by show D ≠ w.heap.size + 1 + 1; omega)).trans hK), ?_⟩⟩
            exact ⟨_, results_bool rfl rfl (Row.below (b8.set _) (below_putObj (B := w5.heap.size) _ _ (by omega)) (by omega)), rfl, (hbw5.trans (hB.setCell (p := ⟨w.heap.size + 1 + 1, 0, none⟩) (by show _ ≤ w.heap.size + 1 + 1; omega) _)).trans (below_putObj _ _ (by omega))⟩
          case stop =>
            rintro D c pre A hD hsp ⟨⟨rfl, hb⟩, hB⟩ hK
            have b8 := hb hsp
            gi_wp2
            refine ⟨by simp, .inl ⟨_, _, rfl, run_takeDeferred hK, ?_⟩⟩
            exact ⟨_, results_bool rfl rfl (Row.below b8 (below_putObj (B := w5.heap.size) _ _ (by omega)) (by omega)), rfl, (hbw5.trans hB).trans (below_putObj _ _ (by omega))⟩
end Go.Proofs.Ytlmfdifnkkdpfaa
