/-
  DirStays: the walk.
-/
import Derived.Test.YtlmfdifnkkdpfaaStayL
import Derived.Test.YtlmfdifnkkdpfaaPutsW
namespace Go.Proofs.Ytlmfdifnkkdpfaa
open Go.RowKit Go.Shelf

set_option maxRecDepth 100000 in
set_option maxHeartbeats 1000000 in
theorem dirStays_walk (p : Option Addr) (len cap : Nat) (es : List Ent) (x : Ent) (s : ByteArray) (w : World) (hI : IsEnts w.heap.size w p len cap es) (hok : x.ok) :
    Calls Try.prog 7 #[.slice p len cap, .agg (entC x).toArray, .string s] w fun e w' => e = .returned (.bool true) ∧ Below w.heap.size w w' := by
  obtain ⟨w0, hw0⟩ : ∃ w0, w.alloc (.cells (entC x).toArray 43) = w0 := ⟨_, rfl⟩
  have hb0 : Below w.heap.size w w0 := by rw [← hw0]; exact (Below.refl _ w).alloc (Nat.le_refl _) _
  have HE0 : Hid (EntAt w0 w.heap.size x) := by rw [← hw0]; exact EntAt.new w x hok
  have HW0 : Hid (w.alloc (.cells (entC x).toArray 43) = w0) := hw0
  have HI : Hid (IsEnts w.heap.size w p len cap es) := hI
  have HL : Hid (es.length = len) := hI.1
  have HX : Hid x.ok := hok
  have HA := awake_any w0
  clear hw0 hI hok
  cases hf : fewB es with
  | false =>
    go_enter Try.func7, Try.ntmps7
    go_wp2_with (first
      | (go_at_call 8; rw [HW0.out]; refine HA.mono ?_; rintro e w1 ⟨rfl, hb1⟩)
      | (go_at_call 9; refine (few_any p len cap es w1 ((HI.out.later hb0).later hb1)).mono ?_; rintro e w2 ⟨rfl, hb2⟩; rw [hf]))
    go_ret
    exact ⟨rfl, hb0.trans ((hb1.trans (hb2.mono hb1.size)).mono hb0.size)⟩
  | true =>
    by_cases h1 : 200 < x.name.size
    · have h1i : (200 : Int) < (x.name.size : Int) := by omega
      go_enter Try.func7, Try.ntmps7
      go_wp2_with (first
        | (go_at_call 8; rw [HW0.out]; refine HA.mono ?_; rintro e w1 ⟨rfl, hb1⟩)
        | (go_at_call 9; refine (few_any p len cap es w1 ((HI.out.later hb0).later hb1)).mono ?_; rintro e w2 ⟨rfl, hb2⟩; rw [hf]; have HB2 : Hid (Below w0.heap.size w0 w2) := hb1.trans (hb2.mono hb1.size); have hcN2 := (HE0.out.later HB2.out).name; clear hb1 hb2))
      go_ret
      exact ⟨rfl, hb0.trans (HB2.out.mono hb0.size)⟩
    have h1i : ¬ (200 : Int) < (x.name.size : Int) := by omega
    by_cases h2 : 200 < s.size
    · have h2i : (200 : Int) < (s.size : Int) := by omega
      go_enter Try.func7, Try.ntmps7
      go_wp2_with (first
        | (go_at_call 8; rw [HW0.out]; refine HA.mono ?_; rintro e w1 ⟨rfl, hb1⟩)
        | (go_at_call 9; refine (few_any p len cap es w1 ((HI.out.later hb0).later hb1)).mono ?_; rintro e w2 ⟨rfl, hb2⟩; rw [hf]; have HB2 : Hid (Below w0.heap.size w0 w2) := hb1.trans (hb2.mono hb1.size); have hcN2 := (HE0.out.later HB2.out).name; clear hb1 hb2))
      go_ret
      exact ⟨rfl, hb0.trans (HB2.out.mono hb0.size)⟩
    have h2i : ¬ (200 : Int) < (s.size : Int) := by omega
    have HN : Hid (∀ e ∈ es, e.name.size ≤ 1000000) := fun e he => by have := few_name hf e he; omega
    cases hg : goodE es with
    | false =>
      have HG : Hid (refGoodE es = false) := (refGood_eq es).trans hg
      go_enter Try.func7, Try.ntmps7
      go_wp2_with (first
        | (go_at_call 8; rw [HW0.out]; refine HA.mono ?_; rintro e w1 ⟨rfl, hb1⟩)
        | (go_at_call 9; refine (few_any p len cap es w1 ((HI.out.later hb0).later hb1)).mono ?_; rintro e w2 ⟨rfl, hb2⟩; rw [hf]; have HB2 : Hid (Below w0.heap.size w0 w2) := hb1.trans (hb2.mono hb1.size); have hcN2 := (HE0.out.later HB2.out).name; clear hb1 hb2)
        | (go_at_call 13; have hdone := HB2.out; refine (refGoodDir_any p len cap es w2 ((HI.out.later hb0).later HB2.out) HN.out).mono ?_; rintro e w3 ⟨rfl, hb3⟩; rw [HG.out]; have HB3 : Hid (Below w0.heap.size w0 w3) := HB2.out.trans (hb3.mono HB2.out.size); have hcN3 := (HE0.out.later HB3.out).name; have hcK3 := (HE0.out.later HB3.out).kind; clear hdone hb3))
      go_ret
      exact ⟨rfl, hb0.trans (HB3.out.mono hb0.size)⟩
    | true =>
      have HG : Hid (refGoodE es = true) := (refGood_eq es).trans hg
      have hlen40 := few_len hf
      have hlen : len ≤ 100000 := by have := HL.out; omega
      have HNs : Hid (∀ e ∈ filt (fun x => nameB x s) es, e.name.size ≤ 1000000) := fun e he => HN.out e (List.mem_filter.1 he).1
      have HGs : Hid (goodE (filt (fun x => nameB x s) es) = true) := good_filt _ hg
      have HNx : Hid (∀ e ∈ withL x es, e.name.size ≤ 1000000) := fun e he => by
        rcases insE_mem he with rfl | he
        · omega
        · exact HN.out e (List.mem_filter.1 he).1
      have HGx : Hid (goodE (withL x es) = mayB x) := good_with x hg (by omega)
      obtain ⟨hany, k, hk, hkl, hget⟩ := find_with x es
      have HFind : Hid (∀ W q l, IsEnts W.heap.size W q l l (withL x es) → Calls Try.prog 21 #[.slice q l l, .string x.name] W fun e w' => e = .returned (.tuple #[.int .i64 (k : Nat), .bool true]) ∧ Below W.heap.size W w') := fun W q l h => by
        have := find_any q l l (withL x es) x.name W h
        rwa [hk, hany] at this
      have HWith : Hid (∀ W, Below w0.heap.size w0 W → Calls Try.prog 17 #[.slice p len cap, .agg (entC x).toArray] W fun e w' => ∃ b off l, e = .returned (.slice (some ⟨b, off, none⟩) l l) ∧ (k : Int) < (l : Int) ∧ IsEnts w'.heap.size w' (some ⟨b, off, none⟩) l l (withL x es) ∧ w'.rangeAt b (off + k * 100) (entC x) ∧ b < w'.heap.size ∧ Below W.heap.size W w') := fun W hW => by
        refine (with_any p len cap es x HX.out (by omega) W ((HI.out.later hb0).later hW) HN.out hlen).mono ?_
        rintro e w' ⟨q, l, rfl, hE, hb⟩
        have hl := hE.1
        obtain ⟨b, off, rfl, hbl, hrg, _, _⟩ := hE.at (show k < l by omega)
        rw [hget] at hrg
        exact ⟨b, off, l, rfl, by omega, hE, hrg, hbl, hb⟩
      have HRg := fun W => refGood_any x.name (by omega) W
      have hM : mayB x = (kindB x.kind && goodL (bytesOf x.name)) := rfl
      have hq := equal43 HX.out (by simp only [maxLen]; omega)
      have hxk : -9223372036854775808 ≤ x.kind ∧ x.kind ≤ 9223372036854775807 := by have := HX.out; simp only [Ent.ok] at this; omega
      clear hany hk hget hkl
      generalize withL x es = Lx at *
      cases hgn : goodL (bytesOf x.name) with
      | false =>
        have hmay : mayB x = false := by rw [hM, hgn, Bool.and_false]
        clear hM
        go_enter Try.func7, Try.ntmps7
        go_wp2_with (first
          | (go_at_call 8; rw [HW0.out]; refine HA.mono ?_; rintro e w1 ⟨rfl, hb1⟩)
          | (go_at_call 9; refine (few_any p len cap es w1 ((HI.out.later hb0).later hb1)).mono ?_; rintro e w2 ⟨rfl, hb2⟩; rw [hf]; have HB2 : Hid (Below w0.heap.size w0 w2) := hb1.trans (hb2.mono hb1.size); have hcN2 := (HE0.out.later HB2.out).name; clear hb1 hb2)
          | (go_at_call 13; have hdone := HB2.out; refine (refGoodDir_any p len cap es w2 ((HI.out.later hb0).later HB2.out) HN.out).mono ?_; rintro e w3 ⟨rfl, hb3⟩; rw [HG.out]; have HB3 : Hid (Below w0.heap.size w0 w3) := HB2.out.trans (hb3.mono HB2.out.size); have hcN3 := (HE0.out.later HB3.out).name; have hcK3 := (HE0.out.later HB3.out).kind; clear hdone hb3)
          | (go_at_call 29; refine (HRg _).mono ?_; rintro e w4 ⟨rfl, hw4⟩; obtain rfl : w3 = w4 := hw4.symm; clear hw4; rw [hgn])
          | ((with_reducible show wpList _ _ _ (Oper.mk (some 51) (Op.load 43 (.tmp 4)) _ _ _ _ :: _) _ _); refine wpList_loadEnt rfl (.tmp 4) rfl rfl HX.out (HE0.out.later HB3.out).row.range ?_; simp only [Act.put, List.setIfInBounds_toArray, List.set_cons_zero, List.set_cons_succ])
          | (go_at_call 17; have hdone := HB3.out; refine (HWith.out w3 HB3.out).mono ?_; rintro e w5 ⟨b5, off5, l5, rfl, hk5, hE5, hrg5, hbl5, hb5⟩; have HE5 : Hid (IsEnts w5.heap.size w5 (some ⟨b5, off5, none⟩) l5 l5 Lx) := hE5; have HRg5 : Hid (w5.rangeAt b5 (off5 + k * 100) (entC x)) := hrg5; have HB5 : Hid (Below w0.heap.size w0 w5) := HB3.out.trans (hb5.mono HB3.out.size); have hcN5 := (HE0.out.later HB5.out).name; have hl63 := hE5.2.2.1; clear hdone hE5 hrg5 hb5)
          | (go_at_call 21; have hdone := HB5.out; refine (HFind.out w5 _ l5 HE5.out).mono ?_; rintro e w6 ⟨rfl, hb6⟩; have HE6 : Hid (IsEnts w6.heap.size w6 (some ⟨b5, off5, none⟩) l5 l5 Lx) := HE5.out.later hb6; have HRg6 : Hid (w6.rangeAt b5 (off5 + k * 100) (entC x)) := rangeAt_below hb6 hbl5 HRg5.out; have HB6 : Hid (Below w0.heap.size w0 w6) := HB5.out.trans (hb6.mono HB5.out.size); have hl6 : b5 < w6.heap.size := Nat.lt_of_lt_of_le hbl5 hb6.size; clear hdone hb6 HB5 HE5 HRg5)
          | (go_at_call 19; have hdone := HB6.out; refine (withoutD_any p len cap es s w6 ((HI.out.later hb0).later HB6.out) HN.out hlen).mono ?_; rintro e w7 ⟨q7, l7, rfl, hE7, hb7⟩; have HE7 : Hid (IsEnts w7.heap.size w7 q7 l7 l7 (filt (fun x => nameB x s) es)) := hE7; have HX7 : Hid (IsEnts w7.heap.size w7 (some ⟨b5, off5, none⟩) l5 l5 Lx) := HE6.out.later hb7; have HRg7 : Hid (w7.rangeAt b5 (off5 + k * 100) (entC x)) := rangeAt_below hb7 hl6 HRg6.out; have HB7 : Hid (Below w0.heap.size w0 w7) := HB6.out.trans (hb7.mono HB6.out.size); have hl7 : b5 < w7.heap.size := Nat.lt_of_lt_of_le hl6 hb7.size; clear hdone hE7 hb7 HB6 HE6 HRg6)
          | (go_at_call 12; have hdone := HE7.out; refine (dgood_any q7 l7 l7 (filt (fun x => nameB x s) es) w7 HE7.out HNs.out).mono ?_; rintro e w8 ⟨rfl, hb8⟩; rw [HGs.out]; have HX8 : Hid (IsEnts w8.heap.size w8 (some ⟨b5, off5, none⟩) l5 l5 Lx) := HX7.out.later hb8; have HRg8 : Hid (w8.rangeAt b5 (off5 + k * 100) (entC x)) := rangeAt_below hb8 hl7 HRg7.out; have HB8 : Hid (Below w0.heap.size w0 w8) := HB7.out.trans (hb8.mono HB7.out.size); have hl8 : b5 < w8.heap.size := Nat.lt_of_lt_of_le hl7 hb8.size; clear hdone hb8 HB7 HE7 HX7 HRg7)
          | (go_at_call 12; have hdone := HX8.out; refine (dgood_any _ l5 l5 Lx w8 HX8.out HNx.out).mono ?_; rintro e w9 ⟨rfl, hb9⟩; rw [HGx.out, hmay]; have HRg9 : Hid (w9.rangeAt b5 (off5 + k * 100) (entC x)) := rangeAt_below hb9 hl8 HRg8.out; have HB9 : Hid (Below w0.heap.size w0 w9) := HB8.out.trans (hb9.mono HB8.out.size); have hl9 : b5 < w9.heap.size := Nat.lt_of_lt_of_le hl8 hb9.size; clear hdone hb9 HB8 HX8 HRg8))
        refine wp_region_held_drew (S := fun W => Below w9.heap.size w9 W) (by kernel_rfl) (Below.refl _ _).drew (fun hHeld => ?_)
        refine wpAnyH_takesAt 0 5 5 (of_decide_eq_true (by kernel_rfl)) rfl (fun _ _ _ d _ h => by cases d <;> exact h) (by kernel_rfl) (by kernel_rfl) hHeld ?_
        simp only [List.drop_zero, List.take_succ_cons, List.take_zero]
        iterate 5 (refine wpHeld_step (v := ?_) (by rfl) (fun wz hSw => ?_) ?_; rotate_left; (focus ((try dsimp only at hSw); go_simp; try with_reducible rfl)); (simp only [Act.put, List.setIfInBounds_toArray, List.set_cons_zero, List.set_cons_succ]))
        refine wpHeld_nil ?_
        refine wpAnyH_takesAt 5 1 4 (of_decide_eq_true (by kernel_rfl)) rfl (fun _ _ _ d _ h => by cases d <;> exact h) (by kernel_rfl) (by kernel_rfl) hHeld ?_
        simp only [List.drop_succ_cons, List.drop_zero, List.take_succ_cons, List.take_zero]
        refine wpHeld_loadE (by rfl) (.tmp 75) rfl b5 (off5 + k * 100) rfl (entC x) (fun W hW => rangeAt_below hW hl9 HRg9.out) (size43' HX.out) ?_
        (simp only [Act.put]; (try simp only [List.setIfInBounds_toArray]); (try simp only [List.set_cons_succ]); (try simp only [List.set_cons_zero]))
        refine wpHeld_nil ?_
        refine wpAnyH_takesAt 6 1 3 (of_decide_eq_true (by kernel_rfl)) rfl (fun _ _ _ d _ h => by cases d <;> exact h) (by kernel_rfl) (by kernel_rfl) hHeld ?_
        simp only [List.drop_succ_cons, List.drop_zero, List.take_succ_cons, List.take_zero]
        refine wpHeld_loadE (by rfl) (.tmp 4) rfl w.heap.size (0) rfl (entC x) (fun W hW => ((HE0.out.later HB9.out).later hW).row.range) (size43' HX.out) ?_
        (simp only [Act.put]; (try simp only [List.setIfInBounds_toArray]); (try simp only [List.set_cons_succ]); (try simp only [List.set_cons_zero]))
        refine wpHeld_nil ?_
        refine wpAnyH_takesAt 7 3 0 (of_decide_eq_true (by kernel_rfl)) rfl (fun _ _ _ d _ h => by cases d <;> exact h) (by kernel_rfl) (by kernel_rfl) hHeld ?_
        simp only [List.drop_succ_cons, List.drop_zero, List.take_succ_cons, List.take_zero]
        iterate 3 (refine wpHeld_step (v := ?_) (by rfl) (fun wz hSw => ?_) ?_; rotate_left; (focus ((try dsimp only at hSw); go_simp; try with_reducible rfl)); (simp only [Act.put, List.setIfInBounds_toArray, List.set_cons_zero, List.set_cons_succ]))
        refine wpHeld_nil ?_
        refine wpAnyH_done (by kernel_rfl) ?_ _
        go_wp2
        go_ret
        exact ⟨rfl, hb0.trans ((HB9.out.drew).mono hb0.size)⟩
      | true =>
        by_cases k1 : x.kind = 1
        · have hmay : mayB x = true := by rw [hM, hgn, k1]; rfl
          clear hM
          go_enter Try.func7, Try.ntmps7
          go_wp2_with (first
            | (go_at_call 8; rw [HW0.out]; refine HA.mono ?_; rintro e w1 ⟨rfl, hb1⟩)
            | (go_at_call 9; refine (few_any p len cap es w1 ((HI.out.later hb0).later hb1)).mono ?_; rintro e w2 ⟨rfl, hb2⟩; rw [hf]; have HB2 : Hid (Below w0.heap.size w0 w2) := hb1.trans (hb2.mono hb1.size); have hcN2 := (HE0.out.later HB2.out).name; clear hb1 hb2)
            | (go_at_call 13; have hdone := HB2.out; refine (refGoodDir_any p len cap es w2 ((HI.out.later hb0).later HB2.out) HN.out).mono ?_; rintro e w3 ⟨rfl, hb3⟩; rw [HG.out]; have HB3 : Hid (Below w0.heap.size w0 w3) := HB2.out.trans (hb3.mono HB2.out.size); have hcN3 := (HE0.out.later HB3.out).name; have hcK3 := (HE0.out.later HB3.out).kind; clear hdone hb3)
            | (go_at_call 29; refine (HRg _).mono ?_; rintro e w4 ⟨rfl, hw4⟩; obtain rfl : w3 = w4 := hw4.symm; clear hw4; rw [hgn])
            | ((with_reducible show wpList _ _ _ (Oper.mk (some 51) (Op.load 43 (.tmp 4)) _ _ _ _ :: _) _ _); refine wpList_loadEnt rfl (.tmp 4) rfl rfl HX.out (HE0.out.later HB3.out).row.range ?_; simp only [Act.put, List.setIfInBounds_toArray, List.set_cons_zero, List.set_cons_succ])
            | (go_at_call 17; have hdone := HB3.out; refine (HWith.out w3 HB3.out).mono ?_; rintro e w5 ⟨b5, off5, l5, rfl, hk5, hE5, hrg5, hbl5, hb5⟩; have HE5 : Hid (IsEnts w5.heap.size w5 (some ⟨b5, off5, none⟩) l5 l5 Lx) := hE5; have HRg5 : Hid (w5.rangeAt b5 (off5 + k * 100) (entC x)) := hrg5; have HB5 : Hid (Below w0.heap.size w0 w5) := HB3.out.trans (hb5.mono HB3.out.size); have hcN5 := (HE0.out.later HB5.out).name; have hl63 := hE5.2.2.1; clear hdone hE5 hrg5 hb5)
            | (go_at_call 21; have hdone := HB5.out; refine (HFind.out w5 _ l5 HE5.out).mono ?_; rintro e w6 ⟨rfl, hb6⟩; have HE6 : Hid (IsEnts w6.heap.size w6 (some ⟨b5, off5, none⟩) l5 l5 Lx) := HE5.out.later hb6; have HRg6 : Hid (w6.rangeAt b5 (off5 + k * 100) (entC x)) := rangeAt_below hb6 hbl5 HRg5.out; have HB6 : Hid (Below w0.heap.size w0 w6) := HB5.out.trans (hb6.mono HB5.out.size); have hl6 : b5 < w6.heap.size := Nat.lt_of_lt_of_le hbl5 hb6.size; clear hdone hb6 HB5 HE5 HRg5)
            | (go_at_call 19; have hdone := HB6.out; refine (withoutD_any p len cap es s w6 ((HI.out.later hb0).later HB6.out) HN.out hlen).mono ?_; rintro e w7 ⟨q7, l7, rfl, hE7, hb7⟩; have HE7 : Hid (IsEnts w7.heap.size w7 q7 l7 l7 (filt (fun x => nameB x s) es)) := hE7; have HX7 : Hid (IsEnts w7.heap.size w7 (some ⟨b5, off5, none⟩) l5 l5 Lx) := HE6.out.later hb7; have HRg7 : Hid (w7.rangeAt b5 (off5 + k * 100) (entC x)) := rangeAt_below hb7 hl6 HRg6.out; have HB7 : Hid (Below w0.heap.size w0 w7) := HB6.out.trans (hb7.mono HB6.out.size); have hl7 : b5 < w7.heap.size := Nat.lt_of_lt_of_le hl6 hb7.size; clear hdone hE7 hb7 HB6 HE6 HRg6)
            | (go_at_call 12; have hdone := HE7.out; refine (dgood_any q7 l7 l7 (filt (fun x => nameB x s) es) w7 HE7.out HNs.out).mono ?_; rintro e w8 ⟨rfl, hb8⟩; rw [HGs.out]; have HX8 : Hid (IsEnts w8.heap.size w8 (some ⟨b5, off5, none⟩) l5 l5 Lx) := HX7.out.later hb8; have HRg8 : Hid (w8.rangeAt b5 (off5 + k * 100) (entC x)) := rangeAt_below hb8 hl7 HRg7.out; have HB8 : Hid (Below w0.heap.size w0 w8) := HB7.out.trans (hb8.mono HB7.out.size); have hl8 : b5 < w8.heap.size := Nat.lt_of_lt_of_le hl7 hb8.size; clear hdone hb8 HB7 HE7 HX7 HRg7)
            | (go_at_call 12; have hdone := HX8.out; refine (dgood_any _ l5 l5 Lx w8 HX8.out HNx.out).mono ?_; rintro e w9 ⟨rfl, hb9⟩; rw [HGx.out, hmay]; have HRg9 : Hid (w9.rangeAt b5 (off5 + k * 100) (entC x)) := rangeAt_below hb9 hl8 HRg8.out; have HB9 : Hid (Below w0.heap.size w0 w9) := HB8.out.trans (hb9.mono HB8.out.size); have hl9 : b5 < w9.heap.size := Nat.lt_of_lt_of_le hl8 hb9.size; clear hdone hb9 HB8 HX8 HRg8))
          refine wp_region_held_drew (S := fun W => Below w9.heap.size w9 W) (by kernel_rfl) (Below.refl _ _).drew (fun hHeld => ?_)
          refine wpAnyH_takesAt 0 5 5 (of_decide_eq_true (by kernel_rfl)) rfl (fun _ _ _ d _ h => by cases d <;> exact h) (by kernel_rfl) (by kernel_rfl) hHeld ?_
          simp only [List.drop_zero, List.take_succ_cons, List.take_zero]
          iterate 5 (refine wpHeld_step (v := ?_) (by rfl) (fun wz hSw => ?_) ?_; rotate_left; (focus ((try dsimp only at hSw); go_simp; try with_reducible rfl)); (simp only [Act.put, List.setIfInBounds_toArray, List.set_cons_zero, List.set_cons_succ]))
          refine wpHeld_nil ?_
          refine wpAnyH_takesAt 5 1 4 (of_decide_eq_true (by kernel_rfl)) rfl (fun _ _ _ d _ h => by cases d <;> exact h) (by kernel_rfl) (by kernel_rfl) hHeld ?_
          simp only [List.drop_succ_cons, List.drop_zero, List.take_succ_cons, List.take_zero]
          refine wpHeld_loadE (by rfl) (.tmp 75) rfl b5 (off5 + k * 100) rfl (entC x) (fun W hW => rangeAt_below hW hl9 HRg9.out) (size43' HX.out) ?_
          (simp only [Act.put]; (try simp only [List.setIfInBounds_toArray]); (try simp only [List.set_cons_succ]); (try simp only [List.set_cons_zero]))
          refine wpHeld_nil ?_
          refine wpAnyH_takesAt 6 1 3 (of_decide_eq_true (by kernel_rfl)) rfl (fun _ _ _ d _ h => by cases d <;> exact h) (by kernel_rfl) (by kernel_rfl) hHeld ?_
          simp only [List.drop_succ_cons, List.drop_zero, List.take_succ_cons, List.take_zero]
          refine wpHeld_loadE (by rfl) (.tmp 4) rfl w.heap.size (0) rfl (entC x) (fun W hW => ((HE0.out.later HB9.out).later hW).row.range) (size43' HX.out) ?_
          (simp only [Act.put]; (try simp only [List.setIfInBounds_toArray]); (try simp only [List.set_cons_succ]); (try simp only [List.set_cons_zero]))
          refine wpHeld_nil ?_
          refine wpAnyH_takesAt 7 3 0 (of_decide_eq_true (by kernel_rfl)) rfl (fun _ _ _ d _ h => by cases d <;> exact h) (by kernel_rfl) (by kernel_rfl) hHeld ?_
          simp only [List.drop_succ_cons, List.drop_zero, List.take_succ_cons, List.take_zero]
          iterate 3 (refine wpHeld_step (v := ?_) (by rfl) (fun wz hSw => ?_) ?_; rotate_left; (focus ((try dsimp only at hSw); go_simp; try with_reducible rfl)); (simp only [Act.put, List.setIfInBounds_toArray, List.set_cons_zero, List.set_cons_succ]))
          refine wpHeld_nil ?_
          refine wpAnyH_done (by kernel_rfl) ?_ _
          go_wp2
          go_ret
          exact ⟨rfl, hb0.trans ((HB9.out.drew).mono hb0.size)⟩
        by_cases k2 : x.kind = 2
        · have hmay : mayB x = true := by rw [hM, hgn, k2]; rfl
          clear hM
          go_enter Try.func7, Try.ntmps7
          go_wp2_with (first
            | (go_at_call 8; rw [HW0.out]; refine HA.mono ?_; rintro e w1 ⟨rfl, hb1⟩)
            | (go_at_call 9; refine (few_any p len cap es w1 ((HI.out.later hb0).later hb1)).mono ?_; rintro e w2 ⟨rfl, hb2⟩; rw [hf]; have HB2 : Hid (Below w0.heap.size w0 w2) := hb1.trans (hb2.mono hb1.size); have hcN2 := (HE0.out.later HB2.out).name; clear hb1 hb2)
            | (go_at_call 13; have hdone := HB2.out; refine (refGoodDir_any p len cap es w2 ((HI.out.later hb0).later HB2.out) HN.out).mono ?_; rintro e w3 ⟨rfl, hb3⟩; rw [HG.out]; have HB3 : Hid (Below w0.heap.size w0 w3) := HB2.out.trans (hb3.mono HB2.out.size); have hcN3 := (HE0.out.later HB3.out).name; have hcK3 := (HE0.out.later HB3.out).kind; clear hdone hb3)
            | (go_at_call 29; refine (HRg _).mono ?_; rintro e w4 ⟨rfl, hw4⟩; obtain rfl : w3 = w4 := hw4.symm; clear hw4; rw [hgn])
            | ((with_reducible show wpList _ _ _ (Oper.mk (some 51) (Op.load 43 (.tmp 4)) _ _ _ _ :: _) _ _); refine wpList_loadEnt rfl (.tmp 4) rfl rfl HX.out (HE0.out.later HB3.out).row.range ?_; simp only [Act.put, List.setIfInBounds_toArray, List.set_cons_zero, List.set_cons_succ])
            | (go_at_call 17; have hdone := HB3.out; refine (HWith.out w3 HB3.out).mono ?_; rintro e w5 ⟨b5, off5, l5, rfl, hk5, hE5, hrg5, hbl5, hb5⟩; have HE5 : Hid (IsEnts w5.heap.size w5 (some ⟨b5, off5, none⟩) l5 l5 Lx) := hE5; have HRg5 : Hid (w5.rangeAt b5 (off5 + k * 100) (entC x)) := hrg5; have HB5 : Hid (Below w0.heap.size w0 w5) := HB3.out.trans (hb5.mono HB3.out.size); have hcN5 := (HE0.out.later HB5.out).name; have hl63 := hE5.2.2.1; clear hdone hE5 hrg5 hb5)
            | (go_at_call 21; have hdone := HB5.out; refine (HFind.out w5 _ l5 HE5.out).mono ?_; rintro e w6 ⟨rfl, hb6⟩; have HE6 : Hid (IsEnts w6.heap.size w6 (some ⟨b5, off5, none⟩) l5 l5 Lx) := HE5.out.later hb6; have HRg6 : Hid (w6.rangeAt b5 (off5 + k * 100) (entC x)) := rangeAt_below hb6 hbl5 HRg5.out; have HB6 : Hid (Below w0.heap.size w0 w6) := HB5.out.trans (hb6.mono HB5.out.size); have hl6 : b5 < w6.heap.size := Nat.lt_of_lt_of_le hbl5 hb6.size; clear hdone hb6 HB5 HE5 HRg5)
            | (go_at_call 19; have hdone := HB6.out; refine (withoutD_any p len cap es s w6 ((HI.out.later hb0).later HB6.out) HN.out hlen).mono ?_; rintro e w7 ⟨q7, l7, rfl, hE7, hb7⟩; have HE7 : Hid (IsEnts w7.heap.size w7 q7 l7 l7 (filt (fun x => nameB x s) es)) := hE7; have HX7 : Hid (IsEnts w7.heap.size w7 (some ⟨b5, off5, none⟩) l5 l5 Lx) := HE6.out.later hb7; have HRg7 : Hid (w7.rangeAt b5 (off5 + k * 100) (entC x)) := rangeAt_below hb7 hl6 HRg6.out; have HB7 : Hid (Below w0.heap.size w0 w7) := HB6.out.trans (hb7.mono HB6.out.size); have hl7 : b5 < w7.heap.size := Nat.lt_of_lt_of_le hl6 hb7.size; clear hdone hE7 hb7 HB6 HE6 HRg6)
            | (go_at_call 12; have hdone := HE7.out; refine (dgood_any q7 l7 l7 (filt (fun x => nameB x s) es) w7 HE7.out HNs.out).mono ?_; rintro e w8 ⟨rfl, hb8⟩; rw [HGs.out]; have HX8 : Hid (IsEnts w8.heap.size w8 (some ⟨b5, off5, none⟩) l5 l5 Lx) := HX7.out.later hb8; have HRg8 : Hid (w8.rangeAt b5 (off5 + k * 100) (entC x)) := rangeAt_below hb8 hl7 HRg7.out; have HB8 : Hid (Below w0.heap.size w0 w8) := HB7.out.trans (hb8.mono HB7.out.size); have hl8 : b5 < w8.heap.size := Nat.lt_of_lt_of_le hl7 hb8.size; clear hdone hb8 HB7 HE7 HX7 HRg7)
            | (go_at_call 12; have hdone := HX8.out; refine (dgood_any _ l5 l5 Lx w8 HX8.out HNx.out).mono ?_; rintro e w9 ⟨rfl, hb9⟩; rw [HGx.out, hmay]; have HRg9 : Hid (w9.rangeAt b5 (off5 + k * 100) (entC x)) := rangeAt_below hb9 hl8 HRg8.out; have HB9 : Hid (Below w0.heap.size w0 w9) := HB8.out.trans (hb9.mono HB8.out.size); have hl9 : b5 < w9.heap.size := Nat.lt_of_lt_of_le hl8 hb9.size; clear hdone hb9 HB8 HX8 HRg8))
          refine wp_region_held_drew (S := fun W => Below w9.heap.size w9 W) (by kernel_rfl) (Below.refl _ _).drew (fun hHeld => ?_)
          refine wpAnyH_takesAt 0 5 5 (of_decide_eq_true (by kernel_rfl)) rfl (fun _ _ _ d _ h => by cases d <;> exact h) (by kernel_rfl) (by kernel_rfl) hHeld ?_
          simp only [List.drop_zero, List.take_succ_cons, List.take_zero]
          iterate 5 (refine wpHeld_step (v := ?_) (by rfl) (fun wz hSw => ?_) ?_; rotate_left; (focus ((try dsimp only at hSw); go_simp; try with_reducible rfl)); (simp only [Act.put, List.setIfInBounds_toArray, List.set_cons_zero, List.set_cons_succ]))
          refine wpHeld_nil ?_
          refine wpAnyH_takesAt 5 1 4 (of_decide_eq_true (by kernel_rfl)) rfl (fun _ _ _ d _ h => by cases d <;> exact h) (by kernel_rfl) (by kernel_rfl) hHeld ?_
          simp only [List.drop_succ_cons, List.drop_zero, List.take_succ_cons, List.take_zero]
          refine wpHeld_loadE (by rfl) (.tmp 75) rfl b5 (off5 + k * 100) rfl (entC x) (fun W hW => rangeAt_below hW hl9 HRg9.out) (size43' HX.out) ?_
          (simp only [Act.put]; (try simp only [List.setIfInBounds_toArray]); (try simp only [List.set_cons_succ]); (try simp only [List.set_cons_zero]))
          refine wpHeld_nil ?_
          refine wpAnyH_takesAt 6 1 3 (of_decide_eq_true (by kernel_rfl)) rfl (fun _ _ _ d _ h => by cases d <;> exact h) (by kernel_rfl) (by kernel_rfl) hHeld ?_
          simp only [List.drop_succ_cons, List.drop_zero, List.take_succ_cons, List.take_zero]
          refine wpHeld_loadE (by rfl) (.tmp 4) rfl w.heap.size (0) rfl (entC x) (fun W hW => ((HE0.out.later HB9.out).later hW).row.range) (size43' HX.out) ?_
          (simp only [Act.put]; (try simp only [List.setIfInBounds_toArray]); (try simp only [List.set_cons_succ]); (try simp only [List.set_cons_zero]))
          refine wpHeld_nil ?_
          refine wpAnyH_takesAt 7 3 0 (of_decide_eq_true (by kernel_rfl)) rfl (fun _ _ _ d _ h => by cases d <;> exact h) (by kernel_rfl) (by kernel_rfl) hHeld ?_
          simp only [List.drop_succ_cons, List.drop_zero, List.take_succ_cons, List.take_zero]
          iterate 3 (refine wpHeld_step (v := ?_) (by rfl) (fun wz hSw => ?_) ?_; rotate_left; (focus ((try dsimp only at hSw); go_simp; try with_reducible rfl)); (simp only [Act.put, List.setIfInBounds_toArray, List.set_cons_zero, List.set_cons_succ]))
          refine wpHeld_nil ?_
          refine wpAnyH_done (by kernel_rfl) ?_ _
          go_wp2
          go_ret
          exact ⟨rfl, hb0.trans ((HB9.out.drew).mono hb0.size)⟩
        by_cases k4 : x.kind = 4
        · have hmay : mayB x = true := by rw [hM, hgn, k4]; rfl
          clear hM
          go_enter Try.func7, Try.ntmps7
          go_wp2_with (first
            | (go_at_call 8; rw [HW0.out]; refine HA.mono ?_; rintro e w1 ⟨rfl, hb1⟩)
            | (go_at_call 9; refine (few_any p len cap es w1 ((HI.out.later hb0).later hb1)).mono ?_; rintro e w2 ⟨rfl, hb2⟩; rw [hf]; have HB2 : Hid (Below w0.heap.size w0 w2) := hb1.trans (hb2.mono hb1.size); have hcN2 := (HE0.out.later HB2.out).name; clear hb1 hb2)
            | (go_at_call 13; have hdone := HB2.out; refine (refGoodDir_any p len cap es w2 ((HI.out.later hb0).later HB2.out) HN.out).mono ?_; rintro e w3 ⟨rfl, hb3⟩; rw [HG.out]; have HB3 : Hid (Below w0.heap.size w0 w3) := HB2.out.trans (hb3.mono HB2.out.size); have hcN3 := (HE0.out.later HB3.out).name; have hcK3 := (HE0.out.later HB3.out).kind; clear hdone hb3)
            | (go_at_call 29; refine (HRg _).mono ?_; rintro e w4 ⟨rfl, hw4⟩; obtain rfl : w3 = w4 := hw4.symm; clear hw4; rw [hgn])
            | ((with_reducible show wpList _ _ _ (Oper.mk (some 51) (Op.load 43 (.tmp 4)) _ _ _ _ :: _) _ _); refine wpList_loadEnt rfl (.tmp 4) rfl rfl HX.out (HE0.out.later HB3.out).row.range ?_; simp only [Act.put, List.setIfInBounds_toArray, List.set_cons_zero, List.set_cons_succ])
            | (go_at_call 17; have hdone := HB3.out; refine (HWith.out w3 HB3.out).mono ?_; rintro e w5 ⟨b5, off5, l5, rfl, hk5, hE5, hrg5, hbl5, hb5⟩; have HE5 : Hid (IsEnts w5.heap.size w5 (some ⟨b5, off5, none⟩) l5 l5 Lx) := hE5; have HRg5 : Hid (w5.rangeAt b5 (off5 + k * 100) (entC x)) := hrg5; have HB5 : Hid (Below w0.heap.size w0 w5) := HB3.out.trans (hb5.mono HB3.out.size); have hcN5 := (HE0.out.later HB5.out).name; have hl63 := hE5.2.2.1; clear hdone hE5 hrg5 hb5)
            | (go_at_call 21; have hdone := HB5.out; refine (HFind.out w5 _ l5 HE5.out).mono ?_; rintro e w6 ⟨rfl, hb6⟩; have HE6 : Hid (IsEnts w6.heap.size w6 (some ⟨b5, off5, none⟩) l5 l5 Lx) := HE5.out.later hb6; have HRg6 : Hid (w6.rangeAt b5 (off5 + k * 100) (entC x)) := rangeAt_below hb6 hbl5 HRg5.out; have HB6 : Hid (Below w0.heap.size w0 w6) := HB5.out.trans (hb6.mono HB5.out.size); have hl6 : b5 < w6.heap.size := Nat.lt_of_lt_of_le hbl5 hb6.size; clear hdone hb6 HB5 HE5 HRg5)
            | (go_at_call 19; have hdone := HB6.out; refine (withoutD_any p len cap es s w6 ((HI.out.later hb0).later HB6.out) HN.out hlen).mono ?_; rintro e w7 ⟨q7, l7, rfl, hE7, hb7⟩; have HE7 : Hid (IsEnts w7.heap.size w7 q7 l7 l7 (filt (fun x => nameB x s) es)) := hE7; have HX7 : Hid (IsEnts w7.heap.size w7 (some ⟨b5, off5, none⟩) l5 l5 Lx) := HE6.out.later hb7; have HRg7 : Hid (w7.rangeAt b5 (off5 + k * 100) (entC x)) := rangeAt_below hb7 hl6 HRg6.out; have HB7 : Hid (Below w0.heap.size w0 w7) := HB6.out.trans (hb7.mono HB6.out.size); have hl7 : b5 < w7.heap.size := Nat.lt_of_lt_of_le hl6 hb7.size; clear hdone hE7 hb7 HB6 HE6 HRg6)
            | (go_at_call 12; have hdone := HE7.out; refine (dgood_any q7 l7 l7 (filt (fun x => nameB x s) es) w7 HE7.out HNs.out).mono ?_; rintro e w8 ⟨rfl, hb8⟩; rw [HGs.out]; have HX8 : Hid (IsEnts w8.heap.size w8 (some ⟨b5, off5, none⟩) l5 l5 Lx) := HX7.out.later hb8; have HRg8 : Hid (w8.rangeAt b5 (off5 + k * 100) (entC x)) := rangeAt_below hb8 hl7 HRg7.out; have HB8 : Hid (Below w0.heap.size w0 w8) := HB7.out.trans (hb8.mono HB7.out.size); have hl8 : b5 < w8.heap.size := Nat.lt_of_lt_of_le hl7 hb8.size; clear hdone hb8 HB7 HE7 HX7 HRg7)
            | (go_at_call 12; have hdone := HX8.out; refine (dgood_any _ l5 l5 Lx w8 HX8.out HNx.out).mono ?_; rintro e w9 ⟨rfl, hb9⟩; rw [HGx.out, hmay]; have HRg9 : Hid (w9.rangeAt b5 (off5 + k * 100) (entC x)) := rangeAt_below hb9 hl8 HRg8.out; have HB9 : Hid (Below w0.heap.size w0 w9) := HB8.out.trans (hb9.mono HB8.out.size); have hl9 : b5 < w9.heap.size := Nat.lt_of_lt_of_le hl8 hb9.size; clear hdone hb9 HB8 HX8 HRg8))
          refine wp_region_held_drew (S := fun W => Below w9.heap.size w9 W) (by kernel_rfl) (Below.refl _ _).drew (fun hHeld => ?_)
          refine wpAnyH_takesAt 0 5 5 (of_decide_eq_true (by kernel_rfl)) rfl (fun _ _ _ d _ h => by cases d <;> exact h) (by kernel_rfl) (by kernel_rfl) hHeld ?_
          simp only [List.drop_zero, List.take_succ_cons, List.take_zero]
          iterate 5 (refine wpHeld_step (v := ?_) (by rfl) (fun wz hSw => ?_) ?_; rotate_left; (focus ((try dsimp only at hSw); go_simp; try with_reducible rfl)); (simp only [Act.put, List.setIfInBounds_toArray, List.set_cons_zero, List.set_cons_succ]))
          refine wpHeld_nil ?_
          refine wpAnyH_takesAt 5 1 4 (of_decide_eq_true (by kernel_rfl)) rfl (fun _ _ _ d _ h => by cases d <;> exact h) (by kernel_rfl) (by kernel_rfl) hHeld ?_
          simp only [List.drop_succ_cons, List.drop_zero, List.take_succ_cons, List.take_zero]
          refine wpHeld_loadE (by rfl) (.tmp 75) rfl b5 (off5 + k * 100) rfl (entC x) (fun W hW => rangeAt_below hW hl9 HRg9.out) (size43' HX.out) ?_
          (simp only [Act.put]; (try simp only [List.setIfInBounds_toArray]); (try simp only [List.set_cons_succ]); (try simp only [List.set_cons_zero]))
          refine wpHeld_nil ?_
          refine wpAnyH_takesAt 6 1 3 (of_decide_eq_true (by kernel_rfl)) rfl (fun _ _ _ d _ h => by cases d <;> exact h) (by kernel_rfl) (by kernel_rfl) hHeld ?_
          simp only [List.drop_succ_cons, List.drop_zero, List.take_succ_cons, List.take_zero]
          refine wpHeld_loadE (by rfl) (.tmp 4) rfl w.heap.size (0) rfl (entC x) (fun W hW => ((HE0.out.later HB9.out).later hW).row.range) (size43' HX.out) ?_
          (simp only [Act.put]; (try simp only [List.setIfInBounds_toArray]); (try simp only [List.set_cons_succ]); (try simp only [List.set_cons_zero]))
          refine wpHeld_nil ?_
          refine wpAnyH_takesAt 7 3 0 (of_decide_eq_true (by kernel_rfl)) rfl (fun _ _ _ d _ h => by cases d <;> exact h) (by kernel_rfl) (by kernel_rfl) hHeld ?_
          simp only [List.drop_succ_cons, List.drop_zero, List.take_succ_cons, List.take_zero]
          iterate 3 (refine wpHeld_step (v := ?_) (by rfl) (fun wz hSw => ?_) ?_; rotate_left; (focus ((try dsimp only at hSw); go_simp; try with_reducible rfl)); (simp only [Act.put, List.setIfInBounds_toArray, List.set_cons_zero, List.set_cons_succ]))
          refine wpHeld_nil ?_
          refine wpAnyH_done (by kernel_rfl) ?_ _
          go_wp2
          go_ret
          exact ⟨rfl, hb0.trans ((HB9.out.drew).mono hb0.size)⟩
        have b1 : (x.kind == 1) = false := by simpa using k1
        have b2 : (x.kind == 2) = false := by simpa using k2
        have b4 : (x.kind == 4) = false := by simpa using k4
        have hmay : mayB x = false := by rw [hM, kindB, b1, b2, b4]; rfl
        clear hM
        go_enter Try.func7, Try.ntmps7
        go_wp2_with (first
          | (go_at_call 8; rw [HW0.out]; refine HA.mono ?_; rintro e w1 ⟨rfl, hb1⟩)
          | (go_at_call 9; refine (few_any p len cap es w1 ((HI.out.later hb0).later hb1)).mono ?_; rintro e w2 ⟨rfl, hb2⟩; rw [hf]; have HB2 : Hid (Below w0.heap.size w0 w2) := hb1.trans (hb2.mono hb1.size); have hcN2 := (HE0.out.later HB2.out).name; clear hb1 hb2)
          | (go_at_call 13; have hdone := HB2.out; refine (refGoodDir_any p len cap es w2 ((HI.out.later hb0).later HB2.out) HN.out).mono ?_; rintro e w3 ⟨rfl, hb3⟩; rw [HG.out]; have HB3 : Hid (Below w0.heap.size w0 w3) := HB2.out.trans (hb3.mono HB2.out.size); have hcN3 := (HE0.out.later HB3.out).name; have hcK3 := (HE0.out.later HB3.out).kind; clear hdone hb3)
          | (go_at_call 29; refine (HRg _).mono ?_; rintro e w4 ⟨rfl, hw4⟩; obtain rfl : w3 = w4 := hw4.symm; clear hw4; rw [hgn])
          | ((with_reducible show wpList _ _ _ (Oper.mk (some 51) (Op.load 43 (.tmp 4)) _ _ _ _ :: _) _ _); refine wpList_loadEnt rfl (.tmp 4) rfl rfl HX.out (HE0.out.later HB3.out).row.range ?_; simp only [Act.put, List.setIfInBounds_toArray, List.set_cons_zero, List.set_cons_succ])
          | (go_at_call 17; have hdone := HB3.out; refine (HWith.out w3 HB3.out).mono ?_; rintro e w5 ⟨b5, off5, l5, rfl, hk5, hE5, hrg5, hbl5, hb5⟩; have HE5 : Hid (IsEnts w5.heap.size w5 (some ⟨b5, off5, none⟩) l5 l5 Lx) := hE5; have HRg5 : Hid (w5.rangeAt b5 (off5 + k * 100) (entC x)) := hrg5; have HB5 : Hid (Below w0.heap.size w0 w5) := HB3.out.trans (hb5.mono HB3.out.size); have hcN5 := (HE0.out.later HB5.out).name; have hl63 := hE5.2.2.1; clear hdone hE5 hrg5 hb5)
          | (go_at_call 21; have hdone := HB5.out; refine (HFind.out w5 _ l5 HE5.out).mono ?_; rintro e w6 ⟨rfl, hb6⟩; have HE6 : Hid (IsEnts w6.heap.size w6 (some ⟨b5, off5, none⟩) l5 l5 Lx) := HE5.out.later hb6; have HRg6 : Hid (w6.rangeAt b5 (off5 + k * 100) (entC x)) := rangeAt_below hb6 hbl5 HRg5.out; have HB6 : Hid (Below w0.heap.size w0 w6) := HB5.out.trans (hb6.mono HB5.out.size); have hl6 : b5 < w6.heap.size := Nat.lt_of_lt_of_le hbl5 hb6.size; clear hdone hb6 HB5 HE5 HRg5)
          | (go_at_call 19; have hdone := HB6.out; refine (withoutD_any p len cap es s w6 ((HI.out.later hb0).later HB6.out) HN.out hlen).mono ?_; rintro e w7 ⟨q7, l7, rfl, hE7, hb7⟩; have HE7 : Hid (IsEnts w7.heap.size w7 q7 l7 l7 (filt (fun x => nameB x s) es)) := hE7; have HX7 : Hid (IsEnts w7.heap.size w7 (some ⟨b5, off5, none⟩) l5 l5 Lx) := HE6.out.later hb7; have HRg7 : Hid (w7.rangeAt b5 (off5 + k * 100) (entC x)) := rangeAt_below hb7 hl6 HRg6.out; have HB7 : Hid (Below w0.heap.size w0 w7) := HB6.out.trans (hb7.mono HB6.out.size); have hl7 : b5 < w7.heap.size := Nat.lt_of_lt_of_le hl6 hb7.size; clear hdone hE7 hb7 HB6 HE6 HRg6)
          | (go_at_call 12; have hdone := HE7.out; refine (dgood_any q7 l7 l7 (filt (fun x => nameB x s) es) w7 HE7.out HNs.out).mono ?_; rintro e w8 ⟨rfl, hb8⟩; rw [HGs.out]; have HX8 : Hid (IsEnts w8.heap.size w8 (some ⟨b5, off5, none⟩) l5 l5 Lx) := HX7.out.later hb8; have HRg8 : Hid (w8.rangeAt b5 (off5 + k * 100) (entC x)) := rangeAt_below hb8 hl7 HRg7.out; have HB8 : Hid (Below w0.heap.size w0 w8) := HB7.out.trans (hb8.mono HB7.out.size); have hl8 : b5 < w8.heap.size := Nat.lt_of_lt_of_le hl7 hb8.size; clear hdone hb8 HB7 HE7 HX7 HRg7)
          | (go_at_call 12; have hdone := HX8.out; refine (dgood_any _ l5 l5 Lx w8 HX8.out HNx.out).mono ?_; rintro e w9 ⟨rfl, hb9⟩; rw [HGx.out, hmay]; have HRg9 : Hid (w9.rangeAt b5 (off5 + k * 100) (entC x)) := rangeAt_below hb9 hl8 HRg8.out; have HB9 : Hid (Below w0.heap.size w0 w9) := HB8.out.trans (hb9.mono HB8.out.size); have hl9 : b5 < w9.heap.size := Nat.lt_of_lt_of_le hl8 hb9.size; clear hdone hb9 HB8 HX8 HRg8))
        refine wp_region_held_drew (S := fun W => Below w9.heap.size w9 W) (by kernel_rfl) (Below.refl _ _).drew (fun hHeld => ?_)
        refine wpAnyH_takesAt 0 5 5 (of_decide_eq_true (by kernel_rfl)) rfl (fun _ _ _ d _ h => by cases d <;> exact h) (by kernel_rfl) (by kernel_rfl) hHeld ?_
        simp only [List.drop_zero, List.take_succ_cons, List.take_zero]
        iterate 5 (refine wpHeld_step (v := ?_) (by rfl) (fun wz hSw => ?_) ?_; rotate_left; (focus ((try dsimp only at hSw); go_simp; try with_reducible rfl)); (simp only [Act.put, List.setIfInBounds_toArray, List.set_cons_zero, List.set_cons_succ]))
        refine wpHeld_nil ?_
        refine wpAnyH_takesAt 5 1 4 (of_decide_eq_true (by kernel_rfl)) rfl (fun _ _ _ d _ h => by cases d <;> exact h) (by kernel_rfl) (by kernel_rfl) hHeld ?_
        simp only [List.drop_succ_cons, List.drop_zero, List.take_succ_cons, List.take_zero]
        refine wpHeld_loadE (by rfl) (.tmp 75) rfl b5 (off5 + k * 100) rfl (entC x) (fun W hW => rangeAt_below hW hl9 HRg9.out) (size43' HX.out) ?_
        (simp only [Act.put]; (try simp only [List.setIfInBounds_toArray]); (try simp only [List.set_cons_succ]); (try simp only [List.set_cons_zero]))
        refine wpHeld_nil ?_
        refine wpAnyH_takesAt 6 1 3 (of_decide_eq_true (by kernel_rfl)) rfl (fun _ _ _ d _ h => by cases d <;> exact h) (by kernel_rfl) (by kernel_rfl) hHeld ?_
        simp only [List.drop_succ_cons, List.drop_zero, List.take_succ_cons, List.take_zero]
        refine wpHeld_loadE (by rfl) (.tmp 4) rfl w.heap.size (0) rfl (entC x) (fun W hW => ((HE0.out.later HB9.out).later hW).row.range) (size43' HX.out) ?_
        (simp only [Act.put]; (try simp only [List.setIfInBounds_toArray]); (try simp only [List.set_cons_succ]); (try simp only [List.set_cons_zero]))
        refine wpHeld_nil ?_
        refine wpAnyH_takesAt 7 3 0 (of_decide_eq_true (by kernel_rfl)) rfl (fun _ _ _ d _ h => by cases d <;> exact h) (by kernel_rfl) (by kernel_rfl) hHeld ?_
        simp only [List.drop_succ_cons, List.drop_zero, List.take_succ_cons, List.take_zero]
        iterate 3 (refine wpHeld_step (v := ?_) (by rfl) (fun wz hSw => ?_) ?_; rotate_left; (focus ((try dsimp only at hSw); go_simp; try with_reducible rfl)); (simp only [Act.put, List.setIfInBounds_toArray, List.set_cons_zero, List.set_cons_succ]))
        refine wpHeld_nil ?_
        refine wpAnyH_done (by kernel_rfl) ?_ _
        go_wp2
        go_ret
        exact ⟨rfl, hb0.trans ((HB9.out.drew).mono hb0.size)⟩
end Go.Proofs.Ytlmfdifnkkdpfaa
