/-
  The law CodecBack, walked: for every list of parts it returns true.
-/
import Derived.Test.YtdebcpfjldgalaaReadsW
namespace Go.Proofs.Ytdebcpfjldgalaa
open Go.RowKit

/-! What was written is read. -/
theorem backN (n : Nat) (hn : n < 18446744073709551616) (r : List Nat) (most : Nat) (hm : n ≤ most) : readN most (some (encN n ++ r)) = (n, some r) := by
  rw [readN_some (numL_back n hn r) (by omega), List.drop_left]
theorem backRaw (t r : List Nat) : readRaw (t.length : Nat) (some (t ++ r)) = (t, some r) := by
  rw [readRaw_in (by simp), List.take_left, List.drop_left]
theorem backText (t r : List Nat) (ht : t.length ≤ 200) : readText 1000 (some (encText t ++ r)) = (t, some r) := by
  have e : readCount 1000 (some (encText t ++ r)) = (t.length, some (t ++ r)) := by
    rw [readCount, if_neg (by omega), encText, List.append_assoc]
    exact backN t.length (by omega) (t ++ r) _ (by show _ ≤ 1000; omega)
  unfold readText
  rw [e]
  exact backRaw t r
theorem backIds (ids : List (List Nat)) (r : List Nat) (hl : ids.length ≤ 10) (h : ∀ x ∈ ids, x.length = 32 ∧ ∀ z ∈ x, z < 256) : readIds 100 (some (encIds ids ++ r)) = (ids, some r) := by
  have e : readCount 100 (some (encIds ids ++ r)) = (ids.length, some (ids.flatten ++ r)) := by
    rw [readCount, if_neg (by omega), encIds, List.append_assoc]
    exact backN ids.length (by omega) (ids.flatten ++ r) _ (by show _ ≤ 100; omega)
  have hfl : ∀ (l : List (List Nat)), (∀ x ∈ l, x.length = 32 ∧ ∀ z ∈ x, z < 256) → l.flatten.length = 32 * l.length := by
    intro l
    induction l with
    | nil => simp
    | cons a s ih =>
      intro hh
      rw [List.flatten_cons, List.length_append, ih (fun x hx => hh x (List.mem_cons_of_mem _ hx)), (hh a List.mem_cons_self).1, List.length_cons]
      omega
  have hf := hfl ids h
  unfold readIds
  rw [e]
  show takeIds ids.length (some (ids.flatten ++ r)) = _
  have hneg : ¬ (ids.flatten ++ r).length / 32 < ids.length := by rw [List.length_append, hf]; omega
  rw [show takeIds ids.length (some (ids.flatten ++ r)) = (idsOf (ids.flatten ++ r) ids.length, some ((ids.flatten ++ r).drop (32 * ids.length))) from if_neg hneg, ← hf, List.drop_left]
  congr 1
  apply List.ext_getElem
  · rw [idsOf_length]
  · intro i h1 h2
    have hi : i < ids.length := h2
    have hfd := flat_drop h i hi
    rw [List.getD_eq_getElem?_getD, List.getElem?_eq_getElem hi, Option.getD_some] at hfd
    rw [← hfd]
    simp only [idsOf, List.getElem_map, List.getElem_range]
    rw [List.drop_append_of_le_length (by omega), List.take_append_of_le_length (by rw [List.length_drop]; omega), Nat.mul_comm]
theorem encAll_drop (xs : List Pt) {k : Nat} (hk : k < xs.length) : encAll (xs.drop k) = encPt (xs.getD k noPt) ++ encAll (xs.drop (k + 1)) := by
  rw [List.drop_eq_getElem_cons hk, List.getD_eq_getElem?_getD, List.getElem?_eq_getElem hk, Option.getD_some]
  rfl

set_option maxRecDepth 100000 in
set_option maxHeartbeats 8000000 in
theorem codecBack_some (p : Option Addr) (len cap : Nat) (xs : List Pt) (w : World) (hI : IsParts w.heap.size w p len cap xs) (hf : fewB xs = true) :
    Calls Try.prog 5 #[.slice p len cap] w fun e w' => e = .returned (.bool true) ∧ Below w.heap.size w w' := by
  have HI : Hid (IsParts w.heap.size w p len cap xs) := hI
  have HL : Hid (xs.length = len) := hI.1
  have HOk : Hid (∀ x ∈ xs, PtOk x) := hI.ok
  have HSm : Hid (∀ x ∈ xs, smallB x = true) := (few_small hf).1
  have hl20 : len ≤ 20 := by rw [← hI.1]; exact (few_small hf).2
  have HEl : Hid ((encAll xs).length ≤ 6600) := by
    show _ ≤ _
    have := encAll_length HOk.out HSm.out
    have := HL.out
    omega
  have HFew : Hid (∀ W, Below w.heap.size w W → Calls Try.prog 9 #[.slice p len cap] W fun e w' => e = .returned (.bool true) ∧ Below W.heap.size W w') := fun W hb => by
    have h := few_any p len cap xs W (HI.out.world hb)
    rw [hf] at h
    exact h
  have HWr : Hid (∀ W, Below w.heap.size w W → Calls Try.prog 10 #[.slice p len cap] W fun e w' => ∃ q l c, e = .returned (.slice q l c) ∧ IsBytes w'.heap.size w' q l c (encAll xs) ∧ l ≤ 6600 ∧ Below W.heap.size W w') := fun W hb =>
    (wrote_any p len cap xs W (HI.out.world hb) hf).mono fun e w' ⟨v, h1, h2, h3⟩ => by
      obtain ⟨q, c, rfl⟩ := h2.slice
      exact ⟨q, _, c, h1, h2.bytes (encAll_bytes HOk.out), HEl.out, h3⟩
  clear hI hf
  go_enter Try.func5, Try.ntmps5
  go_wp2_with (first
    | (go_at_call 8; refine (awake_any _).mono ?_; rintro e w1 ⟨rfl, hb1⟩)
    | (go_at_call 9; refine (HFew.out w1 hb1).mono ?_; rintro e w2 ⟨rfl, hb2⟩; have hbA := hb1.trans (hb2.mono hb1.size); clear hb1 hb2)
    | (go_at_call 10; refine (HWr.out w2 hbA).mono ?_; rintro e w3 ⟨q3, l3, k3, rfl, hI3, hl3, hb3⟩; have hbB := hbA.trans (hb3.mono hbA.size); have HI3 : Hid (IsBytes w3.heap.size w3 q3 l3 k3 (encAll xs)) := hI3; clear hI3 hb3 hbA)
    | (go_at_call 12; refine (read_any q3 l3 k3 (encAll xs) (by omega) w3 HI3.out).mono ?_; rintro e w4 ⟨R, rfl, hR, hR4, hb4⟩; have hwR : w.heap.size ≤ R := Nat.le_trans hbB.size hR; have hbC := hbB.trans (hb4.mono hbB.size); have HR4 : Hid (RdAt w4 R (some (encAll xs))) := hR4; clear hR4 hb4 hbB hR HI3))
  go_loopw [16] (fun i wr => ∃ (k : Nat), k ≤ len ∧ i = .int .i64 k ∧ RdAt wr R (some (encAll (xs.drop k))) ∧ Below w.heap.size w wr) (fun i _ => len - (intOf i).toNat)
  case atStart => exact ⟨0, Nat.zero_le _, rfl, HR4.out, hbC⟩
  case round =>
    clear HR4 hbC
    obtain ⟨k, hk, rfl, hRd, hbel⟩ := hrel
    have hsz := hbel.size
    have hRl := hRd.lt
    by_cases hlt : k < len
    · have hki : (k : Int) < (len : Int) := by omega
      have hkl : k < xs.length := by rw [HL.out]; exact hlt
      obtain ⟨b, off, rfl, hb, hP⟩ := (HI.out.below hbel).at hlt
      have hdr := encAll_drop xs hkl
      have hxs := small_of (HSm.out _ (pt_at hkl))
      have hxo := HOk.out _ (pt_at hkl)
      generalize xs.getD k noPt = x at *
      obtain ⟨q1, l1, c1, q2, l2, c2, hrg, hI1, hI2, hn, hmm⟩ := hP
      generalize hZ' : encAll (xs.drop (k + 1)) = ZS' at *
      have HZ' : Hid (encAll (xs.drop (k + 1)) = ZS') := hZ'
      generalize encAll (xs.drop k) = ZS at *
      have HRd : Hid (RdAt wr R (some ZS)) := hRd
      have hl1 := hI1.1
      have hl2 := hI2.1
      have HB0 : Hid (x.kind = 0 → readN 18446744073709551615 (some ZS) = (x.n, some ZS')) := fun h => by
        rw [hdr, encPt, if_pos h]; exact backN _ hn _ _ (by omega)
      have HB1 : Hid (x.kind = 1 → readRaw (l1 : Nat) (some ZS) = (x.bs, some ZS')) := fun h => by
        rw [hdr, encPt, if_neg (by omega), if_pos h, ← hl1]; exact backRaw _ _
      have HB2 : Hid (x.kind = 2 → readText 1000 (some ZS) = (x.bs, some ZS')) := fun h => by
        rw [hdr, encPt, if_neg (by omega), if_neg (by omega), if_pos h]; exact backText _ _ hxs.1
      have HB3 : Hid (x.kind ≠ 0 → x.kind ≠ 1 → x.kind ≠ 2 → readIds 100 (some ZS) = (x.ids, some ZS')) := fun h0 h1 h2 => by
        rw [hdr, encPt, if_neg h0, if_neg h1, if_neg h2]; exact backIds _ _ hxs.2 hxo.ids
      have hl1c : l1 ≤ 200 := by omega
      have HI1 : Hid (IsBytes w.heap.size wr q1 l1 c1 x.bs) := hI1
      have HI2 : Hid (IsIds w.heap.size wr q2 l2 c2 x.ids) := hI2
      clear hdr hxs hxo hZ' hRd hI1 hI2 hl1
      generalize x.kind = kd at *
      generalize x.n = nn at *
      generalize x.most = mm at *
      generalize x.bs = bs at *
      generalize x.ids = ids at *
      have HRg : Hid (wr.rangeAt b (off + k * 5) (partCells kd nn q1 l1 c1 q2 l2 c2 mm)) := hrg
      have hPR : wr.heap.size ≠ R := by omega
      clear hrg
      by_cases hk0 : kd = 0
      · subst hk0
        have HC1 : Hid (∀ W, RdAt W R (some ZS) → Calls Try.prog 13 #[.pointer (some ⟨R, 0, none⟩), .int .u64 18446744073709551615] W fun e w' => e = .returned (.int .u64 (nn : Nat)) ∧ RdAt w' R (some ZS') ∧ But R W.heap.size W w') := fun W h => by
          have h1 := readerN_any R (some ZS) 18446744073709551615 (by omega) W h
          rw [HB0.out rfl] at h1
          exact h1
        go_wp2_with (first
          | ((with_reducible show wpList _ _ _ (Oper.mk _ (Op.load 35 (.tmp 18)) _ _ _ _ :: _) _ _); refine wpList_load_mid rfl 35 (.tmp 18) rfl b (off + k * 5) rfl (partCells 0 nn q1 l1 c1 q2 l2 c2 mm) _ HRg.out Try.underlying35 rfl size35 ?_; simp only [Act.put, List.setIfInBounds_toArray, List.set_cons_zero, List.set_cons_succ])
          | ((with_reducible show wpList _ _ _ (Oper.mk _ (Op.store 35 (.tmp 5) (.tmp 19)) _ _ _ _ :: _) _ _); refine wpList_store_Row rfl 35 (.tmp 5) (.tmp 19) rfl (partCells 0 nn q1 l1 c1 q2 l2 c2 mm) rfl rfl (Row.new wr 35 #[.int .i64 0, .int .u64 0, .slice none 0 0, .slice none 0 0, .int .i64 0]) size35 rfl (partCells_one _ _ _ _ _ _ _ _ _) ?_; have hRP := (Row.new wr 35 #[.int .i64 0, .int .u64 0, .slice none 0 0, .slice none 0 0, .int .i64 0]).sets_all (vs := partCells 0 nn q1 l1 c1 q2 l2 c2 mm) rfl; have hb2 : Below wr.heap.size wr ((wr.alloc (.cells #[.int .i64 0, .int .u64 0, .slice none 0 0, .slice none 0 0, .int .i64 0] 35)).setCells wr.heap.size 0 (partCells 0 nn q1 l1 c1 q2 l2 c2 mm)) := below_setCells (Nat.le_refl _) _ _ ((Below.refl _ wr).alloc (Nat.le_refl _) _); have hc0 := hRP.cell (i := 0) rfl; have hc1 := hRP.cell (i := 1) rfl; have hc2 := hRP.cell (i := 2) rfl; have hc3 := hRP.cell (i := 3) rfl; have hc4 := hRP.cell (i := 4) rfl; have HRP : Hid (Row _ _ _ _) := hRP; clear hRP; generalize (wr.alloc (.cells #[.int .i64 0, .int .u64 0, .slice none 0 0, .slice none 0 0, .int .i64 0] 35)).setCells wr.heap.size 0 (partCells 0 nn q1 l1 c1 q2 l2 c2 mm) = W2 at *; simp only [Act.put])
          )
        have hPl : wr.heap.size < W2.heap.size := World.block_lt_of_cell? _ _ hc0
        have hs2 := hb2.size
        refine wp_region_held_drew (S := fun W => W.cell? ⟨wr.heap.size, 1, none⟩ = some (.int .u64 (nn : Nat))) (by kernel_rfl) hc1 (fun hHeld => ?_)
        refine wpAnyH_takesAt 0 1 4 (of_decide_eq_true (by kernel_rfl)) rfl (fun _ _ _ d _ h => by cases d <;> exact h) (by kernel_rfl) (by kernel_rfl) hHeld ?_
        simp only [List.drop_zero, List.take_succ_cons, List.take_zero]
        iterate 1 (refine wpHeld_step (v := ?_) (by rfl) (fun wz hSw => ?_) ?_; rotate_left; (focus ((try dsimp only at hSw); go_simp; try with_reducible rfl)); ((simp only [Act.put]; (try simp only [List.setIfInBounds_toArray]); (try simp only [List.set_cons_succ]); (try simp only [List.set_cons_zero]))))
        refine wpHeld_nil ?_
        refine wpAnyH_takesAt 2 2 2 (of_decide_eq_true (by kernel_rfl)) rfl (fun _ _ _ d _ h => by cases d <;> exact h) (by kernel_rfl) (by kernel_rfl) hHeld ?_
        simp only [List.drop_succ_cons, List.drop_zero, List.take_succ_cons, List.take_zero]
        iterate 2 (refine wpHeld_step (v := ?_) (by rfl) (fun wz hSw => ?_) ?_; rotate_left; (focus ((try dsimp only at hSw); go_simp; try with_reducible rfl)); (simp only [Act.put, List.setIfInBounds_toArray, List.set_cons_zero, List.set_cons_succ]))
        refine wpHeld_nil ?_
        refine wpAnyH_only (i := 1) (by kernel_rfl) rfl (fun K hK => ?_)
        rw [if_pos (by rfl)]
        go_simp
        refine (HC1.out W2.drew ((HRd.out.later hb2).later (Below.refl _ W2).drew)).mono ?_
        rintro e w4 ⟨rfl, hR4, hbt4⟩
        have hbt4 : But R W2.heap.size W2 w4 := (But.refl R W2.heap.size W2).drew.trans hbt4
        have hP4 := but_cell hbt4 hPl hPR hc1
        have HR4 : Hid (RdAt w4 R (some ZS')) := hR4
        have hbE : Below w.heap.size w w4 := (hbel.trans (hb2.mono hsz)).trans (hbt4.below (by omega) hwR)
        refine hK.out _ _ hP4 ?_
        clear hK K hHeld hR4 hbt4
        have hHeld := hP4
        refine wpAnyH_takesAt 4 1 0 (of_decide_eq_true (by kernel_rfl)) rfl (fun _ _ _ d _ h => by cases d <;> exact h) (by kernel_rfl) (by kernel_rfl) hHeld ?_
        simp only [List.drop_succ_cons, List.drop_zero, List.take_succ_cons, List.take_zero]
        iterate 1 (refine wpHeld_step (v := ?_) (by rfl) (fun wz hSw => ?_) ?_; rotate_left; (focus ((try dsimp only at hSw); go_simp; try with_reducible rfl)); ((simp only [Act.put]; (try simp only [List.setIfInBounds_toArray]); (try simp only [List.set_cons_succ]); (try simp only [List.set_cons_zero]))))
        refine wpHeld_nil ?_
        refine wpAnyH_done (by kernel_rfl) ?_ _
        clear hHeld hP4
        go_wp2
        go_roundw
        case rel => exact ⟨k + 1, by omega, by go_num, by rw [HZ'.out]; exact HR4.out, hbE⟩
        case measure => simp [intOf]; omega
      · by_cases hk1 : kd = 1
        · subst hk1
          have HC1 : Hid (∀ W, RdAt W R (some ZS) → Calls Try.prog 15 #[.pointer (some ⟨R, 0, none⟩), .int .i64 (l1 : Nat)] W fun e w' => ∃ v, e = .returned v ∧ Own W.heap.size w' v bs ∧ RdAt w' R (some ZS') ∧ But R W.heap.size W w') := fun W h => by
            have h1 := readerRaw_any R (some ZS) (l1 : Nat) W h
            rw [HB1.out rfl] at h1
            exact h1
          go_wp2_with (first
            | ((with_reducible show wpList _ _ _ (Oper.mk _ (Op.load 35 (.tmp 18)) _ _ _ _ :: _) _ _); refine wpList_load_mid rfl 35 (.tmp 18) rfl b (off + k * 5) rfl (partCells 1 nn q1 l1 c1 q2 l2 c2 mm) _ HRg.out Try.underlying35 rfl size35 ?_; simp only [Act.put, List.setIfInBounds_toArray, List.set_cons_zero, List.set_cons_succ])
            | ((with_reducible show wpList _ _ _ (Oper.mk _ (Op.store 35 (.tmp 5) (.tmp 19)) _ _ _ _ :: _) _ _); refine wpList_store_Row rfl 35 (.tmp 5) (.tmp 19) rfl (partCells 1 nn q1 l1 c1 q2 l2 c2 mm) rfl rfl (Row.new wr 35 #[.int .i64 0, .int .u64 0, .slice none 0 0, .slice none 0 0, .int .i64 0]) size35 rfl (partCells_one _ _ _ _ _ _ _ _ _) ?_; have hRP := (Row.new wr 35 #[.int .i64 0, .int .u64 0, .slice none 0 0, .slice none 0 0, .int .i64 0]).sets_all (vs := partCells 1 nn q1 l1 c1 q2 l2 c2 mm) rfl; have hb2 : Below wr.heap.size wr ((wr.alloc (.cells #[.int .i64 0, .int .u64 0, .slice none 0 0, .slice none 0 0, .int .i64 0] 35)).setCells wr.heap.size 0 (partCells 1 nn q1 l1 c1 q2 l2 c2 mm)) := below_setCells (Nat.le_refl _) _ _ ((Below.refl _ wr).alloc (Nat.le_refl _) _); have hc0 := hRP.cell (i := 0) rfl; have hc1 := hRP.cell (i := 1) rfl; have hc2 := hRP.cell (i := 2) rfl; have hc3 := hRP.cell (i := 3) rfl; have hc4 := hRP.cell (i := 4) rfl; have HRP : Hid (Row _ _ _ _) := hRP; clear hRP; generalize (wr.alloc (.cells #[.int .i64 0, .int .u64 0, .slice none 0 0, .slice none 0 0, .int .i64 0] 35)).setCells wr.heap.size 0 (partCells 1 nn q1 l1 c1 q2 l2 c2 mm) = W2 at *; simp only [Act.put])
            )
          have hPl : wr.heap.size < W2.heap.size := World.block_lt_of_cell? _ _ hc0
          have hs2 := hb2.size
          have hSB : ∀ W, Below w.heap.size wr W → Str W (.slice q1 l1 c1) (strOf bs) := fun W hW => str_of_bytes ((HI1.out.below hW).mono (by have := hW.size; omega))
          have hcb2 := (hSB W2 (hb2.mono hsz)).here
          have hcb2' : (convert 25 9 (.slice q1 l1 c1)).run Try.prog W2.drew = .ok (.string (strOf bs)) W2.drew := (hSB W2.drew ((hb2.mono hsz).trans (Below.refl _ W2).drew)).here
          refine wp_region_held_drew (S := fun W => W.cell? ⟨wr.heap.size, 2, none⟩ = some (.slice q1 l1 c1) ∧ (convert 25 9 (.slice q1 l1 c1)).run Try.prog W = .ok (.string (strOf bs)) W) (by kernel_rfl) ⟨hc2, hcb2'⟩ (fun hHeld => ?_)
          refine wpAnyH_takesAt 0 4 6 (of_decide_eq_true (by kernel_rfl)) rfl (fun _ _ _ d _ h => by cases d <;> exact h) (by kernel_rfl) (by kernel_rfl) hHeld ?_
          simp only [List.drop_zero, List.take_succ_cons, List.take_zero]
          iterate 4 (refine wpHeld_step (v := ?_) (by rfl) (fun wz hSw => ?_) ?_; rotate_left; (focus ((try dsimp only at hSw); go_simp; try with_reducible rfl)); (simp only [Act.put, List.setIfInBounds_toArray, List.set_cons_zero, List.set_cons_succ]))
          refine wpHeld_nil ?_
          refine wpAnyH_takesAt 6 3 3 (of_decide_eq_true (by kernel_rfl)) rfl (fun _ _ _ d _ h => by cases d <;> exact h) (by kernel_rfl) (by kernel_rfl) hHeld ?_
          simp only [List.drop_succ_cons, List.drop_zero, List.take_succ_cons, List.take_zero]
          iterate 3 (refine wpHeld_step (v := ?_) (by rfl) (fun wz hSw => ?_) ?_; rotate_left; (focus (have hcv := hSw.2; go_simp; try with_reducible rfl)); (simp only [Act.put, List.setIfInBounds_toArray, List.set_cons_zero, List.set_cons_succ]))
          refine wpHeld_nil ?_
          refine wpAnyH_only (i := 4) (by kernel_rfl) rfl (fun K hK => ?_)
          rw [if_pos (by rfl)]
          go_simp
          refine (HC1.out W2.drew ((HRd.out.later hb2).later (Below.refl _ W2).drew)).mono ?_
          rintro e w4 ⟨v4, rfl, hown4, hR4, hbt4⟩
          have hbt4 : But R W2.heap.size W2 w4 := (But.refl R W2.heap.size W2).drew.trans hbt4
          have hs4 := hbt4.size
          have hP4 := but_cell hbt4 hPl hPR hc2
          have HR4 : Hid (RdAt w4 R (some ZS')) := hR4
          have hb24 : Below w.heap.size wr w4 := (hb2.mono hsz).trans (hbt4.below (by omega) hwR)
          have hbE : Below w.heap.size w w4 := hbel.trans hb24
          have hcb4 := (hSB w4 hb24).here
          have hcv4 := (own_str hown4).here
          refine hK.out _ _ ⟨hP4, hcb4⟩ ?_
          clear hK K hHeld hR4 hbt4 hown4 hcb2 hcb2' hSB HC1
          generalize strOf bs = s at *
          refine wpAnyH_more (S' := fun W => (W.cell? ⟨wr.heap.size, 2, none⟩ = some (.slice q1 l1 c1) ∧ (convert 25 9 (.slice q1 l1 c1)).run Try.prog W = .ok (.string s) W) ∧ (convert 25 9 v4).run Try.prog W = .ok (.string s) W) (fun W h => h.1) _ _ _ _ ?_
          have hHeld : (w4.cell? ⟨wr.heap.size, 2, none⟩ = some (.slice q1 l1 c1) ∧ (convert 25 9 (.slice q1 l1 c1)).run Try.prog w4 = .ok (.string s) w4) ∧ (convert 25 9 v4).run Try.prog w4 = .ok (.string s) w4 := ⟨⟨hP4, hcb4⟩, hcv4⟩
          refine wpAnyH_takesAt 5 1 1 (of_decide_eq_true (by kernel_rfl)) rfl (fun _ _ _ d _ h => by cases d <;> exact h) (by kernel_rfl) (by kernel_rfl) hHeld ?_
          simp only [List.drop_succ_cons, List.drop_zero, List.take_succ_cons, List.take_zero]
          iterate 1 (refine wpHeld_step (v := ?_) (by rfl) (fun wz hSw => ?_) ?_; rotate_left; (focus (have hcv := hSw.2; go_simp; try with_reducible rfl)); ((simp only [Act.put]; (try simp only [List.setIfInBounds_toArray]); (try simp only [List.set_cons_succ]); (try simp only [List.set_cons_zero]))))
          refine wpHeld_nil ?_
          refine wpAnyH_takesAt 9 1 0 (of_decide_eq_true (by kernel_rfl)) rfl (fun _ _ _ d _ h => by cases d <;> exact h) (by kernel_rfl) (by kernel_rfl) hHeld ?_
          simp only [List.drop_succ_cons, List.drop_zero, List.take_succ_cons, List.take_zero]
          iterate 1 (refine wpHeld_step (v := ?_) (by rfl) (fun wz hSw => ?_) ?_; rotate_left; (focus ((try dsimp only at hSw); go_simp; try with_reducible rfl)); ((simp only [Act.put]; (try simp only [List.setIfInBounds_toArray]); (try simp only [List.set_cons_succ]); (try simp only [List.set_cons_zero]))))
          refine wpHeld_nil ?_
          refine wpAnyH_done (by kernel_rfl) ?_ _
          clear hHeld hP4 hcb4 hcv4
          go_wp2
          go_roundw
          case rel => exact ⟨k + 1, by omega, by go_num, by rw [HZ'.out]; exact HR4.out, hbE⟩
          case measure => simp [intOf]; omega
        · by_cases hk2 : kd = 2
          · subst hk2
            have HC1 : Hid (∀ W, RdAt W R (some ZS) → Calls Try.prog 17 #[.pointer (some ⟨R, 0, none⟩), .int .i64 1000] W fun e w' => ∃ v, e = .returned v ∧ Own W.heap.size w' v bs ∧ RdAt w' R (some ZS') ∧ But R W.heap.size W w') := fun W h => by
              have h1 := readerText_any R (some ZS) 1000 (by omega) W h
              rw [HB2.out rfl] at h1
              exact h1
            go_wp2_with (first
              | ((with_reducible show wpList _ _ _ (Oper.mk _ (Op.load 35 (.tmp 18)) _ _ _ _ :: _) _ _); refine wpList_load_mid rfl 35 (.tmp 18) rfl b (off + k * 5) rfl (partCells 2 nn q1 l1 c1 q2 l2 c2 mm) _ HRg.out Try.underlying35 rfl size35 ?_; simp only [Act.put, List.setIfInBounds_toArray, List.set_cons_zero, List.set_cons_succ])
              | ((with_reducible show wpList _ _ _ (Oper.mk _ (Op.store 35 (.tmp 5) (.tmp 19)) _ _ _ _ :: _) _ _); refine wpList_store_Row rfl 35 (.tmp 5) (.tmp 19) rfl (partCells 2 nn q1 l1 c1 q2 l2 c2 mm) rfl rfl (Row.new wr 35 #[.int .i64 0, .int .u64 0, .slice none 0 0, .slice none 0 0, .int .i64 0]) size35 rfl (partCells_one _ _ _ _ _ _ _ _ _) ?_; have hRP := (Row.new wr 35 #[.int .i64 0, .int .u64 0, .slice none 0 0, .slice none 0 0, .int .i64 0]).sets_all (vs := partCells 2 nn q1 l1 c1 q2 l2 c2 mm) rfl; have hb2 : Below wr.heap.size wr ((wr.alloc (.cells #[.int .i64 0, .int .u64 0, .slice none 0 0, .slice none 0 0, .int .i64 0] 35)).setCells wr.heap.size 0 (partCells 2 nn q1 l1 c1 q2 l2 c2 mm)) := below_setCells (Nat.le_refl _) _ _ ((Below.refl _ wr).alloc (Nat.le_refl _) _); have hc0 := hRP.cell (i := 0) rfl; have hc1 := hRP.cell (i := 1) rfl; have hc2 := hRP.cell (i := 2) rfl; have hc3 := hRP.cell (i := 3) rfl; have hc4 := hRP.cell (i := 4) rfl; have HRP : Hid (Row _ _ _ _) := hRP; clear hRP; generalize (wr.alloc (.cells #[.int .i64 0, .int .u64 0, .slice none 0 0, .slice none 0 0, .int .i64 0] 35)).setCells wr.heap.size 0 (partCells 2 nn q1 l1 c1 q2 l2 c2 mm) = W2 at *; simp only [Act.put])
              )
            have hPl : wr.heap.size < W2.heap.size := World.block_lt_of_cell? _ _ hc0
            have hs2 := hb2.size
            have hSB : ∀ W, Below w.heap.size wr W → Str W (.slice q1 l1 c1) (strOf bs) := fun W hW => str_of_bytes ((HI1.out.below hW).mono (by have := hW.size; omega))
            have hcb2 := (hSB W2 (hb2.mono hsz)).here
            have hcb2' : (convert 25 9 (.slice q1 l1 c1)).run Try.prog W2.drew = .ok (.string (strOf bs)) W2.drew := (hSB W2.drew ((hb2.mono hsz).trans (Below.refl _ W2).drew)).here
            refine wp_region_held_drew (S := fun W => W.cell? ⟨wr.heap.size, 2, none⟩ = some (.slice q1 l1 c1) ∧ (convert 25 9 (.slice q1 l1 c1)).run Try.prog W = .ok (.string (strOf bs)) W) (by kernel_rfl) ⟨hc2, hcb2'⟩ (fun hHeld => ?_)
            refine wpAnyH_takesAt 0 1 6 (of_decide_eq_true (by kernel_rfl)) rfl (fun _ _ _ d _ h => by cases d <;> exact h) (by kernel_rfl) (by kernel_rfl) hHeld ?_
            simp only [List.drop_zero, List.take_succ_cons, List.take_zero]
            iterate 1 (refine wpHeld_step (v := ?_) (by rfl) (fun wz hSw => ?_) ?_; rotate_left; (focus ((try dsimp only at hSw); go_simp; try with_reducible rfl)); ((simp only [Act.put]; (try simp only [List.setIfInBounds_toArray]); (try simp only [List.set_cons_succ]); (try simp only [List.set_cons_zero]))))
            refine wpHeld_nil ?_
            refine wpAnyH_takesAt 3 3 3 (of_decide_eq_true (by kernel_rfl)) rfl (fun _ _ _ d _ h => by cases d <;> exact h) (by kernel_rfl) (by kernel_rfl) hHeld ?_
            simp only [List.drop_succ_cons, List.drop_zero, List.take_succ_cons, List.take_zero]
            iterate 3 (refine wpHeld_step (v := ?_) (by rfl) (fun wz hSw => ?_) ?_; rotate_left; (focus (have hcv := hSw.2; go_simp; try with_reducible rfl)); (simp only [Act.put, List.setIfInBounds_toArray, List.set_cons_zero, List.set_cons_succ]))
            refine wpHeld_nil ?_
            refine wpAnyH_only (i := 1) (by kernel_rfl) rfl (fun K hK => ?_)
            rw [if_pos (by rfl)]
            go_simp
            refine (HC1.out W2.drew ((HRd.out.later hb2).later (Below.refl _ W2).drew)).mono ?_
            rintro e w4 ⟨v4, rfl, hown4, hR4, hbt4⟩
            have hbt4 : But R W2.heap.size W2 w4 := (But.refl R W2.heap.size W2).drew.trans hbt4
            have hs4 := hbt4.size
            have hP4 := but_cell hbt4 hPl hPR hc2
            have HR4 : Hid (RdAt w4 R (some ZS')) := hR4
            have hb24 : Below w.heap.size wr w4 := (hb2.mono hsz).trans (hbt4.below (by omega) hwR)
            have hbE : Below w.heap.size w w4 := hbel.trans hb24
            have hcb4 := (hSB w4 hb24).here
            have hcv4 := (own_str hown4).here
            refine hK.out _ _ ⟨hP4, hcb4⟩ ?_
            clear hK K hHeld hR4 hbt4 hown4 hcb2 hcb2' hSB HC1
            generalize strOf bs = s at *
            refine wpAnyH_more (S' := fun W => (W.cell? ⟨wr.heap.size, 2, none⟩ = some (.slice q1 l1 c1) ∧ (convert 25 9 (.slice q1 l1 c1)).run Try.prog W = .ok (.string s) W) ∧ (convert 25 9 v4).run Try.prog W = .ok (.string s) W) (fun W h => h.1) _ _ _ _ ?_
            have hHeld : (w4.cell? ⟨wr.heap.size, 2, none⟩ = some (.slice q1 l1 c1) ∧ (convert 25 9 (.slice q1 l1 c1)).run Try.prog w4 = .ok (.string s) w4) ∧ (convert 25 9 v4).run Try.prog w4 = .ok (.string s) w4 := ⟨⟨hP4, hcb4⟩, hcv4⟩
            refine wpAnyH_takesAt 2 1 1 (of_decide_eq_true (by kernel_rfl)) rfl (fun _ _ _ d _ h => by cases d <;> exact h) (by kernel_rfl) (by kernel_rfl) hHeld ?_
            simp only [List.drop_succ_cons, List.drop_zero, List.take_succ_cons, List.take_zero]
            iterate 1 (refine wpHeld_step (v := ?_) (by rfl) (fun wz hSw => ?_) ?_; rotate_left; (focus (have hcv := hSw.2; go_simp; try with_reducible rfl)); ((simp only [Act.put]; (try simp only [List.setIfInBounds_toArray]); (try simp only [List.set_cons_succ]); (try simp only [List.set_cons_zero]))))
            refine wpHeld_nil ?_
            refine wpAnyH_takesAt 6 1 0 (of_decide_eq_true (by kernel_rfl)) rfl (fun _ _ _ d _ h => by cases d <;> exact h) (by kernel_rfl) (by kernel_rfl) hHeld ?_
            simp only [List.drop_succ_cons, List.drop_zero, List.take_succ_cons, List.take_zero]
            iterate 1 (refine wpHeld_step (v := ?_) (by rfl) (fun wz hSw => ?_) ?_; rotate_left; (focus ((try dsimp only at hSw); go_simp; try with_reducible rfl)); ((simp only [Act.put]; (try simp only [List.setIfInBounds_toArray]); (try simp only [List.set_cons_succ]); (try simp only [List.set_cons_zero]))))
            refine wpHeld_nil ?_
            refine wpAnyH_done (by kernel_rfl) ?_ _
            clear hHeld hP4 hcb4 hcv4
            go_wp2
            go_roundw
            case rel => exact ⟨k + 1, by omega, by go_num, by rw [HZ'.out]; exact HR4.out, hbE⟩
            case measure => simp [intOf]; omega
          · have HC1 : Hid (∀ W, RdAt W R (some ZS) → Calls Try.prog 20 #[.pointer (some ⟨R, 0, none⟩), .int .i64 100] W fun e w' => ∃ v, e = .returned v ∧ OwnIds W.heap.size w' v ids ∧ RdAt w' R (some ZS') ∧ But R W.heap.size W w') := fun W h => by
              have h1 := readerIds_any R (some ZS) 100 (by omega) W h
              rw [HB3.out hk0 hk1 hk2] at h1
              exact h1
            go_wp2_with (first
              | ((with_reducible show wpList _ _ _ (Oper.mk _ (Op.load 35 (.tmp 18)) _ _ _ _ :: _) _ _); refine wpList_load_mid rfl 35 (.tmp 18) rfl b (off + k * 5) rfl (partCells kd nn q1 l1 c1 q2 l2 c2 mm) _ HRg.out Try.underlying35 rfl size35 ?_; simp only [Act.put, List.setIfInBounds_toArray, List.set_cons_zero, List.set_cons_succ])
              | ((with_reducible show wpList _ _ _ (Oper.mk _ (Op.store 35 (.tmp 5) (.tmp 19)) _ _ _ _ :: _) _ _); refine wpList_store_Row rfl 35 (.tmp 5) (.tmp 19) rfl (partCells kd nn q1 l1 c1 q2 l2 c2 mm) rfl rfl (Row.new wr 35 #[.int .i64 0, .int .u64 0, .slice none 0 0, .slice none 0 0, .int .i64 0]) size35 rfl (partCells_one _ _ _ _ _ _ _ _ _) ?_; have hRP := (Row.new wr 35 #[.int .i64 0, .int .u64 0, .slice none 0 0, .slice none 0 0, .int .i64 0]).sets_all (vs := partCells kd nn q1 l1 c1 q2 l2 c2 mm) rfl; have hb2 : Below wr.heap.size wr ((wr.alloc (.cells #[.int .i64 0, .int .u64 0, .slice none 0 0, .slice none 0 0, .int .i64 0] 35)).setCells wr.heap.size 0 (partCells kd nn q1 l1 c1 q2 l2 c2 mm)) := below_setCells (Nat.le_refl _) _ _ ((Below.refl _ wr).alloc (Nat.le_refl _) _); have hc0 := hRP.cell (i := 0) rfl; have hc1 := hRP.cell (i := 1) rfl; have hc2 := hRP.cell (i := 2) rfl; have hc3 := hRP.cell (i := 3) rfl; have hc4 := hRP.cell (i := 4) rfl; have HRP : Hid (Row _ _ _ _) := hRP; clear hRP; generalize (wr.alloc (.cells #[.int .i64 0, .int .u64 0, .slice none 0 0, .slice none 0 0, .int .i64 0] 35)).setCells wr.heap.size 0 (partCells kd nn q1 l1 c1 q2 l2 c2 mm) = W2 at *; simp only [Act.put])
              )
            have hPl : wr.heap.size < W2.heap.size := World.block_lt_of_cell? _ _ hc0
            have hs2 := hb2.size
            refine wp_region_held_drew (S := fun W => W.cell? ⟨wr.heap.size, 3, none⟩ = some (.slice q2 l2 c2)) (by kernel_rfl) hc3 (fun hHeld => ?_)
            refine wpAnyH_takesAt 0 1 5 (of_decide_eq_true (by kernel_rfl)) rfl (fun _ _ _ d _ h => by cases d <;> exact h) (by kernel_rfl) (by kernel_rfl) hHeld ?_
            simp only [List.drop_zero, List.take_succ_cons, List.take_zero]
            iterate 1 (refine wpHeld_step (v := ?_) (by rfl) (fun wz hSw => ?_) ?_; rotate_left; (focus ((try dsimp only at hSw); go_simp; try with_reducible rfl)); ((simp only [Act.put]; (try simp only [List.setIfInBounds_toArray]); (try simp only [List.set_cons_succ]); (try simp only [List.set_cons_zero]))))
            refine wpHeld_nil ?_
            refine wpAnyH_takesAt 2 2 3 (of_decide_eq_true (by kernel_rfl)) rfl (fun _ _ _ d _ h => by cases d <;> exact h) (by kernel_rfl) (by kernel_rfl) hHeld ?_
            simp only [List.drop_succ_cons, List.drop_zero, List.take_succ_cons, List.take_zero]
            iterate 2 (refine wpHeld_step (v := ?_) (by rfl) (fun wz hSw => ?_) ?_; rotate_left; (focus ((try dsimp only at hSw); go_simp; try with_reducible rfl)); (simp only [Act.put, List.setIfInBounds_toArray, List.set_cons_zero, List.set_cons_succ]))
            refine wpHeld_nil ?_
            refine wpAnyH_only (i := 1) (by kernel_rfl) rfl (fun K hK => ?_)
            rw [if_pos (by rfl)]
            go_simp
            refine (HC1.out W2.drew ((HRd.out.later hb2).later (Below.refl _ W2).drew)).mono ?_
            rintro e w3 ⟨v3, rfl, hown3, hR3, hbt3⟩
            have hbt3 : But R W2.heap.size W2 w3 := (But.refl R W2.heap.size W2).drew.trans hbt3
            have hs3 := hbt3.size
            have hP3 := but_cell hbt3 hPl hPR hc3
            have hb23 : Below w.heap.size wr w3 := (hb2.mono hsz).trans (hbt3.below (by omega) hwR)
            have hbE' : Below w.heap.size w w3 := hbel.trans hb23
            obtain ⟨q3, k3, hv3⟩ := hown3.slice
            rw [hl2] at hv3
            subst hv3
            have hI3 := hown3.ids hl2 HI2.out.2.2.2.1
            have hI4 := (HI2.out.below hb23).mono (show w.heap.size ≤ w3.heap.size by omega)
            refine hK.out _ _ hP3 ?_
            clear hK K hHeld
            have hHeld := hP3
            refine wpAnyH_only (i := 4) (by kernel_rfl) rfl (fun K hK => ?_)
            rw [if_pos (by rfl)]
            go_simp
            refine (sameIds_any q3 l2 k3 q2 c2 ids w3 hI3 hI4).mono ?_
            rintro e w4 ⟨rfl, hb4⟩
            have HR4 : Hid (RdAt w4 R (some ZS')) := hR3.later hb4
            have hbE : Below w.heap.size w w4 := hbE'.trans (hb4.mono hbE'.size)
            have hP5 := (hb4.cell (p := ⟨wr.heap.size, 3, none⟩) (show wr.heap.size < w3.heap.size by omega)).trans hP3
            refine hK.out _ _ hP5 ?_
            clear hK K hHeld hR3 hbt3 hown3 hI3 hI4 hbE'
            have hHeld := hP5
            refine wpAnyH_takesAt 5 1 0 (of_decide_eq_true (by kernel_rfl)) rfl (fun _ _ _ d _ h => by cases d <;> exact h) (by kernel_rfl) (by kernel_rfl) hHeld ?_
            simp only [List.drop_succ_cons, List.drop_zero, List.take_succ_cons, List.take_zero]
            iterate 1 (refine wpHeld_step (v := ?_) (by rfl) (fun wz hSw => ?_) ?_; rotate_left; (focus ((try dsimp only at hSw); go_simp; try with_reducible rfl)); ((simp only [Act.put]; (try simp only [List.setIfInBounds_toArray]); (try simp only [List.set_cons_succ]); (try simp only [List.set_cons_zero]))))
            refine wpHeld_nil ?_
            refine wpAnyH_done (by kernel_rfl) ?_ _
            clear hHeld hP3 hP5
            go_wp2
            go_roundw
            case rel => exact ⟨k + 1, by omega, by go_num, by rw [HZ'.out]; exact HR4.out, hbE⟩
            case measure => simp [intOf]; omega
    · obtain rfl : k = len := by omega
      have hki : ¬ (k : Int) < (k : Int) := by omega
      have HE : Hid (Calls Try.prog 23 #[.pointer (some ⟨R, 0, none⟩)] wr fun e w' => e = .returned (.int .i64 0) ∧ w' = wr) := by
        have h := end_any R _ wr hRd
        rw [List.drop_of_length_le (by rw [HL.out]; exact Nat.le_refl _)] at h
        exact h
      clear hRd
      go_wp2_with (go_at_call 23; refine HE.out.mono ?_; rintro e w5 ⟨rfl, hw5⟩; obtain rfl : wr = w5 := hw5.symm; clear hw5)
      go_ret
      exact ⟨rfl, hbel⟩

set_option maxHeartbeats 1000000 in
/-- CodecBack -/
theorem codecBack_walk (p : Option Addr) (len cap : Nat) (xs : List Pt) (w : World) (hI : IsParts w.heap.size w p len cap xs) :
    Calls Try.prog 5 #[.slice p len cap] w fun e w' => e = .returned (.bool true) ∧ Below w.heap.size w w' := by
  by_cases hf : fewB xs = true
  · exact codecBack_some p len cap xs w hI hf
  · have hf : fewB xs = false := by simpa using hf
    have HFew : Hid (∀ W, Below w.heap.size w W → Calls Try.prog 9 #[.slice p len cap] W fun e w' => e = .returned (.bool false) ∧ Below W.heap.size W w') := fun W hb => by
      have h := few_any p len cap xs W (hI.world hb)
      rw [hf] at h
      exact h
    clear hI hf
    go_enter Try.func5, Try.ntmps5
    go_wp2_with (first
      | (go_at_call 8; refine (awake_any _).mono ?_; rintro e w1 ⟨rfl, hb1⟩)
      | (go_at_call 9; refine (HFew.out w1 hb1).mono ?_; rintro e w2 ⟨rfl, hb2⟩; have hbA := hb1.trans (hb2.mono hb1.size); clear hb1 hb2))
    go_ret
    exact ⟨rfl, hbA⟩
end Go.Proofs.Ytdebcpfjldgalaa
