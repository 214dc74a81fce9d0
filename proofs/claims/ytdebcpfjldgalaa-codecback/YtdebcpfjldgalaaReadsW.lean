/-
  The law CodecReads, walked: for every bytes and every list of parts it returns true.
-/
import Derived.Test.YtdebcpfjldgalaaRdIds
import Derived.Test.YtdebcpfjldgalaaRfIds
import Derived.Test.YtdebcpfjldgalaaWrote
import Derived.Test.YtdebcpfjldgalaaAwake
namespace Go.Proofs.Ytdebcpfjldgalaa
open Go.RowKit

theorem drewN_below (n : Nat) (w : World) : Below w.heap.size w (w.drewN n) := below_drewN (Below.refl _ _) n
/-- How many bytes the reference's reader has. -/
theorem RfAt.rest {n₀ : Nat} {W : World} {B : Nat} : ∀ {st : Option (List Nat)}, RfAt n₀ W B st → ∃ q l c, W.cell? ⟨B, 0, none⟩ = some (.slice q l c) ∧ restN st = l ∧ l ≤ 100000
  | none, h => ⟨none, 0, 0, Row.cell h (i := 0) rfl, rfl, by omega⟩
  | some _, ⟨q, l, c, h1, h2, h3⟩ => ⟨q, l, c, h1.cell (i := 0) rfl, h2.1, h3⟩
theorem IsParts.world {w W : World} {p : Option Addr} {len cap : Nat} {xs : List Pt} (hI : IsParts w.heap.size w p len cap xs) (hb : Below w.heap.size w W) : IsParts W.heap.size W p len cap xs := by
  have h := hI.below hb
  have hs := hb.size
  refine ⟨h.1, h.2.1, h.2.2.1, ?_⟩
  rcases h.2.2.2 with e | ⟨b, off, e, hb', hc⟩
  · exact .inl e
  · refine .inr ⟨b, off, e, by omega, fun i hi => ?_⟩
    obtain ⟨q1, l1, c1, q2, l2, c2, h1, h2, h3, h4⟩ := hc i hi
    exact ⟨q1, l1, c1, q2, l2, c2, h1, h2.mono hs, h3.mono hs, h4⟩
theorem but_cell {B n : Nat} {w w' : World} (h : But B n w w') {b i : Nat} {v : Value} (hb : b < n) (hB : b ≠ B) (hc : w.cell? ⟨b, i, none⟩ = some v) : w'.cell? ⟨b, i, none⟩ = some v := by
  unfold World.cell? at hc ⊢
  rw [h.block b hb hB]
  exact hc
theorem ids_ok (zs : List Nat) (hz : ∀ z ∈ zs, z < 256) (n : Nat) (hn : 32 * n ≤ zs.length) : ∀ x ∈ idsOf zs n, x.length = 32 ∧ ∀ z ∈ x, z < 256 := by
  intro x hx
  obtain ⟨j, hj, rfl⟩ := List.mem_map.1 hx
  have hj : j < n := by simpa using hj
  exact ⟨by simp; omega, fun z h => hz z (List.mem_of_mem_drop (List.mem_of_mem_take h))⟩
theorem readN_bytes {most : Nat} {zs0 zs : List Nat} (h : (readN most (some zs0)).2 = some zs) (hz : ∀ z ∈ zs0, z < 256) : ∀ z ∈ zs, z < 256 := by
  cases hn : numL zs0 0 0 with
  | none => rw [readN_bad hn] at h; cases h
  | some y =>
    obtain ⟨x, s⟩ := y
    by_cases hm : most < x
    · rw [readN_over hn hm] at h; cases h
    · rw [readN_some hn hm] at h; cases h; exact fun z hzz => hz z (List.mem_of_mem_drop hzz)
theorem readIds_ok {z : Int} {st : Option (List Nat)} (hz : ∀ zs, st = some zs → ∀ x ∈ zs, x < 256) : ∀ x ∈ (readIds z st).1, x.length = 32 ∧ ∀ y ∈ x, y < 256 := by
  unfold readIds
  cases hst : (readCount z st).2 with
  | none => simp [takeIds]
  | some zs =>
    have hzs : ∀ x ∈ zs, x < 256 := by
      by_cases h0 : z < 0
      · rw [readCount, if_pos h0] at hst; cases hst
      · rw [readCount, if_neg h0] at hst
        cases st with
        | none => cases hst
        | some zs0 => exact readN_bytes hst (hz zs0 rfl)
    by_cases hlt : zs.length / 32 < (readCount z st).1
    · rw [show takeIds (readCount z st).1 (some zs) = ([], none) from if_pos hlt]; simp
    · rw [show takeIds (readCount z st).1 (some zs) = (idsOf zs (readCount z st).1, some (zs.drop (32 * (readCount z st).1))) from if_neg hlt]
      exact ids_ok zs hzs _ (by omega)
theorem RdAt.bytes {W : World} {B : Nat} {st : Option (List Nat)} (h : RdAt W B st) : ∀ zs, st = some zs → ∀ x ∈ zs, x < 256 := fun zs e => by
  subst e
  obtain ⟨_, _, _, _, h2, _⟩ := h
  exact h2.2.2.2.1

set_option maxRecDepth 100000 in
set_option maxHeartbeats 8000000 in
theorem codecReads_some (p1 : Option Addr) (len1 cap1 : Nat) (zs : List Nat) (p : Option Addr) (len cap : Nat) (xs : List Pt) (w : World) (hJ : IsBytes w.heap.size w p1 len1 cap1 zs) (hI : IsParts w.heap.size w p len cap xs) (hf : fewB xs = true) (hlen1 : len1 ≤ 500) :
    Calls Try.prog 4 #[.slice p1 len1 cap1, .slice p len cap] w fun e w' => e = .returned (.bool true) ∧ Below w.heap.size w w' := by
  have h500 : ¬ (500 : Int) < (len1 : Int) := by omega
  have HI : Hid (IsParts w.heap.size w p len cap xs) := hI
  have HJ : Hid (IsBytes w.heap.size w p1 len1 cap1 zs) := hJ
  have hl20 : len ≤ 20 := by rw [← hI.1]; exact (few_small hf).2
  have HFew : Hid (∀ W, Below w.heap.size w W → Calls Try.prog 9 #[.slice p len cap] W fun e w' => e = .returned (.bool true) ∧ Below W.heap.size W w') := fun W hb => by
    have h := few_any p len cap xs W (HI.out.world hb)
    rw [hf] at h
    exact h
  clear hI hJ hf
  go_enter Try.func4, Try.ntmps4
  go_wp2_with (first
    | (go_at_call 8; refine (awake_any _).mono ?_; rintro e w1 ⟨rfl, hb1⟩)
    | (go_at_call 9; refine (HFew.out w1 hb1).mono ?_; rintro e w2 ⟨rfl, hb2⟩; have hbA := hb1.trans (hb2.mono hb1.size); clear hb1 hb2)
    | (go_at_call 12; refine (read_any p1 len1 cap1 zs (by omega) w2 ((HJ.out.below hbA).mono hbA.size)).mono ?_; rintro e w3 ⟨R, rfl, hR, hR3, hb3⟩; have hwR : w.heap.size ≤ R := Nat.le_trans hbA.size hR; have hbB := hbA.trans (hb3.mono hbA.size); have HR3 : Hid (RdAt w3 R (some zs)) := hR3; have hRX := hR3.lt; clear hR3 hb3 hbA hR))
  have hbC : Below w.heap.size w (w3.alloc (.cells #[.slice p1 len1 cap1, .bool false] 31)) := hbB.alloc hbB.size _
  have HR3' : Hid (RdAt (w3.alloc (.cells #[.slice p1 len1 cap1, .bool false] 31)) R (some zs)) := HR3.out.later ((Below.refl _ w3).alloc (Nat.le_refl _) _)
  have HF3' : Hid (RfAt w.heap.size (w3.alloc (.cells #[.slice p1 len1 cap1, .bool false] 31)) w3.heap.size (some zs)) := ⟨p1, len1, cap1, Row.new w3 31 _, HJ.out.below hbC, by omega⟩
  have hwX : w.heap.size ≤ w3.heap.size := hbB.size
  clear HR3 hbB
  generalize w3.heap.size = X at *
  go_loopw [26] (fun i wr => ∃ (k : Nat) (st : Option (List Nat)), k ≤ len ∧ i = .int .i64 k ∧ RdAt wr R st ∧ RfAt w.heap.size wr X st ∧ Below w.heap.size w wr) (fun i _ => len - (intOf i).toNat)
  case atStart => exact ⟨0, some zs, Nat.zero_le _, rfl, HR3'.out, HF3'.out, hbC⟩
  case round =>
    clear HR3' HF3' hbC
    obtain ⟨k, st, hk, rfl, hRd, hRf, hbel⟩ := hrel
    have HRd : Hid (RdAt wr R st) := hRd
    have HRf : Hid (RfAt w.heap.size wr X st) := hRf
    have hsz := hbel.size
    have hRl := hRd.lt
    have hXl := hRf.lt
    clear hRd hRf
    by_cases hlt : k < len
    · have hki : (k : Int) < (len : Int) := by omega
      obtain ⟨b, off, rfl, hb, hP⟩ := (HI.out.below hbel).at hlt
      generalize xs.getD k noPt = x at *
      obtain ⟨q1, l1, c1, q2, l2, c2, hrg, _, _, hn, hmm⟩ := hP
      generalize x.kind = kd at *
      generalize x.n = nn at *
      generalize x.most = mm at *
      have HRg : Hid (wr.rangeAt b (off + k * 5) (partCells kd nn q1 l1 c1 q2 l2 c2 mm)) := hrg
      have hPR : wr.heap.size ≠ R := by omega
      have hPX : wr.heap.size ≠ X := by omega
      clear hrg
      by_cases hk0 : kd = 0
      · subst hk0
        have HC1 : Hid (∀ W, RdAt W R st → Calls Try.prog 13 #[.pointer (some ⟨R, 0, none⟩), .int .u64 (nn : Nat)] W fun e w' => e = .returned (.int .u64 ((readN nn st).1 : Nat)) ∧ RdAt w' R (readN nn st).2 ∧ But R W.heap.size W w') := fun W h => readerN_any R st nn hn W h
        have HC2 : Hid (∀ W, RfAt w.heap.size W X st → Calls Try.prog 14 #[.pointer (some ⟨X, 0, none⟩), .int .u64 (nn : Nat)] W fun e w' => e = .returned (.int .u64 ((readN nn st).1 : Nat)) ∧ RfAt w.heap.size w' X (readN nn st).2 ∧ But X W.heap.size W w') := fun W h => refRN_any _ X nn hwX st W h
        generalize (readN nn st).1 = E at *
        generalize (readN nn st).2 = st' at *
        go_wp2_with (first
          | ((with_reducible show wpList _ _ _ (Oper.mk _ (Op.load 35 (.tmp 28)) _ _ _ _ :: _) _ _); refine wpList_load_mid rfl 35 (.tmp 28) rfl b (off + k * 5) rfl (partCells 0 nn q1 l1 c1 q2 l2 c2 mm) _ HRg.out Try.underlying35 rfl size35 ?_; simp only [Act.put, List.setIfInBounds_toArray, List.set_cons_zero, List.set_cons_succ])
          | ((with_reducible show wpList _ _ _ (Oper.mk _ (Op.store 35 (.tmp 8) (.tmp 29)) _ _ _ _ :: _) _ _); refine wpList_store_Row rfl 35 (.tmp 8) (.tmp 29) rfl (partCells 0 nn q1 l1 c1 q2 l2 c2 mm) rfl rfl (Row.new wr 35 #[.int .i64 0, .int .u64 0, .slice none 0 0, .slice none 0 0, .int .i64 0]) size35 rfl (partCells_one _ _ _ _ _ _ _ _ _) ?_; have hRP := (Row.new wr 35 #[.int .i64 0, .int .u64 0, .slice none 0 0, .slice none 0 0, .int .i64 0]).sets_all (vs := partCells 0 nn q1 l1 c1 q2 l2 c2 mm) rfl; have hb2 : Below wr.heap.size wr ((wr.alloc (.cells #[.int .i64 0, .int .u64 0, .slice none 0 0, .slice none 0 0, .int .i64 0] 35)).setCells wr.heap.size 0 (partCells 0 nn q1 l1 c1 q2 l2 c2 mm)) := below_setCells (Nat.le_refl _) _ _ ((Below.refl _ wr).alloc (Nat.le_refl _) _); have hc0 := hRP.cell (i := 0) rfl; have hc1 := hRP.cell (i := 1) rfl; have hc2 := hRP.cell (i := 2) rfl; have hc3 := hRP.cell (i := 3) rfl; have hc4 := hRP.cell (i := 4) rfl; have HRP : Hid (Row _ _ _ _) := hRP; clear hRP; generalize (wr.alloc (.cells #[.int .i64 0, .int .u64 0, .slice none 0 0, .slice none 0 0, .int .i64 0] 35)).setCells wr.heap.size 0 (partCells 0 nn q1 l1 c1 q2 l2 c2 mm) = W2 at *; simp only [Act.put])
          )
        have hPl : wr.heap.size < W2.heap.size := World.block_lt_of_cell? _ _ hc0
        have hs2 := hb2.size
        refine wp_region_held_drew (S := fun W => W.cell? ⟨wr.heap.size, 1, none⟩ = some (.int .u64 (nn : Nat))) (by kernel_rfl) hc1 (fun hHeld => ?_)
        refine wpAnyH_takesAt 0 3 6 (of_decide_eq_true (by kernel_rfl)) rfl (fun _ _ _ d _ h => by cases d <;> exact h) (by kernel_rfl) (by kernel_rfl) hHeld ?_
        simp only [List.drop_zero, List.take_succ_cons, List.take_zero]
        iterate 3 (refine wpHeld_step (v := ?_) (by rfl) (fun wz hSw => ?_) ?_; rotate_left; (focus ((try dsimp only at hSw); go_simp; try with_reducible rfl)); (simp only [Act.put, List.setIfInBounds_toArray, List.set_cons_zero, List.set_cons_succ]))
        refine wpHeld_nil ?_
        refine wpAnyH_takesAt 4 3 3 (of_decide_eq_true (by kernel_rfl)) rfl (fun _ _ _ d _ h => by cases d <;> exact h) (by kernel_rfl) (by kernel_rfl) hHeld ?_
        simp only [List.drop_succ_cons, List.drop_zero, List.take_succ_cons, List.take_zero]
        iterate 3 (refine wpHeld_step (v := ?_) (by rfl) (fun wz hSw => ?_) ?_; rotate_left; (focus ((try dsimp only at hSw); go_simp; try with_reducible rfl)); (simp only [Act.put, List.setIfInBounds_toArray, List.set_cons_zero, List.set_cons_succ]))
        refine wpHeld_nil ?_
        refine wpAnyH_only (i := 3) (by kernel_rfl) rfl (fun K hK => ?_)
        rw [if_pos (by rfl)]
        go_simp
        refine (HC1.out W2.drew ((HRd.out.later hb2).later (Below.refl _ W2).drew)).mono ?_
        rintro e w3 ⟨rfl, hR3, hbt3⟩
        have hbt3 : But R W2.heap.size W2 w3 := (But.refl R W2.heap.size W2).drew.trans hbt3
        have hP3 := but_cell hbt3 hPl hPR hc1
        have HF3 : Hid (RfAt w.heap.size w3 X st) := RfAt.but hbt3 (by omega) hwR (by omega) (HRf.out.later hsz hb2)
        refine hK.out _ _ hP3 ?_
        clear hK K hHeld
        have hHeld := hP3
        refine wpAnyH_only (i := 7) (by kernel_rfl) rfl (fun K hK => ?_)
        rw [if_pos (by rfl)]
        go_simp
        refine (HC2.out w3 HF3.out).mono ?_
        rintro e w4 ⟨rfl, hF4, hbt4⟩
        have hs3 := hbt3.size
        have HR4 : Hid (RdAt w4 R st') := hR3.but hbt4 hRX
        have HF4 : Hid (RfAt w.heap.size w4 X st') := hF4
        have hP4 := but_cell hbt4 (by omega) hPX hP3
        have hbE : Below w.heap.size w w4 := (hbel.trans (hb2.mono hsz)).trans ((hbt3.below (by omega) hwR).trans (hbt4.below (by omega) hwX))
        refine hK.out _ _ hP4 ?_
        clear hK K hHeld hR3 hF4 hbt3 hbt4 HF3
        have hHeld := hP4
        refine wpAnyH_takesAt 8 1 0 (of_decide_eq_true (by kernel_rfl)) rfl (fun _ _ _ d _ h => by cases d <;> exact h) (by kernel_rfl) (by kernel_rfl) hHeld ?_
        simp only [List.drop_succ_cons, List.drop_zero, List.take_succ_cons, List.take_zero]
        iterate 1 (refine wpHeld_step (v := ?_) (by rfl) (fun wz hSw => ?_) ?_; rotate_left; (focus ((try dsimp only at hSw); go_simp; try with_reducible rfl)); ((simp only [Act.put]; (try simp only [List.setIfInBounds_toArray]); (try simp only [List.set_cons_succ]); (try simp only [List.set_cons_zero]))))
        refine wpHeld_nil ?_
        refine wpAnyH_done (by kernel_rfl) ?_ _
        clear hHeld hP3 hP4
        go_wp2
        have HL : Hid (∀ m, Calls Try.prog 22 #[.pointer (some ⟨R, 0, none⟩)] (w4.drewN m) fun e w' => e = .returned (.int .i64 (restN st' : Nat)) ∧ w' = w4.drewN m) := fun m => rest_any R st' _ (HR4.out.later (drewN_below m w4))
        obtain ⟨qx, lx, cx, cX, hlx, hlx2⟩ := HF4.out.rest
        rw [hlx] at HL
        clear hlx
        go_quiet ((go_at_call 22; exact Calls.mono (HL.out _) (fun _ _ h => ⟨h.1, _, h.2⟩)))
        go_wp2
        go_roundw
        case rel => exact ⟨k + 1, st', by omega, by go_num, HR4.out.later (drewN_below _ _), HF4.out.later hbE.size (drewN_below _ _), hbE.trans ((drewN_below _ _).mono hbE.size)⟩
        case measure => simp [intOf]; omega
      · by_cases hk1 : kd = 1
        · subst hk1
          have HC1 : Hid (∀ W, RdAt W R st → Calls Try.prog 15 #[.pointer (some ⟨R, 0, none⟩), .int .i64 mm] W fun e w' => ∃ v, e = .returned v ∧ Own W.heap.size w' v (readRaw mm st).1 ∧ RdAt w' R (readRaw mm st).2 ∧ But R W.heap.size W w') := fun W h => readerRaw_any R st mm W h
          have HC2 : Hid (∀ W, RfAt w.heap.size W X st → Calls Try.prog 16 #[.pointer (some ⟨X, 0, none⟩), .int .i64 mm] W fun e w' => ∃ q l c, e = .returned (.slice q l c) ∧ IsBytes w.heap.size w' q l c (readRaw mm st).1 ∧ RfAt w.heap.size w' X (readRaw mm st).2 ∧ But X W.heap.size W w') := fun W h => refRaw_any _ X st mm W hwX h
          generalize (readRaw mm st).1 = T at *
          generalize (readRaw mm st).2 = st' at *
          go_wp2_with (first
            | ((with_reducible show wpList _ _ _ (Oper.mk _ (Op.load 35 (.tmp 28)) _ _ _ _ :: _) _ _); refine wpList_load_mid rfl 35 (.tmp 28) rfl b (off + k * 5) rfl (partCells 1 nn q1 l1 c1 q2 l2 c2 mm) _ HRg.out Try.underlying35 rfl size35 ?_; simp only [Act.put, List.setIfInBounds_toArray, List.set_cons_zero, List.set_cons_succ])
            | ((with_reducible show wpList _ _ _ (Oper.mk _ (Op.store 35 (.tmp 8) (.tmp 29)) _ _ _ _ :: _) _ _); refine wpList_store_Row rfl 35 (.tmp 8) (.tmp 29) rfl (partCells 1 nn q1 l1 c1 q2 l2 c2 mm) rfl rfl (Row.new wr 35 #[.int .i64 0, .int .u64 0, .slice none 0 0, .slice none 0 0, .int .i64 0]) size35 rfl (partCells_one _ _ _ _ _ _ _ _ _) ?_; have hRP := (Row.new wr 35 #[.int .i64 0, .int .u64 0, .slice none 0 0, .slice none 0 0, .int .i64 0]).sets_all (vs := partCells 1 nn q1 l1 c1 q2 l2 c2 mm) rfl; have hb2 : Below wr.heap.size wr ((wr.alloc (.cells #[.int .i64 0, .int .u64 0, .slice none 0 0, .slice none 0 0, .int .i64 0] 35)).setCells wr.heap.size 0 (partCells 1 nn q1 l1 c1 q2 l2 c2 mm)) := below_setCells (Nat.le_refl _) _ _ ((Below.refl _ wr).alloc (Nat.le_refl _) _); have hc0 := hRP.cell (i := 0) rfl; have hc1 := hRP.cell (i := 1) rfl; have hc2 := hRP.cell (i := 2) rfl; have hc3 := hRP.cell (i := 3) rfl; have hc4 := hRP.cell (i := 4) rfl; have HRP : Hid (Row _ _ _ _) := hRP; clear hRP; generalize (wr.alloc (.cells #[.int .i64 0, .int .u64 0, .slice none 0 0, .slice none 0 0, .int .i64 0] 35)).setCells wr.heap.size 0 (partCells 1 nn q1 l1 c1 q2 l2 c2 mm) = W2 at *; simp only [Act.put])
            )
          have hPl : wr.heap.size < W2.heap.size := World.block_lt_of_cell? _ _ hc0
          have hs2 := hb2.size
          refine wp_region_held_drew (S := fun W => W.cell? ⟨wr.heap.size, 4, none⟩ = some (.int .i64 mm)) (by kernel_rfl) hc4 (fun hHeld => ?_)
          refine wpAnyH_takesAt 0 3 8 (of_decide_eq_true (by kernel_rfl)) rfl (fun _ _ _ d _ h => by cases d <;> exact h) (by kernel_rfl) (by kernel_rfl) hHeld ?_
          simp only [List.drop_zero, List.take_succ_cons, List.take_zero]
          iterate 3 (refine wpHeld_step (v := ?_) (by rfl) (fun wz hSw => ?_) ?_; rotate_left; (focus ((try dsimp only at hSw); go_simp; try with_reducible rfl)); (simp only [Act.put, List.setIfInBounds_toArray, List.set_cons_zero, List.set_cons_succ]))
          refine wpHeld_nil ?_
          refine wpAnyH_takesAt 5 3 5 (of_decide_eq_true (by kernel_rfl)) rfl (fun _ _ _ d _ h => by cases d <;> exact h) (by kernel_rfl) (by kernel_rfl) hHeld ?_
          simp only [List.drop_succ_cons, List.drop_zero, List.take_succ_cons, List.take_zero]
          iterate 3 (refine wpHeld_step (v := ?_) (by rfl) (fun wz hSw => ?_) ?_; rotate_left; (focus ((try dsimp only at hSw); go_simp; try with_reducible rfl)); (simp only [Act.put, List.setIfInBounds_toArray, List.set_cons_zero, List.set_cons_succ]))
          refine wpHeld_nil ?_
          refine wpAnyH_only (i := 3) (by kernel_rfl) rfl (fun K hK => ?_)
          rw [if_pos (by rfl)]
          go_simp
          refine (HC1.out W2.drew ((HRd.out.later hb2).later (Below.refl _ W2).drew)).mono ?_
          rintro e w3 ⟨v3, rfl, hown3, hR3, hbt3⟩
          have hbt3 : But R W2.heap.size W2 w3 := (But.refl R W2.heap.size W2).drew.trans hbt3
          have hown3 : Own W2.heap.size w3 v3 T := hown3
          have hP3 := but_cell hbt3 hPl hPR hc4
          have HF3 : Hid (RfAt w.heap.size w3 X st) := RfAt.but hbt3 (by omega) hwR (by omega) (HRf.out.later hsz hb2)
          refine hK.out _ _ hP3 ?_
          clear hK K hHeld
          have hcv3 := (own_str hown3).here
          refine wpAnyH_more (S' := fun W => W.cell? ⟨wr.heap.size, 4, none⟩ = some (.int .i64 mm) ∧ (convert 25 9 v3).run Try.prog W = .ok (.string (strOf T)) W) (fun W h => h.1) _ _ _ _ ?_
          have hHeld : w3.cell? ⟨wr.heap.size, 4, none⟩ = some (.int .i64 mm) ∧ (convert 25 9 v3).run Try.prog w3 = .ok (.string (strOf T)) w3 := ⟨hP3, hcv3⟩
          refine wpAnyH_takesAt 4 1 3 (of_decide_eq_true (by kernel_rfl)) rfl (fun _ _ _ d _ h => by cases d <;> exact h) (by kernel_rfl) (by kernel_rfl) hHeld ?_
          simp only [List.drop_succ_cons, List.drop_zero, List.take_succ_cons, List.take_zero]
          iterate 1 (refine wpHeld_step (v := ?_) (by rfl) (fun wz hSw => ?_) ?_; rotate_left; (focus (have hcv := hSw.2; go_simp; try with_reducible rfl)); ((simp only [Act.put]; (try simp only [List.setIfInBounds_toArray]); (try simp only [List.set_cons_succ]); (try simp only [List.set_cons_zero]))))
          refine wpHeld_nil ?_
          refine wpAnyH_only (i := 8) (by kernel_rfl) rfl (fun K hK => ?_)
          rw [if_pos (by rfl)]
          go_simp
          refine (HC2.out w3 HF3.out).mono ?_
          rintro e w4 ⟨q4, l4, k4, rfl, hI4, hF4, hbt4⟩
          have hs3 := hbt3.size
          have hs4 := hbt4.size
          have HR4 : Hid (RdAt w4 R st') := hR3.but hbt4 hRX
          have HF4 : Hid (RfAt w.heap.size w4 X st') := hF4
          have hP4 := but_cell hbt4 (by omega) hPX hP3
          have hbE : Below w.heap.size w w4 := (hbel.trans (hb2.mono hsz)).trans ((hbt3.below (by omega) hwR).trans (hbt4.below (by omega) hwX))
          have hcv4 := (own_str (hown3.but hbt4 (by omega))).here
          have hcw4 := (str_of_bytes (hI4.mono (show w.heap.size ≤ w4.heap.size by omega))).here
          refine hK.out _ _ ⟨hP4, hcv4⟩ ?_
          clear hK K hHeld hR3 hF4 hbt3 hbt4 HF3 hown3 hcv3
          generalize strOf T = s at *
          refine wpAnyH_more (S' := fun W => (W.cell? ⟨wr.heap.size, 4, none⟩ = some (.int .i64 mm) ∧ (convert 25 9 v3).run Try.prog W = .ok (.string s) W) ∧ (convert 25 9 (.slice q4 l4 k4)).run Try.prog W = .ok (.string s) W) (fun W h => h.1) _ _ _ _ ?_
          have hHeld : (w4.cell? ⟨wr.heap.size, 4, none⟩ = some (.int .i64 mm) ∧ (convert 25 9 v3).run Try.prog w4 = .ok (.string s) w4) ∧ (convert 25 9 (.slice q4 l4 k4)).run Try.prog w4 = .ok (.string s) w4 := ⟨⟨hP4, hcv4⟩, hcw4⟩
          refine wpAnyH_takesAt 9 2 0 (of_decide_eq_true (by kernel_rfl)) rfl (fun _ _ _ d _ h => by cases d <;> exact h) (by kernel_rfl) (by kernel_rfl) hHeld ?_
          simp only [List.drop_succ_cons, List.drop_zero, List.take_succ_cons, List.take_zero]
          iterate 2 (refine wpHeld_step (v := ?_) (by rfl) (fun wz hSw => ?_) ?_; rotate_left; (focus (have hcv := hSw.2; go_simp; try with_reducible rfl)); (simp only [Act.put, List.setIfInBounds_toArray, List.set_cons_zero, List.set_cons_succ]))
          refine wpHeld_nil ?_
          refine wpAnyH_done (by kernel_rfl) ?_ _
          clear hHeld hP3 hP4 hcv4 hcw4
          go_wp2
          have HL : Hid (∀ m, Calls Try.prog 22 #[.pointer (some ⟨R, 0, none⟩)] (w4.drewN m) fun e w' => e = .returned (.int .i64 (restN st' : Nat)) ∧ w' = w4.drewN m) := fun m => rest_any R st' _ (HR4.out.later (drewN_below m w4))
          obtain ⟨qx, lx, cx, cX, hlx, hlx2⟩ := HF4.out.rest
          rw [hlx] at HL
          clear hlx
          go_quiet ((go_at_call 22; exact Calls.mono (HL.out _) (fun _ _ h => ⟨h.1, _, h.2⟩)))
          go_wp2
          go_roundw
          case rel => exact ⟨k + 1, st', by omega, by go_num, HR4.out.later (drewN_below _ _), HF4.out.later hbE.size (drewN_below _ _), hbE.trans ((drewN_below _ _).mono hbE.size)⟩
          case measure => simp [intOf]; omega
        · by_cases hk2 : kd = 2
          · subst hk2
            have HC1 : Hid (∀ W, RdAt W R st → Calls Try.prog 17 #[.pointer (some ⟨R, 0, none⟩), .int .i64 mm] W fun e w' => ∃ v, e = .returned v ∧ Own W.heap.size w' v (readText mm st).1 ∧ RdAt w' R (readText mm st).2 ∧ But R W.heap.size W w') := fun W h => readerText_any R st mm hmm.2 W h
            have HC2 : Hid (∀ W, RfAt w.heap.size W X st → Calls Try.prog 18 #[.pointer (some ⟨X, 0, none⟩), .int .i64 mm] W fun e w' => ∃ q l c, e = .returned (.slice q l c) ∧ IsBytes w.heap.size w' q l c (readText mm st).1 ∧ RfAt w.heap.size w' X (readText mm st).2 ∧ But X W.heap.size W w') := fun W h => refRText_any _ X st mm hmm.2 W hwX h
            generalize (readText mm st).1 = T at *
            generalize (readText mm st).2 = st' at *
            go_wp2_with (first
              | ((with_reducible show wpList _ _ _ (Oper.mk _ (Op.load 35 (.tmp 28)) _ _ _ _ :: _) _ _); refine wpList_load_mid rfl 35 (.tmp 28) rfl b (off + k * 5) rfl (partCells 2 nn q1 l1 c1 q2 l2 c2 mm) _ HRg.out Try.underlying35 rfl size35 ?_; simp only [Act.put, List.setIfInBounds_toArray, List.set_cons_zero, List.set_cons_succ])
              | ((with_reducible show wpList _ _ _ (Oper.mk _ (Op.store 35 (.tmp 8) (.tmp 29)) _ _ _ _ :: _) _ _); refine wpList_store_Row rfl 35 (.tmp 8) (.tmp 29) rfl (partCells 2 nn q1 l1 c1 q2 l2 c2 mm) rfl rfl (Row.new wr 35 #[.int .i64 0, .int .u64 0, .slice none 0 0, .slice none 0 0, .int .i64 0]) size35 rfl (partCells_one _ _ _ _ _ _ _ _ _) ?_; have hRP := (Row.new wr 35 #[.int .i64 0, .int .u64 0, .slice none 0 0, .slice none 0 0, .int .i64 0]).sets_all (vs := partCells 2 nn q1 l1 c1 q2 l2 c2 mm) rfl; have hb2 : Below wr.heap.size wr ((wr.alloc (.cells #[.int .i64 0, .int .u64 0, .slice none 0 0, .slice none 0 0, .int .i64 0] 35)).setCells wr.heap.size 0 (partCells 2 nn q1 l1 c1 q2 l2 c2 mm)) := below_setCells (Nat.le_refl _) _ _ ((Below.refl _ wr).alloc (Nat.le_refl _) _); have hc0 := hRP.cell (i := 0) rfl; have hc1 := hRP.cell (i := 1) rfl; have hc2 := hRP.cell (i := 2) rfl; have hc3 := hRP.cell (i := 3) rfl; have hc4 := hRP.cell (i := 4) rfl; have HRP : Hid (Row _ _ _ _) := hRP; clear hRP; generalize (wr.alloc (.cells #[.int .i64 0, .int .u64 0, .slice none 0 0, .slice none 0 0, .int .i64 0] 35)).setCells wr.heap.size 0 (partCells 2 nn q1 l1 c1 q2 l2 c2 mm) = W2 at *; simp only [Act.put])
              )
            have hPl : wr.heap.size < W2.heap.size := World.block_lt_of_cell? _ _ hc0
            have hs2 := hb2.size
            refine wp_region_held_drew (S := fun W => W.cell? ⟨wr.heap.size, 4, none⟩ = some (.int .i64 mm)) (by kernel_rfl) hc4 (fun hHeld => ?_)
            refine wpAnyH_takesAt 0 3 8 (of_decide_eq_true (by kernel_rfl)) rfl (fun _ _ _ d _ h => by cases d <;> exact h) (by kernel_rfl) (by kernel_rfl) hHeld ?_
            simp only [List.drop_zero, List.take_succ_cons, List.take_zero]
            iterate 3 (refine wpHeld_step (v := ?_) (by rfl) (fun wz hSw => ?_) ?_; rotate_left; (focus ((try dsimp only at hSw); go_simp; try with_reducible rfl)); (simp only [Act.put, List.setIfInBounds_toArray, List.set_cons_zero, List.set_cons_succ]))
            refine wpHeld_nil ?_
            refine wpAnyH_takesAt 5 3 5 (of_decide_eq_true (by kernel_rfl)) rfl (fun _ _ _ d _ h => by cases d <;> exact h) (by kernel_rfl) (by kernel_rfl) hHeld ?_
            simp only [List.drop_succ_cons, List.drop_zero, List.take_succ_cons, List.take_zero]
            iterate 3 (refine wpHeld_step (v := ?_) (by rfl) (fun wz hSw => ?_) ?_; rotate_left; (focus ((try dsimp only at hSw); go_simp; try with_reducible rfl)); (simp only [Act.put, List.setIfInBounds_toArray, List.set_cons_zero, List.set_cons_succ]))
            refine wpHeld_nil ?_
            refine wpAnyH_only (i := 3) (by kernel_rfl) rfl (fun K hK => ?_)
            rw [if_pos (by rfl)]
            go_simp
            refine (HC1.out W2.drew ((HRd.out.later hb2).later (Below.refl _ W2).drew)).mono ?_
            rintro e w3 ⟨v3, rfl, hown3, hR3, hbt3⟩
            have hbt3 : But R W2.heap.size W2 w3 := (But.refl R W2.heap.size W2).drew.trans hbt3
            have hown3 : Own W2.heap.size w3 v3 T := hown3
            have hP3 := but_cell hbt3 hPl hPR hc4
            have HF3 : Hid (RfAt w.heap.size w3 X st) := RfAt.but hbt3 (by omega) hwR (by omega) (HRf.out.later hsz hb2)
            refine hK.out _ _ hP3 ?_
            clear hK K hHeld
            have hcv3 := (own_str hown3).here
            refine wpAnyH_more (S' := fun W => W.cell? ⟨wr.heap.size, 4, none⟩ = some (.int .i64 mm) ∧ (convert 25 9 v3).run Try.prog W = .ok (.string (strOf T)) W) (fun W h => h.1) _ _ _ _ ?_
            have hHeld : w3.cell? ⟨wr.heap.size, 4, none⟩ = some (.int .i64 mm) ∧ (convert 25 9 v3).run Try.prog w3 = .ok (.string (strOf T)) w3 := ⟨hP3, hcv3⟩
            refine wpAnyH_takesAt 4 1 3 (of_decide_eq_true (by kernel_rfl)) rfl (fun _ _ _ d _ h => by cases d <;> exact h) (by kernel_rfl) (by kernel_rfl) hHeld ?_
            simp only [List.drop_succ_cons, List.drop_zero, List.take_succ_cons, List.take_zero]
            iterate 1 (refine wpHeld_step (v := ?_) (by rfl) (fun wz hSw => ?_) ?_; rotate_left; (focus (have hcv := hSw.2; go_simp; try with_reducible rfl)); ((simp only [Act.put]; (try simp only [List.setIfInBounds_toArray]); (try simp only [List.set_cons_succ]); (try simp only [List.set_cons_zero]))))
            refine wpHeld_nil ?_
            refine wpAnyH_only (i := 8) (by kernel_rfl) rfl (fun K hK => ?_)
            rw [if_pos (by rfl)]
            go_simp
            refine (HC2.out w3 HF3.out).mono ?_
            rintro e w4 ⟨q4, l4, k4, rfl, hI4, hF4, hbt4⟩
            have hs3 := hbt3.size
            have hs4 := hbt4.size
            have HR4 : Hid (RdAt w4 R st') := hR3.but hbt4 hRX
            have HF4 : Hid (RfAt w.heap.size w4 X st') := hF4
            have hP4 := but_cell hbt4 (by omega) hPX hP3
            have hbE : Below w.heap.size w w4 := (hbel.trans (hb2.mono hsz)).trans ((hbt3.below (by omega) hwR).trans (hbt4.below (by omega) hwX))
            have hcv4 := (own_str (hown3.but hbt4 (by omega))).here
            have hcw4 := (str_of_bytes (hI4.mono (show w.heap.size ≤ w4.heap.size by omega))).here
            refine hK.out _ _ ⟨hP4, hcv4⟩ ?_
            clear hK K hHeld hR3 hF4 hbt3 hbt4 HF3 hown3 hcv3
            generalize strOf T = s at *
            refine wpAnyH_more (S' := fun W => (W.cell? ⟨wr.heap.size, 4, none⟩ = some (.int .i64 mm) ∧ (convert 25 9 v3).run Try.prog W = .ok (.string s) W) ∧ (convert 25 9 (.slice q4 l4 k4)).run Try.prog W = .ok (.string s) W) (fun W h => h.1) _ _ _ _ ?_
            have hHeld : (w4.cell? ⟨wr.heap.size, 4, none⟩ = some (.int .i64 mm) ∧ (convert 25 9 v3).run Try.prog w4 = .ok (.string s) w4) ∧ (convert 25 9 (.slice q4 l4 k4)).run Try.prog w4 = .ok (.string s) w4 := ⟨⟨hP4, hcv4⟩, hcw4⟩
            refine wpAnyH_takesAt 9 2 0 (of_decide_eq_true (by kernel_rfl)) rfl (fun _ _ _ d _ h => by cases d <;> exact h) (by kernel_rfl) (by kernel_rfl) hHeld ?_
            simp only [List.drop_succ_cons, List.drop_zero, List.take_succ_cons, List.take_zero]
            iterate 2 (refine wpHeld_step (v := ?_) (by rfl) (fun wz hSw => ?_) ?_; rotate_left; (focus (have hcv := hSw.2; go_simp; try with_reducible rfl)); (simp only [Act.put, List.setIfInBounds_toArray, List.set_cons_zero, List.set_cons_succ]))
            refine wpHeld_nil ?_
            refine wpAnyH_done (by kernel_rfl) ?_ _
            clear hHeld hP3 hP4 hcv4 hcw4
            go_wp2
            have HL : Hid (∀ m, Calls Try.prog 22 #[.pointer (some ⟨R, 0, none⟩)] (w4.drewN m) fun e w' => e = .returned (.int .i64 (restN st' : Nat)) ∧ w' = w4.drewN m) := fun m => rest_any R st' _ (HR4.out.later (drewN_below m w4))
            obtain ⟨qx, lx, cx, cX, hlx, hlx2⟩ := HF4.out.rest
            rw [hlx] at HL
            clear hlx
            go_quiet ((go_at_call 22; exact Calls.mono (HL.out _) (fun _ _ h => ⟨h.1, _, h.2⟩)))
            go_wp2
            go_roundw
            case rel => exact ⟨k + 1, st', by omega, by go_num, HR4.out.later (drewN_below _ _), HF4.out.later hbE.size (drewN_below _ _), hbE.trans ((drewN_below _ _).mono hbE.size)⟩
            case measure => simp [intOf]; omega
          · have HC1 : Hid (∀ W, RdAt W R st → Calls Try.prog 20 #[.pointer (some ⟨R, 0, none⟩), .int .i64 mm] W fun e w' => ∃ v, e = .returned v ∧ OwnIds W.heap.size w' v (readIds mm st).1 ∧ RdAt w' R (readIds mm st).2 ∧ But R W.heap.size W w') := fun W h => readerIds_any R st mm hmm.2 W h
            have HC2 : Hid (∀ W, RfAt w.heap.size W X st → Calls Try.prog 21 #[.pointer (some ⟨X, 0, none⟩), .int .i64 mm] W fun e w' => ∃ v, e = .returned v ∧ OwnIds W.heap.size w' v (readIds mm st).1 ∧ RfAt w.heap.size w' X (readIds mm st).2 ∧ But X W.heap.size W w') := fun W h => refRIds_any _ X st mm hmm.2 W hwX h
            have HOkI : Hid (∀ x ∈ (readIds mm st).1, x.length = 32 ∧ ∀ y ∈ x, y < 256) := readIds_ok HRd.out.bytes
            generalize (readIds mm st).1 = T at *
            generalize (readIds mm st).2 = st' at *
            have hk0i : ¬ kd = 0 := hk0
            go_wp2_with (first
              | ((with_reducible show wpList _ _ _ (Oper.mk _ (Op.load 35 (.tmp 28)) _ _ _ _ :: _) _ _); refine wpList_load_mid rfl 35 (.tmp 28) rfl b (off + k * 5) rfl (partCells kd nn q1 l1 c1 q2 l2 c2 mm) _ HRg.out Try.underlying35 rfl size35 ?_; simp only [Act.put, List.setIfInBounds_toArray, List.set_cons_zero, List.set_cons_succ])
              | ((with_reducible show wpList _ _ _ (Oper.mk _ (Op.store 35 (.tmp 8) (.tmp 29)) _ _ _ _ :: _) _ _); refine wpList_store_Row rfl 35 (.tmp 8) (.tmp 29) rfl (partCells kd nn q1 l1 c1 q2 l2 c2 mm) rfl rfl (Row.new wr 35 #[.int .i64 0, .int .u64 0, .slice none 0 0, .slice none 0 0, .int .i64 0]) size35 rfl (partCells_one _ _ _ _ _ _ _ _ _) ?_; have hRP := (Row.new wr 35 #[.int .i64 0, .int .u64 0, .slice none 0 0, .slice none 0 0, .int .i64 0]).sets_all (vs := partCells kd nn q1 l1 c1 q2 l2 c2 mm) rfl; have hb2 : Below wr.heap.size wr ((wr.alloc (.cells #[.int .i64 0, .int .u64 0, .slice none 0 0, .slice none 0 0, .int .i64 0] 35)).setCells wr.heap.size 0 (partCells kd nn q1 l1 c1 q2 l2 c2 mm)) := below_setCells (Nat.le_refl _) _ _ ((Below.refl _ wr).alloc (Nat.le_refl _) _); have hc0 := hRP.cell (i := 0) rfl; have hc1 := hRP.cell (i := 1) rfl; have hc2 := hRP.cell (i := 2) rfl; have hc3 := hRP.cell (i := 3) rfl; have hc4 := hRP.cell (i := 4) rfl; have HRP : Hid (Row _ _ _ _) := hRP; clear hRP; generalize (wr.alloc (.cells #[.int .i64 0, .int .u64 0, .slice none 0 0, .slice none 0 0, .int .i64 0] 35)).setCells wr.heap.size 0 (partCells kd nn q1 l1 c1 q2 l2 c2 mm) = W2 at *; simp only [Act.put])
              )
            have hPl : wr.heap.size < W2.heap.size := World.block_lt_of_cell? _ _ hc0
            have hs2 := hb2.size
            refine wp_region_held_drew (S := fun W => W.cell? ⟨wr.heap.size, 4, none⟩ = some (.int .i64 mm)) (by kernel_rfl) hc4 (fun hHeld => ?_)
            refine wpAnyH_takesAt 0 3 7 (of_decide_eq_true (by kernel_rfl)) rfl (fun _ _ _ d _ h => by cases d <;> exact h) (by kernel_rfl) (by kernel_rfl) hHeld ?_
            simp only [List.drop_zero, List.take_succ_cons, List.take_zero]
            iterate 3 (refine wpHeld_step (v := ?_) (by rfl) (fun wz hSw => ?_) ?_; rotate_left; (focus ((try dsimp only at hSw); go_simp; try with_reducible rfl)); (simp only [Act.put, List.setIfInBounds_toArray, List.set_cons_zero, List.set_cons_succ]))
            refine wpHeld_nil ?_
            refine wpAnyH_takesAt 4 3 4 (of_decide_eq_true (by kernel_rfl)) rfl (fun _ _ _ d _ h => by cases d <;> exact h) (by kernel_rfl) (by kernel_rfl) hHeld ?_
            simp only [List.drop_succ_cons, List.drop_zero, List.take_succ_cons, List.take_zero]
            iterate 3 (refine wpHeld_step (v := ?_) (by rfl) (fun wz hSw => ?_) ?_; rotate_left; (focus ((try dsimp only at hSw); go_simp; try with_reducible rfl)); (simp only [Act.put, List.setIfInBounds_toArray, List.set_cons_zero, List.set_cons_succ]))
            refine wpHeld_nil ?_
            refine wpAnyH_only (i := 3) (by kernel_rfl) rfl (fun K hK => ?_)
            rw [if_pos (by rfl)]
            go_simp
            refine (HC1.out W2.drew ((HRd.out.later hb2).later (Below.refl _ W2).drew)).mono ?_
            rintro e w3 ⟨v3, rfl, hown3, hR3, hbt3⟩
            have hbt3 : But R W2.heap.size W2 w3 := (But.refl R W2.heap.size W2).drew.trans hbt3
            have hown3 : OwnIds W2.heap.size w3 v3 T := hown3
            have hP3 := but_cell hbt3 hPl hPR hc4
            have HF3 : Hid (RfAt w.heap.size w3 X st) := RfAt.but hbt3 (by omega) hwR (by omega) (HRf.out.later hsz hb2)
            refine hK.out _ _ hP3 ?_
            clear hK K hHeld
            have hHeld := hP3
            refine wpAnyH_only (i := 7) (by kernel_rfl) rfl (fun K hK => ?_)
            rw [if_pos (by rfl)]
            go_simp
            refine (HC2.out w3 HF3.out).mono ?_
            rintro e w4' ⟨v4, rfl, hown4, hF4, hbt4⟩
            have hs3 := hbt3.size
            have hs4 := hbt4.size
            have hP4 := but_cell hbt4 (by omega) hPX hP3
            have hR4' := hR3.but hbt4 hRX
            have hbE' : Below w.heap.size w w4' := (hbel.trans (hb2.mono hsz)).trans ((hbt3.below (by omega) hwR).trans (hbt4.below (by omega) hwX))
            obtain ⟨q3, k3, rfl⟩ := hown3.slice
            obtain ⟨q4, k4, rfl⟩ := hown4.slice
            have hI3 := (hown3.but hbt4 (by omega)).ids rfl HOkI.out
            have hI4 := hown4.ids rfl HOkI.out
            refine hK.out _ _ hP4 ?_
            clear hK K hHeld
            have hHeld := hP4
            refine wpAnyH_only (i := 8) (by kernel_rfl) rfl (fun K hK => ?_)
            rw [if_pos (by rfl)]
            go_simp
            refine (sameIds_any q3 T.length k3 q4 k4 T w4' hI3 hI4).mono ?_
            rintro e w4 ⟨rfl, hb4⟩
            have HR4 : Hid (RdAt w4 R st') := hR4'.later hb4
            have HF4 : Hid (RfAt w.heap.size w4 X st') := hF4.later hbE'.size hb4
            have hbE : Below w.heap.size w w4 := hbE'.trans (hb4.mono hbE'.size)
            have hP5 := (hb4.cell (p := ⟨wr.heap.size, 4, none⟩) (show wr.heap.size < w4'.heap.size by omega)).trans hP4
            refine hK.out _ _ hP5 ?_
            clear hK K hHeld hR3 hF4 hbt3 hbt4 HF3 hown3 hown4 hI3 hI4 hR4' hbE'
            have hHeld := hP5
            refine wpAnyH_takesAt 9 1 0 (of_decide_eq_true (by kernel_rfl)) rfl (fun _ _ _ d _ h => by cases d <;> exact h) (by kernel_rfl) (by kernel_rfl) hHeld ?_
            simp only [List.drop_succ_cons, List.drop_zero, List.take_succ_cons, List.take_zero]
            iterate 1 (refine wpHeld_step (v := ?_) (by rfl) (fun wz hSw => ?_) ?_; rotate_left; (focus ((try dsimp only at hSw); go_simp; try with_reducible rfl)); ((simp only [Act.put]; (try simp only [List.setIfInBounds_toArray]); (try simp only [List.set_cons_succ]); (try simp only [List.set_cons_zero]))))
            refine wpHeld_nil ?_
            refine wpAnyH_done (by kernel_rfl) ?_ _
            clear hHeld hP3 hP4 hP5
            go_wp2
            have HL : Hid (∀ m, Calls Try.prog 22 #[.pointer (some ⟨R, 0, none⟩)] (w4.drewN m) fun e w' => e = .returned (.int .i64 (restN st' : Nat)) ∧ w' = w4.drewN m) := fun m => rest_any R st' _ (HR4.out.later (drewN_below m w4))
            obtain ⟨qx, lx, cx, cX, hlx, hlx2⟩ := HF4.out.rest
            rw [hlx] at HL
            clear hlx
            go_quiet ((go_at_call 22; exact Calls.mono (HL.out _) (fun _ _ h => ⟨h.1, _, h.2⟩)))
            go_wp2
            go_roundw
            case rel => exact ⟨k + 1, st', by omega, by go_num, HR4.out.later (drewN_below _ _), HF4.out.later hbE.size (drewN_below _ _), hbE.trans ((drewN_below _ _).mono hbE.size)⟩
            case measure => simp [intOf]; omega
    · obtain rfl : k = len := by omega
      have hki : ¬ (k : Int) < (k : Int) := by omega
      go_wp2_with (first
        | (go_at_call 23; refine (end_any R st wr HRd.out).mono ?_; rintro e w5 ⟨rfl, hw5⟩; obtain rfl : wr = w5 := hw5.symm; clear hw5)
        | (go_at_call 24; refine (refEnd_any w.heap.size X st wr HRf.out).mono ?_; rintro e w5 ⟨rfl, hw5⟩; obtain rfl : wr = w5 := hw5.symm; clear hw5))
      go_ret
      exact ⟨by simp, hbel⟩

set_option maxHeartbeats 1000000 in
/-- CodecReads -/
theorem codecReads_walk (p1 : Option Addr) (len1 cap1 : Nat) (zs : List Nat) (p : Option Addr) (len cap : Nat) (xs : List Pt) (w : World) (hJ : IsBytes w.heap.size w p1 len1 cap1 zs) (hI : IsParts w.heap.size w p len cap xs) :
    Calls Try.prog 4 #[.slice p1 len1 cap1, .slice p len cap] w fun e w' => e = .returned (.bool true) ∧ Below w.heap.size w w' := by
  have hl1 : len1 ≤ 9223372036854775807 := by have := hJ.2.1; have := hJ.2.2.1; omega
  have HFew : Hid (∀ W, Below w.heap.size w W → Calls Try.prog 9 #[.slice p len cap] W fun e w' => e = .returned (.bool (fewB xs)) ∧ Below W.heap.size W w') := fun W hb => few_any p len cap xs W (hI.world hb)
  by_cases hf : fewB xs = true
  · by_cases hlen1 : len1 ≤ 500
    · exact codecReads_some p1 len1 cap1 zs p len cap xs w hJ hI hf hlen1
    · have h500 : (500 : Int) < (len1 : Int) := by omega
      rw [hf] at HFew
      clear hI hJ hf
      go_enter Try.func4, Try.ntmps4
      go_wp2_with (first
        | (go_at_call 8; refine (awake_any _).mono ?_; rintro e w1 ⟨rfl, hb1⟩)
        | (go_at_call 9; refine (HFew.out w1 hb1).mono ?_; rintro e w2 ⟨rfl, hb2⟩; have hbA := hb1.trans (hb2.mono hb1.size); clear hb1 hb2))
      go_ret
      exact ⟨rfl, hbA⟩
  · have hf : fewB xs = false := by simpa using hf
    rw [hf] at HFew
    clear hI hJ hf
    go_enter Try.func4, Try.ntmps4
    go_wp2_with (first
      | (go_at_call 8; refine (awake_any _).mono ?_; rintro e w1 ⟨rfl, hb1⟩)
      | (go_at_call 9; refine (HFew.out w1 hb1).mono ?_; rintro e w2 ⟨rfl, hb2⟩; have hbA := hb1.trans (hb2.mono hb1.size); clear hb1 hb2))
    go_ret
    exact ⟨rfl, hbA⟩
end Go.Proofs.Ytdebcpfjldgalaa
