/-
  The document's Send.
-/
import Derived.Test.YthdfhbbfbohojaaRc
import Derived.Deep.CutRange
namespace Go.Proofs.Ythdfhbbfbohojaa
open Go.RowKit Go.Shelf

/-- Sent, by the document: appended. -/
def RsPost (base : Nat) (w : World) (p g : Nat) (fv : Value) (L : Lk) (zs : List Nat) (A : World) : Prop :=
  ∃ g' wv ms, RkAt base A p g' fv wv ⟨L.fs, L.n + 1, ms⟩ ∧ keys ms = keys L.ms ++ List.replicate L.times (L.due, zs) ∧ (g' = g ∨ w.heap.size ≤ g') ∧ Buts p g w A
/-- Under way. -/
def RsAt (base : Nat) (w : World) (p g : Nat) (fv : Value) (L : Lk) (zs : List Nat) (k : Nat) (A : World) : Prop :=
  ∃ gk wv ms, RkAt base A p gk fv wv ⟨L.fs, L.n, ms⟩ ∧ keys ms = keys L.ms ++ List.replicate k (L.due, zs) ∧ (gk = g ∨ w.heap.size ≤ gk) ∧ Buts p g w A

theorem rs_next {base p g : Nat} {fv wv : Value} {L : Lk} {w w6 w7 : World} {gk g7 k : Nat} {ms : List Msg} {v7 : Value} {x : Msg} {zs : List Nat} (hL6 : RkAt base w6 p gk fv wv ⟨L.fs, L.n, ms⟩) (hx : Txt base w6 x) (hkey : x.key = (L.due, zs))
    (hW7 : WaitAt 57 Msg.cR w7 p g7 v7 (ms ++ [x])) (hg7 : g7 = gk ∨ w6.heap.size ≤ g7) (hB7 : Buts p gk w6 w7) (hp7 : Row w7 p 31 [fv, .int .i64 L.n, wv])
    (hks : keys ms = keys L.ms ++ List.replicate k (L.due, zs)) (hgk : gk = g ∨ w.heap.size ≤ gk) (hbk : Buts p g w w6) : RsAt base w p g fv L zs (k + 1) (w7.setCell ⟨p, 2, none⟩ v7) := by
  have hne : g7 ≠ p := by
    obtain ⟨q, c, e, ⟨_, h0, _⟩ | ⟨o, cur, e', hr, _⟩⟩ := hW7
    · simp at h0
    · exact row_ne hr hp7 (by decide)
  have hB8 : Buts p gk w6 (w7.setCell ⟨p, 2, none⟩ v7) := hB7.trans (.inl rfl) (Buts.setP _ _ _)
  have hbase := hL6.ntp.lt
  have hbg := hL6.hg
  have hbp := hL6.hp
  refine ⟨g7, v7, ms ++ [x], ⟨hbp, by omega, hp7.set 2 v7, hL6.fates.step hB8 hL6.ntp hL6.ntg, hW7.same (fun _ => Below.heap_setCell _ _ _ _ hne), fun m hm => ?_⟩, ?_, ?_, hbk.trans hgk hB8⟩
  · rcases List.mem_append.1 hm with hm | hm
    · exact (hL6.txt m hm).buts hB8 hL6.ntp hL6.ntg
    · simp at hm; subst hm; exact hx.buts hB8 hL6.ntp hL6.ntg
  · rw [keys, List.map_append, show List.map Msg.key ms = keys ms from rfl, hks, List.replicate_succ', List.append_assoc]
    simp [hkey]
  · have := hbk.size
    omega

set_option maxRecDepth 100000 in
set_option maxHeartbeats 4000000 in
theorem rsend_any {base p g : Nat} {fv wv : Value} {L : Lk} {w : World} (h : RkAt base w p g fv wv L) {q : Option Addr} {len cap : Nat} {zs : List Nat} (hI : BArg base w q len cap zs) (hml : L.ms.length ≤ 10000) (hz : len ≤ 10000) (hn : L.n ≤ 10000) (hbase : base ≤ w.heap.size) :
    Calls Try.prog 9 #[.pointer (some ⟨p, 0, none⟩), .slice q len cap] w fun e w' => (∃ v, e = .returned v) ∧ RsPost base w p g fv L zs w' := by
  obtain rfl : zs.length = len := hI.1.1
  obtain ⟨f1, hf1⟩ : ∃ f1, L.fate.1 = f1 := ⟨_, rfl⟩
  obtain ⟨f2, hf2⟩ : ∃ f2, L.fate.2 = f2 := ⟨_, rfl⟩
  have hpl := h.row.lt
  have HH : Hid (RkAt base w p g fv wv L) := h
  have HI : Hid (BArg base w q zs.length cap zs) := hI
  obtain ⟨N, hN⟩ : ∃ N, L.n = N := ⟨_, rfl⟩
  rw [hN] at hn
  have HN : Hid (L.n = N) := hN
  clear hI hN
  obtain ⟨T, hTT⟩ : ∃ T, L.times = T := ⟨_, rfl⟩
  have hT := L.times_le
  rw [hTT, hf1] at hT
  have HTT : Hid (L.times = T) := hTT
  have HTm : Hid (T ≤ 3 ∧ clampN f1 3 = (T : Int)) := hT
  have HDl := L.due_le
  rw [HN.out] at HDl
  have HDL : Hid ((N : Int) ≤ L.due ∧ L.due ≤ (N : Int) + 1000) := HDl
  clear hT hTT HDl
  go_enter Try.func9, Try.ntmps9
  go_upto_region 1 with ((with_reducible show wpList _ _ _ (Oper.mk _ (Op.store 47 (.tmp 4) (.tmp 7)) _ _ _ _ :: _) _ _); refine wpList_store_Row rfl 47 (.tmp 4) (.tmp 7) rfl (fC (1, 0)) rfl rfl (Row.new' w 47 [.int .i64 0, .int .i64 0]) size47 rfl (encF.one _) ?_; simp only [Act.put])
  rename_i K0 hK0 K1 hK1
  have KEY : ∀ (u8 u9 u10 u11 u12 u13 u14 u15 u16 u17 u18 u19 u20 u21 u22 u23 u24 u25 u26 u27 : Value) (W : World), Below w.heap.size w W → Row W w.heap.size 47 [.int .i64 f1, .int .i64 f2] → K0 { tmps := #[.pointer (some ⟨p, 0, none⟩), .slice q zs.length cap, undef, undef, .pointer (some ⟨w.heap.size, 0, none⟩), undef, undef, .agg #[.int .i64 1, .int .i64 0], u8, u9, u10, u11, u12, u13, u14, u15, u16, u17, u18, u19, u20, u21, u22, u23, u24, u25, u26, u27, undef, undef, undef, undef, undef, undef, undef, undef, undef, undef, undef, undef, undef, undef, undef, undef, undef, undef, undef, undef, undef, undef, undef, undef, undef, undef, undef, undef, undef, undef, undef, undef, undef, undef, undef, undef, undef, undef, undef, undef, undef], defers := [] } W := by
    intro u8 u9 u10 u11 u12 u13 u14 u15 u16 u17 u18 u19 u20 u21 u22 u23 u24 u25 u26 u27 W hB hR
    refine hK0 _ _ ?_
    have hc0 := hR.cell (i := 0) rfl
    have hc1 := hR.cell (i := 1) rfl
    have HR : Hid (Row W w.heap.size 47 [.int .i64 f1, .int .i64 f2]) := hR
    have HB : Hid (Below w.heap.size w W) := hB
    clear hR hB
    go_upto_region 4 with fail
    rename_i K2 hK2 K3 hK3
    have KEY2 : ∀ (u30 u31 : Value) (d1 : Int), d1 = max f2 0 → K2 { tmps := #[.pointer (some ⟨p, 0, none⟩), .slice q zs.length cap, undef, undef, .pointer (some ⟨w.heap.size, 0, none⟩), .int .i64 d1, undef, .agg #[.int .i64 1, .int .i64 0], u8, u9, u10, u11, u12, u13, u14, u15, u16, u17, u18, u19, u20, u21, u22, u23, u24, u25, u26, u27, .pointer (some ⟨w.heap.size, 1, none⟩), .int .i64 f2, u30, u31, undef, undef, undef, undef, undef, undef, undef, undef, undef, undef, undef, undef, undef, undef, undef, undef, undef, undef, undef, undef, undef, undef, undef, undef, undef, undef, undef, undef, undef, undef, undef, undef, undef, undef, undef, undef, undef], defers := [] } W := by
      intro u30 u31 d1 hd1
      refine hK2 _ _ ?_
      have HD1 : Hid (d1 = max f2 0) := hd1
      clear hd1
      go_upto_region 6 with fail
      rename_i K4 hK4 K5 hK5
      have KEY3 : ∀ (u32 u33 : Value) (d2 : Int), d2 = min d1 1000 → K4 { tmps := #[.pointer (some ⟨p, 0, none⟩), .slice q zs.length cap, undef, undef, .pointer (some ⟨w.heap.size, 0, none⟩), .int .i64 d2, undef, .agg #[.int .i64 1, .int .i64 0], u8, u9, u10, u11, u12, u13, u14, u15, u16, u17, u18, u19, u20, u21, u22, u23, u24, u25, u26, u27, .pointer (some ⟨w.heap.size, 1, none⟩), .int .i64 f2, u30, u31, u32, u33, undef, undef, undef, undef, undef, undef, undef, undef, undef, undef, undef, undef, undef, undef, undef, undef, undef, undef, undef, undef, undef, undef, undef, undef, undef, undef, undef, undef, undef, undef, undef, undef, undef, undef, undef], defers := [] } W := by
        intro u32 u33 d2 hd2
        refine hK4 _ _ ?_
        have HD2 : Hid ((N : Int) + d2 = L.due) := by
          show _ = _
          rw [hd2, HD1.out, Lk.due, clampN, hf2, HN.out]
        clear hd2
        go_wp2
        go_loopw [6] (fun i wr => ∃ k : Nat, k ≤ T ∧ i = .int .i64 k ∧ RsAt base w p g fv L zs k wr ∧ Row wr w.heap.size 47 [.int .i64 f1, .int .i64 f2]) (fun i _ => T - (RowKit.intOf i).toNat)
        case atStart => exact ⟨0, Nat.zero_le _, rfl, ⟨g, wv, L.ms, HH.out.later HB.out, by simp, .inl rfl, Buts.of_below HB.out⟩, HR.out⟩
        case round =>
          obtain ⟨k, hk, rfl, ⟨gk, wvk, ms, hL, hks, hgk, hbk⟩, hRf⟩ := hrel
          have hT3 := HTm.out.1
          have hTc : clampN f1 3 = (T : Int) := HTm.out.2
          unfold clampN at hTc
          have hcf := hRf.cell (i := 0) rfl
          by_cases hlt : k < T
          · have hk1 : (k : Int) < f1 := by omega
            have hk3 : (k : Int) < 3 := by omega
            have hkw : IntKind.i64.wrap ((k : Int) + 1) = (k : Int) + 1 := by rw [IntKind.wrap_i64]; omega
            have HL : Hid (RkAt base wr p gk fv wvk ⟨L.fs, L.n, ms⟩) := hL
            have hmk : ms.length = L.ms.length + k := by
              have := congrArg List.length hks
              rwa [keys_length, List.length_append, keys_length, List.length_replicate] at this
            obtain ⟨wq, wc, rfl, _⟩ := id hL.wait
            obtain ⟨nl, hnl⟩ : ∃ nl, ms.length = nl := ⟨_, rfl⟩
            have hnk : nl ≤ 20000 := by rw [← hnl, hmk]; omega
            rw [hnl] at hL HL
            have HNL : Hid (ms.length = nl) := hnl
            have HC : Hid (∀ W, Below wr.heap.size wr W → W.cell? ⟨p, 2, none⟩ = some (.slice wq nl wc) ∧ W.cell? ⟨p, 1, none⟩ = some (.int .i64 N)) := fun W hb => by
              have h1 := (hL.later hb).row.cell (i := 1) rfl
              have h2 := (hL.later hb).row.cell (i := 2) rfl
              rw [show (Lk.n ⟨L.fs, L.n, ms⟩) = N from HN.out] at h1
              exact ⟨h2, h1⟩
            have HX : Hid (keys ms = keys L.ms ++ List.replicate k (L.due, zs) ∧ (gk = g ∨ w.heap.size ≤ gk) ∧ Buts p g w wr) := ⟨hks, hgk, hbk⟩
            have HRf : Hid (Row wr w.heap.size 47 [.int .i64 f1, .int .i64 f2]) := hRf
            have hsum : (N : Int) + d2 = L.due := HD2.out
            obtain ⟨D, hD⟩ : ∃ D, L.due = D := ⟨_, rfl⟩
            have HDD : Hid (L.due = D) := hD
            rw [hD] at hsum
            have hwr : IntKind.i64.wrap D = D := by have := HDL.out; rw [HDD.out] at this; rw [IntKind.wrap_i64]; omega
            clear hL hks hgk hbk hnl hTc hmk hRf hD
            go_upto_region 11 with fail
            refine wp_region_gate' 16 (fun W => W.cell? ⟨p, 2, none⟩ = some (.slice wq nl wc) ∧ W.cell? ⟨p, 1, none⟩ = some (.int .i64 N)) (by kernel_rfl) ?_
            have hbd : Below wr.heap.size wr wr.drew := (Below.refl _ _).drew
            have hHeld := HC.out _ hbd
            refine wpAnyG_takesAt 0 4 15 (of_decide_eq_true (by kernel_rfl)) rfl (fun _ _ _ d _ h => by cases d <;> exact h) (by kernel_rfl) (by kernel_rfl) (fun _ => hHeld) ?_
            simp only [List.drop_zero, List.take_succ_cons, List.take_zero]
            iterate 4 (refine wpHeldG_free (v := ?_) (by rfl) (fun wz => ?_) ?_; rotate_left; (focus (go_simp; try with_reducible rfl)); (simp only [Act.put, List.setIfInBounds_toArray, List.set_cons_zero, List.set_cons_succ]))
            refine wpHeldG_nil ?_
            refine wpAnyG_takesAt 4 1 14 (of_decide_eq_true (by kernel_rfl)) rfl (fun _ _ _ d _ h => by cases d <;> exact h) (by kernel_rfl) (by kernel_rfl) (fun _ => hHeld) ?_
            simp only [List.drop_succ_cons, List.drop_zero, List.take_succ_cons, List.take_zero]
            iterate 1 (refine wpHeldG_step (v := ?_) (by rfl) (by kernel_rfl) (fun wz hSw => ?_) ?_; rotate_left; (focus (have hc := hSw.1; clear hSw; go_simp; try with_reducible rfl)); ((simp only [Act.put]; (try simp only [List.setIfInBounds_toArray]); (try simp only [List.set_cons_succ]); (try simp only [List.set_cons_zero]))))
            refine wpHeldG_nil ?_
            refine wpAnyG_takesAt 5 1 13 (of_decide_eq_true (by kernel_rfl)) rfl (fun _ _ _ d _ h => by cases d <;> exact h) (by kernel_rfl) (by kernel_rfl) (fun _ => hHeld) ?_
            simp only [List.drop_succ_cons, List.drop_zero, List.take_succ_cons, List.take_zero]
            iterate 1 (refine wpHeldG_free (v := ?_) (by rfl) (fun wz => ?_) ?_; rotate_left; (focus (go_simp; try with_reducible rfl)); ((simp only [Act.put]; (try simp only [List.setIfInBounds_toArray]); (try simp only [List.set_cons_succ]); (try simp only [List.set_cons_zero]))))
            refine wpHeldG_nil ?_
            refine wpAnyG_takesAt 7 3 10 (of_decide_eq_true (by kernel_rfl)) rfl (fun _ _ _ d _ h => by cases d <;> exact h) (by kernel_rfl) (by kernel_rfl) (fun _ => hHeld) ?_
            simp only [List.drop_succ_cons, List.drop_zero, List.take_succ_cons, List.take_zero]
            iterate 3 (refine wpHeldG_free (v := ?_) (by rfl) (fun wz => ?_) ?_; rotate_left; (focus (go_simp; try with_reducible rfl)); (simp only [Act.put, List.setIfInBounds_toArray, List.set_cons_zero, List.set_cons_succ]))
            refine wpHeldG_nil ?_
            refine wpAnyG_takesAt 10 1 9 (of_decide_eq_true (by kernel_rfl)) rfl (fun _ _ _ d _ h => by cases d <;> exact h) (by kernel_rfl) (by kernel_rfl) (fun _ => hHeld) ?_
            simp only [List.drop_succ_cons, List.drop_zero, List.take_succ_cons, List.take_zero]
            iterate 1 (refine wpHeldG_step (v := ?_) (by rfl) (by kernel_rfl) (fun wz hSw => ?_) ?_; rotate_left; (focus (have hc := hSw.2; clear hSw; go_simp; try with_reducible rfl)); ((simp only [Act.put]; (try simp only [List.setIfInBounds_toArray]); (try simp only [List.set_cons_succ]); (try simp only [List.set_cons_zero]))))
            refine wpHeldG_nil ?_
            refine wpAnyG_takesAt 11 2 7 (of_decide_eq_true (by kernel_rfl)) rfl (fun _ _ _ d _ h => by cases d <;> exact h) (by kernel_rfl) (by kernel_rfl) (fun _ => hHeld) ?_
            simp only [List.drop_succ_cons, List.drop_zero, List.take_succ_cons, List.take_zero]
            iterate 2 (refine wpHeldG_free (v := ?_) (by rfl) (fun wz => ?_) ?_; rotate_left; (focus (go_simp; try with_reducible rfl)); (simp only [Act.put, List.setIfInBounds_toArray, List.set_cons_zero, List.set_cons_succ]))
            refine wpHeldG_nil ?_
            have hI4 : BArg base wr.drew q zs.length cap zs := (HI.out.buts HX.out.2.2 HH.out.ntp HH.out.ntg).later hbd
            obtain ⟨v', w5, hrun5, hown, hg5⟩ := run_append_bytes Try.underlying32 info5 wr.drew wr.drew.heap.size 32 (.slice none 0 0) [] (Own.nil _ _) hI4.1 (by simp; omega) (Nat.le_refl _)
            rw [List.nil_append] at hown
            have hb5 : Below wr.heap.size wr w5 := hbd.grown hg5 (Nat.le_refl _) (fun k e => by cases e)
            obtain ⟨q', c', rfl⟩ := hown.slice
            have HRun5 : Hid ((Builtin.append_ #[32, 32] 32 #[.slice none 0 0, .slice q zs.length cap]).run Try.prog wr.drew = .ok (.slice q' zs.length c') w5) := hrun5
            clear hHeld hrun5 hbd
            refine wpAnyG_only (i := 6) (by kernel_rfl) rfl (by rfl) (fun K hK => ?_)
            refine wp_append_of (.const (.slice none 0 0)) (.tmp 49) 32 rfl rfl rfl HRun5.out ?_
            have hHeld := HC.out _ hb5
            refine hK.out _ _ (fun _ => hHeld) ?_
            clear hK K
            simp only [Act.put]
            (try simp only [List.setIfInBounds_toArray]); (try simp only [List.set_cons_succ]); (try simp only [List.set_cons_zero])
            refine wpAnyG_takesAt 13 1 5 (of_decide_eq_true (by kernel_rfl)) rfl (fun _ _ _ d _ h => by cases d <;> exact h) (by kernel_rfl) (by kernel_rfl) (fun _ => hHeld) ?_
            simp only [List.drop_succ_cons, List.drop_zero, List.take_succ_cons, List.take_zero]
            iterate 1 (refine wpHeldG_free (v := ?_) (by rfl) (fun wz => ?_) ?_; rotate_left; (focus (go_simp; try with_reducible rfl)); ((simp only [Act.put]; (try simp only [List.setIfInBounds_toArray]); (try simp only [List.set_cons_succ]); (try simp only [List.set_cons_zero]))))
            refine wpHeldG_nil ?_
            refine wpAnyG_only (i := 14) (by kernel_rfl) rfl (by rfl) (fun K hK => ?_)
            go_simp
            obtain ⟨x, hx⟩ : ∃ x : Msg, x = ⟨D, q', zs.length, c', zs⟩ := ⟨_, rfl⟩
            have hxc : x.cR = [.slice q' zs.length c', .int .i64 D] := by rw [hx]; rfl
            obtain ⟨w6, hw6⟩ : ∃ w6, w5.alloc (.cells #[.slice q' zs.length c', .int .i64 D] 57) = w6 := ⟨_, rfl⟩
            have hb56 : Below w5.heap.size w5 w6 := by rw [← hw6]; exact (Below.refl _ _).alloc (Nat.le_refl _) _
            have hR6 : Row w6 w5.heap.size 57 x.cR := by rw [← hw6, hxc]; exact Row.new' w5 57 [.slice q' zs.length c', .int .i64 D]
            have hb6 : Below wr.heap.size wr w6 := hb5.trans (hb56.mono hb5.size)
            rw [hw6]
            clear hw6 hHeld
            refine hK.out _ _ (fun _ => HC.out _ hb6) ?_
            clear hK K
            have hL6 := HL.out.later hb6
            have hsz1 := HX.out.2.2.size
            have hTx : Txt base w6 x := by rw [hx]; exact ⟨(hown.later hb56).mono (by show base ≤ wr.heap.size; omega), hI4.1.2.2.2.1⟩
            have hkey : x.key = (L.due, zs) := by rw [hx, HDD.out]; rfl
            obtain ⟨v7, w7, g7, hrun7, hW7, hg7, hB7, hp7⟩ := run_append_msg (t := 29) (ty := 29) encR Try.underlying29 info57 rfl hL6.wait x ⟨w5.heap.size, 0, none⟩ (fun j u hj => by rw [Addr.add_lit, Nat.zero_add]; exact hR6.cell hj) (by show ms.length ≤ _; rw [HNL.out]; omega) hL6.row (by decide)
            have hNext := rs_next hL6 hTx hkey hW7 hg7 hB7 hp7 HX.out.1 HX.out.2.1 (HX.out.2.2.trans HX.out.2.1 (Buts.of_below hb6))
            obtain ⟨q7, c7, rfl, _⟩ := id hW7
            have hfb : w.heap.size ≠ p ∧ w.heap.size ≠ gk := ⟨row_ne HRf.out HL.out.row (by decide), by
              have h1 := HRf.out
              obtain ⟨c, t, fr, h2, h3, h4⟩ := HL.out.ntg.2
              rintro e
              unfold Row at h1
              rw [e, h2] at h1
              cases h1
              exact h4 rfl⟩
            have HRf8 : Hid (Row (w7.setCell ⟨p, 2, none⟩ (.slice q7 (ms ++ [x]).length c7)) w.heap.size 47 [.int .i64 f1, .int .i64 f2]) := Row.other (hB7.row (HRf.out.later hb6) hfb.1 hfb.2) hfb.1 _
            have HRun7 : Hid ((Builtin.append_ #[29, 29] 29 #[.slice wq nl wc, .slice (some ⟨w5.heap.size, 0, none⟩) 1 1]).run Try.prog w6 = .ok (.slice q7 (ms ++ [x]).length c7) w7) := hrun7
            have HSd : Hid (RsAt base w p g fv L zs (k + 1) (w7.setCell ⟨p, 2, none⟩ (.slice q7 (ms ++ [x]).length c7))) := hNext
            have hc37 := hp7.cell (i := 2) rfl
            have hc17 : w7.cell? ⟨p, 1, none⟩ = some (.int .i64 N) := by rw [← HN.out]; exact hp7.cell (i := 1) rfl
            have hf37 := hp7.frozen 2
            generalize (ms ++ [x]).length = n7 at *
            refine wpAnyG_only (i := 15) (by kernel_rfl) rfl (by rfl) (fun K hK => ?_)
            refine wp_append_of (.tmp 48) (.tmp 58) 29 rfl rfl rfl HRun7.out ?_
            refine hK.out _ _ (fun _ => ⟨hc37, hc17⟩) ?_
            clear hK K hNext hW7 hB7 hp7 hL6 hTx hkey hR6 hown hb56 hb6 hb5 hI4 hx hxc hrun7
            simp only [Act.put]
            (try simp only [List.setIfInBounds_toArray]); (try simp only [List.set_cons_succ]); (try simp only [List.set_cons_zero])
            refine wpAnyG_only (i := 16) (by kernel_rfl) rfl (by rfl) (fun K hK => ?_)
            go_simp
            refine hK.out _ _ (gone (by kernel_rfl)) ?_
            clear hK K
            refine wpAnyG_takesAt 17 1 1 (of_decide_eq_true (by kernel_rfl)) rfl (fun _ _ _ d _ h => by cases d <;> exact h) (by kernel_rfl) (by kernel_rfl) (gone (by kernel_rfl)) ?_
            simp only [List.drop_succ_cons, List.drop_zero, List.take_succ_cons, List.take_zero]
            iterate 1 (refine wpHeldG_free (v := ?_) (by rfl) (fun wz => ?_) ?_; rotate_left; (focus (go_simp; try with_reducible rfl)); ((simp only [Act.put]; (try simp only [List.setIfInBounds_toArray]); (try simp only [List.set_cons_succ]); (try simp only [List.set_cons_zero]))))
            refine wpHeldG_nil ?_
            refine wpAnyG_only (i := 18) (by kernel_rfl) rfl (by rfl) (fun K hK => ?_)
            go_simp
            refine hK.out _ _ (gone (by kernel_rfl)) ?_
            clear hK K
            refine wpAnyG_done (by kernel_rfl) ?_ _
            go_wp2
            go_roundw
            case rel => exact ⟨k + 1, by omega, by go_num, HSd.out, HRf8.out⟩
            case measure => simp [RowKit.intOf]; omega
          · obtain rfl : k = T := by omega
            have hr1 : wr.cell? ⟨p, 1, none⟩ = some (.int .i64 N) := by rw [← HN.out]; exact hL.row.cell (i := 1) rfl
            have hf1c := hL.row.frozen 1
            have hnw : IntKind.i64.wrap ((N : Int) + 1) = (N : Int) + 1 := by rw [IntKind.wrap_i64]; omega
            have HFin : Hid (RsPost base w p g fv L zs (wr.setCell ⟨p, 1, none⟩ (.int .i64 ((N : Int) + 1)))) := by
              have hB : Buts p gk wr (wr.setCell ⟨p, 1, none⟩ (.int .i64 ((N : Int) + 1))) := Buts.setP _ _ _
              have hrow := hL.row.set 1 (.int .i64 ((N : Int) + 1))
              refine ⟨gk, wvk, ms, ⟨hL.hp, hL.hg, ?_, hL.fates.step hB hL.ntp hL.ntg, ?_, fun m hm => (hL.txt m hm).buts hB hL.ntp hL.ntg⟩, ?_, hgk, hbk.trans hgk hB⟩
              · rw [HN.out]
                exact hrow
              · obtain ⟨wq, wc, e, ⟨h1, h2, h3, h4⟩ | ⟨o, cur, e', hr, hrest⟩⟩ := hL.wait
                · exact ⟨wq, wc, e, .inl ⟨h1, h2, h3, h4⟩⟩
                · exact ⟨wq, wc, e, .inr ⟨o, cur, e', Row.other hr (row_ne hr hL.row (by decide)) _, hrest⟩⟩
              · rw [HTT.out]; exact hks
            clear hL hks hgk hbk hRf
            by_cases hf : (k : Int) < f1
            · have hf3 : ¬ (k : Int) < 3 := by omega
              clear hTc
              go_wp2
              go_end0
              exact ⟨⟨_, rfl⟩, HFin.out⟩
            · clear hTc
              go_wp2
              go_end0
              exact ⟨⟨_, rfl⟩, HFin.out⟩
      have HKEY3 : Hid (∀ (u32 u33 : Value) (d2 : Int), d2 = min d1 1000 → K4 { tmps := #[.pointer (some ⟨p, 0, none⟩), .slice q zs.length cap, undef, undef, .pointer (some ⟨w.heap.size, 0, none⟩), .int .i64 d2, undef, .agg #[.int .i64 1, .int .i64 0], u8, u9, u10, u11, u12, u13, u14, u15, u16, u17, u18, u19, u20, u21, u22, u23, u24, u25, u26, u27, .pointer (some ⟨w.heap.size, 1, none⟩), .int .i64 f2, u30, u31, u32, u33, undef, undef, undef, undef, undef, undef, undef, undef, undef, undef, undef, undef, undef, undef, undef, undef, undef, undef, undef, undef, undef, undef, undef, undef, undef, undef, undef, undef, undef, undef, undef, undef, undef, undef, undef], defers := [] } W) := KEY3
      clear KEY3 hK4
      by_cases h1000 : 1000 < d1
      · go_wp2
        exact HKEY3.out _ _ _ (by simp only [Int.min_def]; split <;> omega)
      · go_wp2
        exact HKEY3.out _ _ _ (by simp only [Int.min_def]; split <;> omega)
    have HKEY2 : Hid (∀ (u30 u31 : Value) (d1 : Int), d1 = max f2 0 → K2 { tmps := #[.pointer (some ⟨p, 0, none⟩), .slice q zs.length cap, undef, undef, .pointer (some ⟨w.heap.size, 0, none⟩), .int .i64 d1, undef, .agg #[.int .i64 1, .int .i64 0], u8, u9, u10, u11, u12, u13, u14, u15, u16, u17, u18, u19, u20, u21, u22, u23, u24, u25, u26, u27, .pointer (some ⟨w.heap.size, 1, none⟩), .int .i64 f2, u30, u31, undef, undef, undef, undef, undef, undef, undef, undef, undef, undef, undef, undef, undef, undef, undef, undef, undef, undef, undef, undef, undef, undef, undef, undef, undef, undef, undef, undef, undef, undef, undef, undef, undef, undef, undef, undef, undef], defers := [] } W) := KEY2
    clear KEY2 hK2
    by_cases hneg : f2 < 0
    · go_wp2
      exact HKEY2.out _ _ _ (by simp only [Int.max_def]; split <;> omega)
    · go_wp2
      exact HKEY2.out _ _ _ (by simp only [Int.max_def]; split <;> omega)
  have HKEY : Hid (∀ (u8 u9 u10 u11 u12 u13 u14 u15 u16 u17 u18 u19 u20 u21 u22 u23 u24 u25 u26 u27 : Value) (W : World), Below w.heap.size w W → Row W w.heap.size 47 [.int .i64 f1, .int .i64 f2] → K0 { tmps := #[.pointer (some ⟨p, 0, none⟩), .slice q zs.length cap, undef, undef, .pointer (some ⟨w.heap.size, 0, none⟩), undef, undef, .agg #[.int .i64 1, .int .i64 0], u8, u9, u10, u11, u12, u13, u14, u15, u16, u17, u18, u19, u20, u21, u22, u23, u24, u25, u26, u27, undef, undef, undef, undef, undef, undef, undef, undef, undef, undef, undef, undef, undef, undef, undef, undef, undef, undef, undef, undef, undef, undef, undef, undef, undef, undef, undef, undef, undef, undef, undef, undef, undef, undef, undef, undef, undef, undef, undef, undef, undef], defers := [] } W) := KEY
  clear KEY hK0
  obtain ⟨w1, hw1⟩ : ∃ w1, (w.alloc (.cells #[.int .i64 0, .int .i64 0] 47)).setCells w.heap.size 0 (fC (1, 0)) = w1 := ⟨_, rfl⟩
  have hb1 : Below w.heap.size w w1 := by rw [← hw1]; exact below_setCells (Nat.le_refl _) _ _ ((Below.refl _ w).alloc (Nat.le_refl _) _)
  have hR1 : Row w1 w.heap.size 47 (fC (1, 0)) := by rw [← hw1]; exact (Row.new' w 47 [.int .i64 0, .int .i64 0]).sets_all rfl
  rw [hw1]
  obtain ⟨fq, fc, rfl, hfl, hfm, _⟩ := id h.fates
  have hF : Hid (FatesAt base w (.slice fq L.fs.length fc) L.fs) := h.fates
  have hc0 := h.row.cell (i := 0) rfl
  have hc1 := h.row.cell (i := 1) rfl
  rw [HN.out] at hc1
  have hd0 := (hb1.cell (p := ⟨p, 0, none⟩) hpl).trans hc0
  have hd1 := (hb1.cell (p := ⟨p, 1, none⟩) hpl).trans hc1
  have HR1 : Hid (Row w1 w.heap.size 47 (fC (1, 0))) := hR1
  have HB1 : Hid (Below w.heap.size w w1) := hb1
  clear hw1 hR1 hb1 h
  obtain ⟨k, hk⟩ : ∃ k, k = L.fs.length := ⟨_, rfl⟩
  have HK : Hid (k = L.fs.length) := hk
  rw [← hk] at hF hfl hd0 hc0
  clear hk
  by_cases hlt : N < k
  · have hlt' : (N : Int) < (k : Int) := by omega
    have hff : L.fs[N]? = some (f1, f2) := by
      have hN := HN.out
      have h1 : L.fate = (f1, f2) := by rw [← hf1, ← hf2]
      rw [← h1, Lk.fate, hN, List.getD_eq_getElem?_getD, List.getElem?_eq_getElem (by have := HK.out; omega), Option.getD_some]
    obtain ⟨b, o, rfl, hrg⟩ := hF.out.at hff
    have hbl : b < w.heap.size := World.block_lt_of_cell? w _ (hrg 0 _ rfl)
    have HRg : Hid (w1.rangeAt b (o + N * 2) (fC (f1, f2))) := fun j v hj => (HB1.out.cell (p := ⟨b, _, none⟩) hbl).trans (hrg j v hj)
    clear hrg hff hf1 hf2
    have mk : ∀ W, Below w.heap.size w1 W → W.cell? ⟨p, 0, none⟩ = some (.slice (some ⟨b, o, none⟩) k fc) ∧ W.cell? ⟨p, 1, none⟩ = some (.int .i64 N) ∧ W.rangeAt b (o + N * 2) (fC (f1, f2)) := fun W hW =>
      ⟨(hW.cell (p := ⟨p, 0, none⟩) hpl).trans hd0, (hW.cell (p := ⟨p, 1, none⟩) hpl).trans hd1, fun j v hj => (hW.cell (p := ⟨b, _, none⟩) hbl).trans (HRg.out j v hj)⟩
    have Hmk : Hid (∀ W, _) := mk
    clear mk
    go_wp2_with (go_quiet (fail))
    refine wp_region_held_drew (S := fun W => W.cell? ⟨p, 0, none⟩ = some (.slice (some ⟨b, o, none⟩) k fc) ∧ W.cell? ⟨p, 1, none⟩ = some (.int .i64 N) ∧ W.rangeAt b (o + N * 2) (fC (f1, f2))) (by kernel_rfl) ⟨hd0, hd1, HRg.out⟩ (fun hHeld => ?_)
    refine wpAnyH_takesAt 0 9 2 (of_decide_eq_true (by kernel_rfl)) rfl (fun _ _ _ d _ h => by cases d <;> exact h) (by kernel_rfl) (by kernel_rfl) hHeld ?_
    simp only [List.drop_zero, List.take_succ_cons, List.take_zero]
    iterate 9 (refine wpHeld_step (v := ?_) (by rfl) (fun wz hSw => ?_) ?_; rotate_left; (focus ((try dsimp only at hSw); go_simp; try with_reducible rfl)); (simp only [Act.put, List.setIfInBounds_toArray, List.set_cons_zero, List.set_cons_succ]))
    refine wpHeld_nil ?_
    refine wpAnyH_takesAt 9 1 1 (of_decide_eq_true (by kernel_rfl)) rfl (fun _ _ _ d _ h => by cases d <;> exact h) (by kernel_rfl) (by kernel_rfl) hHeld ?_
    simp only [List.drop_succ_cons, List.drop_zero, List.take_succ_cons, List.take_zero]
    refine wpHeld_loadSt (by rfl) 47 (.tmp 26) rfl b (o + N * 2) rfl (fC (f1, f2)) (fun W hW => hW.2.2) Try.underlying47 rfl size47 ?_
    (simp only [Act.put]; (try simp only [List.setIfInBounds_toArray]); (try simp only [List.set_cons_succ]); (try simp only [List.set_cons_zero]))
    refine wpHeld_nil ?_
    refine wpAnyH_only (i := 10) (by kernel_rfl) rfl (fun K hK => ?_)
    rw [if_pos (by rfl)]
    have hR2 := (HR1.out.drewN nq).drew
    have hb2 := (below_drewN (Below.refl w.heap.size w1) nq).drew
    generalize (w1.drewN nq).drew = w2 at *
    refine wp_store_mid 47 (.tmp 4) (.tmp 27) rfl w.heap.size 0 (fC (f1, f2)).toArray rfl rfl (by have := hR2.there; exact this) (by simpa [fC] using size47) (all_oneCell_toArray (encF.one (f1, f2))) ?_
    have hR3 : Row (w2.setCells w.heap.size 0 (fC (f1, f2)).toArray.toList) w.heap.size 47 (fC (f1, f2)) := hR2.sets_all (vs := fC (f1, f2)) rfl
    have hb3 : Below w.heap.size w1 (w2.setCells w.heap.size 0 (fC (f1, f2)).toArray.toList) := below_setCells (Nat.le_refl _) _ _ hb2
    refine hK.out _ _ (Hmk.out _ hb3) ?_
    clear hK K
    refine wpAnyH_done (by kernel_rfl) ?_ _
    clear hHeld
    exact HKEY.out _ _ _ _ _ _ _ _ _ _ _ _ _ _ _ _ _ _ _ _ _ (HB1.out.trans hb3) hR3
  · have hlt' : ¬ (N : Int) < (k : Int) := by omega
    have hff : (1, 0) = (f1, f2) := by
      have hN := HN.out
      rw [← hf1, ← hf2]
      show (1, 0) = L.fate
      rw [Lk.fate, hN, List.getD_eq_getElem?_getD, List.getElem?_eq_none (by have := HK.out; omega)]
      rfl
    rw [hff] at HR1
    clear hff hf1 hf2
    go_wp2_with (go_quiet (fail))
    exact HKEY.out _ _ _ _ _ _ _ _ _ _ _ _ _ _ _ _ _ _ _ _ _ (below_drewN HB1.out _) (Row.drewN HR1.out _)
end Go.Proofs.Ythdfhbbfbohojaa
