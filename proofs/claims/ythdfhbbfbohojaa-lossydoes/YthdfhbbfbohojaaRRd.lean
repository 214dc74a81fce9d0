/-
  The document's Receive: the walk.
-/
import Derived.Test.YthdfhbbfbohojaaRRc
namespace Go.Proofs.Ythdfhbbfbohojaa
open Go.RowKit Go.Shelf

/-- Received, by the document. -/
def RrPost (base : Nat) (w : World) (p g : Nat) (fv : Value) (L : Lk) (e : Ending) (w' : World) : Prop :=
  (L.ms = [] ∧ e = .returned (.tuple #[.slice none 0 0, .bool false]) ∧ Below w.heap.size w w') ∨
  ∃ m g' wv ms, e = .returned (.tuple #[m.v, .bool true]) ∧ srtK (keys L.ms) = m.key :: srtK (keys ms) ∧ RkAt base w' p g' fv wv ⟨L.fs, L.n, ms⟩ ∧ Txt base w' m ∧ (g' = g ∨ w.heap.size ≤ g') ∧ Buts p g w w'

set_option maxRecDepth 100000 in
set_option maxHeartbeats 4000000 in
theorem rreceive_any {base p g : Nat} {fv wv : Value} {L : Lk} {w : World} (h : RkAt base w p g fv wv L) (hml : L.ms.length ≤ 10000) :
    Calls Try.prog 11 #[.pointer (some ⟨p, 0, none⟩)] w (RrPost base w p g fv L) := by
  obtain ⟨q, c, rfl, _⟩ := id h.wait
  have HH : Hid (RkAt base w p g fv (.slice q L.ms.length c) L) := h
  have hpl := h.row.lt
  have hgl := h.ntg.lt
  have hc2 := h.row.cell (i := 2) rfl
  obtain ⟨n, hn⟩ : ∃ n, L.ms.length = n := ⟨_, rfl⟩
  rw [hn] at hc2 hml HH
  have HN : Hid (L.ms.length = n) := hn
  clear h hn
  go_enter Try.func11, Try.ntmps11
  go_wp2
  go_loopw [4, 13] (fun kk i wr => ∃ (j : Nat) (z : Int), j ≤ n ∧ i = .int .i64 j ∧ kk = .int .i64 z ∧ FstL L.ms j z ∧ Below w.heap.size w wr) (fun _ i _ => n - (RowKit.intOf i).toNat)
  case atStart => exact ⟨0, -1, Nat.zero_le _, rfl, rfl, .inl ⟨rfl, rfl⟩, Below.refl _ _⟩
  case round =>
    obtain ⟨j, z, hj, rfl, rfl, hF, hB⟩ := hrel
    by_cases hlt : j < n
    · have hji : (j : Int) < (n : Int) := by omega
      have hkw : IntKind.i64.wrap ((j : Int) + 1) = (j : Int) + 1 := by rw [IntKind.wrap_i64]; omega
      have hW : WaitAt 57 Msg.cR wr p g (.slice q n c) L.ms := by have := (HH.out.later hB).wait; exact this
      obtain ⟨o, cur, rfl, hrow, _, hnc, hcm, hoc, hrg⟩ := WaitAt.range encR hW (msg_get (ms := L.ms) (i := j) (by rw [HN.out]; exact hlt))
      have HR : Hid (wr.rangeAt g (o + j * 2) (L.ms.getD j noM).cR) := hrg
      have hsz : (Try.prog.info? 57).map (·.size) = some (L.ms.getD j noM).cR.length := size57
      have hxl : (L.ms.getD j noM).cR.length = 2 := rfl
      have hx1 := encR.one (L.ms.getD j noM)
      have hgw := hrow.lt
      have hpw : p < wr.heap.size := by have := hB.size; omega
      have hcw : wr.cell? ⟨p, 2, none⟩ = some (.slice (some ⟨g, o, none⟩) n c) := (hB.cell (p := ⟨p, 2, none⟩) hpl).trans hc2
      have HW : Hid (WaitAt 57 Msg.cR wr p g (.slice (some ⟨g, o, none⟩) n c) L.ms) := hW
      have hxd : (L.ms.getD j noM).cR[1]? = some (.int .i64 (dueAt L.ms j)) := rfl
      clear hW hrg hrow hoc
      generalize (L.ms.getD j noM).cR = x at *
      go_upto_region 5 with (first
        | ((with_reducible show wpList _ _ _ (Oper.mk _ (Op.load 57 (.tmp 16)) _ _ _ _ :: _) _ _); refine wpList_load_mid rfl 57 (.tmp 16) rfl g (o + j * 2) rfl x _ HR.out Try.underlying57 rfl hsz ?_; simp only [Act.put, List.setIfInBounds_toArray, List.set_cons_zero, List.set_cons_succ])
        | ((with_reducible show wpList _ _ _ (Oper.mk _ (Op.store 57 (.tmp 6) (.tmp 17)) _ _ _ _ :: _) _ _); refine wpList_store_Row rfl 57 (.tmp 6) (.tmp 17) rfl x rfl rfl (Row.new' wr 57 [.slice none 0 0, .int .i64 0]) hsz (by rw [hxl]; rfl) hx1 ?_; simp only [Act.put]))
      obtain ⟨w2, hw2⟩ : ∃ w2, (wr.alloc (.cells #[.slice none 0 0, .int .i64 0] 57)).setCells wr.heap.size 0 x = w2 := ⟨_, rfl⟩
      have hb2 : Below wr.heap.size wr w2 := by rw [← hw2]; exact below_setCells (Nat.le_refl _) _ _ ((Below.refl _ wr).alloc (Nat.le_refl _) _)
      have hR2 : Row w2 wr.heap.size 57 x := by rw [← hw2]; exact (Row.new' wr 57 [.slice none 0 0, .int .i64 0]).sets_all (by rw [hxl]; rfl)
      have hd2 := hR2.cell hxd
      have hcw2 : w2.cell? ⟨p, 2, none⟩ = some (.slice (some ⟨g, o, none⟩) n c) := (hb2.cell (p := ⟨p, 2, none⟩) hpw).trans hcw
      have HB2 : Hid (Below w.heap.size w w2) := hB.trans (hb2.mono hB.size)
      rw [hw2]
      clear hw2 hR2
      obtain ⟨dj, hdj⟩ : ∃ dj, dueAt L.ms j = dj := ⟨_, rfl⟩
      rw [hdj] at hd2 hxd
      have HDj : Hid (dueAt L.ms j = dj) := hdj
      clear hdj
      rcases id hF with ⟨rfl, rfl⟩ | ⟨k, rfl, hki, _⟩
      · go_wp2_with (go_quiet (fail))
        go_roundw
        case rel => exact ⟨1, 0, by omega, by go_num, by go_num, .first, below_drewN HB2.out _⟩
        case measure => simp [RowKit.intOf]; omega
      · have hk0 : ¬ ((k : Int) < 0) := by omega
        have hk0' : (0 : Int) ≤ (k : Int) := by omega
        have hkn : (k : Int) < (n : Int) := by omega
        obtain ⟨o', cur', e1, _, _, _, _, _, hrk⟩ := WaitAt.range encR HW.out (msg_get (ms := L.ms) (i := k) (by rw [HN.out]; omega))
        cases e1
        have hck : w2.cell? ⟨g, o + k * 2 + 1, none⟩ = some (.int .i64 (dueAt L.ms k)) := (hb2.cell (p := ⟨g, _, none⟩) hgw).trans (hrk 1 _ rfl)
        obtain ⟨dk, hdk⟩ : ∃ dk, dueAt L.ms k = dk := ⟨_, rfl⟩
        rw [hdk] at hck
        have HDk : Hid (dueAt L.ms k = dk) := hdk
        have HF : Hid (FstL L.ms j k) := hF
        clear hdk hrk hF
        by_cases hd : dj < dk
        · go_wp2_with (go_quiet (fail))
          go_roundw
          case rel => exact ⟨j + 1, j, by omega, by go_num, by go_num, HF.out.next_lt (by rw [HDj.out, HDk.out]; exact hd), below_drewN HB2.out _⟩
          case measure => simp [RowKit.intOf]; omega
        · go_wp2_with (go_quiet (fail))
          go_roundw
          case rel => exact ⟨j + 1, k, by omega, by go_num, by go_num, HF.out.next_ge (by rw [HDj.out, HDk.out]; exact hd), below_drewN HB2.out _⟩
          case measure => simp [RowKit.intOf]; omega
    · obtain rfl : j = n := by omega
      rcases id hF with ⟨hn0, rfl⟩ | ⟨k, rfl, hki, _⟩
      · have HB : Hid (Below w.heap.size w wr) := hB
        have HE : Hid (L.ms = []) := List.length_eq_zero_iff.1 (by rw [HN.out]; exact hn0)
        clear hB hF hn0
        go_wp2
        refine bodyPost_ret (results_tmp2 rfl _ _ _) rfl ?_
        exact .inl ⟨HE.out, rfl, HB.out⟩
      have hk0 : ¬ ((k : Int) < 0) := by omega
      have hk0' : (0 : Int) ≤ (k : Int) := by omega
      have hkn : (k : Int) < (j : Int) := by omega
      have hkn1 : (k : Int) + 1 ≤ (j : Int) := by omega
      have hk01 : (0 : Int) ≤ (k : Int) + 1 := by omega
      have hkw : IntKind.i64.wrap ((k : Int) + 1) = (k : Int) + 1 := by rw [IntKind.wrap_i64]; omega
      have htn : ((k : Int) + 1).toNat = k + 1 := by omega
      have hL := HH.out.later hB
      have hW : WaitAt 57 Msg.cR wr p g (.slice q j c) L.ms := hL.wait
      obtain ⟨o, cur, rfl, hrow, _, hnc, hcm, hoc, hrg⟩ := WaitAt.range encR hW (msg_get (ms := L.ms) (i := k) (by rw [HN.out]; exact hki))
      obtain ⟨m, hm⟩ : ∃ m, L.ms.getD k noM = m := ⟨_, rfl⟩
      rw [hm] at hrg
      have hmg : L.ms[k]? = some m := by rw [← hm]; exact msg_get (by rw [HN.out]; exact hki)
      have hcb : wr.cell? ⟨g, o + k * 2, none⟩ = some (.slice m.q m.n m.c) := hrg 0 _ rfl
      have hkc : (k : Int) ≤ (c : Int) := by omega
      have hkc1 : (k : Int) + 1 ≤ (c : Int) := by omega
      have hnc' : (j : Int) ≤ (c : Int) := by omega
      have hki' : k + 1 ≤ j := hki
      have hcw : wr.cell? ⟨p, 2, none⟩ = some (.slice (some ⟨g, o, none⟩) j c) := (hB.cell (p := ⟨p, 2, none⟩) hpl).trans hc2
      obtain ⟨m', hm', hkl, hsrt⟩ := FstL.sorted (ms := L.ms) (k := k) (by rw [HN.out]; exact hF)
      obtain rfl : m = m' := by rw [hmg] at hm'; exact Option.some.inj hm'
      have HFin' : ∀ (v7 : Value) (w7 : World) (g7 : Nat), WaitAt 57 Msg.cR w7 p g7 v7 (L.ms.take k ++ L.ms.drop (k + 1)) → (g7 = g ∨ wr.heap.size ≤ g7) → Below wr.heap.size wr w7 → RrPost base w p g fv L (.returned (.tuple #[.slice m.q m.n m.c, .bool true])) (w7.setCell ⟨p, 2, none⟩ v7) := by
        intro v7 w7 g7 hW7 hg7 hb7
        have hp7 : Row w7 p 31 [fv, .int .i64 L.n, .slice (some ⟨g, o, none⟩) j c] := hL.row.later hb7
        have hB8 : Buts p g wr (w7.setCell ⟨p, 2, none⟩ v7) := (Buts.of_below hb7).trans (.inl rfl) (Buts.setP _ _ _)
        have hsz := hB.size
        refine .inr ⟨m, g7, v7, L.ms.take k ++ L.ms.drop (k + 1), rfl, hsrt, ⟨hL.hp, ?_, hp7.set 2 v7, hL.fates.step hB8 hL.ntp hL.ntg, ?_, fun x hx => ?_⟩, (hL.txt m (List.mem_of_getElem? hmg)).buts hB8 hL.ntp hL.ntg, ?_, (Buts.of_below hB).trans (.inl rfl) hB8⟩
        · have := hL.hg; omega
        · obtain ⟨q7, c7, e, ⟨h1, h2, h3, h4⟩ | ⟨o7, cur7, e', hr, hrest⟩⟩ := hW7
          · exact ⟨q7, c7, e, .inl ⟨h1, h2, h3, h4⟩⟩
          · exact ⟨q7, c7, e, .inr ⟨o7, cur7, e', Row.other hr (row_ne hr hp7 (by decide)) _, hrest⟩⟩
        · refine (hL.txt x ?_).buts hB8 hL.ntp hL.ntg
          rcases List.mem_append.1 hx with hx | hx
          · exact List.mem_of_mem_take hx
          · exact List.mem_of_mem_drop hx
        · omega
      have hbd : Below wr.heap.size wr wr.drew := (Below.refl _ _).drew
      have hWd : WaitAt 57 Msg.cR wr.drew p g (.slice (some ⟨g, o, none⟩) j c) L.ms := hW.same (fun _ => rfl)
      have hf2 := hL.row.frozen 2
      have hRow := hL.row
      have HL : Hid (RkAt base wr p g fv _ L) := hL
      have HFn : Hid (∀ (v7 : Value) (w7 : World) (g7 : Nat), WaitAt 57 Msg.cR w7 p g7 v7 (L.ms.take k ++ L.ms.drop (k + 1)) → (g7 = g ∨ wr.heap.size ≤ g7) → Below wr.heap.size wr w7 → RrPost base w p g fv L (.returned (.tuple #[.slice m.q m.n m.c, .bool true])) (w7.setCell ⟨p, 2, none⟩ v7)) := HFin'
      have HWd : Hid (WaitAt 57 Msg.cR wr.drew p g (.slice (some ⟨g, o, none⟩) j c) L.ms) := hWd
      have HRow : Hid (Row wr p 31 _) := hRow
      clear HFin' hW hWd hL hrow hrg hm hmg hm' hkl hsrt hoc hF hB hRow
      by_cases hck : c = k + 1
      · subst hck
        have hx1 : ¬ ((k : Int) + 1 < (k : Int)) := by omega
        have hx2 : ¬ ((j : Int) < (k : Int) + 1) := by omega
        have hx3 : ¬ ((k : Int) + 1 < (j : Int)) := by omega
        have hx4 : j - (k + 1) = 0 := by omega
        obtain ⟨v7, w7, g7, hrun7, hW7, hg7, hb7⟩ := run_cut (t := 29) (ty := 29) encR Try.underlying29 info57 rfl HWd.out hki (by omega) ⟨g, o, none⟩ (fun h => by omega) 0
        have hb7' : Below wr.heap.size wr w7 := hbd.trans hb7
        have HFin : Hid (RrPost base w p g fv L (.returned (.tuple #[.slice m.q m.n m.c, .bool true])) (w7.setCell ⟨p, 2, none⟩ v7)) := HFn.out v7 w7 g7 hW7 hg7 hb7'
        obtain ⟨q7, c7, rfl, _⟩ := id hW7
        have hc7 := (HRow.out.later hb7').cell (i := 2) rfl
        have hf7 := (HRow.out.later hb7').frozen 2
        have HRun : Hid (_ = _) := hrun7
        clear hrun7 hW7 hg7 hb7 hb7'
        generalize (L.ms.take k ++ L.ms.drop (k + 1)).length = n7 at *
        go_upto_region 11 with fail
        refine wp_region_gate' 16 (fun W => W.cell? ⟨p, 2, none⟩ = some (.slice (some ⟨g, o, none⟩) j (k + 1))) (by kernel_rfl) ?_
        have hHeld : wr.drew.cell? ⟨p, 2, none⟩ = some (.slice (some ⟨g, o, none⟩) j (k + 1)) := hcw
        refine wpAnyG_takesAt 0 4 15 (of_decide_eq_true (by kernel_rfl)) rfl (fun _ _ _ d _ h => by cases d <;> exact h) (by kernel_rfl) (by kernel_rfl) (fun _ => hHeld) ?_
        simp only [List.drop_zero, List.take_succ_cons, List.take_zero]
        iterate 4 (refine wpHeldG_free (v := ?_) (by rfl) (fun wz => ?_) ?_; rotate_left; (focus (go_simp; try with_reducible rfl)); (simp only [Act.put, List.setIfInBounds_toArray, List.set_cons_zero, List.set_cons_succ]))
        refine wpHeldG_nil ?_
        refine wpAnyG_takesAt 4 1 14 (of_decide_eq_true (by kernel_rfl)) rfl (fun _ _ _ d _ h => by cases d <;> exact h) (by kernel_rfl) (by kernel_rfl) (fun _ => hHeld) ?_
        simp only [List.drop_succ_cons, List.drop_zero, List.take_succ_cons, List.take_zero]
        iterate 1 (refine wpHeldG_step (v := ?_) (by rfl) (by kernel_rfl) (fun wz hSw => ?_) ?_; rotate_left; (focus (have hc := hSw; clear hSw; go_simp; try with_reducible rfl)); ((simp only [Act.put]; (try simp only [List.setIfInBounds_toArray]); (try simp only [List.set_cons_succ]); (try simp only [List.set_cons_zero]))))
        refine wpHeldG_nil ?_
        refine wpAnyG_takesAt 5 2 12 (of_decide_eq_true (by kernel_rfl)) rfl (fun _ _ _ d _ h => by cases d <;> exact h) (by kernel_rfl) (by kernel_rfl) (fun _ => hHeld) ?_
        simp only [List.drop_succ_cons, List.drop_zero, List.take_succ_cons, List.take_zero]
        iterate 2 (refine wpHeldG_free (v := ?_) (by rfl) (fun wz => ?_) ?_; rotate_left; (focus (go_simp; try with_reducible rfl)); (simp only [Act.put, List.setIfInBounds_toArray, List.set_cons_zero, List.set_cons_succ]))
        refine wpHeldG_nil ?_
        refine wpAnyG_takesAt 7 1 11 (of_decide_eq_true (by kernel_rfl)) rfl (fun _ _ _ d _ h => by cases d <;> exact h) (by kernel_rfl) (by kernel_rfl) (fun _ => hHeld) ?_
        simp only [List.drop_succ_cons, List.drop_zero, List.take_succ_cons, List.take_zero]
        refine wpHeldG_free (v := .slice (some ⟨g, o, none⟩) k k) (by rfl) (fun wz => by go_simp) ?_
        (simp only [Act.put]; (try simp only [List.setIfInBounds_toArray]); (try simp only [List.set_cons_succ]); (try simp only [List.set_cons_zero]))
        refine wpHeldG_nil ?_
        refine wpAnyG_takesAt 8 3 8 (of_decide_eq_true (by kernel_rfl)) rfl (fun _ _ _ d _ h => by cases d <;> exact h) (by kernel_rfl) (by kernel_rfl) (fun _ => hHeld) ?_
        simp only [List.drop_succ_cons, List.drop_zero, List.take_succ_cons, List.take_zero]
        iterate 3 (refine wpHeldG_free (v := ?_) (by rfl) (fun wz => ?_) ?_; rotate_left; (focus (go_simp; try with_reducible rfl)); (simp only [Act.put, List.setIfInBounds_toArray, List.set_cons_zero, List.set_cons_succ]))
        refine wpHeldG_nil ?_
        refine wpAnyG_takesAt 11 1 7 (of_decide_eq_true (by kernel_rfl)) rfl (fun _ _ _ d _ h => by cases d <;> exact h) (by kernel_rfl) (by kernel_rfl) (fun _ => hHeld) ?_
        simp only [List.drop_succ_cons, List.drop_zero, List.take_succ_cons, List.take_zero]
        iterate 1 (refine wpHeldG_step (v := ?_) (by rfl) (by kernel_rfl) (fun wz hSw => ?_) ?_; rotate_left; (focus (have hc := hSw; clear hSw; go_simp; try with_reducible rfl)); ((simp only [Act.put]; (try simp only [List.setIfInBounds_toArray]); (try simp only [List.set_cons_succ]); (try simp only [List.set_cons_zero]))))
        refine wpHeldG_nil ?_
        refine wpAnyG_takesAt 12 2 5 (of_decide_eq_true (by kernel_rfl)) rfl (fun _ _ _ d _ h => by cases d <;> exact h) (by kernel_rfl) (by kernel_rfl) (fun _ => hHeld) ?_
        simp only [List.drop_succ_cons, List.drop_zero, List.take_succ_cons, List.take_zero]
        iterate 2 (refine wpHeldG_free (v := ?_) (by rfl) (fun wz => ?_) ?_; rotate_left; (focus (go_simp; try with_reducible rfl)); (simp only [Act.put, List.setIfInBounds_toArray, List.set_cons_zero, List.set_cons_succ]))
        refine wpHeldG_nil ?_
        refine wpAnyG_takesAt 14 1 4 (of_decide_eq_true (by kernel_rfl)) rfl (fun _ _ _ d _ h => by cases d <;> exact h) (by kernel_rfl) (by kernel_rfl) (fun _ => hHeld) ?_
        simp only [List.drop_succ_cons, List.drop_zero, List.take_succ_cons, List.take_zero]
        refine wpHeldG_free (v := .slice (some ⟨g, o, none⟩) (j - (k + 1)) 0) (by rfl) (fun wz => by go_simp) ?_
        (simp only [Act.put]; (try simp only [List.setIfInBounds_toArray]); (try simp only [List.set_cons_succ]); (try simp only [List.set_cons_zero]))
        refine wpHeldG_nil ?_
        refine wpAnyG_only (i := 15) (by kernel_rfl) rfl (by rfl) (fun K hK => ?_)
        refine wp_append_of (.tmp 52) (.tmp 59) 29 rfl rfl rfl HRun.out ?_
        refine hK.out _ _ (fun _ => hc7) ?_
        clear hK K hHeld
        (simp only [Act.put]; (try simp only [List.setIfInBounds_toArray]); (try simp only [List.set_cons_succ]); (try simp only [List.set_cons_zero]))
        refine wpAnyG_only (i := 16) (by kernel_rfl) rfl (by rfl) (fun K hK => ?_)
        go_simp
        refine hK.out _ _ (gone (by kernel_rfl)) ?_
        clear hK K
        refine wpAnyG_takesAt 17 1 1 (of_decide_eq_true (by kernel_rfl)) rfl (fun _ _ _ d _ h => by cases d <;> exact h) (by kernel_rfl) (by kernel_rfl) (gone (by kernel_rfl)) ?_
        simp only [List.drop_succ_cons, List.drop_zero, List.take_succ_cons, List.take_zero]
        iterate 1 (refine wpHeldG_free (v := ?_) (by rfl) (fun wz => ?_) ?_; rotate_left; (focus (go_simp; try with_reducible rfl)); ((simp only [Act.put]; (try simp only [List.setIfInBounds_toArray]); (try simp only [List.set_cons_succ]); (try simp only [List.set_cons_zero]))))
        refine wpHeldG_nil ?_
        refine wpAnyG_only (i := 18) (by kernel_rfl) rfl (by rfl) (fun K hK => ?_)
        go_simp
        refine hK.out _ _ (gone (by kernel_rfl)) ?_
        clear hK K
        refine wpAnyG_done (by kernel_rfl) ?_ _
        go_wp2
        refine bodyPost_ret (results_tmp2 rfl _ _ _) rfl ?_
        exact HFin.out
      · have hck' : ¬ (k + 1 = c) := fun e => hck e.symm
        have hx1 : ¬ ((c : Int) < (k : Int)) := by omega
        have hx2 : ¬ ((j : Int) < (k : Int) + 1) := by omega
        have hx3 : ¬ ((c : Int) < (j : Int)) := by omega
        obtain ⟨v7, w7, g7, hrun7, hW7, hg7, hb7⟩ := run_cut (t := 29) (ty := 29) encR Try.underlying29 info57 rfl HWd.out hki (by omega) ⟨g, o + (k + 1) * 2, none⟩ (fun _ => rfl) (c - (k + 1))
        have hb7' : Below wr.heap.size wr w7 := hbd.trans hb7
        have HFin : Hid (RrPost base w p g fv L (.returned (.tuple #[.slice m.q m.n m.c, .bool true])) (w7.setCell ⟨p, 2, none⟩ v7)) := HFn.out v7 w7 g7 hW7 hg7 hb7'
        obtain ⟨q7, c7, rfl, _⟩ := id hW7
        have hc7 := (HRow.out.later hb7').cell (i := 2) rfl
        have hf7 := (HRow.out.later hb7').frozen 2
        have HRun : Hid (_ = _) := hrun7
        clear hrun7 hW7 hg7 hb7 hb7'
        generalize (L.ms.take k ++ L.ms.drop (k + 1)).length = n7 at *
        go_upto_region 11 with fail
        refine wp_region_gate' 16 (fun W => W.cell? ⟨p, 2, none⟩ = some (.slice (some ⟨g, o, none⟩) j c)) (by kernel_rfl) ?_
        have hHeld : wr.drew.cell? ⟨p, 2, none⟩ = some (.slice (some ⟨g, o, none⟩) j c) := hcw
        refine wpAnyG_takesAt 0 4 15 (of_decide_eq_true (by kernel_rfl)) rfl (fun _ _ _ d _ h => by cases d <;> exact h) (by kernel_rfl) (by kernel_rfl) (fun _ => hHeld) ?_
        simp only [List.drop_zero, List.take_succ_cons, List.take_zero]
        iterate 4 (refine wpHeldG_free (v := ?_) (by rfl) (fun wz => ?_) ?_; rotate_left; (focus (go_simp; try with_reducible rfl)); (simp only [Act.put, List.setIfInBounds_toArray, List.set_cons_zero, List.set_cons_succ]))
        refine wpHeldG_nil ?_
        refine wpAnyG_takesAt 4 1 14 (of_decide_eq_true (by kernel_rfl)) rfl (fun _ _ _ d _ h => by cases d <;> exact h) (by kernel_rfl) (by kernel_rfl) (fun _ => hHeld) ?_
        simp only [List.drop_succ_cons, List.drop_zero, List.take_succ_cons, List.take_zero]
        iterate 1 (refine wpHeldG_step (v := ?_) (by rfl) (by kernel_rfl) (fun wz hSw => ?_) ?_; rotate_left; (focus (have hc := hSw; clear hSw; go_simp; try with_reducible rfl)); ((simp only [Act.put]; (try simp only [List.setIfInBounds_toArray]); (try simp only [List.set_cons_succ]); (try simp only [List.set_cons_zero]))))
        refine wpHeldG_nil ?_
        refine wpAnyG_takesAt 5 2 12 (of_decide_eq_true (by kernel_rfl)) rfl (fun _ _ _ d _ h => by cases d <;> exact h) (by kernel_rfl) (by kernel_rfl) (fun _ => hHeld) ?_
        simp only [List.drop_succ_cons, List.drop_zero, List.take_succ_cons, List.take_zero]
        iterate 2 (refine wpHeldG_free (v := ?_) (by rfl) (fun wz => ?_) ?_; rotate_left; (focus (go_simp; try with_reducible rfl)); (simp only [Act.put, List.setIfInBounds_toArray, List.set_cons_zero, List.set_cons_succ]))
        refine wpHeldG_nil ?_
        refine wpAnyG_takesAt 7 1 11 (of_decide_eq_true (by kernel_rfl)) rfl (fun _ _ _ d _ h => by cases d <;> exact h) (by kernel_rfl) (by kernel_rfl) (fun _ => hHeld) ?_
        simp only [List.drop_succ_cons, List.drop_zero, List.take_succ_cons, List.take_zero]
        refine wpHeldG_free (v := .slice (some ⟨g, o, none⟩) k k) (by rfl) (fun wz => by go_simp) ?_
        (simp only [Act.put]; (try simp only [List.setIfInBounds_toArray]); (try simp only [List.set_cons_succ]); (try simp only [List.set_cons_zero]))
        refine wpHeldG_nil ?_
        refine wpAnyG_takesAt 8 3 8 (of_decide_eq_true (by kernel_rfl)) rfl (fun _ _ _ d _ h => by cases d <;> exact h) (by kernel_rfl) (by kernel_rfl) (fun _ => hHeld) ?_
        simp only [List.drop_succ_cons, List.drop_zero, List.take_succ_cons, List.take_zero]
        iterate 3 (refine wpHeldG_free (v := ?_) (by rfl) (fun wz => ?_) ?_; rotate_left; (focus (go_simp; try with_reducible rfl)); (simp only [Act.put, List.setIfInBounds_toArray, List.set_cons_zero, List.set_cons_succ]))
        refine wpHeldG_nil ?_
        refine wpAnyG_takesAt 11 1 7 (of_decide_eq_true (by kernel_rfl)) rfl (fun _ _ _ d _ h => by cases d <;> exact h) (by kernel_rfl) (by kernel_rfl) (fun _ => hHeld) ?_
        simp only [List.drop_succ_cons, List.drop_zero, List.take_succ_cons, List.take_zero]
        iterate 1 (refine wpHeldG_step (v := ?_) (by rfl) (by kernel_rfl) (fun wz hSw => ?_) ?_; rotate_left; (focus (have hc := hSw; clear hSw; go_simp; try with_reducible rfl)); ((simp only [Act.put]; (try simp only [List.setIfInBounds_toArray]); (try simp only [List.set_cons_succ]); (try simp only [List.set_cons_zero]))))
        refine wpHeldG_nil ?_
        refine wpAnyG_takesAt 12 2 5 (of_decide_eq_true (by kernel_rfl)) rfl (fun _ _ _ d _ h => by cases d <;> exact h) (by kernel_rfl) (by kernel_rfl) (fun _ => hHeld) ?_
        simp only [List.drop_succ_cons, List.drop_zero, List.take_succ_cons, List.take_zero]
        iterate 2 (refine wpHeldG_free (v := ?_) (by rfl) (fun wz => ?_) ?_; rotate_left; (focus (go_simp; try with_reducible rfl)); (simp only [Act.put, List.setIfInBounds_toArray, List.set_cons_zero, List.set_cons_succ]))
        refine wpHeldG_nil ?_
        refine wpAnyG_takesAt 14 1 4 (of_decide_eq_true (by kernel_rfl)) rfl (fun _ _ _ d _ h => by cases d <;> exact h) (by kernel_rfl) (by kernel_rfl) (fun _ => hHeld) ?_
        simp only [List.drop_succ_cons, List.drop_zero, List.take_succ_cons, List.take_zero]
        refine wpHeldG_free (v := .slice (some ⟨g, o + (k + 1) * 2, none⟩) (j - (k + 1)) (c - (k + 1))) (by rfl) (fun wz => by go_simp) ?_
        (simp only [Act.put]; (try simp only [List.setIfInBounds_toArray]); (try simp only [List.set_cons_succ]); (try simp only [List.set_cons_zero]))
        refine wpHeldG_nil ?_
        refine wpAnyG_only (i := 15) (by kernel_rfl) rfl (by rfl) (fun K hK => ?_)
        refine wp_append_of (.tmp 52) (.tmp 59) 29 rfl rfl rfl HRun.out ?_
        refine hK.out _ _ (fun _ => hc7) ?_
        clear hK K hHeld
        (simp only [Act.put]; (try simp only [List.setIfInBounds_toArray]); (try simp only [List.set_cons_succ]); (try simp only [List.set_cons_zero]))
        refine wpAnyG_only (i := 16) (by kernel_rfl) rfl (by rfl) (fun K hK => ?_)
        go_simp
        refine hK.out _ _ (gone (by kernel_rfl)) ?_
        clear hK K
        refine wpAnyG_takesAt 17 1 1 (of_decide_eq_true (by kernel_rfl)) rfl (fun _ _ _ d _ h => by cases d <;> exact h) (by kernel_rfl) (by kernel_rfl) (gone (by kernel_rfl)) ?_
        simp only [List.drop_succ_cons, List.drop_zero, List.take_succ_cons, List.take_zero]
        iterate 1 (refine wpHeldG_free (v := ?_) (by rfl) (fun wz => ?_) ?_; rotate_left; (focus (go_simp; try with_reducible rfl)); ((simp only [Act.put]; (try simp only [List.setIfInBounds_toArray]); (try simp only [List.set_cons_succ]); (try simp only [List.set_cons_zero]))))
        refine wpHeldG_nil ?_
        refine wpAnyG_only (i := 18) (by kernel_rfl) rfl (by rfl) (fun K hK => ?_)
        go_simp
        refine hK.out _ _ (gone (by kernel_rfl)) ?_
        clear hK K
        refine wpAnyG_done (by kernel_rfl) ?_ _
        go_wp2
        refine bodyPost_ret (results_tmp2 rfl _ _ _) rfl ?_
        exact HFin.out
end Go.Proofs.Ythdfhbbfbohojaa
