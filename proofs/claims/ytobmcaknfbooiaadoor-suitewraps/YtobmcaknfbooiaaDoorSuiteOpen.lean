/-
  Open of an ideal suite, walked.
-/
import Derived.Test.YtobmcaknfbooiaaDoorOpen
import Derived.Test.YtobmcaknfbooiaaDoorSuiteSeal
namespace Go.Proofs.YtobmcaknfbooiaaDoor
open Go.RowKit Go.Shelf

set_option maxRecDepth 100000 in
set_option maxHeartbeats 1000000 in
theorem open_ideal (S D t Q m3 m4 K : Nat) (F : List Nat) (zs : List Nat) (f g : Value → Option Value) (T : List Value → Option (List Nat)) (L : ByteArray → List (List Value)) (k : List Nat) (hk : IsKey32 k)
    (pa : Option Addr) (la ca : Nat) (za : List Nat) (pc : Option Addr) (lc cc : Nat) (zc : List Nat) (hla : la ≤ 60000) (hlc : lc ≤ 60000) (hK : K ≤ 1000) (w : World)
    (hIa : IsBytes w.heap.size w pa la ca za) (hIc : IsBytes w.heap.size w pc lc cc zc) (h : IdealAt w F S D t Q m3 m4 zs f g T L K) :
    Calls Tryd.prog 12 #[.pointer (some ⟨S, 0, none⟩), .agg (u8s k).toArray, .slice pa la ca, .slice pc lc cc] w fun e w' => ∃ v er, e = .returned (.tuple #[v, .int .i64 er]) ∧ OpenRes (L (strOf zc)) k (strOf za) v er w' ∧ Below w.heap.size w w' := by
  obtain ⟨x1, x2, hD⟩ := h.drawn
  obtain ⟨gg, hs⟩ := h.suite
  have HDO : Hid (∀ W, Below w.heap.size w W → Calls Tryd.prog 28 #[.pointer (some ⟨D, 0, none⟩), .agg (u8s k).toArray, .slice pa la ca, .slice pc lc cc] W fun e w' => ∃ v er, e = .returned (.tuple #[v, .int .i64 er]) ∧ OpenRes (L (strOf zc)) k (strOf za) v er w' ∧ Below W.heap.size W w') := fun W hW =>
    callsIn_wide.1 (drawnOpen_in 6 (Nat.le_refl _) D m4 _ _ _ _ k hk pa la ca za pc lc cc zc hla hlc g L F K hK W (hD.later hW) (hIa.later hW) (hIc.later hW) (h.asked.keep (fun b hb => hW.block b (h.lt b hb))) (fun b hb => Nat.lt_of_lt_of_le (h.lt b hb) hW.size))
  have HM : Hid (∀ W, Below w.heap.size w W → Calls Tryd.prog 24 #[.pointer (some ⟨S, 0, none⟩)] W fun e w' => e = .returned (.bool true) ∧ w' = W) := fun W hW => isMade_some S 1 _ _ gg W (hs.later hW)
  have HKl : Hid ((u8s k).length = 32) := by show _ = _; rw [u8s_length, hk.1]
  have HS : Hid (∀ W, Below w.heap.size w W → SuiteAt W S 1 (some ⟨t, 0, none⟩) (some ⟨D, 0, none⟩) gg) := fun W hW => hs.later hW
  clear h hs hIa hIc hD
  go_enter Tryd.func12, Tryd.ntmps12
  go_wp2_with ((go_at_call 24; refine (HM.out _ ((Below.refl _ w).alloc (Nat.le_refl _) _)).mono ?_; rintro e w1' ⟨rfl, hw1⟩; obtain ⟨w1, hw0⟩ : ∃ w1, w.alloc (.cells (u8s k).toArray 24) = w1 := ⟨_, rfl⟩; have hB1 : Below w.heap.size w w1 := (by rw [← hw0]; exact (Below.refl _ w).alloc (Nat.le_refl _) _); have HR1 : Hid (Row w1 w.heap.size 24 (u8s k)) := (by rw [← hw0]; exact Row.new' w 24 (u8s k)); have HS1 : Hid (SuiteAt w1 S 1 (some ⟨t, 0, none⟩) (some ⟨D, 0, none⟩) gg) := HS.out _ hB1; have cs1 := Row.cell HS1.out (i := 1) rfl; rw [hw1, hw0]; clear hw1 hw0))
  have cs3 := Row.cell HS1.out (i := 3) rfl
  refine wp_region_noPanic ?_
  refine wp_region_held_drew (S := fun W' => W'.cell? ⟨S, 3, none⟩ = some (.pointer (some ⟨D, 0, none⟩)) ∧ W'.rangeAt w.heap.size 0 (u8s k)) (by kernel_rfl) ⟨by simpa using cs3, HR1.out.drew.range⟩ (fun hHeld => ?_)
  refine wpAnyH_takesAt 0 7 5 (of_decide_eq_true (by kernel_rfl)) rfl (fun _ _ _ _ _ h => h) (by kernel_rfl) (by kernel_rfl) hHeld ?_
  simp only [List.drop_zero, List.take_succ_cons, List.take_zero]
  iterate 4 (refine wpHeld_step (v := ?_) (by rfl) (fun wz hSw => ?_) ?_; rotate_left; (focus ((try dsimp only at hSw); go_simp; try with_reducible rfl)); (simp only [Act.put, List.setIfInBounds_toArray, List.set_cons_zero, List.set_cons_succ]))
  refine wpHeld_loadS (by rfl) 24 (.tmp 5) rfl w.heap.size 0 rfl (u8s k) (fun W hW => hW.2) Tryd.underlying24 rfl (by rw [HKl.out]; exact size24) ?_
  simp only [Act.put, List.setIfInBounds_toArray, List.set_cons_zero, List.set_cons_succ]
  iterate 2 (refine wpHeld_step (v := ?_) (by rfl) (fun wz hSw => ?_) ?_; rotate_left; (focus (clear hSw; go_simp; try with_reducible rfl)); (simp only [Act.put, List.setIfInBounds_toArray, List.set_cons_zero, List.set_cons_succ]))
  refine wpHeld_nil ?_
  clear hHeld
  refine wpAnyH_only (i := 7) (by kernel_rfl) rfl (fun K hK => ?_)
  rw [if_pos (by rfl)]
  go_simp
  have hB1d : Below w.heap.size w w1.drew := below_drewN hB1 1
  refine (HDO.out _ hB1d).mono ?_
  rintro e w2 ⟨v, er, rfl, hp, hb2⟩
  have hH2 : w2.cell? ⟨S, 3, none⟩ = some (.pointer (some ⟨D, 0, none⟩)) ∧ w2.rangeAt w.heap.size 0 (u8s k) :=
    ⟨Row.cell (Row.later (Row.drew HS1.out) hb2) (i := 3) rfl, ((Row.drew HR1.out).later hb2).range⟩
  refine hK.out _ _ hH2 ?_
  clear hK K
  refine wpAnyH_takesAt 8 4 0 (of_decide_eq_true (by kernel_rfl)) rfl (fun _ _ _ _ _ h => h) (by kernel_rfl) (by kernel_rfl) hH2 ?_
  simp only [List.drop_succ_cons, List.drop_zero, List.take_succ_cons, List.take_zero]
  iterate 4 (refine wpHeld_step (v := ?_) (by rfl) (fun wz hSw => ?_) ?_; rotate_left; (focus ((try dsimp only at hSw); go_simp; try with_reducible rfl)); (simp only [Act.put, List.setIfInBounds_toArray, List.set_cons_zero, List.set_cons_succ]))
  refine wpHeld_nil ?_
  refine wpAnyH_done (by kernel_rfl) ?_ _
  refine NoPanic.normal ?_
  have HP : Hid (OpenRes (L (strOf zc)) k (strOf za) v er w2) := hp
  have HB2 : Hid (Below w.heap.size w w2) := hB1d.trans (hb2.mono hB1d.size)
  clear hp hH2 hb2
  go_wp2
  refine bodyPost_ret (results_tmp2 rfl _ _ _) rfl ?_
  exact ⟨v, er, rfl, HP.out, HB2.out⟩

end Go.Proofs.YtobmcaknfbooiaaDoor
