/-
  Seal of an ideal suite, walked.
-/
import Derived.Test.YtobmcaknfbooiaaDoorDrawnSeal
namespace Go.Proofs.YtobmcaknfbooiaaDoor
open Go.RowKit Go.Shelf

theorem SealPost.back {w W w' : World} {F : List Nat} {S D t Q m3 m4 : Nat} {zs : List Nat} {T : List Value → Option (List Nat)} {L : ByteArray → List (List Value)} {K : Nat} {c : List Value} {n : Nat} {v : Value} (hb : Below w.heap.size w W)
    (h : SealPost W F S D t Q m3 m4 zs T L K c n v w') : SealPost w F S D t Q m3 m4 zs T L K c n v w' := by
  obtain ⟨h1, F', f', g', L', h2, h3, h4, h5, h6⟩ := h
  refine ⟨h1.mono hb.size, F', f', g', L', fun b hb' => ?_, h3, h4, (Buts.of_below hb (Nat.le_refl _)).trans (h5.mono (fun _ h => h) hb.size), h6⟩
  rcases h2 b hb' with h | h
  · exact .inl h
  · exact .inr (Nat.le_trans hb.size h)

set_option maxRecDepth 100000 in
set_option maxHeartbeats 1000000 in
theorem seal_ideal (S D t Q m3 m4 K n : Nat) (F : List Nat) (zs : List Nat) (f g : Value → Option Value) (T : List Value → Option (List Nat)) (L : ByteArray → List (List Value)) (k : List Nat) (hk : IsKey32 k)
    (pa : Option Addr) (la ca : Nat) (za : List Nat) (pp : Option Addr) (lp cp : Nat) (zp : List Nat) (hla : la ≤ 60000) (hlp : lp ≤ 60000) (hn : sizeN (lp : Int) = n) (hn0 : 0 < n) (hK : K ≤ 1000) (w : World)
    (hIa : IsBytes w.heap.size w pa la ca za) (hIp : IsBytes w.heap.size w pp lp cp zp) (h : IdealAt w F S D t Q m3 m4 zs f g T L K) :
    Calls Tryd.prog 11 #[.pointer (some ⟨S, 0, none⟩), .agg (u8s k).toArray, .slice pa la ca, .slice pp lp cp] w fun e w' => ∃ v, e = .returned (.tuple #[v, .int .i64 (sealE T zs (askedL k (strOf za) (strOf zp)) n)]) ∧ SealPost w F S D t Q m3 m4 zs T L K (askedL k (strOf za) (strOf zp)) n v w' := by
  obtain ⟨c, hc⟩ : ∃ c, askedL k (strOf za) (strOf zp) = c := ⟨_, rfl⟩
  have HDS : Hid (∀ W, Below w.heap.size w W → Calls Tryd.prog 26 #[.pointer (some ⟨D, 0, none⟩), .agg (u8s k).toArray, .slice pa la ca, .slice pp lp cp] W fun e w' => ∃ v, e = .returned (.tuple #[v, .int .i64 (sealE T zs c n)]) ∧ SealPost w F S D t Q m3 m4 zs T L K c n v w' ∧ Buts F W.heap.size W w') := fun W hW => by
    rw [← hc]
    exact (drawnSeal_any S D t Q m3 m4 K n F zs f g T L k hk pa la ca za pp lp cp zp hla hlp hn hn0 hK W (hIa.later hW) (hIp.later hW) (h.later hW)).mono fun e w' ⟨v, h1, h2⟩ => ⟨v, h1, h2.back hW, by obtain ⟨_, _, _, _, _, _, _, _, h5, _⟩ := h2; exact h5⟩
  obtain ⟨gg, hs⟩ := h.suite
  have HM : Hid (∀ W, Below w.heap.size w W → Calls Tryd.prog 24 #[.pointer (some ⟨S, 0, none⟩)] W fun e w' => e = .returned (.bool true) ∧ w' = W) := fun W hW => isMade_some S 1 _ _ gg W (hs.later hW)
  have HSz : Hid (∀ W, Calls Tryd.prog 25 #[.int .i64 (lp : Int)] W fun e w' => e = .returned (.int .i64 (n : Nat)) ∧ Below W.heap.size W w') := fun W => by rw [← hn]; exact sealedSize_any _ (by omega) W
  have HKl : Hid ((u8s k).length = 32) := by show _ = _; rw [u8s_length, hk.1]
  have HS : Hid (∀ W, Below w.heap.size w W → SuiteAt W S 1 (some ⟨t, 0, none⟩) (some ⟨D, 0, none⟩) gg) := fun W hW => hs.later hW
  have HSl : Hid (S < w.heap.size) := Row.lt hs
  have HFl : Hid (∀ b ∈ F, b < w.heap.size) := h.lt
  have hn' : ((n : Int) == 0) = false := by simp; omega
  rw [hc]
  have hcp1 : lp ≤ cp := hIp.2.1
  have hcp2 : cp ≤ 9223372036854775807 := hIp.2.2.1
  clear h hs hIa hIp hn
  go_enter Tryd.func11, Tryd.ntmps11
  go_wp2_with (first
    | (go_at_call 24; refine (HM.out _ ((Below.refl _ w).alloc (Nat.le_refl _) _)).mono ?_; rintro e w1 ⟨rfl, hw1⟩; obtain ⟨w0, hw0⟩ : ∃ w0, w.alloc (.cells (u8s k).toArray 24) = w0 := ⟨_, rfl⟩; have hb0 : Below w.heap.size w w0 := (by rw [← hw0]; exact (Below.refl _ w).alloc (Nat.le_refl _) _); have HR0 : Hid (Row w0 w.heap.size 24 (u8s k)) := (by rw [← hw0]; exact Row.new' w 24 (u8s k)); rw [hw1, hw0]; clear hw1 hw0)
    | (go_at_call 25; refine (HSz.out _).mono ?_; rintro e w1 ⟨rfl, hb1⟩; have hB1 : Below w.heap.size w w1 := hb0.trans (hb1.mono hb0.size); have HR1 : Hid (Row w1 w.heap.size 24 (u8s k)) := Row.later HR0.out hb1; have HS1 : Hid (SuiteAt w1 S 1 (some ⟨t, 0, none⟩) (some ⟨D, 0, none⟩) gg) := HS.out _ hB1; have cs1 := Row.cell HS1.out (i := 1) rfl; clear hb1 hb0))
  have cs3 := Row.cell HS1.out (i := 3) rfl
  refine wp_region_noPanic ?_
  refine wp_region_held_drew (S := fun W' => W'.cell? ⟨S, 3, none⟩ = some (.pointer (some ⟨D, 0, none⟩)) ∧ W'.rangeAt w.heap.size 0 (u8s k)) (by kernel_rfl) ⟨by simpa using cs3, HR1.out.drew.range⟩ (fun hHeld => ?_)
  refine wpAnyH_takesAt 0 7 5 (of_decide_eq_true (by kernel_rfl)) rfl (fun _ _ _ _ _ h => h) (by kernel_rfl) (by kernel_rfl) hHeld ?_
  simp only [List.drop_zero, List.take_succ_cons, List.take_zero]
  iterate 4 (refine wpHeld_step (v := ?_) (by rfl) (fun wz hSw => ?_) ?_; rotate_left; (focus ((try dsimp only at hSw); go_simp; try with_reducible rfl)); (simp only [Act.put, List.setIfInBounds_toArray, List.set_cons_zero, List.set_cons_succ]))
  refine wpHeld_loadS (by rfl) 24 (.tmp 5) rfl w.heap.size 0 rfl (u8s k) (fun W hW => hW.2) Tryd.underlying24 rfl (by rw [HKl.out]; exact size24) ?_
  simp only [Act.put, List.setIfInBounds_toArray, List.set_cons_zero, List.set_cons_succ]
  iterate 2 (refine wpHeld_step (v := ?_) (by rfl) (fun wz hSw => ?_) ?_; rotate_left; (focus (clear hSw; go_simp; try with_reducible rfl)); (simp only [Act.put, List.setIfInBounds_toArray, List.set_cons_zero, List.set_cons_succ]))
  refine wpHeld_nil ?_
  clear hHeld
  refine wpAnyH_only (i := 7) (by kernel_rfl) rfl (fun K hK => ?_)
  rw [if_pos (by rfl)]
  go_simp
  have hB1d : Below w.heap.size w w1.drew := below_drewN hB1 1
  refine (HDS.out _ hB1d).mono ?_
  rintro e w2 ⟨v, rfl, hp, hbu⟩
  have hH2 : w2.cell? ⟨S, 3, none⟩ = some (.pointer (some ⟨D, 0, none⟩)) ∧ w2.rangeAt w.heap.size 0 (u8s k) := by
    obtain ⟨_, F', f', g', L', _, _, hI, _, _⟩ := hp
    obtain ⟨gg', hs'⟩ := hI.suite
    refine ⟨Row.cell hs' (i := 3) rfl, (hbu.row (Row.lt HR1.out.drew) (fun hm => ?_) HR1.out.drew).range⟩
    have := HFl.out _ hm
    omega
  refine hK.out _ _ hH2 ?_
  clear hK K
  refine wpAnyH_takesAt 8 4 0 (of_decide_eq_true (by kernel_rfl)) rfl (fun _ _ _ _ _ h => h) (by kernel_rfl) (by kernel_rfl) hH2 ?_
  simp only [List.drop_succ_cons, List.drop_zero, List.take_succ_cons, List.take_zero]
  iterate 4 (refine wpHeld_step (v := ?_) (by rfl) (fun wz hSw => ?_) ?_; rotate_left; (focus ((try dsimp only at hSw); go_simp; try with_reducible rfl)); (simp only [Act.put, List.setIfInBounds_toArray, List.set_cons_zero, List.set_cons_succ]))
  refine wpHeld_nil ?_
  refine wpAnyH_done (by kernel_rfl) ?_ _
  refine NoPanic.normal ?_
  have HP : Hid (SealPost w F S D t Q m3 m4 zs T L K c n v w2) := hp
  clear hp hH2
  go_wp2
  refine bodyPost_ret (results_tmp2 rfl _ _ _) rfl ?_
  exact ⟨v, rfl, HP.out⟩

end Go.Proofs.YtobmcaknfbooiaaDoor
