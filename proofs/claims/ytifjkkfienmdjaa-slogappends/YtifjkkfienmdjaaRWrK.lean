/-
  The reference's Write, once more: the crashes that are left stay as they are.
-/
import Derived.Test.YtifjkkfienmdjaaRefWr
namespace Go.Proofs.Ytifjkkfienmdjaa
open Go.RowKit Go.Shelf
variable {F : List Nat} {p g : Nat} {d : St} {w : World}
set_option maxRecDepth 100000 in
set_option maxHeartbeats 4000000 in
theorem refWrite_okK (h : RefAt F w p g d) (i : Nat) (hi : i < d.ss.length) (hd : d.dead = false) (hst : d.strikes = false) {s : List Nat} (hs : IsSec s) (hwr : d.wr < 1000000) :
    Calls Try.prog 27 #[.pointer (some ⟨p, 0, none⟩), .int .i64 (i : Nat), .agg (u8s s).toArray] w fun e w' => e = .returned (.int .i64 0) ∧ RefAt F w' p g { d with ss := d.ss.set i s, wr := d.wr + 1 } ∧ Buts [p, g] w.heap.size w w' ∧ ∀ v, w.cell? ⟨p, 1, none⟩ = some v → w'.cell? ⟨p, 1, none⟩ = some v := by
  obtain ⟨w0, hw0⟩ : ∃ w0, w.alloc (.cells (u8s s).toArray 55) = w0 := ⟨_, rfl⟩
  have hb0 : Below w.heap.size w w0 := by rw [← hw0]; exact (Below.refl _ w).alloc (Nat.le_refl _) _
  have hr0 : Row w0 w.heap.size 55 (u8s s) := by rw [← hw0]; exact Row.new' w 55 (u8s s)
  have HW0 : Hid (w.alloc (.cells (u8s s).toArray 55) = w0) := hw0
  have hgx : g ≠ w.heap.size := by have := h.lt; omega
  have h0 := h.later hb0
  have he : d.err (i : Nat) = 0 := by simp only [St.err, hd]; simp; omega
  have hok := h0.1.write (i : Nat) hs
  rw [write_eq_ok he hst, Int.toNat_natCast] at hok
  obtain ⟨h1, h2, h3, h4, h5, q, len, cap, h6, h7⟩ := h0
  have c0 := h6.cell (i := 0) rfl
  have c1 := h6.cell (i := 1) rfl
  have c2 := h6.cell (i := 2) rfl
  have c3 := h6.cell (i := 3) rfl
  rw [hd] at c3
  have hl := h1.few
  have HL : Hid ((u8s s).length = 64) := by show _ = _; rw [u8s_length, hs.1]
  have HO : Hid (∀ v ∈ u8s s, v.oneCell' = true) := u8s_one _
  have HC : Hid (∀ W, Buts [g] w0.heap.size w0 W → W.cell? ⟨p, 0, none⟩ = some (.slice (some ⟨g, 0, none⟩) d.ss.length d.ss.length)) := fun W hb => (hb.row h6.lt (by simpa using h2) h6).cell (i := 0) rfl
  have HX1 : Hid (∀ W, Buts [g] w0.heap.size w0 W → W.rangeAt w.heap.size 0 (u8s s)) := fun W hb => (hb.row hr0.lt (by simpa using Ne.symm hgx) hr0).range
  have HT : Hid (∀ W : World, W.heap = w0.heap → W.there g (i * 64) 64) := fun W hh => by
    have : Row W g 55 (u8s d.ss.flatten) := by unfold Row; rw [hh]; exact h5
    refine this.there_mid ?_
    rw [u8s_length, flat_length h1.secs]
    omega
  have HEnd : Hid (∀ W1 W2 : World, W1.heap = w0.heap → Below w0.heap.size w0 W1 → W1.setCells g (i * 64) (u8s s) = W2 → Buts [p, g] w.heap.size w (W2.setCell ⟨p, 2, none⟩ (.int .i64 ((d.wr + 1 : Nat) : Int))) ∧ RefAt F (W2.setCell ⟨p, 2, none⟩ (.int .i64 ((d.wr + 1 : Nat) : Int))) p g { d with ss := d.ss.set i s, wr := d.wr + 1 } ∧ W2.cell? ⟨p, 2, none⟩ = some (.int .i64 (d.wr : Nat)) ∧ W2.frozen? ⟨p, 2, none⟩ = false ∧ (∀ v, w.cell? ⟨p, 1, none⟩ = some v → (W2.setCell ⟨p, 2, none⟩ (.int .i64 ((d.wr + 1 : Nat) : Int))).cell? ⟨p, 1, none⟩ = some v)) := fun W1 W2 hh hb1 e => by
    have hpw : p < w.heap.size := h.lt.1
    have hs0 := hb0.size
    have hb2 : Buts [p, g] w0.heap.size w0 W2 := by rw [← e]; exact (Buts.of_below hb1 (Nat.le_refl _)).sets (by simp) _ _
    have hb3 : Buts [p, g] w0.heap.size w0 (W2.setCell ⟨p, 2, none⟩ (.int .i64 ((d.wr + 1 : Nat) : Int))) := hb2.set (by simp) 2 _
    have g5 : Row W2 g 55 (u8s (d.ss.set i s).flatten) := by
      have := Row.sets (u8s s) (i * 64) (h5.later hb1)
      rwa [flat_put_all h1.secs hi hs.1, e] at this
    have g6 := Row.others h2 (u8s s) (i * 64) (h6.later hb1)
    rw [e] at g6
    refine ⟨(Buts.of_below hb0 (Nat.le_refl _)).trans (hb3.mono (fun _ h => h) hs0), ⟨hok, h2, h3, h4, g5.other (a := ⟨p, 2, none⟩) (Ne.symm h2) _, q, len, cap, ?_, h7.buts hb3 (by simp [h3, h4])⟩, g6.cell (i := 2) rfl, g6.frozen 2, fun v hv => ?_⟩
    · have := g6.set 2 (.int .i64 ((d.wr + 1 : Nat) : Int))
      simpa using this
    · rw [← hb0.cell (p := ⟨p, 1, none⟩) hpw, h6.cell (i := 1) rfl] at hv
      rw [← hv]
      exact (g6.set 2 (.int .i64 ((d.wr + 1 : Nat) : Int))).cell (i := 1) rfl
  have hii : ¬ (d.ss.length : Int) ≤ (i : Int) := by omega
  have hsw : len = 0 ∨ ∃ b off a, q = some ⟨b, off, none⟩ ∧ 0 < len ∧ decide ((0 : Int) < ((len : Nat) : Int)) = true ∧ len ≤ cap ∧ cap ≤ 9223372036854775807 ∧ w0.cell? ⟨b, off, none⟩ = some (.int .i64 a) ∧ decide (a = (d.wr : Int)) = false := by
    obtain ⟨ss, cr, wr, dead⟩ := d
    cases cr with
    | nil => exact .inl h7.1.symm
    | cons c r =>
      obtain ⟨b, off, e, hl, hc, _⟩ := h7.first (a := c.1) (k := c.2)
      exact .inr ⟨b, off, c.1, e, by omega, decide_eq_true (by omega), h7.2.1, h7.2.2.1, hc, by simpa [St.strikes] using hst⟩
  clear hw0 h h1 h5 h6 h7 hr0 hok he hst hd
  obtain ⟨X, hX⟩ : ∃ X, X = u8s s := ⟨_, rfl⟩
  rw [← hX] at HX1 HL HO HEnd HW0 ⊢
  clear hX
  go_enter Try.func27, Try.ntmps27
  rcases hsw with rfl | ⟨b, off, a, rfl, hl0, hdl, hlc, hcc, hca, hne⟩
  · go_upto_region 12 with (first
      | (rw [HW0.out])
      | (go_quiet (fail)))
    refine wp_region_held_drew (S := fun W => Buts [g] w0.heap.size w0 W) (by kernel_rfl) (Buts.of_below (below_drewN (Below.refl w0.heap.size w0) nq).drew (Nat.le_refl _)) (fun hHeld => ?_)
    refine wpAnyH_takesAt 0 5 3 (of_decide_eq_true (by kernel_rfl)) rfl (fun _ _ _ d _ h => by cases d <;> exact h) (by kernel_rfl) (by kernel_rfl) hHeld ?_
    simp only [List.drop_zero, List.take_succ_cons, List.take_zero]
    iterate 5 (refine wpHeld_step (v := ?_) (by rfl) (fun wz hSw => ?_) ?_; rotate_left; (focus (have hc := HC.out wz hSw; clear hSw; go_simp; try with_reducible rfl)); (simp only [Act.put, List.setIfInBounds_toArray, List.set_cons_zero, List.set_cons_succ]))
    refine wpHeld_nil ?_
    refine wpAnyH_takesAt 5 1 2 (of_decide_eq_true (by kernel_rfl)) rfl (fun _ _ _ d _ h => by cases d <;> exact h) (by kernel_rfl) (by kernel_rfl) hHeld ?_
    simp only [List.drop_succ_cons, List.drop_zero, List.take_succ_cons, List.take_zero]
    refine wpHeld_load (by rfl) 55 (.tmp 5) rfl w.heap.size (0) rfl X (fun W hW => HX1.out W hW) Try.underlying55 (by rw [HL.out]; exact size55) ?_
    (simp only [Act.put]; (try simp only [List.setIfInBounds_toArray]); (try simp only [List.set_cons_succ]); (try simp only [List.set_cons_zero]))
    refine wpHeld_nil ?_
    refine wpAnyH_takesAt 6 1 1 (of_decide_eq_true (by kernel_rfl)) rfl (fun _ _ _ d _ h => by cases d <;> exact h) (by kernel_rfl) (by kernel_rfl) hHeld ?_
    simp only [List.drop_succ_cons, List.drop_zero, List.take_succ_cons, List.take_zero]
    iterate 1 (refine wpHeld_step (v := ?_) (by rfl) (fun wz hSw => ?_) ?_; rotate_left; (focus ((try dsimp only at hSw); go_simp; try with_reducible rfl)); ((simp only [Act.put]; (try simp only [List.setIfInBounds_toArray]); (try simp only [List.set_cons_succ]); (try simp only [List.set_cons_zero]))))
    refine wpHeld_nil ?_
    refine wpAnyH_only (i := 7) (by kernel_rfl) rfl (fun K hK => ?_)
    rw [if_pos (by rfl)]
    refine wp_store_mid 55 (.tmp 80) (.tmp 79) rfl g (i * 64) X.toArray rfl rfl (by simp only [List.size_toArray]; rw [HL.out]; exact HT.out _ rfl) (by simp only [List.size_toArray]; rw [HL.out]; exact size55) (all_oneCell_toArray HO.out) ?_
    refine hK.out _ _ ((Buts.of_below (below_drewN (Below.refl w0.heap.size w0) nq).drew (Nat.le_refl _)).sets (by simp) _ _) ?_
    clear hK K
    simp only [Act.put]
    refine wpAnyH_done (by kernel_rfl) ?_ _
    generalize hW2 : World.setCells _ g (i * 64) X = W2
    obtain ⟨e1, e2, e3, e4, e5⟩ := HEnd.out (World.drew (World.drewN w0 nq)) W2 rfl (below_drewN (Below.refl w0.heap.size w0) nq).drew hW2
    have HE5 : Hid (∀ v, w.cell? ⟨p, 1, none⟩ = some v → _) := e5
    have HE1 : Hid (Buts [p, g] w.heap.size w _) := e1
    have HE2 : Hid (RefAt F _ p g _) := e2
    clear e1 e2 e5 HEnd hW2 hHeld
    go_wp2
    go_ret
    exact ⟨rfl, HE2.out, HE1.out, HE5.out⟩
  · have hne2 : ¬ a = (d.wr : Int) := by simpa using hne
    have hne3 : (a == (d.wr : Int)) = false := by simpa using hne2
    go_upto_region 12 with (first
      | (rw [HW0.out])
      | (go_quiet (fail)))
    refine wp_region_held_drew (S := fun W => Buts [g] w0.heap.size w0 W) (by kernel_rfl) (Buts.of_below (below_drewN (Below.refl w0.heap.size w0) nq).drew (Nat.le_refl _)) (fun hHeld => ?_)
    refine wpAnyH_takesAt 0 5 3 (of_decide_eq_true (by kernel_rfl)) rfl (fun _ _ _ d _ h => by cases d <;> exact h) (by kernel_rfl) (by kernel_rfl) hHeld ?_
    simp only [List.drop_zero, List.take_succ_cons, List.take_zero]
    iterate 5 (refine wpHeld_step (v := ?_) (by rfl) (fun wz hSw => ?_) ?_; rotate_left; (focus (have hc := HC.out wz hSw; clear hSw; go_simp; try with_reducible rfl)); (simp only [Act.put, List.setIfInBounds_toArray, List.set_cons_zero, List.set_cons_succ]))
    refine wpHeld_nil ?_
    refine wpAnyH_takesAt 5 1 2 (of_decide_eq_true (by kernel_rfl)) rfl (fun _ _ _ d _ h => by cases d <;> exact h) (by kernel_rfl) (by kernel_rfl) hHeld ?_
    simp only [List.drop_succ_cons, List.drop_zero, List.take_succ_cons, List.take_zero]
    refine wpHeld_load (by rfl) 55 (.tmp 5) rfl w.heap.size (0) rfl X (fun W hW => HX1.out W hW) Try.underlying55 (by rw [HL.out]; exact size55) ?_
    (simp only [Act.put]; (try simp only [List.setIfInBounds_toArray]); (try simp only [List.set_cons_succ]); (try simp only [List.set_cons_zero]))
    refine wpHeld_nil ?_
    refine wpAnyH_takesAt 6 1 1 (of_decide_eq_true (by kernel_rfl)) rfl (fun _ _ _ d _ h => by cases d <;> exact h) (by kernel_rfl) (by kernel_rfl) hHeld ?_
    simp only [List.drop_succ_cons, List.drop_zero, List.take_succ_cons, List.take_zero]
    iterate 1 (refine wpHeld_step (v := ?_) (by rfl) (fun wz hSw => ?_) ?_; rotate_left; (focus ((try dsimp only at hSw); go_simp; try with_reducible rfl)); ((simp only [Act.put]; (try simp only [List.setIfInBounds_toArray]); (try simp only [List.set_cons_succ]); (try simp only [List.set_cons_zero]))))
    refine wpHeld_nil ?_
    refine wpAnyH_only (i := 7) (by kernel_rfl) rfl (fun K hK => ?_)
    rw [if_pos (by rfl)]
    refine wp_store_mid 55 (.tmp 80) (.tmp 79) rfl g (i * 64) X.toArray rfl rfl (by simp only [List.size_toArray]; rw [HL.out]; exact HT.out _ rfl) (by simp only [List.size_toArray]; rw [HL.out]; exact size55) (all_oneCell_toArray HO.out) ?_
    refine hK.out _ _ ((Buts.of_below (below_drewN (Below.refl w0.heap.size w0) nq).drew (Nat.le_refl _)).sets (by simp) _ _) ?_
    clear hK K
    simp only [Act.put]
    refine wpAnyH_done (by kernel_rfl) ?_ _
    generalize hW2 : World.setCells _ g (i * 64) X = W2
    obtain ⟨e1, e2, e3, e4, e5⟩ := HEnd.out (World.drew (World.drewN w0 nq)) W2 rfl (below_drewN (Below.refl w0.heap.size w0) nq).drew hW2
    have HE5 : Hid (∀ v, w.cell? ⟨p, 1, none⟩ = some v → _) := e5
    have HE1 : Hid (Buts [p, g] w.heap.size w _) := e1
    have HE2 : Hid (RefAt F _ p g _) := e2
    clear e1 e2 e5 HEnd hW2 hHeld
    go_wp2
    go_ret
    exact ⟨rfl, HE2.out, HE1.out, HE5.out⟩

set_option maxRecDepth 100000 in
set_option maxHeartbeats 4000000 in
theorem refWrite_tearK (h : RefAt F w p g d) (i : Nat) (hi : i < d.ss.length) (hd : d.dead = false) (hst : d.strikes = true) {s : List Nat} (hs : IsSec s) :
    Calls Try.prog 27 #[.pointer (some ⟨p, 0, none⟩), .int .i64 (i : Nat), .agg (u8s s).toArray] w fun e w' => e = .returned (.int .i64 131) ∧ RefAt F w' p g { d with ss := d.ss.set i (tear (d.ss.getD i []) s d.keep), dead := true } ∧ Buts [p, g] w.heap.size w w' ∧ ∀ v, w.cell? ⟨p, 1, none⟩ = some v → w'.cell? ⟨p, 1, none⟩ = some v := by
  obtain ⟨w0, hw0⟩ : ∃ w0, w.alloc (.cells (u8s s).toArray 55) = w0 := ⟨_, rfl⟩
  have hb0 : Below w.heap.size w w0 := by rw [← hw0]; exact (Below.refl _ w).alloc (Nat.le_refl _) _
  have hr0 : Row w0 w.heap.size 55 (u8s s) := by rw [← hw0]; exact Row.new' w 55 (u8s s)
  have HW0 : Hid (w.alloc (.cells (u8s s).toArray 55) = w0) := hw0
  have hgx : g ≠ w.heap.size := by have := h.lt; omega
  have h0 := h.later hb0
  have he : d.err (i : Nat) = 0 := by simp only [St.err, hd]; simp; omega
  have hok := h0.1.write (i : Nat) hs
  rw [write_eq_tear he hst, Int.toNat_natCast] at hok
  obtain ⟨h1, h2, h3, h4, h5, q, len, cap, h6, h7⟩ := h0
  have c0 := h6.cell (i := 0) rfl
  have c1 := h6.cell (i := 1) rfl
  have c2 := h6.cell (i := 2) rfl
  have c3 := h6.cell (i := 3) rfl
  rw [hd] at c3
  have hl := h1.few
  have hold := sec_at h1.secs hi
  obtain ⟨b, off, rfl, hl0, hdl, hlc, hcc, hca, HCk⟩ : ∃ b off, q = some ⟨b, off, none⟩ ∧ 0 < len ∧ decide ((0 : Int) < ((len : Nat) : Int)) = true ∧ len ≤ cap ∧ cap ≤ 9223372036854775807 ∧ w0.cell? ⟨b, off, none⟩ = some (.int .i64 (d.wr : Int)) ∧ Hid (∀ W, Buts [g] w0.heap.size w0 W → W.cell? ⟨b, off + 1, none⟩ = some (.int .i64 d.keep)) := by
    obtain ⟨ss, cr, wr, dead⟩ := d
    cases cr with
    | nil => simp [St.strikes] at hst
    | cons c r =>
      obtain ⟨b, off, e, hl, hc, _⟩ := h7.first (a := c.1) (k := c.2)
      have hcw : c.1 = (wr : Int) := by simpa [St.strikes] using hst
      refine ⟨b, off, e, by omega, decide_eq_true (by omega), h7.2.1, h7.2.2.1, by rw [hc, hcw], fun W hb => ?_⟩
      obtain ⟨b', off', e', _, _, hc'⟩ := (h7.buts hb (by simp [h4])).first (a := c.1) (k := c.2)
      rw [e] at e'
      cases e'
      exact hc'
  have HC : Hid (∀ W, Buts [g] w0.heap.size w0 W → W.cell? ⟨p, 0, none⟩ = some (.slice (some ⟨g, 0, none⟩) d.ss.length d.ss.length) ∧ W.cell? ⟨p, 1, none⟩ = some (.slice (some ⟨b, off, none⟩) len cap) ∧ W.cell? ⟨p, 3, none⟩ = some (.bool false) ∧ W.frozen? ⟨p, 3, none⟩ = false) := fun W hb => by
    have r := hb.row h6.lt (by simpa using h2) h6
    rw [hd] at r
    exact ⟨r.cell (i := 0) rfl, r.cell (i := 1) rfl, r.cell (i := 3) rfl, r.frozen 3⟩
  have HX1 : Hid (∀ W, Buts [g] w0.heap.size w0 W → ∀ k, k < 64 → W.cell? ⟨w.heap.size, k, none⟩ = some (.int .u8 (s.getD k 0 : Nat))) := fun W hb k hk => (hb.row hr0.lt (by simpa using Ne.symm hgx) hr0).cell (u8s_at (by rw [hs.1]; exact hk))
  have HG0 : Hid (Row w0 g 55 (u8s (d.ss.set i (s.take 0 ++ (d.ss.getD i []).drop 0)).flatten)) := by
    show Row _ _ _ _
    rw [List.take_zero, List.drop_zero, List.nil_append, set_same hi]
    exact h5
  have HSs : Hid (∀ s ∈ d.ss, IsSec s) := h1.secs
  have HEnd : Hid (∀ W2, Row W2 g 55 (u8s (d.ss.set i (tear (d.ss.getD i []) s d.keep)).flatten) → Buts [g] w0.heap.size w0 W2 → Buts [p, g] w.heap.size w (W2.setCell ⟨p, 3, none⟩ (.bool true)) ∧ RefAt F (W2.setCell ⟨p, 3, none⟩ (.bool true)) p g { d with ss := d.ss.set i (tear (d.ss.getD i []) s d.keep), dead := true } ∧ (∀ v, w.cell? ⟨p, 1, none⟩ = some v → (W2.setCell ⟨p, 3, none⟩ (.bool true)).cell? ⟨p, 1, none⟩ = some v)) := fun W2 g5 hb2 => by
    have hpw : p < w.heap.size := h.lt.1
    have hs0 := hb0.size
    have hb3 : Buts [p, g] w0.heap.size w0 (W2.setCell ⟨p, 3, none⟩ (.bool true)) := (hb2.mono (by simp) (Nat.le_refl _)).set (by simp) 3 _
    have g6 := hb2.row h6.lt (by simpa using h2) h6
    refine ⟨(Buts.of_below hb0 (Nat.le_refl _)).trans (hb3.mono (fun _ h => h) hs0), ⟨hok, h2, h3, h4, g5.other (a := ⟨p, 3, none⟩) (Ne.symm h2) _, _, len, cap, ?_, h7.buts hb3 (by simp [h3, h4])⟩, fun v hv => ?_⟩
    · have := g6.set 3 (.bool true)
      simpa using this
    · rw [← hb0.cell (p := ⟨p, 1, none⟩) hpw, h6.cell (i := 1) rfl] at hv
      rw [← hv]
      exact (g6.set 3 (.bool true)).cell (i := 1) rfl
  have hii : ¬ (d.ss.length : Int) ≤ (i : Int) := by omega
  obtain ⟨keep, hkeep⟩ : ∃ keep, d.keep = keep := ⟨_, rfl⟩
  rw [hkeep] at HCk HEnd ⊢
  have hk64 := keepN_le keep
  have HK1 : Hid (∀ k : Nat, k < keepN keep → k < 64 ∧ (k : Int) < keep) := fun k hk => by unfold keepN at hk; omega
  have HK2 : Hid (∀ k : Nat, ¬ k < keepN keep → k < 64 → ¬ (k : Int) < keep) := fun k hk => by unfold keepN at hk; omega
  have HTr : Hid (s.take (keepN keep) ++ (d.ss.getD i []).drop (keepN keep) = tear (d.ss.getD i []) s keep) := rfl
  obtain ⟨K, hK⟩ : ∃ K, keepN keep = K := ⟨_, rfl⟩
  rw [hK] at HK1 HK2 HTr hk64
  obtain ⟨TT, hTT⟩ : ∃ T, tear (d.ss.getD i []) s keep = T := ⟨_, rfl⟩
  rw [hTT] at HEnd HTr ⊢
  clear hTT
  clear hw0 h h1 h5 h6 h7 hr0 hok he hst hd hkeep hK
  go_enter Try.func27, Try.ntmps27
  go_wp2_with (first
    | (rw [HW0.out])
    | (go_quiet (fail)))
  go_loopw [7] (fun kv wr => ∃ (k : Nat), k ≤ K ∧ kv = .int .i64 k ∧ Row wr g 55 (u8s (d.ss.set i (s.take k ++ (d.ss.getD i []).drop k)).flatten) ∧ Buts [g] w0.heap.size w0 wr) (fun kv _ => K - (intOf kv).toNat)
  case atStart => exact ⟨0, Nat.zero_le _, rfl, HG0.out.drewN _, Buts.of_below (below_drewN (Below.refl _ _) _) (Nat.le_refl _)⟩
  case round =>
    obtain ⟨k, hk, rfl, hrow, hbr⟩ := hrel
    have HBr : Hid (Buts [g] w0.heap.size w0 wr) := hbr
    obtain ⟨x0, x1, x3, f3⟩ := HC.out wr hbr
    have xk := HCk.out wr hbr
    clear c0 c1 c2 c3 hca
    by_cases hgo : k < K
    · obtain ⟨hk64', hkp⟩ := HK1.out k hgo
      have hk64i : (k : Int) < 64 := by omega
      have hT : (s.take k ++ (d.ss.getD i []).drop k).length = 64 := by rw [List.length_append, List.length_take, List.length_drop, hs.1, hold.1]; omega
      have hcw := hrow.cell (i := i * 64 + k) (v := .int .u8 ((d.ss.set i (s.take k ++ (d.ss.getD i []).drop k)).flatten.getD (i * 64 + k) 0 : Nat)) (u8s_at (by rw [flat_set hi, List.length_append, flat_head HSs.out hi, List.length_append]; omega))
      have hfw := hrow.frozen (i * 64 + k)
      have HStep : Hid (Row (wr.setCell ⟨g, i * 64 + k, none⟩ (.int .u8 (s.getD k 0 : Nat))) g 55 (u8s (d.ss.set i (s.take (k + 1) ++ (d.ss.getD i []).drop (k + 1))).flatten)) := by
        have := hrow.set (i * 64 + k) (.int .u8 (s.getD k 0 : Nat))
        rw [flat_byte HSs.out hi hk64' hT, step_list hs.1 hold.1 hk64'] at this
        exact this
      have HX2 : Hid (∀ W, Buts [g] w0.heap.size w0 W → W.cell? ⟨w.heap.size, k, none⟩ = some (.int .u8 (s.getD k 0 : Nat))) := fun W hb => HX1.out W hb k hk64'
      generalize (d.ss.set i (s.take k ++ (d.ss.getD i []).drop k)).flatten.getD (i * 64 + k) 0 = y at hcw
      generalize s.getD k 0 = x at *
      clear hrow hbr hT
      go_wp2
      refine wp_region_held_drew (S := fun W => Buts [g] w0.heap.size w0 W) (by kernel_rfl) HBr.out.drew (fun hHeld => ?_)
      refine wpAnyH_takesAt 0 9 3 (of_decide_eq_true (by kernel_rfl)) rfl (fun _ _ _ d _ h => by cases d <;> exact h) (by kernel_rfl) (by kernel_rfl) hHeld ?_
      simp only [List.drop_zero, List.take_succ_cons, List.take_zero]
      iterate 9 (refine wpHeld_step (v := ?_) (by rfl) (fun wz hSw => ?_) ?_; rotate_left; (focus (obtain ⟨hc, _⟩ := HC.out wz hSw; have hx := HX2.out wz hSw; clear hSw; go_simp; try with_reducible rfl)); (simp only [Act.put, List.setIfInBounds_toArray, List.set_cons_zero, List.set_cons_succ]))
      refine wpHeld_nil ?_
      refine wpAnyH_takesAt 9 2 1 (of_decide_eq_true (by kernel_rfl)) rfl (fun _ _ _ d _ h => by cases d <;> exact h) (by kernel_rfl) (by kernel_rfl) hHeld ?_
      simp only [List.drop_succ_cons, List.drop_zero, List.take_succ_cons, List.take_zero]
      iterate 2 (refine wpHeld_step (v := ?_) (by rfl) (fun wz hSw => ?_) ?_; rotate_left; (focus ((try dsimp only at hSw); go_simp; try with_reducible rfl)); (simp only [Act.put, List.setIfInBounds_toArray, List.set_cons_zero, List.set_cons_succ]))
      refine wpHeld_nil ?_
      refine wpAnyH_only (i := 11) (by kernel_rfl) rfl (fun K hK => ?_)
      rw [if_pos (by rfl)]
      go_simp
      refine hK.out _ _ (HBr.out.set (by simp) _ _).drew ?_
      clear hK K
      refine wpAnyH_done (by kernel_rfl) ?_ _
      have HStepB : Hid (Buts [g] w0.heap.size w0 (wr.setCell ⟨g, i * 64 + k, none⟩ (.int .u8 (x : Nat))).drew) := (HBr.out.set (by simp) _ _).drew
      go_wp2
      exact ⟨⟨k + 1, by omega, by simp, HStep.out.drew, HStepB.out⟩, by simp [intOf]; omega⟩
    · obtain rfl : k = K := by omega
      have HRw : Hid (Row wr g 55 (u8s (d.ss.set i TT).flatten)) := by rw [← HTr.out]; exact hrow
      clear hrow hbr
      by_cases hk64' : k < 64
      · have hk64i : (k : Int) < 64 := by omega
        have hkp := HK2.out k hgo hk64'
        go_wp2
        go_ret
        exact ⟨rfl, (HEnd.out wr HRw.out HBr.out).2.1, (HEnd.out wr HRw.out HBr.out).1, (HEnd.out wr HRw.out HBr.out).2.2⟩
      · have hk64i : ¬ (k : Int) < 64 := by omega
        go_wp2
        go_ret
        exact ⟨rfl, (HEnd.out wr HRw.out HBr.out).2.1, (HEnd.out wr HRw.out HBr.out).1, (HEnd.out wr HRw.out HBr.out).2.2⟩

/-- Write -/
theorem refWrite_keep (h : RefAt F w p g d) (i : Int) {s : List Nat} (hs : IsSec s) (hwr : d.wr < 1000000) :
    Calls Try.prog 27 #[.pointer (some ⟨p, 0, none⟩), .int .i64 i, .agg (u8s s).toArray] w fun e w' => e = .returned (.int .i64 (d.wErr i)) ∧ RefAt F w' p g (d.write i s) ∧ Buts [p, g] w.heap.size w w' ∧ ∀ v, w.cell? ⟨p, 1, none⟩ = some v → w'.cell? ⟨p, 1, none⟩ = some v := by
  by_cases he : d.err i = 0
  · obtain ⟨h1, h2, h3⟩ := err_zero he
    have hx : ((i.toNat : Nat) : Int) = i := by omega
    cases hst : d.strikes with
    | true =>
      have := refWrite_tearK h i.toNat h3 h1 hst hs
      rw [hx] at this
      rw [wErr_tear he hst, write_eq_tear he hst]
      exact this
    | false =>
      have := refWrite_okK h i.toNat h3 h1 hst hs hwr
      rw [hx] at this
      rw [wErr_ok he hst, write_eq_ok he hst]
      exact this
  · rw [St.wErr, if_pos he, St.write, if_pos he]
    refine (refWrite_bad h i (u8s s) he).mono ?_
    rintro e w' ⟨rfl, hb⟩
    exact ⟨rfl, h.later hb, Buts.of_below hb (Nat.le_refl _), fun v hv => by rw [hb.cell (p := ⟨p, 1, none⟩) h.lt.1]; exact hv⟩
end Go.Proofs.Ytifjkkfienmdjaa
