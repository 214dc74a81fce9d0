/-
  Write: refused; struck by a crash; done.
-/
import Derived.Test.YtifjkkfienmdjaaStart
import Derived.Test.YtifjkkfienmdjaaRead
import Derived.Test.YtifjkkfienmdjaaHeld
import Derived.Deep.CutRange
namespace Go.Proofs.Ytifjkkfienmdjaa
open Go.RowKit Go.Shelf

variable {F : List Nat} {p g : Nat} {d : St} {w : World}

set_option maxRecDepth 100000 in
set_option maxHeartbeats 2000000 in
theorem write_bad (a : Option Addr) (i e0 : Int) (he : (e0 == 0) = false) (S : List Value) (w : World) (H : ∀ W, Below w.heap.size w W → Calls Try.prog 42 #[.pointer a, .int .i64 i] W fun e w' => e = .returned (.int .i64 e0) ∧ w' = W) :
    Calls Try.prog 25 #[.pointer a, .int .i64 i, .agg S.toArray] w fun e w' => e = .returned (.int .i64 e0) ∧ Below w.heap.size w w' := by
  obtain ⟨w0, hw0⟩ : ∃ w0, w.alloc (.cells S.toArray 55) = w0 := ⟨_, rfl⟩
  have hb0 : Below w.heap.size w w0 := by rw [← hw0]; exact (Below.refl _ w).alloc (Nat.le_refl _) _
  have HW0 : Hid (w.alloc (.cells S.toArray 55) = w0) := hw0
  have HR : Hid (Calls Try.prog 42 #[.pointer a, .int .i64 i] w0 fun e w' => e = .returned (.int .i64 e0) ∧ w' = w0) := H w0 hb0
  clear hw0 H
  go_enter Try.func25, Try.ntmps25
  go_wp2_with (first
    | (rw [HW0.out])
    | (go_at_call 42; refine HR.out.mono ?_; rintro e w1 ⟨rfl, hw1⟩; obtain rfl : w0 = w1 := hw1.symm; clear hw1))
  go_ret
  exact ⟨rfl, hb0⟩

theorem Row.there_mid {W : World} {b : Nat} {t : TypeId} {c : List Value} (h : Row W b t c) {o n : Nat} (ho : o + n ≤ c.length) : W.there b o n := fun j hj => by
  have := h.there (o + j) (by omega)
  rwa [Nat.zero_add] at this

set_option maxRecDepth 100000 in
set_option maxHeartbeats 2000000 in
theorem write_ok (h : DiskAt F w p g d) (i : Nat) (hi : i < d.ss.length) (hd : d.dead = false) (hst : d.strikes = false) {s : List Nat} (hs : IsSec s) (hwr : d.wr < 1000000) :
    Calls Try.prog 25 #[.pointer (some ⟨p, 0, none⟩), .int .i64 (i : Nat), .agg (u8s s).toArray] w fun e w' => e = .returned (.int .i64 0) ∧ DiskAt F w' p g { d with ss := d.ss.set i s, wr := d.wr + 1 } ∧ Buts [p, g] w.heap.size w w' := by
  obtain ⟨w0, hw0⟩ : ∃ w0, w.alloc (.cells (u8s s).toArray 55) = w0 := ⟨_, rfl⟩
  have hb0 : Below w.heap.size w w0 := by rw [← hw0]; exact (Below.refl _ w).alloc (Nat.le_refl _) _
  have hr0 : Row w0 w.heap.size 55 (u8s s) := by rw [← hw0]; exact Row.new' w 55 (u8s s)
  have h' := h.later hb0
  have he : d.err (i : Nat) = 0 := by simp only [St.err, hd]; simp; omega
  have HR : Hid (Calls Try.prog 42 #[.pointer (some ⟨p, 0, none⟩), .int .i64 (i : Nat)] w0 fun e w' => e = .returned (.int .i64 0) ∧ w' = w0) := by
    have := refuses_any h' (i : Nat)
    rw [he] at this
    exact this
  have HS : Hid (Calls Try.prog 43 #[.pointer (some ⟨p, 0, none⟩)] w0 fun e w' => e = .returned (.bool false) ∧ Below w0.heap.size w0 w') := by
    have := strikes_any h'
    rw [hst] at this
    exact this
  have HW0 : Hid (w.alloc (.cells (u8s s).toArray 55) = w0) := hw0
  clear hw0
  go_enter Try.func25, Try.ntmps25
  go_upto_region 9 with (first
    | (rw [HW0.out])
    | (go_at_call 42; refine HR.out.mono ?_; rintro e w1 ⟨rfl, hw1⟩; obtain rfl : w0 = w1 := hw1.symm; clear hw1)
    | (go_at_call 43; refine HS.out.mono ?_; rintro e w1 ⟨rfl, hb1⟩))
  have h1 := h'.later hb1
  have HD : Hid (DiskAt F w1 p g d) := h1
  have HR1 : Hid (Row w1 w.heap.size 55 (u8s s)) := hr0.later hb1
  have hgx : g ≠ w.heap.size := by have := h.lt; omega
  have HC : Hid (∀ W, Buts [g] w1.heap.size w1 W → W.cell? ⟨p, 2, none⟩ = some (.slice (some ⟨g, 0, none⟩) d.ss.length d.ss.length)) := fun W hb => by
    obtain ⟨h1, h2, h3, h4, h5, q, len, cap, h6, h7⟩ := h1
    exact (hb.row h6.lt (by simpa using h2) h6).cell (i := 2) rfl
  have HX1 : Hid (∀ W, Buts [g] w1.heap.size w1 W → W.rangeAt w.heap.size 0 (u8s s)) := fun W hb => (hb.row HR1.out.lt (by simpa using Ne.symm hgx) HR1.out).range
  have hfew := h1.1.few
  have HL : Hid ((u8s s).length = 64) := by show _ = _; rw [u8s_length, hs.1]
  have HO : Hid (∀ v ∈ u8s s, v.oneCell' = true) := u8s_one _
  have HT : Hid (w1.there g (i * 64) 64) := by
    refine h1.2.2.2.2.1.there_mid ?_
    rw [u8s_length, flat_length h1.1.secs]
    omega
  have HEnd : Hid (∀ W2, w1.drew.setCells g (i * 64) (u8s s) = W2 → Buts [p, g] w.heap.size w (W2.setCell ⟨p, 3, none⟩ (.int .i64 ((d.wr + 1 : Nat) : Int))) ∧ DiskAt F (W2.setCell ⟨p, 3, none⟩ (.int .i64 ((d.wr + 1 : Nat) : Int))) p g { d with ss := d.ss.set i s, wr := d.wr + 1 } ∧ W2.cell? ⟨p, 3, none⟩ = some (.int .i64 (d.wr : Nat)) ∧ W2.frozen? ⟨p, 3, none⟩ = false) := fun W2 e => by
    have hba : Below w.heap.size w w1 := hb0.trans (hb1.mono hb0.size)
    have hs1 := hba.size
    have hb2 : Buts [p, g] w1.heap.size w1 W2 := by rw [← e]; exact (Buts.refl _ _ w1).drew.sets (by simp) _ _
    have hb3 : Buts [p, g] w1.heap.size w1 (W2.setCell ⟨p, 3, none⟩ (.int .i64 ((d.wr + 1 : Nat) : Int))) := hb2.set (by simp) 3 _
    have hok := h1.1.write (i : Nat) hs
    rw [St.write, he, if_neg (by simp), hst, if_neg (by simp), Int.toNat_natCast] at hok
    obtain ⟨h1, h2, h3, h4, h5, q, len, cap, h6, h7⟩ := h1
    have g5 : Row W2 g 55 (u8s (d.ss.set i s).flatten) := by
      have := Row.sets (u8s s) (i * 64) h5.drew
      rwa [flat_put_all h1.secs hi hs.1, e] at this
    have g6 := Row.others h2 (u8s s) (i * 64) h6.drew
    rw [e] at g6
    refine ⟨(Buts.of_below hba (Nat.le_refl _)).trans (hb3.mono (fun _ h => h) hs1), ⟨hok, h2, h3, h4, g5.other (a := ⟨p, 3, none⟩) (Ne.symm h2) _, q, len, cap, ?_, h7.buts hb3 (by simp [h3, h4])⟩, g6.cell (i := 3) rfl, g6.frozen 3⟩
    have := g6.set 3 (.int .i64 ((d.wr + 1 : Nat) : Int))
    simpa using this
  clear h1 hr0 h' h HD HR1
  obtain ⟨X, hX⟩ : ∃ X, X = u8s s := ⟨_, rfl⟩
  rw [← hX] at HX1 HL HO HEnd ⊢
  clear hX
  refine wp_region_held_drew (S := fun W => Buts [g] w1.heap.size w1 W) (by kernel_rfl) (Buts.refl _ _ _).drew (fun hHeld => ?_)
  refine wpAnyH_takesAt 0 5 3 (of_decide_eq_true (by kernel_rfl)) rfl (fun _ _ _ d _ h => by cases d <;> exact h) (by kernel_rfl) (by kernel_rfl) hHeld ?_
  simp only [List.drop_zero, List.take_succ_cons, List.take_zero]
  iterate 5 (refine wpHeld_step (v := ?_) (by rfl) (fun wz hSw => ?_) ?_; rotate_left; (focus (have hc := HC.out wz hSw; clear hSw; go_simp; try with_reducible rfl)); (simp only [Act.put, List.setIfInBounds_toArray, List.set_cons_zero, List.set_cons_succ]))
  refine wpHeld_nil ?_
  refine wpAnyH_takesAt 5 1 2 (of_decide_eq_true (by kernel_rfl)) rfl (fun _ _ _ d _ h => by cases d <;> exact h) (by kernel_rfl) (by kernel_rfl) hHeld ?_
  simp only [List.drop_succ_cons, List.drop_zero, List.take_succ_cons, List.take_zero]
  refine wpHeld_load (by rfl) 55 (.tmp 5) rfl w.heap.size (0) rfl X (fun W hW => HX1.out W hW) Try.underlying55 (by rw [HL.out]; exact size55) ?_
  (simp only [Act.put]; (try simp only [List.setIfInBounds_toArray]); (try simp only [List.set_cons_succ]); (try simp only [List.set_cons_zero]))
  refine wpHeld_nil ?_
  refine wpAnyH_takesAt 6 1 1 (of_decide_eq_true (by kernel_rfl)) rfl (fun _ _ _ d _ h => by cases d <;> exact h) (by kernel_rfl) (by kernel_rfl) hHeld ?_
  simp only [List.drop_succ_cons, List.drop_zero, List.take_succ_cons, List.take_zero]
  iterate 1 (refine wpHeld_step (v := ?_) (by rfl) (fun wz hSw => ?_) ?_; rotate_left; (focus ((try dsimp only at hSw); go_simp; try with_reducible rfl)); ((simp only [Act.put]; (try simp only [List.setIfInBounds_toArray]); (try simp only [List.set_cons_succ]); (try simp only [List.set_cons_zero]))))
  refine wpHeld_nil ?_
  refine wpAnyH_only (i := 7) (by kernel_rfl) rfl (fun K hK => ?_)
  rw [if_pos (by rfl)]
  refine wp_store_mid 55 (.tmp 44) (.tmp 43) rfl g (i * 64) X.toArray rfl rfl (by simp only [List.size_toArray]; rw [HL.out]; exact HT.out) (by simp only [List.size_toArray]; rw [HL.out]; exact size55) (all_oneCell_toArray HO.out) ?_
  refine hK.out _ _ ((Buts.refl _ _ _).drew.sets (by simp) _ _) ?_
  clear hK K
  simp only [Act.put]
  refine wpAnyH_done (by kernel_rfl) ?_ _
  obtain ⟨W2, hW2⟩ : ∃ W2, w1.drew.setCells g (i * 64) X = W2 := ⟨_, rfl⟩
  rw [hW2]
  obtain ⟨e1, e2, e3, e4⟩ := HEnd.out W2 hW2
  have HE1 : Hid (Buts [p, g] w.heap.size w _) := e1
  have HE2 : Hid (DiskAt F _ p g _) := e2
  clear e1 e2 HEnd hW2 hHeld
  go_wp2
  go_ret
  exact ⟨rfl, HE2.out, HE1.out⟩

theorem splice_put {c cs : List Value} {o : Nat} (h : o + cs.length ≤ c.length) : splice c o cs = putAt c o cs := by
  rw [putAt_eq _ _ _ h, splice, List.append_assoc]

set_option maxRecDepth 100000 in
set_option maxHeartbeats 2000000 in
theorem write_tear (h : DiskAt F w p g d) (i : Nat) (hi : i < d.ss.length) (hd : d.dead = false) (hst : d.strikes = true) {s : List Nat} (hs : IsSec s) :
    Calls Try.prog 25 #[.pointer (some ⟨p, 0, none⟩), .int .i64 (i : Nat), .agg (u8s s).toArray] w fun e w' => e = .returned (.int .i64 131) ∧ DiskAt F w' p g { d with ss := d.ss.set i (tear (d.ss.getD i []) s d.keep), dead := true } ∧ Buts [p, g] w.heap.size w w' := by
  obtain ⟨w0, hw0⟩ : ∃ w0, w.alloc (.cells (u8s s).toArray 55) = w0 := ⟨_, rfl⟩
  have hb0 : Below w.heap.size w w0 := by rw [← hw0]; exact (Below.refl _ w).alloc (Nat.le_refl _) _
  have hr0 : Row w0 w.heap.size 55 (u8s s) := by rw [← hw0]; exact Row.new' w 55 (u8s s)
  have h' := h.later hb0
  have he : d.err (i : Nat) = 0 := by simp only [St.err, hd]; simp; omega
  have HR : Hid (Calls Try.prog 42 #[.pointer (some ⟨p, 0, none⟩), .int .i64 (i : Nat)] w0 fun e w' => e = .returned (.int .i64 0) ∧ w' = w0) := by
    have := refuses_any h' (i : Nat)
    rw [he] at this
    exact this
  have HS : Hid (Calls Try.prog 43 #[.pointer (some ⟨p, 0, none⟩)] w0 fun e w' => e = .returned (.bool true) ∧ Below w0.heap.size w0 w') := by
    have := strikes_any h'
    rw [hst] at this
    exact this
  have HW0 : Hid (w.alloc (.cells (u8s s).toArray 55) = w0) := hw0
  clear hw0
  have HK : Hid (∀ W, Calls Try.prog 38 #[.int .i64 d.keep, .int .i64 64] W fun e w' => e = .returned (.int .i64 ((keepN d.keep : Nat) : Int)) ∧ w' = W) := fun W => by
    refine (within_any d.keep 64 W).mono ?_
    rintro e w' ⟨rfl, rfl⟩
    exact ⟨by simp only [keepN]; congr 2; omega, rfl⟩
  have HCr : Hid (∀ W, Below w0.heap.size w0 W → ∃ b off len cap, W.cell? ⟨p, 4, none⟩ = some (.slice (some ⟨b, off, none⟩) len cap) ∧ 0 < len ∧ len ≤ cap ∧ cap ≤ 9223372036854775807 ∧ W.cell? ⟨b, off + 1, none⟩ = some (.int .i64 d.keep)) := fun W hb => by
    obtain ⟨h1, h2, h3, h4, h5, q, len, cap, h6, h7⟩ := h'.later hb
    obtain ⟨ss, cr, wr, dead⟩ := d
    cases cr with
    | nil => simp [St.strikes] at hst
    | cons c r =>
      obtain ⟨b, off, e, hl, _, hc⟩ := h7.first (a := c.1) (k := c.2)
      exact ⟨b, off, len, cap, by rw [← e]; exact h6.cell (i := 4) rfl, by omega, h7.2.1, h7.2.2.1, hc⟩
  go_enter Try.func25, Try.ntmps25
  go_upto_region 6 with (first
    | (rw [HW0.out])
    | (go_at_call 42; refine HR.out.mono ?_; rintro e w1 ⟨rfl, hw1⟩; obtain rfl : w0 = w1 := hw1.symm; clear hw1)
    | (go_at_call 43; refine HS.out.mono ?_; rintro e w1 ⟨rfl, hb1⟩; obtain ⟨b, off, len, cap, hc4, hl0, hlc, hcc, hck⟩ := HCr.out w1 hb1)
    | (go_at_call 38; refine (HK.out _).mono ?_; rintro e w2 ⟨rfl, hw2⟩; obtain rfl : w1 = w2 := hw2.symm; clear hw2))
  have h1 := h'.later hb1
  have HR1 : Hid (Row w1 w.heap.size 55 (u8s s)) := hr0.later hb1
  have hgx : g ≠ w.heap.size := by have := h.lt; omega
  have HC : Hid (∀ W, Buts [g] w1.heap.size w1 W → W.cell? ⟨p, 2, none⟩ = some (.slice (some ⟨g, 0, none⟩) d.ss.length d.ss.length)) := fun W hb => by
    obtain ⟨h1, h2, h3, h4, h5, q, len, cap, h6, h7⟩ := h1
    exact (hb.row h6.lt (by simpa using h2) h6).cell (i := 2) rfl
  have hfew := h1.1.few
  have hk64 := keepN_le d.keep
  obtain ⟨k, hk⟩ : ∃ k, keepN d.keep = k := ⟨_, rfl⟩
  have HKk : Hid (keepN d.keep = k) := hk
  rw [hk] at hk64 ⊢
  clear hk
  have HSrc : Hid (∀ j v, (u8s (s.take k))[j]? = some v → w1.drew.cell? ((⟨w.heap.size, 0, none⟩ : Addr).add j) = some v) := fun j v hj => by
    have hjl := (List.getElem?_eq_some_iff.1 hj).1
    rw [u8s_length, List.length_take] at hjl
    rw [Addr.add_mid, Nat.zero_add]
    refine HR1.out.cell ?_
    rw [← hj]
    simp only [u8s, List.map_take]
    rw [List.getElem?_take, if_pos (by omega)]
  have HLk : Hid ((u8s (s.take k)).length = k) := by show _ = _; rw [u8s_length, List.length_take, hs.1]; omega
  have HRow : Hid (Row w1.drew g 55 (u8s d.ss.flatten)) := h1.2.2.2.2.1.drew
  have HFit : Hid (i * 64 + k ≤ (u8s d.ss.flatten).length) := by show _ ≤ _; rw [u8s_length, flat_length h1.1.secs]; omega
  have HEnd : Hid (∀ W2, Row W2 g 55 (splice (u8s d.ss.flatten) (i * 64) (u8s (s.take k))) → But g w1.heap.size w1 W2 → Buts [p, g] w.heap.size w (W2.setCell ⟨p, 1, none⟩ (.bool false)) ∧ DiskAt F (W2.setCell ⟨p, 1, none⟩ (.bool false)) p g { d with ss := d.ss.set i (tear (d.ss.getD i []) s d.keep), dead := true } ∧ W2.cell? ⟨p, 1, none⟩ = some (.bool true) ∧ W2.frozen? ⟨p, 1, none⟩ = false) := fun W2 e hbut => by
    have hba : Below w.heap.size w w1 := hb0.trans (hb1.mono hb0.size)
    have hs1 := hba.size
    have hb2 : Buts [p, g] w1.heap.size w1 W2 := Buts.of_but hbut (by simp) (Nat.le_refl _)
    have hb3 : Buts [p, g] w1.heap.size w1 (W2.setCell ⟨p, 1, none⟩ (.bool false)) := hb2.set (by simp) 1 _
    have hok := h1.1.write (i : Nat) hs
    rw [St.write, he, if_neg (by simp), hst, if_pos rfl, Int.toNat_natCast] at hok
    obtain ⟨h1, h2, h3, h4, h5, q, len, cap, h6, h7⟩ := h1
    rw [splice_put (by rw [HLk.out]; exact HFit.out), flat_put h1.secs hi hk64 (by rw [List.length_take, hs.1]; omega)] at e
    have g6 := hbut.row h6.lt h2 h6
    refine ⟨(Buts.of_below hba (Nat.le_refl _)).trans (hb3.mono (fun _ h => h) hs1), ⟨hok, h2, h3, h4, ?_, q, len, cap, ?_, h7.buts hb3 (by simp [h3, h4])⟩, ?_, g6.frozen 1⟩
    · have := e.other (a := ⟨p, 1, none⟩) (Ne.symm h2) (.bool false)
      simp only [tear, HKk.out]
      exact this
    · have := g6.set 1 (.bool false)
      simpa using this
    · have := g6.cell (i := 1) rfl
      simpa [hd] using this
  clear h1 hr0 h' h HR1 hc4 hck
  refine wp_region_held_drew (S := fun W => Buts [g] w1.heap.size w1 W) (by kernel_rfl) (Buts.refl _ _ _).drew (fun hHeld => ?_)
  refine wpAnyH_takesAt 0 5 5 (of_decide_eq_true (by kernel_rfl)) rfl (fun _ _ _ d _ h => by cases d <;> exact h) (by kernel_rfl) (by kernel_rfl) hHeld ?_
  simp only [List.drop_zero, List.take_succ_cons, List.take_zero]
  iterate 5 (refine wpHeld_step (v := ?_) (by rfl) (fun wz hSw => ?_) ?_; rotate_left; (focus (have hc := HC.out wz hSw; clear hSw; go_simp; try with_reducible rfl)); (simp only [Act.put, List.setIfInBounds_toArray, List.set_cons_zero, List.set_cons_succ]))
  refine wpHeld_nil ?_
  refine wpAnyH_takesAt 5 1 4 (of_decide_eq_true (by kernel_rfl)) rfl (fun _ _ _ d _ h => by cases d <;> exact h) (by kernel_rfl) (by kernel_rfl) hHeld ?_
  simp only [List.drop_succ_cons, List.drop_zero, List.take_succ_cons, List.take_zero]
  iterate 1 (refine wpHeld_step (v := ?_) (by rfl) (fun wz hSw => ?_) ?_; rotate_left; (focus ((try dsimp only at hSw); go_simp; try with_reducible rfl)); ((simp only [Act.put]; (try simp only [List.setIfInBounds_toArray]); (try simp only [List.set_cons_succ]); (try simp only [List.set_cons_zero]))))
  refine wpHeld_nil ?_
  refine wpAnyH_takesAt 6 1 3 (of_decide_eq_true (by kernel_rfl)) rfl (fun _ _ _ d _ h => by cases d <;> exact h) (by kernel_rfl) (by kernel_rfl) hHeld ?_
  simp only [List.drop_succ_cons, List.drop_zero, List.take_succ_cons, List.take_zero]
  iterate 1 (refine wpHeld_step (v := ?_) (by rfl) (fun wz hSw => ?_) ?_; rotate_left; (focus ((try dsimp only at hSw); go_simp; try with_reducible rfl)); ((simp only [Act.put]; (try simp only [List.setIfInBounds_toArray]); (try simp only [List.set_cons_succ]); (try simp only [List.set_cons_zero]))))
  refine wpHeld_nil ?_
  have hki : (k : Int) ≤ 64 := by omega
  refine wpAnyH_takesAt 7 1 2 (of_decide_eq_true (by kernel_rfl)) rfl (fun _ _ _ d _ h => by cases d <;> exact h) (by kernel_rfl) (by kernel_rfl) hHeld ?_
  simp only [List.drop_succ_cons, List.drop_zero, List.take_succ_cons, List.take_zero]
  iterate 1 (refine wpHeld_step (v := ?_) (by rfl) (fun wz hSw => ?_) ?_; rotate_left; (focus ((try dsimp only at hSw); go_simp; try with_reducible rfl)); ((simp only [Act.put]; (try simp only [List.setIfInBounds_toArray]); (try simp only [List.set_cons_succ]); (try simp only [List.set_cons_zero]))))
  refine wpHeld_nil ?_
  refine wpAnyH_takesAt 8 1 1 (of_decide_eq_true (by kernel_rfl)) rfl (fun _ _ _ d _ h => by cases d <;> exact h) (by kernel_rfl) (by kernel_rfl) hHeld ?_
  simp only [List.drop_succ_cons, List.drop_zero, List.take_succ_cons, List.take_zero]
  iterate 1 (refine wpHeld_step (v := ?_) (by rfl) (fun wz hSw => ?_) ?_; rotate_left; (focus ((try dsimp only at hSw); go_simp; try with_reducible rfl)); ((simp only [Act.put]; (try simp only [List.setIfInBounds_toArray]); (try simp only [List.set_cons_succ]); (try simp only [List.set_cons_zero]))))
  refine wpHeld_nil ?_
  refine wpAnyH_only (i := 9) (by kernel_rfl) rfl (fun K hK => ?_)
  rw [if_pos (by rfl)]
  refine wp_copy_but (.tmp 32) (.tmp 33) 25 25 rfl 5 Try.underlying25 size5 g (i * 64) k 64 ⟨w.heap.size, 0, none⟩ 64 64 rfl rfl _ 55 HRow.out (u8s (s.take k)) (by rw [HLk.out]; exact (Nat.min_eq_right hk64).symm) HSrc.out (by rw [HLk.out]; exact HFit.out) (u8s_one _) (fun W2 hrow hbut => ?_)
  have hbut' : But g w1.heap.size w1 W2 := ⟨hbut.os, hbut.tape, hbut.output, hbut.size, hbut.block⟩
  refine hK.out _ _ (Buts.of_but hbut' (by simp) (Nat.le_refl _)) ?_
  clear hK K
  simp only [Act.put, List.setIfInBounds_toArray]
  refine wpAnyH_done (by kernel_rfl) ?_ _
  obtain ⟨e1, e2, e3, e4⟩ := HEnd.out W2 hrow hbut'
  have HE1 : Hid (Buts [p, g] w.heap.size w _) := e1
  have HE2 : Hid (DiskAt F _ p g _) := e2
  clear e1 e2 HEnd hrow hbut hbut' hHeld
  go_wp2
  go_ret
  exact ⟨rfl, HE2.out, HE1.out⟩

theorem wErr_tear {d : St} {i : Int} (he : d.err i = 0) (hst : d.strikes = true) : d.wErr i = 131 := by simp [St.wErr, he, hst]
theorem wErr_ok {d : St} {i : Int} (he : d.err i = 0) (hst : d.strikes = false) : d.wErr i = 0 := by simp [St.wErr, he, hst]
theorem write_eq_tear {d : St} {i : Int} {s : List Nat} (he : d.err i = 0) (hst : d.strikes = true) : d.write i s = { d with ss := d.ss.set i.toNat (tear (d.ss.getD i.toNat []) s d.keep), dead := true } := by simp [St.write, he, hst]
theorem write_eq_ok {d : St} {i : Int} {s : List Nat} (he : d.err i = 0) (hst : d.strikes = false) : d.write i s = { d with ss := d.ss.set i.toNat s, wr := d.wr + 1 } := by simp [St.write, he, hst]
/-- Write -/
theorem write_any (h : DiskAt F w p g d) (i : Int) {s : List Nat} (hs : IsSec s) (hwr : d.wr < 1000000) :
    Calls Try.prog 25 #[.pointer (some ⟨p, 0, none⟩), .int .i64 i, .agg (u8s s).toArray] w fun e w' => e = .returned (.int .i64 (d.wErr i)) ∧ DiskAt F w' p g (d.write i s) ∧ Buts [p, g] w.heap.size w w' := by
  by_cases he : d.err i = 0
  · obtain ⟨h1, h2, h3⟩ := err_zero he
    have hx : ((i.toNat : Nat) : Int) = i := by omega
    cases hst : d.strikes with
    | true =>
      have := write_tear h i.toNat h3 h1 hst hs
      rw [hx] at this
      rw [wErr_tear he hst, write_eq_tear he hst]
      exact this
    | false =>
      have := write_ok h i.toNat h3 h1 hst hs hwr
      rw [hx] at this
      rw [wErr_ok he hst, write_eq_ok he hst]
      exact this
  · rw [St.wErr, if_pos he, St.write, if_pos he]
    refine (write_bad _ i (d.err i) (by simpa using he) (u8s s) w (fun W hb => refuses_any (h.later hb) i)).mono ?_
    rintro e w' ⟨rfl, hb⟩
    exact ⟨rfl, h.later hb, Buts.of_below hb (Nat.le_refl _)⟩
theorem write_none (i : Int) (S : List Value) (w : World) : Calls Try.prog 25 #[.pointer none, .int .i64 i, .agg S.toArray] w fun e w' => e = .returned (.int .i64 131) ∧ Below w.heap.size w w' :=
  write_bad none i 131 rfl S w (fun W _ => refuses_none i W)
end Go.Proofs.Ytifjkkfienmdjaa
