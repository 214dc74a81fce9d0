/-
  Start, of a disk and of one that nobody made.
-/
import Derived.Test.YtifjkkfienmdjaaWi
import Derived.Lib.Walk
namespace Go.Proofs.Ytifjkkfienmdjaa
open Go.RowKit Go.Shelf

variable {F : List Nat} {p g : Nat} {d : St} {w : World}

theorem start_none (w : World) : Calls Try.prog 23 #[.pointer none] w fun e w' => (∃ v, e = .returned v) ∧ w' = w := by
  go_enter Try.func23, Try.ntmps23
  go_wp2
  refine bodyPost_ret (results_none rfl _ _ _) rfl ?_
  exact ⟨⟨_, rfl⟩, rfl⟩
theorem CrAt.rest {F : List Nat} {W : World} {q : Option Addr} {len cap : Nat} {c : Int × Int} {cr : List (Int × Int)} (h : CrAt F W q len cap (c :: cr)) {q2 : Option Addr} {l2 c2 : Nat} (hl2 : l2 + 1 = len) (hc2 : c2 + 1 = cap) (hq : 0 < l2 → ∀ b off, q = some ⟨b, off, none⟩ → q2 = some ⟨b, off + 2, none⟩) : CrAt F W q2 l2 c2 cr := by
  obtain ⟨h1, h2, h3, h4⟩ := h
  simp only [List.length_cons] at h1
  refine ⟨by omega, by omega, by omega, ?_⟩
  rcases h4 with h | ⟨b, off, e, hl, hF, hr⟩
  · omega
  · by_cases h0 : l2 = 0
    · exact .inl h0
    · refine .inr ⟨b, off + 2, hq (by omega) b off e, hl, hF, fun j v hj => ?_⟩
      have := hr (j + 2) v (by simpa [crC] using hj)
      rw [show off + 2 + j = off + (j + 2) by omega]
      exact this
set_option maxRecDepth 100000 in
set_option maxHeartbeats 2000000 in
theorem start_any (h : DiskAt F w p g d) : Calls Try.prog 23 #[.pointer (some ⟨p, 0, none⟩)] w fun e w' => (∃ v, e = .returned v) ∧ DiskAt F w' p g d.start ∧ Buts [p, g] w.heap.size w w' := by
  obtain ⟨h1, h2, h3, h4, h5, q, len, cap, h6, h7⟩ := h
  have c0 := h6.cell (i := 0) rfl
  have c1 := h6.cell (i := 1) rfl
  have c3 := h6.cell (i := 3) rfl
  have c4 := h6.cell (i := 4) rfl
  have f1 := h6.frozen 1
  have f3 := h6.frozen 3
  have f4 := h6.frozen 4
  have HEnd : Hid (∀ q2 l2 c2, CrAt F w q2 l2 c2 (d.cr.drop 1) → DiskAt F (((w.setCell ⟨p, 1, none⟩ (.bool true)).setCell ⟨p, 3, none⟩ (.int .i64 0)).setCell ⟨p, 4, none⟩ (.slice q2 l2 c2)) p g d.start ∧ Buts [p, g] w.heap.size w (((w.setCell ⟨p, 1, none⟩ (.bool true)).setCell ⟨p, 3, none⟩ (.int .i64 0)).setCell ⟨p, 4, none⟩ (.slice q2 l2 c2))) := fun q2 l2 c2 hc => by
    have hb : Buts [p, g] w.heap.size w (((w.setCell ⟨p, 1, none⟩ (.bool true)).setCell ⟨p, 3, none⟩ (.int .i64 0)).setCell ⟨p, 4, none⟩ (.slice q2 l2 c2)) := (((Buts.refl _ _ w).set (by simp) 1 _).set (by simp) 3 _).set (by simp) 4 _
    refine ⟨⟨h1.start, h2, h3, h4, ?_, q2, l2, c2, ?_, hc.buts hb (by simp [h3, h4])⟩, hb⟩
    · exact ((h5.other (a := ⟨p, 1, none⟩) (Ne.symm h2) _).other (a := ⟨p, 3, none⟩) (Ne.symm h2) _).other (a := ⟨p, 4, none⟩) (Ne.symm h2) _
    · exact ((h6.set 1 _).set 3 _).set 4 _
  have HEnd2 : Hid (d.cr = [] → DiskAt F ((w.setCell ⟨p, 1, none⟩ (.bool true)).setCell ⟨p, 3, none⟩ (.int .i64 0)) p g d.start ∧ Buts [p, g] w.heap.size w ((w.setCell ⟨p, 1, none⟩ (.bool true)).setCell ⟨p, 3, none⟩ (.int .i64 0))) := fun hc => by
    have hb : Buts [p, g] w.heap.size w ((w.setCell ⟨p, 1, none⟩ (.bool true)).setCell ⟨p, 3, none⟩ (.int .i64 0)) := ((Buts.refl _ _ w).set (by simp) 1 _).set (by simp) 3 _
    refine ⟨⟨h1.start, h2, h3, h4, ?_, q, len, cap, ?_, ?_⟩, hb⟩
    · exact (h5.other (a := ⟨p, 1, none⟩) (Ne.symm h2) _).other (a := ⟨p, 3, none⟩) (Ne.symm h2) _
    · exact (h6.set 1 _).set 3 _
    · have := h7.buts hb (by simp [h3, h4])
      simp only [St.start, hc] at this ⊢
      exact this
  clear h5 h6
  cases hcr : d.cr with
  | nil =>
    rw [hcr] at h7
    have hl : len = 0 := h7.1.symm
    subst hl
    clear h7
    go_enter Try.func23, Try.ntmps23
    go_wp2
    refine bodyPost_end (results_none rfl _ _ _) rfl ?_
    exact ⟨⟨_, rfl⟩, HEnd2.out hcr⟩
  | cons c r =>
    rw [hcr] at h7
    obtain ⟨b, off, rfl, hl, _, _⟩ := h7.first (a := c.1) (k := c.2)
    have hl0 : (0 : Int) < ((len : Nat) : Int) := by omega
    have hlc := h7.2.1
    have hcc := h7.2.2.1
    have HC : Hid (∀ q2 l2 c2, l2 + 1 = len → c2 + 1 = cap → (0 < l2 → q2 = some ⟨b, off + 2, none⟩) → CrAt F w q2 l2 c2 (d.cr.drop 1)) := fun q2 l2 c2 e1 e2 e3 => by
      rw [hcr]
      exact h7.rest e1 e2 (fun hp b' off' e => by cases e; exact e3 hp)
    clear h7
    by_cases hcn : cap = 1
    · have hcn' : (cap = 1) = True := eq_true hcn
      go_enter Try.func23, Try.ntmps23
      go_wp2
      refine bodyPost_end (results_none rfl _ _ _) rfl ?_
      exact ⟨⟨_, rfl⟩, HEnd.out _ _ _ (HC.out _ _ _ (by omega) (by omega) (by omega))⟩
    · have hcn' : (cap = 1) = False := eq_false hcn
      go_enter Try.func23, Try.ntmps23
      go_wp2
      refine bodyPost_end (results_none rfl _ _ _) rfl ?_
      exact ⟨⟨_, rfl⟩, HEnd.out _ _ _ (HC.out _ _ _ (by omega) (by omega) (fun _ => rfl))⟩
end Go.Proofs.Ytifjkkfienmdjaa
