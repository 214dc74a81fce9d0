/-
  Append: refused; else what is written, up to the first error.
-/
import Derived.Test.YtifjkkfienmdjaaWrs
namespace Go.Proofs.Ytifjkkfienmdjaa
open Go.RowKit Go.Shelf
attribute [local go_sem] Oper.semAt_some

theorem results_err {fn : Func} {p : Tmp} (h : fn.results = #[.cell p 32]) {tmps : Array Value} {w : World} {g : Nat} (hp : tmps.getD p undef = .pointer (some ⟨g, 0, none⟩)) {v : Value} (hg : Row w g 32 [v]) : (results fn tmps).run Try.prog w = .ok v w := by
  have hp' : tmps[p]?.getD undef = .pointer (some ⟨g, 0, none⟩) := by simpa using hp
  have hc := hg.cell (i := 0) rfl
  simp [results, h, hp', asAddr, loadVar, isAgg, run_underlying Try.underlying32, go_sem, hc]
theorem two_below {w : World} {o o' : Obj} : Below w.heap.size w ((w.alloc o).alloc o') := ((Below.refl _ w).alloc (Nat.le_refl _) _).alloc (by simp) _
theorem two_row (w : World) (o : Obj) (t : TypeId) (v : Value) : Row ((w.alloc o).alloc (.cells #[v] t)) (w.heap.size + 1) t [v] := by
  have := Row.new (w.alloc o) t #[v]
  rwa [World.size_alloc] at this

set_option maxRecDepth 100000 in
set_option maxHeartbeats 2000000 in
theorem append_nil (q : Option Addr) (len cap : Nat) (w : World) : Calls Try.prog 21 #[.pointer none, .slice q len cap] w fun e w' => e = .returned (.int .i64 140) ∧ Below w.heap.size w w' := by
  go_enter Try.func21, Try.ntmps21
  go_wp2
  refine bodyPost_ret (results_err rfl rfl (two_row w _ 32 _)) rfl ?_
  exact ⟨rfl, two_below⟩
set_option maxRecDepth 100000 in
set_option maxHeartbeats 2000000 in
theorem append_unsound (L : Nat) (q : Option Addr) (len cap : Nat) (w : World) (h : w.cell? ⟨L, 0, none⟩ = some (.bool false)) : Calls Try.prog 21 #[.pointer (some ⟨L, 0, none⟩), .slice q len cap] w fun e w' => e = .returned (.int .i64 140) ∧ Below w.heap.size w w' := by
  have hlt := World.block_lt_of_cell? w _ h
  have hc : ((w.alloc (.cells #[.pointer (some ⟨L, 0, none⟩)] 31)).alloc (.cells #[.int .i64 0] 32)).cell? ⟨L, 0, none⟩ = some (.bool false) := (two_below.cell (p := ⟨L, 0, none⟩) hlt).trans h
  clear h
  go_enter Try.func21, Try.ntmps21
  go_wp2
  refine bodyPost_ret (results_err rfl rfl (two_row w _ 32 _)) rfl ?_
  exact ⟨rfl, two_below⟩

/-- What Append leaves. -/
def MAppPost (F : List Nat) (n₀ : Nat) (w : World) (L p g : Nat) (v : Value) (r : Int × St × Lg) (e : Ending) (w' : World) : Prop :=
  ∃ v', e = .returned (.int .i64 r.1) ∧ MSt F n₀ w' L p g v' r.2.1 r.2.2 ∧ Buts (L :: p :: g :: ownL v) w.heap.size w w' ∧ KeepT 5 w w' ∧ (∀ k, v'.ownBlock = some k → v.ownBlock = some k ∨ w.heap.size ≤ k)
theorem doW_cr : ∀ (ws : List (Nat × List Nat)) (d : St), (doW d ws).2.cr = d.cr
  | [], _ => rfl
  | (i, s) :: r, d => by
    have hw : (d.write i s).cr = d.cr := by
      unfold St.write
      split
      · rfl
      · split <;> rfl
    rw [doW]
    split
    · exact hw
    · rw [doW_cr r, hw]
/-- The rows of a disk, with the slice of its crashes. -/
def DR (A : World) (p g : Nat) (cv : Value) (d : St) : Prop := d.ok ∧ Row A g 55 (u8s d.ss.flatten) ∧ Row A p 83 [.bool true, .bool (!d.dead), .slice (some ⟨g, 0, none⟩) d.ss.length d.ss.length, .int .i64 (d.wr : Nat), cv]
theorem DR.of {F : List Nat} {A : World} {p g : Nat} {d : St} (h : DiskAt F A p g d) {cv : Value} (hc : A.cell? ⟨p, 4, none⟩ = some cv) : DR A p g cv d := by
  obtain ⟨h1, h2, h3, h4, h5, q, len, cap, h6, h7⟩ := h
  have := h6.cell (i := 4) rfl
  rw [hc] at this
  cases this
  exact ⟨h1, h5, h6⟩
theorem DR.low {A A' : World} {p g : Nat} {cv : Value} {d : St} (h : DR A p g cv d) {B : Nat} (hb : Below B A A') (hp : p < B) (hg : g < B) : DR A' p g cv d := ⟨h.1, h.2.1.below hb hg, h.2.2.below hb hp⟩
/-- .. and the disk, by what lay there before. -/
theorem DR.disk {F : List Nat} {n₀ : Nat} {W A : World} {L p g : Nat} {v : Value} {d d' : St} {l : Lg} (h : MSt F n₀ W L p g v d l) {cv : Value} (hc : W.cell? ⟨p, 4, none⟩ = some cv) (hr : DR A p g cv d') (hcr : d'.cr = d.cr) {S : List Nat} (hb : Buts S W.heap.size W A) (hS : ∀ x ∈ S, x ∈ F ∨ n₀ ≤ x) : DiskAt F A p g d' := by
  obtain ⟨h1, h2, h3, h4, h5, q, len, cap, h6, h7⟩ := h.disk
  have hc4 := h6.cell (i := 4) rfl
  have e : cv = .slice q len cap := by rw [hc] at hc4; cases hc4; rfl
  obtain ⟨r1, r2, r3⟩ := hr
  rw [e] at r3
  refine ⟨r1, h2, h3, h4, r2, q, len, cap, r3, ?_⟩
  rw [hcr]
  exact h7.frame (h.cr q len cap hc4) hb hS

set_option maxRecDepth 100000 in
set_option maxHeartbeats 2000000 in
theorem append_full {F : List Nat} {n₀ : Nat} {w : World} {L p g : Nat} {v : Value} {d : St} {l : Lg} (h : MSt F n₀ w L p g v d l) (hok : LgOk l d) (hbr : l.broken = false) (q : Option Addr) (len cap : Nat) (hlen : len ≤ 60000) (hfull : l.n < l.pos + spanN (len : Nat)) :
    Calls Try.prog 21 #[.pointer (some ⟨L, 0, none⟩), .slice q len cap] w fun e w' => e = .returned (.int .i64 141) ∧ Below w.heap.size w w' := by
  obtain ⟨w1, hw1⟩ : ∃ w1, (w.alloc (.cells #[.pointer (some ⟨L, 0, none⟩)] 31)).alloc (.cells #[.int .i64 0] 32) = w1 := ⟨_, rfl⟩
  have hb1 : Below w.heap.size w w1 := by rw [← hw1]; exact two_below
  have HW1 : Hid ((w.alloc (.cells #[.pointer (some ⟨L, 0, none⟩)] 31)).alloc (.cells #[.int .i64 0] 32) = w1) := hw1
  have hrR : Row w1 (w.heap.size + 1) 32 [.int .i64 0] := by rw [← hw1]; exact two_row w _ 32 _
  have hrB : Row w1 w.heap.size 31 [.pointer (some ⟨L, 0, none⟩)] := by
    rw [← hw1]
    exact (Row.new w 31 #[.pointer (some ⟨L, 0, none⟩)]).later ((Below.refl _ _).alloc (Nat.le_refl _) _)
  have h1 := h.later hb1
  have hc0 : w1.cell? ⟨L, 0, none⟩ = some (.bool true) := by have := h1.log.1.cell (i := 0) rfl; rw [hbr] at this; exact this
  have hcB := hrB.cell (i := 0) rfl
  have hcR := hrR.cell (i := 0) rfl
  have hfR := hrR.frozen 0
  have HRR : Hid (Row w1 (w.heap.size + 1) 32 [.int .i64 0]) := hrR
  have HRB : Hid (Row w1 w.heap.size 31 [.pointer (some ⟨L, 0, none⟩)]) := hrB
  have HSp : Hid (∀ W, Calls Try.prog 9 #[.int .i64 (len : Nat)] W fun e w' => e = .returned (.int .i64 (spanN (len : Nat) : Nat)) ∧ w' = W) := fun W => span_any _ W
  have HRm : Hid (∀ W, Below w1.heap.size w1 W → Calls Try.prog 15 #[.pointer (some ⟨L, 0, none⟩)] W fun e w' => e = .returned (.int .i64 ((l.n - l.pos : Nat) : Int)) ∧ Below W.heap.size W w') := fun W hb => (h1.later hb).room hok
  have hop := hok.pos
  obtain ⟨k, hk⟩ : ∃ k, spanN (len : Nat) = k := ⟨_, rfl⟩
  obtain ⟨rm, hrm⟩ : ∃ rm, l.n - l.pos = rm := ⟨_, rfl⟩
  rw [hk] at HSp hfull
  rw [hrm] at HRm
  have hgt : (rm : Int) < (k : Int) := by omega
  clear hw1 hrR hrB h h1 hok hk hrm
  go_enter Try.func21, Try.ntmps21
  go_upto_region 5 with (rw [HW1.out])
  refine wp_region_held_drew (S := fun W => Below w1.heap.size w1 W) (by kernel_rfl) (Below.refl _ _).drew (fun hHeld => ?_)
  refine wpAnyH_takesAt 0 2 5 (of_decide_eq_true (by kernel_rfl)) rfl (fun _ _ _ d _ h => by cases d <;> exact h) (by kernel_rfl) (by kernel_rfl) hHeld ?_
  simp only [List.drop_zero, List.take_succ_cons, List.take_zero]
  iterate 2 (refine wpHeld_step (v := ?_) (by rfl) (fun wz hSw => ?_) ?_; rotate_left; (focus ((try dsimp only at hSw); go_simp; try with_reducible rfl)); (simp only [Act.put, List.setIfInBounds_toArray, List.set_cons_zero, List.set_cons_succ]))
  refine wpHeld_nil ?_
  refine wpAnyH_takesAt 3 1 4 (of_decide_eq_true (by kernel_rfl)) rfl (fun _ _ _ d _ h => by cases d <;> exact h) (by kernel_rfl) (by kernel_rfl) hHeld ?_
  simp only [List.drop_succ_cons, List.drop_zero, List.take_succ_cons, List.take_zero]
  iterate 1 (refine wpHeld_step (v := ?_) (by rfl) (fun wz hSw => ?_) ?_; rotate_left; (focus (have hc := (HRB.out.later hSw).cell (i := 0) rfl; clear hSw; go_simp; try with_reducible rfl)); ((simp only [Act.put]; (try simp only [List.setIfInBounds_toArray]); (try simp only [List.set_cons_succ]); (try simp only [List.set_cons_zero]))))
  refine wpHeld_nil ?_
  refine wpAnyH_only (i := 2) (by kernel_rfl) rfl (fun K hK => ?_)
  rw [if_pos (by rfl)]
  go_simp
  refine (HSp.out _).mono ?_
  rintro e wq ⟨rfl, hwq⟩
  obtain rfl := hwq.symm
  clear hwq
  refine hK.out _ _ hHeld ?_
  clear hK K
  refine wpAnyH_only (i := 4) (by kernel_rfl) rfl (fun K hK => ?_)
  rw [if_pos (by rfl)]
  go_simp
  refine (HRm.out _ hHeld).mono ?_
  rintro e w2 ⟨rfl, hb2⟩
  have hHeld : Below w1.heap.size w1 w2 := hHeld.trans (hb2.mono hHeld.size)
  refine hK.out _ _ hHeld ?_
  clear hK K hb2
  refine wpAnyH_takesAt 5 1 1 (of_decide_eq_true (by kernel_rfl)) rfl (fun _ _ _ d _ h => by cases d <;> exact h) (by kernel_rfl) (by kernel_rfl) hHeld ?_
  simp only [List.drop_succ_cons, List.drop_zero, List.take_succ_cons, List.take_zero]
  iterate 1 (refine wpHeld_step (v := ?_) (by rfl) (fun wz hSw => ?_) ?_; rotate_left; (focus ((try dsimp only at hSw); go_simp; try with_reducible rfl)); ((simp only [Act.put]; (try simp only [List.setIfInBounds_toArray]); (try simp only [List.set_cons_succ]); (try simp only [List.set_cons_zero]))))
  refine wpHeld_nil ?_
  refine wpAnyH_takesAt 6 1 0 (of_decide_eq_true (by kernel_rfl)) rfl (fun _ _ _ d _ h => by cases d <;> exact h) (by kernel_rfl) (by kernel_rfl) hHeld ?_
  simp only [List.drop_succ_cons, List.drop_zero, List.take_succ_cons, List.take_zero]
  iterate 1 (refine wpHeld_step (v := ?_) (by rfl) (fun wz hSw => ?_) ?_; rotate_left; (focus ((try dsimp only at hSw); go_simp; try with_reducible rfl)); ((simp only [Act.put]; (try simp only [List.setIfInBounds_toArray]); (try simp only [List.set_cons_succ]); (try simp only [List.set_cons_zero]))))
  refine wpHeld_nil ?_
  refine wpAnyH_done (by kernel_rfl) ?_ _
  have R2 := HRR.out.later hHeld
  have hc2 := R2.cell (i := 0) rfl
  have hf2 := R2.frozen 0
  go_wp2
  refine bodyPost_ret (results_err rfl rfl (R2.set 0 (.int .i64 141))) rfl ?_
  exact ⟨rfl, (hb1.trans (hHeld.mono hb1.size)).trans (below_set (by omega) _)⟩
end Go.Proofs.Ytifjkkfienmdjaa
