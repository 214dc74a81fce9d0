/-
  take: a record is counted in.
-/
import Derived.Test.YtifjkkfienmdjaaCl2
namespace Go.Proofs.Ytifjkkfienmdjaa
open Go.RowKit Go.Shelf Go.Lib

/-- What take leaves. -/
def TakePost (F : List Nat) (n₀ : Nat) (w : World) (L p g : Nat) (v : Value) (d : St) (l : Lg) (e : Ending) (w' : World) : Prop :=
  (∃ u, e = .returned u) ∧ ∃ v', MSt F n₀ w' L p g v' d l ∧ Buts (L :: ownL v) w.heap.size w w' ∧ KeepT 5 w w' ∧ (∀ k, v'.ownBlock = some k → v.ownBlock = some k ∨ w.heap.size ≤ k)

set_option maxRecDepth 100000 in
set_option maxHeartbeats 2000000 in
theorem take_any {F : List Nat} {n₀ : Nat} {w : World} {L p g : Nat} {v : Value} {d : St} {l : Lg} (h : MSt F n₀ w L p g v d l) (hok : LgOk l d) {q : Option Addr} {len cap : Nat} {zs : List Nat} (hx : Bytes5 w (.slice q len cap) zs) (hk : spanN (len : Nat) ≤ 65536) (hn₀ : n₀ ≤ w.heap.size) :
    Calls Try.prog 32 #[.pointer (some ⟨L, 0, none⟩), .slice q len cap] w (TakePost F n₀ w L p g v d { l with pos := l.pos + spanN (len : Nat), recs := l.recs ++ [zs] }) := by
  have HSp : Hid (∀ W, Calls Try.prog 9 #[.int .i64 (len : Nat)] W fun e w' => e = .returned (.int .i64 (spanN (len : Nat) : Nat)) ∧ w' = W) := fun W => span_any _ W
  have HSt : Hid (MSt F n₀ w L p g v d l) := h
  have HX : Hid (Bytes5 w (.slice q len cap) zs) := hx
  have hrl := hok.recs
  have hof := hok.f
  have hon := hok.n
  have hop := hok.pos
  obtain ⟨k, hkk⟩ : ∃ k, spanN (len : Nat) = k := ⟨_, rfl⟩
  rw [hkk] at HSp hk ⊢
  have c3 : w.cell? ⟨L, 3, none⟩ = some (.int .i64 ((l.f + l.pos : Nat) : Int)) := h.log.1.cell (i := 3) rfl
  have HC3 : Hid (∀ W, Below w.heap.size w W → W.cell? ⟨L, 3, none⟩ = some (.int .i64 ((l.f + l.pos : Nat) : Int))) := fun W hb => (h.later hb).log.1.cell (i := 3) rfl
  have hfr := h.log.1.frozen 3
  clear h hx hok hkk
  go_enter Try.func32, Try.ntmps32
  go_upto_region 0 with fail
  refine wp_region_gate' 10 (fun W => Below w.heap.size w W) (by kernel_rfl) ?_
  have hHeld : Below w.heap.size w w.drew := (Below.refl _ _).drew
  refine wpAnyG_takesAt 0 1 10 (of_decide_eq_true (by kernel_rfl)) rfl (fun _ _ _ d _ h => by cases d <;> exact h) (by kernel_rfl) (by kernel_rfl) (fun _ => hHeld) ?_
  simp only [List.drop_zero, List.take_succ_cons, List.take_zero]
  iterate 1 (refine wpHeldG_step (v := ?_) (by rfl) (by kernel_rfl) (fun wz hSw => ?_) ?_; rotate_left; (focus ((try dsimp only at hSw); go_simp; try with_reducible rfl)); ((simp only [Act.put]; (try simp only [List.setIfInBounds_toArray]); (try simp only [List.set_cons_succ]); (try simp only [List.set_cons_zero]))))
  refine wpHeldG_nil ?_
  refine wpAnyG_takesAt 1 1 9 (of_decide_eq_true (by kernel_rfl)) rfl (fun _ _ _ d _ h => by cases d <;> exact h) (by kernel_rfl) (by kernel_rfl) (fun _ => hHeld) ?_
  simp only [List.drop_succ_cons, List.drop_zero, List.take_succ_cons, List.take_zero]
  iterate 1 (refine wpHeldG_step (v := ?_) (by rfl) (by kernel_rfl) (fun wz hSw => ?_) ?_; rotate_left; (focus ((try dsimp only at hSw); go_simp; try with_reducible rfl)); ((simp only [Act.put]; (try simp only [List.setIfInBounds_toArray]); (try simp only [List.set_cons_succ]); (try simp only [List.set_cons_zero]))))
  refine wpHeldG_nil ?_
  refine wpAnyG_takesAt 2 1 8 (of_decide_eq_true (by kernel_rfl)) rfl (fun _ _ _ d _ h => by cases d <;> exact h) (by kernel_rfl) (by kernel_rfl) (fun _ => hHeld) ?_
  simp only [List.drop_succ_cons, List.drop_zero, List.take_succ_cons, List.take_zero]
  iterate 1 (refine wpHeldG_step (v := ?_) (by rfl) (by kernel_rfl) (fun wz hSw => ?_) ?_; rotate_left; (focus ((try dsimp only at hSw); go_simp; try with_reducible rfl)); ((simp only [Act.put]; (try simp only [List.setIfInBounds_toArray]); (try simp only [List.set_cons_succ]); (try simp only [List.set_cons_zero]))))
  refine wpHeldG_nil ?_
  refine wpAnyG_takesAt 3 1 7 (of_decide_eq_true (by kernel_rfl)) rfl (fun _ _ _ d _ h => by cases d <;> exact h) (by kernel_rfl) (by kernel_rfl) (fun _ => hHeld) ?_
  simp only [List.drop_succ_cons, List.drop_zero, List.take_succ_cons, List.take_zero]
  iterate 1 (refine wpHeldG_step (v := ?_) (by rfl) (by kernel_rfl) (fun wz hSw => ?_) ?_; rotate_left; (focus (have hc := HC3.out wz hSw; clear hSw; go_simp; try with_reducible rfl)); ((simp only [Act.put]; (try simp only [List.setIfInBounds_toArray]); (try simp only [List.set_cons_succ]); (try simp only [List.set_cons_zero]))))
  refine wpHeldG_nil ?_
  refine wpAnyG_takesAt 4 1 6 (of_decide_eq_true (by kernel_rfl)) rfl (fun _ _ _ d _ h => by cases d <;> exact h) (by kernel_rfl) (by kernel_rfl) (fun _ => hHeld) ?_
  simp only [List.drop_succ_cons, List.drop_zero, List.take_succ_cons, List.take_zero]
  iterate 1 (refine wpHeldG_step (v := ?_) (by rfl) (by kernel_rfl) (fun wz hSw => ?_) ?_; rotate_left; (focus ((try dsimp only at hSw); go_simp; try with_reducible rfl)); ((simp only [Act.put]; (try simp only [List.setIfInBounds_toArray]); (try simp only [List.set_cons_succ]); (try simp only [List.set_cons_zero]))))
  refine wpHeldG_nil ?_
  refine wpAnyG_takesAt 5 1 5 (of_decide_eq_true (by kernel_rfl)) rfl (fun _ _ _ d _ h => by cases d <;> exact h) (by kernel_rfl) (by kernel_rfl) (fun _ => hHeld) ?_
  simp only [List.drop_succ_cons, List.drop_zero, List.take_succ_cons, List.take_zero]
  iterate 1 (refine wpHeldG_step (v := ?_) (by rfl) (by kernel_rfl) (fun wz hSw => ?_) ?_; rotate_left; (focus ((try dsimp only at hSw); go_simp; try with_reducible rfl)); ((simp only [Act.put]; (try simp only [List.setIfInBounds_toArray]); (try simp only [List.set_cons_succ]); (try simp only [List.set_cons_zero]))))
  refine wpHeldG_nil ?_
  refine wpAnyG_only (i := 6) (by kernel_rfl) rfl (by rfl) (fun K hK => ?_)
  go_simp
  refine (HSp.out _).mono ?_
  rintro e w1 ⟨rfl, rfl⟩
  refine hK.out _ _ (fun _ => hHeld) ?_
  clear hK K
  have hsm : IntKind.i64.wrap ((l.f : Int) + (l.pos : Int) + (k : Int)) = ((l.f + (l.pos + k) : Nat) : Int) := by rw [IntKind.wrap_i64]; omega
  refine wpAnyG_takesAt 7 1 3 (of_decide_eq_true (by kernel_rfl)) rfl (fun _ _ _ d _ h => by cases d <;> exact h) (by kernel_rfl) (by kernel_rfl) (fun _ => hHeld) ?_
  simp only [List.drop_succ_cons, List.drop_zero, List.take_succ_cons, List.take_zero]
  iterate 1 (refine wpHeldG_step (v := ?_) (by rfl) (by kernel_rfl) (fun wz hSw => ?_) ?_; rotate_left; (focus ((try dsimp only at hSw); go_simp; try with_reducible rfl)); ((simp only [Act.put]; (try simp only [List.setIfInBounds_toArray]); (try simp only [List.set_cons_succ]); (try simp only [List.set_cons_zero]))))
  refine wpHeldG_nil ?_
  refine wpAnyG_takesAt 8 1 2 (of_decide_eq_true (by kernel_rfl)) rfl (fun _ _ _ d _ h => by cases d <;> exact h) (by kernel_rfl) (by kernel_rfl) (fun _ => hHeld) ?_
  simp only [List.drop_succ_cons, List.drop_zero, List.take_succ_cons, List.take_zero]
  refine wpHeldG_free (v := .pointer (some ⟨L, 0, none⟩)) (by rfl) (fun wz => by go_simp) ?_
  (simp only [Act.put]; (try simp only [List.setIfInBounds_toArray]); (try simp only [List.set_cons_succ]); (try simp only [List.set_cons_zero]))
  refine wpHeldG_nil ?_
  refine wpAnyG_takesAt 9 1 1 (of_decide_eq_true (by kernel_rfl)) rfl (fun _ _ _ d _ h => by cases d <;> exact h) (by kernel_rfl) (by kernel_rfl) (fun _ => hHeld) ?_
  simp only [List.drop_succ_cons, List.drop_zero, List.take_succ_cons, List.take_zero]
  iterate 1 (refine wpHeldG_step (v := ?_) (by rfl) (by kernel_rfl) (fun wz hSw => ?_) ?_; rotate_left; (focus ((try dsimp only at hSw); go_simp; try with_reducible rfl)); ((simp only [Act.put]; (try simp only [List.setIfInBounds_toArray]); (try simp only [List.set_cons_succ]); (try simp only [List.set_cons_zero]))))
  refine wpHeldG_nil ?_
  refine wpAnyG_only (i := 10) (by kernel_rfl) rfl (by rfl) (fun K hK => ?_)
  go_simp
  have ecast : (l.f : Int) + ((l.pos : Int) + (k : Int)) = ((l.f + (l.pos + k) : Nat) : Int) := by omega
  rw [ecast]
  refine hK.out _ _ (gone (by kernel_rfl)) ?_
  clear hK K hHeld
  refine wpAnyG_done (by kernel_rfl) ?_ _
  obtain ⟨w2, hw2⟩ : ∃ w2, (w.setCell ⟨L, 3, none⟩ (.int .i64 ((l.f + (l.pos + k) : Nat) : Int))).drew = w2 := ⟨_, rfl⟩
  have HS2 : Hid (MSt F n₀ w2 L p g v d { l with pos := l.pos + k }) := by
    rw [← hw2]
    exact (HSt.out.setL (i := 3) (l' := { l with pos := l.pos + k }) rfl rfl).later (Below.refl _ _).drew
  have HB2 : Hid (Buts [L] w.heap.size w w2) := by rw [← hw2]; exact ((Buts.refl _ _ w).set (by simp) 3 _).drew
  have HK2 : Hid (KeepT 5 w w2) := keepT_of_buts HB2.out (fun x hx => by
    rw [List.mem_singleton] at hx
    subst hx
    exact ⟨_, 59, _, HSt.out.log.1, by decide⟩)
  have Hs2 : Hid (w2.heap.size = w.heap.size) := by show _ = _; rw [← hw2]; simp
  have hn2 : n₀ ≤ w2.heap.size := by rw [Hs2.out]; exact hn₀
  rw [hw2]
  clear hw2 hsm ecast c3 hfr HC3
  have hb3 : Below w2.heap.size w2 (w2.alloc (.cells #[.slice q len cap] 25)) := (Below.refl _ _).alloc (Nat.le_refl _) _
  have hr3 := Row.new w2 25 #[.slice q len cap]
  obtain ⟨v', w4, hrun, ha1, ha2, ha3, ha4⟩ := run_append_rec2 (w2.alloc (.cells #[.slice q len cap] 25)) n₀ 39 v l.recs (HS2.out.later hb3).log.2 w2.heap.size (.slice q len cap) zs ((HX.out.kept HK2.out).kept (KeepT.of_below hb3)) (hr3.cell (i := 0) rfl) (by omega) (by have := hb3.size; omega)
  obtain ⟨g1, g2, g3, g4⟩ := (HS2.out.later hb3).app (l' := { l with pos := l.pos + k, recs := l.recs ++ [zs] }) ha2 ha3 ha1 rfl
  have HRun : Hid ((Builtin.append_ #[39, 39] 39 #[v, .slice (some ⟨w2.heap.size, 0, none⟩) 1 1]).run Try.prog (w2.alloc (.cells #[.slice q len cap] 25)) = .ok v' w4) := hrun
  have c5 : w2.cell? ⟨L, 5, none⟩ = some v := HS2.out.log.1.cell (i := 5) rfl
  have c54 : w4.cell? ⟨L, 5, none⟩ = some v := g2.cell (i := 5) rfl
  have f54 := g2.frozen 5
  have HG1 : Hid (MSt F n₀ _ L p g v' d _) := g1
  have HG3 : Hid (Buts (L :: ownL v) _ _ _) := g3
  have HG4 : Hid (KeepT 5 _ _) := g4
  have HA4 : Hid (∀ k, v'.ownBlock = some k → v.ownBlock = some k ∨ w2.heap.size + 1 ≤ k) := fun k hk => by
    rcases ha4 k hk with h | h
    · exact .inl h
    · rw [World.size_alloc] at h
      exact .inr h
  obtain ⟨vq, vl, vc, hv⟩ : ∃ vq vl vc, v = .slice vq vl vc := by obtain ⟨a, b, e⟩ := HS2.out.log.2.slice; exact ⟨_, _, _, e⟩
  obtain ⟨vq', vl', vc', hv'⟩ : ∃ vq vl vc, v' = .slice vq vl vc := by obtain ⟨a, b, e⟩ := ha1.slice; exact ⟨_, _, _, e⟩
  have HV : Hid (v = .slice vq vl vc) := hv
  rw [hv, hv'] at HRun
  rw [hv] at c5 c54
  clear hrun ha1 ha2 ha3 ha4 g1 g2 g3 g4 hr3 hb3 hv
  go_wp2_with (at_builtin; refine wpList_plain rfl fun K hK => wp_append_of (.tmp 18) (.tmp 20) 39 rfl rfl rfl HRun.out (hK _ _ ?_))
  refine bodyPost_ret (results_none rfl _ _ _) rfl ?_
  rw [← hv']
  have hb3 : Below w2.heap.size w2 (w2.alloc (.cells #[.slice q len cap] 25)) := (Below.refl _ _).alloc (Nat.le_refl _) _
  refine ⟨⟨_, rfl⟩, v', HG1.out, ?_, (HK2.out.trans (KeepT.of_below hb3)).trans HG4.out, fun k hk => ?_⟩
  · refine (HB2.out.mono (by simp) (Nat.le_refl _)).trans (((Buts.of_below hb3 (Nat.le_refl _)).trans (HG3.out.mono (fun _ h => h) hb3.size)).mono (fun _ h => h) (by rw [Hs2.out]; exact Nat.le_refl _))
  · rcases HA4.out k hk with h | h
    · exact .inl h
    · have := Hs2.out
      exact .inr (by omega)
end Go.Proofs.Ytifjkkfienmdjaa
