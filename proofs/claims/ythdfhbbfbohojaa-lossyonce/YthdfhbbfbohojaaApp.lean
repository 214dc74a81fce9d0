/-
  append of one message to what waits.
-/
import Derived.Test.YthdfhbbfbohojaaLk
import Derived.ArgAppend
namespace Go.Proofs.Ythdfhbbfbohojaa
open Go.RowKit Go.Shelf

theorem info53 : (Try.prog.info? 53).map (fun i => (i.zero, i.size, i.bytes)) = some (some (.agg #[.int .i64 0, .slice none 0 0]), 2, 32) := by kernel_rfl
theorem info57 : (Try.prog.info? 57).map (fun i => (i.zero, i.size, i.bytes)) = some (some (.agg #[.slice none 0 0, .int .i64 0]), 2, 32) := by kernel_rfl

theorem putAt_drop : ∀ (vs c : List Value) (o k : Nat), (putAt c (o + k) vs).drop o = putAt (c.drop o) k vs
  | [], _, _, _ => rfl
  | v :: r, c, o, k => by
    show (putAt (c.set (o + k) v) (o + k + 1) r).drop o = putAt ((c.drop o).set k v) (k + 1) r
    rw [Nat.add_assoc, putAt_drop r, List.drop_set, if_neg (by omega), show o + k - o = k by omega]
theorem putAt_len (vs c : List Value) (k : Nat) (h : k + vs.length ≤ c.length) : (putAt c k vs).length = c.length := by
  rw [putAt_eq vs c k h]; simp; omega
theorem row_isSome {W : World} {b : Nat} {t : TypeId} {c : List Value} (h : Row W b t c) {i : Nat} (hi : i < c.length) : (W.cell? ⟨b, i, none⟩).isSome = true := by
  rw [h.cell (List.getElem?_eq_getElem hi)]; rfl
theorem row_shape {W : World} {b : Nat} {t : TypeId} {c : List Value} (h : Row W b t c) : W.shape? b = some (t, c.length) := by
  unfold World.shape?
  rw [show W.heap[b]? = some (.cells c.toArray t (0, 0)) from h]
  simp

/-- A row of its own, as what waits. -/
theorem WaitAt.of_own {α : Type} {C : α → List Value} (hC : Enc2 C) {W : World} {p n₀ : Nat} {e : TypeId} {v : Value} {n : Nat} {ms : List α} (h : W.ownsRow n₀ e 2 v n (ms.flatMap C)) (hp : 0 < n) : ∃ g, n₀ ≤ g ∧ WaitAt e C W p g v ms := by
  have hl : ms.length = n := by have := h.1; rw [flat_len hC] at this; omega
  subst hl
  rcases h.2 with ⟨_, h0⟩ | ⟨g, cp, cur, rfl, hg, hgg, hnc, hcm, hcs, ht⟩
  · omega
  · have hr : Row W g e cur.toList := by unfold Row; rw [Array.toArray_toList]; exact hgg
    exact ⟨g, hg, _, cp, rfl, .inr ⟨0, cur.toList, rfl, hr, hnc, by simpa only [maxLen] using hcm, by rw [Array.length_toList, hcs]; omega, by simpa using ht⟩⟩

theorem row_ne {w : World} {x y : Nat} {t u : TypeId} {c d : List Value} (h1 : Row w x t c) (h2 : Row w y u d) (hne : t ≠ u) : x ≠ y := by
  rintro rfl
  unfold Row at h1 h2
  rw [h1] at h2
  cases h2
  exact hne rfl
set_option maxHeartbeats 1000000 in
theorem run_append_msg {α : Type} {C : α → List Value} (hC : Enc2 C) {t e ty : TypeId} {z : Value} (ht : Try.prog.underlying t = some (.slice e)) (hi : (Try.prog.info? e).map (fun i => (i.zero, i.size, i.bytes)) = some (some z, 2, 32)) (hz : z.cells.size = 2)
    {w : World} {p g : Nat} {v : Value} {ms : List α} (h : WaitAt e C w p g v ms) (x : α) (ad : Addr) (hx : ∀ j u, (C x)[j]? = some u → w.cell? (ad.add j) = some u) (hlen : ms.length ≤ 100000) {tp : TypeId} {cp : List Value} (hp : Row w p tp cp) (htp : tp ≠ e) :
    ∃ v' w' g', (Builtin.append_ #[t, t] ty #[v, .slice (some ad) 1 1]).run Try.prog w = .ok v' w' ∧ WaitAt e C w' p g' v' (ms ++ [x]) ∧ (g' = g ∨ w.heap.size ≤ g') ∧ Buts p g w w' ∧ Row w' p tp cp := by
  obtain ⟨i0, hi0, hz0, hz1, hz2⟩ := info_parts hi
  obtain ⟨q, c, rfl, ⟨rfl, rfl, rfl, rfl⟩ | ⟨o, cur, rfl, hr, hnc, hcm, hoc, htk⟩⟩ := h
  · obtain ⟨v', w', hrun, hown, hg, _⟩ := run_append_own (P := Try.prog) w w.heap.size t ty e i0 z 2 32 ht hi0 hz0 hz1 hz2 hz (by decide) (.slice none 0 0) 0 [] (World.ownsRow_nil _ _ _ _) ad 1 1 (C x) (by rw [hC.len]) hx (hC.one x) (by simp [maxLen]) (by omega) (by omega)
    obtain ⟨g', hg', hW⟩ := WaitAt.of_own (p := g) (ms := [x]) hC (by simpa using hown) (by omega)
    exact ⟨v', w', g', hrun, hW, .inr hg', Buts.of_below ((Below.refl _ w).grown hg (Nat.le_refl _) (fun k e => by cases e)), hp.later ((Below.refl _ w).grown hg (Nat.le_refl _) (fun k e => by cases e))⟩
  · by_cases hroom : ms.length + 1 ≤ c
    · have hrun := run_append_room_cells (P := Try.prog) w t ty e i0 ht hi0 g o ms.length c ad 1 1 (C x) (by rw [hC.len, hz1]) hx (hC.one x) hroom
        (fun j hj => by rw [hC.len] at hj; rw [hz1]; exact row_isSome hr (by omega)) (fun j hj => hr.frozen _)
      rw [hz1] at hrun
      have hl2 : ms.length * 2 + (C x).length ≤ (cur.drop o).length := by rw [hC.len, List.length_drop]; omega
      refine ⟨_, _, g, hrun, ⟨_, c, by rw [List.length_append]; rfl, .inr ⟨o, _, rfl, Row.sets (C x) (o + ms.length * 2) hr, by rw [List.length_append]; exact hroom, hcm, ?_, ?_⟩⟩, .inl rfl, Buts.setsG _ _ _, Row.others (row_ne hp hr htp) _ _ hp⟩
      · rw [putAt_len _ _ _ (by rw [List.length_drop] at hl2; omega)]; exact hoc
      · rw [putAt_drop, putAt_eq _ _ _ hl2, List.length_append, List.flatMap_append, htk, List.flatMap_cons, List.flatMap_nil, List.append_nil]
        refine List.take_left' ?_
        simp [flat_len hC, hC.len]; omega
    · obtain ⟨v', w', hrun, hown, hg⟩ := run_append_arg_grows (P := Try.prog) w t ty e i0 z 2 32 ht hi0 hz0 hz1 hz2 hz (by decide) ⟨g, o, none⟩ ms.length c (ms.flatMap C) (flat_len hC ms) (fun j u hj => by
          rw [Addr.add_lit]
          rw [← htk, List.getElem?_take] at hj
          split at hj
          · rw [List.getElem?_drop] at hj; exact hr.cell hj
          · cases hj) ad 1 1 (C x) (by rw [hC.len]) hx (by omega) (by simp only [maxLen]; omega) (by omega)
      obtain ⟨g', hg', hW⟩ := WaitAt.of_own (p := p) (ms := ms ++ [x]) hC (by simpa using hown) (by omega)
      exact ⟨v', w', g', hrun, hW, .inr hg', Buts.of_below ((Below.refl _ w).grown hg (Nat.le_refl _) (fun k e => by cases e)), hp.later ((Below.refl _ w).grown hg (Nat.le_refl _) (fun k e => by cases e))⟩
end Go.Proofs.Ythdfhbbfbohojaa
