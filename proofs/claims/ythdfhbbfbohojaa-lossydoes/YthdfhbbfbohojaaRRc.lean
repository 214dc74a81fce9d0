/-
  The document's Receive.
-/
import Derived.Test.YthdfhbbfbohojaaRSd
namespace Go.Proofs.Ythdfhbbfbohojaa
open Go.RowKit Go.Shelf

/-- One taken out. -/
theorem run_cut {α : Type} {C : α → List Value} (hC : Enc2 C) {t e ty : TypeId} {z : Value} (ht : Try.prog.underlying t = some (.slice e)) (hi : (Try.prog.info? e).map (fun i => (i.zero, i.size, i.bytes)) = some (some z, 2, 32)) (hz : z.cells.size = 2)
    {w : World} {p g o n c : Nat} {ms : List α} (h : WaitAt e C w p g (.slice (some ⟨g, o, none⟩) n c) ms) {k : Nat} (hk : k < n) (hlen : n ≤ 100000) (ad : Addr) (had : 0 < n - (k + 1) → ad = ⟨g, o + (k + 1) * 2, none⟩) (cx : Nat) :
    ∃ v' w' g', (Builtin.append_ #[t, t] ty #[.slice (some ⟨g, o, none⟩) k k, .slice (some ad) (n - (k + 1)) cx]).run Try.prog w = .ok v' w' ∧ WaitAt e C w' p g' v' (ms.take k ++ ms.drop (k + 1)) ∧ (g' = g ∨ w.heap.size ≤ g') ∧ Below w.heap.size w w' := by
  obtain ⟨i0, hi0, hz0, hz1, hz2⟩ := info_parts hi
  obtain ⟨q, c', e', ⟨h0, _⟩ | ⟨o', cur, h0, hr, hnc, hcm, hoc, htk⟩⟩ := h
  · cases e'; cases h0
  cases e'
  cases h0
  have hT : (ms.take k).length = k := by rw [List.length_take]; omega
  have hD : (ms.drop (k + 1)).length = ms.length - (k + 1) := by rw [List.length_drop]
  have hcell : ∀ i j v, i ≤ ms.length → ((ms.drop i).flatMap C)[j]? = some v → w.cell? ⟨g, o + i * 2 + j, none⟩ = some v := fun i j v hil hj => by
    rw [← flat_drop hC ms hil, List.getElem?_drop, ← htk, List.getElem?_take] at hj
    split at hj
    · rw [List.getElem?_drop] at hj; rw [Nat.add_assoc]; exact hr.cell hj
    · cases hj
  by_cases hlast : ms.length - (k + 1) = 0
  · rw [hlast]
    have hd0 : ms.drop (k + 1) = [] := List.length_eq_zero_iff.1 (by omega)
    have hrun := run_append_room_cells (P := Try.prog) w t ty e i0 ht hi0 g o k k ad 0 cx [] (by simp) (by simp) (by simp) (Nat.le_refl _) (by simp) (by simp)
    refine ⟨_, _, g, hrun, ?_, .inl rfl, Below.refl _ _⟩
    rw [hd0, List.append_nil]
    refine ⟨_, k, by rw [hT]; rfl, .inr ⟨o, cur, rfl, hr, by omega, by omega, by omega, ?_⟩⟩
    rw [hT, ← flat_take hC, ← htk, List.take_take, Nat.min_eq_left (by omega)]
  · obtain ⟨v', w', hrun, hown, hg⟩ := run_append_arg_grows (P := Try.prog) w t ty e i0 z 2 32 ht hi0 hz0 hz1 hz2 hz (by decide) ⟨g, o, none⟩ k k ((ms.take k).flatMap C) (by rw [flat_len hC, hT]) (fun j u hj => by
        rw [Addr.add_lit]
        rw [← flat_take hC, List.getElem?_take] at hj
        split at hj
        · have := hcell 0 j u (by omega) (by simpa using hj)
          simpa using this
        · cases hj) ad (ms.length - (k + 1)) cx ((ms.drop (k + 1)).flatMap C) (by rw [flat_len hC, hD]) (fun j u hj => by
          rw [had (by omega), Addr.add_lit]
          exact hcell (k + 1) j u (by omega) hj) (by omega) (by simp only [maxLen]; omega) (by omega)
    rw [← List.flatMap_append] at hown
    obtain ⟨g', hg', hW⟩ := WaitAt.of_own (p := p) hC hown (by omega)
    exact ⟨v', w', g', hrun, hW, .inr hg', (Below.refl _ w).grown hg (Nat.le_refl _) (fun k e => by cases e)⟩

/-- The first of the least among the first i, if there is one. -/
def FstL (ms : List Msg) (i : Nat) (z : Int) : Prop := (i = 0 ∧ z = -1) ∨ ∃ k : Nat, z = k ∧ k < i ∧ (∀ j, j < k → dueAt ms k < dueAt ms j) ∧ (∀ j, k < j → j < i → dueAt ms k ≤ dueAt ms j)
theorem FstL.next_lt {ms : List Msg} {i k : Nat} (h : FstL ms i k) (hd : dueAt ms i < dueAt ms k) : FstL ms (i + 1) i := by
  rcases h with ⟨_, h⟩ | ⟨k', hk, hki, h1, h2⟩
  · omega
  · obtain rfl : k = k' := by omega
    refine .inr ⟨i, rfl, by omega, fun j hj => ?_, fun j h3 h4 => by omega⟩
    rcases Nat.lt_trichotomy j k with h | h | h
    · have := h1 j h; omega
    · subst h; exact hd
    · have := h2 j h hj; omega
theorem FstL.next_ge {ms : List Msg} {i k : Nat} (h : FstL ms i k) (hd : ¬ dueAt ms i < dueAt ms k) : FstL ms (i + 1) k := by
  rcases h with ⟨_, h⟩ | ⟨k', hk, hki, h1, h2⟩
  · omega
  · obtain rfl : k = k' := by omega
    refine .inr ⟨k, rfl, by omega, h1, fun j h3 h4 => ?_⟩
    by_cases hj : j = i
    · subst hj; omega
    · exact h2 j h3 (by omega)
theorem FstL.first {ms : List Msg} : FstL ms 1 0 := .inr ⟨0, rfl, by omega, fun j h => by omega, fun j h1 h2 => by omega⟩
/-- What is taken is the head of the sorted. -/
theorem FstL.sorted {ms : List Msg} {k : Nat} (h : FstL ms ms.length k) : ∃ m, ms[k]? = some m ∧ k < ms.length ∧ srtK (keys ms) = m.key :: srtK (keys (ms.take k ++ ms.drop (k + 1))) := by
  rcases h with ⟨_, h⟩ | ⟨k', hk, hki, h1, h2⟩
  · omega
  · obtain rfl : k = k' := by omega
    have e : ms = ms.take k ++ ms[k] :: ms.drop (k + 1) := by rw [← List.drop_eq_getElem_cons hki, List.take_append_drop]
    have hdk : dueAt ms k = ms[k].due := by rw [dueAt, List.getD_eq_getElem?_getD, List.getElem?_eq_getElem hki, Option.getD_some]
    refine ⟨ms[k], List.getElem?_eq_getElem hki, hki, ?_⟩
    have e2 : keys ms = keys (ms.take k) ++ ms[k].key :: keys (ms.drop (k + 1)) := by
      have := congrArg (List.map Msg.key) e
      rw [List.map_append, List.map_cons] at this
      exact this
    have e3 : keys (ms.take k ++ ms.drop (k + 1)) = keys (ms.take k) ++ keys (ms.drop (k + 1)) := by simp [keys]
    rw [e2, e3]
    refine srtK_take _ _ _ (fun a ha => ?_) (fun b hb => ?_)
    · obtain ⟨m, hm, rfl⟩ := List.mem_map.1 ha
      obtain ⟨j, hj, rfl⟩ := List.getElem_of_mem hm
      rw [List.length_take] at hj
      have := h1 j (by omega)
      rw [hdk, dueAt, List.getD_eq_getElem?_getD, List.getElem?_eq_getElem (by omega), Option.getD_some] at this
      rw [List.getElem_take]
      exact this
    · obtain ⟨m, hm, rfl⟩ := List.mem_map.1 hb
      obtain ⟨j, hj, rfl⟩ := List.getElem_of_mem hm
      rw [List.length_drop] at hj
      have := h2 (k + 1 + j) (by omega) (by omega)
      rw [hdk, dueAt, List.getD_eq_getElem?_getD, List.getElem?_eq_getElem (by omega), Option.getD_some] at this
      rw [List.getElem_drop]
      exact this
end Go.Proofs.Ythdfhbbfbohojaa
