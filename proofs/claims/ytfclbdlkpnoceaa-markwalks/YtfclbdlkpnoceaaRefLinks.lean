/-
  The reference's Links: ids put in where they stand.
-/
import Derived.Test.YtfclbdlkpnoceaaEqId
import Derived.Test.YtfclbdlkpnoceaaBuild
import Derived.Test.YtfclbdlkpnoceaaOps
import Derived.Test.YtfclbdlkpnoceaaRfIds
import Derived.ArgAppend
namespace Go.Proofs.Ytfclbdlkpnoceaa
open Go.RowKit

theorem IsIds.rest {n₀ : Nat} {W : World} {p q : Option Addr} {len cap L C o : Nat} {ids : List (List Nat)} (h : IsIds n₀ W p len cap ids) (hL : L + o = len) (hC : C + o = cap) (hq : 0 < L → ∃ b off, p = some ⟨b, off, none⟩ ∧ q = some ⟨b, off + o * 32, none⟩) : IsIds n₀ W q L C (ids.drop o) := by
  obtain ⟨h1, h2, h3, h4, h5⟩ := h
  refine ⟨by simp; omega, by omega, by omega, fun x hx => h4 x (List.mem_of_mem_drop hx), ?_⟩
  by_cases hLz : 0 < L
  · obtain ⟨b, off, rfl, rfl⟩ := hq hLz
    rcases h5 with h5 | ⟨b', off', e, hb, hc⟩
    · omega
    · cases e
      refine .inr ⟨b, off + o * 32, rfl, hb, fun i hi => ?_⟩
      rw [show off + o * 32 + i * 32 = off + (o + i) * 32 by omega]
      have := hc (o + i) (by omega)
      simpa [List.getD_eq_getElem?_getD, List.getElem?_drop] using this
  · exact .inl (by omega)
theorem flat_len : ∀ (l : List (List Nat)), (∀ x ∈ l, x.length = 32 ∧ ∀ z ∈ x, z < 256) → l.flatten.length = l.length * 32
  | [], _ => by simp
  | a :: t, hl => by
    have h1 := flat_len t (fun x hx => hl x (List.mem_cons_of_mem _ hx))
    have h2 := (hl a List.mem_cons_self).1
    simp only [List.flatten_cons, List.length_append, List.length_cons, h1, h2]
    omega
/-- The cells of ids, one behind the other. -/
theorem IsIds.flat {n₀ : Nat} {W : World} {b off len cap : Nat} {ids : List (List Nat)} (hI : IsIds n₀ W (some ⟨b, off, none⟩) len cap ids) : ∀ j u, (u8s ids.flatten)[j]? = some u → W.cell? ((⟨b, off, none⟩ : Addr).add j) = some u := fun j u hu => by
  have hl := hI.1
  have hfl := flat_len ids hI.2.2.2.1
  have hj : j < ids.flatten.length := by
    rcases Nat.lt_or_ge j ids.flatten.length with h | h
    · exact h
    · rw [List.getElem?_eq_none (by simpa using h)] at hu; cases hu
  rcases hI.2.2.2.2 with h0 | ⟨b', off', e, hb, hc⟩
  · subst h0; omega
  · cases e
    have hi : j / 32 < ids.length := by omega
    have h1 := hc (j / 32) (by omega) (j % 32) u (by
      rw [← flat_drop hI.2.2.2.1 (j / 32) hi, ← u8s_drop, List.getElem?_take, if_pos (by omega), List.getElem?_drop, show j / 32 * 32 + j % 32 = j by omega]
      exact hu)
    rw [Addr.add_mid, show off + j = off + j / 32 * 32 + j % 32 by omega]
    exact h1
theorem IsIds.addr {n₀ : Nat} {W : World} {p : Option Addr} {len cap : Nat} {ids : List (List Nat)} (hI : IsIds n₀ W p len cap ids) (hp : 0 < len) : ∃ b off, p = some ⟨b, off, none⟩ := by
  rcases hI.2.2.2.2 with h | ⟨b, off, e, _⟩
  · omega
  · exact ⟨b, off, e⟩

/-- append of ids to a row that is owned. -/
theorem run_append_idl (w : World) (base : Nat) (ty : TypeId) (v : Value) (xs : List (List Nat)) (hown : OwnIds base w v xs) {n₀ : Nat} {p : Option Addr} {len cap : Nat} {ys : List (List Nat)} (hI : IsIds n₀ w p len cap ys) (hlen : xs.length + len ≤ 100000) (hbase : base ≤ w.heap.size) :
    ∃ v' w', (Builtin.append_ #[23, 23] ty #[v, .slice p len cap]).run Try.prog w = .ok v' w' ∧ OwnIds base w' v' (xs ++ ys) ∧ w.grownBy w' v.ownBlock := by
  obtain ⟨i0, hi, hz0, hz1, hz2⟩ := info_parts info33
  have h1 := hI.1
  by_cases h0 : len = 0
  · subst h0
    obtain rfl := List.eq_nil_of_length_eq_zero h1
    refine ⟨v, w, ?_, by rw [List.append_nil]; exact hown, ⟨rfl, rfl, rfl, Nat.le_refl _, fun _ _ _ => rfl⟩⟩
    have hfc : (Builtin.firstCells 32 0 (.slice p 0 cap)).run Try.prog w = .ok #[] w := by
      cases p with
      | none => simp [Builtin.firstCells]
      | some a => exact run_firstCells_some (P := Try.prog) w 32 0 a 0 cap [] (by simp) (fun j u hu => by cases hu)
    rcases hown.2 with ⟨rfl, _⟩ | ⟨g, cp, cur, rfl, _, _, hnc, _⟩
    · simp [Builtin.append_, run_underlying Try.underlying23, sizeOf, typeInfo, hi, hz1, Builtin.lenOf, hfc]
    · simp [Builtin.append_, run_underlying Try.underlying23, sizeOf, typeInfo, hi, hz1, Builtin.lenOf, hfc, hnc, storeCells]
  · obtain ⟨b, off, rfl⟩ := hI.addr (by omega)
    have hfl := flat_len ys hI.2.2.2.1
    obtain ⟨v', w', hr, ho, hg, _⟩ := run_append_own_at (P := Try.prog) w base 23 ty 33 i0 _ 32 32 Try.underlying23 hi hz0 hz1 hz2 (by simp [Value.cells]) (by omega) v xs.length (u8s xs.flatten) hown ⟨b, off, none⟩ len cap (u8s ys.flatten) (by rw [u8s_length, hfl, h1]) hI.flat (u8s_one _) (by simp only [maxLen]; omega) (by omega) hbase
    refine ⟨v', w', hr, ?_, hg⟩
    unfold OwnIds
    rw [List.length_append, List.flatten_append, ← u8s_append, h1]
    exact ho
/-- append of a row to ids that have no room. -/
theorem run_append_full (w : World) (ty : TypeId) {n₀ : Nat} {p : Option Addr} {n : Nat} {xs : List (List Nat)} (hI : IsIds n₀ w p n n xs) (hp : p = none → n = 0) {g m c : Nat} {ys : List (List Nat)} {n₁ : Nat} (hJ : IsIds n₁ w (some ⟨g, 0, none⟩) m c ys) (hm : 0 < m) (hlen : n + m ≤ 100000) :
    ∃ v' w', (Builtin.append_ #[23, 23] ty #[.slice p n n, .slice (some ⟨g, 0, none⟩) m c]).run Try.prog w = .ok v' w' ∧ OwnIds w.heap.size w' v' (xs ++ ys) ∧ Below w.heap.size w w' := by
  obtain ⟨i0, hi, hz0, hz1, hz2⟩ := info_parts info33
  have h1 := hI.1
  have h2 := hJ.1
  have f1 := flat_len xs hI.2.2.2.1
  have f2 := flat_len ys hJ.2.2.2.1
  have fin : ∀ v' w', w'.ownsRow w.heap.size 33 32 v' (n + m) (u8s xs.flatten ++ u8s ys.flatten) → OwnIds w.heap.size w' v' (xs ++ ys) := fun v' w' h => by
    unfold OwnIds
    rw [List.length_append, List.flatten_append, ← u8s_append, h1, h2]
    exact h
  cases p with
  | none =>
    obtain rfl := hp rfl
    obtain rfl := List.eq_nil_of_length_eq_zero h1
    obtain ⟨v', w', hr, ho, hg, _⟩ := run_append_own_at (P := Try.prog) w w.heap.size 23 ty 33 i0 _ 32 32 Try.underlying23 hi hz0 hz1 hz2 (by simp [Value.cells]) (by omega) (.slice none 0 0) 0 [] (World.ownsRow_nil _ _ _ _) ⟨g, 0, none⟩ m c (u8s ys.flatten) (by rw [u8s_length, f2, h2]) hJ.flat (u8s_one _) (by simp only [maxLen]; omega) (by omega) (Nat.le_refl _)
    exact ⟨v', w', hr, fin v' w' (by simpa [u8s] using ho), (Below.refl _ w).grown hg (Nat.le_refl _) (fun k e => by cases e)⟩
  | some a =>
    obtain ⟨v', w', hr, ho, hg⟩ := run_append_arg_grows (P := Try.prog) w 23 ty 33 i0 _ 32 32 Try.underlying23 hi hz0 hz1 hz2 (by simp [Value.cells]) (by omega) a n n (u8s xs.flatten) (by rw [u8s_length, f1, h1]) (fun j u hu => by
      by_cases hn : n = 0
      · subst hn
        obtain rfl := List.eq_nil_of_length_eq_zero h1
        cases hu
      · obtain ⟨b, off, e⟩ := hI.addr (by omega)
        cases e
        exact hI.flat j u hu) ⟨g, 0, none⟩ m c (u8s ys.flatten) (by rw [u8s_length, f2, h2]) hJ.flat (by omega) (by simp only [maxLen]; omega) (by omega)
    exact ⟨v', w', hr, fin v' w' ho, (Below.refl _ w).grown hg (Nat.le_refl _) (fun k e => by cases e)⟩

end Go.Proofs.Ytfclbdlkpnoceaa
