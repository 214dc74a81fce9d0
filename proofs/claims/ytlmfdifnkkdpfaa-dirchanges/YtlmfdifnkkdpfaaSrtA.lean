/-
  Texts appended to texts.
-/
import Derived.Test.YtlmfdifnkkdpfaaSrtL
import Derived.ArgAppend
namespace Go.Proofs.Ytlmfdifnkkdpfaa
open Go.RowKit

theorem IsStrs.flat {n₀ : Nat} {W : World} {b off len cap : Nat} {ys : List ByteArray} (hI : IsStrs n₀ W (some ⟨b, off, none⟩) len cap ys) : ∀ j u, (Go.Proofs.Ytlmfdifnkkdpfaa.strs ys)[j]? = some u → W.cell? ((⟨b, off, none⟩ : Addr).add j) = some u := fun j u hu => by
  have hl := hI.1
  have hj : j < ys.length := by
    rcases Nat.lt_or_ge j ys.length with h | h
    · exact h
    · rw [List.getElem?_eq_none (by simpa [Go.Proofs.Ytlmfdifnkkdpfaa.strs] using h)] at hu; cases hu
  rcases hI.2.2.2 with h0 | ⟨b', off', e, hb, hc⟩
  · subst h0; omega
  · cases e
    have h1 := hc j hj
    simp [Go.Proofs.Ytlmfdifnkkdpfaa.strs, List.getElem?_eq_getElem hj] at hu
    subst hu
    rw [Addr.add_mid]
    exact h1
theorem IsStrs.addr {n₀ : Nat} {W : World} {p : Option Addr} {len cap : Nat} {ys : List ByteArray} (hI : IsStrs n₀ W p len cap ys) (hp : 0 < len) : ∃ b off, p = some ⟨b, off, none⟩ := by
  rcases hI.2.2.2 with h | ⟨b, off, e, _⟩
  · omega
  · exact ⟨b, off, e⟩
theorem run_append_strl (w : World) (base : Nat) (ty : TypeId) (v : Value) (xs : List ByteArray) (hown : OwnS base w v xs) {n₀ : Nat} {p : Option Addr} {len cap : Nat} {ys : List ByteArray} (hI : IsStrs n₀ w p len cap ys) (hlen : xs.length + len ≤ 100000) (hbase : base ≤ w.heap.size) :
    ∃ v' w', (Builtin.append_ #[48, 48] ty #[v, .slice p len cap]).run Try.prog w = .ok v' w' ∧ OwnS base w' v' (xs ++ ys) ∧ w.grownBy w' v.ownBlock := by
  obtain ⟨i0, hi, hz0, hz1, hz2⟩ := info_parts info9
  have h1 := hI.1
  by_cases h0 : len = 0
  · subst h0
    obtain rfl := List.eq_nil_of_length_eq_zero h1
    refine ⟨v, w, ?_, by rw [List.append_nil]; exact hown, ⟨rfl, rfl, rfl, Nat.le_refl _, fun _ _ _ => rfl⟩⟩
    have hfc : (Builtin.firstCells 1 0 (.slice p 0 cap)).run Try.prog w = .ok #[] w := by
      cases p with
      | none => simp [Builtin.firstCells]
      | some a => exact run_firstCells_some (P := Try.prog) w 1 0 a 0 cap [] (by simp) (fun j u hu => by cases hu)
    rcases hown.2 with ⟨rfl, _⟩ | ⟨g, cp, cur, rfl, _, _, hnc, _⟩
    · simp [Builtin.append_, run_underlying Try.underlying48, sizeOf, typeInfo, hi, hz1, Builtin.lenOf, hfc]
    · simp [Builtin.append_, run_underlying Try.underlying48, sizeOf, typeInfo, hi, hz1, Builtin.lenOf, hfc, hnc, storeCells]
  · obtain ⟨b, off, rfl⟩ := hI.addr (by omega)
    obtain ⟨v', w', hr, ho, hg, _⟩ := run_append_own_at (P := Try.prog) w base 48 ty 9 i0 _ 1 16 Try.underlying48 hi hz0 hz1 hz2 (by simp [Value.cells]) (by omega) v xs.length (Go.Proofs.Ytlmfdifnkkdpfaa.strs xs) hown ⟨b, off, none⟩ len cap (Go.Proofs.Ytlmfdifnkkdpfaa.strs ys) (by rw [strs_length, h1, Nat.mul_one]) hI.flat (strs_one _) (by simp only [maxLen]; omega) (by omega) hbase
    refine ⟨v', w', hr, ?_, hg⟩
    unfold OwnS
    rw [List.length_append, ← strs_app, h1]
    exact ho
theorem run_append_fullS (w : World) (ty : TypeId) {n₀ : Nat} {p : Option Addr} {n : Nat} {xs : List ByteArray} (hI : IsStrs n₀ w p n n xs) (hp : p = none → n = 0) {g m c : Nat} {ys : List ByteArray} {n₁ : Nat} (hJ : IsStrs n₁ w (some ⟨g, 0, none⟩) m c ys) (hm : 0 < m) (hlen : n + m ≤ 100000) :
    ∃ v' w', (Builtin.append_ #[48, 48] ty #[.slice p n n, .slice (some ⟨g, 0, none⟩) m c]).run Try.prog w = .ok v' w' ∧ OwnS w.heap.size w' v' (xs ++ ys) ∧ Below w.heap.size w w' := by
  obtain ⟨i0, hi, hz0, hz1, hz2⟩ := info_parts info9
  have h1 := hI.1
  have h2 := hJ.1
  have fin : ∀ v' w', w'.ownsRow w.heap.size 9 1 v' (n + m) (Go.Proofs.Ytlmfdifnkkdpfaa.strs xs ++ Go.Proofs.Ytlmfdifnkkdpfaa.strs ys) → OwnS w.heap.size w' v' (xs ++ ys) := fun v' w' h => by
    unfold OwnS
    rw [List.length_append, ← strs_app, h1, h2]
    exact h
  cases p with
  | none =>
    obtain rfl := hp rfl
    obtain rfl := List.eq_nil_of_length_eq_zero h1
    obtain ⟨v', w', hr, ho, hg, _⟩ := run_append_own_at (P := Try.prog) w w.heap.size 48 ty 9 i0 _ 1 16 Try.underlying48 hi hz0 hz1 hz2 (by simp [Value.cells]) (by omega) (.slice none 0 0) 0 [] (World.ownsRow_nil _ _ _ _) ⟨g, 0, none⟩ m c (Go.Proofs.Ytlmfdifnkkdpfaa.strs ys) (by rw [strs_length, h2, Nat.mul_one]) hJ.flat (strs_one _) (by simp only [maxLen]; omega) (by omega) (Nat.le_refl _)
    exact ⟨v', w', hr, fin v' w' (by simpa [Go.Proofs.Ytlmfdifnkkdpfaa.strs] using ho), (Below.refl _ w).grown hg (Nat.le_refl _) (fun k e => by cases e)⟩
  | some a =>
    obtain ⟨v', w', hr, ho, hg⟩ := run_append_arg_grows (P := Try.prog) w 48 ty 9 i0 _ 1 16 Try.underlying48 hi hz0 hz1 hz2 (by simp [Value.cells]) (by omega) a n n (Go.Proofs.Ytlmfdifnkkdpfaa.strs xs) (by rw [strs_length, h1, Nat.mul_one]) (fun j u hu => by
      by_cases hn : n = 0
      · subst hn
        obtain rfl := List.eq_nil_of_length_eq_zero h1
        cases hu
      · obtain ⟨b, off, e⟩ := hI.addr (by omega)
        cases e
        exact hI.flat j u hu) ⟨g, 0, none⟩ m c (Go.Proofs.Ytlmfdifnkkdpfaa.strs ys) (by rw [strs_length, h2, Nat.mul_one]) hJ.flat (by omega) (by simp only [maxLen]; omega) (by omega)
    exact ⟨v', w', hr, fin v' w' ho, (Below.refl _ w).grown hg (Nat.le_refl _) (fun k e => by cases e)⟩
end Go.Proofs.Ytlmfdifnkkdpfaa
