/-
  Slices of ids; what a writer's Ids and Text and the reference's Ids and Text write.
-/
import Derived.Test.YtfclbdlkpnoceaaEnc
namespace Go.Proofs.Ytfclbdlkpnoceaa
open Go.RowKit

theorem size33 : (Try.prog.info? 33).map (·.size) = some 32 := by kernel_rfl

/-- A slice of ids: it has none, or it leads to cells of a block below n₀. -/
def IsIds (n₀ : Nat) (W : World) (p : Option Addr) (len cap : Nat) (ids : List (List Nat)) : Prop :=
  ids.length = len ∧ len ≤ cap ∧ cap ≤ 9223372036854775807 ∧ (∀ x ∈ ids, x.length = 32 ∧ ∀ z ∈ x, z < 256) ∧ (len = 0 ∨ ∃ b off, p = some ⟨b, off, none⟩ ∧ b < n₀ ∧ ∀ i, i < len → W.rangeAt b (off + i * 32) (u8s (ids.getD i [])))
theorem rangeAt_below {n b : Nat} {A B : World} (h : Below n A B) (hb : b < n) {o : Nat} {cs : List Value} (hr : A.rangeAt b o cs) : B.rangeAt b o cs := fun j v hv => (h.cell (p := ⟨b, o + j, none⟩) hb).trans (hr j v hv)
theorem IsIds.below {n₀ : Nat} {A B : World} (h : Below n₀ A B) {p : Option Addr} {len cap : Nat} {ids : List (List Nat)} : IsIds n₀ A p len cap ids → IsIds n₀ B p len cap ids
  | ⟨h1, h2, h3, h4, .inl e⟩ => ⟨h1, h2, h3, h4, .inl e⟩
  | ⟨h1, h2, h3, h4, .inr ⟨b, off, e, hb, hc⟩⟩ => ⟨h1, h2, h3, h4, .inr ⟨b, off, e, hb, fun i hi => rangeAt_below h hb (hc i hi)⟩⟩
theorem IsIds.mono {n₀ n₁ : Nat} (h : n₀ ≤ n₁) {W : World} {p : Option Addr} {len cap : Nat} {ids : List (List Nat)} : IsIds n₀ W p len cap ids → IsIds n₁ W p len cap ids
  | ⟨h1, h2, h3, h4, .inl e⟩ => ⟨h1, h2, h3, h4, .inl e⟩
  | ⟨h1, h2, h3, h4, .inr ⟨b, off, e, hb, hc⟩⟩ => ⟨h1, h2, h3, h4, .inr ⟨b, off, e, Nat.lt_of_lt_of_le hb h, hc⟩⟩
theorem ids_at {ids : List (List Nat)} (h : ∀ x ∈ ids, x.length = 32 ∧ ∀ z ∈ x, z < 256) {k : Nat} (hk : k < ids.length) : (ids.getD k []).length = 32 ∧ ∀ z ∈ ids.getD k [], z < 256 := by
  rw [List.getD_eq_getElem?_getD, List.getElem?_eq_getElem hk, Option.getD_some]
  exact h _ (List.getElem_mem hk)
theorem flat_succ (ts : List (List Nat)) (k : Nat) (hk : k < ts.length) : (ts.take k).flatten ++ ts.getD k [] = (ts.take (k + 1)).flatten := by
  rw [List.take_succ_eq_append_getElem hk, List.flatten_append]
  simp [List.getElem?_eq_getElem hk]
theorem flat_ids {ids : List (List Nat)} (h : ∀ x ∈ ids, x.length = 32 ∧ ∀ z ∈ x, z < 256) (k : Nat) : (ids.take k).flatten.length ≤ 32 * k := by
  induction k with
  | zero => simp
  | succ k ih =>
    by_cases hk : k < ids.length
    · rw [← flat_succ ids k hk, List.length_append, (ids_at h hk).1]; omega
    · rw [List.take_of_length_le (by omega)] at ih ⊢; omega
/-- An array of bytes, as a slice. -/
theorem bytes_of_array {W : World} {b n : Nat} {zs : List Nat} (h : Row W b 33 (u8s zs)) (hn : zs.length = n) (hn2 : n ≤ 1000) (hz : ∀ z ∈ zs, z < 256) : IsBytes (b + 1) W (some ⟨b, 0, none⟩) n n zs := by
  refine ⟨hn, Nat.le_refl _, by omega, hz, .inr ⟨b, 0, rfl, by omega, fun i hi => ?_⟩⟩
  rw [Nat.zero_add]
  exact h.cell (u8s_at (by omega))
/-- Ids as bytes. -/
def encIds (ids : List (List Nat)) : List Nat := encN ids.length ++ ids.flatten
def encText (t : List Nat) : List Nat := encN t.length ++ t

end Go.Proofs.Ytfclbdlkpnoceaa
