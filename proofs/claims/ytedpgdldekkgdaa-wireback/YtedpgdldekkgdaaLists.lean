/-
  Slices that own a row of texts; a text appended to such; how a function's two results are read that lie in cells.
-/
import Derived.Test.YtedpgdldekkgdaaNames
import Derived.Test.YtedpgdldekkgdaaBaseAll
import Derived.Great.BuildSlice
namespace Go.Proofs.Ytedpgdldekkgdaa
open Go.RowKit

theorem info9 : (Try.prog.info? 9).map (fun i => (i.zero, i.size, i.bytes)) = some (some (.string ⟨#[]⟩), 1, 16) := by kernel_rfl
def strs (xs : List ByteArray) : List Value := xs.map .string
@[simp] theorem strs_length (xs : List ByteArray) : (strs xs).length = xs.length := by simp [strs]
theorem strs_one (xs : List ByteArray) : ∀ v ∈ strs xs, v.oneCell' = true := by simp [strs, Value.oneCell']
theorem strs_at {xs : List ByteArray} {i : Nat} (h : i < xs.length) : (strs xs)[i]? = some (.string xs[i]) := by simp [strs, List.getElem?_eq_getElem h]
/-- The slice v owns a row of just these texts. -/
def OwnS (n₀ : Nat) (W : World) (v : Value) (xs : List ByteArray) : Prop := W.ownsRow n₀ 9 1 v xs.length (strs xs)
theorem OwnS.nil (n₀ : Nat) (W : World) : OwnS n₀ W (.slice none 0 0) [] := World.ownsRow_nil _ _ _ _
theorem OwnS.later {A B : World} (hb : Below A.heap.size A B) {n₀ : Nat} {v : Value} {xs : List ByteArray} (h : OwnS n₀ A v xs) : OwnS n₀ B v xs := ownsRow_later hb h
theorem OwnS.mono {W : World} {n₀ n₁ : Nat} (hn : n₁ ≤ n₀) {v : Value} {xs : List ByteArray} (h : OwnS n₀ W v xs) : OwnS n₁ W v xs := ownsRow_mono hn h
theorem OwnS.slice {W : World} {n₀ : Nat} {v : Value} {xs : List ByteArray} (h : OwnS n₀ W v xs) : ∃ q c, v = .slice q xs.length c := slice_of_row h

/-- A slice of texts that is read: it has none, or it leads to cells of a block below n₀. -/
def IsStrs (n₀ : Nat) (W : World) (p : Option Addr) (len cap : Nat) (xs : List ByteArray) : Prop :=
  xs.length = len ∧ len ≤ cap ∧ cap ≤ 9223372036854775807 ∧
  (len = 0 ∨ ∃ b off, p = some ⟨b, off, none⟩ ∧ b < n₀ ∧ ∀ i (h : i < xs.length), W.cell? ⟨b, off + i, none⟩ = some (.string xs[i]))
theorem IsStrs.below {n₀ : Nat} {A B : World} (h : Below n₀ A B) {p : Option Addr} {len cap : Nat} {xs : List ByteArray} : IsStrs n₀ A p len cap xs → IsStrs n₀ B p len cap xs
  | ⟨h1, h2, h3, .inl e⟩ => ⟨h1, h2, h3, .inl e⟩
  | ⟨h1, h2, h3, .inr ⟨b, off, e, hb, hc⟩⟩ => ⟨h1, h2, h3, .inr ⟨b, off, e, hb, fun i hi => (h.cell (p := ⟨b, off + i, none⟩) hb).trans (hc i hi)⟩⟩
theorem IsStrs.mono {n₀ n₁ : Nat} (h : n₀ ≤ n₁) {W : World} {p : Option Addr} {len cap : Nat} {xs : List ByteArray} : IsStrs n₀ W p len cap xs → IsStrs n₁ W p len cap xs
  | ⟨h1, h2, h3, .inl e⟩ => ⟨h1, h2, h3, .inl e⟩
  | ⟨h1, h2, h3, .inr ⟨b, off, e, hb, hc⟩⟩ => ⟨h1, h2, h3, .inr ⟨b, off, e, by omega, hc⟩⟩
theorem IsStrs.later {A B : World} (hb : Below A.heap.size A B) {p : Option Addr} {len cap : Nat} {xs : List ByteArray} (h : IsStrs A.heap.size A p len cap xs) : IsStrs B.heap.size B p len cap xs := (h.below hb).mono hb.size
theorem OwnS.row {W : World} {n₀ : Nat} {q : Option Addr} {len cap : Nat} {xs : List ByteArray} (h : OwnS n₀ W (.slice q len cap) xs) (hp : 0 < len) : ∃ g, q = some ⟨g, 0, none⟩ ∧ n₀ ≤ g ∧ g < W.heap.size ∧ xs.length = len ∧ len ≤ cap ∧ cap ≤ 9223372036854775807 ∧ ∃ cur : Array Value, W.heap[g]? = some (.cells cur 9 (0, 0)) ∧ cur.size = cap ∧ cur.toList.take len = strs xs := by
  rcases h.2 with ⟨e, hz⟩ | ⟨g, c, cur, e, hg, hgg, hnc, hm, hs, ht⟩
  · cases e; omega
  · cases e
    exact ⟨g, rfl, hg, (Array.getElem?_eq_some_iff.1 hgg).1, rfl, hnc, by simpa only [maxLen] using hm, cur, hgg, by simpa using hs, by simpa using ht⟩
theorem OwnS.strs {W : World} {n₀ : Nat} {q : Option Addr} {len cap : Nat} {xs : List ByteArray} (h : OwnS n₀ W (.slice q len cap) xs) : IsStrs W.heap.size W q len cap xs := by
  rcases h.2 with ⟨e, hz⟩ | ⟨g, c, cur, e, hg, hgg, hnc, hm, hs, ht⟩
  · cases e
    exact ⟨hz, Nat.le_refl _, by omega, .inl rfl⟩
  · cases e
    refine ⟨rfl, hnc, by simpa only [maxLen] using hm, .inr ⟨g, 0, rfl, (Array.getElem?_eq_some_iff.1 hgg).1, fun i hi => ?_⟩⟩
    have hrow : Row W g 9 cur.toList := by unfold Row; rw [Array.toArray_toList]; exact hgg
    rw [Nat.zero_add]
    refine hrow.cell ?_
    have : (cur.toList.take (xs.length * 1))[i]? = some (.string xs[i]) := by rw [ht]; exact strs_at hi
    rw [List.getElem?_take] at this
    split at this
    · exact this
    · cases this
theorem run_append_str (w : World) (base : Nat) (ty : TypeId) (v : Value) (xs : List ByteArray) (hown : OwnS base w v xs) (b : Nat) (x : ByteArray) (hb : w.cell? ⟨b, 0, none⟩ = some (.string x)) (hlen : xs.length ≤ 100000) (hbase : base ≤ w.heap.size) :
    ∃ v' w', (Builtin.append_ #[42, 42] ty #[v, .slice (some ⟨b, 0, none⟩) 1 1]).run Try.prog w = .ok v' w' ∧ OwnS base w' v' (xs ++ [x]) ∧ w.grownBy w' v.ownBlock ∧ (v'.ownBlock = v.ownBlock ∨ v'.ownBlock = some w.heap.size) := by
  obtain ⟨i0, hi, hz0, hz1, hz2⟩ := info_parts info9
  obtain ⟨v', w', hr, ho, hg, _, hw⟩ := run_append_own_at (P := Try.prog) w base 42 ty 9 i0 _ 1 16 Try.underlying42 hi hz0 hz1 hz2 (by simp [Value.cells]) (by omega) v xs.length (Go.Proofs.Ytedpgdldekkgdaa.strs xs) hown ⟨b, 0, none⟩ 1 1 (Go.Proofs.Ytedpgdldekkgdaa.strs [x]) (by simp) (fun j u hu => by
    have : j = 0 := by
      by_cases h : j = 0
      · exact h
      · rw [List.getElem?_eq_none (by simp; omega)] at hu; cases hu
    subst this
    simp [Go.Proofs.Ytedpgdldekkgdaa.strs] at hu
    subst hu
    rw [Addr.add_mid]; exact hb) (strs_one _) (by simp only [maxLen]; omega) (by omega) hbase
  refine ⟨v', w', hr, ?_, hg, hw⟩
  unfold OwnS
  rw [List.length_append, show Go.Proofs.Ytedpgdldekkgdaa.strs (xs ++ [x]) = Go.Proofs.Ytedpgdldekkgdaa.strs xs ++ Go.Proofs.Ytedpgdldekkgdaa.strs [x] by simp [Go.Proofs.Ytedpgdldekkgdaa.strs]]
  simpa using ho

/-- Two results that lie in cells. -/
theorem results_cells {fn : Func} {p q : Tmp} (h : fn.results = #[.cell p 42, .cell q 31]) {tmps : Array Value} {w : World} {g g2 : Nat} (hp : tmps.getD p undef = .pointer (some ⟨g, 0, none⟩)) (hq : tmps.getD q undef = .pointer (some ⟨g2, 0, none⟩)) {v u : Value} (hg : Row w g 42 [v]) (hg2 : Row w g2 31 [u]) : (results fn tmps).run Try.prog w = .ok (.tuple #[v, u]) w := by
  have hp' : tmps[p]?.getD undef = .pointer (some ⟨g, 0, none⟩) := by simpa using hp
  have hq' : tmps[q]?.getD undef = .pointer (some ⟨g2, 0, none⟩) := by simpa using hq
  have hc := hg.cell (i := 0) rfl
  have hc2 := hg2.cell (i := 0) rfl
  simp [results, h, hp', hq', asAddr, loadVar, isAgg, run_underlying Try.underlying42, run_underlying Try.underlying31, go_sem, hc, hc2]
end Go.Proofs.Ytedpgdldekkgdaa
