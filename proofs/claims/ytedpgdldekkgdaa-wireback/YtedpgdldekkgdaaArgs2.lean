/-
  What came in as an argument: a list of texts.
-/
import Derived.Test.YtedpgdldekkgdaaArgs
import Derived.Test.YtedpgdldekkgdaaLists
import Derived.SliceStrings
namespace Go.Proofs.Ytedpgdldekkgdaa
open Go.ChangeShapes Go.WideShapes Go.ChangeAt Go.RowKit

set_option maxRecDepth 100000 in
/-- A slice of texts that came in. -/
theorem open_names {H : Type} {enc : TypeId × Value → H} {W : World} {base : Nat} {v : Value} {x : DataW H} {p : List MemPlace} (hv : Value.okWide Try.prog W .any base 42 v) (h : ∃ fuel, DataW.trod enc Try.prog W 0 (fun _ => true) true fuel 42 v.cells.toList = some (x, p)) :
    ∃ a len cap xs, v = .slice a len cap ∧ IsStrs W.heap.size W a len cap xs := by
  obtain ⟨a, len, cap, rfl⟩ := okWide_slice Try.underlying42 hv
  obtain ⟨fuel, hf⟩ := h
  rcases open_strings Try.underlying42 Try.underlying9 (by kernel_rfl) hf with ⟨hcs, _⟩ | ⟨x, l, c, ss, hcs, _, hl, hm, hz, _, hcell, hwz⟩
  · simp [Value.cells] at hcs
    obtain ⟨rfl, rfl, rfl⟩ := hcs
    exact ⟨_, _, _, [], rfl, rfl, Nat.le_refl _, by omega, .inl rfl⟩
  · simp [Value.cells] at hcs
    obtain ⟨rfl, rfl, rfl⟩ := hcs
    have hz' : ss.length = cap := by simpa using hz
    refine ⟨_, _, _, ss.take len, rfl, by simp; omega, hl, by simpa only [maxLen] using hm, ?_⟩
    by_cases h0 : len = 0
    · exact .inl h0
    · obtain ⟨b, off, spot⟩ := x
      have hc0 := hcell 0 (by omega)
      have hspot : spot = none := by simpa [Addr.add] using World.cell?_spot hc0
      subst hspot
      refine .inr ⟨b, off, rfl, ?_, fun i hi => ?_⟩
      · rw [Addr.add_mid] at hc0
        exact World.block_lt_of_cell? W _ hc0
      · have hi2 : i < len := by simp at hi; omega
        have hi' : i < ss.length := by omega
        have h1 := hcell i hi'
        rw [Addr.add_mid] at h1
        rw [h1]
        simp [List.getElem?_eq_getElem hi']
end Go.Proofs.Ytedpgdldekkgdaa
