/-
  Slices of bytes, as they are read: how long, which bytes, where they lie.
-/
import Derived.Test.YtlmfdifnkkdpfaaLow
import Derived.Test.YtlmfdifnkkdpfaaChecked
namespace Go.Proofs.Ytlmfdifnkkdpfaa
open Go.RowKit

theorem info5 : (Try.prog.info? 5).map (fun i => (i.zero, i.size, i.bytes)) = some (some (.int .u8 0), 1, 1) := by kernel_rfl
theorem size5 : (Try.prog.info? 5).map (·.size) = some 1 := by kernel_rfl

/-- A slice of bytes: it has none, or it leads to cells of a block below n₀; its length is that of the bytes. -/
def IsBytes (n₀ : Nat) (W : World) (p : Option Addr) (len cap : Nat) (zs : List Nat) : Prop :=
  zs.length = len ∧ len ≤ cap ∧ cap ≤ 9223372036854775807 ∧ (∀ z ∈ zs, z < 256) ∧
  (len = 0 ∨ ∃ b off, p = some ⟨b, off, none⟩ ∧ b < n₀ ∧ ∀ i, i < len → W.cell? ⟨b, off + i, none⟩ = some (.int .u8 (zs.getD i 0 : Nat)))

theorem IsBytes.below {n₀ : Nat} {A B : World} (h : Below n₀ A B) {p : Option Addr} {len cap : Nat} {zs : List Nat} : IsBytes n₀ A p len cap zs → IsBytes n₀ B p len cap zs
  | ⟨h1, h2, h3, h4, .inl e⟩ => ⟨h1, h2, h3, h4, .inl e⟩
  | ⟨h1, h2, h3, h4, .inr ⟨b, off, e, hb, hc⟩⟩ => ⟨h1, h2, h3, h4, .inr ⟨b, off, e, hb, fun i hi => (h.cell (p := ⟨b, off + i, none⟩) hb).trans (hc i hi)⟩⟩


theorem getD_of_all {zs : List Nat} (h : ∀ z ∈ zs, z < 256) (i : Nat) : zs.getD i 0 < 256 := by
  by_cases hi : i < zs.length
  · simp only [List.getD_eq_getElem?_getD, List.getElem?_eq_getElem hi, Option.getD_some]; exact h _ (List.getElem_mem hi)
  · simp [List.getElem?_eq_none (show zs.length ≤ i by omega)]

end Go.Proofs.Ytlmfdifnkkdpfaa
