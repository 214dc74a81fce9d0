/-
  What the reference's reader's Id and Ids answer and leave.
-/
import Derived.Test.YtfclbdlkpnoceaaSame
import Derived.Test.YtfclbdlkpnoceaaBuild
namespace Go.Proofs.Ytfclbdlkpnoceaa
open Go.RowKit

theorem run_arrayAt33 (b o L C : Nat) (h : 32 ≤ L) (w : World) : (Instr.arrayAt 33 (.slice (some ⟨b, o, none⟩) L C)).run Try.prog w = .ok (.pointer (some ⟨b, o, none⟩)) w := by
  have h : ¬ L < 32 := by omega
  simp [Instr.arrayAt, run_underlying Try.underlying33, go_sem, h]
/-- No id. -/
def noId : List Value := List.replicate 32 (.int .u8 0)
theorem noId_eq : u8s (List.replicate 32 0) = noId := by simp [u8s, noId]
theorem OwnIds.but {A A' : World} {n₀ B : Nat} {v : Value} {ids : List (List Nat)} (h : OwnIds n₀ A v ids) (hb : But B A.heap.size A A') (hB : B < n₀) : OwnIds n₀ A' v ids := by
  refine ⟨h.1, ?_⟩
  rcases h.2 with hn | ⟨g, cap, cur, rfl, hg, hgg, rest⟩
  · exact .inl hn
  · exact .inr ⟨g, cap, cur, rfl, hg, (hb.block g (Array.getElem?_eq_some_iff.1 hgg).1 (by omega)).trans hgg, rest⟩
theorem bytes_range {n₀ : Nat} {W : World} {b off len cap o n : Nat} {zs : List Nat} (h : IsBytes n₀ W (some ⟨b, off, none⟩) len cap zs) (ho : o + n ≤ len) : W.rangeAt b (off + o) (u8s ((zs.drop o).take n)) := by
  intro j v hv
  have hj : j < n := by
    rcases Nat.lt_or_ge j n with h | h
    · exact h
    · rw [List.getElem?_eq_none (by simp; omega)] at hv; cases hv
  obtain ⟨h1, _, _, _, rfl | ⟨b', off', e, hb, hc⟩⟩ := h
  · omega
  · cases e
    rw [Nat.add_assoc, hc (o + j) (by omega)]
    rw [u8s_at (by simp; omega)] at hv
    rw [← hv]
    simp [List.getElem?_drop, hj]

end Go.Proofs.Ytfclbdlkpnoceaa
