/-
  The law's awake: chapter 10's examples. Nothing that lay before the call has turned.
-/
import Derived.Test.YtkpjbleogjmbjaaDoorSplit
namespace Go.Proofs.YtkpjbleogjmbjaaDoor
open Go.RowKit

theorem ab_err : errS [97, 47, 98] = 0 := by decide
theorem ab_names : (namesS [97, 47, 98]).map txt = [txt [97], txt [98]] := by decide
theorem aab_err : errS [97, 47, 47, 98] = 100 := by decide

set_option maxRecDepth 100000 in
set_option maxHeartbeats 1000000 in
theorem awake_any (w : World) : Calls Tryd.prog 4 #[] w fun e w' => e = .returned (.bool true) ∧ Below w.heap.size w w' := by
  have HS1 : Hid (∀ W, Calls Tryd.prog 9 #[.string ⟨#[97, 47, 98]⟩] W fun e w' => ∃ g c, e = .returned (.tuple #[.slice (some ⟨g, 0, none⟩) 2 c, .int .i64 0]) ∧ w'.cell? ⟨g, 1, none⟩ = some (.string ⟨#[98]⟩) ∧ g < w'.heap.size ∧ 2 ≤ c ∧ c ≤ 9223372036854775807 ∧ Below W.heap.size W w') := fun W => by
    refine (split_any ⟨#[97, 47, 98]⟩ (by decide) W).mono ?_
    rintro e w' ⟨v, rfl, ho, hb⟩
    rw [show bytesOf ⟨#[97, 47, 98]⟩ = [97, 47, 98] from rfl, ab_names] at ho
    obtain ⟨q, c, rfl⟩ := ho.slice
    obtain ⟨g, rfl, _, hg, _, hlc, hcc, _⟩ := ho.row (by decide)
    refine ⟨g, c, ?_, ?_, hg, hlc, hcc, hb⟩
    · rw [show bytesOf ⟨#[97, 47, 98]⟩ = [97, 47, 98] from rfl, ab_err]; rfl
    · rcases ho.strs.2.2.2 with h | ⟨b, off, e, _, h⟩
      · simp at h
      · cases e
        have := h 1 (by decide)
        simpa using this
  have HS2 : Hid (∀ W, Calls Tryd.prog 9 #[.string ⟨#[97, 47, 47, 98]⟩] W fun e w' => ∃ v, e = .returned (.tuple #[v, .int .i64 100]) ∧ Below W.heap.size W w') := fun W => by
    refine (split_any ⟨#[97, 47, 47, 98]⟩ (by decide) W).mono ?_
    rintro e w' ⟨v, rfl, ho, hb⟩
    exact ⟨v, by rw [show bytesOf ⟨#[97, 47, 47, 98]⟩ = [97, 47, 47, 98] from rfl, aab_err]; rfl, hb⟩
  go_enter Tryd.func4, Tryd.ntmps4
  go_wp2_with (first
    | (go_at_call 9; refine (HS2.out w1).mono ?_; rintro e w2 ⟨v, rfl, hb2⟩; have hc2 := (hb2.cell (p := ⟨g, 1, none⟩) hg).trans hc)
    | (go_at_call 9; refine (HS1.out w).mono ?_; rintro e w1 ⟨g, c, rfl, hc, hg, hlc, hcc, hb1⟩))
  go_ret
  exact ⟨rfl, hb1.trans (hb2.mono hb1.size)⟩
end Go.Proofs.YtkpjbleogjmbjaaDoor
