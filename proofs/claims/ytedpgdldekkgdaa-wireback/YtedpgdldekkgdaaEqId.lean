/-
  Two ids, held for alike.
-/
import Derived.Test.YtedpgdldekkgdaaSame
namespace Go.Proofs.Ytedpgdldekkgdaa
open Go.RowKit

/-- An id. -/
def IsId (x : List Nat) : Prop := x.length = 32 ∧ ∀ z ∈ x, z < 256
/-- Whether they are alike in these places. -/
def allAt (S T : List Value) (is : List Nat) : Bool := is.all fun i => decide (intOf (S.getD i undef) = intOf (T.getD i undef))
theorem eqItems_two {P : Program} {e : TypeId} {k : IntKind} (he : P.plainKey e = true) (hu : P.underlying e = some (.int k)) (S T : List Value) (w : World) : ∀ (is : List Nat), (∀ i ∈ is, ∃ y z, S[i]? = some (.int k y) ∧ T[i]? = some (.int k z)) →
    (Op.eqItems 9999 e 1 S.toArray T.toArray is).run P w = .ok (allAt S T is) w
  | [], _ => by simp [Op.eqItems, allAt]
  | i :: is, h => by
    obtain ⟨y, z, hy, hz⟩ := h i (by simp)
    have hp : (part e S.toArray (i * 1)).run P w = .ok (.int k y) w := run_part_plain w he (by simpa using hy)
    have hp2 : (part e T.toArray (i * 1)).run P w = .ok (.int k z) w := run_part_plain w he (by simpa using hz)
    have hq := run_equalIn_int w 9998 e k k y z hu
    have ih := eqItems_two he hu S T w is (fun j hj => h j (by simp [hj]))
    simp only [Op.eqItems, Sem.run_bind, hp, hp2, Result.andThen_ok, hq]
    by_cases hyz : y = z
    · subst hyz
      simp [ih, allAt, hy, hz, intOf]
    · simp [hyz, allAt, hy, hz, intOf]
theorem allAt_ids {x y : List Nat} (hx : IsId x) (hy : IsId y) : allAt (u8s x) (u8s y) (List.range 32) = decide (x = y) := by
  rw [Bool.eq_iff_iff, decide_eq_true_eq, allAt, List.all_eq_true]
  constructor
  · intro h
    apply List.ext_getElem (by rw [hx.1, hy.1])
    intro i h1 h2
    have hi : i < 32 := by have := hx.1; omega
    have := h i (List.mem_range.2 hi)
    rw [decide_eq_true_eq] at this
    simp only [List.getD_eq_getElem?_getD] at this
    rw [u8s_at h1, u8s_at h2] at this
    simp [intOf, List.getElem?_eq_getElem h1, List.getElem?_eq_getElem h2] at this
    exact Int.ofNat.inj this
  · rintro rfl i _
    simp
theorem equal_ids {x y : List Nat} (hx : IsId x) (hy : IsId y) (w : World) : (Op.equalIn 10000 25 (.agg (u8s x).toArray) (.agg (u8s y).toArray)).run Try.prog w = .ok (decide (x = y)) w := by
  cases hq : Try.prog.info? 5 with
  | none => have := size5; rw [hq] at this; simp at this
  | some i =>
    rw [run_equalIn_array w 9999 _ _ Try.underlying25 hq, show Try.prog.cellsOf 5 = 1 by kernel_rfl]
    rw [eqItems_two (by kernel_rfl) Try.underlying5 (u8s x) (u8s y) w _ (fun i hi => ?_), allAt_ids hx hy]
    have hi := List.mem_range.1 hi
    exact ⟨_, _, u8s_at (by rw [hx.1]; exact hi), u8s_at (by rw [hy.1]; exact hi)⟩

end Go.Proofs.Ytedpgdldekkgdaa
