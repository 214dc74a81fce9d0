/-
  Two ids, held for alike.
-/
import Derived.Test.YtfclbdlkpnoceaaSame
import Derived.Test.YtfclbdlkpnoceaaCmp
namespace Go.Proofs.Ytfclbdlkpnoceaa
open Go.RowKit

/-- Whether they are alike in these places. -/
def allAt (S T : List Value) (is : List Nat) : Bool := is.all fun i => decide (intOf (S.getD i undef) = intOf (T.getD i undef))
theorem eqItems_two {P : Program} {e : TypeId} {k : IntKind} (he : P.plainKey e = true) (hu : P.underlying e = some (.int k)) (S T : List Value) (w : World) : ∀ (is : List Nat), (∀ i ∈ is, ∃ y z, S[i]? = some (.int k y) ∧ T[i]? = some (.int k z)) →
    (Op.eqItems 9999 e 1 S.toArray T.toArray is).run P w = .ok (allAt S T is) w
  | [], _ => by simp [Op.eqItems, allAt]
  | i :: is, h => by
    obtain ⟨y, z, hy, hz⟩ := h i (by simp)
    have hp : (part e S.toArray (i * 1)).run P w = .ok (.int k y) w := run_part_plain w he (by simpa using hy)
    have hp2 : (part e T.toArray (i * 1)).run P w = .ok (.int k z) w := run_part_plain w he (by simpa using hz)
    have hq := run_equalIn_int w 9998 e k k y z hu
    have ih := eqItems_two he hu S T w is (fun j hj => h j (by simp [hj]))
    simp only [Op.eqItems, Sem.run_bind, hp, hp2, Result.andThen_ok, hq]
    by_cases hyz : y = z
    · subst hyz
      simp [ih, allAt, hy, hz, intOf]
    · simp [hyz, allAt, hy, hz, intOf]
theorem allAt_ids {x y : List Nat} (hx : IsId x) (hy : IsId y) : allAt (u8s x) (u8s y) (List.range 32) = decide (x = y) := by
  rw [Bool.eq_iff_iff, decide_eq_true_eq, allAt, List.all_eq_true]
  constructor
  · intro h
    apply List.ext_getElem (by rw [hx.1, hy.1])
    intro i h1 h2
    have hi : i < 32 := by have := hx.1; omega
    have := h i (List.mem_range.2 hi)
    rw [decide_eq_true_eq] at this
    simp only [List.getD_eq_getElem?_getD] at this
    rw [u8s_at h1, u8s_at h2] at this
    simp [intOf, List.getElem?_eq_getElem h1, List.getElem?_eq_getElem h2] at this
    exact Int.ofNat.inj this
  · rintro rfl i _
    simp
theorem equal_ids {x y : List Nat} (hx : IsId x) (hy : IsId y) (w : World) : (Op.equalIn 10000 33 (.agg (u8s x).toArray) (.agg (u8s y).toArray)).run Try.prog w = .ok (decide (x = y)) w := by
  cases hq : Try.prog.info? 5 with
  | none => have := size5; rw [hq] at this; simp at this
  | some i =>
    rw [run_equalIn_array w 9999 _ _ Try.underlying33 hq, show Try.prog.cellsOf 5 = 1 by kernel_rfl]
    rw [eqItems_two (by kernel_rfl) Try.underlying5 (u8s x) (u8s y) w _ (fun i hi => ?_), allAt_ids hx hy]
    have hi := List.mem_range.1 hi
    exact ⟨_, _, u8s_at (by rw [hx.1]; exact hi), u8s_at (by rw [hy.1]; exact hi)⟩

/-- Those that once tells, of the numbers of neighbours. -/
def onceOf (s : List (List Nat)) (pre : List Nat) : List (List Nat) := s.getD 0 [] :: pre.filterMap fun i => if s.getD i [] = s.getD (i + 1) [] then none else some (s.getD (i + 1) [])
theorem onceOf_nil (s : List (List Nat)) : onceOf s [] = [s.getD 0 []] := rfl
theorem onceOf_same {s : List (List Nat)} {pre : List Nat} {x : Nat} (h : s.getD x [] = s.getD (x + 1) []) : onceOf s (pre ++ [x]) = onceOf s pre := by
  simp only [onceOf, List.filterMap_append, List.filterMap_cons, List.filterMap_nil, if_pos h, List.append_nil]
theorem onceOf_other {s : List (List Nat)} {pre : List Nat} {x : Nat} (h : ¬ s.getD x [] = s.getD (x + 1) []) : onceOf s (pre ++ [x]) = onceOf s pre ++ [s.getD (x + 1) []] := by
  simp only [onceOf, List.filterMap_append, List.filterMap_cons, List.filterMap_nil, if_neg h, List.cons_append]
theorem onceFrom_range : ∀ (r : List (List Nat)) (p : List Nat), (List.range r.length).filterMap (fun i => if (p :: r).getD i [] = (p :: r).getD (i + 1) [] then none else some ((p :: r).getD (i + 1) [])) = onceFrom p r
  | [], p => rfl
  | q :: r, p => by
    rw [List.length_cons, List.range_succ_eq_map, List.filterMap_cons, List.filterMap_map]
    have ih := onceFrom_range r q
    have e : ((fun i => if (p :: q :: r).getD i [] = (p :: q :: r).getD (i + 1) [] then none else some ((p :: q :: r).getD (i + 1) [])) ∘ Nat.succ) = fun i => if (q :: r).getD i [] = (q :: r).getD (i + 1) [] then none else some ((q :: r).getD (i + 1) []) := by
      funext i
      simp only [Function.comp, List.getD_cons_succ]
    rw [e, ih]
    simp only [List.getD_cons_zero, List.getD_cons_succ]
    by_cases h : p = q
    · rw [if_pos h, onceFrom, if_pos h]
    · rw [if_neg h, onceFrom, if_neg h]
theorem onceOf_all {s : List (List Nat)} (h : 0 < s.length) : onceOf s (List.range (s.length - 1)) = onceL s := by
  cases s with
  | nil => simp at h
  | cons x r => rw [onceOf, onceL, List.length_cons, Nat.add_sub_cancel, onceFrom_range r x]; rfl
theorem onceOf_length (s : List (List Nat)) (pre : List Nat) : (onceOf s pre).length ≤ pre.length + 1 := by
  simp only [onceOf, List.length_cons]
  have := List.length_filterMap_le (fun i => if s.getD i [] = s.getD (i + 1) [] then none else some (s.getD (i + 1) [])) pre
  omega
end Go.Proofs.Ytfclbdlkpnoceaa
