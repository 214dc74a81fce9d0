/-
  The reference's log in memory, and what its writes leave of it.
-/
import Derived.Test.YtifjkkfienmdjaaBo
namespace Go.Proofs.Ytifjkkfienmdjaa
open Go.RowKit Go.Shelf

theorem doW_append : ∀ (a b : List (Nat × List Nat)) (d : St), doW d (a ++ b) = if (doW d a).1 ≠ 0 then doW d a else doW (doW d a).2 b
  | [], b, d => by simp [doW]
  | (i, s) :: r, b, d => by
    rw [List.cons_append, doW, doW]
    by_cases h : d.wErr i ≠ 0
    · rw [if_pos h, if_pos h, if_pos h]
    · rw [if_neg h, if_neg h, doW_append r b]
theorem doW_fail {a b : List (Nat × List Nat)} {d : St} {j : Nat} {s : List Nat} (h0 : (doW d a).1 = 0) (h : (doW d a).2.wErr j ≠ 0) : doW d (a ++ (j, s) :: b) = ((doW d a).2.wErr j, (doW d a).2.write j s) := by
  rw [doW_append, if_neg (by rw [h0]; simp), doW, if_pos h]
theorem doW_snoc {a : List (Nat × List Nat)} {d : St} {j : Nat} {s : List Nat} (h0 : (doW d a).1 = 0) (h : (doW d a).2.wErr j = 0) : doW d (a ++ [(j, s)]) = (0, (doW d a).2.write j s) := by
  rw [doW_append, if_neg (by rw [h0]; simp), doW, if_neg (by rw [h]; simp), doW]
theorem tailW_succ (f : Nat) (b : List Nat) (k : Nat) : tailW f b (k + 1 + 1) = tailW f b (k + 1) ++ [(f + (k + 1), secK b k)] := by
  simp only [tailW, Nat.add_sub_cancel, List.range_succ, List.map_append, List.map_cons, List.map_nil]
theorem tailW_split {f : Nat} {b : List Nat} {k i : Nat} (h : i + 1 < k) : ∃ r, tailW f b k = tailW f b (i + 1) ++ (f + (i + 1), secK b i) :: r := by
  obtain ⟨m, rfl⟩ : ∃ m, k = i + 1 + 1 + m := ⟨k - (i + 2), by omega⟩
  clear h
  induction m with
  | zero => exact ⟨[], tailW_succ f b i⟩
  | succ m ih =>
    obtain ⟨r, hr⟩ := ih
    refine ⟨r ++ [(f + (i + 1 + m + 1), secK b (i + 1 + m))], ?_⟩
    rw [show i + 1 + 1 + (m + 1) = (i + 1 + m) + 1 + 1 by omega, tailW_succ, show i + 1 + m + 1 = i + 1 + 1 + m by omega, hr]
    simp

/-- The reference's log: block L; the row of its records is v's. -/
def RLogAt (n₀ : Nat) (W : World) (L p : Nat) (v : Value) (l : Lg) : Prop :=
  Row W L 41 [.pointer (some ⟨p, 0, none⟩), .int .i64 (l.f : Nat), .int .i64 (l.n : Nat), .int .u32 (l.gen : Nat), .int .i64 (l.pos : Nat), v, .bool l.broken] ∧ RecsAt n₀ W v l.recs
theorem keepT_of_buts {S : List Nat} {w w' : World} {t : TypeId} (h : Buts S w.heap.size w w') (hS : ∀ x ∈ S, ∃ c t' fr, w.heap[x]? = some (Obj.cells c t' fr) ∧ t' ≠ t) : KeepT t w w' := fun k c fr hk => by
  refine (h.block k (Array.getElem?_eq_some_iff.1 hk).1 (fun hx => ?_)).trans hk
  obtain ⟨c', t', fr', e, hne⟩ := hS k hx
  rw [hk] at e
  cases e
  exact hne rfl
end Go.Proofs.Ytifjkkfienmdjaa
