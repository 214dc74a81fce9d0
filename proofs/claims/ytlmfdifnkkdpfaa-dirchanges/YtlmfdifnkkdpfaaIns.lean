/-
  slices.Insert of one entry.
-/
import Derived.Test.YtlmfdifnkkdpfaaFi
import Derived.Shelf.Spec.SlicesInsertGrow
namespace Go.Proofs.Ytlmfdifnkkdpfaa
open Go.RowKit Go.Shelf

/-- copy of entries: all is read before anything is written. -/
theorem run_copy_ents (w : World) (ty : TypeId) (b o dLen dCap : Nat) (a : Addr) (sLen sCap : Nat) (cs : List Value) (m : Nat) (hm : m = Nat.min sLen dLen) (hn : cs.length = m * 100)
    (hsrc : ∀ j v, cs[j]? = some v → w.cell? (a.add j) = some v) (hc : ∀ j, j < cs.length → (w.cell? ⟨b, o + j, none⟩).isSome = true) (hf : ∀ j, j < cs.length → w.frozen? ⟨b, o + j, none⟩ = false) (h1 : ∀ v ∈ cs, v.oneCell' = true) :
    (Builtin.copy_ #[22, 22] ty #[.slice (some ⟨b, o, none⟩) dLen dCap, .slice (some a) sLen sCap]).run Try.prog w = .ok (goInt m) (w.setCells b o cs) := by
  have hl := run_loadCells_list (P := Try.prog) w a cs hsrc
  have hst := run_storeCells_cells (P := Try.prog) b o cs 0 w (by simpa using hc) (by simpa using hf) h1
  obtain ⟨i0, hq, hz0, hz1, hz2⟩ := info_parts info43
  have hmm : Nat.min sLen dLen * 100 = cs.length := by rw [hn, hm]
  simp [Builtin.copy_, run_underlying Try.underlying22, Builtin.lenOf, Builtin.firstCells, sizeOf, typeInfo, hq, hz1, hmm, hl, hst, hm]

theorem ins_row1 (cur P X D : List Value) (hP : cur.take P.length = P) (hl : P.length + X.length + D.length ≤ cur.length) :
    (putAt (putAt cur (P.length + X.length) D) P.length X).take (P.length + X.length + D.length) = P ++ (X ++ D) ∧ (putAt (putAt cur (P.length + X.length) D) P.length X).length = cur.length := by
  have e1 : putAt cur (P.length + X.length) D = cur.take (P.length + X.length) ++ D ++ cur.drop (P.length + X.length + D.length) := putAt_eq D cur _ (by omega)
  have hl1 : (putAt cur (P.length + X.length) D).length = cur.length := by rw [e1]; simp; omega
  rw [putAt_eq X _ _ (by rw [hl1]; omega)]
  have t1 : (putAt cur (P.length + X.length) D).take P.length = P := by
    rw [e1, List.append_assoc, List.take_append_of_le_length (by simp; omega), List.take_take, Nat.min_eq_left (by omega), hP]
  have t2 : (putAt cur (P.length + X.length) D).drop (P.length + X.length) = D ++ cur.drop (P.length + X.length + D.length) := by
    rw [e1, List.append_assoc, List.drop_left' (by simp; omega)]
  rw [t1, t2]
  refine ⟨?_, by simp; omega⟩
  rw [show P ++ X ++ (D ++ cur.drop (P.length + X.length + D.length)) = P ++ (X ++ D) ++ cur.drop (P.length + X.length + D.length) by simp]
  exact List.take_left' (by simp; omega)
theorem ins_row2 (cur P X D : List Value) (hP : cur.take P.length = P) (hl : P.length + X.length + D.length ≤ cur.length) :
    (putAt (putAt cur P.length X) (P.length + X.length) D).take (P.length + X.length + D.length) = P ++ (X ++ D) ∧ (putAt (putAt cur P.length X) (P.length + X.length) D).length = cur.length := by
  have e1 : putAt cur P.length X = P ++ X ++ cur.drop (P.length + X.length) := by rw [putAt_eq X cur _ (by omega), hP]
  have hl1 : (putAt cur P.length X).length = cur.length := by rw [e1]; simp; omega
  rw [putAt_eq D _ _ (by rw [hl1]; omega)]
  have t1 : (putAt cur P.length X).take (P.length + X.length) = P ++ X := by rw [e1]; exact List.take_left' (by simp)
  rw [t1]
  refine ⟨?_, by rw [List.length_append, List.length_append, List.length_drop, hl1]; simp; omega⟩
  rw [← List.append_assoc P X D]
  exact List.take_left' (by simp; omega)
theorem flatE_length {es : List Ent} (h : ∀ e ∈ es, e.ok) : (es.flatMap entC).length = es.length * 100 := by
  induction es with
  | nil => rfl
  | cons a r ih =>
    rw [List.flatMap_cons, List.length_append, entC_length (h a List.mem_cons_self), ih (fun e he => h e (List.mem_cons_of_mem _ he)), List.length_cons]
    omega
theorem flatE_one (es : List Ent) : ∀ v ∈ es.flatMap entC, v.oneCell' = true := fun v hv => by
  obtain ⟨e, _, h⟩ := List.mem_flatMap.1 hv
  exact entC_one e v h
/-- Entry x put in at place i. -/
def insE (F : List Ent) (i : Nat) (x : Ent) : List Ent := F.take i ++ x :: F.drop i
end Go.Proofs.Ytlmfdifnkkdpfaa
