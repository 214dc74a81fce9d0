/-
  The order on lists, by places: what is placed, what is open, what waits.
-/
import Derived.Test.YtfclbdlkpnoceaaRCut
namespace Go.Proofs.Ytfclbdlkpnoceaa

/-- The places that are not placed yet; the objects at places; the answer from here on. -/
def leftP (n : Nat) (P : List Nat) : List Nat := (List.range n).filter (fun i => ! P.contains i)
def objP (l : List O) (P : List Nat) : List O := P.map (fun i => l.getD i noO)
def orderP (l : List O) (P : List Nat) : Option (List O) := orderF l (leftP l.length P).length (objP l (leftP l.length P)) (objP l P)

theorem orderF_some {l L out : List O} {f k : Nat} (h : L.findIdx? (freeO l out) = some k) : orderF l (f + 1) L out = orderF l f (L.eraseIdx k) (out ++ [L.getD k noO]) := by
  cases L with
  | nil => simp at h
  | cons o r => rw [orderF, h]
theorem orderF_none {l L out : List O} {f : Nat} (hL : L ≠ []) (h : L.findIdx? (freeO l out) = none) : orderF l f L out = none := by
  cases L with
  | nil => exact absurd rfl hL
  | cons o r => cases f with
    | zero => rfl
    | succ f => rw [orderF, h]
theorem orderF_nil {l out : List O} {f : Nat} : orderF l f [] out = some out := by unfold orderF; rfl
theorem range_split {n i : Nat} (h : i < n) : List.range n = List.range i ++ i :: List.range' (i + 1) (n - (i + 1)) := by
  rw [List.range_eq_range', List.range_eq_range', show n = i + ((n - (i + 1)) + 1) by omega, ← List.range'_append_1, List.range'_succ, Nat.zero_add, show i + ((n - (i + 1)) + 1) - (i + 1) = n - (i + 1) by omega]
theorem notin_snoc {P : List Nat} {i j : Nat} (h : j ≠ i) : (! (P ++ [i]).contains j) = (! P.contains j) := by
  simp [h]
theorem leftP_split {n i : Nat} {P : List Nat} (hi : i < n) (hP : i ∉ P) : ∃ A B, leftP n P = A ++ i :: B ∧ leftP n (P ++ [i]) = A ++ B ∧ ∀ j ∈ A, j < i ∧ j ∉ P := by
  refine ⟨(List.range i).filter (fun j => ! P.contains j), (List.range' (i + 1) (n - (i + 1))).filter (fun j => ! P.contains j), ?_, ?_, fun j hj => by simpa using hj⟩
  · unfold leftP
    rw [range_split hi, List.filter_append, List.filter_cons, if_pos (by simpa using hP)]
  · unfold leftP
    rw [range_split hi, List.filter_append, List.filter_cons, if_neg (by simp)]
    congr 1
    · exact List.filter_congr (fun j hj => notin_snoc (by have := List.mem_range.1 hj; omega))
    · exact List.filter_congr (fun j hj => notin_snoc (by have := List.mem_range'_1.1 hj; omega))
theorem findIdx_at (Q : O → Bool) (a b : List O) (x : O) (ha : ∀ y ∈ a, Q y = false) (hx : Q x = true) : (a ++ x :: b).findIdx? Q = some a.length := by
  rw [List.findIdx?_append, List.findIdx?_eq_none_iff.2 ha]
  simp [List.findIdx?_cons, hx]
/-- The lowest open place is placed: all lower ones are placed, or kept back. -/
theorem orderP_step {l : List O} {P : List Nat} {i : Nat} (hi : i < l.length) (hP : i ∉ P) (hlow : ∀ j, j < i → j ∉ P → freeO l (objP l P) (l.getD j noO) = false) (hf : freeO l (objP l P) (l.getD i noO) = true) : orderP l P = orderP l (P ++ [i]) := by
  obtain ⟨A, B, h1, h2, h3⟩ := leftP_split hi hP
  unfold orderP
  have hA : ∀ y ∈ objP l A, freeO l (objP l P) y = false := fun y hy => by
    obtain ⟨j, hj, rfl⟩ := List.mem_map.1 hy
    exact hlow j (h3 j hj).1 (h3 j hj).2
  have hs : objP l (A ++ i :: B) = objP l A ++ l.getD i noO :: objP l B := by simp [objP]
  have hs2 : objP l (A ++ B) = objP l A ++ objP l B := by simp [objP]
  have hs3 : objP l (P ++ [i]) = objP l P ++ [l.getD i noO] := by simp [objP]
  have he : (objP l A ++ l.getD i noO :: objP l B).eraseIdx (objP l A).length = objP l A ++ objP l B := by
    rw [List.eraseIdx_append_of_length_le (Nat.le_refl _), Nat.sub_self]; rfl
  have hg : (objP l A ++ l.getD i noO :: objP l B).getD (objP l A).length noO = l.getD i noO := by simp
  rw [h1, h2, hs, hs2, hs3, show (A ++ i :: B).length = (A ++ B).length + 1 by simp; omega, orderF_some (findIdx_at _ _ _ _ hA hf), he, hg]
/-- Nothing is open. -/
theorem orderP_end {l : List O} {P : List Nat} (hall : ∀ j, j < l.length → j ∉ P → freeO l (objP l P) (l.getD j noO) = false) : orderP l P = if leftP l.length P = [] then some (objP l P) else none := by
  unfold orderP
  by_cases h : leftP l.length P = []
  · rw [if_pos h, h]
    exact orderF_nil
  · rw [if_neg h]
    refine orderF_none (by simpa [objP] using h) (List.findIdx?_eq_none_iff.2 fun y hy => ?_)
    obtain ⟨j, hj, rfl⟩ := List.mem_map.1 hy
    have := List.mem_filter.1 hj
    exact hall j (List.mem_range.1 this.1) (by simpa using this.2)
theorem leftP_len (n : Nat) : ∀ (R : List Nat), R.Nodup → (∀ j ∈ R, j < n) → (leftP n R.reverse).length + R.length = n
  | [], _, _ => by simp [leftP]; rw [List.filter_eq_self.2 (by simp)]; simp
  | i :: R, hn, hP => by
    have ih := leftP_len n R (List.nodup_cons.1 hn).2 (fun j hj => hP j (by simp [hj]))
    obtain ⟨A, B, h1, h2, _⟩ := leftP_split (P := R.reverse) (hP i (by simp)) (by simpa using (List.nodup_cons.1 hn).1)
    rw [List.reverse_cons, h2, List.length_cons]
    rw [h1] at ih
    simp only [List.length_append, List.length_cons] at ih ⊢
    omega
theorem leftP_length {n : Nat} {P : List Nat} (hn : P.Nodup) (hP : ∀ j ∈ P, j < n) : (leftP n P).length + P.length = n := by
  have := leftP_len n P.reverse ((List.reverse_perm P).nodup_iff.2 hn) (fun j hj => hP j (by simpa using hj))
  simpa using this
theorem orderP_nil (l : List O) : orderP l [] = orderL l := by
  unfold orderP orderL
  have h : leftP l.length [] = List.range l.length := by unfold leftP; rw [List.filter_eq_self.2 (by simp)]
  have h2 : objP l (List.range l.length) = l := by
    unfold objP
    refine List.ext_getElem (by simp) (fun i h1 h2 => ?_)
    simp [List.getElem?_eq_getElem h2]
  rw [h, h2, List.length_range]
  rfl

/-- An order under way: placed, open, waiting for a link. -/
structure Ord (l : List O) (P op : List Nat) (wt : List (Nat × List Nat)) : Prop where
  nodup : (P ++ op ++ wt.map Prod.fst).Nodup
  low : ∀ j ∈ P ++ op ++ wt.map Prod.fst, j < l.length
  wait : ∀ e ∈ wt, e.2 ∈ (l.getD e.1 noO).links ∧ okL l (objP l P) e.2 = false
  all : ∀ j, j < l.length → j ∈ P ++ op ++ wt.map Prod.fst
  ans : orderP l P = orderL l
theorem Ord.start (l : List O) : Ord l [] (List.range l.length) [] := ⟨by simpa using List.nodup_range, by simp, by simp, by simp, orderP_nil l⟩
theorem Ord.perm {l : List O} {P op op' : List Nat} {wt : List (Nat × List Nat)} (h : Ord l P op wt) (hp : op.Perm op') : Ord l P op' wt :=
  have hq : (P ++ op ++ wt.map Prod.fst).Perm (P ++ op' ++ wt.map Prod.fst) := (hp.append_left P).append_right _
  ⟨hq.nodup_iff.1 h.nodup, fun j hj => h.low j (hq.mem_iff.2 hj), h.wait, fun j hj => hq.mem_iff.1 (h.all j hj), h.ans⟩
theorem Ord.kept {l : List O} {P op : List Nat} {wt : List (Nat × List Nat)} (h : Ord l P op wt) {e : Nat × List Nat} (he : e ∈ wt) : freeO l (objP l P) (l.getD e.1 noO) = false := by
  obtain ⟨hm, ho⟩ := h.wait e he
  unfold freeO
  rw [List.all_eq_false]
  exact ⟨e.2, hm, by simp [ho]⟩
theorem okL_snoc {l out : List O} {o : O} {y : List Nat} (h : okL l out y = false) (hy : o.id ≠ y) : okL l (out ++ [o]) y = false := by
  unfold okL hasO at *
  rw [List.any_append]
  simpa [hy] using h
/-- The lowest open place is kept back by a link. -/
theorem Ord.waits {l : List O} {P op : List Nat} {wt : List (Nat × List Nat)} {i : Nat} {y : List Nat} (h : Ord l P (i :: op) wt) (hy : y ∈ (l.getD i noO).links) (ho : okL l (objP l P) y = false) : Ord l P op (wt ++ [(i, y)]) := by
  have hq : (P ++ (i :: op) ++ wt.map Prod.fst).Perm (P ++ op ++ (wt ++ [(i, y)]).map Prod.fst) := by
    rw [List.map_append, List.append_assoc, List.append_assoc]
    refine List.Perm.append_left P ?_
    rw [List.cons_append, ← List.append_assoc]
    exact (List.perm_append_singleton i (op ++ wt.map Prod.fst)).symm
  refine ⟨hq.nodup_iff.1 h.nodup, fun j hj => h.low j (hq.mem_iff.2 hj), fun e he => ?_, fun j hj => hq.mem_iff.1 (h.all j hj), h.ans⟩
  rcases List.mem_append.1 he with he | he
  · exact h.wait e he
  · simp only [List.mem_singleton] at he; subst he; exact ⟨hy, ho⟩
/-- The lowest open place is placed. -/
theorem Ord.places {l : List O} {P op : List Nat} {wt : List (Nat × List Nat)} {i : Nat} (h : Ord l P (i :: op) wt) (hmin : ∀ j ∈ op, i ≤ j) (hf : freeO l (objP l P) (l.getD i noO) = true) :
    Ord l (P ++ [i]) (op ++ (wt.filter fun e => decide (e.2 = (l.getD i noO).id)).map Prod.fst) (wt.filter fun e => ! decide (e.2 = (l.getD i noO).id)) := by
  have hq : (P ++ (i :: op) ++ wt.map Prod.fst).Perm (P ++ [i] ++ (op ++ (wt.filter fun e => decide (e.2 = (l.getD i noO).id)).map Prod.fst) ++ (wt.filter fun e => ! decide (e.2 = (l.getD i noO).id)).map Prod.fst) := by
    have h1 : (wt.map Prod.fst).Perm ((wt.filter fun e => decide (e.2 = (l.getD i noO).id)).map Prod.fst ++ (wt.filter fun e => ! decide (e.2 = (l.getD i noO).id)).map Prod.fst) := by
      rw [← List.map_append]
      exact ((List.filter_append_perm (fun e : Nat × List Nat => decide (e.2 = (l.getD i noO).id)) wt).symm).map _
    have h2 := (h1.append_left (P ++ (i :: op)))
    simpa [List.append_assoc] using h2
  have hnd := h.nodup
  have hiP : i ∉ P := fun hi => by
    rw [List.append_assoc] at hnd
    exact (List.nodup_append.1 hnd).2.2 i hi i (by simp) rfl
  have hil : i < l.length := h.low i (by simp)
  have hobj : objP l (P ++ [i]) = objP l P ++ [l.getD i noO] := by simp [objP]
  refine ⟨hq.nodup_iff.1 hnd, fun j hj => h.low j (hq.mem_iff.2 hj), fun e he => ?_, fun j hj => hq.mem_iff.1 (h.all j hj), ?_⟩
  · obtain ⟨he1, he2⟩ := List.mem_filter.1 he
    obtain ⟨hm, ho⟩ := h.wait e he1
    rw [hobj]
    exact ⟨hm, okL_snoc ho (fun hh => by rw [decide_eq_true hh.symm] at he2; cases he2)⟩
  · rw [← h.ans]
    refine (orderP_step hil hiP (fun j hj hjP => ?_) hf).symm
    have hja := h.all j (by omega)
    rcases List.mem_append.1 hja with hja | hja
    · rcases List.mem_append.1 hja with hja | hja
      · exact absurd hja hjP
      · rcases List.mem_cons.1 hja with hja | hja
        · omega
        · have := hmin j hja; omega
    · obtain ⟨e, he, rfl⟩ := List.mem_map.1 hja
      exact h.kept he
/-- Nothing is open any more. -/
theorem Ord.ends {l : List O} {P : List Nat} {wt : List (Nat × List Nat)} (h : Ord l P [] wt) : orderL l = if P.length < l.length then none else some (objP l P) := by
  have hn : P.Nodup := by have := h.nodup; rw [List.append_assoc] at this; exact (List.nodup_append.1 this).1
  have hlen := leftP_length hn (fun j hj => h.low j (by simp [hj]))
  rw [← h.ans, orderP_end (fun j hj hjP => by
    have hja := h.all j hj
    rw [List.append_nil] at hja
    rcases List.mem_append.1 hja with hja | hja
    · exact absurd hja hjP
    · obtain ⟨e, he, rfl⟩ := List.mem_map.1 hja
      exact h.kept he)]
  by_cases hP : P.length < l.length
  · rw [if_pos hP, if_neg (by intro e; rw [e] at hlen; simp at hlen; omega)]
  · rw [if_neg hP, if_pos (List.eq_nil_of_length_eq_zero (by omega))]
end Go.Proofs.Ytfclbdlkpnoceaa
