/-
  What is reached, level by level, on lists.
-/
import Derived.Test.YtfclbdlkpnoceaaObj
namespace Go.Proofs.Ytfclbdlkpnoceaa

def hasO (l : List O) (x : List Nat) : Bool := l.any fun o => decide (o.id = x)
def firstO (l : List O) (x : List Nat) : Option O := l.find? fun o => decide (o.id = x)
def linksO (l : List O) (x : List Nat) : List (List Nat) := ((firstO l x).map O.links).getD []
theorem hasO_iff {l : List O} {x : List Nat} : hasO l x = true ↔ ∃ o ∈ l, o.id = x := by simp [hasO]
theorem firstO_some {l : List O} {x : List Nat} (h : hasO l x = true) : ∃ o, firstO l x = some o ∧ o ∈ l ∧ o.id = x := by
  obtain ⟨o, ho, hx⟩ := hasO_iff.1 h
  cases hf : firstO l x with
  | none => exact absurd hx (by simpa using List.find?_eq_none.1 hf o ho)
  | some o' => exact ⟨o', rfl, List.mem_of_find?_eq_some hf, by simpa using List.find?_some hf⟩
theorem firstO_none {l : List O} {x : List Nat} (h : hasO l x = false) : firstO l x = none := by
  refine List.find?_eq_none.2 fun o ho => ?_
  have : ¬ hasO l x = true := by simp [h]
  rw [hasO_iff] at this
  simpa using fun e => this ⟨o, ho, e⟩
theorem linksO_none {l : List O} {x : List Nat} (h : hasO l x = false) : linksO l x = [] := by simp [linksO, firstO_none h]
def meetS (l : List O) (met lv : List (List Nat)) (x : List Nat) : List (List Nat) := if hasO l x = true ∧ x ∉ met ++ lv then lv ++ [x] else lv
def meetL (l : List O) (met xs : List (List Nat)) : List (List Nat) := xs.foldl (meetS l met) []
theorem meetL_snoc (l : List O) (met xs : List (List Nat)) (x : List Nat) : meetL l met (xs ++ [x]) = meetS l met (meetL l met xs) x := by simp [meetL]
theorem meetL_nil (l : List O) (met : List (List Nat)) : meetL l met [] = [] := rfl
theorem fold_mem (l : List O) (met : List (List Nat)) (y : List Nat) : ∀ (xs lv : List (List Nat)), y ∈ xs.foldl (meetS l met) lv ↔ y ∈ lv ∨ (y ∈ xs ∧ hasO l y = true ∧ y ∉ met) := by
  intro xs
  induction xs with
  | nil => simp
  | cons a r ih =>
    intro lv
    rw [List.foldl_cons, ih, meetS]
    split
    next h =>
      simp only [List.mem_append, List.mem_cons, List.not_mem_nil, or_false, not_or] at h ⊢
      constructor
      · rintro ((h1 | rfl) | h1)
        · exact .inl h1
        · exact .inr ⟨.inl rfl, h.1, h.2.1⟩
        · exact .inr ⟨.inr h1.1, h1.2⟩
      · rintro (h1 | ⟨rfl | h1, h2⟩)
        · exact .inl (.inl h1)
        · exact .inl (.inr rfl)
        · exact .inr ⟨h1, h2⟩
    next h =>
      simp only [List.mem_append, List.mem_cons] at h ⊢
      constructor
      · rintro (h1 | h1)
        · exact .inl h1
        · exact .inr ⟨.inr h1.1, h1.2⟩
      · rintro (h1 | ⟨rfl | h1, h2⟩)
        · exact .inl h1
        · by_cases hm : y ∈ lv
          · exact .inl hm
          · exact absurd ⟨h2.1, fun e => e.elim h2.2 hm⟩ h
        · exact .inr ⟨h1, h2⟩
theorem meetL_mem {l : List O} {met xs : List (List Nat)} {y : List Nat} : y ∈ meetL l met xs ↔ y ∈ xs ∧ hasO l y = true ∧ y ∉ met := by rw [meetL, fold_mem]; simp
theorem fold_nodup (l : List O) (met : List (List Nat)) : ∀ (xs lv : List (List Nat)), lv.Nodup → (xs.foldl (meetS l met) lv).Nodup := by
  intro xs
  induction xs with
  | nil => exact fun _ h => h
  | cons a r ih =>
    intro lv h
    rw [List.foldl_cons]
    refine ih _ ?_
    unfold meetS
    split
    next hc => 
      rw [List.nodup_append]
      refine ⟨h, by simp, fun x hx y hy => ?_⟩
      rintro rfl
      simp at hy
      subst hy
      exact hc.2 (List.mem_append_right _ hx)
    next => exact h
theorem meetL_nodup (l : List O) (met xs : List (List Nat)) : (meetL l met xs).Nodup := fold_nodup l met xs [] List.nodup_nil
def linkedL (l : List O) (lv : List (List Nat)) : List (List Nat) := lv.flatMap (linksO l)
/-- The levels. -/
def levF (l : List O) : Nat → List (List Nat) → List (List Nat) → List (List (List Nat))
  | 0, _, _ => []
  | f + 1, met, next => if meetL l met next = [] then [] else meetL l met next :: levF l f (met ++ meetL l met next) (linkedL l (meetL l met next))
def levels (l : List O) (roots : List (List Nat)) : List (List (List Nat)) := levF l (l.length + 1) [] roots
def reachL (l : List O) (roots : List (List Nat)) : List (List Nat) := (levels l roots).flatten
theorem nodup_le {α : Type} : ∀ (xs ys : List α), xs.Nodup → (∀ x ∈ xs, x ∈ ys) → xs.length ≤ ys.length
  | [], _, _, _ => Nat.zero_le _
  | x :: r, ys, hn, hs => by
    classical
    have hx := hs x (by simp)
    rw [List.nodup_cons] at hn
    have := nodup_le r (ys.erase x) hn.2 (fun y hy => (List.mem_erase_of_ne (fun e => hn.1 (by subst e; exact hy))).2 (hs y (by simp [hy])))
    rw [List.length_erase_of_mem hx] at this
    have hp : 0 < ys.length := List.length_pos_of_mem hx
    simp only [List.length_cons]
    omega
/-- A walk under way. -/
structure Wk (l : List O) (roots : List (List Nat)) (lvs : List (List (List Nat))) (next : List (List Nat)) (f : Nat) : Prop where
  all : levels l roots = lvs ++ levF l f lvs.flatten next
  room : l.length + 1 ≤ f + lvs.flatten.length
  nodup : lvs.flatten.Nodup
  has : ∀ x ∈ lvs.flatten, hasO l x = true
theorem Wk.start (l : List O) (roots : List (List Nat)) : Wk l roots [] roots (l.length + 1) := ⟨rfl, by simp, List.nodup_nil, by simp⟩
theorem Wk.few {l : List O} {roots : List (List Nat)} {lvs : List (List (List Nat))} {next : List (List Nat)} {f : Nat} (h : Wk l roots lvs next f) : lvs.flatten.length ≤ l.length := by
  have := nodup_le lvs.flatten (l.map (·.id)) h.nodup (fun x hx => by
    obtain ⟨o, ho, e⟩ := hasO_iff.1 (h.has x hx)
    exact List.mem_map.2 ⟨o, ho, e⟩)
  simpa using this
theorem Wk.pos {l : List O} {roots : List (List Nat)} {lvs : List (List (List Nat))} {next : List (List Nat)} {f : Nat} (h : Wk l roots lvs next f) : ∃ g, f = g + 1 := ⟨f - 1, by have := h.few; have := h.room; omega⟩
theorem Wk.stop {l : List O} {roots : List (List Nat)} {lvs : List (List (List Nat))} {next : List (List Nat)} {f : Nat} (h : Wk l roots lvs next f) (hm : meetL l lvs.flatten next = []) : levels l roots = lvs := by
  obtain ⟨g, rfl⟩ := h.pos
  have := h.all
  rw [levF, if_pos hm] at this
  simpa using this
theorem Wk.step {l : List O} {roots : List (List Nat)} {lvs : List (List (List Nat))} {next : List (List Nat)} {f : Nat} (h : Wk l roots lvs next f) (hm : meetL l lvs.flatten next ≠ []) :
    Wk l roots (lvs ++ [meetL l lvs.flatten next]) (linkedL l (meetL l lvs.flatten next)) (f - 1) := by
  obtain ⟨g, rfl⟩ := h.pos
  have ha := h.all
  rw [levF, if_neg hm] at ha
  have hp : 0 < (meetL l lvs.flatten next).length := List.length_pos_iff.2 hm
  have hr := h.room
  refine ⟨?_, ?_, ?_, ?_⟩
  · rw [ha]; simp
  · simp only [List.flatten_append, List.flatten_cons, List.flatten_nil, List.append_nil, List.length_append]; omega
  · simp only [List.flatten_append, List.flatten_cons, List.flatten_nil, List.append_nil]
    rw [List.nodup_append]
    refine ⟨h.nodup, meetL_nodup _ _ _, fun x hx y hy => ?_⟩
    rintro rfl
    exact (meetL_mem.1 hy).2.2 hx
  · simp only [List.flatten_append, List.flatten_cons, List.flatten_nil, List.append_nil]
    intro x hx
    rcases List.mem_append.1 hx with h1 | h1
    · exact h.has x h1
    · exact (meetL_mem.1 h1).2.1
/-- Told, with how far. -/
def tellF : Nat → List (List (List Nat)) → List (Nat × List Nat)
  | _, [] => []
  | d, lv :: r => lv.map (fun x => (d, x)) ++ tellF (d + 1) r
theorem tellF_snoc : ∀ (lvs : List (List (List Nat))) (d : Nat) (lv : List (List Nat)), tellF d (lvs ++ [lv]) = tellF d lvs ++ lv.map (fun x => (d + lvs.length, x))
  | [], d, lv => by simp [tellF]
  | a :: r, d, lv => by
    rw [List.cons_append, tellF, tellF, tellF_snoc r (d + 1) lv, List.append_assoc]
    simp [Nat.add_comm, Nat.add_left_comm]
def tellL (lvs : List (List (List Nat))) : List (Nat × List Nat) := tellF 0 lvs
theorem tellL_snoc (lvs : List (List (List Nat))) (lv : List (List Nat)) : tellL (lvs ++ [lv]) = tellL lvs ++ lv.map (fun x => (lvs.length, x)) := by simp [tellL, tellF_snoc]
theorem tellF_ids : ∀ (lvs : List (List (List Nat))) (d : Nat), (tellF d lvs).map (·.2) = lvs.flatten
  | [], _ => rfl
  | a :: r, d => by simp [tellF, tellF_ids r (d + 1), Function.comp_def]
theorem tellL_ids (lvs : List (List (List Nat))) : (tellL lvs).map (·.2) = lvs.flatten := tellF_ids lvs 0
def farL (lvs : List (List (List Nat))) : List Nat := (tellL lvs).map (·.1)
theorem farL_length (lvs : List (List (List Nat))) : (farL lvs).length = lvs.flatten.length := by
  rw [farL, List.length_map, ← tellL_ids, List.length_map]
theorem levF_closed (l : List O) : ∀ (f : Nat) (met next : List (List Nat)), met.Nodup → (∀ x ∈ met, hasO l x = true) → l.length + 1 ≤ f + met.length →
    (∀ y ∈ next, hasO l y = true → y ∈ met ++ (levF l f met next).flatten) ∧ (∀ x ∈ (levF l f met next).flatten, hasO l x = true ∧ ∀ y ∈ linksO l x, hasO l y = true → y ∈ met ++ (levF l f met next).flatten) := by
  intro f
  induction f with
  | zero =>
    intro met next hn hh hr
    have := nodup_le met (l.map (·.id)) hn (fun x hx => by obtain ⟨o, ho, e⟩ := hasO_iff.1 (hh x hx); exact List.mem_map.2 ⟨o, ho, e⟩)
    simp at this
    omega
  | succ f ih =>
    intro met next hn hh hr
    by_cases hm : meetL l met next = []
    · rw [levF, if_pos hm]
      refine ⟨fun y hy hy2 => ?_, by simp⟩
      rcases Classical.em (y ∈ met) with h | h
      · simp [h]
      · have : y ∈ meetL l met next := meetL_mem.2 ⟨hy, hy2, h⟩
        rw [hm] at this
        simp at this
    · rw [levF, if_neg hm]
      have hp : 0 < (meetL l met next).length := List.length_pos_iff.2 hm
      obtain ⟨h1, h2⟩ := ih (met ++ meetL l met next) (linkedL l (meetL l met next)) (by
        rw [List.nodup_append]
        refine ⟨hn, meetL_nodup _ _ _, fun x hx y hy => ?_⟩
        rintro rfl
        exact (meetL_mem.1 hy).2.2 hx) (fun x hx => by
        rcases List.mem_append.1 hx with h | h
        · exact hh x h
        · exact (meetL_mem.1 h).2.1) (by rw [List.length_append]; omega)
      rw [List.flatten_cons, ← List.append_assoc]
      refine ⟨fun y hy hy2 => ?_, fun x hx => ?_⟩
      · rcases Classical.em (y ∈ met) with h | h
        · simp [h]
        · simp [meetL_mem.2 ⟨hy, hy2, h⟩]
      · rcases List.mem_append.1 hx with h | h
        · exact ⟨(meetL_mem.1 h).2.1, fun y hy hy2 => h1 y (List.mem_flatMap.2 ⟨x, h, hy⟩) hy2⟩
        · exact h2 x h
theorem reach_roots {l : List O} {roots : List (List Nat)} {y : List Nat} (hy : y ∈ roots) (h : hasO l y = true) : y ∈ reachL l roots := by
  have := (levF_closed l (l.length + 1) [] roots List.nodup_nil (by simp) (by simp)).1 y hy h
  rw [List.nil_append] at this
  exact this
theorem reach_has {l : List O} {roots : List (List Nat)} {x : List Nat} (hx : x ∈ reachL l roots) : hasO l x = true := ((levF_closed l (l.length + 1) [] roots List.nodup_nil (by simp) (by simp)).2 x hx).1
theorem reach_links {l : List O} {roots : List (List Nat)} {x y : List Nat} (hx : x ∈ reachL l roots) (hy : y ∈ linksO l x) (h : hasO l y = true) : y ∈ reachL l roots := by
  have := ((levF_closed l (l.length + 1) [] roots List.nodup_nil (by simp) (by simp)).2 x hx).2 y hy h
  rw [List.nil_append] at this
  exact this
/-- What is kept, what goes. -/
def keptL (l : List O) (roots : List (List Nat)) : List O := l.filter fun o => decide (o.id ∈ reachL l roots)
def goneL (l : List O) (roots : List (List Nat)) : List (List Nat) := (l.filter fun o => ! decide (o.id ∈ reachL l roots)).map (·.id)
end Go.Proofs.Ytfclbdlkpnoceaa
