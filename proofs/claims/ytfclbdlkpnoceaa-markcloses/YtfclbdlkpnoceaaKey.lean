/-
  Ids as keys of maps.
-/
import Derived.Test.YtfclbdlkpnoceaaMaps
import Derived.Test.YtfclbdlkpnoceaaMk
import Derived.DeepKeys4
namespace Go.Proofs.Ytfclbdlkpnoceaa
open Go Go.RowKit Go.Maps

theorem row33 : (33 : TypeId) < Try.prog.types.size := of_decide_eq_true (by kernel_rfl)
theorem laid : laidOutB Try.prog = true := by kernel_rfl
theorem keyed33 : Keyed Try.prog 33 := Keyed.of_law (deep_law_laid laid (m := 2) (by omega) row33 (by kernel_rfl) (by rw [Try.underlying33]))
theorem mapM_some {α β : Type} (f : α → Option β) : ∀ (is : List α), (∀ i ∈ is, ∃ b, f i = some b) → ∃ bs, is.mapM f = some bs
  | [], _ => ⟨[], rfl⟩
  | i :: r, h => by
    obtain ⟨b, hb⟩ := h i (by simp)
    obtain ⟨bs, hbs⟩ := mapM_some f r (fun j hj => h j (by simp [hj]))
    exact ⟨b :: bs, by simp [List.mapM_cons, hb, hbs]⟩
theorem cells33 : Try.prog.cellsOf 33 = 32 := by kernel_rfl
theorem cells5 : Try.prog.cellsOf 5 = 1 := by kernel_rfl
theorem keyType33 : Try.prog.keyType 33 = true := by kernel_rfl
def idV (x : List Nat) : Value := .agg (u8s x).toArray
theorem key_id {x : List Nat} (h : IsId x) : ∃ l, keyOf Try.prog 33 (idV x) = some l := by
  have hf : (idV x).formed Try.prog 33 = true := by simp [idV, Value.formed, Try.underlying33, cells33, u8s_length, h.1]
  have hl : ∃ ls, Try.prog.keyLits (Try.prog.types.size + 1) 33 (u8s x) = some ls := by
    unfold Program.keyLits
    rw [Try.underlying33]
    simp only [cells33, u8s_length, h.1, if_true, cells5]
    obtain ⟨bs, hbs⟩ := mapM_some (fun i => Try.prog.keyLits Try.prog.types.size 5 (((u8s x).drop (i * 1)).take 1)) (List.range 32) (fun i hi => by
      have hi' : i < x.length := by rw [h.1]; simpa using hi
      have e : ((u8s x).drop (i * 1)).take 1 = [.int .u8 (x[i] : Nat)] := by
        rw [Nat.mul_one, List.drop_eq_getElem_cons (by rw [u8s_length]; exact hi')]
        simp [u8s]
      have hz := h.2 x[i] (List.getElem_mem hi')
      refine ⟨[.int .u8 (x[i] : Nat)], ?_⟩
      rw [e]
      obtain ⟨d, hd⟩ : ∃ d, Try.prog.types.size = d + 1 := ⟨Try.prog.types.size - 1, by have h33 : (33 : Nat) < Try.prog.types.size := row33; omega⟩
      rw [hd]
      unfold Program.keyLits
      rw [Try.underlying5]
      have hw : (Lit.int .u8 ((x[i] : Nat) : Int)).wf = true := by simp only [Lit.wf, Bool.and_eq_true, decide_eq_true_eq, show IntKind.u8.min = 0 from by decide, show IntKind.u8.max = 255 from by decide]; omega
      simp [hw])
    exact ⟨_, by rw [hbs]; rfl⟩
  obtain ⟨ls, hls⟩ := hl
  refine ⟨.string (keyBytes ls), ?_⟩
  unfold keyOf
  rw [Try.underlying33]
  simp only [keyType33, hf, Bool.and_self, if_true]
  rw [show (idV x).cells.toList = u8s x by simp [idV, Value.cells], hls]
  rfl
theorem idV_inj {x y : List Nat} (h : idV x = idV y) : x = y := by
  have : u8s x = u8s y := by simpa [idV] using h
  have h2 : ∀ (a b : List Nat), u8s a = u8s b → a = b := fun a => by
    induction a with
    | nil => intro b hb; cases b with | nil => rfl | cons => simp [u8s] at hb
    | cons c r ih =>
      intro b hb
      cases b with
      | nil => simp [u8s] at hb
      | cons d s =>
        simp only [u8s, List.map_cons, List.cons.injEq, Value.int.injEq, true_and] at hb
        rw [ih s (by simpa [u8s] using hb.2), show c = d by have := hb.1; omega]
  exact h2 _ _ this
section
open Classical
/-- The map of links: what is found for a key. -/
noncomputable def linkF (l : List O) : Value → Option Value := fun v => (l.find? fun o => decide (v = idV o.id)).map fun o => .slice o.q o.n o.c
theorem linkF_nil : linkF [] = fun _ => none := rfl
theorem linkF_cons (o : O) (l : List O) : fnPut (linkF l) (idV o.id) (.slice o.q o.n o.c) = linkF (o :: l) := by
  funext v
  by_cases h : v = idV o.id
  · subst h; rw [fnPut_same, linkF, List.find?_cons_of_pos (by simp)]; rfl
  · rw [fnPut_other h, linkF, linkF, List.find?_cons_of_neg (by simpa using h)]
theorem find_id (l : List O) (x : List Nat) : (l.find? fun o => decide (idV x = idV o.id)) = firstO l x := by
  unfold firstO
  congr 1
  funext o
  by_cases h : o.id = x
  · simp [h]
  · simp [h, show idV x ≠ idV o.id from fun e => h (idV_inj e).symm]
theorem linkF_has {l : List O} {x : List Nat} (h : hasO l x = true) : ∃ o ∈ l, firstO l x = some o ∧ linkF l (idV x) = some (.slice o.q o.n o.c) ∧ linksO l x = o.links := by
  obtain ⟨o, h1, h2, h3⟩ := firstO_some h
  exact ⟨o, h2, h1, by rw [linkF, find_id, h1]; rfl, by rw [linksO, h1]; rfl⟩
theorem linkF_none {l : List O} {x : List Nat} (h : hasO l x = false) : linkF l (idV x) = none := by rw [linkF, find_id, firstO_none h]; rfl
theorem linkF_isSome (l : List O) (x : List Nat) : (linkF l (idV x)).isSome = hasO l x := by
  cases h : hasO l x with
  | false => rw [linkF_none h]; rfl
  | true => obtain ⟨o, _, _, e, _⟩ := linkF_has h; rw [e]; rfl
/-- The map of what is met. -/
noncomputable def metF (met : List (List Nat)) : Value → Option Value := fun v => if ∃ x ∈ met, v = idV x then some (.agg #[]) else none
theorem metF_nil : metF [] = fun _ => none := by funext v; simp [metF]
theorem metF_snoc (met : List (List Nat)) (x : List Nat) : fnPut (metF met) (idV x) (.agg #[]) = metF (met ++ [x]) := by
  funext v
  by_cases h : v = idV x
  · subst h; rw [fnPut_same, metF, if_pos ⟨x, by simp, rfl⟩]
  · rw [fnPut_other h, metF, metF]
    have : (∃ y ∈ met, v = idV y) ↔ ∃ y ∈ met ++ [x], v = idV y := ⟨fun ⟨y, hy, e⟩ => ⟨y, by simp [hy], e⟩, fun ⟨y, hy, e⟩ => by
      rcases List.mem_append.1 hy with hy | hy
      · exact ⟨y, hy, e⟩
      · simp at hy; subst hy; exact absurd e h⟩
    simp only [this]
theorem metF_isSome (met : List (List Nat)) (x : List Nat) : (metF met (idV x)).isSome = decide (x ∈ met) := by
  by_cases h : x ∈ met
  · simp [metF, show ∃ y ∈ met, idV x = idV y from ⟨x, h, rfl⟩, h]
  · have : ¬ ∃ y ∈ met, idV x = idV y := fun ⟨y, hy, e⟩ => h (idV_inj e ▸ hy)
    simp [metF, this, h]
end
end Go.Proofs.Ytfclbdlkpnoceaa
