/-
  Ids as keys of maps.
-/
import Derived.Test.YtfclbdlkpnoceaaMaps
import Derived.Test.YtfclbdlkpnoceaaMk
import Derived.DeepKeys4
namespace Go.Proofs.Ytfclbdlkpnoceaa
open Go Go.RowKit Go.Maps

theorem row33 : (33 : TypeId) < Try.prog.types.size := of_decide_eq_true (by kernel_rfl)
theorem laid : laidOutB Try.prog = true := by kernel_rfl
theorem keyed33 : Keyed Try.prog 33 := Keyed.of_law (deep_law_laid laid (m := 2) (by omega) row33 (by kernel_rfl) (by rw [Try.underlying33]))
theorem mapM_some {α β : Type} (f : α → Option β) : ∀ (is : List α), (∀ i ∈ is, ∃ b, f i = some b) → ∃ bs, is.mapM f = some bs
  | [], _ => ⟨[], rfl⟩
  | i :: r, h => by
    obtain ⟨b, hb⟩ := h i (by simp)
    obtain ⟨bs, hbs⟩ := mapM_some f r (fun j hj => h j (by simp [hj]))
    exact ⟨b :: bs, by simp [List.mapM_cons, hb, hbs]⟩
theorem cells33 : Try.prog.cellsOf 33 = 32 := by kernel_rfl
theorem cells5 : Try.prog.cellsOf 5 = 1 := by kernel_rfl
theorem keyType33 : Try.prog.keyType 33 = true := by kernel_rfl
def idV (x : List Nat) : Value := .agg (u8s x).toArray
theorem key_id {x : List Nat} (h : IsId x) : ∃ l, keyOf Try.prog 33 (idV x) = some l := by
  have hf : (idV x).formed Try.prog 33 = true := by simp [idV, Value.formed, Try.underlying33, cells33, u8s_length, h.1]
  have hl : ∃ ls, Try.prog.keyLits (Try.prog.types.size + 1) 33 (u8s x) = some ls := by
    unfold Program.keyLits
    rw [Try.underlying33]
    simp only [cells33, u8s_length, h.1, if_true, cells5]
    obtain ⟨bs, hbs⟩ := mapM_some (fun i => Try.prog.keyLits Try.prog.types.size 5 (((u8s x).drop (i * 1)).take 1)) (List.range 32) (fun i hi => by
      have hi' : i < x.length := by rw [h.1]; simpa using hi
      have e : ((u8s x).drop (i * 1)).take 1 = [.int .u8 (x[i] : Nat)] := by
        rw [Nat.mul_one, List.drop_eq_getElem_cons (by rw [u8s_length]; exact hi')]
        simp [u8s]
      have hz := h.2 x[i] (List.getElem_mem hi')
      refine ⟨[.int .u8 (x[i] : Nat)], ?_⟩
      rw [e]
      obtain ⟨d, hd⟩ : ∃ d, Try.prog.types.size = d + 1 := ⟨Try.prog.types.size - 1, by have h33 : (33 : Nat) < Try.prog.types.size := row33; omega⟩
      rw [hd]
      unfold Program.keyLits
      rw [Try.underlying5]
      have hw : (Lit.int .u8 ((x[i] : Nat) : Int)).wf = true := by simp only [Lit.wf, Bool.and_eq_true, decide_eq_true_eq, show IntKind.u8.min = 0 from by decide, show IntKind.u8.max = 255 from by decide]; omega
      simp [hw])
    exact ⟨_, by rw [hbs]; rfl⟩
  obtain ⟨ls, hls⟩ := hl
  refine ⟨.string (keyBytes ls), ?_⟩
  unfold keyOf
  rw [Try.underlying33]
  simp only [keyType33, hf, Bool.and_self, if_true]
  rw [show (idV x).cells.toList = u8s x by simp [idV, Value.cells], hls]
  rfl
theorem idV_inj {x y : List Nat} (h : idV x = idV y) : x = y := by
  have : u8s x = u8s y := by simpa [idV] using h
  have h2 : ∀ (a b : List Nat), u8s a = u8s b → a = b := fun a => by
    induction a with
    | nil => intro b hb; cases b with | nil => rfl | cons => simp [u8s] at hb
    | cons c r ih =>
      intro b hb
      cases b with
      | nil => simp [u8s] at hb
      | cons d s =>
        simp only [u8s, List.map_cons, List.cons.injEq, Value.int.injEq, true_and] at hb
        rw [ih s (by simpa [u8s] using hb.2), show c = d by have := hb.1; omega]
  exact h2 _ _ this
/-- The id that a value is. -/
def byteOf : Value → Option Nat
  | .int .u8 z => if 0 ≤ z then some z.toNat else none
  | _ => none
def idOf : Value → Option (List Nat)
  | .agg a => a.toList.mapM byteOf
  | _ => none
theorem bytes_of : ∀ (x : List Nat), (u8s x).mapM byteOf = some x
  | [] => rfl
  | z :: r => by
    have ih := bytes_of r
    unfold u8s at ih ⊢
    simp [List.mapM_cons, ih, byteOf]
theorem of_bytes : ∀ (L : List Value) (x : List Nat), L.mapM byteOf = some x → L = u8s x
  | [], x, h => by simp [u8s] at h ⊢; subst h; rfl
  | v :: r, x, h => by
    rw [List.mapM_cons] at h
    cases hb : byteOf v with
    | none => rw [hb] at h; cases h
    | some z =>
      cases hr : r.mapM byteOf with
      | none => rw [hb, hr] at h; cases h
      | some y =>
        rw [hb, hr] at h
        cases h
        have hv : v = .int .u8 (z : Nat) := by
          unfold byteOf at hb
          split at hb
          · split at hb
            · cases hb; congr 1; omega
            · cases hb
          · cases hb
        rw [of_bytes r y hr, hv]
        rfl
theorem idOf_idV (x : List Nat) : idOf (idV x) = some x := by simp only [idOf, idV]; exact bytes_of x
theorem idV_of {v : Value} {x : List Nat} (h : idOf v = some x) : v = idV x := by
  unfold idOf at h
  split at h
  · next a => rw [idV, ← of_bytes _ _ h]
  · cases h
/-- The map of links: what is found for a key. -/
def linkF (l : List O) : Value → Option Value := fun v => (idOf v).bind fun x => (firstO l x).map fun o => .slice o.q o.n o.c
theorem linkF_nil : linkF [] = fun _ => none := by funext v; unfold linkF firstO; cases idOf v <;> rfl
theorem linkF_at (l : List O) (x : List Nat) : linkF l (idV x) = (firstO l x).map fun o => .slice o.q o.n o.c := by unfold linkF; rw [idOf_idV]; rfl
open Classical in
theorem linkF_cons (o : O) (l : List O) : fnPut (linkF l) (idV o.id) (.slice o.q o.n o.c) = linkF (o :: l) := by
  funext v
  by_cases h : v = idV o.id
  · subst h; rw [fnPut_same, linkF_at, firstO, List.find?_cons_of_pos (by simp)]; rfl
  · rw [fnPut_other h]
    unfold linkF
    cases hv : idOf v with
    | none => rfl
    | some x =>
      have hx : ¬ o.id = x := fun e => h (by rw [e]; exact idV_of hv)
      simp only [Option.bind_some, firstO]
      rw [List.find?_cons_of_neg (by simpa using hx)]
theorem linkF_has {l : List O} {x : List Nat} (h : hasO l x = true) : ∃ o ∈ l, firstO l x = some o ∧ linkF l (idV x) = some (.slice o.q o.n o.c) ∧ linksO l x = o.links := by
  obtain ⟨o, h1, h2, h3⟩ := firstO_some h
  exact ⟨o, h2, h1, by rw [linkF_at, h1]; rfl, by rw [linksO, h1]; rfl⟩
theorem linkF_none {l : List O} {x : List Nat} (h : hasO l x = false) : linkF l (idV x) = none := by rw [linkF_at, firstO_none h]; rfl
theorem linkF_isSome (l : List O) (x : List Nat) : (linkF l (idV x)).isSome = hasO l x := by
  cases h : hasO l x with
  | false => rw [linkF_none h]; rfl
  | true => obtain ⟨o, _, _, e, _⟩ := linkF_has h; rw [e]; rfl
/-- The map of what is met. -/
def metF (met : List (List Nat)) : Value → Option Value := fun v => (idOf v).bind fun x => if x ∈ met then some (.agg #[]) else none
theorem metF_nil : metF [] = fun _ => none := by funext v; unfold metF; cases idOf v <;> simp
theorem metF_at (met : List (List Nat)) (x : List Nat) : metF met (idV x) = if x ∈ met then some (.agg #[]) else none := by unfold metF; rw [idOf_idV]; rfl
theorem metF_some {met : List (List Nat)} {v u : Value} (h : metF met v = some u) : ∃ x ∈ met, v = idV x := by
  unfold metF at h
  cases hv : idOf v with
  | none => rw [hv] at h; cases h
  | some x =>
    rw [hv, Option.bind_some] at h
    split at h
    · next hx => exact ⟨x, hx, idV_of hv⟩
    · cases h
open Classical in
theorem metF_snoc (met : List (List Nat)) (x : List Nat) : fnPut (metF met) (idV x) (.agg #[]) = metF (met ++ [x]) := by
  funext v
  by_cases h : v = idV x
  · subst h; rw [fnPut_same, metF_at, if_pos (by simp)]
  · rw [fnPut_other h]
    unfold metF
    cases hv : idOf v with
    | none => rfl
    | some y =>
      have hx : ¬ y = x := fun e => h (by rw [← e]; exact idV_of hv)
      simp only [Option.bind_some, List.mem_append, List.mem_singleton, hx, or_false]
theorem metF_isSome (met : List (List Nat)) (x : List Nat) : (metF met (idV x)).isSome = decide (x ∈ met) := by
  rw [metF_at]
  by_cases h : x ∈ met <;> simp [h]
end Go.Proofs.Ytfclbdlkpnoceaa
