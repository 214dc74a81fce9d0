/-
  Ids in order: held against each other byte by byte; each once, rising. It names no program.
-/
import Derived.Test.YtfclbdlkpnoceaaEnc
import Derived.Test.YtfclbdlkpnoceaaBaseAll
namespace Go.Proofs.Ytfclbdlkpnoceaa
open Go Go.RowKit

/-- Byte by byte: whether x stands ahead of y. -/
def ltB : List Nat → List Nat → Bool
  | _, [] => false
  | [], _ :: _ => true
  | a :: x, b :: y => decide (a < b) || (decide (a = b) && ltB x y)

theorem ltB_irrefl : ∀ x, ltB x x = false
  | [] => rfl
  | a :: x => by simp [ltB, ltB_irrefl x]
theorem ltB_cons {a b : Nat} {x y : List Nat} : ltB (a :: x) (b :: y) = true ↔ a < b ∨ (a = b ∧ ltB x y = true) := by simp [ltB]
theorem ltB_trans : ∀ x y z, ltB x y = true → ltB y z = true → ltB x z = true
  | _, _, [], _, h => by cases h' : (0 : Nat) <;> simp [ltB] at h
  | _, [], _ :: _, h, _ => by simp [ltB] at h
  | [], _ :: _, _ :: _, _, _ => rfl
  | a :: x, b :: y, c :: z, h1, h2 => by
    rw [ltB_cons] at *
    rcases h1 with h1 | ⟨rfl, h1⟩
    · rcases h2 with h2 | ⟨rfl, h2⟩
      · exact .inl (by omega)
      · exact .inl h1
    · rcases h2 with h2 | ⟨rfl, h2⟩
      · exact .inl h2
      · exact .inr ⟨rfl, ltB_trans x y z h1 h2⟩
theorem ltB_total : ∀ x y, ltB x y = false → ltB y x = false → x = y
  | [], [], _, _ => rfl
  | [], _ :: _, h, _ => by simp [ltB] at h
  | _ :: _, [], _, h => by simp [ltB] at h
  | a :: x, b :: y, h1, h2 => by
    simp only [ltB, Bool.or_eq_false_iff, decide_eq_false_iff_not, Bool.and_eq_false_iff] at h1 h2
    obtain rfl : a = b := by omega
    simp only [not_true_eq_false, false_or] at h1 h2
    rw [ltB_total x y h1.2 h2.2]
theorem ltB_ntrans (x y z : List Nat) (h1 : ltB x y = false) (h2 : ltB y z = false) : ltB x z = false := by
  cases h : ltB x z with
  | false => rfl
  | true =>
    exfalso
    cases h3 : ltB y x with
    | true => rw [ltB_trans y x z h3 h] at h2; cases h2
    | false =>
      obtain rfl := ltB_total x y h1 h3
      rw [h] at h2; cases h2

/-- An id, put in where it stands. -/
def insL (x : List Nat) : List (List Nat) → List (List Nat)
  | [] => [x]
  | y :: r => if ltB y x = true then y :: insL x r else if y = x then y :: r else x :: y :: r
/-- The ids of a list, each once, rising. -/
def linksL (l : List (List Nat)) : List (List Nat) := l.foldl (fun out x => insL x out) []

theorem insL_at (x : List Nat) : ∀ (out : List (List Nat)) (k : Nat), k ≤ out.length → (∀ j, j < k → ltB (out.getD j []) x = true) → (k < out.length → ltB (out.getD k []) x = false) →
    (k < out.length → out.getD k [] = x → insL x out = out) ∧ ((k < out.length → out.getD k [] ≠ x) → insL x out = out.take k ++ [x] ++ out.drop k)
  | [], k, hk, _, _ => by
    obtain rfl : k = 0 := by simpa using hk
    simp [insL]
  | y :: r, 0, _, _, h0 => by
    have h1 : ltB y x = false := by simpa using h0 (by simp)
    constructor
    · intro _ h
      have h : y = x := by simpa using h
      simp [insL, h, ltB_irrefl]
    · intro h
      have h : y ≠ x := by simpa using h (by simp)
      simp [insL, h1, h]
  | y :: r, k + 1, hk, hj, h0 => by
    have h1 : ltB y x = true := by simpa using hj 0 (by omega)
    have ih := insL_at x r k (by simpa using hk) (fun j h => by simpa using hj (j + 1) (by omega)) (fun h => by simpa using h0 (by simpa using h))
    constructor
    · intro hl h
      have := ih.1 (by simpa using hl) (by simpa using h)
      simp [insL, h1, this]
    · intro h
      have := ih.2 (fun hl => by simpa using h (by simpa using hl))
      simp [insL, h1, this]

theorem insL_mem (x y : List Nat) : ∀ (out : List (List Nat)), y ∈ insL x out ↔ y = x ∨ y ∈ out
  | [] => by simp [insL]
  | z :: r => by
    by_cases h1 : ltB z x = true
    · rw [insL, if_pos h1, List.mem_cons, insL_mem x y r, List.mem_cons]
      constructor
      · rintro (h | h | h) <;> simp [h]
      · rintro (h | h | h) <;> simp [h]
    · by_cases h2 : z = x
      · subst h2; rw [insL, if_neg h1, if_pos rfl]; simp
      · rw [insL, if_neg h1, if_neg h2, List.mem_cons]

/-- Rising, none twice. -/
def Rising (l : List (List Nat)) : Prop := l.Pairwise fun a b => ltB a b = true
theorem insL_rising (x : List Nat) : ∀ (out : List (List Nat)), Rising out → Rising (insL x out)
  | [], _ => by simp [insL, Rising]
  | z :: r, h => by
    have hz := List.pairwise_cons.1 h
    by_cases h1 : ltB z x = true
    · rw [insL, if_pos h1]
      refine List.pairwise_cons.2 ⟨fun y hy => ?_, insL_rising x r hz.2⟩
      rcases (insL_mem x y r).1 hy with rfl | hy
      · exact h1
      · exact hz.1 y hy
    · by_cases h2 : z = x
      · rw [insL, if_neg h1, if_pos h2]; exact h
      · rw [insL, if_neg h1, if_neg h2]
        have hxz : ltB x z = true := by
          cases h3 : ltB x z with
          | true => rfl
          | false => exact absurd (ltB_total z x (by simpa using h1) h3) h2
        refine List.pairwise_cons.2 ⟨fun y hy => ?_, h⟩
        rcases List.mem_cons.1 hy with rfl | hy
        · exact hxz
        · exact ltB_trans x z y hxz (hz.1 y hy)
theorem fold_links : ∀ (l out : List (List Nat)), Rising out → Rising (l.foldl (fun out x => insL x out) out) ∧ ∀ y, y ∈ l.foldl (fun out x => insL x out) out ↔ y ∈ l ∨ y ∈ out
  | [], out, h => ⟨h, by simp⟩
  | x :: r, out, h => by
    have ih := fold_links r (insL x out) (insL_rising x out h)
    refine ⟨ih.1, fun y => ?_⟩
    rw [List.foldl_cons, ih.2 y, insL_mem, List.mem_cons]
    constructor
    · rintro (h | h | h) <;> simp [h]
    · rintro ((h | h) | h) <;> simp [h]
theorem linksL_rising (l : List (List Nat)) : Rising (linksL l) := (fold_links l [] List.Pairwise.nil).1
theorem linksL_mem (l : List (List Nat)) (y : List Nat) : y ∈ linksL l ↔ y ∈ l := by rw [linksL, (fold_links l [] List.Pairwise.nil).2 y]; simp
theorem linksL_snoc (l : List (List Nat)) (x : List Nat) : linksL (l ++ [x]) = insL x (linksL l) := by simp [linksL]
theorem insL_length (x : List Nat) : ∀ (out : List (List Nat)), (insL x out).length ≤ out.length + 1
  | [] => by simp [insL]
  | z :: r => by
    have := insL_length x r
    unfold insL
    split
    · simpa using this
    · split <;> simp
theorem linksL_length (l : List (List Nat)) : (linksL l).length ≤ l.length := by
  have h : ∀ (l out : List (List Nat)), (l.foldl (fun out x => insL x out) out).length ≤ out.length + l.length := by
    intro l
    induction l with
    | nil => intro out; simp
    | cons x r ih => intro out; have h1 := ih (insL x out); have h2 := insL_length x out; simp only [List.foldl_cons, List.length_cons]; omega
  have := h l []
  rw [linksL]
  simpa using this
theorem linksL_take (l : List (List Nat)) (k : Nat) (hk : k < l.length) : insL (l.getD k []) (linksL (l.take k)) = linksL (l.take (k + 1)) := by
  rw [List.take_succ_eq_append_getElem hk, linksL_snoc]
  simp [List.getElem?_eq_getElem hk]

/-- Those of a sorted list that are not alike with the one ahead of them. -/
def onceFrom : List Nat → List (List Nat) → List (List Nat)
  | _, [] => []
  | p, y :: r => if p = y then onceFrom y r else y :: onceFrom y r
def onceL : List (List Nat) → List (List Nat)
  | [] => []
  | x :: r => x :: onceFrom x r
theorem onceFrom_mem (y : List Nat) : ∀ (p : List Nat) (r : List (List Nat)), y ∈ p :: onceFrom p r ↔ y ∈ p :: r
  | p, [] => by simp [onceFrom]
  | p, q :: r => by
    have ih := onceFrom_mem y q r
    by_cases h : p = q
    · subst h
      rw [onceFrom, if_pos rfl, ih]; simp
    · rw [onceFrom, if_neg h, List.mem_cons, ih, List.mem_cons (b := p)]
theorem onceFrom_lt : ∀ (r : List (List Nat)) (p : List Nat), (p :: r).Pairwise (fun a b => ltB b a = false) → (∀ y ∈ onceFrom p r, ltB p y = true) ∧ Rising (onceFrom p r)
  | [], p, _ => ⟨by simp [onceFrom], List.Pairwise.nil⟩
  | q :: r, p, h => by
    have hp := List.pairwise_cons.1 h
    have ih := onceFrom_lt r q hp.2
    by_cases h1 : p = q
    · subst h1; rw [onceFrom, if_pos rfl]; exact ih
    · rw [onceFrom, if_neg h1]
      have hpq : ltB p q = true := by
        cases h3 : ltB p q with
        | true => rfl
        | false => exact absurd (ltB_total p q h3 (hp.1 q List.mem_cons_self)) h1
      refine ⟨fun y hy => ?_, List.pairwise_cons.2 ⟨ih.1, ih.2⟩⟩
      rcases List.mem_cons.1 hy with rfl | hy
      · exact hpq
      · exact ltB_trans p q y hpq (ih.1 y hy)
theorem onceL_rising (l : List (List Nat)) (h : l.Pairwise fun a b => ltB b a = false) : Rising (onceL l) := by
  cases l with
  | nil => exact List.Pairwise.nil
  | cons x r => have := onceFrom_lt r x h; exact List.pairwise_cons.2 this
theorem onceL_mem (l : List (List Nat)) (y : List Nat) : y ∈ onceL l ↔ y ∈ l := by
  cases l with
  | nil => simp [onceL]
  | cons x r => exact onceFrom_mem y x r
theorem rising_unique : ∀ (a b : List (List Nat)), Rising a → Rising b → (∀ y, y ∈ a ↔ y ∈ b) → a = b
  | [], [], _, _, _ => rfl
  | [], y :: _, _, _, h => by have := (h y).2 List.mem_cons_self; cases this
  | x :: _, [], _, _, h => by have := (h x).1 List.mem_cons_self; cases this
  | x :: xs, y :: ys, ha, hb, h => by
    have ha := List.pairwise_cons.1 ha
    have hb := List.pairwise_cons.1 hb
    have hxy : x = y := by
      rcases List.mem_cons.1 ((h x).1 List.mem_cons_self) with e | hx
      · exact e
      · rcases List.mem_cons.1 ((h y).2 List.mem_cons_self) with e | hy
        · exact e.symm
        · have h1 := ltB_trans x y x (ha.1 y hy) (hb.1 x hx)
          rw [ltB_irrefl] at h1; cases h1
    subst hxy
    rw [rising_unique xs ys ha.2 hb.2 (fun z => ?_)]
    constructor
    · intro hz
      rcases List.mem_cons.1 ((h z).1 (List.mem_cons_of_mem _ hz)) with rfl | hz'
      · have h1 := ha.1 z hz
        rw [ltB_irrefl] at h1; cases h1
      · exact hz'
    · intro hz
      rcases List.mem_cons.1 ((h z).2 (List.mem_cons_of_mem _ hz)) with rfl | hz'
      · have h1 := hb.1 z hz
        rw [ltB_irrefl] at h1; cases h1
      · exact hz'
/-- A sorted list of the same ids, each once. -/
theorem onceL_links (l s : List (List Nat)) (hp : s.Perm l) (hs : s.Pairwise fun a b => ltB b a = false) : onceL s = linksL l :=
  rising_unique _ _ (onceL_rising s hs) (linksL_rising l) (fun y => by rw [onceL_mem, linksL_mem, hp.mem_iff])

/-- Whether ids rise. -/
def riseB (ids : List (List Nat)) : Bool := (List.range (ids.length - 1)).all fun i => ltB (ids.getD i []) (ids.getD (i + 1) [])
theorem riseB_true {ids : List (List Nat)} (h : ∀ i, i + 1 < ids.length → ltB (ids.getD i []) (ids.getD (i + 1) []) = true) : riseB ids = true := by
  rw [riseB, List.all_eq_true]
  intro i hi
  exact h i (by have := List.mem_range.1 hi; omega)
theorem riseB_false {ids : List (List Nat)} {i : Nat} (hi : i + 1 < ids.length) (h : ltB (ids.getD i []) (ids.getD (i + 1) []) = false) : riseB ids = false := by
  rw [riseB, List.all_eq_false]
  exact ⟨i, List.mem_range.2 (by omega), by simpa using h⟩

/-- What the model holds texts against each other by. -/
theorem bytesLess_ltB : ∀ (a b : List Nat), (∀ z ∈ a, z < 256) → (∀ z ∈ b, z < 256) → Op.bytesLess (a.map fun z => UInt8.ofNat z) (b.map fun z => UInt8.ofNat z) = ltB a b
  | [], [], _, _ => rfl
  | _ :: _, [], _, _ => rfl
  | [], _ :: _, _, _ => rfl
  | x :: a, y :: b, ha, hb => by
    have hx := ha x List.mem_cons_self
    have hy := hb y List.mem_cons_self
    have ih := bytesLess_ltB a b (fun z h => ha z (List.mem_cons_of_mem _ h)) (fun z h => hb z (List.mem_cons_of_mem _ h))
    simp only [List.map_cons, Op.bytesLess, ih, ltB]
    have e1 : decide (UInt8.ofNat x < UInt8.ofNat y) = decide (x < y) := by
      rw [decide_eq_decide, UInt8.lt_iff_toNat_lt]
      simp only [UInt8.toNat_ofNat']
      omega
    have e2 : (UInt8.ofNat x == UInt8.ofNat y) = decide (x = y) := by
      rw [Bool.eq_iff_iff, beq_iff_eq, decide_eq_true_eq]
      exact ⟨ofNat_inj hx hy, fun h => by rw [h]⟩
    rw [e1, e2]
theorem less_strOf {a b : List Nat} (ha : ∀ z ∈ a, z < 256) (hb : ∀ z ∈ b, z < 256) : Op.bytesLess (strOf a).toList (strOf b).toList = ltB a b := by
  rw [strOf_toList, strOf_toList]; exact bytesLess_ltB a b ha hb
end Go.Proofs.Ytfclbdlkpnoceaa
