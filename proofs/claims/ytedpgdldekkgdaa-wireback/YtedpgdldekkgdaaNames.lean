/-
  Names and paths, on lists of bytes: which bytes are a name, what stands between the slashes of a path. It names no program.
-/
import Derived.Test.YtedpgdldekkgdaaBaseAll
namespace Go.Proofs.Ytedpgdldekkgdaa
open Go.RowKit

/-- A byte that no name has. -/
def badC (c : UInt8) : Bool := c == 0 || c == 47
/-- A name. -/
def goodL (l : List UInt8) : Bool := !(l.any badC) && (decide (1 ≤ l.length) && decide (l.length ≤ 64) && !(l == [46]) && !(l == [46, 46]))
/-- The bytes of a text. -/
abbrev bytesOf (s : ByteArray) : List UInt8 := s.data.toList

theorem bytesOf_length (s : ByteArray) : (bytesOf s).length = s.size := by simp [bytesOf]
theorem bytesOf_at (s : ByteArray) (k : Nat) (h : k < s.size) : (bytesOf s)[k]? = some (s[k]'h) := by
  have h' : k < s.data.size := h
  rw [bytesOf, Array.getElem?_toList, Array.getElem?_eq_getElem h']
  rfl
theorem any_take_succ {l : List UInt8} {k : Nat} {c : UInt8} (hc : l[k]? = some c) (p : UInt8 → Bool) : (l.take (k + 1)).any p = ((l.take k).any p || p c) := by
  rw [List.take_add_one, hc]; simp
theorem any_of_take {l : List UInt8} {k : Nat} (p : UInt8 → Bool) (h : (l.take k).any p = true) : l.any p = true := by
  obtain ⟨x, hx, hp⟩ := List.any_eq_true.1 h
  exact List.any_eq_true.2 ⟨x, List.mem_of_mem_take hx, hp⟩
theorem goodL_bad {l : List UInt8} (h : l.any badC = true) : goodL l = false := by simp [goodL, h]

/-- What stands between the slashes. -/
def cutL : List UInt8 → List (List UInt8)
  | [] => [[]]
  | c :: r => if c = 47 then [] :: cutL r else match cutL r with
    | [] => [[c]]
    | a :: t => (c :: a) :: t
theorem cutL_ne : ∀ (l : List UInt8), cutL l ≠ []
  | [] => by simp [cutL]
  | c :: r => by
    unfold cutL
    split
    · simp
    · split <;> simp
/-- No slash in p: it is the first piece. -/
theorem cutL_slash : ∀ (p r : List UInt8), (∀ c ∈ p, c ≠ 47) → cutL (p ++ 47 :: r) = p :: cutL r
  | [], r, _ => by simp [cutL]
  | c :: p, r, h => by
    rw [List.cons_append, cutL, if_neg (h c (by simp)), cutL_slash p r (fun x hx => h x (by simp [hx]))]
theorem cutL_none : ∀ (p : List UInt8), (∀ c ∈ p, c ≠ 47) → cutL p = [p]
  | [], _ => by simp [cutL]
  | c :: p, h => by
    rw [cutL, if_neg (h c (by simp)), cutL_none p (fun x hx => h x (by simp [hx]))]
/-- One more byte. -/
theorem cutL_snoc47 : ∀ (l : List UInt8), cutL (l ++ [47]) = cutL l ++ [[]]
  | [] => by simp [cutL]
  | c :: r => by
    rw [List.cons_append, cutL, cutL, cutL_snoc47 r]
    split
    · simp
    · have := cutL_ne r
      cases h : cutL r with
      | nil => exact absurd h this
      | cons a t => simp
theorem cutL_snoc : ∀ (l : List UInt8) (c : UInt8), c ≠ 47 → cutL (l ++ [c]) = (cutL l).dropLast ++ [(cutL l).getLastD [] ++ [c]]
  | [], c, h => by simp [cutL, h]
  | d :: r, c, h => by
    rw [List.cons_append, cutL, cutL, cutL_snoc r c h]
    have := cutL_ne r
    cases e : cutL r with
    | nil => exact absurd e this
    | cons a t =>
      cases t with
      | nil => split <;> simp
      | cons b t => split <;> simp

/-- The path of names. -/
def joinL : List (List UInt8) → List UInt8
  | [] => []
  | [a] => a
  | a :: b :: t => a ++ 47 :: joinL (b :: t)
theorem joinL_snoc : ∀ (l : List (List UInt8)) (a : List UInt8), joinL (l ++ [a]) = if l = [] then a else joinL l ++ 47 :: a
  | [], a => by simp [joinL]
  | [b], a => by simp [joinL]
  | b :: c :: t, a => by
    have := joinL_snoc (c :: t) a
    simp only [List.cons_append] at this ⊢
    rw [joinL, this]
    simp [joinL]
theorem cut_join : ∀ (l : List (List UInt8)), l ≠ [] → (∀ a ∈ l, ∀ c ∈ a, c ≠ 47) → cutL (joinL l) = l
  | [], h, _ => absurd rfl h
  | [a], _, h => by rw [joinL, cutL_none a (h a (by simp))]
  | a :: b :: t, _, h => by
    rw [joinL, cutL_slash a _ (h a (by simp)), cut_join (b :: t) (by simp) (fun x hx => h x (by simp [hx]))]
theorem good_noslash {l : List UInt8} (h : goodL l = true) : ∀ c ∈ l, c ≠ 47 := by
  intro c hc e
  subst e
  have : l.any badC = true := List.any_eq_true.2 ⟨47, hc, by decide⟩
  rw [goodL_bad this] at h
  cases h
theorem good_ne {l : List UInt8} (h : goodL l = true) : l ≠ [] := by
  rintro rfl
  simp [goodL] at h
end Go.Proofs.Ytedpgdldekkgdaa
