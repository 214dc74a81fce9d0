/-
  Several texts in one: Names, Good, Under.
-/
import Derived.Test.YtkpjbleogjmbjaaDoorBaseAll
/-
  Names and paths, on lists of bytes: which bytes are a name, what stands between the slashes of a path. It names no program.
-/
namespace Go.Proofs.YtkpjbleogjmbjaaDoor
open Go.RowKit

/-- A byte that no name has. -/
def badC (c : UInt8) : Bool := c == 0 || c == 47
/-- A name. -/
def goodL (l : List UInt8) : Bool := !(l.any badC) && (decide (1 ≤ l.length) && decide (l.length ≤ 64) && !(l == [46]) && !(l == [46, 46]))
/-- The bytes of a text. -/
abbrev bytesOf (s : ByteArray) : List UInt8 := s.data.toList

theorem bytesOf_length (s : ByteArray) : (bytesOf s).length = s.size := by simp [bytesOf]
theorem bytesOf_at (s : ByteArray) (k : Nat) (h : k < s.size) : (bytesOf s)[k]? = some (s[k]'h) := by
  have h' : k < s.data.size := h
  rw [bytesOf, Array.getElem?_toList, Array.getElem?_eq_getElem h']
  rfl
theorem any_take_succ {l : List UInt8} {k : Nat} {c : UInt8} (hc : l[k]? = some c) (p : UInt8 → Bool) : (l.take (k + 1)).any p = ((l.take k).any p || p c) := by
  rw [List.take_add_one, hc]; simp
theorem any_of_take {l : List UInt8} {k : Nat} (p : UInt8 → Bool) (h : (l.take k).any p = true) : l.any p = true := by
  obtain ⟨x, hx, hp⟩ := List.any_eq_true.1 h
  exact List.any_eq_true.2 ⟨x, List.mem_of_mem_take hx, hp⟩
theorem goodL_bad {l : List UInt8} (h : l.any badC = true) : goodL l = false := by simp [goodL, h]

/-- What stands between the slashes. -/
def cutL : List UInt8 → List (List UInt8)
  | [] => [[]]
  | c :: r => if c = 47 then [] :: cutL r else match cutL r with
    | [] => [[c]]
    | a :: t => (c :: a) :: t
theorem cutL_ne : ∀ (l : List UInt8), cutL l ≠ []
  | [] => by simp [cutL]
  | c :: r => by
    unfold cutL
    split
    · simp
    · split <;> simp
/-- No slash in p: it is the first piece. -/
theorem cutL_slash : ∀ (p r : List UInt8), (∀ c ∈ p, c ≠ 47) → cutL (p ++ 47 :: r) = p :: cutL r
  | [], r, _ => by simp [cutL]
  | c :: p, r, h => by
    rw [List.cons_append, cutL, if_neg (h c (by simp)), cutL_slash p r (fun x hx => h x (by simp [hx]))]
theorem cutL_none : ∀ (p : List UInt8), (∀ c ∈ p, c ≠ 47) → cutL p = [p]
  | [], _ => by simp [cutL]
  | c :: p, h => by
    rw [cutL, if_neg (h c (by simp)), cutL_none p (fun x hx => h x (by simp [hx]))]
/-- One more byte. -/
theorem cutL_snoc47 : ∀ (l : List UInt8), cutL (l ++ [47]) = cutL l ++ [[]]
  | [] => by simp [cutL]
  | c :: r => by
    rw [List.cons_append, cutL, cutL, cutL_snoc47 r]
    split
    · simp
    · have := cutL_ne r
      cases h : cutL r with
      | nil => exact absurd h this
      | cons a t => simp
theorem cutL_snoc : ∀ (l : List UInt8) (c : UInt8), c ≠ 47 → cutL (l ++ [c]) = (cutL l).dropLast ++ [(cutL l).getLastD [] ++ [c]]
  | [], c, h => by simp [cutL, h]
  | d :: r, c, h => by
    rw [List.cons_append, cutL, cutL, cutL_snoc r c h]
    have := cutL_ne r
    cases e : cutL r with
    | nil => exact absurd e this
    | cons a t =>
      cases t with
      | nil => split <;> simp
      | cons b t => split <;> simp

/-- The path of names. -/
def joinL : List (List UInt8) → List UInt8
  | [] => []
  | [a] => a
  | a :: b :: t => a ++ 47 :: joinL (b :: t)
theorem joinL_snoc : ∀ (l : List (List UInt8)) (a : List UInt8), joinL (l ++ [a]) = if l = [] then a else joinL l ++ 47 :: a
  | [], a => by simp [joinL]
  | [b], a => by simp [joinL]
  | b :: c :: t, a => by
    have := joinL_snoc (c :: t) a
    simp only [List.cons_append] at this ⊢
    rw [joinL, this]
    simp [joinL]
theorem cut_join : ∀ (l : List (List UInt8)), l ≠ [] → (∀ a ∈ l, ∀ c ∈ a, c ≠ 47) → cutL (joinL l) = l
  | [], h, _ => absurd rfl h
  | [a], _, h => by rw [joinL, cutL_none a (h a (by simp))]
  | a :: b :: t, _, h => by
    rw [joinL, cutL_slash a _ (h a (by simp)), cut_join (b :: t) (by simp) (fun x hx => h x (by simp [hx]))]
theorem good_noslash {l : List UInt8} (h : goodL l = true) : ∀ c ∈ l, c ≠ 47 := by
  intro c hc e
  subst e
  have : l.any badC = true := List.any_eq_true.2 ⟨47, hc, by decide⟩
  rw [goodL_bad this] at h
  cases h
theorem good_ne {l : List UInt8} (h : goodL l = true) : l ≠ [] := by
  rintro rfl
  simp [goodL] at h
end Go.Proofs.YtkpjbleogjmbjaaDoor
/-
  route.Good and the reference's Good: whether a text is a name. The world stands.
-/
namespace Go.Proofs.YtkpjbleogjmbjaaDoor
open Go.RowKit

theorem c0 (c : UInt8) : ((c.toNat : Int) == 0) = (c == 0) := by
  rw [Bool.eq_iff_iff]; simp only [beq_iff_eq]
  exact ⟨fun h => UInt8.toNat_inj.1 (by simp; omega), fun h => by subst h; rfl⟩
theorem c47 (c : UInt8) : ((c.toNat : Int) == 47) = (c == 47) := by
  rw [Bool.eq_iff_iff]; simp only [beq_iff_eq]
  exact ⟨fun h => UInt8.toNat_inj.1 (by simp; omega), fun h => by subst h; rfl⟩
/-- Whether two texts are alike. -/
theorem text_eq (a b : ByteArray) : (a.toList == b.toList) = (bytesOf a == bytesOf b) := by rw [ByteArray.toList_eq, ByteArray.toList_eq]

set_option maxRecDepth 100000 in
set_option maxHeartbeats 1000000 in
theorem good_any (s : ByteArray) (hs : s.size ≤ 1000000) (w : World) : Calls Tryd.prog 16 #[.string s] w fun e w' => e = .returned (.bool (goodL (bytesOf s))) ∧ w' = w := by
  by_cases p1 : s.size < 1
  · have hr : Hid (goodL (bytesOf s) = false) := by show _ = _; rw [goodL, bytesOf_length, decide_eq_false (show ¬ 1 ≤ s.size by omega)]; simp
    have i1 : (s.size : Int) < 1 := by omega
    go_enter Tryd.func16, Tryd.ntmps16
    go_wp2
    go_ret
    exact ⟨by rw [hr.out]; rfl, rfl⟩
  have i1 : ¬ (s.size : Int) < 1 := by omega
  by_cases p2 : 64 < s.size
  · have hr : Hid (goodL (bytesOf s) = false) := by show _ = _; rw [goodL, bytesOf_length, decide_eq_false (show ¬ s.size ≤ 64 by omega)]; simp
    have i2 : 64 < (s.size : Int) := by omega
    go_enter Tryd.func16, Tryd.ntmps16
    go_wp2
    go_ret
    exact ⟨by rw [hr.out]; rfl, rfl⟩
  have i2 : ¬ 64 < (s.size : Int) := by omega
  rcases Bool.eq_false_or_eq_true (s.toList == [46]) with e | e
  · have hr : Hid (goodL (bytesOf s) = false) := by show _ = _; rw [goodL, bytesOf, ← ByteArray.toList_eq, e]; simp
    go_enter Tryd.func16, Tryd.ntmps16
    go_wp2
    go_ret
    exact ⟨by rw [hr.out]; rfl, rfl⟩
  rcases Bool.eq_false_or_eq_true (s.toList == [46, 46]) with e2 | e2
  · have hr : Hid (goodL (bytesOf s) = false) := by show _ = _; rw [goodL, bytesOf, ← ByteArray.toList_eq, e2]; simp
    go_enter Tryd.func16, Tryd.ntmps16
    go_wp2
    go_ret
    exact ⟨by rw [hr.out]; rfl, rfl⟩
  have HG : Hid ((bytesOf s).any badC = false → goodL (bytesOf s) = true) := fun h => by
    rw [goodL, h, bytesOf_length, decide_eq_true (show 1 ≤ s.size by omega), decide_eq_true (show s.size ≤ 64 by omega), bytesOf, ← ByteArray.toList_eq, e, e2]; rfl
  go_enter Tryd.func16, Tryd.ntmps16
  go_wp2
  go_loopw [22] (fun i wr => ∃ (k : Nat), k ≤ s.size ∧ i = .int .i64 k ∧ ((bytesOf s).take k).any badC = false ∧ wr = w) (fun i _ => s.size - (intOf i).toNat)
  case atStart => exact ⟨0, Nat.zero_le _, rfl, by simp, rfl⟩
  case round =>
    obtain ⟨k, hk, rfl, hany, rfl⟩ := hrel
    have HA : Hid (((bytesOf s).take k).any badC = false) := hany
    clear hany
    by_cases hlt : k < s.size
    · have hki : (k : Int) < (s.size : Int) := by omega
      have HT : Hid ((bytesOf s)[k]? = some (s[k]'hlt)) := bytesOf_at s k hlt
      obtain ⟨c, hc⟩ : ∃ c, s[k]'hlt = c := ⟨_, rfl⟩
      have b0 := c0 c
      have b47 := c47 c
      rcases Bool.eq_false_or_eq_true (c == 0) with e0 | e0
      · have hr : Hid (goodL (bytesOf s) = false) := goodL_bad (any_of_take (k := k + 1) _ (by rw [any_take_succ HT.out, hc]; simp [badC, e0]))
        rw [e0] at b0
        clear e0
        go_wp2
        go_ret
        exact ⟨by rw [hr.out]; rfl, rfl⟩
      · rw [e0] at b0
        rcases Bool.eq_false_or_eq_true (c == 47) with e1 | e1
        · have hr : Hid (goodL (bytesOf s) = false) := goodL_bad (any_of_take (k := k + 1) _ (by rw [any_take_succ HT.out, hc]; simp [badC, e1]))
          rw [e1] at b47
          clear e0 e1
          go_wp2
          go_ret
          exact ⟨by rw [hr.out]; rfl, rfl⟩
        · have hr : Hid (((bytesOf s).take (k + 1)).any badC = false) := by
            show _ = _
            rw [any_take_succ HT.out, hc, HA.out]; simp [badC, e0, e1]
          rw [e1] at b47
          clear e0 e1
          go_wp2
          go_roundw
          case rel => exact ⟨k + 1, hlt, by go_num, hr.out, trivial⟩
          case measure => simp [intOf]; omega
    · obtain rfl : k = s.size := by omega
      have hall : Hid (goodL (bytesOf s) = true) := by
        have := HA.out
        rw [List.take_of_length_le (by rw [bytesOf_length]; exact Nat.le_refl _)] at this
        exact HG.out this
      go_wp2
      go_ret
      exact ⟨by rw [hall.out]; rfl, rfl⟩

/-- Whether a path is a directory, or in it. -/
def underL (p d : List UInt8) : Bool := d == [] || p == d || (decide (d.length < p.length) && (p.take d.length == d && p.getD d.length 0 == 47))
end Go.Proofs.YtkpjbleogjmbjaaDoor
/-
  route.Under and the reference's Under. The world stands.
-/
namespace Go.Proofs.YtkpjbleogjmbjaaDoor
open Go.RowKit

theorem extract_bytes (s : ByteArray) (i j : Nat) : bytesOf (s.extract i j) = ((bytesOf s).drop i).take (j - i) := by
  have e : s = ByteArray.mk (s.data.toList.toArray) := by cases s; simp
  rw [e, ByteArray.extract_mk]
theorem extract_size (s : ByteArray) (i j : Nat) (hj : j ≤ s.size) : (s.extract i j).size = j - i := by
  rw [← bytesOf_length, extract_bytes, List.length_take, List.length_drop, bytesOf_length]; omega
theorem getD_at (s : ByteArray) (k : Nat) (h : k < s.size) : (bytesOf s).getD k 0 = s[k]'h := by
  rw [List.getD_eq_getElem?_getD, bytesOf_at s k h]; rfl

theorem under_dir {p d : List UInt8} (h : (d == []) = true) : underL p d = true := by simp [underL, h]
theorem under_same {p d : List UInt8} (h : (p == d) = true) : underL p d = true := by simp [underL, h]
theorem under_short {p d : List UInt8} (h : (d == []) = false) (h2 : (p == d) = false) (h3 : ¬ d.length < p.length) : underL p d = false := by simp [underL, h, h2, h3]
theorem under_in {p d : List UInt8} (h : (d == []) = false) (h2 : (p == d) = false) (h3 : d.length < p.length) : underL p d = (p.take d.length == d && p.getD d.length 0 == 47) := by simp [underL, h, h2, h3]

end Go.Proofs.YtkpjbleogjmbjaaDoor
