/-
  Logs on lists: what is written for a record, what a crash leaves, what is found again. It names no program's function.
-/
import Derived.Test.YtifjkkfienmdjaaFst
namespace Go.Proofs.Ytifjkkfienmdjaa
open Go.RowKit

/-- The sectors of a record behind the first; all writes of a record, in their order. -/
def secK (b : List Nat) (i : Nat) : List Nat := splice zeros64 0 ((b.drop (51 + 64 * i)).take 64)
def tailW (f : Nat) (b : List Nat) (k : Nat) : List (Nat × List Nat) := (List.range (k - 1)).map fun i => (f + (i + 1), secK b i)
def writesOf (f n at_ gen num : Nat) (b : List Nat) : List (Nat × List Nat) :=
  tailW (f + at_) b (spanN b.length) ++ ((if at_ + spanN b.length < n then [(f + at_ + spanN b.length, zeros64)] else []) ++ [(f + at_, headL b gen num)])
/-- Writes, up to the first that fails. -/
def doW : St → List (Nat × List Nat) → Int × St
  | d, [] => (0, d)
  | d, (i, s) :: r => if d.wErr i ≠ 0 then (d.wErr i, d.write i s) else doW (d.write i s) r
/-- What is found from a place on. -/
def recB (ss : List (List Nat)) (f at_ long : Nat) : List Nat :=
  (((ss.getD (f + at_) []).drop 4).take 51 ++ ((List.range (spanN long - 1)).map fun i => ss.getD (f + at_ + (i + 1)) []).flatten).take long
def markL (gen num : Nat) : List Nat := (headL [] gen num).drop 55
def scan (ss : List (List Nat)) (f n gen : Nat) : Nat → Nat → List (List Nat) → Nat × List (List Nat)
  | 0, at_, recs => (at_, recs)
  | fuel + 1, at_, recs =>
    if n ≤ at_ then (at_, recs) else
    if (ss.getD (f + at_) []).drop 55 ≠ markL gen recs.length ∨ 262144 < numFrom (ss.getD (f + at_) []) 0 4 ∨ n - at_ < spanN (numFrom (ss.getD (f + at_) []) 0 4) then (at_, recs)
    else scan ss f n gen fuel (at_ + spanN (numFrom (ss.getD (f + at_) []) 0 4)) (recs ++ [recB ss f at_ (numFrom (ss.getD (f + at_) []) 0 4)])

/-- The first sector, read. -/
theorem getD_splice {c v : List Nat} {o i : Nat} (h : o + v.length ≤ c.length) : (splice c o v).getD i 0 = if i < o then c.getD i 0 else if i < o + v.length then v.getD (i - o) 0 else c.getD i 0 := by
  simp only [splice, List.getD_eq_getElem?_getD]
  have lo : (c.take o).length = o := by rw [List.length_take]; omega
  by_cases h1 : i < o
  · rw [if_pos h1, List.getElem?_append_left (by omega), List.getElem?_take, if_pos h1]
  · rw [if_neg h1, List.getElem?_append_right (by omega), lo]
    by_cases h2 : i < o + v.length
    · rw [if_pos h2, List.getElem?_append_left (by omega)]
    · rw [if_neg h2, List.getElem?_append_right (by omega), List.getElem?_drop]
      congr 2
      omega
theorem le4_len (x : Nat) : (le4 x).length = 4 := rfl
theorem headL_getD (b : List Nat) (gen num i : Nat) : (headL b gen num).getD i 0 = if i = 63 then 165 else if i < 4 then (le4 b.length).getD i 0 else if i < 4 + (b.take 51).length then b.getD (i - 4) 0 else if i < 55 then 0 else if i < 59 then (le4 gen).getD (i - 55) 0 else if i < 63 then (le4 num).getD (i - 59) 0 else 0 := by
  have hz : ∀ j, zeros64.getD j 0 = 0 := fun j => by rw [zeros64, List.getD_eq_getElem?_getD, List.getElem?_replicate]; split <;> rfl
  have e4 : (headL b gen num).getD i 0 = if i = 63 then 165 else (h4L b gen num).getD i 0 := by
    rw [headL, List.getD_eq_getElem?_getD, List.getElem?_set]
    by_cases h : i = 63
    · subst h
      simp [h4L_len]
    · rw [if_neg (fun e => h e.symm), if_neg h, List.getD_eq_getElem?_getD]
  have lt51 : (b.take 51).length ≤ 51 := by rw [List.length_take]; omega
  rw [e4]
  by_cases h63 : i = 63
  · rw [if_pos h63, if_pos h63]
  rw [if_neg h63, if_neg h63, h4L, getD_splice (by rw [h3L_len, le4_len]; omega), le4_len, h3L, getD_splice (by rw [h2L_len, le4_len]; omega), le4_len, h2L, getD_splice (by rw [h1L_len]; omega), h1L, getD_splice (by simp [zeros64, le4]), le4_len, hz]
  have htk : ∀ j, j < (b.take 51).length → (b.take 51).getD j 0 = b.getD j 0 := fun j hj => by
    rw [List.getD_eq_getElem?_getD, List.getD_eq_getElem?_getD, List.getElem?_take, if_pos (by omega)]
  simp only [Nat.not_lt_zero, if_false, Nat.zero_add, Nat.sub_zero]
  repeat' split
  all_goals first | rfl | omega | (apply htk; omega)
theorem numFrom_le4 (s : List Nat) (x : Nat) (hx : x < 4294967296) (h : ∀ i, i < 4 → s.getD i 0 = (le4 x).getD i 0) : numFrom s 0 4 = x := by
  simp only [numFrom, Nat.zero_add]
  rw [h 0 (by omega), h 1 (by omega), h 2 (by omega), h 3 (by omega)]
  simp only [le4, List.getD_cons_zero, List.getD_cons_succ, byteAt]
  omega
theorem head_len {b : List Nat} (gen num : Nat) (hb : b.length < 4294967296) : numFrom (headL b gen num) 0 4 = b.length :=
  numFrom_le4 _ _ hb (fun i hi => by rw [headL_getD, if_neg (by omega), if_pos hi])
theorem list_eq_getD {a b : List Nat} (hl : a.length = b.length) (h : ∀ i, i < a.length → a.getD i 0 = b.getD i 0) : a = b := by
  apply List.ext_getElem hl
  intro i h1 h2
  have := h i h1
  simpa [List.getD, List.getElem?_eq_getElem h1, List.getElem?_eq_getElem h2] using this
theorem headL_len (b : List Nat) (gen num : Nat) : (headL b gen num).length = 64 := by rw [headL, List.length_set, h4L_len]
theorem head_tail (b : List Nat) (gen num : Nat) {j : Nat} (hj : 55 ≤ j) : (headL b gen num).getD j 0 = if j = 63 then 165 else if j < 59 then (le4 gen).getD (j - 55) 0 else if j < 63 then (le4 num).getD (j - 59) 0 else 0 := by
  have lt51 : (b.take 51).length ≤ 51 := by rw [List.length_take]; omega
  rw [headL_getD]
  by_cases h63 : j = 63
  · rw [if_pos h63, if_pos h63]
  · rw [if_neg h63, if_neg h63, if_neg (by omega), if_neg (by omega), if_neg (by omega)]
theorem head_mark (b : List Nat) (gen num : Nat) : (headL b gen num).drop 55 = markL gen num := by
  unfold markL
  refine list_eq_getD (by rw [List.length_drop, List.length_drop, headL_len, headL_len]) (fun i hi => ?_)
  rw [List.length_drop, headL_len] at hi
  have e : ∀ (c : List Nat), (c.drop 55).getD i 0 = c.getD (55 + i) 0 := fun c => by rw [List.getD_eq_getElem?_getD, List.getElem?_drop, List.getD_eq_getElem?_getD]
  rw [e, e, head_tail b gen num (by omega), head_tail [] gen num (by omega)]
/-- A sector without the last byte of a mark has no mark. -/
theorem no_mark {s : List Nat} (gen num : Nat) (h : s.getD 63 0 ≠ 165) : s.drop 55 ≠ markL gen num := fun e => by
  have := congrArg (fun l => l.getD 8 0) e
  simp only [markL] at this
  have e1 : ∀ (c : List Nat), (c.drop 55).getD 8 0 = c.getD 63 0 := fun c => by rw [List.getD_eq_getElem?_getD, List.getElem?_drop, List.getD_eq_getElem?_getD]
  rw [e1, e1, headL_getD, if_pos rfl] at this
  exact h this
end Go.Proofs.Ytifjkkfienmdjaa
