/-
  Texts put in where they stand: the same as the texts sorted.
-/
import Derived.Test.YtlmfdifnkkdpfaaDbl
namespace Go.Proofs.Ytlmfdifnkkdpfaa
open Go.RowKit

theorem bl_iff : ∀ (x y : List UInt8), Op.bytesLess x y = true ↔ x < y
  | [], [] => by simp [Op.bytesLess]
  | _ :: _, [] => by simp [Op.bytesLess]
  | [], b :: y => by simp [Op.bytesLess]
  | a :: x, b :: y => by
    have ih := bl_iff x y
    simp [Op.bytesLess, ih, List.cons_lt_cons_iff]
def leB (a b : ByteArray) : Bool := Op.bytesLess a.toList b.toList || (a.toList == b.toList)
theorem leB_iff (a b : ByteArray) : leB a b = true ↔ bytesOf a ≤ bytesOf b := by
  rw [leB, text_eq, ByteArray.toList_eq, ByteArray.toList_eq]
  show (Op.bytesLess (bytesOf a) (bytesOf b) || (bytesOf a == bytesOf b)) = true ↔ _
  rw [Bool.or_eq_true, bl_iff, beq_iff_eq]
  generalize bytesOf a = x
  generalize bytesOf b = y
  constructor
  · rintro (h | rfl)
    · exact List.le_of_lt h
    · exact List.le_refl _
  · intro h
    by_cases e : x = y
    · exact .inr e
    · left
      apply Classical.byContradiction
      intro hn
      exact e (List.le_antisymm h (List.not_lt.1 hn))
def insS (s : ByteArray) (out : List ByteArray) : List ByteArray := out.take (out.findIdx fun y => !leB y s) ++ s :: out.drop (out.findIdx fun y => !leB y s)
def srt (l : List ByteArray) : List ByteArray := l.foldl (fun out s => insS s out) []
theorem srt_take (l : List ByteArray) (k : Nat) (hk : k < l.length) : srt (l.take (k + 1)) = insS (l.getD k ⟨#[]⟩) (srt (l.take k)) := by
  have h : l.take (k + 1) = l.take k ++ [l.getD k ⟨#[]⟩] := by
    rw [List.take_add_one, List.getElem?_eq_getElem hk, List.getD_eq_getElem?_getD, List.getElem?_eq_getElem hk]; rfl
  rw [h, srt, srt, List.foldl_append]; rfl
theorem insS_perm (s : ByteArray) (out : List ByteArray) : (insS s out).Perm (s :: out) := by
  rw [insS]
  have h := List.perm_middle (a := s) (l₁ := out.take (out.findIdx fun y => !leB y s)) (l₂ := out.drop (out.findIdx fun y => !leB y s))
  rwa [List.take_append_drop] at h
theorem insS_length (s : ByteArray) (out : List ByteArray) : (insS s out).length = out.length + 1 := by rw [(insS_perm s out).length_eq]; rfl
abbrev LeS (a b : ByteArray) : Prop := bytesOf a ≤ bytesOf b
theorem insS_sorted (s : ByteArray) (out : List ByteArray) (h : out.Pairwise LeS) : (insS s out).Pairwise LeS := by
  have h0 := h
  rw [← List.take_append_drop (out.findIdx fun y => !leB y s) out, List.pairwise_append] at h
  obtain ⟨p1, p2, p3⟩ := h
  have ht : ∀ y ∈ out.take (out.findIdx fun y => !leB y s), LeS y s := fun y hy => by
    rw [List.mem_take_iff_getElem] at hy
    obtain ⟨j, hj, rfl⟩ := hy
    have := List.not_of_lt_findIdx (p := fun y => !leB y s) (show j < out.findIdx _ by omega)
    exact (leB_iff _ _).1 (by simpa using this)
  have hd : ∀ y ∈ out.drop (out.findIdx fun y => !leB y s), LeS s y := fun y hy => by
    have hlt : (out.findIdx fun y => !leB y s) < out.length := by
      apply Nat.lt_of_not_le
      intro hge
      rw [List.drop_of_length_le hge] at hy
      cases hy
    have hf : (!leB out[out.findIdx fun y => !leB y s] s) = true := List.findIdx_getElem (p := fun y => !leB y s)
    have h1 : LeS s out[out.findIdx fun y => !leB y s] := by
      rcases List.le_total (bytesOf s) (bytesOf out[out.findIdx fun y => !leB y s]) with h | h
      · exact h
      · rw [(leB_iff _ _).2 h] at hf; cases hf
    rw [List.drop_eq_getElem_cons hlt] at hy p2
    rcases List.mem_cons.1 hy with rfl | hy
    · exact h1
    · exact List.le_trans h1 ((List.pairwise_cons.1 p2).1 y hy)
  rw [insS, List.pairwise_append]
  refine ⟨p1, List.pairwise_cons.2 ⟨hd, p2⟩, fun a ha b hb => ?_⟩
  rcases List.mem_cons.1 hb with rfl | hb
  · exact ht a ha
  · exact p3 a ha b hb
theorem srt_all : ∀ (l out : List ByteArray), out.Pairwise LeS → (l.foldl (fun out s => insS s out) out).Pairwise LeS ∧ (l.foldl (fun out s => insS s out) out).Perm (l ++ out)
  | [], out, h => ⟨h, List.Perm.refl _⟩
  | a :: t, out, h => by
    obtain ⟨h1, h2⟩ := srt_all t (insS a out) (insS_sorted a out h)
    refine ⟨h1, h2.trans ?_⟩
    exact (List.Perm.append_left t (insS_perm a out)).trans List.perm_middle
theorem sorted_unique : ∀ (a b : List (List UInt8)), a.Perm b → a.Pairwise (fun x y => x ≤ y) → b.Pairwise (fun x y => x ≤ y) → a = b
  | [], b, h, _, _ => by rw [List.nil_perm.1 h]
  | x :: a, [], h, _, _ => by simpa using h.length_eq
  | x :: a, y :: b, h, ha, hb => by
    have e : x = y := by
      have hx : x ∈ y :: b := h.subset List.mem_cons_self
      have hy : y ∈ x :: a := h.symm.subset List.mem_cons_self
      rcases List.mem_cons.1 hx with e | hx
      · exact e
      · rcases List.mem_cons.1 hy with e | hy
        · exact e.symm
        · exact List.le_antisymm ((List.pairwise_cons.1 ha).1 y hy) ((List.pairwise_cons.1 hb).1 x hx)
    subst e
    rw [sorted_unique a b (List.perm_cons x |>.1 h) (List.pairwise_cons.1 ha).2 (List.pairwise_cons.1 hb).2]
theorem srt_sortL (l : List ByteArray) : srt l = (sortL (l.map bytesOf)).map txt := by
  obtain ⟨h1, h2⟩ := srt_all l [] List.Pairwise.nil
  rw [List.append_nil] at h2
  have h3 : (srt l).map bytesOf = sortL (l.map bytesOf) := sorted_unique _ _ ((h2.map bytesOf).trans (sortL_perm _).symm) (List.pairwise_map.2 h1) (sortL_pair _)
  rw [← h3, List.map_map]
  conv => lhs; rw [← List.map_id (srt l)]
  exact List.map_congr_left (fun x _ => (txt_bytes x).symm)
theorem srt_length (l : List ByteArray) : (srt l).length = l.length := by
  have h := (srt_all l [] List.Pairwise.nil).2.length_eq
  rw [srt]
  simpa using h
theorem insS_at {s : ByteArray} {out : List ByteArray} {m : Nat} (hm : m ≤ out.length) (h1 : ∀ j, j < m → leB (out.getD j ⟨#[]⟩) s = true) (h2 : m < out.length → leB (out.getD m ⟨#[]⟩) s = false) : insS s out = out.take m ++ s :: out.drop m := by
  have e : (out.findIdx fun y => !leB y s) = m := by
    by_cases hlt : m < out.length
    · refine (List.findIdx_eq hlt).2 ⟨?_, fun j hj => ?_⟩
      · have := h2 hlt
        simpa [List.getElem?_eq_getElem hlt] using this
      · have := h1 j hj
        simpa [List.getElem?_eq_getElem (show j < out.length by omega)] using this
    · have hm' : m = out.length := by omega
      subst hm'
      rw [List.findIdx_eq_length]
      intro x hx
      obtain ⟨j, hj, rfl⟩ := List.mem_iff_getElem.1 hx
      have := h1 j hj
      simpa [List.getElem?_eq_getElem hj] using this
  rw [insS, e]
end Go.Proofs.Ytlmfdifnkkdpfaa
