/-
  The reference's With.
-/
import Derived.Test.YtlmfdifnkkdpfaaWith
namespace Go.Proofs.Ytlmfdifnkkdpfaa
open Go.RowKit Go.Shelf

/-- With, under way. -/
def midL (e : Ent) (G : List Ent) : List Ent := if G.any (overB e) then insE G (G.findIdx (overB e)) e else G
theorem insE_snoc (G : List Ent) (i : Nat) (e x : Ent) (h : i ≤ G.length) : insE (G ++ [x]) i e = insE G i e ++ [x] := by
  rw [insE, insE, List.take_append_of_le_length h, List.drop_append_of_le_length h]; simp
theorem midL_done {e x : Ent} {G : List Ent} (h : G.any (overB e) = true) : midL e (G ++ [x]) = midL e G ++ [x] ∧ (G ++ [x]).any (overB e) = true := by
  have h2 : (G ++ [x]).any (overB e) = true := by rw [List.any_append, h]; rfl
  refine ⟨?_, h2⟩
  rw [midL, midL, if_pos h, if_pos h2]
  have hl : G.findIdx (overB e) < G.length := by
    obtain ⟨y, hy, hp⟩ := List.any_eq_true.1 h
    exact List.findIdx_lt_length_of_exists ⟨y, hy, hp⟩
  rw [List.findIdx_append, if_pos hl]
  exact insE_snoc G _ e x (Nat.le_of_lt hl)
theorem midL_now {e x : Ent} {G : List Ent} (h : G.any (overB e) = false) (hx : overB e x = true) : midL e (G ++ [x]) = (midL e G ++ [e]) ++ [x] ∧ (G ++ [x]).any (overB e) = true := by
  have h2 : (G ++ [x]).any (overB e) = true := by rw [List.any_append]; simp [hx]
  refine ⟨?_, h2⟩
  have hi : (G ++ [x]).findIdx (overB e) = G.length := by
    rw [List.findIdx_append, if_neg (by rw [findIdx_none h]; omega)]
    simp [List.findIdx_cons, hx]
  rw [midL, midL, if_pos h2, if_neg (by rw [h]; decide), hi, insE, List.take_left, List.drop_left]
  simp
theorem midL_not {e x : Ent} {G : List Ent} (h : G.any (overB e) = false) (hx : overB e x = false) : midL e (G ++ [x]) = midL e G ++ [x] ∧ (G ++ [x]).any (overB e) = false := by
  have h2 : (G ++ [x]).any (overB e) = false := by rw [List.any_append, h]; simp [hx]
  refine ⟨?_, h2⟩
  rw [midL, midL, if_neg (by rw [h2]; decide), if_neg (by rw [h]; decide)]
theorem midL_end (e : Ent) (es : List Ent) : withL e es = if (filt (withB e) es).any (overB e) then midL e (filt (withB e) es) else midL e (filt (withB e) es) ++ [e] := by
  rw [withL]
  generalize filt (withB e) es = G
  cases h : G.any (overB e) with
  | true => rw [if_pos rfl, midL, if_pos h]
  | false =>
    rw [if_neg (by decide), midL, if_neg (by rw [h]; decide), findIdx_none h, insE, List.take_length, List.drop_length]
theorem midL_length (e : Ent) (G : List Ent) : (midL e G).length ≤ G.length + 1 := by
  unfold midL
  split
  · rw [insE_length e List.findIdx_le_length]; omega
  · omega
end Go.Proofs.Ytlmfdifnkkdpfaa
