/-
  A running sum in memory: its words, its rest, its length; what taking more bytes in makes of it.
-/
import Derived.Test.YtkpjbleogjmbjaaDoorMade
import Derived.Test.YtkpjbleogjmbjaaDoorShPad
import Derived.Laws.CopyOwn
namespace Go.Proofs.YtkpjbleogjmbjaaDoor.Sh
open Go Go.RowKit

/-- What a running sum keeps of the text cs. -/
def RunOk (s R : List Value) (cs : List Nat) : Prop := s = u32s (wordsN (fullL cs (cs.length / 64))).list ∧ R.length = 64 ∧ R.take (cs.length % 64) = u8s (cs.drop (64 * (cs.length / 64)))

theorem u8s_drop (l : List Nat) (k : Nat) : (u8s l).drop k = u8s (l.drop k) := by simp [u8s]
theorem u8s_take (l : List Nat) (k : Nat) : (u8s l).take k = u8s (l.take k) := by simp [u8s]
theorem u8s_app (a b : List Nat) : u8s (a ++ b) = u8s a ++ u8s b := by simp [u8s]

theorem take_splice {α : Type} (R cs : List α) (h n : Nat) (hh : h ≤ R.length) (hn : n = h + cs.length) : (splice R h cs).take n = R.take h ++ cs := by
  subst hn
  unfold splice
  rw [← List.append_assoc, List.take_append_of_le_length (by simp; omega), List.take_of_length_le (by simp; omega)]

theorem RunOk.part {s R : List Value} {cs new : List Nat} (h : RunOk s R cs) (hn : cs.length % 64 + new.length < 64) : RunOk s (splice R (cs.length % 64) (u8s new)) (cs ++ new) := by
  obtain ⟨h1, h2, h3⟩ := h
  have e1 : (cs ++ new).length / 64 = cs.length / 64 := by rw [List.length_append]; omega
  have e2 : (cs ++ new).length % 64 = cs.length % 64 + new.length := by rw [List.length_append]; omega
  refine ⟨by rw [e1, fullL_append _ _ _ (by omega)]; exact h1, by rw [length_splice _ _ _ (by simp; omega)]; exact h2, ?_⟩
  rw [e1, e2, take_splice R (u8s new) _ _ (by omega) (by simp), h3, List.drop_append_of_le_length (by omega), u8s_app]

theorem RunOk.full {s R : List Value} {cs new : List Nat} (h : RunOk s R cs) (hn : cs.length % 64 + new.length = 64) :
    splice R (cs.length % 64) (u8s new) = u8s (cs.drop (64 * (cs.length / 64)) ++ new) ∧ RunOk (u32s (compressN (wordsN (fullL cs (cs.length / 64))) (cs.drop (64 * (cs.length / 64)) ++ new)).list) (u8s (cs.drop (64 * (cs.length / 64)) ++ new)) (cs ++ new) := by
  obtain ⟨h1, h2, h3⟩ := h
  have e1 : (cs ++ new).length / 64 = cs.length / 64 + 1 := by rw [List.length_append]; omega
  have e2 : (cs ++ new).length % 64 = 0 := by rw [List.length_append]; omega
  have l1 : (cs.drop (64 * (cs.length / 64)) ++ new).length = 64 := by simp; omega
  have e3 : (cs ++ new).drop (64 * (cs.length / 64)) = cs.drop (64 * (cs.length / 64)) ++ new := List.drop_append_of_le_length (by omega)
  have e4 : (cs ++ new).length = 64 * (cs.length / 64 + 1) := by rw [List.length_append]; omega
  refine ⟨?_, ?_, by simpa using l1, ?_⟩
  · have h := take_splice R (u8s new) (cs.length % 64) 64 (by omega) (by simp; omega)
    rw [List.take_of_length_le (by rw [length_splice _ _ _ (by simp; omega)]; omega)] at h
    rw [h, h3, u8s_app]
  · rw [e1, ← fullL_succ, wordsN_snoc, fullL_append _ _ _ (by omega), e3, List.take_of_length_le (by omega)]
  · have e5 : (cs ++ new).drop (64 * (cs.length / 64 + 1)) = [] := List.drop_eq_nil_of_le (by omega)
    rw [e1, e2, e5]
    rfl

/-- The cells of a running sum. -/
def runCells (s R : List Value) (n : Nat) : List Value := .bool true :: (s ++ (R ++ [.int .u64 (n : Nat)]))
theorem runCells_length {s R : List Value} (n : Nat) (hs : s.length = 8) (hR : R.length = 64) : (runCells s R n).length = 74 := by simp [runCells, hs, hR]
theorem runCells_0 (s R : List Value) (n : Nat) : (runCells s R n)[0]? = some (.bool true) := rfl
theorem runCells_73 {s R : List Value} (n : Nat) (hs : s.length = 8) (hR : R.length = 64) : (runCells s R n)[73]? = some (.int .u64 (n : Nat)) := by
  unfold runCells
  rw [List.getElem?_cons_succ, List.getElem?_append_right (by omega), List.getElem?_append_right (by omega)]
  simp [hs, hR]
theorem runCells_set {s R : List Value} (n m : Nat) (hs : s.length = 8) (hR : R.length = 64) : (runCells s R n).set 73 (.int .u64 (m : Nat)) = runCells s R m := by
  unfold runCells
  rw [List.set_cons_succ, List.set_append_right _ _ (by omega), List.set_append_right _ _ (by omega)]
  simp [hs, hR]
theorem runCells_words {W : World} {B : Nat} {s R : List Value} {n : Nat} (h : Row W B 106 (runCells s R n)) : W.rangeAt B 1 s := fun j v hj => h.cell (by
  have hl : j < s.length := by
    rcases Nat.lt_or_ge j s.length with h | h
    · exact h
    · rw [List.getElem?_eq_none h] at hj; cases hj
  unfold runCells
  rw [show 1 + j = j + 1 by omega, List.getElem?_cons_succ, List.getElem?_append_left hl]
  exact hj)
theorem runCells_rest {W : World} {B : Nat} {s R : List Value} {n : Nat} (hs : s.length = 8) (h : Row W B 106 (runCells s R n)) : W.rangeAt B 9 R := fun j v hj => h.cell (by
  have hl : j < R.length := by
    rcases Nat.lt_or_ge j R.length with h | h
    · exact h
    · rw [List.getElem?_eq_none h] at hj; cases hj
  unfold runCells
  rw [show 9 + j = (8 + j) + 1 by omega, List.getElem?_cons_succ, List.getElem?_append_right (by omega), List.getElem?_append_left (by omega)]
  simpa [hs] using hj)
theorem runCells_splice {s R cs : List Value} (n h : Nat) (hs : s.length = 8) (hR : R.length = 64) (hh : h + cs.length ≤ 64) : splice (runCells s R n) (9 + h) cs = runCells s (splice R h cs) n := by
  unfold splice runCells
  rw [show 9 + h = (8 + h) + 1 by omega, List.take_succ_cons, List.take_append, List.take_of_length_le (by omega), show 8 + h - s.length = h by omega, List.take_append_of_le_length (by omega),
    show 8 + h + 1 + cs.length = (8 + (h + cs.length)) + 1 by omega, List.drop_succ_cons, List.drop_append, List.drop_eq_nil_of_le (show s.length ≤ 8 + (h + cs.length) by omega), show 8 + (h + cs.length) - s.length = h + cs.length by omega, List.drop_append_of_le_length (by omega)]
  simp
theorem runCells_put {s s' R : List Value} (n : Nat) (hs : s.length = 8) (hs' : s'.length = 8) : putAt (runCells s R n) 1 s' = runCells s' R n := by
  rw [putAt_eq _ _ _ (by simp [runCells]; omega)]
  unfold runCells
  rw [List.take_succ_cons, List.take_zero, show 1 + s'.length = s'.length + 1 by omega, List.drop_succ_cons, show s'.length = s.length by omega, List.drop_append_of_le_length (by omega), List.drop_eq_nil_of_le (by omega)]
  simp

/-- Block B is a running sum of cs. -/
def RunAt (W : World) (B : Nat) (cs : List Nat) : Prop := ∃ s R, RunOk s R cs ∧ Row W B 106 (runCells s R cs.length)
theorem RunAt.lt {W : World} {B : Nat} {cs : List Nat} (h : RunAt W B cs) : B < W.heap.size := by obtain ⟨_, _, _, h⟩ := h; exact h.lt
theorem RunAt.below {W W' : World} {n B : Nat} {cs : List Nat} (h : RunAt W B cs) (hb : Below n W W') (hn : B < n) : RunAt W' B cs := by obtain ⟨s, R, h1, h2⟩ := h; exact ⟨s, R, h1, h2.below hb hn⟩
theorem RunAt.later {W W' : World} {B : Nat} {cs : List Nat} (h : RunAt W B cs) (hb : Below W.heap.size W W') : RunAt W' B cs := h.below hb h.lt
theorem RunAt.alloc {W : World} {B : Nat} {cs : List Nat} (h : RunAt W B cs) (o : Obj) : RunAt (W.alloc o) B cs := by obtain ⟨s, R, h1, h2⟩ := h; exact ⟨s, R, h1, h2.alloc o⟩
theorem RunOk.len {s R : List Value} {cs : List Nat} (h : RunOk s R cs) : s.length = 8 := by rw [h.1, u32s_length, St.list_length]

theorem _root_.Go.Proofs.YtkpjbleogjmbjaaDoor.But.tab {B n : Nat} {w w' : World} (h : But B n w w') (hB : 0 < B) (hn : 0 < n) (hT : Tab w) : Tab w' := fun i hi => (World.cell?_of_block (a := ⟨0, i, none⟩) (h.block 0 hn (by omega))).trans (hT i hi)
theorem _root_.Go.Proofs.YtkpjbleogjmbjaaDoor.But.bytes {B n n₀ : Nat} {w w' : World} (h : But B n w w') (hn : n₀ ≤ n) {p : Option Addr} {len cap : Nat} {zs : List Nat} (hp : len = 0 ∨ ∀ a, p = some a → a.block ≠ B) : IsBytes n₀ w p len cap zs → IsBytes n₀ w' p len cap zs
  | ⟨h1, h2, h3, h4, .inl e⟩ => ⟨h1, h2, h3, h4, .inl e⟩
  | ⟨h1, h2, h3, h4, .inr ⟨b, off, e, hb, hc⟩⟩ => ⟨h1, h2, h3, h4, .inr ⟨b, off, e, hb, fun i hi => by
      have hbB : b ≠ B := by
        rcases hp with h0 | h0
        · omega
        · exact h0 _ e
      rw [World.cell?_of_block (a := ⟨b, off + i, none⟩) (h.block b (by omega) hbB)]
      exact hc i hi⟩⟩
end Go.Proofs.YtkpjbleogjmbjaaDoor.Sh
