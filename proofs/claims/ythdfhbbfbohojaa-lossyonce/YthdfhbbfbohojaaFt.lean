/-
  Lists of messages by when they are due: a stable sort. Names no program.
-/
import Derived.Test.YthdfhbbfbohojaaLk
namespace Go.Proofs.Ythdfhbbfbohojaa

abbrev Ky := Int × List Nat
/-- Put in behind all that is due by then. -/
def insK (x : Ky) : List Ky → List Ky
  | [] => [x]
  | y :: r => if y.1 ≤ x.1 then y :: insK x r else x :: y :: r
def srtK (l : List Ky) : List Ky := l.foldl (fun acc x => insK x acc) []
def Srt (l : List Ky) : Prop := l.Pairwise (fun a b => a.1 ≤ b.1)
theorem insK_mem {x y : Ky} : ∀ {l : List Ky}, y ∈ insK x l ↔ y = x ∨ y ∈ l
  | [] => by simp [insK]
  | z :: r => by
    unfold insK
    split
    · rw [List.mem_cons, insK_mem, List.mem_cons]
      constructor
      · rintro (h | h | h) <;> simp [h]
      · rintro (h | h | h) <;> simp [h]
    · rw [List.mem_cons]
theorem insK_length (x : Ky) : ∀ (l : List Ky), (insK x l).length = l.length + 1
  | [] => rfl
  | z :: r => by
    unfold insK
    split
    · rw [List.length_cons, insK_length x r, List.length_cons]
    · rfl
theorem insK_sorted {x : Ky} : ∀ {l : List Ky}, Srt l → Srt (insK x l)
  | [], _ => by simp [insK, Srt]
  | z :: r, h => by
    unfold Srt at h ⊢
    rw [List.pairwise_cons] at h
    unfold insK
    split
    · rename_i hz
      rw [List.pairwise_cons]
      refine ⟨fun y hy => ?_, insK_sorted h.2⟩
      rcases insK_mem.1 hy with rfl | hy
      · exact hz
      · exact h.1 y hy
    · rename_i hz
      rw [List.pairwise_cons, List.pairwise_cons]
      refine ⟨fun y hy => ?_, h.1, h.2⟩
      rcases List.mem_cons.1 hy with rfl | hy
      · omega
      · have := h.1 y hy; omega
theorem srtK_snoc (l : List Ky) (x : Ky) : srtK (l ++ [x]) = insK x (srtK l) := by simp [srtK, List.foldl_append]
theorem srtK_nil : srtK [] = [] := rfl
theorem foldl_mem {y : Ky} : ∀ (l acc : List Ky), y ∈ l.foldl (fun acc x => insK x acc) acc ↔ y ∈ l ∨ y ∈ acc
  | [], acc => by simp
  | x :: r, acc => by
    rw [List.foldl_cons, foldl_mem r, insK_mem, List.mem_cons]
    constructor
    · rintro (h | h | h) <;> simp [h]
    · rintro ((h | h) | h) <;> simp [h]
theorem srtK_mem {y : Ky} {l : List Ky} : y ∈ srtK l ↔ y ∈ l := by simp [srtK, foldl_mem]
theorem foldl_sorted : ∀ (l acc : List Ky), Srt acc → Srt (l.foldl (fun acc x => insK x acc) acc)
  | [], _, h => h
  | x :: r, acc, h => by rw [List.foldl_cons]; exact foldl_sorted r _ (insK_sorted h)
theorem srtK_sorted (l : List Ky) : Srt (srtK l) := foldl_sorted l [] List.Pairwise.nil
theorem foldl_len : ∀ (l acc : List Ky), (l.foldl (fun acc x => insK x acc) acc).length = l.length + acc.length
  | [], _ => by simp
  | x :: r, acc => by rw [List.foldl_cons, foldl_len r, insK_length, List.length_cons]; omega
theorem srtK_length (l : List Ky) : (srtK l).length = l.length := by simp [srtK, foldl_len]
/-- The place found from the end. -/
theorem insK_at {x : Ky} : ∀ {l : List Ky} {k : Nat}, Srt l → k ≤ l.length → (∀ j y, k ≤ j → l[j]? = some y → x.1 < y.1) → (∀ y, 0 < k → l[k - 1]? = some y → y.1 ≤ x.1) → l.take k ++ x :: l.drop k = insK x l
  | [], k, _, hk, _, _ => by simp at hk; subst hk; rfl
  | z :: r, 0, _, _, h, _ => by
    have := h 0 z (Nat.le_refl _) rfl
    unfold insK
    rw [if_neg (by omega)]
    rfl
  | z :: r, k + 1, hs, hk, h1, h2 => by
    have hs' := hs
    unfold Srt at hs'
    rw [List.pairwise_cons] at hs'
    have hkr : k ≤ r.length := by simpa using hk
    have hz : z.1 ≤ x.1 := by
      cases k with
      | zero => exact h2 z (by omega) rfl
      | succ k =>
        have hkl : k < r.length := by omega
        have := h2 r[k] (by omega) (by simp)
        have := hs'.1 r[k] (List.getElem_mem hkl)
        omega
    unfold insK
    rw [if_pos hz, List.take_succ_cons, List.drop_succ_cons, List.cons_append, insK_at hs'.2 hkr (fun j y hj hy => h1 (j + 1) y (by omega) (by simpa using hy)) (fun y hk0 hy => h2 y (by omega) (by
      obtain ⟨k', rfl⟩ : ∃ k', k = k' + 1 := ⟨k - 1, by omega⟩
      simpa using hy))]
theorem foldl_head {m : Ky} : ∀ (B S : List Ky), (∀ b ∈ B, m.1 ≤ b.1) → B.foldl (fun acc x => insK x acc) (m :: S) = m :: B.foldl (fun acc x => insK x acc) S
  | [], _, _ => rfl
  | b :: B, S, h => by
    have hb := h b List.mem_cons_self
    rw [List.foldl_cons, List.foldl_cons, show insK b (m :: S) = m :: insK b S by rw [insK, if_pos hb], foldl_head B _ (fun c hc => h c (List.mem_cons_of_mem _ hc))]
/-- The first of the least comes first. -/
theorem srtK_take (A B : List Ky) (m : Ky) (hA : ∀ a ∈ A, m.1 < a.1) (hB : ∀ b ∈ B, m.1 ≤ b.1) : srtK (A ++ m :: B) = m :: srtK (A ++ B) := by
  have h1 : insK m (srtK A) = m :: srtK A := by
    cases h : srtK A with
    | nil => rfl
    | cons y r =>
      have := hA y (srtK_mem.1 (by rw [h]; exact List.mem_cons_self))
      rw [insK, if_neg (by omega)]
  unfold srtK at h1 ⊢
  rw [List.foldl_append, List.foldl_cons, List.foldl_append, h1, foldl_head B _ hB]
/-- Put in n times. -/
def insN (x : Ky) : Nat → List Ky → List Ky
  | 0, l => l
  | n + 1, l => insK x (insN x n l)
theorem insN_sorted {x : Ky} {l : List Ky} (h : Srt l) : ∀ n, Srt (insN x n l)
  | 0 => h
  | n + 1 => insK_sorted (insN_sorted h n)
theorem insN_length (x : Ky) (l : List Ky) : ∀ n, (insN x n l).length = l.length + n
  | 0 => rfl
  | n + 1 => by rw [insN, insK_length, insN_length x l n]; omega
theorem insN_mem {x y : Ky} {l : List Ky} : ∀ {n}, y ∈ insN x n l → y = x ∨ y ∈ l
  | 0, h => .inr h
  | n + 1, h => by
    rcases insK_mem.1 h with h | h
    · exact .inl h
    · exact insN_mem h
theorem srtK_reps (x : Ky) (l : List Ky) : ∀ n, srtK (l ++ List.replicate n x) = insN x n (srtK l)
  | 0 => by simp [insN]
  | n + 1 => by rw [List.replicate_succ', ← List.append_assoc, srtK_snoc, srtK_reps x l n, insN]
def keys (ms : List Msg) : List Ky := ms.map Msg.key
theorem keys_length (ms : List Msg) : (keys ms).length = ms.length := by simp [keys]
end Go.Proofs.Ythdfhbbfbohojaa
