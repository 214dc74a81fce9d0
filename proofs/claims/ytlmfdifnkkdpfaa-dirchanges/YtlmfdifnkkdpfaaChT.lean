/-
  DirChanges: what stands while the names are told.
-/
import Derived.Test.YtlmfdifnkkdpfaaStayL
import Derived.Test.YtlmfdifnkkdpfaaPutsW
import Derived.Test.YtlmfdifnkkdpfaaNmAll
import Derived.Test.YtlmfdifnkkdpfaaSrtAll
namespace Go.Proofs.Ytlmfdifnkkdpfaa
open Go.RowKit Go.Shelf

/-- The row of the wanted names: in a block of its own. -/
def WantAt (n1 n2 : Nat) (q : Option Addr) (xs : List ByteArray) (A : World) : Prop :=
  xs.length = 0 ∨ ∃ (g : Nat) (cur : Array Value), q = some ⟨g, 0, none⟩ ∧ n1 ≤ g ∧ g < n2 ∧ A.heap[g]? = some (.cells cur 9 (0, 0)) ∧ cur.toList.take xs.length = strs xs
theorem WantAt.of {n1 : Nat} {W : World} {q : Option Addr} {len cap : Nat} {xs : List ByteArray} (h : OwnS n1 W (.slice q len cap) xs) : WantAt n1 W.heap.size q xs W := by
  have hl : xs.length = len := h.strs.1
  rcases Nat.eq_zero_or_pos len with h0 | h0
  · exact .inl (by omega)
  · obtain ⟨g, e, h1, h2, _, _, _, cur, h6, _, h8⟩ := h.row h0
    exact .inr ⟨g, cur, e, h1, h2, h6, by rw [hl]; exact h8⟩
theorem WantAt.later {n1 n2 : Nat} {A B : World} {q : Option Addr} {xs : List ByteArray} (h : WantAt n1 n2 q xs A) (hb : Below n2 A B) : WantAt n1 n2 q xs B := by
  rcases h with h | ⟨g, cur, e, h1, h2, h3, h4⟩
  · exact .inl h
  · exact .inr ⟨g, cur, e, h1, h2, (hb.block g h2).trans h3, h4⟩
theorem WantAt.grow {n1 n2 B : Nat} {A A' : World} {q : Option Addr} {xs : List ByteArray} {row : Option Nat} (h : WantAt n1 n2 q xs A) (hg : A.grownBy A' row) (hr : ∀ r, row = some r → B ≤ r ∧ ∃ o : Obj, A.heap[r]? = some o ∧ o.isCells = false) : WantAt n1 n2 q xs A' := by
  rcases h with h | ⟨g, cur, e, h1, h2, h3, h4⟩
  · exact .inl h
  · refine .inr ⟨g, cur, e, h1, h2, (hg.block g (Array.getElem?_eq_some_iff.1 h3).1 (fun e => ?_)).trans h3, h4⟩
    obtain ⟨_, o, ho, hc⟩ := hr g e.symm
    rw [h3] at ho
    cases ho
    cases hc
theorem WantAt.set {n1 n2 : Nat} {A : World} {q : Option Addr} {xs : List ByteArray} (h : WantAt n1 n2 q xs A) {B : Nat} (hB : B < n1 ∨ n2 ≤ B) (u : Value) : WantAt n1 n2 q xs (A.setCell ⟨B, 0, none⟩ u) := by
  rcases h with h | ⟨g, cur, e, h1, h2, h3, h4⟩
  · exact .inl h
  · exact .inr ⟨g, cur, e, h1, h2, (heap_setCell_other A ⟨B, 0, none⟩ g u (by show g ≠ B; omega)).trans h3, h4⟩
theorem WantAt.at {n1 n2 : Nat} {A : World} {q : Option Addr} {xs : List ByteArray} (h : WantAt n1 n2 q xs A) {k : Nat} (hk : k < xs.length) : ∃ g, q = some ⟨g, 0, none⟩ ∧ A.cell? ⟨g, k, none⟩ = some (.string (xs.getD k ⟨#[]⟩)) := by
  rcases h with h | ⟨g, cur, e, h1, h2, h3, h4⟩
  · omega
  · refine ⟨g, e, ?_⟩
    rw [cell_of_row A g k cur 9 (0, 0) h3]
    have : (cur.toList.take xs.length)[k]? = some (.string xs[k]) := by rw [h4, strs_at hk]
    rw [List.getElem?_take, if_pos hk] at this
    rw [← Array.getElem?_toList, this, List.getD_eq_getElem?_getD, List.getElem?_eq_getElem hk, Option.getD_some]
theorem text_inj {a b : ByteArray} (h : (a.toList == b.toList) = true) : a = b := by
  rw [text_eq] at h
  have h := eq_of_beq h
  rw [← txt_bytes a, ← txt_bytes b, h]
theorem pre_next {xs pre : List ByteArray} {x : ByteArray} (h : pre <+: xs) (hl : pre.length < xs.length) (hx : (x.toList == (xs.getD pre.length ⟨#[]⟩).toList) = true) : pre ++ [x] <+: xs := by
  obtain ⟨r, rfl⟩ := h
  cases r with
  | nil => simp at hl
  | cons y r =>
    have := text_inj hx
    simp at this
    subst this
    exact ⟨r, by simp⟩
theorem pre_not {xs pre : List ByteArray} {x : ByteArray} (h : pre ++ [x] <+: xs) : (x.toList == (xs.getD pre.length ⟨#[]⟩).toList) = true := by
  obtain ⟨r, rfl⟩ := h
  simp

/-- A range over a function of texts: the text lies in slot 117, the variable in slot 17. -/
theorem wp_range_txt (n : Nat) (h1 : 1 ≤ n) {g : Operand} {assign body : Code} {Q : Exit → Act → World → Prop} {a : Act} {w : World} {gf : Nat} {lb : Array Value} (hg : a.eval g = .func (.func gf) #[] lb) (eg : ∀ args w, (callFunc gf args).run Try.prog w = .ok (.enter gf args) w)
    {Ok : ByteArray → World → Prop} {Kp : World → World → Prop} {S Sp : List ByteArray → Prop} {N : Nat}
    (hit : ∀ W, W.heap.size = w.heap.size + 2 → Below w.heap.size w W → IterAt Fence.wide (n - 1) Try.prog gf lb (fun x : ByteArray => #[.string x]) Ok Kp S Sp N (w.heap.size + 1) W)
    (hKt : ∀ {A B C : World}, Kp A B → Kp B C → Kp A C) (hKb : ∀ (W : World) (o o' : Obj), W.heap[w.heap.size + 1]? = some o → o.isCells = false → Kp W (W.putObj (w.heap.size + 1) o'))
    (I : List ByteArray → World → Prop) (Ix : Code → List ByteArray → World → Prop) (hI : OwnFrom w.heap.size I) (hIx : ∀ c, OwnFrom w.heap.size (Ix c)) (hOk : OwnFrom w.heap.size Ok) (h0 : I [] w)
    (hassign : ∀ (l : Nat) (x : ByteArray) (W : World) (K : Act → World → Prop), K { tmps := (a.tmps.setIfInBounds 117 (.string x)).setIfInBounds 17 (.string x), defers := [] } W →
      assign.wpIn (Fence.wide.inRound l) (n - 1 - 1) Try.prog (Exit.then K (fun _ _ _ => False)) { tmps := a.tmps.setIfInBounds 117 (.string x), defers := [] } W)
    (hbody : ∀ (l : Nat) (pre : List ByteArray) (x : ByteArray) (W : World), I pre W → Ok x W → pre.length < N → body.wpIn (Fence.wide.inRound l) (n - 1 - 1) Try.prog (roundWord w.heap.size Kp I Ix (pre ++ [x]) W) { tmps := (a.tmps.setIfInBounds 117 (.string x)).setIfInBounds 17 (.string x), defers := [] } W)
    (hdone : ∀ (D : Nat) (xs : List ByteArray) (W : World), w.heap.size ≤ D → S xs → I xs W → W.heap[D]? = some (.deferred (some [])) → Q .normal { a with defers := { target := .collected D, args := #[] } :: a.defers } W)
    (hstop : ∀ (D : Nat) (c : Code) (pre : List ByteArray) (W : World), w.heap.size ≤ D → Sp pre → Ix c pre W → W.heap[D]? = some (.deferred (some [])) → c.wpIn Fence.wide n Try.prog Q { a with defers := { target := .collected D, args := #[] } :: a.defers } W) :
    (Code.rangeFunc g #[117] assign body).wp Try.prog Q a w :=
  (wpIn_wide (n := n)).1 (wpIn_rangeFunc_ok rfl h1 hg trivial eg (encs := fun x : ByteArray => #[.string x]) hit hKt hKb (fun _ => rfl) I Ix hI hIx hOk h0 _ (fun l x W K hK => by simpa using hassign l x W K hK) hbody hdone hstop)
end Go.Proofs.Ytlmfdifnkkdpfaa
