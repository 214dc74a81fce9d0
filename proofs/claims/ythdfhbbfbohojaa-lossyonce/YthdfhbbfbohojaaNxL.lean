/-
  A law of the walk that names no program: a range over a function that tells a given list, each round knows what is next; what rounds keep; the iterator may write two blocks of the caller (a line).
-/
import Derived.Test.YthdfhbbfbohojaaNx2
import Derived.Test.YthdfhbbfbohojaaLk
namespace Go.Proofs.Ythdfhbbfbohojaa
open Go Go.RowKit

section
variable {F : Fence} {n : Nat} {P : Program}
/-- What abides growth, the turn of a block that is no cells from B on, and whatever becomes of block b0. -/
def OwnBut {β : Type} (p0 g0 B : Nat) (I : β → World → Prop) : Prop := OwnFrom B I ∧ ∀ s A A', I s A → Buts p0 g0 A A' → I s A'
theorem OwnBut.mono {β : Type} {p0 g0 B B' : Nat} {I : β → World → Prop} (h : OwnBut p0 g0 B I) (hB : B ≤ B') : OwnBut p0 g0 B' I := ⟨OwnFrom.mono h.1 hB, h.2⟩
theorem OwnBut.and {β : Type} {p0 g0 B : Nat} {I I' : β → World → Prop} (h : OwnBut p0 g0 B I) (h' : OwnBut p0 g0 B I') : OwnBut p0 g0 B (fun s W => I s W ∧ I' s W) := ⟨OwnFrom.and h.1 h'.1, fun s A A' hs hb => ⟨h.2 s A A' hs.1 hb, h'.2 s A A' hs.2 hb⟩⟩
/-- The iterator, called in world W with the yield of loop l: it hands over, one behind the other, what is next. -/
def IterB {α : Type} (p0 g0 : Nat) (F : Fence) (n : Nat) (P : Program) (g : Nat) (lb : Array Value) (encs : α → Array Value) (Ok : α → World → Prop) (Kp : World → World → Prop) (Nx : List α → α → Prop) (S Sp : List α → Prop) (Fi : World → Prop) (l : Nat) (W : World) : Prop :=
  ∀ (J Jx : List α → World → Prop), OwnBut p0 g0 W.heap.size J → OwnFrom W.heap.size Jx →
    (∀ pre x W1, J pre W1 → Ok x W1 → Nx pre x → YieldAt F (n - 1) P l (encs x) W1 fun e W' =>
      (e = .returned (.bool true) ∧ J (pre ++ [x]) W' ∧ Kp W1 W') ∨ (e = .returned (.bool false) ∧ Jx (pre ++ [x]) W' ∧ Kp W1 W')) →
    J [] W →
    CallsIn F n P g (#[.func (.yield l) #[] #[]] ++ lb) W fun e W' => (∃ v, e = .returned v) ∧ ((∃ xs, S xs ∧ Fi W' ∧ J xs W') ∨ (∃ pre, Sp pre ∧ Jx pre W'))

/-- A range over a function whose loop's variables lie in blocks that each round makes: R tells what they hold. -/
theorem wpIn_rangeFunc_but {α : Type} {p0 g0 : Nat} {g : Operand} {ps : Array Tmp} {assign body : Code} {Q : Exit → Act → World → Prop} {a : Act} {w : World}
    (hlt0 : p0 < w.heap.size ∧ g0 < w.heap.size) (hro : F.round = none) (h1 : 1 ≤ n) {gf : Nat} {lb : Array Value} (hg : a.eval g = .func (.func gf) #[] lb) (hFg : F.fn gf) (eg : ∀ args w, (callFunc gf args).run P w = .ok (.enter gf args) w)
    {encs : α → Array Value} {Ok : α → World → Prop} {Kp : World → World → Prop} {Nx : List α → α → Prop} {S Sp : List α → Prop} {Fi : World → Prop} (hFi : OwnFrom w.heap.size (fun (_ : Unit) W => Fi W))
    (hit : ∀ W, W.heap.size = w.heap.size + 2 → Below w.heap.size w W → IterB p0 g0 F (n - 1) P gf lb encs Ok Kp Nx S Sp Fi (w.heap.size + 1) W)
    (hKt : ∀ {A B C : World}, Kp A B → Kp B C → Kp A C) (hKb : ∀ (W : World) (o o' : Obj), W.heap[w.heap.size + 1]? = some o → o.isCells = false → Kp W (W.putObj (w.heap.size + 1) o'))
    (hKg : ∀ {A B : World}, Below A.heap.size A B → Kp A B) (hps : ∀ x, (encs x).size = ps.size) (R : α → World → World → Prop) (hR : ∀ x A B o, R x A B → w.heap.size + 1 < A.heap.size → R x A (B.putObj (w.heap.size + 1) o))
    (I : List α → World → Prop) (Ix : Code → List α → World → Prop) (hI : OwnBut p0 g0 w.heap.size I) (hIx : ∀ c, OwnFrom w.heap.size (Ix c)) (hOk : OwnFrom w.heap.size Ok) (h0 : I [] w) (a₁ : α → World → Act)
    (hassign : ∀ (l : Nat) (x : α) (W : World) (K : Act → World → Prop), Ok x W → (∀ W', Below W.heap.size W W' → R x W W' → K (a₁ x W) W') →
      assign.wpIn (F.inRound l) (n - 1 - 1) P (Exit.then K (fun _ _ _ => False)) { tmps := (ps.zip (encs x)).foldl (fun t (p, v) => t.setIfInBounds p v) a.tmps, defers := [] } W)
    (hbody : ∀ (l : Nat) (pre : List α) (x : α) (W₀ W : World), I pre W → Ok x W → Nx pre x → w.heap.size + 1 < W₀.heap.size → R x W₀ W → body.wpIn (F.inRound l) (n - 1 - 1) P (roundWord w.heap.size Kp I Ix (pre ++ [x]) W) (a₁ x W₀) W)
    (hdone : ∀ (D : Nat) (xs : List α) (W : World), w.heap.size ≤ D → S xs → Fi W → I xs W → W.heap[D]? = some (.deferred (some [])) → Q .normal { a with defers := { target := .collected D, args := #[] } :: a.defers } W)
    (hstop : ∀ (D : Nat) (c : Code) (pre : List α) (W : World), w.heap.size ≤ D → Sp pre → Ix c pre W → W.heap[D]? = some (.deferred (some [])) → c.wpIn F n P Q { a with defers := { target := .collected D, args := #[] } :: a.defers } W) :
    (Code.rangeFunc g ps assign body).wpIn F n P Q a w := by
  refine wpIn_rangeFunc fun fn hfn => ?_
  rw [hro]
  -- the loop's record, by its state and its pending jump
  obtain ⟨rec, hrec⟩ : ∃ rec : LoopState → Option Code → Loop, rec = fun st pe => { state := st, pending := pe, fn, tmps := a.tmps, params := ps, assign, body, defers := w.heap.size } := ⟨_, rfl⟩
  obtain ⟨W1, hW1⟩ : ∃ W1, (w.alloc (.deferred (some []))).alloc (.loop (rec .ready none)) = W1 := ⟨_, rfl⟩
  have hs1 : W1.heap.size = w.heap.size + 2 := by rw [← hW1]; simp
  have hb1 : Below w.heap.size w W1 := by rw [← hW1]; exact ((Below.refl _ w).alloc (Nat.le_refl _) _).alloc (by simp) _
  have hL1 : W1.heap[w.heap.size + 1]? = some (.loop (rec .ready none)) := by
    rw [← hW1]; have := World.alloc_heap_new (w.alloc (.deferred (some []))) (.loop (rec .ready none)); rwa [World.size_alloc] at this
  have hD1 : W1.heap[w.heap.size]? = some (.deferred (some [])) := by
    rw [← hW1]; exact (Below.heap_alloc _ _ _ (by simp)).trans (World.alloc_heap_new w _)
  have hI1 : I [] W1 := OwnFrom.grow hI.1 h0 hb1
  -- what is said of a world between two rounds, of a world behind the last one
  obtain ⟨T, hT⟩ : ∃ T : LoopState → Option Code → World → Prop, T = fun st pe W => W.heap[w.heap.size + 1]? = some (.loop (rec st pe)) ∧ W.heap[w.heap.size]? = some (.deferred (some [])) := ⟨_, rfl⟩
  have hTown : ∀ st pe, OwnFrom W1.heap.size (fun (_ : List α) W => T st pe W) := by
    intro st pe s A B row hs hg' hr
    rw [hT] at hs ⊢
    have hl := (Array.getElem?_eq_some_iff.1 hs.1).1
    have hd := (Array.getElem?_eq_some_iff.1 hs.2).1
    exact ⟨(hg'.block _ hl (fun e => by have := (hr _ e.symm).1; omega)).trans hs.1, (hg'.block _ hd (fun e => by have := (hr _ e.symm).1; omega)).trans hs.2⟩
  have hTbut : ∀ st pe, OwnBut p0 g0 W1.heap.size (fun (_ : List α) W => T st pe W) := fun st pe => ⟨hTown st pe, fun s A A' hs hb => by
    rw [hT] at hs ⊢
    exact ⟨(hb.block _ (Array.getElem?_eq_some_iff.1 hs.1).1 (by omega) (by omega)).trans hs.1, (hb.block _ (Array.getElem?_eq_some_iff.1 hs.2).1 (by omega) (by omega)).trans hs.2⟩⟩
  refine ⟨w.heap.size + 1, [{ target := .collected w.heap.size, args := #[] }], W1, { target := .fn (.func gf) lb, args := #[.func (.yield (w.heap.size + 1)) #[] #[]] }, W1, gf,
    #[.func (.yield (w.heap.size + 1)) #[] #[]] ++ lb, W1, ?_, ?_, ?_, ?_, fun _ => h1, ?_⟩
  · rw [← hW1, hrec]; exact run_enterLoop_outer _ _ _ _ _
  · simp only [resolve, hg]
    simp [go_sem]
  · intro f' hf'
    simp [Target.leads] at hf'
    subst hf'
    exact hFg
  · simp [invoke, go_sem, eg]
  · refine (hit W1 hs1 hb1 (fun pre W => I pre W ∧ T .ready none W) (fun pre W => ∃ c, Ix c pre W ∧ T .done (some c) W)
      (OwnBut.and (OwnBut.mono hI (by omega)) (hTbut _ _))
      (fun s A B row ⟨c, hc, ht⟩ hg' hr => ⟨c, OwnFrom.mono (hIx c) (by omega) s A B row hc hg' hr, hTown _ _ s A B row ht hg' hr⟩) ?_ ⟨hI1, by rw [hT]; exact ⟨hL1, hD1⟩⟩).mono ?_
    · rintro pre x W ⟨hi, ht⟩ hok hN
      rw [hT] at ht
      obtain ⟨hl, hd⟩ := ht
      have hlt : w.heap.size + 1 < W.heap.size := (Array.getElem?_eq_some_iff.1 hl).1
      have hy := run_yield (P := P) (args := encs x) hl (by rw [hrec]; exact hps x)
      rw [hrec] at hy
      refine ⟨fn, _, assign, body, hy, roundIn_of_wpIn hfn (hassign _ x W _ hok (fun Wa hba hra => ?_))⟩
      have hla := (hba.block _ hlt).trans hl
      have hda := (hba.block _ (by omega)).trans hd
      have hia : I pre Wa := OwnFrom.grow hI.1 hi hba
      have hoa : Ok x Wa := OwnFrom.grow hOk hok hba
      have hlta : w.heap.size + 1 < Wa.heap.size := Nat.lt_of_lt_of_le hlt hba.size
      refine ⟨_, run_beginRound hla (by rw [hrec]), ?_⟩
      -- the world in which the body begins
      obtain ⟨W2, hW2⟩ : ∃ W2, Wa.putObj (w.heap.size + 1) (.loop { rec .ready none with state := .busy }) = W2 := ⟨_, rfl⟩
      rw [hW2]
      have hl2 : W2.heap[w.heap.size + 1]? = some (.loop { rec .ready none with state := .busy }) := by rw [← hW2]; exact World.putObj_heap_same hlta
      have hd2 : W2.heap[w.heap.size]? = some (.deferred (some [])) := by rw [← hW2]; exact (World.putObj_heap_other (by omega)).trans hda
      have hk2 : Kp W W2 := by rw [← hW2]; exact hKt (hKg hba) (hKb _ _ _ hla rfl)
      have hi2 : I pre W2 := by rw [← hW2]; exact hI.1.putObj _ hia (by omega) hla rfl
      have ho2 : Ok x W2 := by rw [← hW2]; exact OwnFrom.putObj hOk _ hoa (by omega) hla rfl
      have hr2 : R x W W2 := by rw [← hW2]; exact hR _ _ _ _ hra hlt
      -- whatever way the body is left
      have fin : ∀ (jump : Option Code) (W3 : World), KeepsFrom w.heap.size W2 W3 → Kp W2 W3 →
          ∃ W4, (Instr.endRound (w.heap.size + 1) jump).run P W3 = .ok (.bool jump.isNone) W4 ∧ T (if jump.isNone then .ready else .done) jump W4 ∧ Kp W W4 ∧ (I (pre ++ [x]) W3 → I (pre ++ [x]) W4) ∧ (∀ c, Ix c (pre ++ [x]) W3 → Ix c (pre ++ [x]) W4) := by
        intro jump W3 hk3 hkp
        have hl3 := hk3.same _ _ (by omega) hl2 rfl
        have hd3 := hk3.same _ _ (Nat.le_refl _) hd2 rfl
        refine ⟨_, run_endRound (P := P) jump hl3, ?_, hKt (hKt hk2 hkp) (hKb _ _ _ hl3 rfl), fun h => hI.1.putObj _ h (by omega) hl3 rfl, fun c h => (hIx c).putObj _ h (by omega) hl3 rfl⟩
        rw [hT, hrec]
        exact ⟨World.putObj_heap_same (Array.getElem?_eq_some_iff.1 hl3).1, (World.putObj_heap_other (by omega)).trans hd3⟩
      refine wpIn_mono (hbody _ pre x W W2 hi2 ho2 hN hlt hr2) ?_
      rintro e a3 W3 hp
      cases e with
      | normal =>
        obtain ⟨W4, hr, ht, hk, hi4, _⟩ := fin none W3 hp.1 hp.2.1
        exact ⟨_, _, hr, .inl ⟨rfl, ⟨hi4 hp.2.2, ht⟩, hk⟩⟩
      | ret =>
        obtain ⟨W4, hr, ht, hk, _, hx4⟩ := fin (some .ret) W3 hp.1 hp.2.1
        exact ⟨_, _, hr, .inr ⟨rfl, ⟨_, hx4 _ hp.2.2, ht⟩, hk⟩⟩
      | exit id =>
        obtain ⟨W4, hr, ht, hk, _, hx4⟩ := fin (some (.exit id)) W3 hp.1 hp.2.1
        exact ⟨_, _, hr, .inr ⟨rfl, ⟨_, hx4 _ hp.2.2, ht⟩, hk⟩⟩
      | goto t =>
        obtain ⟨W4, hr, ht, hk, _, hx4⟩ := fin (some (.goto t)) W3 hp.1 hp.2.1
        exact ⟨_, _, hr, .inr ⟨rfl, ⟨_, hx4 _ hp.2.2, ht⟩, hk⟩⟩
      | panic ch => exact hp.elim
      | outgrown => exact hp.elim
    · rintro e W2 ⟨⟨v, rfl⟩, (⟨xs, hS, hf, hi, ht⟩ | ⟨pre, hSp, c, hi, ht⟩)⟩
      · rw [hT] at ht
        have hr := run_endLoop (P := P) ht.1 (by rw [hrec]; simp)
        rw [hrec] at hr
        exact ⟨none, _, hr, hdone _ xs _ (Nat.le_refl _) hS (hFi.putObj (s := ()) _ hf (by omega) ht.1 rfl) (hI.1.putObj _ hi (by omega) ht.1 rfl) ((World.putObj_heap_other (by omega)).trans ht.2)⟩
      · rw [hT] at ht
        have hr := run_endLoop (P := P) ht.1 (by rw [hrec]; simp)
        rw [hrec] at hr
        exact ⟨some c, _, hr, hstop _ c pre _ (Nat.le_refl _) hSp ((hIx c).putObj _ hi (by omega) ht.1 rfl) ((World.putObj_heap_other (by omega)).trans ht.2)⟩

end
end Go.Proofs.Ythdfhbbfbohojaa
