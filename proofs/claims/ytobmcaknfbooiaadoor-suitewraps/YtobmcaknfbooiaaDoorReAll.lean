/-
  Several texts in one: ReEver, ReGate, ReRol, ReSpec, ReChaSpec, ReTab, ReQuarter, ReTurn, ReMixed, RePieces, ReWords, ReFirst, ReNum, ReBytes, ReBlock, ReKey, ReStream, RePadSpec, RePut, ReLenOf, ReVEq, ReOf.
-/
import Derived.Test.YtobmcaknfbooiaaDoorMade
import Derived.Test.YtobmcaknfbooiaaDoorOwn
import Derived.Test.YtobmcaknfbooiaaDoorLow
import Derived.StillTail
import Derived.Test.YtobmcaknfbooiaaDoorChecked
import Derived.WalkKit
import Derived.ProofKit
import Derived.Laws.BitsAllLaws
import Derived.Test.YtobmcaknfbooiaaDoorRow
import Derived.BigQuiet
import Derived.Test.YtobmcaknfbooiaaDoorLoop
import Derived.Shelf.Abstract
import Derived.Shelf.RegionOpen
import Derived.OwnWalkIn
import Derived.TacticsInMore
import Derived.LoopNIn
import Derived.LoopIn
import Derived.Maps.AppendAt
import Derived.Deep.AppendLies
import Derived.Test.YtobmcaknfbooiaaDoorMem
import Derived.Test.YtobmcaknfbooiaaDoorBut
import Derived.Laws.Bits64b
import Derived.ArgAppend
import Derived.Scope
import Derived.Test.YtobmcaknfbooiaaDoorBuck
import Derived.Test.YtobmcaknfbooiaaDoorBucket
import Derived.Laws.CopyOwn
import Derived.Deep.RegionHeld3
import Derived.Test.YtobmcaknfbooiaaDoorStr
/-
  A law of the walk that names no program: a range over a function that never ends by itself and tells value after value, by number; the loop's variable is an array; the loop leaves it within N rounds.
-/
namespace Go.Proofs.YtobmcaknfbooiaaDoor.Re
open Go Go.RowKit

section
variable {F : Fence} {n : Nat} {P : Program}

/-- The iterator, called in world W with the yield of loop l: it hands over number 0, 1, ..; it ends where a round has said no more, which comes within N rounds. -/
def IterEver (F : Fence) (n : Nat) (P : Program) (g : Nat) (lb : Array Value) (encs : Nat → Array Value) (Kp : World → World → Prop) (N : Nat) (l : Nat) (W : World) : Prop :=
  ∀ (J Jx : Nat → World → Prop), Low W.heap.size J → Low W.heap.size Jx → (∀ k W1, J k W1 → k < N) →
    (∀ k W1, J k W1 → YieldAt F (n - 1) P l (encs k) W1 fun e W' =>
      (e = .returned (.bool true) ∧ J (k + 1) W' ∧ Kp W1 W') ∨ (e = .returned (.bool false) ∧ Jx (k + 1) W' ∧ Kp W1 W')) →
    J 0 W →
    CallsIn F n P g (#[.func (.yield l) #[] #[]] ++ lb) W fun e W' => (∃ v, e = .returned v) ∧ ∃ k, Jx k W'

/-- How a round may be left. -/
def roundEver (B : Nat) (Kp : World → World → Prop) (I : Nat → World → Prop) (Ix : Code → Nat → World → Prop) (k : Nat) (W : World) : Exit → Act → World → Prop
  | .normal, _, W' => KeepsFrom B W W' ∧ Kp W W' ∧ I k W'
  | .ret, _, W' => KeepsFrom B W W' ∧ Kp W W' ∧ Ix .ret k W'
  | .exit id, _, W' => KeepsFrom B W W' ∧ Kp W W' ∧ Ix (.exit id) k W'
  | .goto t, _, W' => KeepsFrom B W W' ∧ Kp W W' ∧ Ix (.goto t) k W'
  | .panic _, _, _ => False
  | .outgrown, _, _ => False

theorem wpIn_rangeFunc_ever {g : Operand} {ps : Array Tmp} {assign body : Code} {Q : Exit → Act → World → Prop} {a : Act} {w : World}
    (hro : F.round = none) (h1 : 1 ≤ n) {gf : Nat} {lb : Array Value} (hg : a.eval g = .func (.func gf) #[] lb) (hFg : F.fn gf) (eg : ∀ args w, (callFunc gf args).run P w = .ok (.enter gf args) w)
    {encs : Nat → Array Value} {Kp : World → World → Prop} {N : Nat}
    (hit : ∀ W, W.heap.size = w.heap.size + 2 → Below w.heap.size w W → IterEver F (n - 1) P gf lb encs Kp N (w.heap.size + 1) W)
    (hKt : ∀ {A B C : World}, Kp A B → Kp B C → Kp A C) (hKb : ∀ (W : World) (o o' : Obj), W.heap[w.heap.size + 1]? = some o → o.isCells = false → Kp W (W.putObj (w.heap.size + 1) o'))
    (hKg : ∀ {A B : World}, Below A.heap.size A B → Kp A B) (hps : ∀ x, (encs x).size = ps.size) (t : TypeId) (c : Nat → List Value)
    (I : Nat → World → Prop) (Ix : Code → Nat → World → Prop) (hI : Low w.heap.size I) (hIx : ∀ c, Low w.heap.size (Ix c)) (hN : ∀ k W, I k W → k < N) (h0 : I 0 w) (a₁ : Nat → World → Act)
    (hassign : ∀ (l : Nat) (x : Nat) (W : World) (K : Act → World → Prop), (∀ W', Below W.heap.size W W' → Row W' W.heap.size t (c x) → K (a₁ x W) W') →
      assign.wpIn (F.inRound l) (n - 1 - 1) P (Exit.then K (fun _ _ _ => False)) { tmps := (ps.zip (encs x)).foldl (fun t (p, v) => t.setIfInBounds p v) a.tmps, defers := [] } W)
    (hbody : ∀ (l : Nat) (x : Nat) (W₀ W : World), I x W → w.heap.size ≤ W₀.heap.size → Row W W₀.heap.size t (c x) → body.wpIn (F.inRound l) (n - 1 - 1) P (roundEver w.heap.size Kp I Ix (x + 1) W) (a₁ x W₀) W)
    (hstop : ∀ (D : Nat) (c : Code) (k : Nat) (W : World), w.heap.size ≤ D → Ix c k W → W.heap[D]? = some (.deferred (some [])) → c.wpIn F n P Q { a with defers := { target := .collected D, args := #[] } :: a.defers } W) :
    (Code.rangeFunc g ps assign body).wpIn F n P Q a w := by
  refine wpIn_rangeFunc fun fn hfn => ?_
  rw [hro]
  -- the loop's record, by its state and its pending jump
  obtain ⟨rec, hrec⟩ : ∃ rec : LoopState → Option Code → Loop, rec = fun st pe => { state := st, pending := pe, fn, tmps := a.tmps, params := ps, assign, body, defers := w.heap.size } := ⟨_, rfl⟩
  obtain ⟨W1, hW1⟩ : ∃ W1, (w.alloc (.deferred (some []))).alloc (.loop (rec .ready none)) = W1 := ⟨_, rfl⟩
  have hs1 : W1.heap.size = w.heap.size + 2 := by rw [← hW1]; simp
  have hb1 : Below w.heap.size w W1 := by rw [← hW1]; exact ((Below.refl _ w).alloc (Nat.le_refl _) _).alloc (by simp) _
  have hL1 : W1.heap[w.heap.size + 1]? = some (.loop (rec .ready none)) := by
    rw [← hW1]; have := World.alloc_heap_new (w.alloc (.deferred (some []))) (.loop (rec .ready none)); rwa [World.size_alloc] at this
  have hD1 : W1.heap[w.heap.size]? = some (.deferred (some [])) := by
    rw [← hW1]; exact (Below.heap_alloc _ _ _ (by simp)).trans (World.alloc_heap_new w _)
  have hI1 : I 0 W1 := hI _ _ _ h0 hb1
  -- what is said of a world between two rounds, of a world behind the last one
  obtain ⟨T, hT⟩ : ∃ T : LoopState → Option Code → World → Prop, T = fun st pe W => W.heap[w.heap.size + 1]? = some (.loop (rec st pe)) ∧ W.heap[w.heap.size]? = some (.deferred (some [])) := ⟨_, rfl⟩
  have hTlow : ∀ st pe, Low W1.heap.size (fun (_ : Nat) W => T st pe W) := by
    intro st pe s A B hs hg'
    rw [hT] at hs ⊢
    exact ⟨(hg'.block _ (by omega)).trans hs.1, (hg'.block _ (by omega)).trans hs.2⟩
  refine ⟨w.heap.size + 1, [{ target := .collected w.heap.size, args := #[] }], W1, { target := .fn (.func gf) lb, args := #[.func (.yield (w.heap.size + 1)) #[] #[]] }, W1, gf,
    #[.func (.yield (w.heap.size + 1)) #[] #[]] ++ lb, W1, ?_, ?_, ?_, ?_, fun _ => h1, ?_⟩
  · rw [← hW1, hrec]; exact run_enterLoop_outer _ _ _ _ _
  · simp only [resolve, hg]
    simp [go_sem]
  · intro f' hf'
    simp [Target.leads] at hf'
    subst hf'
    exact hFg
  · simp [invoke, go_sem, eg]
  · refine (hit W1 hs1 hb1 (fun pre W => I pre W ∧ T .ready none W) (fun pre W => ∃ c, Ix c pre W ∧ T .done (some c) W)
      (Low.and (hI.mono (by omega)) (hTlow _ _))
      (fun s A B ⟨c, hc, ht⟩ hg' => ⟨c, (hIx c).mono (by omega) s A B hc hg', hTlow _ _ s A B ht hg'⟩) (fun k W1 h => hN k W1 h.1) ?_ ⟨hI1, by rw [hT]; exact ⟨hL1, hD1⟩⟩).mono ?_
    · rintro x W ⟨hi, ht⟩
      rw [hT] at ht
      obtain ⟨hl, hd⟩ := ht
      have hlt : w.heap.size + 1 < W.heap.size := (Array.getElem?_eq_some_iff.1 hl).1
      have hy := run_yield (P := P) (args := encs x) hl (by rw [hrec]; exact hps x)
      rw [hrec] at hy
      refine ⟨fn, _, assign, body, hy, roundIn_of_wpIn hfn (hassign _ x W _ (fun Wa hba hra => ?_))⟩
      have hla := (hba.block _ hlt).trans hl
      have hda := (hba.block _ (by omega)).trans hd
      have hia : I x Wa := hI _ _ _ hi (hba.mono (by omega))
      have hlta : w.heap.size + 1 < Wa.heap.size := Nat.lt_of_lt_of_le hlt hba.size
      refine ⟨_, run_beginRound hla (by rw [hrec]), ?_⟩
      -- the world in which the body begins
      obtain ⟨W2, hW2⟩ : ∃ W2, Wa.putObj (w.heap.size + 1) (.loop { rec .ready none with state := .busy }) = W2 := ⟨_, rfl⟩
      rw [hW2]
      have hl2 : W2.heap[w.heap.size + 1]? = some (.loop { rec .ready none with state := .busy }) := by rw [← hW2]; exact World.putObj_heap_same hlta
      have hd2 : W2.heap[w.heap.size]? = some (.deferred (some [])) := by rw [← hW2]; exact (World.putObj_heap_other (by omega)).trans hda
      have hk2 : Kp W W2 := by rw [← hW2]; exact hKt (hKg hba) (hKb _ _ _ hla rfl)
      have hi2 : I x W2 := by rw [← hW2]; exact low_putObj hI _ hia (by omega)
      have hr2 : Row W2 W.heap.size t (c x) := by rw [← hW2]; exact (World.putObj_heap_other (by omega)).trans hra
      -- whatever way the body is left
      have fin : ∀ (jump : Option Code) (W3 : World), KeepsFrom w.heap.size W2 W3 → Kp W2 W3 →
          ∃ W4, (Instr.endRound (w.heap.size + 1) jump).run P W3 = .ok (.bool jump.isNone) W4 ∧ T (if jump.isNone then .ready else .done) jump W4 ∧ Kp W W4 ∧ (I (x + 1) W3 → I (x + 1) W4) ∧ (∀ c, Ix c (x + 1) W3 → Ix c (x + 1) W4) := by
        intro jump W3 hk3 hkp
        have hl3 := hk3.same _ _ (by omega) hl2 rfl
        have hd3 := hk3.same _ _ (Nat.le_refl _) hd2 rfl
        refine ⟨_, run_endRound (P := P) jump hl3, ?_, hKt (hKt hk2 hkp) (hKb _ _ _ hl3 rfl), fun h => low_putObj hI _ h (by omega), fun c h => low_putObj (hIx c) _ h (by omega)⟩
        rw [hT, hrec]
        exact ⟨World.putObj_heap_same (Array.getElem?_eq_some_iff.1 hl3).1, (World.putObj_heap_other (by omega)).trans hd3⟩
      refine wpIn_mono (hbody _ x W W2 hi2 (by omega) hr2) ?_
      rintro e a3 W3 hp
      cases e with
      | normal =>
        obtain ⟨W4, hr, ht, hk, hi4, _⟩ := fin none W3 hp.1 hp.2.1
        exact ⟨_, _, hr, .inl ⟨rfl, ⟨hi4 hp.2.2, ht⟩, hk⟩⟩
      | ret =>
        obtain ⟨W4, hr, ht, hk, _, hx4⟩ := fin (some .ret) W3 hp.1 hp.2.1
        exact ⟨_, _, hr, .inr ⟨rfl, ⟨_, hx4 _ hp.2.2, ht⟩, hk⟩⟩
      | exit id =>
        obtain ⟨W4, hr, ht, hk, _, hx4⟩ := fin (some (.exit id)) W3 hp.1 hp.2.1
        exact ⟨_, _, hr, .inr ⟨rfl, ⟨_, hx4 _ hp.2.2, ht⟩, hk⟩⟩
      | goto t =>
        obtain ⟨W4, hr, ht, hk, _, hx4⟩ := fin (some (.goto t)) W3 hp.1 hp.2.1
        exact ⟨_, _, hr, .inr ⟨rfl, ⟨_, hx4 _ hp.2.2, ht⟩, hk⟩⟩
      | panic ch => exact hp.elim
      | outgrown => exact hp.elim
    · rintro e W2 ⟨⟨v, rfl⟩, ⟨k, c, hi, ht⟩⟩
      rw [hT] at ht
      have hr := run_endLoop (P := P) ht.1 (by rw [hrec]; simp)
      rw [hrec] at hr
      exact ⟨some c, _, hr, hstop _ c k _ (Nat.le_refl _) (low_putObj (hIx c) _ hi (by omega)) ((World.putObj_heap_other (by omega)).trans ht.2)⟩

end
end Go.Proofs.YtobmcaknfbooiaaDoor.Re
/-
  A law of the walk that names no program: a region that draws its order and whose operation number c (the first that writes) waits for all that read: what is read hangs on the world ahead of c alone; behind c nothing is asked of the world.
-/
namespace Go.Proofs.YtobmcaknfbooiaaDoor.Re
open Go Go.RowKit

section
variable {P : Program} {ops : Array Oper} {Q : Exit → Act → World → Prop} {md : Region.Mode} {c : Nat} {T : World → Prop}

theorem gone {b : Bool} {p : Prop} (h : b = true) : b = false → p := fun h' => by rw [h] at h'; cases h'

/-- Whatever order is picked from here on, and T holds behind every operation that is carried out ahead of c. -/
def wpAnyG (P : Program) (md : Region.Mode) (ops : Array Oper) (Q : Exit → Act → World → Prop) (c : Nat) (T : World → Prop) : Nat → Array Bool → Act → World → Prop
  | 0, listed, a, w => Region.ready md ops listed = [] ∧ Q .normal a w
  | fuel + 1, listed, a, w =>
    (Region.ready md ops listed = [] → Q .normal a w) ∧
    ∀ i ∈ Region.ready md ops listed, wpOp P ops Q i (fun a' w' => ((listed.setIfInBounds i true).getD c false = false → T w') ∧ wpAnyG P md ops Q c T fuel (listed.setIfInBounds i true) a' w') a w

theorem wpAny_of_G : ∀ (fuel : Nat) (listed : Array Bool) (a : Act) (w : World), wpAnyG P md ops Q c T fuel listed a w → wpAny P md ops Q fuel listed a w
  | 0, _, _, _, h => h
  | fuel + 1, _, _, _, h => ⟨h.1, fun i hi => wpOp_mono (fun a' w' h' => wpAny_of_G fuel _ a' w' h'.2) (h.2 i hi)⟩

theorem wpAnyG_first {i : Nat} {oi : Oper} {v : Value} (hi : ops[i]? = some oi) (hsel : ∀ (j : Nat) (o : Oper) cs b, ops[j]? = some o → o.op ≠ .select cs b)
    (hQ : ∀ c a w, Q (.panic c) (a.put oi.dst v) w → Q (.panic c) a w) (hic : i ≠ c) :
    ∀ (fuel : Nat) (listed : Array Bool) (a : Act) (w : World),
      (∀ j oj, ops[j]? = some oj → j ≠ i → listed.getD j true = false → (∀ e ∈ oj.after, Region.binds md e = true → e.on ≠ i) → oi.apart ops oj = true) →
      i ∈ Region.ready md ops listed → (Region.waitsFor md ops c i = true → listed.getD c false = false) → YieldsIf P ops (fun w => Region.waitsFor md ops c i = true → T w) oi v a → (listed.getD c false = false → T w) →
      wpAnyG P md ops Q c T fuel (listed.setIfInBounds i true) (a.put oi.dst v) w → wpAnyG P md ops Q c T (fuel + 1) listed a w := by
  intro fuel
  induction fuel with
  | zero =>
    intro listed a w _ hr hc hy hS H
    refine ⟨fun h => (by rw [h] at hr; cases hr), fun j hj => ?_⟩
    by_cases hji : j = i
    · subst hji; exact hy.wpOp hi (fun h => hS (hc h)) ⟨fun h => hS (by rwa [getD_set_ne false hic] at h), H⟩
    · have := ready_mono hj hji
      rw [H.1] at this
      cases this
  | succ fuel ih =>
    intro listed a w hfree hr hc hy hS H
    refine ⟨fun h => (by rw [h] at hr; cases hr), fun j hj => ?_⟩
    by_cases hji : j = i
    · subst hji; exact hy.wpOp hi (fun h => hS (hc h)) ⟨fun h => hS (by rwa [getD_set_ne false hic] at h), H⟩
    · have h1 := H.2 j (ready_mono hj hji)
      obtain ⟨hjun, oj, hoj, hall⟩ := mem_ready.1 hj
      have hnot : ∀ e ∈ oj.after, Region.binds md e = true → e.on ≠ i := fun e he hb heq => by
        have h1 := hall e he hb
        have h0 := (mem_ready.1 hr).1
        rw [heq] at h1
        rcases Nat.lt_or_ge i listed.size with h' | h'
        · simp [h'] at h0 h1; rw [h0] at h1; cases h1
        · simp [Array.getElem?_eq_none h'] at h1
      have h2 := wpOp_putIf hoj (hfree j oj hoj hji hjun hnot) (fun cs b => hsel i oi cs b hi) (fun cs b => hsel j oj cs b hoj) hQ hy h1
      have hfree' : ∀ k ok, ops[k]? = some ok → k ≠ i → (listed.setIfInBounds j true).getD k true = false →
          (∀ e ∈ ok.after, Region.binds md e = true → e.on ≠ i) → oi.apart ops ok = true := fun k ok hk hki hun hno => by
        refine hfree k ok hk hki ?_ hno
        by_cases hjk : j = k
        · subst hjk; exact hjun
        · rw [getD_set_ne true hjk] at hun; exact hun
      have hc' : Region.waitsFor md ops c i = true → (listed.setIfInBounds j true).getD c false = false := fun hw => by
        by_cases hjc : j = c
        · subst hjc
          obtain ⟨o', ho', e, he, hb, hon⟩ := Region.waitsFor_spec hw
          obtain rfl := Option.some.inj (hoj.symm.trans ho')
          exact absurd hon (hnot e he hb)
        · rw [getD_set_ne false hjc]; exact hc hw
      refine wpOp_mono (fun a' w' h3 => ?_) h2
      have hS' : (listed.setIfInBounds j true).getD c false = false → T w' := fun h => h3.2.1 (by rw [Array.setIfInBounds_comm _ _ (Ne.symm hji), getD_set_ne false hic]; exact h)
      refine ⟨hS', ih (listed.setIfInBounds j true) a' w' hfree' (ready_mono hr (Ne.symm hji)) hc' h3.1 hS' ?_⟩
      rw [Array.setIfInBounds_comm _ _ hji]
      exact h3.2.2

/-- The operations k, .., k + m - 1 may be taken first, one behind the other; those that c waits for only while c is still to come. -/
def takesGB (md : Region.Mode) (ops : Array Oper) (c : Nat) : Nat → Nat → Array Bool → Bool
  | 0, _, _ => true
  | m + 1, k, listed => (Region.ready md ops listed).contains k && Region.free md ops listed k && (k != c) && (!Region.waitsFor md ops c k || !listed.getD c false) && takesGB md ops c m (k + 1) (listed.setIfInBounds k true)

/-- Each operation yields its value in every world, or, where c waits for it, in every world that meets T. -/
def wpHeldG (P : Program) (md : Region.Mode) (ops : Array Oper) (c : Nat) (T : World → Prop) (K : Act → Prop) : Nat → List Oper → Act → Prop
  | _, [], a => K a
  | k, o :: rest, a => ∃ v, YieldsIf P ops (fun w => Region.waitsFor md ops c k = true → T w) o v a ∧ wpHeldG P md ops c T K (k + 1) rest (a.put o.dst v)

theorem wpHeldG_nil {K : Act → Prop} {k : Nat} {a : Act} (h : K a) : wpHeldG P md ops c T K k [] a := h
/-- .. in every world. -/
theorem wpHeldG_free {K : Act → Prop} {k : Nat} {a : Act} {o : Oper} {rest : List Oper} {v : Value} (hw : Region.wanted o (yielded ops a.tmps) = true)
    (hy : ∀ w, (execOp a.eval o).run P w = .ok (.value v) w) (h : wpHeldG P md ops c T K (k + 1) rest (a.put o.dst v)) : wpHeldG P md ops c T K k (o :: rest) a :=
  ⟨v, .inl ⟨hw, fun w _ => hy w⟩, h⟩
/-- .. in every world that meets T. -/
theorem wpHeldG_step {K : Act → Prop} {k : Nat} {a : Act} {o : Oper} {rest : List Oper} {v : Value} (hw : Region.wanted o (yielded ops a.tmps) = true) (hc : Region.waitsFor md ops c k = true)
    (hy : ∀ w, T w → (execOp a.eval o).run P w = .ok (.value v) w) (h : wpHeldG P md ops c T K (k + 1) rest (a.put o.dst v)) : wpHeldG P md ops c T K k (o :: rest) a :=
  ⟨v, .inl ⟨hw, fun w h => hy w (h hc)⟩, h⟩

theorem wpAnyG_takes (hQ : ∀ c a w d v, Q (.panic c) (Act.put a d v) w → Q (.panic c) a w) (hs : Region.noSelect ops = true) {w : World} (fuel : Nat) :
    ∀ (l : List Oper) (k : Nat) (listed : Array Bool) (a : Act), (listed.getD c false = false → T w) → (∀ j, j < l.length → l[j]? = ops[k + j]?) → takesGB md ops c l.length k listed = true →
      wpHeldG P md ops c T (fun a' => wpAnyG P md ops Q c T fuel (listedFrom l.length k listed) a' w) k l a → wpAnyG P md ops Q c T (fuel + l.length) listed a w
  | [], _, _, _, _, _, _, h => h
  | o :: l, k, listed, a, hS, hl, hB, h => by
    obtain ⟨v, hy, h⟩ := h
    have h0 : ops[k]? = some o := by simpa using (hl 0 (by simp)).symm
    simp only [List.length_cons, takesGB, Bool.and_eq_true, Bool.or_eq_true, Bool.not_eq_true', bne_iff_ne, ne_eq] at hB
    obtain ⟨⟨⟨⟨hr, hf⟩, hkc⟩, hw⟩, hB'⟩ := hB
    refine wpAnyG_first h0 (Region.noSelect_spec hs) (fun c a w => hQ c a w _ _) hkc _ listed a w (Region.free_spec h0 hf) (by simpa using hr) (fun hh => hw.resolve_left (by rw [hh]; exact Bool.noConfusion)) hy hS ?_
    exact wpAnyG_takes hQ hs fuel l (k + 1) _ _ (fun h => hS (by rwa [getD_set_ne false hkc] at h)) (fun j hj => by have := hl (j + 1) (by simp; omega); simpa [Nat.add_assoc, Nat.add_comm 1 j] using this) hB' h

/-- m operations from number k on, taken first, one behind the other. -/
theorem wpAnyG_takesAt {l : List Oper} (k m fuel : Nat) {N : Nat} {listed : Array Bool} {a : Act} {w : World} (hkm : k + m ≤ l.length) (hN : N = fuel + m) (hQ : ∀ c a w d v, Q (.panic c) (Act.put a d v) w → Q (.panic c) a w)
    (hs : Region.noSelect l.toArray = true) (hB : takesGB md l.toArray c m k listed = true) (hS : listed.getD c false = false → T w)
    (h : wpHeldG P md l.toArray c T (fun a' => wpAnyG P md l.toArray Q c T fuel (listedFrom m k listed) a' w) k ((l.drop k).take m) a) : wpAnyG P md l.toArray Q c T N listed a w := by
  have hl : ((l.drop k).take m).length = m := by simp; omega
  subst hN
  have := wpAnyG_takes (md := md) hQ hs fuel ((l.drop k).take m) k listed a hS (fun j hj => by
    rw [hl] at hj
    simp [hj]) (by rw [hl]; exact hB) (by rw [hl]; exact h)
  rwa [hl] at this

/-- Whatever order: operation i alone may come up. -/
theorem wpAnyG_only {i fuel : Nat} {listed : Array Bool} {o : Oper} {a : Act} {w : World} (hr : Region.ready md ops listed = [i]) (ho : ops[i]? = some o) (hw : Region.wanted o (yielded ops a.tmps) = true)
    (h : ∀ K' : Act → World → Prop, Hid (∀ a w, ((listed.setIfInBounds i true).getD c false = false → T w) → wpAnyG P md ops Q c T fuel (listed.setIfInBounds i true) a w → K' a w) → Oper.wp P o a w K' Q) :
    wpAnyG P md ops Q c T (fuel + 1) listed a w :=
  ⟨fun h0 => (by rw [hr] at h0; cases h0), fun j hj => by
    rw [hr] at hj
    have : j = i := by simpa using hj
    subst this
    exact wpOp_step ho (fun K' hK => by rw [if_pos hw]; exact h K' (fun a w hS hW => hK a w ⟨hS, hW⟩))⟩

theorem wpAnyG_done {listed : Array Bool} {a : Act} {w : World} (hr : Region.ready md ops listed = []) (h : Q .normal a w) :
    ∀ fuel, wpAnyG P md ops Q c T fuel listed a w
  | 0 => ⟨hr, h⟩
  | _ + 1 => ⟨fun _ => h, by rw [hr]; simp⟩

/-- The beginning: a region that draws its order. -/
theorem wp_region_gate' {id : Nat} {a : Act} {w : World} (c : Nat) (T : World → Prop) (hm : P.follows .mixedOrders = true)
    (h : wpAnyG P .any ops Q c T ops.size (Array.replicate ops.size false) a w.drew) : (Code.region id ops true).wp P Q a w :=
  wp_region_any hm (wpAny_of_G _ _ _ _ h)
/-- .. cut off: what it leaves is R. -/
theorem wp_region_gate {id : Nat} {a : Act} {w : World} (c : Nat) (T : World → Prop) (R : Act → World → Prop) (hm : P.follows .mixedOrders = true)
    (h : wpAnyG P .any ops (OnOnly fun _ a w => R a w) c T ops.size (Array.replicate ops.size false) a w.drew) (hR : ∀ a' w', R a' w' → Q .normal a' w') : (Code.region id ops true).wp P Q a w := by
  refine wp_mono (wp_region_any hm (wpAny_of_G _ _ _ _ h)) (fun e a' w' h' => ?_)
  cases e <;> first | exact hR _ _ h' | exact (h' : False).elim
/-- .. in a round. -/
theorem wpIn_region_gate_round {l m id : Nat} {a : Act} {w : World} (c : Nat) (T : World → Prop) (R : Act → World → Prop) (hm : P.follows .mixedOrders = true) (hd : noDefer ops = true)
    (h : wpAnyG P .any ops (OnOnly fun _ a w => R a w) c T ops.size (Array.replicate ops.size false) a w.drew) (hR : ∀ a' w', R a' w' → Q .normal a' w') : (Code.region id ops true).wpIn (Fence.wide.inRound l) m P Q a w := by
  refine wpIn_mono (wpIn_region_any hm (wpAnyIn_of_wpAny l m hd OnOnly.not_out _ _ _ _ (wpAny_of_G _ _ _ _ h))) (fun e a' w' h' => ?_)
  cases e <;> first | exact hR _ _ h' | exact (h' : False).elim
end
end Go.Proofs.YtobmcaknfbooiaaDoor.Re
/-
  What vec.Rol, the reference's Rol and math/bits.RotateLeft32 answer: the word turned up by n modulo 32 bits, for every word and every n; and that turning back by as many bits gives the word again.
-/
namespace Go.Proofs.YtobmcaknfbooiaaDoor.Re
open Go.RowKit

theorem i64_and31 (n : Int) : bits .and .i64 n 31 = n % 32 := by
  have h31 : (BitVec.ofInt 64 31).toNat = 2 ^ 5 - 1 := by decide
  have key : (BitVec.ofInt 64 n &&& BitVec.ofInt 64 31).toNat = (n % ((2 ^ 64 : Nat) : Int)).toNat % 2 ^ 5 := by
    rw [BitVec.toNat_and, BitVec.toNat_ofInt, h31, Nat.and_two_pow_sub_one_eq_mod]
  show IntKind.i64.wrap ((BitVec.ofInt 64 n &&& BitVec.ofInt 64 31).toNat : Nat) = n % 32
  rw [key, IntKind.wrap_i64]
  omega
theorem u64_and31 (n : Int) : bits .and .u64 (IntKind.u64.wrap n) 31 = n % 32 := by
  have h31 : (BitVec.ofInt 64 31).toNat = 2 ^ 5 - 1 := by decide
  have key : (BitVec.ofInt 64 (IntKind.u64.wrap n) &&& BitVec.ofInt 64 31).toNat = ((IntKind.u64.wrap n) % ((2 ^ 64 : Nat) : Int)).toNat % 2 ^ 5 := by
    rw [BitVec.toNat_and, BitVec.toNat_ofInt, h31, Nat.and_two_pow_sub_one_eq_mod]
  show IntKind.u64.wrap ((BitVec.ofInt 64 (IntKind.u64.wrap n) &&& BitVec.ofInt 64 31).toNat : Nat) = n % 32
  rw [key, IntKind.wrap_u64, IntKind.wrap_u64]
  omega

/-- x, turned up by k bits (k below 32). -/
def rolN (x k : Nat) : Nat := x * 2 ^ k % 4294967296 + x / 2 ^ (32 - k)

theorem pow_split (k : Nat) (hk : k ≤ 32) : 2 ^ k * 2 ^ (32 - k) = 4294967296 := by
  rw [← Nat.pow_add, show k + (32 - k) = 32 by omega]

theorem rolN_eq (x k : Nat) (hk : k ≤ 32) : rolN x k = 2 ^ k * (x % 2 ^ (32 - k)) + x / 2 ^ (32 - k) := by
  unfold rolN
  rw [← pow_split k hk, Nat.mul_comm x, Nat.mul_mod_mul_left]

theorem rolN_lt (x k : Nat) (hx : x < 4294967296) (hk : k ≤ 32) : rolN x k < 4294967296 := by
  rw [rolN_eq x k hk]
  have hb : 0 < 2 ^ (32 - k) := Nat.two_pow_pos _
  have h1 := Nat.mod_lt x hb
  have h2 : x / 2 ^ (32 - k) < 2 ^ k := Nat.div_lt_of_lt_mul (by rw [Nat.mul_comm, pow_split k hk]; exact hx)
  have h3 := pow_split k hk
  have h4 : 2 ^ k * (x % 2 ^ (32 - k)) + 2 ^ k ≤ 2 ^ k * 2 ^ (32 - k) := by
    rw [← Nat.mul_succ]; exact Nat.mul_le_mul_left _ h1
  omega

theorem rolN_back (x k : Nat) (hx : x < 4294967296) (hk : k ≤ 32) : rolN (rolN x k) (32 - k) = x := by
  rw [rolN_eq _ (32 - k) (by omega), show 32 - (32 - k) = k by omega, rolN_eq x k hk]
  have hb : 0 < 2 ^ (32 - k) := Nat.two_pow_pos _
  have ha : 0 < 2 ^ k := Nat.two_pow_pos _
  have h2 : x / 2 ^ (32 - k) < 2 ^ k := Nat.div_lt_of_lt_mul (by rw [Nat.mul_comm, pow_split k hk]; exact hx)
  rw [Nat.mul_add_mod, Nat.mod_eq_of_lt h2, Nat.mul_add_div ha, Nat.div_eq_of_lt h2]
  have := Nat.div_add_mod x (2 ^ (32 - k))
  omega

theorem rolN_zero (x : Nat) (hx : x < 4294967296) : rolN x 0 = x := by
  unfold rolN; omega

theorem or_rolN (X k : Nat) (hX : X < 4294967296) (hk : k ≤ 32) : bits .or .u32 ((X : Int) * 2 ^ k % 4294967296) ((X : Int) / 2 ^ (32 - k)) = ((rolN X k : Nat) : Int) := by
  have h2 : X / 2 ^ (32 - k) < 2 ^ k := Nat.div_lt_of_lt_mul (by rw [Nat.mul_comm, pow_split k hk]; exact hX)
  have hp : 2 ^ k ≤ 4294967296 := by have h := Nat.pow_le_pow_right (n := 2) (by decide) hk; exact h
  have e1 : ((X : Int) * 2 ^ k % 4294967296) = ((X * 2 ^ k % 4294967296 : Nat) : Int) := by simp
  have e2 : ((X : Int) / 2 ^ (32 - k)) = ((X / 2 ^ (32 - k) : Nat) : Int) := by simp
  have h5 : X * 2 ^ k % 4294967296 < 4294967296 := Nat.mod_lt _ (by decide)
  have h7 : X * 2 ^ k % 4294967296 % 2 ^ k = 0 := by
    rw [← pow_split k hk, Nat.mul_comm X, Nat.mul_mod_mul_left]; simp
  have h8 : X / 2 ^ (32 - k) < 4294967296 := by omega
  unfold rolN
  rw [e1, e2]
  clear e1 e2
  generalize X * 2 ^ k % 4294967296 = U at *
  generalize X / 2 ^ (32 - k) = V at *
  rw [bits_join .u32 32 (by decide) (fun n h0 h1 => by rw [IntKind.wrap_u32]; omega) k]
  · simp
  · omega
  · exact_mod_cast h7
  · omega
  · omega
  · exact_mod_cast h2
  · omega


set_option maxHeartbeats 400000 in
theorem rot_any (X : Nat) (n : Int) (k : Nat) (w : World) (h1 : X < 4294967296) (hk : n % 32 = k) (hk2 : k < 32) :
    Calls Tryd.prog 96 #[.int .u32 X, .int .i64 n] w fun e w' => e = .returned (.int .u32 (rolN X k)) ∧ w' = w := by
  have e := u64_and31 n
  rw [hk] at e
  clear hk
  go_enter Tryd.func96, Tryd.ntmps96
  go_wp2
  go_ret
  rw [← or_rolN X k h1 (by omega)]
  exact ⟨rfl, rfl⟩

set_option maxHeartbeats 400000 in
/-- vec.Rol -/
theorem rol_any (X : Nat) (n : Int) (k : Nat) (w : World) (h1 : X < 4294967296) (hk : n % 32 = k) (hk2 : k < 32) :
    Calls Tryd.prog 95 #[.int .u32 X, .int .i64 n] w fun e w' => e = .returned (.int .u32 (rolN X k)) ∧ w' = w := by
  have HK : Hid (n % 32 = k) := hk
  clear hk
  go_enter Tryd.func95, Tryd.ntmps95
  go_wp2_with (go_at_call 96; refine (rot_any X n k _ h1 HK.out hk2).mono ?_; rintro e w' ⟨rfl, rfl⟩)
  go_ret
  exact ⟨rfl, rfl⟩

end Go.Proofs.YtobmcaknfbooiaaDoor.Re
/-
  Numbers below a bound, words of bytes: what the other texts use. It names no program.
-/
namespace Go.Proofs.YtobmcaknfbooiaaDoor.Re
open Go Go.RowKit

def wordB (a b c d : Nat) : Nat := 16777216 * a + 65536 * b + 256 * c + d
theorem all_getD {l : List Nat} {N : Nat} (hN : 0 < N) (h : ∀ z ∈ l, z < N) (i : Nat) : l.getD i 0 < N := by
  by_cases hi : i < l.length
  · simp only [List.getD_eq_getElem?_getD, List.getElem?_eq_getElem hi, Option.getD_some]; exact h _ (List.getElem_mem hi)
  · simp [List.getElem?_eq_none (show l.length ≤ i by omega), hN]
theorem wordB_lt {a b c d : Nat} (ha : a < 256) (hb : b < 256) (hc : c < 256) (hd : d < 256) : wordB a b c d < 4294967296 := by unfold wordB; omega
theorem xor_lt {x y : Nat} (hx : x < 4294967296) (hy : y < 4294967296) : x ^^^ y < 4294967296 := Nat.xor_lt_two_pow (n := 32) hx hy
end Go.Proofs.YtobmcaknfbooiaaDoor.Re
/-
  ChaCha20 on plain numbers (RFC 8439): a quarter, a block, a text that is turned; there and back, and a part from a multiple of 64 on. It names no program.
-/
namespace Go.Proofs.YtobmcaknfbooiaaDoor.Re

/-- A quarter. -/
def quarterN (a b c d : Nat) : Nat × Nat × Nat × Nat :=
  let a1 := (a + b) % 4294967296
  let d1 := rolN (d ^^^ a1) 16
  let c1 := (c + d1) % 4294967296
  let b1 := rolN (b ^^^ c1) 12
  let a2 := (a1 + b1) % 4294967296
  let d2 := rolN (d1 ^^^ a2) 8
  let c2 := (c1 + d2) % 4294967296
  let b2 := rolN (b1 ^^^ c2) 7
  (a2, b2, c2, d2)
theorem quarterN_lt {a b c d : Nat} (hb : b < 4294967296) (hd : d < 4294967296) :
    (quarterN a b c d).1 < 4294967296 ∧ (quarterN a b c d).2.1 < 4294967296 ∧ (quarterN a b c d).2.2.1 < 4294967296 ∧ (quarterN a b c d).2.2.2 < 4294967296 := by
  have m : ∀ x : Nat, x % 4294967296 < 4294967296 := fun x => Nat.mod_lt _ (by decide)
  have r : ∀ {x y : Nat} (k : Nat), x < 4294967296 → y < 4294967296 → k ≤ 32 → rolN (x ^^^ y) k < 4294967296 := fun k hx hy hk => rolN_lt _ k (xor_lt hx hy) hk
  exact ⟨m _, r 7 (r 12 hb (m _) (by omega)) (m _) (by omega), m _, r 8 (r 16 hd (m _) (by omega)) (m _) (by omega)⟩
/-- The chapter's example. -/
theorem quarterN_example : quarterN 0x11111111 0x01020304 0x9b8d6f43 0x01234567 = (0xea2a92f4, 0xcb1cf8ce, 0x4581472e, 0x5881c4bb) := by kernel_rfl

/-- A quarter over four places of a state. -/
def quarterAt (x : List Nat) (i j k l : Nat) : List Nat :=
  let q := quarterN (x.getD i 0) (x.getD j 0) (x.getD k 0) (x.getD l 0)
  (((x.set i q.1).set j q.2.1).set k q.2.2.1).set l q.2.2.2
@[simp] theorem quarterAt_length (x : List Nat) (i j k l : Nat) : (quarterAt x i j k l).length = x.length := by simp [quarterAt]
theorem quarterAt_lt {x : List Nat} (h : ∀ z ∈ x, z < 4294967296) (i j k l : Nat) : ∀ z ∈ quarterAt x i j k l, z < 4294967296 := by
  have g := fun n => all_getD (l := x) (N := 4294967296) (by decide) h n
  have q := quarterN_lt (a := x.getD i 0) (c := x.getD k 0) (g j) (g l)
  intro z hz
  rcases List.mem_or_eq_of_mem_set hz with hz | rfl
  · rcases List.mem_or_eq_of_mem_set hz with hz | rfl
    · rcases List.mem_or_eq_of_mem_set hz with hz | rfl
      · rcases List.mem_or_eq_of_mem_set hz with hz | rfl
        · exact h z hz
        · exact q.1
      · exact q.2.1
    · exact q.2.2.1
  · exact q.2.2.2

/-- Four columns, of which the first k are done; four diagonals likewise. -/
def colsN (x : List Nat) : Nat → List Nat
  | 0 => x
  | k + 1 => quarterAt (colsN x k) k (4 + k) (8 + k) (12 + k)
def diagsN (x : List Nat) : Nat → List Nat
  | 0 => x
  | k + 1 => quarterAt (diagsN x k) k (4 + (k + 1) % 4) (8 + (k + 2) % 4) (12 + (k + 3) % 4)
def doublesN (x : List Nat) : Nat → List Nat
  | 0 => x
  | k + 1 => diagsN (colsN (doublesN x k) 4) 4
@[simp] theorem colsN_length (x : List Nat) : ∀ k, (colsN x k).length = x.length
  | 0 => rfl
  | k + 1 => by rw [colsN, quarterAt_length, colsN_length x k]
@[simp] theorem diagsN_length (x : List Nat) : ∀ k, (diagsN x k).length = x.length
  | 0 => rfl
  | k + 1 => by rw [diagsN, quarterAt_length, diagsN_length x k]
@[simp] theorem doublesN_length (x : List Nat) : ∀ k, (doublesN x k).length = x.length
  | 0 => rfl
  | k + 1 => by rw [doublesN, diagsN_length, colsN_length, doublesN_length x k]
theorem colsN_lt {x : List Nat} (h : ∀ z ∈ x, z < 4294967296) : ∀ k, ∀ z ∈ colsN x k, z < 4294967296
  | 0 => h
  | k + 1 => by rw [colsN]; exact quarterAt_lt (colsN_lt h k) _ _ _ _
theorem diagsN_lt {x : List Nat} (h : ∀ z ∈ x, z < 4294967296) : ∀ k, ∀ z ∈ diagsN x k, z < 4294967296
  | 0 => h
  | k + 1 => by rw [diagsN]; exact quarterAt_lt (diagsN_lt h k) _ _ _ _
theorem doublesN_lt {x : List Nat} (h : ∀ z ∈ x, z < 4294967296) : ∀ k, ∀ z ∈ doublesN x k, z < 4294967296
  | 0 => h
  | k + 1 => by rw [doublesN]; exact diagsN_lt (colsN_lt (doublesN_lt h k) 4) 4

/-- A word, the lowest byte ahead. -/
def wordL (bs : List Nat) (i : Nat) : Nat := wordB (bs.getD (4 * i + 3) 0) (bs.getD (4 * i + 2) 0) (bs.getD (4 * i + 1) 0) (bs.getD (4 * i) 0)
def wordsLow (bs : List Nat) (k : Nat) : List Nat := (List.range k).map (wordL bs)
@[simp] theorem wordsLow_length (bs : List Nat) (k : Nat) : (wordsLow bs k).length = k := by simp [wordsLow]
theorem wordsLow_lt {bs : List Nat} (h : ∀ z ∈ bs, z < 256) (k : Nat) : ∀ z ∈ wordsLow bs k, z < 4294967296 := fun z hz => by
  obtain ⟨i, _, rfl⟩ := List.mem_map.1 hz
  exact wordB_lt (all_getD (by decide) h _) (all_getD (by decide) h _) (all_getD (by decide) h _) (all_getD (by decide) h _)

/-- The state at first. -/
def stateN (key : List Nat) (c : Nat) (nonce : List Nat) : List Nat := [0x61707865, 0x3320646e, 0x79622d32, 0x6b206574] ++ wordsLow key 8 ++ [c] ++ wordsLow nonce 3
@[simp] theorem stateN_length (key : List Nat) (c : Nat) (nonce : List Nat) : (stateN key c nonce).length = 16 := by simp [stateN]
theorem stateN_lt {key nonce : List Nat} {c : Nat} (hk : ∀ z ∈ key, z < 256) (hc : c < 4294967296) (hn : ∀ z ∈ nonce, z < 256) : ∀ z ∈ stateN key c nonce, z < 4294967296 := fun z hz => by
  simp only [stateN, List.mem_append] at hz
  rcases hz with ((hz | hz) | hz) | hz
  · simp at hz; omega
  · exact wordsLow_lt hk 8 z hz
  · simp at hz; omega
  · exact wordsLow_lt hn 3 z hz

/-- The bytes of words, the lowest ahead. -/
def lowBytes (ws : List Nat) : List Nat := (List.range (4 * ws.length)).map fun j => ws.getD (j / 4) 0 / 256 ^ (j % 4) % 256
@[simp] theorem lowBytes_length (ws : List Nat) : (lowBytes ws).length = 4 * ws.length := by simp [lowBytes]
theorem lowBytes_lt (ws : List Nat) : ∀ z ∈ lowBytes ws, z < 256 := fun z hz => by
  obtain ⟨i, _, rfl⟩ := List.mem_map.1 hz
  exact Nat.mod_lt _ (by decide)
def addN (x s : List Nat) : List Nat := (List.range 16).map fun i => (x.getD i 0 + s.getD i 0) % 4294967296
@[simp] theorem addN_length (x s : List Nat) : (addN x s).length = 16 := by simp [addN]

/-- A block. -/
def blockN (key : List Nat) (c : Nat) (nonce : List Nat) : List Nat := lowBytes (addN (doublesN (stateN key c nonce) 10) (stateN key c nonce))
@[simp] theorem blockN_length (key : List Nat) (c : Nat) (nonce : List Nat) : (blockN key c nonce).length = 64 := by simp [blockN]
theorem blockN_lt (key : List Nat) (c : Nat) (nonce : List Nat) : ∀ z ∈ blockN key c nonce, z < 256 := lowBytes_lt _
/-- RFC 8439, 2.3.2. -/
theorem blockN_example : blockN (List.range 32) 1 [0, 0, 0, 9, 0, 0, 0, 0x4a, 0, 0, 0, 0] =
    [0x10, 0xf1, 0xe7, 0xe4, 0xd1, 0x3b, 0x59, 0x15, 0x50, 0x0f, 0xdd, 0x1f, 0xa3, 0x20, 0x71, 0xc4, 0xc7, 0xd1, 0xf4, 0xc7, 0x33, 0xc0, 0x68, 0x03, 0x04, 0x22, 0xaa, 0x9a, 0xc3, 0xd4, 0x6c, 0x4e,
     0xd2, 0x82, 0x64, 0x46, 0x07, 0x9f, 0xaa, 0x09, 0x14, 0xc2, 0xd7, 0x05, 0xd9, 0x8b, 0x02, 0xa2, 0xb5, 0x12, 0x9c, 0xd1, 0xde, 0x16, 0x4e, 0xb9, 0xcb, 0xd0, 0x83, 0xe8, 0xa2, 0x50, 0x3c, 0x4e] := by kernel_rfl

/-- A text, turned by blocks K 0, K 1, .. -/
def turnN (K : Nat → List Nat) (b : List Nat) : List Nat := (List.range b.length).map fun j => b.getD j 0 ^^^ (K (j / 64)).getD (j % 64) 0
@[simp] theorem turnN_length (K : Nat → List Nat) (b : List Nat) : (turnN K b).length = b.length := by simp [turnN]
theorem turnN_at (K : Nat → List Nat) (b : List Nat) {j : Nat} (h : j < b.length) : (turnN K b)[j]? = some (b.getD j 0 ^^^ (K (j / 64)).getD (j % 64) 0) := by simp [turnN, h]
theorem turnN_lt {K : Nat → List Nat} {b : List Nat} (hK : ∀ i, ∀ z ∈ K i, z < 256) (hb : ∀ z ∈ b, z < 256) : ∀ z ∈ turnN K b, z < 256 := fun z hz => by
  obtain ⟨i, _, rfl⟩ := List.mem_map.1 hz
  exact Nat.xor_lt_two_pow (n := 8) (all_getD (by decide) hb _) (all_getD (by decide) (hK _) _)
/-- There and back. -/
theorem turnN_turnN (K : Nat → List Nat) (b : List Nat) : turnN K (turnN K b) = b := by
  apply List.ext_getElem?
  intro j
  by_cases h : j < b.length
  · rw [turnN_at K _ (by simpa using h), List.getD_eq_getElem?_getD, turnN_at K b h]
    simp [Nat.xor_assoc, h]
  · rw [List.getElem?_eq_none (by simp; omega), List.getElem?_eq_none (by omega)]
/-- A part from a multiple of 64 on. -/
theorem turnN_drop (K : Nat → List Nat) (b : List Nat) (n : Nat) : (turnN K b).drop (64 * n) = turnN (fun i => K (n + i)) (b.drop (64 * n)) := by
  apply List.ext_getElem?
  intro j
  rw [List.getElem?_drop]
  by_cases h : 64 * n + j < b.length
  · rw [turnN_at K b h, turnN_at _ _ (by simp; omega), show (64 * n + j) / 64 = n + j / 64 by omega, show (64 * n + j) % 64 = j % 64 by omega]
    simp
  · rw [List.getElem?_eq_none (by simp; omega), List.getElem?_eq_none (by simp; omega)]
theorem turnN_take (K : Nat → List Nat) (b : List Nat) (m : Nat) : (turnN K b).take m = turnN K (b.take m) := by
  apply List.ext_getElem?
  intro j
  rw [List.getElem?_take]
  by_cases h : j < m
  · rw [if_pos h]
    by_cases hb : j < b.length
    · rw [turnN_at K b hb, turnN_at K _ (by simp; omega)]
      simp [h]
    · rw [List.getElem?_eq_none (by simp; omega), List.getElem?_eq_none (by simp; omega)]
  · rw [if_neg h, List.getElem?_eq_none (by simp; omega)]
/-- One block ahead, the rest behind it. -/
theorem turnN_step (K : Nat → List Nat) (b : List Nat) : turnN K b = turnN K (b.take 64) ++ turnN (fun i => K (1 + i)) (b.drop 64) := by
  have h := turnN_drop K b 1
  rw [Nat.mul_one] at h
  rw [← turnN_take, ← h, List.take_append_drop]

/-- A text, turned by the blocks of a key, a counter and a nonce. -/
def streamN (key : List Nat) (c : Nat) (nonce b : List Nat) : List Nat := turnN (fun i => blockN key ((c + i) % 4294967296) nonce) b
@[simp] theorem streamN_length (key : List Nat) (c : Nat) (nonce b : List Nat) : (streamN key c nonce b).length = b.length := turnN_length _ _
theorem streamN_lt (key : List Nat) (c : Nat) (nonce : List Nat) {b : List Nat} (hb : ∀ z ∈ b, z < 256) : ∀ z ∈ streamN key c nonce b, z < 256 := turnN_lt (fun _ => blockN_lt _ _ _) hb
theorem streamN_back (key : List Nat) (c : Nat) (nonce b : List Nat) : streamN key c nonce (streamN key c nonce b) = b := turnN_turnN _ _
theorem streamN_drop (key : List Nat) (c : Nat) (nonce b : List Nat) (n : Nat) : (streamN key c nonce b).drop (64 * n) = streamN key ((c + n) % 4294967296) nonce (b.drop (64 * n)) := by
  have e : (fun i => blockN key ((c + (n + i)) % 4294967296) nonce) = fun i => blockN key (((c + n) % 4294967296 + i) % 4294967296) nonce := funext fun i => by rw [Nat.mod_add_mod, Nat.add_assoc]
  unfold streamN
  rw [turnN_drop, e]
end Go.Proofs.YtobmcaknfbooiaaDoor.Re
/-
  The program's two tables: the fixed words, and the places that each quarter turns. It names no program.
-/
namespace Go.Proofs.YtobmcaknfbooiaaDoor.Re
open Go Go.RowKit

def fixedL : List Nat := [1634760805, 857760878, 2036477234, 1797285236]
/-- The places of quarter j. -/
def quarRow (j : Nat) : List Nat := [[0, 4, 8, 12], [1, 5, 9, 13], [2, 6, 10, 14], [3, 7, 11, 15], [0, 5, 10, 15], [1, 6, 11, 12], [2, 7, 8, 13], [3, 4, 9, 14]].getD j []
def quarL : List Nat := [0, 4, 8, 12, 1, 5, 9, 13, 2, 6, 10, 14, 3, 7, 11, 15, 0, 5, 10, 15, 1, 6, 11, 12, 2, 7, 8, 13, 3, 4, 9, 14]

/-- The program's tables hold them. -/
def Tab (w : World) : Prop := (∀ i, i < 4 → w.cell? ⟨0, i, none⟩ = some (.int .u32 (fixedL.getD i 0 : Nat))) ∧ (∀ i, i < 32 → w.cell? ⟨1, i, none⟩ = some (.int .u8 (quarL.getD i 0 : Nat)))
theorem Tab.below {n : Nat} {w w' : World} (h : Tab w) (hb : Below n w w') (hn : 1 < n) : Tab w' :=
  ⟨fun i hi => (hb.cell (p := ⟨0, i, none⟩) (by show 0 < n; omega)).trans (h.1 i hi), fun i hi => (hb.cell (p := ⟨1, i, none⟩) hn).trans (h.2 i hi)⟩
theorem Tab.pos {w : World} (h : Tab w) : 1 < w.heap.size := by have := World.block_lt_of_cell? w _ (h.2 0 (by omega)); exact this
theorem Tab.later {w w' : World} (h : Tab w) (hb : Below w.heap.size w w') : Tab w' := h.below hb h.pos
theorem Tab.fixed {w : World} (h : Tab w) : w.rangeAt 0 0 (u32s fixedL) := fun j v hv => by
  have hj : j < fixedL.length := by
    rcases Nat.lt_or_ge j fixedL.length with h | h
    · exact h
    · rw [List.getElem?_eq_none (by simpa using h)] at hv; cases hv
  rw [u32s_at hj] at hv
  cases hv
  rw [Nat.zero_add]
  exact h.1 j hj
theorem Tab.quarters {w : World} (h : Tab w) : w.rangeAt 1 0 (u8s quarL) := fun j v hv => by
  have hj : j < quarL.length := by
    rcases Nat.lt_or_ge j quarL.length with h | h
    · exact h
    · rw [List.getElem?_eq_none (by simpa using h)] at hv; cases hv
  rw [u8s_at hj] at hv
  cases hv
  rw [Nat.zero_add]
  exact h.2 j hj
end Go.Proofs.YtobmcaknfbooiaaDoor.Re
/-
  What the reference's Quarter answers.
-/
namespace Go.Proofs.YtobmcaknfbooiaaDoor.Re
open Go.RowKit

theorem results_tmp4 {fn : Func} {t u x y : Tmp} (h : fn.results = #[.tmp t, .tmp u, .tmp x, .tmp y]) (tmps : Array Value) (P : Program) (w : World) :
    (results fn tmps).run P w = .ok (.tuple #[tmps.getD t undef, tmps.getD u undef, tmps.getD x undef, tmps.getD y undef]) w := by
  simp [results, h]

end Go.Proofs.YtobmcaknfbooiaaDoor.Re
/-
  What chacha.addTurn, chacha.Quarter and the statements' awake answer.
-/
namespace Go.Proofs.YtobmcaknfbooiaaDoor.Re
open Go.RowKit

theorem results_tmp2 {fn : Func} {t u : Tmp} (h : fn.results = #[.tmp t, .tmp u]) (tmps : Array Value) (P : Program) (w : World) :
    (results fn tmps).run P w = .ok (.tuple #[tmps.getD t undef, tmps.getD u undef]) w := by
  simp [results, h]

set_option maxRecDepth 100000 in
set_option maxHeartbeats 1000000 in
theorem addTurn_any (s m x s' : Nat) (n : Nat) (hn : n < 32) (hs : (s + m) % 4294967296 = s') (hx : x < 4294967296) (w : World) :
    Calls Tryd.prog 94 #[.int .u32 s, .int .u32 m, .int .u32 x, .int .i64 n] w fun e w' => e = .returned (.tuple #[.int .u32 s', .int .u32 (rolN (x ^^^ s') n : Nat)]) ∧ w' = w := by
  have hs' : s' < 4294967296 := by rw [← hs]; exact Nat.mod_lt _ (by decide)
  have e1 : IntKind.u32.wrap ((s : Int) + (m : Int)) = (s' : Int) := by rw [IntKind.wrap_u32]; omega
  have e2 : bits .xor .u32 (x : Int) (s' : Int) = ((x ^^^ s' : Nat) : Int) := u32_xor_nat x s' hx hs'
  have R : Hid (Calls Tryd.prog 95 #[.int .u32 ((x ^^^ s' : Nat) : Int), .int .i64 n] w fun e w' => e = .returned (.int .u32 (rolN (x ^^^ s') n : Nat)) ∧ w' = w) := rol_any _ n n w (xor_lt hx hs') (by omega) hn
  clear hs hs' hx
  generalize x ^^^ s' = y at *
  go_enter Tryd.func94, Tryd.ntmps94
  go_wp2_with (go_at_call 95; refine R.out.mono ?_; rintro e w1 ⟨rfl, hw1⟩; obtain rfl : w = w1 := hw1.symm; clear hw1)
  refine bodyPost_ret (results_tmp2 rfl _ _ _) rfl ?_
  exact ⟨rfl, rfl⟩

set_option maxRecDepth 100000 in
set_option maxHeartbeats 1000000 in
theorem quarter_any (a b c d : Nat) (_ha : a < 4294967296) (hb : b < 4294967296) (_hc : c < 4294967296) (hd : d < 4294967296) (w : World) :
    Calls Tryd.prog 91 #[.int .u32 a, .int .u32 b, .int .u32 c, .int .u32 d] w fun e w' => e = .returned (.tuple #[.int .u32 (quarterN a b c d).1, .int .u32 (quarterN a b c d).2.1, .int .u32 (quarterN a b c d).2.2.1, .int .u32 (quarterN a b c d).2.2.2]) ∧ w' = w := by
  have m : ∀ x : Nat, x % 4294967296 < 4294967296 := fun x => Nat.mod_lt _ (by decide)
  obtain ⟨a1, ha1⟩ : ∃ a1, a1 = (a + b) % 4294967296 := ⟨_, rfl⟩
  obtain ⟨d1, hd1⟩ : ∃ d1, d1 = rolN (d ^^^ a1) 16 := ⟨_, rfl⟩
  obtain ⟨c1, hc1⟩ : ∃ c1, c1 = (c + d1) % 4294967296 := ⟨_, rfl⟩
  obtain ⟨b1, hb1⟩ : ∃ b1, b1 = rolN (b ^^^ c1) 12 := ⟨_, rfl⟩
  obtain ⟨a2, ha2⟩ : ∃ a2, a2 = (a1 + b1) % 4294967296 := ⟨_, rfl⟩
  obtain ⟨d2, hd2⟩ : ∃ d2, d2 = rolN (d1 ^^^ a2) 8 := ⟨_, rfl⟩
  obtain ⟨c2, hc2⟩ : ∃ c2, c2 = (c1 + d2) % 4294967296 := ⟨_, rfl⟩
  obtain ⟨b2, hb2⟩ : ∃ b2, b2 = rolN (b1 ^^^ c2) 7 := ⟨_, rfl⟩
  have HQ : Hid (quarterN a b c d = (a2, b2, c2, d2)) := by
    show _ = _
    unfold quarterN
    simp only [← ha1, ← hd1, ← hc1, ← hb1, ← ha2, ← hd2, ← hc2, ← hb2]
  have la1 : a1 < 4294967296 := by rw [ha1]; exact m _
  have ld1 : d1 < 4294967296 := by rw [hd1]; exact rolN_lt _ _ (xor_lt hd la1) (by omega)
  have lc1 : c1 < 4294967296 := by rw [hc1]; exact m _
  have lb1 : b1 < 4294967296 := by rw [hb1]; exact rolN_lt _ _ (xor_lt hb lc1) (by omega)
  have R1 : Hid (Calls Tryd.prog 94 #[.int .u32 a, .int .u32 b, .int .u32 d, .int .i64 16] w fun e w' => e = .returned (.tuple #[.int .u32 a1, .int .u32 d1]) ∧ w' = w) := by rw [hd1]; exact addTurn_any a b d a1 16 (by decide) ha1.symm hd w
  have R2 : Hid (Calls Tryd.prog 94 #[.int .u32 c, .int .u32 d1, .int .u32 b, .int .i64 12] w fun e w' => e = .returned (.tuple #[.int .u32 c1, .int .u32 b1]) ∧ w' = w) := by rw [hb1]; exact addTurn_any c d1 b c1 12 (by decide) hc1.symm hb w
  have R3 : Hid (Calls Tryd.prog 94 #[.int .u32 a1, .int .u32 b1, .int .u32 d1, .int .i64 8] w fun e w' => e = .returned (.tuple #[.int .u32 a2, .int .u32 d2]) ∧ w' = w) := by rw [hd2]; exact addTurn_any a1 b1 d1 a2 8 (by decide) ha2.symm ld1 w
  have R4 : Hid (Calls Tryd.prog 94 #[.int .u32 c1, .int .u32 d2, .int .u32 b1, .int .i64 7] w fun e w' => e = .returned (.tuple #[.int .u32 c2, .int .u32 b2]) ∧ w' = w) := by rw [hb2]; exact addTurn_any c1 d2 b1 c2 7 (by decide) hc2.symm lb1 w
  clear ha1 hd1 hc1 hb1 ha2 hd2 hc2 hb2 la1 ld1 lc1 lb1 m hb hd _ha _hc
  rw [HQ.out]
  go_enter Tryd.func91, Tryd.ntmps91
  go_wp2_with (first
    | (go_at_call 94; have r1 := R1.out; clear R1; refine r1.mono ?_; clear r1; rintro e w1 ⟨rfl, hw1⟩; obtain rfl : w = w1 := hw1.symm; clear hw1)
    | (go_at_call 94; have r2 := R2.out; clear R2; refine r2.mono ?_; clear r2; rintro e w2 ⟨rfl, hw2⟩; obtain rfl : w = w2 := hw2.symm; clear hw2)
    | (go_at_call 94; have r3 := R3.out; clear R3; refine r3.mono ?_; clear r3; rintro e w3 ⟨rfl, hw3⟩; obtain rfl : w = w3 := hw3.symm; clear hw3)
    | (go_at_call 94; have r4 := R4.out; clear R4; refine r4.mono ?_; clear r4; rintro e w4 ⟨rfl, hw4⟩; obtain rfl : w = w4 := hw4.symm; clear hw4))
  refine bodyPost_ret (results_tmp4 rfl _ _ _) rfl ?_
  exact ⟨rfl, rfl⟩

end Go.Proofs.YtobmcaknfbooiaaDoor.Re
/-
  What chacha.mixed answers: the state behind ten double rounds. Nothing that lay before the call has turned.
-/
namespace Go.Proofs.YtobmcaknfbooiaaDoor.Re
open Go.RowKit

theorem size140 : (Tryd.prog.info? 140).map (·.size) = some 16 := by kernel_rfl
theorem size151 : (Tryd.prog.info? 151).map (·.size) = some 4 := by kernel_rfl
theorem size152 : (Tryd.prog.info? 152).map (·.size) = some 32 := by kernel_rfl
theorem z16u32 : #[Value.int .u32 0, Value.int .u32 0, Value.int .u32 0, Value.int .u32 0, Value.int .u32 0, Value.int .u32 0, Value.int .u32 0, Value.int .u32 0, Value.int .u32 0, Value.int .u32 0, Value.int .u32 0, Value.int .u32 0, Value.int .u32 0, Value.int .u32 0, Value.int .u32 0, Value.int .u32 0] = (List.replicate 16 (Value.int .u32 0)).toArray := rfl

set_option maxRecDepth 100000 in
theorem run_index152 (k : Nat) (hk : k < 8) (w : World) : (Instr.index 152 (.agg (u8s quarL).toArray) (.int .i64 (k : Int))).run Tryd.prog w = .ok (.agg (u8s (quarRow k)).toArray) w := by
  have h : ∀ k : Nat, k < 8 → (Instr.index 152 (.agg (u8s quarL).toArray) (.int .i64 (k : Int))).run Tryd.prog w = .ok (.agg (u8s (quarRow k)).toArray) w := by
    intro k hk
    rcases k with _ | _ | _ | _ | _ | _ | _ | _ | k
    all_goals first | rfl | omega
  exact h k hk

theorem quar_four : ∀ j, j < 8 → ∃ a b c d, quarRow j = [a, b, c, d] ∧ a < 16 ∧ b < 16 ∧ c < 16 ∧ d < 16 := by
  intro j hj
  rcases j with _ | _ | _ | _ | _ | _ | _ | _ | j
  all_goals first | exact ⟨_, _, _, _, rfl, by decide, by decide, by decide, by decide⟩ | omega

/-- The first j quarters of a double round. -/
def stepsN (x : List Nat) : Nat → List Nat
  | 0 => x
  | j + 1 => quarterAt (stepsN x j) ((quarRow j).getD 0 0) ((quarRow j).getD 1 0) ((quarRow j).getD 2 0) ((quarRow j).getD 3 0)
@[simp] theorem stepsN_length (x : List Nat) : ∀ j, (stepsN x j).length = x.length
  | 0 => rfl
  | j + 1 => by rw [stepsN, quarterAt_length, stepsN_length x j]
theorem stepsN_lt {x : List Nat} (h : ∀ z ∈ x, z < 4294967296) : ∀ j, ∀ z ∈ stepsN x j, z < 4294967296
  | 0 => h
  | j + 1 => by rw [stepsN]; exact quarterAt_lt (stepsN_lt h j) _ _ _ _
theorem stepsN_all (x : List Nat) : stepsN x 8 = diagsN (colsN x 4) 4 := by
  simp only [stepsN, colsN, diagsN, quarRow]
  rfl

theorem u32s_set (l : List Nat) (i x : Nat) : (u32s l).set i (.int .u32 (x : Nat)) = u32s (l.set i x) := by simp [u32s, List.map_set]
set_option maxRecDepth 100000 in
set_option maxHeartbeats 4000000 in
theorem mixed_any (xs : List Nat) (hl : xs.length = 16) (hx : ∀ z ∈ xs, z < 4294967296) (w : World) (hT : Tab w) :
    Calls Tryd.prog 85 #[.agg (u32s xs).toArray] w fun e w' => e = .returned (.agg (u32s (doublesN xs 10)).toArray) ∧ Below w.heap.size w w' := by
  have HT : Hid (Tab w) := hT
  have HTp : Hid (1 < w.heap.size) := hT.pos
  obtain ⟨D, hD⟩ : ∃ D : Nat → List Nat, D = doublesN xs := ⟨_, rfl⟩
  have HD0 : Hid (D 0 = xs) := by show _ = _; rw [hD]; rfl
  have HDs : Hid (∀ k, D (k + 1) = stepsN (D k) 8) := fun k => by rw [hD, stepsN_all]; rfl
  have HDl : Hid (∀ k, (D k).length = 16) := fun k => by rw [hD, doublesN_length, hl]
  have HDx : Hid (∀ k, ∀ z ∈ D k, z < 4294967296) := fun k => by rw [hD]; exact doublesN_lt hx k
  rw [← hD]
  have HX : Hid ((u32s xs).length = 16) := by show _ = _; rw [u32s_length, hl]
  obtain ⟨QV, hQV⟩ : ∃ QV, QV = u8s quarL := ⟨_, rfl⟩
  have HQV : Hid (QV = u8s quarL) := hQV
  have HQl : Hid (QV.length = 32) := by show _ = _; rw [hQV]; rfl
  have HQi : Hid (∀ k : Nat, k < 8 → ∀ w, (Instr.index 152 (.agg QV.toArray) (.int .i64 (k : Int))).run Tryd.prog w = .ok (.agg (u8s (quarRow k)).toArray) w) := fun k hk w => by rw [hQV]; exact run_index152 k hk w
  clear hT hD hl hx hQV
  go_enter Tryd.func85, Tryd.ntmps85
  go_wp2
  rw [z16u32]
  have rX : Row ((w.alloc (.cells (u32s xs).toArray 140)).alloc (.cells (List.replicate 16 (Value.int .u32 0)).toArray 140)) w.heap.size 140 (u32s (D 0)) := by rw [HD0.out]; exact (Row.new' w 140 _).alloc _
  have rR : Row ((w.alloc (.cells (u32s xs).toArray 140)).alloc (.cells (List.replicate 16 (Value.int .u32 0)).toArray 140)) (w.heap.size + 1) 140 (List.replicate 16 (Value.int .u32 0)) := by
    have := Row.new' (w.alloc (.cells (u32s xs).toArray 140)) 140 (List.replicate 16 (Value.int .u32 0))
    rwa [World.size_alloc] at this
  have hb0 : Below w.heap.size w ((w.alloc (.cells (u32s xs).toArray 140)).alloc (.cells (List.replicate 16 (Value.int .u32 0)).toArray 140)) := ((Below.refl _ w).alloc (Nat.le_refl _) _).alloc (by simp) _
  have hs0 : w.heap.size + 2 ≤ ((w.alloc (.cells (u32s xs).toArray 140)).alloc (.cells (List.replicate 16 (Value.int .u32 0)).toArray 140)).heap.size := by simp
  generalize ((w.alloc (.cells (u32s xs).toArray 140)).alloc (.cells (List.replicate 16 (Value.int .u32 0)).toArray 140)) = w0 at *
  go_loopw [9] (fun i wr => ∃ k : Nat, k ≤ 10 ∧ i = .int .i64 k ∧ Row wr w.heap.size 140 (u32s (D k)) ∧ Row wr (w.heap.size + 1) 140 (List.replicate 16 (Value.int .u32 0)) ∧ Below w.heap.size w wr)
    (fun i _ => 10 - (intOf i).toNat)
  case atStart => exact ⟨0, by omega, rfl, rX, rR, hb0⟩
  case round =>
    clear rX rR hb0 hs0
    obtain ⟨k, hk, rfl, hrX, hrR, hBw⟩ := hrel
    by_cases hk10 : k < 10
    · have hki : (k : Int) < 10 := by omega
      have HrX : Hid (Row wr w.heap.size 140 (u32s (stepsN (D k) 0))) := hrX
      have HrR : Hid (Row wr (w.heap.size + 1) 140 (List.replicate 16 (Value.int .u32 0))) := hrR
      have HBw : Hid (Below w.heap.size w wr) := hBw
      have HTr : Hid (wr.rangeAt 1 0 QV) := by rw [HQV.out]; exact (HT.out.below hBw HTp.out).quarters
      have HY : Hid (∀ j, (stepsN (D k) j).length = 16) := fun j => by rw [stepsN_length, HDl.out]
      have HYx : Hid (∀ j, ∀ z ∈ stepsN (D k) j, z < 4294967296) := fun j => stepsN_lt (HDx.out k) j
      have HYs : Hid (D (k + 1) = stepsN (D k) 8) := HDs.out k
      have HYq : Hid (∀ j, stepsN (D k) (j + 1) = quarterAt (stepsN (D k) j) ((quarRow j).getD 0 0) ((quarRow j).getD 1 0) ((quarRow j).getD 2 0) ((quarRow j).getD 3 0)) := fun j => rfl
      clear hrX hrR hBw
      generalize stepsN (D k) = Y at *
      go_wp2_with ((with_reducible show wpList _ _ _ (Oper.mk _ (Op.load 152 (.global 1)) _ _ _ _ :: _) _ _); refine wpList_load_mid rfl 152 (.global 1) rfl 1 0 rfl QV _ HTr.out Tryd.underlying152 rfl (by rw [HQl.out]; exact size152) ?_; simp only [Act.put, List.setIfInBounds_toArray, List.set_cons_zero, List.set_cons_succ])
      go_loopw [12] (fun i wq => ∃ j : Nat, j ≤ 8 ∧ i = .int .i64 j ∧ Row wq w.heap.size 140 (u32s (Y j)) ∧ Row wq (w.heap.size + 1) 140 (List.replicate 16 (Value.int .u32 0)) ∧ Below w.heap.size w wq)
        (fun i _ => 8 - (intOf i).toNat)
      case atStart => exact ⟨0, by omega, rfl, HrX.out, HrR.out, HBw.out⟩
      case round =>
        clear HrX HrR HBw HTr
        obtain ⟨j, hj, rfl, hrX, hrR, hBq⟩ := hrel
        by_cases hj8 : j < 8
        · have hji : (j : Int) < 8 := by omega
          have cI := HQi.out j hj8
          obtain ⟨a, b, c, d, hq, ha, hb, hc, hd⟩ := quar_four j hj8
          have HJ := HYq.out j
          rw [hq] at cI HJ
          have HJ2 : Hid (Y (j + 1) = quarterAt (Y j) a b c d) := HJ
          clear HJ hq
          have HrX : Hid (Row wr w.heap.size 140 (u32s (Y j))) := hrX
          have HrR : Hid (Row wr (w.heap.size + 1) 140 (List.replicate 16 (Value.int .u32 0))) := hrR
          have HBq : Hid (Below w.heap.size w wr) := hBq
          have HA : Hid ((u32s (Y j))[a]? = some (.int .u32 ((Y j).getD a 0 : Nat)) ∧ (u32s (Y j))[b]? = some (.int .u32 ((Y j).getD b 0 : Nat)) ∧ (u32s (Y j))[c]? = some (.int .u32 ((Y j).getD c 0 : Nat)) ∧ (u32s (Y j))[d]? = some (.int .u32 ((Y j).getD d 0 : Nat))) :=
            ⟨u32s_at (by rw [HY.out]; omega), u32s_at (by rw [HY.out]; omega), u32s_at (by rw [HY.out]; omega), u32s_at (by rw [HY.out]; omega)⟩
          have bx : ∀ i, (Y j).getD i 0 < 4294967296 := fun i => all_getD (by decide) (HYx.out j) i
          have HQ := quarter_any _ _ _ _ (bx a) (bx b) (bx c) (bx d)
          obtain ⟨p, q, r, s, hpq⟩ : ∃ p q r s, quarterN ((Y j).getD a 0) ((Y j).getD b 0) ((Y j).getD c 0) ((Y j).getD d 0) = (p, q, r, s) := ⟨_, _, _, _, rfl⟩
          rw [hpq] at HQ
          dsimp only at HQ
          have HPQ0 : Hid (∀ x, x = Y j → quarterN (x.getD a 0) (x.getD b 0) (x.getD c 0) (x.getD d 0) = (p, q, r, s)) := fun x e => by rw [e]; exact hpq
          have HC : Hid (∀ w, Calls Tryd.prog 91 #[.int .u32 ((Y j).getD a 0 : Nat), .int .u32 ((Y j).getD b 0 : Nat), .int .u32 ((Y j).getD c 0 : Nat), .int .u32 ((Y j).getD d 0 : Nat)] w fun e w' => e = .returned (.tuple #[.int .u32 p, .int .u32 q, .int .u32 r, .int .u32 s]) ∧ w' = w) := HQ
          have hai : (a : Int) < 16 := by omega
          have hbi : (b : Int) < 16 := by omega
          have hci : (c : Int) < 16 := by omega
          have hdi : (d : Int) < 16 := by omega
          have hsq := hBq.size
          have hlq := hrR.lt
          clear HQ hpq bx hrX hrR hBq
          generalize (Y j).getD a 0 = xa at *
          generalize (Y j).getD b 0 = xb at *
          generalize (Y j).getD c 0 = xc at *
          generalize (Y j).getD d 0 = xd at *
          go_wp2_with ((with_reducible show wpList _ _ _ (Oper.mk _ (Op.store 151 (.tmp 4) (.tmp 14)) _ _ _ _ :: _) _ _); refine wpList_store_Row rfl 151 (.tmp 4) (.tmp 14) rfl (u8s [a, b, c, d]) rfl rfl (Row.new _ _ _) size151 rfl (u8s_one _) ?_; simp only [Act.put])
          have rN := Row.sets_all (vs := u8s [a, b, c, d]) (Row.new wr 151 #[.int .u8 0, .int .u8 0, .int .u8 0, .int .u8 0]) rfl
          have d0 := rN.cell (i := 0) rfl
          have d1 := rN.cell (i := 1) rfl
          have d2 := rN.cell (i := 2) rfl
          have d3 := rN.cell (i := 3) rfl
          have hne : w.heap.size ≠ wr.heap.size := by omega
          have hne1 : w.heap.size + 1 ≠ wr.heap.size := by omega
          have HrX1 : Hid (Row ((wr.alloc (.cells #[.int .u8 0, .int .u8 0, .int .u8 0, .int .u8 0] 151)).setCells wr.heap.size 0 (u8s [a, b, c, d])) w.heap.size 140 (u32s (Y j))) := Row.others hne _ 0 (HrX.out.alloc _)
          have HrR1 : Hid (Row ((wr.alloc (.cells #[.int .u8 0, .int .u8 0, .int .u8 0, .int .u8 0] 151)).setCells wr.heap.size 0 (u8s [a, b, c, d])) (w.heap.size + 1) 140 (List.replicate 16 (Value.int .u32 0))) := Row.others hne1 _ 0 (HrR.out.alloc _)
          have HBq1 : Hid (Below w.heap.size w ((wr.alloc (.cells #[.int .u8 0, .int .u8 0, .int .u8 0, .int .u8 0] 151)).setCells wr.heap.size 0 (u8s [a, b, c, d]))) := below_setCells hsq _ 0 (HBq.out.alloc hsq _)
          clear hne hne1 HrX HrR HBq rN
          have c0 : ((wr.alloc (.cells #[.int .u8 0, .int .u8 0, .int .u8 0, .int .u8 0] 151)).setCells wr.heap.size 0 (u8s [a, b, c, d])).cell? ⟨w.heap.size, a, none⟩ = some (.int .u32 (xa : Nat)) := HrX1.out.cell HA.out.1
          have c1 : ((wr.alloc (.cells #[.int .u8 0, .int .u8 0, .int .u8 0, .int .u8 0] 151)).setCells wr.heap.size 0 (u8s [a, b, c, d])).cell? ⟨w.heap.size, b, none⟩ = some (.int .u32 (xb : Nat)) := HrX1.out.cell HA.out.2.1
          have c2 : ((wr.alloc (.cells #[.int .u8 0, .int .u8 0, .int .u8 0, .int .u8 0] 151)).setCells wr.heap.size 0 (u8s [a, b, c, d])).cell? ⟨w.heap.size, c, none⟩ = some (.int .u32 (xc : Nat)) := HrX1.out.cell HA.out.2.2.1
          have c3 : ((wr.alloc (.cells #[.int .u8 0, .int .u8 0, .int .u8 0, .int .u8 0] 151)).setCells wr.heap.size 0 (u8s [a, b, c, d])).cell? ⟨w.heap.size, d, none⟩ = some (.int .u32 (xd : Nat)) := HrX1.out.cell HA.out.2.2.2
          have fz : ∀ i, ((wr.alloc (.cells #[.int .u8 0, .int .u8 0, .int .u8 0, .int .u8 0] 151)).setCells wr.heap.size 0 (u8s [a, b, c, d])).frozen? ⟨w.heap.size, i, none⟩ = false := fun i => HrX1.out.frozen i
          generalize hW1 : ((wr.alloc (.cells #[.int .u8 0, .int .u8 0, .int .u8 0, .int .u8 0] 151)).setCells wr.heap.size 0 (u8s [a, b, c, d])) = W1 at *
          generalize wr.heap.size = Bq at *
          clear hW1
          go_quiet (fail)
          go_wp2
          refine wp_region_noPanic ?_
          refine wp_region_gate' 23 (fun W' => W'.cell? ⟨w.heap.size, a, none⟩ = some (.int .u32 xa) ∧ W'.cell? ⟨w.heap.size, b, none⟩ = some (.int .u32 xb) ∧ W'.cell? ⟨w.heap.size, c, none⟩ = some (.int .u32 xc) ∧ W'.cell? ⟨w.heap.size, d, none⟩ = some (.int .u32 xd)) (by kernel_rfl) ?_
          refine wpAnyG_takesAt 0 16 14 (of_decide_eq_true (by kernel_rfl)) rfl (fun _ _ _ _ _ h => h) (by kernel_rfl) (by kernel_rfl) (fun _ => ⟨by simpa using c0, by simpa using c1, by simpa using c2, by simpa using c3⟩) ?_
          simp only [List.drop_zero, List.take_succ_cons, List.take_zero]
          iterate 6 (refine wpHeldG_free (v := ?_) (by rfl) (fun wz => ?_) ?_; rotate_left; (focus (go_simp; try with_reducible rfl)); (simp only [Act.put, List.setIfInBounds_toArray, List.set_cons_zero, List.set_cons_succ]))
          iterate 1 (refine wpHeldG_step (v := ?_) (by rfl) (by kernel_rfl) (fun wz hSw => ?_) ?_; rotate_left; (focus ((try dsimp only at hSw); go_simp; try with_reducible rfl)); (simp only [Act.put, List.setIfInBounds_toArray, List.set_cons_zero, List.set_cons_succ]))
          iterate 2 (refine wpHeldG_free (v := ?_) (by rfl) (fun wz => ?_) ?_; rotate_left; (focus (go_simp; try with_reducible rfl)); (simp only [Act.put, List.setIfInBounds_toArray, List.set_cons_zero, List.set_cons_succ]))
          iterate 1 (refine wpHeldG_step (v := ?_) (by rfl) (by kernel_rfl) (fun wz hSw => ?_) ?_; rotate_left; (focus ((try dsimp only at hSw); go_simp; try with_reducible rfl)); (simp only [Act.put, List.setIfInBounds_toArray, List.set_cons_zero, List.set_cons_succ]))
          iterate 2 (refine wpHeldG_free (v := ?_) (by rfl) (fun wz => ?_) ?_; rotate_left; (focus (go_simp; try with_reducible rfl)); (simp only [Act.put, List.setIfInBounds_toArray, List.set_cons_zero, List.set_cons_succ]))
          iterate 1 (refine wpHeldG_step (v := ?_) (by rfl) (by kernel_rfl) (fun wz hSw => ?_) ?_; rotate_left; (focus ((try dsimp only at hSw); go_simp; try with_reducible rfl)); (simp only [Act.put, List.setIfInBounds_toArray, List.set_cons_zero, List.set_cons_succ]))
          iterate 2 (refine wpHeldG_free (v := ?_) (by rfl) (fun wz => ?_) ?_; rotate_left; (focus (go_simp; try with_reducible rfl)); (simp only [Act.put, List.setIfInBounds_toArray, List.set_cons_zero, List.set_cons_succ]))
          iterate 1 (refine wpHeldG_step (v := ?_) (by rfl) (by kernel_rfl) (fun wz hSw => ?_) ?_; rotate_left; (focus ((try dsimp only at hSw); go_simp; try with_reducible rfl)); (simp only [Act.put, List.setIfInBounds_toArray, List.set_cons_zero, List.set_cons_succ]))
          refine wpHeldG_nil ?_
          refine wpAnyG_only (i := 16) (by kernel_rfl) rfl (by rfl) (fun K hK => ?_)
          go_simp
          refine (HC.out _).mono ?_
          rintro e w' ⟨rfl, rfl⟩
          refine hK.out _ _ (fun _ => ⟨by simpa using c0, by simpa using c1, by simpa using c2, by simpa using c3⟩) ?_
          clear hK K
          refine wpAnyG_takesAt 17 6 7 (of_decide_eq_true (by kernel_rfl)) rfl (fun _ _ _ _ _ h => h) (by kernel_rfl) (by kernel_rfl) (fun _ => ⟨by simpa using c0, by simpa using c1, by simpa using c2, by simpa using c3⟩) ?_
          simp only [List.drop_succ_cons, List.drop_zero, List.take_succ_cons, List.take_zero]
          iterate 6 (refine wpHeldG_free (v := ?_) (by rfl) (fun wz => ?_) ?_; rotate_left; (focus (go_simp; try with_reducible rfl)); (simp only [Act.put, List.setIfInBounds_toArray, List.set_cons_zero, List.set_cons_succ]))
          refine wpHeldG_nil ?_
          have HX0 : Hid (Row (W1.drewN (nq + 1)) w.heap.size 140 (u32s (Y j))) := HrX1.out
          have HR0 : Hid (Row (W1.drewN (nq + 1)) (w.heap.size + 1) 140 (List.replicate 16 (Value.int .u32 0))) := HrR1.out
          have HB0 : Hid (Below w.heap.size w (W1.drewN (nq + 1))) := below_drewN HBq1.out _
          have HYl : Hid ((u32s (Y j)).length = 16) := by show _ = _; rw [u32s_length]; exact HY.out j
          clear HrX1 HrR1 HBq1
          generalize hV0 : W1.drewN (nq + 1) = V0 at *
          clear hV0 c0 c1 c2 c3 fz d0 d1 d2 d3
          obtain ⟨v0, hv0⟩ : ∃ v, V0.cell? ⟨w.heap.size, a, none⟩ = some v := ⟨_, HX0.out.cell (List.getElem?_eq_getElem (by (try simp only [List.length_set]); rw [HYl.out]; omega))⟩
          have fz0 := HX0.out.frozen a
          refine wpAnyG_only (i := 23) (by kernel_rfl) rfl (by rfl) (fun K hK => ?_)
          go_simp
          refine hK.out _ _ (gone (by kernel_rfl)) ?_
          clear hK K
          have HX1 : Hid (Row (V0.setCell ⟨w.heap.size, a, none⟩ (.int .u32 (p : Nat))) w.heap.size 140 ((u32s (Y j)).set a (.int .u32 (p : Nat)))) := HX0.out.set _ _
          have HR1 : Hid (Row (V0.setCell ⟨w.heap.size, a, none⟩ (.int .u32 (p : Nat))) (w.heap.size + 1) 140 (List.replicate 16 (Value.int .u32 0))) := HR0.out.other (by simp) _
          have HB1 : Hid (Below w.heap.size w (V0.setCell ⟨w.heap.size, a, none⟩ (.int .u32 (p : Nat)))) := HB0.out.setCell (p := ⟨w.heap.size, a, none⟩) (Nat.le_refl _) _
          generalize V0.setCell ⟨w.heap.size, a, none⟩ (.int .u32 (p : Nat)) = V1 at *
          clear hv0 fz0 HX0 HR0 HB0
          obtain ⟨v1, hv1⟩ : ∃ v, V1.cell? ⟨w.heap.size, b, none⟩ = some v := ⟨_, HX1.out.cell (List.getElem?_eq_getElem (by (try simp only [List.length_set]); rw [HYl.out]; omega))⟩
          have fz1 := HX1.out.frozen b
          refine wpAnyG_takesAt 24 1 5 (of_decide_eq_true (by kernel_rfl)) rfl (fun _ _ _ _ _ h => h) (by kernel_rfl) (by kernel_rfl) (gone (by kernel_rfl)) ?_
          simp only [List.drop_succ_cons, List.drop_zero, List.take_succ_cons, List.take_zero]
          iterate 1 (refine wpHeldG_free (v := ?_) (by rfl) (fun wz => ?_) ?_; rotate_left; (focus (go_simp; try with_reducible rfl)); (simp only [Act.put, List.setIfInBounds_toArray, List.set_cons_zero, List.set_cons_succ]))
          refine wpHeldG_nil ?_
          refine wpAnyG_only (i := 25) (by kernel_rfl) rfl (by rfl) (fun K hK => ?_)
          go_simp
          refine hK.out _ _ (gone (by kernel_rfl)) ?_
          clear hK K
          have HX2 : Hid (Row (V1.setCell ⟨w.heap.size, b, none⟩ (.int .u32 (q : Nat))) w.heap.size 140 (((u32s (Y j)).set a (.int .u32 (p : Nat))).set b (.int .u32 (q : Nat)))) := HX1.out.set _ _
          have HR2 : Hid (Row (V1.setCell ⟨w.heap.size, b, none⟩ (.int .u32 (q : Nat))) (w.heap.size + 1) 140 (List.replicate 16 (Value.int .u32 0))) := HR1.out.other (by simp) _
          have HB2 : Hid (Below w.heap.size w (V1.setCell ⟨w.heap.size, b, none⟩ (.int .u32 (q : Nat)))) := HB1.out.setCell (p := ⟨w.heap.size, b, none⟩) (Nat.le_refl _) _
          generalize V1.setCell ⟨w.heap.size, b, none⟩ (.int .u32 (q : Nat)) = V2 at *
          clear hv1 fz1 HX1 HR1 HB1
          obtain ⟨v2, hv2⟩ : ∃ v, V2.cell? ⟨w.heap.size, c, none⟩ = some v := ⟨_, HX2.out.cell (List.getElem?_eq_getElem (by (try simp only [List.length_set]); rw [HYl.out]; omega))⟩
          have fz2 := HX2.out.frozen c
          refine wpAnyG_takesAt 26 1 3 (of_decide_eq_true (by kernel_rfl)) rfl (fun _ _ _ _ _ h => h) (by kernel_rfl) (by kernel_rfl) (gone (by kernel_rfl)) ?_
          simp only [List.drop_succ_cons, List.drop_zero, List.take_succ_cons, List.take_zero]
          iterate 1 (refine wpHeldG_free (v := ?_) (by rfl) (fun wz => ?_) ?_; rotate_left; (focus (go_simp; try with_reducible rfl)); (simp only [Act.put, List.setIfInBounds_toArray, List.set_cons_zero, List.set_cons_succ]))
          refine wpHeldG_nil ?_
          refine wpAnyG_only (i := 27) (by kernel_rfl) rfl (by rfl) (fun K hK => ?_)
          go_simp
          refine hK.out _ _ (gone (by kernel_rfl)) ?_
          clear hK K
          have HX3 : Hid (Row (V2.setCell ⟨w.heap.size, c, none⟩ (.int .u32 (r : Nat))) w.heap.size 140 ((((u32s (Y j)).set a (.int .u32 (p : Nat))).set b (.int .u32 (q : Nat))).set c (.int .u32 (r : Nat)))) := HX2.out.set _ _
          have HR3 : Hid (Row (V2.setCell ⟨w.heap.size, c, none⟩ (.int .u32 (r : Nat))) (w.heap.size + 1) 140 (List.replicate 16 (Value.int .u32 0))) := HR2.out.other (by simp) _
          have HB3 : Hid (Below w.heap.size w (V2.setCell ⟨w.heap.size, c, none⟩ (.int .u32 (r : Nat)))) := HB2.out.setCell (p := ⟨w.heap.size, c, none⟩) (Nat.le_refl _) _
          generalize V2.setCell ⟨w.heap.size, c, none⟩ (.int .u32 (r : Nat)) = V3 at *
          clear hv2 fz2 HX2 HR2 HB2
          obtain ⟨v3, hv3⟩ : ∃ v, V3.cell? ⟨w.heap.size, d, none⟩ = some v := ⟨_, HX3.out.cell (List.getElem?_eq_getElem (by (try simp only [List.length_set]); rw [HYl.out]; omega))⟩
          have fz3 := HX3.out.frozen d
          refine wpAnyG_takesAt 28 1 1 (of_decide_eq_true (by kernel_rfl)) rfl (fun _ _ _ _ _ h => h) (by kernel_rfl) (by kernel_rfl) (gone (by kernel_rfl)) ?_
          simp only [List.drop_succ_cons, List.drop_zero, List.take_succ_cons, List.take_zero]
          iterate 1 (refine wpHeldG_free (v := ?_) (by rfl) (fun wz => ?_) ?_; rotate_left; (focus (go_simp; try with_reducible rfl)); (simp only [Act.put, List.setIfInBounds_toArray, List.set_cons_zero, List.set_cons_succ]))
          refine wpHeldG_nil ?_
          refine wpAnyG_only (i := 29) (by kernel_rfl) rfl (by rfl) (fun K hK => ?_)
          go_simp
          refine hK.out _ _ (gone (by kernel_rfl)) ?_
          clear hK K
          have HX4 : Hid (Row (V3.setCell ⟨w.heap.size, d, none⟩ (.int .u32 (s : Nat))) w.heap.size 140 (((((u32s (Y j)).set a (.int .u32 (p : Nat))).set b (.int .u32 (q : Nat))).set c (.int .u32 (r : Nat))).set d (.int .u32 (s : Nat)))) := HX3.out.set _ _
          have HR4 : Hid (Row (V3.setCell ⟨w.heap.size, d, none⟩ (.int .u32 (s : Nat))) (w.heap.size + 1) 140 (List.replicate 16 (Value.int .u32 0))) := HR3.out.other (by simp) _
          have HB4 : Hid (Below w.heap.size w (V3.setCell ⟨w.heap.size, d, none⟩ (.int .u32 (s : Nat)))) := HB3.out.setCell (p := ⟨w.heap.size, d, none⟩) (Nat.le_refl _) _
          generalize V3.setCell ⟨w.heap.size, d, none⟩ (.int .u32 (s : Nat)) = V4 at *
          clear hv3 fz3 HX3 HR3 HB3
          refine wpAnyG_done (by kernel_rfl) ?_ _
          refine NoPanic.normal ?_
          go_wp2
          go_roundw
          case rel =>
            refine ⟨j + 1, by omega, by go_num, ?_, HR4.out, HB4.out⟩
            have h := HX4.out
            rw [u32s_set, u32s_set, u32s_set, u32s_set] at h
            rw [HJ2.out]
            unfold quarterAt
            rw [HPQ0.out _ rfl]
            exact h
          case measure => simp [intOf]; omega
        · obtain rfl : j = 8 := by omega
          rw [← HYs.out] at hrX
          go_wp2
          go_roundw
          case rel => exact ⟨k + 1, by omega, by go_num, hrX, hrR, hBq⟩
          case measure => simp [intOf]; omega
    · obtain rfl : k = 10 := by omega
      have HrX : Hid (Row wr w.heap.size 140 (u32s (D 10))) := hrX
      have HrR : Hid (Row wr (w.heap.size + 1) 140 (List.replicate 16 (Value.int .u32 0))) := hrR
      have HL : Hid ((u32s (D 10)).length = 16) := by show _ = _; rw [u32s_length, HDl.out]
      have H1 : Hid (∀ v ∈ u32s (D 10), v.oneCell' = true) := u32s_one _
      clear hrX hrR
      generalize hV : u32s (D 10) = V at *
      have HV : Hid (u32s (D 10) = V) := hV
      clear hV
      go_wp2_with (first
        | ((with_reducible show wpList _ _ _ (Oper.mk _ (Op.load 140 (.tmp 1)) _ _ _ _ :: _) _ _); refine wpList_load_Row rfl 140 (.tmp 1) rfl rfl HrX.out Tryd.underlying140 (by rw [HL.out]; exact size140) ?_; simp only [Act.put, List.setIfInBounds_toArray, List.set_cons_zero, List.set_cons_succ])
        | ((with_reducible show wpList _ _ _ (Oper.mk _ (Op.store 140 (.tmp 2) (.tmp 51)) _ _ _ _ :: _) _ _); refine wpList_store_Row rfl 140 (.tmp 2) (.tmp 51) rfl V rfl rfl HrR.out (by rw [HL.out]; exact size140) (by rw [HL.out]; rfl) H1.out ?_; simp only [Act.put]))
      refine bodyPost_ret (results_Row rfl rfl (Row.sets_all (vs := V) HrR.out (by rw [HL.out]; rfl)) Tryd.underlying140 (by rw [HL.out]; exact size140)) rfl ?_
      exact ⟨by rw [HV.out], below_setCells (by omega) _ _ hBw⟩
end Go.Proofs.YtobmcaknfbooiaaDoor.Re
/-
  What vec.pieces tells: the pieces of a text by m bytes, in their order, for every loop body that keeps what lies below a bound and the cell that holds m; nothing of a nil slice, and nothing where m is below 1.
-/
namespace Go.Proofs.YtobmcaknfbooiaaDoor.Re
open Go.RowKit Go.Shelf
attribute [local go_sem] Oper.semAt_some

/-- The pieces of a text of len bytes by m: their numbers. -/
abbrev Pc (m len : Nat) : Type := { j : Nat // m * j < len }

def pcVal (bb off m len cap j : Nat) : Value := .slice (some ⟨bb, off + m * j, none⟩) (min m (len - m * j)) (cap - m * j)

/-- The length in a slot: for a loop's measure. -/
def sliceLen : Value → Nat | .slice _ L _ => L | _ => 0

/-- What a round that goes on keeps. -/
def Keeps (n₀ Bn : Nat) (W W' : World) : Prop := Below n₀ W W' ∧ ∀ v, W.cell? ⟨Bn, 0, none⟩ = some v → W'.cell? ⟨Bn, 0, none⟩ = some v

set_option maxRecDepth 100000 in
set_option maxHeartbeats 2000000 in
theorem pieces1_in (F : Fence) (n : Nat) (h24 : F.fn 92) (hro : F.round = none) (hn : 1 ≤ n) (l Bn Bb bb off len cap m : Nat) (Kp : World → World → Prop) (hKp : ∀ A B v, Kp A B → A.cell? ⟨Bn, 0, none⟩ = some v → B.cell? ⟨Bn, 0, none⟩ = some v) (hm1 : 1 ≤ m) (hm2 : (m : Int) ≤ 9223372036854775807)
    (hlc : len ≤ cap) (hcap : cap ≤ 9223372036854775807) (J Jx : List (Pc m len) → World → Prop)
    (hY : ∀ pre x W, J pre W → pre.length < len → YieldAt F (n - 1) Tryd.prog l #[pcVal bb off m len cap x.1] W fun e W' =>
      (e = .returned (.bool true) ∧ J (pre ++ [x]) W' ∧ Kp W W') ∨ (e = .returned (.bool false) ∧ Jx (pre ++ [x]) W'))
    (W : World) (hBn : W.cell? ⟨Bn, 0, none⟩ = some (.int .i64 m)) (hBb : W.cell? ⟨Bb, 0, none⟩ = some (.slice (some ⟨bb, off, none⟩) len cap)) (h0 : J [] W) :
    CallsIn F n Tryd.prog 92 #[.func (.yield l) #[] #[], .pointer (some ⟨Bn, 0, none⟩), .pointer (some ⟨Bb, 0, none⟩)] W fun e W' => (∃ v, e = .returned v) ∧
      ((∃ ys : List (Pc m len), (∃ k, len ≤ m * k ∧ ys.map (·.1) = List.range k) ∧ J ys W') ∨ (∃ pre : List (Pc m len), (∃ k, pre.map (·.1) = List.range k) ∧ Jx pre W')) := by
  refine callsIn_of_wp Tryd.func92 rfl h24 ?_ hro
  simp only [Tryd.ntmps92, List.size_toArray, List.length_cons, List.length_nil, Nat.reduceAdd, Nat.reduceSub, Array.replicate_succ, Array.replicate_zero, List.push_toArray, List.append_toArray, List.nil_append, List.cons_append]
  have hm1' : (1 : Int) ≤ (m : Int) := by omega
  have HKp : Hid (∀ A B v, Kp A B → A.cell? ⟨Bn, 0, none⟩ = some v → B.cell? ⟨Bn, 0, none⟩ = some v) := hKp
  clear hKp
  gi_wp2
  gi_loopw [4] (fun r wr => ∃ (k o L C : Nat) (p : Option Addr) (pre : List (Pc m len)), r = .slice p L C ∧ (0 < L → p = some ⟨bb, off + o, none⟩) ∧ o = min (m * k) len ∧ L + o = len ∧ C + o = cap ∧ pre.map (·.1) = List.range k ∧ J pre wr ∧ wr.cell? ⟨Bn, 0, none⟩ = some (.int .i64 m))
    (fun r _ => sliceLen r)
  case atStart => exact ⟨0, 0, len, cap, _, [], rfl, fun _ => rfl, by simp, rfl, rfl, rfl, h0, hBn⟩
  case round =>
    obtain ⟨k, o, L, C, p, pre, rfl, hp, ho, hL, hC, hpre, hJs, hcn⟩ := hrel
    have HO : Hid (o = min (m * k) len ∧ L + o = len ∧ C + o = cap) := ⟨ho, hL, hC⟩
    have HP : Hid (pre.map (·.1) = List.range k) := hpre
    have hLC : L ≤ C := by omega
    have hCc : C ≤ 9223372036854775807 := by omega
    clear ho hpre hL hC
    by_cases hLz : 0 < L
    · obtain rfl := hp hLz
      have hok : m * k < len := by have := HO.out; omega
      have hpl : pre.length = k := by have := congrArg List.length HP.out; simpa using this
      have hkl : k < len := by have := Nat.le_mul_of_pos_left k (show 0 < m by omega); omega
      have hLi : (0 : Int) < (L : Int) := by omega
      obtain ⟨x, hx⟩ : ∃ x : Pc m len, x.1 = k := ⟨⟨k, hok⟩, rfl⟩
      obtain ⟨fn, tmps, assign, body, hy, hR⟩ := hY pre x wr hJs (by omega)
      have HP2 : Hid ((pre ++ [x]).map (·.1) = List.range (k + 1)) := by
        show _ = _
        rw [List.map_append, HP.out, List.range_succ]; simp [hx]
      rw [hx] at hy
      have HOK : Hid (m * k < len) := hok
      clear hok hpl hx hkl HP hY hp
      by_cases hmL : m ≤ L
      · have hmLi : (m : Int) ≤ (L : Int) := by omega
        have e : pcVal bb off m len cap k = .slice (some ⟨bb, off + o, none⟩) m C := by
          have := HO.out; have := HOK.out; unfold pcVal; rw [show m * k = o by omega, show min m (len - o) = m by omega, show cap - o = C by omega]
        rw [e] at hy
        clear e
        gi_wp2
        refine hR.mono ?_
        rintro e W3 (⟨rfl, hJ3, hk3⟩ | ⟨rfl, hJx3⟩)
        · have hcn3 := HKp.out _ _ _ hk3 hcn
          gi_wp2
          go_roundw
          case rel =>
            have h1 := HO.out
            have h2 := HOK.out
            have h3 : m * (k + 1) = m * k + m := Nat.mul_succ m k
            exact ⟨k + 1, o + m, L - m, C - m, _, pre ++ [x], rfl, fun hh => by rw [if_neg (by omega), Nat.add_assoc], by omega, by omega, by omega, HP2.out, hJ3, hcn3⟩
          case measure => simp only [sliceLen]; omega
        · gi_wp2
          refine bodyPost_ret (results_none rfl _ _ _) rfl ?_
          exact ⟨⟨_, rfl⟩, .inr ⟨pre ++ [x], ⟨_, HP2.out⟩, hJx3⟩⟩
      · have hmLi : ¬ (m : Int) ≤ (L : Int) := by omega
        have hmLj : (L : Int) < (m : Int) := by omega
        have e : pcVal bb off m len cap k = .slice (some ⟨bb, off + o, none⟩) L C := by
          have := HO.out; have := HOK.out; unfold pcVal; rw [show m * k = o by omega, show min m (len - o) = L by omega, show cap - o = C by omega]
        rw [e] at hy
        clear e
        gi_wp2
        refine hR.mono ?_
        rintro e W3 (⟨rfl, hJ3, hk3⟩ | ⟨rfl, hJx3⟩)
        · have hcn3 := HKp.out _ _ _ hk3 hcn
          gi_wp2
          go_roundw
          case rel =>
            have h1 := HO.out
            have h2 := HOK.out
            have h3 : m * (k + 1) = m * k + m := Nat.mul_succ m k
            exact ⟨k + 1, len, 0, C - L, _, pre ++ [x], rfl, fun hh => by omega, by omega, by omega, by omega, HP2.out, hJ3, hcn3⟩
          case measure => simp only [sliceLen]; omega
        · gi_wp2
          refine bodyPost_ret (results_none rfl _ _ _) rfl ?_
          exact ⟨⟨_, rfl⟩, .inr ⟨pre ++ [x], ⟨_, HP2.out⟩, hJx3⟩⟩
    · obtain rfl : L = 0 := by omega
      gi_wp2
      go_end0
      exact ⟨⟨_, rfl⟩, .inl ⟨pre, ⟨k, by have := HO.out; omega, HP.out⟩, hJs⟩⟩

set_option maxRecDepth 100000 in
set_option maxHeartbeats 1000000 in
/-- .. of no bytes: no round. -/
theorem pieces1_none_in (F : Fence) (n : Nat) (h24 : F.fn 92) (hro : F.round = none) (l Bn Bb m : Nat) (hm1 : 1 ≤ m) (hm2 : (m : Int) ≤ 9223372036854775807) (p : Option Addr) (c : Nat) (J : World → Prop)
    (W : World) (hBn : W.cell? ⟨Bn, 0, none⟩ = some (.int .i64 m)) (hBb : W.cell? ⟨Bb, 0, none⟩ = some (.slice p 0 c)) (h0 : J W) :
    CallsIn F n Tryd.prog 92 #[.func (.yield l) #[] #[], .pointer (some ⟨Bn, 0, none⟩), .pointer (some ⟨Bb, 0, none⟩)] W fun e W' => (∃ v, e = .returned v) ∧ J W' := by
  refine callsIn_of_wp Tryd.func92 rfl h24 ?_ hro
  simp only [Tryd.ntmps92, List.size_toArray, List.length_cons, List.length_nil, Nat.reduceAdd, Nat.reduceSub, Array.replicate_succ, Array.replicate_zero, List.push_toArray, List.append_toArray, List.nil_append, List.cons_append]
  have hm1' : (1 : Int) ≤ (m : Int) := by omega
  gi_wp2
  gi_loopw [4] (fun r wr => r = .slice p 0 c ∧ J wr) (fun _ _ => 0)
  case atStart => exact ⟨rfl, h0⟩
  case round =>
    obtain ⟨rfl, hJs⟩ := hrel
    gi_wp2
    go_end0
    exact ⟨⟨_, rfl⟩, hJs⟩

set_option maxRecDepth 100000 in
set_option maxHeartbeats 1000000 in
/-- .. by a number below 1: no round. -/
theorem pieces1_low_in (F : Fence) (n : Nat) (h24 : F.fn 92) (hro : F.round = none) (l Bn Bb : Nat) (z : Int) (hz : z < 1) (J : World → Prop)
    (W : World) (hBn : W.cell? ⟨Bn, 0, none⟩ = some (.int .i64 z)) (h0 : J W) :
    CallsIn F n Tryd.prog 92 #[.func (.yield l) #[] #[], .pointer (some ⟨Bn, 0, none⟩), .pointer (some ⟨Bb, 0, none⟩)] W fun e W' => (∃ v, e = .returned v) ∧ J W' := by
  refine callsIn_of_wp Tryd.func92 rfl h24 ?_ hro
  simp only [Tryd.ntmps92, List.size_toArray, List.length_cons, List.length_nil, Nat.reduceAdd, Nat.reduceSub, Array.replicate_succ, Array.replicate_zero, List.push_toArray, List.append_toArray, List.nil_append, List.cons_append]
  gi_wp2
  refine bodyPost_ret (results_none rfl _ _ _) rfl ?_
  exact ⟨⟨_, rfl⟩, h0⟩

set_option maxHeartbeats 1000000 in
/-- vec.pieces: both arguments are boxed; the function value captures the boxes. -/
theorem pieces_in (F : Fence) (n : Nat) (h20 : F.fn 86) (hro : F.round = none) (p : Option Addr) (len cap : Nat) (z : Int) (w : World) :
    CallsIn F n Tryd.prog 86 #[.slice p len cap, .int .i64 z] w fun e w' =>
      e = .returned (.func (.func 92) #[] #[.pointer (some ⟨w.heap.size + 1, 0, none⟩), .pointer (some ⟨w.heap.size, 0, none⟩)]) ∧ w' = (w.alloc (.cells #[.slice p len cap] 25)).alloc (.cells #[.int .i64 z] 3) := by
  refine callsIn_of_wp Tryd.func86 rfl h20 ?_ hro
  simp only [Tryd.ntmps86, List.size_toArray, List.length_cons, List.length_nil, Nat.reduceAdd, Nat.reduceSub, Array.replicate_succ, Array.replicate_zero, List.push_toArray, List.append_toArray, List.nil_append, List.cons_append]
  gi_wp2
  go_ret
  exact ⟨rfl, rfl⟩

/-- The block and the offset of a slice. -/
def blk : Option Addr → Nat | some a => a.block | none => 0
def offs : Option Addr → Nat | some a => a.off | none => 0

/-- The function value that vec.pieces hands back tells the pieces. -/
theorem pieces_stops (F : Fence) (n : Nat) (h24 : F.fn 92) (hro : F.round = none) (hn : 1 ≤ n) (Bn Bb n₀ : Nat) (p : Option Addr) (len cap : Nat) (zs : List Nat) (m : Nat) (hm1 : 1 ≤ m) (hm2 : (m : Int) ≤ 9223372036854775807) (w : World)
    (hBn : Bn < w.heap.size) (hBb : Bb < w.heap.size) (hn₀ : n₀ ≤ w.heap.size)
    (hcn : w.cell? ⟨Bn, 0, none⟩ = some (.int .i64 m)) (hcb : w.cell? ⟨Bb, 0, none⟩ = some (.slice p len cap)) (hI : IsBytes n₀ w p len cap zs) :
    SeqStopsK F n Tryd.prog 92 #[.pointer (some ⟨Bn, 0, none⟩), .pointer (some ⟨Bb, 0, none⟩)] (fun x : Pc m len => #[pcVal (blk p) (offs p) m len cap x.1]) (Keeps n₀ Bn)
      (fun ys => ∃ k, len ≤ m * k ∧ ys.map (·.1) = List.range k) (fun pre => ∃ k, pre.map (·.1) = List.range k) len w := fun l J Jx W hW _ _ hY h0 => by
  have hcn' := (hW.cell (p := ⟨Bn, 0, none⟩) hBn).trans hcn
  have hcb' := (hW.cell (p := ⟨Bb, 0, none⟩) hBb).trans hcb
  rcases hI.below (hW.mono hn₀) with ⟨_, h2, h3, _, rfl | ⟨b, off, rfl, hb, hcs⟩⟩
  · exact (pieces1_none_in F n h24 hro l Bn Bb m hm1 hm2 p cap (J []) W hcn' hcb' h0).mono fun e W' ⟨he, hj⟩ => ⟨he, .inl ⟨[], ⟨0, by simp, rfl⟩, hj⟩⟩
  · exact pieces1_in F n h24 hro hn l Bn Bb b off len cap m (Keeps n₀ Bn) (fun _ _ v h => h.2 v) hm1 hm2 h2 h3 J Jx hY W hcn' hcb' h0


/-- The same, told to a loop whose iterator may itself be within another one: nothing is asked of a round but that it keeps the cell that holds m. -/
theorem pieces_iter (F : Fence) (n : Nat) (h24 : F.fn 92) (hro : F.round = none) (hn : 1 ≤ n) (l Bn Bb : Nat) (p : Option Addr) (len cap : Nat) (m : Nat) (hm1 : 1 ≤ m) (hm2 : (m : Int) ≤ 9223372036854775807)
    (Kp : World → World → Prop) (hKp : ∀ A B v, Kp A B → A.cell? ⟨Bn, 0, none⟩ = some v → B.cell? ⟨Bn, 0, none⟩ = some v) (W : World)
    (hcn : W.cell? ⟨Bn, 0, none⟩ = some (.int .i64 m)) (hcb : W.cell? ⟨Bb, 0, none⟩ = some (.slice p len cap)) (hlc : len ≤ cap) (hcap : cap ≤ 9223372036854775807) (hp : len = 0 ∨ ∃ b off, p = some ⟨b, off, none⟩) :
    IterAt F n Tryd.prog 92 #[.pointer (some ⟨Bn, 0, none⟩), .pointer (some ⟨Bb, 0, none⟩)] (fun x : Pc m len => #[pcVal (blk p) (offs p) m len cap x.1]) (fun _ _ => True) Kp
      (fun ys => ∃ k, len ≤ m * k ∧ ys.map (·.1) = List.range k) (fun pre => ∃ k, pre.map (·.1) = List.range k) len l W := fun J Jx _ _ hY h0 => by
  rcases hp with rfl | ⟨b, off, rfl⟩
  · exact (pieces1_none_in F n h24 hro l Bn Bb m hm1 hm2 p cap (J []) W hcn hcb h0).mono fun e W' ⟨he, hj⟩ => ⟨he, .inl ⟨[], ⟨0, by simp, rfl⟩, hj⟩⟩
  · exact pieces1_in F n h24 hro hn l Bn Bb b off len cap m Kp hKp hm1 hm2 hlc hcap J Jx (fun pre x W1 hj hlt => by
      obtain ⟨fn, tmps, assign, body, hy, hR⟩ := hY pre x W1 hj trivial hlt
      exact ⟨fn, tmps, assign, body, hy, hR.mono fun e W' h => by
        rcases h with h | h
        · exact .inl h
        · exact .inr ⟨h.1, h.2.1⟩⟩) W hcn hcb h0

end Go.Proofs.YtobmcaknfbooiaaDoor.Re
/-
  What vec.Words answers: of any slice of bytes (up to 60,000) a slice of its own, of the numbers of each four bytes, the lowest ahead; nothing that lay before the call has turned.
-/
namespace Go.Proofs.YtobmcaknfbooiaaDoor.Re
open Go.RowKit Go.Shelf
attribute [local go_sem] Oper.semAt_some

theorem info22 : (Tryd.prog.info? 22).map (fun i => (i.zero, i.size, i.bytes)) = some (some (.int .u32 0), 1, 4) := by kernel_rfl

/-- The number of four bytes, the lowest ahead. -/
def wordAt (zs : List Nat) (j : Nat) : Nat := zs.getD (4 * j) 0 + 256 * zs.getD (4 * j + 1) 0 + 65536 * zs.getD (4 * j + 2) 0 + 16777216 * zs.getD (4 * j + 3) 0
def wordVals (zs : List Nat) (k : Nat) : List Value := (List.range k).map fun j => .int .u32 (wordAt zs j : Nat)

theorem wordVals_of (zs : List Nat) {len k : Nat} (ys : List (Pc 4 len)) (h : ys.map (·.1) = List.range k) : ys.map (fun x => Value.int .u32 (wordAt zs x.1 : Nat)) = wordVals zs k := by
  unfold wordVals
  rw [← h, List.map_map]
  rfl

theorem u32_or_comm (x y : Int) : bits .or .u32 x y = bits .or .u32 y x := by simp only [bits, BitVec.or_comm]

theorem u32_join (x y : Nat) (i : Nat) (h1 : x % 2 ^ i = 0) (h2 : y < 2 ^ i) (hx : x < 4294967296) (hy : y < 4294967296) : bits .or .u32 (y : Int) (x : Int) = ((y + x : Nat) : Int) := by
  rw [u32_or_comm, bits_join .u32 32 (by decide) (fun n h0 h1 => by rw [IntKind.wrap_u32]; omega) i x y (by omega) (by exact_mod_cast h1) (by omega) (by omega) (by exact_mod_cast h2) (by omega)]
  omega

theorem word_or (a b c d : Nat) (ha : a < 256) (hb : b < 256) (hc : c < 256) (hd : d < 256) :
    bits .or .u32 (bits .or .u32 (bits .or .u32 (a : Int) (IntKind.u32.wrap ((b : Int) * 256))) (IntKind.u32.wrap ((c : Int) * 65536))) (IntKind.u32.wrap ((d : Int) * 16777216)) = ((a + 256 * b + 65536 * c + 16777216 * d : Nat) : Int) := by
  have e1 : IntKind.u32.wrap ((b : Int) * 256) = ((256 * b : Nat) : Int) := by rw [IntKind.wrap_u32]; omega
  have e2 : IntKind.u32.wrap ((c : Int) * 65536) = ((65536 * c : Nat) : Int) := by rw [IntKind.wrap_u32]; omega
  have e3 : IntKind.u32.wrap ((d : Int) * 16777216) = ((16777216 * d : Nat) : Int) := by rw [IntKind.wrap_u32]; omega
  rw [e1, e2, e3, u32_join _ a 8 (by omega) (by omega) (by omega) (by omega), u32_join _ _ 16 (by omega) (by omega) (by omega) (by omega), u32_join _ _ 24 (by omega) (by omega) (by omega) (by omega)]

theorem row_of_range (zs : List Nat) {len : Nat} (ys : List (Pc 4 len)) (k : Nat) (h : ys.map (·.1) = List.range k) (hall : ∀ x ∈ ys, 4 * x.1 + 4 ≤ len) (hk : len ≤ 4 * k) {W : World} {n₀ : Nat} {v : Value} :
    W.ownsRow n₀ 22 1 v ys.length (ys.map fun x => .int .u32 (wordAt zs x.1 : Nat)) = W.ownsRow n₀ 22 1 v (len / 4) (wordVals zs (len / 4)) := by
  have hl : ys.length = k := by have := congrArg List.length h; simpa using this
  have e : k = len / 4 := by
    rcases Nat.eq_zero_or_pos k with h0 | h0
    · subst h0; omega
    · have hm : k - 1 ∈ ys.map (·.1) := by rw [h]; simp; omega
      obtain ⟨x, hx, hxe⟩ := List.mem_map.1 hm
      have := hall x hx
      omega
  rw [wordVals_of zs ys h, hl, e]

theorem row_of_stop (zs : List Nat) {len : Nat} (pre : List (Pc 4 len)) (x : Pc 4 len) (k : Nat) (h : (pre ++ [x]).map (·.1) = List.range k) (hx : len < 4 * x.1 + 4) {W : World} {n₀ : Nat} {v : Value} :
    W.ownsRow n₀ 22 1 v pre.length (pre.map fun x => .int .u32 (wordAt zs x.1 : Nat)) = W.ownsRow n₀ 22 1 v (len / 4) (wordVals zs (len / 4)) := by
  have hl : pre.length + 1 = k := by have := congrArg List.length h; simpa using this
  subst hl
  rw [List.range_succ, List.map_append, List.map_singleton] at h
  have h1 := List.append_inj' h rfl
  have hx1 : x.1 = pre.length := by simpa using h1.2
  have := x.2
  have e : pre.length = len / 4 := by omega
  rw [wordVals_of zs pre h1.1, e]

set_option maxRecDepth 100000 in
set_option maxHeartbeats 2000000 in
theorem words_in (n : Nat) (hn : 3 ≤ n) (p : Option Addr) (len cap : Nat) (zs : List Nat) (hlen : len ≤ 60000) (w : World) (hI : IsBytes w.heap.size w p len cap zs) :
    CallsIn Fence.wide n Tryd.prog 76 #[.slice p len cap] w fun e W' => ∃ v, e = .returned v ∧ W'.ownsRow w.heap.size 22 1 v (len / 4) (wordVals zs (len / 4)) ∧ Below w.heap.size w W' := by
  have hfn : ∀ f, Fence.wide.fn f := fun _ => trivial
  have h1 : 1 ≤ n := by omega
  obtain ⟨i0, hi, hz0, hz1, hz2⟩ := info_parts info22
  refine callsIn_of_wp_marks Tryd.func76 rfl trivial ?_ rfl
  simp only [Tryd.ntmps76, List.size_toArray, List.length_cons, List.length_nil, Nat.reduceAdd, Nat.reduceSub, Array.replicate_succ, Array.replicate_zero, List.push_toArray, List.append_toArray, List.nil_append, List.cons_append]
  gi_wp2_with (first | (gi_at_make; refine wpListIn_make_own _ rfl _ _ 124 rfl w.heap.size 22 i0 (.int .u32 0) 1 Tryd.underlying124 hi hz0 hz1 _ _ _ (len / 4) rfl rfl (by omega) (by rw [hz2]; omega) (by simp only [maxLen]; omega) (Nat.le_refl _) ?_; intro w1 hown1 hgrow1) | (gi_at_call 86; refine (pieces_in Fence.wide _ trivial rfl _ _ _ _ _).mono ?_; rintro e w' ⟨rfl, rfl⟩))
  obtain ⟨hsz0, hsz1⟩ := hown1.lt w.heap.size rfl
  have hB1 : Below w.heap.size w w1 := (Below.refl _ w).grown hgrow1 (Nat.le_refl _) (fun k e => by cases e)
  have bO := Boxed.new w1 124 (.slice (some ⟨w.heap.size, 0, none⟩) 0 (len / 4))
  have bB := Boxed.new (w1.alloc (.cells #[.slice (some ⟨w.heap.size, 0, none⟩) 0 (len / 4)] 124)) 25 (.slice p len cap)
  have bN := Boxed.new ((w1.alloc (.cells #[.slice (some ⟨w.heap.size, 0, none⟩) 0 (len / 4)] 124)).alloc (.cells #[.slice p len cap] 25)) 3 (.int .i64 4)
  simp only [World.size_alloc] at bB bN
  have hB3 : Below w.heap.size w (((w1.alloc (.cells #[.slice (some ⟨w.heap.size, 0, none⟩) 0 (len / 4)] 124)).alloc (.cells #[.slice p len cap] 25)).alloc (.cells #[.int .i64 4] 3)) :=
    ((hB1.alloc (by omega) _).alloc (by simp; omega) _).alloc (by simp; omega) _
  refine wpIn_rangeFunc_ownG rfl h1 (gf := 92) (lb := #[.pointer (some ⟨w1.heap.size + 1 + 1, 0, none⟩), .pointer (some ⟨w1.heap.size + 1, 0, none⟩)]) rfl trivial (enters_of Tryd.func92 (by kernel_rfl) rfl)
    (pieces_stops Fence.wide (n - 1) trivial rfl (by omega) (w1.heap.size + 1 + 1) (w1.heap.size + 1) w.heap.size p len cap zs 4 (by omega) (by omega) _ (by simp) (by simp <;> omega) (by simp <;> omega) bN.cell (bB.alloc _).cell (hI.below hB3))
    (fun h k => ⟨h.1.trans k.1, fun v hv => k.2 v (h.2 v hv)⟩)
    (fun W l o o' hl ho hc hw => ⟨belowK_b (by simp; omega) W l o o' hl ho hc hw, fun v hv => cell_kept hv (grownBy_putObj' _ l o') (fun r e => by cases e; exact ⟨_, ho, hc⟩)⟩)
    (Below.refl _ _) (fun _ => rfl)
    (fun pre W => (∃ v, Boxed W w1.heap.size 124 v ∧ W.ownsRow w.heap.size 22 1 v pre.length (pre.map fun x => .int .u32 (wordAt zs x.1 : Nat)) ∧ ∀ x ∈ pre, 4 * x.1 + 4 ≤ len) ∧ Boxed W (w1.heap.size + 1 + 1) 3 (.int .i64 4) ∧ Below w.heap.size w W)
    (fun c pre W => (c = .exit 0 ∧ ∃ (pre' : List (Pc 4 len)) (x : Pc 4 len), pre = pre' ++ [x] ∧ len < 4 * x.1 + 4 ∧ ∃ v, Boxed W w1.heap.size 124 v ∧ W.ownsRow w.heap.size 22 1 v pre'.length (pre'.map fun x => .int .u32 (wordAt zs x.1 : Nat)) ∧ True) ∧ Below w.heap.size w W)
    (OwnFrom.and (Own.from (holdsRow_own w.heap.size w1.heap.size 124 22 1 (fun pre : List (Pc 4 len) => pre.length) (fun pre => pre.map fun x => .int .u32 (wordAt zs x.1 : Nat)) (fun pre _ => ∀ x ∈ pre, 4 * x.1 + 4 ≤ len)) _)
      (OwnFrom.and (Own.from (boxed_own _ _ _) _) (ownFrom_below (Nat.le_refl _) (by simp; omega))))
    (fun c => OwnFrom.and (Own.from (fun s A B row hs hg hr => by
      obtain ⟨hc, pre', x, e, hx, hv⟩ := hs
      exact ⟨hc, pre', x, e, hx, holdsRow_own w.heap.size w1.heap.size 124 22 1 (fun pre : List (Pc 4 len) => pre.length) (fun pre => pre.map fun x => .int .u32 (wordAt zs x.1 : Nat)) (fun _ _ => True) pre' A B row hv hg hr⟩) _) (ownFrom_below (Nat.le_refl _) (by simp; omega)))
    ⟨⟨_, (bO.alloc _).alloc _, by simpa using ((hown1.alloc _).alloc _).alloc _, by simp⟩, bN, hB3⟩
    (fun x => { tmps := #[.slice p len cap, undef, .slice none 0 0, .pointer (some ⟨w1.heap.size, 0, none⟩), pcVal (blk p) (offs p) 4 len cap x.1, .slice p len cap, .int .i64 len, .int .i64 (len / 4), .slice (some ⟨w.heap.size, 0, none⟩) 0 (len / 4), .slice p len cap, .func (.func 92) #[] #[.pointer (some ⟨w1.heap.size + 1 + 1, 0, none⟩), .pointer (some ⟨w1.heap.size + 1, 0, none⟩)],
      pcVal (blk p) (offs p) 4 len cap x.1, undef, undef, undef, undef, undef, undef, undef, undef, undef, undef, undef, undef, undef, undef, undef, undef, undef, undef, undef, undef, undef, undef, undef, undef, undef, undef, undef, undef, undef], defers := [] }) ?assign ?body ?done ?stop
  case assign =>
    intro l x W K hK
    gi_wp2
    exact hK
  case body =>
    rintro l pre x W ⟨⟨v, hv, hrow, hall⟩, hbn, hB⟩ hlt
    obtain ⟨j, hj⟩ := x
    obtain ⟨hzl, hlc, hcc, hz256, hl0 | ⟨bb, off, rfl, hbb, hcs⟩⟩ := hI.below hB
    · omega
    simp only [blk, offs]
    by_cases hfull : 4 * j + 4 ≤ len
    · have e : pcVal bb off 4 len cap j = .slice (some ⟨bb, off + 4 * j, none⟩) 4 (cap - 4 * j) := by
        unfold pcVal; rw [show min 4 (len - 4 * j) = 4 by omega]
      rw [e]
      have c0 := hcs (4 * j) (by omega)
      have c1 := hcs (4 * j + 1) (by omega)
      have c2 := hcs (4 * j + 2) (by omega)
      have c3 := hcs (4 * j + 3) (by omega)
      have b0 : zs.getD (4 * j) 0 < 256 := getD_of_all hz256 _
      have b1 : zs.getD (4 * j + 1) 0 < 256 := getD_of_all hz256 _
      have b2 : zs.getD (4 * j + 2) 0 < 256 := getD_of_all hz256 _
      have b3 : zs.getD (4 * j + 3) 0 < 256 := getD_of_all hz256 _
      rw [show off + (4 * j + 1) = off + 4 * j + 1 by omega] at c1
      rw [show off + (4 * j + 2) = off + 4 * j + 2 by omega] at c2
      rw [show off + (4 * j + 3) = off + 4 * j + 3 by omega] at c3
      obtain ⟨w0, hw0⟩ : ∃ z, z = zs.getD (4 * j) 0 := ⟨_, rfl⟩
      obtain ⟨w1', hw1⟩ : ∃ z, z = zs.getD (4 * j + 1) 0 := ⟨_, rfl⟩
      obtain ⟨w2, hw2⟩ : ∃ z, z = zs.getD (4 * j + 2) 0 := ⟨_, rfl⟩
      obtain ⟨w3, hw3⟩ : ∃ z, z = zs.getD (4 * j + 3) 0 := ⟨_, rfl⟩
      have HW : Hid (wordAt zs j = w0 + 256 * w1' + 65536 * w2 + 16777216 * w3) := by
        show _ = _
        rw [hw0, hw1, hw2, hw3]; rfl
      rw [← hw0] at c0 b0
      rw [← hw1] at c1 b1
      rw [← hw2] at c2 b2
      rw [← hw3] at c3 b3
      clear hw0 hw1 hw2 hw3 e hcs hz256
      have HJ : Hid (off + 4 * j = off + 4 * j ∧ 4 * j < len) := ⟨rfl, hj⟩
      generalize off + 4 * j = O at *
      generalize cap - 4 * j = C at *
      have u0 : IntKind.u32.wrap (w0 : Int) = w0 := by rw [IntKind.wrap_u32]; omega
      have u1 : IntKind.u32.wrap (w1' : Int) = w1' := by rw [IntKind.wrap_u32]; omega
      have u2 : IntKind.u32.wrap (w2 : Int) = w2 := by rw [IntKind.wrap_u32]; omega
      have u3 : IntKind.u32.wrap (w3 : Int) = w3 := by rw [IntKind.wrap_u32]; omega
      have HWV : Hid (Value.int .u32 (wordAt zs j : Nat) = .int .u32 (bits .or .u32 (bits .or .u32 (bits .or .u32 w0 (IntKind.u32.wrap (w1' * 256))) (IntKind.u32.wrap (w2 * 65536))) (IntKind.u32.wrap (w3 * 16777216)))) := by
        show _ = _
        rw [HW.out, word_or w0 w1' w2 w3 b0 b1 b2 b3]
      gi_wp2
      refine wpIn_region_held_round (S := fun W' => W'.cell? ⟨bb, O, none⟩ = some (.int .u8 w0) ∧ W'.cell? ⟨bb, O + 1, none⟩ = some (.int .u8 w1') ∧ W'.cell? ⟨bb, O + 2, none⟩ = some (.int .u8 w2) ∧ W'.cell? ⟨bb, O + 3, none⟩ = some (.int .u8 w3))
        (by kernel_rfl) (by kernel_rfl) (fun ⟨_, _, h⟩ => h) ⟨by simpa using c0, by simpa using c1, by simpa using c2, by simpa using c3⟩ (fun hHeld => ?_)
      refine wpAnyH_takesAt 1 22 4 (of_decide_eq_true (by kernel_rfl)) rfl (fun _ _ _ _ _ h => h) (by kernel_rfl) (by kernel_rfl) hHeld ?_
      simp only [List.drop_succ_cons, List.drop_zero, List.take_succ_cons, List.take_zero]
      iterate 22 (refine wpHeld_step (v := ?_) (by rfl) (fun wz hSw => ?_) ?_; rotate_left; (focus ((try dsimp only at hSw); go_simp; try with_reducible rfl)); (simp only [Act.put, List.setIfInBounds_toArray, List.set_cons_zero, List.set_cons_succ]))
      refine wpHeld_nil ?_
      have hc := hv.cell
      have HKeep : Hid (∀ W', Below w.heap.size W W' → W'.cell? ⟨bb, O, none⟩ = some (.int .u8 w0) ∧ W'.cell? ⟨bb, O + 1, none⟩ = some (.int .u8 w1') ∧ W'.cell? ⟨bb, O + 2, none⟩ = some (.int .u8 w2) ∧ W'.cell? ⟨bb, O + 3, none⟩ = some (.int .u8 w3)) := fun W' hb =>
        ⟨(hb.cell (p := ⟨bb, O, none⟩) hbb).trans c0, (hb.cell (p := ⟨bb, O + 1, none⟩) hbb).trans c1, (hb.cell (p := ⟨bb, O + 2, none⟩) hbb).trans c2, (hb.cell (p := ⟨bb, O + 3, none⟩) hbb).trans c3⟩
      refine wpAnyH_either (i := 0) (j := 23) (by kernel_rfl) rfl rfl (fun K hK => ?_) (fun K hK => ?_)
      · rw [if_pos (by rfl)]
        go_simp
        refine hK.out _ _ hHeld ?_
        clear hK K
        refine wpAnyH_only (i := 23) (by kernel_rfl) rfl (fun K hK => ?_)
        rw [if_pos (by rfl)]
        go_simp
        refine hK.out _ _ (HKeep.out _ ((Below.refl _ W).drew.alloc hB.size _)) ?_
        clear hK K
        refine wpAnyH_only (i := 24) (by kernel_rfl) rfl (fun K hK => ?_)
        rw [if_pos (by rfl)]
        refine wp_append_lies _ (.tmp 15) (.tmp 38) 124 (by rfl) w.heap.size 22 i0 (.int .u32 0) 1 4 Tryd.underlying124 hi hz0 hz1 hz2 rfl (by decide) v pre.length _ (by rfl) ((show W.drew.ownsRow _ _ _ _ _ _ from hrow).alloc _)
          ⟨W.heap.size, 0, none⟩ 1 1 [.int .u32 (wordAt zs j : Nat)] (by rfl) rfl (by rw [HWV.out]; exact cell_one_new _ _ _) (by simp [Value.oneCell']) (by omega) (by simp only [maxLen]; omega) (by omega) (by have := hB.size; simp; omega) (W.heap.size + 1) (by simp) ?_
        intro g cap' w2 hown2 hgrow2 hat hlt2
        obtain ⟨hv1, hv2, hr2, hk2, hb2⟩ := Boxed.appended (W := W.drew) hv (by decide) hrow hB.size (by omega) hown2 hgrow2
        have hbW : Below w.heap.size W w2 := ((Below.refl _ W).drew.alloc hB.size _).grown hgrow2 (by have := hB.size; simp; omega) (fun k e => (hrow.lt k e).1)
        have hbn1 : Boxed w2 (w1.heap.size + 1 + 1) 3 (.int .i64 4) := (Boxed.alloc (W := W.drew) hbn _).kept hgrow2 (hbn.not_row (by decide) hrow)
        refine hK.out _ _ (HKeep.out _ hbW) ?_
        clear hK K
        have hc1 := hv1.cell
        have hf1 := hv1.frozen
        refine wpAnyH_only (i := 25) (by kernel_rfl) rfl (fun K hK => ?_)
        rw [if_pos (by rfl)]
        go_simp
        refine hK.out _ _ (HKeep.out _ (hbW.setCell (p := ⟨w1.heap.size, 0, none⟩) (show w.heap.size ≤ w1.heap.size by omega) _)) ?_
        clear hK K
        refine wpAnyH_done (by kernel_rfl) ?_ _
        have hbd : Below w.heap.size W (w2.setCell ⟨w1.heap.size, 0, none⟩ (.slice (some ⟨g, 0, none⟩) (pre.length + 1) cap')) := (Below.refl _ W).drew.trans hb2
        have hbn2 := hbn1.other (B' := w1.heap.size) (by omega) (.slice (some ⟨g, 0, none⟩) (pre.length + 1) cap')
        refine ⟨((KeepsOthers.drew W).trans hk2).from _, ⟨hbd, fun u hu => ?_⟩, ⟨⟨_, hv2, ?_, ?_⟩, hbn2, hB.trans hbd⟩⟩
        · rw [hbn.cell] at hu; cases hu; exact hbn2.cell
        · simpa using hr2
        · intro y hy
          rcases List.mem_append.1 hy with hy | hy
          · exact hall y hy
          · simp at hy; subst hy; exact hfull
      · rw [if_pos (by rfl)]
        go_simp
        refine hK.out _ _ (HKeep.out _ ((Below.refl _ W).drew.alloc hB.size _)) ?_
        clear hK K
        have hc9 := (hv.alloc (.cells #[.int .u32 (wordAt zs j : Nat)] 22)).cell
        rw [HWV.out] at hc9
        refine wpAnyH_only (i := 0) (by kernel_rfl) rfl (fun K hK => ?_)
        rw [if_pos (by rfl)]
        go_simp
        refine hK.out _ _ (HKeep.out _ ((Below.refl _ W).drew.alloc hB.size _)) ?_
        clear hK K hc9
        refine wpAnyH_only (i := 24) (by kernel_rfl) rfl (fun K hK => ?_)
        rw [if_pos (by rfl)]
        refine wp_append_lies _ (.tmp 15) (.tmp 38) 124 (by rfl) w.heap.size 22 i0 (.int .u32 0) 1 4 Tryd.underlying124 hi hz0 hz1 hz2 rfl (by decide) v pre.length _ (by rfl) ((show W.drew.ownsRow _ _ _ _ _ _ from hrow).alloc _)
          ⟨W.heap.size, 0, none⟩ 1 1 [.int .u32 (wordAt zs j : Nat)] (by rfl) rfl (by rw [HWV.out]; exact cell_one_new _ _ _) (by simp [Value.oneCell']) (by omega) (by simp only [maxLen]; omega) (by omega) (by have := hB.size; simp; omega) (W.heap.size + 1) (by simp) ?_
        intro g cap' w2 hown2 hgrow2 hat hlt2
        obtain ⟨hv1, hv2, hr2, hk2, hb2⟩ := Boxed.appended (W := W.drew) hv (by decide) hrow hB.size (by omega) hown2 hgrow2
        have hbW : Below w.heap.size W w2 := ((Below.refl _ W).drew.alloc hB.size _).grown hgrow2 (by have := hB.size; simp; omega) (fun k e => (hrow.lt k e).1)
        have hbn1 : Boxed w2 (w1.heap.size + 1 + 1) 3 (.int .i64 4) := (Boxed.alloc (W := W.drew) hbn _).kept hgrow2 (hbn.not_row (by decide) hrow)
        refine hK.out _ _ (HKeep.out _ hbW) ?_
        clear hK K
        have hc1 := hv1.cell
        have hf1 := hv1.frozen
        refine wpAnyH_only (i := 25) (by kernel_rfl) rfl (fun K hK => ?_)
        rw [if_pos (by rfl)]
        go_simp
        refine hK.out _ _ (HKeep.out _ (hbW.setCell (p := ⟨w1.heap.size, 0, none⟩) (show w.heap.size ≤ w1.heap.size by omega) _)) ?_
        clear hK K
        refine wpAnyH_done (by kernel_rfl) ?_ _
        have hbd : Below w.heap.size W (w2.setCell ⟨w1.heap.size, 0, none⟩ (.slice (some ⟨g, 0, none⟩) (pre.length + 1) cap')) := (Below.refl _ W).drew.trans hb2
        have hbn2 := hbn1.other (B' := w1.heap.size) (by omega) (.slice (some ⟨g, 0, none⟩) (pre.length + 1) cap')
        refine ⟨((KeepsOthers.drew W).trans hk2).from _, ⟨hbd, fun u hu => ?_⟩, ⟨⟨_, hv2, ?_, ?_⟩, hbn2, hB.trans hbd⟩⟩
        · rw [hbn.cell] at hu; cases hu; exact hbn2.cell
        · simpa using hr2
        · intro y hy
          rcases List.mem_append.1 hy with hy | hy
          · exact hall y hy
          · simp at hy; subst hy; exact hfull
    · have e : pcVal bb off 4 len cap j = .slice (some ⟨bb, off + 4 * j, none⟩) (len - 4 * j) (cap - 4 * j) := by
        unfold pcVal; rw [show min 4 (len - 4 * j) = len - 4 * j by omega]
      rw [e]
      have hL4 : len - 4 * j < 4 := by omega
      clear e hcs
      generalize off + 4 * j = O at *
      generalize cap - 4 * j = C at *
      generalize len - 4 * j = L at *
      gi_wp2
      exact ⟨KeepsFrom.refl _ _, ⟨rfl, pre, ⟨j, hj⟩, rfl, by show len < 4 * j + 4; omega, v, hv, hrow, trivial⟩, hB⟩
  case done =>
    rintro D ys W hD ⟨k, hk, hys⟩ ⟨⟨v, hv, hrow, hall⟩, hbn, hB⟩ hK
    have hc := hv.cell
    gi_wp2
    refine ⟨by simp, .inl ⟨_, _, rfl, run_takeDeferred hK, ?_⟩⟩
    exact ⟨_, results_tmp rfl _ _ _, v, rfl, by rw [← row_of_range zs ys k hys hall hk]; exact ownsRow_putObj hrow _ hK rfl, hB.trans (belowK_b (w := w) (Nat.le_refl _) W D _ _ (by simp at hD; omega) hK rfl rfl)⟩
  case stop =>
    rintro D c pre W hD ⟨k, hk⟩ ⟨⟨rfl, pre', x, rfl, hx, v, hv, hrow, _⟩, hB⟩ hK
    have hc := hv.cell
    gi_wp2
    refine ⟨by simp, .inl ⟨_, _, rfl, run_takeDeferred hK, ?_⟩⟩
    exact ⟨_, results_tmp rfl _ _ _, v, rfl, by rw [← row_of_stop zs pre' x k hk hx]; exact ownsRow_putObj hrow _ hK rfl, hB.trans (belowK_b (w := w) (Nat.le_refl _) W D _ _ (by simp at hD; omega) hK rfl rfl)⟩

/-- vec.Words, outside every fence. -/
theorem words_any (p : Option Addr) (len cap : Nat) (zs : List Nat) (hlen : len ≤ 60000) (w : World) (hI : IsBytes w.heap.size w p len cap zs) :
    Calls Tryd.prog 76 #[.slice p len cap] w fun e W' => ∃ v, e = .returned v ∧ W'.ownsRow w.heap.size 22 1 v (len / 4) (wordVals zs (len / 4)) ∧ Below w.heap.size w W' :=
  callsIn_wide.1 (words_in 3 (Nat.le_refl _) p len cap zs hlen w hI)

end Go.Proofs.YtobmcaknfbooiaaDoor.Re
/-
  What chacha.firstState answers: the fixed words, the key's, the counter and the nonce's. Nothing that lay before the call has turned.
-/
namespace Go.Proofs.YtobmcaknfbooiaaDoor.Re
open Go.RowKit

theorem size24 : (Tryd.prog.info? 24).map (·.size) = some 32 := by kernel_rfl
theorem size78 : (Tryd.prog.info? 78).map (·.size) = some 12 := by kernel_rfl
theorem size150 : (Tryd.prog.info? 150).map (·.size) = some 4 := by kernel_rfl
theorem size22 : (Tryd.prog.info? 22).map (·.size) = some 1 := by kernel_rfl
theorem z12 : #[Value.int .u32 0, Value.int .u32 0, Value.int .u32 0, Value.int .u32 0] = (List.replicate 4 (Value.int .u32 0)).toArray := rfl

theorem run_index150 (cs : List Value) (k : Nat) (v : Value) (hk : k < 4) (hv : cs[k]? = some v) (w : World) : (Instr.index 150 (.agg cs.toArray) (.int .i64 (k : Int))).run Tryd.prog w = .ok v w := by
  simp [Instr.index, run_underlying Tryd.underlying150, asIntOf, go_sem, hv]
  omega

theorem wordAt_low (zs : List Nat) (j : Nat) : wordAt zs j = wordL zs j := by unfold wordAt wordL wordB; omega
theorem wordVals_low (zs : List Nat) (k : Nat) : wordVals zs k = u32s (wordsLow zs k) := by
  unfold wordVals u32s wordsLow
  rw [List.map_map]
  exact List.map_congr_left (fun i _ => by simp [wordAt_low])

/-- A row of bytes as a slice. -/
theorem bytes_of_row {W : World} {b : Nat} {t : TypeId} {zs : List Nat} (h : Row W b t (u8s zs)) (hz : ∀ z ∈ zs, z < 256) {n : Nat} (hn : zs.length = n) (hn2 : n ≤ 60000) : IsBytes W.heap.size W (some ⟨b, 0, none⟩) n n zs :=
  ⟨hn, Nat.le_refl _, by omega, hz, .inr ⟨b, 0, rfl, h.lt, fun i hi => by rw [Nat.zero_add]; exact h.cell (u8s_at (by omega))⟩⟩

theorem state_list : ∀ (f K N : List Value) (c z : Value), f.length = 4 → K.length = 8 → N.length = 3 → splice ((splice (fill 16 z f) 4 K).set 12 c) 13 N = f ++ K ++ [c] ++ N
  | [_, _, _, _], [_, _, _, _, _, _, _, _], [_, _, _], _, _, _, _, _ => rfl
theorem stateN_list (key : List Nat) (c : Nat) (nonce : List Nat) : u32s fixedL ++ u32s (wordsLow key 8) ++ [.int .u32 (c : Nat)] ++ u32s (wordsLow nonce 3) = u32s (stateN key c nonce) := by
  simp [u32s, stateN, fixedL]

set_option maxRecDepth 100000 in
set_option maxHeartbeats 4000000 in
theorem firstState_any (key : List Nat) (c : Nat) (nonce : List Nat) (hk : key.length = 32) (hkx : ∀ z ∈ key, z < 256) (hn : nonce.length = 12) (hnx : ∀ z ∈ nonce, z < 256) (w : World) (hT : Tab w) :
    Calls Tryd.prog 84 #[.agg (u8s key).toArray, .int .u32 c, .agg (u8s nonce).toArray] w fun e w' => e = .returned (.agg (u32s (stateN key c nonce)).toArray) ∧ Below w.heap.size w w' := by
  have HT : Hid (Tab w) := hT
  have HTp : Hid (1 < w.heap.size) := hT.pos
  have HKx : Hid (∀ z ∈ key, z < 256) := hkx
  have HNx : Hid (∀ z ∈ nonce, z < 256) := hnx
  have HKl : Hid (key.length = 32) := hk
  have HNl : Hid (nonce.length = 12) := hn
  obtain ⟨FV, hFV⟩ : ∃ FV, FV = u32s fixedL := ⟨_, rfl⟩
  have HFV : Hid (FV = u32s fixedL) := hFV
  have HFl : Hid (FV.length = 4) := by show _ = _; rw [hFV]; rfl
  have HFn : Hid (∀ i, i < 4 → FV[i]? = some (.int .u32 (fixedL.getD i 0 : Nat))) := fun i hi => by rw [hFV]; exact u32s_at hi
  clear hT hkx hnx hFV hk hn
  go_enter Tryd.func84, Tryd.ntmps84
  go_wp2_with ((with_reducible show wpList _ _ _ (Oper.mk _ (Op.load 150 (.global 0)) _ _ _ _ :: _) _ _); refine wpList_load_mid rfl 150 (.global 0) rfl 0 0 rfl FV _ (by rw [HFV.out]; exact (HT.out.below (((((Below.refl w.heap.size w).alloc (Nat.le_refl _) _).alloc (by simp) _).alloc (by simp; omega) _).alloc (by simp; omega) _) HTp.out).fixed) Tryd.underlying150 rfl (by rw [HFl.out]; exact size150) ?_; simp only [Act.put, List.setIfInBounds_toArray, List.set_cons_zero, List.set_cons_succ])
  rw [z16u32]
  obtain ⟨Z, hZ⟩ : ∃ Z, Z = List.replicate 16 (Value.int .u32 0) := ⟨_, rfl⟩
  have HZ : Hid (Z = List.replicate 16 (Value.int .u32 0)) := hZ
  have HZl : Hid (Z.length = 16) := by show _ = _; rw [hZ]; rfl
  rw [← hZ]
  clear hZ
  have rK : Row ((((w.alloc (.cells (u8s key).toArray 24)).alloc (.cells (u8s nonce).toArray 78)).alloc (.cells Z.toArray 140)).alloc (.cells Z.toArray 140)) w.heap.size 24 (u8s key) := (((Row.new' w 24 _).alloc _).alloc _).alloc _
  have rN : Row ((((w.alloc (.cells (u8s key).toArray 24)).alloc (.cells (u8s nonce).toArray 78)).alloc (.cells Z.toArray 140)).alloc (.cells Z.toArray 140)) (w.heap.size + 1) 78 (u8s nonce) := by
    have := Row.new' (w.alloc (.cells (u8s key).toArray 24)) 78 (u8s nonce)
    rw [World.size_alloc] at this
    exact (this.alloc _).alloc _
  have rR : Row ((((w.alloc (.cells (u8s key).toArray 24)).alloc (.cells (u8s nonce).toArray 78)).alloc (.cells Z.toArray 140)).alloc (.cells Z.toArray 140)) (w.heap.size + 1 + 1) 140 Z := by
    have := Row.new' ((w.alloc (.cells (u8s key).toArray 24)).alloc (.cells (u8s nonce).toArray 78)) 140 Z
    rw [World.size_alloc, World.size_alloc] at this
    exact this.alloc _
  have rS : Row ((((w.alloc (.cells (u8s key).toArray 24)).alloc (.cells (u8s nonce).toArray 78)).alloc (.cells Z.toArray 140)).alloc (.cells Z.toArray 140)) (w.heap.size + 1 + 1 + 1) 140 (fill 16 (.int .u32 0) (u32s (fixedL.take 0))) := by
    have := Row.new' (((w.alloc (.cells (u8s key).toArray 24)).alloc (.cells (u8s nonce).toArray 78)).alloc (.cells Z.toArray 140)) 140 Z
    rw [World.size_alloc, World.size_alloc, World.size_alloc] at this
    rw [HZ.out] at this ⊢
    exact this
  have hb0 : Below w.heap.size w ((((w.alloc (.cells (u8s key).toArray 24)).alloc (.cells (u8s nonce).toArray 78)).alloc (.cells Z.toArray 140)).alloc (.cells Z.toArray 140)) := ((((Below.refl w.heap.size w).alloc (Nat.le_refl _) _).alloc (by simp) _).alloc (by simp; omega) _).alloc (by simp; omega) _
  generalize ((((w.alloc (.cells (u8s key).toArray 24)).alloc (.cells (u8s nonce).toArray 78)).alloc (.cells Z.toArray 140)).alloc (.cells Z.toArray 140)) = w0 at *
  go_loopw [11] (fun i wr => ∃ k : Nat, k ≤ 4 ∧ i = .int .i64 k ∧ Row wr w.heap.size 24 (u8s key) ∧ Row wr (w.heap.size + 1) 78 (u8s nonce) ∧ Row wr (w.heap.size + 1 + 1) 140 Z ∧ Row wr (w.heap.size + 1 + 1 + 1) 140 (fill 16 (.int .u32 0) (u32s (fixedL.take k))) ∧ Below w.heap.size w wr)
    (fun i _ => 4 - (intOf i).toNat)
  case atStart => exact ⟨0, by omega, rfl, rK, rN, rR, rS, hb0⟩
  case round =>
    clear rK rN rR rS hb0
    obtain ⟨k, hk, rfl, hrK, hrN, hrR, hrS, hBw⟩ := hrel
    by_cases hk4 : k < 4
    · have hki : (k : Int) < 4 := by omega
      have cI : ∀ w : World, (Instr.index 150 (.agg FV.toArray) (.int .i64 (k : Int))).run Tryd.prog w = .ok (.int .u32 (fixedL.getD k 0 : Nat)) w := fun w => run_index150 _ k _ hk4 (HFn.out k hk4) w
      have HFt : Hid (fixedL.take k ++ [fixedL.getD k 0] = fixedL.take (k + 1)) := by
        show _ = _
        rcases k with _ | _ | _ | _ | k
        all_goals first | rfl | omega
      have HFk : Hid ((u32s (fixedL.take k)).length = k) := by show _ = _; rw [u32s_length, List.length_take]; show min k 4 = k; omega
      have cz := hrS.cell (i := k) (v := .int .u32 0) (fill_rest _ _ _ (by rw [HFk.out]; omega) (by omega))
      have fz := hrS.frozen k
      have hki16 : (k : Int) < 16 := by omega
      have HrK : Hid _ := hrK
      have HrN : Hid _ := hrN
      have HrR : Hid _ := hrR
      have HrS : Hid _ := hrS
      clear hrK hrN hrR hrS
      generalize hx : fixedL.getD k 0 = x at *
      have Hx : Hid (fixedL.getD k 0 = x) := hx
      clear hx
      go_wp2
      go_roundw
      case rel =>
        refine ⟨k + 1, by omega, by go_num, Row.other HrK.out (by simp; omega) _, Row.other HrN.out (by simp) _, Row.other HrR.out (by simp) _, ?_, hBw.setCell (p := ⟨w.heap.size + 1 + 1 + 1, k, none⟩) (by show _ ≤ w.heap.size + 1 + 1 + 1; omega) _⟩
        have h := Row.set HrS.out k (.int .u32 (x : Nat))
        rw [fill_set _ _ _ _ HFk.out (by omega), u32s_snoc, HFt.out] at h
        exact h
      case measure => simp [intOf]; omega
    · obtain rfl : k = 4 := by omega
      have HrK : Hid (Row wr w.heap.size 24 (u8s key)) := hrK
      have HrN : Hid (Row wr (w.heap.size + 1) 78 (u8s nonce)) := hrN
      have HrR : Hid (Row wr (w.heap.size + 1 + 1) 140 Z) := hrR
      have HrS : Hid (Row wr (w.heap.size + 1 + 1 + 1) 140 (fill 16 (.int .u32 0) (u32s fixedL))) := hrS
      have HBw : Hid (Below w.heap.size w wr) := hBw
      clear hrK hrN hrR hrS hBw
      go_wp2
      refine wp_region_noPanic ?_
      refine wp_region_gate' 3 (fun _ => True) (by kernel_rfl) ?_
      refine wpAnyG_takesAt 0 2 2 (of_decide_eq_true (by kernel_rfl)) rfl (fun _ _ _ _ _ h => h) (by kernel_rfl) (by kernel_rfl) (fun _ => trivial) ?_
      simp only [List.drop_zero, List.take_succ_cons, List.take_zero]
      iterate 2 (refine wpHeldG_free (v := ?_) (by rfl) (fun wz => ?_) ?_; rotate_left; (focus (go_simp; try with_reducible rfl)); (simp only [Act.put, List.setIfInBounds_toArray, List.set_cons_zero, List.set_cons_succ]))
      refine wpHeldG_nil ?_
      refine wpAnyG_only (i := 2) (by kernel_rfl) rfl (by rfl) (fun K hK => ?_)
      go_simp
      refine (words_any (some ⟨w.heap.size, 0, none⟩) 32 32 key (by omega) wr.drew (bytes_of_row HrK.out.drew HKx.out HKl.out (by omega))).mono ?_
      rintro e w3 ⟨v3, rfl, hrow3, hb3⟩
      rw [wordVals_low] at hrow3
      obtain ⟨q3, c3, rfl⟩ := slice_of_row hrow3
      obtain ⟨g3, rfl, _⟩ := row_some hrow3 (by omega)
      refine hK.out _ _ (fun _ => trivial) ?_
      clear hK K
      refine wpAnyG_only (i := 3) (by kernel_rfl) rfl (by rfl) (fun K hK => ?_)
      refine wp_copy_but (.tmp 19) (.tmp 21) 124 124 (by rfl) 22 Tryd.underlying124 size22 (w.heap.size + 1 + 1 + 1) 4 8 12 ⟨g3, 0, none⟩ (32 / 4) c3 (by rfl) (by rfl) (fill 16 (.int .u32 0) (u32s fixedL)) 140 (HrS.out.drew.later hb3) (u32s (wordsLow key 8)) (by rw [u32s_length, wordsLow_length]; rfl) (row_src hrow3) (by rw [u32s_length, wordsLow_length]; show 4 + 8 ≤ 16; omega) (u32s_one _) (fun w4 hr4 hbut4 => ?_)
      refine hK.out _ _ (gone (by kernel_rfl)) ?_
      clear hK K
      refine wpAnyG_done (by kernel_rfl) ?_ _
      refine NoPanic.normal ?_
      simp only [Act.put, List.getElem_toArray, List.getElem_cons_succ, List.getElem_cons_zero, List.setIfInBounds_toArray, List.set_cons_zero, List.set_cons_succ]
      have hsw := HBw.out.size
      have hls := HrS.out.lt
      have hs3 : wr.heap.size ≤ w3.heap.size := hb3.size
      have HrN4 : Hid (Row w4 (w.heap.size + 1) 78 (u8s nonce)) := hbut4.row (by omega) (by omega) (HrN.out.drew.later hb3)
      have HrR4 : Hid (Row w4 (w.heap.size + 1 + 1) 140 Z) := hbut4.row (by omega) (by omega) (HrR.out.drew.later hb3)
      have HB4 : Hid (Below w.heap.size w w4) := (HBw.out.drew.trans (hb3.mono (show w.heap.size ≤ wr.heap.size by omega))).trans (hbut4.below (by omega) (by omega))
      have HL4 : Hid ((splice (fill 16 (.int .u32 0) (u32s fixedL)) 4 (u32s (wordsLow key 8))).length = 16) := by
        show _ = _
        rw [length_splice _ _ _ (by rw [u32s_length, wordsLow_length]; show 4 + 8 ≤ 16; omega)]
        rfl
      have HS4 : Hid (Row w4 (w.heap.size + 1 + 1 + 1) 140 (splice (fill 16 (.int .u32 0) (u32s fixedL)) 4 (u32s (wordsLow key 8)))) := hr4
      clear hr4 hbut4 hb3 hrow3 hs3 HrK HrN HrR HrS HBw
      generalize hX4 : splice (fill 16 (.int .u32 0) (u32s fixedL)) 4 (u32s (wordsLow key 8)) = X4 at *
      have HX4 : Hid (splice (fill 16 (.int .u32 0) (u32s fixedL)) 4 (u32s (wordsLow key 8)) = X4) := hX4
      clear hX4
      obtain ⟨v12, hv12⟩ : ∃ v, w4.cell? ⟨w.heap.size + 1 + 1 + 1, 12, none⟩ = some v := ⟨_, HS4.out.cell (List.getElem?_eq_getElem (by rw [HL4.out]; omega))⟩
      have fz12 := HS4.out.frozen 12
      go_wp2
      have HrN5 : Hid (Row (w4.setCell ⟨w.heap.size + 1 + 1 + 1, 12, none⟩ (.int .u32 (c : Nat))) (w.heap.size + 1) 78 (u8s nonce)) := HrN4.out.other (by simp) _
      have HrR5 : Hid (Row (w4.setCell ⟨w.heap.size + 1 + 1 + 1, 12, none⟩ (.int .u32 (c : Nat))) (w.heap.size + 1 + 1) 140 Z) := HrR4.out.other (by simp) _
      have HS5 : Hid (Row (w4.setCell ⟨w.heap.size + 1 + 1 + 1, 12, none⟩ (.int .u32 (c : Nat))) (w.heap.size + 1 + 1 + 1) 140 (X4.set 12 (.int .u32 (c : Nat)))) := HS4.out.set _ _
      have HB5 : Hid (Below w.heap.size w (w4.setCell ⟨w.heap.size + 1 + 1 + 1, 12, none⟩ (.int .u32 (c : Nat)))) := HB4.out.setCell (p := ⟨w.heap.size + 1 + 1 + 1, 12, none⟩) (by show _ ≤ w.heap.size + 1 + 1 + 1; omega) _
      clear hv12 fz12 HrN4 HrR4 HS4 HB4
      generalize w4.setCell ⟨w.heap.size + 1 + 1 + 1, 12, none⟩ (.int .u32 (c : Nat)) = w5 at *
      refine wp_region_noPanic ?_
      refine wp_region_gate' 3 (fun _ => True) (by kernel_rfl) ?_
      refine wpAnyG_takesAt 0 2 2 (of_decide_eq_true (by kernel_rfl)) rfl (fun _ _ _ _ _ h => h) (by kernel_rfl) (by kernel_rfl) (fun _ => trivial) ?_
      simp only [List.drop_zero, List.take_succ_cons, List.take_zero]
      iterate 2 (refine wpHeldG_free (v := ?_) (by rfl) (fun wz => ?_) ?_; rotate_left; (focus (go_simp; try with_reducible rfl)); (simp only [Act.put, List.setIfInBounds_toArray, List.set_cons_zero, List.set_cons_succ]))
      refine wpHeldG_nil ?_
      refine wpAnyG_only (i := 2) (by kernel_rfl) rfl (by rfl) (fun K hK => ?_)
      go_simp
      refine (words_any (some ⟨w.heap.size + 1, 0, none⟩) 12 12 nonce (by omega) w5.drew (bytes_of_row HrN5.out.drew HNx.out HNl.out (by omega))).mono ?_
      rintro e w6 ⟨v6, rfl, hrow6, hb6⟩
      rw [wordVals_low] at hrow6
      obtain ⟨q6, c6, rfl⟩ := slice_of_row hrow6
      obtain ⟨g6, rfl, _⟩ := row_some hrow6 (by omega)
      refine hK.out _ _ (fun _ => trivial) ?_
      clear hK K
      refine wpAnyG_only (i := 3) (by kernel_rfl) rfl (by rfl) (fun K hK => ?_)
      refine wp_copy_but (.tmp 25) (.tmp 27) 124 124 (by rfl) 22 Tryd.underlying124 size22 (w.heap.size + 1 + 1 + 1) 13 3 3 ⟨g6, 0, none⟩ (12 / 4) c6 (by rfl) (by rfl) (X4.set 12 (.int .u32 (c : Nat))) 140 (HS5.out.drew.later hb6) (u32s (wordsLow nonce 3)) (by rw [u32s_length, wordsLow_length]; rfl) (row_src hrow6) (by rw [u32s_length, wordsLow_length, List.length_set, HL4.out]; omega) (u32s_one _) (fun w7 hr7 hbut7 => ?_)
      refine hK.out _ _ (gone (by kernel_rfl)) ?_
      clear hK K
      refine wpAnyG_done (by kernel_rfl) ?_ _
      refine NoPanic.normal ?_
      simp only [Act.put, List.getElem_toArray, List.getElem_cons_succ, List.getElem_cons_zero, List.setIfInBounds_toArray, List.set_cons_zero, List.set_cons_succ]
      have hsw5 := HB5.out.size
      have hls5 := HS5.out.lt
      have hs6 : w5.heap.size ≤ w6.heap.size := hb6.size
      have HrR7 : Hid (Row w7 (w.heap.size + 1 + 1) 140 Z) := hbut7.row (by omega) (by omega) (HrR5.out.drew.later hb6)
      have HB7 : Hid (Below w.heap.size w w7) := (HB5.out.drew.trans (hb6.mono (show w.heap.size ≤ w5.heap.size by omega))).trans (hbut7.below (by omega) (by omega))
      have HS7 : Hid (Row w7 (w.heap.size + 1 + 1 + 1) 140 (u32s (stateN key c nonce))) := by
        rw [← stateN_list, ← state_list (u32s fixedL) (u32s (wordsLow key 8)) (u32s (wordsLow nonce 3)) (.int .u32 (c : Nat)) (.int .u32 0) rfl (by rw [u32s_length, wordsLow_length]) (by rw [u32s_length, wordsLow_length]), HX4.out]
        exact hr7
      have HLs : Hid ((u32s (stateN key c nonce)).length = 16) := by show _ = _; rw [u32s_length, stateN_length]
      have H1s : Hid (∀ v ∈ u32s (stateN key c nonce), v.oneCell' = true) := u32s_one _
      clear hr7 hbut7 hb6 hrow6 hs6 HrN5 HrR5 HS5 HB5
      generalize hV : u32s (stateN key c nonce) = V at *
      have HV : Hid (u32s (stateN key c nonce) = V) := hV
      clear hV
      go_wp2_with (first
        | ((with_reducible show wpList _ _ _ (Oper.mk _ (Op.load 140 (.tmp 7)) _ _ _ _ :: _) _ _); refine wpList_load_Row rfl 140 (.tmp 7) rfl rfl HS7.out Tryd.underlying140 (by rw [HLs.out]; exact size140) ?_; simp only [Act.put, List.setIfInBounds_toArray, List.set_cons_zero, List.set_cons_succ])
        | ((with_reducible show wpList _ _ _ (Oper.mk _ (Op.store 140 (.tmp 6) (.tmp 29)) _ _ _ _ :: _) _ _); refine wpList_store_Row rfl 140 (.tmp 6) (.tmp 29) rfl V rfl rfl HrR7.out (by rw [HLs.out]; exact size140) (by rw [HLs.out, HZl.out]) H1s.out ?_; simp only [Act.put]))
      refine bodyPost_ret (results_Row rfl rfl (Row.sets_all (vs := V) HrR7.out (by rw [HLs.out, HZl.out])) Tryd.underlying140 (by rw [HLs.out]; exact size140)) rfl ?_
      exact ⟨by rw [HV.out], below_setCells (by omega) _ _ HB7.out⟩
end Go.Proofs.YtobmcaknfbooiaaDoor.Re
/-
  What the reference's Number, Put and Words answer. Nothing that lay before a call has turned.
-/
namespace Go.Proofs.YtobmcaknfbooiaaDoor.Re
open Go.RowKit
def byteVals (f : Nat → Nat) (k : Nat) : List Value := (List.range k).map fun i => .int .u8 (f i : Nat)
theorem byteVals_succ (f : Nat → Nat) (k : Nat) : byteVals f k ++ [.int .u8 (f k : Nat)] = byteVals f (k + 1) := by simp [byteVals, List.range_succ]
/-- The number of the bytes i, .., len - 1 of zs, the lowest ahead; in m steps. -/
def numFrom (zs : List Nat) (i : Nat) : Nat → Nat
  | 0 => 0
  | m + 1 => zs.getD i 0 + 256 * numFrom zs (i + 1) m

theorem numFrom_lt (zs : List Nat) (h : ∀ z ∈ zs, z < 256) : ∀ (m i : Nat), numFrom zs i m < 256 ^ m
  | 0, _ => by simp [numFrom]
  | m + 1, i => by
    have h1 := numFrom_lt zs h m (i + 1)
    have h2 := getD_of_all h i
    rw [numFrom, Nat.pow_succ]
    omega

theorem u64_join (x y : Nat) (i : Nat) (h1 : x % 2 ^ i = 0) (h2 : y < 2 ^ i) (hx : x < 18446744073709551616) (hy : y < 18446744073709551616) : bits .or .u64 (x : Int) (y : Int) = ((x + y : Nat) : Int) := by
  rw [bits_join .u64 64 (by decide) (fun n h0 h1 => by rw [IntKind.wrap_u64]; omega) i x y (by omega) (by exact_mod_cast h1) (by omega) (by omega) (by exact_mod_cast h2) (by omega)]
  omega

theorem num_step (zs : List Nat) (hz : ∀ z ∈ zs, z < 256) (j len : Nat) (hj : j + 1 ≤ len) (hlen : len ≤ 8) :
    bits .or .u64 (IntKind.u64.wrap (((numFrom zs (j + 1) (len - (j + 1)) : Nat) : Int) * 256)) (IntKind.u64.wrap ((zs[j]?.getD 0 : Nat) : Int)) = ((numFrom zs j (len - j) : Nat) : Int) := by
  have h1 := numFrom_lt zs hz (len - (j + 1)) (j + 1)
  have h2 : zs[j]?.getD 0 < 256 := getD_of_all hz j
  have h3 : 256 ^ (len - (j + 1)) ≤ 256 ^ 7 := Nat.pow_le_pow_right (by decide) (by omega)
  rw [show len - j = (len - (j + 1)) + 1 by omega, numFrom, List.getD_eq_getElem?_getD]
  generalize numFrom zs (j + 1) (len - (j + 1)) = N at *
  generalize zs[j]?.getD 0 = z at *
  have e1 : IntKind.u64.wrap ((N : Int) * 256) = ((256 * N : Nat) : Int) := by rw [IntKind.wrap_u64]; omega
  have e2 : IntKind.u64.wrap (z : Int) = ((z : Nat) : Int) := by rw [IntKind.wrap_u64]; omega
  rw [e1, e2, u64_join _ _ 8 (by omega) (by omega) (by omega) (by omega)]
  omega

theorem numFrom_word (zs : List Nat) : numFrom zs 0 4 = wordAt zs 0 := by
  simp only [numFrom, wordAt, Nat.zero_add, Nat.mul_zero, Nat.reduceAdd]; omega

/-- Byte i of a number. -/
def byteAt (n i : Nat) : Nat := n / 256 ^ i % 256

theorem byteAt_eq (n k : Nat) : ((byteAt n k : Nat) : Int) = (n : Int) / 2 ^ (8 * k) % 256 := by
  rw [byteAt, show (256 : Nat) = 2 ^ 8 from rfl, ← Nat.pow_mul]
  simp

theorem wordVals_succ (zs : List Nat) (k : Nat) : wordVals zs k ++ [.int .u32 (wordAt zs k : Nat)] = wordVals zs (k + 1) := by simp [wordVals, List.range_succ]

theorem getD_drop (zs : List Nat) (a i : Nat) : (zs.drop a).getD i 0 = zs.getD (a + i) 0 := by simp [List.getElem?_drop]

theorem wordAt_drop (zs : List Nat) (k : Nat) : wordAt (zs.drop (4 * k)) 0 = wordAt zs k := by
  simp only [wordAt, getD_drop, Nat.mul_zero, Nat.zero_add, Nat.add_zero]

theorem wordAt_lt (zs : List Nat) (h : ∀ z ∈ zs, z < 256) (k : Nat) : wordAt zs k < 4294967296 := by
  have h0 := getD_of_all h (4 * k)
  have h1 := getD_of_all h (4 * k + 1)
  have h2 := getD_of_all h (4 * k + 2)
  have h3 := getD_of_all h (4 * k + 3)
  unfold wordAt
  omega

end Go.Proofs.YtobmcaknfbooiaaDoor.Re
/-
  What vec.Bytes answers for any words (up to 60,000): four bytes of each, the lowest ahead, in memory of their own. Nothing that lay before the call has turned.
-/
namespace Go.Proofs.YtobmcaknfbooiaaDoor.Re
open Go.RowKit

def IsWords (n₀ : Nat) (W : World) (p : Option Addr) (len : Nat) (ls : List Nat) : Prop :=
  ls.length = len ∧ (∀ x ∈ ls, x < 4294967296) ∧
  (len = 0 ∨ ∃ b off, p = some ⟨b, off, none⟩ ∧ b < n₀ ∧ ∀ i, i < len → W.cell? ⟨b, off + i, none⟩ = some (.int .u32 (ls.getD i 0 : Nat)))

/-- The bytes of some words. -/
def bytesOf (ls : List Nat) (i : Nat) : Nat := byteAt (ls.getD (i / 4) 0) (i % 4)

theorem byteVals_four (ls : List Nat) (k : Nat) :
    byteVals (bytesOf ls) (4 * k) ++ [.int .u8 (byteAt (ls.getD k 0) 0 : Nat), .int .u8 (byteAt (ls.getD k 0) 1 : Nat), .int .u8 (byteAt (ls.getD k 0) 2 : Nat), .int .u8 (byteAt (ls.getD k 0) 3 : Nat)] = byteVals (bytesOf ls) (4 * (k + 1)) := by
  have e : ∀ r, r < 4 → bytesOf ls (4 * k + r) = byteAt (ls.getD k 0) r := fun r hr => by
    unfold bytesOf
    rw [show (4 * k + r) / 4 = k by omega, show (4 * k + r) % 4 = r by omega]
  rw [show 4 * (k + 1) = 4 * k + 1 + 1 + 1 + 1 by omega, ← byteVals_succ, ← byteVals_succ, ← byteVals_succ, ← byteVals_succ]
  have e0 := e 0 (by omega)
  rw [Nat.add_zero] at e0
  rw [show 4 * k + 1 + 1 = 4 * k + 2 by omega, show 4 * k + 2 + 1 = 4 * k + 3 by omega, e0, e 1 (by omega), e 2 (by omega), e 3 (by omega)]
  simp

theorem four_eq (x : Nat) : [Value.int .u8 ((x : Int) % 256), .int .u8 ((x : Int) / 256 % 256), .int .u8 ((x : Int) / 65536 % 256), .int .u8 ((x : Int) / 16777216 % 256)] =
    [.int .u8 (byteAt x 0 : Nat), .int .u8 (byteAt x 1 : Nat), .int .u8 (byteAt x 2 : Nat), .int .u8 (byteAt x 3 : Nat)] := by
  simp [byteAt]

set_option maxRecDepth 100000 in
set_option maxHeartbeats 1000000 in
theorem bytes_some (b off len cap : Nat) (ls : List Nat) (w : World) (hlen : len ≤ 60000) (hbb : b < w.heap.size)
    (hA : ∀ i, i < len → w.cell? ⟨b, off + i, none⟩ = some (.int .u32 (ls.getD i 0 : Nat))) :
    Calls Tryd.prog 59 #[.slice (some ⟨b, off, none⟩) len cap] w fun e w' => ∃ v, e = .returned v ∧ w'.ownsRow w.heap.size 5 1 v (4 * len) (byteVals (bytesOf ls) (4 * len)) ∧ Below w.heap.size w w' := by
  obtain ⟨i0, hi, hz0, hz1, hz2⟩ := info_parts info5
  go_enter Tryd.func59, Tryd.ntmps59
  go_wp2_with (at_make; refine wpList_make_own _ rfl _ _ 25 rfl w.heap.size 5 i0 (.int .u8 0) 1 Tryd.underlying25 hi hz0 hz1 _ _ _ (4 * len) rfl rfl (by omega) (by rw [hz2]; omega) (by simp only [maxLen]; omega) (Nat.le_refl _) ?_; intro w1 hown1 hgrow1)
  have hB1 : Below w.heap.size w w1 := (Below.refl _ w).grown hgrow1 (Nat.le_refl _) (fun k e => by cases e)
  clear hgrow1
  go_loopw [3, 12] (fun v i wr => ∃ k : Nat, k ≤ len ∧ i = .int .i64 k ∧ wr.ownsRow w.heap.size 5 1 v (4 * k) (byteVals (bytesOf ls) (4 * k)) ∧ Below w.heap.size w wr)
    (fun _ i _ => len - (intOf i).toNat)
  case atStart => exact ⟨0, Nat.zero_le _, rfl, hown1, hB1⟩
  case round =>
    obtain ⟨k, hk, rfl, hown, hbel⟩ := hrel
    by_cases hlt : k < len
    · have i1 : (k : Int) < (len : Int) := by omega
      have hc := (hbel.cell (p := ⟨b, off + k, none⟩) hbb).trans (hA k hlt)
      have hsz := hbel.size
      clear hA hB1 hown1
      have HF := byteVals_four ls k
      obtain ⟨x, hx⟩ : ∃ x, x = ls.getD k 0 := ⟨_, rfl⟩
      rw [← hx] at hc HF
      have HF' : Hid (byteVals (bytesOf ls) (4 * k) ++ [.int .u8 (byteAt x 0 : Nat), .int .u8 (byteAt x 1 : Nat), .int .u8 (byteAt x 2 : Nat), .int .u8 (byteAt x 3 : Nat)] = byteVals (bytesOf ls) (4 * (k + 1))) := HF
      clear HF hx
      go_wp2_with (at_builtin; refine wpList_append_lies _ rfl _ _ 25 rfl w.heap.size 5 i0 (.int .u8 0) 1 1 Tryd.underlying25 hi hz0 hz1 hz2 rfl (by decide) u3 (4 * k) _ rfl (hown.alloc _) ⟨wr.heap.size, 0, none⟩ 4 4 [.int .u8 ((x : Int) % 256), .int .u8 ((x : Int) / 256 % 256), .int .u8 ((x : Int) / 65536 % 256), .int .u8 ((x : Int) / 16777216 % 256)] rfl rfl (World.news_of_block (cs := #[.int .u8 ((x : Int) % 256), .int .u8 ((x : Int) / 256 % 256), .int .u8 ((x : Int) / 65536 % 256), .int .u8 ((x : Int) / 16777216 % 256)]) (t := 5) (fr := (0, 0)) (heap_alloc_new wr _)) (by simp [Value.oneCell']) (by omega) (by simp only [maxLen]; omega) (by omega) (by simp; omega) (wr.heap.size + 1) (by simp) ?_; intro gg cap' w2 hown2 hgrow hat hlt1)
      go_roundw
      case rel =>
        refine ⟨k + 1, by omega, by go_num, ?_, (hbel.alloc hsz _).grown hgrow (by simp; omega) (fun j e => (hown.lt j e).1)⟩
        rw [← HF'.out, ← four_eq]
        exact hown2
      case measure => simp [intOf]; omega
    · obtain rfl : k = len := by omega
      go_wp2
      go_ret
      exact ⟨_, rfl, hown, hbel⟩

set_option maxRecDepth 100000 in
set_option maxHeartbeats 1000000 in
theorem bytes_none (p : Option Addr) (cap : Nat) (w : World) :
    Calls Tryd.prog 59 #[.slice p 0 cap] w fun e w' => ∃ v, e = .returned v ∧ w'.ownsRow w.heap.size 5 1 v 0 [] ∧ Below w.heap.size w w' := by
  obtain ⟨i0, hi, hz0, hz1, hz2⟩ := info_parts info5
  go_enter Tryd.func59, Tryd.ntmps59
  go_wp2_with (at_make; refine wpList_make_own _ rfl _ _ 25 rfl w.heap.size 5 i0 (.int .u8 0) 1 Tryd.underlying25 hi hz0 hz1 _ _ _ 0 rfl rfl (by omega) (by omega) (by simp only [maxLen]; omega) (Nat.le_refl _) ?_; intro w1 hown1 hgrow1)
  have hB1 : Below w.heap.size w w1 := (Below.refl _ w).grown hgrow1 (Nat.le_refl _) (fun k e => by cases e)
  go_loopw [3, 12] (fun v i wr => v = .slice (some ⟨w.heap.size, 0, none⟩) 0 0 ∧ i = .int .i64 0 ∧ wr = w1) (fun _ _ _ => 0)
  case atStart => exact ⟨rfl, rfl, rfl⟩
  case round =>
    obtain ⟨rfl, rfl, rfl⟩ := hrel
    go_wp2
    go_ret
    exact ⟨_, rfl, hown1, hB1⟩

end Go.Proofs.YtobmcaknfbooiaaDoor.Re
/-
  What chacha.Block answers: the block of a key, a counter and a nonce. Nothing that lay before the call has turned.
-/
namespace Go.Proofs.YtobmcaknfbooiaaDoor.Re
open Go.RowKit

theorem size108 : (Tryd.prog.info? 108).map (·.size) = some 64 := by kernel_rfl

theorem run_index140 (cs : List Value) (k : Nat) (v : Value) (hk : k < 16) (hv : cs[k]? = some v) (w : World) : (Instr.index 140 (.agg cs.toArray) (.int .i64 (k : Int))).run Tryd.prog w = .ok v w := by
  simp [Instr.index, run_underlying Tryd.underlying140, asIntOf, go_sem, hv]
  omega
theorem run_arrayAt108 (b o L C : Nat) (h : 64 ≤ L) (w : World) : (Instr.arrayAt 108 (.slice (some ⟨b, o, none⟩) L C)).run Tryd.prog w = .ok (.pointer (some ⟨b, o, none⟩)) w := by
  have hi : (64 : Int) ≤ (L : Int) := by omega
  simp [Instr.arrayAt, run_underlying Tryd.underlying108, go_sem, h]

/-- The first k of x with those of s added. -/
def addP (x s : List Nat) (k : Nat) : List Nat := (List.range 16).map fun i => if i < k then (x.getD i 0 + s.getD i 0) % 4294967296 else x.getD i 0
@[simp] theorem addP_length (x s : List Nat) (k : Nat) : (addP x s k).length = 16 := by simp [addP]
theorem addP_at (x s : List Nat) (k i : Nat) (hi : i < 16) : (addP x s k).getD i 0 = if i < k then (x.getD i 0 + s.getD i 0) % 4294967296 else x.getD i 0 := by
  simp only [addP, List.getD_eq_getElem?_getD, List.getElem?_map, List.getElem?_range hi, Option.map_some, Option.getD_some]
theorem addP_zero (x s : List Nat) (hx : x.length = 16) : addP x s 0 = x := by
  apply List.ext_getElem?
  intro i
  simp only [addP, List.getElem?_map]
  by_cases hi : i < 16
  · rw [List.getElem?_range hi, List.getElem?_eq_getElem (show i < x.length by omega)]
    simp [List.getElem?_eq_getElem (show i < x.length by omega)]
  · rw [List.getElem?_eq_none (by simp; omega), List.getElem?_eq_none (show x.length ≤ i by omega)]
    rfl
theorem addP_all (x s : List Nat) : addP x s 16 = addN x s := by
  unfold addP addN
  exact List.map_congr_left (fun i hi => by rw [if_pos (List.mem_range.1 hi)])
theorem addP_set (x s : List Nat) (k : Nat) (hk : k < 16) : (u32s (addP x s k)).set k (.int .u32 ((x.getD k 0 + s.getD k 0) % 4294967296 : Nat)) = u32s (addP x s (k + 1)) := by
  apply List.ext_getElem?
  intro i
  rw [List.getElem?_set]
  by_cases h : k = i
  · subst h
    simp [u32s, addP, hk]
  · simp only [h, if_false, u32s, addP, List.getElem?_map]
    by_cases hi : i < 16
    · rw [List.getElem?_range hi]
      simp only [Option.map_some]
      by_cases h2 : i < k
      · simp [h2, show i < k + 1 by omega]
      · simp [h2, show ¬ i < k + 1 by omega]
    · simp [List.getElem?_eq_none (show (List.range 16).length ≤ i by simp; omega)]
theorem addN_lt (x s : List Nat) : ∀ z ∈ addN x s, z < 4294967296 := fun z hz => by
  obtain ⟨i, _, rfl⟩ := List.mem_map.1 hz
  exact Nat.mod_lt _ (by decide)
theorem bytesOf_low (ls : List Nat) {k : Nat} (hk : k = 4 * ls.length) : byteVals (bytesOf ls) k = u8s (lowBytes ls) := by
  subst hk
  unfold byteVals u8s lowBytes
  rw [List.map_map]
  exact List.map_congr_left (fun i _ => by simp [bytesOf, byteAt])

set_option maxRecDepth 100000 in
set_option maxHeartbeats 4000000 in
theorem block_core (key : List Nat) (c : Nat) (nonce st dn : List Nat) (hsl : st.length = 16) (hsx : ∀ z ∈ st, z < 4294967296) (hdl : dn.length = 16) (hdx : ∀ z ∈ dn, z < 4294967296) (hk : key.length = 32) (hn : nonce.length = 12)
    (HF : Hid (∀ w, Tab w → Calls Tryd.prog 84 #[.agg (u8s key).toArray, .int .u32 c, .agg (u8s nonce).toArray] w fun e w' => e = .returned (.agg (u32s st).toArray) ∧ Below w.heap.size w w'))
    (HM : Hid (∀ w, Tab w → Calls Tryd.prog 85 #[.agg (u32s st).toArray] w fun e w' => e = .returned (.agg (u32s dn).toArray) ∧ Below w.heap.size w w')) (w : World) (hT : Tab w) :
    Calls Tryd.prog 74 #[.agg (u8s key).toArray, .int .u32 c, .agg (u8s nonce).toArray] w fun e w' => e = .returned (.agg (u8s (lowBytes (addN dn st))).toArray) ∧ Below w.heap.size w w' := by
  have HT : Hid (Tab w) := hT
  have HKl : Hid ((u8s key).length = 32) := by show _ = _; rw [u8s_length, hk]
  have HNl : Hid ((u8s nonce).length = 12) := by show _ = _; rw [u8s_length, hn]
  have HSl : Hid ((u32s st).length = 16) := by show _ = _; rw [u32s_length, hsl]
  have HDl : Hid ((u32s dn).length = 16) := by show _ = _; rw [u32s_length, hdl]
  have HS1 : Hid (∀ v ∈ u32s st, v.oneCell' = true) := u32s_one _
  have HD1 : Hid (∀ v ∈ u32s dn, v.oneCell' = true) := u32s_one _
  have HSi : Hid (∀ i, i < 16 → (u32s st)[i]? = some (.int .u32 (st.getD i 0 : Nat))) := fun i hi => u32s_at (by omega)
  have HSx : Hid (∀ z ∈ st, z < 4294967296) := hsx
  have HDx : Hid (∀ z ∈ dn, z < 4294967296) := hdx
  have HD0 : Hid (u32s dn = u32s (addP dn st 0)) := by show _ = _; rw [addP_zero _ _ hdl]
  clear hT hk hn hsl hdl hsx hdx
  generalize hKV : u8s key = KV at *
  generalize hNV : u8s nonce = NV at *
  clear hKV hNV
  generalize hSV : u32s st = SV at *
  have HSV : Hid (u32s st = SV) := hSV
  clear hSV
  generalize hDV : u32s dn = DV at *
  clear hDV
  have H0 : Hid (∀ z : Array Value, Row (((w.alloc (.cells KV.toArray 24)).alloc (.cells NV.toArray 78)).alloc (.cells z 108)) w.heap.size 24 KV ∧ Row (((w.alloc (.cells KV.toArray 24)).alloc (.cells NV.toArray 78)).alloc (.cells z 108)) (w.heap.size + 1) 78 NV ∧ Row (((w.alloc (.cells KV.toArray 24)).alloc (.cells NV.toArray 78)).alloc (.cells z 108)) (w.heap.size + 1 + 1) 108 z.toList ∧ Below w.heap.size w (((w.alloc (.cells KV.toArray 24)).alloc (.cells NV.toArray 78)).alloc (.cells z 108)) ∧ w.heap.size + 3 ≤ (((w.alloc (.cells KV.toArray 24)).alloc (.cells NV.toArray 78)).alloc (.cells z 108)).heap.size) := fun z => by
    have h2 := Row.new' (w.alloc (.cells KV.toArray 24)) 78 NV
    rw [World.size_alloc] at h2
    have h3 := Row.new ((w.alloc (.cells KV.toArray 24)).alloc (.cells NV.toArray 78)) 108 z
    rw [World.size_alloc, World.size_alloc] at h3
    exact ⟨((Row.new' w 24 KV).alloc _).alloc _, h2.alloc _, h3, (((Below.refl _ w).alloc (Nat.le_refl _) _).alloc (by simp) _).alloc (by simp; omega) _, by simp⟩
  go_enter Tryd.func74, Tryd.ntmps74
  go_wp2_with (first
    | ((with_reducible show wpList _ _ _ (Oper.mk _ (Op.load 24 (.tmp 3)) _ _ _ _ :: _) _ _); refine wpList_load_Row rfl 24 (.tmp 3) rfl rfl (H0.out _).1 Tryd.underlying24 (by rw [HKl.out]; exact size24) ?_; simp only [Act.put, List.setIfInBounds_toArray, List.set_cons_zero, List.set_cons_succ])
    | ((with_reducible show wpList _ _ _ (Oper.mk _ (Op.load 78 (.tmp 5)) _ _ _ _ :: _) _ _); refine wpList_load_Row rfl 78 (.tmp 5) rfl rfl (H0.out _).2.1 Tryd.underlying78 (by rw [HNl.out]; exact size78) ?_; simp only [Act.put, List.setIfInBounds_toArray, List.set_cons_zero, List.set_cons_succ])
    | (go_at_call 84; refine (HF.out _ (HT.out.later (H0.out _).2.2.2.1)).mono ?_; rintro e w1 ⟨rfl, hb1⟩; have HR1 := ((H0.out _).2.2.1.later hb1); have hbA : Below w.heap.size w w1 := ((H0.out _).2.2.2.1.trans (hb1.mono (H0.out _).2.2.2.1.size)); have hs1 : w.heap.size + 3 ≤ w1.heap.size := Nat.le_trans (H0.out _).2.2.2.2 hb1.size; have HT1 : Hid (Tab w1) := HT.out.later hbA; clear hb1; have HbA : Hid (Below w.heap.size w w1) := hbA; clear hbA)
    | ((with_reducible show wpList _ _ _ (Oper.mk _ (Op.store 140 (.tmp 7) (.tmp 14)) _ _ _ _ :: _) _ _); refine wpList_store_Row rfl 140 (.tmp 7) (.tmp 14) rfl SV rfl rfl (Row.new w1 140 _) (by rw [HSl.out]; exact size140) (by rw [HSl.out]; rfl) HS1.out ?_; simp only [Act.put])
    | ((with_reducible show wpList _ _ _ (Oper.mk (some 15) (Op.load 140 (.tmp 7)) _ _ _ _ :: _) _ _); refine wpList_load_Row rfl 140 (.tmp 7) rfl rfl (Row.sets_all (Row.new w1 140 _) (by rw [HSl.out]; rfl)) Tryd.underlying140 (by rw [HSl.out]; exact size140) ?_; simp only [Act.put, List.setIfInBounds_toArray, List.set_cons_zero, List.set_cons_succ])
    | (go_at_call 85; refine (HM.out _ (HT1.out.later (below_setCells (Nat.le_refl _) SV 0 ((Below.refl _ w1).alloc (Nat.le_refl _) _)))).mono ?_; rintro e w2 ⟨rfl, hb2⟩; have Hb2 : Hid _ := hb2; have hs2 : w1.heap.size + 1 ≤ w2.heap.size := (by have h := hb2.size; rw [size_setCells, World.size_alloc] at h; exact h); clear hb2)
    | ((with_reducible show wpList _ _ _ (Oper.mk _ (Op.store 140 (.tmp 8) (.tmp 16)) _ _ _ _ :: _) _ _); refine wpList_store_Row rfl 140 (.tmp 8) (.tmp 16) rfl DV rfl rfl (Row.new w2 140 _) (by rw [HDl.out]; exact size140) (by rw [HDl.out]; rfl) HD1.out ?_; simp only [Act.put])
    | ((with_reducible show wpList _ _ _ (Oper.mk (some 17) (Op.load 140 (.tmp 7)) _ _ _ _ :: _) _ _); refine wpList_load_Row rfl 140 (.tmp 7) rfl rfl (Row.others (by omega) DV 0 (Row.alloc (Row.later (Row.sets_all (Row.new w1 140 _) (by rw [HSl.out]; rfl)) Hb2.out) _)) Tryd.underlying140 (by rw [HSl.out]; exact size140) ?_; simp only [Act.put, List.setIfInBounds_toArray, List.set_cons_zero, List.set_cons_succ]))
  rw [z16u32]
  rw [z16u32] at Hb2
  have rO : Row w2 (w.heap.size + 1 + 1) 108 (List.replicate 64 (Value.int .u8 0)) := Row.later (Row.others (by omega) SV 0 (HR1.alloc _)) Hb2.out
  have rO4 : Row ((w2.alloc (.cells (List.replicate 16 (Value.int .u32 0)).toArray 140)).setCells w2.heap.size 0 DV) (w.heap.size + 1 + 1) 108 (List.replicate 64 (Value.int .u8 0)) := Row.others (by omega) DV 0 (rO.alloc _)
  have rL4 : Row ((w2.alloc (.cells (List.replicate 16 (Value.int .u32 0)).toArray 140)).setCells w2.heap.size 0 DV) w2.heap.size 140 (u32s (addP dn st 0)) := by rw [← HD0.out]; exact Row.sets_all (Row.new' w2 140 _) (by rw [HDl.out]; rfl)
  have hb4 : Below w.heap.size w ((w2.alloc (.cells (List.replicate 16 (Value.int .u32 0)).toArray 140)).setCells w2.heap.size 0 DV) :=
    below_setCells (by omega) DV 0 (((below_setCells (by omega) SV 0 (HbA.out.alloc (by omega) _)).trans (Hb2.out.mono (by rw [size_setCells, World.size_alloc]; omega))).alloc (by omega) _)
  generalize ((w2.alloc (.cells (List.replicate 16 (Value.int .u32 0)).toArray 140)).setCells w2.heap.size 0 DV) = w4 at *
  clear HR1 Hb2 HbA rO HT1 HF HM H0
  go_loopw [18] (fun i wr => ∃ k : Nat, k ≤ 16 ∧ i = .int .i64 k ∧ Row wr w2.heap.size 140 (u32s (addP dn st k)) ∧ Row wr (w.heap.size + 1 + 1) 108 (List.replicate 64 (Value.int .u8 0)) ∧ Below w.heap.size w wr)
    (fun i _ => 16 - (intOf i).toNat)
  case atStart => exact ⟨0, by omega, rfl, rL4, rO4, hb4⟩
  case round =>
    clear rO4 rL4 hb4
    obtain ⟨k, hk, rfl, hrL, hrO, hBw⟩ := hrel
    by_cases hk16 : k < 16
    · have hki : (k : Int) < 16 := by omega
      have cL := hrL.cell (u32s_at (l := addP dn st k) (i := k) (by simp; omega))
      rw [addP_at _ _ _ _ hk16, if_neg (by omega)] at cL
      have cf := hrL.frozen k
      have bx : dn.getD k 0 < 4294967296 := all_getD (by decide) HDx.out _
      have by' : st.getD k 0 < 4294967296 := all_getD (by decide) HSx.out _
      have HM : Hid ((u32s (addP dn st k)).set k (.int .u32 ((dn.getD k 0 + st.getD k 0) % 4294967296 : Nat)) = u32s (addP dn st (k + 1))) := addP_set dn st k hk16
      have HrL : Hid (Row wr w2.heap.size 140 (u32s (addP dn st k))) := hrL
      have HrO : Hid (Row wr (w.heap.size + 1 + 1) 108 (List.replicate 64 (Value.int .u8 0))) := hrO
      have cI : ∀ w : World, (Instr.index 140 (.agg SV.toArray) (.int .i64 (k : Int))).run Tryd.prog w = .ok (.int .u32 (st.getD k 0 : Nat)) w := fun w => run_index140 _ k _ hk16 (HSi.out k hk16) w
      generalize dn.getD k 0 = x at *
      generalize st.getD k 0 = y at *
      clear hrL hrO
      go_wp2
      go_roundw
      case rel =>
        have e1 : (((x : Int) + y) % 4294967296) = (((x + y) % 4294967296 : Nat) : Int) := by omega
        refine ⟨k + 1, by omega, by go_num, ?_, HrO.out.other (by simp; omega) _, hBw.setCell (p := ⟨w2.heap.size, k, none⟩) (by show _ ≤ w2.heap.size; omega) _⟩
        have h := HrL.out.set k (.int .u32 ((x + y) % 4294967296 : Nat))
        rw [HM.out] at h
        rw [e1]
        exact h
      case measure => simp [intOf]; omega
    · obtain rfl : k = 16 := by omega
      rw [addP_all] at hrL
      have HrL : Hid (Row wr w2.heap.size 140 (u32s (addN dn st))) := hrL
      have HrO : Hid (Row wr (w.heap.size + 1 + 1) 108 (List.replicate 64 (Value.int .u8 0))) := hrO
      have HBw : Hid (Below w.heap.size w wr) := hBw
      have hlw := hrL.lt
      have HB : Hid (Calls Tryd.prog 59 #[.slice (some ⟨w2.heap.size, 0, none⟩) 16 16] wr fun e w' => ∃ v, e = .returned v ∧ w'.ownsRow wr.heap.size 5 1 v 64 (u8s (lowBytes (addN dn st))) ∧ Below wr.heap.size wr w') := by
        have h := bytes_some w2.heap.size 0 16 16 (addN dn st) wr (by omega) hlw (fun i hi => by rw [Nat.zero_add]; exact hrL.cell (u32s_at (by simp; omega)))
        rw [bytesOf_low _ (by simp)] at h
        exact h
      have HVl : Hid ((u8s (lowBytes (addN dn st))).length = 64) := by show _ = _; rw [u8s_length, lowBytes_length, addN_length]
      have HV1 : Hid (∀ v ∈ u8s (lowBytes (addN dn st)), v.oneCell' = true) := u8s_one _
      clear hrL hrO hBw
      generalize hV : u8s (lowBytes (addN dn st)) = V at *
      have HV : Hid (u8s (lowBytes (addN dn st)) = V) := hV
      clear hV
      go_wp2_with (first
        | (go_at_call 59; refine HB.out.mono ?_; rintro e w5 ⟨v5, rfl, hrow5, hb5⟩; obtain ⟨q5, c5, rfl⟩ := slice_of_row hrow5; obtain ⟨g5, cur5, rfl, hg5, hrg5, htk5⟩ := row_of_own hrow5 (by omega); have Hrg5 : Hid (w5.rangeAt g5 0 V) := (by have h := Row.mid hrg5 htk5 0 64 (by omega); rw [List.drop_zero, List.take_of_length_le (by rw [HVl.out]; omega)] at h; exact h); have Hb5 : Hid _ := hb5; clear hb5 hrow5 hrg5 htk5; have hA := run_arrayAt108 g5 0 64 c5 (by omega))
        | ((with_reducible show wpList _ _ _ (Oper.mk _ (Op.load 108 (.tmp 31)) _ _ _ _ :: _) _ _); refine wpList_load_mid rfl 108 (.tmp 31) rfl g5 0 rfl V _ Hrg5.out Tryd.underlying108 rfl (by rw [HVl.out]; exact size108) ?_; simp only [Act.put, List.setIfInBounds_toArray, List.set_cons_zero, List.set_cons_succ])
        | ((with_reducible show wpList _ _ _ (Oper.mk _ (Op.store 108 (.tmp 6) (.tmp 32)) _ _ _ _ :: _) _ _); refine wpList_store_Row rfl 108 (.tmp 6) (.tmp 32) rfl V rfl rfl (HrO.out.later Hb5.out) (by rw [HVl.out]; exact size108) (by rw [HVl.out]; rfl) HV1.out ?_; simp only [Act.put]))
      refine bodyPost_ret (results_Row rfl rfl (Row.sets_all (vs := V) (HrO.out.later Hb5.out) (by rw [HVl.out]; rfl)) Tryd.underlying108 (by rw [HVl.out]; exact size108)) rfl ?_
      exact ⟨by rw [HV.out], below_setCells (by omega) _ _ (HBw.out.trans (Hb5.out.mono HBw.out.size))⟩

/-- chacha.Block. -/
theorem block_any (key : List Nat) (c : Nat) (nonce : List Nat) (hk : key.length = 32) (hkx : ∀ z ∈ key, z < 256) (hc : c < 4294967296) (hn : nonce.length = 12) (hnx : ∀ z ∈ nonce, z < 256) (w : World) (hT : Tab w) :
    Calls Tryd.prog 74 #[.agg (u8s key).toArray, .int .u32 c, .agg (u8s nonce).toArray] w fun e w' => e = .returned (.agg (u8s (blockN key c nonce)).toArray) ∧ Below w.heap.size w w' :=
  block_core key c nonce (stateN key c nonce) (doublesN (stateN key c nonce) 10) (stateN_length _ _ _) (stateN_lt hkx hc hnx) (by rw [doublesN_length, stateN_length]) (doublesN_lt (stateN_lt hkx hc hnx) 10) hk hn
    (fun w hT => firstState_any key c nonce hk hkx hn hnx w hT) (fun w hT => mixed_any _ (stateN_length _ _ _) (stateN_lt hkx hc hnx) w hT) w hT
end Go.Proofs.YtobmcaknfbooiaaDoor.Re
/-
  What chacha.Keystream tells: the blocks of a key, a counter and a nonce, one behind the other, for every loop body that leaves it within N rounds and keeps the boxes and the program's tables.
-/
namespace Go.Proofs.YtobmcaknfbooiaaDoor.Re
open Go.RowKit Go.Shelf
attribute [local go_sem] Oper.semAt_some

theorem Tab.kept {M : Nat → Prop} {A B : World} (h : ∀ (k : Nat) (c : Array Value) (t : TypeId) (fr : Nat × Nat), ¬ M k → A.heap[k]? = some (Obj.cells c t fr) → B.heap[k]? = some (Obj.cells c t fr)) (h0 : ¬ M 0) (h1 : ¬ M 1) (hT : Tab A) : Tab B := by
  refine ⟨fun i hi => ?_, fun i hi => ?_⟩
  · obtain ⟨c, t, fr, hh, hci⟩ := cells_of_cell (hT.1 i hi)
    rw [cell_of_row B 0 i c t fr (h 0 c t fr h0 hh)]
    exact hci
  · obtain ⟨c, t, fr, hh, hci⟩ := cells_of_cell (hT.2 i hi)
    rw [cell_of_row B 1 i c t fr (h 1 c t fr h1 hh)]
    exact hci

set_option maxRecDepth 100000 in
set_option maxHeartbeats 2000000 in
theorem key1_iter (n : Nat) (hn : 2 ≤ n) (l Bc Bk Bn c N : Nat) (KV NV : List Value) (B : Nat → List Value) (HKl : Hid (KV.length = 32)) (HNl : Hid (NV.length = 12))
    (HBk : Hid (∀ k w, Tab w → Calls Tryd.prog 74 #[.agg KV.toArray, .int .u32 ((c + k) % 4294967296 : Nat), .agg NV.toArray] w fun e w' => e = .returned (.agg (B k).toArray) ∧ Below w.heap.size w w'))
    (W : World) (hc : c < 4294967296) (hN : N ≤ 4294967296) (hT : Tab W) (hrC : Row W Bc 22 [.int .u32 c]) (hrK : Row W Bk 24 KV) (hrN : Row W Bn 78 NV)
    (M : Nat → Prop) (Kp : World → World → Prop) (hK1 : ∀ A B, Kp A B → ∀ (k : Nat) (c : Array Value) (t : TypeId) (fr : Nat × Nat), ¬ M k → A.heap[k]? = some (Obj.cells c t fr) → B.heap[k]? = some (Obj.cells c t fr)) (hK2 : ∀ A B, Kp A B → A.heap.size ≤ B.heap.size)
    (hM0 : ¬ M 0) (hM1 : ¬ M 1) (hMk : ¬ M Bk) (hMn : ¬ M Bn) :
    IterEver Fence.wide n Tryd.prog 73 #[.pointer (some ⟨Bc, 0, none⟩), .pointer (some ⟨Bk, 0, none⟩), .pointer (some ⟨Bn, 0, none⟩)] (fun k => #[.agg (B k).toArray]) Kp N l W := by
  intro J Jx hJ hJx hJN hY h0
  have hfn : ∀ f, Fence.wide.fn f := fun _ => trivial
  have h1 : 1 ≤ n := by omega
  have HK1 : Hid (∀ A B, Kp A B → ∀ (k : Nat) (c : Array Value) (t : TypeId) (fr : Nat × Nat), ¬ M k → A.heap[k]? = some (Obj.cells c t fr) → B.heap[k]? = some (Obj.cells c t fr)) := hK1
  have HK2 : Hid (∀ A B, Kp A B → A.heap.size ≤ B.heap.size) := hK2
  have HJ : Hid (Low W.heap.size J) := hJ
  have HJN : Hid (∀ k W1, J k W1 → k < N) := hJN
  have HY : Hid (∀ k W1, J k W1 → YieldAt Fence.wide (n - 1) Tryd.prog l #[.agg (B k).toArray] W1 fun e W' => (e = .returned (.bool true) ∧ J (k + 1) W' ∧ Kp W1 W') ∨ (e = .returned (.bool false) ∧ Jx (k + 1) W' ∧ Kp W1 W')) := hY
  have HT : Hid (Tab W) := hT
  have HrK : Hid (Row W Bk 24 KV) := hrK
  have HrN : Hid (Row W Bn 78 NV) := hrN
  have H0 : Hid (J 0 W) := h0
  have cc := hrC.cell (i := 0) rfl
  have HC0 : Hid ((c + 0) % 4294967296 = c) := by show _ = _; omega
  clear hK1 hK2 hJ hJx hJN hY hT hrK hrN hrC h0
  refine callsIn_of_wp Tryd.func73 rfl trivial ?_ rfl
  simp only [Tryd.ntmps73, List.size_toArray, List.length_cons, List.length_nil, Nat.reduceAdd, Nat.reduceSub, Array.replicate_succ, Array.replicate_zero, List.push_toArray, List.append_toArray, List.nil_append, List.cons_append]
  gi_wp2
  gi_loopw [5] (fun v wr => ∃ k : Nat, v = .int .u32 ((c + k) % 4294967296 : Nat) ∧ J k wr ∧ Tab wr ∧ Row wr Bk 24 KV ∧ Row wr Bn 78 NV ∧ W.heap.size ≤ wr.heap.size) (fun v _ => N - ((intOf v).toNat + (4294967296 - c)) % 4294967296)
  case atStart => exact ⟨0, by rw [HC0.out], H0.out, HT.out, HrK.out, HrN.out, Nat.le_refl _⟩
  case round =>
    obtain ⟨k, rfl, hJk, hTr, hrK, hrN, hsz⟩ := hrel
    have hkN := HJN.out k wr hJk
    have HJk : Hid (J k wr) := hJk
    have HTr : Hid (Tab wr) := hTr
    have HrK2 : Hid (Row wr Bk 24 KV) := hrK
    have HrN2 : Hid (Row wr Bn 78 NV) := hrN
    have HM : Hid ((((c + k) % 4294967296 + (4294967296 - c)) % 4294967296 = k)) := by show _ = _; omega
    have HA : Hid (((((c + k) % 4294967296 : Nat) : Int) + 1) % 4294967296 = (((c + (k + 1)) % 4294967296 : Nat) : Int)) := by show _ = _; omega
    have HBk2 := HBk.out k
    clear hJk hTr hrK hrN HT HrK HrN H0
    generalize hck : (c + k) % 4294967296 = ck at *
    clear hck
    gi_wp2_with (first
      | ((with_reducible show wpListIn _ _ _ _ _ (Oper.mk _ (Op.load 24 (.tmp 2)) _ _ _ _ :: _) _ _); refine wpListIn_load_Row rfl 24 (.tmp 2) rfl rfl HrK2.out Tryd.underlying24 (by rw [HKl.out]; exact size24) ?_; simp only [Act.put, List.setIfInBounds_toArray, List.set_cons_zero, List.set_cons_succ])
      | ((with_reducible show wpListIn _ _ _ _ _ (Oper.mk _ (Op.load 78 (.tmp 3)) _ _ _ _ :: _) _ _); refine wpListIn_load_Row rfl 78 (.tmp 3) rfl rfl HrN2.out Tryd.underlying78 (by rw [HNl.out]; exact size78) ?_; simp only [Act.put, List.setIfInBounds_toArray, List.set_cons_zero, List.set_cons_succ])
      | (gi_at_call 74; refine (callsIn_wide.2 (HBk2 _ HTr.out)).mono ?_; rintro e w1 ⟨rfl, hb1⟩; have Hb1 : Hid (Below wr.heap.size wr w1) := hb1; clear hb1; obtain ⟨fn, tmps, assign, body, hy, hR⟩ := HY.out k w1 (HJ.out k wr w1 HJk.out (Hb1.out.mono hsz))))
    refine hR.mono ?_
    rintro e W3 (⟨rfl, hJ3, hk3⟩ | ⟨rfl, hJx3, _⟩)
    · have hs3 : W.heap.size ≤ W3.heap.size := Nat.le_trans hsz (Nat.le_trans Hb1.out.size (HK2.out _ _ hk3))
      have HT3 : Hid (Tab W3) := Tab.kept (HK1.out _ _ hk3) hM0 hM1 (HTr.out.later Hb1.out)
      have HK3 : Hid (Row W3 Bk 24 KV) := HK1.out _ _ hk3 _ _ _ _ hMk (HrK2.out.later Hb1.out)
      have HN3 : Hid (Row W3 Bn 78 NV) := HK1.out _ _ hk3 _ _ _ _ hMn (HrN2.out.later Hb1.out)
      have HJ3 : Hid (J (k + 1) W3) := hJ3
      clear hR hy hJ3 hk3
      gi_wp2
      go_roundw
      case rel => exact ⟨k + 1, by rw [HA.out], HJ3.out, HT3.out, HK3.out, HN3.out, hs3⟩
      case measure =>
        have h1 := HM.out
        have h2 := HJN.out (k + 1) W3 HJ3.out
        rw [HA.out]
        simp only [intOf, Int.toNat_natCast]
        rw [h1, show ((c + (k + 1)) % 4294967296 + (4294967296 - c)) % 4294967296 = k + 1 by omega]
        omega
    · clear hR hy
      gi_wp2
      go_end0
      exact ⟨⟨_, rfl⟩, ⟨k + 1, hJx3⟩⟩

set_option maxHeartbeats 1000000 in
/-- chacha.Keystream: the three arguments are boxed; the function value captures the boxes. -/
theorem keystream_any (c : Nat) (KV NV : List Value) (w : World) :
    Calls Tryd.prog 61 #[.agg KV.toArray, .int .u32 c, .agg NV.toArray] w fun e w' =>
      e = .returned (.func (.func 73) #[] #[.pointer (some ⟨w.heap.size + 1, 0, none⟩), .pointer (some ⟨w.heap.size, 0, none⟩), .pointer (some ⟨w.heap.size + 1 + 1, 0, none⟩)]) ∧ Row w' w.heap.size 24 KV ∧ Row w' (w.heap.size + 1) 22 [.int .u32 c] ∧ Row w' (w.heap.size + 1 + 1) 78 NV ∧ Below w.heap.size w w' := by
  go_enter Tryd.func61, Tryd.ntmps61
  go_wp2
  go_ret
  have h2 := Row.new' (w.alloc (.cells KV.toArray 24)) 22 [.int .u32 c]
  rw [World.size_alloc] at h2
  have h3 := Row.new' ((w.alloc (.cells KV.toArray 24)).alloc (.cells [.int .u32 c].toArray 22)) 78 NV
  rw [World.size_alloc, World.size_alloc] at h3
  exact ⟨rfl, ((Row.new' w 24 KV).alloc _).alloc _, h2.alloc _, h3, (((Below.refl _ w).alloc (Nat.le_refl _) _).alloc (by simp) _).alloc (by simp; omega) _⟩
end Go.Proofs.YtobmcaknfbooiaaDoor.Re
/-
  What chacha.Stream answers: any bytes (up to 50,000), turned, in memory of their own. Nothing that lay before the call has turned.
-/
namespace Go.Proofs.YtobmcaknfbooiaaDoor.Re
open Go.RowKit Go.Shelf
attribute [local go_sem] Oper.semAt_some

theorem run_index108 (cs : List Value) (k : Nat) (v : Value) (hk : k < 64) (hv : cs[k]? = some v) (w : World) : (Instr.index 108 (.agg cs.toArray) (.int .i64 (k : Int))).run Tryd.prog w = .ok v w := by
  simp [Instr.index, run_underlying Tryd.underlying108, asIntOf, go_sem, hv]
  omega

/-- A region that draws its order, in a round, under the gate law. -/
theorem wpIn_region_gate_on {P : Program} {ops : Array Oper} {Q : Exit → Act → World → Prop} {l m id : Nat} {a : Act} {w : World} (c : Nat) (T : World → Prop) (hm : P.follows .mixedOrders = true) (hd : noDefer ops = true)
    (h : wpAnyG P .any ops (OnOnly Q) c T ops.size (Array.replicate ops.size false) a w.drew) : (Code.region id ops true).wpIn (Fence.wide.inRound l) m P Q a w :=
  wpIn_mono (wpIn_region_any hm (wpAnyIn_of_wpAny l m hd OnOnly.not_out _ _ _ _ (wpAny_of_G _ _ _ _ h))) OnOnly.imp

/-- A scope without a goto, under the widest fence. -/
theorem wpIn_scope_wide {P : Program} {Q : Exit → Act → World → Prop} {m : Nat} {c : Code} {a : Act} {w : World} (h : c.wpIn Fence.wide m P (Exit.noGoto Q) a w) : (Code.scope c).wpIn Fence.wide m P Q a w := wpIn_wide.2 (wp_scope_straight (wpIn_wide.1 h))

/-- append of one byte where there is room. -/
theorem wp_append_in {o : Oper} {a : Act} {w : World} {K : Act → World → Prop} {Q : Exit → Act → World → Prop} (s x : Operand) (ho : o.op = .call { callee := .builtin .append, args := #[s, x], argTypes := #[25, 25] })
    (g n cap : Nat) (hs : a.eval s = .slice (some ⟨g, 0, none⟩) n cap) (ad : Addr) (c : Nat) (hx : a.eval x = .slice (some ad) 1 c) (u : Value) (hu : w.cell? (ad.add 0) = some u) (h1 : u.oneCell' = true) (hroom : n + 1 ≤ cap)
    {cur : List Value} (hr : Row w g 5 cur) (hl : n < cur.length) (h : K (a.put o.dst (.slice (some ⟨g, 0, none⟩) (n + 1) cap)) (w.setCell ⟨g, n, none⟩ u)) : o.wp Tryd.prog a w K Q := by
  obtain ⟨i0, hi, hz0, hz1, hz2⟩ := info_parts info5
  have hrun := run_append_room_cells (P := Tryd.prog) w 25 o.type 5 i0 Tryd.underlying25 hi g 0 n cap ad 1 c [u] (by rw [hz1]; rfl) (fun j v hv => by
      have hj : j = 0 := by
        rcases j with _ | j
        · rfl
        · simp at hv
      subst hj
      simp at hv
      rw [← hv]
      exact hu) (by simpa using h1) hroom (fun j hj => by
      have hj : j = 0 := by simp at hj; omega
      subst hj
      rw [hz1, show 0 + n * 1 + 0 = n by omega, hr.cell (List.getElem?_eq_getElem hl)]
      rfl) (fun j _ => hr.frozen _)
  rw [hz1, show 0 + n * 1 = n by omega] at hrun
  unfold Oper.wp execOp
  simp only [ho, resolve, invoke, builtin, Sem.run_bind, Sem.run_pure, Result.andThen_ok, List.map_toArray, List.map_cons, List.map_nil, hs, hx, hrun]
  exact h

theorem take_set_one (cur : List Value) (ts : List Nat) (j : Nat) (hj : j < cur.length) (hl : ts.length = cur.length) (h : cur.take j = u8s (ts.take j)) : (cur.set j (.int .u8 (ts.getD j 0 : Nat))).take (j + 1) = u8s (ts.take (j + 1)) := by
  have e : ts.take (j + 1) = ts.take j ++ [ts.getD j 0] := by
    rw [List.take_add_one, List.getElem?_eq_getElem (show j < ts.length by omega)]
    simp [List.getElem?_eq_getElem (show j < ts.length by omega)]
  rw [e, ← u8s_snoc, ← h, List.take_add_one, List.getElem?_set]
  rw [List.take_set_of_le (by omega)]
  simp [hj]

set_option maxRecDepth 100000 in
set_option maxHeartbeats 4000000 in
theorem stream_in (n : Nat) (hn : 12 ≤ n) (c : Nat) (KV NV : List Value) (bs : Nat → List Nat) (HKl : Hid (KV.length = 32)) (HNl : Hid (NV.length = 12)) (HBl : Hid (∀ k, (bs k).length = 64)) (hc : c < 4294967296)
    (HBk : Hid (∀ k w, Tab w → Calls Tryd.prog 74 #[.agg KV.toArray, .int .u32 ((c + k) % 4294967296 : Nat), .agg NV.toArray] w fun e w' => e = .returned (.agg (u8s (bs k)).toArray) ∧ Below w.heap.size w w'))
    (p : Option Addr) (len cap : Nat) (zs ts : List Nat) (HX : Hid (∀ k i, i < 64 → 64 * k + i < len → bits .xor .u8 ((zs.getD (64 * k + i) 0 : Nat) : Int) (((bs k).getD i 0 : Nat) : Int) = ((ts.getD (64 * k + i) 0 : Nat) : Int))) (htl : ts.length = len) (hlen : len ≤ 50000)
    (w : World) (hT : Tab w) (hI : IsBytes w.heap.size w p len cap zs) :
    CallsIn Fence.wide n Tryd.prog 43 #[.agg KV.toArray, .int .u32 c, .agg NV.toArray, .slice p len cap] w fun e w' => ∃ g, e = .returned (.slice (some ⟨g, 0, none⟩) len len) ∧ w.heap.size ≤ g ∧ Row w' g 5 (u8s ts) ∧ Below w.heap.size w w' := by
  obtain ⟨i0, hi, hz0, hz1, hz2⟩ := info_parts info5
  have h1 : 1 ≤ n := by omega
  have hfn : ∀ f, Fence.wide.fn f := fun _ => trivial
  have HT : Hid (Tab w) := hT
  have HTp : Hid (1 < w.heap.size) := hT.pos
  have HI : Hid (IsBytes w.heap.size w p len cap zs) := hI
  have HTl : Hid (ts.length = len) := htl
  have hlc := hI.2.1
  have hcc := hI.2.2.1
  clear hT hI htl
  obtain ⟨w0, hw0⟩ : ∃ w0, w0 = ((w.alloc (.cells KV.toArray 24)).alloc (.cells NV.toArray 78)).alloc (.cells #[.slice p len cap] 25) := ⟨_, rfl⟩
  have HW0 : Hid (((w.alloc (.cells KV.toArray 24)).alloc (.cells NV.toArray 78)).alloc (.cells #[.slice p len cap] 25) = w0) := hw0.symm
  have hb0 : Below w.heap.size w w0 := by rw [hw0]; exact (((Below.refl _ w).alloc (Nat.le_refl _) _).alloc (by simp) _).alloc (by simp; omega) _
  have HrK : Hid (Row w0 w.heap.size 24 KV) := by rw [hw0]; exact ((Row.new' w 24 _).alloc _).alloc _
  have HrN : Hid (Row w0 (w.heap.size + 1) 78 NV) := by
    have h := Row.new' (w.alloc (.cells KV.toArray 24)) 78 NV
    rw [World.size_alloc] at h
    rw [hw0]
    exact h.alloc _
  have HrB : Hid (Row w0 (w.heap.size + 1 + 1) 25 [.slice p len cap]) := by
    have h := Row.new ((w.alloc (.cells KV.toArray 24)).alloc (.cells NV.toArray 78)) 25 #[.slice p len cap]
    rw [World.size_alloc, World.size_alloc] at h
    rw [hw0]
    exact h
  have hs0 : w0.heap.size = w.heap.size + 1 + 1 + 1 := by rw [hw0]; simp
  have cb := HrB.out.cell (i := 0) rfl
  clear hw0
  refine callsIn_of_wp_marks Tryd.func43 rfl trivial ?_ rfl
  simp only [Tryd.ntmps43, List.size_toArray, List.length_cons, List.length_nil, Nat.reduceAdd, Nat.reduceSub, Array.replicate_succ, Array.replicate_zero, List.push_toArray, List.append_toArray, List.nil_append, List.cons_append]
  gi_wp2
  refine wpIn_scope_wide ?_
  rw [HW0.out]
  gi_wp2_with (gi_at_make; refine wpListIn_make_own _ rfl _ _ 25 rfl w0.heap.size 5 i0 (.int .u8 0) 1 Tryd.underlying25 hi hz0 hz1 _ _ _ len rfl rfl (by omega) (by rw [hz2]; omega) (by simp only [maxLen]; omega) (Nat.le_refl _) ?_; intro w1 hown1 hgrow1)
  rw [hs0] at hown1
  have hb1 : Below w0.heap.size w0 w1 := (Below.refl _ w0).grown hgrow1 (Nat.le_refl _) (fun k e => by cases e)
  obtain ⟨cur0, hr0, hl0⟩ : ∃ cur, Row w1 (w.heap.size + 1 + 1 + 1) 5 cur ∧ cur.length = len := by
    rcases hown1.2 with ⟨e, _⟩ | ⟨g, cp, cur, e, _, hgg, _, _, hsz, _⟩
    · cases e
    · cases e
      exact ⟨cur.toList, by unfold Row; rw [Array.toArray_toList]; exact hgg, by simpa using hsz⟩
  have HR1 : Hid (Row (w1.alloc (.cells #[.slice (some ⟨w.heap.size + 1 + 1 + 1, 0, none⟩) 0 len] 25)) (w.heap.size + 1 + 1 + 1) 5 cur0) := hr0.alloc _
  have HK1 : Hid (Row (w1.alloc (.cells #[.slice (some ⟨w.heap.size + 1 + 1 + 1, 0, none⟩) 0 len] 25)) w.heap.size 24 KV) := (HrK.out.later hb1).alloc _
  have HN1 : Hid (Row (w1.alloc (.cells #[.slice (some ⟨w.heap.size + 1 + 1 + 1, 0, none⟩) 0 len] 25)) (w.heap.size + 1) 78 NV) := (HrN.out.later hb1).alloc _
  have HB1 : Hid (Row (w1.alloc (.cells #[.slice (some ⟨w.heap.size + 1 + 1 + 1, 0, none⟩) 0 len] 25)) (w.heap.size + 1 + 1) 25 [.slice p len cap]) := (HrB.out.later hb1).alloc _
  have HO1 : Hid (Row (w1.alloc (.cells #[.slice (some ⟨w.heap.size + 1 + 1 + 1, 0, none⟩) 0 len] 25)) w1.heap.size 25 [.slice (some ⟨w.heap.size + 1 + 1 + 1, 0, none⟩) 0 len]) := Row.new w1 25 _
  have hs1 : w.heap.size + 4 ≤ w1.heap.size := hr0.lt
  have Hb1 : Hid (Below w.heap.size w (w1.alloc (.cells #[.slice (some ⟨w.heap.size + 1 + 1 + 1, 0, none⟩) 0 len] 25))) := (hb0.trans (hb1.mono (by omega))).alloc (by omega) _
  have Hs2 : Hid ((w1.alloc (.cells #[.slice (some ⟨w.heap.size + 1 + 1 + 1, 0, none⟩) 0 len] 25)).heap.size = w1.heap.size + 1) := by show _ = _; simp
  clear hown1 hgrow1 hb1 hr0 HrK HrN HrB hb0 cb HW0 hs0
  refine wpIn_label ?_
  generalize hBo : w1.heap.size = Bo at *
  clear hBo
  generalize (w1.alloc (.cells #[.slice (some ⟨w.heap.size + 1 + 1 + 1, 0, none⟩) 0 len] 25)) = w2 at *
  gi_wp2_with (first
    | ((with_reducible show wpListIn _ _ _ _ _ (Oper.mk _ (Op.load 24 (.tmp 4)) _ _ _ _ :: _) _ _); refine wpListIn_load_Row rfl 24 (.tmp 4) rfl rfl HK1.out Tryd.underlying24 (by rw [HKl.out]; exact size24) ?_; simp only [Act.put, List.setIfInBounds_toArray, List.set_cons_zero, List.set_cons_succ])
    | ((with_reducible show wpListIn _ _ _ _ _ (Oper.mk _ (Op.load 78 (.tmp 6)) _ _ _ _ :: _) _ _); refine wpListIn_load_Row rfl 78 (.tmp 6) rfl rfl HN1.out Tryd.underlying78 (by rw [HNl.out]; exact size78) ?_; simp only [Act.put, List.setIfInBounds_toArray, List.set_cons_zero, List.set_cons_succ])
    | (gi_at_call 61; refine (callsIn_wide.2 (keystream_any c KV NV _)).mono ?_; rintro e w4 ⟨rfl, hk4, hc4, hn4, hb4⟩; rw [Hs2.out] at hk4 hc4 hn4 hb4 ⊢; have Hk4 : Hid (Row w4 (Bo + 1) 24 KV) := hk4; have Hc4 : Hid (Row w4 (Bo + 1 + 1) 22 [.int .u32 c]) := hc4; have Hn4 : Hid (Row w4 (Bo + 1 + 1 + 1) 78 NV) := hn4; have Hb4 : Hid (Below (Bo + 1) w2 w4) := hb4; clear hk4 hc4 hn4 hb4))
  have hs4 : Bo + 4 ≤ w4.heap.size := Hn4.out.lt
  have HR4 : Hid (Row w4 (w.heap.size + 1 + 1 + 1) 5 cur0) := HR1.out.below Hb4.out (by omega)
  have HB4 : Hid (Row w4 (w.heap.size + 1 + 1) 25 [.slice p len cap]) := HB1.out.below Hb4.out (by omega)
  have HO4 : Hid (Row w4 Bo 25 [.slice (some ⟨w.heap.size + 1 + 1 + 1, 0, none⟩) 0 len]) := HO1.out.below Hb4.out (by omega)
  have Hbe4 : Hid (Below w.heap.size w w4) := Hb1.out.trans (Hb4.out.mono (by omega))
  have HT4 : Hid (Tab w4) := HT.out.later Hbe4.out
  have HL0 : Hid (cur0.length = len) := hl0
  clear HR1 HB1 HO1 HK1 HN1 Hb1 Hb4 Hs2 hl0
  refine wpIn_rangeFunc_ever rfl h1 (gf := 73) (lb := #[.pointer (some ⟨Bo + 1 + 1, 0, none⟩), .pointer (some ⟨Bo + 1, 0, none⟩), .pointer (some ⟨Bo + 1 + 1 + 1, 0, none⟩)]) rfl trivial (enters_of Tryd.func73 (by kernel_rfl) rfl)
    (encs := fun k => #[.agg (u8s (bs k)).toArray]) (Kp := KpM (fun k => k = w.heap.size + 1 + 1 + 1 ∨ k = Bo) (w4.heap.size + 2)) (N := len / 64 + 1)
    (fun W' hs hb => key1_iter (n - 1) (by omega) _ _ _ _ c (len / 64 + 1) KV NV (fun k => u8s (bs k)) HKl HNl HBk W' hc (by omega) (HT4.out.later hb) (Hc4.out.later hb) (Hk4.out.later hb) (Hn4.out.later hb) (fun k => k = w.heap.size + 1 + 1 + 1 ∨ k = Bo) _ (fun _ _ h => h.1) (fun _ _ h => h.2.size) (by have := HTp.out; omega) (by have := HTp.out; omega) (by omega) (by omega))
    KpM.trans (fun A o o' ho hc => KpM.record (by omega) o' ho hc) KpM.of_below (fun _ => rfl) 108 (fun k => u8s (bs k))
    (fun k A => (Row A Bo 25 [.slice (some ⟨w.heap.size + 1 + 1 + 1, 0, none⟩) (64 * k) len] ∧ (∃ cur, Row A (w.heap.size + 1 + 1 + 1) 5 cur ∧ cur.length = len ∧ cur.take (64 * k) = u8s (ts.take (64 * k))) ∧ Row A (w.heap.size + 1 + 1) 25 [.slice p len cap] ∧ 64 * k ≤ len) ∧ Below w.heap.size w A)
    (fun c _ A => (c = .exit 0 ∧ Row A Bo 25 [.slice (some ⟨w.heap.size + 1 + 1 + 1, 0, none⟩) len len] ∧ (∃ cur, Row A (w.heap.size + 1 + 1 + 1) 5 cur ∧ cur.length = len ∧ cur.take len = u8s (ts.take len)) ∧ Row A (w.heap.size + 1 + 1) 25 [.slice p len cap]) ∧ Below w.heap.size w A)
    (fun k A A' ⟨⟨h1, ⟨cur, h2, h3, h4⟩, h5, h6⟩, h8⟩ hb => ⟨⟨h1.below hb (by omega), ⟨cur, h2.below hb (by omega), h3, h4⟩, h5.below hb (by omega), h6⟩, h8.trans (hb.mono (by omega))⟩)
    (fun _ k A A' ⟨⟨h0, h1, ⟨cur, h2, h3, h4⟩, h5⟩, h8⟩ hb => ⟨⟨h0, h1.below hb (by omega), ⟨cur, h2.below hb (by omega), h3, h4⟩, h5.below hb (by omega)⟩, h8.trans (hb.mono (by omega))⟩)
    (fun k A h => by have := h.1.2.2.2; omega)
    ⟨⟨HO4.out, ⟨cur0, HR4.out, HL0.out, rfl⟩, HB4.out, by omega⟩, Hbe4.out⟩
    (fun k A => { tmps := #[.agg KV.toArray, .int .u32 c, .agg NV.toArray, .slice p len cap, .pointer (some ⟨w.heap.size, 0, none⟩), undef, .pointer (some ⟨w.heap.size + 1, 0, none⟩), .pointer (some ⟨w.heap.size + 1 + 1, 0, none⟩), .slice none 0 0, .pointer (some ⟨Bo, 0, none⟩), .pointer (some ⟨A.heap.size, 0, none⟩), undef, undef, .slice p len cap, .int .i64 len, .slice (some ⟨w.heap.size + 1 + 1 + 1, 0, none⟩) 0 len, .agg KV.toArray, .int .u32 c, .agg NV.toArray, .func (.func 73) #[] #[.pointer (some ⟨Bo + 1 + 1, 0, none⟩), .pointer (some ⟨Bo + 1, 0, none⟩), .pointer (some ⟨Bo + 1 + 1 + 1, 0, none⟩)], .agg (u8s (bs k)).toArray, undef, undef, undef, undef, undef, undef, undef, undef, undef, undef, undef, undef, undef, undef, undef, undef, undef, undef, undef, undef, undef], defers := [] }) ?assign ?body ?stop
  case assign =>
    intro li k A K' hK'
    have HXL : Hid ((u8s (bs k)).length = 64) := by show _ = _; rw [u8s_length]; exact HBl.out k
    have HX1 : Hid (∀ v ∈ u8s (bs k), v.oneCell' = true) := u8s_one _
    have HK' : Hid (∀ W', Below A.heap.size A W' → Row W' A.heap.size 108 (u8s (bs k)) → K' _ W') := hK'
    clear hK'
    generalize u8s (bs k) = V at *
    gi_wp2_with ((with_reducible show wpListIn _ _ _ _ _ (Oper.mk _ (Op.store 108 (.tmp 10) (.tmp 20)) _ _ _ _ :: _) _ _); refine wpListIn_store_Row rfl 108 (.tmp 10) (.tmp 20) rfl V rfl rfl (Row.new _ _ _) (by rw [HXL.out]; exact size108) (by rw [HXL.out]; rfl) HX1.out ?_; simp only [Act.put])
    exact HK'.out _ (below_setCells (Nat.le_refl _) _ _ ((Below.refl _ A).alloc (Nat.le_refl _) _)) (Row.sets_all (Row.new _ _ _) (by rw [HXL.out]; rfl))
  case body =>
    rintro li k A₀ A ⟨⟨hrO, ⟨cur, hrR, hcl, hct⟩, hrB, hkl⟩, hB⟩ hle hrow
    have HXL : Hid ((u8s (bs k)).length = 64) := by show _ = _; rw [u8s_length]; exact HBl.out k
    have HXi : Hid (∀ i, i < 64 → (u8s (bs k))[i]? = some (.int .u8 ((bs k).getD i 0 : Nat))) := fun i hi => u8s_at (by rw [HBl.out]; exact hi)
    have Hrow : Hid (Row A A₀.heap.size 108 (u8s (bs k))) := hrow
    have HXk : Hid (∀ i, i < 64 → 64 * k + i < len → bits .xor .u8 ((zs.getD (64 * k + i) 0 : Nat) : Int) (((bs k).getD i 0 : Nat) : Int) = ((ts.getD (64 * k + i) 0 : Nat) : Int)) := fun i hi hl => HX.out k i hi hl
    have HrO : Hid (Row A Bo 25 [.slice (some ⟨w.heap.size + 1 + 1 + 1, 0, none⟩) (64 * k) len]) := hrO
    have HrR : Hid (∃ cur, Row A (w.heap.size + 1 + 1 + 1) 5 cur ∧ cur.length = len ∧ cur.take (64 * k) = u8s (ts.take (64 * k))) := ⟨cur, hrR, hcl, hct⟩
    have HrB : Hid (Row A (w.heap.size + 1 + 1) 25 [.slice p len cap]) := hrB
    have HB : Hid (Below w.heap.size w A) := hB
    clear hrow hrO hrR hcl hct hrB hB
    generalize u8s (bs k) = V at *
    gi_wp2_with ((with_reducible show wpListIn _ _ _ _ _ (Oper.mk _ (Op.load 108 (.tmp 10)) _ _ _ _ :: _) _ _); refine wpListIn_load_Row rfl 108 (.tmp 10) rfl rfl Hrow.out Tryd.underlying108 (by rw [HXL.out]; exact size108) ?_; simp only [Act.put, List.setIfInBounds_toArray, List.set_cons_zero, List.set_cons_succ])
    gi_loopw [22] (fun i wr => ∃ q : Nat, q ≤ 64 ∧ i = .int .i64 q ∧ 64 * k + q ≤ len ∧ (Row wr Bo 25 [.slice (some ⟨w.heap.size + 1 + 1 + 1, 0, none⟩) (64 * k + q) len] ∧ (∃ cur, Row wr (w.heap.size + 1 + 1 + 1) 5 cur ∧ cur.length = len ∧ cur.take (64 * k + q) = u8s (ts.take (64 * k + q))) ∧ Row wr (w.heap.size + 1 + 1) 25 [.slice p len cap]) ∧ Below w.heap.size w wr ∧ KeepsFrom w4.heap.size A wr ∧ KpM (fun k => k = w.heap.size + 1 + 1 + 1 ∨ k = Bo) (w4.heap.size + 2) A wr ∧ A.heap.size ≤ wr.heap.size)
      (fun i _ => 64 - (intOf i).toNat)
    case atStart => exact ⟨0, by omega, rfl, by omega, ⟨HrO.out, HrR.out, HrB.out⟩, HB.out, KeepsFrom.refl _ _, KpM.refl _, Nat.le_refl _⟩
    case round =>
      clear HrO HrR HrB HB
      obtain ⟨q, hq, rfl, hql, ⟨hrO, ⟨cur, hrR, hcl, hct⟩, hrB⟩, hB, hKF, hKP, hsz⟩ := hrel
      have HB : Hid (Below w.heap.size w wr) := hB
      have HKF : Hid (KeepsFrom w4.heap.size A wr) := hKF
      have HKP : Hid (KpM (fun k => k = w.heap.size + 1 + 1 + 1 ∨ k = Bo) (w4.heap.size + 2) A wr) := hKP
      have HrO : Hid (Row wr Bo 25 [.slice (some ⟨w.heap.size + 1 + 1 + 1, 0, none⟩) (64 * k + q) len]) := hrO
      have HrR : Hid (Row wr (w.heap.size + 1 + 1 + 1) 5 cur) := hrR
      have HrB : Hid (Row wr (w.heap.size + 1 + 1) 25 [.slice p len cap]) := hrB
      have Hcl : Hid (cur.length = len) := hcl
      have Hct : Hid (cur.take (64 * k + q) = u8s (ts.take (64 * k + q))) := hct
      have co := hrO.cell (i := 0) rfl
      have fo := hrO.frozen 0
      have cb := hrB.cell (i := 0) rfl
      clear hrO hrR hrB hcl hct hB hKF hKP
      by_cases hq64 : q < 64
      · have hqi : (q : Int) < 64 := by omega
        have cI : ∀ w : World, (Instr.index 108 (.agg V.toArray) (.int .i64 (q : Int))).run Tryd.prog w = .ok (.int .u8 ((bs k).getD q 0 : Nat)) w := fun w => run_index108 _ q _ hq64 (HXi.out q hq64) w
        by_cases hend : 64 * k + q = len
        · rw [hend] at co HrO Hct
          gi_wp2
          exact ⟨HKF.out, HKP.out, ⟨rfl, HrO.out, ⟨cur, HrR.out, Hcl.out, Hct.out⟩, HrB.out⟩, HB.out⟩
        · have hlt : 64 * k + q < len := by omega
          have hx := HXk.out q hq64 hlt
          obtain ⟨bb, off, rfl, hbb, hcs⟩ : ∃ b off, p = some ⟨b, off, none⟩ ∧ b < w.heap.size ∧ ∀ i, i < len → wr.cell? ⟨b, off + i, none⟩ = some (.int .u8 (zs.getD i 0 : Nat)) := by
            rcases (HI.out.below HB.out).2.2.2.2 with h | h
            · omega
            · exact h
          have cz := hcs (64 * k + q) hlt
          have HTs : Hid ((cur.set (64 * k + q) (.int .u8 (ts.getD (64 * k + q) 0 : Nat))).take (64 * k + q + 1) = u8s (ts.take (64 * k + q + 1))) := take_set_one cur ts (64 * k + q) (by rw [Hcl.out]; exact hlt) (by rw [Hcl.out, HTl.out]) Hct.out
          have Hj : Hid (64 * k + q + 1 ≤ len) := hlt
          clear hcs
          generalize zs.getD (64 * k + q) 0 = z at *
          generalize (bs k).getD q 0 = y at *
          generalize hu : ts.getD (64 * k + q) 0 = u at *
          generalize hj : 64 * k + q = j at *
          have HJ : Hid (64 * k + q = j) := hj
          clear hj hu
          have hji : (j : Int) < (len : Int) := by omega
          have hne : ((j : Int) == (len : Int)) = false := by simp; omega
          gi_wp2
          refine wpIn_region_gate_on 10 (fun W' => W'.cell? ⟨Bo, 0, none⟩ = some (.slice (some ⟨w.heap.size + 1 + 1 + 1, 0, none⟩) j len) ∧ W'.cell? ⟨w.heap.size + 1 + 1, 0, none⟩ = some (.slice (some ⟨bb, off, none⟩) len cap) ∧ W'.cell? ⟨bb, off + j, none⟩ = some (.int .u8 z)) (by kernel_rfl) (by kernel_rfl) ?_
          refine wpAnyG_takesAt 0 8 3 (of_decide_eq_true (by kernel_rfl)) rfl (fun _ _ _ _ _ h => h) (by kernel_rfl) (by kernel_rfl) (fun _ => ⟨by simpa using co, by simpa using cb, by simpa using cz⟩) ?_
          simp only [List.drop_zero, List.take_succ_cons, List.take_zero]
          iterate 3 (refine wpHeldG_step (v := ?_) (by rfl) (by kernel_rfl) (fun wz hSw => ?_) ?_; rotate_left; (focus ((try dsimp only at hSw); go_simp; try with_reducible rfl)); (simp only [Act.put, List.setIfInBounds_toArray, List.set_cons_zero, List.set_cons_succ]))
          iterate 2 (refine wpHeldG_free (v := ?_) (by rfl) (fun wz => ?_) ?_; rotate_left; (focus (go_simp; try with_reducible rfl)); (simp only [Act.put, List.setIfInBounds_toArray, List.set_cons_zero, List.set_cons_succ]))
          iterate 1 (refine wpHeldG_step (v := ?_) (by rfl) (by kernel_rfl) (fun wz hSw => ?_) ?_; rotate_left; (focus ((try dsimp only at hSw); go_simp; try with_reducible rfl)); (simp only [Act.put, List.setIfInBounds_toArray, List.set_cons_zero, List.set_cons_succ]))
          iterate 2 (refine wpHeldG_free (v := ?_) (by rfl) (fun wz => ?_) ?_; rotate_left; (focus (go_simp; try with_reducible rfl)); (simp only [Act.put, List.setIfInBounds_toArray, List.set_cons_zero, List.set_cons_succ]))
          refine wpHeldG_nil ?_
          refine wpAnyG_only (i := 8) (by kernel_rfl) rfl (by rfl) (fun K hK => ?_)
          go_simp
          have hbA : Below wr.heap.size wr ((wr.alloc (.cells #[.int .u8 (u : Nat)] 5)).drew) := ((Below.refl _ wr).alloc (Nat.le_refl _) _).drew
          have HbA : Hid (Below wr.heap.size wr ((wr.alloc (.cells #[.int .u8 (u : Nat)] 5)).drew)) := hbA
          refine hK.out _ _ (fun _ => ⟨(hbA.cell (p := ⟨Bo, 0, none⟩) HrO.out.lt).trans co, (hbA.cell (p := ⟨w.heap.size + 1 + 1, 0, none⟩) HrB.out.lt).trans cb, (hbA.cell (p := ⟨bb, off + j, none⟩) (show bb < wr.heap.size from Nat.lt_of_lt_of_le hbb HB.out.size)).trans cz⟩) ?_
          clear hK K
          have HN : Hid (Row ((wr.alloc (.cells #[.int .u8 (u : Nat)] 5)).drew) wr.heap.size 5 [.int .u8 (u : Nat)]) := (Row.new wr 5 _).drew
          have Hs : Hid (((wr.alloc (.cells #[.int .u8 (u : Nat)] 5)).drew).heap.size = wr.heap.size + 1) := World.size_alloc wr _
          clear hbA
          generalize ((wr.alloc (.cells #[.int .u8 (u : Nat)] 5)).drew) = W2 at *
          refine wpAnyG_only (i := 9) (by kernel_rfl) rfl (by rfl) (fun K hK => ?_)
          refine wp_append_in (.tmp 30) (.tmp 38) (by rfl) (w.heap.size + 1 + 1 + 1) j len (by rfl) ⟨wr.heap.size, 0, none⟩ 1 (by rfl) (.int .u8 (u : Nat)) (HN.out.cell (i := 0) rfl) rfl Hj.out (HrR.out.later HbA.out) (by rw [Hcl.out]; have := Hj.out; omega) ?_
          have HO3 : Hid (Row (W2.setCell ⟨w.heap.size + 1 + 1 + 1, j, none⟩ (.int .u8 (u : Nat))) Bo 25 [.slice (some ⟨w.heap.size + 1 + 1 + 1, 0, none⟩) j len]) := (HrO.out.later HbA.out).other (by simp; omega) _
          have HB3 : Hid (Row (W2.setCell ⟨w.heap.size + 1 + 1 + 1, j, none⟩ (.int .u8 (u : Nat))) (w.heap.size + 1 + 1) 25 [.slice (some ⟨bb, off, none⟩) len cap]) := (HrB.out.later HbA.out).other (by simp) _
          have HR3 : Hid (Row (W2.setCell ⟨w.heap.size + 1 + 1 + 1, j, none⟩ (.int .u8 (u : Nat))) (w.heap.size + 1 + 1 + 1) 5 (cur.set j (.int .u8 (u : Nat)))) := (HrR.out.later HbA.out).set _ _
          have HL3 : Hid (Below w.heap.size w (W2.setCell ⟨w.heap.size + 1 + 1 + 1, j, none⟩ (.int .u8 (u : Nat)))) := (HB.out.trans (HbA.out.mono HB.out.size)).setCell (p := ⟨w.heap.size + 1 + 1 + 1, j, none⟩) (by show _ ≤ w.heap.size + 1 + 1 + 1; omega) _
          have HF3 : Hid (KeepsFrom w4.heap.size A (W2.setCell ⟨w.heap.size + 1 + 1 + 1, j, none⟩ (.int .u8 (u : Nat)))) := (HKF.out.trans (keepsFrom_of_below HbA.out)).trans ((KeepsOthers.setCell W2 _ _).from _)
          have HP3 : Hid (KpM (fun k => k = w.heap.size + 1 + 1 + 1 ∨ k = Bo) (w4.heap.size + 2) A (W2.setCell ⟨w.heap.size + 1 + 1 + 1, j, none⟩ (.int .u8 (u : Nat)))) := (HKP.out.trans (KpM.of_below HbA.out)).trans (KpM.set (a := ⟨w.heap.size + 1 + 1 + 1, j, none⟩) (.inl rfl) _)
          have Hs3 : Hid ((W2.setCell ⟨w.heap.size + 1 + 1 + 1, j, none⟩ (.int .u8 (u : Nat))).heap.size = wr.heap.size + 1) := by show _ = _; rw [World.size_setCell]; exact Hs.out
          have Hc3 : Hid ((W2.setCell ⟨w.heap.size + 1 + 1 + 1, j, none⟩ (.int .u8 (u : Nat))).cell? ⟨bb, off + j, none⟩ = some (.int .u8 z)) := (World.cell?_setCell_far _ _ _ _ (by simp; omega)).trans ((HbA.out.cell (p := ⟨bb, off + j, none⟩) (show bb < wr.heap.size from Nat.lt_of_lt_of_le hbb HB.out.size)).trans cz)
          generalize (W2.setCell ⟨w.heap.size + 1 + 1 + 1, j, none⟩ (.int .u8 (u : Nat))) = W3 at *
          refine hK.out _ _ (fun _ => ⟨HO3.out.cell (i := 0) rfl, HB3.out.cell (i := 0) rfl, Hc3.out⟩) ?_
          clear hK K
          have co3 := HO3.out.cell (i := 0) rfl
          have fo3 := HO3.out.frozen 0
          refine wpAnyG_only (i := 10) (by kernel_rfl) rfl (by rfl) (fun K hK => ?_)
          go_simp
          refine hK.out _ _ (gone (by kernel_rfl)) ?_
          clear hK K
          refine wpAnyG_done (by kernel_rfl) ?_ _
          refine OnOnly.on ?_
          have HV5 : Hid (Row (W3.setCell ⟨Bo, 0, none⟩ (.slice (some ⟨w.heap.size + 1 + 1 + 1, 0, none⟩) (j + 1) len)) Bo 25 [.slice (some ⟨w.heap.size + 1 + 1 + 1, 0, none⟩) (j + 1) len] ∧ Row (W3.setCell ⟨Bo, 0, none⟩ (.slice (some ⟨w.heap.size + 1 + 1 + 1, 0, none⟩) (j + 1) len)) (w.heap.size + 1 + 1 + 1) 5 (cur.set j (.int .u8 (u : Nat))) ∧ Row (W3.setCell ⟨Bo, 0, none⟩ (.slice (some ⟨w.heap.size + 1 + 1 + 1, 0, none⟩) (j + 1) len)) (w.heap.size + 1 + 1) 25 [.slice (some ⟨bb, off, none⟩) len cap] ∧ Below w.heap.size w (W3.setCell ⟨Bo, 0, none⟩ (.slice (some ⟨w.heap.size + 1 + 1 + 1, 0, none⟩) (j + 1) len)) ∧ KeepsFrom w4.heap.size A (W3.setCell ⟨Bo, 0, none⟩ (.slice (some ⟨w.heap.size + 1 + 1 + 1, 0, none⟩) (j + 1) len)) ∧ KpM (fun k => k = w.heap.size + 1 + 1 + 1 ∨ k = Bo) (w4.heap.size + 2) A (W3.setCell ⟨Bo, 0, none⟩ (.slice (some ⟨w.heap.size + 1 + 1 + 1, 0, none⟩) (j + 1) len)) ∧ A.heap.size ≤ (W3.setCell ⟨Bo, 0, none⟩ (.slice (some ⟨w.heap.size + 1 + 1 + 1, 0, none⟩) (j + 1) len)).heap.size) :=
            ⟨HO3.out.set 0 _, HR3.out.other (by simp; omega) _, HB3.out.other (by simp; omega) _, HL3.out.setCell (p := ⟨Bo, 0, none⟩) (by show _ ≤ Bo; omega) _, HF3.out.trans ((KeepsOthers.setCell W3 _ _).from _), HP3.out.trans (KpM.set (a := ⟨Bo, 0, none⟩) (.inr rfl) _), by rw [World.size_setCell, Hs3.out]; omega⟩
          generalize (W3.setCell ⟨Bo, 0, none⟩ (.slice (some ⟨w.heap.size + 1 + 1 + 1, 0, none⟩) (j + 1) len)) = V5 at *
          clear HO3 HB3 HR3 HL3 HF3 HP3 Hs3 Hc3 co3 fo3 HN Hs HbA
          have H5 : Hid (Row V5 Bo 25 [.slice (some ⟨w.heap.size + 1 + 1 + 1, 0, none⟩) (j + 1) len] ∧ Row V5 (w.heap.size + 1 + 1 + 1) 5 (cur.set j (.int .u8 (u : Nat))) ∧ Row V5 (w.heap.size + 1 + 1) 25 [.slice (some ⟨bb, off, none⟩) len cap] ∧ Below w.heap.size w V5 ∧ KeepsFrom w4.heap.size A V5 ∧ KpM (fun k => k = w.heap.size + 1 + 1 + 1 ∨ k = Bo) (w4.heap.size + 2) A V5 ∧ A.heap.size ≤ V5.heap.size) := HV5.out
          clear HV5 co fo cb cz
          gi_wp2
          go_roundw
          case rel => exact ⟨q + 1, by omega, by go_num, by have := Hj.out; have := HJ.out; omega, by rw [show 64 * k + (q + 1) = j + 1 by have := HJ.out; omega]; exact ⟨H5.out.1, ⟨_, H5.out.2.1, by rw [List.length_set]; exact Hcl.out, HTs.out⟩, H5.out.2.2.1⟩, H5.out.2.2.2.1, H5.out.2.2.2.2.1, H5.out.2.2.2.2.2.1, H5.out.2.2.2.2.2.2⟩
          case measure => simp [intOf]; omega
      · obtain rfl : q = 64 := by omega
        gi_wp2
        exact ⟨HKF.out, HKP.out, ⟨by rw [show 64 * (k + 1) = 64 * k + 64 by omega]; exact HrO.out, ⟨cur, HrR.out, Hcl.out, by rw [show 64 * (k + 1) = 64 * k + 64 by omega]; exact Hct.out⟩, HrB.out, by omega⟩, HB.out⟩
  case stop =>
    rintro D c' k A hD ⟨⟨rfl, hrO, ⟨cur, hrR, hcl, hct⟩, hrB⟩, hB⟩ hKD
    have co := hrO.cell (i := 0) rfl
    gi_wp2
    rw [List.take_of_length_le (by omega), List.take_of_length_le (by have := HTl.out; omega)] at hct
    subst hct
    refine ⟨by simp, .inl ⟨_, _, rfl, run_takeDeferred hKD, ?_⟩⟩
    exact ⟨_, results_tmp rfl _ _ _, _, rfl, by omega, (World.putObj_heap_other (by omega)).trans hrR, hB.trans (below_putObj _ _ (by omega))⟩
end Go.Proofs.YtobmcaknfbooiaaDoor.Re
/-
  A text filled up, on numbers: its length as four bytes, the text, zeros up to its bucket; and which bytes are a text filled up.
-/
namespace Go.Proofs.YtobmcaknfbooiaaDoor.Re
open Go.RowKit

/-- Four bytes, the lowest ahead. -/
def lenL (n : Nat) : List Nat := [byteAt n 0, byteAt n 1, byteAt n 2, byteAt n 3]
/-- The text filled up (where it has a bucket). -/
def padL (zs : List Nat) : List Nat := lenL zs.length ++ zs ++ List.replicate (bucketN zs.length - (zs.length + 4)) 0

theorem byteAt_lt (n i : Nat) : byteAt n i < 256 := Nat.mod_lt _ (by decide)
@[simp] theorem lenL_length (n : Nat) : (lenL n).length = 4 := rfl
theorem lenL_lt (n : Nat) : ∀ z ∈ lenL n, z < 256 := by
  intro z hz
  simp only [lenL, List.mem_cons, List.not_mem_nil, or_false] at hz
  rcases hz with rfl | rfl | rfl | rfl <;> exact byteAt_lt _ _
theorem byteVals_len (n : Nat) : byteVals (byteAt n) 4 = u8s (lenL n) := rfl
theorem bytesOf_len (n : Nat) : byteVals (bytesOf [n]) 4 = u8s (lenL n) := rfl

theorem padL_length {zs : List Nat} (h : zs.length ≤ 65532) : (padL zs).length = bucketN zs.length := by
  have := bucketN_pos (z := (zs.length : Int)) (by omega) (by omega)
  simp [padL]
  omega
theorem padL_lt {zs : List Nat} (h : ∀ z ∈ zs, z < 256) : ∀ z ∈ padL zs, z < 256 := by
  intro z hz
  simp only [padL, List.mem_append, List.mem_replicate] at hz
  rcases hz with (hz | hz) | ⟨_, rfl⟩
  · exact lenL_lt _ z hz
  · exact h z hz
  · decide

/-- The number that four bytes are. -/
theorem wordAt_lenL (n : Nat) (h : n < 4294967296) (r : List Nat) : wordAt (lenL n ++ r) 0 = n := by
  simp [wordAt, lenL, byteAt]
  omega

end Go.Proofs.YtobmcaknfbooiaaDoor.Re
/-
  pad.Put: the text filled up in fresh memory, or ErrLong. Nothing that lay before the call has turned.
-/
namespace Go.Proofs.YtobmcaknfbooiaaDoor.Re
open Go.RowKit
theorem splice_pad (n K : Nat) (zs : List Nat) (hn : zs.length = n) (hK : n + 4 ≤ K) : splice (splice (u8s (List.replicate K 0)) 0 (u8s (lenL n))) 4 (u8s zs) = u8s (lenL n ++ zs ++ List.replicate (K - (n + 4)) 0) := by
  have h1 : splice (u8s (List.replicate K 0)) 0 (u8s (lenL n)) = u8s (lenL n) ++ u8s (List.replicate (K - 4) 0) := by
    simp [splice, u8s]
  rw [h1]
  simp only [splice, u8s_length, hn]
  rw [List.take_append_of_le_length (by simp), List.take_of_length_le (by simp), List.drop_append, List.drop_eq_nil_of_le (by simp), ← List.append_assoc, List.nil_append, ← u8s_append, ← u8s_append]
  congr 1
  simp [u8s]
  omega

set_option maxHeartbeats 1000000 in
theorem put_long (p : Option Addr) (len cap : Nat) (hlen : 65532 < len) (hl2 : len ≤ 9223372036854775807) (w : World) :
    Calls Tryd.prog 41 #[.slice p len cap] w fun e w' => e = .returned (.tuple #[.slice none 0 0, .int .i64 2]) ∧ Below w.heap.size w w' := by
  have b0 : bucketN (len : Int) = 0 := bucketN_none (.inr (by omega))
  go_enter Tryd.func41, Tryd.ntmps41
  go_wp2_with (go_at_call 35; refine (bucket_any _ (by omega) _).mono ?_; rintro e w1 ⟨rfl, hb⟩; rw [b0])
  refine bodyPost_ret (results_tmp2 rfl _ _ _) rfl ?_
  exact ⟨rfl, hb⟩

set_option maxRecDepth 100000 in
set_option maxHeartbeats 1000000 in
theorem put_some (p : Option Addr) (len cap : Nat) (zs : List Nat) (hlen : len ≤ 65532) (w : World) (hI : IsBytes w.heap.size w p len cap zs) :
    Calls Tryd.prog 41 #[.slice p len cap] w fun e w' => ∃ g, e = .returned (.tuple #[.slice (some ⟨g, 0, none⟩) (bucketN len) (bucketN len), .int .i64 0]) ∧
      Own w.heap.size w' (.slice (some ⟨g, 0, none⟩) (bucketN len) (bucketN len)) (padL zs) ∧ Below w.heap.size w w' := by
  obtain ⟨i0, hi, hz0, hz1, hz2⟩ := info_parts info5
  have hpos := bucketN_pos (z := (len : Int)) (by omega) (by omega)
  have HI : Hid (IsBytes w.heap.size w p len cap zs) := hI
  have HP : Hid (padL zs = lenL len ++ zs ++ List.replicate (bucketN len - (len + 4)) 0) := by show _ = _; rw [padL, hI.1]
  clear hI
  have HBk : Hid (∀ w, Calls Tryd.prog 35 #[.int .i64 len] w fun e w' => e = .returned (.int .i64 (bucketN len : Nat)) ∧ Below w.heap.size w w') := fun w => bucket_any _ (by omega) _
  generalize bucketN (len : Int) = K at *
  obtain ⟨hk1, hk2, hk3⟩ := hpos
  have hk0 : ((K : Int) == 0) = false := by simp; omega
  have hk4 : (K = 4) = False := by simp; omega
  have hk5 : (4 : Int) ≤ (K : Int) := by omega
  have e1 : IntKind.u32.wrap (len : Int) = (len : Int) := by rw [IntKind.wrap_u32]; omega
  have HK : Hid (len + 4 ≤ K) := by show len + 4 ≤ K; omega
  go_enter Tryd.func41, Tryd.ntmps41
  go_wp2_with (first
    | (go_at_call 35; refine (HBk.out _).mono ?_; rintro e w1 ⟨rfl, hb1⟩)
    | (at_make; refine wpList_make_full _ rfl _ _ 25 rfl w1.heap.size 5 i0 (.int .u8 0) 1 Tryd.underlying25 hi hz0 hz1 _ _ _ _ K rfl rfl (by omega) (by omega) (by rw [hz2]; omega) (by simp only [maxLen]; omega) (Nat.le_refl _) ?_; intro w2 hown2 hgrow2; rw [made_zeros] at hown2; have HR2 : Hid (Row w2 w1.heap.size 5 (u8s (List.replicate K 0))) := row_of_made hown2; have hb2 : Below w1.heap.size w1 w2 := ((Below.refl _ w1).grown hgrow2 (Nat.le_refl _) (fun k e => by cases e)); clear hown2 hgrow2)
    | (go_at_call 59; refine (bytes_some w2.heap.size 0 1 1 [len] _ (by decide) (by simp) (fun i hi => by obtain rfl : i = 0 := (by omega); exact (Row.new w2 22 #[.int .u32 (len : Nat)]).cell (i := 0) rfl)).mono ?_; rintro e w3 ⟨v3, rfl, hown3, hb3⟩; rw [show 4 * 1 = 4 from rfl, bytesOf_len] at hown3; obtain ⟨q3, c3, rfl⟩ := slice_of_row hown3; have HI3 : Hid (IsBytes w3.heap.size w3 q3 4 c3 (lenL len)) := Own.bytes (zs := lenL len) hown3 (lenL_lt _); have HR3 : Hid (Row w3 w1.heap.size 5 (u8s (List.replicate K 0))) := (HR2.out.alloc _).later hb3; have hb13 : Below w1.heap.size w1 w3 := ((hb2.alloc hb2.size _).trans (hb3.mono (by have := hb2.size; simp only [World.size_alloc]; omega))); clear hown3 hb3)
    | ((with_reducible show wpList _ _ _ (Oper.mk (some 19) _ _ _ _ _ :: _) _ _); refine wpList_copy_splice rfl (.tmp 13) (.tmp 18) 25 25 rfl 5 Tryd.underlying25 size5 _ _ _ _ _ _ rfl rfl w1.heap.size 0 (u8s (List.replicate K 0)) 5 HR3.out (u8s (lenL len)) (by rw [u8s_length, lenL_length]; exact (Nat.min_eq_left (by omega)).symm) (fun h0 => ⟨rfl, bytes_src HI3.out h0⟩) (by simp; omega) (u8s_one _) w1.heap.size w1 hb13 (Nat.le_refl _) ?_; intro w4 HG4 hb4; rw [u8s_length, lenL_length])
    | ((with_reducible show wpList _ _ _ (Oper.mk (some 23) _ _ _ _ _ :: _) _ _); refine wpList_copy_splice rfl (.tmp 21) (.tmp 22) 25 25 rfl 5 Tryd.underlying25 size5 _ _ _ _ _ _ rfl rfl w1.heap.size 4 (splice (u8s (List.replicate K 0)) 0 (u8s (lenL len))) 5 HG4.out (u8s zs) (by rw [u8s_length, HI.out.1]; exact (Nat.min_eq_left (by omega)).symm) (fun h0 => ⟨rfl, bytes_src ((HI.out.later hb1).below hb4) h0⟩) (by rw [length_splice _ _ _ (by simp; omega)]; have := HI.out.1; simp; omega) (u8s_one _) w1.heap.size w1 hb4 (Nat.le_refl _) ?_; intro w5 HG5 hb5; rw [u8s_length, HI.out.1]))
  refine bodyPost_ret (results_tmp2 rfl _ _ _) rfl ?_
  have hg := HG5.out
  rw [splice_pad len K zs HI.out.1 HK.out, ← HP.out] at hg
  have hl : (padL zs).length = K := by rw [HP.out]; have := HI.out.1; simp; omega
  have ho := own_of_row (W := w5) (n₀ := w.heap.size) (g := w1.heap.size) (zs := padL zs) hg hb1.size (by omega)
  rw [hl] at ho
  exact ⟨w1.heap.size, rfl, ho, hb1.trans (hb5.mono hb1.size)⟩

end Go.Proofs.YtobmcaknfbooiaaDoor.Re
/-
  pad.lengthOf: the length that bytes tell, and whether they are as long as a text of that length filled up. Nothing that lay before the call has turned.
-/
namespace Go.Proofs.YtobmcaknfbooiaaDoor.Re
open Go.RowKit

theorem wordAt_take (cs : List Nat) : wordAt (cs.take 4) 0 = wordAt cs 0 := by
  simp [wordAt]

set_option maxHeartbeats 1000000 in
theorem lengthOf_short (p : Option Addr) (len cap : Nat) (hlen : len < 4) (w : World) :
    Calls Tryd.prog 64 #[.slice p len cap] w fun e w' => e = .returned (.tuple #[.int .i64 0, .bool false]) ∧ Below w.heap.size w w' := by
  have h4 : (len : Int) < 4 := by omega
  go_enter Tryd.func64, Tryd.ntmps64
  go_wp2
  refine bodyPost_ret (results_tmp2 rfl _ _ _) rfl ?_
  exact ⟨rfl, Below.refl _ _⟩

set_option maxRecDepth 100000 in
set_option maxHeartbeats 1000000 in
theorem lengthOf_some (p : Option Addr) (len cap : Nat) (cs : List Nat) (hlen : 4 ≤ len) (w : World) (hI : IsBytes w.heap.size w p len cap cs) :
    Calls Tryd.prog 64 #[.slice p len cap] w fun e w' => e = .returned (.tuple #[.int .i64 (wordAt cs 0 : Nat), .bool (decide (bucketN (wordAt cs 0) = len))]) ∧ Below w.heap.size w w' := by
  have h4 : ¬ (len : Int) < 4 := by omega
  have hcap : 4 ≤ cap := by have := hI.2.1; omega
  have hcap2 : cap ≤ 9223372036854775807 := hI.2.2.1
  have HH : Hid (IsBytes w.heap.size w p 4 cap (cs.take 4)) := hI.head hlen (by have := hI.2.1; omega) (Nat.le_refl _)
  have hn : wordAt cs 0 < 4294967296 := wordAt_lt cs hI.2.2.2.1 0
  obtain ⟨b, off, rfl⟩ : ∃ b off, p = some ⟨b, off, none⟩ := by
    rcases hI.2.2.2.2 with h | ⟨b, off, h, _⟩
    · omega
    · exact ⟨b, off, h⟩
  clear hI
  have HW : Hid (wordVals (cs.take 4) 1 = [.int .u32 (wordAt cs 0 : Nat)]) := by show _ = _; simp only [wordVals, List.range_one, List.map_cons, List.map_nil, wordAt_take]
  generalize wordAt cs 0 = n at *
  have hq : ((bucketN (n : Int) : Int) == (len : Int)) = decide (bucketN (n : Int) = len) := by
    rw [Bool.eq_iff_iff]; simp; omega
  have e1 : IntKind.i64.wrap (n : Int) = (n : Int) := by rw [IntKind.wrap_i64]; omega
  have HBk : Hid (∀ w, Calls Tryd.prog 35 #[.int .i64 n] w fun e w' => e = .returned (.int .i64 (bucketN n : Nat)) ∧ Below w.heap.size w w') := fun w => bucket_any _ (by omega) _
  generalize bucketN (n : Int) = K at *
  go_enter Tryd.func64, Tryd.ntmps64
  go_wp2_with (first
    | (go_at_call 76; refine (words_any _ 4 cap _ (by decide) _ HH.out).mono ?_; rintro e w1 ⟨v1, rfl, hown1, hb1⟩; rw [show 4 / 4 = 1 from rfl, HW.out] at hown1; obtain ⟨q1, c1, rfl⟩ := slice_of_row hown1; obtain ⟨g1, cur1, rfl, hg1, hr1, ht1⟩ := row_of_own hown1 (by decide); have hc1 : w1.cell? ⟨g1, 0, none⟩ = some (.int .u32 (n : Nat)) := hown1.cellAt 0 (by decide); clear hown1 hr1 ht1)
    | (go_at_call 35; refine (HBk.out _).mono ?_; rintro e w2 ⟨rfl, hb2⟩))
  refine bodyPost_ret (results_tmp2 rfl _ _ _) rfl ?_
  exact ⟨by rw [← hq]; rfl, hb1.trans (hb2.mono hb1.size)⟩

end Go.Proofs.YtobmcaknfbooiaaDoor.Re
/-
  What vec.Equal answers: whether the bytes are alike. Nothing that lay before the call has turned.
-/
namespace Go.Proofs.YtobmcaknfbooiaaDoor.Re
open Go.RowKit

def xorAt (za zb : List Nat) (i : Nat) : Nat := za.getD i 0 ^^^ zb.getD i 0
theorem u8_xor_getD (za zb : List Nat) (hza : ∀ z ∈ za, z < 256) (hzb : ∀ z ∈ zb, z < 256) (i : Nat) : bits .xor .u8 ((za.getD i 0 : Nat) : Int) ((zb.getD i 0 : Nat) : Int) = ((xorAt za zb i : Nat) : Int) :=
  u8_xor_nat _ _ (all_getD (by decide) hza i) (all_getD (by decide) hzb i)

/-- What has come together of the first k bytes that are unlike. -/
def orTo (za zb : List Nat) : Nat → Nat
  | 0 => 0
  | k + 1 => orTo za zb k ||| xorAt za zb k

theorem orTo_lt (za zb : List Nat) (hza : ∀ z ∈ za, z < 256) (hzb : ∀ z ∈ zb, z < 256) : ∀ k, orTo za zb k < 256
  | 0 => by simp [orTo]
  | k + 1 => Nat.or_lt_two_pow (n := 8) (orTo_lt za zb hza hzb k) (Nat.xor_lt_two_pow (n := 8) (all_getD (by decide) hza k) (all_getD (by decide) hzb k))

theorem xor_zero_iff (a b : Nat) : a ^^^ b = 0 ↔ a = b := by
  constructor
  · intro h
    have : (a ^^^ b) ^^^ b = 0 ^^^ b := by rw [h]
    simpa [Nat.xor_assoc] using this
  · rintro rfl; simp

theorem orTo_zero (za zb : List Nat) : ∀ k, orTo za zb k = 0 ↔ ∀ i, i < k → za.getD i 0 = zb.getD i 0
  | 0 => by simp [orTo]
  | k + 1 => by
    rw [orTo, Nat.or_eq_zero_iff, orTo_zero za zb k, xorAt, xor_zero_iff]
    constructor
    · rintro ⟨h1, h2⟩ i hi
      by_cases h : i = k
      · subst h; exact h2
      · exact h1 i (by omega)
    · intro h
      exact ⟨fun i hi => h i (by omega), h k (by omega)⟩

theorem orTo_eq (za zb : List Nat) (h : za.length = zb.length) : (((orTo za zb za.length : Nat) : Int) == 0) = decide (za = zb) := by
  rw [Bool.eq_iff_iff]
  simp only [beq_iff_eq, decide_eq_true_eq]
  rw [show (((orTo za zb za.length : Nat) : Int) = 0 ↔ orTo za zb za.length = 0) by omega, orTo_zero]
  constructor
  · intro H
    apply List.ext_getElem h
    intro i h1 h2
    have := H i h1
    simpa [List.getElem?_eq_getElem h1, List.getElem?_eq_getElem h2] using this
  · rintro rfl i _; rfl

theorem or_step (za zb : List Nat) (hza : ∀ z ∈ za, z < 256) (hzb : ∀ z ∈ zb, z < 256) (k : Nat) : bits .or .u8 ((orTo za zb k : Nat) : Int) ((xorAt za zb k : Nat) : Int) = ((orTo za zb (k + 1) : Nat) : Int) :=
  u8_or_nat _ _ (orTo_lt za zb hza hzb k) (Nat.xor_lt_two_pow (n := 8) (all_getD (by decide) hza k) (all_getD (by decide) hzb k))

set_option maxRecDepth 100000 in
set_option maxHeartbeats 1000000 in
theorem equal_some (ba oa ca bb ob cb la : Nat) (za zb : List Nat) (hzl : za.length = la) (hzl' : zb.length = la) (w : World) (hla : la ≤ 60000) (hba : ba < w.heap.size) (hbb : bb < w.heap.size) (hza : ∀ z ∈ za, z < 256) (hzb : ∀ z ∈ zb, z < 256)
    (hA : ∀ i, i < la → w.cell? ⟨ba, oa + i, none⟩ = some (.int .u8 (za.getD i 0 : Nat))) (hB : ∀ i, i < la → w.cell? ⟨bb, ob + i, none⟩ = some (.int .u8 (zb.getD i 0 : Nat))) :
    Calls Tryd.prog 48 #[.slice (some ⟨ba, oa, none⟩) la ca, .slice (some ⟨bb, ob, none⟩) la cb] w fun e w' => e = .returned (.bool (decide (za = zb))) ∧ Below w.heap.size w w' := by
  have HE : Hid ((((orTo za zb la : Nat) : Int) == 0) = decide (za = zb)) := by
    have := orTo_eq za zb (by omega)
    rwa [hzl] at this
  clear hzl hzl'
  go_enter Tryd.func48, Tryd.ntmps48
  go_wp2
  go_loopw [5, 14] (fun u i wr => ∃ k : Nat, k ≤ la ∧ i = .int .i64 k ∧ u = .int .u8 (orTo za zb k : Nat) ∧ Below w.heap.size w wr)
    (fun _ i _ => la - (intOf i).toNat)
  case atStart => exact ⟨0, Nat.zero_le _, rfl, rfl, Below.refl _ _⟩
  case round =>
    obtain ⟨k, hk, rfl, rfl, hbel⟩ := hrel
    by_cases hlt : k < la
    · have cA := (hbel.cell (p := ⟨ba, oa + k, none⟩) hba).trans (hA k hlt)
      have cB := (hbel.cell (p := ⟨bb, ob + k, none⟩) hbb).trans (hB k hlt)
      have hx := u8_xor_getD za zb hza hzb k
      have ho := or_step za zb hza hzb k
      have i1 : (k : Int) < (la : Int) := by omega
      have HB : Hid (Below w.heap.size w wr) := hbel
      clear hbel hA hB hza hzb
      generalize za.getD k 0 = x at *
      generalize zb.getD k 0 = y at *
      go_wp2
      go_region_held3 (fun w' => w'.cell? ⟨ba, oa + k, none⟩ = some (.int .u8 x) ∧ w'.cell? ⟨bb, ob + k, none⟩ = some (.int .u8 y)) (go_keep) (fail)
      go_wp2
      go_roundw
      case rel => exact ⟨k + 1, by omega, by go_num, rfl, HB.out.drew⟩
      case measure => simp [intOf]; omega
    · obtain rfl : k = la := by omega
      go_wp2
      go_ret
      exact ⟨by rw [← HE.out]; rfl, hbel⟩

set_option maxHeartbeats 1000000 in
theorem equal_unlike (pa pb : Option Addr) (ca cb la lb : Nat) (hne : la ≠ lb) (w : World) :
    Calls Tryd.prog 48 #[.slice pa la ca, .slice pb lb cb] w fun e w' => e = .returned (.bool false) ∧ Below w.heap.size w w' := by
  have hne' : ((la : Int) == (lb : Int)) = false := by simp; omega
  have hne2 : ((la : Int) != (lb : Int)) = true := by simp; omega
  go_enter Tryd.func48, Tryd.ntmps48
  go_wp2
  go_ret
  exact ⟨rfl, Below.refl _ _⟩

set_option maxRecDepth 100000 in
set_option maxHeartbeats 1000000 in
theorem equal_none (pa pb : Option Addr) (ca cb : Nat) (w : World) :
    Calls Tryd.prog 48 #[.slice pa 0 ca, .slice pb 0 cb] w fun e w' => e = .returned (.bool true) ∧ Below w.heap.size w w' := by
  go_enter Tryd.func48, Tryd.ntmps48
  go_wp2
  go_loopw [5, 14] (fun u i wr => u = .int .u8 0 ∧ i = .int .i64 0 ∧ wr = w) (fun _ _ _ => 0)
  case atStart => exact ⟨rfl, rfl, rfl⟩
  case round =>
    obtain ⟨rfl, rfl, rfl⟩ := hrel
    go_wp2
    go_ret
    exact ⟨rfl, Below.refl _ _⟩

/-- vec.Equal -/
theorem equal_any (pa pb : Option Addr) (ca cb la lb : Nat) (za zb : List Nat) (w : World) (hla : la ≤ 60000) (hlb : lb ≤ 60000) (hA : IsBytes w.heap.size w pa la ca za) (hB : IsBytes w.heap.size w pb lb cb zb) :
    Calls Tryd.prog 48 #[.slice pa la ca, .slice pb lb cb] w fun e w' => e = .returned (.bool (decide (za = zb))) ∧ Below w.heap.size w w' := by
  by_cases hl : la = lb
  · subst hl
    obtain ⟨h1, _, _, hza, ha⟩ := hA
    obtain ⟨h2, _, _, hzb, hb⟩ := hB
    by_cases h0 : la = 0
    · subst h0
      obtain rfl := List.length_eq_zero_iff.1 h1
      obtain rfl := List.length_eq_zero_iff.1 h2
      exact equal_none pa pb ca cb w
    · rcases ha with h | ⟨ba, oa, rfl, hba, hca⟩
      · omega
      rcases hb with h | ⟨bb, ob, rfl, hbb, hcb⟩
      · omega
      exact equal_some ba oa ca bb ob cb la za zb h1 h2 w hla hba hbb hza hzb hca hcb
  · have e : decide (za = zb) = false := by
      simp only [decide_eq_false_iff_not]
      rintro rfl
      exact hl (hA.1.symm.trans hB.1)
    rw [e]
    exact equal_unlike pa pb ca cb la lb hl w

end Go.Proofs.YtobmcaknfbooiaaDoor.Re
/-
  pad.Of: the text that bytes are filled up from, in fresh memory, or ErrPad. Nothing that lay before the call has turned.
-/
namespace Go.Proofs.YtobmcaknfbooiaaDoor.Re
open Go.RowKit

/-- The text that these bytes tell. -/
def toldL (cs : List Nat) : List Nat := (cs.drop 4).take (wordAt cs 0)
/-- Whether they are that text, filled up. -/
abbrev IsPad (cs : List Nat) : Prop := 4 ≤ cs.length ∧ wordAt cs 0 + 4 ≤ cs.length ∧ padL (toldL cs) = cs
def textU (cs : List Nat) : List Nat := if IsPad cs then toldL cs else []
def errU (cs : List Nat) : Int := if IsPad cs then 0 else 50

theorem toldL_length {cs : List Nat} (h : wordAt cs 0 + 4 ≤ cs.length) : (toldL cs).length = wordAt cs 0 := by
  simp [toldL]; omega
theorem toldL_lt {cs : List Nat} (h : ∀ z ∈ cs, z < 256) : ∀ z ∈ toldL cs, z < 256 := fun z hz => h z (List.mem_of_mem_drop (List.mem_of_mem_take hz))
theorem IsPad.bucket {cs : List Nat} (h : IsPad cs) (hl : cs.length ≤ 65536) : bucketN (wordAt cs 0) = cs.length := by
  obtain ⟨_, h2, h3⟩ := h
  have h4 := padL_length (zs := toldL cs) (by rw [toldL_length h2]; omega)
  rw [h3, toldL_length h2] at h4
  exact h4.symm
theorem fits_of_bucket {n len : Nat} (h : bucketN n = len) (hl : 4 ≤ len) : n ≤ 65532 ∧ n + 4 ≤ len := by
  by_cases h2 : 65532 < n
  · rw [bucketN_none (.inr (by omega))] at h; omega
  · have := bucketN_pos (z := (n : Int)) (by omega) (by omega)
    omega
theorem textU_pos {cs : List Nat} (h : IsPad cs) : textU cs = toldL cs := if_pos h
theorem textU_neg {cs : List Nat} (h : ¬ IsPad cs) : textU cs = [] := if_neg h
theorem errU_pos {cs : List Nat} (h : IsPad cs) : errU cs = 0 := if_pos h
theorem errU_neg {cs : List Nat} (h : ¬ IsPad cs) : errU cs = 50 := if_neg h

/-- A text filled up is one. -/
theorem isPad_padL {zs : List Nat} (h : zs.length ≤ 65532) : IsPad (padL zs) ∧ toldL (padL zs) = zs := by
  have hw : wordAt (padL zs) 0 = zs.length := by
    unfold padL
    rw [List.append_assoc]
    exact wordAt_lenL _ (by omega) _
  have ht : toldL (padL zs) = zs := by
    unfold toldL
    rw [hw]
    unfold padL
    rw [List.append_assoc, List.drop_append_of_le_length (by simp), List.drop_of_length_le (by simp), List.nil_append, List.take_append_of_le_length (by simp), List.take_of_length_le (by simp)]
  have hp := bucketN_pos (z := (zs.length : Int)) (by omega) (by omega)
  have hl := padL_length h
  exact ⟨⟨by omega, by omega, by rw [ht]⟩, ht⟩

theorem splice_all (ts : List Nat) (n : Nat) (h : ts.length = n) : splice (u8s (List.replicate n 0)) 0 (u8s ts) = u8s ts := by
  simp [splice, u8s, h]

theorem bytes_of_row5 {W : World} {g n : Nat} {zs : List Nat} (hr : Row W g 5 (u8s zs)) (hl : zs.length = n) (hn : n ≤ 9223372036854775807) (hz : ∀ z ∈ zs, z < 256) : IsBytes W.heap.size W (some ⟨g, 0, none⟩) n n zs :=
  ⟨hl, Nat.le_refl _, hn, hz, .inr ⟨g, 0, rfl, hr.lt, fun i hi => by rw [Nat.zero_add]; exact hr.cell (u8s_at (by omega))⟩⟩

set_option maxRecDepth 100000 in
set_option maxHeartbeats 1000000 in
/-- The walk: the text ts of n bytes, filled up pd, is alike with what came in or not (r). -/
theorem of_core (b off len cap n : Nat) (ts pd : List Nat) (r : Bool) (w : World) (h32 : n + 4 ≤ len) (h4 : 4 < len) (hlen : len ≤ 60000) (hcap : len ≤ cap) (hcap2 : cap ≤ 9223372036854775807)
    (HT : Hid (ts.length = n)) (HTz : Hid (∀ z ∈ ts, z < 256))
    (HS : Hid (∀ W, Below w.heap.size w W → ∀ j v, (u8s ts)[j]? = some v → W.cell? ((⟨b, off + 4, none⟩ : Addr).add j) = some v))
    (HLo : Hid (Calls Tryd.prog 64 #[.slice (some ⟨b, off, none⟩) len cap] w fun e w' => e = .returned (.tuple #[.int .i64 (n : Nat), .bool true]) ∧ Below w.heap.size w w'))
    (HPu : Hid (∀ g W, IsBytes W.heap.size W (some ⟨g, 0, none⟩) n n ts → Calls Tryd.prog 41 #[.slice (some ⟨g, 0, none⟩) n n] W fun e w' => ∃ g, e = .returned (.tuple #[.slice (some ⟨g, 0, none⟩) len len, .int .i64 0]) ∧
      Own W.heap.size w' (.slice (some ⟨g, 0, none⟩) len len) pd ∧ Below W.heap.size W w'))
    (HEq : Hid (∀ n₀ g W, Below w.heap.size w W → Own n₀ W (.slice (some ⟨g, 0, none⟩) len len) pd → Calls Tryd.prog 48 #[.slice (some ⟨g, 0, none⟩) len len, .slice (some ⟨b, off, none⟩) len cap] W fun e w' => e = .returned (.bool r) ∧ Below W.heap.size W w')) :
    Calls Tryd.prog 49 #[.slice (some ⟨b, off, none⟩) len cap] w fun e w' => ∃ v, e = .returned (.tuple #[v, .int .i64 (if r then 0 else 50)]) ∧ (r = true → Own w.heap.size w' v ts) ∧ (r = false → v = .slice none 0 0) ∧ Below w.heap.size w w' := by
  obtain ⟨i0, hi, hz0, hz1, hz2⟩ := info_parts info5
  have hc4 : (cap = 4) = False := by simp; omega
  have hc5 : (4 : Int) ≤ (len : Int) := by omega
  cases r
  all_goals
    go_enter Tryd.func49, Tryd.ntmps49
    go_wp2_with (first
      | (go_at_call 64; refine HLo.out.mono ?_; rintro e w1 ⟨rfl, hb1⟩)
      | (at_make; refine wpList_make_full _ rfl _ _ 25 rfl w1.heap.size 5 i0 (.int .u8 0) 1 Tryd.underlying25 hi hz0 hz1 _ _ _ _ n rfl rfl (by omega) (by omega) (by rw [hz2]; omega) (by simp only [maxLen]; omega) (Nat.le_refl _) ?_; intro w2 hown2 hgrow2; rw [made_zeros] at hown2; have HR2 : Hid (Row w2 w1.heap.size 5 (u8s (List.replicate n 0))) := row_of_made hown2; have hb2 : Below w1.heap.size w1 w2 := ((Below.refl _ w1).grown hgrow2 (Nat.le_refl _) (fun k e => by cases e)); clear hown2 hgrow2)
      | ((with_reducible show wpList _ _ _ (Oper.mk (some 21) _ _ _ _ _ :: _) _ _); refine wpList_copy_splice rfl (.tmp 18) (.tmp 20) 25 25 rfl 5 Tryd.underlying25 size5 _ _ _ _ _ _ rfl rfl w1.heap.size 0 (u8s (List.replicate n 0)) 5 HR2.out (u8s ts) (by rw [u8s_length, HT.out]; exact (Nat.min_eq_right (by omega)).symm) (fun _ => ⟨rfl, _, rfl, HS.out _ (hb1.trans (hb2.mono hb1.size))⟩) (by have := HT.out; simp; omega) (u8s_one _) w1.heap.size w1 hb2 (Nat.le_refl _) ?_; intro w3 HG3 hb3; rw [u8s_length, HT.out]; rw [splice_all ts n HT.out] at HG3; have HI3 : Hid (IsBytes w3.heap.size w3 (some ⟨w1.heap.size, 0, none⟩) n n ts) := bytes_of_row5 HG3.out HT.out (by omega) HTz.out)
      | (go_at_call 41; refine (HPu.out _ _ HI3.out).mono ?_; rintro e w4 ⟨g4, rfl, hown4, hb4⟩)
      | (go_at_call 48; refine (HEq.out _ _ _ ((hb1.trans (hb3.mono hb1.size)).trans (hb4.mono (by have := hb1.size; have := hb3.size; omega))) hown4).mono ?_; rintro e w5 ⟨rfl, hb5⟩))
    refine bodyPost_ret (results_tmp2 rfl _ _ _) rfl ?_
    have hbb : Below w.heap.size w w5 := ((hb1.trans (hb3.mono hb1.size)).trans (hb4.mono (by have := hb1.size; have := hb3.size; omega))).trans (hb5.mono (by have := hb1.size; have := hb3.size; have := hb4.size; omega))
  · exact ⟨_, rfl, rfl, hbb⟩
  · refine ⟨_, rfl, ?_, hbb⟩
    have ho := own_of_row (n₀ := w.heap.size) (zs := ts) HG3.out hb1.size (by have := HT.out; omega)
    rw [HT.out] at ho
    exact (ho.later hb4).later hb5

/-- .. of bytes that are as long as they tell. -/
theorem of_some (p : Option Addr) (len cap : Nat) (cs : List Nat) (h4 : 4 ≤ len) (hlen : len ≤ 60000) (hb : bucketN (wordAt cs 0) = len) (w : World) (hI : IsBytes w.heap.size w p len cap cs) :
    Calls Tryd.prog 49 #[.slice p len cap] w fun e w' => ∃ v, e = .returned (.tuple #[v, .int .i64 (errU cs)]) ∧ Str w' v (strOf (textU cs)) ∧ Below w.heap.size w w' := by
  obtain ⟨hn1, hn2⟩ := fits_of_bucket hb h4
  have hcl := hI.1
  have hT : (toldL cs).length = wordAt cs 0 := toldL_length (by omega)
  have hTz : ∀ z ∈ toldL cs, z < 256 := toldL_lt hI.2.2.2.1
  have h32 : 4 < len := by
    have := bucketN_pos (z := (wordAt cs 0 : Int)) (by omega) (by omega)
    omega
  obtain ⟨b, off, rfl, hbb, hcs⟩ : ∃ b off, p = some ⟨b, off, none⟩ ∧ b < w.heap.size ∧ ∀ i, i < len → w.cell? ⟨b, off + i, none⟩ = some (.int .u8 (cs.getD i 0 : Nat)) := by
    rcases hI.2.2.2.2 with h | h
    · omega
    · exact h
  have hp : IsPad cs ↔ padL (toldL cs) = cs := ⟨fun h => h.2.2, fun h => ⟨by omega, by omega, h⟩⟩
  refine (of_core b off len cap (wordAt cs 0) (toldL cs) (padL (toldL cs)) (decide (padL (toldL cs) = cs)) w hn2 h32 hlen hI.2.1 hI.2.2.1 hT hTz ?_ ?_ ?_ ?_).mono ?_
  · intro W hW j v hv
    have hj : j < (toldL cs).length := by
      rcases Nat.lt_or_ge j (toldL cs).length with h | h
      · exact h
      · rw [List.getElem?_eq_none (by simpa using h)] at hv; cases hv
    rw [u8s_at hj] at hv
    cases hv
    have hj' : j < wordAt cs 0 := by rw [← hT]; exact hj
    rw [Addr.add_mid, hW.cell (p := ⟨b, off + 4 + j, none⟩) hbb, show off + 4 + j = off + (4 + j) by omega, hcs (4 + j) (by omega)]
    simp [toldL, hj']
  · have h := lengthOf_some _ len cap cs h4 w hI
    rw [decide_eq_true hb] at h
    exact h
  · intro g W h
    have h := put_some _ _ _ _ hn1 W h
    rw [hb] at h
    exact h
  · intro n₀ g W hW ho
    exact equal_any _ _ _ _ _ _ _ _ W hlen hlen (ho.bytes (padL_lt hTz)) ((hI.below hW).mono hW.size)
  · rintro e w' ⟨v, rfl, h1, h2, hbel⟩
    by_cases he : padL (toldL cs) = cs
    · rw [decide_eq_true he] at h1
      rw [errU_pos (hp.2 he), textU_pos (hp.2 he), decide_eq_true he]
      exact ⟨v, rfl, str_of_row rfl (h1 rfl), hbel⟩
    · rw [decide_eq_false he] at h2
      rw [errU_neg (fun h => he (hp.1 h)), textU_neg (fun h => he (hp.1 h)), decide_eq_false he, h2 rfl]
      exact ⟨_, rfl, str_none _ _ _, hbel⟩

set_option maxHeartbeats 1000000 in
theorem of_none (p : Option Addr) (len cap n : Nat) (w : World) (HLo : Hid (Calls Tryd.prog 64 #[.slice p len cap] w fun e w' => e = .returned (.tuple #[.int .i64 (n : Nat), .bool false]) ∧ Below w.heap.size w w')) :
    Calls Tryd.prog 49 #[.slice p len cap] w fun e w' => e = .returned (.tuple #[.slice none 0 0, .int .i64 50]) ∧ Below w.heap.size w w' := by
  go_enter Tryd.func49, Tryd.ntmps49
  go_wp2_with (go_at_call 64; refine HLo.out.mono ?_; rintro e w1 ⟨rfl, hb1⟩)
  refine bodyPost_ret (results_tmp2 rfl _ _ _) rfl ?_
  exact ⟨rfl, hb1⟩

/-- pad.Of -/
theorem of_any (p : Option Addr) (len cap : Nat) (cs : List Nat) (hlen : len ≤ 60000) (w : World) (hI : IsBytes w.heap.size w p len cap cs) :
    Calls Tryd.prog 49 #[.slice p len cap] w fun e w' => ∃ v, e = .returned (.tuple #[v, .int .i64 (errU cs)]) ∧ Str w' v (strOf (textU cs)) ∧ Below w.heap.size w w' := by
  have hcl := hI.1
  by_cases h4 : 4 ≤ len
  · by_cases hb : bucketN (wordAt cs 0) = len
    · exact of_some p len cap cs h4 hlen hb w hI
    · have hp : ¬ IsPad cs := fun h => hb ((h.bucket (by omega)).trans hcl)
      rw [errU_neg hp, textU_neg hp]
      refine (of_none p len cap (wordAt cs 0) w ?_).mono ?_
      · have h := lengthOf_some _ len cap cs h4 w hI
        rw [decide_eq_false hb] at h
        exact h
      · rintro e w' ⟨rfl, hbel⟩
        exact ⟨_, rfl, str_none _ _ _, hbel⟩
  · have hp : ¬ IsPad cs := fun h => h4 (by have := h.1; omega)
    rw [errU_neg hp, textU_neg hp]
    refine (of_none p len cap 0 w (lengthOf_short p len cap (by omega) w)).mono ?_
    rintro e w' ⟨rfl, hbel⟩
    exact ⟨_, rfl, str_none _ _ _, hbel⟩

end Go.Proofs.YtobmcaknfbooiaaDoor.Re
