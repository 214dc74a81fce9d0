/-
  Several texts in one: Round, Loop, Row, In, Low, Base, Own, Str, Mem, But, Made.
-/
import Derived.RangeFuncNested
import Derived.RangeFuncBound
import Derived.RangeFuncCalls
import Derived.RangeFuncLeaves
import Derived.OrdersIn
import Derived.OwnWalkIn
import Derived.Deep.RegionHeld3
import Derived.Deep.MidRow
import Derived.Deep.WholeRow
import Derived.WalkKit
import Derived.BigQuiet
import Derived.ProofKit
import Derived.Shelf.Abstract
import Derived.Shelf.RegionOpen
import Derived.TacticsInMore
import Derived.LoopNIn
import Derived.LoopIn
import Derived.Laws.CopyOwn
import Derived.Test.YthdfhbbfbohojaaChecked
import Derived.Deep.AppendLies
import Derived.Maps.AppendAt
import Derived.OwnWalk
import Derived.Laws.OwnMore
import Derived.Laws.BytesArg
/-
  Laws of the walk that name no program: a region that draws its order, inside a round of a range over a function under the widest fence, may be walked as such a region is walked outside; and many operations that only read may be taken first at once.
-/
namespace Go.Proofs.Ythdfhbbfbohojaa
open Go Go.RowKit

section
variable {P : Program} {ops : Array Oper} {Q : Exit → Act → World → Prop} {md : Region.Mode} {S : World → Prop}

theorem operIn_of_oper (l n : Nat) {o : Oper} (hd : ∀ c, o.op ≠ .defer c) {a : Act} {w : World} {K : Act → World → Prop} (h : o.wp P a w K Q) :
    o.wpIn (Fence.wide.inRound l) n P a w K Q := by
  unfold Oper.wpIn
  unfold Oper.wp at h
  refine ⟨fun _ _ => trivial, ?_⟩
  rw [Oper.semAt_plain _ _ _ hd]
  generalize (execOp a.eval o).run P w = r at *
  cases r with
  | ok x w' =>
    cases x with
    | value v => exact h
    | skip => exact h
    | defer d => exact h
    | enter f args => exact ⟨fun hh => by simp [Fence.wide] at hh, CallsIn.inRound l (callsIn_wide.2 h)⟩
    | row row args =>
      refine ⟨fun hh => by simp [Fence.wide] at hh, fun c cs _ => ?_⟩
      obtain ⟨v, w'', r, s⟩ := h c cs
      exact ⟨v, w'', r, stepsIn_wide.2 s⟩
    | _ => exact h.elim
  | halt x w' => cases x <;> exact h

/-- No operation of the region defers. -/
def noDefer (ops : Array Oper) : Bool := ops.all fun o => match o.op with | .defer _ => false | _ => true

theorem noDefer_spec (h : noDefer ops = true) {i : Nat} {o : Oper} (hi : ops[i]? = some o) : ∀ c, o.op ≠ .defer c := by
  intro c hc
  have := (Array.all_eq_true'.1 h) o (Array.mem_of_getElem? hi)
  simp [hc] at this

theorem wpOpIn_of_wpOp (l n : Nat) (hd : noDefer ops = true) (hL : ¬ LetsOut Q) {i : Nat} {K : Act → World → Prop} {a : Act} {w : World} (h : wpOp P ops Q i K a w) :
    wpOpIn (Fence.wide.inRound l) n P ops Q i K a w := by
  unfold wpOp at h
  unfold wpOpIn
  cases hi : ops[i]? with
  | none => simpa [hi] using h
  | some o =>
    simp only [hi] at h ⊢
    split at h
    · rename_i hw
      rw [if_pos hw]
      rcases h with h | h
      · exact operIn_of_oper l n (noDefer_spec hd hi) h
      · exact absurd h.2 hL
    · rename_i hw
      rw [if_neg hw]
      exact ⟨fun _ _ => trivial, h⟩

theorem wpAnyIn_of_wpAny (l n : Nat) (hd : noDefer ops = true) (hL : ¬ LetsOut Q) : ∀ (fuel : Nat) (listed : Array Bool) (a : Act) (w : World),
    wpAny P md ops Q fuel listed a w → wpAnyIn (Fence.wide.inRound l) n P md ops Q fuel listed a w
  | 0, _, _, _, h => h
  | fuel + 1, _, _, _, h => ⟨h.1, fun i hi => wpOpIn_of_wpOp l n hd hL (wpOp_mono (fun a' w' h' => wpAnyIn_of_wpAny l n hd hL fuel _ a' w' h') (h.2 i hi))⟩

/-- A region that draws its order, in a round: from the walk outside. -/
theorem wpIn_region_held_round {l n id : Nat} {a : Act} {w : World} (hm : P.follows .mixedOrders = true) (hd : noDefer ops = true) (hL : ¬ LetsOut Q) (hS : S w.drew)
    (h : S w.drew → wpAnyH P .any ops Q S ops.size (Array.replicate ops.size false) a w.drew) : (Code.region id ops true).wpIn (Fence.wide.inRound l) n P Q a w :=
  wpIn_region_any hm (wpAnyIn_of_wpAny l n hd hL _ _ _ _ (wpAny_of_held _ _ _ _ (h hS)))

/-- The operations k, .., k + m - 1 may be taken first, one behind the other. -/
def takesB (md : Region.Mode) (ops : Array Oper) : Nat → Nat → Array Bool → Bool
  | 0, _, _ => true
  | m + 1, k, listed => (Region.ready md ops listed).contains k && Region.free md ops listed k && takesB md ops m (k + 1) (listed.setIfInBounds k true)

def listedFrom : Nat → Nat → Array Bool → Array Bool
  | 0, _, listed => listed
  | m + 1, k, listed => listedFrom m (k + 1) (listed.setIfInBounds k true)

/-- Each operation yields its value in every world that meets S. -/
def wpHeld (P : Program) (ops : Array Oper) (S : World → Prop) (K : Act → Prop) : List Oper → Act → Prop
  | [], a => K a
  | o :: rest, a => ∃ v, YieldsIf P ops S o v a ∧ wpHeld P ops S K rest (a.put o.dst v)

theorem wpHeld_nil {K : Act → Prop} {a : Act} (h : K a) : wpHeld P ops S K [] a := h
theorem wpHeld_step {K : Act → Prop} {a : Act} {o : Oper} {rest : List Oper} {v : Value} (hw : Region.wanted o (yielded ops a.tmps) = true)
    (hy : ∀ w, S w → (execOp a.eval o).run P w = .ok (.value v) w) (h : wpHeld P ops S K rest (a.put o.dst v)) : wpHeld P ops S K (o :: rest) a :=
  ⟨v, .inl ⟨hw, hy⟩, h⟩

theorem wpAnyH_takes (hQ : ∀ c a w d v, Q (.panic c) (Act.put a d v) w → Q (.panic c) a w) (hs : Region.noSelect ops = true) {w : World} (hS : S w) (fuel : Nat) :
    ∀ (l : List Oper) (k : Nat) (listed : Array Bool) (a : Act), (∀ j, j < l.length → l[j]? = ops[k + j]?) → takesB md ops l.length k listed = true →
      wpHeld P ops S (fun a' => wpAnyH P md ops Q S fuel (listedFrom l.length k listed) a' w) l a → wpAnyH P md ops Q S (fuel + l.length) listed a w
  | [], _, _, _, _, _, h => h
  | o :: l, k, listed, a, hl, hB, h => by
    obtain ⟨v, hy, h⟩ := h
    have h0 : ops[k]? = some o := by simpa using (hl 0 (by simp)).symm
    simp only [List.length_cons, takesB, Bool.and_eq_true] at hB
    refine wpAnyH_take h0 hs hB.1.2 hB.1.1 (fun c a w => hQ c a w _ _) hy hS ?_
    exact wpAnyH_takes hQ hs hS fuel l (k + 1) _ _ (fun j hj => by have := hl (j + 1) (by simp; omega); simpa [Nat.add_assoc, Nat.add_comm 1 j] using this) hB.2 h

/-- m operations from number k on, taken first, one behind the other. -/
theorem wpAnyH_takesAt {l : List Oper} (k m fuel : Nat) {N : Nat} {listed : Array Bool} {a : Act} {w : World} (hkm : k + m ≤ l.length) (hN : N = fuel + m) (hQ : ∀ c a w d v, Q (.panic c) (Act.put a d v) w → Q (.panic c) a w)
    (hs : Region.noSelect l.toArray = true) (hB : takesB md l.toArray m k listed = true) (hS : S w)
    (h : wpHeld P l.toArray S (fun a' => wpAnyH P md l.toArray Q S fuel (listedFrom m k listed) a' w) ((l.drop k).take m) a) : wpAnyH P md l.toArray Q S N listed a w := by
  have hl : ((l.drop k).take m).length = m := by simp; omega
  subst hN
  have := wpAnyH_takes (md := md) hQ hs hS fuel ((l.drop k).take m) k listed a (fun j hj => by
    rw [hl] at hj
    simp [hj]) (by rw [hl]; exact hB) (by rw [hl]; exact h)
  rwa [hl] at this

/-- What is asked of the worlds on the way may be more from here on. -/
theorem wpAnyH_more {S' : World → Prop} (hS : ∀ w, S' w → S w) : ∀ (fuel : Nat) (listed : Array Bool) (a : Act) (w : World), wpAnyH P md ops Q S' fuel listed a w → wpAnyH P md ops Q S fuel listed a w
  | 0, _, _, _, h => h
  | fuel + 1, _, _, _, h => ⟨h.1, fun i hi => wpOp_mono (fun a' w' h' => ⟨hS w' h'.1, wpAnyH_more hS fuel _ a' w' h'.2⟩) (h.2 i hi)⟩

/-- Whatever order: operation i alone may come up. -/
theorem wpAnyH_only {i fuel : Nat} {listed : Array Bool} {o : Oper} {a : Act} {w : World} (hr : Region.ready md ops listed = [i]) (ho : ops[i]? = some o)
    (h : ∀ K' : Act → World → Prop, Hid (∀ a w, S w → wpAnyH P md ops Q S fuel (listed.setIfInBounds i true) a w → K' a w) → if Region.wanted o (yielded ops a.tmps) = true then Oper.wp P o a w K' Q else K' (a.put o.dst undef) w) :
    wpAnyH P md ops Q S (fuel + 1) listed a w :=
  wpAnyH_all hr (by simp) (fun j hj => by
    have : j = i := by simpa using hj
    subst this
    exact wpOp_step ho (fun K' hK => h K' (fun a w hS hW => hK a w ⟨hS, hW⟩)))

/-- Whatever order: operation i or operation j may come up. -/
theorem wpAnyH_either {i j fuel : Nat} {listed : Array Bool} {oi oj : Oper} {a : Act} {w : World} (hr : Region.ready md ops listed = [i, j]) (hi : ops[i]? = some oi) (hj : ops[j]? = some oj)
    (h : ∀ K' : Act → World → Prop, Hid (∀ a w, S w → wpAnyH P md ops Q S fuel (listed.setIfInBounds i true) a w → K' a w) → if Region.wanted oi (yielded ops a.tmps) = true then Oper.wp P oi a w K' Q else K' (a.put oi.dst undef) w)
    (h' : ∀ K' : Act → World → Prop, Hid (∀ a w, S w → wpAnyH P md ops Q S fuel (listed.setIfInBounds j true) a w → K' a w) → if Region.wanted oj (yielded ops a.tmps) = true then Oper.wp P oj a w K' Q else K' (a.put oj.dst undef) w) :
    wpAnyH P md ops Q S (fuel + 1) listed a w :=
  wpAnyH_all hr (by simp) (fun x hx => by
    rcases List.mem_cons.1 hx with rfl | hx
    · exact wpOp_step hi (fun K' hK => h K' (fun a w hS hW => hK a w ⟨hS, hW⟩))
    · have : x = j := by simpa using hx
      subst this
      exact wpOp_step hj (fun K' hK => h' K' (fun a w hS hW => hK a w ⟨hS, hW⟩)))

end
end Go.Proofs.Ythdfhbbfbohojaa
/-
  A law of the walk that names no program: a range over a function whose rounds are told something of what they are handed in the very world in which they are handed it (fresh memory, say), and whose iterator may itself range over a function.
-/
namespace Go.Proofs.Ythdfhbbfbohojaa
open Go Go.RowKit

section
variable {F : Fence} {n : Nat} {P : Program}

theorem OwnFrom.mono {β : Type} {B B' : Nat} {I : β → World → Prop} (h : OwnFrom B I) (hB : B ≤ B') : OwnFrom B' I :=
  fun s W W' row hs hg hr => h s W W' row hs hg (fun r e => ⟨Nat.le_trans hB (hr r e).1, (hr r e).2⟩)

theorem OwnFrom.grow {β : Type} {B : Nat} {I : β → World → Prop} (h : OwnFrom B I) {s : β} {W W' : World} (hs : I s W) (hb : Below W.heap.size W W') : I s W' :=
  h s W W' none hs ⟨hb.os, hb.tape, hb.output, hb.size, fun k hk _ => hb.block k hk⟩ (fun r e => by cases e)

/-- Whatever order, inside a fence: operation i alone may come up. -/
theorem wpAnyIn_only {ops : Array Oper} {Q : Exit → Act → World → Prop} {md : Region.Mode} {i fuel : Nat} {listed : Array Bool} {o : Oper} {a : Act} {w : World} (hr : Region.ready md ops listed = [i]) (ho : ops[i]? = some o) (hw : Region.wanted o (yielded ops a.tmps) = true)
    (h : ∀ K' : Act → World → Prop, Hid (∀ a w, wpAnyIn F n P md ops Q fuel (listed.setIfInBounds i true) a w → K' a w) → o.wpIn F n P a w K' Q) : wpAnyIn F n P md ops Q (fuel + 1) listed a w := by
  refine ⟨fun h0 => (by rw [hr] at h0; cases h0), fun j hj => ?_⟩
  rw [hr] at hj
  have e : j = i := by simpa using hj
  subst e
  unfold wpOpIn
  simp only [ho, hw, if_true]
  exact h _ (fun _ _ h => h)

/-- .. operation i or operation j may come up. -/
theorem wpAnyIn_either {ops : Array Oper} {Q : Exit → Act → World → Prop} {md : Region.Mode} {i j fuel : Nat} {listed : Array Bool} {oi oj : Oper} {a : Act} {w : World} (hr : Region.ready md ops listed = [i, j]) (hi : ops[i]? = some oi) (hj : ops[j]? = some oj)
    (hwi : Region.wanted oi (yielded ops a.tmps) = true) (hwj : Region.wanted oj (yielded ops a.tmps) = true)
    (h : ∀ K' : Act → World → Prop, Hid (∀ a w, wpAnyIn F n P md ops Q fuel (listed.setIfInBounds i true) a w → K' a w) → oi.wpIn F n P a w K' Q)
    (h' : ∀ K' : Act → World → Prop, Hid (∀ a w, wpAnyIn F n P md ops Q fuel (listed.setIfInBounds j true) a w → K' a w) → oj.wpIn F n P a w K' Q) : wpAnyIn F n P md ops Q (fuel + 1) listed a w := by
  refine ⟨fun h0 => (by rw [hr] at h0; cases h0), fun x hx => ?_⟩
  rw [hr] at hx
  rcases List.mem_cons.1 hx with rfl | hx
  · unfold wpOpIn
    simp only [hi, hwi, if_true]
    exact h _ (fun _ _ h => h)
  · have e : x = j := by simpa using hx
    subst e
    unfold wpOpIn
    simp only [hj, hwj, if_true]
    exact h' _ (fun _ _ h => h)

theorem keepsFrom_of_below {B : Nat} {W W' : World} (h : Below W.heap.size W W') : KeepsFrom B W W' :=
  ⟨h.size, fun k _ _ hk _ => (h.block k (Array.getElem?_eq_some_iff.1 hk).1).trans hk⟩

theorem boxed_below {W W' : World} {B : Nat} {t : TypeId} {v : Value} (h : Boxed W B t v) (hb : Below W.heap.size W W') : Boxed W' B t v := (hb.block B h.lt).trans h

/-- The iterator, called in world W with the yield of loop l: it hands over, one behind the other, what is Ok where it is handed over; it ends having handed over all, or where a round has said no more. -/
def IterAt {α : Type} (F : Fence) (n : Nat) (P : Program) (g : Nat) (lb : Array Value) (encs : α → Array Value) (Ok : α → World → Prop) (Kp : World → World → Prop) (S Sp : List α → Prop) (N : Nat) (l : Nat) (W : World) : Prop :=
  ∀ (J Jx : List α → World → Prop), OwnFrom W.heap.size J → OwnFrom W.heap.size Jx →
    (∀ pre x W1, J pre W1 → Ok x W1 → pre.length < N → YieldAt F (n - 1) P l (encs x) W1 fun e W' =>
      (e = .returned (.bool true) ∧ J (pre ++ [x]) W' ∧ Kp W1 W') ∨ (e = .returned (.bool false) ∧ Jx (pre ++ [x]) W' ∧ Kp W1 W')) →
    J [] W →
    CallsIn F n P g (#[.func (.yield l) #[] #[]] ++ lb) W fun e W' => (∃ v, e = .returned v) ∧ ((∃ xs, S xs ∧ J xs W') ∨ (∃ pre, Sp pre ∧ Jx pre W'))

/-- How a round may be left. -/
def roundWord {α : Type} (B : Nat) (Kp : World → World → Prop) (I : List α → World → Prop) (Ix : Code → List α → World → Prop) (xs : List α) (W : World) : Exit → Act → World → Prop
  | .normal, _, W' => KeepsFrom B W W' ∧ Kp W W' ∧ I xs W'
  | .ret, _, W' => KeepsFrom B W W' ∧ Kp W W' ∧ Ix .ret xs W'
  | .exit id, _, W' => KeepsFrom B W W' ∧ Kp W W' ∧ Ix (.exit id) xs W'
  | .goto t, _, W' => KeepsFrom B W W' ∧ Kp W W' ∧ Ix (.goto t) xs W'
  | .panic _, _, _ => False
  | .outgrown, _, _ => False

theorem wpIn_rangeFunc_ok {α : Type} {g : Operand} {ps : Array Tmp} {assign body : Code} {Q : Exit → Act → World → Prop} {a : Act} {w : World}
    (hro : F.round = none) (h1 : 1 ≤ n) {gf : Nat} {lb : Array Value} (hg : a.eval g = .func (.func gf) #[] lb) (hFg : F.fn gf) (eg : ∀ args w, (callFunc gf args).run P w = .ok (.enter gf args) w)
    {encs : α → Array Value} {Ok : α → World → Prop} {Kp : World → World → Prop} {S Sp : List α → Prop} {N : Nat}
    (hit : ∀ W, W.heap.size = w.heap.size + 2 → Below w.heap.size w W → IterAt F (n - 1) P gf lb encs Ok Kp S Sp N (w.heap.size + 1) W)
    (hKt : ∀ {A B C : World}, Kp A B → Kp B C → Kp A C) (hKb : ∀ (W : World) (o o' : Obj), W.heap[w.heap.size + 1]? = some o → o.isCells = false → Kp W (W.putObj (w.heap.size + 1) o'))
    (hps : ∀ x, (encs x).size = ps.size)
    (I : List α → World → Prop) (Ix : Code → List α → World → Prop) (hI : OwnFrom w.heap.size I) (hIx : ∀ c, OwnFrom w.heap.size (Ix c)) (hOk : OwnFrom w.heap.size Ok) (h0 : I [] w) (a₁ : α → Act)
    (hassign : ∀ (l : Nat) (x : α) (W : World) (K : Act → World → Prop), K (a₁ x) W →
      assign.wpIn (F.inRound l) (n - 1 - 1) P (Exit.then K (fun _ _ _ => False)) { tmps := (ps.zip (encs x)).foldl (fun t (p, v) => t.setIfInBounds p v) a.tmps, defers := [] } W)
    (hbody : ∀ (l : Nat) (pre : List α) (x : α) (W : World), I pre W → Ok x W → pre.length < N → body.wpIn (F.inRound l) (n - 1 - 1) P (roundWord w.heap.size Kp I Ix (pre ++ [x]) W) (a₁ x) W)
    (hdone : ∀ (D : Nat) (xs : List α) (W : World), w.heap.size ≤ D → S xs → I xs W → W.heap[D]? = some (.deferred (some [])) → Q .normal { a with defers := { target := .collected D, args := #[] } :: a.defers } W)
    (hstop : ∀ (D : Nat) (c : Code) (pre : List α) (W : World), w.heap.size ≤ D → Sp pre → Ix c pre W → W.heap[D]? = some (.deferred (some [])) → c.wpIn F n P Q { a with defers := { target := .collected D, args := #[] } :: a.defers } W) :
    (Code.rangeFunc g ps assign body).wpIn F n P Q a w := by
  refine wpIn_rangeFunc fun fn hfn => ?_
  rw [hro]
  -- the loop's record, by its state and its pending jump
  obtain ⟨rec, hrec⟩ : ∃ rec : LoopState → Option Code → Loop, rec = fun st pe => { state := st, pending := pe, fn, tmps := a.tmps, params := ps, assign, body, defers := w.heap.size } := ⟨_, rfl⟩
  obtain ⟨W1, hW1⟩ : ∃ W1, (w.alloc (.deferred (some []))).alloc (.loop (rec .ready none)) = W1 := ⟨_, rfl⟩
  have hs1 : W1.heap.size = w.heap.size + 2 := by rw [← hW1]; simp
  have hb1 : Below w.heap.size w W1 := by rw [← hW1]; exact ((Below.refl _ w).alloc (Nat.le_refl _) _).alloc (by simp) _
  have hL1 : W1.heap[w.heap.size + 1]? = some (.loop (rec .ready none)) := by
    rw [← hW1]; have := World.alloc_heap_new (w.alloc (.deferred (some []))) (.loop (rec .ready none)); rwa [World.size_alloc] at this
  have hD1 : W1.heap[w.heap.size]? = some (.deferred (some [])) := by
    rw [← hW1]; exact (Below.heap_alloc _ _ _ (by simp)).trans (World.alloc_heap_new w _)
  have hI1 : I [] W1 := OwnFrom.grow hI h0 hb1
  -- what is said of a world between two rounds, of a world behind the last one
  obtain ⟨T, hT⟩ : ∃ T : LoopState → Option Code → World → Prop, T = fun st pe W => W.heap[w.heap.size + 1]? = some (.loop (rec st pe)) ∧ W.heap[w.heap.size]? = some (.deferred (some [])) := ⟨_, rfl⟩
  have hTown : ∀ st pe, OwnFrom W1.heap.size (fun (_ : List α) W => T st pe W) := by
    intro st pe s A B row hs hg' hr
    rw [hT] at hs ⊢
    have hl := (Array.getElem?_eq_some_iff.1 hs.1).1
    have hd := (Array.getElem?_eq_some_iff.1 hs.2).1
    exact ⟨(hg'.block _ hl (fun e => by have := (hr _ e.symm).1; omega)).trans hs.1, (hg'.block _ hd (fun e => by have := (hr _ e.symm).1; omega)).trans hs.2⟩
  refine ⟨w.heap.size + 1, [{ target := .collected w.heap.size, args := #[] }], W1, { target := .fn (.func gf) lb, args := #[.func (.yield (w.heap.size + 1)) #[] #[]] }, W1, gf,
    #[.func (.yield (w.heap.size + 1)) #[] #[]] ++ lb, W1, ?_, ?_, ?_, ?_, fun _ => h1, ?_⟩
  · rw [← hW1, hrec]; exact run_enterLoop_outer _ _ _ _ _
  · simp only [resolve, hg]
    simp [go_sem]
  · intro f' hf'
    simp [Target.leads] at hf'
    subst hf'
    exact hFg
  · simp [invoke, go_sem, eg]
  · refine (hit W1 hs1 hb1 (fun pre W => I pre W ∧ T .ready none W) (fun pre W => ∃ c, Ix c pre W ∧ T .done (some c) W)
      (OwnFrom.and (OwnFrom.mono hI (by omega)) (hTown _ _))
      (fun s A B row ⟨c, hc, ht⟩ hg' hr => ⟨c, OwnFrom.mono (hIx c) (by omega) s A B row hc hg' hr, hTown _ _ s A B row ht hg' hr⟩) ?_ ⟨hI1, by rw [hT]; exact ⟨hL1, hD1⟩⟩).mono ?_
    · rintro pre x W ⟨hi, ht⟩ hok hN
      rw [hT] at ht
      obtain ⟨hl, hd⟩ := ht
      have hlt : w.heap.size + 1 < W.heap.size := (Array.getElem?_eq_some_iff.1 hl).1
      have hy := run_yield (P := P) (args := encs x) hl (by rw [hrec]; exact hps x)
      rw [hrec] at hy
      refine ⟨fn, _, assign, body, hy, roundIn_of_wpIn hfn (hassign _ x W _ ⟨_, run_beginRound hl (by rw [hrec]), ?_⟩)⟩
      -- the world in which the body begins
      obtain ⟨W2, hW2⟩ : ∃ W2, W.putObj (w.heap.size + 1) (.loop { rec .ready none with state := .busy }) = W2 := ⟨_, rfl⟩
      rw [hW2]
      have hl2 : W2.heap[w.heap.size + 1]? = some (.loop { rec .ready none with state := .busy }) := by rw [← hW2]; exact World.putObj_heap_same hlt
      have hd2 : W2.heap[w.heap.size]? = some (.deferred (some [])) := by rw [← hW2]; exact (World.putObj_heap_other (by omega)).trans hd
      have hk2 : Kp W W2 := by rw [← hW2]; exact hKb _ _ _ hl rfl
      have hi2 : I pre W2 := by rw [← hW2]; exact hI.putObj _ hi (by omega) hl rfl
      have ho2 : Ok x W2 := by rw [← hW2]; exact OwnFrom.putObj hOk _ hok (by omega) hl rfl
      -- whatever way the body is left
      have fin : ∀ (jump : Option Code) (W3 : World), KeepsFrom w.heap.size W2 W3 → Kp W2 W3 →
          ∃ W4, (Instr.endRound (w.heap.size + 1) jump).run P W3 = .ok (.bool jump.isNone) W4 ∧ T (if jump.isNone then .ready else .done) jump W4 ∧ Kp W W4 ∧ (I (pre ++ [x]) W3 → I (pre ++ [x]) W4) ∧ (∀ c, Ix c (pre ++ [x]) W3 → Ix c (pre ++ [x]) W4) := by
        intro jump W3 hk3 hkp
        have hl3 := hk3.same _ _ (by omega) hl2 rfl
        have hd3 := hk3.same _ _ (Nat.le_refl _) hd2 rfl
        refine ⟨_, run_endRound (P := P) jump hl3, ?_, hKt (hKt hk2 hkp) (hKb _ _ _ hl3 rfl), fun h => hI.putObj _ h (by omega) hl3 rfl, fun c h => (hIx c).putObj _ h (by omega) hl3 rfl⟩
        rw [hT, hrec]
        exact ⟨World.putObj_heap_same (Array.getElem?_eq_some_iff.1 hl3).1, (World.putObj_heap_other (by omega)).trans hd3⟩
      refine wpIn_mono (hbody _ pre x W2 hi2 ho2 hN) ?_
      rintro e a3 W3 hp
      cases e with
      | normal =>
        obtain ⟨W4, hr, ht, hk, hi4, _⟩ := fin none W3 hp.1 hp.2.1
        exact ⟨_, _, hr, .inl ⟨rfl, ⟨hi4 hp.2.2, ht⟩, hk⟩⟩
      | ret =>
        obtain ⟨W4, hr, ht, hk, _, hx4⟩ := fin (some .ret) W3 hp.1 hp.2.1
        exact ⟨_, _, hr, .inr ⟨rfl, ⟨_, hx4 _ hp.2.2, ht⟩, hk⟩⟩
      | exit id =>
        obtain ⟨W4, hr, ht, hk, _, hx4⟩ := fin (some (.exit id)) W3 hp.1 hp.2.1
        exact ⟨_, _, hr, .inr ⟨rfl, ⟨_, hx4 _ hp.2.2, ht⟩, hk⟩⟩
      | goto t =>
        obtain ⟨W4, hr, ht, hk, _, hx4⟩ := fin (some (.goto t)) W3 hp.1 hp.2.1
        exact ⟨_, _, hr, .inr ⟨rfl, ⟨_, hx4 _ hp.2.2, ht⟩, hk⟩⟩
      | panic ch => exact hp.elim
      | outgrown => exact hp.elim
    · rintro e W2 ⟨⟨v, rfl⟩, (⟨xs, hS, hi, ht⟩ | ⟨pre, hSp, c, hi, ht⟩)⟩
      · rw [hT] at ht
        have hr := run_endLoop (P := P) ht.1 (by rw [hrec]; simp)
        rw [hrec] at hr
        exact ⟨none, _, hr, hdone _ xs _ (Nat.le_refl _) hS (hI.putObj _ hi (by omega) ht.1 rfl) ((World.putObj_heap_other (by omega)).trans ht.2)⟩
      · rw [hT] at ht
        have hr := run_endLoop (P := P) ht.1 (by rw [hrec]; simp)
        rw [hrec] at hr
        exact ⟨some c, _, hr, hstop _ c pre _ (Nat.le_refl _) hSp ((hIx c).putObj _ hi (by omega) ht.1 rfl) ((World.putObj_heap_other (by omega)).trans ht.2)⟩

end
end Go.Proofs.Ythdfhbbfbohojaa
/-
  Laws that name no program: a block that holds just these cells; what a load, a store of one cell, a new block, a draw make of it; and a list that is filled up.
-/
namespace Go.Proofs.Ythdfhbbfbohojaa
open Go Go.RowKit

/-- Block b holds just the cells c. -/
def Row (W : World) (b : Nat) (t : TypeId) (c : List Value) : Prop := W.heap[b]? = some (.cells c.toArray t (0, 0))

theorem Row.lt {W : World} {b : Nat} {t : TypeId} {c : List Value} (h : Row W b t c) : b < W.heap.size := (Array.getElem?_eq_some_iff.1 h).1
theorem Row.new (W : World) (t : TypeId) (c : Array Value) : Row (W.alloc (.cells c t)) W.heap.size t c.toList := by
  unfold Row; rw [Array.toArray_toList]; exact heap_alloc_last W _
theorem Row.new' (W : World) (t : TypeId) (c : List Value) : Row (W.alloc (.cells c.toArray t)) W.heap.size t c := heap_alloc_last W _
theorem Row.below {W W' : World} {n b : Nat} {t : TypeId} {c : List Value} (h : Row W b t c) (hb : Below n W W') (hn : b < n) : Row W' b t c := (hb.block b hn).trans h
theorem Row.later {W W' : World} {b : Nat} {t : TypeId} {c : List Value} (h : Row W b t c) (hb : Below W.heap.size W W') : Row W' b t c := h.below hb h.lt
theorem Row.alloc {W : World} {b : Nat} {t : TypeId} {c : List Value} (h : Row W b t c) (o : Obj) : Row (W.alloc o) b t c := (Below.heap_alloc W o b h.lt).trans h
theorem Row.drew {W : World} {b : Nat} {t : TypeId} {c : List Value} (h : Row W b t c) : Row W.drew b t c := h
theorem Row.drewN {W : World} {b : Nat} {t : TypeId} {c : List Value} (h : Row W b t c) (n : Nat) : Row (W.drewN n) b t c := h
theorem Row.cell {W : World} {b : Nat} {t : TypeId} {c : List Value} (h : Row W b t c) {i : Nat} {v : Value} (hi : c[i]? = some v) : W.cell? ⟨b, i, none⟩ = some v := by
  rw [cell_of_row W b i _ t (0, 0) h]; simpa using hi
theorem Row.range {W : World} {b : Nat} {t : TypeId} {c : List Value} (h : Row W b t c) : W.rangeAt b 0 c := fun j v hv => by rw [Nat.zero_add]; exact h.cell hv
theorem Row.frozen {W : World} {b : Nat} {t : TypeId} {c : List Value} (h : Row W b t c) (i : Nat) : W.frozen? ⟨b, i, none⟩ = false := by
  unfold Row at h
  simp [World.frozen?, h]
theorem Row.there {W : World} {b : Nat} {t : TypeId} {c : List Value} (h : Row W b t c) : W.there b 0 c.length := fun j hj => by
  rw [Nat.zero_add]; exact ⟨by rw [h.cell (List.getElem?_eq_getElem hj)]; rfl, h.frozen j⟩

theorem Row.set {W : World} {b : Nat} {t : TypeId} {c : List Value} (h : Row W b t c) (i : Nat) (v : Value) : Row (W.setCell ⟨b, i, none⟩ v) b t (c.set i v) := by
  unfold Row
  rw [heap_setCell_same W b i _ t v h]
  simp
theorem Row.other {W : World} {b : Nat} {t : TypeId} {c : List Value} (h : Row W b t c) {a : Addr} (ha : b ≠ a.block) (v : Value) : Row (W.setCell a v) b t c := (heap_setCell_other W a b v ha).trans h

/-- The cells c with vs from place o on. -/
def putAt (c : List Value) : Nat → List Value → List Value
  | _, [] => c
  | o, v :: r => putAt (c.set o v) (o + 1) r

theorem putAt_eq : ∀ (vs c : List Value) (o : Nat), o + vs.length ≤ c.length → putAt c o vs = c.take o ++ vs ++ c.drop (o + vs.length)
  | [], c, o, _ => by simp [putAt]
  | v :: r, c, o, h => by
    simp only [List.length_cons] at h
    rw [putAt, putAt_eq r _ _ (by simp; omega)]
    apply List.ext_getElem?
    intro i
    simp only [List.length_cons, List.getElem?_append, List.length_take, List.length_append, List.length_set, List.getElem?_drop, List.getElem?_take, List.getElem?_set, List.getElem?_cons]
    have e1 : min (o + 1) c.length = o + 1 := by omega
    have e2 : min o c.length = o := by omega
    rw [e1, e2]
    by_cases h1 : i < o
    · simp [h1, show i < o + 1 by omega, show i < o + 1 + r.length by omega, show i < o + (r.length + 1) by omega, show ¬ o = i by omega]
    · by_cases h2 : i = o
      · subst h2; simp [show i < c.length by omega, show i < i + 1 + r.length by omega]
      · by_cases h3 : i < o + (r.length + 1)
        · simp [h1, show ¬ i < o + 1 by omega, show i < o + 1 + r.length by omega, h3, show ¬ i - o = 0 by omega, show i - (o + 1) = i - o - 1 by omega]
        · simp [show ¬ i < o + 1 + r.length by omega, h3, show o + 1 + r.length + (i - (o + 1 + r.length)) = o + (r.length + 1) + (i - (o + (r.length + 1))) by omega]; omega

theorem putAt_all (c vs : List Value) (h : vs.length = c.length) : putAt c 0 vs = vs := by
  rw [putAt_eq vs c 0 (by omega)]; simp [h]

theorem Row.sets {t : TypeId} {b : Nat} : ∀ (vs : List Value) (o : Nat) {W : World} {c : List Value}, Row W b t c → Row (W.setCells b o vs) b t (putAt c o vs)
  | [], _, _, _, h => h
  | v :: r, o, _, _, h => Row.sets r (o + 1) (h.set o v)
theorem Row.others {t : TypeId} {b b' : Nat} (hb : b' ≠ b) : ∀ (vs : List Value) (o : Nat) {W : World} {c : List Value}, Row W b' t c → Row (W.setCells b o vs) b' t c
  | [], _, _, _, h => h
  | v :: r, o, _, _, h => Row.others hb r (o + 1) (h.other (a := ⟨b, o, none⟩) hb v)
theorem below_setCells {B b : Nat} {a : World} (hb : B ≤ b) : ∀ (vs : List Value) (o : Nat) {w : World}, Below B a w → Below B a (w.setCells b o vs)
  | [], _, _, h => h
  | v :: r, o, _, h => below_setCells hb r (o + 1) (h.setCell (p := ⟨b, o, none⟩) hb v)
theorem below_drewN {B : Nat} {a w : World} (h : Below B a w) (n : Nat) : Below B a (w.drewN n) := ⟨h.os, h.tape, h.output, h.size, h.block⟩
theorem size_setCells {b : Nat} : ∀ (vs : List Value) (o : Nat) (w : World), (w.setCells b o vs).heap.size = w.heap.size
  | [], _, _ => rfl
  | _ :: r, o, _ => (size_setCells r (o + 1) _).trans (World.size_setCell _ _ _)

/-- A list, filled up to N with z. -/
def fill (N : Nat) (z : Value) (vs : List Value) : List Value := vs ++ List.replicate (N - vs.length) z
theorem fill_length (N : Nat) (z : Value) (vs : List Value) (h : vs.length ≤ N) : (fill N z vs).length = N := by simp [fill]; omega
theorem fill_nil (N : Nat) (z : Value) : fill N z [] = List.replicate N z := by simp [fill]
theorem fill_full (N : Nat) (z : Value) (vs : List Value) (h : vs.length = N) : fill N z vs = vs := by simp [fill, h]
theorem fill_at (N : Nat) (z : Value) (vs : List Value) {i : Nat} (h : i < vs.length) : (fill N z vs)[i]? = vs[i]? := by simp [fill, List.getElem?_append_left h]
theorem fill_rest (N : Nat) (z : Value) (vs : List Value) {i : Nat} (h : vs.length ≤ i) (hi : i < N) : (fill N z vs)[i]? = some z := by
  rw [fill, List.getElem?_append_right h, List.getElem?_replicate, if_pos (by omega)]
theorem fill_set (N : Nat) (z v : Value) (vs : List Value) {i : Nat} (hi : vs.length = i) (h : i < N) : (fill N z vs).set i v = fill N z (vs ++ [v]) := by
  subst hi
  simp only [fill, List.set_append, Nat.lt_irrefl, if_false, Nat.sub_self, List.append_assoc, List.length_append, List.length_singleton]
  rw [show N - vs.length = (N - (vs.length + 1)) + 1 by omega, List.replicate_succ]
  simp

/-- Numbers as cells. -/
def u32s (l : List Nat) : List Value := l.map fun z => .int .u32 (z : Nat)
def u8s (l : List Nat) : List Value := l.map fun z => .int .u8 (z : Nat)
theorem u32s_at {l : List Nat} {i : Nat} (h : i < l.length) : (u32s l)[i]? = some (.int .u32 (l.getD i 0 : Nat)) := by simp [u32s, List.getElem?_eq_getElem h]
theorem u8s_at {l : List Nat} {i : Nat} (h : i < l.length) : (u8s l)[i]? = some (.int .u8 (l.getD i 0 : Nat)) := by simp [u8s, List.getElem?_eq_getElem h]
@[simp] theorem u32s_length (l : List Nat) : (u32s l).length = l.length := by simp [u32s]
@[simp] theorem u8s_length (l : List Nat) : (u8s l).length = l.length := by simp [u8s]
theorem u32s_snoc (l : List Nat) (x : Nat) : u32s l ++ [.int .u32 (x : Nat)] = u32s (l ++ [x]) := by simp [u32s]
theorem u8s_snoc (l : List Nat) (x : Nat) : u8s l ++ [.int .u8 (x : Nat)] = u8s (l ++ [x]) := by simp [u8s]
theorem u32s_one (l : List Nat) : ∀ v ∈ u32s l, v.oneCell' = true := by simp [u32s, Value.oneCell']
theorem u8s_one (l : List Nat) : ∀ v ∈ u8s l, v.oneCell' = true := by simp [u8s, Value.oneCell']

/-- A whole row, read and written by a plain region; a result that lies in a row. -/
theorem wpList_load_Row {P : Program} {ops : Array Oper} {rest : List Oper} {o : Oper} {a : Act} {w : World} {Q : Exit → Act → World → Prop} (hgd : o.guard = none) (ty : TypeId) (x : Operand) (ho : o.op = .load ty x)
    {g : Nat} (hx : a.eval x = .pointer (some ⟨g, 0, none⟩)) {t : TypeId} {cs : List Value} (hg : Row w g t cs) {n : Nat} {e : TypeId} (hu : P.underlying ty = some (.array n e)) (hi : (P.info? ty).map (·.size) = some cs.length)
    (h : wpList P ops Q rest (a.put o.dst (.agg cs.toArray)) w) : wpList P ops Q (o :: rest) a w :=
  wpList_load_mid hgd ty x ho g 0 hx cs _ hg.range hu rfl hi h
theorem wpList_store_Row {P : Program} {ops : Array Oper} {rest : List Oper} {o : Oper} {a : Act} {w : World} {Q : Exit → Act → World → Prop} (hgd : o.guard = none) (ty : TypeId) (x y : Operand) (ho : o.op = .store ty x y)
    {g : Nat} (vs : List Value) (hx : a.eval x = .pointer (some ⟨g, 0, none⟩)) (hy : a.eval y = .agg vs.toArray) {t : TypeId} {cs : List Value} (hg : Row w g t cs) (hi : (P.info? ty).map (·.size) = some vs.length) (hl : vs.length = cs.length) (h1 : ∀ v ∈ vs, v.oneCell' = true)
    (h : wpList P ops Q rest (a.put o.dst undef) (w.setCells g 0 vs)) : wpList P ops Q (o :: rest) a w :=
  wpList_store_mid hgd ty x y ho g 0 vs.toArray hx hy (by simpa [hl] using hg.there) (by simpa using hi) (all_oneCell_toArray h1) h
theorem Row.sets_all {W : World} {b : Nat} {t : TypeId} {c vs : List Value} (h : Row W b t c) (hl : vs.length = c.length) : Row (W.setCells b 0 vs) b t vs := by
  have := Row.sets vs 0 h
  rwa [putAt_all c vs hl] at this
theorem results_Row {P : Program} {fn : Func} {p : Tmp} {ty : TypeId} (h : fn.results = #[.cell p ty]) {tmps : Array Value} {w : World} {g : Nat} {t : TypeId} {cs : List Value} (hp : tmps.getD p undef = .pointer (some ⟨g, 0, none⟩)) (hg : Row w g t cs)
    {n : Nat} {e : TypeId} (hu : P.underlying ty = some (.array n e)) (hi : (P.info? ty).map (·.size) = some cs.length) : (results fn tmps).run P w = .ok (.agg cs.toArray) w :=
  results_cell_row h tmps w g t cs.toArray (0, 0) _ hp hg hu rfl (by simpa using hi)

/-- Rows of noughts, written out. -/
theorem z64u32 : #[Value.int .u32 0, Value.int .u32 0, Value.int .u32 0, Value.int .u32 0, Value.int .u32 0, Value.int .u32 0, Value.int .u32 0, Value.int .u32 0, Value.int .u32 0, Value.int .u32 0, Value.int .u32 0, Value.int .u32 0, Value.int .u32 0, Value.int .u32 0, Value.int .u32 0, Value.int .u32 0, Value.int .u32 0, Value.int .u32 0, Value.int .u32 0, Value.int .u32 0, Value.int .u32 0, Value.int .u32 0, Value.int .u32 0, Value.int .u32 0, Value.int .u32 0, Value.int .u32 0, Value.int .u32 0, Value.int .u32 0, Value.int .u32 0, Value.int .u32 0, Value.int .u32 0, Value.int .u32 0, Value.int .u32 0, Value.int .u32 0, Value.int .u32 0, Value.int .u32 0, Value.int .u32 0, Value.int .u32 0, Value.int .u32 0, Value.int .u32 0, Value.int .u32 0, Value.int .u32 0, Value.int .u32 0, Value.int .u32 0, Value.int .u32 0, Value.int .u32 0, Value.int .u32 0, Value.int .u32 0, Value.int .u32 0, Value.int .u32 0, Value.int .u32 0, Value.int .u32 0, Value.int .u32 0, Value.int .u32 0, Value.int .u32 0, Value.int .u32 0, Value.int .u32 0, Value.int .u32 0, Value.int .u32 0, Value.int .u32 0, Value.int .u32 0, Value.int .u32 0, Value.int .u32 0, Value.int .u32 0] = (List.replicate 64 (Value.int .u32 0)).toArray := rfl
theorem z64u8 : #[Value.int .u8 0, Value.int .u8 0, Value.int .u8 0, Value.int .u8 0, Value.int .u8 0, Value.int .u8 0, Value.int .u8 0, Value.int .u8 0, Value.int .u8 0, Value.int .u8 0, Value.int .u8 0, Value.int .u8 0, Value.int .u8 0, Value.int .u8 0, Value.int .u8 0, Value.int .u8 0, Value.int .u8 0, Value.int .u8 0, Value.int .u8 0, Value.int .u8 0, Value.int .u8 0, Value.int .u8 0, Value.int .u8 0, Value.int .u8 0, Value.int .u8 0, Value.int .u8 0, Value.int .u8 0, Value.int .u8 0, Value.int .u8 0, Value.int .u8 0, Value.int .u8 0, Value.int .u8 0, Value.int .u8 0, Value.int .u8 0, Value.int .u8 0, Value.int .u8 0, Value.int .u8 0, Value.int .u8 0, Value.int .u8 0, Value.int .u8 0, Value.int .u8 0, Value.int .u8 0, Value.int .u8 0, Value.int .u8 0, Value.int .u8 0, Value.int .u8 0, Value.int .u8 0, Value.int .u8 0, Value.int .u8 0, Value.int .u8 0, Value.int .u8 0, Value.int .u8 0, Value.int .u8 0, Value.int .u8 0, Value.int .u8 0, Value.int .u8 0, Value.int .u8 0, Value.int .u8 0, Value.int .u8 0, Value.int .u8 0, Value.int .u8 0, Value.int .u8 0, Value.int .u8 0, Value.int .u8 0] = (List.replicate 64 (Value.int .u8 0)).toArray := rfl
theorem z32u8 : #[Value.int .u8 0, Value.int .u8 0, Value.int .u8 0, Value.int .u8 0, Value.int .u8 0, Value.int .u8 0, Value.int .u8 0, Value.int .u8 0, Value.int .u8 0, Value.int .u8 0, Value.int .u8 0, Value.int .u8 0, Value.int .u8 0, Value.int .u8 0, Value.int .u8 0, Value.int .u8 0, Value.int .u8 0, Value.int .u8 0, Value.int .u8 0, Value.int .u8 0, Value.int .u8 0, Value.int .u8 0, Value.int .u8 0, Value.int .u8 0, Value.int .u8 0, Value.int .u8 0, Value.int .u8 0, Value.int .u8 0, Value.int .u8 0, Value.int .u8 0, Value.int .u8 0, Value.int .u8 0] = (List.replicate 32 (Value.int .u8 0)).toArray := rfl
theorem z8u32 : #[Value.int .u32 0, Value.int .u32 0, Value.int .u32 0, Value.int .u32 0, Value.int .u32 0, Value.int .u32 0, Value.int .u32 0, Value.int .u32 0] = (List.replicate 8 (Value.int .u32 0)).toArray := rfl
end Go.Proofs.Ythdfhbbfbohojaa
/-
  Laws that name no program: whole rows, read and written inside a fence; a region that draws its order in a function under the widest fence; what the rounds of a loop keep.
-/
namespace Go.Proofs.Ythdfhbbfbohojaa
open Go Go.RowKit

section
variable {F : Fence} {n : Nat} {P : Program} {ops : Array Oper} {rest : List Oper} {o : Oper} {a : Act} {w : World} {Q : Exit → Act → World → Prop} {md : Region.Mode} {S : World → Prop}

theorem wpListIn_load_Row (hgd : o.guard = none) (ty : TypeId) (x : Operand) (ho : o.op = .load ty x)
    {g : Nat} (hx : a.eval x = .pointer (some ⟨g, 0, none⟩)) {t : TypeId} {cs : List Value} (hg : Row w g t cs) {m : Nat} {e : TypeId} (hu : P.underlying ty = some (.array m e)) (hi : (P.info? ty).map (·.size) = some cs.length)
    (h : wpListIn F n P ops Q rest (a.put o.dst (.agg cs.toArray)) w) : wpListIn F n P ops Q (o :: rest) a w := by
  refine wpListIn_plain hgd fun K hK => ?_
  unfold Oper.wpIn
  refine ⟨by simp [Oper.about, ho], ?_⟩
  rw [Oper.semAt_plain F _ _ (by rw [ho]; intro c hc; cases hc)]
  simp only [execOp, ho, hx, Instr.loadAt, Instr.sureAddr, Sem.run_bind, Sem.run_pure, Result.andThen_ok, run_loadVar_mid w g 0 ty cs _ hg.range hu rfl hi]
  exact hK _ _ h

theorem wpListIn_store_Row (hgd : o.guard = none) (ty : TypeId) (x y : Operand) (ho : o.op = .store ty x y)
    {g : Nat} (vs : List Value) (hx : a.eval x = .pointer (some ⟨g, 0, none⟩)) (hy : a.eval y = .agg vs.toArray) {t : TypeId} {cs : List Value} (hg : Row w g t cs) (hi : (P.info? ty).map (·.size) = some vs.length) (hl : vs.length = cs.length) (h1 : ∀ v ∈ vs, v.oneCell' = true)
    (h : wpListIn F n P ops Q rest (a.put o.dst undef) (w.setCells g 0 vs)) : wpListIn F n P ops Q (o :: rest) a w := by
  refine wpListIn_plain hgd fun K hK => ?_
  unfold Oper.wpIn
  refine ⟨by simp [Oper.about, ho], ?_⟩
  rw [Oper.semAt_plain F _ _ (by rw [ho]; intro c hc; cases hc)]
  simp only [execOp, ho, hx, hy, Instr.storeAt, Instr.sureAddr, Sem.run_bind, Sem.run_pure, Result.andThen_ok, run_storeVar_mid w g 0 ty vs.toArray (by simpa [hl] using hg.there) (by simpa using hi) (all_oneCell_toArray h1)]
  exact hK _ _ h

theorem operIn_wide (m : Nat) (hd : ∀ c, o.op ≠ .defer c) {K : Act → World → Prop} (h : o.wp P a w K Q) : o.wpIn Fence.wide m P a w K Q := by
  unfold Oper.wpIn
  unfold Oper.wp at h
  refine ⟨fun _ _ => trivial, ?_⟩
  rw [Oper.semAt_plain _ _ _ hd]
  generalize (execOp a.eval o).run P w = r at *
  cases r with
  | ok x w' =>
    cases x with
    | value v => exact h
    | skip => exact h
    | defer d => exact h
    | enter f args => exact ⟨fun hh => by simp [Fence.wide] at hh, callsIn_wide.2 h⟩
    | row row args =>
      refine ⟨fun hh => by simp [Fence.wide] at hh, fun c cs _ => ?_⟩
      obtain ⟨v, w'', r, s⟩ := h c cs
      exact ⟨v, w'', r, stepsIn_wide.2 s⟩
    | _ => exact h.elim
  | halt x w' => cases x <;> exact h

theorem wpAnyIn_wide (m : Nat) (hd : noDefer ops = true) (hL : ¬ LetsOut Q) : ∀ (fuel : Nat) (listed : Array Bool) (a : Act) (w : World),
    wpAny P md ops Q fuel listed a w → wpAnyIn Fence.wide m P md ops Q fuel listed a w
  | 0, _, _, _, h => h
  | fuel + 1, _, _, _, h => ⟨h.1, fun i hi => by
    have h' := wpOp_mono (fun a' w' h' => wpAnyIn_wide m hd hL fuel _ a' w' h') (h.2 i hi)
    unfold wpOp at h'
    unfold wpOpIn
    cases hi' : ops[i]? with
    | none => simpa [hi'] using h'
    | some o =>
      simp only [hi'] at h' ⊢
      split at h'
      · rename_i hw
        rw [if_pos hw]
        rcases h' with h' | h'
        · exact operIn_wide m (noDefer_spec hd hi') h'
        · exact absurd h'.2 hL
      · rename_i hw
        rw [if_neg hw]
        exact ⟨fun _ _ => trivial, h'⟩⟩

/-- A region that draws its order, in a function under the widest fence: from the walk outside. -/
theorem wpIn_region_held_wide {m id : Nat} (hm : P.follows .mixedOrders = true) (hd : noDefer ops = true) (hL : ¬ LetsOut Q) (hS : S w.drew)
    (h : S w.drew → wpAnyH P .any ops Q S ops.size (Array.replicate ops.size false) a w.drew) : (Code.region id ops true).wpIn Fence.wide m P Q a w :=
  wpIn_region_any hm (wpAnyIn_wide m hd hL _ _ _ _ (wpAny_of_held _ _ _ _ (h hS)))

/-- Q where it goes on, nothing else. -/
def OnOnly (Q : Exit → Act → World → Prop) : Exit → Act → World → Prop
  | .normal, a, w => Q .normal a w
  | _, _, _ => False
theorem OnOnly.imp : ∀ (e : Exit) (a : Act) (w : World), OnOnly Q e a w → Q e a w := fun e a w h => by
  cases e <;> first | exact h | exact (h : False).elim
theorem OnOnly.on (h : Q .normal a w) : OnOnly Q .normal a w := h
theorem OnOnly.not_out : ¬ LetsOut (OnOnly Q) := fun ⟨_, _, h⟩ => h

/-- The same; what stands behind the region is asked where it goes on, and nothing else is let be. -/
theorem wpIn_region_on_wide {m id : Nat} (hm : P.follows .mixedOrders = true) (hd : noDefer ops = true) (hS : S w.drew)
    (h : S w.drew → wpAnyH P .any ops (OnOnly Q) S ops.size (Array.replicate ops.size false) a w.drew) : (Code.region id ops true).wpIn Fence.wide m P Q a w :=
  wpIn_mono (wpIn_region_held_wide hm hd OnOnly.not_out hS h) OnOnly.imp
theorem wpIn_region_on_round {l m id : Nat} (hm : P.follows .mixedOrders = true) (hd : noDefer ops = true) (hS : S w.drew)
    (h : S w.drew → wpAnyH P .any ops (OnOnly Q) S ops.size (Array.replicate ops.size false) a w.drew) : (Code.region id ops true).wpIn (Fence.wide.inRound l) m P Q a w :=
  wpIn_mono (wpIn_region_held_round hm hd OnOnly.not_out hS h) OnOnly.imp

end

/-- What the rounds of a loop keep: every row but those of M; from n₂ on every record. -/
def KpM (M : Nat → Prop) (n₂ : Nat) (A B : World) : Prop := (∀ (k : Nat) (c : Array Value) (t : TypeId) (fr : Nat × Nat), ¬ M k → A.heap[k]? = some (Obj.cells c t fr) → B.heap[k]? = some (Obj.cells c t fr)) ∧ KeepsFrom n₂ A B
theorem KpM.trans {M : Nat → Prop} {n₂ : Nat} {A B C : World} (h : KpM M n₂ A B) (k : KpM M n₂ B C) : KpM M n₂ A C :=
  ⟨fun i c t fr hi hc => k.1 i c t fr hi (h.1 i c t fr hi hc), h.2.trans k.2⟩
theorem KpM.refl {M : Nat → Prop} {n₂ : Nat} (A : World) : KpM M n₂ A A := ⟨fun _ _ _ _ _ h => h, KeepsFrom.refl _ _⟩
theorem KpM.record {M : Nat → Prop} {n₂ l : Nat} (hl : l < n₂) {A : World} {o : Obj} (o' : Obj) (ho : A.heap[l]? = some o) (hc : o.isCells = false) : KpM M n₂ A (A.putObj l o') := by
  refine ⟨fun k c t fr _ hk => ?_, by simp [World.putObj], fun k x hk hx _ => ?_⟩
  · rw [World.putObj_heap_other (fun e => by subst e; rw [hk] at ho; cases ho; cases hc)]; exact hk
  · rw [World.putObj_heap_other (by omega)]; exact hx
theorem KpM.of_below {M : Nat → Prop} {n₂ : Nat} {A B : World} (h : Below A.heap.size A B) : KpM M n₂ A B :=
  ⟨fun k _ _ _ _ hk => (h.block k (Array.getElem?_eq_some_iff.1 hk).1).trans hk, keepsFrom_of_below h⟩
theorem KpM.set {M : Nat → Prop} {n₂ : Nat} {A : World} {a : Addr} (hM : M a.block) (v : Value) : KpM M n₂ A (A.setCell a v) :=
  ⟨fun k _ _ _ hk h => (heap_setCell_other A a k v (fun e => hk (e ▸ hM))).trans h, (KeepsOthers.setCell A a v).from _⟩
theorem KpM.sets {M : Nat → Prop} {n₂ b : Nat} (hM : M b) : ∀ (vs : List Value) (o : Nat) (A : World), KpM M n₂ A (A.setCells b o vs)
  | [], _, A => KpM.refl A
  | v :: r, o, _ => (KpM.set (a := ⟨b, o, none⟩) hM v).trans (KpM.sets hM r (o + 1) _)
theorem KpM.row {M : Nat → Prop} {n₂ : Nat} {A B : World} (h : KpM M n₂ A B) {b : Nat} {t : TypeId} {c : List Value} (hb : ¬ M b) (hr : Row A b t c) : Row B b t c := h.1 b _ t _ hb hr

end Go.Proofs.Ythdfhbbfbohojaa
/-
  A law of the walk that names no program: a range over a function of whose rounds nothing is told but of blocks that lay there ahead of the loop; the iterator may write what it has made itself, between the rounds too.
-/
namespace Go.Proofs.Ythdfhbbfbohojaa
open Go Go.RowKit

/-- It hangs on the blocks below B alone. -/
def Low {β : Type} (B : Nat) (I : β → World → Prop) : Prop := ∀ s A A', I s A → Below B A A' → I s A'
theorem Low.mono {β : Type} {B B' : Nat} {I : β → World → Prop} (h : Low B I) (hB : B ≤ B') : Low B' I := fun s A A' hs hb => h s A A' hs (hb.mono hB)
theorem Low.and {β : Type} {B : Nat} {I K : β → World → Prop} (h : Low B I) (k : Low B K) : Low B (fun s W => I s W ∧ K s W) := fun s A A' hs hb => ⟨h s A A' hs.1 hb, k s A A' hs.2 hb⟩
theorem below_putObj {B l : Nat} (A : World) (o : Obj) (hl : B ≤ l) : Below B A (A.putObj l o) := ⟨rfl, rfl, rfl, by simp [World.putObj], fun k hk => World.putObj_heap_other (by omega)⟩
theorem low_putObj {β : Type} {B l : Nat} {I : β → World → Prop} (h : Low B I) {s : β} {A : World} (o : Obj) (hs : I s A) (hl : B ≤ l) : I s (A.putObj l o) := h s A _ hs (below_putObj A o hl)
theorem low_row {β : Type} {B b : Nat} {t : TypeId} (hb : b < B) (c : β → List Value) : Low B (fun s W => Row W b t (c s)) := fun _ _ _ hs hg => hs.below hg hb
theorem low_below {β : Type} {B n : Nat} (w : World) (hn : n ≤ B) : Low B (fun (_ : β) W => Below n w W) := fun _ _ _ hs hg => hs.trans (hg.mono hn)

section
variable {F : Fence} {n : Nat} {P : Program}

/-- The iterator, called in world W with the yield of loop l: it hands over, one behind the other, what is Ok where it is handed over; it ends having handed over all, or where a round has said no more. -/
def IterLow {α : Type} (F : Fence) (n : Nat) (P : Program) (g : Nat) (lb : Array Value) (encs : α → Array Value) (Ok : α → World → Prop) (Kp : World → World → Prop) (S Sp : List α → Prop) (N : Nat) (l : Nat) (W : World) : Prop :=
  ∀ (J Jx : List α → World → Prop), Low W.heap.size J → Low W.heap.size Jx →
    (∀ pre x W1, J pre W1 → Ok x W1 → pre.length < N → YieldAt F (n - 1) P l (encs x) W1 fun e W' =>
      (e = .returned (.bool true) ∧ J (pre ++ [x]) W' ∧ Kp W1 W') ∨ (e = .returned (.bool false) ∧ Jx (pre ++ [x]) W' ∧ Kp W1 W')) →
    J [] W →
    CallsIn F n P g (#[.func (.yield l) #[] #[]] ++ lb) W fun e W' => (∃ v, e = .returned v) ∧ ((∃ xs, S xs ∧ J xs W') ∨ (∃ pre, Sp pre ∧ Jx pre W'))

theorem wpIn_rangeFunc_low {α : Type} {g : Operand} {ps : Array Tmp} {assign body : Code} {Q : Exit → Act → World → Prop} {a : Act} {w : World}
    (hro : F.round = none) (h1 : 1 ≤ n) {gf : Nat} {lb : Array Value} (hg : a.eval g = .func (.func gf) #[] lb) (hFg : F.fn gf) (eg : ∀ args w, (callFunc gf args).run P w = .ok (.enter gf args) w)
    {encs : α → Array Value} {Ok : α → World → Prop} {Kp : World → World → Prop} {S Sp : List α → Prop} {N : Nat}
    (hit : ∀ W, W.heap.size = w.heap.size + 2 → Below w.heap.size w W → IterLow F (n - 1) P gf lb encs Ok Kp S Sp N (w.heap.size + 1) W)
    (hKt : ∀ {A B C : World}, Kp A B → Kp B C → Kp A C) (hKb : ∀ (W : World) (o o' : Obj), W.heap[w.heap.size + 1]? = some o → o.isCells = false → Kp W (W.putObj (w.heap.size + 1) o'))
    (hps : ∀ x, (encs x).size = ps.size)
    (I : List α → World → Prop) (Ix : Code → List α → World → Prop) (hI : Low w.heap.size I) (hIx : ∀ c, Low w.heap.size (Ix c)) (hOk : Low w.heap.size Ok) (h0 : I [] w) (a₁ : α → Act)
    (hassign : ∀ (l : Nat) (x : α) (W : World) (K : Act → World → Prop), K (a₁ x) W →
      assign.wpIn (F.inRound l) (n - 1 - 1) P (Exit.then K (fun _ _ _ => False)) { tmps := (ps.zip (encs x)).foldl (fun t (p, v) => t.setIfInBounds p v) a.tmps, defers := [] } W)
    (hbody : ∀ (l : Nat) (pre : List α) (x : α) (W : World), I pre W → Ok x W → pre.length < N → body.wpIn (F.inRound l) (n - 1 - 1) P (roundWord w.heap.size Kp I Ix (pre ++ [x]) W) (a₁ x) W)
    (hdone : ∀ (D : Nat) (xs : List α) (W : World), w.heap.size ≤ D → S xs → I xs W → W.heap[D]? = some (.deferred (some [])) → Q .normal { a with defers := { target := .collected D, args := #[] } :: a.defers } W)
    (hstop : ∀ (D : Nat) (c : Code) (pre : List α) (W : World), w.heap.size ≤ D → Sp pre → Ix c pre W → W.heap[D]? = some (.deferred (some [])) → c.wpIn F n P Q { a with defers := { target := .collected D, args := #[] } :: a.defers } W) :
    (Code.rangeFunc g ps assign body).wpIn F n P Q a w := by
  refine wpIn_rangeFunc fun fn hfn => ?_
  rw [hro]
  -- the loop's record, by its state and its pending jump
  obtain ⟨rec, hrec⟩ : ∃ rec : LoopState → Option Code → Loop, rec = fun st pe => { state := st, pending := pe, fn, tmps := a.tmps, params := ps, assign, body, defers := w.heap.size } := ⟨_, rfl⟩
  obtain ⟨W1, hW1⟩ : ∃ W1, (w.alloc (.deferred (some []))).alloc (.loop (rec .ready none)) = W1 := ⟨_, rfl⟩
  have hs1 : W1.heap.size = w.heap.size + 2 := by rw [← hW1]; simp
  have hb1 : Below w.heap.size w W1 := by rw [← hW1]; exact ((Below.refl _ w).alloc (Nat.le_refl _) _).alloc (by simp) _
  have hL1 : W1.heap[w.heap.size + 1]? = some (.loop (rec .ready none)) := by
    rw [← hW1]; have := World.alloc_heap_new (w.alloc (.deferred (some []))) (.loop (rec .ready none)); rwa [World.size_alloc] at this
  have hD1 : W1.heap[w.heap.size]? = some (.deferred (some [])) := by
    rw [← hW1]; exact (Below.heap_alloc _ _ _ (by simp)).trans (World.alloc_heap_new w _)
  have hI1 : I [] W1 := hI _ _ _ h0 hb1
  -- what is said of a world between two rounds, of a world behind the last one
  obtain ⟨T, hT⟩ : ∃ T : LoopState → Option Code → World → Prop, T = fun st pe W => W.heap[w.heap.size + 1]? = some (.loop (rec st pe)) ∧ W.heap[w.heap.size]? = some (.deferred (some [])) := ⟨_, rfl⟩
  have hTlow : ∀ st pe, Low W1.heap.size (fun (_ : List α) W => T st pe W) := by
    intro st pe s A B hs hg'
    rw [hT] at hs ⊢
    exact ⟨(hg'.block _ (by omega)).trans hs.1, (hg'.block _ (by omega)).trans hs.2⟩
  refine ⟨w.heap.size + 1, [{ target := .collected w.heap.size, args := #[] }], W1, { target := .fn (.func gf) lb, args := #[.func (.yield (w.heap.size + 1)) #[] #[]] }, W1, gf,
    #[.func (.yield (w.heap.size + 1)) #[] #[]] ++ lb, W1, ?_, ?_, ?_, ?_, fun _ => h1, ?_⟩
  · rw [← hW1, hrec]; exact run_enterLoop_outer _ _ _ _ _
  · simp only [resolve, hg]
    simp [go_sem]
  · intro f' hf'
    simp [Target.leads] at hf'
    subst hf'
    exact hFg
  · simp [invoke, go_sem, eg]
  · refine (hit W1 hs1 hb1 (fun pre W => I pre W ∧ T .ready none W) (fun pre W => ∃ c, Ix c pre W ∧ T .done (some c) W)
      (Low.and (hI.mono (by omega)) (hTlow _ _))
      (fun s A B ⟨c, hc, ht⟩ hg' => ⟨c, (hIx c).mono (by omega) s A B hc hg', hTlow _ _ s A B ht hg'⟩) ?_ ⟨hI1, by rw [hT]; exact ⟨hL1, hD1⟩⟩).mono ?_
    · rintro pre x W ⟨hi, ht⟩ hok hN
      rw [hT] at ht
      obtain ⟨hl, hd⟩ := ht
      have hlt : w.heap.size + 1 < W.heap.size := (Array.getElem?_eq_some_iff.1 hl).1
      have hy := run_yield (P := P) (args := encs x) hl (by rw [hrec]; exact hps x)
      rw [hrec] at hy
      refine ⟨fn, _, assign, body, hy, roundIn_of_wpIn hfn (hassign _ x W _ ⟨_, run_beginRound hl (by rw [hrec]), ?_⟩)⟩
      -- the world in which the body begins
      obtain ⟨W2, hW2⟩ : ∃ W2, W.putObj (w.heap.size + 1) (.loop { rec .ready none with state := .busy }) = W2 := ⟨_, rfl⟩
      rw [hW2]
      have hl2 : W2.heap[w.heap.size + 1]? = some (.loop { rec .ready none with state := .busy }) := by rw [← hW2]; exact World.putObj_heap_same hlt
      have hd2 : W2.heap[w.heap.size]? = some (.deferred (some [])) := by rw [← hW2]; exact (World.putObj_heap_other (by omega)).trans hd
      have hk2 : Kp W W2 := by rw [← hW2]; exact hKb _ _ _ hl rfl
      have hi2 : I pre W2 := by rw [← hW2]; exact low_putObj hI _ hi (by omega)
      have ho2 : Ok x W2 := by rw [← hW2]; exact low_putObj hOk _ hok (by omega)
      -- whatever way the body is left
      have fin : ∀ (jump : Option Code) (W3 : World), KeepsFrom w.heap.size W2 W3 → Kp W2 W3 →
          ∃ W4, (Instr.endRound (w.heap.size + 1) jump).run P W3 = .ok (.bool jump.isNone) W4 ∧ T (if jump.isNone then .ready else .done) jump W4 ∧ Kp W W4 ∧ (I (pre ++ [x]) W3 → I (pre ++ [x]) W4) ∧ (∀ c, Ix c (pre ++ [x]) W3 → Ix c (pre ++ [x]) W4) := by
        intro jump W3 hk3 hkp
        have hl3 := hk3.same _ _ (by omega) hl2 rfl
        have hd3 := hk3.same _ _ (Nat.le_refl _) hd2 rfl
        refine ⟨_, run_endRound (P := P) jump hl3, ?_, hKt (hKt hk2 hkp) (hKb _ _ _ hl3 rfl), fun h => low_putObj hI _ h (by omega), fun c h => low_putObj (hIx c) _ h (by omega)⟩
        rw [hT, hrec]
        exact ⟨World.putObj_heap_same (Array.getElem?_eq_some_iff.1 hl3).1, (World.putObj_heap_other (by omega)).trans hd3⟩
      refine wpIn_mono (hbody _ pre x W2 hi2 ho2 hN) ?_
      rintro e a3 W3 hp
      cases e with
      | normal =>
        obtain ⟨W4, hr, ht, hk, hi4, _⟩ := fin none W3 hp.1 hp.2.1
        exact ⟨_, _, hr, .inl ⟨rfl, ⟨hi4 hp.2.2, ht⟩, hk⟩⟩
      | ret =>
        obtain ⟨W4, hr, ht, hk, _, hx4⟩ := fin (some .ret) W3 hp.1 hp.2.1
        exact ⟨_, _, hr, .inr ⟨rfl, ⟨_, hx4 _ hp.2.2, ht⟩, hk⟩⟩
      | exit id =>
        obtain ⟨W4, hr, ht, hk, _, hx4⟩ := fin (some (.exit id)) W3 hp.1 hp.2.1
        exact ⟨_, _, hr, .inr ⟨rfl, ⟨_, hx4 _ hp.2.2, ht⟩, hk⟩⟩
      | goto t =>
        obtain ⟨W4, hr, ht, hk, _, hx4⟩ := fin (some (.goto t)) W3 hp.1 hp.2.1
        exact ⟨_, _, hr, .inr ⟨rfl, ⟨_, hx4 _ hp.2.2, ht⟩, hk⟩⟩
      | panic ch => exact hp.elim
      | outgrown => exact hp.elim
    · rintro e W2 ⟨⟨v, rfl⟩, (⟨xs, hS, hi, ht⟩ | ⟨pre, hSp, c, hi, ht⟩)⟩
      · rw [hT] at ht
        have hr := run_endLoop (P := P) ht.1 (by rw [hrec]; simp)
        rw [hrec] at hr
        exact ⟨none, _, hr, hdone _ xs _ (Nat.le_refl _) hS (low_putObj hI _ hi (by omega)) ((World.putObj_heap_other (by omega)).trans ht.2)⟩
      · rw [hT] at ht
        have hr := run_endLoop (P := P) ht.1 (by rw [hrec]; simp)
        rw [hrec] at hr
        exact ⟨some c, _, hr, hstop _ c pre _ (Nat.le_refl _) hSp (low_putObj (hIx c) _ hi (by omega)) ((World.putObj_heap_other (by omega)).trans ht.2)⟩


/-- The same where the loop's variable is an array: it lies in a block that each round makes. -/
theorem wpIn_rangeFunc_arr {α : Type} {g : Operand} {ps : Array Tmp} {assign body : Code} {Q : Exit → Act → World → Prop} {a : Act} {w : World}
    (hro : F.round = none) (h1 : 1 ≤ n) {gf : Nat} {lb : Array Value} (hg : a.eval g = .func (.func gf) #[] lb) (hFg : F.fn gf) (eg : ∀ args w, (callFunc gf args).run P w = .ok (.enter gf args) w)
    {encs : α → Array Value} {Ok : α → World → Prop} {Kp : World → World → Prop} {S Sp : List α → Prop} {N : Nat}
    (hit : ∀ W, W.heap.size = w.heap.size + 2 → Below w.heap.size w W → IterLow F (n - 1) P gf lb encs Ok Kp S Sp N (w.heap.size + 1) W)
    (hKt : ∀ {A B C : World}, Kp A B → Kp B C → Kp A C) (hKb : ∀ (W : World) (o o' : Obj), W.heap[w.heap.size + 1]? = some o → o.isCells = false → Kp W (W.putObj (w.heap.size + 1) o'))
    (hKg : ∀ {A B : World}, Below A.heap.size A B → Kp A B) (hps : ∀ x, (encs x).size = ps.size) (t : TypeId) (c : α → List Value)
    (I : List α → World → Prop) (Ix : Code → List α → World → Prop) (hI : Low w.heap.size I) (hIx : ∀ c, Low w.heap.size (Ix c)) (hOk : Low w.heap.size Ok) (h0 : I [] w) (a₁ : α → World → Act)
    (hassign : ∀ (l : Nat) (x : α) (W : World) (K : Act → World → Prop), Ok x W → (∀ W', Below W.heap.size W W' → Row W' W.heap.size t (c x) → K (a₁ x W) W') →
      assign.wpIn (F.inRound l) (n - 1 - 1) P (Exit.then K (fun _ _ _ => False)) { tmps := (ps.zip (encs x)).foldl (fun t (p, v) => t.setIfInBounds p v) a.tmps, defers := [] } W)
    (hbody : ∀ (l : Nat) (pre : List α) (x : α) (W₀ W : World), I pre W → Ok x W → pre.length < N → w.heap.size ≤ W₀.heap.size → Row W W₀.heap.size t (c x) → body.wpIn (F.inRound l) (n - 1 - 1) P (roundWord w.heap.size Kp I Ix (pre ++ [x]) W) (a₁ x W₀) W)
    (hdone : ∀ (D : Nat) (xs : List α) (W : World), w.heap.size ≤ D → S xs → I xs W → W.heap[D]? = some (.deferred (some [])) → Q .normal { a with defers := { target := .collected D, args := #[] } :: a.defers } W)
    (hstop : ∀ (D : Nat) (c : Code) (pre : List α) (W : World), w.heap.size ≤ D → Sp pre → Ix c pre W → W.heap[D]? = some (.deferred (some [])) → c.wpIn F n P Q { a with defers := { target := .collected D, args := #[] } :: a.defers } W) :
    (Code.rangeFunc g ps assign body).wpIn F n P Q a w := by
  refine wpIn_rangeFunc fun fn hfn => ?_
  rw [hro]
  -- the loop's record, by its state and its pending jump
  obtain ⟨rec, hrec⟩ : ∃ rec : LoopState → Option Code → Loop, rec = fun st pe => { state := st, pending := pe, fn, tmps := a.tmps, params := ps, assign, body, defers := w.heap.size } := ⟨_, rfl⟩
  obtain ⟨W1, hW1⟩ : ∃ W1, (w.alloc (.deferred (some []))).alloc (.loop (rec .ready none)) = W1 := ⟨_, rfl⟩
  have hs1 : W1.heap.size = w.heap.size + 2 := by rw [← hW1]; simp
  have hb1 : Below w.heap.size w W1 := by rw [← hW1]; exact ((Below.refl _ w).alloc (Nat.le_refl _) _).alloc (by simp) _
  have hL1 : W1.heap[w.heap.size + 1]? = some (.loop (rec .ready none)) := by
    rw [← hW1]; have := World.alloc_heap_new (w.alloc (.deferred (some []))) (.loop (rec .ready none)); rwa [World.size_alloc] at this
  have hD1 : W1.heap[w.heap.size]? = some (.deferred (some [])) := by
    rw [← hW1]; exact (Below.heap_alloc _ _ _ (by simp)).trans (World.alloc_heap_new w _)
  have hI1 : I [] W1 := hI _ _ _ h0 hb1
  -- what is said of a world between two rounds, of a world behind the last one
  obtain ⟨T, hT⟩ : ∃ T : LoopState → Option Code → World → Prop, T = fun st pe W => W.heap[w.heap.size + 1]? = some (.loop (rec st pe)) ∧ W.heap[w.heap.size]? = some (.deferred (some [])) := ⟨_, rfl⟩
  have hTlow : ∀ st pe, Low W1.heap.size (fun (_ : List α) W => T st pe W) := by
    intro st pe s A B hs hg'
    rw [hT] at hs ⊢
    exact ⟨(hg'.block _ (by omega)).trans hs.1, (hg'.block _ (by omega)).trans hs.2⟩
  refine ⟨w.heap.size + 1, [{ target := .collected w.heap.size, args := #[] }], W1, { target := .fn (.func gf) lb, args := #[.func (.yield (w.heap.size + 1)) #[] #[]] }, W1, gf,
    #[.func (.yield (w.heap.size + 1)) #[] #[]] ++ lb, W1, ?_, ?_, ?_, ?_, fun _ => h1, ?_⟩
  · rw [← hW1, hrec]; exact run_enterLoop_outer _ _ _ _ _
  · simp only [resolve, hg]
    simp [go_sem]
  · intro f' hf'
    simp [Target.leads] at hf'
    subst hf'
    exact hFg
  · simp [invoke, go_sem, eg]
  · refine (hit W1 hs1 hb1 (fun pre W => I pre W ∧ T .ready none W) (fun pre W => ∃ c, Ix c pre W ∧ T .done (some c) W)
      (Low.and (hI.mono (by omega)) (hTlow _ _))
      (fun s A B ⟨c, hc, ht⟩ hg' => ⟨c, (hIx c).mono (by omega) s A B hc hg', hTlow _ _ s A B ht hg'⟩) ?_ ⟨hI1, by rw [hT]; exact ⟨hL1, hD1⟩⟩).mono ?_
    · rintro pre x W ⟨hi, ht⟩ hok hN
      rw [hT] at ht
      obtain ⟨hl, hd⟩ := ht
      have hlt : w.heap.size + 1 < W.heap.size := (Array.getElem?_eq_some_iff.1 hl).1
      have hy := run_yield (P := P) (args := encs x) hl (by rw [hrec]; exact hps x)
      rw [hrec] at hy
      refine ⟨fn, _, assign, body, hy, roundIn_of_wpIn hfn (hassign _ x W _ hok (fun Wa hba hra => ?_))⟩
      have hla := (hba.block _ hlt).trans hl
      have hda := (hba.block _ (by omega)).trans hd
      have hia : I pre Wa := hI _ _ _ hi (hba.mono (by omega))
      have hoa : Ok x Wa := hOk _ _ _ hok (hba.mono (by omega))
      have hlta : w.heap.size + 1 < Wa.heap.size := Nat.lt_of_lt_of_le hlt hba.size
      refine ⟨_, run_beginRound hla (by rw [hrec]), ?_⟩
      -- the world in which the body begins
      obtain ⟨W2, hW2⟩ : ∃ W2, Wa.putObj (w.heap.size + 1) (.loop { rec .ready none with state := .busy }) = W2 := ⟨_, rfl⟩
      rw [hW2]
      have hl2 : W2.heap[w.heap.size + 1]? = some (.loop { rec .ready none with state := .busy }) := by rw [← hW2]; exact World.putObj_heap_same hlta
      have hd2 : W2.heap[w.heap.size]? = some (.deferred (some [])) := by rw [← hW2]; exact (World.putObj_heap_other (by omega)).trans hda
      have hk2 : Kp W W2 := by rw [← hW2]; exact hKt (hKg hba) (hKb _ _ _ hla rfl)
      have hi2 : I pre W2 := by rw [← hW2]; exact low_putObj hI _ hia (by omega)
      have ho2 : Ok x W2 := by rw [← hW2]; exact low_putObj hOk _ hoa (by omega)
      have hr2 : Row W2 W.heap.size t (c x) := by rw [← hW2]; exact (World.putObj_heap_other (by omega)).trans hra
      -- whatever way the body is left
      have fin : ∀ (jump : Option Code) (W3 : World), KeepsFrom w.heap.size W2 W3 → Kp W2 W3 →
          ∃ W4, (Instr.endRound (w.heap.size + 1) jump).run P W3 = .ok (.bool jump.isNone) W4 ∧ T (if jump.isNone then .ready else .done) jump W4 ∧ Kp W W4 ∧ (I (pre ++ [x]) W3 → I (pre ++ [x]) W4) ∧ (∀ c, Ix c (pre ++ [x]) W3 → Ix c (pre ++ [x]) W4) := by
        intro jump W3 hk3 hkp
        have hl3 := hk3.same _ _ (by omega) hl2 rfl
        have hd3 := hk3.same _ _ (Nat.le_refl _) hd2 rfl
        refine ⟨_, run_endRound (P := P) jump hl3, ?_, hKt (hKt hk2 hkp) (hKb _ _ _ hl3 rfl), fun h => low_putObj hI _ h (by omega), fun c h => low_putObj (hIx c) _ h (by omega)⟩
        rw [hT, hrec]
        exact ⟨World.putObj_heap_same (Array.getElem?_eq_some_iff.1 hl3).1, (World.putObj_heap_other (by omega)).trans hd3⟩
      refine wpIn_mono (hbody _ pre x W W2 hi2 ho2 hN (by omega) hr2) ?_
      rintro e a3 W3 hp
      cases e with
      | normal =>
        obtain ⟨W4, hr, ht, hk, hi4, _⟩ := fin none W3 hp.1 hp.2.1
        exact ⟨_, _, hr, .inl ⟨rfl, ⟨hi4 hp.2.2, ht⟩, hk⟩⟩
      | ret =>
        obtain ⟨W4, hr, ht, hk, _, hx4⟩ := fin (some .ret) W3 hp.1 hp.2.1
        exact ⟨_, _, hr, .inr ⟨rfl, ⟨_, hx4 _ hp.2.2, ht⟩, hk⟩⟩
      | exit id =>
        obtain ⟨W4, hr, ht, hk, _, hx4⟩ := fin (some (.exit id)) W3 hp.1 hp.2.1
        exact ⟨_, _, hr, .inr ⟨rfl, ⟨_, hx4 _ hp.2.2, ht⟩, hk⟩⟩
      | goto t =>
        obtain ⟨W4, hr, ht, hk, _, hx4⟩ := fin (some (.goto t)) W3 hp.1 hp.2.1
        exact ⟨_, _, hr, .inr ⟨rfl, ⟨_, hx4 _ hp.2.2, ht⟩, hk⟩⟩
      | panic ch => exact hp.elim
      | outgrown => exact hp.elim
    · rintro e W2 ⟨⟨v, rfl⟩, (⟨xs, hS, hi, ht⟩ | ⟨pre, hSp, c, hi, ht⟩)⟩
      · rw [hT] at ht
        have hr := run_endLoop (P := P) ht.1 (by rw [hrec]; simp)
        rw [hrec] at hr
        exact ⟨none, _, hr, hdone _ xs _ (Nat.le_refl _) hS (low_putObj hI _ hi (by omega)) ((World.putObj_heap_other (by omega)).trans ht.2)⟩
      · rw [hT] at ht
        have hr := run_endLoop (P := P) ht.1 (by rw [hrec]; simp)
        rw [hrec] at hr
        exact ⟨some c, _, hr, hstop _ c pre _ (Nat.le_refl _) hSp (low_putObj (hIx c) _ hi (by omega)) ((World.putObj_heap_other (by omega)).trans ht.2)⟩


end
end Go.Proofs.Ythdfhbbfbohojaa
/-
  Slices of bytes, as they are read: how long, which bytes, where they lie.
-/
namespace Go.Proofs.Ythdfhbbfbohojaa
open Go.RowKit

theorem info5 : (Try.prog.info? 5).map (fun i => (i.zero, i.size, i.bytes)) = some (some (.int .u8 0), 1, 1) := by kernel_rfl
theorem size5 : (Try.prog.info? 5).map (·.size) = some 1 := by kernel_rfl

/-- A slice of bytes: it has none, or it leads to cells of a block below n₀; its length is that of the bytes. -/
def IsBytes (n₀ : Nat) (W : World) (p : Option Addr) (len cap : Nat) (zs : List Nat) : Prop :=
  zs.length = len ∧ len ≤ cap ∧ cap ≤ 9223372036854775807 ∧ (∀ z ∈ zs, z < 256) ∧
  (len = 0 ∨ ∃ b off, p = some ⟨b, off, none⟩ ∧ b < n₀ ∧ ∀ i, i < len → W.cell? ⟨b, off + i, none⟩ = some (.int .u8 (zs.getD i 0 : Nat)))

theorem IsBytes.below {n₀ : Nat} {A B : World} (h : Below n₀ A B) {p : Option Addr} {len cap : Nat} {zs : List Nat} : IsBytes n₀ A p len cap zs → IsBytes n₀ B p len cap zs
  | ⟨h1, h2, h3, h4, .inl e⟩ => ⟨h1, h2, h3, h4, .inl e⟩
  | ⟨h1, h2, h3, h4, .inr ⟨b, off, e, hb, hc⟩⟩ => ⟨h1, h2, h3, h4, .inr ⟨b, off, e, hb, fun i hi => (h.cell (p := ⟨b, off + i, none⟩) hb).trans (hc i hi)⟩⟩


theorem getD_of_all {zs : List Nat} (h : ∀ z ∈ zs, z < 256) (i : Nat) : zs.getD i 0 < 256 := by
  by_cases hi : i < zs.length
  · simp only [List.getD_eq_getElem?_getD, List.getElem?_eq_getElem hi, Option.getD_some]; exact h _ (List.getElem_mem hi)
  · simp [List.getElem?_eq_none (show zs.length ≤ i by omega)]

end Go.Proofs.Ythdfhbbfbohojaa
/-
  Slices that own a row of bytes: what outlasts a call, an append, a new block; how such a slice is one of bytes; what append makes of it with any slice of bytes behind it.
-/
namespace Go.Proofs.Ythdfhbbfbohojaa
open Go Go.RowKit


theorem IsBytes.mono {n₀ n₁ : Nat} (h : n₀ ≤ n₁) {W : World} {p : Option Addr} {len cap : Nat} {zs : List Nat} : IsBytes n₀ W p len cap zs → IsBytes n₁ W p len cap zs
  | ⟨h1, h2, h3, h4, .inl e⟩ => ⟨h1, h2, h3, h4, .inl e⟩
  | ⟨h1, h2, h3, h4, .inr ⟨b, off, e, hb, hc⟩⟩ => ⟨h1, h2, h3, h4, .inr ⟨b, off, e, Nat.lt_of_lt_of_le hb h, hc⟩⟩
theorem IsBytes.later {A B : World} (hb : Below A.heap.size A B) {p : Option Addr} {len cap : Nat} {zs : List Nat} (h : IsBytes A.heap.size A p len cap zs) : IsBytes B.heap.size B p len cap zs := (h.below hb).mono hb.size
theorem cells_of_cell {W : World} {b i : Nat} {v : Value} (h : W.cell? ⟨b, i, none⟩ = some v) : ∃ c t fr, W.heap[b]? = some (.cells c t fr) ∧ c[i]? = some v := by
  unfold World.cell? at h
  split at h
  · rename_i hs; exact ⟨_, _, _, hs, by simpa using h⟩
  · rename_i hs hn; cases h
theorem keepsFrom_ge {B B' : Nat} {X Y : World} (h : KeepsFrom B X Y) (hB : B ≤ B') : KeepsFrom B' X Y := ⟨h.size, fun k o hk => h.same k o (Nat.le_trans hB hk)⟩
/-- The bytes of a slice stand where its block is kept. -/
theorem IsBytes.kept {M : Nat → Prop} {A B : World} (h : ∀ (k : Nat) (c : Array Value) (t : TypeId) (fr : Nat × Nat), ¬ M k → A.heap[k]? = some (Obj.cells c t fr) → B.heap[k]? = some (Obj.cells c t fr))
    {n₀ : Nat} {p : Option Addr} {len cap : Nat} {zs : List Nat} (hM : len = 0 ∨ ∀ a, p = some a → ¬ M a.block) : IsBytes n₀ A p len cap zs → IsBytes n₀ B p len cap zs
  | ⟨h1, h2, h3, h4, .inl e⟩ => ⟨h1, h2, h3, h4, .inl e⟩
  | ⟨h1, h2, h3, h4, .inr ⟨b, off, e, hb, hc⟩⟩ => ⟨h1, h2, h3, h4, .inr ⟨b, off, e, hb, fun i hi => by
      obtain ⟨c, t, fr, hh, hci⟩ := cells_of_cell (hc i hi)
      have := h b c t fr (hM.resolve_left (by omega) _ e) hh
      rw [cell_of_row B b (off + i) c t fr this]
      exact hci⟩⟩
theorem IsBytes.rest {n₀ : Nat} {W : World} {p q : Option Addr} {len cap L C o : Nat} {zs : List Nat} (h : IsBytes n₀ W p len cap zs) (hL : L + o = len) (hC : C + o = cap) (hq : 0 < L → ∃ b off, p = some ⟨b, off, none⟩ ∧ q = some ⟨b, off + o, none⟩) :
    IsBytes n₀ W q L C (zs.drop o) := by
  obtain ⟨h1, h2, h3, h4, h5⟩ := h
  refine ⟨by simp; omega, by omega, by omega, fun z hz => h4 z (List.mem_of_mem_drop hz), ?_⟩
  by_cases hLz : 0 < L
  · obtain ⟨b, off, rfl, rfl⟩ := hq hLz
    rcases h5 with h5 | ⟨b', off', e, hb, hc⟩
    · omega
    · cases e
      refine .inr ⟨b, off + o, rfl, hb, fun i hi => ?_⟩
      rw [show off + o + i = off + (o + i) by omega, hc (o + i) (by omega)]
      simp [List.getElem?_drop]
  · exact .inl (by omega)

theorem ownsRow_later {A B : World} (hb : Below A.heap.size A B) {base : Nat} {e : TypeId} {size : Nat} {v : Value} {n : Nat} {xs : List Value} (h : A.ownsRow base e size v n xs) : B.ownsRow base e size v n xs := by
  refine ⟨h.1, ?_⟩
  rcases h.2 with hn | ⟨g, cap, cur, rfl, hg, hgg, rest⟩
  · exact .inl hn
  · exact .inr ⟨g, cap, cur, rfl, hg, (hb.block g (Array.getElem?_eq_some_iff.1 hgg).1).trans hgg, rest⟩
theorem ownsRow_mono {W : World} {base base' : Nat} (hb : base' ≤ base) {e : TypeId} {size : Nat} {v : Value} {n : Nat} {xs : List Value} (h : W.ownsRow base e size v n xs) : W.ownsRow base' e size v n xs := by
  refine ⟨h.1, ?_⟩
  rcases h.2 with hn | ⟨g, cap, cur, rfl, hg, rest⟩
  · exact .inl hn
  · exact .inr ⟨g, cap, cur, rfl, Nat.le_trans hb hg, rest⟩
/-- A slice that owns some elements is a slice of as many. -/
theorem slice_of_row {W : World} {n₀ : Nat} {e : TypeId} {size : Nat} {v : Value} {n : Nat} {xs : List Value} (h : W.ownsRow n₀ e size v n xs) : ∃ q c, v = .slice q n c := by
  rcases h.2 with ⟨rfl, rfl⟩ | ⟨g, cap, _, rfl, _⟩
  · exact ⟨none, 0, rfl⟩
  · exact ⟨_, cap, rfl⟩
theorem row_tag {A : World} {n₀ : Nat} {e : TypeId} {size : Nat} {v : Value} {n : Nat} {xs : List Value} (h : A.ownsRow n₀ e size v n xs) (k : Nat) (hk : v.ownBlock = some k) : ∃ c fr, A.heap[k]? = some (Obj.cells c e fr) := by
  rcases h.2 with ⟨rfl, _⟩ | ⟨g, cap, cur, rfl, _, hg, _⟩
  · simp [Value.ownBlock] at hk
  · simp [Value.ownBlock] at hk
    subst hk
    exact ⟨_, _, hg⟩

/-- The blocks of type t are kept. -/
def KeepT (t : TypeId) (A B : World) : Prop := ∀ (k : Nat) (c : Array Value) (fr : Nat × Nat), A.heap[k]? = some (Obj.cells c t fr) → B.heap[k]? = some (Obj.cells c t fr)
theorem KeepT.trans {t : TypeId} {A B C : World} (h : KeepT t A B) (k : KeepT t B C) : KeepT t A C := fun i c fr hi => k i c fr (h i c fr hi)
theorem KeepT.grown {t : TypeId} {A B : World} {row : Option Nat} (hg : A.grownBy B row) (hr : ∀ k, row = some k → ∃ c t' fr, A.heap[k]? = some (Obj.cells c t' fr) ∧ t' ≠ t) : KeepT t A B := fun k c fr hk => by
  refine (hg.block k (Array.getElem?_eq_some_iff.1 hk).1 (fun e => ?_)).trans hk
  obtain ⟨c', t', fr', hk', h1⟩ := hr k e.symm
  rw [hk] at hk'
  cases hk'
  exact h1 rfl
theorem KeepT.alloc {t : TypeId} (A : World) (o : Obj) : KeepT t A (A.alloc o) := KeepT.grown (World.grownBy_alloc A o none) (fun k e => by cases e)
theorem KeepT.row {t e : TypeId} {A B : World} {n₀ : Nat} {size : Nat} {v : Value} {n : Nat} {xs : List Value} (hg : A.grownBy B v.ownBlock) (h : A.ownsRow n₀ e size v n xs) (he : e ≠ t) : KeepT t A B :=
  KeepT.grown hg (fun k ek => by obtain ⟨c, fr, h'⟩ := row_tag h k ek; exact ⟨c, e, fr, h', he⟩)
theorem KeepT.of_below {t : TypeId} {A B : World} (h : Below A.heap.size A B) : KeepT t A B := fun k _ _ hk => (h.block k (Array.getElem?_eq_some_iff.1 hk).1).trans hk
theorem KeepT.own {t : TypeId} {A B : World} (hk : KeepT t A B) {n₀ : Nat} {size : Nat} {v : Value} {n : Nat} {xs : List Value} (h : A.ownsRow n₀ t size v n xs) : B.ownsRow n₀ t size v n xs := by
  refine ⟨h.1, ?_⟩
  rcases h.2 with hn | ⟨g, cap, cur, rfl, hg, hgg, rest⟩
  · exact .inl hn
  · exact .inr ⟨g, cap, cur, rfl, hg, hk _ _ _ hgg, rest⟩

/-- The slice v owns a row of just these bytes. -/
def Own (n₀ : Nat) (W : World) (v : Value) (zs : List Nat) : Prop := W.ownsRow n₀ 5 1 v zs.length (u8s zs)
theorem Own.nil (n₀ : Nat) (W : World) : Own n₀ W (.slice none 0 0) [] := World.ownsRow_nil _ _ _ _
theorem Own.later {A B : World} (hb : Below A.heap.size A B) {n₀ : Nat} {v : Value} {zs : List Nat} (h : Own n₀ A v zs) : Own n₀ B v zs := ownsRow_later hb h
theorem Own.mono {W : World} {n₀ n₁ : Nat} (hn : n₁ ≤ n₀) {v : Value} {zs : List Nat} (h : Own n₀ W v zs) : Own n₁ W v zs := ownsRow_mono hn h
theorem Own.alloc {W : World} {n₀ : Nat} {v : Value} {zs : List Nat} (h : Own n₀ W v zs) (o : Obj) : Own n₀ (W.alloc o) v zs := World.ownsRow.alloc h o
theorem Own.slice {W : World} {n₀ : Nat} {v : Value} {zs : List Nat} (h : Own n₀ W v zs) : ∃ q c, v = .slice q zs.length c := slice_of_row h
theorem Own.bytes {W : World} {n₀ : Nat} {q : Option Addr} {len cap : Nat} {zs : List Nat} (h : Own n₀ W (.slice q len cap) zs) (hz : ∀ z ∈ zs, z < 256) : IsBytes W.heap.size W q len cap zs := by
  rcases h.2 with ⟨e, hl⟩ | ⟨g, c, cur, e, hg, hgg, hnc, hm, hs, ht⟩
  · cases e
    have : zs = [] := List.eq_nil_of_length_eq_zero hl
    subst this
    exact ⟨rfl, Nat.le_refl _, by omega, by simp, .inl rfl⟩
  · cases e
    refine ⟨rfl, hnc, by simpa only [maxLen] using hm, hz, .inr ⟨g, 0, rfl, (Array.getElem?_eq_some_iff.1 hgg).1, fun i hi => ?_⟩⟩
    rw [Nat.zero_add, h.cellAt i (by omega), u8s_at hi]
theorem Own.cells {W : World} {n₀ : Nat} {q : Option Addr} {len cap : Nat} {zs : List Nat} (h : Own n₀ W (.slice q len cap) zs) (hp : 0 < len) : ∃ g, q = some ⟨g, 0, none⟩ ∧ n₀ ≤ g ∧ g < W.heap.size ∧ W.rangeAt g 0 (u8s zs) := by
  rcases h.2 with ⟨e, hl⟩ | ⟨g, c, cur, e, hg, hgg, hnc, hm, hs, ht⟩
  · cases e; omega
  · cases e
    refine ⟨g, rfl, hg, (Array.getElem?_eq_some_iff.1 hgg).1, fun j u hu => ?_⟩
    have hj : j < zs.length := by
      rcases Nat.lt_or_ge j zs.length with h | h
      · exact h
      · rw [List.getElem?_eq_none (by simpa using h)] at hu; cases hu
    rw [Nat.zero_add, h.cellAt j (by omega), hu]

theorem u8s_append (a b : List Nat) : u8s a ++ u8s b = u8s (a ++ b) := by simp [u8s]

/-- append of any slice of bytes to a row that is owned. -/
theorem run_append_bytes {P : Program} (h22 : P.underlying 32 = some (.slice 5)) (hi5 : (P.info? 5).map (fun i => (i.zero, i.size, i.bytes)) = some (some (.int .u8 0), 1, 1)) (w : World) (base : Nat) (ty : TypeId) (v : Value) (zs : List Nat) (hown : Own base w v zs) {n₀ : Nat} {p : Option Addr} {len cap : Nat} {ys : List Nat} (hI : IsBytes n₀ w p len cap ys) (hlen : zs.length + len ≤ 1000000) (hbase : base ≤ w.heap.size) :
    ∃ v' w', (Builtin.append_ #[32, 32] ty #[v, .slice p len cap]).run P w = .ok v' w' ∧ Own base w' v' (zs ++ ys) ∧ w.grownBy w' v.ownBlock := by
  obtain ⟨i0, hi, hz0, hz1, hz2⟩ := info_parts hi5
  obtain ⟨h1, h2, h3, h4, h5⟩ := hI
  by_cases hpn : ∃ a, p = some a
  · obtain ⟨ad, rfl⟩ := hpn
    have hnews : ∀ j u, (u8s ys)[j]? = some u → w.cell? (ad.add j) = some u := by
      rcases h5 with rfl | ⟨b, off, e, hb, hc⟩
      · obtain rfl := List.length_eq_zero_iff.1 h1
        intro j u hu
        simp [u8s] at hu
      · cases e
        intro j u hu
        have hj : j < ys.length := by
          rcases Nat.lt_or_ge j ys.length with h | h
          · exact h
          · rw [List.getElem?_eq_none (by simpa using h)] at hu; cases hu
        rw [Addr.add_mid, hc j (by omega), ← u8s_at hj, hu]
    obtain ⟨v', w', hr, ho, hg, _⟩ := run_append_own (P := P) w base 32 ty 5 i0 (.int .u8 0) 1 1 h22 hi hz0 hz1 hz2 rfl (by decide) v zs.length (u8s zs) hown ad len cap (u8s ys) (by simp [h1]) hnews (u8s_one _) (by simp only [maxLen]; omega) (by omega) hbase
    refine ⟨v', w', hr, ?_, hg⟩
    unfold Own
    rw [List.length_append, h1, ← u8s_append]
    exact ho
  · obtain rfl : p = none := by cases p with
      | none => rfl
      | some a => exact absurd ⟨a, rfl⟩ hpn
    have h0 : len = 0 := by
      rcases h5 with h | ⟨b, off, e, _⟩
      · exact h
      · cases e
    subst h0
    obtain rfl := List.length_eq_zero_iff.1 h1
    refine ⟨v, w, ?_, by rw [List.append_nil]; exact hown, ⟨rfl, rfl, rfl, Nat.le_refl _, fun _ _ _ => rfl⟩⟩
    rcases hown.2 with ⟨rfl, _⟩ | ⟨g, cp, cur, rfl, _, _, hnc, _⟩
    · simp [Builtin.append_, run_underlying h22, sizeOf, typeInfo, hi, Builtin.lenOf, Builtin.firstCells]
    · simp [Builtin.append_, run_underlying h22, sizeOf, typeInfo, hi, Builtin.lenOf, Builtin.firstCells, hnc, storeCells]

theorem wp_append_bytes {o : Oper} {a : Act} {w : World} {K : Act → World → Prop} {Q : Exit → Act → World → Prop} (s x : Operand)
    (ho : o.op = .call { callee := .builtin .append, args := #[s, x], argTypes := #[32, 32] })
    (base : Nat) (v : Value) (zs : List Nat) (hs : a.eval s = v) (hown : Own base w v zs) {n₀ : Nat} {p : Option Addr} {len cap : Nat} {ys : List Nat} (hx : a.eval x = .slice p len cap) (hI : IsBytes n₀ w p len cap ys) (hlen : zs.length + len ≤ 1000000) (hbase : base ≤ w.heap.size)
    (h : ∀ v' w', Own base w' v' (zs ++ ys) → w.grownBy w' v.ownBlock → K (a.put o.dst v') w') : o.wp Try.prog a w K Q := by
  obtain ⟨v', w', hr, h1, h2⟩ := run_append_bytes (P := Try.prog) Try.underlying32 info5 w base o.type v zs hown hI hlen hbase
  unfold Oper.wp
  simp [execOp, ho, resolve, invoke, builtin, hs, hx, hr, Result.andThen]
  exact h v' w' h1 h2
theorem wpList_append_bytes {ops : Array Oper} {rest : List Oper} {o : Oper} {a : Act} {w : World} {Q : Exit → Act → World → Prop} (hgd : o.guard = none) (s x : Operand)
    (ho : o.op = .call { callee := .builtin .append, args := #[s, x], argTypes := #[32, 32] })
    (base : Nat) (v : Value) (zs : List Nat) (hs : a.eval s = v) (hown : Own base w v zs) {n₀ : Nat} {p : Option Addr} {len cap : Nat} {ys : List Nat} (hx : a.eval x = .slice p len cap) (hI : IsBytes n₀ w p len cap ys) (hlen : zs.length + len ≤ 1000000) (hbase : base ≤ w.heap.size)
    (h : ∀ v' w', Own base w' v' (zs ++ ys) → w.grownBy w' v.ownBlock → wpList Try.prog ops Q rest (a.put o.dst v') w') : wpList Try.prog ops Q (o :: rest) a w :=
  wpList_plain hgd fun _ hK => wp_append_bytes s x ho base v zs hs hown hx hI hlen hbase fun v' w' h1 h2 => hK _ _ (h v' w' h1 h2)

/-- One new byte, in a block of its own. -/
theorem bytes_one (w : World) (x : Nat) (hx : x < 256) : IsBytes (w.heap.size + 1) (w.alloc (.cells #[.int .u8 (x : Nat)] 5)) (some ⟨w.heap.size, 0, none⟩) 1 1 [x] := by
  refine ⟨rfl, by omega, by omega, by simpa using hx, .inr ⟨w.heap.size, 0, rfl, by omega, fun i hi => ?_⟩⟩
  obtain rfl : i = 0 := by omega
  exact (Row.new w 5 #[.int .u8 (x : Nat)]).cell (i := 0) rfl

/-- What a growing row of its own keeps. -/
theorem below_own {n₀ : Nat} {a w w' : World} {v : Value} {zs : List Nat} (h : Below n₀ a w) (hn : n₀ ≤ w.heap.size) (ho : Own n₀ w v zs) (hg : w.grownBy w' v.ownBlock) : Below n₀ a w' :=
  h.grown hg hn (fun k e => (World.ownsRow.lt ho k e).1)
end Go.Proofs.Ythdfhbbfbohojaa
/-
  Texts of bytes: what string(b) is for a slice of bytes, in whatever world lies behind; when two such texts are alike.
-/
namespace Go.Proofs.Ythdfhbbfbohojaa
open Go.RowKit

/-- The text of some bytes. -/
def strOf (zs : List Nat) : ByteArray := strOfNums (zs.map fun z : Nat => (z : Int))

theorem strOf_toList (zs : List Nat) : (strOf zs).toList = zs.map fun z => UInt8.ofNat z := by
  rw [ByteArray.toList_eq, strOf, strOfNums_data, List.map_map]
  rfl

theorem ofNat_inj {a b : Nat} (ha : a < 256) (hb : b < 256) (h : UInt8.ofNat a = UInt8.ofNat b) : a = b := by
  have := congrArg UInt8.toNat h
  simp at this
  omega

theorem map_ofNat_inj : ∀ {za zb : List Nat}, (∀ z ∈ za, z < 256) → (∀ z ∈ zb, z < 256) → za.map UInt8.ofNat = zb.map UInt8.ofNat → za = zb
  | [], [], _, _, _ => rfl
  | [], _ :: _, _, _, h => by simp at h
  | _ :: _, [], _, _, h => by simp at h
  | a :: za, b :: zb, ha, hb, h => by
    simp only [List.map_cons, List.cons.injEq] at h
    rw [ofNat_inj (ha a (by simp)) (hb b (by simp)) h.1, map_ofNat_inj (fun z hz => ha z (by simp [hz])) (fun z hz => hb z (by simp [hz])) h.2]

theorem strOf_eq (za zb : List Nat) (ha : ∀ z ∈ za, z < 256) (hb : ∀ z ∈ zb, z < 256) : ((strOf za).toList == (strOf zb).toList) = decide (za = zb) := by
  rw [Bool.eq_iff_iff]
  simp only [beq_iff_eq, decide_eq_true_eq, strOf_toList]
  exact ⟨map_ofNat_inj ha hb, fun h => by rw [h]⟩

/-- In whatever world that keeps what lies now, string(v) is s. -/
def Str (W : World) (v : Value) (s : ByteArray) : Prop := ∀ W', Below W.heap.size W W' → (convert 32 9 v).run Try.prog W' = .ok (.string s) W'

theorem Str.later {W W' : World} {v : Value} {s : ByteArray} (h : Str W v s) (hb : Below W.heap.size W W') : Str W' v s := fun W'' h' => h W'' (hb.trans (h'.mono hb.size))
theorem Str.here {W : World} {v : Value} {s : ByteArray} (h : Str W v s) : (convert 32 9 v).run Try.prog W = .ok (.string s) W := h W (Below.refl _ _)

theorem strOf_nil : strOf [] = ByteArray.empty := by
  simp [strOf, strOfNums, ByteArray.empty, ByteArray.emptyWithCapacity]
  rfl

theorem str_none (W : World) (p : Option Addr) (c : Nat) : Str W (.slice p 0 c) (strOf []) := fun W' _ => by
  cases p with
  | none => rw [strOf_nil]; exact run_convert_bytes_nil W' 32 5 Try.underlying32 Try.underlying5 0 c 9 Try.underlying9
  | some a =>
    rw [run_convert_bytes_string W' 32 9 5 _ 0 c Try.underlying32 Try.underlying5 Try.underlying9]
    have := run_bytesToString (P := Try.prog) W' a 0 c [] (by simp [loadCells, loadCellsFrom])
    rw [strOf_nil]; exact this

theorem str_of_cells {W : World} {b off len cap : Nat} {zs : List Nat} (hl : zs.length = len) (hb : b < W.heap.size) (h : ∀ i, i < len → W.cell? ⟨b, off + i, none⟩ = some (.int .u8 (zs.getD i 0 : Nat))) :
    Str W (.slice (some ⟨b, off, none⟩) len cap) (strOf zs) := fun W' hW =>
  run_convert_bytes_arg W' 32 5 Try.underlying32 Try.underlying5 b off len cap (zs.map fun z : Nat => (z : Int)) (by simpa using hl) (fun i hi => by
    rw [(hW.cell (p := ⟨b, off + i, none⟩) hb).trans (h i hi)]
    have hi' : i < zs.length := by omega
    simp [List.getElem?_eq_getElem hi']) 9 Try.underlying9

theorem str_of_bytes {W : World} {p : Option Addr} {len cap : Nat} {zs : List Nat} (h : IsBytes W.heap.size W p len cap zs) : Str W (.slice p len cap) (strOf zs) := by
  obtain ⟨h1, h2, h3, h4, rfl | ⟨b, off, rfl, hb, hc⟩⟩ := h
  · obtain rfl := List.length_eq_zero_iff.1 h1
    exact str_none W p cap
  · exact str_of_cells h1 hb hc

theorem str_of_row {W : World} {n₀ : Nat} {v : Value} {k : Nat} {zs : List Nat} (hl : zs.length = k) (h : W.ownsRow n₀ 5 1 v k (u8s zs)) : Str W v (strOf zs) := by
  rcases h.2 with ⟨rfl, rfl⟩ | ⟨g, cap, cur, rfl, hg, hgb, _⟩
  · obtain rfl := List.length_eq_zero_iff.1 hl
    exact str_none W none 0
  · refine str_of_cells hl (Array.getElem?_eq_some_iff.1 hgb).1 (fun i hi => ?_)
    rw [Nat.zero_add, h.cellAt i (by omega), u8s_at (by omega)]

end Go.Proofs.Ythdfhbbfbohojaa
/-
  Small laws of rows that are owned: how long such a slice is, what its cells are; a row in the middle. 
-/
namespace Go.Proofs.Ythdfhbbfbohojaa
open Go Go.RowKit

theorem own_len {W : World} {n₀ : Nat} {v : Value} {zs : List Nat} (h : Own n₀ W v zs) {n : Nat} (hn : zs.length = n) : ∃ q c, v = .slice q n c := by
  obtain ⟨q, c, e⟩ := h.slice
  exact ⟨q, c, by rw [e, hn]⟩
theorem row_some {W : World} {n₀ k c : Nat} {e : TypeId} {size : Nat} {q : Option Addr} {xs : List Value} (h : W.ownsRow n₀ e size (.slice q k c) k xs) (hk : 0 < k) : ∃ g, q = some ⟨g, 0, none⟩ ∧ g < W.heap.size := by
  rcases h.2 with ⟨h', _⟩ | ⟨g, cap, cur, h', _, hg, _⟩
  · simp at h'; omega
  · simp only [Value.slice.injEq] at h'
    exact ⟨g, h'.1, (Array.getElem?_eq_some_iff.1 hg).1⟩
theorem row_at {W : World} {n₀ k : Nat} {e : TypeId} {v : Value} {xs : List Value} (h : W.ownsRow n₀ e 1 v k xs) {j : Nat} (hj : j < k) : xs[j]? = some (xs.getD j undef) := by
  have hl : j < xs.length := by rw [h.1]; omega
  simp [List.getElem?_eq_getElem hl]
theorem row_of_own {W : World} {n₀ k c : Nat} {e : TypeId} {size : Nat} {q : Option Addr} {xs : List Value} (h : W.ownsRow n₀ e size (.slice q k c) k xs) (hk : 0 < k) : ∃ g cur, q = some ⟨g, 0, none⟩ ∧ n₀ ≤ g ∧ Row W g e cur ∧ cur.take (k * size) = xs := by
  rcases h.2 with ⟨h', _⟩ | ⟨g, cap, cur, h', hg, hgg, _, _, _, ht⟩
  · simp at h'; omega
  · simp only [Value.slice.injEq] at h'
    exact ⟨g, cur.toList, h'.1, hg, by unfold Row; rw [Array.toArray_toList]; exact hgg, ht⟩
theorem Row.mid {W : World} {g : Nat} {e : TypeId} {cur xs : List Value} (h : Row W g e cur) {n : Nat} (ht : cur.take n = xs) (o l : Nat) (hl : o + l ≤ n) : W.rangeAt g o ((xs.drop o).take l) := by
  intro j v hj
  have hjl : j < l := by
    rcases Nat.lt_or_ge j l with h | h
    · exact h
    · rw [List.getElem?_eq_none (by simp; omega)] at hj; cases hj
  apply h.cell
  rw [← ht] at hj
  simpa [List.getElem?_take, List.getElem?_drop, hjl, show o + j < n by omega] using hj
/-- The whole blocks of a text; all blocks. -/
def fullL (zs : List Nat) (k : Nat) : List (List Nat) := (List.range k).map fun j => (zs.drop (64 * j)).take 64
theorem fullL_succ (zs : List Nat) (k : Nat) : fullL zs k ++ [(zs.drop (64 * k)).take 64] = fullL zs (k + 1) := by simp [fullL, List.range_succ]
@[simp] theorem fullL_length (zs : List Nat) (k : Nat) : (fullL zs k).length = k := by simp [fullL]
end Go.Proofs.Ythdfhbbfbohojaa
/-
  What an operation leaves alone that writes one block; copy into a row as such. It names no program.
-/
namespace Go.Proofs.Ythdfhbbfbohojaa
open Go Go.RowKit

/-- All below n but block B is as it was. -/
structure But (B n : Nat) (w w' : World) : Prop where
  os : w'.os = w.os
  tape : w'.tape = w.tape
  output : w'.output = w.output
  size : w.heap.size ≤ w'.heap.size
  block : ∀ k, k < n → k ≠ B → w'.heap[k]? = w.heap[k]?
theorem But.refl (B n : Nat) (w : World) : But B n w w := ⟨rfl, rfl, rfl, Nat.le_refl _, fun _ _ _ => rfl⟩
theorem But.trans {B n : Nat} {a b c : World} (h : But B n a b) (k : But B n b c) : But B n a c := ⟨k.os.trans h.os, k.tape.trans h.tape, k.output.trans h.output, Nat.le_trans h.size k.size, fun i hi hB => (k.block i hi hB).trans (h.block i hi hB)⟩
theorem But.of_below {B n m : Nat} {w w' : World} (h : Below m w w') (hm : n ≤ m) : But B n w w' := ⟨h.os, h.tape, h.output, h.size, fun k hk _ => h.block k (by omega)⟩
theorem But.below {B n m : Nat} {w w' : World} (h : But B n w w') (hn : m ≤ n) (hB : m ≤ B) : Below m w w' := ⟨h.os, h.tape, h.output, h.size, fun k hk => h.block k (by omega) (by omega)⟩
theorem But.mono {B n m : Nat} {w w' : World} (h : But B n w w') (hn : m ≤ n) : But B m w w' := ⟨h.os, h.tape, h.output, h.size, fun k hk hB => h.block k (by omega) hB⟩
theorem But.set {B n : Nat} {w : World} (i : Nat) (v : Value) : But B n w (w.setCell ⟨B, i, none⟩ v) := by
  have h := (Below.refl 0 w).setCell (p := ⟨B, i, none⟩) (Nat.zero_le _) v
  exact ⟨h.os, h.tape, h.output, h.size, fun k _ hB => heap_setCell_other w ⟨B, i, none⟩ k v hB⟩
theorem But.sets {B n : Nat} : ∀ (vs : List Value) (o : Nat) (w : World), But B n w (w.setCells B o vs)
  | [], _, w => But.refl B n w
  | v :: r, o, _ => (But.set (i := o) (v := v)).trans (But.sets r (o + 1) _)
theorem But.drew {B n : Nat} {a w : World} (h : But B n a w) : But B n a w.drew := ⟨h.os, h.tape, h.output, h.size, h.block⟩
theorem But.row {B n b : Nat} {w w' : World} {t : TypeId} {c : List Value} (h : But B n w w') (hn : b < n) (hb : b ≠ B) (hr : Row w b t c) : Row w' b t c := (h.block b hn hb).trans hr
theorem But.alloc {B n : Nat} {a w : World} (h : But B n a w) (hn : n ≤ w.heap.size) (o : Obj) : But B n a (w.alloc o) := h.trans (But.of_below ((Below.refl _ w).alloc (Nat.le_refl _) o) hn)

/-- copy into a row: of all else nothing turns. -/
theorem wp_copy_but {P : Program} {o : Oper} {a : Act} {w : World} {K : Act → World → Prop} {Q : Exit → Act → World → Prop} (d s : Operand) (dT sT : TypeId)
    (ho : o.op = .call { callee := .builtin .copy, args := #[d, s], argTypes := #[dT, sT] }) (elem : TypeId) (hu : P.underlying dT = some (.slice elem)) (hsz : (P.info? elem).map (·.size) = some 1)
    (g off dLen dCap : Nat) (ad : Addr) (sLen sCap : Nat) (hd : a.eval d = .slice (some ⟨g, off, none⟩) dLen dCap) (hs : a.eval s = .slice (some ad) sLen sCap)
    (cur : List Value) (t : TypeId) (hg : Row w g t cur) (cs : List Value) (hn : cs.length = Nat.min sLen dLen)
    (hsrc : ∀ j v, cs[j]? = some v → w.cell? (ad.add j) = some v) (hfit : off + cs.length ≤ cur.length) (h1 : ∀ v ∈ cs, v.oneCell' = true)
    (h : ∀ w', Row w' g t (splice cur off cs) → But g w.heap.size w w' → K (a.put o.dst (goInt cs.length)) w') : Oper.wp P o a w K Q := by
  have hrun := run_copy_row (P := P) w dT sT o.type elem g off dLen dCap ad sLen sCap cur.toArray t cs hu hsz hg hn hsrc (by simpa using hfit) h1
  unfold Oper.wp
  simp [execOp, ho, resolve, invoke, builtin, hd, hs, hrun, Result.andThen]
  refine h _ ?_ ⟨rfl, rfl, rfl, by simp [World.setRow], fun k _ hk => setRow_other w g k _ hk⟩
  show _ = _
  simpa [splice] using setRow_heap w g _ _ t _ hg

/-- The cells of a slice that owns a row, for a copy. -/
theorem row_src {W : World} {n₀ k c g : Nat} {e : TypeId} {xs : List Value} (h : W.ownsRow n₀ e 1 (.slice (some ⟨g, 0, none⟩) k c) k xs) : ∀ j v, xs[j]? = some v → W.cell? ((⟨g, 0, none⟩ : Addr).add j) = some v := fun j v hv => by
  have hj : j < xs.length := by
    rcases Nat.lt_or_ge j xs.length with h | h
    · exact h
    · rw [List.getElem?_eq_none h] at hv; cases hv
  rw [Addr.add_mid, Nat.zero_add, h.cellAt j (by have := h.1; omega), hv]
end Go.Proofs.Ythdfhbbfbohojaa
/-
  Slices that make has made, rows that are filled by copy; the beginning of a slice. What is owned outlasts a write to another block.
-/
namespace Go.Proofs.Ythdfhbbfbohojaa
open Go.RowKit

/-- The cells of a slice that make has just made. -/
theorem row_of_made {W : World} {n₀ g n : Nat} {e : TypeId} {xs : List Value} (h : W.ownsRow n₀ e 1 (.slice (some ⟨g, 0, none⟩) n n) n xs) : Row W g e xs := by
  rcases h.2 with ⟨h', _⟩ | ⟨g', cap', cur, h', _, hg, _, _, hcs, htake⟩
  · simp at h'
  · simp only [Value.slice.injEq, Option.some.injEq, Addr.mk.injEq, and_true, true_and] at h'
    obtain ⟨rfl, rfl⟩ := h'
    unfold Row
    rw [hg]
    have : cur.toList = xs := by rw [← htake, List.take_of_length_le (by simp; omega)]
    rw [← this]

theorem made_zeros (n : Nat) : (madeCells (Value.int .u8 0).cells (n * 1)).toList = u8s (List.replicate n 0) := by
  simp [madeCells, u8s, Value.cells, Nat.mod_one, List.map_const']

/-- A slice that is its whole row. -/
theorem own_of_row {W : World} {n₀ g : Nat} {zs : List Nat} (hr : Row W g 5 (u8s zs)) (hg : n₀ ≤ g) (hc : zs.length ≤ 9223372036854775807) : Own n₀ W (.slice (some ⟨g, 0, none⟩) zs.length zs.length) zs := by
  refine ⟨by simp, .inr ⟨g, zs.length, (u8s zs).toArray, rfl, hg, hr, Nat.le_refl _, by simpa only [maxLen] using hc, by simp, ?_⟩⟩
  exact List.take_of_length_le (by simp)

/-- What a copy reads: the bytes of a slice. -/
theorem bytes_src {n₀ : Nat} {W : World} {p : Option Addr} {len cap : Nat} {zs : List Nat} (h : IsBytes n₀ W p len cap zs) : 0 < (u8s zs).length → ∃ ad, p = some ad ∧ ∀ j v, (u8s zs)[j]? = some v → W.cell? (ad.add j) = some v := by
  intro h0
  obtain ⟨h1, _, _, _, rfl | ⟨b, off, rfl, hb, hcs⟩⟩ := h
  · simp at h0; omega
  · refine ⟨_, rfl, fun j v hv => ?_⟩
    have hj : j < zs.length := by
      rcases Nat.lt_or_ge j zs.length with h | h
      · exact h
      · rw [List.getElem?_eq_none (by simpa using h)] at hv; cases hv
    rw [Addr.add_mid, hcs j (by omega), ← u8s_at hj, hv]

theorem splice_all (ts : List Nat) (n : Nat) (h : ts.length = n) : splice (u8s (List.replicate n 0)) 0 (u8s ts) = u8s ts := by
  simp [splice, u8s, h]

/-- The first bytes of a slice. -/
theorem IsBytes.head {n₀ : Nat} {W : World} {p : Option Addr} {len cap : Nat} {zs : List Nat} (h : IsBytes n₀ W p len cap zs) {k c : Nat} (hk : k ≤ len) (hkc : k ≤ c) (hc : c ≤ cap) : IsBytes n₀ W p k c (zs.take k) := by
  obtain ⟨h1, h2, h3, h4, h5⟩ := h
  refine ⟨by simp; omega, hkc, by omega, fun z hz => h4 z (List.mem_of_mem_take hz), ?_⟩
  rcases h5 with h | ⟨b, off, rfl, hb, hc⟩
  · exact .inl (by omega)
  · refine .inr ⟨b, off, rfl, hb, fun i hi => ?_⟩
    rw [hc i (by omega)]
    simp [hi]

/-- What is owned is not turned by a write to a block below it. -/
theorem Own.but {A A' : World} {n₀ B : Nat} {v : Value} {zs : List Nat} (h : Own n₀ A v zs) (hb : But B A.heap.size A A') (hB : B < n₀) : Own n₀ A' v zs := by
  refine ⟨h.1, ?_⟩
  rcases h.2 with hn | ⟨g, cap, cur, rfl, hg, hgg, rest⟩
  · exact .inl hn
  · exact .inr ⟨g, cap, cur, rfl, hg, (hb.block g (Array.getElem?_eq_some_iff.1 hgg).1 (by omega)).trans hgg, rest⟩
theorem own_str {W : World} {n₀ : Nat} {v : Value} {zs : List Nat} (h : Own n₀ W v zs) : Str W v (strOf zs) := str_of_row rfl h

end Go.Proofs.Ythdfhbbfbohojaa
