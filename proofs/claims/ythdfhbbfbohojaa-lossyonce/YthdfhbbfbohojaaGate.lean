/-
  A law of the walk that names no program: a region that draws its order and whose operation number c (the first that writes) waits for all that read: what is read hangs on the world ahead of c alone; behind c nothing is asked of the world.
-/
import Derived.Test.YthdfhbbfbohojaaBaseAll
import Derived.StillTail
import Derived.Deep.MidRow
namespace Go.Proofs.Ythdfhbbfbohojaa
open Go Go.RowKit

section
variable {P : Program} {ops : Array Oper} {Q : Exit → Act → World → Prop} {md : Region.Mode} {c : Nat} {T : World → Prop}

theorem gone {b : Bool} {p : Prop} (h : b = true) : b = false → p := fun h' => by rw [h] at h'; cases h'

/-- Whatever order is picked from here on, and T holds behind every operation that is carried out ahead of c. -/
def wpAnyG (P : Program) (md : Region.Mode) (ops : Array Oper) (Q : Exit → Act → World → Prop) (c : Nat) (T : World → Prop) : Nat → Array Bool → Act → World → Prop
  | 0, listed, a, w => Region.ready md ops listed = [] ∧ Q .normal a w
  | fuel + 1, listed, a, w =>
    (Region.ready md ops listed = [] → Q .normal a w) ∧
    ∀ i ∈ Region.ready md ops listed, wpOp P ops Q i (fun a' w' => ((listed.setIfInBounds i true).getD c false = false → T w') ∧ wpAnyG P md ops Q c T fuel (listed.setIfInBounds i true) a' w') a w

theorem wpAny_of_G : ∀ (fuel : Nat) (listed : Array Bool) (a : Act) (w : World), wpAnyG P md ops Q c T fuel listed a w → wpAny P md ops Q fuel listed a w
  | 0, _, _, _, h => h
  | fuel + 1, _, _, _, h => ⟨h.1, fun i hi => wpOp_mono (fun a' w' h' => wpAny_of_G fuel _ a' w' h'.2) (h.2 i hi)⟩

theorem wpAnyG_first {i : Nat} {oi : Oper} {v : Value} (hi : ops[i]? = some oi) (hsel : ∀ (j : Nat) (o : Oper) cs b, ops[j]? = some o → o.op ≠ .select cs b)
    (hQ : ∀ c a w, Q (.panic c) (a.put oi.dst v) w → Q (.panic c) a w) (hic : i ≠ c) :
    ∀ (fuel : Nat) (listed : Array Bool) (a : Act) (w : World),
      (∀ j oj, ops[j]? = some oj → j ≠ i → listed.getD j true = false → (∀ e ∈ oj.after, Region.binds md e = true → e.on ≠ i) → oi.apart ops oj = true) →
      i ∈ Region.ready md ops listed → (Region.waitsFor md ops c i = true → listed.getD c false = false) → YieldsIf P ops (fun w => Region.waitsFor md ops c i = true → T w) oi v a → (listed.getD c false = false → T w) →
      wpAnyG P md ops Q c T fuel (listed.setIfInBounds i true) (a.put oi.dst v) w → wpAnyG P md ops Q c T (fuel + 1) listed a w := by
  intro fuel
  induction fuel with
  | zero =>
    intro listed a w _ hr hc hy hS H
    refine ⟨fun h => (by rw [h] at hr; cases hr), fun j hj => ?_⟩
    by_cases hji : j = i
    · subst hji; exact hy.wpOp hi (fun h => hS (hc h)) ⟨fun h => hS (by rwa [getD_set_ne false hic] at h), H⟩
    · have := ready_mono hj hji
      rw [H.1] at this
      cases this
  | succ fuel ih =>
    intro listed a w hfree hr hc hy hS H
    refine ⟨fun h => (by rw [h] at hr; cases hr), fun j hj => ?_⟩
    by_cases hji : j = i
    · subst hji; exact hy.wpOp hi (fun h => hS (hc h)) ⟨fun h => hS (by rwa [getD_set_ne false hic] at h), H⟩
    · have h1 := H.2 j (ready_mono hj hji)
      obtain ⟨hjun, oj, hoj, hall⟩ := mem_ready.1 hj
      have hnot : ∀ e ∈ oj.after, Region.binds md e = true → e.on ≠ i := fun e he hb heq => by
        have h1 := hall e he hb
        have h0 := (mem_ready.1 hr).1
        rw [heq] at h1
        rcases Nat.lt_or_ge i listed.size with h' | h'
        · simp [h'] at h0 h1; rw [h0] at h1; cases h1
        · simp [Array.getElem?_eq_none h'] at h1
      have h2 := wpOp_putIf hoj (hfree j oj hoj hji hjun hnot) (fun cs b => hsel i oi cs b hi) (fun cs b => hsel j oj cs b hoj) hQ hy h1
      have hfree' : ∀ k ok, ops[k]? = some ok → k ≠ i → (listed.setIfInBounds j true).getD k true = false →
          (∀ e ∈ ok.after, Region.binds md e = true → e.on ≠ i) → oi.apart ops ok = true := fun k ok hk hki hun hno => by
        refine hfree k ok hk hki ?_ hno
        by_cases hjk : j = k
        · subst hjk; exact hjun
        · rw [getD_set_ne true hjk] at hun; exact hun
      have hc' : Region.waitsFor md ops c i = true → (listed.setIfInBounds j true).getD c false = false := fun hw => by
        by_cases hjc : j = c
        · subst hjc
          obtain ⟨o', ho', e, he, hb, hon⟩ := Region.waitsFor_spec hw
          obtain rfl := Option.some.inj (hoj.symm.trans ho')
          exact absurd hon (hnot e he hb)
        · rw [getD_set_ne false hjc]; exact hc hw
      refine wpOp_mono (fun a' w' h3 => ?_) h2
      have hS' : (listed.setIfInBounds j true).getD c false = false → T w' := fun h => h3.2.1 (by rw [Array.setIfInBounds_comm _ _ (Ne.symm hji), getD_set_ne false hic]; exact h)
      refine ⟨hS', ih (listed.setIfInBounds j true) a' w' hfree' (ready_mono hr (Ne.symm hji)) hc' h3.1 hS' ?_⟩
      rw [Array.setIfInBounds_comm _ _ hji]
      exact h3.2.2

/-- The operations k, .., k + m - 1 may be taken first, one behind the other; those that c waits for only while c is still to come. -/
def takesGB (md : Region.Mode) (ops : Array Oper) (c : Nat) : Nat → Nat → Array Bool → Bool
  | 0, _, _ => true
  | m + 1, k, listed => (Region.ready md ops listed).contains k && Region.free md ops listed k && (k != c) && (!Region.waitsFor md ops c k || !listed.getD c false) && takesGB md ops c m (k + 1) (listed.setIfInBounds k true)

/-- Each operation yields its value in every world, or, where c waits for it, in every world that meets T. -/
def wpHeldG (P : Program) (md : Region.Mode) (ops : Array Oper) (c : Nat) (T : World → Prop) (K : Act → Prop) : Nat → List Oper → Act → Prop
  | _, [], a => K a
  | k, o :: rest, a => ∃ v, YieldsIf P ops (fun w => Region.waitsFor md ops c k = true → T w) o v a ∧ wpHeldG P md ops c T K (k + 1) rest (a.put o.dst v)

theorem wpHeldG_nil {K : Act → Prop} {k : Nat} {a : Act} (h : K a) : wpHeldG P md ops c T K k [] a := h
/-- .. in every world. -/
theorem wpHeldG_free {K : Act → Prop} {k : Nat} {a : Act} {o : Oper} {rest : List Oper} {v : Value} (hw : Region.wanted o (yielded ops a.tmps) = true)
    (hy : ∀ w, (execOp a.eval o).run P w = .ok (.value v) w) (h : wpHeldG P md ops c T K (k + 1) rest (a.put o.dst v)) : wpHeldG P md ops c T K k (o :: rest) a :=
  ⟨v, .inl ⟨hw, fun w _ => hy w⟩, h⟩
/-- .. in every world that meets T. -/
theorem wpHeldG_step {K : Act → Prop} {k : Nat} {a : Act} {o : Oper} {rest : List Oper} {v : Value} (hw : Region.wanted o (yielded ops a.tmps) = true) (hc : Region.waitsFor md ops c k = true)
    (hy : ∀ w, T w → (execOp a.eval o).run P w = .ok (.value v) w) (h : wpHeldG P md ops c T K (k + 1) rest (a.put o.dst v)) : wpHeldG P md ops c T K k (o :: rest) a :=
  ⟨v, .inl ⟨hw, fun w h => hy w (h hc)⟩, h⟩

theorem wpAnyG_takes (hQ : ∀ c a w d v, Q (.panic c) (Act.put a d v) w → Q (.panic c) a w) (hs : Region.noSelect ops = true) {w : World} (fuel : Nat) :
    ∀ (l : List Oper) (k : Nat) (listed : Array Bool) (a : Act), (listed.getD c false = false → T w) → (∀ j, j < l.length → l[j]? = ops[k + j]?) → takesGB md ops c l.length k listed = true →
      wpHeldG P md ops c T (fun a' => wpAnyG P md ops Q c T fuel (listedFrom l.length k listed) a' w) k l a → wpAnyG P md ops Q c T (fuel + l.length) listed a w
  | [], _, _, _, _, _, _, h => h
  | o :: l, k, listed, a, hS, hl, hB, h => by
    obtain ⟨v, hy, h⟩ := h
    have h0 : ops[k]? = some o := by simpa using (hl 0 (by simp)).symm
    simp only [List.length_cons, takesGB, Bool.and_eq_true, Bool.or_eq_true, Bool.not_eq_true', bne_iff_ne, ne_eq] at hB
    obtain ⟨⟨⟨⟨hr, hf⟩, hkc⟩, hw⟩, hB'⟩ := hB
    refine wpAnyG_first h0 (Region.noSelect_spec hs) (fun c a w => hQ c a w _ _) hkc _ listed a w (Region.free_spec h0 hf) (by simpa using hr) (fun hh => hw.resolve_left (by rw [hh]; exact Bool.noConfusion)) hy hS ?_
    exact wpAnyG_takes hQ hs fuel l (k + 1) _ _ (fun h => hS (by rwa [getD_set_ne false hkc] at h)) (fun j hj => by have := hl (j + 1) (by simp; omega); simpa [Nat.add_assoc, Nat.add_comm 1 j] using this) hB' h

/-- m operations from number k on, taken first, one behind the other. -/
theorem wpAnyG_takesAt {l : List Oper} (k m fuel : Nat) {N : Nat} {listed : Array Bool} {a : Act} {w : World} (hkm : k + m ≤ l.length) (hN : N = fuel + m) (hQ : ∀ c a w d v, Q (.panic c) (Act.put a d v) w → Q (.panic c) a w)
    (hs : Region.noSelect l.toArray = true) (hB : takesGB md l.toArray c m k listed = true) (hS : listed.getD c false = false → T w)
    (h : wpHeldG P md l.toArray c T (fun a' => wpAnyG P md l.toArray Q c T fuel (listedFrom m k listed) a' w) k ((l.drop k).take m) a) : wpAnyG P md l.toArray Q c T N listed a w := by
  have hl : ((l.drop k).take m).length = m := by simp; omega
  subst hN
  have := wpAnyG_takes (md := md) hQ hs fuel ((l.drop k).take m) k listed a hS (fun j hj => by
    rw [hl] at hj
    simp [hj]) (by rw [hl]; exact hB) (by rw [hl]; exact h)
  rwa [hl] at this

/-- Whatever order: operation i alone may come up. -/
theorem wpAnyG_only {i fuel : Nat} {listed : Array Bool} {o : Oper} {a : Act} {w : World} (hr : Region.ready md ops listed = [i]) (ho : ops[i]? = some o) (hw : Region.wanted o (yielded ops a.tmps) = true)
    (h : ∀ K' : Act → World → Prop, Hid (∀ a w, ((listed.setIfInBounds i true).getD c false = false → T w) → wpAnyG P md ops Q c T fuel (listed.setIfInBounds i true) a w → K' a w) → Oper.wp P o a w K' Q) :
    wpAnyG P md ops Q c T (fuel + 1) listed a w :=
  ⟨fun h0 => (by rw [hr] at h0; cases h0), fun j hj => by
    rw [hr] at hj
    have : j = i := by simpa using hj
    subst this
    exact wpOp_step ho (fun K' hK => by rw [if_pos hw]; exact h K' (fun a w hS hW => hK a w ⟨hS, hW⟩))⟩

theorem wpAnyG_done {listed : Array Bool} {a : Act} {w : World} (hr : Region.ready md ops listed = []) (h : Q .normal a w) :
    ∀ fuel, wpAnyG P md ops Q c T fuel listed a w
  | 0 => ⟨hr, h⟩
  | _ + 1 => ⟨fun _ => h, by rw [hr]; simp⟩

/-- The beginning: a region that draws its order. -/
theorem wp_region_gate' {id : Nat} {a : Act} {w : World} (c : Nat) (T : World → Prop) (hm : P.follows .mixedOrders = true)
    (h : wpAnyG P .any ops Q c T ops.size (Array.replicate ops.size false) a w.drew) : (Code.region id ops true).wp P Q a w :=
  wp_region_any hm (wpAny_of_G _ _ _ _ h)
/-- .. cut off: what it leaves is R. -/
theorem wp_region_gate {id : Nat} {a : Act} {w : World} (c : Nat) (T : World → Prop) (R : Act → World → Prop) (hm : P.follows .mixedOrders = true)
    (h : wpAnyG P .any ops (OnOnly fun _ a w => R a w) c T ops.size (Array.replicate ops.size false) a w.drew) (hR : ∀ a' w', R a' w' → Q .normal a' w') : (Code.region id ops true).wp P Q a w := by
  refine wp_mono (wp_region_any hm (wpAny_of_G _ _ _ _ h)) (fun e a' w' h' => ?_)
  cases e <;> first | exact hR _ _ h' | exact (h' : False).elim
/-- .. in a round. -/
theorem wpIn_region_gate_round {l m id : Nat} {a : Act} {w : World} (c : Nat) (T : World → Prop) (R : Act → World → Prop) (hm : P.follows .mixedOrders = true) (hd : noDefer ops = true)
    (h : wpAnyG P .any ops (OnOnly fun _ a w => R a w) c T ops.size (Array.replicate ops.size false) a w.drew) (hR : ∀ a' w', R a' w' → Q .normal a' w') : (Code.region id ops true).wpIn (Fence.wide.inRound l) m P Q a w := by
  refine wpIn_mono (wpIn_region_any hm (wpAnyIn_of_wpAny l m hd OnOnly.not_out _ _ _ _ (wpAny_of_G _ _ _ _ h))) (fun e a' w' h' => ?_)
  cases e <;> first | exact hR _ _ h' | exact (h' : False).elim
/-- A whole load. -/
theorem wpHeldG_loadS {K : Act → Prop} {k : Nat} {a : Act} {o : Oper} {rest : List Oper} (hw : Region.wanted o (yielded ops a.tmps) = true) (hc : Region.waitsFor md ops c k = true) (ty : TypeId) (x : Operand) (ho : o.op = .load ty x)
    (b off : Nat) (hx : a.eval x = .pointer (some ⟨b, off, none⟩)) (cs : List Value) {d : TypeDesc} (hS : ∀ w, T w → w.rangeAt b off cs) (hu : P.underlying ty = some d) (hd : d.isRow = true) (hi : (P.info? ty).map (·.size) = some cs.length)
    (h : wpHeldG P md ops c T K (k + 1) rest (a.put o.dst (.agg cs.toArray))) : wpHeldG P md ops c T K k (o :: rest) a := ⟨_, yieldsIf_load_mid hw ty x ho b off hx cs _ (fun w h => hS w (h hc)) hu hd hi, h⟩
end
end Go.Proofs.Ythdfhbbfbohojaa
