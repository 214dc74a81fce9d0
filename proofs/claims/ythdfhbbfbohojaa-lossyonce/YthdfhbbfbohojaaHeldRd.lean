/-
  Laws that name no program: in a function under the widest fence a region that draws its order may be walked in one way, as far as its operations only read what a word S tells of every world on the way; a call of a yield may stand among them. (The idea is the library's own for walks outside of a fence.)
-/
import Derived.Test.YthdfhbbfbohojaaBaseAll
namespace Go.Proofs.Ythdfhbbfbohojaa
open Go Go.RowKit

section
variable {li n : Nat} {P : Program} {ops : Array Oper} {Q : Exit → Act → World → Prop} {md : Region.Mode} {S : World → Prop}

/-- Whatever order is picked from here on; S holds behind every operation. -/
def wpAnyV (li n : Nat) (P : Program) (md : Region.Mode) (ops : Array Oper) (Q : Exit → Act → World → Prop) (S : World → Prop) : Nat → Array Bool → Act → World → Prop
  | 0, listed, a, w => Region.ready md ops listed = [] ∧ Q .normal a w
  | fuel + 1, listed, a, w => (Region.ready md ops listed = [] → Q .normal a w) ∧
    ∀ i ∈ Region.ready md ops listed, wpOpIn (Fence.wide.inRound li) n P ops Q i (fun a' w' => S w' ∧ wpAnyV li n P md ops Q S fuel (listed.setIfInBounds i true) a' w') a w

theorem wpAnyIn_of_wpAnyV : ∀ (fuel : Nat) (listed : Array Bool) (a : Act) (w : World), wpAnyV li n P md ops Q S fuel listed a w → wpAnyIn (Fence.wide.inRound li) n P md ops Q fuel listed a w
  | 0, _, _, _, h => h
  | fuel + 1, _, _, _, h => ⟨h.1, fun i hi => wpOpIn_mono (fun a' w' h' => wpAnyIn_of_wpAnyV fuel _ a' w' h'.2) (h.2 i hi)⟩

theorem opV_of_held {i : Nat} {o : Oper} {v : Value} {a : Act} (hnd : noDefer ops = true) (hi : ops[i]? = some o) (hy : YieldsIf P ops S o v a) {K : Act → World → Prop} {w : World} (hS : S w) (h : K (a.put o.dst v) w) : wpOpIn (Fence.wide.inRound li) n P ops Q i K a w := by
  unfold wpOpIn
  simp only [hi]
  rcases hy with ⟨hw, hv⟩ | ⟨hw, rfl⟩
  · rw [if_pos hw]
    unfold Oper.wpIn
    refine ⟨fun _ _ => trivial, ?_⟩
    rw [Oper.semAt_plain _ _ _ (noDefer_spec hnd hi), hv w hS]
    exact h
  · rw [if_neg (by simp [hw])]
    exact ⟨fun _ _ => trivial, h⟩

/-- What o yields does not hang on whether oj has come up; and the other way round. -/
theorem opV_apart {j : Nat} {o oj : Oper} {v : Value} (hnd : noDefer ops = true) (hj : ops[j]? = some oj) (hap : o.apart ops oj = true) (hs : ∀ cs b, o.op ≠ .select cs b) (hsj : ∀ cs b, oj.op ≠ .select cs b)
    (hQ : ∀ c a w, Q (.panic c) (a.put o.dst v) w → Q (.panic c) a w) {K : Act → World → Prop} {a : Act} {w : World} (hy : YieldsIf P ops S o v a) (h : wpOpIn (Fence.wide.inRound li) n P ops Q j K (a.put o.dst v) w) :
    wpOpIn (Fence.wide.inRound li) n P ops Q j (fun a' w' => YieldsIf P ops S o v a' ∧ K (a'.put o.dst v) w') a w := by
  obtain ⟨g1, g2, g3⟩ := Oper.apart_spec hap
  have stays : ∀ (b : Act), YieldsIf P ops S o v b → ∀ u, YieldsIf P ops S o v (b.put oj.dst u) := fun b hb u => hb.of_same (execOp_put o hs b oj.dst u g3) (wanted_put o b oj.dst u g3)
  have swaps : ∀ u, (a.put oj.dst u).put o.dst v = (a.put o.dst v).put oj.dst u := fun u => (Act.put_comm a v u g2).symm
  have next : ∀ u w', K ((a.put o.dst v).put oj.dst u) w' → YieldsIf P ops S o v (a.put oj.dst u) ∧ K ((a.put oj.dst u).put o.dst v) w' := fun u w' hk => ⟨stays a hy u, by rw [swaps]; exact hk⟩
  have hndj := noDefer_spec hnd hj
  unfold wpOpIn at *
  simp only [hj] at h ⊢
  rw [wanted_put oj a o.dst v g1] at h
  by_cases hw : Region.wanted oj (yielded ops a.tmps) = true
  · rw [if_pos hw] at h ⊢
    unfold Oper.wpIn at *
    refine ⟨fun _ _ => trivial, ?_⟩
    have h := h.2
    rw [Oper.semAt_plain _ _ _ hndj, execOp_put oj hsj a o.dst v g1] at h
    rw [Oper.semAt_plain _ _ _ hndj]
    generalize (execOp a.eval oj).run P w = r at *
    cases r with
    | ok x w' =>
      cases x <;> simp only [Oper.uponIn] at h ⊢
      case value u => exact next u w' h
      case skip => exact next _ w' h
      case defer d =>
        refine ⟨(show YieldsIf P ops S o v { a with defers := d :: a.defers } from hy.of_same rfl rfl).of_same (execOp_put o hs _ oj.dst _ g3) (wanted_put o _ oj.dst _ g3), ?_⟩
        rw [← Act.put_comm _ v undef g2, ← Act.put_defers]
        exact h
      case enter f args =>
        refine ⟨h.1, CallsIn.mono h.2 fun e w2 he => ?_⟩
        cases e with
        | returned u => exact next u w2 he
        | panicked c => exact hQ _ _ _ he
        | outgrown => exact he
      case row row args => exact ⟨h.1, RowsIn.mono h.2 fun u w2 he => next u w2 he⟩
      case round l f tmps assign body =>
        refine ⟨h.1, RoundIn.mono h.2 fun e w2 he => ?_⟩
        cases e with
        | returned u => exact next u w2 he
        | panicked c => exact hQ _ _ _ he
        | outgrown => exact he
    | halt x w' =>
      cases x <;> simp only [Oper.uponIn] at h ⊢
      case panic u => exact hQ _ _ _ h
  · rw [if_neg hw] at h ⊢
    exact ⟨fun _ _ => trivial, next _ w h.2⟩

theorem wpAnyV_first {i : Nat} {o : Oper} {v : Value} (hnd : noDefer ops = true) (hi : ops[i]? = some o) (hsel : ∀ (j : Nat) (o : Oper) cs b, ops[j]? = some o → o.op ≠ .select cs b)
    (hQ : ∀ c a w, Q (.panic c) (a.put o.dst v) w → Q (.panic c) a w) : ∀ (fuel : Nat) (listed : Array Bool) (a : Act) (w : World),
      (∀ j oj, ops[j]? = some oj → j ≠ i → listed.getD j true = false → (∀ e ∈ oj.after, Region.binds md e = true → e.on ≠ i) → o.apart ops oj = true) →
      i ∈ Region.ready md ops listed → YieldsIf P ops S o v a → S w →
      wpAnyV li n P md ops Q S fuel (listed.setIfInBounds i true) (a.put o.dst v) w → wpAnyV li n P md ops Q S (fuel + 1) listed a w
  | 0, listed, a, w, _, hr, hy, hS, H => by
    refine ⟨fun h => (by rw [h] at hr; cases hr), fun j hj => ?_⟩
    by_cases hji : j = i
    · subst hji; exact opV_of_held hnd hi hy hS ⟨hS, H⟩
    · have := ready_mono hj hji
      rw [H.1] at this
      cases this
  | fuel + 1, listed, a, w, hfree, hr, hy, hS, H => by
    refine ⟨fun h => (by rw [h] at hr; cases hr), fun j hj => ?_⟩
    by_cases hji : j = i
    · subst hji; exact opV_of_held hnd hi hy hS ⟨hS, H⟩
    · obtain ⟨hjun, oj, hoj, hall⟩ := mem_ready.1 hj
      have hnot : ∀ e ∈ oj.after, Region.binds md e = true → e.on ≠ i := fun e he hb heq => by
        have h1 := hall e he hb
        have h0 := (mem_ready.1 hr).1
        rw [heq] at h1
        rcases Nat.lt_or_ge i listed.size with h' | h'
        · simp [h'] at h0 h1; rw [h0] at h1; cases h1
        · simp [Array.getElem?_eq_none h'] at h1
      refine wpOpIn_mono (fun a' w' h3 => ⟨h3.2.1, wpAnyV_first hnd hi hsel hQ fuel (listed.setIfInBounds j true) a' w' (fun k ok hk hki hun hno => hfree k ok hk hki ?_ hno) (ready_mono hr (Ne.symm hji)) h3.1 h3.2.1 ?_⟩)
        (opV_apart hnd hoj (hfree j oj hoj hji hjun hnot) (fun cs b => hsel i o cs b hi) (fun cs b => hsel j oj cs b hoj) hQ hy (H.2 j (ready_mono hj hji)))
      · by_cases hjk : j = k
        · subst hjk; exact hjun
        · rw [getD_set_ne true hjk] at hun; exact hun
      · rw [Array.setIfInBounds_comm _ _ hji]
        exact h3.2.2

theorem wpAnyV_takes (hnd : noDefer ops = true) (hQ : ∀ c a w d v, Q (.panic c) (Act.put a d v) w → Q (.panic c) a w) (hs : Region.noSelect ops = true) {w : World} (hS : S w) (fuel : Nat) :
    ∀ (l : List Oper) (k : Nat) (listed : Array Bool) (a : Act), (∀ j, j < l.length → l[j]? = ops[k + j]?) → takesB md ops l.length k listed = true →
      wpHeld P ops S (fun a' => wpAnyV li n P md ops Q S fuel (listedFrom l.length k listed) a' w) l a → wpAnyV li n P md ops Q S (fuel + l.length) listed a w
  | [], _, _, _, _, _, h => h
  | o :: l, k, listed, a, hl, hB, h => by
    obtain ⟨v, hy, h⟩ := h
    have h0 : ops[k]? = some o := by simpa using (hl 0 (by simp)).symm
    simp only [List.length_cons, takesB, Bool.and_eq_true] at hB
    refine wpAnyV_first hnd h0 (Region.noSelect_spec hs) (fun c a w => hQ c a w _ _) _ listed a w (Region.free_spec h0 hB.1.2) (by simpa using hB.1.1) hy hS ?_
    exact wpAnyV_takes hnd hQ hs hS fuel l (k + 1) _ _ (fun j hj => by have := hl (j + 1) (by simp; omega); simpa [Nat.add_assoc, Nat.add_comm 1 j] using this) hB.2 h

/-- m operations from number k on, taken first, one behind the other. -/
theorem wpAnyV_takesAt {l : List Oper} (k m fuel : Nat) {N : Nat} {listed : Array Bool} {a : Act} {w : World} (hkm : k + m ≤ l.length) (hN : N = fuel + m) (hQ : ∀ c a w d v, Q (.panic c) (Act.put a d v) w → Q (.panic c) a w)
    (hs : Region.noSelect l.toArray = true) (hB : takesB md l.toArray m k listed = true) (hS : S w)
    (h : wpHeld P l.toArray S (fun a' => wpAnyV li n P md l.toArray Q S fuel (listedFrom m k listed) a' w) ((l.drop k).take m) a) (hnd : noDefer l.toArray = true := by kernel_rfl) : wpAnyV li n P md l.toArray Q S N listed a w := by
  have hl : ((l.drop k).take m).length = m := by simp; omega
  subst hN
  have := wpAnyV_takes (md := md) (n := n) hnd hQ hs hS fuel ((l.drop k).take m) k listed a (fun j hj => by
    rw [hl] at hj
    simp [hj]) (by rw [hl]; exact hB) (by rw [hl]; exact h)
  rwa [hl] at this

/-- Operation i alone may come up. -/
theorem wpAnyV_only {i fuel : Nat} {listed : Array Bool} {o : Oper} {a : Act} {w : World} (hr : Region.ready md ops listed = [i]) (ho : ops[i]? = some o) (hw : Region.wanted o (yielded ops a.tmps) = true)
    (h : ∀ K' : Act → World → Prop, Hid (∀ a w, S w → wpAnyV li n P md ops Q S fuel (listed.setIfInBounds i true) a w → K' a w) → o.wpIn (Fence.wide.inRound li) n P a w K' Q) : wpAnyV li n P md ops Q S (fuel + 1) listed a w := by
  refine ⟨fun h0 => (by rw [hr] at h0; cases h0), fun j hj => ?_⟩
  rw [hr] at hj
  have e : j = i := by simpa using hj
  subst e
  unfold wpOpIn
  simp only [ho, hw, if_true]
  exact h _ (fun _ _ hS h => ⟨hS, h⟩)
theorem wpAnyV_done {listed : Array Bool} {a : Act} {w : World} (hr : Region.ready md ops listed = []) (h : Q .normal a w) : ∀ fuel, wpAnyV li n P md ops Q S fuel listed a w
  | 0 => ⟨hr, h⟩
  | _ + 1 => ⟨fun _ => h, by rw [hr]; simp⟩
theorem wpIn_region_V {id : Nat} {a : Act} {w : World} (hm : P.follows .mixedOrders = true) (hS : S w.drew) (h : S w.drew → wpAnyV li n P .any ops Q S ops.size (Array.replicate ops.size false) a w.drew) : (Code.region id ops true).wpIn (Fence.wide.inRound li) n P Q a w :=
  wpIn_region_any hm (wpAnyIn_of_wpAnyV _ _ _ _ (h hS))

/-- The same; what stands behind the region is asked where it goes on, and nothing else is let be. -/
theorem wpIn_region_Vo {id : Nat} {a : Act} {w : World} (hm : P.follows .mixedOrders = true) (hS : S w.drew) (h : S w.drew → wpAnyV li n P .any ops (OnOnly Q) S ops.size (Array.replicate ops.size false) a w.drew) : (Code.region id ops true).wpIn (Fence.wide.inRound li) n P Q a w :=
  wpIn_mono (wpIn_region_V hm hS h) OnOnly.imp

end
end Go.Proofs.Ythdfhbbfbohojaa
