/-
  Three rows under way, and the ids that are gone through beside them: the reference's Walk.
-/
import Derived.Test.YtfclbdlkpnoceaaRFd
namespace Go.Proofs.Ytfclbdlkpnoceaa
open Go.RowKit Go.Shelf Go.Maps
attribute [local go_sem] Oper.semAt_some

def nums (ds : List Nat) : List Value := ds.map fun d => .int .i64 (d : Nat)
theorem info3 : (Try.prog.info? 3).map (fun i => (i.zero, i.size, i.bytes)) = some (some (.int .i64 0), 1, 8) := by kernel_rfl
def OwnNums (n₀ : Nat) (W : World) (v : Value) (ds : List Nat) : Prop := W.ownsRow n₀ 3 1 v ds.length (nums ds)
/-- Ids, appended to a row of one's own. -/
theorem run_append_ids (w : World) (base : Nat) (v : Value) (zs : List (List Nat)) (hown : OwnIds base w v zs) {n₀ : Nat} {p : Option Addr} {len cap : Nat} {ys : List (List Nat)} (hI : IsIds n₀ w p len cap ys) (hlen : zs.length + len ≤ 1000000) (hbase : base ≤ w.heap.size) :
    ∃ v' w', (Builtin.append_ #[23, 23] 23 #[v, .slice p len cap]).run Try.prog w = .ok v' w' ∧ OwnIds base w' v' (zs ++ ys) ∧ w.grownBy w' v.ownBlock ∧ (v'.ownBlock = v.ownBlock ∨ v'.ownBlock = some w.heap.size) := by
  obtain ⟨i0, hi, hz0, hz1, hz2⟩ := info_parts info33
  obtain ⟨h1, h2, h3, h4, h5⟩ := hI
  by_cases hpn : ∃ a, p = some a
  · obtain ⟨ad, rfl⟩ := hpn
    have hfl : (u8s ys.flatten).length = len * 32 := by
      rw [u8s_length, List.length_flatten, ← h1]
      clear h1 h2 h3 h5
      induction ys with
      | nil => rfl
      | cons a r ih => rw [List.map_cons, List.sum_cons, ih (fun x hx => h4 x (by simp [hx])), (h4 a (by simp)).1, List.length_cons]; omega
    have hnews : ∀ j u, (u8s ys.flatten)[j]? = some u → w.cell? (ad.add j) = some u := by
      rcases h5 with rfl | ⟨b, off, e, hb, hc⟩
      · obtain rfl := List.length_eq_zero_iff.1 h1
        intro j u hu
        simp [u8s] at hu
      · cases e
        intro j u hu
        have hj : j < len * 32 := by
          rcases Nat.lt_or_ge j (len * 32) with h | h
          · exact h
          · rw [List.getElem?_eq_none (by omega)] at hu; cases hu
        have hjk : j / 32 < len := by omega
        have h6 := flat_drop h4 (j / 32) (by omega)
        have h7 : (u8s (ys.getD (j / 32) []))[j % 32]? = some u := by
          rw [← h6, ← u8s_drop, List.getElem?_take, if_pos (by omega), List.getElem?_drop, show j / 32 * 32 + j % 32 = j by omega]
          exact hu
        have h8 := hc (j / 32) hjk (j % 32) u h7
        rw [Addr.add_mid]
        rw [show off + j / 32 * 32 + j % 32 = off + j by omega] at h8
        exact h8
    obtain ⟨v', w', hr, ho, hg, _, hob⟩ := run_append_own_at (P := Try.prog) w base 23 23 33 i0 _ 32 32 Try.underlying23 hi hz0 hz1 hz2 (by simp [Value.cells]) (by omega) v zs.length (u8s zs.flatten) hown ad len cap (u8s ys.flatten) hfl hnews (u8s_one _) (by simp only [maxLen]; omega) (by omega) hbase
    refine ⟨v', w', hr, ?_, hg, hob⟩
    unfold OwnIds
    rw [List.length_append, h1, List.flatten_append, ← u8s_append]
    exact ho
  · obtain rfl : p = none := by cases p with
      | none => rfl
      | some a => exact absurd ⟨a, rfl⟩ hpn
    have h0 : len = 0 := by
      rcases h5 with h | ⟨b, off, e, _⟩
      · exact h
      · cases e
    subst h0
    obtain rfl := List.length_eq_zero_iff.1 h1
    refine ⟨v, w, ?_, by rw [List.append_nil]; exact hown, ⟨rfl, rfl, rfl, Nat.le_refl _, fun _ _ _ => rfl⟩, .inl rfl⟩
    rcases hown.2 with ⟨rfl, _⟩ | ⟨g, cp, cur, rfl, _, _, hnc, _⟩
    · simp [Builtin.append_, run_underlying Try.underlying23, sizeOf, typeInfo, hi, Builtin.lenOf, Builtin.firstCells]
    · simp [Builtin.append_, run_underlying Try.underlying23, sizeOf, typeInfo, hi, Builtin.lenOf, Builtin.firstCells, hnc, storeCells]

/-- out, far, behind, and next. -/
structure RwK (Z : Nat) (W : World) (v6 v7 v10 : Value) (qn : Option Addr) (nn cn : Nat) (out : List (List Nat)) (far : List Nat) (beh next : List (List Nat)) : Prop where
  size : Z ≤ W.heap.size
  out : OwnIds Z W v6 out
  far : OwnNums Z W v7 far
  beh : OwnIds Z W v10 beh
  next : IsIds W.heap.size W qn nn cn next
  apart : ∀ k, v6.ownBlock = some k → v10.ownBlock ≠ some k
  aside : 0 < nn → ∀ a, qn = some a → a.block < W.heap.size ∧ v6.ownBlock ≠ some a.block ∧ v7.ownBlock ≠ some a.block ∧ v10.ownBlock ≠ some a.block
theorem IsIds.only' {n : Nat} {A B : World} {q : Option Addr} {len cap : Nat} {ids : List (List Nat)} (h : IsIds n A q len cap ids) (hk : 0 < len → ∀ a, q = some a → B.heap[a.block]? = A.heap[a.block]?) : IsIds n B q len cap ids := by
  rcases Nat.eq_zero_or_pos len with h0 | hp
  · exact ⟨h.1, h.2.1, h.2.2.1, h.2.2.2.1, .inl h0⟩
  · exact h.only (hk hp)
variable {Z : Nat} {W : World} {v6 v7 v10 : Value} {qn : Option Addr} {nn cn : Nat} {out : List (List Nat)} {far : List Nat} {beh next : List (List Nat)}
theorem RwK.later (h : RwK Z W v6 v7 v10 qn nn cn out far beh next) {B : World} (hb : Below W.heap.size W B) : RwK Z B v6 v7 v10 qn nn cn out far beh next :=
  ⟨Nat.le_trans h.size hb.size, h.out.later hb, ownsRow_later hb h.far, h.beh.later hb, (h.next.below hb).mono hb.size, h.apart, fun hp a ha => ⟨Nat.lt_of_lt_of_le (h.aside hp a ha).1 hb.size, (h.aside hp a ha).2⟩⟩
theorem ownsRow_apart {M t sz n : Nat} {A B : World} {v : Value} {cs : List Value} {ob : Option Nat} (h : A.ownsRow M t sz v n cs) (hg : A.grownBy B ob) (hne : ∀ k, v.ownBlock = some k → ob ≠ some k) : B.ownsRow M t sz v n cs := by
  refine ⟨h.1, ?_⟩
  rcases h.2 with h | ⟨g, c, cur, e, hgz, hgg, hnc, hm, hsz, ht⟩
  · exact .inl h
  · exact .inr ⟨g, c, cur, e, hgz, (hg.block g (Array.getElem?_eq_some_iff.1 hgg).1 (fun e' => hne g (by rw [e]; rfl) e'.symm)).trans hgg, hnc, hm, hsz, ht⟩
theorem row_types {M t t' sz sz' n n' : Nat} {A : World} {v v' : Value} {cs cs' : List Value} (h : A.ownsRow M t sz v n cs) (h' : A.ownsRow M t' sz' v' n' cs') (ht : t ≠ t') : ∀ k, v.ownBlock = some k → v'.ownBlock ≠ some k := fun k e e' => by
  obtain ⟨_, _, c, fr, h1⟩ := own_block h e
  obtain ⟨_, _, c', fr', h2⟩ := own_block h' e'
  rw [h1] at h2
  cases h2
  exact ht rfl
theorem RwK.app6 (h : RwK Z W v6 v7 v10 qn nn cn out far beh next) {x : List Nat} (hx : IsId x) (hl : out.length ≤ 100000) :
    ∃ v' W', (Builtin.append_ #[23, 23] 23 #[v6, .slice (some ⟨W.heap.size, 0, none⟩) 1 1]).run Try.prog (W.alloc (.cells (u8s x).toArray 33)) = .ok v' W' ∧ RwK Z W' v' v7 v10 qn nn cn (out ++ [x]) far beh next ∧ Below Z W W' := by
  have hb4 : Below W.heap.size W (W.alloc (.cells (u8s x).toArray 33)) := (Below.refl _ W).alloc (Nat.le_refl _) _
  have h4 := h.later hb4
  have hs4 : (W.alloc (.cells (u8s x).toArray 33)).heap.size = W.heap.size + 1 := by simp
  have hI : IsIds (W.heap.size + 1) (W.alloc (.cells (u8s x).toArray 33)) (some ⟨W.heap.size, 0, none⟩) 1 1 [x] := ⟨rfl, Nat.le_refl _, by omega, fun y hy => by simp at hy; subst hy; exact hx, .inr ⟨W.heap.size, 0, rfl, by omega, fun i hi => by
    obtain rfl : i = 0 := by omega
    simpa using (Row.new' W 33 (u8s x)).range⟩⟩
  generalize W.alloc (.cells (u8s x).toArray 33) = W4 at *
  obtain ⟨v', w', hr, ho, hg, hob⟩ := run_append_ids W4 Z v6 out h4.out hI (by omega) h4.size
  have hne10 : ∀ k, v10.ownBlock = some k → v6.ownBlock ≠ some k := fun k e e' => h.apart k e' e
  refine ⟨v', w', hr, ⟨Nat.le_trans h4.size hg.size, ho, ownsRow_apart h4.far hg (row_types h4.far h4.out (by decide)), ownsRow_apart h4.beh hg hne10, (h4.next.only' (fun hp a ha => hg.block _ (by have := (h4.aside hp a ha).1; omega) (fun e => (h4.aside hp a ha).2.1 e.symm))).mono hg.size, fun k e e' => ?_, fun hp a ha => ?_⟩, (hb4.mono h.size).trans (below_grown h4.out h4.size hg)⟩
  · rcases hob with e2 | e2
    · rw [e2] at e; exact h.apart k e e'
    · rw [e2] at e; cases e; have := (own_block h.beh e').2.1; omega
  · have h5 := h.aside hp a ha
    refine ⟨by have := hg.size; omega, ?_, h5.2.2⟩
    rcases hob with e2 | e2
    · rw [e2]; exact h5.2.1
    · rw [e2]; intro e3; have := Option.some.inj e3; omega
theorem RwK.app7 (h : RwK Z W v6 v7 v10 qn nn cn out far beh next) (d : Nat) (hl : far.length ≤ 100000) :
    ∃ v' W', (Builtin.append_ #[26, 26] 26 #[v7, .slice (some ⟨W.heap.size, 0, none⟩) 1 1]).run Try.prog (W.alloc (.cells #[.int .i64 (d : Nat)] 3)) = .ok v' W' ∧ RwK Z W' v6 v' v10 qn nn cn out (far ++ [d]) beh next ∧ Below Z W W' := by
  obtain ⟨i0, hi, hz0, hz1, hz2⟩ := info_parts info3
  have hb4 : Below W.heap.size W (W.alloc (.cells #[.int .i64 (d : Nat)] 3)) := (Below.refl _ W).alloc (Nat.le_refl _) _
  have h4 := h.later hb4
  have hs4 : (W.alloc (.cells #[.int .i64 (d : Nat)] 3)).heap.size = W.heap.size + 1 := by simp
  have hrg : (W.alloc (.cells #[.int .i64 (d : Nat)] 3)).rangeAt W.heap.size 0 [.int .i64 (d : Nat)] := (Row.new' W 3 [.int .i64 (d : Nat)]).range
  generalize W.alloc (.cells #[.int .i64 (d : Nat)] 3) = W4 at *
  obtain ⟨v', w', hr, ho, hg, _, hob⟩ := run_append_own_at (P := Try.prog) W4 Z 26 26 3 i0 _ 1 8 Try.underlying26 hi hz0 hz1 hz2 rfl (by omega) v7 far.length (nums far) h4.far ⟨W.heap.size, 0, none⟩ 1 1 [.int .i64 (d : Nat)] rfl (fun j u hu => by rw [Addr.add_mid]; exact hrg j u hu) (by simp [Value.oneCell']) (by simp only [maxLen]; omega) (by omega) h4.size
  refine ⟨v', w', hr, ⟨Nat.le_trans h4.size hg.size, ownsRow_apart h4.out hg (row_types h4.out h4.far (by decide)), ?_, ownsRow_apart h4.beh hg (row_types h4.beh h4.far (by decide)), (h4.next.only' (fun hp a ha => hg.block _ (by have := (h4.aside hp a ha).1; omega) (fun e => (h4.aside hp a ha).2.2.1 e.symm))).mono hg.size, h.apart, fun hp a ha => ?_⟩, (hb4.mono h.size).trans (below_grown h4.far h4.size hg)⟩
  · unfold OwnNums nums
    rw [List.length_append, List.map_append]
    exact ho
  · have h5 := h.aside hp a ha
    refine ⟨by have := hg.size; omega, h5.2.1, ?_, h5.2.2.2⟩
    rcases hob with e2 | e2
    · rw [e2]; exact h5.2.2.1
    · rw [e2]; intro e3; have := Option.some.inj e3; omega
theorem RwK.app10 (h : RwK Z W v6 v7 v10 qn nn cn out far beh next) {n₀ : Nat} {p : Option Addr} {len cap : Nat} {ys : List (List Nat)} (hI : IsIds n₀ W p len cap ys) (hl : beh.length + len ≤ 1000000) :
    ∃ v' W', (Builtin.append_ #[23, 23] 23 #[v10, .slice p len cap]).run Try.prog W = .ok v' W' ∧ RwK Z W' v6 v7 v' qn nn cn out far (beh ++ ys) next ∧ Below Z W W' := by
  obtain ⟨v', w', hr, ho, hg, hob⟩ := run_append_ids W Z v10 beh h.beh hI hl h.size
  refine ⟨v', w', hr, ⟨Nat.le_trans h.size hg.size, ownsRow_apart h.out hg h.apart, ownsRow_apart h.far hg (row_types h.far h.beh (by decide)), ho, (h.next.only' (fun hp a ha => hg.block _ (h.aside hp a ha).1 (fun e => (h.aside hp a ha).2.2.2 e.symm))).mono hg.size, fun k e e' => ?_, fun hp a ha => ?_⟩, below_grown h.beh h.size hg⟩
  · rcases hob with e2 | e2
    · rw [e2] at e'; exact h.apart k e e'
    · rw [e2] at e'; cases e'; have := (own_block h.out e).2.1; omega
  · have h5 := h.aside hp a ha
    refine ⟨by have := hg.size; omega, h5.2.1, h5.2.2.1, ?_⟩
    rcases hob with e2 | e2
    · rw [e2]; exact h5.2.2.2
    · rw [e2]; intro e3; have := Option.some.inj e3; omega
end Go.Proofs.Ytfclbdlkpnoceaa
