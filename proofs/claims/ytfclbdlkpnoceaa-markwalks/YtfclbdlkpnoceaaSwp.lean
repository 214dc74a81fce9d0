/-
  Sweep: what is kept, what goes.
-/
import Derived.Test.YtfclbdlkpnoceaaOwn
namespace Go.Proofs.Ytfclbdlkpnoceaa
open Go.RowKit Go.Shelf Go.Maps
attribute [local go_sem] Oper.semAt_some

set_option maxHeartbeats 1000000 in
theorem clipO_any (q : Option Addr) (n c : Nat) (w : World) (hn : n ≤ c) (hc : c ≤ 9223372036854775807) (hq : q = none → n = 0 ∧ c = 0) :
    Calls Try.prog 27 #[.slice q n c] w fun e w' => e = .returned (.slice q n n) ∧ w' = w := by
  cases q with
  | none =>
    obtain ⟨rfl, rfl⟩ := hq rfl
    go_enter Try.func27, Try.ntmps27
    go_wp2
    go_ret
    exact ⟨rfl, rfl⟩
  | some a =>
    have h1 : (n : Int) ≤ (c : Int) := by omega
    go_enter Try.func27, Try.ntmps27
    go_wp2
    go_ret
    exact ⟨rfl, rfl⟩
theorem wpListIn_operW {n : Nat} {P : Program} {ops : Array Oper} {rest : List Oper} {o : Oper} {a : Act} {w : World} {Q : Exit → Act → World → Prop} (hgd : o.guard = none) (hd : ∀ c, o.op ≠ .defer c)
    (h : ∀ K : Act → World → Prop, (∀ a w, wpListIn Fence.wide n P ops Q rest a w → K a w) → o.wp P a w K Q) : wpListIn Fence.wide n P ops Q (o :: rest) a w :=
  wpListIn_plain hgd fun K hK => operIn_wide n hd (h K hK)
/-- Two rows under way, and the links of the first one's objects beside them. -/
def SwK (M : Nat) (W : World) (v4 v5 : Value) (ks : List O) (gs : List (List Nat)) : Prop :=
  M ≤ W.heap.size ∧ OwnO M W v4 ks ∧ OwnIds M W v5 gs ∧ (∀ o ∈ ks, o.ok ∧ Fresh M W o ∧ ∀ a, o.q = some a → a.block < W.heap.size ∧ v4.ownBlock ≠ some a.block ∧ v5.ownBlock ≠ some a.block) ∧ ∀ x ∈ gs, IsId x
theorem Fresh.only {M : Nat} {A B : World} {o : O} (h : Fresh M A o) (hs : A.heap.size ≤ B.heap.size) (hk : ∀ a, o.q = some a → B.heap[a.block]? = A.heap[a.block]?) : Fresh M B o := ⟨(h.1.only hk).mono hs, h.2.1, fun a ha => ⟨(h.2.2 a ha).1, Nat.lt_of_lt_of_le (h.2.2 a ha).2 hs⟩⟩
theorem SwK.later {M : Nat} {A B : World} {v4 v5 : Value} {ks : List O} {gs : List (List Nat)} (h : SwK M A v4 v5 ks gs) (hb : Below A.heap.size A B) : SwK M B v4 v5 ks gs :=
  ⟨Nat.le_trans h.1 hb.size, h.2.1.later hb, h.2.2.1.later hb, fun o ho => ⟨(h.2.2.2.1 o ho).1, (h.2.2.2.1 o ho).2.1.only hb.size (fun a ha => hb.block _ ((h.2.2.2.1 o ho).2.2 a ha).1), fun a ha => ⟨Nat.lt_of_lt_of_le ((h.2.2.2.1 o ho).2.2 a ha).1 hb.size, ((h.2.2.2.1 o ho).2.2 a ha).2⟩⟩, h.2.2.2.2⟩
theorem own_block {M t sz n : Nat} {W : World} {v : Value} {cs : List Value} (h : W.ownsRow M t sz v n cs) {k : Nat} (e : v.ownBlock = some k) : M ≤ k ∧ k < W.heap.size ∧ ∃ c fr, W.heap[k]? = some (.cells c t fr) := by
  rcases h.2 with ⟨e', _⟩ | ⟨g, c', cur, e', hgz, hgg, _⟩
  · rw [e'] at e; cases e
  · rw [e'] at e
    obtain rfl : g = k := by cases e; rfl
    exact ⟨hgz, (Array.getElem?_eq_some_iff.1 hgg).1, _, _, hgg⟩
theorem ownsRow_grown {M t t' sz n : Nat} {A B : World} {v v' : Value} {cs : List Value} {n' sz' : Nat} {cs' : List Value} (h : A.ownsRow M t sz v n cs) (hr : A.ownsRow M t' sz' v' n' cs') (ht : t ≠ t') (hg : A.grownBy B v'.ownBlock) : B.ownsRow M t sz v n cs :=
  ownsRow_frame h fun k c fr _ h2 h3 => (hg.block k h2 (fun e => by
    obtain ⟨_, _, c', fr', h4⟩ := own_block hr e.symm
    rw [h4] at h3
    cases h3
    exact ht rfl)).trans h3
theorem below_grown {M t sz n : Nat} {A B : World} {v : Value} {cs : List Value} (h : A.ownsRow M t sz v n cs) (hM : M ≤ A.heap.size) (hg : A.grownBy B v.ownBlock) : Below M A B :=
  ⟨hg.os, hg.tape, hg.output, hg.size, fun k hk => hg.block k (by omega) (fun e => by have := (own_block h e.symm).1; omega)⟩
theorem SwK.app4 {M : Nat} {W : World} {v4 v5 : Value} {ks : List O} {gs : List (List Nat)} (h : SwK M W v4 v5 ks gs) {x : O} (hx : x.ok) (hf : Fresh M W x) (hb : ∀ a, x.q = some a → a.block < W.heap.size ∧ v4.ownBlock ≠ some a.block ∧ v5.ownBlock ≠ some a.block) (hl : ks.length ≤ 100000) :
    ∃ v' W', (Builtin.append_ #[22, 22] 22 #[v4, .slice (some ⟨W.heap.size, 0, none⟩) 1 1]).run Try.prog (W.alloc (.cells (objC x).toArray 46)) = .ok v' W' ∧ SwK M W' v' v5 (ks ++ [x]) gs ∧ Below M W W' := by
  obtain ⟨i0, hi, hz0, hz1, hz2⟩ := info_parts info46
  have hb4 : Below W.heap.size W (W.alloc (.cells (objC x).toArray 46)) := (Below.refl _ W).alloc (Nat.le_refl _) _
  have hrg : (W.alloc (.cells (objC x).toArray 46)).rangeAt W.heap.size 0 (objC x) := (Row.new' W 46 (objC x)).range
  have h4 := h.later hb4
  have hs4 : (W.alloc (.cells (objC x).toArray 46)).heap.size = W.heap.size + 1 := by simp
  generalize W.alloc (.cells (objC x).toArray 46) = W4 at *
  obtain ⟨v', w', hr, ho, hg, _, hob⟩ := run_append_own_at (P := Try.prog) W4 M 22 22 46 i0 _ 34 64 Try.underlying22 hi hz0 hz1 hz2 (by simp only [Value.cells, List.size_toArray]; exact objC_length noO_ok) (by omega) v4 ks.length (ks.flatMap objC) h4.2.1 ⟨W.heap.size, 0, none⟩ 1 1 (objC x) (by rw [objC_length hx]) (fun j u hu => by
    have := hrg j u hu
    rw [Addr.add_mid]; exact this) (objC_one _) (by simp only [maxLen]; omega) (by omega) h4.1
  have hbM := below_grown h4.2.1 h4.1 hg
  have key : ∀ a : Addr, a.block < W.heap.size → v4.ownBlock ≠ some a.block → v5.ownBlock ≠ some a.block → w'.heap[a.block]? = W4.heap[a.block]? ∧ (a.block < w'.heap.size ∧ v'.ownBlock ≠ some a.block ∧ v5.ownBlock ≠ some a.block) := fun a h1 h2 h3 =>
    ⟨hg.block _ (by omega) (fun e => h2 e.symm), by have := hg.size; omega, by
      rcases hob with e | e
      · rw [e]; exact h2
      · rw [e]; intro e2; have := Option.some.inj e2; omega, h3⟩
  refine ⟨v', w', hr, ⟨Nat.le_trans h4.1 hg.size, ?_, ownsRow_grown h4.2.2.1 h4.2.1 (by decide) hg, fun o ho => ?_, h4.2.2.2.2⟩, (hb4.mono h.1).trans hbM⟩
  · unfold OwnO
    rw [List.length_append, List.flatMap_append]
    simpa using ho
  · rcases List.mem_append.1 ho with ho | ho
    · have hh := h.2.2.2.1 o ho
      exact ⟨hh.1, (h4.2.2.2.1 o ho).2.1.only hg.size (fun a ha => (key a (hh.2.2 a ha).1 (hh.2.2 a ha).2.1 (hh.2.2 a ha).2.2).1), fun a ha => (key a (hh.2.2 a ha).1 (hh.2.2 a ha).2.1 (hh.2.2 a ha).2.2).2⟩
    · simp at ho
      subst ho
      exact ⟨hx, (hf.only hb4.size (fun a ha => hb4.block _ (hb a ha).1)).only hg.size (fun a ha => (key a (hb a ha).1 (hb a ha).2.1 (hb a ha).2.2).1), fun a ha => (key a (hb a ha).1 (hb a ha).2.1 (hb a ha).2.2).2⟩
theorem SwK.app5 {M : Nat} {W : World} {v4 v5 : Value} {ks : List O} {gs : List (List Nat)} (h : SwK M W v4 v5 ks gs) {x : List Nat} (hx : IsId x) (hl : gs.length ≤ 100000) :
    ∃ v' W', (Builtin.append_ #[23, 23] 23 #[v5, .slice (some ⟨W.heap.size, 0, none⟩) 1 1]).run Try.prog (W.alloc (.cells (u8s x).toArray 33)) = .ok v' W' ∧ SwK M W' v4 v' ks (gs ++ [x]) ∧ Below M W W' := by
  obtain ⟨i0, hi, hz0, hz1, hz2⟩ := info_parts info33
  have hb4 : Below W.heap.size W (W.alloc (.cells (u8s x).toArray 33)) := (Below.refl _ W).alloc (Nat.le_refl _) _
  have hrg : (W.alloc (.cells (u8s x).toArray 33)).rangeAt W.heap.size 0 (u8s x) := (Row.new' W 33 (u8s x)).range
  have h4 := h.later hb4
  have hs4 : (W.alloc (.cells (u8s x).toArray 33)).heap.size = W.heap.size + 1 := by simp
  generalize W.alloc (.cells (u8s x).toArray 33) = W4 at *
  obtain ⟨v', w', hr, ho, hg, _, hob⟩ := run_append_own_at (P := Try.prog) W4 M 23 23 33 i0 _ 32 32 Try.underlying23 hi hz0 hz1 hz2 (by simp [Value.cells]) (by omega) v5 gs.length (u8s gs.flatten) h4.2.2.1 ⟨W.heap.size, 0, none⟩ 1 1 (u8s x) (by simp [hx.1]) (fun j u hu => by
    have := hrg j u hu
    rw [Addr.add_mid]; exact this) (u8s_one _) (by simp only [maxLen]; omega) (by omega) h4.1
  have hbM := below_grown h4.2.2.1 h4.1 hg
  have key : ∀ a : Addr, a.block < W.heap.size → v4.ownBlock ≠ some a.block → v5.ownBlock ≠ some a.block → w'.heap[a.block]? = W4.heap[a.block]? ∧ (a.block < w'.heap.size ∧ v4.ownBlock ≠ some a.block ∧ v'.ownBlock ≠ some a.block) := fun a h1 h2 h3 =>
    ⟨hg.block _ (by omega) (fun e => h3 e.symm), by have := hg.size; omega, h2, by
      rcases hob with e | e
      · rw [e]; exact h3
      · rw [e]; intro e2; have := Option.some.inj e2; omega⟩
  refine ⟨v', w', hr, ⟨Nat.le_trans h4.1 hg.size, ownsRow_grown h4.2.1 h4.2.2.1 (by decide) hg, ?_, fun o ho => ?_, fun y hy => ?_⟩, (hb4.mono h.1).trans hbM⟩
  · unfold OwnIds
    rw [List.flatten_append, List.length_append, ← u8s_append]
    simpa using ho
  · have hh := h.2.2.2.1 o ho
    exact ⟨hh.1, (h4.2.2.2.1 o ho).2.1.only hg.size (fun a ha => (key a (hh.2.2 a ha).1 (hh.2.2 a ha).2.1 (hh.2.2 a ha).2.2).1), fun a ha => (key a (hh.2.2 a ha).1 (hh.2.2 a ha).2.1 (hh.2.2 a ha).2.2).2⟩
  · rcases List.mem_append.1 hy with hy | hy
    · exact h.2.2.2.2 y hy
    · simp at hy; subst hy; exact hx
end Go.Proofs.Ytfclbdlkpnoceaa
