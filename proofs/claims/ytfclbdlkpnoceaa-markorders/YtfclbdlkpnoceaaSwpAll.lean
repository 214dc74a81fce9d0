/-
  Several texts in one: Swp, Swp2.
-/
import Derived.Test.YtfclbdlkpnoceaaOwn
/-
  Sweep: what is kept, what goes.
-/
namespace Go.Proofs.Ytfclbdlkpnoceaa
open Go.RowKit Go.Shelf Go.Maps
attribute [local go_sem] Oper.semAt_some

set_option maxHeartbeats 1000000 in
theorem clipO_any (q : Option Addr) (n c : Nat) (w : World) (hn : n ≤ c) (hc : c ≤ 9223372036854775807) (hq : q = none → n = 0 ∧ c = 0) :
    Calls Try.prog 27 #[.slice q n c] w fun e w' => e = .returned (.slice q n n) ∧ w' = w := by
  cases q with
  | none =>
    obtain ⟨rfl, rfl⟩ := hq rfl
    go_enter Try.func27, Try.ntmps27
    go_wp2
    go_ret
    exact ⟨rfl, rfl⟩
  | some a =>
    have h1 : (n : Int) ≤ (c : Int) := by omega
    go_enter Try.func27, Try.ntmps27
    go_wp2
    go_ret
    exact ⟨rfl, rfl⟩
theorem wpListIn_operW {n : Nat} {P : Program} {ops : Array Oper} {rest : List Oper} {o : Oper} {a : Act} {w : World} {Q : Exit → Act → World → Prop} (hgd : o.guard = none) (hd : ∀ c, o.op ≠ .defer c)
    (h : ∀ K : Act → World → Prop, (∀ a w, wpListIn Fence.wide n P ops Q rest a w → K a w) → o.wp P a w K Q) : wpListIn Fence.wide n P ops Q (o :: rest) a w :=
  wpListIn_plain hgd fun K hK => operIn_wide n hd (h K hK)
/-- Two rows under way, and the links of the first one's objects beside them. -/
def SwK (M : Nat) (W : World) (v4 v5 : Value) (ks : List O) (gs : List (List Nat)) : Prop :=
  M ≤ W.heap.size ∧ OwnO M W v4 ks ∧ OwnIds M W v5 gs ∧ (∀ o ∈ ks, o.ok ∧ Fresh M W o ∧ ∀ a, o.q = some a → a.block < W.heap.size ∧ v4.ownBlock ≠ some a.block ∧ v5.ownBlock ≠ some a.block) ∧ ∀ x ∈ gs, IsId x
theorem Fresh.only {M : Nat} {A B : World} {o : O} (h : Fresh M A o) (hs : A.heap.size ≤ B.heap.size) (hk : ∀ a, o.q = some a → B.heap[a.block]? = A.heap[a.block]?) : Fresh M B o := ⟨(h.1.only hk).mono hs, h.2.1, fun a ha => ⟨(h.2.2 a ha).1, Nat.lt_of_lt_of_le (h.2.2 a ha).2 hs⟩⟩
theorem SwK.later {M : Nat} {A B : World} {v4 v5 : Value} {ks : List O} {gs : List (List Nat)} (h : SwK M A v4 v5 ks gs) (hb : Below A.heap.size A B) : SwK M B v4 v5 ks gs :=
  ⟨Nat.le_trans h.1 hb.size, h.2.1.later hb, h.2.2.1.later hb, fun o ho => ⟨(h.2.2.2.1 o ho).1, (h.2.2.2.1 o ho).2.1.only hb.size (fun a ha => hb.block _ ((h.2.2.2.1 o ho).2.2 a ha).1), fun a ha => ⟨Nat.lt_of_lt_of_le ((h.2.2.2.1 o ho).2.2 a ha).1 hb.size, ((h.2.2.2.1 o ho).2.2 a ha).2⟩⟩, h.2.2.2.2⟩
theorem own_block {M t sz n : Nat} {W : World} {v : Value} {cs : List Value} (h : W.ownsRow M t sz v n cs) {k : Nat} (e : v.ownBlock = some k) : M ≤ k ∧ k < W.heap.size ∧ ∃ c fr, W.heap[k]? = some (.cells c t fr) := by
  rcases h.2 with ⟨e', _⟩ | ⟨g, c', cur, e', hgz, hgg, _⟩
  · rw [e'] at e; cases e
  · rw [e'] at e
    obtain rfl : g = k := by cases e; rfl
    exact ⟨hgz, (Array.getElem?_eq_some_iff.1 hgg).1, _, _, hgg⟩
theorem ownsRow_grown {M t t' sz n : Nat} {A B : World} {v v' : Value} {cs : List Value} {n' sz' : Nat} {cs' : List Value} (h : A.ownsRow M t sz v n cs) (hr : A.ownsRow M t' sz' v' n' cs') (ht : t ≠ t') (hg : A.grownBy B v'.ownBlock) : B.ownsRow M t sz v n cs :=
  ownsRow_frame h fun k c fr _ h2 h3 => (hg.block k h2 (fun e => by
    obtain ⟨_, _, c', fr', h4⟩ := own_block hr e.symm
    rw [h4] at h3
    cases h3
    exact ht rfl)).trans h3
theorem below_grown {M t sz n : Nat} {A B : World} {v : Value} {cs : List Value} (h : A.ownsRow M t sz v n cs) (hM : M ≤ A.heap.size) (hg : A.grownBy B v.ownBlock) : Below M A B :=
  ⟨hg.os, hg.tape, hg.output, hg.size, fun k hk => hg.block k (by omega) (fun e => by have := (own_block h e.symm).1; omega)⟩
theorem SwK.app4 {M : Nat} {W : World} {v4 v5 : Value} {ks : List O} {gs : List (List Nat)} (h : SwK M W v4 v5 ks gs) {x : O} (hx : x.ok) (hf : Fresh M W x) (hb : ∀ a, x.q = some a → a.block < W.heap.size ∧ v4.ownBlock ≠ some a.block ∧ v5.ownBlock ≠ some a.block) (hl : ks.length ≤ 100000) :
    ∃ v' W', (Builtin.append_ #[22, 22] 22 #[v4, .slice (some ⟨W.heap.size, 0, none⟩) 1 1]).run Try.prog (W.alloc (.cells (objC x).toArray 46)) = .ok v' W' ∧ SwK M W' v' v5 (ks ++ [x]) gs ∧ Below M W W' := by
  obtain ⟨i0, hi, hz0, hz1, hz2⟩ := info_parts info46
  have hb4 : Below W.heap.size W (W.alloc (.cells (objC x).toArray 46)) := (Below.refl _ W).alloc (Nat.le_refl _) _
  have hrg : (W.alloc (.cells (objC x).toArray 46)).rangeAt W.heap.size 0 (objC x) := (Row.new' W 46 (objC x)).range
  have h4 := h.later hb4
  have hs4 : (W.alloc (.cells (objC x).toArray 46)).heap.size = W.heap.size + 1 := by simp
  generalize W.alloc (.cells (objC x).toArray 46) = W4 at *
  obtain ⟨v', w', hr, ho, hg, _, hob⟩ := run_append_own_at (P := Try.prog) W4 M 22 22 46 i0 _ 34 64 Try.underlying22 hi hz0 hz1 hz2 (by simp only [Value.cells, List.size_toArray]; exact objC_length noO_ok) (by omega) v4 ks.length (ks.flatMap objC) h4.2.1 ⟨W.heap.size, 0, none⟩ 1 1 (objC x) (by rw [objC_length hx]) (fun j u hu => by
    have := hrg j u hu
    rw [Addr.add_mid]; exact this) (objC_one _) (by simp only [maxLen]; omega) (by omega) h4.1
  have hbM := below_grown h4.2.1 h4.1 hg
  have key : ∀ a : Addr, a.block < W.heap.size → v4.ownBlock ≠ some a.block → v5.ownBlock ≠ some a.block → w'.heap[a.block]? = W4.heap[a.block]? ∧ (a.block < w'.heap.size ∧ v'.ownBlock ≠ some a.block ∧ v5.ownBlock ≠ some a.block) := fun a h1 h2 h3 =>
    ⟨hg.block _ (by omega) (fun e => h2 e.symm), by have := hg.size; omega, by
      rcases hob with e | e
      · rw [e]; exact h2
      · rw [e]; intro e2; have := Option.some.inj e2; omega, h3⟩
  refine ⟨v', w', hr, ⟨Nat.le_trans h4.1 hg.size, ?_, ownsRow_grown h4.2.2.1 h4.2.1 (by decide) hg, fun o ho => ?_, h4.2.2.2.2⟩, (hb4.mono h.1).trans hbM⟩
  · unfold OwnO
    rw [List.length_append, List.flatMap_append]
    simpa using ho
  · rcases List.mem_append.1 ho with ho | ho
    · have hh := h.2.2.2.1 o ho
      exact ⟨hh.1, (h4.2.2.2.1 o ho).2.1.only hg.size (fun a ha => (key a (hh.2.2 a ha).1 (hh.2.2 a ha).2.1 (hh.2.2 a ha).2.2).1), fun a ha => (key a (hh.2.2 a ha).1 (hh.2.2 a ha).2.1 (hh.2.2 a ha).2.2).2⟩
    · simp at ho
      subst ho
      exact ⟨hx, (hf.only hb4.size (fun a ha => hb4.block _ (hb a ha).1)).only hg.size (fun a ha => (key a (hb a ha).1 (hb a ha).2.1 (hb a ha).2.2).1), fun a ha => (key a (hb a ha).1 (hb a ha).2.1 (hb a ha).2.2).2⟩
theorem SwK.app5 {M : Nat} {W : World} {v4 v5 : Value} {ks : List O} {gs : List (List Nat)} (h : SwK M W v4 v5 ks gs) {x : List Nat} (hx : IsId x) (hl : gs.length ≤ 100000) :
    ∃ v' W', (Builtin.append_ #[23, 23] 23 #[v5, .slice (some ⟨W.heap.size, 0, none⟩) 1 1]).run Try.prog (W.alloc (.cells (u8s x).toArray 33)) = .ok v' W' ∧ SwK M W' v4 v' ks (gs ++ [x]) ∧ Below M W W' := by
  obtain ⟨i0, hi, hz0, hz1, hz2⟩ := info_parts info33
  have hb4 : Below W.heap.size W (W.alloc (.cells (u8s x).toArray 33)) := (Below.refl _ W).alloc (Nat.le_refl _) _
  have hrg : (W.alloc (.cells (u8s x).toArray 33)).rangeAt W.heap.size 0 (u8s x) := (Row.new' W 33 (u8s x)).range
  have h4 := h.later hb4
  have hs4 : (W.alloc (.cells (u8s x).toArray 33)).heap.size = W.heap.size + 1 := by simp
  generalize W.alloc (.cells (u8s x).toArray 33) = W4 at *
  obtain ⟨v', w', hr, ho, hg, _, hob⟩ := run_append_own_at (P := Try.prog) W4 M 23 23 33 i0 _ 32 32 Try.underlying23 hi hz0 hz1 hz2 (by simp [Value.cells]) (by omega) v5 gs.length (u8s gs.flatten) h4.2.2.1 ⟨W.heap.size, 0, none⟩ 1 1 (u8s x) (by simp [hx.1]) (fun j u hu => by
    have := hrg j u hu
    rw [Addr.add_mid]; exact this) (u8s_one _) (by simp only [maxLen]; omega) (by omega) h4.1
  have hbM := below_grown h4.2.2.1 h4.1 hg
  have key : ∀ a : Addr, a.block < W.heap.size → v4.ownBlock ≠ some a.block → v5.ownBlock ≠ some a.block → w'.heap[a.block]? = W4.heap[a.block]? ∧ (a.block < w'.heap.size ∧ v4.ownBlock ≠ some a.block ∧ v'.ownBlock ≠ some a.block) := fun a h1 h2 h3 =>
    ⟨hg.block _ (by omega) (fun e => h3 e.symm), by have := hg.size; omega, h2, by
      rcases hob with e | e
      · rw [e]; exact h3
      · rw [e]; intro e2; have := Option.some.inj e2; omega⟩
  refine ⟨v', w', hr, ⟨Nat.le_trans h4.1 hg.size, ownsRow_grown h4.2.1 h4.2.2.1 (by decide) hg, ?_, fun o ho => ?_, fun y hy => ?_⟩, (hb4.mono h.1).trans hbM⟩
  · unfold OwnIds
    rw [List.flatten_append, List.length_append, ← u8s_append]
    simpa using ho
  · have hh := h.2.2.2.1 o ho
    exact ⟨hh.1, (h4.2.2.2.1 o ho).2.1.only hg.size (fun a ha => (key a (hh.2.2 a ha).1 (hh.2.2 a ha).2.1 (hh.2.2 a ha).2.2).1), fun a ha => (key a (hh.2.2 a ha).1 (hh.2.2 a ha).2.1 (hh.2.2 a ha).2.2).2⟩
  · rcases List.mem_append.1 hy with hy | hy
    · exact h.2.2.2.2 y hy
    · simp at hy; subst hy; exact hx
end Go.Proofs.Ytfclbdlkpnoceaa
/-
  Sweep, walked.
-/
namespace Go.Proofs.Ytfclbdlkpnoceaa
open Go.RowKit Go.Shelf Go.Maps
attribute [local go_sem] Oper.semAt_some

def O.key (o : O) : List Nat × List (List Nat) × Int := (o.id, o.links, o.size)
theorem O.like.key {a b : O} (h : a.like b) : a.key = b.key := by unfold O.key; rw [h.1, h.2.1, h.2.2]
def SweepPost (w : World) (l : List O) (roots : List (List Nat)) (e : Ending) (w' : World) : Prop :=
  ∃ q1 n1 ks q2 n2, e = .returned (.tuple #[.slice q1 n1 n1, .slice q2 n2 n2]) ∧ IsObjs w'.heap.size w' q1 n1 n1 ks ∧ ks.map O.key = (keptL l roots).map O.key ∧ IsIds w'.heap.size w' q2 n2 n2 (linksL (goneL l roots)) ∧ Below w.heap.size w w'
/-- What is kept of some objects, what goes. -/
def kpL (r : List (List Nat)) (l : List O) : List O := l.filter fun o => decide (o.id ∈ r)
def gnL (r : List (List Nat)) (l : List O) : List (List Nat) := (l.filter fun o => ! decide (o.id ∈ r)).map (·.id)
theorem kpL_snoc_yes {r : List (List Nat)} {l : List O} {o : O} (h : o.id ∈ r) : kpL r (l ++ [o]) = kpL r l ++ [o] ∧ gnL r (l ++ [o]) = gnL r l := by simp [kpL, gnL, List.filter_append, h]
theorem kpL_snoc_no {r : List (List Nat)} {l : List O} {o : O} (h : o.id ∉ r) : kpL r (l ++ [o]) = kpL r l ∧ gnL r (l ++ [o]) = gnL r l ++ [o.id] := by simp [kpL, gnL, List.filter_append, h]
/-- Sweep's first loop under way. -/
def SwM (Z M : Nat) (w : World) (pre : List (Nat × List Nat)) (A : World) : Prop :=
  MapAt Try.prog 33 A Z (metF (pre.map (·.2))) ∧ Boxed A (Z + 1) 57 (.map (some Z)) ∧ Below Z w A ∧ M ≤ A.heap.size
/-- Its second one. -/
def SwI (M : Nat) (A₀ : World) (r : List (List Nat)) (l : List O) (len : Nat) (v4 v5 i : Value) (A : World) : Prop :=
  ∃ (k : Nat) (ks : List O), k ≤ len ∧ i = .int .i64 k ∧ ks.map O.key = (kpL r (l.take k)).map O.key ∧ SwK M A v4 v5 ks (gnL r (l.take k)) ∧ Below M A₀ A

open Classical in
set_option maxRecDepth 100000 in
set_option maxHeartbeats 1000000 in
theorem sweep_any (p : Option Addr) (len cap : Nat) (q : Option Addr) (rl rc : Nat) (l : List O) (roots : List (List Nat)) (hlen : len ≤ 100) (hrl : rl ≤ 1000) (hln : ∀ o ∈ l, o.links.length ≤ 100) (w : World) (hI : IsObjs w.heap.size w p len cap l) (hR : IsIds w.heap.size w q rl rc roots) :
    Calls Try.prog 14 #[.slice p len cap, .slice q rl rc] w (SweepPost w l roots) := by
  obtain ⟨i0, hi0, hz0, hz1, hz2⟩ := info_parts info33
  obtain ⟨j0, hj0, hy0, hy1, hy2⟩ := info_parts info46
  obtain ⟨N, hN⟩ : ∃ N, 20 ≤ N := ⟨20, Nat.le_refl _⟩
  refine (callsIn_wide (n := N)).1 ?_
  have h1 : 1 ≤ N := by omega
  have hfn : ∀ f, Fence.wide.fn f := fun _ => trivial
  have hfew := reach_few l roots
  have hll := hI.1
  have hlc := hI.2.1
  have hcc := hI.2.2.1
  have HI : Hid (IsObjs w.heap.size w p len cap l) := hI
  have hmm := @run_makeMap Try.prog
  refine callsIn_of_wp_marks Try.func14 rfl trivial ?_ rfl
  simp only [Try.ntmps14, List.size_toArray, List.length_cons, List.length_nil, Nat.reduceAdd, Nat.reduceSub, Array.replicate_succ, Array.replicate_zero, List.push_toArray, List.append_toArray, List.nil_append, List.cons_append]
  obtain ⟨w0, hw0⟩ : ∃ w0, w.alloc (.map #[] 0) = w0 := ⟨_, rfl⟩
  have hs0 : w0.heap.size = w.heap.size + 1 := by rw [← hw0]; simp
  have hb0 : Below w.heap.size w w0 := by rw [← hw0]; exact (Below.refl _ w).alloc (Nat.le_refl _) _
  have hm0 : MapAt Try.prog 33 w0 w.heap.size (metF []) := by rw [← hw0, metF_nil]; exact MapAt.new _ _ _
  obtain ⟨w1, hw1⟩ : ∃ w1, w0.alloc (.cells #[.map (some w.heap.size)] 57) = w1 := ⟨_, rfl⟩
  have hs1 : w1.heap.size = w.heap.size + 2 := by rw [← hw1, World.size_alloc, hs0]
  have hb01 : Below w0.heap.size w0 w1 := by rw [← hw1]; exact (Below.refl _ w0).alloc (Nat.le_refl _) _
  have hb1 : Below w.heap.size w w1 := hb0.trans (hb01.mono (by omega))
  have hm1 : MapAt Try.prog 33 w1 w.heap.size (metF []) := hm0.below hb01 (by omega)
  have hbx : Boxed w1 (w.heap.size + 1) 57 (.map (some w.heap.size)) := by rw [← hs0, ← hw1]; exact Boxed.new w0 57 _
  have HW : Hid (Calls Try.prog 10 #[.slice p len cap, .slice q rl rc] w1 fun e w' => ∃ Bf, e = .returned (.func (.func 23) #[] #[.pointer (some ⟨Bf, 0, none⟩)]) ∧ FoundAt w1.heap.size w' Bf (levels l roots) ∧ Below w1.heap.size w1 w') :=
    walk_any p len cap q rl rc l roots hlen hrl hln w1 ((hI.below hb1).mono hb1.size) ((hR.below hb1).mono hb1.size)
  have HBx : Hid (Boxed w1 (w.heap.size + 1) 57 (.map (some w.heap.size))) := hbx
  have HM1 : Hid (MapAt Try.prog 33 w1 w.heap.size (metF [])) := hm1
  have HS1 : Hid (w1.heap.size = w.heap.size + 2) := hs1
  have hw1' : (w.alloc (.map #[] 0)).alloc (.cells #[.map (some w.heap.size)] 57) = w1 := by rw [hw0, hw1]
  clear hI hR hbx hs1 hm1 hm0 hs0 hb0 hb01 hw1 hw0
  gi_wp2_with (first
    | (gi_at_call 10; refine (callsIn_wide.2 HW.out).mono ?_; rintro e w2 ⟨Bf, rfl, hF, hb2⟩))
  have hs2 := hb2.size
  have hs1 := HS1.out
  clear hw1' hmm
  generalize hZ : w.heap.size = Z at *
  have hm2 : MapAt Try.prog 33 w2 Z (metF []) := HM1.out.below hb2 (by omega)
  have hbx2 : Boxed w2 (Z + 1) 57 (.map (some Z)) := boxed_below HBx.out hb2
  have hOwn : OwnFrom w2.heap.size (SwM Z w2.heap.size w) :=
      (low_own (fun s A B h hb => ⟨h.1.below hb (by omega), (hb.block _ (by omega)).trans h.2.1, h.2.2.1.trans (hb.mono (by omega)), Nat.le_trans h.2.2.2 hb.size⟩) (fun s A h => h.2.2.2))
  refine wpIn_rangeFunc_okx rfl h1 (gf := 23) (lb := #[.pointer (some ⟨Bf, 0, none⟩)]) rfl trivial (enters_of Try.func23 (by kernel_rfl) rfl)
    (encs := tlV) (Ok := fun x _ => IsId x.2) (Kp := KpP (fun k _ => Z + 1 < k ∧ k < w2.heap.size)) (Nx := fun pre x => ∃ post, tellL (levels l roots) = pre ++ x :: post) (S := fun ys => ys = tellL (levels l roots)) (Sp := fun _ => True)
    (fun W' hs hb => walk1_iter (N - 1) (by omega) _ Bf w1.heap.size (levels l roots) (by unfold reachL at hfew; omega) _ w2 W' hF hb (fun k c t fr h1 h2 => ⟨by omega, h2⟩))
    KpP.trans (fun A o o' ho hc => KpP.record o' (fun _ h => by have := h.2; omega)) KpP.of_below (fun _ => rfl)
    (fun x A B => Row B A.heap.size 33 (u8s x.2)) (fun x A B o h hl => TwoRow.put o h hl)
    (SwM Z w2.heap.size w) (fun _ _ _ => False) hOwn (fun _ _ _ _ _ h _ _ => h.elim) (fun _ _ _ _ h _ _ => h)
    ⟨hm2, hbx2, hb1.trans (hb2.mono (by omega)), Nat.le_refl _⟩
    (fun x A => { tmps := #[.slice p len cap, .slice q rl rc, undef, undef, .slice none 0 0, .slice none 0 0, .pointer (some ⟨Z + 1, 0, none⟩), undef, .pointer (some ⟨A.heap.size, 0, none⟩), undef, undef, undef, undef, .map (some Z), .slice p len cap, .slice q rl rc, .func (.func 23) #[] #[.pointer (some ⟨Bf, 0, none⟩)], .int .i64 (x.1 : Nat), idV x.2, undef, undef, undef, undef, undef, undef, undef, undef, undef, undef, undef, undef, undef, undef, undef, undef, undef, undef, undef, undef, undef, undef, undef, undef, undef, undef, undef, undef, undef, undef, undef, undef], defers := [] }) ?assign ?body ?done ?stop
  case assign =>
    intro li x A K hok hK
    have HK : Hid (∀ W', Below A.heap.size A W' → Row W' A.heap.size 33 (u8s x.2) → K _ W') := hK
    clear hK
    unfold tlV
    generalize x.2 = y at *
    gi_wp2_with ((with_reducible show wpListIn _ _ _ _ _ (Oper.mk _ (Op.store 33 (.tmp 8) (.tmp 18)) _ _ _ _ :: _) _ _); rw [z32u8]; refine wpListIn_storeId rfl (.tmp 8) (.tmp 18) rfl hok rfl rfl (fun A2 hb2 hR2 => ?_); have HR2 : Hid (Row A2 A.heap.size 33 (u8s y)) := hR2; clear hR2; simp only [Act.put])
    exact HK.out A2 hb2 HR2.out
  case body =>
    rintro li pre x A₀ A ⟨hM, hbx, hB, hsz⟩ hid _ hle hr1
    have HR1 : Hid (Row A A₀.heap.size 33 (u8s x.2)) := hr1
    have hcv := hbx.cell
    have HM : Hid (MapAt Try.prog 33 A Z (metF (pre.map (·.2)))) := hM
    have HF : Hid (∀ A2, MapAt Try.prog 33 A2 Z (fnPut (metF (pre.map (·.2))) (idV x.2) (.agg #[])) → But Z A.heap.size A A2 → KeepsFrom w2.heap.size A A2 ∧ KpP (fun k _ => Z + 1 < k ∧ k < w2.heap.size) A A2 ∧ SwM Z w2.heap.size w (pre ++ [x]) A2) := by
      intro A2 m hbut
      rw [metF_snoc] at m
      refine ⟨keepsFrom_but hbut (by omega) (Nat.le_refl _), kpp_but hbut (fun k o hp _ => by omega) (Nat.le_refl _), by rw [List.map_append]; exact m, (hbut.block _ hbx.lt (by omega)).trans hbx, ?_, Nat.le_trans hsz hbut.size⟩
      exact hB.trans ⟨hbut.os, hbut.tape, hbut.output, hbut.size, fun k hk => hbut.block k (by omega) (by omega)⟩
    clear hr1 hM hbx hB
    generalize x.2 = y at *
    gi_wp2_with (first
      | ((with_reducible show wpListIn _ _ _ _ _ (Oper.mk _ (Op.load 33 (.tmp 8)) _ _ _ _ :: _) _ _); refine wpListIn_loadId rfl (.tmp 8) rfl rfl hid HR1.out.range ?_; simp only [Act.put, List.setIfInBounds_toArray, List.set_cons_zero, List.set_cons_succ])
      | ((with_reducible show wpListIn _ _ _ _ _ (Oper.mk _ (Op.mapUpdate 57 _ _ _) _ _ _ _ :: _) _ _); refine wpListIn_mapStore A.heap.size rfl (.tmp 19) (.tmp 20) (.tmp 21) 57 58 rfl Try.underlying57 rfl HM.out rfl rfl hid (fun A2 hm2 hbt => ?_); have HFin := HF.out A2 hm2 hbt; simp only [Act.put]))
    exact HFin
  case done =>
    rintro D xs A hD rfl ⟨hM, hbx, hB, hsz⟩ hKD
    rw [tellL_ids] at hM
    have HM : Hid (MapAt Try.prog 33 A Z (metF (reachL l roots))) := hM
    have HBx2 : Hid (Boxed A (Z + 1) 57 (.map (some Z))) := hbx
    have HKD : Hid (A.heap[D]? = some (.deferred (some []))) := hKD
    have HIA : Hid (IsObjs Z A p len cap l) := HI.out.below hB
    have hDl := (Array.getElem?_eq_some_iff.1 hKD).1
    clear hM hbx hKD
    gi_wp2
    gi_loopw [4, 5, 24] (fun v4 v5 i wr => SwI A.heap.size A (reachL l roots) l len v4 v5 i wr) (fun _ _ i _ => len - (intOf i).toNat)
    case atStart => exact ⟨0, [], Nat.zero_le _, rfl, rfl, ⟨Nat.le_refl _, OwnO.nil _ _, OwnIds.nil _ _, by simp, by simp [gnL]⟩, Below.refl _ _⟩
    case round =>
      obtain ⟨k, ks, hk, rfl, hks, hsw, hbA⟩ := hrel
      by_cases hlt : k < len
      · have hki : (k : Int) < (len : Int) := by omega
        have hkl : k < l.length := by omega
        obtain ⟨b, off, rfl, hb, hr, hok, hmem⟩ := (HIA.out.below (hbA.mono (by omega))).at hlt
        have HT : Hid (l.take (k + 1) = l.take k ++ [l.getD k noO]) := obj_take l hkl
        have HR : Hid (wr.rangeAt b (off + k * 34) (objC (l.getD k noO))) := hr
        have HLk : Hid (IsIds Z wr (l.getD k noO).q (l.getD k noO).n (l.getD k noO).c (l.getD k noO).links) := (HIA.out.2.2.2.2.1 _ hmem).below (hbA.mono (by omega))
        have hxl : (l.getD k noO).n ≤ 100000 := by have h5 := hln _ hmem; have h6 := HLk.out.1; omega
        have HMw : Hid (MapAt Try.prog 33 wr Z (metF (reachL l roots))) := HM.out.below hbA HM.out.lt
        have HBw : Hid (Boxed wr (Z + 1) 57 (.map (some Z))) := boxed_below HBx2.out hbA
        obtain ⟨q4, c4, rfl⟩ := hsw.2.1.slice
        obtain ⟨q5, c5, rfl⟩ := hsw.2.2.1.slice
        have hwr := hsw.1
        have hksl : ks.length ≤ 100000 := by
          have h5 := congrArg List.length hks
          simp only [List.length_map] at h5
          have h6 : (kpL (reachL l roots) (l.take k)).length ≤ (l.take k).length := List.length_filter_le _ _
          have h7 := List.length_take_le k l
          omega
        have hgsl : (gnL (reachL l roots) (l.take k)).length ≤ 100000 := by
          have h6 : (gnL (reachL l roots) (l.take k)).length ≤ (l.take k).length := by unfold gnL; rw [List.length_map]; exact List.length_filter_le _ _
          have h7 := List.length_take_le k l
          omega
        have HKs : Hid (ks.map O.key = (kpL (reachL l roots) (l.take k)).map O.key) := hks
        have HSw : Hid (SwK A.heap.size wr (.slice q4 ks.length c4) (.slice q5 (gnL (reachL l roots) (l.take k)).length c5) ks (gnL (reachL l roots) (l.take k))) := hsw
        have HBA : Hid (Below A.heap.size A wr) := hbA
        clear hsw hbA hks hr
        generalize l.getD k noO = x at *
        by_cases hin : x.id ∈ reachL l roots
        · have HMk : Hid ((if true = true then Value.tuple #[(metF (reachL l roots) (idV x.id)).getD (.agg #[]), .bool (metF (reachL l roots) (idV x.id)).isSome] else (metF (reachL l roots) (idV x.id)).getD (.agg #[])) = .tuple #[.agg #[], .bool true]) := by show _ = _; rw [if_pos rfl, metF_look]; simp only [hin, decide_true]
          obtain ⟨hky, hgy⟩ := kpL_snoc_yes (l := l.take k) hin
          have HStep : Hid (∀ Y3, Below wr.heap.size wr Y3 → Calls Try.prog 26 #[.agg (objC x).toArray] Y3 fun e Y4 => ∃ x' v' Y5, e = .returned (.agg (objC x').toArray) ∧ x'.ok ∧ (Builtin.append_ #[22, 22] 22 #[.slice q4 ks.length c4, .slice (some ⟨Y4.heap.size, 0, none⟩) 1 1]).run Try.prog (Y4.alloc (.cells (objC x').toArray 46)) = .ok v' Y5 ∧ SwI A.heap.size A (reachL l roots) l len v' (.slice q5 (gnL (reachL l roots) (l.take k)).length c5) (.int .i64 ((k : Int) + 1)) Y5) := by
            intro Y3 hb3
            have hs3 := hb3.size
            refine (own_any x hok hxl Y3 ((HLk.out.below (hb3.mono (by omega))).mono (by omega))).mono ?_
            rintro e Y4 ⟨x', rfl, hok', hlike, hfr, hb4⟩
            have hsw4 := (HSw.out.later hb3).later hb4
            have hfr' : Fresh A.heap.size Y4 x' := ⟨hfr.1, hfr.2.1, fun a ha => ⟨by have := (hfr.2.2 a ha).1; omega, (hfr.2.2 a ha).2⟩⟩
            obtain ⟨v', Y5, hrun, hsw5, hb5⟩ := hsw4.app4 hok' hfr' (fun a ha => by
              have h8 := hfr.2.2 a ha
              have h3 := HSw.out.later hb3
              refine ⟨?_, fun e => ?_, fun e => ?_⟩
              · exact h8.2
              · have := (own_block h3.2.1 e).2.1; omega
              · have := (own_block h3.2.2.1 e).2.1; omega) hksl
            refine ⟨x', v', Y5, rfl, hok', hrun, k + 1, ks ++ [x'], by omega, by go_num, ?_, ?_, ?_⟩
            · rw [HT.out, hky, List.map_append, List.map_append, HKs.out]; simp [hlike.key]
            · rw [HT.out, hgy]; exact hsw5
            · exact (HBA.out.trans (hb3.mono hwr)).trans ((hb4.mono (by omega)).trans hb5)
          clear HSw HKs HT hky hgy HBA HLk hksl hgsl
          generalize (gnL (reachL l roots) (l.take k)).length = gl at *
          generalize ks.length = kl at *
          gi_wp2_with (first
          | ((with_reducible show wpListIn _ _ _ _ _ (Oper.mk _ (Op.load 46 (.tmp 26)) _ _ _ _ :: _) _ _); refine wpListIn_loadObj rfl (.tmp 26) rfl rfl hok HR.out ?_; simp only [Act.put, List.setIfInBounds_toArray, List.set_cons_zero, List.set_cons_succ])
          | ((with_reducible show wpListIn _ _ _ _ _ (Oper.mk _ (Op.store 46 (.tmp 10) (.tmp 27)) _ _ _ _ :: _) _ _); rw [zO]; refine wpListIn_storeObj rfl (.tmp 10) (.tmp 27) rfl x hok rfl rfl (fun Y2 hb2 hE2 => ?_); have HE2 : Hid (ObjAt Y2 wr.heap.size x) := hE2; have hcb := (boxed_below HBw.out hb2).cell; clear hE2; obtain ⟨Y3, hY3⟩ : ∃ Y3, Y2.alloc (.cells #[] 58) = Y3 := ⟨_, rfl⟩; have hb3 : Below wr.heap.size wr Y3 := (by rw [← hY3]; exact hb2.alloc hb2.size _); have HE3 : Hid (ObjAt Y3 wr.heap.size x) := HE2.out.later (by rw [← hY3]; exact (Below.refl _ Y2).alloc (Nat.le_refl _) _); simp only [Act.put])
          | ((with_reducible show wpListIn _ _ _ _ _ (Oper.mk (some 31) (Op.load 33 _) _ _ _ _ :: _) _ _); refine wpListIn_loadId rfl (.tmp 30) rfl rfl hok.1 HE2.out.id ?_; simp only [Act.put, List.setIfInBounds_toArray, List.set_cons_zero, List.set_cons_succ])
          | ((with_reducible show wpListIn _ _ _ _ _ (Oper.mk _ (Op.lookup 57 _ _ _) _ _ _ _ :: _) _ _); refine wpListIn_look true rfl (.tmp 29) (.tmp 31) 57 58 rfl Try.underlying57 (zero58 _) rfl (HMw.out.below hb2 HMw.out.lt) rfl hok.1 (.tuple #[.agg #[], .bool true]) HMk.out ?_; simp only [Act.put, List.setIfInBounds_toArray, List.set_cons_zero, List.set_cons_succ])
          | ((with_reducible show wpListIn _ _ _ _ _ (Oper.mk _ (Op.load 46 (.tmp 10)) _ _ _ _ :: _) _ _); refine wpListIn_loadObj rfl (.tmp 10) rfl rfl hok HE3.out.row.range ?_; simp only [Act.put, List.setIfInBounds_toArray, List.set_cons_zero, List.set_cons_succ])
          | (gi_at_call 26; refine (callsIn_wide.2 (HStep.out Y3 hb3)).mono ?_; rintro e Y4 ⟨x', v', Y5, rfl, hok', hrun, hI5⟩; have HRun := (show Hid (_ = _) from hrun); have HI5 := (show Hid (SwI _ _ _ _ _ _ _ _ _) from hI5); clear hrun hI5; obtain ⟨q6, l6, c6, rfl⟩ : ∃ q l c, v' = Value.slice q l c := (by obtain ⟨k', ks', _, _, _, h5, _⟩ := HI5.out; obtain ⟨q', c', e'⟩ := h5.2.1.slice; exact ⟨q', _, c', e'⟩))
          | ((with_reducible show wpListIn _ _ _ _ _ (Oper.mk (some 39) _ _ _ _ _ :: _) _ _); refine wpListIn_operW rfl (by intro c hc; cases hc) (fun K hK => wp_buildOne 22 46 (.tmp 38) rfl (objC x') rfl j0 _ Try.underlying22 hj0 hy0 (by rw [hy1, objC_length hok']) (by rw [objC_length hok']; omega) (by rw [objC_length hok']; omega) (hK _ _ ?_)); simp only [Act.put, List.setIfInBounds_toArray, List.set_cons_zero, List.set_cons_succ])
          | ((with_reducible show wpListIn _ _ _ _ _ (Oper.mk (some 40) _ _ _ _ _ :: _) _ _); refine wpListIn_operW rfl (by intro c hc; cases hc) (fun K hK => wp_append_of (.tmp 36) (.tmp 39) 22 rfl rfl rfl HRun.out (hK _ _ ?_)); simp only [Act.put, List.setIfInBounds_toArray, List.set_cons_zero, List.set_cons_succ]))
          exact ⟨HI5.out, by simp [intOf]; omega⟩
        · have HMk : Hid ((if true = true then Value.tuple #[(metF (reachL l roots) (idV x.id)).getD (.agg #[]), .bool (metF (reachL l roots) (idV x.id)).isSome] else (metF (reachL l roots) (idV x.id)).getD (.agg #[])) = .tuple #[.agg #[], .bool false]) := by show _ = _; rw [if_pos rfl, metF_look]; simp only [hin, decide_false]
          obtain ⟨hky, hgy⟩ := kpL_snoc_no (l := l.take k) hin
          have HStep : Hid (∀ Y3, Below wr.heap.size wr Y3 → ∃ v' Y5, (Builtin.append_ #[23, 23] 23 #[.slice q5 (gnL (reachL l roots) (l.take k)).length c5, .slice (some ⟨Y3.heap.size, 0, none⟩) 1 1]).run Try.prog (Y3.alloc (.cells (u8s x.id).toArray 33)) = .ok v' Y5 ∧ SwI A.heap.size A (reachL l roots) l len (.slice q4 ks.length c4) v' (.int .i64 ((k : Int) + 1)) Y5) := by
            intro Y3 hb3
            have hs3 := hb3.size
            obtain ⟨v', Y5, hrun, hsw5, hb5⟩ := (HSw.out.later hb3).app5 hok.1 hgsl
            refine ⟨v', Y5, hrun, k + 1, ks, by omega, by go_num, ?_, ?_, ?_⟩
            · rw [HT.out, hky]; exact HKs.out
            · rw [HT.out, hgy]; exact hsw5
            · exact (HBA.out.trans (hb3.mono hwr)).trans hb5
          clear HSw HKs HT hky hgy HBA HLk hksl hgsl
          generalize (gnL (reachL l roots) (l.take k)).length = gl at *
          generalize ks.length = kl at *
          gi_wp2_with (first
          | ((with_reducible show wpListIn _ _ _ _ _ (Oper.mk _ (Op.load 46 (.tmp 26)) _ _ _ _ :: _) _ _); refine wpListIn_loadObj rfl (.tmp 26) rfl rfl hok HR.out ?_; simp only [Act.put, List.setIfInBounds_toArray, List.set_cons_zero, List.set_cons_succ])
          | ((with_reducible show wpListIn _ _ _ _ _ (Oper.mk _ (Op.store 46 (.tmp 10) (.tmp 27)) _ _ _ _ :: _) _ _); rw [zO]; refine wpListIn_storeObj rfl (.tmp 10) (.tmp 27) rfl x hok rfl rfl (fun Y2 hb2 hE2 => ?_); have HE2 : Hid (ObjAt Y2 wr.heap.size x) := hE2; have hcb := (boxed_below HBw.out hb2).cell; clear hE2; obtain ⟨Y3, hY3⟩ : ∃ Y3, Y2.alloc (.cells #[] 58) = Y3 := ⟨_, rfl⟩; have hb3 : Below wr.heap.size wr Y3 := (by rw [← hY3]; exact hb2.alloc hb2.size _); have HE3 : Hid (ObjAt Y3 wr.heap.size x) := HE2.out.later (by rw [← hY3]; exact (Below.refl _ Y2).alloc (Nat.le_refl _) _); simp only [Act.put])
          | ((with_reducible show wpListIn _ _ _ _ _ (Oper.mk (some 31) (Op.load 33 _) _ _ _ _ :: _) _ _); refine wpListIn_loadId rfl (.tmp 30) rfl rfl hok.1 HE2.out.id ?_; simp only [Act.put, List.setIfInBounds_toArray, List.set_cons_zero, List.set_cons_succ])
          | ((with_reducible show wpListIn _ _ _ _ _ (Oper.mk _ (Op.lookup 57 _ _ _) _ _ _ _ :: _) _ _); refine wpListIn_look true rfl (.tmp 29) (.tmp 31) 57 58 rfl Try.underlying57 (zero58 _) rfl (HMw.out.below hb2 HMw.out.lt) rfl hok.1 (.tuple #[.agg #[], .bool false]) HMk.out ?_; simp only [Act.put, List.setIfInBounds_toArray, List.set_cons_zero, List.set_cons_succ])
          | ((with_reducible show wpListIn _ _ _ _ _ (Oper.mk (some 43) (Op.load 33 _) _ _ _ _ :: _) _ _); refine wpListIn_loadId rfl (.tmp 42) rfl rfl hok.1 HE3.out.id ?_; simp only [Act.put, List.setIfInBounds_toArray, List.set_cons_zero, List.set_cons_succ]; obtain ⟨v', Y5, hrun, hI5⟩ := HStep.out Y3 hb3; have HRun := (show Hid (_ = _) from hrun); have HI5 := (show Hid (SwI _ _ _ _ _ _ _ _ _) from hI5); clear hrun hI5; obtain ⟨q6, l6, c6, rfl⟩ : ∃ q l c, v' = Value.slice q l c := (by obtain ⟨k', ks', _, _, _, h5, _⟩ := HI5.out; obtain ⟨q', c', e'⟩ := h5.2.2.1.slice; exact ⟨q', _, c', e'⟩))
          | ((with_reducible show wpListIn _ _ _ _ _ (Oper.mk (some 44) _ _ _ _ _ :: _) _ _); refine wpListIn_operW rfl (by intro c hc; cases hc) (fun K hK => wp_buildOne 23 33 (.tmp 43) rfl (u8s x.id) rfl i0 _ Try.underlying23 hi0 hz0 (by rw [hz1, id_len hok.1]) (by rw [id_len hok.1]; omega) (by rw [id_len hok.1]; omega) (hK _ _ ?_)); simp only [Act.put, List.setIfInBounds_toArray, List.set_cons_zero, List.set_cons_succ])
          | ((with_reducible show wpListIn _ _ _ _ _ (Oper.mk (some 45) _ _ _ _ _ :: _) _ _); refine wpListIn_operW rfl (by intro c hc; cases hc) (fun K hK => wp_append_of (.tmp 41) (.tmp 44) 23 rfl rfl rfl HRun.out (hK _ _ ?_)); simp only [Act.put, List.setIfInBounds_toArray, List.set_cons_zero, List.set_cons_succ]))
          exact ⟨HI5.out, by simp [intOf]; omega⟩
      · obtain rfl : k = len := by omega
        rw [List.take_of_length_le (by omega)] at hks hsw
        obtain ⟨hsM, hsO, hsI, hsF, hsG⟩ := hsw
        obtain ⟨q4, c4, rfl⟩ := hsO.slice
        obtain ⟨q5, n5, c5, rfl, hn5, hids, hq5⟩ := own_ids_slice hsI hsG
        have hob := hsO.objs rfl (fun o ho => (hsF o ho).1) (fun o ho => (hsF o ho).2.1.1)
        have hgl : n5 ≤ 1000 := by
          have h6 : (gnL (reachL l roots) l).length ≤ l.length := by unfold gnL; rw [List.length_map]; exact List.length_filter_le _ _
          omega
        have hq4 : q4 = none → ks.length = 0 ∧ c4 = 0 := fun e => by
          subst e
          rcases hsO.2 with ⟨e', h0⟩ | ⟨g, c', cur, e', _⟩
          · simp only [Value.slice.injEq, true_and] at e'; exact e'
          · cases e'
        have HCp : Hid (Calls Try.prog 27 #[.slice q4 ks.length c4] wr fun e w' => e = .returned (.slice q4 ks.length ks.length) ∧ w' = wr) := clipO_any q4 ks.length c4 wr hob.2.1 hob.2.2.1 hq4
        have HL : Hid (Calls Try.prog 24 #[.slice q5 n5 c5] wr (LinksPost wr (gnL (reachL l roots) l))) := links_any q5 n5 c5 (gnL (reachL l roots) l) hgl wr hids
        have HOb : Hid (IsObjs wr.heap.size wr q4 ks.length c4 ks) := hob
        have HKs : Hid (ks.map O.key = (kpL (reachL l roots) l).map O.key) := hks
        have HBA : Hid (Below A.heap.size A wr) := hbA
        clear hsO hsI hsF hsG hids hob hks hbA hq4 hq5
        generalize hkl : ks.length = kl at *
        clear hkl
        gi_wp2_with (first
          | (gi_at_call 27; refine (callsIn_wide.2 HCp.out).mono ?_; rintro e wr2 ⟨rfl, h2⟩; subst h2)
          | (gi_at_call 24; refine (callsIn_wide.2 HL.out).mono ?_; rintro e A2 ⟨q6, n6, rfl, hI6, hb6⟩))
        have hKD2 : A2.heap[D]? = some (.deferred (some [])) := (hb6.block D (by have := HBA.out.size; omega)).trans ((HBA.out.block D hDl).trans HKD.out)
        refine ⟨by simp, .inl ⟨_, _, rfl, run_takeDeferred hKD2, ?_⟩⟩
        have hkp : KpP (fun _ o => o.isCells = true) A2 (A2.putObj D (.deferred none)) := fun k o hp ho => (World.putObj_heap_other (fun e => by subst e; rw [hKD2] at ho; cases ho; cases hp)).trans ho
        have hsz2 : (A2.putObj D (.deferred none)).heap.size = A2.heap.size := by simp [World.putObj]
        have hobA := (HOb.out.later hb6)
        refine ⟨_, results_tmp2 rfl _ _ _, q4, kl, ks, q6, n6, rfl, ?_, HKs.out, ?_, ?_⟩
        · rw [hsz2]
          have h7 := hobA.kpp hkp (fun _ _ _ _ _ => rfl)
          exact ⟨h7.1, Nat.le_refl _, by have := h7.2.1; have := h7.2.2.1; omega, h7.2.2.2⟩
        · rw [hsz2]; exact hI6.kpp hkp (fun _ _ _ _ _ => rfl)
        · rw [hZ]; exact ((hB.trans (HBA.out.mono (by omega))).trans (hb6.mono (by have := HBA.out.size; omega))).trans (below_putObj _ _ (by omega))
  case stop => exact fun _ _ _ _ _ _ h => h.elim
end Go.Proofs.Ytfclbdlkpnoceaa
