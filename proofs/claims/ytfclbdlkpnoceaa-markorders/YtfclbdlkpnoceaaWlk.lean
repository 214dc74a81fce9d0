/-
  All levels, collected; Walk.
-/
import Derived.Test.YtfclbdlkpnoceaaLev
namespace Go.Proofs.Ytfclbdlkpnoceaa
open Go.RowKit Go.Shelf Go.Maps
attribute [local go_sem] Oper.semAt_some

theorem OwnIds.frame {n₀ : Nat} {A B : World} {v : Value} {ids : List (List Nat)} (h : OwnIds n₀ A v ids) (hk : ∀ k c fr, n₀ ≤ k → A.heap[k]? = some (.cells c 33 fr) → B.heap[k]? = some (.cells c 33 fr)) : OwnIds n₀ B v ids := by
  unfold OwnIds at h ⊢
  refine ⟨h.1, ?_⟩
  rcases h.2 with h | ⟨g, c, cur, e, hg, hgg, hnc, hm, hsz, ht⟩
  · exact .inl h
  · exact .inr ⟨g, c, cur, e, hg, hk g _ _ hg hgg, hnc, hm, hsz, ht⟩
theorem info23 : (Try.prog.info? 23).map (fun i => (i.zero, i.size, i.bytes)) = some (some (.slice none 0 0), 1, 24) := by kernel_rfl
/-- What the rounds of AppendSeq keep. -/
def AsP (Z : Nat) (k : Nat) (o : Obj) : Prop := k ≠ Z ∧ k ≠ Z + 2 ∧ (k < Z ∨ ∀ c fr, o ≠ .cells c 23 fr)
abbrev Lvl := Value × List (List Nat)
/-- Levels, as they lie. -/
def LvsAt (Z : Nat) (A : World) (xs : List Lvl) : Prop := ∀ x ∈ xs, OwnIds (Z + 3) A x.1 x.2 ∧ ∀ y ∈ x.2, IsId y
def AsI (Z : Nat) (w : World) (pre : List Lvl) (A : World) : Prop :=
  (∃ v, Boxed A Z 49 v ∧ A.ownsRow Z 23 1 v pre.length (pre.map (·.1)) ∧ True) ∧ (LvsAt Z A pre ∧ Below Z w A)
theorem lvs_own (Z : Nat) (w : World) (B : Nat) (hB : Z ≤ B) (hZ : w.heap.size = Z) : OwnFrom B (fun (pre : List Lvl) A => LvsAt Z A pre ∧ Below Z w A) := fun pre A A' row ⟨h1, h2⟩ hg hr =>
  ⟨fun x hx => ⟨(h1 x hx).1.frame fun k c fr _ hk => (hg.block k (Array.getElem?_eq_some_iff.1 hk).1 (fun e => by
      obtain ⟨_, o, ho, hc⟩ := hr k e.symm
      rw [hk] at ho
      cases ho
      cases hc)).trans hk, (h1 x hx).2⟩, h2.trans ⟨hg.os, hg.tape, hg.output, hg.size, fun k hk => hg.block k (by have := h2.size; omega) (fun e => by have := (hr k e.symm).1; omega)⟩⟩
theorem kpp_grown {Z : Nat} {A B : World} {v : Value} {n : Nat} {xs : List Value} (hr : A.ownsRow Z 23 1 v n xs) (hg : A.grownBy B v.ownBlock) : KpP (AsP Z) A B := fun k o hp ho =>
  (hg.block k (Array.getElem?_eq_some_iff.1 ho).1 (fun e => by
    rcases hr.2 with ⟨e', _⟩ | ⟨g, c, cur, e', hgz, hgg, _⟩
    · subst e'; cases e
    · subst e'
      obtain rfl : k = g := by cases e; rfl
      rcases hp.2.2 with h | h
      · omega
      · rw [hgg] at ho; cases ho; exact h _ _ rfl)).trans ho

set_option maxRecDepth 100000 in
set_option maxHeartbeats 1000000 in
theorem appendLv_in (N : Nat) (hN : 11 ≤ N) (lb : Array Value) (lvs : List (List (List Nat))) (hll : lvs.length ≤ 100000) (w : World)
    (hit : ∀ (lp : Nat) (W : World), W.heap.size = w.heap.size + 3 → Below w.heap.size w W → IterX Fence.wide (N - 1) Try.prog 34 lb (fun x : Lvl => #[x.1]) (fun x A => OwnIds W.heap.size A x.1 x.2 ∧ ∀ y ∈ x.2, IsId y) (KpP (AsP w.heap.size)) (fun pre x => ∃ post, lvs = pre.map (·.2) ++ x.2 :: post) (fun xs => xs.map (·.2) = lvs) (fun _ => True) lp W) :
    CallsIn Fence.wide N Try.prog 33 #[.slice none 0 0, .func (.func 34) #[] lb] w fun e w' => ∃ v xs, e = .returned v ∧ xs.map (·.2) = lvs ∧ w'.ownsRow w.heap.size 23 1 v xs.length (xs.map (·.1)) ∧ LvsAt w.heap.size w' xs ∧ Below w.heap.size w w' := by
  obtain ⟨i0, hi0, hz0, hz1, hz2⟩ := info_parts info23
  have h1 : 1 ≤ N := by omega
  have hfn : ∀ f, Fence.wide.fn f := fun _ => trivial
  refine callsIn_of_wp_marks Try.func33 rfl trivial ?_ rfl
  simp only [Try.ntmps33, List.size_toArray, List.length_cons, List.length_nil, Nat.reduceAdd, Nat.reduceSub, Array.replicate_succ, Array.replicate_zero, List.push_toArray, List.append_toArray, List.nil_append, List.cons_append]
  gi_wp2
  have bX0 := Boxed.new w 49 (.slice none 0 0)
  have hb0 : Below w.heap.size w (w.alloc (.cells #[.slice none 0 0] 49)) := (Below.refl _ w).alloc (Nat.le_refl _) _
  have hs0 : (w.alloc (.cells #[.slice none 0 0] 49)).heap.size = w.heap.size + 1 := by simp
  generalize w.alloc (.cells #[.slice none 0 0] 49) = w0 at *
  generalize hZ : w.heap.size = Z at *
  refine wpIn_rangeFunc_okx rfl h1 (gf := 34) (lb := lb) rfl trivial (enters_of Try.func34 (by kernel_rfl) rfl)
    (encs := fun x : Lvl => #[x.1]) (Ok := fun x A => OwnIds (Z + 3) A x.1 x.2 ∧ ∀ y ∈ x.2, IsId y) (Kp := KpP (AsP Z)) (Nx := fun pre x => ∃ post, lvs = pre.map (·.2) ++ x.2 :: post) (S := fun xs => xs.map (·.2) = lvs) (Sp := fun _ => True)
    (fun W' hs hb => by
      have h := hit (w0.heap.size + 1) W' (by omega) (hb0.trans (hb.mono (by omega)))
      rw [show W'.heap.size = Z + 3 by omega] at h
      exact h)
    KpP.trans (fun A o o' ho hc => KpP.record o' (fun _ h => by have := h.2.1; omega)) KpP.of_below (fun _ => rfl)
    (fun _ _ _ => True) (fun _ _ _ _ _ _ => trivial)
    (AsI Z w)
    (fun _ _ _ => False)
    (OwnFrom.and (Own.from (holdsRow_own Z Z 49 23 1 (fun pre : List Lvl => pre.length) (fun pre => pre.map (·.1)) (fun _ _ => True)) _) (lvs_own Z w w0.heap.size (by omega) hZ))
    (fun _ _ _ _ _ h _ _ => h.elim)
    (fun x A A' row h hg hr => ⟨h.1.frame fun k c fr _ hk => (hg.block k (Array.getElem?_eq_some_iff.1 hk).1 (fun e => by
      obtain ⟨_, o, ho, hc⟩ := hr k e.symm
      rw [hk] at ho
      cases ho
      cases hc)).trans hk, h.2⟩)
    ⟨⟨_, bX0, World.ownsRow_nil _ _ _ _, trivial⟩, fun x hx => by simp at hx, hb0⟩
    (fun x A => { tmps := #[.slice none 0 0, .func (.func 34) #[] lb, .pointer (some ⟨Z, 0, none⟩), undef, .slice none 0 0, x.1, .func (.func 34) #[] lb, x.1, undef, undef, undef, undef, undef], defers := [] }) ?assign ?body ?done ?stop
  case assign =>
    intro li x A K hok hK
    have HK : Hid (∀ W', Below A.heap.size A W' → True → K _ W') := hK
    clear hK
    gi_wp2
    exact HK.out A (Below.refl _ A) trivial
  case body =>
    rintro li pre x A₀ A ⟨⟨v, hv, hrow, _⟩, hLv, hB⟩ ⟨hox, hix⟩ ⟨post, hpost⟩ hle _
    obtain ⟨q, c, rfl⟩ := slice_of_row hrow
    obtain ⟨qx, cx, hx1⟩ := hox.slice
    have hlp : pre.length ≤ 100000 := by
      have := congrArg List.length hpost
      simp at this
      omega
    rw [hx1]
    have HHx : Hid (x.1 = .slice qx x.2.length cx) := hx1
    generalize x.2.length = nx at *
    obtain ⟨W4, hW4⟩ : ∃ W4, A.alloc (.cells #[.slice qx nx cx] 23) = W4 := ⟨_, rfl⟩
    have hBsz := hB.size
    have hr4 : W4.ownsRow Z 23 1 (.slice q pre.length c) pre.length (pre.map (·.1)) := by rw [← hW4]; exact World.ownsRow.alloc hrow _
    have hrg4 : W4.rangeAt A.heap.size 0 [.slice qx nx cx] := by rw [← hW4]; exact (Row.new' A 23 [.slice qx nx cx]).range
    have hs4 : W4.heap.size = A.heap.size + 1 := by rw [← hW4]; exact World.size_alloc _ _
    have hb4 : Below A.heap.size A W4 := by rw [← hW4]; exact (Below.refl _ A).alloc (Nat.le_refl _) _
    obtain ⟨u5, W5, hrun, ho5, hg5, _, _⟩ := run_append_own_at (P := Try.prog) W4 Z 49 49 23 i0 _ 1 24 Try.underlying49 hi0 hz0 hz1 hz2 rfl (by omega) (.slice q pre.length c) pre.length (pre.map (·.1)) hr4 ⟨A.heap.size, 0, none⟩ 1 1 [.slice qx nx cx] rfl (fun j u hu => by rw [Addr.add_mid]; exact hrg4 j u hu) (by simp [Value.oneCell']) (by simp only [maxLen]; omega) (by omega) (by omega)
    obtain ⟨q5, l5, c5, rfl⟩ : ∃ q l c, u5 = Value.slice q l c := by obtain ⟨q, c, e⟩ := slice_of_row ho5; exact ⟨q, _, c, e⟩
    have hg5' : (A.alloc (.cells #[.slice qx nx cx] 23)).grownBy W5 (Value.slice q pre.length c).ownBlock := by rw [hW4]; exact hg5
    obtain ⟨hv1, hv2, hr2, hk2, hb2⟩ := hv.appended (by decide) hrow (by omega) (Nat.le_refl _) ho5 hg5'
    have hkp : KpP (AsP Z) A (W5.setCell ⟨Z, 0, none⟩ (.slice q5 l5 c5)) := by
      refine ((KpP.of_below hb4).trans (kpp_grown hr4 hg5)).trans (fun k o hp ho => ?_)
      exact ((grownBy_setCell' W5 Z (.slice q5 l5 c5)).block k (Array.getElem?_eq_some_iff.1 ho).1 (fun e => by cases e; exact hp.1 rfl)).trans ho
    have HRun : Hid ((Builtin.append_ #[49, 49] 49 #[.slice q pre.length c, .slice (some ⟨A.heap.size, 0, none⟩) 1 1]).run Try.prog W4 = .ok (.slice q5 l5 c5) W5) := hrun
    have hcv := hv.cell
    have hcv5 := hv1.cell
    have hfv5 := hv1.frozen
    have HFin : Hid (KeepsFrom w0.heap.size A (W5.setCell ⟨Z, 0, none⟩ (.slice q5 l5 c5)) ∧ KpP (AsP Z) A (W5.setCell ⟨Z, 0, none⟩ (.slice q5 l5 c5)) ∧ AsI Z w (pre ++ [x]) (W5.setCell ⟨Z, 0, none⟩ (.slice q5 l5 c5))) := by
      refine ⟨⟨hk2.size, fun k o _ h1 h2 => hk2.same k o h1 h2⟩, hkp, ⟨_, hv2, ?_, trivial⟩, fun y hy => ?_, hB.trans hb2⟩
      · rw [List.length_append, List.map_append, List.map_cons, HHx.out]
        exact hr2
      · have hy2 : OwnIds (Z + 3) A y.1 y.2 ∧ ∀ z ∈ y.2, IsId z := by
          rcases List.mem_append.1 hy with h | h
          · exact hLv y h
          · simp at h; subst h; exact ⟨hox, hix⟩
        exact ⟨hy2.1.frame fun k c fr hk hh => hkp k _ ⟨by omega, by omega, .inr (fun c' fr' e => by cases e)⟩ hh, hy2.2⟩
    clear hrow hr4 hrg4 hg5 hg5' hv hv1 hv2 hr2 hk2 hb2 hkp hB ho5 hrun hLv hox hpost
    gi_wp2_with (first
      | ((with_reducible show wpListIn _ _ _ _ _ (Oper.mk (some 11) _ _ _ _ _ :: _) _ _); refine wpListIn_oper rfl (by intro c hc; cases hc) (fun K hK => wp_append_of (.tmp 8) (.tmp 10) 49 rfl rfl rfl HRun.out (hK _ _ ?_)); simp only [Act.put, List.setIfInBounds_toArray, List.set_cons_zero, List.set_cons_succ]))
    exact HFin.out
  case done =>
    rintro D xs A hD hxs ⟨⟨v, hv, hrow, _⟩, hLv, hB⟩ hKD
    obtain ⟨q, c, rfl⟩ := slice_of_row hrow
    have hcU := hv.cell
    have HRow : Hid (A.ownsRow Z 23 1 (.slice q xs.length c) xs.length (xs.map (·.1))) := hrow
    clear hrow
    gi_wp2
    refine ⟨by simp, .inl ⟨_, _, rfl, run_takeDeferred hKD, ?_⟩⟩
    refine ⟨_, results_tmp rfl _ _ _, _, xs, rfl, hxs, ?_, ?_, ?_⟩
    · rw [hZ]; exact ownsRow_putObj HRow.out (.deferred none) hKD rfl
    · rw [hZ]
      exact fun x hx => ⟨(hLv x hx).1.frame fun k c fr _ hk => (World.putObj_heap_other (fun e => by subst e; rw [hKD] at hk; cases hk)).trans hk, (hLv x hx).2⟩
    · rw [hZ]; exact hB.trans (below_putObj _ _ (by omega))
  case stop => exact fun _ _ _ _ _ _ h => h.elim

theorem levF_length (l : List O) : ∀ (f : Nat) (met next : List (List Nat)), (levF l f met next).length ≤ f
  | 0, _, _ => by simp [levF]
  | f + 1, met, next => by
    rw [levF]
    split
    · simp
    · have := levF_length l f (met ++ meetL l met next) (linkedL l (meetL l met next))
      simp only [List.length_cons]
      omega
/-- The levels that a walk found, as they lie: all of it from block m on. -/
def FoundAt (m : Nat) (W : World) (B : Nat) (lvs : List (List (List Nat))) : Prop :=
  ∃ (v : Value) (xs : List Lvl), m ≤ B ∧ Boxed W B 49 v ∧ W.ownsRow m 23 1 v xs.length (xs.map (·.1)) ∧ (∀ x ∈ xs, OwnIds m W x.1 x.2 ∧ ∀ y ∈ x.2, IsId y) ∧ xs.map (·.2) = lvs
theorem FoundAt.later {m : Nat} {A B : World} {b : Nat} {lvs : List (List (List Nat))} (h : FoundAt m A b lvs) (hb : Below A.heap.size A B) : FoundAt m B b lvs := by
  obtain ⟨v, xs, h1, h2, h3, h4, h5⟩ := h
  exact ⟨v, xs, h1, boxed_below h2 hb, ownsRow_later hb h3, fun x hx => ⟨(h4 x hx).1.later hb, (h4 x hx).2⟩, h5⟩

set_option maxHeartbeats 1000000 in
theorem walk_any (p : Option Addr) (len cap : Nat) (q : Option Addr) (rl rc : Nat) (l : List O) (roots : List (List Nat)) (hlen : len ≤ 100) (hrl : rl ≤ 1000) (hln : ∀ o ∈ l, o.links.length ≤ 100) (w : World) (hI : IsObjs w.heap.size w p len cap l) (hR : IsIds w.heap.size w q rl rc roots) :
    Calls Try.prog 10 #[.slice p len cap, .slice q rl rc] w fun e w' => ∃ Bf, e = .returned (.func (.func 23) #[] #[.pointer (some ⟨Bf, 0, none⟩)]) ∧ FoundAt w.heap.size w' Bf (levels l roots) ∧ Below w.heap.size w w' := by
  have HI : Hid (IsObjs w.heap.size w p len cap l) := hI
  have HR : Hid (IsIds w.heap.size w q rl rc roots) := hR
  obtain ⟨w1, hw1⟩ : ∃ w1, (w.alloc (.cells #[.slice p len cap] 22)).alloc (.cells #[.slice q rl rc] 23) = w1 := ⟨_, rfl⟩
  have hb1 : Below w.heap.size w w1 := by rw [← hw1]; exact ((Below.refl _ w).alloc (Nat.le_refl _) _).alloc (by simp) _
  have hs1 : w1.heap.size = w.heap.size + 2 := by rw [← hw1]; simp
  have hbx1 : Boxed w1 w.heap.size 22 (.slice p len cap) := by rw [← hw1]; exact (Boxed.new w 22 _).alloc _
  have hbx2 : Boxed w1 (w.heap.size + 1) 23 (.slice q rl rc) := by rw [← hw1]; have h := Boxed.new (w.alloc (.cells #[.slice p len cap] 22)) 23 (.slice q rl rc); rw [World.size_alloc] at h; exact h
  have HC : Hid (Calls Try.prog 21 #[.func (.func 34) #[] #[.pointer (some ⟨w.heap.size, 0, none⟩), .pointer (some ⟨w.heap.size + 1, 0, none⟩)]] w1 fun e w' => ∃ q n c xs, e = .returned (.slice q n c) ∧ xs.map (·.2) = levels l roots ∧ w'.ownsRow w1.heap.size 23 1 (.slice q n c) xs.length (xs.map (·.1)) ∧ LvsAt w1.heap.size w' xs ∧ Below w1.heap.size w1 w') := by
    have HA : Hid (Calls Try.prog 33 #[.slice none 0 0, .func (.func 34) #[] #[.pointer (some ⟨w.heap.size, 0, none⟩), .pointer (some ⟨w.heap.size + 1, 0, none⟩)]] w1 fun e w' => ∃ v xs, e = .returned v ∧ xs.map (·.2) = levels l roots ∧ w'.ownsRow w1.heap.size 23 1 v xs.length (xs.map (·.1)) ∧ LvsAt w1.heap.size w' xs ∧ Below w1.heap.size w1 w') := by
      refine callsIn_wide.1 (appendLv_in 20 (by omega) _ (levels l roots) (by have := levF_length l (l.length + 1) [] roots; have := hI.1; unfold levels; omega) w1 (fun lp V hs hb => ?_))
      have hbV : Below w.heap.size w V := hb1.trans (hb.mono (by omega))
      exact levels1_iter 19 (by omega) lp w.heap.size (w.heap.size + 1) w.heap.size p len cap q rl rc l roots _ V hlen hrl (boxed_below hbx1 hb) (boxed_below hbx2 hb) (HI.out.below hbV) (HR.out.below hbV) (by omega) hln
        (fun k o hk ho => ⟨by omega, by omega, .inr ho⟩) (fun k c t fr hk => ⟨by omega, by omega, .inl (by omega)⟩)
    clear hbx1 hbx2 hw1
    show Calls _ _ _ _ _
    go_enter Try.func21, Try.ntmps21
    go_wp2_with (go_at_call 33; refine HA.out.mono ?_; rintro e w2 ⟨v, xs, rfl, h1, h2, h3, h4⟩)
    go_ret
    obtain ⟨q, c, rfl⟩ := slice_of_row h2
    exact ⟨q, _, c, xs, rfl, h1, h2, h3, h4⟩
  clear hI hR hbx1 hbx2
  go_enter Try.func10, Try.ntmps10
  go_wp2_with (first
    | (go_at_call 22; refine (levels_any p len cap q rl rc w).mono ?_; rintro e w' ⟨rfl, rfl⟩; rw [hw1])
    | (go_at_call 21; refine HC.out.mono ?_; rintro e w2 ⟨q2, n2, c2, xs, rfl, h1, h2, h3, h4⟩))
  go_ret
  have hb5 : Below w2.heap.size w2 (w2.alloc (.cells #[.slice q2 n2 c2] 49)) := (Below.refl _ w2).alloc (Nat.le_refl _) _
  have hs2 := h4.size
  refine ⟨_, rfl, ⟨_, xs, by omega, Boxed.new w2 49 _, ownsRow_mono (by omega) (ownsRow_later hb5 h2), fun x hx => ⟨((h3 x hx).1.mono (by omega)).later hb5, (h3 x hx).2⟩, h1⟩, hb1.trans ((h4.mono (by omega)).trans (hb5.mono (by omega)))⟩
end Go.Proofs.Ytfclbdlkpnoceaa
