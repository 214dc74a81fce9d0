/-
  nextNames: the names that stand next.
-/
import Derived.Test.YtedpgdldekkgdaaNam
import Derived.RangeFuncBox
import Derived.RangeFuncFrom
namespace Go.Proofs.Ytedpgdldekkgdaa
open Go.RowKit Go.Shelf
attribute [local go_sem] Oper.semAt_some

theorem ownsRow_frame {m n sz : Nat} {t : TypeId} {A B : World} {v : Value} {cs : List Value} (h : A.ownsRow m t sz v n cs) (hk : ∀ k c fr, m ≤ k → k < A.heap.size → A.heap[k]? = some (.cells c t fr) → B.heap[k]? = some (.cells c t fr)) : B.ownsRow m t sz v n cs := by
  refine ⟨h.1, ?_⟩
  rcases h.2 with h | ⟨g, c, cur, e, hg, hgg, hnc, hm, hsz, ht⟩
  · exact .inl h
  · exact .inr ⟨g, c, cur, e, hg, hk g _ _ hg (Array.getElem?_eq_some_iff.1 hgg).1 hgg, hnc, hm, hsz, ht⟩
theorem wpIn_scope_wide {P : Program} {Q : Exit → Act → World → Prop} {m : Nat} {c : Code} {a : Act} {w : World} (h : c.wpIn Fence.wide m P (Exit.noGoto Q) a w) : (Code.scope c).wpIn Fence.wide m P Q a w := wpIn_wide.2 (wp_scope_straight (wpIn_wide.1 h))
/-- One more text behind a row of them, whose slice stands in a box. -/
theorem append_boxS {A : World} {Z M : Nat} (hZM : Z < M) {q : Option Addr} {n c : Nat} {xs : List ByteArray} (hv : Boxed A Z 42 (.slice q n c)) (hrow : A.ownsRow M 9 1 (.slice q n c) n (strs xs)) (hxs : xs.length = n) (hM : M ≤ A.heap.size) (x : ByteArray) (hl : n ≤ 100000) :
    ∃ W5 q5 l5 c5, (Builtin.append_ #[42, 42] 42 #[.slice q n c, .slice (some ⟨A.heap.size, 0, none⟩) 1 1]).run Try.prog (A.alloc (.cells #[.string x] 9)) = .ok (.slice q5 l5 c5) W5 ∧ Boxed W5 Z 42 (.slice q n c) ∧ Boxed (W5.setCell ⟨Z, 0, none⟩ (.slice q5 l5 c5)) Z 42 (.slice q5 l5 c5) ∧
      (W5.setCell ⟨Z, 0, none⟩ (.slice q5 l5 c5)).ownsRow M 9 1 (.slice q5 l5 c5) (n + 1) (strs (xs ++ [x])) ∧ (∀ k o, k < M → k ≠ Z → A.heap[k]? = some o → (W5.setCell ⟨Z, 0, none⟩ (.slice q5 l5 c5)).heap[k]? = some o) ∧ KeepsFrom M A (W5.setCell ⟨Z, 0, none⟩ (.slice q5 l5 c5)) ∧ Below Z A (W5.setCell ⟨Z, 0, none⟩ (.slice q5 l5 c5)) := by
  obtain ⟨i0, hi0, hz0, hz1, hz2⟩ := info_parts info9
  obtain ⟨W4, hW4⟩ : ∃ W4, A.alloc (.cells #[.string x] 9) = W4 := ⟨_, rfl⟩
  have hb4 : Below A.heap.size A W4 := by rw [← hW4]; exact (Below.refl _ A).alloc (Nat.le_refl _) _
  have hr4 : W4.ownsRow M 9 1 (.slice q n c) n (strs xs) := by rw [← hW4]; exact World.ownsRow.alloc hrow _
  have hrg4 : W4.rangeAt A.heap.size 0 (strs [x]) := by rw [← hW4]; exact (Row.new' A 9 (strs [x])).range
  have hs4 : W4.heap.size = A.heap.size + 1 := by rw [← hW4]; exact World.size_alloc _ _
  obtain ⟨u5, W5, hrun, ho5, hg5, _, _⟩ := run_append_own_at (P := Try.prog) W4 M 42 42 9 i0 _ 1 16 Try.underlying42 hi0 hz0 hz1 hz2 (by simp [Value.cells]) (by omega) (.slice q n c) n (strs xs) hr4 ⟨A.heap.size, 0, none⟩ 1 1 (strs [x]) (by simp [strs]) (fun j u hu => by rw [Addr.add_mid]; exact hrg4 j u hu) (strs_one _) (by simp only [maxLen]; omega) (by omega) (by omega)
  obtain ⟨q5, l5, c5, rfl⟩ : ∃ q l c, u5 = Value.slice q l c := by obtain ⟨q, c, e⟩ := slice_of_row ho5; exact ⟨q, _, c, e⟩
  have hnb : ∀ k, some k = (Value.slice q n c).ownBlock → M ≤ k ∧ ∃ c' fr', W4.heap[k]? = some (.cells c' 9 fr') := fun k e => by
    rcases hr4.2 with ⟨e', _⟩ | ⟨g, c', cur, e', hgz, hgg, _⟩
    · rw [e'] at e; cases e
    · rw [e'] at e
      cases e
      exact ⟨hgz, cur, _, hgg⟩
  have hset := But.set (B := Z) (n := W5.heap.size) (w := W5) 0 (.slice q5 l5 c5)
  have hlow : ∀ k o, k < M → k ≠ Z → A.heap[k]? = some o → (W5.setCell ⟨Z, 0, none⟩ (.slice q5 l5 c5)).heap[k]? = some o := fun k o hk hkz ho => by
    have h4 : W4.heap[k]? = some o := (hb4.block k (Array.getElem?_eq_some_iff.1 ho).1).trans ho
    have h5 : W5.heap[k]? = some o := (hg5.block k (Array.getElem?_eq_some_iff.1 h4).1 (fun e => by have := (hnb k e).1; omega)).trans h4
    exact (hset.block k (Array.getElem?_eq_some_iff.1 h5).1 hkz).trans h5
  have hv4 : Boxed W4 Z 42 (.slice q n c) := boxed_below hv hb4
  have hv5 : Boxed W5 Z 42 (.slice q n c) := (hg5.block Z hv4.lt (fun e => by have := (hnb Z e).1; omega)).trans hv4
  refine ⟨W5, q5, l5, c5, by rw [hW4]; exact hrun, hv5, hv5.set _, ?_, hlow, ⟨Nat.le_trans hb4.size (Nat.le_trans hg5.size hset.size), fun k o hk ho hc => ?_⟩, ⟨hset.os.trans (hg5.os.trans hb4.os), hset.tape.trans (hg5.tape.trans hb4.tape), hset.output.trans (hg5.output.trans hb4.output), Nat.le_trans hb4.size (Nat.le_trans hg5.size hset.size), fun k hk => ?_⟩⟩
  · rw [show strs (xs ++ [x]) = strs xs ++ strs [x] by simp [strs]]
    refine ownsRow_frame (A := W5) (by simpa using ho5) fun k c fr h1 h2 h3 => (hset.block k h2 (fun e => by subst e; omega)).trans h3
  · have h4 : W4.heap[k]? = some o := (hb4.block k (Array.getElem?_eq_some_iff.1 ho).1).trans ho
    have h5 : W5.heap[k]? = some o := (hg5.block k (Array.getElem?_eq_some_iff.1 h4).1 (fun e => by
      obtain ⟨_, c', fr', h'⟩ := hnb k e
      rw [h'] at h4
      cases h4
      cases hc)).trans h4
    exact (hset.block k (Array.getElem?_eq_some_iff.1 h5).1 (fun e => by subst e; omega)).trans h5
  · have hkA : k < A.heap.size := by have := hv.lt; omega
    rw [Array.getElem?_eq_getElem hkA]
    exact hlow k _ (by omega) (by omega) (Array.getElem?_eq_getElem hkA)

set_option maxHeartbeats 1000000 in
theorem clipS_any (q : Option Addr) (n c : Nat) (w : World) (hn : n ≤ c) (hc : c ≤ 9223372036854775807) (hq : q = none → n = 0 ∧ c = 0) :
    Calls Try.prog 56 #[.slice q n c] w fun e w' => e = .returned (.slice q n n) ∧ w' = w := by
  cases q with
  | none =>
    obtain ⟨rfl, rfl⟩ := hq rfl
    go_enter Try.func56, Try.ntmps56
    go_wp2
    go_ret
    exact ⟨rfl, rfl⟩
  | some a =>
    have h1 : (n : Int) ≤ (c : Int) := by omega
    go_enter Try.func56, Try.ntmps56
    go_wp2
    go_ret
    exact ⟨rfl, rfl⟩

/-- Texts in a block from M on. -/
def StrsFrom (M : Nat) (W : World) (q : Option Addr) (l c : Nat) (xs : List ByteArray) : Prop :=
  xs.length = l ∧ l ≤ c ∧ c ≤ 9223372036854775807 ∧ (l = 0 ∨ ∃ b, q = some ⟨b, 0, none⟩ ∧ M ≤ b ∧ b < W.heap.size ∧ ∀ i (h : i < xs.length), W.cell? ⟨b, 0 + i, none⟩ = some (.string xs[i]))
theorem StrsFrom.strs {M : Nat} {W : World} {q : Option Addr} {l c : Nat} {xs : List ByteArray} : StrsFrom M W q l c xs → IsStrs W.heap.size W q l c xs
  | ⟨h1, h2, h3, .inl e⟩ => ⟨h1, h2, h3, .inl e⟩
  | ⟨h1, h2, h3, .inr ⟨b, e, _, hb, hc⟩⟩ => ⟨h1, h2, h3, .inr ⟨b, 0, e, hb, hc⟩⟩
theorem StrsFrom.kept {M : Nat} {A A' : World} (h : ∀ k, M ≤ k → k < A.heap.size → A'.heap[k]? = A.heap[k]?) (hs : A.heap.size ≤ A'.heap.size) {q : Option Addr} {l c : Nat} {xs : List ByteArray} : StrsFrom M A q l c xs → StrsFrom M A' q l c xs
  | ⟨h1, h2, h3, .inl e⟩ => ⟨h1, h2, h3, .inl e⟩
  | ⟨h1, h2, h3, .inr ⟨b, e, hM, hb, hc⟩⟩ => ⟨h1, h2, h3, .inr ⟨b, e, hM, Nat.lt_of_lt_of_le hb hs, fun i hi => (cell_same (h b hM hb) (0 + i)).trans (hc i hi)⟩⟩
theorem StrsFrom.later {M : Nat} {A A' : World} (hb : Below A.heap.size A A') {q : Option Addr} {l c : Nat} {xs : List ByteArray} (h : StrsFrom M A q l c xs) : StrsFrom M A' q l c xs := h.kept (fun k _ hk => hb.block k hk) hb.size
theorem StrsFrom.but {M B : Nat} {A A' : World} (hb : But B A.heap.size A A') (hB : B < M) {q : Option Addr} {l c : Nat} {xs : List ByteArray} (h : StrsFrom M A q l c xs) : StrsFrom M A' q l c xs := h.kept (fun k hM hk => hb.block k hk (by omega)) hb.size
theorem StrsFrom.nil (M : Nat) (W : World) : StrsFrom M W none 0 0 [] := ⟨rfl, Nat.le_refl _, by omega, .inl rfl⟩
theorem from_ownS {M : Nat} {W : World} {q : Option Addr} {l c : Nat} {xs : List ByteArray} (h : W.ownsRow M 9 1 (.slice q l c) l (strs xs)) (hl : xs.length = l) : StrsFrom M W q l l xs ∧ l ≤ c ∧ c ≤ 9223372036854775807 ∧ (q = none → l = 0 ∧ c = 0) := by
  subst hl
  have h' : OwnS M W (.slice q xs.length c) xs := h
  have hs := OwnS.strs h'
  have hq : q = none → xs.length = 0 ∧ c = 0 := fun hq => by
    subst hq
    rcases h.2 with ⟨e, _⟩ | ⟨g, cap, cur, e, _⟩
    · simp only [Value.slice.injEq] at e
      exact ⟨e.2.1, e.2.2⟩
    · simp only [Value.slice.injEq] at e
      exact absurd e.1 (by simp)
  by_cases h0 : xs.length = 0
  · exact ⟨⟨rfl, Nat.le_refl _, by have := hs.2.1; have := hs.2.2.1; omega, .inl h0⟩, hs.2.1, hs.2.2.1, hq⟩
  · obtain ⟨g, hg0, hM, hg, _⟩ := OwnS.row (len := xs.length) h' (by omega)
    refine ⟨⟨rfl, Nat.le_refl _, by have := hs.2.1; have := hs.2.2.1; omega, .inr ⟨g, hg0, hM, hg, fun i hi => ?_⟩⟩, hs.2.1, hs.2.2.1, hq⟩
    rcases hs.2.2.2 with h | ⟨b, off, e, _, hc⟩
    · omega
    · rw [hg0] at e
      cases e
      exact hc i hi
/-- What nextNames answers. -/
def NamesPost (B : Nat) (st : Option (List Nat)) (w : World) (e : Ending) (w' : World) : Prop :=
  ∃ q l c xs, e = .returned (.slice q l c) ∧ StrsFrom w.heap.size w' q l c xs ∧ RdAt w' B (nS (readN 1000 st).1 (readN 1000 st).2) ∧ But B w.heap.size w w' ∧ (nS (readN 1000 st).1 (readN 1000 st).2 ≠ none → xs = nL (readN 1000 st).1 (readN 1000 st).2)
theorem but_own {β : Type} {B n M : Nat} {w : World} (hM : n ≤ M) (hn : n ≤ w.heap.size) : OwnFrom M (fun (_ : β) A => But B n w A) := fun _ A A' row h hg hr => h.trans ⟨hg.os, hg.tape, hg.output, hg.size, fun k hk _ => hg.block k (by have := h.size; omega) (fun e => by have := (hr k e.symm).1; omega)⟩

/-- nextNames under way: the names so far; what is kept. -/
def NnI (B Zf Z M : Nat) (w : World) (s1 : Option (List Nat)) (pre : List Nat) (A : World) : Prop :=
  (∃ v, Boxed A Z 42 v ∧ A.ownsRow M 9 1 v pre.length (strs (nL pre.length s1)) ∧ True) ∧ (Boxed A Zf 65 (.pointer (some ⟨B, 0, none⟩)) ∧ But B w.heap.size w A) ∧ (M ≤ A.heap.size ∧ ∀ j, j < pre.length → nS (j + 1) s1 ≠ none)
/-- nextNames, left: the reader gave up. -/
def NnX (B Z M : Nat) (w : World) (s1 : Option (List Nat)) (c : Code) (pre : List Nat) (A : World) : Prop :=
  (c = .exit 0 ∧ nS pre.length s1 = none) ∧ (∃ v, Boxed A Z 42 v ∧ A.ownsRow M 9 1 v (pre.length - 1) (strs (nL (pre.length - 1) s1)) ∧ True) ∧ (RdAt A B none ∧ But B w.heap.size w A)
theorem NnI.own {B Zf Z M : Nat} {w : World} {s1 : Option (List Nat)} (hB : B < w.heap.size) (hZf : w.heap.size ≤ Zf) (hZ : w.heap.size ≤ Z) (hM : w.heap.size ≤ M) : OwnBut B M (NnI B Zf Z M w s1) :=
  ⟨OwnFrom.and (Own.from (holdsRow_own M Z 42 9 1 (fun pre : List Nat => pre.length) (fun pre => strs (nL pre.length s1)) (fun _ _ => True)) _)
    (OwnFrom.and (OwnFrom.and (Own.from (boxed_own _ _ _) _) (but_own hM (Nat.le_refl _))) (fun s A A' row h hg _ => ⟨Nat.le_trans h.1 hg.size, h.2⟩)),
   fun s A A' ⟨⟨v, h1, h2, _⟩, ⟨h3, h4⟩, h5, h6⟩ hb => ⟨⟨v, (hb.block Z h1.lt (by omega)).trans h1, ownsRow_frame h2 (fun k c fr hk hs hh => (hb.block k hs (by omega)).trans hh), trivial⟩, ⟨(hb.block Zf h3.lt (by omega)).trans h3, h4.trans (hb.mono h4.size)⟩, Nat.le_trans h5 hb.size, h6⟩⟩
theorem rd_own {β : Type} {B M : Nat} {st : Option (List Nat)} (hB : B < M) : OwnFrom M (fun (_ : β) A => RdAt A B st) := fun _ A A' row h hg hr => h.kept (fun k hk hs => hg.block k hs (fun e => by have := (hr k e.symm).1; omega))
theorem NnX.own {B Z M : Nat} {w : World} {s1 : Option (List Nat)} (hB : B < w.heap.size) (hM : w.heap.size ≤ M) (c : Code) : OwnFrom M (NnX B Z M w s1 c) :=
  OwnFrom.and (fun _ _ _ _ h _ _ => h) (OwnFrom.and (Own.from (holdsRow_own M Z 42 9 1 (fun pre : List Nat => pre.length - 1) (fun pre => strs (nL (pre.length - 1) s1)) (fun _ _ => True)) _) (OwnFrom.and (rd_own (by omega)) (but_own hM (Nat.le_refl _))))

set_option maxRecDepth 100000 in
set_option maxHeartbeats 2000000 in
theorem nextNames_any (B : Nat) (st : Option (List Nat)) (w : World) (h : RdAt w B st) : Calls Try.prog 39 #[.pointer (some ⟨B, 0, none⟩)] w (NamesPost B st w) := by
  obtain ⟨s1, hs1⟩ : ∃ s1, (readN 1000 st).2 = s1 := ⟨_, rfl⟩
  obtain ⟨m, hme⟩ : ∃ m, (readN 1000 st).1 = m := ⟨_, rfl⟩
  have HP : Hid (NamesPost B st w = fun e w' => ∃ q l c xs, e = .returned (.slice q l c) ∧ StrsFrom w.heap.size w' q l c xs ∧ RdAt w' B (nS m s1) ∧ But B w.heap.size w w' ∧ (nS m s1 ≠ none → xs = nL m s1)) := by
    show _ = _
    unfold NamesPost
    rw [hs1, hme]
  rw [HP.out]
  obtain ⟨N, hN⟩ : ∃ N, 20 ≤ N := ⟨20, Nat.le_refl _⟩
  refine (callsIn_wide (n := N)).1 ?_
  have h1 : 1 ≤ N := by omega
  have hfn : ∀ f, Fence.wide.fn f := fun _ => trivial
  have hBl := h.lt
  have hm := readN_le 1000 st
  obtain ⟨w2, hw2⟩ : ∃ w2, (w.alloc (.cells #[.pointer (some ⟨B, 0, none⟩)] 65)).alloc (.cells #[.slice none 0 0] 42) = w2 := ⟨_, rfl⟩
  have hs2 : w2.heap.size = w.heap.size + 1 + 1 := by rw [← hw2]; simp
  have hb2 : Below w.heap.size w w2 := by rw [← hw2]; exact ((Below.refl _ w).alloc (Nat.le_refl _) _).alloc (by simp) _
  have hzf2 : Boxed w2 w.heap.size 65 (.pointer (some ⟨B, 0, none⟩)) := by rw [← hw2]; exact boxed_below (Boxed.new w 65 _) ((Below.refl _ _).alloc (Nat.le_refl _) _)
  have hz2 : Boxed w2 (w.heap.size + 1) 42 (.slice none 0 0) := by
    have := Boxed.new (w.alloc (.cells #[.pointer (some ⟨B, 0, none⟩)] 65)) 42 (.slice none 0 0)
    rw [World.size_alloc] at this
    rw [← hw2]
    exact this
  obtain ⟨w3, hw3⟩ : ∃ w3, w2.alloc (.cells #[.pointer (some ⟨B, 0, none⟩)] 65) = w3 := ⟨_, rfl⟩
  have hs3 : w3.heap.size = w.heap.size + 1 + 1 + 1 := by rw [← hw3]; simp [hs2]
  have hb23 : Below w2.heap.size w2 w3 := by rw [← hw3]; exact (Below.refl _ w2).alloc (Nat.le_refl _) _
  have hb3 : Below w.heap.size w w3 := hb2.trans (hb23.mono (by omega))
  have hbx : Boxed w3 (w.heap.size + 1 + 1) 65 (.pointer (some ⟨B, 0, none⟩)) := by rw [← hw3, ← hs2]; exact Boxed.new w2 65 _
  have HW2 : Hid ((w.alloc (.cells #[.pointer (some ⟨B, 0, none⟩)] 65)).alloc (.cells #[.slice none 0 0] 42) = w2) := hw2
  have HNm : Hid (Calls Try.prog 54 #[.pointer (some ⟨B, 0, none⟩)] w2 fun e w' => e = .returned (.func (.func 58) #[] #[.pointer (some ⟨w.heap.size + 1 + 1, 0, none⟩)]) ∧ w' = w3) := by
    have := names_any B w2
    rwa [hs2, hw3] at this
  have hcf := hzf2.cell
  have hzf3 := boxed_below hzf2 hb23
  have hz3 := boxed_below hz2 hb23
  have hR3 : RdAt w3 B st := h.below hb3 (by omega)
  refine callsIn_of_wp_marks Try.func39 rfl trivial ?_ rfl
  simp only [Try.ntmps39, List.size_toArray, List.length_cons, List.length_nil, Nat.reduceAdd, Nat.reduceSub, Array.replicate_succ, Array.replicate_zero, List.push_toArray, List.append_toArray, List.nil_append, List.cons_append]
  clear hw2 hw3 h hb23 hzf2 hz2
  gi_wp2
  refine wpIn_scope_wide ?_
  gi_wp2
  refine wpIn_label ?_
  gi_wp2_with (first
    | (rw [HW2.out])
    | (gi_at_call 54; refine (callsIn_wide.2 HNm.out).mono ?_; rintro e w4 ⟨rfl, hw4⟩; obtain rfl : w3 = w4 := hw4.symm; clear hw4))
  have hIt : ∀ (lp : Nat) (W' : World), Below w3.heap.size w3 W' → IterB B Fence.wide (N - 1) Try.prog 58 #[.pointer (some ⟨w.heap.size + 1 + 1, 0, none⟩)] (fun k : Nat => #[.string (nA k s1)]) (fun k A => RdAt A B (nS (k + 1) s1)) (KpP (fun k _ => k ≠ w.heap.size + 1 ∧ k < w3.heap.size)) (fun pre k => k = pre.length ∧ k < m) (fun xs => xs.length = m) (fun pre => pre.length ≤ m) (fun A => RdAt A B (nS m s1)) lp W' := fun lp W' hb => by
    have := names1_iter (N - 1) (by omega) lp B (w.heap.size + 1 + 1) st (fun k _ => k ≠ w.heap.size + 1 ∧ k < w3.heap.size) W' (boxed_below hbx hb) (hR3.later hb) (by omega) (fun k o h => by omega)
    rwa [hs1, hme] at this
  rw [hme] at hm
  clear HP hs1 hme hR3
  have hOwn : OwnBut B w3.heap.size (NnI B w.heap.size (w.heap.size + 1) w3.heap.size w s1) := NnI.own (by omega) (by omega) (by omega) (by omega)
  refine wpIn_rangeFunc_but (b0 := B) (by omega) rfl h1 (gf := 58) (lb := #[.pointer (some ⟨w.heap.size + 1 + 1, 0, none⟩)]) rfl trivial (enters_of Try.func58 (by kernel_rfl) rfl)
    (encs := fun k : Nat => #[.string (nA k s1)]) (Ok := fun k A => RdAt A B (nS (k + 1) s1)) (Kp := KpP (fun k _ => k ≠ w.heap.size + 1 ∧ k < w3.heap.size)) (Nx := fun pre k => k = pre.length ∧ k < m) (S := fun xs => xs.length = m) (Sp := fun pre => pre.length ≤ m) (Fi := fun A => RdAt A B (nS m s1))
    (rd_own (by omega)) (fun W' hs hb => hIt _ W' hb)
    KpP.trans (fun A o o' ho hc => KpP.record o' (fun _ h => by have := h.2; omega)) KpP.of_below (fun _ => rfl)
    (fun _ _ _ => True) (fun _ _ _ _ _ _ => trivial)
    (NnI B w.heap.size (w.heap.size + 1) w3.heap.size w s1) (NnX B (w.heap.size + 1) w3.heap.size w s1) hOwn (fun c => NnX.own (by omega) (by omega) c) (fun k A A' row h hg hr => rd_own (β := Unit) (B := B) (M := w3.heap.size) (st := nS (k + 1) s1) (by omega) () A A' row h hg hr)
    ⟨⟨_, hz3, World.ownsRow_nil _ _ _ _, trivial⟩, ⟨hzf3, But.of_below hb3 (by omega)⟩, Nat.le_refl _, fun j hj => by simp at hj⟩
    (fun k A => { tmps := #[.pointer (some ⟨B, 0, none⟩), .pointer (some ⟨w.heap.size, 0, none⟩), .slice none 0 0, .pointer (some ⟨w.heap.size + 1, 0, none⟩), .string (nA k s1), .pointer (some ⟨B, 0, none⟩), .func (.func 58) #[] #[.pointer (some ⟨w.heap.size + 1 + 1, 0, none⟩)], .string (nA k s1), undef, undef, undef, undef, undef, undef, undef, undef], defers := [] }) ?assign ?body ?done ?stop
  case assign =>
    intro li x A K hok hK
    gi_wp2
    exact hK A (Below.refl _ _) trivial
  case body =>
    rintro li pre x A₀ A ⟨⟨v, hv, hrow, _⟩, ⟨hf, hB⟩, hsz, hne⟩ hok ⟨rfl, hxm⟩ hle _
    obtain ⟨q, c, rfl⟩ := slice_of_row hrow
    have hcf := hf.cell
    have HWf : Hid (Calls Try.prog 55 #[.pointer (some ⟨B, 0, none⟩)] A fun e w' => e = .returned (.bool (goneB (nS (pre.length + 1) s1))) ∧ w' = A) := wfailed_any B _ A hok
    cases hg : nS (pre.length + 1) s1 with
    | none =>
      rw [hg] at HWf hok
      have HFin : Hid (NnX B (w.heap.size + 1) w3.heap.size w s1 (.exit 0) (pre ++ [pre.length]) A) := ⟨⟨rfl, by rw [List.length_append]; exact hg⟩, ⟨_, hv, by rw [List.length_append, List.length_singleton, Nat.add_sub_cancel]; exact hrow, trivial⟩, hok, hB⟩
      have e1 : goneB none = true := rfl
      rw [e1] at HWf
      clear hv hrow hf hB hne hok hg e1
      gi_wp2
      refine ⟨fun _ => by omega, (CallsIn.inRound li (callsIn_wide.2 HWf.out)).mono ?_⟩
      rintro e A1 ⟨rfl, hA1⟩
      obtain rfl : A = A1 := hA1.symm
      clear hA1
      gi_wp2
      exact ⟨keepsFrom_of_below (Below.refl _ _), KpP.refl _ _, HFin.out⟩
    | some zs =>
      rw [hg] at HWf
      have e1 : goneB (some zs) = false := rfl
      rw [e1] at HWf
      obtain ⟨W5, q5, l5, c5, hrun, hv5, hv6, ho6, hlo6, hk6, hb6⟩ := append_boxS (by omega : w.heap.size + 1 < w3.heap.size) hv hrow (nL_length _ _) hsz (nA pre.length s1) (by omega)
      have HRun : Hid ((Builtin.append_ #[42, 42] 42 #[.slice q pre.length c, .slice (some ⟨A.heap.size, 0, none⟩) 1 1]).run Try.prog (A.alloc (.cells #[.string (nA pre.length s1)] 9)) = .ok (.slice q5 l5 c5) W5) := hrun
      have hcv := hv.cell
      have hcv5 := hv5.cell
      have hfv5 := hv5.frozen
      have HFin : Hid (KeepsFrom w3.heap.size A (W5.setCell ⟨w.heap.size + 1, 0, none⟩ (.slice q5 l5 c5)) ∧ KpP (fun k _ => k ≠ w.heap.size + 1 ∧ k < w3.heap.size) A (W5.setCell ⟨w.heap.size + 1, 0, none⟩ (.slice q5 l5 c5)) ∧ NnI B w.heap.size (w.heap.size + 1) w3.heap.size w s1 (pre ++ [pre.length]) (W5.setCell ⟨w.heap.size + 1, 0, none⟩ (.slice q5 l5 c5))) := by
        refine ⟨hk6, fun k o hp ho => hlo6 k o hp.2 hp.1 ho, ⟨_, hv6, ?_, trivial⟩, ⟨hlo6 w.heap.size _ (by omega) (by omega) hf, hB.trans (But.of_below hb6 (by omega))⟩, Nat.le_trans hsz hk6.size, fun j hj => ?_⟩
        · rw [List.length_append, List.length_singleton, nL_succ]
          exact ho6
        · rw [List.length_append, List.length_singleton] at hj
          by_cases hj2 : j < pre.length
          · exact hne j hj2
          · obtain rfl : j = pre.length := by omega
            rw [hg]
            simp
      clear hrow hv hv5 hv6 ho6 hlo6 hk6 hb6 hB hne hrun hf hok hg e1
      gi_wp2
      refine ⟨fun _ => by omega, (CallsIn.inRound li (callsIn_wide.2 HWf.out)).mono ?_⟩
      rintro e A1 ⟨rfl, hA1⟩
      obtain rfl : A = A1 := hA1.symm
      clear hA1
      gi_wp2_with (first
        | ((with_reducible show wpListIn _ _ _ _ _ (Oper.mk (some 13) _ _ _ _ _ :: _) _ _); refine wpListIn_oper rfl (by intro c hc; cases hc) (fun K hK => wp_append_of (.tmp 10) (.tmp 12) 42 rfl rfl rfl HRun.out (hK _ _ ?_)); simp only [Act.put, List.setIfInBounds_toArray, List.set_cons_zero, List.set_cons_succ]))
      exact HFin.out
  case done =>
    rintro D xs A hD hS hFi ⟨⟨v, hv, hrow, _⟩, ⟨hf, hB⟩, hsz, hne⟩ hKD
    obtain ⟨q, c, rfl⟩ := slice_of_row hrow
    rw [hS] at hrow hv
    obtain ⟨hst, hlc, hcc, hqn⟩ := from_ownS hrow (nL_length _ _)
    have hcU := hv.cell
    have HC := clipS_any q m c A hlc hcc hqn
    have hDl := (Array.getElem?_eq_some_iff.1 hKD).1
    have HS : Hid (StrsFrom w3.heap.size A q m m (nL m s1)) := hst
    have HR : Hid (RdAt A B (nS m s1)) := hFi
    have HB : Hid (But B w.heap.size w A) := hB
    clear hrow hv hf hne hst hFi hB hS
    gi_wp2_with (gi_at_call 56; refine (callsIn_wide.2 HC).mono ?_; rintro e A2 ⟨rfl, hA2⟩; obtain rfl : A = A2 := hA2.symm; clear hA2)
    (try rw [Exit.noGoto_ret])
    refine ⟨by simp, .inl ⟨_, _, rfl, run_takeDeferred hKD, ?_⟩⟩
    have hbp : Below D A (A.putObj D (.deferred none)) := below_putObj _ _ (Nat.le_refl _)
    refine ⟨_, results_tmp rfl _ _ _, q, m, m, nL m s1, rfl, ?_, HR.out.below hbp (by omega), HB.out.trans (But.of_below hbp (by omega)), fun _ => rfl⟩
    obtain ⟨g1, g2, g3, g4⟩ := HS.out
    refine ⟨g1, g2, g3, ?_⟩
    rcases g4 with g4 | ⟨b, e, hM, hb, hc⟩
    · exact .inl g4
    · refine .inr ⟨b, e, by omega, by rw [show (A.putObj D (.deferred none)).heap.size = A.heap.size by simp [World.putObj]]; exact hb, fun i hi => ?_⟩
      have h1 := hc i hi
      have hDb : b ≠ D := fun e => by
        subst e
        simp [World.cell?, hKD] at h1
      exact (cell_same (World.putObj_heap_other hDb) (0 + i)).trans h1
  case stop =>
    rintro D cd pre A hD hSp ⟨⟨rfl, hnone⟩, ⟨v, hv, hrow, _⟩, hR, hB⟩ hKD
    obtain ⟨q, c, rfl⟩ := slice_of_row hrow
    obtain ⟨hst, hlc, hcc, hqn⟩ := from_ownS hrow (nL_length _ _)
    have hcU := hv.cell
    have HC := clipS_any q (pre.length - 1) c A hlc hcc hqn
    have HS : Hid (StrsFrom w3.heap.size A q (pre.length - 1) (pre.length - 1) (nL (pre.length - 1) s1)) := hst
    have hend : nS m s1 = none := by
      have := nS_stays hnone (m - pre.length)
      rwa [show pre.length + (m - pre.length) = m by omega] at this
    have HR : Hid (RdAt A B none) := hR
    have HB : Hid (But B w.heap.size w A) := hB
    have HEnd : Hid (nS m s1 = none) := hend
    clear hrow hv hst hR hB hnone hend
    gi_wp2_with (gi_at_call 56; refine (callsIn_wide.2 HC).mono ?_; rintro e A2 ⟨rfl, hA2⟩; obtain rfl : A = A2 := hA2.symm; clear hA2)
    (try rw [Exit.noGoto_ret])
    refine ⟨by simp, .inl ⟨_, _, rfl, run_takeDeferred hKD, ?_⟩⟩
    have hbp : Below D A (A.putObj D (.deferred none)) := below_putObj _ _ (Nat.le_refl _)
    refine ⟨_, results_tmp rfl _ _ _, q, pre.length - 1, pre.length - 1, nL (pre.length - 1) s1, rfl, ?_, by rw [HEnd.out]; exact HR.out.below hbp (by omega), HB.out.trans (But.of_below hbp (by omega)), fun h => absurd HEnd.out h⟩
    obtain ⟨g1, g2, g3, g4⟩ := HS.out
    refine ⟨g1, g2, g3, ?_⟩
    rcases g4 with g4 | ⟨b, e, hM, hb, hc⟩
    · exact .inl g4
    · refine .inr ⟨b, e, by omega, by rw [show (A.putObj D (.deferred none)).heap.size = A.heap.size by simp [World.putObj]]; exact hb, fun i hi => ?_⟩
      have h1 := hc i hi
      have hDb : b ≠ D := fun e => by
        subst e
        simp [World.cell?, hKD] at h1
      exact (cell_same (World.putObj_heap_other hDb) (0 + i)).trans h1
end Go.Proofs.Ytedpgdldekkgdaa
