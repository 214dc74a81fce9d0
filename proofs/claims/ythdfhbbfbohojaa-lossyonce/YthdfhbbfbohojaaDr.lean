/-
  Drain: what waits, told one by one, and taken off.
-/
import Derived.Test.YthdfhbbfbohojaaNxL
import Derived.Test.YthdfhbbfbohojaaRc
namespace Go.Proofs.Ythdfhbbfbohojaa
open Go.RowKit Go.Shelf
attribute [local go_sem] Oper.semAt_some

/-- What the rounds keep: all from before, and what is no number and no bool. -/
def DrP (base S : Nat) (k : Nat) (o : Obj) : Prop := k < base ∨ (k < S ∧ ∃ c t fr, o = .cells c t fr ∧ t ≠ 3 ∧ t ≠ 4)
/-- A line that lies below S. -/
structure InS (S p g : Nat) (fv : Value) (ms : List Msg) : Prop where
  hp : p < S
  hg : g < S
  hf : ∀ q n c, fv = .slice q n c → ∀ a, q = some a → n = 0 ∨ a.block < S
  hm : ∀ m ∈ ms, ∀ a, m.q = some a → a.block < S
theorem InS.of {base p g : Nat} {fv wv : Value} {L : Lk} {A : World} (h : LkAt base A p g fv wv L) : InS A.heap.size p g fv L.ms := by
  refine ⟨h.row.lt, h.ntg.lt, fun q n c e a ea => ?_, fun m hm a ea => ?_⟩
  · obtain ⟨q', c', e', _, _, h3⟩ := h.fates
    rw [e] at e'
    cases e'
    rcases h3 with h3 | ⟨b, o, e2, hl, _⟩
    · left; rw [h3]; rfl
    · rw [ea] at e2; cases e2; exact .inr hl
  · have ho := (h.txt m hm).1
    rcases ho.2 with ⟨e, _⟩ | ⟨g, cp, cur, e, _, hgg, _⟩
    · rw [Msg.v] at e
      injection e with e1
      rw [ea] at e1
      cases e1
    · rw [Msg.v] at e
      injection e with e1
      rw [ea] at e1
      cases e1
      exact (Array.getElem?_eq_some_iff.1 hgg).1
theorem InS.sub {S p g : Nat} {fv : Value} {ms ms' : List Msg} (h : InS S p g fv ms) (hs : ∀ x ∈ ms', x ∈ ms) : InS S p g fv ms' := ⟨h.hp, h.hg, h.hf, fun x hx => h.hm x (hs x hx)⟩
theorem Txt.kept {base S : Nat} {A B : World} {m : Msg} (h : Txt base A m) (hm : ∀ a, m.q = some a → a.block < S) (hk : KpP (DrP base S) A B) : Txt base B m := by
  refine ⟨?_, h.2⟩
  have ho := h.1
  unfold Own World.ownsRow at ho ⊢
  refine ⟨ho.1, ho.2.imp id ?_⟩
  rintro ⟨g, cp, cur, e, hg, hgg, hrest⟩
  refine ⟨g, cp, cur, e, hg, ?_, hrest⟩
  rw [Msg.v] at e
  have hb : g < S := by
    injection e with e1 e2 e3
    exact hm _ e1
  exact hk g _ (.inr ⟨hb, _, _, _, rfl, by decide, by decide⟩) hgg
theorem LkAt.kept {base S : Nat} {A B : World} {p g : Nat} {fv wv : Value} {L : Lk} (h : LkAt base A p g fv wv L) (hS : InS S p g fv L.ms) (hk : KpP (DrP base S) A B) (hs : A.heap.size ≤ B.heap.size) : LkAt base B p g fv wv L := by
  refine ⟨h.hp, h.hg, hk p _ (.inr ⟨hS.hp, _, _, _, rfl, by decide, by decide⟩) h.row, ?_, ?_, fun m hm => (h.txt m hm).kept (hS.hm m hm) hk⟩
  · obtain ⟨q, c, e, h1, h2, h3⟩ := h.fates
    refine ⟨q, c, e, h1, h2, ?_⟩
    by_cases h0 : L.fs = []
    · exact .inl h0
    rcases h3 with h3 | ⟨b, o, e2, hl, ht, hr⟩
    · exact .inl h3
    · have hbS : b < S := by
        rcases hS.hf _ _ _ e _ e2 with h | h
        · exact absurd (List.length_eq_zero_iff.1 h) h0
        · exact h
      have hs' : ∃ ob, A.heap[b]? = some ob ∧ B.heap[b]? = some ob := by
        rcases ht with hb | ⟨c, fr, hc⟩
        · exact ⟨_, Array.getElem?_eq_getElem hl, hk b _ (.inl hb) (Array.getElem?_eq_getElem hl)⟩
        · exact ⟨_, hc, hk b _ (.inr ⟨hbS, _, _, _, rfl, by decide, by decide⟩) hc⟩
      obtain ⟨ob, h5, h6⟩ := hs'
      refine .inr ⟨b, o, e2, Nat.lt_of_lt_of_le hl hs, ht.imp id (fun ⟨c, fr, hc⟩ => ⟨c, fr, by rw [h6, ← h5]; exact hc⟩), fun j u hj => ?_⟩
      have := hr j u hj
      simpa [World.cell?, h5, h6] using this
  · obtain ⟨q, c, e, hw⟩ := h.wait
    refine ⟨q, c, e, hw.imp id ?_⟩
    rintro ⟨o, cur, e2, hr, hrest⟩
    exact ⟨o, cur, e2, hk g _ (.inr ⟨hS.hg, _, _, _, rfl, by decide, by decide⟩) hr, hrest⟩

theorem drain_any (p : Nat) (w : World) : Calls Try.prog 14 #[.pointer (some ⟨p, 0, none⟩)] w fun e w' => e = .returned (.func (.func 21) #[] #[.pointer (some ⟨w.heap.size, 0, none⟩)]) ∧ w' = w.alloc (.cells #[.pointer (some ⟨p, 0, none⟩)] 26) := by
  go_enter Try.func14, Try.ntmps14
  go_wp2
  go_ret
  exact ⟨rfl, rfl⟩
/-- How many wait. -/
def wlen (p : Nat) (W : World) : Nat := match W.cell? ⟨p, 3, none⟩ with | some (.slice _ n _) => n | _ => 0
theorem wlen_eq {base p g : Nat} {fv wv : Value} {L : Lk} {W : World} (h : LkAt base W p g fv wv L) : wlen p W = L.ms.length := by
  obtain ⟨q, c, rfl, _⟩ := h.wait
  rw [wlen, h.row.cell (i := 3) rfl]

set_option maxRecDepth 100000 in
set_option maxHeartbeats 2000000 in
theorem drain1_iter (n : Nat) (hn : 6 ≤ n) (lp B base S p g : Nat) (fv wv : Value) (L : Lk) (W : World) (hB : Boxed W B 26 (.pointer (some ⟨p, 0, none⟩))) (hBS : B < S) (h : LkAt base W p g fv wv L) (hS : InS S p g fv L.ms) :
    IterB p g Fence.wide n Try.prog 21 #[.pointer (some ⟨B, 0, none⟩)] (fun m : Msg => #[.slice m.q m.n m.c]) (fun m A => Txt base A m ∧ ∀ a, m.q = some a → a.block < S) (fun A A' => KpP (DrP base S) A A' ∧ A.heap.size ≤ A'.heap.size) (fun pre m => ∃ post, L.ms = pre ++ m :: post) (fun xs => xs = L.ms) (fun _ => True) (fun A => ∃ wv', LkAt base A p g fv wv' ⟨L.fs, L.n, []⟩) lp W := by
  intro J Jx hJ hJx hY h0
  have h1 : 1 ≤ n := by omega
  have hfn : ∀ f, Fence.wide.fn f := fun _ => trivial
  have HS : Hid (InS S p g fv L.ms) := hS
  have hBp : B ≠ p ∧ B ≠ g := by
    have hr : Row W B 26 [.pointer (some ⟨p, 0, none⟩)] := hB
    refine ⟨row_ne hr h.row (by decide), ?_⟩
    obtain ⟨q, c, e, ⟨_, _, _, rfl⟩ | ⟨o, cur, e', hr', _⟩⟩ := h.wait
    · exact row_ne hr h.row (by decide)
    · exact row_ne hr hr' (by decide)
  refine callsIn_of_wp Try.func21 rfl trivial ?_ rfl
  simp only [Try.ntmps21, List.size_toArray, List.length_cons, List.length_nil, Nat.reduceAdd, Nat.reduceSub, Array.replicate_succ, Array.replicate_zero, List.push_toArray, List.append_toArray, List.nil_append, List.cons_append]
  gi_wp2
  gi_loopw [3] (fun _ wr => ∃ (pre rest : List Msg) (wv' : Value), L.ms = pre ++ rest ∧ LkAt base wr p g fv wv' ⟨L.fs, L.n, rest⟩ ∧ J pre wr ∧ Boxed wr B 26 (.pointer (some ⟨p, 0, none⟩))) (fun _ wr => wlen p wr)
  case atStart => exact ⟨[], L.ms, wv, rfl, h, h0, hB⟩
  case round =>
    obtain ⟨pre, rest, wv', hms, hL, hj, hb⟩ := hrel
    have hcb := hb.cell
    have HMs : Hid (L.ms = pre ++ rest) := hms
    have HL : Hid (LkAt base wr p g fv wv' ⟨L.fs, L.n, rest⟩) := hL
    have HJ : Hid (J pre wr) := hj
    have HB : Hid (Boxed wr B 26 (.pointer (some ⟨p, 0, none⟩))) := hb
    clear hms hL hj hb h hB hS h0
    cases rest with
    | nil =>
      have hn0 : Hid (Calls Try.prog 10 #[.pointer (some ⟨p, 0, none⟩)] wr fun e w' => e = .returned (.tuple #[.slice none 0 0, .bool false]) ∧ w' = wr) := by
        obtain ⟨q, c, rfl, _⟩ := id HL.out.wait
        exact receive_none wr (HL.out.row.cell (i := 3) rfl)
      gi_wp2_with (gi_at_call 10; refine (callsIn_wide.2 hn0.out).mono ?_; rintro e w4 ⟨rfl, hw4⟩; obtain rfl := hw4.symm; clear hw4)
      refine bodyPost_ret (results_none rfl _ _ _) rfl ?_
      exact ⟨⟨_, rfl⟩, .inl ⟨pre, by rw [HMs.out, List.append_nil], ⟨wv', HL.out⟩, HJ.out⟩⟩
    | cons m r =>
      have hw1 := wlen_eq HL.out
      have HW1 : Hid (wlen p wr = r.length + 1) := hw1
      have HR : Hid (Calls Try.prog 10 #[.pointer (some ⟨p, 0, none⟩)] wr (RcPost base wr p g fv ⟨L.fs, L.n, m :: r⟩ m r)) := receive_any HL.out rfl
      have HYY : Hid (∀ (pre : List Msg) (x : Msg) (W1 : World), J pre W1 → (Txt base W1 x ∧ ∀ a, x.q = some a → a.block < S) → (∃ post, L.ms = pre ++ x :: post) → YieldAt Fence.wide (n - 1) Try.prog lp #[.slice x.q x.n x.c] W1 fun e W' => (e = .returned (.bool true) ∧ J (pre ++ [x]) W' ∧ KpP (DrP base S) W1 W' ∧ W1.heap.size ≤ W'.heap.size) ∨ (e = .returned (.bool false) ∧ Jx (pre ++ [x]) W' ∧ KpP (DrP base S) W1 W' ∧ W1.heap.size ≤ W'.heap.size)) := hY
      have HJB : Hid (OwnBut p g W.heap.size J) := hJ
      clear hw1 hY hJ hJx
      gi_wp2_with (gi_at_call 10; refine (callsIn_wide.2 HR.out).mono ?_; rintro e w3 ⟨rfl, wv3, hL3, hT3, hB3⟩; have HL3 : Hid (LkAt base w3 p g fv wv3 ⟨L.fs, L.n, r⟩) := hL3; have HB3 : Hid (Boxed w3 B 26 (.pointer (some ⟨p, 0, none⟩))) := hB3.row HB.out hBp.1 hBp.2; obtain ⟨fn, tmps, assign, body, hy, hRd⟩ := HYY.out pre m w3 (HJB.out.2 _ _ _ HJ.out hB3) ⟨hT3, HS.out.hm m (by rw [HMs.out]; exact List.mem_append_right _ List.mem_cons_self)⟩ ⟨r, HMs.out⟩; clear hL3 hT3 hB3; rw [show m.v = .slice m.q m.n m.c from rfl])
      refine RoundIn.mono hRd ?_
      rintro e W4 (⟨rfl, hJ4, hk4, hs4⟩ | ⟨rfl, hJ4, hk4, hs4⟩)
      · have hL4 := HL3.out.kept (HS.out.sub (fun x hx => by rw [HMs.out]; exact List.mem_append_right _ (List.mem_cons_of_mem _ hx))) hk4 hs4
        have HL4 : Hid (LkAt base W4 p g fv wv3 ⟨L.fs, L.n, r⟩) := hL4
        have HB4 : Hid (Boxed W4 B 26 (.pointer (some ⟨p, 0, none⟩))) := hk4 B _ (.inr ⟨hBS, _, _, _, rfl, by decide, by decide⟩) HB3.out
        have HJ4 : Hid (J (pre ++ [m]) W4) := hJ4
        clear hL4 hk4 hJ4
        gi_wp2
        go_roundw
        case rel => exact ⟨pre ++ [m], r, wv3, by rw [HMs.out]; simp, HL4.out, HJ4.out, HB4.out⟩
        case measure => rw [HW1.out, wlen_eq HL4.out]; exact Nat.lt_succ_self _
      · gi_wp2
        refine bodyPost_ret (results_none rfl _ _ _) rfl ?_
        exact ⟨⟨_, rfl⟩, .inr ⟨_, trivial, hJ4⟩⟩
end Go.Proofs.Ythdfhbbfbohojaa
