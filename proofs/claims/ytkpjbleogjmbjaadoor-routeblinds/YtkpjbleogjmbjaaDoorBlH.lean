/-
  Blind of an ideal suite, the program's and the reference's: what they answer, and what they keep.
-/
import Derived.Test.YtkpjbleogjmbjaaDoorBlC
import Derived.Test.YtkpjbleogjmbjaaDoorSuite2
namespace Go.Proofs.YtkpjbleogjmbjaaDoor
open Classical
open Go.RowKit Go.Shelf

theorem LFr.of_below {N : Nat} {W w' : World} (h : Below W.heap.size W w') (hN : N ≤ W.heap.size) : LFr N W w' := ⟨h.mono hN, KeepT.of_below h⟩
theorem isKey_len {d : List Nat} (h : IsKey32 d) : (u8s d).length = 32 := by rw [u8s_length, h.1]
/-- A block that holds no bytes and no array. -/
def Odd (W : World) (k : Nat) : Prop := (∀ i z, W.cell? ⟨k, i, none⟩ ≠ some (.int .u8 z)) ∧ ∀ c fr, W.heap[k]? ≠ some (.cells c 34 fr)
theorem odd_map {P : Program} {k : TypeId} {W : World} {b : Nat} {f : Value → Option Value} (h : MapAt P k W b f) : Odd W b := by
  obtain ⟨es, cl, hb, _⟩ := h
  refine ⟨fun i z => ?_, fun c fr e => ?_⟩
  · simp [World.cell?, hb]
  · rw [hb] at e; cases e
theorem odd_row {W : World} {b : Nat} {t : TypeId} {c : List Value} (h : Row W b t c) (ht : t ≠ 34) (hc : ∀ v ∈ c, ∀ z, v ≠ .int .u8 z) : Odd W b := by
  refine ⟨fun i z e => ?_, fun c' fr e => ?_⟩
  · unfold Row at h
    rw [World.cell?, h] at e
    simp at e
    exact hc _ (List.mem_of_getElem? e) z rfl
  · unfold Row at h
    rw [h] at e
    cases e
    exact ht rfl
theorem odd_tape {W : World} {B Q : Nat} {zs : List Nat} (h : TapeAt W B Q zs) : Odd W B := by
  obtain ⟨q, len, cap, hr, _⟩ := h
  exact odd_row hr (by decide) (by simp)
theorem isBytes_buts {n₀ : Nat} {W W' : World} {F : List Nat} {p : Option Addr} {len cap : Nat} {zs : List Nat} (h : IsBytes n₀ W p len cap zs) (hb : Buts F W.heap.size W W') (hF : ∀ k ∈ F, Odd W k) : IsBytes n₀ W' p len cap zs := by
  obtain ⟨a1, a2, a3, a4, a5⟩ := h
  refine ⟨a1, a2, a3, a4, ?_⟩
  rcases a5 with h | ⟨b, off, rfl, hbl, hc⟩
  · exact .inl h
  · refine .inr ⟨b, off, rfl, hbl, fun i hi => ?_⟩
    have hci := hc i hi
    obtain ⟨c, t, fr, hx, hv⟩ := cells_of_cell hci
    have hlt := (Array.getElem?_eq_some_iff.1 hx).1
    have hnF : b ∉ F := fun hm => (hF b hm).1 _ _ hci
    rw [cell_of_row W' b (off + i) c t fr ((hb.block b hlt hnF).trans hx)]
    exact hv
theorem keep34_buts {W W' : World} {F : List Nat} (hb : Buts F W.heap.size W W') (hF : ∀ k ∈ F, Odd W k) : KeepT 34 W W' := fun k c fr hk =>
  (hb.block k (Array.getElem?_eq_some_iff.1 hk).1 (fun hm => (hF k hm).2 c fr hk)).trans hk
theorem Own.buts {A A' : World} {n₀ : Nat} {F : List Nat} {v : Value} {zs : List Nat} (h : Own n₀ A v zs) (hb : Buts F A.heap.size A A') (hF : ∀ k ∈ F, k < n₀) : Own n₀ A' v zs :=
  ownsRow_keep h (fun b hv => hb.block b (World.ownsRow.lt h b hv).2 (fun hm => by have := hF _ hm; have := (World.ownsRow.lt h b hv).1; omega))
theorem RefSt.buts {K : List Value} {W W' : World} {R : Nat} {mode : Int} {zs : List Nat} {es : List REnt} {q : Option Addr} {ql qc : Nat} {rq : Option Addr} {rc : Nat} {x3 x4 : Value} {F : List Nat} (h : RefSt K W R mode zs es q ql qc rq rc x3 x4) (hb : Buts F W.heap.size W W') (hF : ∀ k ∈ F, Odd W k) (hFR : ∀ k ∈ F, k < R) : RefSt K W' R mode zs es q ql qc rq rc x3 x4 :=
  ⟨hb.row h.row.lt (fun hm => by have := hFR _ hm; omega) h.row, isBytes_buts h.tape hb hF,
    ⟨ownsRow_keep h.rows.own (fun b hv => hb.block b (World.ownsRow.lt h.rows.own b hv).2 (fun hm => by have := hFR _ hm; have := (World.ownsRow.lt h.rows.own b hv).1; omega)), fun e he =>
      have hh := h.rows.all e he
      ⟨hh.l.buts hb hFR, hh.a.buts hb hFR, hh.b.buts hb hFR, hh.L, hh.d⟩⟩⟩
theorem refSt_new (K : List Value) (W : World) (mode : Int) (n₀ : Nat) (p : Option Addr) (len cap : Nat) (zs : List Nat) (hn : n₀ ≤ W.heap.size) (h : IsBytes n₀ W p len cap zs) :
    RefSt K (W.alloc (.cells #[.int .i64 mode, .slice p len cap, .slice none 0 0, .slice none 0 0, .slice none 0 0, .bool false] 33)) W.heap.size mode zs [] p len cap none 0 (.slice none 0 0) (.slice none 0 0) :=
  ⟨Row.new W 33 _, (h.below ((Below.refl _ W).alloc hn _)).mono hn, ⟨World.ownsRow_nil _ _ _ _, fun e he => by cases he⟩⟩

/-- What was answered, by the name. -/
abbrev Tb : Type := ByteArray → Option (List Nat)
def tbPut (T : Tb) (s : ByteArray) (d : List Nat) : Tb := fun s' => if s' = s then some d else T s'
theorem tbPut_same (T : Tb) (s : ByteArray) (d : List Nat) : tbPut T s d s = some d := by simp [tbPut]
theorem tbPut_other {T : Tb} {s s' : ByteArray} {d : List Nat} (h : s' ≠ s) : tbPut T s d s' = T s' := by simp [tbPut, h]
def Tb.ok (T : Tb) : Prop := ∀ s d, T s = some d → IsKey32 d
theorem Tb.ok_put {T : Tb} (h : T.ok) {s : ByteArray} {d : List Nat} (hd : IsKey32 d) : (tbPut T s d).ok := fun s' d' e => by
  by_cases hs : s' = s
  · subst hs; rw [tbPut_same] at e; cases e; exact hd
  · rw [tbPut_other hs] at e; exact h _ _ e
/-- The program's table. -/
def MyTb (k : List Nat) (T : Tb) (f : Value → Option Value) : Prop := ∀ s, f (.agg (askedL k 110 s).toArray) = (T s).map fun d => .agg (u8s d).toArray
theorem MyTb.put {k : List Nat} {T : Tb} {f : Value → Option Value} (h : MyTb k T f) (s : ByteArray) (d : List Nat) : MyTb k (tbPut T s d) (fnPut f (.agg (askedL k 110 s).toArray) (.agg (u8s d).toArray)) := fun s' => by
  by_cases hs : s' = s
  · subst hs; rw [tbPut_same, fnPut_same]; rfl
  · rw [tbPut_other hs, fnPut_other (fun e => hs (askedL_inj rfl (agg_inj e)).2.2)]; exact h s'
/-- The reference's rows. -/
def RefTb (T : Tb) (es : List REnt) : Prop := (∀ x ∈ es, ∀ s, x.L = nameL s → T s = some x.d) ∧ ∀ s d, T s = some d → ∃ x ∈ es, x.L = nameL s
theorem RefTb.put {T : Tb} {es : List REnt} (h : RefTb T es) {s : ByteArray} (hs : T s = none) {x : REnt} (hL : x.L = nameL s) : RefTb (tbPut T s x.d) (es ++ [x]) := by
  refine ⟨fun y hy s' hs' => ?_, fun s' d hd => ?_⟩
  · rcases List.mem_append.1 hy with hy | hy
    · by_cases e : s' = s
      · subst e
        have := h.1 y hy s' hs'
        rw [hs] at this
        cases this
      · rw [tbPut_other e]; exact h.1 y hy s' hs'
    · rw [List.mem_singleton] at hy
      subst hy
      have : s' = s := nameL_inj (hs'.symm.trans hL)
      subst this
      exact tbPut_same _ _ _
  · by_cases e : s' = s
    · subst e; exact ⟨x, by simp, hL⟩
    · rw [tbPut_other e] at hd
      obtain ⟨y, hy, hyL⟩ := h.2 s' d hd
      exact ⟨y, by simp [hy], hyL⟩
end Go.Proofs.YtkpjbleogjmbjaaDoor
