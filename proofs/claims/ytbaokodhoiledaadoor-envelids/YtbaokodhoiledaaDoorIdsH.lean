/-
  What the two instances of EnvelIds share.
-/
import Derived.Test.YtbaokodhoiledaaDoorRDig2
import Derived.Test.YtbaokodhoiledaaDoorRDig3
import Derived.Test.YtbaokodhoiledaaDoorRefIdA
namespace Go.Proofs.YtbaokodhoiledaaDoor
open Classical
open Go.RowKit Go.Shelf

/-- A block that holds no bytes and no array. -/
def Odd (W : World) (k : Nat) : Prop := (∀ i z, W.cell? ⟨k, i, none⟩ ≠ some (.int .u8 z)) ∧ ∀ c fr, W.heap[k]? ≠ some (.cells c 38 fr)
theorem odd_map {P : Program} {k : TypeId} {W : World} {b : Nat} {f : Value → Option Value} (h : MapAt P k W b f) : Odd W b := by
  obtain ⟨es, cl, hb, _⟩ := h
  refine ⟨fun i z => ?_, fun c fr e => ?_⟩
  · simp [World.cell?, hb]
  · rw [hb] at e; cases e
theorem odd_row {W : World} {b : Nat} {t : TypeId} {c : List Value} (h : Row W b t c) (ht : t ≠ 38) (hc : ∀ v ∈ c, ∀ z, v ≠ .int .u8 z) : Odd W b := by
  refine ⟨fun i z e => ?_, fun c' fr e => ?_⟩
  · unfold Row at h
    rw [World.cell?, h] at e
    simp at e
    exact hc _ (List.mem_of_getElem? e) z rfl
  · unfold Row at h
    rw [h] at e
    cases e
    exact ht rfl
theorem odd_dig {W : World} {n : Nat} {ent : Ent} (h : DigAt W n ent) : Odd W n ∧ Odd W (n + 1) := by
  obtain ⟨x2, x3, hr, hm⟩ := h
  exact ⟨odd_map hm, odd_row hr (by decide) (by simp)⟩
theorem odd_tape {W : World} {B Q : Nat} {zs : List Nat} (h : TapeAt W B Q zs) : Odd W B := by
  obtain ⟨q, len, cap, hr, _⟩ := h
  exact odd_row hr (by decide) (by simp)

theorem isBytes_buts {n₀ : Nat} {W W' : World} {F : List Nat} {p : Option Addr} {len cap : Nat} {zs : List Nat} (h : IsBytes n₀ W p len cap zs) (hb : Buts F W.heap.size W W') (hF : ∀ k ∈ F, Odd W k) : IsBytes n₀ W' p len cap zs := by
  obtain ⟨a1, a2, a3, a4, a5⟩ := h
  refine ⟨a1, a2, a3, a4, ?_⟩
  rcases a5 with h | ⟨b, off, rfl, hbl, hc⟩
  · exact .inl h
  · refine .inr ⟨b, off, rfl, hbl, fun i hi => ?_⟩
    have hci := hc i hi
    obtain ⟨c, t, fr, hx, hv⟩ := cells_of_cell hci
    have hlt := (Array.getElem?_eq_some_iff.1 hx).1
    have hnF : b ∉ F := fun hm => (hF b hm).1 _ _ hci
    rw [cell_of_row W' b (off + i) c t fr ((hb.block b hlt hnF).trans hx)]
    exact hv
theorem keep38_buts {W W' : World} {F : List Nat} (hb : Buts F W.heap.size W W') (hF : ∀ k ∈ F, Odd W k) : KeepT 38 W W' := fun k c fr hk =>
  (hb.block k (Array.getElem?_eq_some_iff.1 hk).1 (fun hm => (hF k hm).2 c fr hk)).trans hk
theorem RefSt.buts {W W' : World} {R : Nat} {mode : Int} {zs : List Nat} {es : List REnt} {q : Option Addr} {ql qc : Nat} {rq : Option Addr} {rc : Nat} {x3 x4 : Value} {F : List Nat} (h : RefSt W R mode zs es q ql qc rq rc x3 x4) (hb : Buts F W.heap.size W W') (hF : ∀ k ∈ F, Odd W k) (hFR : ∀ k ∈ F, k < R) : RefSt W' R mode zs es q ql qc rq rc x3 x4 :=
  ⟨hb.row h.row.lt (fun hm => by have := hFR _ hm; omega) h.row, isBytes_buts h.tape hb hF,
    ⟨ownsRow_keep h.rows.own (fun b hv => hb.block b (World.ownsRow.lt h.rows.own b hv).2 (fun hm => by have := hFR _ hm; have := (World.ownsRow.lt h.rows.own b hv).1; omega)), fun e he =>
      have hh := h.rows.all e he
      ⟨hh.l.buts hb hFR, hh.a.buts hb hFR, hh.b.buts hb hFR, hh.L, hh.d⟩⟩⟩
theorem refSt_new (W : World) (mode : Int) (n₀ : Nat) (p : Option Addr) (len cap : Nat) (zs : List Nat) (hn : n₀ ≤ W.heap.size) (h : IsBytes n₀ W p len cap zs) :
    RefSt (W.alloc (.cells #[.int .i64 mode, .slice p len cap, .slice none 0 0, .slice none 0 0, .slice none 0 0, .bool false] 36)) W.heap.size mode zs [] p len cap none 0 (.slice none 0 0) (.slice none 0 0) :=
  ⟨Row.new W 36 _, (h.below ((Below.refl _ W).alloc hn _)).mono hn, ⟨World.ownsRow_nil _ _ _ _, fun e he => by cases he⟩⟩

/-- The rows that tell of the one text that is known. -/
def RowsOf (ent : Ent) (es : List REnt) : Prop := es.map (fun x => (x.L, x.d)) = ent.toList
theorem clash_rows {ent : Ent} {es : List REnt} (h : RowsOf ent es) (L d : List Nat) : clashR es L d = clashE ent L d := by
  cases ent with
  | none =>
    have : es = [] := by simpa [RowsOf] using h
    subst this
    simp [clashR, clashE]
  | some p =>
    obtain ⟨L0, d0⟩ := p
    match es, h with
    | [], h => simp [RowsOf] at h
    | x :: [], h =>
      simp [RowsOf] at h
      simp [clashR, clashE, h.1, h.2]
    | x :: y :: r, h => simp [RowsOf] at h
theorem clash_more {ent : Ent} {es : List REnt} (h : RowsOf ent es) (L d : List Nat) (x : REnt) (hx : x.L = L) : clashR (es ++ [x]) L d = clashE ent L d := by
  rw [← clash_rows h]
  unfold clashR
  congr 1
  simp only [List.mem_append, List.mem_singleton, eq_iff_iff]
  constructor
  · rintro ⟨y, hy | rfl, h1, h2⟩
    · exact ⟨y, hy, h1, h2⟩
    · exact absurd hx h2
  · rintro ⟨y, hy, h⟩
    exact ⟨y, .inl hy, h⟩
theorem rowsOf_len {ent : Ent} {es : List REnt} (h : RowsOf ent es) : es.length ≤ 1 := by
  have := congrArg List.length h
  rw [List.length_map] at this
  cases ent with
  | none => simp at this; simp [this]
  | some p => simp at this; omega

end Go.Proofs.YtbaokodhoiledaaDoor
