/-
  A tape in memory, and what New, Left, Clone and Take make of it. Nothing that lay before a call has turned but the tape itself.
-/
import Derived.Test.YtkpjbleogjmbjaaDoorMade
namespace Go.Proofs.YtkpjbleogjmbjaaDoor
open Go.RowKit

/-- Block B is a tape with the bytes zs ahead, which lie in block Q before it. -/
def TapeAt (W : World) (B Q : Nat) (zs : List Nat) : Prop := ∃ q len cap, Row W B 52 [.bool true, .slice q len cap] ∧ IsBytes B W q len cap zs ∧ ∀ b off s, q = some ⟨b, off, s⟩ → b = Q
theorem TapeAt.lt {W : World} {B Q : Nat} {zs : List Nat} (h : TapeAt W B Q zs) : B < W.heap.size := by obtain ⟨_, _, _, h, _⟩ := h; exact h.lt
theorem TapeAt.below {W W' : World} {n B Q : Nat} {zs : List Nat} (h : TapeAt W B Q zs) (hb : Below n W W') (hn : B < n) : TapeAt W' B Q zs := by
  obtain ⟨q, len, cap, h1, h2, h3⟩ := h
  exact ⟨q, len, cap, h1.below hb hn, h2.below (hb.mono (by omega)), h3⟩
theorem TapeAt.later {W W' : World} {B Q : Nat} {zs : List Nat} (h : TapeAt W B Q zs) (hb : Below W.heap.size W W') : TapeAt W' B Q zs := h.below hb h.lt
theorem TapeAt.but {W W' : World} {B B' Q : Nat} {zs : List Nat} (h : TapeAt W B Q zs) (hb : But B' W.heap.size W W') (hB : B < B') : TapeAt W' B Q zs :=
  h.below (hb.below (m := B + 1) h.lt hB) (by omega)
/-- A tape hangs on its block and on that of its bytes alone. -/
theorem TapeAt.keep {W W' : World} {B Q : Nat} {zs : List Nat} (h : TapeAt W B Q zs) (h1 : W'.heap[B]? = W.heap[B]?) (h2 : W'.heap[Q]? = W.heap[Q]?) : TapeAt W' B Q zs := by
  obtain ⟨q, len, cap, hr, ⟨a1, a2, a3, a4, a5⟩, hq⟩ := h
  refine ⟨q, len, cap, h1.trans hr, ⟨a1, a2, a3, a4, ?_⟩, hq⟩
  rcases a5 with h | ⟨b, off, rfl, hb, hc⟩
  · exact .inl h
  · obtain rfl := hq b off none rfl
    refine .inr ⟨b, off, rfl, hb, fun i hi => ?_⟩
    obtain ⟨c, t, fr, hx, hv⟩ := cells_of_cell (hc i hi)
    rw [cell_of_row W' b (off + i) c t fr (h2.trans hx)]
    exact hv

set_option maxHeartbeats 1000000 in
/-- own -/
theorem tapeOwn_any (p : Option Addr) (len cap : Nat) (zs : List Nat) (hlen : len ≤ 70000) (w : World) (hI : IsBytes w.heap.size w p len cap zs) :
    Calls Tryd.prog 12 #[.slice p len cap] w fun e w' => e = .returned (.slice (some ⟨w.heap.size, 0, none⟩) len len) ∧ Own w.heap.size w' (.slice (some ⟨w.heap.size, 0, none⟩) len len) zs ∧ w.heap.size < w'.heap.size ∧ Below w.heap.size w w' := by
  obtain ⟨i0, hi, hz0, hz1, hz2⟩ := info_parts info5
  have HI : Hid (IsBytes w.heap.size w p len cap zs) := hI
  clear hI
  go_enter Tryd.func12, Tryd.ntmps12
  go_wp2_with (first
    | (at_make; refine wpList_make_full _ rfl _ _ 22 rfl w.heap.size 5 i0 (.int .u8 0) 1 Tryd.underlying22 hi hz0 hz1 _ _ _ _ len rfl rfl (by omega) (by omega) (by rw [hz2]; omega) (by simp only [maxLen]; omega) (Nat.le_refl _) ?_; intro w2 hown2 hgrow2; rw [made_zeros] at hown2; have HR2 : Hid (Row w2 w.heap.size 5 (u8s (List.replicate len 0))) := row_of_made hown2; have hb2 : Below w.heap.size w w2 := ((Below.refl _ w).grown hgrow2 (Nat.le_refl _) (fun k e => by cases e)); clear hown2 hgrow2)
    | ((with_reducible show wpList _ _ _ (Oper.mk (some 9) _ _ _ _ _ :: _) _ _); refine wpList_copy_splice rfl (.tmp 7) (.tmp 8) 22 22 rfl 5 Tryd.underlying22 size5 _ _ _ _ _ _ rfl rfl w.heap.size 0 (u8s (List.replicate len 0)) 5 HR2.out (u8s zs) (by rw [u8s_length, HI.out.1]; exact (Nat.min_self _).symm) (fun h0 => ⟨rfl, bytes_src (HI.out.below hb2) h0⟩) (by have := HI.out.1; simp; omega) (u8s_one _) w.heap.size w hb2 (Nat.le_refl _) ?_; intro w3 HG3 hb3; rw [u8s_length, HI.out.1]; rw [splice_all zs len HI.out.1] at HG3))
  go_ret
  have ho := own_of_row (n₀ := w.heap.size) (zs := zs) HG3.out (Nat.le_refl _) (by have := HI.out.1; omega)
  rw [HI.out.1] at ho
  exact ⟨rfl, ho, Row.lt HG3.out, hb3⟩

set_option maxHeartbeats 1000000 in
/-- New -/
theorem tapeNew_any (p : Option Addr) (len cap : Nat) (zs : List Nat) (hlen : len ≤ 70000) (w : World) (hI : IsBytes w.heap.size w p len cap zs) :
    Calls Tryd.prog 6 #[.slice p len cap] w fun e w' => ∃ B, e = .returned (.pointer (some ⟨B, 0, none⟩)) ∧ w.heap.size < B ∧ (TapeAt w' B w.heap.size zs ∧ Row w' w.heap.size 5 (u8s zs)) ∧ Below w.heap.size w w' := by
  have HI : Hid (IsBytes w.heap.size w p len cap zs) := hI
  clear hI
  go_enter Tryd.func6, Tryd.ntmps6
  go_wp2_with (go_at_call 12; refine (tapeOwn_any p len cap zs hlen _ HI.out).mono ?_; rintro e w1 ⟨rfl, hown1, hs1, hb1⟩)
  go_ret
  have hr1 : Row w1 w.heap.size 5 (u8s zs) := by have h := hown1; unfold Own at h; rw [HI.out.1] at h; exact row_of_made h
  exact ⟨w1.heap.size, rfl, hs1, ⟨⟨_, _, _, Row.new w1 52 _, (hown1.bytes HI.out.2.2.2.1).below ((Below.refl _ w1).alloc (Nat.le_refl _) _), fun b off s e => by simp at e; exact e.1.symm⟩, hr1.alloc _⟩, hb1.alloc hb1.size _⟩

set_option maxHeartbeats 1000000 in
/-- Left -/
theorem left_any (B Q : Nat) (zs : List Nat) (w : World) (hT : TapeAt w B Q zs) :
    Calls Tryd.prog 38 #[.pointer (some ⟨B, 0, none⟩)] w fun e w' => e = .returned (.int .i64 (zs.length : Nat)) ∧ w' = w := by
  obtain ⟨q, len, cap, hr, hI, _⟩ := hT
  have c1 := hr.cell (i := 1) rfl
  have hl := hI.1
  have hl2 : len ≤ 9223372036854775807 := by have := hI.2.1; have := hI.2.2.1; omega
  clear hr hI
  go_enter Tryd.func38, Tryd.ntmps38
  go_wp2
  go_ret
  exact ⟨by rw [hl]; rfl, rfl⟩
theorem left_none (w : World) : Calls Tryd.prog 38 #[.pointer none] w fun e w' => e = .returned (.int .i64 0) ∧ w' = w := by
  go_enter Tryd.func38, Tryd.ntmps38
  go_wp2
  go_ret
  exact ⟨rfl, rfl⟩

end Go.Proofs.YtkpjbleogjmbjaaDoor
