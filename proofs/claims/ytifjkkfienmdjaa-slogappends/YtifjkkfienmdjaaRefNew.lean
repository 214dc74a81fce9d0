/-
  The reference's NewDisk.
-/
import Derived.Test.YtifjkkfienmdjaaNew
namespace Go.Proofs.Ytifjkkfienmdjaa
open Go.RowKit Go.Shelf

theorem wpList_make29 {ops : Array Oper} {rest : List Oper} {o : Oper} {a : Act} {w : World} {Q : Exit → Act → World → Prop} (hg : o.guard = none) (l c : Operand) (hop : o.op = Op.makeSlice 79 l c) (n : Nat) (hl : a.eval l = .int .i64 (n : Int)) (hc : a.eval c = .int .i64 (n : Int)) (hn : n ≤ 65536)
    (hK : ∀ w', Row w' w.heap.size 55 (u8s (List.replicate n zeros64).flatten) → Below w.heap.size w w' → w.heap.size < w'.heap.size → wpList Try.prog ops Q rest (a.put o.dst (.slice (some ⟨w.heap.size, 0, none⟩) n n)) w') : wpList Try.prog ops Q (o :: rest) a w :=
  wpList_plain hg fun _ hK' => wp_make29 l c hop n hl hc hn fun w' h1 h2 h3 => hK' _ _ (hK w' h1 h2 h3)

theorem refNew_end {F₀ : List Nat} {n : Int} {g : Nat} {q : Option Addr} {len cap : Nat} {cr : List (Int × Int)} {w w3 : World} (hrow : Row w3 g 55 (u8s (List.replicate (sizeS n) zeros64).flatten)) (hg : w.heap.size ≤ g) (hcr : CrAt F₀ w q len cap cr) (hb : Below w.heap.size w w3) :
    ∃ p g', Ending.returned (.pointer (some ⟨w3.heap.size, 0, none⟩)) = .returned (.pointer (some ⟨p, 0, none⟩)) ∧ w.heap.size ≤ p ∧ w.heap.size ≤ g' ∧ RefAt (p :: g' :: F₀) (w3.alloc (.cells #[.slice (some ⟨g, 0, none⟩) (sizeS n) (sizeS n), .slice q len cap, .int .i64 0, .bool false] 85)) p g' (newS n cr) ∧ Below w.heap.size w (w3.alloc (.cells #[.slice (some ⟨g, 0, none⟩) (sizeS n) (sizeS n), .slice q len cap, .int .i64 0, .bool false] 85)) := by
  have hbn := (Below.refl _ w3).alloc (Nat.le_refl _) (.cells #[.slice (some ⟨g, 0, none⟩) (sizeS n) (sizeS n), .slice q len cap, .int .i64 0, .bool false] 85)
  have hl := hrow.lt
  have hba := hb.trans (hbn.mono hb.size)
  have hs := hb.size
  refine ⟨_, g, rfl, hb.size, hg, ⟨newS_ok n cr, by omega, by simp, by simp, hrow.later hbn, q, len, cap, ?_, ?_⟩, hba⟩
  · have hr := Row.new w3 85 #[.slice (some ⟨g, 0, none⟩) (sizeS n) (sizeS n), .slice q len cap, .int .i64 0, .bool false]
    simpa [newS] using hr
  · refine (hcr.more (F' := w3.heap.size :: g :: F₀) (fun x hx => ?_)).later hba
    simp only [List.mem_cons] at hx
    rcases hx with rfl | rfl | hx
    · exact .inr (by omega)
    · exact .inr hg
    · exact .inl hx

set_option maxRecDepth 100000 in
set_option maxHeartbeats 2000000 in
theorem refNew_any {F₀ : List Nat} (n : Int) {q : Option Addr} {len cap : Nat} {cr : List (Int × Int)} {w : World} (h : CrAt F₀ w q len cap cr) :
    Calls Try.prog 18 #[.int .i64 n, .slice q len cap] w fun e w' => ∃ p g, e = .returned (.pointer (some ⟨p, 0, none⟩)) ∧ w.heap.size ≤ p ∧ w.heap.size ≤ g ∧ RefAt (p :: g :: F₀) w' p g (newS n cr) ∧ Below w.heap.size w w' := by
  have HC : Hid (CrAt F₀ w q len cap cr) := h
  clear h
  have hsz : sizeS n ≤ 65536 := by unfold sizeS; omega
  by_cases h0 : n < 0
  · have HS : Hid (0 = sizeS n) := by show _ = _; unfold sizeS; omega
    go_enter Try.func18, Try.ntmps18
    go_wp2_with (at_make; refine wpList_make29 rfl (.tmp 9) (.tmp 9) rfl 0 rfl rfl (by omega) ?_; intro w2 hrow hb2 hs2; simp only [HS.out] at hrow; have HR : Hid (Row _ _ _ _) := hrow; clear hrow)
    go_ret
    have := refNew_end HR.out (Nat.le_refl _) HC.out hb2
    rw [← HS.out] at this
    exact this
  · by_cases h1 : 65536 < n
    · have HS : Hid (65536 = sizeS n) := by show _ = _; unfold sizeS; omega
      go_enter Try.func18, Try.ntmps18
      go_wp2_with (at_make; refine wpList_make29 rfl (.tmp 9) (.tmp 9) rfl 65536 rfl rfl (by omega) ?_; intro w2 hrow hb2 hs2; simp only [HS.out] at hrow; have HR : Hid (Row _ _ _ _) := hrow; clear hrow)
      go_ret
      have := refNew_end HR.out (Nat.le_refl _) HC.out hb2
      rw [← HS.out] at this
      obtain ⟨p, g, h1, h2, h3, h4, h5⟩ := this
      exact ⟨p, h1, h2, g, h3, h4, h5⟩
    · obtain ⟨m, rfl⟩ : ∃ m : Nat, n = (m : Int) := ⟨n.toNat, by omega⟩
      have HS : Hid (m = sizeS (m : Int)) := by show _ = _; unfold sizeS; omega
      go_enter Try.func18, Try.ntmps18
      go_wp2_with (at_make; refine wpList_make29 rfl (.tmp 9) (.tmp 9) rfl m rfl rfl (by omega) ?_; intro w2 hrow hb2 hs2; have HR : Hid (Row _ _ _ _) := hrow; clear hrow)
      go_ret
      have := refNew_end (n := (m : Int)) (by rw [← HS.out]; exact HR.out) (Nat.le_refl _) HC.out hb2
      rw [← HS.out] at this
      obtain ⟨p, g, h1, h2, h3, h4, h5⟩ := this
      exact ⟨p, h1, h2, g, h3, h4, h5⟩
end Go.Proofs.Ytifjkkfienmdjaa
