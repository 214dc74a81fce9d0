/-
  A suite of the reference in memory, as far as its bytes are drawn; what its Take makes of it. Nothing that lay before the call has turned but the suite.
-/
import Derived.Test.YtkpjbleogjmbjaaDoorTapeAll
namespace Go.Proofs.YtkpjbleogjmbjaaDoor
open Go.RowKit

/-- Block B is a suite that nobody has asked yet, with the bytes zs to draw, which lie in a block below n₀. -/
def suiteCells (x0 x2 x3 x4 x5 v : Value) : List Value := [x0, v, x2, x3, x4, x5]
def RefAt (x0 x2 x3 x4 x5 : Value) (n₀ : Nat) (W : World) (B : Nat) (zs : List Nat) : Prop := ∃ q len cap, Row W B 33 (suiteCells x0 x2 x3 x4 x5 (.slice q len cap)) ∧ IsBytes n₀ W q len cap zs
theorem RefAt.lt {x0 x2 x3 x4 x5 : Value} {n₀ : Nat} {W : World} {B : Nat} {zs : List Nat} (h : RefAt x0 x2 x3 x4 x5 n₀ W B zs) : B < W.heap.size := by obtain ⟨_, _, _, h, _⟩ := h; exact h.lt
theorem RefAt.but {x0 x2 x3 x4 x5 : Value} {n₀ : Nat} {W W' : World} {B B' : Nat} {zs : List Nat} (h : RefAt x0 x2 x3 x4 x5 n₀ W B zs) (hb : But B' W.heap.size W W') (hB : B ≠ B') (hn : n₀ ≤ B') (hn' : n₀ ≤ W.heap.size) : RefAt x0 x2 x3 x4 x5 n₀ W' B zs := by
  obtain ⟨q, len, cap, h1, h2⟩ := h
  exact ⟨q, len, cap, hb.row h1.lt hB h1, h2.below (hb.below hn' hn)⟩

set_option maxHeartbeats 1000000 in
theorem refTake_neg (B : Nat) (z : Int) (hz : z < 0) (w : World) :
    Calls Tryd.prog 30 #[.pointer (some ⟨B, 0, none⟩), .int .i64 z] w fun e w' => e = .returned (.tuple #[.slice none 0 0, .int .i64 1]) ∧ w' = w := by
  go_enter Tryd.func30, Tryd.ntmps30
  go_wp2
  refine bodyPost_ret (results_tmp2 rfl _ _ _) rfl ?_
  exact ⟨rfl, rfl⟩

set_option maxHeartbeats 1000000 in
theorem refTake_over (B len cap : Nat) (q : Option Addr) (z : Int) (hz : ¬ z < 0) (hn : (len : Int) < z) (w : World) (c1 : w.cell? ⟨B, 1, none⟩ = some (.slice q len cap)) :
    Calls Tryd.prog 30 #[.pointer (some ⟨B, 0, none⟩), .int .i64 z] w fun e w' => e = .returned (.tuple #[.slice none 0 0, .int .i64 60]) ∧ w' = w := by
  go_enter Tryd.func30, Tryd.ntmps30
  go_wp2
  refine bodyPost_ret (results_tmp2 rfl _ _ _) rfl ?_
  exact ⟨rfl, rfl⟩

set_option maxRecDepth 100000 in
set_option maxHeartbeats 1000000 in
theorem refTake_some (x0 x2 x3 x4 x5 : Value) (n₀ B n : Nat) (zs : List Nat) (hn : n ≤ zs.length) (hlen : zs.length ≤ 70000) (w : World) (hn0 : n₀ ≤ B) (hT : RefAt x0 x2 x3 x4 x5 n₀ w B zs) :
    Calls Tryd.prog 30 #[.pointer (some ⟨B, 0, none⟩), .int .i64 n] w fun e w' => ∃ v, e = .returned (.tuple #[v, .int .i64 0]) ∧ Own w.heap.size w' v (zs.take n) ∧ RefAt x0 x2 x3 x4 x5 n₀ w' B (zs.drop n) ∧ But B w.heap.size w w' := by
  have hBl := hT.lt
  obtain ⟨q, len, cap, hr, hI⟩ := hT
  have hl := hI.1
  have hlc := hI.2.1
  have hcc := hI.2.2.1
  have hq : (len = 0 ∧ n = 0) ∨ ∃ b off, q = some ⟨b, off, none⟩ := by
    rcases hI.2.2.2.2 with h | ⟨b, off, h, hb, _⟩
    · exact .inl ⟨h, by omega⟩
    · exact .inr ⟨b, off, h⟩
  have c1 := hr.cell (i := 1) rfl
  have HR : Hid (Row w B 33 (suiteCells x0 x2 x3 x4 x5 (.slice q len cap))) := hr
  have hz0 : ¬ (n : Int) < 0 := by omega
  have hn1 : ¬ (len : Int) < (n : Int) := by omega
  have hnl : n ≤ len := by omega
  have hnc : n ≤ cap := by omega
  have HI : Hid (IsBytes w.heap.size w q n cap (zs.take n)) := (hI.head hnl hnc (Nat.le_refl _)).mono (by omega)
  have HEnd : Hid (∀ q2 c2 w2, c2 + n = cap → (0 < len - n → ∃ b off, q = some ⟨b, off, none⟩ ∧ q2 = some ⟨b, off + n, none⟩) → Below w.heap.size w w2 → ∀ v ts, Own w.heap.size w2 v ts → Own w.heap.size (w2.setCell ⟨B, 1, none⟩ (.slice q2 (len - n) c2)) v ts ∧ RefAt x0 x2 x3 x4 x5 n₀ (w2.setCell ⟨B, 1, none⟩ (.slice q2 (len - n) c2)) B (zs.drop n) ∧ But B w.heap.size w (w2.setCell ⟨B, 1, none⟩ (.slice q2 (len - n) c2))) := fun q2 c2 w2 hc hq hb v ts ho => by
    have hbut : But B w2.heap.size w2 (w2.setCell ⟨B, 1, none⟩ (.slice q2 (len - n) c2)) := But.set 1 _
    have hIr : IsBytes n₀ w q2 (len - n) c2 (zs.drop n) := hI.rest (by omega) hc hq
    have hs := hb.size
    refine ⟨ho.but hbut hBl, ⟨q2, len - n, c2, (hr.later hb).set (i := 1) _, (hIr.below (hb.mono (by omega))).below (hbut.below (by omega) hn0)⟩, (But.of_below hb (Nat.le_refl _)).trans (hbut.mono hs)⟩
  have fz := fun (w2 : World) (hb : Below w.heap.size w w2) => (hr.later hb).frozen 1
  have c2 := fun (w2 : World) (hb : Below w.heap.size w w2) => (hr.later hb).cell (i := 1) rfl
  have fz0 := hr.frozen 1
  clear hr hI
  rcases hq with ⟨rfl, rfl⟩ | ⟨b, off, rfl⟩
  · clear fz c2
    cases q
    all_goals
      go_enter Tryd.func30, Tryd.ntmps30
      go_wp2
      refine bodyPost_ret (results_tmp2 rfl _ _ _) rfl ?_
      exact ⟨_, rfl, HEnd.out _ cap w (by omega) (by omega) (Below.refl _ _) (.slice none 0 0) [] (Own.nil _ _)⟩
  · clear fz0
    by_cases hcn : cap = n
    · subst hcn
      go_enter Tryd.func30, Tryd.ntmps30
      go_wp2_with (at_builtin; refine wpList_append_bytes rfl _ _ rfl w.heap.size (.slice none 0 0) [] rfl (Own.nil _ _) rfl HI.out (by simp; omega) (Nat.le_refl _) ?_; intro u2 w2 hown2 hgrow2; have hb2 : Below w.heap.size w w2 := (Below.refl _ w).grown hgrow2 (Nat.le_refl _) (fun k e => by cases e); have fz2 := fz w2 hb2; have cc2 := c2 w2 hb2; clear fz c2 c1 hgrow2)
      refine bodyPost_ret (results_tmp2 rfl _ _ _) rfl ?_
      have hE := HEnd.out (some ⟨b, off, none⟩) 0 w2 (by omega) (by omega) hb2 _ _ hown2
      rw [show len - cap = 0 by omega] at hE
      exact ⟨_, rfl, hE⟩
    · have hcn' : (cap = n) = False := eq_false hcn
      go_enter Tryd.func30, Tryd.ntmps30
      go_wp2_with (at_builtin; refine wpList_append_bytes rfl _ _ rfl w.heap.size (.slice none 0 0) [] rfl (Own.nil _ _) rfl HI.out (by simp; omega) (Nat.le_refl _) ?_; intro u2 w2 hown2 hgrow2; have hb2 : Below w.heap.size w w2 := (Below.refl _ w).grown hgrow2 (Nat.le_refl _) (fun k e => by cases e); have fz2 := fz w2 hb2; have cc2 := c2 w2 hb2; clear fz c2 c1 hgrow2)
      refine bodyPost_ret (results_tmp2 rfl _ _ _) rfl ?_
      exact ⟨_, rfl, HEnd.out _ _ _ (by omega) (fun _ => ⟨_, _, rfl, rfl⟩) hb2 _ _ hown2⟩

/-- The reference's Take -/
theorem refTake_any (x0 x2 x3 x4 x5 : Value) (n₀ B : Nat) (z : Int) (zs : List Nat) (hlen : zs.length ≤ 70000) (w : World) (hn0 : n₀ ≤ B) (hT : RefAt x0 x2 x3 x4 x5 n₀ w B zs) :
    Calls Tryd.prog 30 #[.pointer (some ⟨B, 0, none⟩), .int .i64 z] w fun e w' => ∃ v, e = .returned (.tuple #[v, .int .i64 (errT z zs)]) ∧ Own w.heap.size w' v (takenT z zs) ∧ RefAt x0 x2 x3 x4 x5 n₀ w' B (restT z zs) ∧ But B w.heap.size w w' := by
  by_cases hz : z < 0
  · rw [errT, if_pos hz, takenT, if_pos (.inl hz), restT, if_pos (.inl hz)]
    refine (refTake_neg _ z hz w).mono ?_
    rintro e w' ⟨rfl, rfl⟩
    exact ⟨_, rfl, Own.nil _ _, hT, But.refl _ _ _⟩
  · by_cases hn : (zs.length : Int) < z
    · rw [errT, if_neg hz, if_pos hn, takenT, if_pos (.inr hn), restT, if_pos (.inr hn)]
      obtain ⟨q, len, cap, hr, hI⟩ := id hT
      rw [hI.1] at hn
      refine (refTake_over B len cap q z hz hn w (hr.cell (i := 1) rfl)).mono ?_
      rintro e w' ⟨rfl, rfl⟩
      exact ⟨_, rfl, Own.nil _ _, hT, But.refl _ _ _⟩
    · rw [errT, if_neg hz, if_neg hn, takenT, if_neg (by omega), restT, if_neg (by omega)]
      obtain ⟨n, rfl⟩ : ∃ n : Nat, z = (n : Int) := ⟨z.toNat, by omega⟩
      rw [Int.toNat_natCast]
      exact refTake_some x0 x2 x3 x4 x5 n₀ B n zs (by omega) hlen w hn0 hT

end Go.Proofs.YtkpjbleogjmbjaaDoor
