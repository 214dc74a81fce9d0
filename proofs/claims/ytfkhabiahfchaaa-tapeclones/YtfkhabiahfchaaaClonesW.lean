/-
  What TapeClones answers: true, whatever the bytes and the numbers. Nothing that lay before the call has turned.
-/
import Derived.Test.YtfkhabiahfchaaaAwake
namespace Go.Proofs.Ytfkhabiahfchaaa
open Go.RowKit

theorem below_but {n m B : Nat} {a b c : World} (h : Below n a b) (hb : But B m b c) (hB : n ≤ B) (hm : n ≤ m) : Below n a c := h.trans (hb.below hm hB)

/-- Two tapes lie apart. -/
theorem TapeAt.apart {W W' : World} {B C : Nat} {zs ys : List Nat} (h : TapeAt W C zs) (hB : TapeAt W B ys) (hne : C ≠ B) (hb : But B W.heap.size W W') : TapeAt W' C zs := by
  obtain ⟨q, len, cap, h1, h2⟩ := h
  obtain ⟨q', len', cap', r1, _⟩ := hB
  refine ⟨q, len, cap, hb.row h1.lt hne h1, ?_⟩
  have hlt := h1.lt
  obtain ⟨e1, e2, e3, e4, h5⟩ := h2
  refine ⟨e1, e2, e3, e4, ?_⟩
  by_cases h0 : len = 0
  · exact .inl h0
  · obtain ⟨b, off, rfl, hbC, hc⟩ := h5.resolve_left h0
    have hbB : b ≠ B := by
      rintro rfl
      have hx := hc 0 (by omega)
      rw [cell_of_row W b (off + 0) _ _ _ r1] at hx
      match off, hx with
      | 0, hx => simp at hx
      | 1, hx => simp at hx
      | k + 2, hx => simp at hx
    refine .inr ⟨b, off, rfl, hbC, fun i hi => ?_⟩
    rw [World.cell?_of_block (a := ⟨b, off + i, none⟩) (hb.block b (by omega) hbB)]
    exact hc i hi

theorem restT_length (z : Int) (zs : List Nat) : (restT z zs).length ≤ zs.length := by
  unfold restT
  split
  · exact Nat.le_refl _
  · simp

set_option maxHeartbeats 1000000 in
theorem tapeClones_long (p : Option Addr) (len cap : Nat) (n m : Int) (hlen : 500 < len) (w : World) :
    Calls Try.prog 4 #[.slice p len cap, .int .i64 n, .int .i64 m] w fun e w' => e = .returned (.bool true) ∧ Below w.heap.size w w' := by
  have h : (500 : Int) < (len : Int) := by omega
  go_enter Try.func4, Try.ntmps4
  go_wp2_with (go_at_call 6; refine (awake_any _).mono ?_; rintro e w1 ⟨rfl, hb1⟩)
  go_ret
  exact ⟨rfl, hb1⟩

set_option maxRecDepth 100000 in
set_option maxHeartbeats 2000000 in
theorem tapeClones_some (p : Option Addr) (len cap : Nat) (zs : List Nat) (n m : Int) (hlen : len ≤ 500) (w : World) (hI : IsBytes w.heap.size w p len cap zs) :
    Calls Try.prog 4 #[.slice p len cap, .int .i64 n, .int .i64 m] w fun e w' => e = .returned (.bool true) ∧ Below w.heap.size w w' := by
  have h : ¬ (500 : Int) < (len : Int) := by omega
  have hl := hI.1
  have hl1 := restT_length n zs
  have hl2 := restT_length m (restT n zs)
  have HN : Hid (∀ W, Below w.heap.size w W → Calls Try.prog 7 #[.slice p len cap] W fun e w' => ∃ B, e = .returned (.pointer (some ⟨B, 0, none⟩)) ∧ W.heap.size ≤ B ∧ TapeAt w' B zs ∧ Below W.heap.size W w') := fun W hW => new_any p len cap zs (by omega) W (hI.later hW)
  have HT1 : Hid (∀ B W, TapeAt W B zs → Calls Try.prog 8 #[.pointer (some ⟨B, 0, none⟩), .int .i64 n] W fun e w' => ∃ v, e = .returned (.tuple #[v, .int .i64 (errT n zs)]) ∧ TapeAt w' B (restT n zs) ∧ But B W.heap.size W w') := fun B W hT =>
    (take_any B n zs (by omega) W hT).mono fun e w' ⟨v, h1, _, h3, h4⟩ => ⟨v, h1, h3, h4⟩
  have HT2 : Hid (∀ B W, TapeAt W B (restT n zs) → Calls Try.prog 8 #[.pointer (some ⟨B, 0, none⟩), .int .i64 m] W fun e w' => ∃ v, e = .returned (.tuple #[v, .int .i64 (errT m (restT n zs))]) ∧ Own W.heap.size w' v (takenT m (restT n zs)) ∧ TapeAt w' B (restT m (restT n zs)) ∧ But B W.heap.size W w') := fun B W hT =>
    take_any B m _ (by omega) W hT
  have HL : Hid (∀ B W, TapeAt W B (restT n zs) → Calls Try.prog 10 #[.pointer (some ⟨B, 0, none⟩)] W fun e w' => e = .returned (.int .i64 ((restT n zs).length : Nat)) ∧ w' = W) := fun B W hT => left_any B _ W hT
  have HC : Hid (∀ B W, TapeAt W B (restT n zs) → Calls Try.prog 11 #[.pointer (some ⟨B, 0, none⟩)] W fun e w' => ∃ C, e = .returned (.pointer (some ⟨C, 0, none⟩)) ∧ W.heap.size ≤ C ∧ TapeAt w' C (restT n zs) ∧ Below W.heap.size W w') := fun B W hT => clone_any B _ (by omega) W hT
  clear hI hl1 hl2
  generalize (restT n zs).length = L1 at *
  generalize restT m (restT n zs) = zs2 at *
  generalize takenT m (restT n zs) = t2 at *
  generalize errT m (restT n zs) = E at *
  generalize restT n zs = zs1 at *
  generalize errT n zs = E1 at *
  have HStr : Hid (∀ n₀ W v, Own n₀ W v t2 → Str W v (strOf t2)) := fun _ _ _ h => own_str h
  generalize strOf t2 = S at *
  go_enter Try.func4, Try.ntmps4
  go_wp2_with (first
    | (go_at_call 6; refine (awake_any _).mono ?_; rintro e w1 ⟨rfl, hb1⟩)
    | (go_at_call 7; refine (HN.out _ hb1).mono ?_; rintro e w2 ⟨B, rfl, hB, hT2, hb2⟩)
    | (go_at_call 8; have h1 := HT1.out _ _ hT2; clear hT2 HT1; refine h1.mono ?_; clear h1; rintro e w3 ⟨v3, rfl, hT3, hb3⟩)
    | (go_at_call 11; refine (HC.out _ _ hT3).mono ?_; rintro e w4 ⟨C, rfl, hC, hTC4, hb4⟩; have hT4 := hT3.later hb4; have hBC : B < C := Nat.lt_of_lt_of_le hT3.lt hC; have HL1 := HL.out _ _ hTC4; have HL2 := HL.out _ _ hT4)
    | (go_at_call 10; have h1 := HL1; clear HL1; refine h1.mono ?_; clear h1; rintro e w5 ⟨rfl, hw5⟩; obtain rfl : w4 = w5 := hw5.symm; clear hw5)
    | (go_at_call 10; have h1 := HL2; clear HL2; refine h1.mono ?_; clear h1; rintro e w5 ⟨rfl, hw5⟩; obtain rfl : w4 = w5 := hw5.symm; clear hw5)
    | (go_at_call 8; have h1 := HT2.out _ _ hT4; refine h1.mono ?_; clear h1; rintro e w6 ⟨v6, rfl, hown6, hT6, hb6⟩; have hTC6 := hTC4.apart hT4 (by omega) hb6; have hCl := hTC4.lt; clear hTC4 hT4)
    | (go_at_call 8; have h1 := HT2.out _ _ hTC6; refine h1.mono ?_; clear h1; rintro e w7 ⟨v7, rfl, hown7, hTC7, hb7⟩; have s6 := (HStr.out _ _ _ (hown6.but hb7 hCl)).here; have s7 := (HStr.out _ _ _ hown7).here))
  go_ret
  refine ⟨rfl, ?_⟩
  have a1 := hb1.size
  have a2 := hb2.size
  have a3 := hb3.size
  have a4 := hb4.size
  have a6 := hb6.size
  exact below_but (below_but ((below_but (hb1.trans (hb2.mono a1)) hb3 (by omega) (by omega)).trans (hb4.mono (by omega))) hb6 (by omega) (by omega)) hb7 (by omega) (by omega)

/-- TapeClones -/
theorem tapeClones_walk (p : Option Addr) (len cap : Nat) (zs : List Nat) (n m : Int) (w : World) (hI : IsBytes w.heap.size w p len cap zs) (_ : -9223372036854775808 ≤ n ∧ n ≤ 9223372036854775807) (_ : -9223372036854775808 ≤ m ∧ m ≤ 9223372036854775807) :
    Calls Try.prog 4 #[.slice p len cap, .int .i64 n, .int .i64 m] w fun e w' => e = .returned (.bool true) ∧ Below w.heap.size w w' := by
  by_cases h : 500 < len
  · exact tapeClones_long p len cap n m h w
  · exact tapeClones_some p len cap zs n m (by omega) w hI

end Go.Proofs.Ytfkhabiahfchaaa
