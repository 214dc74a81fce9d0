/-
  The law CodecNone, walked: for every number, text and size it returns true.
-/
import Derived.Test.YtdebcpfjldgalaaAwake
namespace Go.Proofs.Ytdebcpfjldgalaa
open Go.RowKit

/-- Text of a writer that nobody made. -/
theorem writerText_none (q : Option Addr) (w : World) (b : Nat) (v : Value) (hv : w.cell? ⟨b, 0, none⟩ = some v) (l c : Nat) (e : v = .slice q l c) (hl : l ≤ 1000) : Calls Try.prog 28 #[.pointer none, .slice (some ⟨b, 0, none⟩) 1 1] w fun e w' => (∃ v, e = .returned v) ∧ Below w.heap.size w w' := by
  subst e
  go_enter Try.func28, Try.ntmps28
  go_wp2
  go_loopw [8] (fun i wr => ∃ (k : Nat), k ≤ 1 ∧ i = .int .i64 k ∧ Below w.heap.size w wr) (fun i _ => 1 - (intOf i).toNat)
  case atStart => exact ⟨0, by omega, rfl, Below.refl _ _⟩
  case round =>
    obtain ⟨k, hk, rfl, hbel⟩ := hrel
    have hblt : b < w.heap.size := World.block_lt_of_cell? w _ hv
    by_cases h0 : k = 0
    · subst h0
      have hv' := (hbel.cell (p := ⟨b, 0, none⟩) hblt).trans hv
      have hsz := hbel.size
      go_wp2_with (first
        | (go_at_call 25; refine (writerN_none _ _ _ _).mono ?_; rintro e w1 ⟨⟨v1, rfl⟩, rfl⟩)
        | (go_at_call 27; refine (writerRaw_none _ _ _ _).mono ?_; rintro e w2 ⟨⟨v2, rfl⟩, rfl⟩))
      go_roundw
      case rel => exact ⟨1, by omega, by go_num, hbel.alloc hsz _⟩
      case measure => simp [intOf]
    · obtain rfl : k = 1 := by omega
      go_wp2
      go_end0
      exact ⟨⟨_, rfl⟩, hbel⟩

theorem writerText_fresh (q : Option Addr) (w : World) (n l c : Nat) (hl : l ≤ 1000) : Calls Try.prog 28 #[.pointer none, .slice (some ⟨w.heap.size + 1, 0, none⟩) 1 1] ((w.alloc (.cells #[.int .u64 (n : Nat)] 32)).alloc (.cells #[.slice q l c] 25)) fun e w' => (∃ v, e = .returned v) ∧ Below w.heap.size w w' := by
  have hr := (Row.new (w.alloc (.cells #[.int .u64 (n : Nat)] 32)) 25 #[.slice q l c]).cell (i := 0) rfl
  rw [World.size_alloc] at hr
  refine (writerText_none q _ _ _ hr l c rfl hl).mono ?_
  rintro e w' ⟨h1, h2⟩
  exact ⟨h1, (((Below.refl _ w).alloc (Nat.le_refl _) _).alloc (by simp) _).trans (h2.mono (by simp; omega))⟩

set_option maxRecDepth 100000 in
set_option maxHeartbeats 600000 in
theorem codecNone_walk (n : Nat) (p : Option Addr) (len cap : Nat) (zs : List Nat) (z : Int) (w : World) (hn : n < 18446744073709551616) (_hI : IsBytes w.heap.size w p len cap zs) (_hz : -9223372036854775808 ≤ z ∧ z ≤ 9223372036854775807) :
    Calls Try.prog 7 #[.int .u64 (n : Nat), .slice p len cap, .int .i64 z] w fun e w' => e = .returned (.bool true) ∧ Below w.heap.size w w' := by
  clear _hI
  by_cases hlen : len ≤ 300
  · have hli : ¬ (300 : Int) < (len : Int) := by omega
    go_enter Try.func7, Try.ntmps7
    go_wp2_with (first
      | (go_at_call 8; refine (awake_any _).mono ?_; rintro e w1 ⟨rfl, hb1⟩; have hs1 := hb1.size)
      | (go_at_call 25; refine (writerN_none _ _ _ _).mono ?_; rintro e w2 ⟨⟨v2, rfl⟩, rfl⟩)
      | (go_at_call 27; refine (writerRaw_none _ _ _ _).mono ?_; rintro e w3 ⟨⟨v3, rfl⟩, rfl⟩)
      | (go_at_call 28; refine (writerText_fresh _ _ _ _ _ (by omega)).mono ?_; rintro e w4 ⟨⟨v4, rfl⟩, hb4⟩; have hbA : Below w.heap.size w w4 := hb1.trans (hb4.mono hs1); have HZ0 : Hid (RdAt (w4.alloc (.cells #[.bool false, .slice none 0 0] 53)) w4.heap.size none) := Row.new w4 53 #[.bool false, .slice none 0 0]; clear hb4 hb1 hs1)
      | (go_at_call 26; refine (writerBytes_none _).mono ?_; rintro e w5 ⟨rfl, rfl⟩)
      | (go_at_call 13; with_reducible refine (readerN_none _ _).mono ?_; rintro e w6 ⟨rfl, rfl⟩)
      | (go_at_call 15; refine (readerRaw_none _ _).mono ?_; rintro e w7 ⟨rfl, rfl⟩)
      | (go_at_call 17; refine (readerText_none _ _).mono ?_; rintro e w8 ⟨rfl, rfl⟩)
      | (go_at_call 20; refine (readerIds_none _ _).mono ?_; rintro e w9 ⟨rfl, rfl⟩)
      | (go_at_call 22; refine (rest_none _).mono ?_; rintro e w10 ⟨rfl, rfl⟩)
      | (go_at_call 23; with_reducible refine (end_none _).mono ?_; rintro e w11 ⟨rfl, rfl⟩)
      | (go_at_call 13; refine (readerN_any _ none n hn _ HZ0.out).mono ?_; rintro e w12 ⟨rfl, hR12, hb12⟩; unfold readN at hR12 ⊢; dsimp only at hR12 ⊢; have HR12 : Hid (RdAt w12 w4.heap.size none) := hR12; have hbB : Below w.heap.size w w12 := (hbA.alloc hbA.size _).trans (hb12.below (by simp; have := hbA.size; omega) hbA.size); clear hR12 hb12)
      | (go_at_call 23; refine (end_any _ none _ HR12.out).mono ?_; rintro e w13 ⟨rfl, rfl⟩; unfold endE))
    go_ret
    exact ⟨rfl, hbB⟩
  · have hli : (300 : Int) < (len : Int) := by omega
    go_enter Try.func7, Try.ntmps7
    go_wp2_with (go_at_call 8; refine (awake_any _).mono ?_; rintro e w1 ⟨rfl, hb1⟩)
    go_ret
    exact ⟨rfl, hb1⟩
end Go.Proofs.Ytdebcpfjldgalaa
