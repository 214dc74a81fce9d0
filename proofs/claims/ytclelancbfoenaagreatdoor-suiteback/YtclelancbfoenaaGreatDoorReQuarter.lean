/-
  What the reference's Quarter answers.
-/
import Derived.Test.YtclelancbfoenaaGreatDoorMade
import Derived.Test.YtclelancbfoenaaGreatDoorReChaSpec
namespace Go.Proofs.YtclelancbfoenaaGreatDoor.Re
open Go.RowKit

theorem results_tmp4 {fn : Func} {t u x y : Tmp} (h : fn.results = #[.tmp t, .tmp u, .tmp x, .tmp y]) (tmps : Array Value) (P : Program) (w : World) :
    (results fn tmps).run P w = .ok (.tuple #[tmps.getD t undef, tmps.getD u undef, tmps.getD x undef, tmps.getD y undef]) w := by
  simp [results, h]

set_option maxRecDepth 100000 in
set_option maxHeartbeats 1000000 in
theorem refQuarter_any (a b c d : Nat) (_ha : a < 4294967296) (hb : b < 4294967296) (_hc : c < 4294967296) (hd : d < 4294967296) (w : World) :
    Calls Tryz.prog 64 #[.int .u32 a, .int .u32 b, .int .u32 c, .int .u32 d] w fun e w' => e = .returned (.tuple #[.int .u32 (quarterN a b c d).1, .int .u32 (quarterN a b c d).2.1, .int .u32 (quarterN a b c d).2.2.1, .int .u32 (quarterN a b c d).2.2.2]) ∧ w' = w := by
  have m : ∀ x : Nat, x % 4294967296 < 4294967296 := fun x => Nat.mod_lt _ (by decide)
  obtain ⟨a1, ha1⟩ : ∃ a1, a1 = (a + b) % 4294967296 := ⟨_, rfl⟩
  obtain ⟨d1, hd1⟩ : ∃ d1, d1 = rolN (d ^^^ a1) 16 := ⟨_, rfl⟩
  obtain ⟨c1, hc1⟩ : ∃ c1, c1 = (c + d1) % 4294967296 := ⟨_, rfl⟩
  obtain ⟨b1, hb1⟩ : ∃ b1, b1 = rolN (b ^^^ c1) 12 := ⟨_, rfl⟩
  obtain ⟨a2, ha2⟩ : ∃ a2, a2 = (a1 + b1) % 4294967296 := ⟨_, rfl⟩
  obtain ⟨d2, hd2⟩ : ∃ d2, d2 = rolN (d1 ^^^ a2) 8 := ⟨_, rfl⟩
  obtain ⟨c2, hc2⟩ : ∃ c2, c2 = (c1 + d2) % 4294967296 := ⟨_, rfl⟩
  obtain ⟨b2, hb2⟩ : ∃ b2, b2 = rolN (b1 ^^^ c2) 7 := ⟨_, rfl⟩
  have HQ : Hid (quarterN a b c d = (a2, b2, c2, d2)) := by
    show _ = _
    unfold quarterN
    simp only [← ha1, ← hd1, ← hc1, ← hb1, ← ha2, ← hd2, ← hc2, ← hb2]
  have la1 : a1 < 4294967296 := by rw [ha1]; exact m _
  have ld1 : d1 < 4294967296 := by rw [hd1]; exact rolN_lt _ _ (xor_lt hd la1) (by omega)
  have lc1 : c1 < 4294967296 := by rw [hc1]; exact m _
  have lb1 : b1 < 4294967296 := by rw [hb1]; exact rolN_lt _ _ (xor_lt hb lc1) (by omega)
  have la2 : a2 < 4294967296 := by rw [ha2]; exact m _
  have ld2 : d2 < 4294967296 := by rw [hd2]; exact rolN_lt _ _ (xor_lt ld1 la2) (by omega)
  have lc2 : c2 < 4294967296 := by rw [hc2]; exact m _
  have xr : ∀ x y : Nat, x < 4294967296 → y < 4294967296 → bits .xor .u32 (x : Int) (y : Int) = ((x ^^^ y : Nat) : Int) := fun x y hx hy => u32_xor_nat x y hx hy
  have eA1 : IntKind.u32.wrap ((a : Int) + (b : Int)) = (a1 : Int) := by rw [IntKind.wrap_u32]; omega
  have eX1 := xr d a1 hd la1
  have eC1 : IntKind.u32.wrap ((c : Int) + (d1 : Int)) = (c1 : Int) := by rw [IntKind.wrap_u32]; omega
  have eX2 := xr b c1 hb lc1
  have eA2 : IntKind.u32.wrap ((a1 : Int) + (b1 : Int)) = (a2 : Int) := by rw [IntKind.wrap_u32]; omega
  have eX3 := xr d1 a2 ld1 la2
  have eC2 : IntKind.u32.wrap ((c1 : Int) + (d2 : Int)) = (c2 : Int) := by rw [IntKind.wrap_u32]; omega
  have eX4 := xr b1 c2 lb1 lc2
  have R1 : Hid (Calls Tryz.prog 80 #[.int .u32 ((d ^^^ a1 : Nat) : Int), .int .i64 16] w fun e w' => e = .returned (.int .u32 d1) ∧ w' = w) := by rw [hd1]; exact refRol_any _ 16 16 w (xor_lt hd la1) (by decide) (by decide)
  have R2 : Hid (Calls Tryz.prog 80 #[.int .u32 ((b ^^^ c1 : Nat) : Int), .int .i64 12] w fun e w' => e = .returned (.int .u32 b1) ∧ w' = w) := by rw [hb1]; exact refRol_any _ 12 12 w (xor_lt hb lc1) (by decide) (by decide)
  have R3 : Hid (Calls Tryz.prog 80 #[.int .u32 ((d1 ^^^ a2 : Nat) : Int), .int .i64 8] w fun e w' => e = .returned (.int .u32 d2) ∧ w' = w) := by rw [hd2]; exact refRol_any _ 8 8 w (xor_lt ld1 la2) (by decide) (by decide)
  have R4 : Hid (Calls Tryz.prog 80 #[.int .u32 ((b1 ^^^ c2 : Nat) : Int), .int .i64 7] w fun e w' => e = .returned (.int .u32 b2) ∧ w' = w) := by rw [hb2]; exact refRol_any _ 7 7 w (xor_lt lb1 lc2) (by decide) (by decide)
  clear ha1 hd1 hc1 hb1 ha2 hd2 hc2 hb2 la1 ld1 lc1 lb1 la2 ld2 lc2 xr m hb hd _ha _hc
  generalize d ^^^ a1 = x1 at *
  generalize b ^^^ c1 = x2 at *
  generalize d1 ^^^ a2 = x3 at *
  generalize b1 ^^^ c2 = x4 at *
  rw [HQ.out]
  go_enter Tryz.func64, Tryz.ntmps64
  go_wp2_with (first
    | (go_at_call 80; have r1 := R1.out; clear R1; refine r1.mono ?_; clear r1; rintro e w1 ⟨rfl, hw1⟩; obtain rfl : w = w1 := hw1.symm; clear hw1)
    | (go_at_call 80; have r2 := R2.out; clear R2; refine r2.mono ?_; clear r2; rintro e w2 ⟨rfl, hw2⟩; obtain rfl : w = w2 := hw2.symm; clear hw2)
    | (go_at_call 80; have r3 := R3.out; clear R3; refine r3.mono ?_; clear r3; rintro e w3 ⟨rfl, hw3⟩; obtain rfl : w = w3 := hw3.symm; clear hw3)
    | (go_at_call 80; have r4 := R4.out; clear R4; refine r4.mono ?_; clear r4; rintro e w4 ⟨rfl, hw4⟩; obtain rfl : w = w4 := hw4.symm; clear hw4))
  refine bodyPost_ret (results_tmp4 rfl _ _ _) rfl ?_
  exact ⟨rfl, rfl⟩
end Go.Proofs.YtclelancbfoenaaGreatDoor.Re
