/-
  What chacha.addTurn, chacha.Quarter and the statements' awake answer.
-/
import Derived.Test.YtclelancbfoenaaGreatDoorMade
import Derived.Test.YtclelancbfoenaaGreatDoorReQuarter
namespace Go.Proofs.YtclelancbfoenaaGreatDoor.Re
open Go.RowKit

theorem results_tmp2 {fn : Func} {t u : Tmp} (h : fn.results = #[.tmp t, .tmp u]) (tmps : Array Value) (P : Program) (w : World) :
    (results fn tmps).run P w = .ok (.tuple #[tmps.getD t undef, tmps.getD u undef]) w := by
  simp [results, h]

set_option maxRecDepth 100000 in
set_option maxHeartbeats 1000000 in
theorem addTurn_any (s m x s' : Nat) (n : Nat) (hn : n < 32) (hs : (s + m) % 4294967296 = s') (hx : x < 4294967296) (w : World) :
    Calls Tryz.prog 102 #[.int .u32 s, .int .u32 m, .int .u32 x, .int .i64 n] w fun e w' => e = .returned (.tuple #[.int .u32 s', .int .u32 (rolN (x ^^^ s') n : Nat)]) ∧ w' = w := by
  have hs' : s' < 4294967296 := by rw [← hs]; exact Nat.mod_lt _ (by decide)
  have e1 : IntKind.u32.wrap ((s : Int) + (m : Int)) = (s' : Int) := by rw [IntKind.wrap_u32]; omega
  have e2 : bits .xor .u32 (x : Int) (s' : Int) = ((x ^^^ s' : Nat) : Int) := u32_xor_nat x s' hx hs'
  have R : Hid (Calls Tryz.prog 103 #[.int .u32 ((x ^^^ s' : Nat) : Int), .int .i64 n] w fun e w' => e = .returned (.int .u32 (rolN (x ^^^ s') n : Nat)) ∧ w' = w) := rol_any _ n n w (xor_lt hx hs') (by omega) hn
  clear hs hs' hx
  generalize x ^^^ s' = y at *
  go_enter Tryz.func102, Tryz.ntmps102
  go_wp2_with (go_at_call 103; refine R.out.mono ?_; rintro e w1 ⟨rfl, hw1⟩; obtain rfl : w = w1 := hw1.symm; clear hw1)
  refine bodyPost_ret (results_tmp2 rfl _ _ _) rfl ?_
  exact ⟨rfl, rfl⟩

set_option maxRecDepth 100000 in
set_option maxHeartbeats 1000000 in
theorem quarter_any (a b c d : Nat) (_ha : a < 4294967296) (hb : b < 4294967296) (_hc : c < 4294967296) (hd : d < 4294967296) (w : World) :
    Calls Tryz.prog 99 #[.int .u32 a, .int .u32 b, .int .u32 c, .int .u32 d] w fun e w' => e = .returned (.tuple #[.int .u32 (quarterN a b c d).1, .int .u32 (quarterN a b c d).2.1, .int .u32 (quarterN a b c d).2.2.1, .int .u32 (quarterN a b c d).2.2.2]) ∧ w' = w := by
  have m : ∀ x : Nat, x % 4294967296 < 4294967296 := fun x => Nat.mod_lt _ (by decide)
  obtain ⟨a1, ha1⟩ : ∃ a1, a1 = (a + b) % 4294967296 := ⟨_, rfl⟩
  obtain ⟨d1, hd1⟩ : ∃ d1, d1 = rolN (d ^^^ a1) 16 := ⟨_, rfl⟩
  obtain ⟨c1, hc1⟩ : ∃ c1, c1 = (c + d1) % 4294967296 := ⟨_, rfl⟩
  obtain ⟨b1, hb1⟩ : ∃ b1, b1 = rolN (b ^^^ c1) 12 := ⟨_, rfl⟩
  obtain ⟨a2, ha2⟩ : ∃ a2, a2 = (a1 + b1) % 4294967296 := ⟨_, rfl⟩
  obtain ⟨d2, hd2⟩ : ∃ d2, d2 = rolN (d1 ^^^ a2) 8 := ⟨_, rfl⟩
  obtain ⟨c2, hc2⟩ : ∃ c2, c2 = (c1 + d2) % 4294967296 := ⟨_, rfl⟩
  obtain ⟨b2, hb2⟩ : ∃ b2, b2 = rolN (b1 ^^^ c2) 7 := ⟨_, rfl⟩
  have HQ : Hid (quarterN a b c d = (a2, b2, c2, d2)) := by
    show _ = _
    unfold quarterN
    simp only [← ha1, ← hd1, ← hc1, ← hb1, ← ha2, ← hd2, ← hc2, ← hb2]
  have la1 : a1 < 4294967296 := by rw [ha1]; exact m _
  have ld1 : d1 < 4294967296 := by rw [hd1]; exact rolN_lt _ _ (xor_lt hd la1) (by omega)
  have lc1 : c1 < 4294967296 := by rw [hc1]; exact m _
  have lb1 : b1 < 4294967296 := by rw [hb1]; exact rolN_lt _ _ (xor_lt hb lc1) (by omega)
  have R1 : Hid (Calls Tryz.prog 102 #[.int .u32 a, .int .u32 b, .int .u32 d, .int .i64 16] w fun e w' => e = .returned (.tuple #[.int .u32 a1, .int .u32 d1]) ∧ w' = w) := by rw [hd1]; exact addTurn_any a b d a1 16 (by decide) ha1.symm hd w
  have R2 : Hid (Calls Tryz.prog 102 #[.int .u32 c, .int .u32 d1, .int .u32 b, .int .i64 12] w fun e w' => e = .returned (.tuple #[.int .u32 c1, .int .u32 b1]) ∧ w' = w) := by rw [hb1]; exact addTurn_any c d1 b c1 12 (by decide) hc1.symm hb w
  have R3 : Hid (Calls Tryz.prog 102 #[.int .u32 a1, .int .u32 b1, .int .u32 d1, .int .i64 8] w fun e w' => e = .returned (.tuple #[.int .u32 a2, .int .u32 d2]) ∧ w' = w) := by rw [hd2]; exact addTurn_any a1 b1 d1 a2 8 (by decide) ha2.symm ld1 w
  have R4 : Hid (Calls Tryz.prog 102 #[.int .u32 c1, .int .u32 d2, .int .u32 b1, .int .i64 7] w fun e w' => e = .returned (.tuple #[.int .u32 c2, .int .u32 b2]) ∧ w' = w) := by rw [hb2]; exact addTurn_any c1 d2 b1 c2 7 (by decide) hc2.symm lb1 w
  clear ha1 hd1 hc1 hb1 ha2 hd2 hc2 hb2 la1 ld1 lc1 lb1 m hb hd _ha _hc
  rw [HQ.out]
  go_enter Tryz.func99, Tryz.ntmps99
  go_wp2_with (first
    | (go_at_call 102; have r1 := R1.out; clear R1; refine r1.mono ?_; clear r1; rintro e w1 ⟨rfl, hw1⟩; obtain rfl : w = w1 := hw1.symm; clear hw1)
    | (go_at_call 102; have r2 := R2.out; clear R2; refine r2.mono ?_; clear r2; rintro e w2 ⟨rfl, hw2⟩; obtain rfl : w = w2 := hw2.symm; clear hw2)
    | (go_at_call 102; have r3 := R3.out; clear R3; refine r3.mono ?_; clear r3; rintro e w3 ⟨rfl, hw3⟩; obtain rfl : w = w3 := hw3.symm; clear hw3)
    | (go_at_call 102; have r4 := R4.out; clear R4; refine r4.mono ?_; clear r4; rintro e w4 ⟨rfl, hw4⟩; obtain rfl : w = w4 := hw4.symm; clear hw4))
  refine bodyPost_ret (results_tmp4 rfl _ _ _) rfl ?_
  exact ⟨rfl, rfl⟩

end Go.Proofs.YtclelancbfoenaaGreatDoor.Re
