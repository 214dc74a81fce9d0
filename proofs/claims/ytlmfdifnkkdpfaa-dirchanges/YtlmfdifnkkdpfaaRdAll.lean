/-
  Several texts in one: NumAt, Rd, Rd2, Rd3.
-/
import Derived.Test.YtlmfdifnkkdpfaaWrAll
import Derived.Laws.Bits64b
import Derived.Laws.BitsAllLaws
/-
  What codec.numberAt answers: the number that bytes begin with, and in how many of them it stands; noughts, if they begin with none.
-/
namespace Go.Proofs.Ytlmfdifnkkdpfaa
open Go.RowKit

/-- The number and how many bytes. -/
def numR (zs : List Nat) : Nat × Nat := (numL zs 0 0).getD (0, 0)

theorem num_bound {c k : Nat} (h : c < 128 ∧ k ≤ 8 ∨ c ≤ 1 ∧ k ≤ 9) : c * 2 ^ (7 * k) < 18446744073709551616 := by
  rcases h with ⟨hc, hk⟩ | ⟨hc, hk⟩
  · exact Nat.lt_of_le_of_lt (Nat.mul_le_mul (show c ≤ 127 by omega) (Nat.pow_le_pow_right (show 0 < 2 by decide) (show 7 * k ≤ 56 by omega))) (by decide)
  · exact Nat.lt_of_le_of_lt (Nat.mul_le_mul hc (Nat.pow_le_pow_right (show 0 < 2 by decide) (show 7 * k ≤ 63 by omega))) (by decide)
theorem num_less {c k x : Nat} (hx : x < 2 ^ (7 * k)) (hc : c < 128) : x + c * 2 ^ (7 * k) < 2 ^ (7 * (k + 1)) := by
  rw [pow7]
  have : (c + 1) * 2 ^ (7 * k) ≤ 128 * 2 ^ (7 * k) := Nat.mul_le_mul_right _ (by omega)
  rw [Nat.add_mul] at this
  omega
theorem num_join {c k x : Nat} (hx : x < 2 ^ (7 * k)) (h : c < 128 ∧ k ≤ 8 ∨ c ≤ 1 ∧ k ≤ 9) : bits .or .u64 (x : Int) (IntKind.u64.wrap ((c : Int) * 2 ^ (7 * k))) = ((x + c * 2 ^ (7 * k) : Nat) : Int) := by
  have hb := num_bound h
  have hx64 : x < 18446744073709551616 := Nat.lt_of_lt_of_le hx (Nat.le_trans (Nat.pow_le_pow_right (show 0 < 2 by decide) (show 7 * k ≤ 63 by omega)) (by decide))
  have e : IntKind.u64.wrap ((c : Int) * 2 ^ (7 * k)) = ((c * 2 ^ (7 * k) : Nat) : Int) := by
    rw [show (c : Int) * 2 ^ (7 * k) = ((c * 2 ^ (7 * k) : Nat) : Int) by push_cast; rfl, IntKind.wrap_u64]
    omega
  rw [e, bits_or_u64_nat _ _ hx64 hb, Nat.or_comm, Nat.mul_comm c, ← Nat.two_pow_add_eq_or_of_lt hx, Nat.add_comm]

set_option maxRecDepth 100000 in
set_option maxHeartbeats 2000000 in
theorem numberAt_any (p : Option Addr) (len cap : Nat) (zs : List Nat) (w : World) (hI : IsBytes w.heap.size w p len cap zs) :
    Calls Try.prog 70 #[.slice p len cap] w fun e w' => e = .returned (.tuple #[.int .u64 ((numR zs).1 : Nat), .int .i64 ((numR zs).2 : Nat)]) ∧ w' = w := by
  have HI : Hid (IsBytes w.heap.size w p len cap zs) := hI
  have HL : Hid (zs.length = len) := hI.1
  have hl63 : len ≤ 9223372036854775807 := by have := hI.2.1; have := hI.2.2.1; omega
  clear hI
  go_enter Try.func70, Try.ntmps70
  go_wp2
  go_step3
  go_wp2
  go_step3
  go_wp2
  go_loop [4, 9] (fun y i => ∃ (k x : Nat), k ≤ len ∧ k ≤ 9 ∧ i = .int .i64 k ∧ y = .int .u64 x ∧ x < 2 ^ (7 * k) ∧ numL zs 0 0 = numL (zs.drop k) k x) (fun _ i => len - (intOf i).toNat)
  case atStart => exact ⟨0, 0, Nat.zero_le _, by omega, rfl, rfl, by simp, rfl⟩
  case round =>
    obtain ⟨k, x, hk, hk9, rfl, rfl, hx, he⟩ := hrel
    have HX : Hid (x < 2 ^ (7 * k)) := hx
    have HE : Hid (numL zs 0 0 = numL (zs.drop k) k x) := he
    clear hx he
    by_cases hlt : k < len
    · have hki : (k : Int) < (len : Int) := by omega
      obtain ⟨b, off, rfl, hb, hcell⟩ : ∃ b off, p = some ⟨b, off, none⟩ ∧ b < w.heap.size ∧ ∀ i, i < len → w.cell? ⟨b, off + i, none⟩ = some (.int .u8 (zs.getD i 0 : Nat)) := by
        rcases HI.out.2.2.2.2 with h | h
        · omega
        · exact h
      have hc1 := hcell k hlt
      have HZ : Hid (zs.getD k 0 < 256) := getD_of_all HI.out.2.2.2.1 k
      have HD : Hid (zs.drop k = zs.getD k 0 :: zs.drop (k + 1)) := by
        show _ = _
        have hkl : k < zs.length := by rw [HL.out]; exact hlt
        rw [List.drop_eq_getElem_cons hkl]
        simp [List.getElem?_eq_getElem hkl]
      generalize zs.getD k 0 = c at *
      clear hcell
      by_cases h9 : k = 9
      · subst h9
        by_cases h1 : 1 < c
        · have h1b : (1 : Int) < (c : Int) := by omega
          go_wp2
          refine bodyPost_ret (results_tmp2 rfl _ _ _) rfl ?_
          rw [numR, HE.out, HD.out, numL_over _ _ ⟨rfl, h1⟩]
          exact ⟨rfl, rfl⟩
        · have h1b : ¬ (1 : Int) < (c : Int) := by omega
          by_cases h0 : c = 0
          · subst h0
            go_wp2
            refine bodyPost_ret (results_tmp2 rfl _ _ _) rfl ?_
            rw [numR, HE.out, HD.out, numL_nought _ _ (by omega) (by omega)]
            exact ⟨rfl, rfl⟩
          · obtain rfl : c = 1 := by omega
            go_wp2
            refine bodyPost_ret (results_tmp2 rfl _ _ _) rfl ?_
            have hj : bits .or .u64 (x : Int) 9223372036854775808 = ((x + 1 * 2 ^ (7 * 9) : Nat) : Int) := by
              rw [← num_join (c := 1) HX.out (.inr ⟨Nat.le_refl _, Nat.le_refl _⟩), show IntKind.u64.wrap (((1 : Nat) : Int) * 2 ^ (7 * 9)) = 9223372036854775808 by decide +kernel]
            rw [numR, HE.out, HD.out, numL_last _ _ (by omega) (by omega) (by omega), hj]
            exact ⟨rfl, rfl⟩
      · have h9i : ¬ (k : Int) = 9 := by omega
        by_cases h0 : 0 < k ∧ c = 0
        · obtain ⟨h0k, rfl⟩ := h0
          have h0i : (0 : Int) < (k : Int) := by omega
          go_wp2
          refine bodyPost_ret (results_tmp2 rfl _ _ _) rfl ?_
          rw [numR, HE.out, HD.out, numL_nought _ _ (by omega) ⟨h0k, rfl⟩]
          exact ⟨rfl, rfl⟩
        · by_cases hc : c < 128
          · have hci : (c : Int) < 128 := by omega
            have HJ : Hid (bits .or .u64 (x : Int) (IntKind.u64.wrap ((c : Int) * 2 ^ (7 * k))) = ((x + c * 2 ^ (7 * k) : Nat) : Int)) := num_join HX.out (.inl ⟨hc, by omega⟩)
            have HEnd : Hid (numR zs = (x + c * 2 ^ (7 * k), k + 1)) := by
              show _ = _
              rw [numR, HE.out, HD.out, numL_last _ _ (by omega) h0 hc]
              rfl
            by_cases hk0 : k = 0
            · have h0i : ¬ (0 : Int) < (k : Int) := by omega
              clear hk0
              go_wp2
              refine bodyPost_ret (results_tmp2 rfl _ _ _) rfl ?_
              rw [HJ.out, HEnd.out]
              exact ⟨rfl, rfl⟩
            · have h0i : (0 : Int) < (k : Int) := by omega
              have h0c : ¬ (c : Int) = 0 := by omega
              go_wp2
              refine bodyPost_ret (results_tmp2 rfl _ _ _) rfl ?_
              rw [HJ.out, HEnd.out]
              exact ⟨rfl, rfl⟩
          · obtain ⟨d, rfl⟩ : ∃ d, c = d + 128 := ⟨c - 128, by omega⟩
            have hci : ¬ ((d + 128 : Nat) : Int) < 128 := by omega
            have hc0 : ¬ ((d + 128 : Nat) : Int) = 0 := by omega
            have hdm : (d : Int) % 256 = (d : Int) := by have := HZ.out; omega
            have HJ : Hid (bits .or .u64 (x : Int) (IntKind.u64.wrap ((d : Int) * 2 ^ (7 * k))) = ((x + d * 2 ^ (7 * k) : Nat) : Int)) := num_join HX.out (.inl ⟨by have := HZ.out; omega, by omega⟩)
            have HEnd : Hid (numL zs 0 0 = numL (zs.drop (k + 1)) (k + 1) (x + d * 2 ^ (7 * k))) := by
              show _ = _
              rw [HE.out, HD.out, numL_more _ _ (by omega) hc, Nat.add_sub_cancel]
            by_cases hk0 : (0 : Int) < (k : Int)
            all_goals
              go_wp2
              go_roundw
              case rel =>
                exact ⟨k + 1, x + d * 2 ^ (7 * k), by omega, by omega, by go_num, by rw [HJ.out], num_less HX.out (by have := HZ.out; omega), HEnd.out⟩
              case measure => simp [intOf]; omega
    · obtain rfl : k = len := by omega
      go_wp2
      refine bodyPost_ret (results_tmp2 rfl _ _ _) rfl ?_
      rw [numR, HE.out, List.drop_of_length_le (by rw [HL.out]; exact Nat.le_refl _), numL_nil]
      exact ⟨rfl, rfl⟩
end Go.Proofs.Ytlmfdifnkkdpfaa
/-
  A reader in memory, and what its calls answer and leave. Nothing that lay before a call has turned but the reader.
-/
namespace Go.Proofs.Ytlmfdifnkkdpfaa
open Go.RowKit

/-- Block B is a reader: it has failed, or it has these bytes ahead, which lie in a block before it. -/
def RdAt (W : World) (B : Nat) : Option (List Nat) → Prop
  | none => Row W B 98 [.bool false, .slice none 0 0]
  | some zs => ∃ q len cap, Row W B 98 [.bool true, .slice q len cap] ∧ IsBytes B W q len cap zs ∧ len ≤ 60000
theorem RdAt.lt {W : World} {B : Nat} : ∀ {st : Option (List Nat)}, RdAt W B st → B < W.heap.size
  | none, h => Row.lt h
  | some _, ⟨_, _, _, h, _⟩ => h.lt
theorem RdAt.below {W W' : World} {n B : Nat} (hb : Below n W W') (hn : B < n) : ∀ {st : Option (List Nat)}, RdAt W B st → RdAt W' B st
  | none, h => Row.below h hb hn
  | some _, ⟨q, len, cap, h1, h2, h3⟩ => ⟨q, len, cap, h1.below hb hn, h2.below (hb.mono (by omega)), h3⟩
theorem RdAt.later {W W' : World} {B : Nat} {st : Option (List Nat)} (h : RdAt W B st) (hb : Below W.heap.size W W') : RdAt W' B st := h.below hb h.lt
theorem RdAt.but {W W' : World} {B B' : Nat} {st : Option (List Nat)} (h : RdAt W B st) (hb : But B' W.heap.size W W') (hB : B < B') : RdAt W' B st :=
  h.below (hb.below (m := B + 1) h.lt hB) (by omega)
theorem RdAt.fail {W W2 : World} {B : Nat} {a b : Value} (h : Row W2 B 98 [a, b]) (hb : But B W.heap.size W W2) :
    RdAt ((W2.setCell ⟨B, 0, none⟩ (.bool false)).setCell ⟨B, 1, none⟩ (.slice none 0 0)) B none ∧ But B W.heap.size W ((W2.setCell ⟨B, 0, none⟩ (.bool false)).setCell ⟨B, 1, none⟩ (.slice none 0 0)) :=
  ⟨(h.set (i := 0) _).set (i := 1) _, (hb.trans (But.set 0 _)).trans (But.set 1 _)⟩
/-- Some bytes were read. -/
theorem RdAt.cut {w w2 : World} {B : Nat} {q q2 : Option Addr} {len cap s c2 : Nat} {zs : List Nat} (hr : Row w B 98 [.bool true, .slice q len cap]) (hI : IsBytes B w q len cap zs) (hl : len ≤ 60000) (hs : s ≤ len) (hc : c2 + s = cap)
    (hq : 0 < len - s → ∃ b off, q = some ⟨b, off, none⟩ ∧ q2 = some ⟨b, off + s, none⟩) (hb : Below w.heap.size w w2) :
    RdAt (w2.setCell ⟨B, 1, none⟩ (.slice q2 (len - s) c2)) B (some (zs.drop s)) ∧ But B w.heap.size w (w2.setCell ⟨B, 1, none⟩ (.slice q2 (len - s) c2)) := by
  have hbut : But B w2.heap.size w2 (w2.setCell ⟨B, 1, none⟩ (.slice q2 (len - s) c2)) := But.set 1 _
  have hIr : IsBytes B w q2 (len - s) c2 (zs.drop s) := hI.rest (by omega) hc hq
  have hBl := hr.lt
  have hsz := hb.size
  exact ⟨⟨q2, len - s, c2, (hr.later hb).set (i := 1) _, (hIr.below (hb.mono (by omega))).below (hbut.below (by omega) (Nat.le_refl _)), by omega⟩, (But.of_below hb (Nat.le_refl _)).trans (hbut.mono hsz)⟩
/-- Where the bytes lie. -/
theorem bytes_at {n₀ : Nat} {W : World} {q : Option Addr} {len cap : Nat} {zs : List Nat} (h : IsBytes n₀ W q len cap zs) : len = 0 ∨ ∃ b off, q = some ⟨b, off, none⟩ ∧ b < n₀ := by
  rcases h.2.2.2.2 with h | ⟨b, off, h, hb, _⟩
  · exact .inl h
  · exact .inr ⟨b, off, h, hb⟩

set_option maxHeartbeats 600000 in
/-- failed -/
theorem failed_any (B : Nat) (st : Option (List Nat)) (w : World) (h : RdAt w B st) :
    Calls Try.prog 69 #[.pointer (some ⟨B, 0, none⟩)] w fun e w' => e = .returned (.bool st.isNone) ∧ w' = w := by
  cases st with
  | none =>
    have h : Row w B 98 [.bool false, .slice none 0 0] := h
    have c0 := h.cell (i := 0) rfl
    clear h
    go_enter Try.func69, Try.ntmps69
    go_wp2
    go_ret
    exact ⟨rfl, rfl⟩
  | some zs =>
    obtain ⟨q, len, cap, hr, hI, hl⟩ := h
    have c0 := hr.cell (i := 0) rfl
    clear hr hI
    go_enter Try.func69, Try.ntmps69
    go_wp2
    go_ret
    exact ⟨rfl, rfl⟩
theorem failed_none (w : World) : Calls Try.prog 69 #[.pointer none] w fun e w' => e = .returned (.bool true) ∧ w' = w := by
  go_enter Try.func69, Try.ntmps69
  go_wp2
  go_ret
  exact ⟨rfl, rfl⟩

set_option maxHeartbeats 600000 in
/-- fail -/
theorem fail_any (B : Nat) (st : Option (List Nat)) (w : World) (h : RdAt w B st) :
    Calls Try.prog 71 #[.pointer (some ⟨B, 0, none⟩)] w fun e w' => (∃ v, e = .returned v) ∧ RdAt w' B none ∧ But B w.heap.size w w' := by
  obtain ⟨a, b, hr, ha, hb⟩ : ∃ a b, Row w B 98 [.bool a, b] ∧ w.cell? ⟨B, 0, none⟩ = some (.bool a) ∧ ∃ q l c, b = .slice q l c := by
    cases st with
    | none => exact ⟨_, _, h, Row.cell h (i := 0) rfl, _, _, _, rfl⟩
    | some zs =>
      obtain ⟨q, len, cap, hr, hI, hl⟩ := h
      exact ⟨_, _, hr, hr.cell (i := 0) rfl, _, _, _, rfl⟩
  obtain ⟨q, l, c, rfl⟩ := hb
  have hr1 := hr.set (i := 0) (.bool false)
  have c1 := hr1.cell (i := 1) rfl
  have f0 := hr.frozen 0
  have f1 := hr1.frozen 1
  have HE := RdAt.fail hr (But.refl _ _ _)
  clear hr hr1 h
  go_enter Try.func71, Try.ntmps71
  go_wp2
  go_end0
  exact ⟨⟨_, rfl⟩, HE.1, HE.2⟩
theorem fail_none (w : World) : Calls Try.prog 71 #[.pointer none] w fun e w' => (∃ v, e = .returned v) ∧ w' = w := by
  go_enter Try.func71, Try.ntmps71
  go_wp2
  go_end0
  exact ⟨⟨_, rfl⟩, rfl⟩

set_option maxHeartbeats 600000 in
/-- Read -/
theorem read_any (p : Option Addr) (len cap : Nat) (zs : List Nat) (hlen : len ≤ 60000) (w : World) (hI : IsBytes w.heap.size w p len cap zs) :
    Calls Try.prog 41 #[.slice p len cap] w fun e w' => ∃ B, e = .returned (.pointer (some ⟨B, 0, none⟩)) ∧ w.heap.size ≤ B ∧ RdAt w' B (some zs) ∧ Below w.heap.size w w' := by
  have HI : Hid (IsBytes w.heap.size w p len cap zs) := hI
  clear hI
  go_enter Try.func41, Try.ntmps41
  go_wp2_with (go_at_call 67; refine (own_any p len cap zs (by omega) _ HI.out).mono ?_; rintro e w1 ⟨rfl, hown1, hs1, hb1⟩)
  go_ret
  exact ⟨w1.heap.size, rfl, hb1.size, ⟨_, _, _, Row.new w1 98 _, (hown1.bytes HI.out.2.2.2.1).below ((Below.refl _ w1).alloc (Nat.le_refl _) _), hlen⟩, hb1.alloc hb1.size _⟩

set_option maxHeartbeats 600000 in
/-- End -/
theorem end_any (B : Nat) (st : Option (List Nat)) (w : World) (h : RdAt w B st) :
    Calls Try.prog 44 #[.pointer (some ⟨B, 0, none⟩)] w fun e w' => e = .returned (.int .i64 (endE st)) ∧ w' = w := by
  have HF : Hid (Calls Try.prog 69 #[.pointer (some ⟨B, 0, none⟩)] w fun e w' => e = .returned (.bool st.isNone) ∧ w' = w) := failed_any B st w h
  cases st with
  | none =>
    go_enter Try.func44, Try.ntmps44
    go_wp2_with (go_at_call 69; refine HF.out.mono ?_; rintro e w1 ⟨rfl, hw1⟩; obtain rfl : w = w1 := hw1.symm; clear hw1; rw [Option.isNone_none])
    go_ret
    exact ⟨rfl, rfl⟩
  | some zs =>
    obtain ⟨q, len, cap, hr, hI, hl⟩ := h
    have c1 := hr.cell (i := 1) rfl
    have hl1 := hI.1
    clear hr hI
    by_cases h0 : 0 < len
    · have h0i : (0 : Int) < (len : Int) := by omega
      go_enter Try.func44, Try.ntmps44
      go_wp2_with (go_at_call 69; refine HF.out.mono ?_; rintro e w1 ⟨rfl, hw1⟩; obtain rfl : w = w1 := hw1.symm; clear hw1; rw [Option.isNone_some])
      go_ret
      exact ⟨by rw [endE, hl1, if_pos h0]; rfl, rfl⟩
    · have h0i : ¬ (0 : Int) < (len : Int) := by omega
      go_enter Try.func44, Try.ntmps44
      go_wp2_with (go_at_call 69; refine HF.out.mono ?_; rintro e w1 ⟨rfl, hw1⟩; obtain rfl : w = w1 := hw1.symm; clear hw1; rw [Option.isNone_some])
      go_ret
      exact ⟨by rw [endE, hl1, if_neg h0]; rfl, rfl⟩
theorem end_none (w : World) : Calls Try.prog 44 #[.pointer none] w fun e w' => e = .returned (.int .i64 80) ∧ w' = w := by
  go_enter Try.func44, Try.ntmps44
  go_wp2_with (go_at_call 69; refine (failed_none w).mono ?_; rintro e w1 ⟨rfl, hw1⟩; obtain rfl : w = w1 := hw1.symm; clear hw1)
  go_ret
  exact ⟨rfl, rfl⟩
end Go.Proofs.Ytlmfdifnkkdpfaa
/-
  What a reader's N, Raw and Text answer and leave.
-/
namespace Go.Proofs.Ytlmfdifnkkdpfaa
open Go.RowKit

theorem numR_none {zs : List Nat} (h : numL zs 0 0 = none) : numR zs = (0, 0) := by rw [numR, h]; rfl
theorem readN_over {most x s : Nat} {zs : List Nat} (h : numL zs 0 0 = some (x, s)) (hm : most < x) : readN most (some zs) = (0, none) := by simp [readN, h, hm]
theorem readN_some {most x s : Nat} {zs : List Nat} (h : numL zs 0 0 = some (x, s)) (hm : ¬ most < x) : readN most (some zs) = (x, some (zs.drop s)) := by simp [readN, h, hm]
theorem readN_bad {most : Nat} {zs : List Nat} (h : numL zs 0 0 = none) : readN most (some zs) = (0, none) := by simp [readN, h]
theorem readRaw_in {s : Nat} {zs : List Nat} (h : s ≤ zs.length) : readRaw (s : Int) (some zs) = (zs.take s, some (zs.drop s)) := by
  have h1 : ¬ ((s : Int) < 0 ∨ (zs.length : Int) < (s : Int)) := by omega
  simp only [readRaw, if_neg h1, Int.toNat_natCast]
theorem numR_some {zs : List Nat} {x : Nat × Nat} (h : numL zs 0 0 = some x) : numR zs = x := by rw [numR, h]; rfl

set_option maxRecDepth 100000 in
set_option maxHeartbeats 1000000 in
/-- N -/
theorem readerN_any (B : Nat) (st : Option (List Nat)) (most : Nat) (_hmost : most < 18446744073709551616) (w : World) (h : RdAt w B st) :
    Calls Try.prog 42 #[.pointer (some ⟨B, 0, none⟩), .int .u64 (most : Nat)] w fun e w' => e = .returned (.int .u64 ((readN most st).1 : Nat)) ∧ RdAt w' B (readN most st).2 ∧ But B w.heap.size w w' := by
  have HF : Hid (Calls Try.prog 69 #[.pointer (some ⟨B, 0, none⟩)] w fun e w' => e = .returned (.bool st.isNone) ∧ w' = w) := failed_any B st w h
  have HFl : Hid (Calls Try.prog 71 #[.pointer (some ⟨B, 0, none⟩)] w fun e w' => (∃ v, e = .returned v) ∧ RdAt w' B none ∧ But B w.heap.size w w') := fail_any B st w h
  cases st with
  | none =>
    have H : Hid (RdAt w B none) := h
    clear h
    go_enter Try.func42, Try.ntmps42
    go_wp2_with (go_at_call 69; refine HF.out.mono ?_; rintro e w1 ⟨rfl, hw1⟩; obtain rfl : w = w1 := hw1.symm; clear hw1; rw [Option.isNone_none])
    go_ret
    exact ⟨rfl, H.out, But.refl _ _ _⟩
  | some zs =>
    obtain ⟨q, len, cap, hr, hI, hl⟩ := h
    have c1 := hr.cell (i := 1) rfl
    have f1 := hr.frozen 1
    have hBl := hr.lt
    have HNum : Hid (Calls Try.prog 70 #[.slice q len cap] w fun e w' => e = .returned (.tuple #[.int .u64 ((numR zs).1 : Nat), .int .i64 ((numR zs).2 : Nat)]) ∧ w' = w) := numberAt_any q len cap zs w (hI.mono (by omega))
    cases hn : numL zs 0 0 with
    | none =>
      rw [numR_none hn] at HNum
      dsimp only at HNum
      have HR : Hid (readN most (some zs) = (0, none)) := readN_bad hn
      clear hr hI hn
      rw [HR.out]
      go_enter Try.func42, Try.ntmps42
      go_wp2_with (first
        | (go_at_call 69; refine HF.out.mono ?_; rintro e w1 ⟨rfl, hw1⟩; obtain rfl : w = w1 := hw1.symm; clear hw1; rw [Option.isNone_some])
        | (go_at_call 70; refine HNum.out.mono ?_; rintro e w1 ⟨rfl, hw1⟩; obtain rfl : w = w1 := hw1.symm; clear hw1)
        | (go_at_call 71; refine HFl.out.mono ?_; rintro e w1 ⟨⟨v1, rfl⟩, hR1, hb1⟩))
      go_ret
      exact ⟨rfl, hR1, hb1⟩
    | some ys =>
      obtain ⟨x, s⟩ := ys
      rw [numR_some hn] at HNum
      dsimp only at HNum
      obtain ⟨hs0, hsl, hx64, _⟩ := numL_size hI.2.2.2.1 hn
      rw [hI.1] at hsl
      have hs0i : ¬ (s : Int) = 0 := by omega
      by_cases hm : most < x
      · have HR : Hid (readN most (some zs) = (0, none)) := readN_over hn hm
        have hmi : (most : Int) < (x : Int) := by omega
        clear hr hI hn
        rw [HR.out]
        go_enter Try.func42, Try.ntmps42
        go_wp2_with (first
          | (go_at_call 69; refine HF.out.mono ?_; rintro e w1 ⟨rfl, hw1⟩; obtain rfl : w = w1 := hw1.symm; clear hw1; rw [Option.isNone_some])
          | (go_at_call 70; refine HNum.out.mono ?_; rintro e w1 ⟨rfl, hw1⟩; obtain rfl : w = w1 := hw1.symm; clear hw1)
          | (go_at_call 71; refine HFl.out.mono ?_; rintro e w1 ⟨⟨v1, rfl⟩, hR1, hb1⟩))
        go_ret
        exact ⟨rfl, hR1, hb1⟩
      · have HR : Hid (readN most (some zs) = (x, some (zs.drop s))) := readN_some hn hm
        have hmi : ¬ (most : Int) < (x : Int) := by omega
        have hsi : (s : Int) ≤ (len : Int) := by omega
        have hlc := hI.2.1
        have hcc := hI.2.2.1
        obtain ⟨b, off, rfl, hbB⟩ : ∃ b off, q = some ⟨b, off, none⟩ ∧ b < B := (bytes_at hI).resolve_left (by omega)
        have HEnd : Hid (∀ q2 c2, c2 + s = cap → (0 < len - s → q2 = some ⟨b, off + s, none⟩) → RdAt (w.setCell ⟨B, 1, none⟩ (.slice q2 (len - s) c2)) B (some (zs.drop s)) ∧ But B w.heap.size w (w.setCell ⟨B, 1, none⟩ (.slice q2 (len - s) c2))) := fun q2 c2 h1 h2 => RdAt.cut hr hI hl hsl h1 (fun h => ⟨b, off, rfl, h2 h⟩) (Below.refl _ _)
        clear hr hI hn
        rw [HR.out]
        by_cases hcn : cap = s
        · obtain rfl : len = s := by omega
          obtain rfl : cap = len := hcn
          have hE := HEnd.out (some ⟨b, off, none⟩) 0 (by omega) (by omega)
          rw [Nat.sub_self] at hE
          go_enter Try.func42, Try.ntmps42
          go_wp2_with (first
            | (go_at_call 69; refine HF.out.mono ?_; rintro e w1 ⟨rfl, hw1⟩; obtain rfl : w = w1 := hw1.symm; clear hw1; rw [Option.isNone_some])
            | (go_at_call 70; refine HNum.out.mono ?_; rintro e w1 ⟨rfl, hw1⟩; obtain rfl : w = w1 := hw1.symm; clear hw1))
          go_ret
          exact ⟨rfl, hE⟩
        · have hcn' : (cap = s) = False := eq_false hcn
          go_enter Try.func42, Try.ntmps42
          go_wp2_with (first
            | (go_at_call 69; refine HF.out.mono ?_; rintro e w1 ⟨rfl, hw1⟩; obtain rfl : w = w1 := hw1.symm; clear hw1; rw [Option.isNone_some])
            | (go_at_call 70; refine HNum.out.mono ?_; rintro e w1 ⟨rfl, hw1⟩; obtain rfl : w = w1 := hw1.symm; clear hw1))
          go_ret
          exact ⟨rfl, HEnd.out _ _ (by omega) (fun _ => rfl)⟩
theorem readerN_none (v : Value) (w : World) : Calls Try.prog 42 #[.pointer none, v] w fun e w' => e = .returned (.int .u64 0) ∧ w' = w := by
  go_enter Try.func42, Try.ntmps42
  go_wp2_with (go_at_call 69; refine (failed_none w).mono ?_; rintro e w1 ⟨rfl, hw1⟩; obtain rfl : w = w1 := hw1.symm; clear hw1)
  go_ret
  exact ⟨rfl, rfl⟩

set_option maxRecDepth 100000 in
set_option maxHeartbeats 1000000 in
/-- Raw -/
theorem readerRaw_any (B : Nat) (st : Option (List Nat)) (z : Int) (w : World) (h : RdAt w B st) :
    Calls Try.prog 88 #[.pointer (some ⟨B, 0, none⟩), .int .i64 z] w fun e w' => ∃ v, e = .returned v ∧ Own w.heap.size w' v (readRaw z st).1 ∧ RdAt w' B (readRaw z st).2 ∧ But B w.heap.size w w' := by
  have HF : Hid (Calls Try.prog 69 #[.pointer (some ⟨B, 0, none⟩)] w fun e w' => e = .returned (.bool st.isNone) ∧ w' = w) := failed_any B st w h
  have HFl : Hid (Calls Try.prog 71 #[.pointer (some ⟨B, 0, none⟩)] w fun e w' => (∃ v, e = .returned v) ∧ RdAt w' B none ∧ But B w.heap.size w w') := fail_any B st w h
  cases st with
  | none =>
    have H : Hid (RdAt w B none) := h
    clear h
    go_enter Try.func88, Try.ntmps88
    go_wp2_with (go_at_call 69; refine HF.out.mono ?_; rintro e w1 ⟨rfl, hw1⟩; obtain rfl : w = w1 := hw1.symm; clear hw1; rw [Option.isNone_none])
    go_ret
    exact ⟨_, rfl, Own.nil _ _, H.out, But.refl _ _ _⟩
  | some zs =>
    obtain ⟨q, len, cap, hr, hI, hl⟩ := h
    have c1 := hr.cell (i := 1) rfl
    have hBl := hr.lt
    by_cases hz : z < 0
    · have HR : Hid (readRaw z (some zs) = ([], none)) := if_pos (.inl hz)
      clear hr hI
      rw [HR.out]
      go_enter Try.func88, Try.ntmps88
      go_wp2_with (first
        | (go_at_call 69; refine HF.out.mono ?_; rintro e w1 ⟨rfl, hw1⟩; obtain rfl : w = w1 := hw1.symm; clear hw1; rw [Option.isNone_some])
        | (go_at_call 71; refine HFl.out.mono ?_; rintro e w1 ⟨⟨v1, rfl⟩, hR1, hb1⟩))
      go_ret
      exact ⟨_, rfl, Own.nil _ _, hR1, hb1⟩
    · by_cases hn : (len : Int) < z
      · have HR : Hid (readRaw z (some zs) = ([], none)) := if_pos (.inr (by rw [hI.1]; exact hn))
        clear hr hI
        rw [HR.out]
        go_enter Try.func88, Try.ntmps88
        go_wp2_with (first
          | (go_at_call 69; refine HF.out.mono ?_; rintro e w1 ⟨rfl, hw1⟩; obtain rfl : w = w1 := hw1.symm; clear hw1; rw [Option.isNone_some])
          | (go_at_call 71; refine HFl.out.mono ?_; rintro e w1 ⟨⟨v1, rfl⟩, hR1, hb1⟩))
        go_ret
        exact ⟨_, rfl, Own.nil _ _, hR1, hb1⟩
      · obtain ⟨s, rfl⟩ : ∃ s : Nat, z = (s : Int) := ⟨z.toNat, by omega⟩
        have hsl : s ≤ len := by omega
        have HR : Hid (readRaw s (some zs) = (zs.take s, some (zs.drop s))) := readRaw_in (by rw [hI.1]; exact hsl)
        have hlc := hI.2.1
        have hcc := hI.2.2.1
        have hsc : s ≤ cap := by omega
        have HOw : Hid (∀ c, s ≤ c → c ≤ cap → Calls Try.prog 67 #[.slice q s c] w fun e w' => e = .returned (.slice (some ⟨w.heap.size, 0, none⟩) s s) ∧ Own w.heap.size w' (.slice (some ⟨w.heap.size, 0, none⟩) s s) (zs.take s) ∧ w.heap.size < w'.heap.size ∧ Below w.heap.size w w') := fun c h1 h2 => own_any q s c (zs.take s) (by omega) w ((hI.head hsl h1 h2).mono (by omega))
        have HEnd : Hid (∀ w2 v ts, Below w.heap.size w w2 → Own w.heap.size w2 v ts → ∀ q2 c2, c2 + s = cap → (0 < len - s → ∃ b off, q = some ⟨b, off, none⟩ ∧ q2 = some ⟨b, off + s, none⟩) → Own w.heap.size (w2.setCell ⟨B, 1, none⟩ (.slice q2 (len - s) c2)) v ts ∧ RdAt (w2.setCell ⟨B, 1, none⟩ (.slice q2 (len - s) c2)) B (some (zs.drop s)) ∧ But B w.heap.size w (w2.setCell ⟨B, 1, none⟩ (.slice q2 (len - s) c2))) := fun w2 v ts hb ho q2 c2 h1 h2 => ⟨ho.but (But.set 1 _) hBl, RdAt.cut hr hI hl hsl h1 h2 hb⟩
        have fz := fun (w2 : World) (hb : Below w.heap.size w w2) => (hr.later hb).frozen 1
        have cc := fun (w2 : World) (hb : Below w.heap.size w w2) => (hr.later hb).cell (i := 1) rfl
        have hq := bytes_at hI
        clear hr hI
        rw [HR.out]
        rcases hq with h0 | ⟨b, off, rfl, hbB⟩
        · subst h0
          obtain rfl : s = 0 := by omega
          cases q
          all_goals
            go_enter Try.func88, Try.ntmps88
            go_wp2_with (first
              | (go_at_call 69; refine HF.out.mono ?_; rintro e w1 ⟨rfl, hw1⟩; obtain rfl : w = w1 := hw1.symm; clear hw1; rw [Option.isNone_some])
              | (go_at_call 67; refine (HOw.out _ (by omega) (by omega)).mono ?_; rintro e w2 ⟨rfl, hown2, _, hb2⟩; have fz2 := fz w2 hb2; have cc2 := cc w2 hb2; clear fz cc))
            go_ret
            exact ⟨_, rfl, HEnd.out w2 _ _ hb2 hown2 _ cap (by omega) (by omega)⟩
        · by_cases hcn : cap = s
          · obtain rfl : len = s := by omega
            obtain rfl : cap = len := hcn
            go_enter Try.func88, Try.ntmps88
            go_wp2_with (first
              | (go_at_call 69; refine HF.out.mono ?_; rintro e w1 ⟨rfl, hw1⟩; obtain rfl : w = w1 := hw1.symm; clear hw1; rw [Option.isNone_some])
              | (go_at_call 67; refine (HOw.out _ (by omega) (by omega)).mono ?_; rintro e w2 ⟨rfl, hown2, _, hb2⟩; have fz2 := fz w2 hb2; have cc2 := cc w2 hb2; clear fz cc))
            go_ret
            have hE := HEnd.out w2 _ _ hb2 hown2 (some ⟨b, off, none⟩) 0 (by omega) (by omega)
            rw [Nat.sub_self] at hE
            exact ⟨_, rfl, hE⟩
          · have hcn' : (cap = s) = False := eq_false hcn
            go_enter Try.func88, Try.ntmps88
            go_wp2_with (first
              | (go_at_call 69; refine HF.out.mono ?_; rintro e w1 ⟨rfl, hw1⟩; obtain rfl : w = w1 := hw1.symm; clear hw1; rw [Option.isNone_some])
              | (go_at_call 67; refine (HOw.out _ (by omega) (by omega)).mono ?_; rintro e w2 ⟨rfl, hown2, _, hb2⟩; have fz2 := fz w2 hb2; have cc2 := cc w2 hb2; clear fz cc))
            go_ret
            exact ⟨_, rfl, HEnd.out w2 _ _ hb2 hown2 _ _ (by omega) (fun _ => ⟨b, off, rfl, rfl⟩)⟩
theorem readerRaw_none (v : Value) (w : World) : Calls Try.prog 88 #[.pointer none, v] w fun e w' => e = .returned (.slice none 0 0) ∧ w' = w := by
  go_enter Try.func88, Try.ntmps88
  go_wp2_with (go_at_call 69; refine (failed_none w).mono ?_; rintro e w1 ⟨rfl, hw1⟩; obtain rfl : w = w1 := hw1.symm; clear hw1)
  go_ret
  exact ⟨rfl, rfl⟩
end Go.Proofs.Ytlmfdifnkkdpfaa
/-
  What a reader's count and Text answer and leave.
-/
namespace Go.Proofs.Ytlmfdifnkkdpfaa
open Go.RowKit

theorem readN_le (most : Nat) : ∀ (st : Option (List Nat)), (readN most st).1 ≤ most
  | none => Nat.zero_le _
  | some zs => by
    cases h : numL zs 0 0 with
    | none => rw [readN_bad h]; exact Nat.zero_le _
    | some y =>
      obtain ⟨x, s⟩ := y
      by_cases hm : most < x
      · rw [readN_over h hm]; exact Nat.zero_le _
      · rw [readN_some h hm]; exact Nat.le_of_not_lt hm

set_option maxHeartbeats 1000000 in
/-- count -/
theorem count_any (B : Nat) (st : Option (List Nat)) (z : Int) (hz : z ≤ 9223372036854775807) (w : World) (h : RdAt w B st) :
    Calls Try.prog 89 #[.pointer (some ⟨B, 0, none⟩), .int .i64 z] w fun e w' => e = .returned (.int .i64 ((readCount z st).1 : Nat)) ∧ RdAt w' B (readCount z st).2 ∧ But B w.heap.size w w' := by
  by_cases h0 : z < 0
  · have HFl : Hid (Calls Try.prog 71 #[.pointer (some ⟨B, 0, none⟩)] w fun e w' => (∃ v, e = .returned v) ∧ RdAt w' B none ∧ But B w.heap.size w w') := fail_any B st w h
    have HR : Hid (readCount z st = (0, none)) := if_pos h0
    rw [HR.out]
    clear h
    go_enter Try.func89, Try.ntmps89
    go_wp2_with (go_at_call 71; refine HFl.out.mono ?_; rintro e w1 ⟨⟨v1, rfl⟩, hR1, hb1⟩)
    go_ret
    exact ⟨rfl, hR1, hb1⟩
  · obtain ⟨m, rfl⟩ : ∃ m : Nat, z = (m : Int) := ⟨z.toNat, by omega⟩
    have HR : Hid (readCount (m : Int) st = readN m st) := by
      show _ = _
      rw [readCount, if_neg h0, Int.toNat_natCast]
    have HN : Hid (Calls Try.prog 42 #[.pointer (some ⟨B, 0, none⟩), .int .u64 (m : Nat)] w fun e w' => e = .returned (.int .u64 ((readN m st).1 : Nat)) ∧ RdAt w' B (readN m st).2 ∧ But B w.heap.size w w') := readerN_any B st m (by omega) w h
    have hle := readN_le m st
    rw [HR.out]
    generalize (readN m st).1 = x at *
    generalize (readN m st).2 = st' at *
    clear h HR
    have e1 : (m : Int) % 18446744073709551616 = (m : Int) := by omega
    go_enter Try.func89, Try.ntmps89
    go_wp2_with (go_at_call 42; refine HN.out.mono ?_; rintro e w1 ⟨rfl, hR1, hb1⟩)
    go_ret
    refine ⟨?_, hR1, hb1⟩
    go_num
theorem count_none (z : Int) (w : World) : Calls Try.prog 89 #[.pointer none, .int .i64 z] w fun e w' => e = .returned (.int .i64 0) ∧ w' = w := by
  by_cases h0 : z < 0
  · go_enter Try.func89, Try.ntmps89
    go_wp2_with (go_at_call 71; refine (fail_none w).mono ?_; rintro e w1 ⟨⟨v1, rfl⟩, hw1⟩; obtain rfl : w = w1 := hw1.symm; clear hw1)
    go_ret
    exact ⟨rfl, rfl⟩
  · go_enter Try.func89, Try.ntmps89
    go_wp2_with (go_at_call 42; refine (readerN_none _ w).mono ?_; rintro e w1 ⟨rfl, hw1⟩; obtain rfl : w = w1 := hw1.symm; clear hw1)
    go_ret
    exact ⟨rfl, rfl⟩

set_option maxHeartbeats 1000000 in
/-- Text -/
theorem readerText_any (B : Nat) (st : Option (List Nat)) (z : Int) (hz : z ≤ 9223372036854775807) (w : World) (h : RdAt w B st) :
    Calls Try.prog 73 #[.pointer (some ⟨B, 0, none⟩), .int .i64 z] w fun e w' => ∃ v, e = .returned v ∧ Own w.heap.size w' v (readText z st).1 ∧ RdAt w' B (readText z st).2 ∧ But B w.heap.size w w' := by
  have HC : Hid (Calls Try.prog 89 #[.pointer (some ⟨B, 0, none⟩), .int .i64 z] w fun e w' => e = .returned (.int .i64 ((readCount z st).1 : Nat)) ∧ RdAt w' B (readCount z st).2 ∧ But B w.heap.size w w') := count_any B st z hz w h
  clear h
  unfold readText
  generalize (readCount z st).1 = n at *
  generalize (readCount z st).2 = st' at *
  go_enter Try.func73, Try.ntmps73
  go_wp2_with (first
    | (go_at_call 89; refine HC.out.mono ?_; rintro e w1 ⟨rfl, hR1, hb1⟩)
    | (go_at_call 88; refine (readerRaw_any B st' n w1 hR1).mono ?_; rintro e w2 ⟨v2, rfl, hown2, hR2, hb2⟩))
  go_ret
  exact ⟨_, rfl, hown2.mono hb1.size, hR2, hb1.trans (hb2.mono hb1.size)⟩
theorem readerText_none (z : Int) (w : World) : Calls Try.prog 73 #[.pointer none, .int .i64 z] w fun e w' => e = .returned (.slice none 0 0) ∧ w' = w := by
  go_enter Try.func73, Try.ntmps73
  go_wp2_with (first
    | (go_at_call 89; refine (count_none z w).mono ?_; rintro e w1 ⟨rfl, hw1⟩; obtain rfl : w = w1 := hw1.symm; clear hw1)
    | (go_at_call 88; refine (readerRaw_none _ w).mono ?_; rintro e w1 ⟨rfl, hw1⟩; obtain rfl : w = w1 := hw1.symm; clear hw1))
  go_ret
  exact ⟨rfl, rfl⟩
end Go.Proofs.Ytlmfdifnkkdpfaa
