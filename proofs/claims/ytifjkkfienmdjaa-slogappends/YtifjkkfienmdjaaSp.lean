/-
  The reference's Span, region and Format.
-/
import Derived.Test.YtifjkkfienmdjaaRefWr
namespace Go.Proofs.Ytifjkkfienmdjaa
open Go.RowKit Go.Shelf

/-- How many sectors a record takes. -/
def spanN (n : Int) : Nat := if n < 0 ∨ 262144 < n then 0 else 1 + ((n - 51 + 63) / 64).toNat
theorem spanN_small {n : Int} (h0 : 0 ≤ n) (h1 : n ≤ 51) : spanN n = 1 := by
  unfold spanN
  rw [if_neg (by omega)]
  omega
theorem spanN_pos {n : Int} (h0 : 0 ≤ n) (h1 : n ≤ 262144) : 1 ≤ spanN n := by
  unfold spanN
  rw [if_neg (by omega)]
  omega

set_option maxRecDepth 100000 in
set_option maxHeartbeats 1000000 in
theorem refSpan_any (n : Int) (w : World) : Calls Try.prog 10 #[.int .i64 n] w fun e w' => e = .returned (.int .i64 (spanN n : Nat)) ∧ w' = w := by
  by_cases h0 : n < 0
  · have e1 : spanN n = 0 := by unfold spanN; rw [if_pos (.inl h0)]
    rw [e1]
    go_enter Try.func10, Try.ntmps10
    go_wp2
    go_ret
    exact ⟨rfl, rfl⟩
  by_cases h1 : 262144 < n
  · have e1 : spanN n = 0 := by unfold spanN; rw [if_pos (.inr h1)]
    rw [e1]
    go_enter Try.func10, Try.ntmps10
    go_wp2
    go_ret
    exact ⟨rfl, rfl⟩
  have HS : Hid ((spanN n : Int) = 1 + (n - 51 + 63) / 64 ∨ n ≤ 51 ∧ (spanN n : Int) = 1) := by
    show _ ∨ _
    unfold spanN
    rw [if_neg (by omega)]
    omega
  go_enter Try.func10, Try.ntmps10
  go_wp2
  go_loop [0, 3] (fun nv kv => ∃ (m : Int) (k : Nat), nv = .int .i64 m ∧ kv = .int .i64 k ∧ 1 ≤ k ∧ k ≤ 5000 ∧ m = n - 64 * ((k : Int) - 1) ∧ (k = 1 ∨ -12 ≤ m)) (fun nv _ => (intOf nv).toNat)
  case atStart => exact ⟨n, 1, rfl, rfl, Nat.le_refl _, by omega, by omega, .inl rfl⟩
  case round =>
    obtain ⟨m, k, rfl, rfl, hk1, hk2, hm, hor⟩ := hrel
    have HM : Hid (m = n - 64 * ((k : Int) - 1)) := hm
    clear hm
    by_cases hgo : 51 < m
    · have hb : -9223372036854775808 ≤ m ∧ m ≤ 9223372036854775807 := by have := HM.out; omega
      go_wp2
      go_round
      case rel => exact ⟨m - 64, k + 1, by go_num, by go_num, by omega, by have := HM.out; omega, by have := HM.out; omega, .inr (by omega)⟩
      case measure => simp [intOf]; omega
    · have hsp : (k : Int) = (spanN n : Nat) := by
        have := HM.out
        rcases HS.out with h | ⟨h, h'⟩ <;> omega
      go_wp2
      go_ret
      exact ⟨by rw [← hsp]; rfl, rfl⟩

/-- Whether there is such a region. -/
def regB (len : Nat) (from_ n : Int) : Bool := decide (0 ≤ from_) && decide (2 ≤ n) && decide (from_ ≤ len) && decide (n ≤ len - from_)
variable {F : List Nat} {p g : Nat} {d : St} {w : World}

set_option maxRecDepth 100000 in
set_option maxHeartbeats 2000000 in
theorem refRegion_any (h : RefAt F w p g d) (f n : Int) (hn : -9223372036854775808 ≤ n ∧ n ≤ 9223372036854775807) (hf : -9223372036854775808 ≤ f ∧ f ≤ 9223372036854775807) :
    Calls Try.prog 33 #[.pointer (some ⟨p, 0, none⟩), .int .i64 f, .int .i64 n] w fun e w' => e = .returned (.bool (regB d.ss.length f n)) ∧ w' = w := by
  obtain ⟨h1, h2, h3, h4, h5, q, len, cap, h6, h7⟩ := h
  have c0 := h6.cell (i := 0) rfl
  have hl := h1.few
  clear h1 h5 h6 h7
  unfold regB
  generalize d.ss.length = m at *
  by_cases a1 : 0 ≤ f
  · by_cases a2 : 2 ≤ n
    · by_cases a3 : f ≤ (m : Int)
      · by_cases a4 : n ≤ (m : Int) - f
        · have a5 : -9223372036854775808 ≤ (m : Int) - f ∧ (m : Int) - f ≤ 9223372036854775807 := by omega
          go_enter Try.func33, Try.ntmps33
          go_wp2
          go_ret
          exact ⟨by first | (simp; done) | (simp; omega), rfl⟩
        · have a5 : -9223372036854775808 ≤ (m : Int) - f ∧ (m : Int) - f ≤ 9223372036854775807 := by omega
          go_enter Try.func33, Try.ntmps33
          go_wp2
          go_ret
          exact ⟨by first | (simp; done) | (simp; omega), rfl⟩
      · go_enter Try.func33, Try.ntmps33
        go_wp2
        go_ret
        exact ⟨by first | (simp; done) | (simp; omega), rfl⟩
    · go_enter Try.func33, Try.ntmps33
      go_wp2
      go_ret
      exact ⟨by first | (simp; done) | (simp; omega), rfl⟩
  · go_enter Try.func33, Try.ntmps33
    go_wp2
    go_ret
    exact ⟨by first | (simp; done) | (simp; omega), rfl⟩

set_option maxRecDepth 100000 in
set_option maxHeartbeats 2000000 in
/-- Format -/
theorem refFormat_any (h : RefAt F w p g d) (f n : Int) (gen : Nat) (hn : -9223372036854775808 ≤ n ∧ n ≤ 9223372036854775807) (hf : -9223372036854775808 ≤ f ∧ f ≤ 9223372036854775807) (hwr : d.wr < 1000000) :
    Calls Try.prog 20 #[.pointer (some ⟨p, 0, none⟩), .int .i64 f, .int .i64 n, .int .u32 (gen : Nat)] w fun e w' => e = .returned (.int .i64 (if regB d.ss.length f n = true then d.wErr f else 1)) ∧ RefAt F w' p g (if regB d.ss.length f n = true then d.write f zeros64 else d) ∧ Buts [p, g] w.heap.size w w' := by
  have HR : Hid (Calls Try.prog 33 #[.pointer (some ⟨p, 0, none⟩), .int .i64 f, .int .i64 n] w fun e w' => e = .returned (.bool (regB d.ss.length f n)) ∧ w' = w) := refRegion_any h f n hn hf
  have HW : Hid (Calls Try.prog 27 #[.pointer (some ⟨p, 0, none⟩), .int .i64 f, .agg (u8s zeros64).toArray] w fun e w' => e = .returned (.int .i64 (d.wErr f)) ∧ RefAt F w' p g (d.write f zeros64) ∧ Buts [p, g] w.heap.size w w') := refWrite_any h f isSec_zeros hwr
  have HBu : Hid (Try.prog.built 55 [] = some (u8s zeros64).toArray) := built29
  have H0 : Hid (RefAt F w p g d) := h
  clear h
  generalize u8s zeros64 = Z at *
  cases hr : regB d.ss.length f n with
  | true =>
    rw [hr] at HR
    rw [if_pos rfl, if_pos rfl]
    clear hr
    go_enter Try.func20, Try.ntmps20
    go_wp2_with (first
      | (go_at_call 33; refine HR.out.mono ?_; rintro e w1 ⟨rfl, hw1⟩; obtain rfl : w = w1 := hw1.symm; clear hw1)
      | ((with_reducible show wpList _ _ _ (Oper.mk _ (Op.build 55 _) _ _ _ _ :: _) _ _); refine wpList_built_want (by rfl) 55 _ rfl _ _ (by simp only [List.map_toArray, List.map_nil]) HBu.out ?_; simp only [Act.put, List.setIfInBounds_toArray, List.set_cons_zero, List.set_cons_succ])
      | (go_at_call 27; refine HW.out.mono ?_; rintro e w2 ⟨rfl, hR2, hb2⟩; have HR2 : Hid (RefAt F w2 p g _) := hR2; clear hR2))
    go_ret
    exact ⟨rfl, HR2.out, hb2⟩
  | false =>
    rw [hr] at HR
    rw [if_neg (by simp), if_neg (by simp)]
    clear hr
    go_enter Try.func20, Try.ntmps20
    go_wp2_with (go_at_call 33; refine HR.out.mono ?_; rintro e w1 ⟨rfl, hw1⟩; obtain rfl : w = w1 := hw1.symm; clear hw1)
    go_ret
    exact ⟨rfl, H0.out, Buts.refl _ _ _⟩
end Go.Proofs.Ytifjkkfienmdjaa
