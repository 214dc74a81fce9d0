/-
  The lengths that pad tells (pad.Buckets), the first one that a text fits in (pad.Bucket), and the reference's. Nothing that lay before a call has turned.
-/
import Derived.Test.YtclelancbfoenaaGreatDoorOwn
namespace Go.Proofs.YtclelancbfoenaaGreatDoor
open Go.RowKit Go.Shelf
attribute [local go_sem] Oper.semAt_some

/-- The first of m lengths from the j-th on that z and 4 more bytes fit in; 0, if there is none. -/
def firstB (z : Int) : Nat → Nat → Nat
  | 0, _ => 0
  | m + 1, j => if z + 4 ≤ ((32 * 2 ^ j : Nat) : Int) then 32 * 2 ^ j else firstB z m (j + 1)

/-- The length that a text of z bytes is filled up to; 0, if there is none. -/
def bucketN (z : Int) : Nat := if z < 0 ∨ 65532 < z then 0 else firstB z 12 0

theorem pow_le {k : Nat} (h : k < 12) : 32 * 2 ^ k ≤ 65536 := by
  have : 2 ^ k ≤ 2 ^ 11 := Nat.pow_le_pow_right (by decide) (by omega)
  omega
theorem pow_pos' (k : Nat) : 1 ≤ 2 ^ k := Nat.one_le_two_pow

theorem bucketN_none {z : Int} (h : z < 0 ∨ 65532 < z) : bucketN z = 0 := by unfold bucketN; rw [if_pos h]

theorem firstB_of (z : Int) (k : Nat) (h1 : z + 4 ≤ ((32 * 2 ^ k : Nat) : Int)) : ∀ (m j : Nat), j ≤ k → k < j + m → (∀ i, j ≤ i → i < k → ((32 * 2 ^ i : Nat) : Int) < z + 4) → firstB z m j = 32 * 2 ^ k
  | 0, j, h, h', _ => by omega
  | m + 1, j, h, h', ha => by
    rw [firstB]
    by_cases e : j = k
    · subst e; rw [if_pos h1]
    · have := ha j (Nat.le_refl _) (by omega)
      rw [if_neg (by omega)]
      exact firstB_of z k h1 m (j + 1) (by omega) (by omega) (fun i hi hk => ha i (by omega) hk)

theorem bucketN_of (z : Int) (k : Nat) (hk : k < 12) (h0 : 0 ≤ z) (h1 : z + 4 ≤ ((32 * 2 ^ k : Nat) : Int)) (h2 : ∀ i, i < k → ((32 * 2 ^ i : Nat) : Int) < z + 4) : bucketN z = 32 * 2 ^ k := by
  unfold bucketN
  have := pow_le hk
  rw [if_neg (by omega)]
  exact firstB_of z k h1 12 0 (by omega) (by omega) (fun i _ hi => h2 i hi)

theorem firstB_pos {z : Int} (h1 : z ≤ 65532) : ∀ (m j : Nat), j + (m + 1) = 12 → z + 4 ≤ (firstB z (m + 1) j : Int) ∧ 32 ≤ firstB z (m + 1) j ∧ firstB z (m + 1) j ≤ 65536
  | m, j, h => by
    have h2 := pow_pos' j
    have h3 := pow_le (show j < 12 by omega)
    rw [firstB]
    by_cases e : z + 4 ≤ ((32 * 2 ^ j : Nat) : Int)
    · rw [if_pos e]; exact ⟨e, by omega, h3⟩
    · rw [if_neg e]
      match m, h with
      | 0, h =>
        obtain rfl : j = 11 := by omega
        exact absurd (show z + 4 ≤ ((32 * 2 ^ 11 : Nat) : Int) by simp only [Nat.reducePow, Nat.reduceMul]; omega) e
      | m + 1, h => exact firstB_pos h1 m (j + 1) (by omega)

theorem bucketN_pos {z : Int} (h0 : 0 ≤ z) (h1 : z ≤ 65532) : z + 4 ≤ (bucketN z : Int) ∧ 32 ≤ bucketN z ∧ bucketN z ≤ 65536 := by
  unfold bucketN
  rw [if_neg (by omega)]
  exact firstB_pos h1 11 0 (by omega)

/-- The places of the lengths. -/
abbrev Pl : Type := { k : Nat // k < 12 }
def plVal (x : Pl) : Value := .int .i64 (32 * 2 ^ x.1 : Nat)

set_option maxRecDepth 100000 in
set_option maxHeartbeats 2000000 in
/-- The function value that pad.Buckets hands back: it tells the lengths, rising. -/
theorem buckets1_in (F : Fence) (n : Nat) (h15 : F.fn 71) (hro : F.round = none) (hn : 1 ≤ n) (l : Nat) (Kp : World → World → Prop) (J Jx : List Pl → World → Prop)
    (hY : ∀ pre x W, J pre W → pre.length < 12 → YieldAt F (n - 1) Tryz.prog l #[plVal x] W fun e W' =>
      (e = .returned (.bool true) ∧ J (pre ++ [x]) W' ∧ Kp W W') ∨ (e = .returned (.bool false) ∧ Jx (pre ++ [x]) W' ∧ Kp W W'))
    (W : World) (h0 : J [] W) :
    CallsIn F n Tryz.prog 71 #[.func (.yield l) #[] #[]] W fun e W' => (∃ v, e = .returned v) ∧
      ((∃ ys : List Pl, ys.map (·.1) = List.range 12 ∧ J ys W') ∨ (∃ pre : List Pl, (∃ k, pre.map (·.1) = List.range k) ∧ Jx pre W')) := by
  refine callsIn_of_wp Tryz.func71 rfl h15 ?_ hro
  simp only [Tryz.ntmps71, List.size_toArray, List.length_cons, List.length_nil, Nat.reduceAdd, Nat.reduceSub, Array.replicate_succ, Array.replicate_zero, List.push_toArray, List.append_toArray, List.nil_append, List.cons_append]
  gi_wp2
  gi_loopw [2] (fun r wr => ∃ (k : Nat) (pre : List Pl), k ≤ 12 ∧ r = .int .i64 (32 * 2 ^ k : Nat) ∧ pre.map (·.1) = List.range k ∧ J pre wr)
    (fun r _ => 131072 - (intOf r).toNat)
  case atStart => exact ⟨0, [], by omega, rfl, rfl, h0⟩
  case round =>
    obtain ⟨k, pre, hk, rfl, hpre, hJs⟩ := hrel
    have HP : Hid (pre.map (·.1) = List.range k) := hpre
    clear hpre
    by_cases hlt : k < 12
    · have hpl : pre.length = k := by have := congrArg List.length HP.out; simpa using this
      obtain ⟨x, hx⟩ : ∃ x : Pl, x.1 = k := ⟨⟨k, hlt⟩, rfl⟩
      obtain ⟨fn, tmps, assign, body, hy, hR⟩ := hY pre x wr hJs (by omega)
      have HP2 : Hid ((pre ++ [x]).map (·.1) = List.range (k + 1)) := by
        show _ = _
        rw [List.map_append, HP.out, List.range_succ]; simp [hx]
      unfold plVal at hy
      rw [hx] at hy
      have hs1 := pow_le hlt
      have hs2 := pow_pos' k
      have HS : Hid (32 * 2 ^ (k + 1) = 2 * (32 * 2 ^ k)) := by show _ = _; rw [Nat.pow_succ]; omega
      generalize hs : 32 * 2 ^ k = s at *
      have hi1 : (s : Int) ≤ 65536 := by omega
      have e1 : IntKind.i64.wrap ((s : Int) * 2) = ((2 * s : Nat) : Int) := by rw [IntKind.wrap_i64]; omega
      have HL : Hid (k < 12 ∧ s ≤ 65536 ∧ 1 ≤ s) := ⟨hlt, hs1, by omega⟩
      clear hpl hx hY HP hlt hs1 hs2 hs
      gi_wp2
      refine hR.mono ?_
      rintro e W3 (⟨rfl, hJ3, _⟩ | ⟨rfl, hJx3, _⟩)
      · gi_wp2
        go_roundw
        case rel =>
          have := HL.out
          exact ⟨k + 1, pre ++ [x], by omega, by rw [HS.out]; push_cast; rfl, HP2.out, hJ3⟩
        case measure => have := HL.out; simp only [intOf]; omega
      · gi_wp2
        refine bodyPost_ret (results_none rfl _ _ _) rfl ?_
        exact ⟨⟨_, rfl⟩, .inr ⟨pre ++ [x], ⟨_, HP2.out⟩, hJx3⟩⟩
    · obtain rfl : k = 12 := by omega
      gi_wp2
      go_end0
      exact ⟨⟨_, rfl⟩, .inl ⟨pre, HP.out, hJs⟩⟩

theorem buckets_iter (F : Fence) (n : Nat) (h15 : F.fn 71) (hro : F.round = none) (hn : 1 ≤ n) (l : Nat) (Kp : World → World → Prop) (W : World) :
    IterLow F n Tryz.prog 71 #[] (fun x : Pl => #[plVal x]) (fun _ _ => True) Kp (fun ys => ys.map (·.1) = List.range 12) (fun pre => ∃ k, pre.map (·.1) = List.range k) 12 l W := fun J Jx _ _ hY h0 =>
  buckets1_in F n h15 hro hn l Kp J Jx (fun pre x W1 hj hlt => hY pre x W1 hj trivial hlt) W h0

set_option maxHeartbeats 1000000 in
theorem buckets_in (F : Fence) (n : Nat) (h10 : F.fn 51) (hro : F.round = none) (w : World) : CallsIn F n Tryz.prog 51 #[] w fun e w' => e = .returned (.func (.func 71) #[] #[]) ∧ w' = w := by
  refine callsIn_of_wp Tryz.func51 rfl h10 ?_ hro
  simp only [Tryz.ntmps51, List.size_toArray, List.length_nil, Nat.reduceSub, Array.replicate_succ, Array.replicate_zero, List.push_toArray, List.append_toArray, List.nil_append]
  gi_wp2
  go_ret
  exact ⟨rfl, rfl⟩

end Go.Proofs.YtclelancbfoenaaGreatDoor
