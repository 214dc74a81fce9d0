/-
  Several texts in one: Buck, Bucket, Tape, Take, Key, Maps, Suite, Awake, Keys, Args2.
-/
import Derived.Test.YtclelancbfoenaaGreatDoorBaseAll
import Derived.Laws.ResultCell
import Derived.Laws.Rows
import Derived.Maps.OwnOps
import Derived.Shelf.Abstract
import Derived.Lib.SliceRun
import Derived.Test.YtclelancbfoenaaGreatDoorArgs
import Derived.DeepKeys4
import Derived.Laws.StructEq
/-
  The lengths that pad tells (pad.Buckets), the first one that a text fits in (pad.Bucket), and the reference's. Nothing that lay before a call has turned.
-/
namespace Go.Proofs.YtclelancbfoenaaGreatDoor
open Go.RowKit Go.Shelf
attribute [local go_sem] Oper.semAt_some

/-- The first of m lengths from the j-th on that z and 4 more bytes fit in; 0, if there is none. -/
def firstB (z : Int) : Nat → Nat → Nat
  | 0, _ => 0
  | m + 1, j => if z + 4 ≤ ((32 * 2 ^ j : Nat) : Int) then 32 * 2 ^ j else firstB z m (j + 1)

/-- The length that a text of z bytes is filled up to; 0, if there is none. -/
def bucketN (z : Int) : Nat := if z < 0 ∨ 65532 < z then 0 else firstB z 12 0

theorem pow_le {k : Nat} (h : k < 12) : 32 * 2 ^ k ≤ 65536 := by
  have : 2 ^ k ≤ 2 ^ 11 := Nat.pow_le_pow_right (by decide) (by omega)
  omega
theorem pow_pos' (k : Nat) : 1 ≤ 2 ^ k := Nat.one_le_two_pow

theorem bucketN_none {z : Int} (h : z < 0 ∨ 65532 < z) : bucketN z = 0 := by unfold bucketN; rw [if_pos h]

theorem firstB_of (z : Int) (k : Nat) (h1 : z + 4 ≤ ((32 * 2 ^ k : Nat) : Int)) : ∀ (m j : Nat), j ≤ k → k < j + m → (∀ i, j ≤ i → i < k → ((32 * 2 ^ i : Nat) : Int) < z + 4) → firstB z m j = 32 * 2 ^ k
  | 0, j, h, h', _ => by omega
  | m + 1, j, h, h', ha => by
    rw [firstB]
    by_cases e : j = k
    · subst e; rw [if_pos h1]
    · have := ha j (Nat.le_refl _) (by omega)
      rw [if_neg (by omega)]
      exact firstB_of z k h1 m (j + 1) (by omega) (by omega) (fun i hi hk => ha i (by omega) hk)

theorem bucketN_of (z : Int) (k : Nat) (hk : k < 12) (h0 : 0 ≤ z) (h1 : z + 4 ≤ ((32 * 2 ^ k : Nat) : Int)) (h2 : ∀ i, i < k → ((32 * 2 ^ i : Nat) : Int) < z + 4) : bucketN z = 32 * 2 ^ k := by
  unfold bucketN
  have := pow_le hk
  rw [if_neg (by omega)]
  exact firstB_of z k h1 12 0 (by omega) (by omega) (fun i _ hi => h2 i hi)

theorem firstB_pos {z : Int} (h1 : z ≤ 65532) : ∀ (m j : Nat), j + (m + 1) = 12 → z + 4 ≤ (firstB z (m + 1) j : Int) ∧ 32 ≤ firstB z (m + 1) j ∧ firstB z (m + 1) j ≤ 65536
  | m, j, h => by
    have h2 := pow_pos' j
    have h3 := pow_le (show j < 12 by omega)
    rw [firstB]
    by_cases e : z + 4 ≤ ((32 * 2 ^ j : Nat) : Int)
    · rw [if_pos e]; exact ⟨e, by omega, h3⟩
    · rw [if_neg e]
      match m, h with
      | 0, h =>
        obtain rfl : j = 11 := by omega
        exact absurd (show z + 4 ≤ ((32 * 2 ^ 11 : Nat) : Int) by simp only [Nat.reducePow, Nat.reduceMul]; omega) e
      | m + 1, h => exact firstB_pos h1 m (j + 1) (by omega)

theorem bucketN_pos {z : Int} (h0 : 0 ≤ z) (h1 : z ≤ 65532) : z + 4 ≤ (bucketN z : Int) ∧ 32 ≤ bucketN z ∧ bucketN z ≤ 65536 := by
  unfold bucketN
  rw [if_neg (by omega)]
  exact firstB_pos h1 11 0 (by omega)

/-- The places of the lengths. -/
abbrev Pl : Type := { k : Nat // k < 12 }
def plVal (x : Pl) : Value := .int .i64 (32 * 2 ^ x.1 : Nat)

set_option maxRecDepth 100000 in
set_option maxHeartbeats 2000000 in
/-- The function value that pad.Buckets hands back: it tells the lengths, rising. -/
theorem buckets1_in (F : Fence) (n : Nat) (h15 : F.fn 71) (hro : F.round = none) (hn : 1 ≤ n) (l : Nat) (Kp : World → World → Prop) (J Jx : List Pl → World → Prop)
    (hY : ∀ pre x W, J pre W → pre.length < 12 → YieldAt F (n - 1) Tryz.prog l #[plVal x] W fun e W' =>
      (e = .returned (.bool true) ∧ J (pre ++ [x]) W' ∧ Kp W W') ∨ (e = .returned (.bool false) ∧ Jx (pre ++ [x]) W' ∧ Kp W W'))
    (W : World) (h0 : J [] W) :
    CallsIn F n Tryz.prog 71 #[.func (.yield l) #[] #[]] W fun e W' => (∃ v, e = .returned v) ∧
      ((∃ ys : List Pl, ys.map (·.1) = List.range 12 ∧ J ys W') ∨ (∃ pre : List Pl, (∃ k, pre.map (·.1) = List.range k) ∧ Jx pre W')) := by
  refine callsIn_of_wp Tryz.func71 rfl h15 ?_ hro
  simp only [Tryz.ntmps71, List.size_toArray, List.length_cons, List.length_nil, Nat.reduceAdd, Nat.reduceSub, Array.replicate_succ, Array.replicate_zero, List.push_toArray, List.append_toArray, List.nil_append, List.cons_append]
  gi_wp2
  gi_loopw [2] (fun r wr => ∃ (k : Nat) (pre : List Pl), k ≤ 12 ∧ r = .int .i64 (32 * 2 ^ k : Nat) ∧ pre.map (·.1) = List.range k ∧ J pre wr)
    (fun r _ => 131072 - (intOf r).toNat)
  case atStart => exact ⟨0, [], by omega, rfl, rfl, h0⟩
  case round =>
    obtain ⟨k, pre, hk, rfl, hpre, hJs⟩ := hrel
    have HP : Hid (pre.map (·.1) = List.range k) := hpre
    clear hpre
    by_cases hlt : k < 12
    · have hpl : pre.length = k := by have := congrArg List.length HP.out; simpa using this
      obtain ⟨x, hx⟩ : ∃ x : Pl, x.1 = k := ⟨⟨k, hlt⟩, rfl⟩
      obtain ⟨fn, tmps, assign, body, hy, hR⟩ := hY pre x wr hJs (by omega)
      have HP2 : Hid ((pre ++ [x]).map (·.1) = List.range (k + 1)) := by
        show _ = _
        rw [List.map_append, HP.out, List.range_succ]; simp [hx]
      unfold plVal at hy
      rw [hx] at hy
      have hs1 := pow_le hlt
      have hs2 := pow_pos' k
      have HS : Hid (32 * 2 ^ (k + 1) = 2 * (32 * 2 ^ k)) := by show _ = _; rw [Nat.pow_succ]; omega
      generalize hs : 32 * 2 ^ k = s at *
      have hi1 : (s : Int) ≤ 65536 := by omega
      have e1 : IntKind.i64.wrap ((s : Int) * 2) = ((2 * s : Nat) : Int) := by rw [IntKind.wrap_i64]; omega
      have HL : Hid (k < 12 ∧ s ≤ 65536 ∧ 1 ≤ s) := ⟨hlt, hs1, by omega⟩
      clear hpl hx hY HP hlt hs1 hs2 hs
      gi_wp2
      refine hR.mono ?_
      rintro e W3 (⟨rfl, hJ3, _⟩ | ⟨rfl, hJx3, _⟩)
      · gi_wp2
        go_roundw
        case rel =>
          have := HL.out
          exact ⟨k + 1, pre ++ [x], by omega, by rw [HS.out]; push_cast; rfl, HP2.out, hJ3⟩
        case measure => have := HL.out; simp only [intOf]; omega
      · gi_wp2
        refine bodyPost_ret (results_none rfl _ _ _) rfl ?_
        exact ⟨⟨_, rfl⟩, .inr ⟨pre ++ [x], ⟨_, HP2.out⟩, hJx3⟩⟩
    · obtain rfl : k = 12 := by omega
      gi_wp2
      go_end0
      exact ⟨⟨_, rfl⟩, .inl ⟨pre, HP.out, hJs⟩⟩

theorem buckets_iter (F : Fence) (n : Nat) (h15 : F.fn 71) (hro : F.round = none) (hn : 1 ≤ n) (l : Nat) (Kp : World → World → Prop) (W : World) :
    IterLow F n Tryz.prog 71 #[] (fun x : Pl => #[plVal x]) (fun _ _ => True) Kp (fun ys => ys.map (·.1) = List.range 12) (fun pre => ∃ k, pre.map (·.1) = List.range k) 12 l W := fun J Jx _ _ hY h0 =>
  buckets1_in F n h15 hro hn l Kp J Jx (fun pre x W1 hj hlt => hY pre x W1 hj trivial hlt) W h0

set_option maxHeartbeats 1000000 in
theorem buckets_in (F : Fence) (n : Nat) (h10 : F.fn 51) (hro : F.round = none) (w : World) : CallsIn F n Tryz.prog 51 #[] w fun e w' => e = .returned (.func (.func 71) #[] #[]) ∧ w' = w := by
  refine callsIn_of_wp Tryz.func51 rfl h10 ?_ hro
  simp only [Tryz.ntmps51, List.size_toArray, List.length_nil, Nat.reduceSub, Array.replicate_succ, Array.replicate_zero, List.push_toArray, List.append_toArray, List.nil_append]
  gi_wp2
  go_ret
  exact ⟨rfl, rfl⟩

end Go.Proofs.YtclelancbfoenaaGreatDoor
/-
  pad.Bucket, the reference's Bucket. Nothing that lay before a call has turned.
-/
namespace Go.Proofs.YtclelancbfoenaaGreatDoor
open Go.RowKit Go.Shelf
attribute [local go_sem] Oper.semAt_some

/-- A scope without a goto, under the widest fence. -/
theorem wpIn_scope_wide {P : Program} {Q : Exit → Act → World → Prop} {m : Nat} {c : Code} {a : Act} {w : World} (h : c.wpIn Fence.wide m P (Exit.noGoto Q) a w) : (Code.scope c).wpIn Fence.wide m P Q a w := wpIn_wide.2 (wp_scope_straight (wpIn_wide.1 h))

set_option maxRecDepth 100000 in
set_option maxHeartbeats 1000000 in
/-- The reference's Bucket. -/
theorem refBucket_any (z : Int) (hz : -9223372036854775808 ≤ z ∧ z ≤ 9223372036854775807) (w : World) :
    Calls Tryz.prog 66 #[.int .i64 z] w fun e w' => e = .returned (.int .i64 (bucketN z : Nat)) ∧ w' = w := by
  by_cases h : z < 0 ∨ 65532 < z
  · rw [bucketN_none h]
    by_cases h0 : z < 0
    · go_enter Tryz.func66, Tryz.ntmps66
      go_wp2
      go_ret
      exact ⟨rfl, rfl⟩
    · have h1 : 65532 < z := by omega
      go_enter Tryz.func66, Tryz.ntmps66
      go_wp2
      go_ret
      exact ⟨rfl, rfl⟩
  · have h0 : ¬ z < 0 := by omega
    have h1 : ¬ 65532 < z := by omega
    have e4 : IntKind.i64.wrap (z + 4) = z + 4 := by rw [IntKind.wrap_i64]; omega
    have HZ : Hid (0 ≤ z ∧ z ≤ 65532) := by show _ ∧ _; omega
    clear h hz
    go_enter Tryz.func66, Tryz.ntmps66
    go_wp2
    go_loopw [3] (fun r wr => ∃ k : Nat, k < 12 ∧ r = .int .i64 (32 * 2 ^ k : Nat) ∧ (∀ i, i < k → ((32 * 2 ^ i : Nat) : Int) < z + 4) ∧ wr = w) (fun r _ => 131072 - (intOf r).toNat)
    case atStart => exact ⟨0, by omega, rfl, fun i hi => by omega, rfl⟩
    case round =>
      obtain ⟨k, hk, rfl, hall, rfl⟩ := hrel
      have HA : Hid (∀ i, i < k → ((32 * 2 ^ i : Nat) : Int) < z + 4) := hall
      have hs1 := pow_le hk
      have hs2 := pow_pos' k
      have HS : Hid (32 * 2 ^ (k + 1) = 2 * (32 * 2 ^ k)) := by show _ = _; rw [Nat.pow_succ]; omega
      clear hall
      by_cases hlt : ((32 * 2 ^ k : Nat) : Int) < z + 4
      · have HK : Hid (k + 1 < 12) := by
          show k + 1 < 12
          have := HZ.out
          have : k ≠ 11 := by rintro rfl; simp only [Nat.reducePow, Nat.reduceMul] at hlt; omega
          omega
        have HA2 : Hid (∀ i, i < k + 1 → ((32 * 2 ^ i : Nat) : Int) < z + 4) := fun i hi => by
          by_cases e : i = k
          · subst e; exact hlt
          · exact HA.out i (by omega)
        generalize hs : 32 * 2 ^ k = s at *
        have e1 : IntKind.i64.wrap (2 * (s : Int)) = ((2 * s : Nat) : Int) := by rw [IntKind.wrap_i64]; omega
        have HL : Hid (s ≤ 65536 ∧ 1 ≤ s) := ⟨hs1, by omega⟩
        clear hs1 hs2 hs HA
        go_wp2
        go_roundw
        case rel => exact ⟨k + 1, HK.out, by rw [HS.out]; push_cast; rfl, HA2.out, trivial⟩
        case measure => have := HL.out; simp only [intOf]; omega
      · have HB : Hid (bucketN z = 32 * 2 ^ k) := bucketN_of z k hk HZ.out.1 (by omega) HA.out
        generalize hs : 32 * 2 ^ k = s at *
        clear hs hs2 HA HS
        go_wp2
        go_ret
        exact ⟨by rw [HB.out]; rfl, rfl⟩

/-- None of these lengths is enough. -/
def Short (z : Int) (pre : List Pl) : Prop := ∀ x ∈ pre, 0 ≤ z ∧ ((32 * 2 ^ x.1 : Nat) : Int) < z + 4
/-- The last one is the first that is enough, or there is none at all; what is found lies in block b. -/
def Found (z : Int) (b : Nat) (pre : List Pl) (A : World) : Prop :=
  (z < 0 ∧ Row A b 3 [.int .i64 0]) ∨ (0 ≤ z ∧ ∃ pre' x, pre = pre' ++ [x] ∧ (∀ y ∈ pre', ((32 * 2 ^ y.1 : Nat) : Int) < z + 4) ∧ z + 4 ≤ ((32 * 2 ^ x.1 : Nat) : Int) ∧ Row A b 3 [plVal x])

set_option maxRecDepth 100000 in
set_option maxHeartbeats 1000000 in
/-- pad.Bucket -/
theorem bucket_in (n : Nat) (hn : 3 ≤ n) (z : Int) (hz : -9223372036854775808 ≤ z ∧ z ≤ 9223372036854775807) (w : World) :
    CallsIn Fence.wide n Tryz.prog 25 #[.int .i64 z] w fun e w' => e = .returned (.int .i64 (bucketN z : Nat)) ∧ Below w.heap.size w w' := by
  have h1 : 1 ≤ n := by omega
  obtain ⟨w0, hw0⟩ : ∃ w0, (w.alloc (.cells #[.int .i64 z] 3)).alloc (.cells #[.int .i64 0] 3) = w0 := ⟨_, rfl⟩
  have HrN : Hid (Row w0 w.heap.size 3 [.int .i64 z]) := by rw [← hw0]; exact (Row.new w 3 #[.int .i64 z]).alloc _
  have HrF : Hid (Row w0 (w.heap.size + 1) 3 [.int .i64 0]) := by
    have h := Row.new (w.alloc (.cells #[.int .i64 z] 3)) 3 #[.int .i64 0]
    rw [World.size_alloc] at h
    rw [← hw0]; exact h
  have hb0 : Below w.heap.size w w0 := by rw [← hw0]; exact ((Below.refl _ w).alloc (Nat.le_refl _) _).alloc (by simp) _
  have hs0 : w0.heap.size = w.heap.size + 1 + 1 := by rw [← hw0]; simp
  have HW0 : Hid ((w.alloc (.cells #[.int .i64 z] 3)).alloc (.cells #[.int .i64 0] 3) = w0) := hw0
  clear hw0
  refine callsIn_of_wp_marks Tryz.func25 rfl trivial ?_ rfl
  simp only [Tryz.ntmps25, List.size_toArray, List.length_cons, List.length_nil, Nat.reduceAdd, Nat.reduceSub, Array.replicate_succ, Array.replicate_zero, List.push_toArray, List.append_toArray, List.nil_append, List.cons_append]
  gi_wp2
  refine wpIn_scope_wide ?_
  gi_wp2
  refine wpIn_label ?_
  rw [HW0.out]
  gi_wp2
  refine ⟨trivial, (buckets_in Fence.wide _ trivial rfl _).mono ?_⟩
  rintro e w1 ⟨rfl, hw1⟩
  obtain rfl : w0 = w1 := hw1.symm
  clear hw1
  gi_wp2
  have HZ : Hid (-9223372036854775808 ≤ z ∧ z ≤ 9223372036854775807) := hz
  clear hz
  refine wpIn_rangeFunc_low rfl h1 (gf := 71) (lb := #[]) rfl trivial (enters_of Tryz.func71 (by kernel_rfl) rfl)
    (encs := fun x : Pl => #[plVal x]) (Ok := fun _ _ => True) (Kp := fun _ _ => True)
    (fun W' _ _ => buckets_iter Fence.wide (n - 1) trivial rfl (by omega) _ _ W')
    (fun _ _ => trivial) (fun _ _ _ _ _ => trivial) (fun _ => rfl)
    (fun pre A => (Short z pre ∧ Row A w.heap.size 3 [.int .i64 z] ∧ Row A (w.heap.size + 1) 3 [.int .i64 0]) ∧ Below w.heap.size w A)
    (fun c pre A => (c = .exit 0 ∧ Found z (w.heap.size + 1) pre A) ∧ Below w.heap.size w A)
    (fun s A A' ⟨⟨h1, h2, h3⟩, h4⟩ hb => ⟨⟨h1, h2.below hb (by omega), h3.below hb (by omega)⟩, h4.trans (hb.mono (by omega))⟩)
    (fun c s A A' ⟨⟨h0, h1⟩, h4⟩ hb => ⟨⟨h0, by
      rcases h1 with ⟨h2, h3⟩ | ⟨h2, pre', x, h5, h6, h7, h8⟩
      · exact .inl ⟨h2, h3.below hb (by omega)⟩
      · exact .inr ⟨h2, pre', x, h5, h6, h7, h8.below hb (by omega)⟩⟩, h4.trans (hb.mono (by omega))⟩)
    (fun _ _ _ h _ => h) ⟨⟨fun x hx => by simp at hx, HrN.out, HrF.out⟩, hb0⟩
    (fun x => { tmps := #[.int .i64 z, .pointer (some ⟨w.heap.size, 0, none⟩), .int .i64 0, .pointer (some ⟨w.heap.size + 1, 0, none⟩), plVal x, .func (.func 71) #[] #[], plVal x, undef, undef, undef, undef, undef, undef, undef, undef, undef, undef], defers := [] })
    ?assign ?body ?done ?stop
  case assign =>
    intro l x W K hK
    gi_wp2
    exact hK
  case body =>
    rintro l pre x A ⟨⟨hall, hrN, hrF⟩, hB⟩ _ hlt
    have cn := hrN.cell (i := 0) rfl
    have cf := hrF.cell (i := 0) rfl
    have ff := hrF.frozen 0
    have HN : Hid (Row A w.heap.size 3 [.int .i64 z]) := hrN
    have HF : Hid (Row A (w.heap.size + 1) 3 [.int .i64 0]) := hrF
    have HA : Hid (Short z pre) := hall
    clear hrN hrF hall
    have hx1 := pow_le x.2
    have hx2 := pow_pos' x.1
    obtain ⟨s, hs⟩ : ∃ s, 32 * 2 ^ x.1 = s := ⟨_, rfl⟩
    have e1 : IntKind.i64.wrap ((s : Int) - 4) = (s : Int) - 4 := by rw [IntKind.wrap_i64]; omega
    have hv : plVal x = .int .i64 (s : Nat) := by unfold plVal; rw [hs]
    have HS : Hid (32 * 2 ^ x.1 = s) := hs
    simp only [hv]
    clear hs hx2 hx1
    by_cases h0 : z < 0
    · gi_wp2
      exact ⟨KeepsFrom.refl _ _, trivial, ⟨rfl, .inl ⟨h0, HF.out⟩⟩, hB⟩
    · by_cases hle : z ≤ (s : Int) - 4
      · gi_wp2
        refine ⟨(KeepsOthers.setCell A _ _).from _, trivial, ⟨rfl, .inr ⟨by omega, pre, x, rfl, fun y hy => (HA.out y hy).2, by rw [HS.out]; omega, ?_⟩⟩, hB.setCell (p := ⟨w.heap.size + 1, 0, none⟩) (by show _ ≤ w.heap.size + 1; omega) _⟩
        rw [hv]
        exact HF.out.set 0 _
      · gi_wp2
        refine ⟨KeepsFrom.refl _ _, trivial, ⟨?_, HN.out, HF.out⟩, hB⟩
        intro y hy
        rcases List.mem_append.1 hy with hy | hy
        · exact HA.out y hy
        · simp at hy; subst hy; rw [HS.out]; omega
  case done =>
    rintro D ys A hD hys ⟨⟨hall, hrN, hrF⟩, hB⟩ hK
    have hbk : bucketN z = 0 := by
      have hm : (11 : Nat) ∈ ys.map (·.1) := by rw [hys]; decide
      obtain ⟨x, hx, h11⟩ := List.mem_map.1 hm
      have := (hall x hx).2
      rw [h11] at this
      simp only [Nat.reducePow, Nat.reduceMul] at this
      exact bucketN_none (.inr (by omega))
    have cf := hrF.cell (i := 0) rfl
    gi_wp2
    refine ⟨by simp, .inl ⟨_, _, rfl, run_takeDeferred hK, ?_⟩⟩
    exact ⟨_, results_tmp rfl _ _ _, by rw [hbk]; rfl, hB.trans (below_putObj _ _ (by omega))⟩
  case stop =>
    rintro D c pre A hD ⟨k, hk⟩ ⟨⟨rfl, h⟩, hB⟩ hK
    obtain ⟨v, hv, hr⟩ : ∃ v, .int .i64 (bucketN z : Nat) = v ∧ Row A (w.heap.size + 1) 3 [v] := by
      rcases h with ⟨h2, h3⟩ | ⟨h2, pre', x, rfl, h6, h7, h8⟩
      · exact ⟨_, by rw [bucketN_none (.inl h2)]; rfl, h3⟩
      · have hl := congrArg List.length hk
        simp at hl
        have hx : x.1 = pre'.length := by
          have := congrArg (fun l => l[pre'.length]?) hk
          simp [← hl] at this
          exact this
        have hi : ∀ i, i < x.1 → ((32 * 2 ^ i : Nat) : Int) < z + 4 := fun i hi => by
          have hm : i ∈ pre'.map (·.1) := by
            have : pre'.map (·.1) = List.range pre'.length := by
              rw [← hl, List.map_append, List.range_succ] at hk
              exact (List.append_inj' hk rfl).1
            rw [this]; exact List.mem_range.2 (by omega)
          obtain ⟨y, hy, rfl⟩ := List.mem_map.1 hm
          exact h6 y hy
        exact ⟨_, by rw [bucketN_of z x.1 x.2 h2 h7 hi]; rfl, h8⟩
    have cf := hr.cell (i := 0) rfl
    gi_wp2
    refine ⟨by simp, .inl ⟨_, _, rfl, run_takeDeferred hK, ?_⟩⟩
    exact ⟨_, results_tmp rfl _ _ _, by rw [hv]; rfl, hB.trans (below_putObj _ _ (by omega))⟩

/-- pad.Bucket, outside every fence. -/
theorem bucket_any (z : Int) (hz : -9223372036854775808 ≤ z ∧ z ≤ 9223372036854775807) (w : World) :
    Calls Tryz.prog 25 #[.int .i64 z] w fun e w' => e = .returned (.int .i64 (bucketN z : Nat)) ∧ Below w.heap.size w w' :=
  callsIn_wide.1 (bucket_in 3 (Nat.le_refl _) z hz w)

end Go.Proofs.YtclelancbfoenaaGreatDoor
/-
  A tape in memory, and what New, Left, Clone and Take make of it. Nothing that lay before a call has turned but the tape itself.
-/
namespace Go.Proofs.YtclelancbfoenaaGreatDoor
open Go.RowKit

/-- Block B is a tape with the bytes zs ahead, which lie in block Q before it. -/
def TapeAt (W : World) (B Q : Nat) (zs : List Nat) : Prop := ∃ q len cap, Row W B 105 [.bool true, .slice q len cap] ∧ IsBytes B W q len cap zs ∧ ∀ b off s, q = some ⟨b, off, s⟩ → b = Q
theorem TapeAt.lt {W : World} {B Q : Nat} {zs : List Nat} (h : TapeAt W B Q zs) : B < W.heap.size := by obtain ⟨_, _, _, h, _⟩ := h; exact h.lt
theorem TapeAt.below {W W' : World} {n B Q : Nat} {zs : List Nat} (h : TapeAt W B Q zs) (hb : Below n W W') (hn : B < n) : TapeAt W' B Q zs := by
  obtain ⟨q, len, cap, h1, h2, h3⟩ := h
  exact ⟨q, len, cap, h1.below hb hn, h2.below (hb.mono (by omega)), h3⟩
theorem TapeAt.later {W W' : World} {B Q : Nat} {zs : List Nat} (h : TapeAt W B Q zs) (hb : Below W.heap.size W W') : TapeAt W' B Q zs := h.below hb h.lt
theorem TapeAt.but {W W' : World} {B B' Q : Nat} {zs : List Nat} (h : TapeAt W B Q zs) (hb : But B' W.heap.size W W') (hB : B < B') : TapeAt W' B Q zs :=
  h.below (hb.below (m := B + 1) h.lt hB) (by omega)
/-- A tape hangs on its block and on that of its bytes alone. -/
theorem TapeAt.keep {W W' : World} {B Q : Nat} {zs : List Nat} (h : TapeAt W B Q zs) (h1 : W'.heap[B]? = W.heap[B]?) (h2 : W'.heap[Q]? = W.heap[Q]?) : TapeAt W' B Q zs := by
  obtain ⟨q, len, cap, hr, ⟨a1, a2, a3, a4, a5⟩, hq⟩ := h
  refine ⟨q, len, cap, h1.trans hr, ⟨a1, a2, a3, a4, ?_⟩, hq⟩
  rcases a5 with h | ⟨b, off, rfl, hb, hc⟩
  · exact .inl h
  · obtain rfl := hq b off none rfl
    refine .inr ⟨b, off, rfl, hb, fun i hi => ?_⟩
    obtain ⟨c, t, fr, hx, hv⟩ := cells_of_cell (hc i hi)
    rw [cell_of_row W' b (off + i) c t fr (h2.trans hx)]
    exact hv

set_option maxHeartbeats 1000000 in
/-- own -/
theorem own_any (p : Option Addr) (len cap : Nat) (zs : List Nat) (hlen : len ≤ 70000) (w : World) (hI : IsBytes w.heap.size w p len cap zs) :
    Calls Tryz.prog 53 #[.slice p len cap] w fun e w' => e = .returned (.slice (some ⟨w.heap.size, 0, none⟩) len len) ∧ Own w.heap.size w' (.slice (some ⟨w.heap.size, 0, none⟩) len len) zs ∧ w.heap.size < w'.heap.size ∧ Below w.heap.size w w' := by
  obtain ⟨i0, hi, hz0, hz1, hz2⟩ := info_parts info5
  have HI : Hid (IsBytes w.heap.size w p len cap zs) := hI
  clear hI
  go_enter Tryz.func53, Tryz.ntmps53
  go_wp2_with (first
    | (at_make; refine wpList_make_full _ rfl _ _ 24 rfl w.heap.size 5 i0 (.int .u8 0) 1 Tryz.underlying24 hi hz0 hz1 _ _ _ _ len rfl rfl (by omega) (by omega) (by rw [hz2]; omega) (by simp only [maxLen]; omega) (Nat.le_refl _) ?_; intro w2 hown2 hgrow2; rw [made_zeros] at hown2; have HR2 : Hid (Row w2 w.heap.size 5 (u8s (List.replicate len 0))) := row_of_made hown2; have hb2 : Below w.heap.size w w2 := ((Below.refl _ w).grown hgrow2 (Nat.le_refl _) (fun k e => by cases e)); clear hown2 hgrow2)
    | ((with_reducible show wpList _ _ _ (Oper.mk (some 9) _ _ _ _ _ :: _) _ _); refine wpList_copy_splice rfl (.tmp 7) (.tmp 8) 24 24 rfl 5 Tryz.underlying24 size5 _ _ _ _ _ _ rfl rfl w.heap.size 0 (u8s (List.replicate len 0)) 5 HR2.out (u8s zs) (by rw [u8s_length, HI.out.1]; exact (Nat.min_self _).symm) (fun h0 => ⟨rfl, bytes_src (HI.out.below hb2) h0⟩) (by have := HI.out.1; simp; omega) (u8s_one _) w.heap.size w hb2 (Nat.le_refl _) ?_; intro w3 HG3 hb3; rw [u8s_length, HI.out.1]; rw [splice_all zs len HI.out.1] at HG3))
  go_ret
  have ho := own_of_row (n₀ := w.heap.size) (zs := zs) HG3.out (Nat.le_refl _) (by have := HI.out.1; omega)
  rw [HI.out.1] at ho
  exact ⟨rfl, ho, Row.lt HG3.out, hb3⟩

set_option maxHeartbeats 1000000 in
/-- Left -/
theorem left_any (B Q : Nat) (zs : List Nat) (w : World) (hT : TapeAt w B Q zs) :
    Calls Tryz.prog 52 #[.pointer (some ⟨B, 0, none⟩)] w fun e w' => e = .returned (.int .i64 (zs.length : Nat)) ∧ w' = w := by
  obtain ⟨q, len, cap, hr, hI, _⟩ := hT
  have c1 := hr.cell (i := 1) rfl
  have hl := hI.1
  have hl2 : len ≤ 9223372036854775807 := by have := hI.2.1; have := hI.2.2.1; omega
  clear hr hI
  go_enter Tryz.func52, Tryz.ntmps52
  go_wp2
  go_ret
  exact ⟨by rw [hl]; rfl, rfl⟩
theorem left_none (w : World) : Calls Tryz.prog 52 #[.pointer none] w fun e w' => e = .returned (.int .i64 0) ∧ w' = w := by
  go_enter Tryz.func52, Tryz.ntmps52
  go_wp2
  go_ret
  exact ⟨rfl, rfl⟩

end Go.Proofs.YtclelancbfoenaaGreatDoor
/-
  What Take makes of a tape: the next bytes, in memory of their own, or an error, and then nothing is taken. Nothing that lay before the call has turned but the tape.
-/
namespace Go.Proofs.YtclelancbfoenaaGreatDoor
open Go.RowKit

/-- The error; what is taken; what is left. -/
def errT (z : Int) (zs : List Nat) : Int := if z < 0 then 1 else if (zs.length : Int) < z then 60 else 0
def takenT (z : Int) (zs : List Nat) : List Nat := if z < 0 ∨ (zs.length : Int) < z then [] else zs.take z.toNat
def restT (z : Int) (zs : List Nat) : List Nat := if z < 0 ∨ (zs.length : Int) < z then zs else zs.drop z.toNat

set_option maxHeartbeats 1000000 in
theorem take_neg (a : Option Addr) (z : Int) (hz : z < 0) (w : World) :
    Calls Tryz.prog 28 #[.pointer a, .int .i64 z] w fun e w' => e = .returned (.tuple #[.slice none 0 0, .int .i64 1]) ∧ w' = w := by
  go_enter Tryz.func28, Tryz.ntmps28
  go_wp2
  refine bodyPost_ret (results_tmp2 rfl _ _ _) rfl ?_
  exact ⟨rfl, rfl⟩

set_option maxHeartbeats 1000000 in
theorem take_over (a : Option Addr) (n : Nat) (z : Int) (hz : ¬ z < 0) (hn : (n : Int) < z) (w : World) (HL : Hid (Calls Tryz.prog 52 #[.pointer a] w fun e w' => e = .returned (.int .i64 (n : Nat)) ∧ w' = w)) :
    Calls Tryz.prog 28 #[.pointer a, .int .i64 z] w fun e w' => e = .returned (.tuple #[.slice none 0 0, .int .i64 60]) ∧ w' = w := by
  go_enter Tryz.func28, Tryz.ntmps28
  go_wp2_with (go_at_call 52; refine HL.out.mono ?_; rintro e w1 ⟨rfl, hw1⟩; obtain rfl : w = w1 := hw1.symm; clear hw1)
  refine bodyPost_ret (results_tmp2 rfl _ _ _) rfl ?_
  exact ⟨rfl, rfl⟩

set_option maxHeartbeats 1000000 in
theorem take_zero (a : Option Addr) (n : Nat) (w : World) (HL : Hid (Calls Tryz.prog 52 #[.pointer a] w fun e w' => e = .returned (.int .i64 (n : Nat)) ∧ w' = w)) :
    Calls Tryz.prog 28 #[.pointer a, .int .i64 0] w fun e w' => e = .returned (.tuple #[.slice none 0 0, .int .i64 0]) ∧ w' = w := by
  have hn : ¬ (n : Int) < 0 := by omega
  go_enter Tryz.func28, Tryz.ntmps28
  go_wp2_with (go_at_call 52; refine HL.out.mono ?_; rintro e w1 ⟨rfl, hw1⟩; obtain rfl : w = w1 := hw1.symm; clear hw1)
  refine bodyPost_ret (results_tmp2 rfl _ _ _) rfl ?_
  exact ⟨rfl, rfl⟩

set_option maxRecDepth 100000 in
set_option maxHeartbeats 1000000 in
theorem take_some (B Q n : Nat) (zs : List Nat) (h0 : 0 < n) (hn : n ≤ zs.length) (hlen : zs.length ≤ 70000) (w : World) (hT : TapeAt w B Q zs) :
    Calls Tryz.prog 28 #[.pointer (some ⟨B, 0, none⟩), .int .i64 n] w fun e w' => ∃ g, e = .returned (.tuple #[.slice (some ⟨g, 0, none⟩) n n, .int .i64 0]) ∧ Own w.heap.size w' (.slice (some ⟨g, 0, none⟩) n n) (zs.take n) ∧ TapeAt w' B Q (zs.drop n) ∧ But B w.heap.size w w' := by
  have HL : Hid (Calls Tryz.prog 52 #[.pointer (some ⟨B, 0, none⟩)] w fun e w' => e = .returned (.int .i64 (zs.length : Nat)) ∧ w' = w) := left_any B Q zs w hT
  have hBl := hT.lt
  obtain ⟨q, len, cap, hr, hI, hQ⟩ := hT
  have hl := hI.1
  rw [hl] at HL
  have hlc := hI.2.1
  have hcc := hI.2.2.1
  obtain ⟨b, off, rfl, hbB⟩ : ∃ b off, q = some ⟨b, off, none⟩ ∧ b < B := by
    rcases hI.2.2.2.2 with h | ⟨b, off, h, hb, _⟩
    · omega
    · exact ⟨b, off, h, hb⟩
  have c1 := hr.cell (i := 1) rfl
  have HR : Hid (Row w B 105 [.bool true, .slice (some ⟨b, off, none⟩) len cap]) := hr
  have HI : Hid (IsBytes B w (some ⟨b, off, none⟩) len cap zs) := hI
  have hn0 : ¬ (n : Int) < 0 := by omega
  have hn1 : ¬ (len : Int) < (n : Int) := by omega
  have hn2 : ((n : Int) == 0) = false := by simp; omega
  have hnl : n ≤ len := by omega
  have hnc : n ≤ cap := by omega
  have fz := hr.frozen 1
  have HOw : Hid (∀ v, Calls Tryz.prog 53 #[.slice (some ⟨b, off, none⟩) n n] (w.setCell ⟨B, 1, none⟩ v) fun e w' => e = .returned (.slice (some ⟨w.heap.size, 0, none⟩) n n) ∧ Own w.heap.size w' (.slice (some ⟨w.heap.size, 0, none⟩) n n) (zs.take n) ∧ Below w.heap.size (w.setCell ⟨B, 1, none⟩ v) w') := fun v => by
    have hb : Below B w (w.setCell ⟨B, 1, none⟩ v) := (But.set (B := B) (n := w.heap.size) 1 v).below (by omega) (Nat.le_refl _)
    have h := own_any (some ⟨b, off, none⟩) n n (zs.take n) (by omega) (w.setCell ⟨B, 1, none⟩ v) (((hI.head hnl (Nat.le_refl _) hnc).below hb).mono (by have := hb.size; omega))
    rw [World.size_setCell] at h
    exact h.mono fun e w' ⟨h1, h2, _, h4⟩ => ⟨h1, h2, h4⟩
  obtain rfl := hQ b off none rfl
  have HEnd : Hid (∀ q2 c2 w', c2 + n = cap → (0 < len - n → q2 = some ⟨b, off + n, none⟩) → (∀ b' off' s', q2 = some ⟨b', off', s'⟩ → b' = b) → Below w.heap.size (w.setCell ⟨B, 1, none⟩ (.slice q2 (len - n) c2)) w' → TapeAt w' B b (zs.drop n) ∧ But B w.heap.size w w') := fun q2 c2 w' hc hq hqq hb => by
    have hbut : But B w.heap.size w (w.setCell ⟨B, 1, none⟩ (.slice q2 (len - n) c2)) := But.set 1 _
    have hIr : IsBytes B w q2 (len - n) c2 (zs.drop n) := hI.rest (by omega) hc (fun h => ⟨b, off, rfl, hq h⟩)
    refine ⟨TapeAt.below (W := w.setCell ⟨B, 1, none⟩ (.slice q2 (len - n) c2)) ⟨q2, len - n, c2, hr.set (i := 1) _, hIr.below (hbut.below (by omega) (Nat.le_refl _)), hqq⟩ hb hBl, hbut.trans (But.of_below hb (Nat.le_refl _))⟩
  clear hr hI HI HR
  by_cases hcn : cap = n
  · have hcn' : (cap = n) = True := eq_true hcn
    go_enter Tryz.func28, Tryz.ntmps28
    go_wp2_with (first
      | (go_at_call 52; refine HL.out.mono ?_; rintro e w1 ⟨rfl, hw1⟩; obtain rfl : w = w1 := hw1.symm; clear hw1)
      | (go_at_call 53; refine (HOw.out _).mono ?_; rintro e w1 ⟨rfl, hown1, hb1⟩))
    refine bodyPost_ret (results_tmp2 rfl _ _ _) rfl ?_
    have hE := HEnd.out _ _ _ (by omega) (by omega) (fun _ _ _ e => by simp at e; first | exact e.1.symm | exact e.elim | cases e) hb1
    exact ⟨_, rfl, hown1, hE⟩
  · have hcn' : (cap = n) = False := eq_false hcn
    go_enter Tryz.func28, Tryz.ntmps28
    go_wp2_with (first
      | (go_at_call 52; refine HL.out.mono ?_; rintro e w1 ⟨rfl, hw1⟩; obtain rfl : w = w1 := hw1.symm; clear hw1)
      | (go_at_call 53; refine (HOw.out _).mono ?_; rintro e w1 ⟨rfl, hown1, hb1⟩))
    refine bodyPost_ret (results_tmp2 rfl _ _ _) rfl ?_
    have hE := HEnd.out _ _ _ (by omega) (fun _ => rfl) (fun _ _ _ e => by simp at e; exact e.1.symm) hb1
    exact ⟨_, rfl, hown1, hE⟩

/-- Take -/
theorem take_any (B Q : Nat) (z : Int) (zs : List Nat) (hlen : zs.length ≤ 70000) (w : World) (hT : TapeAt w B Q zs) :
    Calls Tryz.prog 28 #[.pointer (some ⟨B, 0, none⟩), .int .i64 z] w fun e w' => ∃ v, e = .returned (.tuple #[v, .int .i64 (errT z zs)]) ∧ Own w.heap.size w' v (takenT z zs) ∧ TapeAt w' B Q (restT z zs) ∧ But B w.heap.size w w' := by
  by_cases hz : z < 0
  · rw [errT, if_pos hz, takenT, if_pos (.inl hz), restT, if_pos (.inl hz)]
    refine (take_neg _ z hz w).mono ?_
    rintro e w' ⟨rfl, rfl⟩
    exact ⟨_, rfl, Own.nil _ _, hT, But.refl _ _ _⟩
  · by_cases hn : (zs.length : Int) < z
    · rw [errT, if_neg hz, if_pos hn, takenT, if_pos (.inr hn), restT, if_pos (.inr hn)]
      refine (take_over _ zs.length z hz hn w (left_any B Q zs w hT)).mono ?_
      rintro e w' ⟨rfl, rfl⟩
      exact ⟨_, rfl, Own.nil _ _, hT, But.refl _ _ _⟩
    · rw [errT, if_neg hz, if_neg hn, takenT, if_neg (by omega), restT, if_neg (by omega)]
      obtain ⟨n, rfl⟩ : ∃ n : Nat, z = (n : Int) := ⟨z.toNat, by omega⟩
      rw [Int.toNat_natCast]
      by_cases h0 : n = 0
      · subst h0
        refine (take_zero _ zs.length w (left_any B Q zs w hT)).mono ?_
        rintro e w' ⟨rfl, rfl⟩
        exact ⟨_, rfl, Own.nil _ _, hT, But.refl _ _ _⟩
      · refine (take_some B Q n zs (by omega) (by omega) hlen w hT).mono ?_
        rintro e w' ⟨g, rfl, h⟩
        exact ⟨_, rfl, h⟩

end Go.Proofs.YtclelancbfoenaaGreatDoor
/-
  What Key answers: the next 32 bytes as a key, or an error. Nothing that lay before the call has turned but the tape.
-/
namespace Go.Proofs.YtclelancbfoenaaGreatDoor
open Go.RowKit

theorem size23 : (Tryz.prog.info? 23).map (·.size) = some 32 := by kernel_rfl
theorem run_arrayAt23 (b o L C : Nat) (h : 32 ≤ L) (w : World) : (Instr.arrayAt 23 (.slice (some ⟨b, o, none⟩) L C)).run Tryz.prog w = .ok (.pointer (some ⟨b, o, none⟩)) w := by
  have h : ¬ L < 32 := by omega
  simp [Instr.arrayAt, run_underlying Tryz.underlying23, go_sem, h]

/-- A result that lies in a row, and one beside it. -/
theorem results_Row_tmp {P : Program} {fn : Func} {p u : Tmp} {ty : TypeId} (h : fn.results = #[.cell p ty, .tmp u]) {tmps : Array Value} {w : World} {g : Nat} {t : TypeId} {cs : List Value} (hp : tmps.getD p undef = .pointer (some ⟨g, 0, none⟩)) (hg : Row w g t cs)
    {n : Nat} {e : TypeId} (hu : P.underlying ty = some (.array n e)) (hi : (P.info? ty).map (·.size) = some cs.length) : (results fn tmps).run P w = .ok (.tuple #[.agg cs.toArray, tmps.getD u undef]) w := by
  rw [results_cell_tmp h, hp]
  simp [asAddr, run_loadVar_row w g t ty cs.toArray (0, 0) _ hg hu rfl (by simpa using hi)]

/-- No key. -/
def noKey : List Value := List.replicate 32 (.int .u8 0)

set_option maxRecDepth 100000 in
set_option maxHeartbeats 1000000 in
theorem key_err (a : Option Addr) (w : World) (HT : Hid (∀ W, Below w.heap.size w W → Calls Tryz.prog 28 #[.pointer a, .int .i64 32] W fun e w' => e = .returned (.tuple #[.slice none 0 0, .int .i64 60]) ∧ w' = W)) :
    Calls Tryz.prog 69 #[.pointer a] w fun e w' => e = .returned (.tuple #[.agg noKey.toArray, .int .i64 60]) ∧ Below w.heap.size w w' := by
  go_enter Tryz.func69, Tryz.ntmps69
  go_wp2_with (first
    | (go_at_call 28; refine (HT.out _ ((Below.refl _ w).alloc (Nat.le_refl _) _)).mono ?_; rintro e w1 ⟨rfl, hw1⟩; rw [hw1]; clear hw1)
    | ((with_reducible show wpList _ _ _ (Oper.mk _ (Op.store 23 (.tmp 2) (.tmp 13)) _ _ _ _ :: _) _ _); refine wpList_store_Row rfl 23 (.tmp 2) (.tmp 13) rfl noKey rfl rfl (Row.new _ _ _) size23 rfl (by decide) ?_; simp only [Act.put]))
  refine bodyPost_ret (results_Row_tmp rfl rfl (Row.sets_all (Row.new _ _ _) rfl) Tryz.underlying23 size23) rfl ?_
  exact ⟨rfl, below_setCells (Nat.le_refl _) _ _ ((Below.refl _ w).alloc (Nat.le_refl _) _)⟩

set_option maxRecDepth 100000 in
set_option maxHeartbeats 1000000 in
theorem key_some (B Q : Nat) (zs : List Nat) (h32 : 32 ≤ zs.length) (hlen : zs.length ≤ 70000) (w : World) (hT : TapeAt w B Q zs) :
    Calls Tryz.prog 69 #[.pointer (some ⟨B, 0, none⟩)] w fun e w' => e = .returned (.tuple #[.agg (u8s (zs.take 32)).toArray, .int .i64 0]) ∧ But B w.heap.size w w' := by
  have hBl := hT.lt
  have HV : Hid ((u8s (zs.take 32)).length = 32) := by show _ = _; simp; omega
  have HV1 : Hid (∀ v ∈ u8s (zs.take 32), v.oneCell' = true) := u8s_one _
  have HT8 : Hid (∀ W, Below w.heap.size w W → Calls Tryz.prog 28 #[.pointer (some ⟨B, 0, none⟩), .int .i64 32] W fun e w' => ∃ g, e = .returned (.tuple #[.slice (some ⟨g, 0, none⟩) 32 32, .int .i64 0]) ∧ W.heap.size ≤ g ∧ Row w' g 5 (u8s (zs.take 32)) ∧ But B W.heap.size W w') := fun W hW =>
    (take_some B Q 32 zs (by decide) h32 hlen W (hT.below hW hBl)).mono fun e w' ⟨g, h1, h2, _, h4⟩ => by
      unfold Own at h2
      rw [show (zs.take 32).length = 32 by simp; omega] at h2
      obtain ⟨g', cur, e1, e2, _⟩ := row_of_own h2 (by decide)
      cases e1
      exact ⟨g, h1, e2, row_of_made h2, h4⟩
  clear hT
  generalize u8s (zs.take 32) = V at *
  go_enter Tryz.func69, Tryz.ntmps69
  go_wp2_with (first
    | (go_at_call 28; refine (HT8.out _ ((Below.refl _ w).alloc (Nat.le_refl _) _)).mono ?_; rintro e w1 ⟨g, rfl, hg, hrg, hb1⟩; have hA := run_arrayAt23 g 0 32 32 (Nat.le_refl _); rw [z32u8] at hg hb1; have hr1 : Row w1 w.heap.size 23 noKey := hb1.row (by simp) (by omega) (Row.new' w 23 noKey); have HRg : Hid (Row w1 g 5 V) := hrg; have HR1 : Hid (Row w1 w.heap.size 23 noKey) := hr1; clear hrg hr1)
    | ((with_reducible show wpList _ _ _ (Oper.mk _ (Op.load 23 (.tmp 16)) _ _ _ _ :: _) _ _); refine wpList_load_Row rfl 23 (.tmp 16) rfl rfl HRg.out Tryz.underlying23 (by rw [HV.out]; exact size23) ?_; simp only [Act.put, List.setIfInBounds_toArray, List.set_cons_zero, List.set_cons_succ])
    | ((with_reducible show wpList _ _ _ (Oper.mk _ (Op.store 23 (.tmp 2) (.tmp 17)) _ _ _ _ :: _) _ _); refine wpList_store_Row rfl 23 (.tmp 2) (.tmp 17) rfl V rfl rfl HR1.out (by rw [HV.out]; exact size23) (by rw [HV.out]; rfl) HV1.out ?_; simp only [Act.put]))
  refine bodyPost_ret (results_Row_tmp rfl rfl (Row.sets_all HR1.out (by rw [HV.out]; rfl)) Tryz.underlying23 (by rw [HV.out]; exact size23)) rfl ?_
  refine ⟨rfl, ?_⟩
  have hs : (w.alloc (.cells (List.replicate 32 (Value.int .u8 0)).toArray 23)).heap.size = w.heap.size + 1 := by simp
  exact (But.of_below ((Below.refl _ w).alloc (Nat.le_refl _) _) (Nat.le_refl _)).trans ((hb1.mono (by omega)).trans (But.of_below (below_setCells (Nat.le_refl _) _ _ (Below.refl _ _)) (Nat.le_refl _)))

/-- Key of a tape; of none. -/
def keyT (zs : List Nat) : List Nat := if 32 ≤ zs.length then zs.take 32 else List.replicate 32 0
def keyE (zs : List Nat) : Int := if 32 ≤ zs.length then 0 else 60
theorem noKey_eq : u8s (List.replicate 32 0) = noKey := by simp [u8s, noKey]
theorem key_any (B Q : Nat) (zs : List Nat) (hlen : zs.length ≤ 70000) (w : World) (hT : TapeAt w B Q zs) :
    Calls Tryz.prog 69 #[.pointer (some ⟨B, 0, none⟩)] w fun e w' => e = .returned (.tuple #[.agg (u8s (keyT zs)).toArray, .int .i64 (keyE zs)]) ∧ But B w.heap.size w w' := by
  unfold keyT keyE
  by_cases h : 32 ≤ zs.length
  · rw [if_pos h, if_pos h]
    exact key_some B Q zs h hlen w hT
  · rw [if_neg h, if_neg h, noKey_eq]
    exact (key_err _ w (fun W hW => take_over _ zs.length 32 (by decide) (by omega) W (left_any B Q zs W (hT.below hW hT.lt)))).mono fun e w' ⟨h1, h2⟩ => ⟨h1, But.of_below h2 (Nat.le_refl _)⟩
theorem key_none (w : World) : Calls Tryz.prog 69 #[.pointer none] w fun e w' => e = .returned (.tuple #[.agg noKey.toArray, .int .i64 60]) ∧ Below w.heap.size w w' :=
  key_err none w (fun W _ => take_over none 0 32 (by decide) (by decide) W (left_none W))

end Go.Proofs.YtclelancbfoenaaGreatDoor
/-
  Maps in memory, as functions from keys to elements: what a look-up finds, what a store leaves. Worlds of which some blocks have turned. It names no program.
-/
namespace Go.Proofs.YtclelancbfoenaaGreatDoor
open Go Go.RowKit Go.Maps

/-- A new block, its number given. -/
theorem Row.newAt (W : World) (t : TypeId) (c : Array Value) {g : Nat} (hg : W.heap.size = g) : Row (W.alloc (.cells c t)) g t c.toList := by
  subst hg; exact Row.new W t c

/-- All below n but the blocks of S is as it was. -/
structure Buts (S : List Nat) (n : Nat) (w w' : World) : Prop where
  os : w'.os = w.os
  tape : w'.tape = w.tape
  output : w'.output = w.output
  size : w.heap.size ≤ w'.heap.size
  block : ∀ k, k < n → k ∉ S → w'.heap[k]? = w.heap[k]?
theorem Buts.refl (S : List Nat) (n : Nat) (w : World) : Buts S n w w := ⟨rfl, rfl, rfl, Nat.le_refl _, fun _ _ _ => rfl⟩
theorem Buts.trans {S : List Nat} {n : Nat} {a b c : World} (h : Buts S n a b) (k : Buts S n b c) : Buts S n a c := ⟨k.os.trans h.os, k.tape.trans h.tape, k.output.trans h.output, Nat.le_trans h.size k.size, fun i hi hB => (k.block i hi hB).trans (h.block i hi hB)⟩
theorem Buts.of_below {S : List Nat} {n m : Nat} {w w' : World} (h : Below m w w') (hm : n ≤ m) : Buts S n w w' := ⟨h.os, h.tape, h.output, h.size, fun k hk _ => h.block k (by omega)⟩
theorem Buts.of_but {S : List Nat} {B n m : Nat} {w w' : World} (h : But B m w w') (hB : B ∈ S) (hm : n ≤ m) : Buts S n w w' := ⟨h.os, h.tape, h.output, h.size, fun k hk hS => h.block k (by omega) (fun e => hS (e ▸ hB))⟩
theorem Buts.mono {S S' : List Nat} {n m : Nat} {w w' : World} (h : Buts S n w w') (hS : ∀ x ∈ S, x ∈ S') (hm : m ≤ n) : Buts S' m w w' := ⟨h.os, h.tape, h.output, h.size, fun k hk hS' => h.block k (by omega) (fun e => hS' (hS k e))⟩
theorem Buts.below {S : List Nat} {n m : Nat} {w w' : World} (h : Buts S n w w') (hn : m ≤ n) (hS : ∀ x ∈ S, m ≤ x) : Below m w w' := ⟨h.os, h.tape, h.output, h.size, fun k hk => h.block k (by omega) (fun e => by have := hS k e; omega)⟩
theorem Buts.row {S : List Nat} {n b : Nat} {w w' : World} {t : TypeId} {c : List Value} (h : Buts S n w w') (hn : b < n) (hb : b ∉ S) (hr : Row w b t c) : Row w' b t c := (h.block b hn hb).trans hr
theorem Buts.drew {S : List Nat} {n : Nat} {a w : World} (h : Buts S n a w) : Buts S n a w.drew := ⟨h.os, h.tape, h.output, h.size, h.block⟩

section
open Classical
/-- The function f with v at x. -/
def fnPut [DecidableEq Value] (f : Value → Option Value) (x v : Value) : Value → Option Value := fun y => if y = x then some v else f y
theorem fnPut_same (f : Value → Option Value) (x v : Value) : fnPut f x v x = some v := by simp [fnPut]
theorem fnPut_other {f : Value → Option Value} {x y v : Value} (h : y ≠ x) : fnPut f x v y = f y := by simp [fnPut, h]

/-- Block b is a map with the keys and elements that f tells. -/
def MapAt (P : Program) (k : TypeId) (W : World) (b : Nat) (f : Value → Option Value) : Prop :=
  ∃ es clock, W.heap[b]? = some (.map es clock) ∧ (∀ e ∈ es.toList, ∃ l, keyOf P k e.key = some l) ∧ es.toList.Pairwise (fun x y => x.key ≠ y.key) ∧ (∀ e ∈ es.toList, f e.key = some e.val) ∧ ∀ x v, f x = some v → ∃ e ∈ es.toList, e.key = x

section
variable {P : Program} {k : TypeId} {w : World} {b : Nat} {f : Value → Option Value}

theorem MapAt.lt (h : MapAt P k w b f) : b < w.heap.size := by
  obtain ⟨_, _, h, _⟩ := h
  exact (Array.getElem?_eq_some_iff.1 h).1
theorem MapAt.kept {w' : World} (h : MapAt P k w b f) (hb : w'.heap[b]? = w.heap[b]?) : MapAt P k w' b f := by
  obtain ⟨es, clock, h1, h2⟩ := h
  exact ⟨es, clock, hb.trans h1, h2⟩
theorem MapAt.below {w' : World} {n : Nat} (h : MapAt P k w b f) (hb : Below n w w') (hn : b < n) : MapAt P k w' b f := h.kept (hb.block b hn)
theorem MapAt.buts {S : List Nat} {w' : World} {n : Nat} (h : MapAt P k w b f) (hb : Buts S n w w') (hn : b < n) (hS : b ∉ S) : MapAt P k w' b f := h.kept (hb.block b hn hS)
theorem MapAt.but {B : Nat} {w' : World} {n : Nat} (h : MapAt P k w b f) (hb : But B n w w') (hn : b < n) (hS : b ≠ B) : MapAt P k w' b f := h.kept (hb.block b hn hS)
theorem MapAt.new (P : Program) (k : TypeId) (w : World) : MapAt P k (w.alloc (.map #[] 0)) w.heap.size (fun _ => none) :=
  ⟨#[], 0, (MapKept.heap_alloc w _).1, by simp, by simp, by simp, by simp⟩

theorem MapAt.look {t e : TypeId} (c : Bool) (h : MapAt P k w b f) (K : Keyed P k) (ht : P.underlying t = some (.map k e)) {z : Value} (hz : (zeroValue e).run P w = .ok z w) {key : Value} {kl : Lit} (hkey : keyOf P k key = some kl) :
    (Instr.lookup t (.map (some b)) key c).run P w = .ok (if c then .tuple #[(f key).getD z, .bool (f key).isSome] else (f key).getD z) w := by
  obtain ⟨es, clock, hb, hks, hp, hf, hx⟩ := h
  rcases K.find w hkey es.toList hks with ⟨h1, h2⟩ | ⟨j, e0, h1, h2, h3⟩
  · have hn : f key = none := by
      cases hv : f key with
      | none => rfl
      | some v => obtain ⟨e', he', hk'⟩ := hx key v hv; exact absurd hk' (h2 e' he')
    rw [hn]
    simp [Instr.lookup, run_underlying ht, MapKept.run_getObj_map hb, K.check w _ hkey, h1, hz, Result.andThen]
  · have hv : f key = some e0.val := by rw [← h3]; exact hf e0 (List.mem_of_getElem? h2)
    rw [hv]
    simp [Instr.lookup, run_underlying ht, MapKept.run_getObj_map hb, K.check w _ hkey, h1, Result.andThen]

theorem MapAt.store {t e : TypeId} (h : MapAt P k w b f) (K : Keyed P k) (ht : P.underlying t = some (.map k e)) {key : Value} {kl : Lit} (val : Value) (hkey : keyOf P k key = some kl) (n : Nat) :
    ∃ w', (Instr.mapUpdate t (.map (some b)) key val).run P w = .ok () w' ∧ MapAt P k w' b (fnPut f key val) ∧ But b n w w' := by
  obtain ⟨es, clock, hb, hks, hp, hf, hx⟩ := h
  have hbut : ∀ o, But b n w (ChangeMaps.setBlock w b o) := fun o => ⟨rfl, rfl, rfl, by simp [ChangeMaps.setBlock], fun i _ hi => ChangeMaps.heap_setBlock_other hb _ hi⟩
  rcases K.find w hkey es.toList hks with ⟨h1, h2⟩ | ⟨j, e0, h1, h2, h3⟩
  · refine ⟨ChangeMaps.setBlock w b (.map (es.push ⟨key, val, clock⟩) (clock + 1)), ?_, ⟨_, _, ChangeMaps.heap_setBlock_same hb _, ?_, ?_, ?_, ?_⟩, hbut _⟩
    · simp [Instr.mapUpdate, run_underlying ht, MapKept.run_getObj_map hb, K.check w false hkey, h1, MapKept.run_setObj_map _ hb, Result.andThen, ChangeMaps.setBlock]
    · intro x hx'
      simp only [Array.toList_push, List.mem_append, List.mem_singleton] at hx'
      rcases hx' with hx' | rfl
      · exact hks x hx'
      · exact ⟨kl, hkey⟩
    · rw [Array.toList_push, List.pairwise_append]
      exact ⟨hp, by simp, fun x hx' y hy => by simp only [List.mem_singleton] at hy; subst hy; exact h2 x hx'⟩
    · intro x hx'
      simp only [Array.toList_push, List.mem_append, List.mem_singleton] at hx'
      rcases hx' with hx' | rfl
      · rw [fnPut_other (h2 x hx')]; exact hf x hx'
      · exact fnPut_same _ _ _
    · intro x v hv
      by_cases hxk : x = key
      · exact ⟨⟨key, val, clock⟩, by simp, hxk.symm⟩
      · rw [fnPut_other hxk] at hv
        obtain ⟨e', he', hk'⟩ := hx x v hv
        exact ⟨e', by simp [he'], hk'⟩
  · have hj : es[j]? = some e0 := by simpa using h2
    have hjl : j < es.toList.length := (List.getElem?_eq_some_iff.1 h2).1
    have hlist : (es.modify j (fun e' => { e' with key := key, val := val })).toList = es.toList.set j { e0 with key := key, val := val } := by rw [Array.toList_modify, ChangeMaps.modify_eq_set _ _ _ _ h2]
    have hmem : ∀ x ∈ es.toList.set j { e0 with key := key, val := val }, x = { e0 with key := key, val := val } ∨ (x ∈ es.toList ∧ x.key ≠ key) := by
      intro x hx'
      obtain ⟨i, hi, ex⟩ := List.getElem_of_mem hx'
      rw [List.getElem_set] at ex
      split at ex
      · exact Or.inl ex.symm
      · rename_i hne
        have hi' : i < es.toList.length := by simpa using hi
        refine Or.inr ⟨ex ▸ List.getElem_mem hi', ?_⟩
        have hej : es.toList[j] = e0 := by simpa using (List.getElem?_eq_some_iff.1 h2).2
        have hpw := List.pairwise_iff_getElem.1 hp
        have hne2 : es.toList[i].key ≠ es.toList[j].key := by
          rcases Nat.lt_or_ge i j with hl | hl
          · exact hpw i j hi' hjl hl
          · exact (hpw j i hjl hi' (by omega)).symm
        rw [hej, h3, ex] at hne2
        exact hne2
    refine ⟨ChangeMaps.setBlock w b (.map (es.modify j (fun e' => { e' with key := key, val := val })) clock), ?_, ⟨_, _, ChangeMaps.heap_setBlock_same hb _, ?_, ?_, ?_, ?_⟩, hbut _⟩
    · simp [Instr.mapUpdate, run_underlying ht, MapKept.run_getObj_map hb, K.check w false hkey, h1, hj, h3, K.stays w hkey, MapKept.run_setObj_map _ hb, Result.andThen, ChangeMaps.setBlock]
    · intro x hx'
      rw [hlist] at hx'
      rcases hmem x hx' with rfl | ⟨hx', _⟩
      · exact ⟨kl, hkey⟩
      · exact hks x hx'
    · rw [hlist, List.pairwise_iff_getElem]
      intro i i' hi hi' hlt
      have hpw := List.pairwise_iff_getElem.1 hp i i' (by simpa using hi) (by simpa using hi') hlt
      have hej : es.toList[j] = e0 := by simpa using (List.getElem?_eq_some_iff.1 h2).2
      rw [List.getElem_set, List.getElem_set]
      by_cases e1 : j = i
      · subst e1
        rw [if_pos rfl, if_neg (by omega)]
        rw [hej, h3] at hpw
        exact hpw
      · rw [if_neg e1]
        by_cases e2 : j = i'
        · subst e2
          rw [if_pos rfl]
          rw [hej, h3] at hpw
          exact hpw
        · rw [if_neg e2]; exact hpw
    · intro x hx'
      rw [hlist] at hx'
      rcases hmem x hx' with rfl | ⟨hx', hne⟩
      · exact fnPut_same _ _ _
      · rw [fnPut_other hne]; exact hf x hx'
    · intro x v hv
      rw [hlist]
      by_cases hxk : x = key
      · exact ⟨{ e0 with key := key, val := val }, List.mem_iff_getElem.2 ⟨j, by simpa using hjl, by simp⟩, hxk.symm⟩
      · rw [fnPut_other hxk] at hv
        obtain ⟨e', he', hk'⟩ := hx x v hv
        obtain ⟨i, hi, ei⟩ := List.getElem_of_mem he'
        refine ⟨e', List.mem_iff_getElem.2 ⟨i, by simpa using hi, ?_⟩, hk'⟩
        rw [List.getElem_set, if_neg]
        · exact ei
        · rintro rfl
          have hej : es.toList[j] = e0 := by simpa using (List.getElem?_eq_some_iff.1 h2).2
          exact hxk (by rw [← hk', ← ei, hej, h3])

variable {ops : Array Oper} {rest : List Oper} {o : Oper} {a : Act} {Q : Exit → Act → World → Prop}

/-- A look-up, at the operation. -/
theorem wpList_look (c : Bool) (r : Option Value) (hg : o.guard = none) (m x : Operand) (t e : TypeId) (hop : o.op = Op.lookup t m x c) (K : Keyed P k) (ht : P.underlying t = some (.map k e)) {z : Value} (hz : (zeroValue e).run P w = .ok z w)
    (hm : a.eval m = .map (some b)) (h : MapAt P k w b f) {key : Value} {kl : Lit} (hx : a.eval x = key) (hkey : keyOf P k key = some kl) (hr : f key = r)
    (hK : wpList P ops Q rest (a.put o.dst (if c then .tuple #[r.getD z, .bool r.isSome] else r.getD z)) w) : wpList P ops Q (o :: rest) a w := by
  refine wpList_plain hg fun K' hK' => ?_
  have hrun := h.look c K ht hz hkey
  rw [hr] at hrun
  generalize (if c = true then Value.tuple #[r.getD z, Value.bool r.isSome] else r.getD z) = V at hrun hK
  unfold Oper.wp
  simp [execOp, hop, hm, hx, hrun, Result.andThen]
  exact hK' _ _ hK
theorem wpList_lookOk_none (hg : o.guard = none) (m x : Operand) (t e : TypeId) (hop : o.op = Op.lookup t m x true) (K : Keyed P k) (ht : P.underlying t = some (.map k e)) {z : Value} (hz : (zeroValue e).run P w = .ok z w)
    (hm : a.eval m = .map (some b)) (h : MapAt P k w b f) {key : Value} {kl : Lit} (hx : a.eval x = key) (hkey : keyOf P k key = some kl) (hr : f key = none)
    (hK : wpList P ops Q rest (a.put o.dst (.tuple #[z, .bool false])) w) : wpList P ops Q (o :: rest) a w :=
  wpList_look true none hg m x t e hop K ht hz hm h hx hkey hr hK
theorem wpList_lookOk_some (hg : o.guard = none) (m x : Operand) (t e : TypeId) (hop : o.op = Op.lookup t m x true) (K : Keyed P k) (ht : P.underlying t = some (.map k e)) {z : Value} (hz : (zeroValue e).run P w = .ok z w)
    (hm : a.eval m = .map (some b)) (h : MapAt P k w b f) {key : Value} {kl : Lit} (hx : a.eval x = key) (hkey : keyOf P k key = some kl) {v : Value} (hr : f key = some v)
    (hK : wpList P ops Q rest (a.put o.dst (.tuple #[v, .bool true])) w) : wpList P ops Q (o :: rest) a w :=
  wpList_look true (some v) hg m x t e hop K ht hz hm h hx hkey hr hK
theorem wpList_look_val (hg : o.guard = none) (m x : Operand) (t e : TypeId) (hop : o.op = Op.lookup t m x false) (K : Keyed P k) (ht : P.underlying t = some (.map k e)) {z : Value} (hz : (zeroValue e).run P w = .ok z w)
    (hm : a.eval m = .map (some b)) (h : MapAt P k w b f) {key : Value} {kl : Lit} (hx : a.eval x = key) (hkey : keyOf P k key = some kl) {v : Value} (hr : (f key).getD z = v)
    (hK : wpList P ops Q rest (a.put o.dst v) w) : wpList P ops Q (o :: rest) a w :=
  wpList_look false (f key) hg m x t e hop K ht hz hm h hx hkey rfl (by rw [hr]; exact hK)

/-- A store, at the operation. -/
theorem wpList_mapStore (n : Nat) (hg : o.guard = none) (m x v : Operand) (t e : TypeId) (hop : o.op = Op.mapUpdate t m x v) (K : Keyed P k) (ht : P.underlying t = some (.map k e))
    (hm : a.eval m = .map (some b)) (h : MapAt P k w b f) {key val : Value} {kl : Lit} (hx : a.eval x = key) (hv : a.eval v = val) (hkey : keyOf P k key = some kl)
    (hK : ∀ w', MapAt P k w' b (fnPut f key val) → But b n w w' → wpList P ops Q rest (a.put o.dst undef) w') : wpList P ops Q (o :: rest) a w := by
  refine wpList_plain hg fun K' hK' => ?_
  obtain ⟨w', hrun, r1, r2⟩ := h.store K ht val hkey n
  unfold Oper.wp
  simp [execOp, hop, hm, hx, hv, hrun, Result.andThen]
  exact hK' _ _ (hK w' r1 r2)
theorem wp_mapStore {K' : Act → World → Prop} (n : Nat) (m x v : Operand) (t e : TypeId) (hop : o.op = Op.mapUpdate t m x v) (K : Keyed P k) (ht : P.underlying t = some (.map k e))
    (hm : a.eval m = .map (some b)) (h : MapAt P k w b f) {key val : Value} {kl : Lit} (hx : a.eval x = key) (hv : a.eval v = val) (hkey : keyOf P k key = some kl)
    (hK : ∀ w', MapAt P k w' b (fnPut f key val) → But b n w w' → K' (a.put o.dst undef) w') : Oper.wp P o a w K' Q := by
  obtain ⟨w', hrun, r1, r2⟩ := h.store K ht val hkey n
  unfold Oper.wp
  simp [execOp, hop, hm, hx, hv, hrun, Result.andThen]
  exact hK w' r1 r2
end

end
end Go.Proofs.YtclelancbfoenaaGreatDoor
/-
  A suite in memory, and what New, isMade, Size make of it. Nothing that lay before a call has turned.
-/
namespace Go.Proofs.YtclelancbfoenaaGreatDoor
open Go.RowKit

/-- Block S is a suite. -/
def SuiteAt (W : World) (S : Nat) (mode : Int) (t d g : Option Addr) : Prop := Row W S 47 [.bool true, .int .i64 mode, .pointer t, .pointer d, .pointer g]
theorem SuiteAt.below {W W' : World} {S n : Nat} {mode : Int} {t d g : Option Addr} (h : SuiteAt W S mode t d g) (hb : Below n W W') (hn : S < n) : SuiteAt W' S mode t d g := Row.below h hb hn
theorem SuiteAt.later {W W' : World} {S : Nat} {mode : Int} {t d g : Option Addr} (h : SuiteAt W S mode t d g) (hb : Below W.heap.size W W') : SuiteAt W' S mode t d g := Row.later h hb

set_option maxHeartbeats 1000000 in
theorem isMade_some (S : Nat) (mode : Int) (t d g : Option Addr) (w : World) (h : SuiteAt w S mode t d g) :
    Calls Tryz.prog 13 #[.pointer (some ⟨S, 0, none⟩)] w fun e w' => e = .returned (.bool true) ∧ w' = w := by
  have c0 := Row.cell h (i := 0) rfl
  clear h
  go_enter Tryz.func13, Tryz.ntmps13
  go_wp2
  go_ret
  exact ⟨rfl, rfl⟩
set_option maxHeartbeats 1000000 in
theorem isMade_none (w : World) : Calls Tryz.prog 13 #[.pointer none] w fun e w' => e = .returned (.bool false) ∧ w' = w := by
  go_enter Tryz.func13, Tryz.ntmps13
  go_wp2
  go_ret
  exact ⟨rfl, rfl⟩

/-- newDigests: a map without an entry, and a block that leads to it. -/
def digestsW (w : World) : World := (w.alloc (.map #[] 0)).alloc (.cells #[.map (some w.heap.size), .bool false, .string ByteArray.empty, .string ByteArray.empty] 61)
set_option maxHeartbeats 1000000 in
theorem newDigests_any (w : World) : Calls Tryz.prog 11 #[] w fun e w' => e = .returned (.pointer (some ⟨w.heap.size + 1, 0, none⟩)) ∧ w' = digestsW w := by
  have hmm := @run_makeMap Tryz.prog
  go_enter Tryz.func11, Tryz.ntmps11
  go_wp2
  go_ret
  exact ⟨by simp, rfl⟩

/-- newDrawn: four maps without an entry, and a block that leads to them. -/
def mapsW (w : World) : World := (((w.alloc (.map #[] 0)).alloc (.map #[] 0)).alloc (.map #[] 0)).alloc (.map #[] 0)
def drawnW (w : World) (t : Option Addr) : World := (mapsW w).alloc (.cells #[.pointer t, .map (some w.heap.size), .map (some (w.heap.size + 1)), .map (some (w.heap.size + 2)), .map (some (w.heap.size + 3))] 67)
set_option maxHeartbeats 1000000 in
theorem newDrawn_any (t : Option Addr) (w : World) : Calls Tryz.prog 12 #[.pointer t] w fun e w' => e = .returned (.pointer (some ⟨w.heap.size + 4, 0, none⟩)) ∧ w' = drawnW w t := by
  have hmm := @run_makeMap Tryz.prog
  go_enter Tryz.func12, Tryz.ntmps12
  go_wp2
  go_ret
  exact ⟨by simp, by simp [drawnW, mapsW]⟩

theorem below_digestsW (w : World) : Below w.heap.size w (digestsW w) := ((Below.refl _ w).alloc (Nat.le_refl _) _).alloc (by simp) _
theorem size_digestsW (w : World) : (digestsW w).heap.size = w.heap.size + 2 := by simp [digestsW]
theorem below_drawnW (w : World) (t : Option Addr) : Below w.heap.size w (drawnW w t) := ((((((Below.refl _ w).alloc (Nat.le_refl _) _).alloc (by simp) _).alloc (by simp; omega) _).alloc (by simp; omega) _).alloc (by simp; omega) _)
theorem size_drawnW (w : World) (t : Option Addr) : (drawnW w t).heap.size = w.heap.size + 5 := by simp [drawnW, mapsW]

set_option maxHeartbeats 1000000 in
/-- New of a real suite. -/
theorem newReal_any (t : Option Addr) (w : World) : Calls Tryz.prog 5 #[.int .i64 0, .pointer t] w fun e w' => ∃ S g, e = .returned (.pointer (some ⟨S, 0, none⟩)) ∧ w.heap.size ≤ S ∧ SuiteAt w' S 0 t none g ∧ Below w.heap.size w w' := by
  go_enter Tryz.func5, Tryz.ntmps5
  go_wp2_with (go_at_call 11; refine (newDigests_any _).mono ?_; rintro e w1 ⟨rfl, rfl⟩)
  go_ret
  have hs := size_digestsW w
  exact ⟨_, _, rfl, by omega, Row.new _ _ _, (below_digestsW w).alloc (by omega) _⟩

/-- An ideal suite without an entry: all that it has is new. -/
structure FreshAt (W : World) (n S : Nat) (t : Option Addr) : Prop where
  suite : SuiteAt W S 1 t (some ⟨n + 6, 0, none⟩) (some ⟨n + 1, 0, none⟩)
  drawn : Row W (n + 6) 67 [.pointer t, .map (some (n + 2)), .map (some (n + 3)), .map (some (n + 4)), .map (some (n + 5))]
  keys : MapAt Tryz.prog 183 W (n + 2) (fun _ => none)
  ids : MapAt Tryz.prog 9 W (n + 3) (fun _ => none)
  seals : MapAt Tryz.prog 69 W (n + 4) (fun _ => none)
  asked : MapAt Tryz.prog 9 W (n + 5) (fun _ => none)

set_option maxRecDepth 100000 in
set_option maxHeartbeats 1000000 in
/-- New of an ideal suite. -/
theorem newIdeal_any (t : Option Addr) (w : World) : Calls Tryz.prog 5 #[.int .i64 1, .pointer t] w fun e w' => e = .returned (.pointer (some ⟨w.heap.size + 7, 0, none⟩)) ∧ FreshAt w' w.heap.size (w.heap.size + 7) t ∧ Below w.heap.size w w' ∧ w'.heap.size = w.heap.size + 8 := by
  go_enter Tryz.func5, Tryz.ntmps5
  go_wp2_with (first
    | (go_at_call 11; refine (newDigests_any _).mono ?_; rintro e w1 ⟨rfl, rfl⟩)
    | (go_at_call 12; refine (newDrawn_any _ _).mono ?_; rintro e w1 ⟨rfl, rfl⟩))
  go_ret
  have hs := size_digestsW w
  have hs2 := size_drawnW (digestsW w) t
  have hsz : (drawnW (digestsW w) t).heap.size = w.heap.size + 7 := by omega
  have hb : Below (w.heap.size + 7) (drawnW (digestsW w) t) ((drawnW (digestsW w) t).alloc (.cells #[.bool true, .int .i64 1, .pointer t, .pointer (some ⟨(digestsW w).heap.size + 4, 0, none⟩), .pointer (some ⟨w.heap.size + 1, 0, none⟩)] 47)) := (Below.refl _ _).alloc (by omega) _
  refine ⟨by rw [hsz]; rfl, ⟨?_, ?_, ?_, ?_, ?_, ?_⟩, ((below_digestsW w).trans ((below_drawnW _ t).mono (by omega))).alloc (by omega) _, by simp [hsz]⟩
  · have h := Row.new (drawnW (digestsW w) t) 47 #[.bool true, .int .i64 1, .pointer t, .pointer (some ⟨(digestsW w).heap.size + 4, 0, none⟩), .pointer (some ⟨w.heap.size + 1, 0, none⟩)]
    rw [hsz] at h
    rw [hs] at h ⊢
    exact h
  · refine Row.below ?_ hb (by omega)
    have h := Row.new (mapsW (digestsW w)) 67 #[.pointer t, .map (some (digestsW w).heap.size), .map (some ((digestsW w).heap.size + 1)), .map (some ((digestsW w).heap.size + 2)), .map (some ((digestsW w).heap.size + 3))]
    have e : (mapsW (digestsW w)).heap.size = w.heap.size + 6 := by simp [mapsW, hs]
    rw [e] at h
    rw [drawnW]
    rw [hs] at h ⊢
    exact h
  · refine MapAt.below ?_ hb (by omega)
    have h := MapAt.new Tryz.prog 183 (digestsW w)
    rw [hs] at h
    exact ((((h.below ((Below.refl _ _).alloc (Nat.le_refl _) _) (by simp [hs])).below ((Below.refl _ _).alloc (Nat.le_refl _) _) (by simp [hs])).below ((Below.refl _ _).alloc (Nat.le_refl _) _) (by simp [hs])).below ((Below.refl _ _).alloc (Nat.le_refl _) _) (by simp [hs]))
  · refine MapAt.below ?_ hb (by omega)
    have h := MapAt.new Tryz.prog 9 ((digestsW w).alloc (.map #[] 0))
    rw [World.size_alloc, hs] at h
    exact (((h.below ((Below.refl _ _).alloc (Nat.le_refl _) _) (by simp [hs])).below ((Below.refl _ _).alloc (Nat.le_refl _) _) (by simp [hs])).below ((Below.refl _ _).alloc (Nat.le_refl _) _) (by simp [hs]))
  · refine MapAt.below ?_ hb (by omega)
    have h := MapAt.new Tryz.prog 69 (((digestsW w).alloc (.map #[] 0)).alloc (.map #[] 0))
    rw [World.size_alloc, World.size_alloc, hs] at h
    exact ((h.below ((Below.refl _ _).alloc (Nat.le_refl _) _) (by simp [hs])).below ((Below.refl _ _).alloc (Nat.le_refl _) _) (by simp [hs]))
  · refine MapAt.below ?_ hb (by omega)
    have h := MapAt.new Tryz.prog 9 ((((digestsW w).alloc (.map #[] 0)).alloc (.map #[] 0)).alloc (.map #[] 0))
    rw [World.size_alloc, World.size_alloc, World.size_alloc, hs] at h
    exact (h.below ((Below.refl _ _).alloc (Nat.le_refl _) _) (by simp [hs]))

theorem bucketN_le (z : Int) : bucketN z ≤ 65536 := by
  by_cases h : z < 0 ∨ 65532 < z
  · rw [bucketN_none h]; omega
  · have := bucketN_pos (z := z) (by omega) (by omega); omega
/-- The length of a sealed text. -/
def sizeN (z : Int) : Nat := if bucketN z = 0 then 0 else 44 + bucketN z

set_option maxHeartbeats 1000000 in
theorem sealedSize_any (z : Int) (hz : -9223372036854775808 ≤ z ∧ z ≤ 9223372036854775807) (w : World) :
    Calls Tryz.prog 14 #[.int .i64 z] w fun e w' => e = .returned (.int .i64 (sizeN z : Nat)) ∧ Below w.heap.size w w' := by
  have HB := bucket_any z hz w
  have hle : bucketN z ≤ 65536 := bucketN_le z
  have HS : Hid (sizeN z = if bucketN z = 0 then 0 else 44 + bucketN z) := rfl
  generalize bucketN z = k at *
  by_cases hk : k = 0
  · subst hk
    have HBH : Hid (Calls Tryz.prog 25 #[.int .i64 z] w fun e w' => e = .returned (.int .i64 ((0 : Nat) : Int)) ∧ Below w.heap.size w w') := HB
    clear HB
    go_enter Tryz.func14, Tryz.ntmps14
    go_wp2_with (go_at_call 25; refine HBH.out.mono ?_; rintro e w1 ⟨rfl, hb1⟩)
    go_ret
    exact ⟨by rw [HS.out]; rfl, hb1⟩
  · have HBH : Hid (Calls Tryz.prog 25 #[.int .i64 z] w fun e w' => e = .returned (.int .i64 (k : Nat)) ∧ Below w.heap.size w w') := HB
    clear HB
    have hk0 : ((k : Int) == 0) = false := by simp; omega
    have e1 : IntKind.i64.wrap (44 + (k : Int)) = ((44 + k : Nat) : Int) := by rw [IntKind.wrap_i64]; omega
    go_enter Tryz.func14, Tryz.ntmps14
    go_wp2_with (go_at_call 25; refine HBH.out.mono ?_; rintro e w1 ⟨rfl, hb1⟩)
    go_ret
    exact ⟨by rw [HS.out, if_neg hk]; push_cast; rfl, hb1⟩

set_option maxHeartbeats 1000000 in
theorem size_some (S : Nat) (mode : Int) (t d g : Option Addr) (z : Int) (hz : -9223372036854775808 ≤ z ∧ z ≤ 9223372036854775807) (w : World) (h : SuiteAt w S mode t d g) :
    Calls Tryz.prog 9 #[.pointer (some ⟨S, 0, none⟩), .int .i64 z] w fun e w' => e = .returned (.int .i64 (sizeN z : Nat)) ∧ Below w.heap.size w w' := by
  have HM : Hid (Calls Tryz.prog 13 #[.pointer (some ⟨S, 0, none⟩)] w fun e w' => e = .returned (.bool true) ∧ w' = w) := isMade_some S mode t d g w h
  have HS : Hid (Calls Tryz.prog 14 #[.int .i64 z] w fun e w' => e = .returned (.int .i64 (sizeN z : Nat)) ∧ Below w.heap.size w w') := sealedSize_any z hz w
  clear h
  generalize sizeN z = k at *
  go_enter Tryz.func9, Tryz.ntmps9
  go_wp2_with (first
    | (go_at_call 13; refine HM.out.mono ?_; rintro e w1 ⟨rfl, hw1⟩; obtain rfl : w = w1 := hw1.symm; clear hw1)
    | (go_at_call 14; refine HS.out.mono ?_; rintro e w1 ⟨rfl, hb1⟩))
  go_ret
  exact ⟨rfl, hb1⟩
theorem size_none (z : Int) (w : World) : Calls Tryz.prog 9 #[.pointer none, .int .i64 z] w fun e w' => e = .returned (.int .i64 0) ∧ w' = w := by
  go_enter Tryz.func9, Tryz.ntmps9
  go_wp2_with (go_at_call 13; refine (isMade_none _).mono ?_; rintro e w1 ⟨rfl, hw1⟩; obtain rfl : w = w1 := hw1.symm; clear hw1)
  go_ret
  exact ⟨rfl, rfl⟩

end Go.Proofs.YtclelancbfoenaaGreatDoor
/-
  A suite without draws digests nothing; the law's awake. Nothing that lay before a call has turned.
-/
namespace Go.Proofs.YtclelancbfoenaaGreatDoor
open Go.RowKit Go.Shelf

theorem size39 : (Tryz.prog.info? 39).map (·.size) = some 32 := by kernel_rfl
theorem keyedStr : Maps.Keyed Tryz.prog 9 := Maps.string_keyed Tryz.underlying9
theorem zero40 (w : World) : (zeroValue 39).run Tryz.prog w = .ok (.agg noKey.toArray) w := by kernel_rfl

set_option maxRecDepth 100000 in
set_option maxHeartbeats 1000000 in
/-- The draw of an id: there is no tape. -/
theorem id1_none (b D : Nat) (w : World) (hb : w.cell? ⟨b, 0, none⟩ = some (.pointer (some ⟨D, 0, none⟩))) (hd : w.cell? ⟨D, 0, none⟩ = some (.pointer none)) :
    Calls Tryz.prog 68 #[.pointer (some ⟨b, 0, none⟩)] w fun e w' => e = .returned (.tuple #[.agg noKey.toArray, .int .i64 60]) ∧ Below w.heap.size w w' := by
  have hb' : ∀ o, (w.alloc o).cell? ⟨b, 0, none⟩ = some (.pointer (some ⟨D, 0, none⟩)) := fun o => Lib.cell?_alloc_some _ hb
  have hd' : ∀ o, (w.alloc o).cell? ⟨D, 0, none⟩ = some (.pointer none) := fun o => Lib.cell?_alloc_some _ hd
  clear hb hd
  go_enter Tryz.func68, Tryz.ntmps68
  go_wp2_with (first
    | (go_at_call 69; refine (key_none _).mono ?_; rintro e w1 ⟨rfl, hb1⟩; rw [z32u8, World.size_alloc] at hb1; have HR1 : Hid (Row w1 w.heap.size 39 noKey) := Row.below (Row.new' w 39 noKey) hb1 (by omega); have HB1 : Hid (Below w.heap.size w w1) := ((Below.refl _ w).alloc (Nat.le_refl _) _).trans (hb1.mono (by omega)); have hs1 : w.heap.size < w1.heap.size := by have := hb1.size; simp at this; omega)
    | ((with_reducible show wpList _ _ _ (Oper.mk _ (Op.store 23 (.tmp 3) (.tmp 11)) _ _ _ _ :: _) _ _); refine wpList_store_Row rfl 23 (.tmp 3) (.tmp 11) rfl noKey rfl rfl (Row.new _ _ _) size23 rfl (by decide) ?_; simp only [Act.put])
    | ((with_reducible show wpList _ _ _ (Oper.mk _ (Op.load 23 (.tmp 3)) _ _ _ _ :: _) _ _); refine wpList_load_Row rfl 23 (.tmp 3) rfl rfl (Row.sets_all (Row.new _ _ _) rfl) Tryz.underlying23 size23 ?_; simp only [Act.put, List.setIfInBounds_toArray, List.set_cons_zero, List.set_cons_succ])
    | ((with_reducible show wpList _ _ _ (Oper.mk _ (Op.store 39 (.tmp 1) (.tmp 13)) _ _ _ _ :: _) _ _); refine wpList_store_Row rfl 39 (.tmp 1) (.tmp 13) rfl noKey rfl rfl (Row.below HR1.out (below_setCells (Nat.le_refl _) _ _ ((Below.refl _ w1).alloc (Nat.le_refl _) _)) hs1) size39 rfl (by decide) ?_; simp only [Act.put]))
  have HR2 := Row.below HR1.out (below_setCells (Nat.le_refl _) noKey 0 ((Below.refl _ w1).alloc (Nat.le_refl _) (.cells (List.replicate 32 (Value.int .u8 0)).toArray 23))) hs1
  refine bodyPost_ret (results_Row_tmp rfl rfl (Row.sets_all HR2 rfl) Tryz.underlying39 size39) rfl ?_
  refine ⟨rfl, ?_⟩
  exact below_setCells (Nat.le_refl _) _ _ (HB1.out.trans ((below_setCells (Nat.le_refl _) _ _ ((Below.refl _ w1).alloc (Nat.le_refl _) _)).mono (by omega)))

set_option maxRecDepth 100000 in
set_option maxHeartbeats 1000000 in
/-- What is not known, and can't be drawn. -/
theorem knownId_err (m b : Nat) (s : ByteArray) (hs : s.size ≤ maxLen) (f : Value → Option Value) (w : World) (hM : MapAt Tryz.prog 9 w m f) (hf : f (.string s) = none)
    (HC : Hid (∀ W, Below w.heap.size w W → Calls Tryz.prog 68 #[.pointer (some ⟨b, 0, none⟩)] W fun e w' => e = .returned (.tuple #[.agg noKey.toArray, .int .i64 60]) ∧ Below W.heap.size W w')) :
    Calls Tryz.prog 67 #[.map (some m), .string s, .func (.func 68) #[] #[.pointer (some ⟨b, 0, none⟩)]] w fun e w' => e = .returned (.tuple #[.agg noKey.toArray, .int .i64 60]) ∧ Below w.heap.size w w' := by
  have HM : Hid (∀ o, MapAt Tryz.prog 9 (w.alloc o) m f) := fun o => hM.below ((Below.refl _ w).alloc (Nat.le_refl _) o) hM.lt
  have HK : Hid (keyOf Tryz.prog 9 (.string s) = some (.string s.data.toList)) := WideMaps.keyOf_string_mk Tryz.underlying9 hs
  have HF : Hid (f (.string s) = none) := hf
  have HX : Hid (Below w.heap.size w (w.alloc (.cells noKey.toArray 39)) ∧ (w.alloc (.cells noKey.toArray 39)).heap.size = w.heap.size + 1) := ⟨(Below.refl _ w).alloc (Nat.le_refl _) _, by simp⟩
  clear hM hs hf
  go_enter Tryz.func67, Tryz.ntmps67
  go_wp2_with (first
    | (at_lookup; refine wpList_lookOk_none rfl _ _ 63 39 rfl keyedStr Tryz.underlying63 (zero40 _) rfl (HM.out _) rfl HK.out HF.out ?_)
    | ((with_reducible show wpList _ _ _ (Oper.mk _ (Op.store 39 (.tmp 8) (.tmp 16)) _ _ _ _ :: _) _ _); refine wpList_store_Row rfl 39 (.tmp 8) (.tmp 16) rfl noKey rfl rfl (Row.newAt _ _ _ (by simp)) size39 rfl (by decide) ?_; simp only [Act.put]))
  rw [z32u8]
  obtain ⟨w0, hw0⟩ : ∃ w0, World.setCells ((w.alloc (.cells (List.replicate 32 (Value.int .u8 0)).toArray 39)).alloc (.cells (List.replicate 32 (Value.int .u8 0)).toArray 39)) (w.heap.size + 1) 0 noKey = w0 := ⟨_, rfl⟩
  rw [hw0]
  have hr0 : Row w0 w.heap.size 39 noKey := by rw [← hw0]; exact Row.below ((Row.new' w 39 noKey).alloc _) (below_setCells (B := w.heap.size + 1) (Nat.le_refl _) _ _ (Below.refl _ _)) (by omega)
  have hb0 : Below w.heap.size w w0 := by rw [← hw0]; exact below_setCells (by omega) _ _ (((Below.refl _ w).alloc (Nat.le_refl _) _).alloc (by simp) _)
  clear hw0
  refine (HC.out _ hb0).mono ?_
  rintro e w1 ⟨rfl, hb1⟩
  have HR1 : Hid (Row w1 w.heap.size 39 noKey) := Row.later hr0 hb1
  have HB1 : Hid (Below w.heap.size w w1) := hb0.trans (hb1.mono hb0.size)
  clear hr0 hb0 hb1
  go_wp2_with (first
    | ((with_reducible show wpList _ _ _ (Oper.mk _ (Op.store 39 (.tmp 10) (.tmp 23)) _ _ _ _ :: _) _ _); refine wpList_store_Row rfl 39 (.tmp 10) (.tmp 23) rfl noKey rfl rfl (Row.new _ _ _) size39 rfl (by decide) ?_; simp only [Act.put])
    | ((with_reducible show wpList _ _ _ (Oper.mk _ (Op.load 39 (.tmp 10)) _ _ _ _ :: _) _ _); refine wpList_load_Row rfl 39 (.tmp 10) rfl rfl (Row.sets_all (Row.new _ _ _) rfl) Tryz.underlying39 size39 ?_; simp only [Act.put, List.setIfInBounds_toArray, List.set_cons_zero, List.set_cons_succ])
    | ((with_reducible show wpList _ _ _ (Oper.mk _ (Op.store 39 (.tmp 6) (.tmp 30)) _ _ _ _ :: _) _ _); refine wpList_store_Row rfl 39 (.tmp 6) (.tmp 30) rfl noKey rfl rfl (Row.below HR1.out (below_setCells (Nat.le_refl _) _ _ ((Below.refl _ w1).alloc (Nat.le_refl _) _)) (Row.lt HR1.out)) size39 rfl (by decide) ?_; simp only [Act.put]))
  have HR2 := Row.below HR1.out (below_setCells (Nat.le_refl _) noKey 0 ((Below.refl _ w1).alloc (Nat.le_refl _) (.cells (List.replicate 32 (Value.int .u8 0)).toArray 39))) (Row.lt HR1.out)
  refine bodyPost_ret (results_Row_tmp rfl rfl (Row.sets_all HR2 rfl) Tryz.underlying39 size39) rfl ?_
  refine ⟨rfl, ?_⟩
  exact below_setCells (Nat.le_refl _) _ _ (HB1.out.trans ((below_setCells (Nat.le_refl _) _ _ ((Below.refl _ w1).alloc (Nat.le_refl _) _)).mono HB1.out.size))

set_option maxRecDepth 100000 in
set_option maxHeartbeats 1000000 in
theorem drawnId_err (D m1 m2 m3 m4 : Nat) (s : ByteArray) (hs : s.size ≤ maxLen) (f : Value → Option Value) (w : World) (hD : Row w D 67 [.pointer none, .map (some m1), .map (some m2), .map (some m3), .map (some m4)]) (hM : MapAt Tryz.prog 9 w m2 f) (hf : f (.string s) = none) :
    Calls Tryz.prog 48 #[.pointer (some ⟨D, 0, none⟩), .string s] w fun e w' => e = .returned (.tuple #[.agg noKey.toArray, .int .i64 60]) ∧ Below w.heap.size w w' := by
  obtain ⟨w0, hw0⟩ : ∃ w0, (w.alloc (.cells #[.pointer (some ⟨D, 0, none⟩)] 45)).alloc (.cells (List.replicate 32 (Value.int .u8 0)).toArray 39) = w0 := ⟨_, rfl⟩
  have hb0 : Below w.heap.size w w0 := by rw [← hw0]; exact ((Below.refl _ w).alloc (Nat.le_refl _) _).alloc (by simp) _
  have hs0 : w0.heap.size = w.heap.size + 1 + 1 := by rw [← hw0]; simp
  have hbx : Row w0 w.heap.size 45 [.pointer (some ⟨D, 0, none⟩)] := by rw [← hw0]; exact (Row.new w 45 #[.pointer (some ⟨D, 0, none⟩)]).alloc _
  have hrr : Row w0 (w.heap.size + 1) 39 noKey := by
    have h := Row.new' (w.alloc (.cells #[.pointer (some ⟨D, 0, none⟩)] 45)) 39 noKey
    rw [World.size_alloc] at h
    rw [← hw0]; exact h
  have hDl := hD.lt
  have hD0 := hD.below hb0 hDl
  have cm := hD.cell (i := 2) rfl
  have HK : Hid (Calls Tryz.prog 67 #[.map (some m2), .string s, .func (.func 68) #[] #[.pointer (some ⟨w.heap.size, 0, none⟩)]] w0 fun e w' => e = .returned (.tuple #[.agg noKey.toArray, .int .i64 60]) ∧ Below w0.heap.size w0 w') :=
    knownId_err m2 w.heap.size s hs f w0 (hM.below hb0 hM.lt) hf (fun W hW => id1_none w.heap.size D W ((hbx.later hW).cell (i := 0) rfl) ((hD0.later hW).cell (i := 0) rfl))
  have HW0 : Hid ((w.alloc (.cells #[.pointer (some ⟨D, 0, none⟩)] 45)).alloc (.cells (List.replicate 32 (Value.int .u8 0)).toArray 39) = w0) := hw0
  have HR : Hid (Row w0 (w.heap.size + 1) 39 noKey) := hrr
  clear hw0 hD hD0 hM hf hbx hrr
  go_enter Tryz.func48, Tryz.ntmps48
  go_wp2_with (first
    | (go_at_call 67; rw [z32u8, HW0.out]; refine HK.out.mono ?_; rintro e w1 ⟨rfl, hb1⟩; have HR1 : Hid (Row w1 (w.heap.size + 1) 39 noKey) := Row.later HR.out hb1; have HB1 : Hid (Below w.heap.size w w1) := hb0.trans (hb1.mono hb0.size))
    | ((with_reducible show wpList _ _ _ (Oper.mk _ (Op.store 39 (.tmp 4) (.tmp 13)) _ _ _ _ :: _) _ _); refine wpList_store_Row rfl 39 (.tmp 4) (.tmp 13) rfl noKey rfl rfl HR1.out size39 rfl (by decide) ?_; simp only [Act.put]))
  refine bodyPost_ret (results_Row_tmp rfl rfl (Row.sets_all HR1.out rfl) Tryz.underlying39 size39) rfl ?_
  exact ⟨rfl, below_setCells (by omega) _ _ HB1.out⟩

set_option maxRecDepth 100000 in
set_option maxHeartbeats 1000000 in
theorem idOf_err (S D : Nat) (t g : Option Addr) (s : ByteArray) (w : World) (hS : SuiteAt w S 1 t (some ⟨D, 0, none⟩) g)
    (HI : Hid (∀ W, Below w.heap.size w W → Calls Tryz.prog 48 #[.pointer (some ⟨D, 0, none⟩), .string s] W fun e w' => e = .returned (.tuple #[.agg noKey.toArray, .int .i64 60]) ∧ Below W.heap.size W w')) :
    Calls Tryz.prog 23 #[.pointer (some ⟨S, 0, none⟩), .string s] w fun e w' => e = .returned (.tuple #[.agg noKey.toArray, .int .i64 60]) ∧ Below w.heap.size w w' := by
  have hSl := Row.lt hS
  have c1 := Row.cell hS (i := 1) rfl
  have c3 := Row.cell hS (i := 3) rfl
  have HX : Hid (Calls Tryz.prog 48 #[.pointer (some ⟨D, 0, none⟩), .string s] (w.alloc (.cells (List.replicate 32 (Value.int .u8 0)).toArray 39)) fun e w' => e = .returned (.tuple #[.agg noKey.toArray, .int .i64 60]) ∧ Row w' w.heap.size 39 noKey ∧ Below w.heap.size w w') :=
    (HI.out _ ((Below.refl _ w).alloc (Nat.le_refl _) _)).mono fun e w' ⟨h1, h2⟩ => ⟨h1, Row.later (Row.new' w 39 noKey) h2, ((Below.refl _ w).alloc (Nat.le_refl _) _).trans (h2.mono (by simp))⟩
  clear hS HI
  go_enter Tryz.func23, Tryz.ntmps23
  go_wp2_with (first
    | (go_at_call 48; rw [z32u8]; refine HX.out.mono ?_; rintro e w1 ⟨rfl, hr1, hb1⟩; have HR1 : Hid (Row w1 w.heap.size 39 noKey) := hr1; clear hr1)
    | ((with_reducible show wpList _ _ _ (Oper.mk _ (Op.store 39 (.tmp 4) (.tmp 20)) _ _ _ _ :: _) _ _); refine wpList_store_Row rfl 39 (.tmp 4) (.tmp 20) rfl noKey rfl rfl HR1.out size39 rfl (by decide) ?_; simp only [Act.put]))
  refine bodyPost_ret (results_Row_tmp rfl rfl (Row.sets_all HR1.out rfl) Tryz.underlying39 size39) rfl ?_
  exact ⟨rfl, below_setCells (Nat.le_refl _) _ _ hb1⟩

set_option maxRecDepth 100000 in
set_option maxHeartbeats 1000000 in
theorem digest_err (S : Nat) (mode : Int) (t d g : Option Addr) (p : Option Addr) (len cap : Nat) (zs : List Nat) (w : World) (hS : SuiteAt w S mode t d g) (hI : IsBytes w.heap.size w p len cap zs)
    (HI : Hid (∀ W, Below w.heap.size w W → Calls Tryz.prog 23 #[.pointer (some ⟨S, 0, none⟩), .string (strOf zs)] W fun e w' => e = .returned (.tuple #[.agg noKey.toArray, .int .i64 60]) ∧ Below W.heap.size W w')) :
    Calls Tryz.prog 10 #[.pointer (some ⟨S, 0, none⟩), .slice p len cap] w fun e w' => e = .returned (.tuple #[.agg noKey.toArray, .int .i64 60]) ∧ Below w.heap.size w w' := by
  have HM : Hid (∀ W, Below w.heap.size w W → Calls Tryz.prog 13 #[.pointer (some ⟨S, 0, none⟩)] W fun e w' => e = .returned (.bool true) ∧ w' = W) := fun W hW => isMade_some S mode t d g W (hS.later hW)
  have hstr : ∀ o, (convert 24 9 (.slice p len cap)).run Tryz.prog (w.alloc o) = .ok (.string (strOf zs)) (w.alloc o) := fun o => str_of_bytes hI _ ((Below.refl _ w).alloc (Nat.le_refl _) o)
  have HX : Hid (Calls Tryz.prog 23 #[.pointer (some ⟨S, 0, none⟩), .string (strOf zs)] (w.alloc (.cells (List.replicate 32 (Value.int .u8 0)).toArray 39)) fun e w' => e = .returned (.tuple #[.agg noKey.toArray, .int .i64 60]) ∧ Row w' w.heap.size 39 noKey ∧ Below w.heap.size w w') :=
    (HI.out _ ((Below.refl _ w).alloc (Nat.le_refl _) _)).mono fun e w' ⟨h1, h2⟩ => ⟨h1, Row.later (Row.new' w 39 noKey) h2, ((Below.refl _ w).alloc (Nat.le_refl _) _).trans (h2.mono (by simp))⟩
  clear hS HI hI
  generalize strOf zs = s at *
  go_enter Tryz.func10, Tryz.ntmps10
  go_wp2_with (first
    | (go_at_call 13; refine (HM.out _ ((Below.refl _ w).alloc (Nat.le_refl _) _)).mono ?_; rintro e w1 ⟨rfl, hw1⟩; rw [hw1]; clear hw1)
    | (go_at_call 23; rw [z32u8]; refine HX.out.mono ?_; rintro e w1 ⟨rfl, hr1, hb1⟩; have HR1 : Hid (Row w1 w.heap.size 39 noKey) := hr1; clear hr1)
    | ((with_reducible show wpList _ _ _ (Oper.mk _ (Op.store 39 (.tmp 7) (.tmp 19)) _ _ _ _ :: _) _ _); refine wpList_store_Row rfl 39 (.tmp 7) (.tmp 19) rfl noKey rfl rfl (Row.new _ _ _) size39 rfl (by decide) ?_; simp only [Act.put])
    | ((with_reducible show wpList _ _ _ (Oper.mk _ (Op.store 39 (.tmp 4) (.tmp 32)) _ _ _ _ :: _) _ _); refine wpList_store_Row rfl 39 (.tmp 4) (.tmp 32) rfl noKey rfl rfl (Row.below HR1.out (below_setCells (Nat.le_refl _) _ _ ((Below.refl _ w1).alloc (Nat.le_refl _) _)) (Row.lt HR1.out)) size39 rfl (by decide) ?_; simp only [Act.put]))
  have HR2 := Row.below HR1.out (below_setCells (Nat.le_refl _) noKey 0 ((Below.refl _ w1).alloc (Nat.le_refl _) (.cells (List.replicate 32 (Value.int .u8 0)).toArray 39))) (Row.lt HR1.out)
  refine bodyPost_ret (results_Row_tmp rfl rfl (Row.sets_all HR2 rfl) Tryz.underlying39 size39) rfl ?_
  exact ⟨rfl, below_setCells (Nat.le_refl _) _ _ (hb1.trans ((below_setCells (Nat.le_refl _) _ _ ((Below.refl _ w1).alloc (Nat.le_refl _) _)).mono hb1.size))⟩

set_option maxRecDepth 100000 in
set_option maxHeartbeats 1000000 in
/-- awake -/
theorem awake_any (w : World) : Calls Tryz.prog 4 #[] w fun e w' => e = .returned (.bool true) ∧ Below w.heap.size w w' := by
  have HN : Hid (Calls Tryz.prog 5 #[.int .i64 1, .pointer none] w fun e w' => e = .returned (.pointer (some ⟨w.heap.size + 7, 0, none⟩)) ∧ FreshAt w' w.heap.size (w.heap.size + 7) none ∧ Below w.heap.size w w' ∧ w'.heap.size = w.heap.size + 8) := newIdeal_any none w
  have e76 : sizeN 3 = 76 := by decide
  go_enter Tryz.func4, Tryz.ntmps4
  go_wp2_with (first
    | (go_at_call 5; refine HN.out.mono ?_; rintro e w1 ⟨rfl, hf1, hb1, hs1⟩; have HF1 : Hid (FreshAt w1 w.heap.size (w.heap.size + 7) none) := hf1; have HS1 : Hid (w1.heap.size = w.heap.size + 8) := hs1; clear hf1 hs1)
    | (go_at_call 9; refine (size_some _ _ _ _ _ 3 (by omega) _ HF1.out.suite).mono ?_; rintro e w2 ⟨rfl, hb2⟩; rw [e76])
    | (go_at_call 10; refine (digest_err (w.heap.size + 7) 1 none (some ⟨w.heap.size + 6, 0, none⟩) (some ⟨w.heap.size + 1, 0, none⟩) none 0 0 [] w2 (HF1.out.suite.later hb2) ⟨rfl, Nat.le_refl _, by omega, by simp, .inl rfl⟩ (fun W hW => idOf_err _ _ _ _ _ W ((HF1.out.suite.later hb2).later hW) (fun W' hW' => drawnId_err (w.heap.size + 6) _ _ _ _ _ (by decide) (fun _ => none) W' ((((HF1.out.drawn).later hb2).later hW).later hW') (((HF1.out.ids.below hb2 HF1.out.ids.lt).below hW (by have := HF1.out.ids.lt; have := hb2.size; omega)).below hW' (by have := HF1.out.ids.lt; have := hb2.size; have := hW.size; omega)) rfl))).mono ?_; rintro e w3 ⟨rfl, hb3⟩)
    | ((with_reducible show wpList _ _ _ (Oper.mk _ (Op.store 39 (.tmp 2) (.tmp 15)) _ _ _ _ :: _) _ _); refine wpList_store_Row rfl 39 (.tmp 2) (.tmp 15) rfl noKey rfl rfl (Row.new _ _ _) size39 rfl (by decide) ?_; simp only [Act.put]))
  go_ret
  have hb : Below w.heap.size w w3 := hb1.trans ((hb2.mono hb1.size).trans (hb3.mono (Nat.le_trans hb1.size hb2.size)))
  exact ⟨rfl, below_setCells hb.size _ _ (hb.alloc hb.size _)⟩

end Go.Proofs.YtclelancbfoenaaGreatDoor
/-
  What is asked of a suite, as cells: a key, the words beside it, a text. When two are alike; that they serve as keys of a map.
-/
namespace Go.Proofs.YtclelancbfoenaaGreatDoor
open Go.RowKit

/-- The cells of what is asked. -/
def askedL (k : List Nat) (ad p : ByteArray) : List Value := u8s k ++ [.string ad, .string p]
/-- A key: 32 bytes. -/
def IsKey32 (k : List Nat) : Prop := k.length = 32 ∧ ∀ z ∈ k, z < 256
structure IsAsked (c : List Value) (k : List Nat) (ad p : ByteArray) : Prop where
  eq : c = askedL k ad p
  key : IsKey32 k
  ad : ad.size ≤ maxLen
  plain : p.size ≤ maxLen

theorem mapM_some {α β : Type} {f : α → Option β} {g : α → β} : ∀ {l : List α}, (∀ x ∈ l, f x = some (g x)) → l.mapM f = some (l.map g)
  | [], _ => rfl
  | x :: l, h => by
    rw [List.mapM_cons, h x (by simp), mapM_some (fun y hy => h y (by simp [hy]))]
    rfl

theorem wfB {z : Nat} (h : z < 256) : (Lit.int .u8 (z : Int)).wf = true := WalkArith.wf_u8 (by omega)
theorem cells23 : Tryz.prog.cellsOf 23 = 32 := by kernel_rfl
theorem cells9 : Tryz.prog.cellsOf 9 = 1 := by kernel_rfl
theorem cells69 : Tryz.prog.cellsOf 69 = 34 := by kernel_rfl

theorem lits_byte (d : Nat) {z : Nat} (h : z < 256) : Tryz.prog.keyLits (d + 1) 5 [.int .u8 (z : Int)] = some [.int .u8 (z : Int)] := by
  have := wfB h
  simp [Program.keyLits, Tryz.underlying5, this]
theorem lits_str (d : Nat) {s : ByteArray} (h : s.size ≤ maxLen) : Tryz.prog.keyLits (d + 1) 9 [.string s] = some [.string s.data.toList] := by
  simp [Program.keyLits, Tryz.underlying9, h]
theorem lits_key (d : Nat) {k : List Nat} (h : IsKey32 k) : ∃ l, Tryz.prog.keyLits (d + 2) 23 (u8s k) = some l := by
  have hl := h.1
  refine ⟨((List.range 32).map fun i => [Lit.int .u8 (k.getD i 0 : Nat)]).flatten, ?_⟩
  rw [Program.keyLits.eq_def]
  simp only [Tryz.underlying23]
  rw [if_pos (by rw [u8s_length, cells23, hl]), cells5, mapM_some (g := fun i => [Lit.int .u8 (k.getD i 0 : Nat)])]
  · rfl
  · intro i hi
    have hi' : i < 32 := List.mem_range.1 hi
    have : ((u8s k).drop (i * 1)).take 1 = [.int .u8 ((k.getD i 0 : Nat) : Int)] := by
      rw [Nat.mul_one, List.take_one, List.head?_drop, u8s_at (by omega)]
      rfl
    rw [this]
    exact lits_byte d (getD_of_all h.2 i)

theorem lits_asked (d : Nat) {k : List Nat} {ad p : ByteArray} (h : IsKey32 k) (ha : ad.size ≤ maxLen) (hp : p.size ≤ maxLen) : ∃ l, Tryz.prog.keyLits (d + 3) 69 (askedL k ad p) = some l := by
  obtain ⟨l, hl⟩ := lits_key d h
  have hk : (u8s k).length = 32 := by rw [u8s_length, h.1]
  refine ⟨[l, [.string ad.data.toList], [.string p.data.toList]].flatten, ?_⟩
  rw [Program.keyLits.eq_def]
  simp only [Tryz.underlying69]
  have e0 : ((askedL k ad p).drop 0).take 32 = u8s k := by rw [List.drop_zero, askedL, List.take_left' hk]
  have e1 : ((askedL k ad p).drop 32).take 1 = [.string ad] := by rw [askedL, List.drop_left' hk]; rfl
  have e2 : ((askedL k ad p).drop 33).take 1 = [.string p] := by rw [askedL, show 33 = 32 + 1 from rfl, ← List.drop_drop, List.drop_left' hk]; rfl
  rw [if_pos ⟨by rw [cells69, askedL, List.length_append, hk]; rfl, by simp⟩]
  simp only [List.mapM_cons, List.mapM_nil, cells23, cells9, e0, e1, e2, hl, lits_str _ ha, lits_str _ hp]
  rfl

theorem wide24 : (match Tryz.prog.underlying 23 with | some (.array _ _) | some (.struct _) => true | _ => false) = true := by rw [Tryz.underlying23]
theorem wide72 : (match Tryz.prog.underlying 69 with | some (.array _ _) | some (.struct _) => true | _ => false) = true := by rw [Tryz.underlying69]
theorem deep24 : Tryz.prog.keyTypeAt 4 23 = true := by kernel_rfl
theorem deep72 : Tryz.prog.keyTypeAt 4 69 = true := by kernel_rfl
theorem keyType72 : Tryz.prog.keyType 69 = true := by kernel_rfl
theorem keyType24 : Tryz.prog.keyType 23 = true := by kernel_rfl
theorem types_size : Tryz.prog.types.size = 185 := by kernel_rfl
set_option maxRecDepth 100000 in
theorem keyed72 : Maps.Keyed Tryz.prog 69 := Maps.Keyed.of_law (deep_law_laid laidOut (m := 4) (by omega) (by rw [types_size]; decide) deep72 wide72)
set_option maxRecDepth 100000 in
theorem keyed24 : Maps.Keyed Tryz.prog 23 := Maps.Keyed.of_law (deep_law_laid laidOut (m := 4) (by omega) (by rw [types_size]; decide) deep24 wide24)

theorem formed72 {k : List Nat} {ad p : ByteArray} (h : IsKey32 k) : (Value.agg (askedL k ad p).toArray).formed Tryz.prog 69 = true := by
  simp [Value.formed, Tryz.underlying69, cells69, askedL, h.1]
theorem formed24 {k : List Nat} (h : IsKey32 k) : (Value.agg (u8s k).toArray).formed Tryz.prog 23 = true := by
  simp [Value.formed, Tryz.underlying23, cells23, h.1]
theorem keyOf_asked {k : List Nat} {ad p : ByteArray} (h : IsKey32 k) (ha : ad.size ≤ maxLen) (hp : p.size ≤ maxLen) : ∃ kl, keyOf Tryz.prog 69 (.agg (askedL k ad p).toArray) = some kl := by
  obtain ⟨l, hl⟩ := lits_asked 183 h ha hp
  refine ⟨.string (keyBytes l), ?_⟩
  unfold keyOf
  simp only [Tryz.underlying69]
  rw [keyType72, formed72 h, types_size]
  simp [Value.cells, hl]
theorem keyOf_key {k : List Nat} (h : IsKey32 k) : ∃ kl, keyOf Tryz.prog 23 (.agg (u8s k).toArray) = some kl := by
  obtain ⟨l, hl⟩ := lits_key 184 h
  refine ⟨.string (keyBytes l), ?_⟩
  unfold keyOf
  simp only [Tryz.underlying23]
  rw [keyType24, formed24 h, types_size]
  simp [Value.cells, hl]

theorem u8s_inj : ∀ {a b : List Nat}, u8s a = u8s b → a = b
  | [], [], _ => rfl
  | [], _ :: _, h => by simp [u8s] at h
  | _ :: _, [], h => by simp [u8s] at h
  | x :: a, y :: b, h => by
    simp only [u8s, List.map_cons, List.cons.injEq, Value.int.injEq, true_and] at h
    have hx : x = y := by have := h.1; omega
    rw [hx, u8s_inj (a := a) (b := b) h.2]
theorem agg_inj {a b : List Value} (h : Value.agg a.toArray = Value.agg b.toArray) : a = b := by
  have := Value.agg.inj h
  exact congrArg Array.toList this
theorem askedL_inj {k k' : List Nat} {ad ad' p p' : ByteArray} (hk : k.length = k'.length) (h : askedL k ad p = askedL k' ad' p') : k = k' ∧ ad = ad' ∧ p = p' := by
  obtain ⟨h1, h2⟩ := List.append_inj h (by simp [hk])
  simp at h2
  exact ⟨u8s_inj h1, h2.1, h2.2⟩

open Classical in
set_option maxRecDepth 100000 in
/-- Keys that are compared. -/
theorem equal23 {a b : List Nat} (ha : IsKey32 a) (hb : IsKey32 b) (w : World) : (Op.equalIn 10000 23 (.agg (u8s a).toArray) (.agg (u8s b).toArray)).run Tryz.prog w = .ok (decide (a = b)) w := by
  obtain ⟨la, hla⟩ := lits_key 184 ha
  obtain ⟨lb, hlb⟩ := lits_key 184 hb
  obtain ⟨r, hr, hiff⟩ := run_equalIn_deep (P := Tryz.prog) 9996 4 23 deep24 w _ _ _ _ _ _ (formed24 ha) (formed24 hb) (by simpa [Value.cells] using hla) (by simpa [Value.cells] using hlb)
  rw [hr]
  obtain ⟨ka, hka⟩ := keyOf_key ha
  obtain ⟨kb, hkb⟩ := keyOf_key hb
  congr 1
  by_cases e : a = b
  · subst e
    rw [hla] at hlb
    rw [decide_eq_true rfl]
    exact hiff.2 (Option.some.inj hlb)
  · rw [decide_eq_false e]
    cases r with
    | false => rfl
    | true =>
      exfalso
      have hl := hiff.1 rfl
      subst hl
      refine e (u8s_inj (agg_inj (keyed24.inj (l := .string (keyBytes la)) ?_ ?_)))
      · unfold keyOf; simp only [Tryz.underlying23]; rw [keyType24, formed24 ha, types_size]; simp [Value.cells, hla]
      · unfold keyOf; simp only [Tryz.underlying23]; rw [keyType24, formed24 hb, types_size]; simp [Value.cells, hlb]

open Classical in
set_option maxRecDepth 100000 in
/-- What is asked, compared. -/
theorem equal69 {a b : List Nat} {ad ad' p p' : ByteArray} (ha : IsKey32 a) (hb : IsKey32 b) (h1 : ad.size ≤ maxLen) (h2 : p.size ≤ maxLen) (h3 : ad'.size ≤ maxLen) (h4 : p'.size ≤ maxLen) (w : World) :
    (Op.equalIn 10000 69 (.agg (askedL a ad p).toArray) (.agg (askedL b ad' p').toArray)).run Tryz.prog w = .ok (decide (askedL a ad p = askedL b ad' p')) w := by
  obtain ⟨la, hla⟩ := lits_asked 183 ha h1 h2
  obtain ⟨lb, hlb⟩ := lits_asked 183 hb h3 h4
  obtain ⟨r, hr, hiff⟩ := run_equalIn_deep (P := Tryz.prog) 9996 4 69 deep72 w _ _ _ _ _ _ (formed72 ha) (formed72 hb) (by simpa [Value.cells] using hla) (by simpa [Value.cells] using hlb)
  rw [hr]
  congr 1
  by_cases e : askedL a ad p = askedL b ad' p'
  · rw [decide_eq_true e]
    rw [e, hlb] at hla
    exact hiff.2 (Option.some.inj hla).symm
  · rw [decide_eq_false e]
    cases r with
    | false => rfl
    | true =>
      exfalso
      have hl := hiff.1 rfl
      subst hl
      refine e (agg_inj (keyed72.inj (l := .string (keyBytes la)) ?_ ?_))
      · unfold keyOf; simp only [Tryz.underlying69]; rw [keyType72, formed72 ha, types_size]; simp [Value.cells, hla]
      · unfold keyOf; simp only [Tryz.underlying69]; rw [keyType72, formed72 hb, types_size]; simp [Value.cells, hlb]

end Go.Proofs.YtclelancbfoenaaGreatDoor
/-
  What came in as an argument: a key, a list of texts.
-/
namespace Go.Proofs.YtclelancbfoenaaGreatDoor
open Go.ChangeShapes Go.WideShapes Go.ChangeAt Go.RowKit

theorem nums_of {f : Nat → Value} {N : Nat} : ∀ {L : List Value}, (∀ v ∈ L, ∃ n : Nat, v = f n ∧ n < N) → ∃ l : List Nat, L = l.map f ∧ (∀ z ∈ l, z < N)
  | [], _ => ⟨[], rfl, fun z hz => by cases hz⟩
  | v :: L, h => by
    obtain ⟨n, rfl, hn⟩ := h v (by simp)
    obtain ⟨l, rfl, hl⟩ := nums_of (L := L) (fun u hu => h u (by simp [hu]))
    exact ⟨n :: l, rfl, fun z hz => by
      rcases List.mem_cons.1 hz with rfl | hz
      · exact hn
      · exact hl z hz⟩

set_option maxRecDepth 100000 in
theorem open_key {H : Type} {enc : TypeId × Value → H} {W : World} {base : Nat} {v : Value} {x : DataW H} {p : List MemPlace} (hv : Value.okWide Tryz.prog W .any base 23 v) (h : ∃ fuel, DataW.trod enc Tryz.prog W 0 (fun _ => true) true fuel 23 v.cells.toList = some (x, p)) :
    ∃ l : List Nat, v = .agg (u8s l).toArray ∧ (l.length = 32 ∧ ∀ z ∈ l, z < 256) := by
  obtain ⟨cs, rfl, hs⟩ : ∃ cs, v = .agg cs ∧ cs.size = Tryz.prog.cellsOf 23 := by
    simp only [Value.okWide, Tryz.underlying23] at hv
    obtain ⟨cs, e1, e2, _⟩ := hv
    exact ⟨cs, e1, e2⟩
  obtain ⟨fuel, hf⟩ := h
  have hc32 : Tryz.prog.cellsOf 23 = 32 := by kernel_rfl
  have hc5 : Tryz.prog.cellsOf 5 = 1 := by kernel_rfl
  obtain ⟨xs, m1, _, _, hlen, hn, hel⟩ := DataW.trod_array Tryz.underlying23 hf
  rw [hc32] at hs
  have key : ∀ u ∈ cs.toList, ∃ m : Nat, u = .int .u8 (m : Nat) ∧ m < 256 := by
    intro u hu
    obtain ⟨i, hi, rfl⟩ := List.mem_iff_getElem.1 hu
    have hi32 : i < 32 := by simpa [hs] using hi
    have h0 := hel i (by omega)
    rw [hc5, Nat.mul_one, List.getElem?_eq_getElem (by omega : i < xs.length)] at h0
    obtain ⟨z, e1, e2, hw⟩ := DataW.trod_int Tryz.underlying5 h0
    have hci := congrArg (fun l => l[0]?) e1
    simp only [List.getElem?_take, List.getElem?_drop, Nat.add_zero, Value.cells, List.getElem?_eq_getElem hi] at hci
    have hb := bounds_u8 hw
    refine ⟨z.toNat, ?_, by omega⟩
    rw [show ((z.toNat : Nat) : Int) = z by omega]
    simpa using hci
  obtain ⟨l, hl, hz⟩ := nums_of (f := fun z => .int .u8 (z : Nat)) key
  refine ⟨l, ?_, ?_, hz⟩
  · rw [← Array.toArray_toList (xs := cs), hl]; rfl
  · have := congrArg List.length hl
    simpa [hs] using this.symm

/-- A slice of slices of bytes. -/
def IsLists (n₀ : Nat) (W : World) (p : Option Addr) (len cap : Nat) (ts : List (List Nat)) : Prop :=
  ts.length = len ∧ len ≤ cap ∧ (len = 0 ∨ ∃ b off, p = some ⟨b, off, none⟩ ∧ b < n₀ ∧ ∀ i, i < len → ∃ q l c, W.cell? ⟨b, off + i, none⟩ = some (.slice q l c) ∧ IsBytes n₀ W q l c (ts.getD i []))

theorem IsLists.below {n₀ : Nat} {A B : World} (h : Below n₀ A B) {p : Option Addr} {len cap : Nat} {ts : List (List Nat)} : IsLists n₀ A p len cap ts → IsLists n₀ B p len cap ts
  | ⟨h1, h0, .inl e⟩ => ⟨h1, h0, .inl e⟩
  | ⟨h1, h0, .inr ⟨b, off, e, hb, hc⟩⟩ => ⟨h1, h0, .inr ⟨b, off, e, hb, fun i hi => by
      obtain ⟨q, l, c, h2, h3⟩ := hc i hi
      exact ⟨q, l, c, (h.cell (p := ⟨b, off + i, none⟩) hb).trans h2, h3.below h⟩⟩⟩

theorem lists_of {Q : Nat → List Nat → Prop} : ∀ (n : Nat), (∀ i, i < n → ∃ t, Q i t) → ∃ ts : List (List Nat), ts.length = n ∧ ∀ i, i < n → Q i (ts.getD i [])
  | 0, _ => ⟨[], rfl, fun i hi => by omega⟩
  | n + 1, h => by
    obtain ⟨ts, hl, ht⟩ := lists_of n (fun i hi => h i (by omega))
    obtain ⟨t, hq⟩ := h n (by omega)
    refine ⟨ts ++ [t], by simp [hl], fun i hi => ?_⟩
    by_cases h1 : i < n
    · rw [show (ts ++ [t]).getD i [] = ts.getD i [] by simp [List.getElem?_append_left (show i < ts.length by omega)]]
      exact ht i h1
    · obtain rfl : i = n := by omega
      rw [show (ts ++ [t]).getD i [] = t by simp [← hl]]
      exact hq

set_option maxRecDepth 100000 in
/-- A slice of bytes, as it is read. -/
theorem bytes_of_trod {H : Type} {enc : TypeId × Value → H} {W : World} {fuel : Nat} {cs : List Value} {x : DataW H × List MemPlace} (hf : DataW.trod enc Tryz.prog W 0 (fun _ => true) true fuel 24 cs = some x) :
    ∃ a len cap zs, cs = [.slice a len cap] ∧ IsBytes W.heap.size W a len cap zs := by
  rcases open_ints Tryz.underlying24 Tryz.underlying5 cells5 hf with ⟨hcs, _⟩ | ⟨y, len, cap, zs, hcs, _, hl, hm, hz, _, hcell, hwz⟩
  · exact ⟨_, _, _, [], hcs, rfl, Nat.le_refl _, by omega, by simp, .inl rfl⟩
  · have hz' : zs.length = cap := by simpa using hz
    refine ⟨_, _, _, (zs.take len).map Int.toNat, hcs, by simp; omega, hl, by simpa only [maxLen] using hm, ?_, ?_⟩
    · intro z hz'
      obtain ⟨n, hn, rfl⟩ := List.mem_map.1 hz'
      have := bounds_u8 (hwz n (List.mem_of_mem_take hn))
      omega
    · by_cases h0 : len = 0
      · exact .inl h0
      · obtain ⟨b, off, spot⟩ := y
        have hc0 := hcell 0 (by omega)
        have hspot : spot = none := by simpa [Addr.add] using World.cell?_spot hc0
        subst hspot
        refine .inr ⟨b, off, rfl, ?_, fun i hi => ?_⟩
        · rw [Addr.add_mid] at hc0
          exact World.block_lt_of_cell? W _ hc0
        · have hi' : i < zs.length := by omega
          have h1 := hcell i hi'
          rw [Addr.add_mid] at h1
          rw [h1]
          have hb := bounds_u8 (hwz zs[i] (List.getElem_mem hi'))
          simp [List.getElem?_eq_getElem hi', hi]
          omega

theorem cells24 : Tryz.prog.cellsOf 24 = 1 := by kernel_rfl

set_option maxRecDepth 100000 in
/-- A list of texts that came in. -/
theorem open_texts {H : Type} {enc : TypeId × Value → H} {W : World} {base : Nat} {v : Value} {x : DataW H} {p : List MemPlace} (hv : Value.okWide Tryz.prog W .any base 84 v) (h : ∃ fuel, DataW.trod enc Tryz.prog W 0 (fun _ => true) true fuel 84 v.cells.toList = some (x, p)) :
    ∃ a len cap ts, v = .slice a len cap ∧ IsLists W.heap.size W a len cap ts := by
  obtain ⟨a, len, cap, rfl⟩ := okWide_slice Tryz.underlying84 hv
  obtain ⟨fuel, hf⟩ := h
  rcases DataW.trod_slice Tryz.underlying84 hf with ⟨hcs, _⟩ | ⟨y, l, c, elems, rest, n, _, hcs, _, _, hl, _, hlen, hel, _, _⟩
  · simp [Value.cells] at hcs
    obtain ⟨rfl, rfl, rfl⟩ := hcs
    exact ⟨_, _, _, [], rfl, rfl, Nat.le_refl _, .inl rfl⟩
  · simp [Value.cells] at hcs
    obtain ⟨rfl, rfl, rfl⟩ := hcs
    have key : ∀ i, i < len → ∃ t q l c, W.cell? (y.add i) = some (.slice q l c) ∧ IsBytes W.heap.size W q l c t := by
      intro i hi
      have h0 := hel i hi
      rw [cells24, Nat.mul_one, List.getElem?_eq_getElem (by omega : i < elems.length)] at h0
      obtain ⟨cs, hc, ht⟩ := Option.bind_eq_some_iff.1 h0
      obtain ⟨a', l', c', zs, rfl, hI⟩ := bytes_of_trod ht
      exact ⟨zs, a', l', c', cell_of_cells?_one hc, hI⟩
    by_cases h0 : len = 0
    · subst h0
      exact ⟨_, _, _, [], rfl, rfl, hl, .inl rfl⟩
    · obtain ⟨b, off, spot⟩ := y
      obtain ⟨_, _, _, _, hc0, _⟩ := key 0 (by omega)
      have hspot : spot = none := by simpa [Addr.add] using World.cell?_spot hc0
      subst hspot
      rw [Addr.add_mid] at hc0
      obtain ⟨ts, htl, hts⟩ := lists_of (Q := fun i t => ∃ q l c, W.cell? ⟨b, off + i, none⟩ = some (.slice q l c) ∧ IsBytes W.heap.size W q l c t) len (fun i hi => by
        obtain ⟨t, q, l, c, h1, h2⟩ := key i hi
        rw [Addr.add_mid] at h1
        exact ⟨t, q, l, c, h1, h2⟩)
      exact ⟨_, _, _, ts, rfl, htl, hl, .inr ⟨b, off, rfl, World.block_lt_of_cell? W _ hc0, hts⟩⟩


end Go.Proofs.YtclelancbfoenaaGreatDoor
