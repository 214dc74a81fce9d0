/-
  pad.Bucket, the reference's Bucket. Nothing that lay before a call has turned.
-/
import Derived.Test.YtclelancbfoenaaGreatDoorBuck
namespace Go.Proofs.YtclelancbfoenaaGreatDoor
open Go.RowKit Go.Shelf
attribute [local go_sem] Oper.semAt_some

/-- A scope without a goto, under the widest fence. -/
theorem wpIn_scope_wide {P : Program} {Q : Exit → Act → World → Prop} {m : Nat} {c : Code} {a : Act} {w : World} (h : c.wpIn Fence.wide m P (Exit.noGoto Q) a w) : (Code.scope c).wpIn Fence.wide m P Q a w := wpIn_wide.2 (wp_scope_straight (wpIn_wide.1 h))

set_option maxRecDepth 100000 in
set_option maxHeartbeats 1000000 in
/-- The reference's Bucket. -/
theorem refBucket_any (z : Int) (hz : -9223372036854775808 ≤ z ∧ z ≤ 9223372036854775807) (w : World) :
    Calls Tryz.prog 66 #[.int .i64 z] w fun e w' => e = .returned (.int .i64 (bucketN z : Nat)) ∧ w' = w := by
  by_cases h : z < 0 ∨ 65532 < z
  · rw [bucketN_none h]
    by_cases h0 : z < 0
    · go_enter Tryz.func66, Tryz.ntmps66
      go_wp2
      go_ret
      exact ⟨rfl, rfl⟩
    · have h1 : 65532 < z := by omega
      go_enter Tryz.func66, Tryz.ntmps66
      go_wp2
      go_ret
      exact ⟨rfl, rfl⟩
  · have h0 : ¬ z < 0 := by omega
    have h1 : ¬ 65532 < z := by omega
    have e4 : IntKind.i64.wrap (z + 4) = z + 4 := by rw [IntKind.wrap_i64]; omega
    have HZ : Hid (0 ≤ z ∧ z ≤ 65532) := by show _ ∧ _; omega
    clear h hz
    go_enter Tryz.func66, Tryz.ntmps66
    go_wp2
    go_loopw [3] (fun r wr => ∃ k : Nat, k < 12 ∧ r = .int .i64 (32 * 2 ^ k : Nat) ∧ (∀ i, i < k → ((32 * 2 ^ i : Nat) : Int) < z + 4) ∧ wr = w) (fun r _ => 131072 - (intOf r).toNat)
    case atStart => exact ⟨0, by omega, rfl, fun i hi => by omega, rfl⟩
    case round =>
      obtain ⟨k, hk, rfl, hall, rfl⟩ := hrel
      have HA : Hid (∀ i, i < k → ((32 * 2 ^ i : Nat) : Int) < z + 4) := hall
      have hs1 := pow_le hk
      have hs2 := pow_pos' k
      have HS : Hid (32 * 2 ^ (k + 1) = 2 * (32 * 2 ^ k)) := by show _ = _; rw [Nat.pow_succ]; omega
      clear hall
      by_cases hlt : ((32 * 2 ^ k : Nat) : Int) < z + 4
      · have HK : Hid (k + 1 < 12) := by
          show k + 1 < 12
          have := HZ.out
          have : k ≠ 11 := by rintro rfl; simp only [Nat.reducePow, Nat.reduceMul] at hlt; omega
          omega
        have HA2 : Hid (∀ i, i < k + 1 → ((32 * 2 ^ i : Nat) : Int) < z + 4) := fun i hi => by
          by_cases e : i = k
          · subst e; exact hlt
          · exact HA.out i (by omega)
        generalize hs : 32 * 2 ^ k = s at *
        have e1 : IntKind.i64.wrap (2 * (s : Int)) = ((2 * s : Nat) : Int) := by rw [IntKind.wrap_i64]; omega
        have HL : Hid (s ≤ 65536 ∧ 1 ≤ s) := ⟨hs1, by omega⟩
        clear hs1 hs2 hs HA
        go_wp2
        go_roundw
        case rel => exact ⟨k + 1, HK.out, by rw [HS.out]; push_cast; rfl, HA2.out, trivial⟩
        case measure => have := HL.out; simp only [intOf]; omega
      · have HB : Hid (bucketN z = 32 * 2 ^ k) := bucketN_of z k hk HZ.out.1 (by omega) HA.out
        generalize hs : 32 * 2 ^ k = s at *
        clear hs hs2 HA HS
        go_wp2
        go_ret
        exact ⟨by rw [HB.out]; rfl, rfl⟩

/-- None of these lengths is enough. -/
def Short (z : Int) (pre : List Pl) : Prop := ∀ x ∈ pre, 0 ≤ z ∧ ((32 * 2 ^ x.1 : Nat) : Int) < z + 4
/-- The last one is the first that is enough, or there is none at all; what is found lies in block b. -/
def Found (z : Int) (b : Nat) (pre : List Pl) (A : World) : Prop :=
  (z < 0 ∧ Row A b 3 [.int .i64 0]) ∨ (0 ≤ z ∧ ∃ pre' x, pre = pre' ++ [x] ∧ (∀ y ∈ pre', ((32 * 2 ^ y.1 : Nat) : Int) < z + 4) ∧ z + 4 ≤ ((32 * 2 ^ x.1 : Nat) : Int) ∧ Row A b 3 [plVal x])

set_option maxRecDepth 100000 in
set_option maxHeartbeats 1000000 in
/-- pad.Bucket -/
theorem bucket_in (n : Nat) (hn : 3 ≤ n) (z : Int) (hz : -9223372036854775808 ≤ z ∧ z ≤ 9223372036854775807) (w : World) :
    CallsIn Fence.wide n Tryz.prog 25 #[.int .i64 z] w fun e w' => e = .returned (.int .i64 (bucketN z : Nat)) ∧ Below w.heap.size w w' := by
  have h1 : 1 ≤ n := by omega
  obtain ⟨w0, hw0⟩ : ∃ w0, (w.alloc (.cells #[.int .i64 z] 3)).alloc (.cells #[.int .i64 0] 3) = w0 := ⟨_, rfl⟩
  have HrN : Hid (Row w0 w.heap.size 3 [.int .i64 z]) := by rw [← hw0]; exact (Row.new w 3 #[.int .i64 z]).alloc _
  have HrF : Hid (Row w0 (w.heap.size + 1) 3 [.int .i64 0]) := by
    have h := Row.new (w.alloc (.cells #[.int .i64 z] 3)) 3 #[.int .i64 0]
    rw [World.size_alloc] at h
    rw [← hw0]; exact h
  have hb0 : Below w.heap.size w w0 := by rw [← hw0]; exact ((Below.refl _ w).alloc (Nat.le_refl _) _).alloc (by simp) _
  have hs0 : w0.heap.size = w.heap.size + 1 + 1 := by rw [← hw0]; simp
  have HW0 : Hid ((w.alloc (.cells #[.int .i64 z] 3)).alloc (.cells #[.int .i64 0] 3) = w0) := hw0
  clear hw0
  refine callsIn_of_wp_marks Tryz.func25 rfl trivial ?_ rfl
  simp only [Tryz.ntmps25, List.size_toArray, List.length_cons, List.length_nil, Nat.reduceAdd, Nat.reduceSub, Array.replicate_succ, Array.replicate_zero, List.push_toArray, List.append_toArray, List.nil_append, List.cons_append]
  gi_wp2
  refine wpIn_scope_wide ?_
  gi_wp2
  refine wpIn_label ?_
  rw [HW0.out]
  gi_wp2
  refine ⟨trivial, (buckets_in Fence.wide _ trivial rfl _).mono ?_⟩
  rintro e w1 ⟨rfl, hw1⟩
  obtain rfl : w0 = w1 := hw1.symm
  clear hw1
  gi_wp2
  have HZ : Hid (-9223372036854775808 ≤ z ∧ z ≤ 9223372036854775807) := hz
  clear hz
  refine wpIn_rangeFunc_low rfl h1 (gf := 71) (lb := #[]) rfl trivial (enters_of Tryz.func71 (by kernel_rfl) rfl)
    (encs := fun x : Pl => #[plVal x]) (Ok := fun _ _ => True) (Kp := fun _ _ => True)
    (fun W' _ _ => buckets_iter Fence.wide (n - 1) trivial rfl (by omega) _ _ W')
    (fun _ _ => trivial) (fun _ _ _ _ _ => trivial) (fun _ => rfl)
    (fun pre A => (Short z pre ∧ Row A w.heap.size 3 [.int .i64 z] ∧ Row A (w.heap.size + 1) 3 [.int .i64 0]) ∧ Below w.heap.size w A)
    (fun c pre A => (c = .exit 0 ∧ Found z (w.heap.size + 1) pre A) ∧ Below w.heap.size w A)
    (fun s A A' ⟨⟨h1, h2, h3⟩, h4⟩ hb => ⟨⟨h1, h2.below hb (by omega), h3.below hb (by omega)⟩, h4.trans (hb.mono (by omega))⟩)
    (fun c s A A' ⟨⟨h0, h1⟩, h4⟩ hb => ⟨⟨h0, by
      rcases h1 with ⟨h2, h3⟩ | ⟨h2, pre', x, h5, h6, h7, h8⟩
      · exact .inl ⟨h2, h3.below hb (by omega)⟩
      · exact .inr ⟨h2, pre', x, h5, h6, h7, h8.below hb (by omega)⟩⟩, h4.trans (hb.mono (by omega))⟩)
    (fun _ _ _ h _ => h) ⟨⟨fun x hx => by simp at hx, HrN.out, HrF.out⟩, hb0⟩
    (fun x => { tmps := #[.int .i64 z, .pointer (some ⟨w.heap.size, 0, none⟩), .int .i64 0, .pointer (some ⟨w.heap.size + 1, 0, none⟩), plVal x, .func (.func 71) #[] #[], plVal x, undef, undef, undef, undef, undef, undef, undef, undef, undef, undef], defers := [] })
    ?assign ?body ?done ?stop
  case assign =>
    intro l x W K hK
    gi_wp2
    exact hK
  case body =>
    rintro l pre x A ⟨⟨hall, hrN, hrF⟩, hB⟩ _ hlt
    have cn := hrN.cell (i := 0) rfl
    have cf := hrF.cell (i := 0) rfl
    have ff := hrF.frozen 0
    have HN : Hid (Row A w.heap.size 3 [.int .i64 z]) := hrN
    have HF : Hid (Row A (w.heap.size + 1) 3 [.int .i64 0]) := hrF
    have HA : Hid (Short z pre) := hall
    clear hrN hrF hall
    have hx1 := pow_le x.2
    have hx2 := pow_pos' x.1
    obtain ⟨s, hs⟩ : ∃ s, 32 * 2 ^ x.1 = s := ⟨_, rfl⟩
    have e1 : IntKind.i64.wrap ((s : Int) - 4) = (s : Int) - 4 := by rw [IntKind.wrap_i64]; omega
    have hv : plVal x = .int .i64 (s : Nat) := by unfold plVal; rw [hs]
    have HS : Hid (32 * 2 ^ x.1 = s) := hs
    simp only [hv]
    clear hs hx2 hx1
    by_cases h0 : z < 0
    · gi_wp2
      exact ⟨KeepsFrom.refl _ _, trivial, ⟨rfl, .inl ⟨h0, HF.out⟩⟩, hB⟩
    · by_cases hle : z ≤ (s : Int) - 4
      · gi_wp2
        refine ⟨(KeepsOthers.setCell A _ _).from _, trivial, ⟨rfl, .inr ⟨by omega, pre, x, rfl, fun y hy => (HA.out y hy).2, by rw [HS.out]; omega, ?_⟩⟩, hB.setCell (p := ⟨w.heap.size + 1, 0, none⟩) (by show _ ≤ w.heap.size + 1; omega) _⟩
        rw [hv]
        exact HF.out.set 0 _
      · gi_wp2
        refine ⟨KeepsFrom.refl _ _, trivial, ⟨?_, HN.out, HF.out⟩, hB⟩
        intro y hy
        rcases List.mem_append.1 hy with hy | hy
        · exact HA.out y hy
        · simp at hy; subst hy; rw [HS.out]; omega
  case done =>
    rintro D ys A hD hys ⟨⟨hall, hrN, hrF⟩, hB⟩ hK
    have hbk : bucketN z = 0 := by
      have hm : (11 : Nat) ∈ ys.map (·.1) := by rw [hys]; decide
      obtain ⟨x, hx, h11⟩ := List.mem_map.1 hm
      have := (hall x hx).2
      rw [h11] at this
      simp only [Nat.reducePow, Nat.reduceMul] at this
      exact bucketN_none (.inr (by omega))
    have cf := hrF.cell (i := 0) rfl
    gi_wp2
    refine ⟨by simp, .inl ⟨_, _, rfl, run_takeDeferred hK, ?_⟩⟩
    exact ⟨_, results_tmp rfl _ _ _, by rw [hbk]; rfl, hB.trans (below_putObj _ _ (by omega))⟩
  case stop =>
    rintro D c pre A hD ⟨k, hk⟩ ⟨⟨rfl, h⟩, hB⟩ hK
    obtain ⟨v, hv, hr⟩ : ∃ v, .int .i64 (bucketN z : Nat) = v ∧ Row A (w.heap.size + 1) 3 [v] := by
      rcases h with ⟨h2, h3⟩ | ⟨h2, pre', x, rfl, h6, h7, h8⟩
      · exact ⟨_, by rw [bucketN_none (.inl h2)]; rfl, h3⟩
      · have hl := congrArg List.length hk
        simp at hl
        have hx : x.1 = pre'.length := by
          have := congrArg (fun l => l[pre'.length]?) hk
          simp [← hl] at this
          exact this
        have hi : ∀ i, i < x.1 → ((32 * 2 ^ i : Nat) : Int) < z + 4 := fun i hi => by
          have hm : i ∈ pre'.map (·.1) := by
            have : pre'.map (·.1) = List.range pre'.length := by
              rw [← hl, List.map_append, List.range_succ] at hk
              exact (List.append_inj' hk rfl).1
            rw [this]; exact List.mem_range.2 (by omega)
          obtain ⟨y, hy, rfl⟩ := List.mem_map.1 hm
          exact h6 y hy
        exact ⟨_, by rw [bucketN_of z x.1 x.2 h2 h7 hi]; rfl, h8⟩
    have cf := hr.cell (i := 0) rfl
    gi_wp2
    refine ⟨by simp, .inl ⟨_, _, rfl, run_takeDeferred hK, ?_⟩⟩
    exact ⟨_, results_tmp rfl _ _ _, by rw [hv]; rfl, hB.trans (below_putObj _ _ (by omega))⟩

/-- pad.Bucket, outside every fence. -/
theorem bucket_any (z : Int) (hz : -9223372036854775808 ≤ z ∧ z ≤ 9223372036854775807) (w : World) :
    Calls Tryz.prog 25 #[.int .i64 z] w fun e w' => e = .returned (.int .i64 (bucketN z : Nat)) ∧ Below w.heap.size w w' :=
  callsIn_wide.1 (bucket_in 3 (Nat.le_refl _) z hz w)

end Go.Proofs.YtclelancbfoenaaGreatDoor
