/-
  Several texts in one: SLen, SLen2.
-/
import Derived.Test.YtclelancbfoenaaGreatDoorTapeAll
/-
  isSealedLength: a sealed text's length is one.
-/
namespace Go.Proofs.YtclelancbfoenaaGreatDoor
open Go.RowKit Go.Shelf
attribute [local go_sem] Oper.semAt_some

def ShortS (n : Nat) (pre : List Pl) : Prop := ∀ x ∈ pre, 44 + 32 * 2 ^ x.1 < n
def FoundS (n : Nat) (b : Nat) (pre : List Pl) (A : World) : Prop :=
  ∃ pre' x, pre = pre' ++ [x] ∧ (∀ y ∈ pre', 44 + 32 * 2 ^ y.1 < n) ∧ ((44 + 32 * 2 ^ x.1 = n ∧ Row A b 4 [.bool true]) ∨ (n < 44 + 32 * 2 ^ x.1 ∧ Row A b 4 [.bool false]))

set_option maxRecDepth 100000 in
set_option maxHeartbeats 1000000 in
theorem sealedLen_in (n : Nat) (hn : 3 ≤ n) (k0 z : Nat) (hk0 : k0 < 12) (hz : z = 44 + 32 * 2 ^ k0) (w : World) :
    CallsIn Fence.wide n Tryz.prog 37 #[.int .i64 (z : Nat)] w fun e w' => e = .returned (.bool true) ∧ Below w.heap.size w w' := by
  have h1 : 1 ≤ n := by omega
  have hzl : z ≤ 70000 := by have := pow_le hk0; omega
  obtain ⟨w0, hw0⟩ : ∃ w0, (w.alloc (.cells #[.int .i64 (z : Nat)] 3)).alloc (.cells #[.bool false] 4) = w0 := ⟨_, rfl⟩
  have HrN : Hid (Row w0 w.heap.size 3 [.int .i64 (z : Nat)]) := by rw [← hw0]; exact (Row.new w 3 #[.int .i64 (z : Nat)]).alloc _
  have HrF : Hid (Row w0 (w.heap.size + 1) 4 [.bool false]) := by
    have h := Row.new (w.alloc (.cells #[.int .i64 (z : Nat)] 3)) 4 #[.bool false]
    rw [World.size_alloc] at h
    rw [← hw0]; exact h
  have hb0 : Below w.heap.size w w0 := by rw [← hw0]; exact ((Below.refl _ w).alloc (Nat.le_refl _) _).alloc (by simp) _
  have hs0 : w0.heap.size = w.heap.size + 1 + 1 := by rw [← hw0]; simp
  have HW0 : Hid ((w.alloc (.cells #[.int .i64 (z : Nat)] 3)).alloc (.cells #[.bool false] 4) = w0) := hw0
  have HZ : Hid (z = 44 + 32 * 2 ^ k0) := hz
  clear hw0 hz
  refine callsIn_of_wp_marks Tryz.func37 rfl trivial ?_ rfl
  simp only [Tryz.ntmps37, List.size_toArray, List.length_cons, List.length_nil, Nat.reduceAdd, Nat.reduceSub, Array.replicate_succ, Array.replicate_zero, List.push_toArray, List.append_toArray, List.nil_append, List.cons_append]
  gi_wp2
  refine wpIn_scope_wide ?_
  gi_wp2
  refine wpIn_label ?_
  rw [HW0.out]
  gi_wp2
  refine ⟨trivial, (buckets_in Fence.wide _ trivial rfl _).mono ?_⟩
  rintro e w1 ⟨rfl, hw1⟩
  obtain rfl : w0 = w1 := hw1.symm
  clear hw1
  gi_wp2
  refine wpIn_rangeFunc_low rfl h1 (gf := 71) (lb := #[]) rfl trivial (enters_of Tryz.func71 (by kernel_rfl) rfl)
    (encs := fun x : Pl => #[plVal x]) (Ok := fun _ _ => True) (Kp := fun _ _ => True)
    (fun W' _ _ => buckets_iter Fence.wide (n - 1) trivial rfl (by omega) _ _ W')
    (fun _ _ => trivial) (fun _ _ _ _ _ => trivial) (fun _ => rfl)
    (fun pre A => (ShortS z pre ∧ Row A w.heap.size 3 [.int .i64 (z : Nat)] ∧ Row A (w.heap.size + 1) 4 [.bool false]) ∧ Below w.heap.size w A)
    (fun c pre A => (c = .exit 0 ∧ FoundS z (w.heap.size + 1) pre A) ∧ Below w.heap.size w A)
    (fun s A A' ⟨⟨h1, h2, h3⟩, h4⟩ hb => ⟨⟨h1, h2.below hb (by omega), h3.below hb (by omega)⟩, h4.trans (hb.mono (by omega))⟩)
    (fun c s A A' ⟨⟨h0, pre', x, h5, h6, h1⟩, h4⟩ hb => ⟨⟨h0, pre', x, h5, h6, by
      rcases h1 with ⟨h2, h3⟩ | ⟨h2, h3⟩
      · exact .inl ⟨h2, h3.below hb (by omega)⟩
      · exact .inr ⟨h2, h3.below hb (by omega)⟩⟩, h4.trans (hb.mono (by omega))⟩)
    (fun _ _ _ h _ => h) ⟨⟨fun x hx => by simp at hx, HrN.out, HrF.out⟩, hb0⟩
    (fun x => { tmps := #[.int .i64 (z : Nat), .pointer (some ⟨w.heap.size, 0, none⟩), .bool false, .pointer (some ⟨w.heap.size + 1, 0, none⟩), plVal x, .func (.func 71) #[] #[], plVal x, undef, undef, undef, undef, undef, undef, undef, undef, undef, undef, undef], defers := [] })
    ?assign ?body ?done ?stop
  case assign =>
    intro l x W K hK
    gi_wp2
    exact hK
  case body =>
    rintro l pre x A ⟨⟨hall, hrN, hrF⟩, hB⟩ _ hlt
    have cn := hrN.cell (i := 0) rfl
    have cf := hrF.cell (i := 0) rfl
    have ff := hrF.frozen 0
    have HN : Hid (Row A w.heap.size 3 [.int .i64 (z : Nat)]) := hrN
    have HF : Hid (Row A (w.heap.size + 1) 4 [.bool false]) := hrF
    have HA : Hid (ShortS z pre) := hall
    clear hrN hrF hall
    have hx1 := pow_le x.2
    obtain ⟨s, hs⟩ : ∃ s, 32 * 2 ^ x.1 = s := ⟨_, rfl⟩
    rw [hs] at hx1
    have e1 : IntKind.i64.wrap (44 + (s : Int)) = 44 + (s : Int) := by rw [IntKind.wrap_i64]; omega
    have hv : plVal x = .int .i64 (s : Nat) := by unfold plVal; rw [hs]
    have HS : Hid (32 * 2 ^ x.1 = s) := hs
    simp only [hv]
    clear hs
    by_cases h0 : 44 + s = z
    · have h0' : ((z : Int) == 44 + (s : Int)) = true := by simp; omega
      gi_wp2
      exact ⟨(KeepsOthers.setCell A _ _).from _, trivial, ⟨rfl, pre, x, rfl, HA.out, .inl ⟨by rw [HS.out]; exact h0, HF.out.set 0 _⟩⟩, hB.setCell (p := ⟨w.heap.size + 1, 0, none⟩) (by show _ ≤ w.heap.size + 1; omega) _⟩
    · have h0' : ((z : Int) == 44 + (s : Int)) = false := by simp; omega
      by_cases hle : z < 44 + s
      · have hle' : (z : Int) < 44 + (s : Int) := by omega
        gi_wp2
        exact ⟨KeepsFrom.refl _ _, trivial, ⟨rfl, pre, x, rfl, HA.out, .inr ⟨by rw [HS.out]; exact hle, HF.out⟩⟩, hB⟩
      · have hle' : ¬ (z : Int) < 44 + (s : Int) := by omega
        gi_wp2
        refine ⟨KeepsFrom.refl _ _, trivial, ⟨?_, HN.out, HF.out⟩, hB⟩
        intro y hy
        rcases List.mem_append.1 hy with hy | hy
        · exact HA.out y hy
        · simp at hy; subst hy; rw [HS.out]; omega
  case done =>
    rintro D ys A hD hys ⟨⟨hall, hrN, hrF⟩, hB⟩ hK
    exfalso
    have hm : k0 ∈ ys.map (·.1) := by rw [hys]; exact List.mem_range.2 hk0
    obtain ⟨x, hx, h11⟩ := List.mem_map.1 hm
    have := hall x hx
    rw [h11, ← HZ.out] at this
    omega
  case stop =>
    rintro D c pre A hD ⟨k, hk⟩ ⟨⟨rfl, pre', x, rfl, h6, h⟩, hB⟩ hK
    have hr : Row A (w.heap.size + 1) 4 [.bool true] := by
      rcases h with ⟨_, h⟩ | ⟨h2, _⟩
      · exact h
      · exfalso
        have hl := congrArg List.length hk
        simp at hl
        have hx : x.1 = pre'.length := by
          have := congrArg (fun l => l[pre'.length]?) hk
          simp [← hl] at this
          exact this
        have hlt : k0 < x.1 := by
          rw [HZ.out] at h2
          exact (Nat.pow_lt_pow_iff_right (by decide)).1 (show 2 ^ k0 < 2 ^ x.1 by omega)
        have hm : k0 ∈ pre'.map (·.1) := by
          have : pre'.map (·.1) = List.range pre'.length := by
            rw [← hl, List.map_append, List.range_succ] at hk
            exact (List.append_inj' hk rfl).1
          rw [this]; exact List.mem_range.2 (by omega)
        obtain ⟨y, hy, rfl⟩ := List.mem_map.1 hm
        have := h6 y hy
        rw [HZ.out] at this
        omega
    have cf := hr.cell (i := 0) rfl
    gi_wp2
    refine ⟨by simp, .inl ⟨_, _, rfl, run_takeDeferred hK, ?_⟩⟩
    exact ⟨_, results_tmp rfl _ _ _, rfl, hB.trans (below_putObj _ _ (by omega))⟩

theorem firstB_is {z : Int} (h1 : z ≤ 65532) : ∀ (m j : Nat), j + (m + 1) = 12 → ∃ k, k < 12 ∧ firstB z (m + 1) j = 32 * 2 ^ k
  | m, j, h => by
    rw [firstB]
    by_cases e : z + 4 ≤ ((32 * 2 ^ j : Nat) : Int)
    · rw [if_pos e]; exact ⟨j, by omega, rfl⟩
    · rw [if_neg e]
      match m, h with
      | 0, h =>
        obtain rfl : j = 11 := by omega
        exact absurd (show z + 4 ≤ ((32 * 2 ^ 11 : Nat) : Int) by simp only [Nat.reducePow, Nat.reduceMul]; omega) e
      | m + 1, h => exact firstB_is h1 m (j + 1) (by omega)
/-- What a text is padded to is one of the lengths. -/
theorem bucketN_some {n : Nat} (h : n ≤ 60000) : ∃ k, k < 12 ∧ bucketN (n : Int) = 32 * 2 ^ k := by
  unfold bucketN
  rw [if_neg (by omega)]
  exact firstB_is (by omega) 11 0 (by omega)

theorem sealedLen_any (n : Nat) (hn : n ≤ 60000) (w : World) : Calls Tryz.prog 37 #[.int .i64 ((44 + bucketN (n : Int) : Nat) : Int)] w fun e w' => e = .returned (.bool true) ∧ Below w.heap.size w w' := by
  obtain ⟨k, hk, e⟩ := bucketN_some hn
  rw [e]
  exact callsIn_wide.1 (sealedLen_in 3 (Nat.le_refl _) k _ hk rfl w)

end Go.Proofs.YtclelancbfoenaaGreatDoor
/-
  isSealedLength of any length.
-/
namespace Go.Proofs.YtclelancbfoenaaGreatDoor
open Go.RowKit Go.Shelf
attribute [local go_sem] Oper.semAt_some

set_option maxRecDepth 100000 in
set_option maxHeartbeats 1000000 in
theorem sealedLen2_in (n : Nat) (hn : 3 ≤ n) (z : Nat) (hzl : z ≤ 70000) (w : World) :
    CallsIn Fence.wide n Tryz.prog 37 #[.int .i64 (z : Nat)] w fun e w' => ∃ r, e = .returned (.bool r) ∧ (r = true → 76 ≤ z) ∧ Below w.heap.size w w' := by
  have h1 : 1 ≤ n := by omega
  obtain ⟨w0, hw0⟩ : ∃ w0, (w.alloc (.cells #[.int .i64 (z : Nat)] 3)).alloc (.cells #[.bool false] 4) = w0 := ⟨_, rfl⟩
  have HrN : Hid (Row w0 w.heap.size 3 [.int .i64 (z : Nat)]) := by rw [← hw0]; exact (Row.new w 3 #[.int .i64 (z : Nat)]).alloc _
  have HrF : Hid (Row w0 (w.heap.size + 1) 4 [.bool false]) := by
    have h := Row.new (w.alloc (.cells #[.int .i64 (z : Nat)] 3)) 4 #[.bool false]
    rw [World.size_alloc] at h
    rw [← hw0]; exact h
  have hb0 : Below w.heap.size w w0 := by rw [← hw0]; exact ((Below.refl _ w).alloc (Nat.le_refl _) _).alloc (by simp) _
  have hs0 : w0.heap.size = w.heap.size + 1 + 1 := by rw [← hw0]; simp
  have HW0 : Hid ((w.alloc (.cells #[.int .i64 (z : Nat)] 3)).alloc (.cells #[.bool false] 4) = w0) := hw0
  clear hw0
  refine callsIn_of_wp_marks Tryz.func37 rfl trivial ?_ rfl
  simp only [Tryz.ntmps37, List.size_toArray, List.length_cons, List.length_nil, Nat.reduceAdd, Nat.reduceSub, Array.replicate_succ, Array.replicate_zero, List.push_toArray, List.append_toArray, List.nil_append, List.cons_append]
  gi_wp2
  refine wpIn_scope_wide ?_
  gi_wp2
  refine wpIn_label ?_
  rw [HW0.out]
  gi_wp2
  refine ⟨trivial, (buckets_in Fence.wide _ trivial rfl _).mono ?_⟩
  rintro e w1 ⟨rfl, hw1⟩
  obtain rfl : w0 = w1 := hw1.symm
  clear hw1
  gi_wp2
  refine wpIn_rangeFunc_low rfl h1 (gf := 71) (lb := #[]) rfl trivial (enters_of Tryz.func71 (by kernel_rfl) rfl)
    (encs := fun x : Pl => #[plVal x]) (Ok := fun _ _ => True) (Kp := fun _ _ => True)
    (fun W' _ _ => buckets_iter Fence.wide (n - 1) trivial rfl (by omega) _ _ W')
    (fun _ _ => trivial) (fun _ _ _ _ _ => trivial) (fun _ => rfl)
    (fun pre A => (ShortS z pre ∧ Row A w.heap.size 3 [.int .i64 (z : Nat)] ∧ Row A (w.heap.size + 1) 4 [.bool false]) ∧ Below w.heap.size w A)
    (fun c pre A => (c = .exit 0 ∧ FoundS z (w.heap.size + 1) pre A) ∧ Below w.heap.size w A)
    (fun s A A' ⟨⟨h1, h2, h3⟩, h4⟩ hb => ⟨⟨h1, h2.below hb (by omega), h3.below hb (by omega)⟩, h4.trans (hb.mono (by omega))⟩)
    (fun c s A A' ⟨⟨h0, pre', x, h5, h6, h1⟩, h4⟩ hb => ⟨⟨h0, pre', x, h5, h6, by
      rcases h1 with ⟨h2, h3⟩ | ⟨h2, h3⟩
      · exact .inl ⟨h2, h3.below hb (by omega)⟩
      · exact .inr ⟨h2, h3.below hb (by omega)⟩⟩, h4.trans (hb.mono (by omega))⟩)
    (fun _ _ _ h _ => h) ⟨⟨fun x hx => by simp at hx, HrN.out, HrF.out⟩, hb0⟩
    (fun x => { tmps := #[.int .i64 (z : Nat), .pointer (some ⟨w.heap.size, 0, none⟩), .bool false, .pointer (some ⟨w.heap.size + 1, 0, none⟩), plVal x, .func (.func 71) #[] #[], plVal x, undef, undef, undef, undef, undef, undef, undef, undef, undef, undef, undef], defers := [] })
    ?assign ?body ?done ?stop
  case assign =>
    intro l x W K hK
    gi_wp2
    exact hK
  case body =>
    rintro l pre x A ⟨⟨hall, hrN, hrF⟩, hB⟩ _ hlt
    have cn := hrN.cell (i := 0) rfl
    have cf := hrF.cell (i := 0) rfl
    have ff := hrF.frozen 0
    have HN : Hid (Row A w.heap.size 3 [.int .i64 (z : Nat)]) := hrN
    have HF : Hid (Row A (w.heap.size + 1) 4 [.bool false]) := hrF
    have HA : Hid (ShortS z pre) := hall
    clear hrN hrF hall
    have hx1 := pow_le x.2
    obtain ⟨s, hs⟩ : ∃ s, 32 * 2 ^ x.1 = s := ⟨_, rfl⟩
    rw [hs] at hx1
    have e1 : IntKind.i64.wrap (44 + (s : Int)) = 44 + (s : Int) := by rw [IntKind.wrap_i64]; omega
    have hv : plVal x = .int .i64 (s : Nat) := by unfold plVal; rw [hs]
    have HS : Hid (32 * 2 ^ x.1 = s) := hs
    simp only [hv]
    clear hs
    by_cases h0 : 44 + s = z
    · have h0' : ((z : Int) == 44 + (s : Int)) = true := by simp; omega
      gi_wp2
      exact ⟨(KeepsOthers.setCell A _ _).from _, trivial, ⟨rfl, pre, x, rfl, HA.out, .inl ⟨by rw [HS.out]; exact h0, HF.out.set 0 _⟩⟩, hB.setCell (p := ⟨w.heap.size + 1, 0, none⟩) (by show _ ≤ w.heap.size + 1; omega) _⟩
    · have h0' : ((z : Int) == 44 + (s : Int)) = false := by simp; omega
      by_cases hle : z < 44 + s
      · have hle' : (z : Int) < 44 + (s : Int) := by omega
        gi_wp2
        exact ⟨KeepsFrom.refl _ _, trivial, ⟨rfl, pre, x, rfl, HA.out, .inr ⟨by rw [HS.out]; exact hle, HF.out⟩⟩, hB⟩
      · have hle' : ¬ (z : Int) < 44 + (s : Int) := by omega
        gi_wp2
        refine ⟨KeepsFrom.refl _ _, trivial, ⟨?_, HN.out, HF.out⟩, hB⟩
        intro y hy
        rcases List.mem_append.1 hy with hy | hy
        · exact HA.out y hy
        · simp at hy; subst hy; rw [HS.out]; omega
  case done =>
    rintro D ys A hD hys ⟨⟨hall, hrN, hrF⟩, hB⟩ hK
    have cf := hrF.cell (i := 0) rfl
    gi_wp2
    refine ⟨by simp, .inl ⟨_, _, rfl, run_takeDeferred hK, ?_⟩⟩
    exact ⟨_, results_tmp rfl _ _ _, false, rfl, (fun h => by cases h), hB.trans (below_putObj _ _ (by omega))⟩
  case stop =>
    rintro D c pre A hD ⟨k, hk⟩ ⟨⟨rfl, pre', x, rfl, h6, h⟩, hB⟩ hK
    obtain ⟨r, hr, hrz⟩ : ∃ r, Row A (w.heap.size + 1) 4 [.bool r] ∧ (r = true → 76 ≤ z) := by
      rcases h with ⟨h2, h⟩ | ⟨_, h⟩
      · exact ⟨true, h, fun _ => by have := pow_pos' x.1; omega⟩
      · exact ⟨false, h, fun h => by cases h⟩
    have cf := hr.cell (i := 0) rfl
    gi_wp2
    refine ⟨by simp, .inl ⟨_, _, rfl, run_takeDeferred hK, ?_⟩⟩
    exact ⟨_, results_tmp rfl _ _ _, r, rfl, hrz, hB.trans (below_putObj _ _ (by omega))⟩

theorem sealedLen2_any (z : Nat) (hz : z ≤ 70000) (w : World) : Calls Tryz.prog 37 #[.int .i64 (z : Nat)] w fun e w' => ∃ r, e = .returned (.bool r) ∧ (r = true → 76 ≤ z) ∧ Below w.heap.size w w' := callsIn_wide.1 (sealedLen2_in 3 (Nat.le_refl _) z hz w)

end Go.Proofs.YtclelancbfoenaaGreatDoor
