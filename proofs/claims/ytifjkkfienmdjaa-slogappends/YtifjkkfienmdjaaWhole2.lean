/-
  whole: the bytes of a record.
-/
import Derived.Test.YtifjkkfienmdjaaDue
import Derived.Test.YtifjkkfienmdjaaTake2
namespace Go.Proofs.Ytifjkkfienmdjaa
open Go.RowKit Go.Shelf

theorem own_cap {n₀ : Nat} {W : World} {q : Option Addr} {n c : Nat} {zs : List Nat} (h : Own n₀ W (.slice q n c) zs) : n ≤ c ∧ c ≤ 9223372036854775807 := by
  rcases h.2 with ⟨e, h0⟩ | ⟨g, cp, cur, e, hg, hgg, hnc, hcm, _⟩
  · simp only [Value.slice.injEq] at e
    omega
  · simp only [Value.slice.injEq] at e
    simp only [maxLen] at hcm
    omega
theorem own_le {n₀ n₁ : Nat} {W : World} {v : Value} {zs : List Nat} (h : Own n₁ W v zs) (hn : n₀ ≤ n₁) : Own n₀ W v zs := by
  refine ⟨h.1, ?_⟩
  rcases h.2 with h | ⟨g, cp, cur, e, hg, hr⟩
  · exact .inl h
  · exact .inr ⟨g, cp, cur, e, by omega, hr⟩
/-- The bytes that were read so far. -/
def gotB (ss : List (List Nat)) (a j : Nat) : List Nat := ((ss.getD a []).drop 4).take 51 ++ ((List.range j).map fun i => ss.getD (a + (i + 1)) []).flatten
theorem gotB_succ (ss : List (List Nat)) (a j : Nat) : gotB ss a (j + 1) = gotB ss a j ++ ss.getD (a + (j + 1)) [] := by
  simp only [gotB, List.range_succ, List.map_append, List.flatten_append, List.map_cons, List.map_nil, List.flatten_cons, List.flatten_nil, List.append_nil, List.append_assoc]
theorem gotB_len {ss : List (List Nat)} (hs : ∀ s ∈ ss, IsSec s) {a : Nat} : ∀ {j : Nat}, a + j < ss.length → (gotB ss a j).length = 51 + 64 * j
  | 0, h => by
    have := (sec_at hs (i := a) (by omega)).1
    simp only [gotB, List.range_zero, List.map_nil, List.flatten_nil, List.append_nil, List.length_take, List.length_drop]
    omega
  | j + 1, h => by
    rw [gotB_succ, List.length_append, gotB_len hs (by omega), (sec_at hs (i := a + (j + 1)) (by omega)).1]
    omega
theorem gotB_lt {ss : List (List Nat)} (hs : ∀ s ∈ ss, IsSec s) (a : Nat) {j : Nat} (h : a + j < ss.length) : ∀ z ∈ gotB ss a j, z < 256 := fun z hz => by
  rcases List.mem_append.1 hz with h1 | h1
  · exact (sec_at hs (i := a) (by omega)).2 z (List.mem_of_mem_drop (List.mem_of_mem_take h1))
  · obtain ⟨s, hs1, hs2⟩ := List.mem_flatten.1 h1
    obtain ⟨i, hi, rfl⟩ := List.mem_map.1 hs1
    have := List.mem_range.1 hi
    exact (sec_at hs (i := a + (i + 1)) (by omega)).2 z hs2
theorem recB_got (ss : List (List Nat)) (f at_ long : Nat) : recB ss f at_ long = (gotB ss (f + at_) (spanN long - 1)).take long := rfl
theorem read_live {d : St} {i : Nat} (hd : d.dead = false) (hi : i < d.ss.length) : d.read (i : Nat) = d.ss.getD i [] := by
  rw [St.read, wErr_live hd hi, if_neg (by simp), Int.toNat_natCast]

set_option maxRecDepth 100000 in
set_option maxHeartbeats 4000000 in
theorem whole_any {F : List Nat} {n₀ : Nat} {w : World} {L p g : Nat} {v : Value} {d : St} {l : Lg} (h : MSt F n₀ w L p g v d l) (hd : d.dead = false) (m : Nat) (hm : m ≤ 262144) (hfit : l.f + l.pos + spanN (m : Nat) ≤ d.ss.length) :
    Calls Try.prog 31 #[.pointer (some ⟨L, 0, none⟩), .agg (u8s (d.ss.getD (l.f + l.pos) [])).toArray, .int .i64 (m : Nat)] w fun e w' => ∃ q c, e = .returned (.tuple #[.slice q m c, .int .i64 0]) ∧ Bytes5 w' (.slice q m c) (recB d.ss l.f l.pos m) ∧ Below w.heap.size w w' := by
  have hsp := spanN_nat hm
  obtain ⟨k, hk⟩ : ∃ k, spanN (m : Nat) = k := ⟨_, rfl⟩
  have HSp : Hid (∀ W, Calls Try.prog 9 #[.int .i64 (m : Nat)] W fun e w' => e = .returned (.int .i64 (k : Nat)) ∧ w' = W) := fun W => by have := span_any (m : Nat) W; rw [hk] at this; exact this
  rw [hk] at hsp hfit
  have hk1 : 1 ≤ k := by omega
  have hk2 : k ≤ 5000 := by omega
  have hmk : m ≤ 51 + 64 * (k - 1) := by omega
  clear hsp
  have hssl := h.disk.1.few
  have hsecs := h.disk.1.secs
  have HSecs : Hid (∀ s ∈ d.ss, IsSec s) := hsecs
  obtain ⟨A, hA⟩ : ∃ A, l.f + l.pos = A := ⟨_, rfl⟩
  have hs : IsSec (d.ss.getD A []) := sec_at hsecs (by omega)
  have HEnd : Hid (recB d.ss l.f l.pos m = (gotB d.ss A (k - 1)).take m) := by show _ = _; rw [recB_got, hk, hA]
  rw [hA] at hfit ⊢
  obtain ⟨w0, hw0⟩ : ∃ w0, w.alloc (.cells (u8s (d.ss.getD A [])).toArray 55) = w0 := ⟨_, rfl⟩
  have hb0 : Below w.heap.size w w0 := by rw [← hw0]; exact (Below.refl _ w).alloc (Nat.le_refl _) _
  have hr0 : Row w0 w.heap.size 55 (u8s (d.ss.getD A [])) := by rw [← hw0]; exact Row.new' w 55 _
  have HW0 : Hid (w.alloc (.cells (u8s (d.ss.getD A [])).toArray 55) = w0) := hw0
  have hI0 : IsBytes w0.heap.size w0 (some ⟨w.heap.size, 4, none⟩) 51 60 (((d.ss.getD A []).drop 4).take 51) := row_bytes hr0 hs.2 (by rw [hs.1]; omega) (by omega) (by omega)
  have HCl : Hid (Calls Try.prog 41 #[.slice (some ⟨w.heap.size, 4, none⟩) 51 60] w0 fun e w' => ∃ v', e = .returned v' ∧ Own w0.heap.size w' v' (((d.ss.getD A []).drop 4).take 51) ∧ Below w0.heap.size w0 w') := clone41_any hI0 (by omega)
  have HSt : Hid (MSt F n₀ w L p g v d l) := h
  have HC : Hid (∀ W, Below w.heap.size w W → W.cell? ⟨L, 3, none⟩ = some (.int .i64 (A : Nat)) ∧ W.cell? ⟨L, 1, none⟩ = some (.pointer (some ⟨p, 0, none⟩))) := fun W hb => by
    have hl := (h.later hb).log.1
    rw [hA] at hl
    exact ⟨hl.cell (i := 3) rfl, hl.cell (i := 1) rfl⟩
  have HRd : Hid (∀ (W : World) (j : Nat), Below w.heap.size w W → A + j < d.ss.length → Calls Try.prog 29 #[.pointer (some ⟨p, 0, none⟩), .int .i64 ((A + j : Nat) : Int)] W fun e w' => e = .returned (.tuple #[.agg (u8s (d.ss.getD (A + j) [])).toArray, .int .i64 0]) ∧ Below W.heap.size W w') := fun W j hb hj => by
    have := read_any (h.later hb).disk ((A + j : Nat) : Int)
    rw [read_live hd hj, wErr_live hd hj] at this
    exact this
  obtain ⟨X, hX⟩ : ∃ X, u8s (d.ss.getD A []) = X := ⟨_, rfl⟩
  rw [hX] at HW0 ⊢
  clear hw0 hr0 hI0 hs hsecs h hd hX hk hA
  go_enter Try.func31, Try.ntmps31
  go_upto_region 2 with (first
    | (rw [HW0.out])
    | (go_at_call 41; refine HCl.out.mono ?_; rintro e w1 ⟨vb, rfl, ho1, hb1⟩))
  have HB1 : Hid (Below w.heap.size w w1) := hb0.trans (hb1.mono hb0.size)
  have HO1 : Hid (Own w.heap.size w1 vb (gotB d.ss A 0)) := by
    show Own _ _ _ _
    simp only [gotB, List.range_zero, List.map_nil, List.flatten_nil, List.append_nil]
    exact own_le ho1 hb0.size
  obtain ⟨hc3, hc1⟩ := HC.out w1 HB1.out
  have HLb : Hid (∀ j, j + 1 ≤ k → (gotB d.ss A j).length = 51 + 64 * j) := fun j hj => gotB_len HSecs.out (by omega)
  obtain ⟨q1, c1, rfl⟩ : ∃ q c, vb = .slice q 51 c := by
    obtain ⟨q, c, e⟩ := slice_of_row HO1.out
    rw [HLb.out 0 (by omega)] at e
    exact ⟨q, c, e⟩
  clear ho1 hb1
  go_wp2
  go_loopw [8, 9] (fun bv iv wr => ∃ (j : Nat) (q : Option Addr) (c : Nat), j + 1 ≤ k ∧ iv = .int .i64 ((A + (j + 1) : Nat) : Int) ∧ bv = .slice q (51 + 64 * j) c ∧ Own w.heap.size wr (.slice q (51 + 64 * j) c) (gotB d.ss A j) ∧ Below w.heap.size w wr) (fun _ iv _ => (A + k) - (intOf iv).toNat)
  case atStart => exact ⟨0, q1, c1, by omega, by go_num, rfl, HO1.out, HB1.out⟩
  case round =>
    obtain ⟨j, qb, cb, hjk, rfl, rfl, hown, hbw⟩ := hrel
    have HOw : Hid (Own w.heap.size wr (.slice qb (51 + 64 * j) cb) (gotB d.ss A j)) := hown
    have HBw : Hid (Below w.heap.size w wr) := hbw
    obtain ⟨hc3r, hc1r⟩ := HC.out wr hbw
    have hcap : 51 + 64 * j ≤ cb ∧ cb ≤ 9223372036854775807 := own_cap hown
    have hszr := hbw.size
    clear hown hbw
    by_cases hlt : j + 1 < k
    · have hwk : IntKind.i64.wrap ((A : Int) + (k : Int)) = (A : Int) + (k : Int) := by rw [IntKind.wrap_i64]; omega
      have hlti : (A : Int) + ((j : Int) + 1) < (A : Int) + (k : Int) := by omega
      have hltd : decide ((A : Int) + ((j : Int) + 1) < (A : Int) + (k : Int)) = true := decide_eq_true hlti
      obtain ⟨s', hs'⟩ : ∃ s', d.ss.getD (A + (j + 1)) [] = s' := ⟨_, rfl⟩
      have hxs : IsSec s' := by rw [← hs']; exact sec_at HSecs.out (by omega)
      have HR1 : Hid (∀ W, Below wr.heap.size wr W → Calls Try.prog 29 #[.pointer (some ⟨p, 0, none⟩), .int .i64 ((A + (j + 1) : Nat) : Int)] W fun e w' => e = .returned (.tuple #[.agg (u8s s').toArray, .int .i64 0]) ∧ Below W.heap.size W w') := fun W hb => by
        have := HRd.out W (j + 1) (HBw.out.trans (hb.mono hszr)) (by omega)
        rw [hs'] at this
        exact this
      have HG : Hid (gotB d.ss A (j + 1) = gotB d.ss A j ++ s') := by show _ = _; rw [gotB_succ, hs']
      have HL : Hid ((u8s s').length = 64) := by show _ = _; rw [u8s_length]; exact hxs.1
      have HO : Hid (∀ u ∈ u8s s', u.oneCell' = true) := u8s_one _
      have HZs : Hid (IsSec s') := hxs
      obtain ⟨V, hV⟩ : ∃ V, u8s s' = V := ⟨_, rfl⟩
      have HV : Hid (u8s s' = V) := hV
      rw [hV] at HR1 HL HO
      clear hs' hxs hV
      go_upto_region 3 with fail
      refine wp_region_held_drew (S := fun W => Below wr.heap.size wr W) (by kernel_rfl) (Below.refl _ _).drew (fun hHeld => ?_)
      refine wpAnyH_takesAt 0 1 8 (of_decide_eq_true (by kernel_rfl)) rfl (fun _ _ _ d _ h => by cases d <;> exact h) (by kernel_rfl) (by kernel_rfl) hHeld ?_
      simp only [List.drop_zero, List.take_succ_cons, List.take_zero]
      iterate 1 (refine wpHeld_step (v := ?_) (by rfl) (fun wz hSw => ?_) ?_; rotate_left; (focus ((try dsimp only at hSw); go_simp; try with_reducible rfl)); ((simp only [Act.put]; (try simp only [List.setIfInBounds_toArray]); (try simp only [List.set_cons_succ]); (try simp only [List.set_cons_zero]))))
      refine wpHeld_nil ?_
      refine wpAnyH_takesAt 1 4 4 (of_decide_eq_true (by kernel_rfl)) rfl (fun _ _ _ d _ h => by cases d <;> exact h) (by kernel_rfl) (by kernel_rfl) hHeld ?_
      simp only [List.drop_succ_cons, List.drop_zero, List.take_succ_cons, List.take_zero]
      iterate 4 (refine wpHeld_step (v := ?_) (by rfl) (fun wz hSw => ?_) ?_; rotate_left; (focus (have hc := (HC.out wz (HBw.out.trans (hSw.mono hszr))).1; clear hSw; go_simp; try with_reducible rfl)); (simp only [Act.put, List.setIfInBounds_toArray, List.set_cons_zero, List.set_cons_succ]))
      refine wpHeld_nil ?_
      refine wpAnyH_takesAt 5 1 3 (of_decide_eq_true (by kernel_rfl)) rfl (fun _ _ _ d _ h => by cases d <;> exact h) (by kernel_rfl) (by kernel_rfl) hHeld ?_
      simp only [List.drop_succ_cons, List.drop_zero, List.take_succ_cons, List.take_zero]
      iterate 1 (refine wpHeld_step (v := ?_) (by rfl) (fun wz hSw => ?_) ?_; rotate_left; (focus ((try dsimp only at hSw); go_simp; try with_reducible rfl)); ((simp only [Act.put]; (try simp only [List.setIfInBounds_toArray]); (try simp only [List.set_cons_succ]); (try simp only [List.set_cons_zero]))))
      refine wpHeld_nil ?_
      refine wpAnyH_only (i := 6) (by kernel_rfl) rfl (fun K hK => ?_)
      rw [if_pos (by rfl)]
      go_simp
      refine (HSp.out _).mono ?_
      rintro e wq ⟨rfl, hwq⟩
      obtain rfl := hwq.symm
      clear hwq
      refine hK.out _ _ hHeld ?_
      clear hK K
      refine wpAnyH_takesAt 7 1 1 (of_decide_eq_true (by kernel_rfl)) rfl (fun _ _ _ d _ h => by cases d <;> exact h) (by kernel_rfl) (by kernel_rfl) hHeld ?_
      simp only [List.drop_succ_cons, List.drop_zero, List.take_succ_cons, List.take_zero]
      iterate 1 (refine wpHeld_step (v := ?_) (by rfl) (fun wz hSw => ?_) ?_; rotate_left; (focus ((try dsimp only at hSw); go_simp; try with_reducible rfl)); ((simp only [Act.put]; (try simp only [List.setIfInBounds_toArray]); (try simp only [List.set_cons_succ]); (try simp only [List.set_cons_zero]))))
      refine wpHeld_nil ?_
      refine wpAnyH_takesAt 8 1 0 (of_decide_eq_true (by kernel_rfl)) rfl (fun _ _ _ d _ h => by cases d <;> exact h) (by kernel_rfl) (by kernel_rfl) hHeld ?_
      simp only [List.drop_succ_cons, List.drop_zero, List.take_succ_cons, List.take_zero]
      iterate 1 (refine wpHeld_step (v := ?_) (by rfl) (fun wz hSw => ?_) ?_; rotate_left; (focus ((try dsimp only at hSw); go_simp; try with_reducible rfl)); ((simp only [Act.put]; (try simp only [List.setIfInBounds_toArray]); (try simp only [List.set_cons_succ]); (try simp only [List.set_cons_zero]))))
      refine wpHeld_nil ?_
      refine wpAnyH_done (by kernel_rfl) ?_ _
      have hb4 := hHeld
      clear hHeld
      go_wp2_with (first
        | (go_at_call 29; refine (HR1.out _ hb4).mono ?_; rintro e w5 ⟨rfl, hb5⟩)
        | ((with_reducible show wpList _ _ _ (Oper.mk _ (Op.store 55 (.tmp 10) (.tmp 37)) _ _ _ _ :: _) _ _); rw [z64u8]; refine wpList_store_new rfl (.tmp 10) (.tmp 37) rfl V HL.out HO.out rfl rfl (fun w6 hb6 hR6 hs6 => ?_); have hbq : Below wr.heap.size wr w6 := (hb4.trans (hb5.mono hb4.size)).trans (hb6.mono (Nat.le_trans hb4.size hb5.size)); have HO6 : Hid (Own w.heap.size w6 (.slice qb (51 + 64 * j) cb) (gotB d.ss A j)) := KeepT.own (KeepT.of_below hbq) HOw.out; have HI6 : Hid (IsBytes w6.heap.size w6 (some ⟨w5.heap.size, 0, none⟩) 64 64 s') := (by have := row_bytes (HV.out ▸ hR6) HZs.out.2 (k := 64) (off := 0) (c := 64) (by rw [HZs.out.1]; omega) (by omega) (by omega); rw [List.drop_zero, List.take_of_length_le (by rw [HZs.out.1]; omega)] at this; exact this); have HB6 : Hid (Below w.heap.size w w6) := HBw.out.trans (hbq.mono hszr); clear hR6; simp only [Act.put])
        | ((with_reducible show wpList _ _ _ (Oper.mk (some 44) _ _ _ _ _ :: _) _ _); refine wpList_append_bytes rfl (.tmp 42) (.tmp 43) rfl w.heap.size _ (gotB d.ss A j) rfl HO6.out rfl HI6.out (by rw [HLb.out j (by omega)]; omega) (by have := HB6.out.size; omega) (fun v7 w7 ho7 hg7 => ?_); simp only [Act.put, List.setIfInBounds_toArray, List.set_cons_zero, List.set_cons_succ]))
      have HO7 : Hid (Own w.heap.size w7 v7 (gotB d.ss A (j + 1))) := by rw [HG.out]; exact ho7
      have HB7 : Hid (Below w.heap.size w w7) := HB6.out.grown hg7 HB6.out.size (fun k hk => (World.ownsRow.lt HO6.out k hk).1)
      obtain ⟨q7, c7, rfl⟩ : ∃ q c, v7 = .slice q (51 + 64 * (j + 1)) c := by
        obtain ⟨q, c, e⟩ := slice_of_row HO7.out
        rw [HLb.out (j + 1) (by omega)] at e
        exact ⟨q, c, e⟩
      exact ⟨⟨j + 1, q7, c7, by omega, by go_num, rfl, HO7.out, HB7.out⟩, by simp [intOf]; omega⟩
    · have hjk' : j = k - 1 := by omega
      have HJ : Hid (j = k - 1) := hjk'
      have hwk : IntKind.i64.wrap ((A : Int) + (k : Int)) = (A : Int) + (k : Int) := by rw [IntKind.wrap_i64]; omega
      have hlti : ¬ (A : Int) + ((j : Int) + 1) < (A : Int) + (k : Int) := by omega
      have hltd : decide ((A : Int) + ((j : Int) + 1) < (A : Int) + (k : Int)) = false := decide_eq_false hlti
      have hmc : m ≤ cb := by omega
      have hmi : (m : Int) ≤ (cb : Int) := by omega
      clear hjk'
      go_upto_region 3 with fail
      refine wp_region_held_drew (S := fun W => Below wr.heap.size wr W) (by kernel_rfl) (Below.refl _ _).drew (fun hHeld => ?_)
      refine wpAnyH_takesAt 0 1 8 (of_decide_eq_true (by kernel_rfl)) rfl (fun _ _ _ d _ h => by cases d <;> exact h) (by kernel_rfl) (by kernel_rfl) hHeld ?_
      simp only [List.drop_zero, List.take_succ_cons, List.take_zero]
      iterate 1 (refine wpHeld_step (v := ?_) (by rfl) (fun wz hSw => ?_) ?_; rotate_left; (focus ((try dsimp only at hSw); go_simp; try with_reducible rfl)); ((simp only [Act.put]; (try simp only [List.setIfInBounds_toArray]); (try simp only [List.set_cons_succ]); (try simp only [List.set_cons_zero]))))
      refine wpHeld_nil ?_
      refine wpAnyH_takesAt 1 4 4 (of_decide_eq_true (by kernel_rfl)) rfl (fun _ _ _ d _ h => by cases d <;> exact h) (by kernel_rfl) (by kernel_rfl) hHeld ?_
      simp only [List.drop_succ_cons, List.drop_zero, List.take_succ_cons, List.take_zero]
      iterate 4 (refine wpHeld_step (v := ?_) (by rfl) (fun wz hSw => ?_) ?_; rotate_left; (focus (have hc := (HC.out wz (HBw.out.trans (hSw.mono hszr))).1; clear hSw; go_simp; try with_reducible rfl)); (simp only [Act.put, List.setIfInBounds_toArray, List.set_cons_zero, List.set_cons_succ]))
      refine wpHeld_nil ?_
      refine wpAnyH_takesAt 5 1 3 (of_decide_eq_true (by kernel_rfl)) rfl (fun _ _ _ d _ h => by cases d <;> exact h) (by kernel_rfl) (by kernel_rfl) hHeld ?_
      simp only [List.drop_succ_cons, List.drop_zero, List.take_succ_cons, List.take_zero]
      iterate 1 (refine wpHeld_step (v := ?_) (by rfl) (fun wz hSw => ?_) ?_; rotate_left; (focus ((try dsimp only at hSw); go_simp; try with_reducible rfl)); ((simp only [Act.put]; (try simp only [List.setIfInBounds_toArray]); (try simp only [List.set_cons_succ]); (try simp only [List.set_cons_zero]))))
      refine wpHeld_nil ?_
      refine wpAnyH_only (i := 6) (by kernel_rfl) rfl (fun K hK => ?_)
      rw [if_pos (by rfl)]
      go_simp
      refine (HSp.out _).mono ?_
      rintro e wq ⟨rfl, hwq⟩
      obtain rfl := hwq.symm
      clear hwq
      refine hK.out _ _ hHeld ?_
      clear hK K
      refine wpAnyH_takesAt 7 1 1 (of_decide_eq_true (by kernel_rfl)) rfl (fun _ _ _ d _ h => by cases d <;> exact h) (by kernel_rfl) (by kernel_rfl) hHeld ?_
      simp only [List.drop_succ_cons, List.drop_zero, List.take_succ_cons, List.take_zero]
      iterate 1 (refine wpHeld_step (v := ?_) (by rfl) (fun wz hSw => ?_) ?_; rotate_left; (focus ((try dsimp only at hSw); go_simp; try with_reducible rfl)); ((simp only [Act.put]; (try simp only [List.setIfInBounds_toArray]); (try simp only [List.set_cons_succ]); (try simp only [List.set_cons_zero]))))
      refine wpHeld_nil ?_
      refine wpAnyH_takesAt 8 1 0 (of_decide_eq_true (by kernel_rfl)) rfl (fun _ _ _ d _ h => by cases d <;> exact h) (by kernel_rfl) (by kernel_rfl) hHeld ?_
      simp only [List.drop_succ_cons, List.drop_zero, List.take_succ_cons, List.take_zero]
      iterate 1 (refine wpHeld_step (v := ?_) (by rfl) (fun wz hSw => ?_) ?_; rotate_left; (focus ((try dsimp only at hSw); go_simp; try with_reducible rfl)); ((simp only [Act.put]; (try simp only [List.setIfInBounds_toArray]); (try simp only [List.set_cons_succ]); (try simp only [List.set_cons_zero]))))
      refine wpHeld_nil ?_
      refine wpAnyH_done (by kernel_rfl) ?_ _
      have hb4 := hHeld
      clear hHeld
      go_wp2
      refine bodyPost_ret (results_tmp2 rfl _ _ _) rfl ?_
      refine ⟨qb, cb, rfl, ?_, HBw.out.drew⟩
      have h5 := (Bytes5.of_own HOw.out (gotB_lt HSecs.out A (by have := HJ.out; omega))).head (k := m) (by omega)
      rw [HEnd.out, ← HJ.out]
      exact h5.kept (KeepT.of_below (Below.refl _ _).drew)
end Go.Proofs.Ytifjkkfienmdjaa
