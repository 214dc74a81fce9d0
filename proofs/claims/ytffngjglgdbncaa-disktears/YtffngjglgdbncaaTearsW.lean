/-
  DiskTears: the walk.
-/
import Derived.Test.YtffngjglgdbncaaAwake
namespace Go.Proofs.Ytffngjglgdbncaa
open Go.RowKit

/-- What a sector is behind the crash. -/
def baseOf (old : List Nat) (j k : Nat) : List Nat := if k = j then old else zeros64
def wantOf (old s : List Nat) (i : Nat) (keep : Int) (j k : Nat) : List Nat := if k = i then tear (baseOf old j k) s keep else baseOf old j k
theorem baseOf_sec {old : List Nat} (j k : Nat) (h : IsSec old) : IsSec (baseOf old j k) := by
  unfold baseOf
  split
  · exact h
  · exact isSec_zeros
theorem wantOf_sec {old s : List Nat} (i : Nat) (keep : Int) (j k : Nat) (h : IsSec old) (hs : IsSec s) : IsSec (wantOf old s i keep j k) := by
  unfold wantOf
  split
  · exact tear_sec (baseOf_sec j k h) hs keep
  · exact baseOf_sec j k h
theorem step_row {s base : List Nat} (hs : IsSec s) (hb : IsSec base) {c : Nat} (hc : c < 64) : (u8s (s.take c ++ base.drop c)).set c (.int .u8 (s.getD c 0 : Nat)) = u8s (s.take (c + 1) ++ base.drop (c + 1)) := by
  have l1 := hs.1
  have l2 := hb.1
  have hcs : c < s.length := by omega
  have hcb : c < base.length := by omega
  rw [List.drop_eq_getElem_cons hcb, List.take_succ_eq_append_getElem hcs, List.getD_eq_getElem?_getD, List.getElem?_eq_getElem hcs, Option.getD_some]
  simp only [u8s, List.map_append, List.map_cons, List.map_nil]
  rw [List.set_append_right _ _ (by simp; omega)]
  simp [Nat.min_eq_left (Nat.le_of_lt hcs)]
/-- The disk ahead, behind the first write, behind the second, started again. -/
def dN (n : Nat) (keep : Int) : St := newS n [(1, keep)]
theorem dN_ss (n : Nat) (keep : Int) (hn : n ≤ 100) : (dN n keep).ss = List.replicate n zeros64 := by
  unfold dN newS sizeS
  simp only
  congr 1
  omega
theorem dA_err {n j : Nat} {keep : Int} (hn : n ≤ 100) (hj : j < n) : (dN n keep).err (j : Nat) = 0 ∧ (dN n keep).strikes = false := by
  constructor
  · simp only [St.err, dN_ss n keep hn, List.length_replicate]
    simp [dN, newS]
    omega
  · simp [St.strikes, dN, newS]
theorem dA_eq {n j : Nat} {keep : Int} {old : List Nat} (hn : n ≤ 100) (hj : j < n) : (dN n keep).write (j : Nat) old = ⟨(List.replicate n zeros64).set j old, [(1, keep)], 1, false⟩ := by
  obtain ⟨h1, h2⟩ := dA_err (keep := keep) hn hj
  rw [write_eq_ok h1 h2, dN_ss n keep hn]
  simp [dN, newS]
theorem dB_err {n i : Nat} {keep : Int} {X : List (List Nat)} (hX : X.length = n) (hi : i < n) : (St.mk X [(1, keep)] 1 false).err (i : Nat) = 0 ∧ (St.mk X [(1, keep)] 1 false).strikes = true := by
  constructor
  · simp [St.err, hX]
    omega
  · simp [St.strikes]
theorem dB_eq {n i : Nat} {keep : Int} {s : List Nat} {X : List (List Nat)} (hX : X.length = n) (hi : i < n) : (St.mk X [(1, keep)] 1 false).write (i : Nat) s = ⟨X.set i (tear (X.getD i []) s keep), [(1, keep)], 1, true⟩ := by
  obtain ⟨h1, h2⟩ := dB_err (keep := keep) hX hi
  rw [write_eq_tear h1 h2]
  simp [St.keep]
theorem dC_read {n i j k : Nat} {keep : Int} {old s : List Nat} (hi : i < n) (hj : j < n) (hk : k < n) :
    (St.mk (((List.replicate n zeros64).set j old).set i (tear (((List.replicate n zeros64).set j old).getD i []) s keep)) [(1, keep)] 1 true).start.read (k : Nat) = wantOf old s i keep j k ∧ (St.mk (((List.replicate n zeros64).set j old).set i (tear (((List.replicate n zeros64).set j old).getD i []) s keep)) [(1, keep)] 1 true).start.err (k : Nat) = 0 := by
  have he : (St.mk (((List.replicate n zeros64).set j old).set i (tear (((List.replicate n zeros64).set j old).getD i []) s keep)) [(1, keep)] 1 true).start.err (k : Nat) = 0 := by
    simp [St.err, St.start]
    omega
  refine ⟨?_, he⟩
  rw [St.read, if_neg (by rw [he]; simp)]
  have hbase : ∀ m, m < n → ((List.replicate n zeros64).set j old).getD m [] = baseOf old j m := fun m hm => by
    rw [List.getD_eq_getElem?_getD, List.getElem?_set]
    unfold baseOf
    by_cases h : j = m
    · subst h; simp [hj]
    · rw [if_neg h, if_neg (fun e => h e.symm), List.getElem?_replicate, if_pos hm, Option.getD_some]
  simp only [St.start, Int.toNat_natCast]
  rw [hbase i hi, List.getD_eq_getElem?_getD, List.getElem?_set]
  unfold wantOf
  by_cases h : i = k
  · subst h; simp [hi]
  · rw [if_neg h, if_neg (fun e => h e.symm), ← List.getD_eq_getElem?_getD, hbase k hk]

set_option maxRecDepth 100000 in
set_option maxHeartbeats 8000000 in
theorem diskTears_walk (n : Int) (old s : List Nat) (i keep j : Int) (W : World) (hold : IsSec old) (hs : IsSec s) :
    Calls Try.prog 4 #[.int .i64 n, .agg (u8s old).toArray, .agg (u8s s).toArray, .int .i64 i, .int .i64 keep, .int .i64 j] W fun e W' => e = .returned (.bool true) ∧ Below W.heap.size W W' := by
  obtain ⟨w0, hw0⟩ : ∃ w0, W.alloc (.cells (u8s old).toArray 29) = w0 := ⟨_, rfl⟩
  obtain ⟨w1, hw1⟩ : ∃ w1, w0.alloc (.cells (u8s s).toArray 29) = w1 := ⟨_, rfl⟩
  have HW0 : Hid (W.alloc (.cells (u8s old).toArray 29) = w0) := hw0
  have HW1 : Hid (w0.alloc (.cells (u8s s).toArray 29) = w1) := hw1
  have hs0 : w0.heap.size = W.heap.size + 1 := by rw [← hw0]; simp
  have hs1 : w1.heap.size = W.heap.size + 2 := by rw [← hw1]; simp [hs0]
  have hb0 : Below W.heap.size W w0 := by rw [← hw0]; exact (Below.refl _ W).alloc (Nat.le_refl _) _
  have hb1 : Below w0.heap.size w0 w1 := by rw [← hw1]; exact (Below.refl _ w0).alloc (Nat.le_refl _) _
  have hRo : Row w1 W.heap.size 29 (u8s old) := by have := Row.new' W 29 (u8s old); rw [hw0] at this; exact this.later hb1
  have hRs : Row w1 w0.heap.size 29 (u8s s) := by have := Row.new' w0 29 (u8s s); rw [hw1] at this; exact this
  have hb01 : Below W.heap.size W w1 := hb0.trans (hb1.mono (by omega))
  have hbe : ∀ w2, Below w1.heap.size w1 w2 → Below W.heap.size W w2 := fun w2 h => hb01.trans (h.mono (by omega))
  have HS1 : Hid (w1.heap.size = W.heap.size + 2) := hs1
  have HS0 : Hid (w0.heap.size = W.heap.size + 1) := hs0
  have HRo1 : Hid (Row w1 W.heap.size 29 (u8s old)) := hRo
  have HRs1 : Hid (Row w1 w0.heap.size 29 (u8s s)) := hRs
  clear hw0 hw1 hs0 hs1 hb0 hb1 hRo hRs
  by_cases h1 : n < 1
  · have hd1 : decide (n < 1) = true := decide_eq_true h1
    go_enter Try.func4, Try.ntmps4
    go_wp2_with (first
      | (rw [HW0.out])
      | (rw [HW1.out])
      | (go_at_call 6; refine (awake_any _).mono ?_; rintro e w2 ⟨rfl, hb2⟩))
    go_ret
    exact ⟨rfl, hbe _ hb2⟩
  by_cases h2 : 100 < n
  · have hd1 : decide (n < 1) = false := decide_eq_false h1
    have hd2 : decide (100 < n) = true := decide_eq_true h2
    go_enter Try.func4, Try.ntmps4
    go_wp2_with (first
      | (rw [HW0.out])
      | (rw [HW1.out])
      | (go_at_call 6; refine (awake_any _).mono ?_; rintro e w2 ⟨rfl, hb2⟩))
    go_ret
    exact ⟨rfl, hbe _ hb2⟩
  by_cases h3 : i < 0
  · 
    go_enter Try.func4, Try.ntmps4
    go_wp2_with (first
      | (rw [HW0.out])
      | (rw [HW1.out])
      | (go_at_call 6; refine (awake_any _).mono ?_; rintro e w2 ⟨rfl, hb2⟩))
    go_ret
    exact ⟨rfl, hbe _ hb2⟩
  by_cases h4 : n ≤ i
  · 
    go_enter Try.func4, Try.ntmps4
    go_wp2_with (first
      | (rw [HW0.out])
      | (rw [HW1.out])
      | (go_at_call 6; refine (awake_any _).mono ?_; rintro e w2 ⟨rfl, hb2⟩))
    go_ret
    exact ⟨rfl, hbe _ hb2⟩
  by_cases h5 : j < 0
  · 
    go_enter Try.func4, Try.ntmps4
    go_wp2_with (first
      | (rw [HW0.out])
      | (rw [HW1.out])
      | (go_at_call 6; refine (awake_any _).mono ?_; rintro e w2 ⟨rfl, hb2⟩))
    go_ret
    exact ⟨rfl, hbe _ hb2⟩
  by_cases h6 : n ≤ j
  · 
    go_enter Try.func4, Try.ntmps4
    go_wp2_with (first
      | (rw [HW0.out])
      | (rw [HW1.out])
      | (go_at_call 6; refine (awake_any _).mono ?_; rintro e w2 ⟨rfl, hb2⟩))
    go_ret
    exact ⟨rfl, hbe _ hb2⟩
  obtain ⟨n, rfl⟩ : ∃ m : Nat, n = (m : Int) := ⟨n.toNat, by omega⟩
  obtain ⟨i, rfl⟩ : ∃ m : Nat, i = (m : Int) := ⟨i.toNat, by omega⟩
  obtain ⟨j, rfl⟩ : ∃ m : Nat, j = (m : Int) := ⟨j.toNat, by omega⟩
  have hin : i < n := by omega
  have hjn : j < n := by omega
  have hn100 : n ≤ 100 := by omega
  have HN : Hid (∀ V : World, Calls Try.prog 7 #[.int .i64 (n : Nat), .slice (some ⟨V.heap.size, 0, none⟩) 1 1] (V.alloc (.cells #[.int .i64 1, .int .i64 keep] 46)) fun e w' => ∃ p g, e = .returned (.pointer (some ⟨p, 0, none⟩)) ∧ V.heap.size ≤ p ∧ V.heap.size ≤ g ∧ DiskAt [p, g] w' p g (dN n keep) ∧ Below V.heap.size V w') := fun V => by
    refine (new_any (n : Nat) (len := 1) (cap := 1) (cr := [(1, keep)]) (w := V.alloc (.cells #[.int .i64 1, .int .i64 keep] 46)) ⟨rfl, Nat.le_refl _, by omega, .inr ⟨V.heap.size, 0, rfl, by simp, by simp, (Row.new V 46 #[.int .i64 1, .int .i64 keep]).range⟩⟩ (by omega)).mono ?_
    rintro e w' ⟨p, g, rfl, h1, h2, h3, h4⟩
    rw [World.size_alloc] at h1 h2 h4
    exact ⟨p, g, rfl, by omega, by omega, h3, ((Below.refl _ V).alloc (Nat.le_refl _) _).trans (h4.mono (by omega))⟩
  obtain ⟨dA, hdA⟩ : ∃ d, (dN n keep).write (j : Nat) old = d := ⟨_, rfl⟩
  obtain ⟨dB, hdB⟩ : ∃ d, dA.write (i : Nat) s = d := ⟨_, rfl⟩
  obtain ⟨dC, hdC⟩ : ∃ d, dB.start = d := ⟨_, rfl⟩
  have HWA : Hid (∀ V p g, DiskAt [p, g] V p g (dN n keep) → Calls Try.prog 9 #[.pointer (some ⟨p, 0, none⟩), .int .i64 (j : Nat), .agg (u8s old).toArray] V fun e w' => e = .returned (.int .i64 0) ∧ DiskAt [p, g] w' p g dA ∧ Buts [p, g] V.heap.size V w') := fun V p g h => by
    have := write_any h (j : Nat) hold (by simp [dN, newS])
    obtain ⟨e1, e2⟩ := dA_err (keep := keep) hn100 hjn
    rw [wErr_ok e1 e2, hdA] at this
    exact this
  rw [dA_eq hn100 hjn] at hdA
  have hlX : ((List.replicate n zeros64).set j old).length = n := by simp
  have HWB : Hid (∀ V p g, DiskAt [p, g] V p g dA → Calls Try.prog 9 #[.pointer (some ⟨p, 0, none⟩), .int .i64 (i : Nat), .agg (u8s s).toArray] V fun e w' => e = .returned (.int .i64 131) ∧ DiskAt [p, g] w' p g dB ∧ Buts [p, g] V.heap.size V w') := fun V p g h => by
    have := write_any h (i : Nat) hs (by rw [← hdA]; show 1 < 1000000; omega)
    rw [hdB] at this
    obtain ⟨e1, e2⟩ := dB_err (keep := keep) hlX hin
    rw [hdA] at e1 e2
    rw [wErr_tear e1 e2] at this
    exact this
  rw [← hdA, dB_eq hlX hin] at hdB
  have HDd : Hid (∀ V p g, DiskAt [p, g] V p g dB → Calls Try.prog 16 #[.pointer (some ⟨p, 0, none⟩)] V fun e w' => e = .returned (.bool true) ∧ w' = V) := fun V p g h => by
    have := dead_any h
    rw [← hdB] at this
    exact this
  have HSt : Hid (∀ V p g, DiskAt [p, g] V p g dB → Calls Try.prog 13 #[.pointer (some ⟨p, 0, none⟩)] V fun e w' => (∃ v, e = .returned v) ∧ DiskAt [p, g] w' p g dC ∧ Buts [p, g] V.heap.size V w') := fun V p g h => by
    have := start_any h
    rw [hdC] at this
    exact this
  rw [← hdB] at hdC
  have HRdA : Hid (∀ V p g, DiskAt [p, g] V p g dC → ∀ k : Nat, k < n → Calls Try.prog 11 #[.pointer (some ⟨p, 0, none⟩), .int .i64 (k : Nat)] V fun e w' => e = .returned (.tuple #[.agg (u8s (wantOf old s i keep j k)).toArray, .int .i64 0]) ∧ Below V.heap.size V w') := fun V p g h k hk => by
    have := read_any h (k : Nat)
    obtain ⟨e1, e2⟩ := dC_read (keep := keep) (old := old) (s := s) hin hjn hk
    rw [hdC] at e1 e2
    rw [e1, e2] at this
    exact this
  clear hdA hdB hdC hlX
  have HLo : Hid ((u8s old).length = 64) := by show _ = _; rw [u8s_length]; exact hold.1
  have HLs : Hid ((u8s s).length = 64) := by show _ = _; rw [u8s_length]; exact hs.1
  have g1 : decide ((n : Int) < 1) = false := decide_eq_false h1
  have g2 : decide ((100 : Int) < (n : Int)) = false := decide_eq_false h2
  have g3 : decide ((i : Int) < 0) = false := decide_eq_false h3
  have g5 : decide ((j : Int) < 0) = false := decide_eq_false h5
  go_enter Try.func4, Try.ntmps4
  go_wp2_with (first
    | (rw [HW0.out])
    | (rw [HW1.out])
    | (go_at_call 6; refine (awake_any _).mono ?_; rintro e w2 ⟨rfl, hb2⟩)
    | (go_at_call 7; refine (HN.out _).mono ?_; rintro e w3 ⟨p, g, rfl, hp3, hg3, hD3, hb3⟩; have HD3 : Hid (DiskAt [p, g] w3 p g _) := hD3; have HRo3 : Hid (Row w3 W.heap.size 29 (u8s old)) := (HRo1.out.later hb2).later hb3; have HRs3 : Hid (Row w3 w0.heap.size 29 (u8s s)) := (HRs1.out.later hb2).later hb3; have HP : Hid (W.heap.size + 2 ≤ p ∧ W.heap.size + 2 ≤ g) := ⟨by have := hb2.size; have := HS1.out; omega, by have := hb2.size; have := HS1.out; omega⟩; clear hD3)
    | (go_at_call 9; have _ := HD4; refine (HWB.out _ _ _ HD4.out).mono ?_; rintro e w5 ⟨rfl, hD5, hb5⟩; have HD5 : Hid (DiskAt [p, g] w5 p g dB) := hD5; clear hD5)
    | (go_at_call 9; refine (HWA.out _ _ _ HD3.out).mono ?_; rintro e w4 ⟨rfl, hD4, hb4⟩; have HD4 : Hid (DiskAt [p, g] w4 p g dA) := hD4; have HRs4 : Hid (Row w4 w0.heap.size 29 (u8s s)) := hb4.row HRs3.out.lt (by have := HP.out; have := HS0.out; simp; omega) HRs3.out; clear hD4)
    | (go_at_call 16; refine (HDd.out _ _ _ HD5.out).mono ?_; rintro e w6 ⟨rfl, hw6⟩; obtain rfl : w5 = w6 := hw6.symm; clear hw6)
    | (go_at_call 13; refine (HSt.out _ _ _ HD5.out).mono ?_; rintro e w6 ⟨⟨v6, rfl⟩, hD6, hb6⟩; have HD6 : Hid (DiskAt [p, g] w6 p g dC) := hD6; clear hD6)
    | ((with_reducible show wpList _ _ _ (Oper.mk (some 52) (Op.load 29 (.tmp 7)) _ _ _ _ :: _) _ _); refine wpList_load_want (by rfl) 29 (.tmp 7) rfl (W.heap.size) 0 rfl (u8s old) (HRo3.out).range Try.underlying29 (by rw [HLo.out]; exact size29) ?_; simp only [Act.put, List.setIfInBounds_toArray, List.set_cons_zero, List.set_cons_succ])
    | ((with_reducible show wpList _ _ _ (Oper.mk (some 58) (Op.load 29 (.tmp 8)) _ _ _ _ :: _) _ _); refine wpList_load_want (by rfl) 29 (.tmp 8) rfl (w0.heap.size) 0 rfl (u8s s) (HRs4.out).range Try.underlying29 (by rw [HLs.out]; exact size29) ?_; simp only [Act.put, List.setIfInBounds_toArray, List.set_cons_zero, List.set_cons_succ]))
  have HRo6 : Hid (Row w6 W.heap.size 29 (u8s old)) := by
    have hx : W.heap.size ∉ [p, g] := by have := HP.out; simp; omega
    have r4 := hb4.row HRo3.out.lt hx HRo3.out
    have r5 := hb5.row r4.lt hx r4
    exact hb6.row r5.lt hx r5
  have HRs6 : Hid (Row w6 w0.heap.size 29 (u8s s)) := by
    have hx : w0.heap.size ∉ [p, g] := by have := HP.out; have := HS0.out; simp; omega
    have r5 := hb5.row HRs4.out.lt hx HRs4.out
    exact hb6.row r5.lt hx r5
  have HB6 : Hid (Below W.heap.size W w6) := by
    have hF : ∀ x ∈ [p, g], W.heap.size ≤ x := by have := HP.out; simp; omega
    have s2 := (hbe _ hb2).size
    have s3 := hb3.size
    have s4 := hb4.size
    have s5 := hb5.size
    exact ((((hbe _ hb2).trans (hb3.mono s2)).trans (hb4.below (by omega) hF)).trans (hb5.below (by omega) hF)).trans (hb6.below (by omega) hF)
  clear HRo3 HRs4 HRs3 HD3 HD4 HD5 HN HWA HWB HDd HSt hb2 hb3 hb4 hb5 hb6 HW0 HW1 HRo1 HRs1
  go_loopw [14] (fun kv wr => ∃ (k : Nat), k ≤ n ∧ kv = .int .i64 k ∧ Below w6.heap.size w6 wr) (fun kv _ => n - (intOf kv).toNat)
  case atStart => exact ⟨0, Nat.zero_le _, rfl, Below.refl _ _⟩
  case round =>
    obtain ⟨wo, rfl⟩ : ∃ wo, wo = wr := ⟨_, rfl⟩
    obtain ⟨k, hkn, rfl, hbo⟩ := hrel
    have HBo : Hid (Below w6.heap.size w6 wo) := hbo
    clear hbo
    by_cases hlt : k < n
    · have hlti : (k : Int) < (n : Int) := by omega
      obtain ⟨K, hK⟩ : ∃ K, (if k = i then keepN keep else 0) = K := ⟨_, rfl⟩
      have HKl : Hid (K ≤ 64) := by show _ ≤ _; rw [← hK]; have := keepN_le keep; split <;> omega
      have HKgo : Hid (∀ c, c < K → k = i ∧ (c : Int) < keep) := fun c hc => by
        by_cases h : k = i
        · rw [if_pos h] at hK
          refine ⟨h, ?_⟩
          rw [← hK, keepN] at hc
          omega
        · rw [if_neg h] at hK
          omega
      have HKstop : Hid (k = i → K < 64 → ¬ (K : Int) < keep) := fun h hc => by
        rw [if_pos h] at hK
        rw [← hK, keepN] at hc ⊢
        omega
      have HWant : Hid (s.take K ++ (baseOf old j k).drop K = wantOf old s i keep j k) := by
        show _ = _
        unfold wantOf
        by_cases h : k = i
        · rw [if_pos h] at hK ⊢
          rw [tear, hK]
        · rw [if_neg h] at hK ⊢
          rw [← hK]
          simp
      clear hK
      have HRk0 : Hid (∀ V, DiskAt [p, g] V p g dC → Calls Try.prog 11 #[.pointer (some ⟨p, 0, none⟩), .int .i64 (k : Nat)] V fun e w' => e = .returned (.tuple #[.agg (u8s (wantOf old s i keep j k)).toArray, .int .i64 0]) ∧ Below V.heap.size V w') := fun V h => HRdA.out V p g h k hlt
      have HTs : Hid (IsSec (wantOf old s i keep j k)) := wantOf_sec i keep j k hold hs
      obtain ⟨T, hT⟩ : ∃ T, wantOf old s i keep j k = T := ⟨_, rfl⟩
      rw [hT] at HRk0 HTs HWant
      clear hT
      have HLz : Hid ((u8s zeros64).length = 64) := by show _ = _; simp [zeros64]
      have HOz : Hid (∀ v ∈ u8s zeros64, v.oneCell' = true) := u8s_one _
      have HOo : Hid (∀ v ∈ u8s old, v.oneCell' = true) := u8s_one _
      have HBu : Hid (Try.prog.built 29 [] = some (u8s zeros64).toArray) := built29
      have HRoo : Hid (Row wo W.heap.size 29 (u8s old)) := HRo6.out.later HBo.out
      by_cases hkj : k = j
      · obtain ⟨base, hbs⟩ : ∃ base, baseOf old j k = base := ⟨_, rfl⟩
        have hbase : IsSec base := by rw [← hbs]; exact baseOf_sec j k hold
        rw [hbs] at HWant
        have hbo2 : old = base := by rw [← hbs, baseOf, if_pos hkj]
        subst hkj
        clear hbs
        have HBO : Hid (old = base) := hbo2
        clear hbo2
        generalize u8s zeros64 = Z at *
        go_wp2_with (first
          | ((with_reducible show wpList _ _ _ (Oper.mk (some 74) (Op.build 29 _) _ _ _ _ :: _) _ _); refine wpList_built_want (by rfl) 29 _ rfl _ _ (by simp only [List.map_toArray, List.map_nil]) HBu.out ?_; simp only [Act.put, List.setIfInBounds_toArray, List.set_cons_zero, List.set_cons_succ])
          | ((with_reducible show wpList _ _ _ (Oper.mk none (Op.store 29 (.tmp 15) (.tmp 74)) _ _ _ _ :: _) _ _); rw [z64u8]; refine wpList_store_new rfl (.tmp 15) (.tmp 74) rfl Z HLz.out HOz.out rfl rfl (fun w8 hb8 hR8 hs8 => ?_); have HR8 : Hid (Row w8 wo.heap.size 29 Z) := hR8; have HRo8 : Hid (Row w8 W.heap.size 29 (u8s old)) := HRoo.out.later hb8; clear hR8; simp only [Act.put])
          | ((with_reducible show wpList _ _ _ (Oper.mk (some 78) (Op.load 29 (.tmp 7)) _ _ _ _ :: _) _ _); refine wpList_load_want (by rfl) 29 (.tmp 7) rfl (W.heap.size) 0 rfl (u8s old) (HRo8.out).range Try.underlying29 (by rw [HLo.out]; exact size29) ?_; simp only [Act.put, List.setIfInBounds_toArray, List.set_cons_zero, List.set_cons_succ])
          | ((with_reducible show wpList _ _ _ (Oper.mk none (Op.store 29 (.tmp 15) (.tmp 78)) _ _ _ _ :: _) _ _); refine wpList_store_Row rfl 29 (.tmp 15) (.tmp 78) rfl (u8s old) rfl rfl HR8.out (by rw [HLo.out]; exact size29) (by rw [HLo.out, HLz.out]) HOo.out ?_; simp only [Act.put]))
        have HRw : Hid (Row (w8.setCells wo.heap.size 0 (u8s old)) wo.heap.size 29 (u8s base)) := by rw [← HBO.out]; exact HR8.out.sets_all (by rw [HLo.out, HLz.out])
        have HBw : Hid (Below wo.heap.size wo (w8.setCells wo.heap.size 0 (u8s old))) := below_setCells (Nat.le_refl _) _ _ hb8
        generalize w8.setCells wo.heap.size 0 (u8s old) = w9 at *
        have HBa : Hid (IsSec base) := hbase
        obtain ⟨B, hB⟩ : ∃ B, u8s base = B := ⟨_, rfl⟩
        go_loopw [16] (fun cv wr => ∃ (c : Nat), c ≤ K ∧ cv = .int .i64 c ∧ Row wr wo.heap.size 29 (u8s (s.take c ++ base.drop c)) ∧ Below wo.heap.size wo wr) (fun cv _ => K - (intOf cv).toNat)
        case atStart => exact ⟨0, Nat.zero_le _, rfl, by simpa using HRw.out, HBw.out⟩
        case round =>
          obtain ⟨c, hcK, rfl, hrow, hbr⟩ := hrel
          have HRr : Hid (Row wr wo.heap.size 29 (u8s (s.take c ++ base.drop c))) := hrow
          have HBr : Hid (Below wo.heap.size wo wr) := hbr
          have HSr : Hid (Row wr w0.heap.size 29 (u8s s)) := HRs6.out.later (HBo.out.trans (hbr.mono HBo.out.size))
          clear hrow hbr
          by_cases hgo : c < K
          · have hc64 : c < 64 := by have := HKl.out; omega
            obtain ⟨hki, hkp⟩ := HKgo.out c hgo
            subst hki
            have hc64i : (c : Int) < 64 := by omega
            obtain ⟨x, hx⟩ : ∃ x, s.getD c 0 = x := ⟨_, rfl⟩
            have hcs : wr.cell? ⟨w0.heap.size, c, none⟩ = some (.int .u8 (x : Nat)) := by rw [← hx]; exact HSr.out.cell (u8s_at (by rw [hs.1]; exact hc64))
            have hlen : (s.take c ++ base.drop c).length = 64 := by simp [hs.1, HBa.out.1]; omega
            have hcw := HRr.out.cell (u8s_at (l := s.take c ++ base.drop c) (i := c) (by omega))
            have hfr := HRr.out.frozen c
            have HStep : Hid (Row (wr.setCell ⟨wo.heap.size, c, none⟩ (.int .u8 (x : Nat))) wo.heap.size 29 (u8s (s.take (c + 1) ++ base.drop (c + 1)))) := by
              have := HRr.out.set c (.int .u8 (s.getD c 0 : Nat))
              rw [step_row hs HBa.out hc64, hx] at this
              exact this
            have HStepB : Hid (Below wo.heap.size wo (wr.setCell ⟨wo.heap.size, c, none⟩ (.int .u8 (x : Nat)))) := HBr.out.trans ((But.set (B := wo.heap.size) (n := wr.heap.size) c _).below (by have := HBr.out.size; omega) (Nat.le_refl _))
            clear hlen hx
            go_wp2
            exact ⟨⟨c + 1, by omega, by simp, HStep.out, HStepB.out⟩, by simp [intOf]; omega⟩
          · obtain rfl : c = K := by omega
            have hRk := HRk0.out wr (HD6.out.later (HBo.out.trans (HBr.out.mono HBo.out.size)))
            have HWr : Hid (u8s (s.take c ++ base.drop c) = u8s (T)) := by show _ = _; rw [HWant.out]
            rw [HWr.out] at HRr
            have hq := equal_secs (HTs.out) (HTs.out)
            rw [decide_eq_true rfl] at hq
            have HL : Hid ((u8s (T)).length = 64) := by show _ = _; rw [u8s_length]; exact (HTs.out).1
            have HO : Hid (∀ v ∈ u8s (T), v.oneCell' = true) := u8s_one _
            have HRk : Hid (Calls Try.prog 11 #[.pointer (some ⟨p, 0, none⟩), .int .i64 (k : Nat)] wr fun e w' => e = .returned (.tuple #[.agg (u8s (T)).toArray, .int .i64 0]) ∧ Below wr.heap.size wr w') := hRk
            clear hRk HWr HWant
            generalize u8s (T) = V at *
            by_cases hki : k = i
            · have hks := HKstop.out hki
              subst hki
              by_cases hc64 : c < 64
              · have hc64i : (c : Int) < 64 := by omega
                have hkp : ¬ (c : Int) < keep := by have := hks hc64; omega
                go_wp2_with (first
                  | (go_at_call 11; refine HRk.out.mono ?_; rintro e w6 ⟨rfl, hb6⟩)
                  | ((with_reducible show wpList _ _ _ (Oper.mk none (Op.store 29 (.tmp 17) (.tmp 102)) _ _ _ _ :: _) _ _); rw [z64u8]; refine wpList_store_new rfl (.tmp 17) (.tmp 102) rfl V HL.out HO.out rfl rfl (fun w7 hb7 hR7 hs7 => ?_); have HR7 : Hid (Row w7 _ 29 V) := hR7; have HR8 : Hid (Row w7 wo.heap.size 29 V) := (HRr.out.later hb6).later hb7; clear hR7; simp only [Act.put])
                  | ((with_reducible show wpList _ _ _ (Oper.mk (some 107) (Op.load 29 (.tmp 17)) _ _ _ _ :: _) _ _); refine wpList_load_want (by rfl) 29 (.tmp 17) rfl (w6.heap.size) 0 rfl V (HR7.out).range Try.underlying29 (by rw [HL.out]; exact size29) ?_; simp only [Act.put, List.setIfInBounds_toArray, List.set_cons_zero, List.set_cons_succ])
                  | ((with_reducible show wpList _ _ _ (Oper.mk (some 108) (Op.load 29 (.tmp 15)) _ _ _ _ :: _) _ _); refine wpList_load_want (by rfl) 29 (.tmp 15) rfl (wo.heap.size) 0 rfl V (HR8.out).range Try.underlying29 (by rw [HL.out]; exact size29) ?_; simp only [Act.put, List.setIfInBounds_toArray, List.set_cons_zero, List.set_cons_succ]))
                exact ⟨⟨k + 1, by omega, by simp, (HBo.out.trans (HBr.out.mono HBo.out.size)).trans ((hb6.trans (hb7.mono hb6.size)).mono (by have := HBo.out.size; have := HBr.out.size; omega))⟩, by simp [intOf]; omega⟩
              · have hc64i : ¬ (c : Int) < 64 := by omega
                go_wp2_with (first
                  | (go_at_call 11; refine HRk.out.mono ?_; rintro e w6 ⟨rfl, hb6⟩)
                  | ((with_reducible show wpList _ _ _ (Oper.mk none (Op.store 29 (.tmp 17) (.tmp 102)) _ _ _ _ :: _) _ _); rw [z64u8]; refine wpList_store_new rfl (.tmp 17) (.tmp 102) rfl V HL.out HO.out rfl rfl (fun w7 hb7 hR7 hs7 => ?_); have HR7 : Hid (Row w7 _ 29 V) := hR7; have HR8 : Hid (Row w7 wo.heap.size 29 V) := (HRr.out.later hb6).later hb7; clear hR7; simp only [Act.put])
                  | ((with_reducible show wpList _ _ _ (Oper.mk (some 107) (Op.load 29 (.tmp 17)) _ _ _ _ :: _) _ _); refine wpList_load_want (by rfl) 29 (.tmp 17) rfl (w6.heap.size) 0 rfl V (HR7.out).range Try.underlying29 (by rw [HL.out]; exact size29) ?_; simp only [Act.put, List.setIfInBounds_toArray, List.set_cons_zero, List.set_cons_succ])
                  | ((with_reducible show wpList _ _ _ (Oper.mk (some 108) (Op.load 29 (.tmp 15)) _ _ _ _ :: _) _ _); refine wpList_load_want (by rfl) 29 (.tmp 15) rfl (wo.heap.size) 0 rfl V (HR8.out).range Try.underlying29 (by rw [HL.out]; exact size29) ?_; simp only [Act.put, List.setIfInBounds_toArray, List.set_cons_zero, List.set_cons_succ]))
                exact ⟨⟨k + 1, by omega, by simp, (HBo.out.trans (HBr.out.mono HBo.out.size)).trans ((hb6.trans (hb7.mono hb6.size)).mono (by have := HBo.out.size; have := HBr.out.size; omega))⟩, by simp [intOf]; omega⟩
            · have hkine : ¬ (k : Int) = (i : Int) := by omega
              go_wp2_with (first
                | (go_at_call 11; refine HRk.out.mono ?_; rintro e w6 ⟨rfl, hb6⟩)
                | ((with_reducible show wpList _ _ _ (Oper.mk none (Op.store 29 (.tmp 17) (.tmp 102)) _ _ _ _ :: _) _ _); rw [z64u8]; refine wpList_store_new rfl (.tmp 17) (.tmp 102) rfl V HL.out HO.out rfl rfl (fun w7 hb7 hR7 hs7 => ?_); have HR7 : Hid (Row w7 _ 29 V) := hR7; have HR8 : Hid (Row w7 wo.heap.size 29 V) := (HRr.out.later hb6).later hb7; clear hR7; simp only [Act.put])
                | ((with_reducible show wpList _ _ _ (Oper.mk (some 107) (Op.load 29 (.tmp 17)) _ _ _ _ :: _) _ _); refine wpList_load_want (by rfl) 29 (.tmp 17) rfl (w6.heap.size) 0 rfl V (HR7.out).range Try.underlying29 (by rw [HL.out]; exact size29) ?_; simp only [Act.put, List.setIfInBounds_toArray, List.set_cons_zero, List.set_cons_succ])
                | ((with_reducible show wpList _ _ _ (Oper.mk (some 108) (Op.load 29 (.tmp 15)) _ _ _ _ :: _) _ _); refine wpList_load_want (by rfl) 29 (.tmp 15) rfl (wo.heap.size) 0 rfl V (HR8.out).range Try.underlying29 (by rw [HL.out]; exact size29) ?_; simp only [Act.put, List.setIfInBounds_toArray, List.set_cons_zero, List.set_cons_succ]))
              exact ⟨⟨k + 1, by omega, by simp, (HBo.out.trans (HBr.out.mono HBo.out.size)).trans ((hb6.trans (hb7.mono hb6.size)).mono (by have := HBo.out.size; have := HBr.out.size; omega))⟩, by simp [intOf]; omega⟩
      · have hkji : ¬ (k : Int) = (j : Int) := by omega
        obtain ⟨base, hbs⟩ : ∃ base, baseOf old j k = base := ⟨_, rfl⟩
        have hbase : IsSec base := by rw [← hbs]; exact baseOf_sec j k hold
        rw [hbs] at HWant
        have hbo2 : zeros64 = base := by rw [← hbs, baseOf, if_neg hkj]
        clear hbs
        have HBO : Hid (u8s zeros64 = u8s base) := congrArg u8s hbo2
        clear hbo2
        generalize u8s zeros64 = Z at *
        go_wp2_with (first
          | ((with_reducible show wpList _ _ _ (Oper.mk (some 74) (Op.build 29 _) _ _ _ _ :: _) _ _); refine wpList_built_want (by rfl) 29 _ rfl _ _ (by simp only [List.map_toArray, List.map_nil]) HBu.out ?_; simp only [Act.put, List.setIfInBounds_toArray, List.set_cons_zero, List.set_cons_succ])
          | ((with_reducible show wpList _ _ _ (Oper.mk none (Op.store 29 (.tmp 15) (.tmp 74)) _ _ _ _ :: _) _ _); rw [z64u8]; refine wpList_store_new rfl (.tmp 15) (.tmp 74) rfl Z HLz.out HOz.out rfl rfl (fun w8 hb8 hR8 hs8 => ?_); have HR8 : Hid (Row w8 wo.heap.size 29 Z) := hR8; have HRo8 : Hid (Row w8 W.heap.size 29 (u8s old)) := HRoo.out.later hb8; clear hR8; simp only [Act.put]))
        have HRw : Hid (Row w8 wo.heap.size 29 (u8s base)) := by rw [← HBO.out]; exact HR8.out
        have HBw : Hid (Below wo.heap.size wo w8) := hb8
        have HBa : Hid (IsSec base) := hbase
        obtain ⟨B, hB⟩ : ∃ B, u8s base = B := ⟨_, rfl⟩
        go_loopw [16] (fun cv wr => ∃ (c : Nat), c ≤ K ∧ cv = .int .i64 c ∧ Row wr wo.heap.size 29 (u8s (s.take c ++ base.drop c)) ∧ Below wo.heap.size wo wr) (fun cv _ => K - (intOf cv).toNat)
        case atStart => exact ⟨0, Nat.zero_le _, rfl, by simpa using HRw.out, HBw.out⟩
        case round =>
          obtain ⟨c, hcK, rfl, hrow, hbr⟩ := hrel
          have HRr : Hid (Row wr wo.heap.size 29 (u8s (s.take c ++ base.drop c))) := hrow
          have HBr : Hid (Below wo.heap.size wo wr) := hbr
          have HSr : Hid (Row wr w0.heap.size 29 (u8s s)) := HRs6.out.later (HBo.out.trans (hbr.mono HBo.out.size))
          clear hrow hbr
          by_cases hgo : c < K
          · have hc64 : c < 64 := by have := HKl.out; omega
            obtain ⟨hki, hkp⟩ := HKgo.out c hgo
            subst hki
            have hc64i : (c : Int) < 64 := by omega
            obtain ⟨x, hx⟩ : ∃ x, s.getD c 0 = x := ⟨_, rfl⟩
            have hcs : wr.cell? ⟨w0.heap.size, c, none⟩ = some (.int .u8 (x : Nat)) := by rw [← hx]; exact HSr.out.cell (u8s_at (by rw [hs.1]; exact hc64))
            have hlen : (s.take c ++ base.drop c).length = 64 := by simp [hs.1, HBa.out.1]; omega
            have hcw := HRr.out.cell (u8s_at (l := s.take c ++ base.drop c) (i := c) (by omega))
            have hfr := HRr.out.frozen c
            have HStep : Hid (Row (wr.setCell ⟨wo.heap.size, c, none⟩ (.int .u8 (x : Nat))) wo.heap.size 29 (u8s (s.take (c + 1) ++ base.drop (c + 1)))) := by
              have := HRr.out.set c (.int .u8 (s.getD c 0 : Nat))
              rw [step_row hs HBa.out hc64, hx] at this
              exact this
            have HStepB : Hid (Below wo.heap.size wo (wr.setCell ⟨wo.heap.size, c, none⟩ (.int .u8 (x : Nat)))) := HBr.out.trans ((But.set (B := wo.heap.size) (n := wr.heap.size) c _).below (by have := HBr.out.size; omega) (Nat.le_refl _))
            clear hlen hx
            go_wp2
            exact ⟨⟨c + 1, by omega, by simp, HStep.out, HStepB.out⟩, by simp [intOf]; omega⟩
          · obtain rfl : c = K := by omega
            have hRk := HRk0.out wr (HD6.out.later (HBo.out.trans (HBr.out.mono HBo.out.size)))
            have HWr : Hid (u8s (s.take c ++ base.drop c) = u8s (T)) := by show _ = _; rw [HWant.out]
            rw [HWr.out] at HRr
            have hq := equal_secs (HTs.out) (HTs.out)
            rw [decide_eq_true rfl] at hq
            have HL : Hid ((u8s (T)).length = 64) := by show _ = _; rw [u8s_length]; exact (HTs.out).1
            have HO : Hid (∀ v ∈ u8s (T), v.oneCell' = true) := u8s_one _
            have HRk : Hid (Calls Try.prog 11 #[.pointer (some ⟨p, 0, none⟩), .int .i64 (k : Nat)] wr fun e w' => e = .returned (.tuple #[.agg (u8s (T)).toArray, .int .i64 0]) ∧ Below wr.heap.size wr w') := hRk
            clear hRk HWr HWant
            generalize u8s (T) = V at *
            by_cases hki : k = i
            · have hks := HKstop.out hki
              subst hki
              by_cases hc64 : c < 64
              · have hc64i : (c : Int) < 64 := by omega
                have hkp : ¬ (c : Int) < keep := by have := hks hc64; omega
                go_wp2_with (first
                  | (go_at_call 11; refine HRk.out.mono ?_; rintro e w6 ⟨rfl, hb6⟩)
                  | ((with_reducible show wpList _ _ _ (Oper.mk none (Op.store 29 (.tmp 17) (.tmp 102)) _ _ _ _ :: _) _ _); rw [z64u8]; refine wpList_store_new rfl (.tmp 17) (.tmp 102) rfl V HL.out HO.out rfl rfl (fun w7 hb7 hR7 hs7 => ?_); have HR7 : Hid (Row w7 _ 29 V) := hR7; have HR8 : Hid (Row w7 wo.heap.size 29 V) := (HRr.out.later hb6).later hb7; clear hR7; simp only [Act.put])
                  | ((with_reducible show wpList _ _ _ (Oper.mk (some 107) (Op.load 29 (.tmp 17)) _ _ _ _ :: _) _ _); refine wpList_load_want (by rfl) 29 (.tmp 17) rfl (w6.heap.size) 0 rfl V (HR7.out).range Try.underlying29 (by rw [HL.out]; exact size29) ?_; simp only [Act.put, List.setIfInBounds_toArray, List.set_cons_zero, List.set_cons_succ])
                  | ((with_reducible show wpList _ _ _ (Oper.mk (some 108) (Op.load 29 (.tmp 15)) _ _ _ _ :: _) _ _); refine wpList_load_want (by rfl) 29 (.tmp 15) rfl (wo.heap.size) 0 rfl V (HR8.out).range Try.underlying29 (by rw [HL.out]; exact size29) ?_; simp only [Act.put, List.setIfInBounds_toArray, List.set_cons_zero, List.set_cons_succ]))
                exact ⟨⟨k + 1, by omega, by simp, (HBo.out.trans (HBr.out.mono HBo.out.size)).trans ((hb6.trans (hb7.mono hb6.size)).mono (by have := HBo.out.size; have := HBr.out.size; omega))⟩, by simp [intOf]; omega⟩
              · have hc64i : ¬ (c : Int) < 64 := by omega
                go_wp2_with (first
                  | (go_at_call 11; refine HRk.out.mono ?_; rintro e w6 ⟨rfl, hb6⟩)
                  | ((with_reducible show wpList _ _ _ (Oper.mk none (Op.store 29 (.tmp 17) (.tmp 102)) _ _ _ _ :: _) _ _); rw [z64u8]; refine wpList_store_new rfl (.tmp 17) (.tmp 102) rfl V HL.out HO.out rfl rfl (fun w7 hb7 hR7 hs7 => ?_); have HR7 : Hid (Row w7 _ 29 V) := hR7; have HR8 : Hid (Row w7 wo.heap.size 29 V) := (HRr.out.later hb6).later hb7; clear hR7; simp only [Act.put])
                  | ((with_reducible show wpList _ _ _ (Oper.mk (some 107) (Op.load 29 (.tmp 17)) _ _ _ _ :: _) _ _); refine wpList_load_want (by rfl) 29 (.tmp 17) rfl (w6.heap.size) 0 rfl V (HR7.out).range Try.underlying29 (by rw [HL.out]; exact size29) ?_; simp only [Act.put, List.setIfInBounds_toArray, List.set_cons_zero, List.set_cons_succ])
                  | ((with_reducible show wpList _ _ _ (Oper.mk (some 108) (Op.load 29 (.tmp 15)) _ _ _ _ :: _) _ _); refine wpList_load_want (by rfl) 29 (.tmp 15) rfl (wo.heap.size) 0 rfl V (HR8.out).range Try.underlying29 (by rw [HL.out]; exact size29) ?_; simp only [Act.put, List.setIfInBounds_toArray, List.set_cons_zero, List.set_cons_succ]))
                exact ⟨⟨k + 1, by omega, by simp, (HBo.out.trans (HBr.out.mono HBo.out.size)).trans ((hb6.trans (hb7.mono hb6.size)).mono (by have := HBo.out.size; have := HBr.out.size; omega))⟩, by simp [intOf]; omega⟩
            · have hkine : ¬ (k : Int) = (i : Int) := by omega
              go_wp2_with (first
                | (go_at_call 11; refine HRk.out.mono ?_; rintro e w6 ⟨rfl, hb6⟩)
                | ((with_reducible show wpList _ _ _ (Oper.mk none (Op.store 29 (.tmp 17) (.tmp 102)) _ _ _ _ :: _) _ _); rw [z64u8]; refine wpList_store_new rfl (.tmp 17) (.tmp 102) rfl V HL.out HO.out rfl rfl (fun w7 hb7 hR7 hs7 => ?_); have HR7 : Hid (Row w7 _ 29 V) := hR7; have HR8 : Hid (Row w7 wo.heap.size 29 V) := (HRr.out.later hb6).later hb7; clear hR7; simp only [Act.put])
                | ((with_reducible show wpList _ _ _ (Oper.mk (some 107) (Op.load 29 (.tmp 17)) _ _ _ _ :: _) _ _); refine wpList_load_want (by rfl) 29 (.tmp 17) rfl (w6.heap.size) 0 rfl V (HR7.out).range Try.underlying29 (by rw [HL.out]; exact size29) ?_; simp only [Act.put, List.setIfInBounds_toArray, List.set_cons_zero, List.set_cons_succ])
                | ((with_reducible show wpList _ _ _ (Oper.mk (some 108) (Op.load 29 (.tmp 15)) _ _ _ _ :: _) _ _); refine wpList_load_want (by rfl) 29 (.tmp 15) rfl (wo.heap.size) 0 rfl V (HR8.out).range Try.underlying29 (by rw [HL.out]; exact size29) ?_; simp only [Act.put, List.setIfInBounds_toArray, List.set_cons_zero, List.set_cons_succ]))
              exact ⟨⟨k + 1, by omega, by simp, (HBo.out.trans (HBr.out.mono HBo.out.size)).trans ((hb6.trans (hb7.mono hb6.size)).mono (by have := HBo.out.size; have := HBr.out.size; omega))⟩, by simp [intOf]; omega⟩
    · have hlti : ¬ (k : Int) < (n : Int) := by omega
      go_wp2
      go_ret
      exact ⟨rfl, HB6.out.trans (HBo.out.mono HB6.out.size)⟩
end Go.Proofs.Ytffngjglgdbncaa
