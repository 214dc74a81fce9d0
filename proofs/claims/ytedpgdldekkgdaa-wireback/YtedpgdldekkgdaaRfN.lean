/-
  What the reference's reader's N and Text answer and leave.
-/
import Derived.Test.YtedpgdldekkgdaaRf
namespace Go.Proofs.Ytedpgdldekkgdaa
open Go.RowKit

theorem and127 (c : Nat) (hc : c < 256) : bits .and .u64 (c : Int) 127 = ((c % 128 : Nat) : Int) := by
  have h := bits_and_u64_nat c 127 (by omega) (by omega)
  rw [show ((127 : Nat) : Int) = 127 from rfl] at h
  rw [h, show c &&& 127 = c % 128 from Nat.and_two_pow_sub_one_eq_mod c 7]

set_option maxRecDepth 100000 in
set_option maxHeartbeats 4000000 in
theorem refRN_some (n₀ B : Nat) (zs : List Nat) (most : Nat) (w : World) (hn0 : n₀ ≤ B) (h : RfAt n₀ w B (some zs)) :
    Calls Try.prog 34 #[.pointer (some ⟨B, 0, none⟩), .int .u64 (most : Nat)] w fun e w' => e = .returned (.int .u64 ((readN most (some zs)).1 : Nat)) ∧ RfAt n₀ w' B (readN most (some zs)).2 ∧ But B w.heap.size w w' := by
  have HFl : Hid (Calls Try.prog 50 #[.pointer (some ⟨B, 0, none⟩)] w fun e w' => (∃ v, e = .returned v) ∧ RfAt n₀ w' B none ∧ But B w.heap.size w w') := refFail_any n₀ B _ w h
  obtain ⟨q, len, cap, hr, hI, hl⟩ := h
  have c0 := hr.cell (i := 0) rfl
  have f0 := hr.frozen 0
  have hBl := hr.lt
  have hlc := hI.2.1
  have hcc := hI.2.2.1
  have HL : Hid (zs.length = len) := hI.1
  have HI : Hid (IsBytes n₀ w q len cap zs) := hI
  have HEnd : Hid (∀ s, 0 < s → s ≤ len → ∀ q2 c2, c2 + s = cap → (0 < len - s → ∃ b off, q = some ⟨b, off, none⟩ ∧ q2 = some ⟨b, off + s, none⟩) → RfAt n₀ (w.setCell ⟨B, 0, none⟩ (.slice q2 (len - s) c2)) B (some (zs.drop s)) ∧ But B w.heap.size w (w.setCell ⟨B, 0, none⟩ (.slice q2 (len - s) c2))) := fun s _ hs q2 c2 h1 h2 => RfAt.cut hr hI hn0 hl hs h1 h2
  clear hr hI
  obtain ⟨R, HR⟩ : ∃ R, Hid (readN most (some zs) = R) := ⟨_, rfl⟩
  rw [HR.out]
  go_enter Try.func34, Try.ntmps34
  go_wp2
  go_loop [5, 6] (fun y i => ∃ (k x : Nat), k ≤ len ∧ k ≤ 9 ∧ i = .int .i64 k ∧ y = .int .u64 x ∧ x < 2 ^ (7 * k) ∧ numL zs 0 0 = numL (zs.drop k) k x) (fun _ i => len - (intOf i).toNat)
  case atStart => exact ⟨0, 0, Nat.zero_le _, by omega, rfl, rfl, by simp, rfl⟩
  case round =>
    obtain ⟨k, x, hk, hk9, rfl, rfl, hx, he⟩ := hrel
    have HX : Hid (x < 2 ^ (7 * k)) := hx
    have HE : Hid (numL zs 0 0 = numL (zs.drop k) k x) := he
    clear hx he
    by_cases hlt : k < len
    · have hki : (k : Int) < (len : Int) := by omega
      have hk10 : (k : Int) < 10 := by omega
      obtain ⟨b, off, rfl, hb, hcell⟩ : ∃ b off, q = some ⟨b, off, none⟩ ∧ b < n₀ ∧ ∀ i, i < len → w.cell? ⟨b, off + i, none⟩ = some (.int .u8 (zs.getD i 0 : Nat)) := by
        rcases HI.out.2.2.2.2 with h | h
        · omega
        · exact h
      have hc1 := hcell k hlt
      have HZ : Hid (zs.getD k 0 < 256) := getD_of_all HI.out.2.2.2.1 k
      have HD : Hid (zs.drop k = zs.getD k 0 :: zs.drop (k + 1)) := by
        show _ = _
        have hkl : k < zs.length := by rw [HL.out]; exact hlt
        rw [List.drop_eq_getElem_cons hkl]
        simp [List.getElem?_eq_getElem hkl]
      generalize zs.getD k 0 = c at *
      clear hcell
      have hcm : (c : Int) % 18446744073709551616 = (c : Int) := by have := HZ.out; omega
      by_cases h1 : k = 9 ∧ 1 < c
      · obtain ⟨rfl, h1⟩ := h1
        have h1b : (1 : Int) < (c : Int) := by omega
        have HB : Hid (R = (0, none)) := by
          show _ = _
          rw [← HR.out, readN_bad]
          rw [HE.out, HD.out, numL_over _ _ ⟨rfl, h1⟩]
        go_wp2_with (go_at_call 50; refine HFl.out.mono ?_; rintro e w1 ⟨⟨v1, rfl⟩, hR1, hb1⟩)
        go_ret
        rw [HB.out]
        exact ⟨rfl, hR1, hb1⟩
      · by_cases hc : c < 128
        · have hci : ¬ (128 : Int) ≤ (c : Int) := by omega
          have hA : bits .and .u64 (c : Int) 127 = (c : Int) := by rw [and127 c HZ.out, Nat.mod_eq_of_lt hc]
          obtain ⟨N, hN⟩ : ∃ N, x + c * 2 ^ (7 * k) = N := ⟨_, rfl⟩
          have hJ : bits .or .u64 (x : Int) (IntKind.u64.wrap ((c : Int) * 2 ^ (7 * k))) = (N : Int) := by rw [← hN]; exact num_join HX.out (by omega)
          by_cases h0 : 0 < k ∧ c = 0
          · obtain ⟨h0k, rfl⟩ := h0
            have h0i : (0 : Int) < (k : Int) := by omega
            have HB : Hid (R = (0, none)) := by
              show _ = _
              rw [← HR.out, readN_bad]
              rw [HE.out, HD.out, numL_nought _ _ (by omega) ⟨h0k, rfl⟩]
            by_cases h9 : k = 9
            · subst h9
              go_wp2_with (go_at_call 50; refine HFl.out.mono ?_; rintro e w1 ⟨⟨v1, rfl⟩, hR1, hb1⟩)
              go_ret
              rw [HB.out]
              exact ⟨rfl, hR1, hb1⟩
            · have h9i : ¬ (k : Int) = 9 := by omega
              go_wp2_with (go_at_call 50; refine HFl.out.mono ?_; rintro e w1 ⟨⟨v1, rfl⟩, hR1, hb1⟩)
              go_ret
              rw [HB.out]
              exact ⟨rfl, hR1, hb1⟩
          · have HNum : Hid (numL zs 0 0 = some (N, k + 1)) := by
              show _ = _
              rw [HE.out, HD.out, numL_last _ _ h1 h0 hc, hN]
            by_cases hm : most < N
            · have hmi : (most : Int) < (N : Int) := by omega
              have HB : Hid (R = (0, none)) := by show _ = _; rw [← HR.out, readN_over HNum.out hm]
              by_cases h9 : k = 9
              · subst h9
                obtain rfl : c = 1 := by omega
                have hA1 : bits .and .u64 1 127 = 1 := by decide +kernel
                have hJ1 : bits .or .u64 (x : Int) 9223372036854775808 = (N : Int) := by rw [← hJ, show IntKind.u64.wrap (((1 : Nat) : Int) * 2 ^ (7 * 9)) = 9223372036854775808 by decide +kernel]
                go_wp2_with (go_at_call 50; refine HFl.out.mono ?_; rintro e w1 ⟨⟨v1, rfl⟩, hR1, hb1⟩)
                go_ret
                rw [HB.out]
                exact ⟨rfl, hR1, hb1⟩
              · have h9i : ¬ (k : Int) = 9 := by omega
                by_cases hc0 : (c : Int) = 0
                · exfalso
                  obtain rfl : k = 0 := by omega
                  obtain rfl : c = 0 := by omega
                  have := HX.out
                  simp at this hN
                  omega
                · go_wp2_with (go_at_call 50; refine HFl.out.mono ?_; rintro e w1 ⟨⟨v1, rfl⟩, hR1, hb1⟩)
                  go_ret
                  rw [HB.out]
                  exact ⟨rfl, hR1, hb1⟩
            · have hmi : ¬ (most : Int) < (N : Int) := by omega
              have HB : Hid (R = (N, some (zs.drop (k + 1)))) := by show _ = _; rw [← HR.out, readN_some HNum.out hm]
              by_cases h9 : k = 9
              · subst h9
                obtain rfl : c = 1 := by omega
                have hA1 : bits .and .u64 1 127 = 1 := by decide +kernel
                have hJ1 : bits .or .u64 (x : Int) 9223372036854775808 = (N : Int) := by rw [← hJ, show IntKind.u64.wrap (((1 : Nat) : Int) * 2 ^ (7 * 9)) = 9223372036854775808 by decide +kernel]
                by_cases hcn : cap = 9 + 1
                · obtain rfl : len = 9 + 1 := by omega
                  obtain rfl : cap = 9 + 1 := hcn
                  have hE := HEnd.out (9 + 1) (by omega) (by omega) (some ⟨b, off, none⟩) 0 (by omega) (by omega)
                  rw [Nat.sub_self] at hE
                  go_wp2
                  go_ret
                  rw [HB.out]
                  exact ⟨rfl, hE⟩
                · have hcn' : (cap = 9 + 1) = False := eq_false hcn
                  go_wp2
                  go_ret
                  rw [HB.out]
                  exact ⟨rfl, HEnd.out (9 + 1) (by omega) (by omega) _ _ (by omega) (fun _ => ⟨b, off, rfl, rfl⟩)⟩
              · have h9i : ¬ (k : Int) = 9 := by omega
                by_cases hc0 : c = 0
                · obtain rfl : k = 0 := by omega
                  subst hc0
                  obtain rfl : x = 0 := by have := HX.out; simp at this; omega
                  obtain rfl : N = 0 := by simp at hN; omega
                  have hA0 : bits .and .u64 0 127 = 0 := by decide +kernel
                  have hJ0 : bits .or .u64 0 0 = 0 := by decide +kernel
                  rw [Nat.add_zero] at hc1
                  by_cases hcn : cap = 1
                  · obtain rfl : len = 1 := by omega
                    obtain rfl : cap = 1 := hcn
                    have hE := HEnd.out 1 (by omega) (by omega) (some ⟨b, off, none⟩) 0 (by omega) (by omega)
                    rw [Nat.sub_self] at hE
                    go_wp2
                    go_ret
                    rw [HB.out]
                    exact ⟨rfl, hE⟩
                  · have hcn' : (cap = 1) = False := eq_false hcn
                    go_wp2
                    go_ret
                    rw [HB.out]
                    exact ⟨rfl, HEnd.out 1 (by omega) (by omega) _ _ (by omega) (fun _ => ⟨b, off, rfl, rfl⟩)⟩
                · have hc0i : ¬ (c : Int) = 0 := by omega
                  by_cases hcn : cap = k + 1
                  · obtain rfl : len = k + 1 := by omega
                    obtain rfl : cap = k + 1 := hcn
                    have hE := HEnd.out (k + 1) (by omega) (by omega) (some ⟨b, off, none⟩) 0 (by omega) (by omega)
                    rw [Nat.sub_self] at hE
                    go_wp2
                    go_ret
                    rw [HB.out]
                    exact ⟨rfl, hE⟩
                  · have hcn' : (cap = k + 1) = False := eq_false hcn
                    go_wp2
                    go_ret
                    rw [HB.out]
                    exact ⟨rfl, HEnd.out (k + 1) (by omega) (by omega) _ _ (by omega) (fun _ => ⟨b, off, rfl, rfl⟩)⟩
        · obtain ⟨d, rfl⟩ : ∃ d, c = d + 128 := ⟨c - 128, by omega⟩
          have hd : d < 128 := by have := HZ.out; omega
          have h9 : k ≠ 9 := by omega
          have h9i : ¬ (k : Int) = 9 := by omega
          have hci : (128 : Int) ≤ ((d + 128 : Nat) : Int) := by omega
          have hA : bits .and .u64 ((d : Int) + 128) 127 = (d : Int) := by
            have h := and127 (d + 128) HZ.out
            rw [Nat.add_mod_right, Nat.mod_eq_of_lt hd] at h
            exact_mod_cast h
          have HJ : Hid (bits .or .u64 (x : Int) (IntKind.u64.wrap ((d : Int) * 2 ^ (7 * k))) = ((x + d * 2 ^ (7 * k) : Nat) : Int)) := num_join HX.out (.inl ⟨hd, by omega⟩)
          have HEn : Hid (numL zs 0 0 = numL (zs.drop (k + 1)) (k + 1) (x + d * 2 ^ (7 * k))) := by
            show _ = _
            rw [HE.out, HD.out, numL_more _ _ (by omega) hc, Nat.add_sub_cancel]
          go_wp2
          go_roundw
          case rel =>
            exact ⟨k + 1, x + d * 2 ^ (7 * k), by omega, by omega, by go_num, by rw [HJ.out], num_less HX.out hd, HEn.out⟩
          case measure => simp [intOf]; omega
    · obtain rfl : k = len := by omega
      have hki : ¬ (k : Int) < (k : Int) := by omega
      have HB : Hid (R = (0, none)) := by
        show _ = _
        rw [← HR.out, readN_bad]
        rw [HE.out, List.drop_of_length_le (by rw [HL.out]; exact Nat.le_refl _), numL_nil]
      go_wp2_with (go_at_call 50; refine HFl.out.mono ?_; rintro e w1 ⟨⟨v1, rfl⟩, hR1, hb1⟩)
      go_ret
      rw [HB.out]
      exact ⟨rfl, hR1, hb1⟩

set_option maxRecDepth 100000 in
set_option maxHeartbeats 1000000 in
theorem refRN_none (n₀ B : Nat) (most : Nat) (w : World) (h : RfAt n₀ w B none) :
    Calls Try.prog 34 #[.pointer (some ⟨B, 0, none⟩), .int .u64 (most : Nat)] w fun e w' => e = .returned (.int .u64 0) ∧ RfAt n₀ w' B none ∧ But B w.heap.size w w' := by
  have HFl : Hid (Calls Try.prog 50 #[.pointer (some ⟨B, 0, none⟩)] w fun e w' => (∃ v, e = .returned v) ∧ RfAt n₀ w' B none ∧ But B w.heap.size w w') := refFail_any n₀ B _ w h
  have h : Row w B 73 [.slice none 0 0, .bool true] := h
  have c0 := h.cell (i := 0) rfl
  clear h
  go_enter Try.func34, Try.ntmps34
  go_wp2
  go_loop [5, 6] (fun y i => y = .int .u64 0 ∧ i = .int .i64 0) (fun _ _ => 0)
  case atStart => exact ⟨rfl, rfl⟩
  case round =>
    obtain ⟨rfl, rfl⟩ := hrel
    go_wp2_with (go_at_call 50; refine HFl.out.mono ?_; rintro e w1 ⟨⟨v1, rfl⟩, hR1, hb1⟩)
    go_ret
    exact ⟨rfl, hR1, hb1⟩

/-- N -/
theorem refRN_any (n₀ B : Nat) (most : Nat) (hn0 : n₀ ≤ B) : ∀ (st : Option (List Nat)) (w : World), RfAt n₀ w B st →
    Calls Try.prog 34 #[.pointer (some ⟨B, 0, none⟩), .int .u64 (most : Nat)] w fun e w' => e = .returned (.int .u64 ((readN most st).1 : Nat)) ∧ RfAt n₀ w' B (readN most st).2 ∧ But B w.heap.size w w'
  | none, w, h => refRN_none n₀ B most w h
  | some zs, w, h => refRN_some n₀ B zs most w hn0 h

set_option maxHeartbeats 1000000 in
/-- Text -/
theorem refRText_any (n₀ B : Nat) (st : Option (List Nat)) (z : Int) (hz : z ≤ 9223372036854775807) (w : World) (hn0 : n₀ ≤ B) (h : RfAt n₀ w B st) :
    Calls Try.prog 35 #[.pointer (some ⟨B, 0, none⟩), .int .i64 z] w fun e w' => ∃ q l c, e = .returned (.slice q l c) ∧ IsBytes n₀ w' q l c (readText z st).1 ∧ RfAt n₀ w' B (readText z st).2 ∧ But B w.heap.size w w' := by
  by_cases h0 : z < 0
  · have HFl : Hid (Calls Try.prog 50 #[.pointer (some ⟨B, 0, none⟩)] w fun e w' => (∃ v, e = .returned v) ∧ RfAt n₀ w' B none ∧ But B w.heap.size w w') := refFail_any n₀ B st w h
    have HR : Hid (readText z st = ([], none)) := by
      show _ = _
      unfold readText
      rw [readCount, if_pos h0]
      rfl
    rw [HR.out]
    clear h
    go_enter Try.func35, Try.ntmps35
    go_wp2_with (go_at_call 50; refine HFl.out.mono ?_; rintro e w1 ⟨⟨v1, rfl⟩, hR1, hb1⟩)
    go_ret
    exact ⟨_, _, _, rfl, ⟨rfl, Nat.le_refl _, by omega, by simp, .inl rfl⟩, hR1, hb1⟩
  · obtain ⟨m, rfl⟩ : ∃ m : Nat, z = (m : Int) := ⟨z.toNat, by omega⟩
    have HR : Hid (readCount (m : Int) st = readN m st) := by
      show _ = _
      rw [readCount, if_neg h0, Int.toNat_natCast]
    have HN : Hid (Calls Try.prog 34 #[.pointer (some ⟨B, 0, none⟩), .int .u64 (m : Nat)] w fun e w' => e = .returned (.int .u64 ((readN m st).1 : Nat)) ∧ RfAt n₀ w' B (readN m st).2 ∧ But B w.heap.size w w') := refRN_any n₀ B m hn0 st w h
    have hle := readN_le m st
    unfold readText
    rw [HR.out]
    generalize (readN m st).1 = x at *
    generalize (readN m st).2 = st' at *
    clear h HR
    have e1 : (m : Int) % 18446744073709551616 = (m : Int) := by omega
    have e2 : IntKind.i64.wrap (x : Int) = (x : Int) := by rw [IntKind.wrap_i64]; omega
    go_enter Try.func35, Try.ntmps35
    go_wp2_with (first
      | (go_at_call 34; refine HN.out.mono ?_; rintro e w1 ⟨rfl, hR1, hb1⟩)
      | (go_at_call 51; refine (refRaw_any n₀ B st' x w1 hn0 hR1).mono ?_; rintro e w2 ⟨q2, l2, c2, rfl, hI2, hR2, hb2⟩))
    go_ret
    exact ⟨_, _, _, rfl, hI2, hR2, hb1.trans (hb2.mono hb1.size)⟩
end Go.Proofs.Ytedpgdldekkgdaa
