/-
  Whatever is sent and received comes as the document says: the law's walk.
-/
import Derived.Test.YthdfhbbfbohojaaPr
namespace Go.Proofs.Ythdfhbbfbohojaa
open Go.RowKit Go.Shelf

set_option maxRecDepth 100000 in
set_option maxHeartbeats 8000000 in
theorem lossyDoes_walk (fv : Value) (fs : List (Int × Int)) (lq : Option Addr) (ll lc : Nat) (l : List (List Nat)) (tq : Option Addr) (tl tc : Nat) (ts : List Bool) (w : World) (hF : FatesAt w.heap.size w fv fs) (hL : WantAt w lq ll lc l) (hT : BoolsAt w tq tl tc ts) :
    Calls Try.prog 3 #[fv, .slice lq ll lc, .slice tq tl tc] w fun e w' => e = .returned (.bool true) ∧ Below w.heap.size w w' := by
  have HA : Hid (Calls Try.prog 6 #[] w fun e w' => e = .returned (.bool true) ∧ Below w.heap.size w w') := awake_any w
  have HFt : Hid (FatesAt w.heap.size w fv fs) := hF
  obtain ⟨fq, fc, rfl, hfl, hfm, _⟩ := id hF
  obtain ⟨fl, hfl'⟩ : ∃ fl, fs.length = fl := ⟨_, rfl⟩
  have HFl : Hid (fs.length = fl) := hfl'
  rw [hfl'] at hfl HFt ⊢
  clear hF hfl'
  have HL : Hid (WantAt w lq ll lc l) := hL
  have HT : Hid (BoolsAt w tq tl tc ts) := hT
  clear hL hT
  by_cases hc1 : (30 : Int) < (fl : Int)
  · go_enter Try.func3, Try.ntmps3
    go_wp2_with (go_at_call 6; refine HA.out.mono ?_; rintro e w1 ⟨rfl, hb1⟩)
    go_ret
    exact ⟨rfl, hb1⟩
  by_cases hc2 : (30 : Int) < (ll : Int)
  · go_enter Try.func3, Try.ntmps3
    go_wp2_with (go_at_call 6; refine HA.out.mono ?_; rintro e w1 ⟨rfl, hb1⟩)
    go_ret
    exact ⟨rfl, hb1⟩
  by_cases hc3 : (60 : Int) < (tl : Int)
  · go_enter Try.func3, Try.ntmps3
    go_wp2_with (go_at_call 6; refine HA.out.mono ?_; rintro e w1 ⟨rfl, hb1⟩)
    go_ret
    exact ⟨rfl, hb1⟩
  go_enter Try.func3, Try.ntmps3
  go_wp2_with (first
    | (go_at_call 6; refine HA.out.mono ?_; rintro e w1 ⟨rfl, hb1⟩; have HB1 : Hid (Below w.heap.size w w1) := hb1; have HF1 : Hid (FatesAt w.heap.size w1 (.slice fq fl fc) fs) := HFt.out.later hb1; clear hb1)
    | (go_at_call 7; refine (new_any HF1.out (by rw [HFl.out]; omega) HB1.out.size).mono ?_; rintro e w2 ⟨px, fx, rfl, hpx, hX2, hb2⟩; have HX2 : Hid (LkAt w.heap.size w2 px px fx (.slice none 0 0) ⟨fs, 0, []⟩) := hX2; have HB12 : Hid (Below w1.heap.size w1 w2) := hb2; have HF2 : Hid (FatesAt w.heap.size w2 (.slice fq fl fc) fs) := HF1.out.later hb2; clear hX2 hb2 hpx))
  obtain ⟨w3, hw3⟩ : ∃ w3, w2.alloc (.cells #[.slice fq fl fc, .int .i64 0, .slice none 0 0] 31) = w3 := ⟨_, rfl⟩
  obtain ⟨py, hpy⟩ : ∃ py, w2.heap.size = py := ⟨_, rfl⟩
  have hb3 : Below w2.heap.size w2 w3 := by rw [← hw3]; exact (Below.refl _ w2).alloc (Nat.le_refl _) _
  have hR3 : Row w3 py 31 [.slice fq fl fc, .int .i64 0, .slice none 0 0] := by rw [← hw3, ← hpy]; exact Row.new w2 31 _
  have hB2 : Below w.heap.size w w2 := HB1.out.trans (HB12.out.mono HB1.out.size)
  have hB3 : Below w.heap.size w w3 := hB2.trans (hb3.mono hB2.size)
  have hpr : Pair w px py fx (.slice fq fl fc) fs 0 w3 := ⟨px, _, [], py, _, [], HX2.out.later hb3, ⟨by rw [← hpy]; exact hB2.size, by rw [← hpy]; exact hB2.size, hR3, HF2.out.later hb3, ⟨none, 0, rfl, .inl ⟨rfl, rfl, rfl, rfl⟩⟩, fun m hm => by simp at hm⟩, rfl, by simp, hB3⟩
  have HPr : Hid (Pair w px py fx (.slice fq fl fc) fs 0 w3) := hpr
  rw [hw3, hpy]
  clear hw3 hb3 hR3 hB2 hB3 hpr hpy
  go_loopw [9, 38] (fun kk i wr => ∃ j k : Nat, j ≤ tl ∧ k ≤ ll ∧ i = .int .i64 j ∧ kk = .int .i64 k ∧ Pair w px py fx (.slice fq fl fc) fs k wr) (fun _ i _ => tl - (RowKit.intOf i).toNat)
  case atStart => exact ⟨0, 0, Nat.zero_le _, Nat.zero_le _, rfl, rfl, HPr.out⟩
  case round =>
    obtain ⟨j, k, hj, hk, rfl, rfl, hP⟩ := hrel
    by_cases hlt : j < tl
    · have hji : (j : Int) < (tl : Int) := by omega
      have hjw : IntKind.i64.wrap ((j : Int) + 1) = (j : Int) + 1 := by rw [IntKind.wrap_i64]; omega
      have hkw : IntKind.i64.wrap ((k : Int) + 1) = (k : Int) + 1 := by rw [IntKind.wrap_i64]; omega
      obtain ⟨_, htc, htm, h | ⟨tb, toff, rfl, htb, hcells⟩⟩ := HT.out
      · omega
      obtain ⟨b, hb⟩ : ∃ b, ts.getD j false = b := ⟨_, rfl⟩
      have hcj : wr.cell? ⟨tb, toff + j, none⟩ = some (.bool b) := by rw [← hb]; exact (hP.below.cell (p := ⟨tb, toff + j, none⟩) htb).trans (hcells j hlt)
      have HP : Hid (Pair w px py fx (.slice fq fl fc) fs k wr) := hP
      clear hcells hb
      cases b with
      | true =>
        rcases HP.out.cases with ⟨h10, h11⟩ | h10
        · have H10 : Hid (Calls Try.prog 10 #[.pointer (some ⟨px, 0, none⟩)] wr (fun e w' => e = .returned (.tuple #[.slice none 0 0, .bool false]) ∧ w' = wr)) := h10
          have H11 : Hid (Calls Try.prog 11 #[.pointer (some ⟨py, 0, none⟩)] wr (fun e w' => e = .returned (.tuple #[.slice none 0 0, .bool false]) ∧ Pair w px py fx (.slice fq fl fc) fs k w')) := h11
          have hcn : ∀ W, (convert 32 9 (.slice none 0 0)).run Try.prog W = .ok (.string (strOf [])) W := fun W => (str_none W none 0).here
          clear h10 h11 hP
          go_wp2_with (first
            | (go_at_call 10; refine H10.out.mono ?_; rintro e w4 ⟨rfl, hw4⟩; obtain rfl := hw4.symm; clear hw4)
            | (go_at_call 11; refine H11.out.mono ?_; rintro e w4 ⟨rfl, hP4⟩; have HP4 : Hid (Pair w px py fx (.slice fq fl fc) fs k w4) := hP4; obtain ⟨n4, h12, h13⟩ := hP4.waits; have H12 : Hid (Calls Try.prog 12 #[.pointer (some ⟨px, 0, none⟩)] w4 (fun e w' => e = .returned (.int .i64 n4) ∧ w' = w4)) := h12; have H13 : Hid (Calls Try.prog 13 #[.pointer (some ⟨py, 0, none⟩)] w4 (fun e w' => e = .returned (.int .i64 n4) ∧ w' = w4)) := h13; clear h12 h13; clear hP4)
            | (go_at_call 12; refine H12.out.mono ?_; rintro e w5 ⟨rfl, hw5⟩; obtain rfl := hw5.symm; clear hw5)
            | (go_at_call 13; refine H13.out.mono ?_; rintro e w5 ⟨rfl, hw5⟩; obtain rfl := hw5.symm; clear hw5))
          go_roundw
          case rel => exact ⟨j + 1, k, by omega, hk, by go_num, rfl, HP4.out⟩
          case measure => simp [RowKit.intOf]; omega
        · have H10 : Hid (Calls Try.prog 10 #[.pointer (some ⟨px, 0, none⟩)] wr (fun e w' => ∃ m : Msg, e = .returned (.tuple #[.slice m.q m.n m.c, .bool true]) ∧ HalfR w px py fx (.slice fq fl fc) fs k m w')) := h10
          clear h10 hP
          go_wp2_with (first
            | (go_at_call 10; refine H10.out.mono ?_; rintro e w3' ⟨m, rfl, hR⟩; have HR : Hid (HalfR w px py fx (.slice fq fl fc) fs k m w3') := hR; clear hR)
            | (go_at_call 11; refine (HR.out.recv2 (by omega)).mono ?_; rintro e w4 ⟨m', rfl, hP4, hS1, hS2⟩; have HP4 : Hid (Pair w px py fx (.slice fq fl fc) fs k w4) := hP4; obtain ⟨n4, h12, h13⟩ := hP4.waits; have H12 : Hid (Calls Try.prog 12 #[.pointer (some ⟨px, 0, none⟩)] w4 (fun e w' => e = .returned (.int .i64 n4) ∧ w' = w4)) := h12; have H13 : Hid (Calls Try.prog 13 #[.pointer (some ⟨py, 0, none⟩)] w4 (fun e w' => e = .returned (.int .i64 n4) ∧ w' = w4)) := h13; clear h12 h13; clear hP4)
            | (go_at_call 12; refine H12.out.mono ?_; rintro e w5 ⟨rfl, hw5⟩; obtain rfl := hw5.symm; clear hw5)
            | (go_at_call 13; refine H13.out.mono ?_; rintro e w5 ⟨rfl, hw5⟩; obtain rfl := hw5.symm; clear hw5))
          go_roundw
          case rel => exact ⟨j + 1, k, by omega, hk, by go_num, rfl, HP4.out⟩
          case measure => simp [RowKit.intOf]; omega
      | false =>
        by_cases hkl : k < ll
        · have hki : (k : Int) < (ll : Int) := by omega
          obtain ⟨_, hlc, hlm, _, h | ⟨lb, loff, rfl, hlb, hl⟩⟩ := HL.out
          · omega
          obtain ⟨qx, lx, cx, hcl, hI⟩ := hl k hkl
          have hck : wr.cell? ⟨lb, loff + k, none⟩ = some (.slice qx lx cx) := (hP.below.cell (p := ⟨lb, loff + k, none⟩) hlb).trans hcl
          have HI : Hid (IsBytes w.heap.size w qx lx cx (l.getD k [])) := hI
          have hlP := hP.below.size
          by_cases h100 : (100 : Int) < (lx : Int)
          · clear hI hcl hl hP
            go_wp2
            go_ret
            exact ⟨rfl, HP.out.below⟩
          · have hS := hP.send1 (by omega) hI (by omega)
            have HS : Hid (Calls Try.prog 8 #[.pointer (some ⟨px, 0, none⟩), .slice qx lx cx] wr fun e w' => (∃ v, e = .returned v) ∧ HalfS w px py fx (.slice fq fl fc) fs k (l.getD k []) w') := hS
            clear hS hI hl hP
            go_wp2_with (first
            | (go_at_call 8; refine HS.out.mono ?_; rintro e w3' ⟨⟨v3, rfl⟩, hH⟩; have HH : Hid (HalfS w px py fx (.slice fq fl fc) fs k (l.getD k []) w3') := hH; have hck3 : w3'.cell? ⟨lb, loff + k, none⟩ = some (.slice qx lx cx) := (hH.below.cell (p := ⟨lb, loff + k, none⟩) hlb).trans hcl; clear hH)
            | (go_at_call 9; refine (HH.out.send2 (by omega) HI.out (by omega)).mono ?_; rintro e w4 ⟨⟨v4, rfl⟩, hP4⟩; have HP4 : Hid (Pair w px py fx (.slice fq fl fc) fs (k + 1) w4) := hP4; obtain ⟨n4, h12, h13⟩ := hP4.waits; have H12 : Hid (Calls Try.prog 12 #[.pointer (some ⟨px, 0, none⟩)] w4 (fun e w' => e = .returned (.int .i64 n4) ∧ w' = w4)) := h12; have H13 : Hid (Calls Try.prog 13 #[.pointer (some ⟨py, 0, none⟩)] w4 (fun e w' => e = .returned (.int .i64 n4) ∧ w' = w4)) := h13; clear h12 h13; clear hP4)
            | (go_at_call 12; refine H12.out.mono ?_; rintro e w5 ⟨rfl, hw5⟩; obtain rfl := hw5.symm; clear hw5)
            | (go_at_call 13; refine H13.out.mono ?_; rintro e w5 ⟨rfl, hw5⟩; obtain rfl := hw5.symm; clear hw5))
            go_roundw
            case rel => exact ⟨j + 1, k + 1, by omega, by omega, by go_num, by go_num, HP4.out⟩
            case measure => simp [RowKit.intOf]; omega
        · have hki : ¬ (k : Int) < (ll : Int) := by omega
          obtain ⟨n4, h12, h13⟩ := hP.waits; have H12 : Hid (Calls Try.prog 12 #[.pointer (some ⟨px, 0, none⟩)] wr (fun e w' => e = .returned (.int .i64 n4) ∧ w' = wr)) := h12; have H13 : Hid (Calls Try.prog 13 #[.pointer (some ⟨py, 0, none⟩)] wr (fun e w' => e = .returned (.int .i64 n4) ∧ w' = wr)) := h13; clear h12 h13
          clear hP
          go_wp2_with (first
            | (go_at_call 12; refine H12.out.mono ?_; rintro e w5 ⟨rfl, hw5⟩; obtain rfl := hw5.symm; clear hw5)
            | (go_at_call 13; refine H13.out.mono ?_; rintro e w5 ⟨rfl, hw5⟩; obtain rfl := hw5.symm; clear hw5))
          go_roundw
          case rel => exact ⟨j + 1, k, by omega, hk, by go_num, rfl, HP.out⟩
          case measure => simp [RowKit.intOf]; omega
    · obtain rfl : j = tl := by omega
      have HP : Hid (Pair w px py fx (.slice fq fl fc) fs k wr) := hP
      clear hP
      go_wp2
      go_ret
      exact ⟨rfl, HP.out.below⟩
end Go.Proofs.Ythdfhbbfbohojaa
