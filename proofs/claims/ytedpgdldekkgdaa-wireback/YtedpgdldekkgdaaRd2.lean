/-
  What a reader's N, Raw and Text answer and leave.
-/
import Derived.Test.YtedpgdldekkgdaaRd
namespace Go.Proofs.Ytedpgdldekkgdaa
open Go.RowKit

theorem numR_none {zs : List Nat} (h : numL zs 0 0 = none) : numR zs = (0, 0) := by rw [numR, h]; rfl
theorem readN_over {most x s : Nat} {zs : List Nat} (h : numL zs 0 0 = some (x, s)) (hm : most < x) : readN most (some zs) = (0, none) := by simp [readN, h, hm]
theorem readN_some {most x s : Nat} {zs : List Nat} (h : numL zs 0 0 = some (x, s)) (hm : ¬ most < x) : readN most (some zs) = (x, some (zs.drop s)) := by simp [readN, h, hm]
theorem readN_bad {most : Nat} {zs : List Nat} (h : numL zs 0 0 = none) : readN most (some zs) = (0, none) := by simp [readN, h]
theorem readRaw_in {s : Nat} {zs : List Nat} (h : s ≤ zs.length) : readRaw (s : Int) (some zs) = (zs.take s, some (zs.drop s)) := by
  have h1 : ¬ ((s : Int) < 0 ∨ (zs.length : Int) < (s : Int)) := by omega
  simp only [readRaw, if_neg h1, Int.toNat_natCast]
theorem numR_some {zs : List Nat} {x : Nat × Nat} (h : numL zs 0 0 = some x) : numR zs = x := by rw [numR, h]; rfl

set_option maxRecDepth 100000 in
set_option maxHeartbeats 1000000 in
/-- N -/
theorem readerN_any (B : Nat) (st : Option (List Nat)) (most : Nat) (_hmost : most < 18446744073709551616) (w : World) (h : RdAt w B st) :
    Calls Try.prog 30 #[.pointer (some ⟨B, 0, none⟩), .int .u64 (most : Nat)] w fun e w' => e = .returned (.int .u64 ((readN most st).1 : Nat)) ∧ RdAt w' B (readN most st).2 ∧ But B w.heap.size w w' := by
  have HF : Hid (Calls Try.prog 45 #[.pointer (some ⟨B, 0, none⟩)] w fun e w' => e = .returned (.bool st.isNone) ∧ w' = w) := failed_any B st w h
  have HFl : Hid (Calls Try.prog 47 #[.pointer (some ⟨B, 0, none⟩)] w fun e w' => (∃ v, e = .returned v) ∧ RdAt w' B none ∧ But B w.heap.size w w') := fail_any B st w h
  cases st with
  | none =>
    have H : Hid (RdAt w B none) := h
    clear h
    go_enter Try.func30, Try.ntmps30
    go_wp2_with (go_at_call 45; refine HF.out.mono ?_; rintro e w1 ⟨rfl, hw1⟩; obtain rfl : w = w1 := hw1.symm; clear hw1; rw [Option.isNone_none])
    go_ret
    exact ⟨rfl, H.out, But.refl _ _ _⟩
  | some zs =>
    obtain ⟨q, len, cap, hr, hI, hl⟩ := h
    have c1 := hr.cell (i := 1) rfl
    have f1 := hr.frozen 1
    have hBl := hr.lt
    have HNum : Hid (Calls Try.prog 46 #[.slice q len cap] w fun e w' => e = .returned (.tuple #[.int .u64 ((numR zs).1 : Nat), .int .i64 ((numR zs).2 : Nat)]) ∧ w' = w) := numberAt_any q len cap zs w (hI.mono (by omega))
    cases hn : numL zs 0 0 with
    | none =>
      rw [numR_none hn] at HNum
      dsimp only at HNum
      have HR : Hid (readN most (some zs) = (0, none)) := readN_bad hn
      clear hr hI hn
      rw [HR.out]
      go_enter Try.func30, Try.ntmps30
      go_wp2_with (first
        | (go_at_call 45; refine HF.out.mono ?_; rintro e w1 ⟨rfl, hw1⟩; obtain rfl : w = w1 := hw1.symm; clear hw1; rw [Option.isNone_some])
        | (go_at_call 46; refine HNum.out.mono ?_; rintro e w1 ⟨rfl, hw1⟩; obtain rfl : w = w1 := hw1.symm; clear hw1)
        | (go_at_call 47; refine HFl.out.mono ?_; rintro e w1 ⟨⟨v1, rfl⟩, hR1, hb1⟩))
      go_ret
      exact ⟨rfl, hR1, hb1⟩
    | some ys =>
      obtain ⟨x, s⟩ := ys
      rw [numR_some hn] at HNum
      dsimp only at HNum
      obtain ⟨hs0, hsl, hx64, _⟩ := numL_size hI.2.2.2.1 hn
      rw [hI.1] at hsl
      have hs0i : ¬ (s : Int) = 0 := by omega
      by_cases hm : most < x
      · have HR : Hid (readN most (some zs) = (0, none)) := readN_over hn hm
        have hmi : (most : Int) < (x : Int) := by omega
        clear hr hI hn
        rw [HR.out]
        go_enter Try.func30, Try.ntmps30
        go_wp2_with (first
          | (go_at_call 45; refine HF.out.mono ?_; rintro e w1 ⟨rfl, hw1⟩; obtain rfl : w = w1 := hw1.symm; clear hw1; rw [Option.isNone_some])
          | (go_at_call 46; refine HNum.out.mono ?_; rintro e w1 ⟨rfl, hw1⟩; obtain rfl : w = w1 := hw1.symm; clear hw1)
          | (go_at_call 47; refine HFl.out.mono ?_; rintro e w1 ⟨⟨v1, rfl⟩, hR1, hb1⟩))
        go_ret
        exact ⟨rfl, hR1, hb1⟩
      · have HR : Hid (readN most (some zs) = (x, some (zs.drop s))) := readN_some hn hm
        have hmi : ¬ (most : Int) < (x : Int) := by omega
        have hsi : (s : Int) ≤ (len : Int) := by omega
        have hlc := hI.2.1
        have hcc := hI.2.2.1
        obtain ⟨b, off, rfl, hbB⟩ : ∃ b off, q = some ⟨b, off, none⟩ ∧ b < B := (bytes_at hI).resolve_left (by omega)
        have HEnd : Hid (∀ q2 c2, c2 + s = cap → (0 < len - s → q2 = some ⟨b, off + s, none⟩) → RdAt (w.setCell ⟨B, 1, none⟩ (.slice q2 (len - s) c2)) B (some (zs.drop s)) ∧ But B w.heap.size w (w.setCell ⟨B, 1, none⟩ (.slice q2 (len - s) c2))) := fun q2 c2 h1 h2 => RdAt.cut hr hI hl hsl h1 (fun h => ⟨b, off, rfl, h2 h⟩) (Below.refl _ _)
        clear hr hI hn
        rw [HR.out]
        by_cases hcn : cap = s
        · obtain rfl : len = s := by omega
          obtain rfl : cap = len := hcn
          have hE := HEnd.out (some ⟨b, off, none⟩) 0 (by omega) (by omega)
          rw [Nat.sub_self] at hE
          go_enter Try.func30, Try.ntmps30
          go_wp2_with (first
            | (go_at_call 45; refine HF.out.mono ?_; rintro e w1 ⟨rfl, hw1⟩; obtain rfl : w = w1 := hw1.symm; clear hw1; rw [Option.isNone_some])
            | (go_at_call 46; refine HNum.out.mono ?_; rintro e w1 ⟨rfl, hw1⟩; obtain rfl : w = w1 := hw1.symm; clear hw1))
          go_ret
          exact ⟨rfl, hE⟩
        · have hcn' : (cap = s) = False := eq_false hcn
          go_enter Try.func30, Try.ntmps30
          go_wp2_with (first
            | (go_at_call 45; refine HF.out.mono ?_; rintro e w1 ⟨rfl, hw1⟩; obtain rfl : w = w1 := hw1.symm; clear hw1; rw [Option.isNone_some])
            | (go_at_call 46; refine HNum.out.mono ?_; rintro e w1 ⟨rfl, hw1⟩; obtain rfl : w = w1 := hw1.symm; clear hw1))
          go_ret
          exact ⟨rfl, HEnd.out _ _ (by omega) (fun _ => rfl)⟩
theorem readerN_none (v : Value) (w : World) : Calls Try.prog 30 #[.pointer none, v] w fun e w' => e = .returned (.int .u64 0) ∧ w' = w := by
  go_enter Try.func30, Try.ntmps30
  go_wp2_with (go_at_call 45; refine (failed_none w).mono ?_; rintro e w1 ⟨rfl, hw1⟩; obtain rfl : w = w1 := hw1.symm; clear hw1)
  go_ret
  exact ⟨rfl, rfl⟩

set_option maxRecDepth 100000 in
set_option maxHeartbeats 1000000 in
/-- Raw -/
theorem readerRaw_any (B : Nat) (st : Option (List Nat)) (z : Int) (w : World) (h : RdAt w B st) :
    Calls Try.prog 48 #[.pointer (some ⟨B, 0, none⟩), .int .i64 z] w fun e w' => ∃ v, e = .returned v ∧ Own w.heap.size w' v (readRaw z st).1 ∧ RdAt w' B (readRaw z st).2 ∧ But B w.heap.size w w' := by
  have HF : Hid (Calls Try.prog 45 #[.pointer (some ⟨B, 0, none⟩)] w fun e w' => e = .returned (.bool st.isNone) ∧ w' = w) := failed_any B st w h
  have HFl : Hid (Calls Try.prog 47 #[.pointer (some ⟨B, 0, none⟩)] w fun e w' => (∃ v, e = .returned v) ∧ RdAt w' B none ∧ But B w.heap.size w w') := fail_any B st w h
  cases st with
  | none =>
    have H : Hid (RdAt w B none) := h
    clear h
    go_enter Try.func48, Try.ntmps48
    go_wp2_with (go_at_call 45; refine HF.out.mono ?_; rintro e w1 ⟨rfl, hw1⟩; obtain rfl : w = w1 := hw1.symm; clear hw1; rw [Option.isNone_none])
    go_ret
    exact ⟨_, rfl, Own.nil _ _, H.out, But.refl _ _ _⟩
  | some zs =>
    obtain ⟨q, len, cap, hr, hI, hl⟩ := h
    have c1 := hr.cell (i := 1) rfl
    have hBl := hr.lt
    by_cases hz : z < 0
    · have HR : Hid (readRaw z (some zs) = ([], none)) := if_pos (.inl hz)
      clear hr hI
      rw [HR.out]
      go_enter Try.func48, Try.ntmps48
      go_wp2_with (first
        | (go_at_call 45; refine HF.out.mono ?_; rintro e w1 ⟨rfl, hw1⟩; obtain rfl : w = w1 := hw1.symm; clear hw1; rw [Option.isNone_some])
        | (go_at_call 47; refine HFl.out.mono ?_; rintro e w1 ⟨⟨v1, rfl⟩, hR1, hb1⟩))
      go_ret
      exact ⟨_, rfl, Own.nil _ _, hR1, hb1⟩
    · by_cases hn : (len : Int) < z
      · have HR : Hid (readRaw z (some zs) = ([], none)) := if_pos (.inr (by rw [hI.1]; exact hn))
        clear hr hI
        rw [HR.out]
        go_enter Try.func48, Try.ntmps48
        go_wp2_with (first
          | (go_at_call 45; refine HF.out.mono ?_; rintro e w1 ⟨rfl, hw1⟩; obtain rfl : w = w1 := hw1.symm; clear hw1; rw [Option.isNone_some])
          | (go_at_call 47; refine HFl.out.mono ?_; rintro e w1 ⟨⟨v1, rfl⟩, hR1, hb1⟩))
        go_ret
        exact ⟨_, rfl, Own.nil _ _, hR1, hb1⟩
      · obtain ⟨s, rfl⟩ : ∃ s : Nat, z = (s : Int) := ⟨z.toNat, by omega⟩
        have hsl : s ≤ len := by omega
        have HR : Hid (readRaw s (some zs) = (zs.take s, some (zs.drop s))) := readRaw_in (by rw [hI.1]; exact hsl)
        have hlc := hI.2.1
        have hcc := hI.2.2.1
        have hsc : s ≤ cap := by omega
        have HOw : Hid (∀ c, s ≤ c → c ≤ cap → Calls Try.prog 44 #[.slice q s c] w fun e w' => e = .returned (.slice (some ⟨w.heap.size, 0, none⟩) s s) ∧ Own w.heap.size w' (.slice (some ⟨w.heap.size, 0, none⟩) s s) (zs.take s) ∧ w.heap.size < w'.heap.size ∧ Below w.heap.size w w') := fun c h1 h2 => own_any q s c (zs.take s) (by omega) w ((hI.head hsl h1 h2).mono (by omega))
        have HEnd : Hid (∀ w2 v ts, Below w.heap.size w w2 → Own w.heap.size w2 v ts → ∀ q2 c2, c2 + s = cap → (0 < len - s → ∃ b off, q = some ⟨b, off, none⟩ ∧ q2 = some ⟨b, off + s, none⟩) → Own w.heap.size (w2.setCell ⟨B, 1, none⟩ (.slice q2 (len - s) c2)) v ts ∧ RdAt (w2.setCell ⟨B, 1, none⟩ (.slice q2 (len - s) c2)) B (some (zs.drop s)) ∧ But B w.heap.size w (w2.setCell ⟨B, 1, none⟩ (.slice q2 (len - s) c2))) := fun w2 v ts hb ho q2 c2 h1 h2 => ⟨ho.but (But.set 1 _) hBl, RdAt.cut hr hI hl hsl h1 h2 hb⟩
        have fz := fun (w2 : World) (hb : Below w.heap.size w w2) => (hr.later hb).frozen 1
        have cc := fun (w2 : World) (hb : Below w.heap.size w w2) => (hr.later hb).cell (i := 1) rfl
        have hq := bytes_at hI
        clear hr hI
        rw [HR.out]
        rcases hq with h0 | ⟨b, off, rfl, hbB⟩
        · subst h0
          obtain rfl : s = 0 := by omega
          cases q
          all_goals
            go_enter Try.func48, Try.ntmps48
            go_wp2_with (first
              | (go_at_call 45; refine HF.out.mono ?_; rintro e w1 ⟨rfl, hw1⟩; obtain rfl : w = w1 := hw1.symm; clear hw1; rw [Option.isNone_some])
              | (go_at_call 44; refine (HOw.out _ (by omega) (by omega)).mono ?_; rintro e w2 ⟨rfl, hown2, _, hb2⟩; have fz2 := fz w2 hb2; have cc2 := cc w2 hb2; clear fz cc))
            go_ret
            exact ⟨_, rfl, HEnd.out w2 _ _ hb2 hown2 _ cap (by omega) (by omega)⟩
        · by_cases hcn : cap = s
          · obtain rfl : len = s := by omega
            obtain rfl : cap = len := hcn
            go_enter Try.func48, Try.ntmps48
            go_wp2_with (first
              | (go_at_call 45; refine HF.out.mono ?_; rintro e w1 ⟨rfl, hw1⟩; obtain rfl : w = w1 := hw1.symm; clear hw1; rw [Option.isNone_some])
              | (go_at_call 44; refine (HOw.out _ (by omega) (by omega)).mono ?_; rintro e w2 ⟨rfl, hown2, _, hb2⟩; have fz2 := fz w2 hb2; have cc2 := cc w2 hb2; clear fz cc))
            go_ret
            have hE := HEnd.out w2 _ _ hb2 hown2 (some ⟨b, off, none⟩) 0 (by omega) (by omega)
            rw [Nat.sub_self] at hE
            exact ⟨_, rfl, hE⟩
          · have hcn' : (cap = s) = False := eq_false hcn
            go_enter Try.func48, Try.ntmps48
            go_wp2_with (first
              | (go_at_call 45; refine HF.out.mono ?_; rintro e w1 ⟨rfl, hw1⟩; obtain rfl : w = w1 := hw1.symm; clear hw1; rw [Option.isNone_some])
              | (go_at_call 44; refine (HOw.out _ (by omega) (by omega)).mono ?_; rintro e w2 ⟨rfl, hown2, _, hb2⟩; have fz2 := fz w2 hb2; have cc2 := cc w2 hb2; clear fz cc))
            go_ret
            exact ⟨_, rfl, HEnd.out w2 _ _ hb2 hown2 _ _ (by omega) (fun _ => ⟨b, off, rfl, rfl⟩)⟩
theorem readerRaw_none (v : Value) (w : World) : Calls Try.prog 48 #[.pointer none, v] w fun e w' => e = .returned (.slice none 0 0) ∧ w' = w := by
  go_enter Try.func48, Try.ntmps48
  go_wp2_with (go_at_call 45; refine (failed_none w).mono ?_; rintro e w1 ⟨rfl, hw1⟩; obtain rfl : w = w1 := hw1.symm; clear hw1)
  go_ret
  exact ⟨rfl, rfl⟩
end Go.Proofs.Ytedpgdldekkgdaa
