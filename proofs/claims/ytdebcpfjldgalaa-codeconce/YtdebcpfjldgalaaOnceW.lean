/-
  The law CodecOnce, walked: for every text it returns true.
-/
import Derived.Test.YtdebcpfjldgalaaAwake
namespace Go.Proofs.Ytdebcpfjldgalaa
open Go.RowKit

/-- Where all was read as one number, it is written as it stood. -/
theorem once_of {zs : List Nat} (hz : ∀ z ∈ zs, z < 256) (he : endE (readN 18446744073709551615 (some zs)).2 = 0) : encs [(readN 18446744073709551615 (some zs)).1] = zs ∧ (readN 18446744073709551615 (some zs)).1 < 18446744073709551616 := by
  cases h : numL zs 0 0 with
  | none => rw [readN_bad h] at he; simp [endE] at he
  | some y =>
    obtain ⟨x, s⟩ := y
    obtain ⟨h0, hs, hx, ht⟩ := numL_size hz h
    have hm : ¬ 18446744073709551615 < x := by omega
    rw [readN_some h hm] at he ⊢
    dsimp only [endE] at he ⊢
    have hd : zs.length ≤ s := by
      by_cases hl : 0 < (zs.drop s).length
      · rw [if_pos hl] at he; omega
      · simp at hl; omega
    rw [encs_one, ← ht, List.take_of_length_le hd]
    exact ⟨rfl, hx⟩

set_option maxRecDepth 100000 in
set_option maxHeartbeats 1000000 in
theorem codecOnce_walk (p : Option Addr) (len cap : Nat) (zs : List Nat) (w : World) (hI : IsBytes w.heap.size w p len cap zs) :
    Calls Try.prog 6 #[.slice p len cap] w fun e w' => e = .returned (.bool true) ∧ Below w.heap.size w w' := by
  have HI : Hid (IsBytes w.heap.size w p len cap zs) := hI
  have hl := hI.1
  clear hI
  by_cases hlen : len ≤ 100
  · have hli : ¬ (100 : Int) < (len : Int) := by omega
    have HN : Hid (∀ W B, RdAt W B (some zs) → Calls Try.prog 13 #[.pointer (some ⟨B, 0, none⟩), .int .u64 18446744073709551615] W fun e w' => e = .returned (.int .u64 ((readN 18446744073709551615 (some zs)).1 : Nat)) ∧ RdAt w' B (readN 18446744073709551615 (some zs)).2 ∧ But B W.heap.size W w') := fun W B h => readerN_any B (some zs) 18446744073709551615 (by omega) W h
    have HO : Hid (endE (readN 18446744073709551615 (some zs)).2 = 0 → encs [(readN 18446744073709551615 (some zs)).1] = zs ∧ (readN 18446744073709551615 (some zs)).1 < 18446744073709551616) := once_of HI.out.2.2.2.1
    generalize (readN 18446744073709551615 (some zs)).1 = n at *
    generalize (readN 18446744073709551615 (some zs)).2 = st at *
    by_cases he : endE st = 0
    · obtain ⟨henc, hn⟩ := HO.out he
      have HEnc : Hid (encs [n] = zs) := henc
      clear HO henc
      have HW : Hid (∀ W, Calls Try.prog 25 #[.pointer (some ⟨W.heap.size, 0, none⟩), .slice (some ⟨W.heap.size + 1, 0, none⟩) 1 1] ((W.alloc (.cells #[.slice none 0 0] 46)).alloc (.cells #[.int .u64 (n : Nat)] 32)) fun e w' => (∃ v, e = .returned v) ∧ WrAt w' W.heap.size zs ∧ Below W.heap.size W w') := fun W => by
        have hN := IsNums.one (W.alloc (.cells #[.slice none 0 0] 46)) n hn
        rw [World.size_alloc] at hN
        refine (writerN_any W.heap.size [] [n] _ 1 1 _ ((WrAt.new W).alloc _) hN (by simp) (by omega)).mono ?_
        rintro e w' ⟨h1, h2, h3⟩
        rw [HEnc.out] at h2
        exact ⟨h1, h2, (((Below.refl _ W).alloc (Nat.le_refl _) _).alloc (by simp) _).trans h3.1⟩
      go_enter Try.func6, Try.ntmps6
      go_wp2_with (first
        | (go_at_call 8; refine (awake_any _).mono ?_; rintro e w1 ⟨rfl, hb1⟩; have HI1 : Hid (IsBytes w1.heap.size w1 p len cap zs) := (HI.out.below hb1).mono hb1.size)
        | (go_at_call 12; refine (read_any p len cap zs (by omega) w1 HI1.out).mono ?_; rintro e w2 ⟨B, rfl, hB, hR2, hb2⟩; have hbA := hb1.trans (hb2.mono hb1.size); have HR2 : Hid (RdAt w2 B (some zs)) := hR2; have hBw : w.heap.size ≤ B := Nat.le_trans hb1.size hB; clear hR2 hb1 hb2 hB HI1)
        | (go_at_call 13; refine (HN.out w2 B HR2.out).mono ?_; rintro e w3 ⟨rfl, hR3, hb3⟩; have HR3 : Hid (RdAt w3 B st) := hR3; have hbB := hbA.trans (hb3.below hbA.size hBw); clear hR3 hb3 HR2 hbA)
        | (go_at_call 23; refine (end_any B st w3 HR3.out).mono ?_; rintro e w4 ⟨rfl, hw4⟩; obtain rfl : w3 = w4 := hw4.symm; clear hw4)
        | (go_at_call 25; refine (HW.out w3).mono ?_; rintro e w5 ⟨⟨v5, rfl⟩, hW5, hb5⟩; have hbC := hbB.trans (hb5.mono hbB.size); have HW5 : Hid (WrAt w5 w3.heap.size zs) := hW5; clear hW5 hb5 HR3))
      have SB : Hid (Str w (.slice p len cap) (strOf zs)) := str_of_bytes HI.out
      have HBy : Hid (∀ W, WrAt W w3.heap.size zs → Calls Try.prog 26 #[.pointer (some ⟨w3.heap.size, 0, none⟩)] W fun e w' => ∃ v, e = .returned v ∧ Str w' v (strOf zs) ∧ Below W.heap.size W w') := fun W hW => (writerBytes_any w3.heap.size zs W hW HI.out.2.2.2.1 (by omega)).mono fun e w' ⟨v, h1, h2, h3⟩ => ⟨v, h1, own_str h2, h3⟩
      generalize strOf zs = s at *
      refine wp_region_held_drew (S := fun W => Below w5.heap.size w5 W) (by kernel_rfl) (Below.refl _ _).drew (fun hHeld => ?_)
      refine wpAnyH_takesAt 0 1 6 (of_decide_eq_true (by kernel_rfl)) rfl (fun _ _ _ d _ h => by cases d <;> exact h) (by kernel_rfl) (by kernel_rfl) hHeld ?_
      simp only [List.drop_zero, List.take_succ_cons, List.take_zero]
      iterate 1 (refine wpHeld_step (v := ?_) (by rfl) (fun wz hSw => ?_) ?_; rotate_left; (focus ((try dsimp only at hSw); go_simp; try with_reducible rfl)); ((simp only [Act.put]; (try simp only [List.setIfInBounds_toArray]); (try simp only [List.set_cons_succ]); (try simp only [List.set_cons_zero]))))
      refine wpHeld_nil ?_
      refine wpAnyH_takesAt 3 2 4 (of_decide_eq_true (by kernel_rfl)) rfl (fun _ _ _ d _ h => by cases d <;> exact h) (by kernel_rfl) (by kernel_rfl) hHeld ?_
      simp only [List.drop_succ_cons, List.drop_zero, List.take_succ_cons, List.take_zero]
      iterate 2 (refine wpHeld_step (v := ?_) (by rfl) (fun wz hSw => ?_) ?_; rotate_left; (focus (have hcv := SB.out wz (hbC.trans (hSw.mono hbC.size)); go_simp; try with_reducible rfl)); (simp only [Act.put, List.setIfInBounds_toArray, List.set_cons_zero, List.set_cons_succ]))
      refine wpHeld_nil ?_
      refine wpAnyH_only (i := 1) (by kernel_rfl) rfl (fun K hK => ?_)
      rw [if_pos (by rfl)]
      go_simp
      refine (HBy.out _ (HW5.out.later (Below.refl _ w5).drew)).mono ?_
      rintro e w6 ⟨v6, rfl, hs6, hb6⟩
      have h56 : Below w5.heap.size w5 w6 := (Below.refl _ w5).drew.trans hb6
      refine hK.out _ _ h56 ?_
      clear hK K hHeld
      refine wpAnyH_more (S' := fun W => Below w6.heap.size w6 W) (fun W h => h56.trans (h.mono h56.size)) _ _ _ _ ?_
      have hHeld := Below.refl w6.heap.size w6
      refine wpAnyH_takesAt 2 1 2 (of_decide_eq_true (by kernel_rfl)) rfl (fun _ _ _ d _ h => by cases d <;> exact h) (by kernel_rfl) (by kernel_rfl) hHeld ?_
      simp only [List.drop_succ_cons, List.drop_zero, List.take_succ_cons, List.take_zero]
      iterate 1 (refine wpHeld_step (v := ?_) (by rfl) (fun wz hSw => ?_) ?_; rotate_left; (focus (have hcv := hs6 wz hSw; go_simp; try with_reducible rfl)); ((simp only [Act.put]; (try simp only [List.setIfInBounds_toArray]); (try simp only [List.set_cons_succ]); (try simp only [List.set_cons_zero]))))
      refine wpHeld_nil ?_
      refine wpAnyH_takesAt 5 2 0 (of_decide_eq_true (by kernel_rfl)) rfl (fun _ _ _ d _ h => by cases d <;> exact h) (by kernel_rfl) (by kernel_rfl) hHeld ?_
      simp only [List.drop_succ_cons, List.drop_zero, List.take_succ_cons, List.take_zero]
      iterate 2 (refine wpHeld_step (v := ?_) (by rfl) (fun wz hSw => ?_) ?_; rotate_left; (focus ((try dsimp only at hSw); go_simp; try with_reducible rfl)); (simp only [Act.put, List.setIfInBounds_toArray, List.set_cons_zero, List.set_cons_succ]))
      refine wpHeld_nil ?_
      refine wpAnyH_done (by kernel_rfl) ?_ _
      go_wp2
      go_ret
      exact ⟨by simp, hbC.trans (h56.mono hbC.size)⟩
    · have hei : (endE st == 0) = false := by simpa using he
      clear HO
      go_enter Try.func6, Try.ntmps6
      go_wp2_with (first
        | (go_at_call 8; refine (awake_any _).mono ?_; rintro e w1 ⟨rfl, hb1⟩; have HI1 : Hid (IsBytes w1.heap.size w1 p len cap zs) := (HI.out.below hb1).mono hb1.size)
        | (go_at_call 12; refine (read_any p len cap zs (by omega) w1 HI1.out).mono ?_; rintro e w2 ⟨B, rfl, hB, hR2, hb2⟩; have hbA := hb1.trans (hb2.mono hb1.size); have HR2 : Hid (RdAt w2 B (some zs)) := hR2; have hBw : w.heap.size ≤ B := Nat.le_trans hb1.size hB; clear hR2 hb1 hb2 hB HI1)
        | (go_at_call 13; refine (HN.out w2 B HR2.out).mono ?_; rintro e w3 ⟨rfl, hR3, hb3⟩; have HR3 : Hid (RdAt w3 B st) := hR3; have hbB := hbA.trans (hb3.below hbA.size hBw); clear hR3 hb3 HR2 hbA)
        | (go_at_call 23; refine (end_any B st w3 HR3.out).mono ?_; rintro e w4 ⟨rfl, hw4⟩; obtain rfl : w3 = w4 := hw4.symm; clear hw4))
      go_ret
      exact ⟨rfl, hbB⟩
  · have hli : (100 : Int) < (len : Int) := by omega
    go_enter Try.func6, Try.ntmps6
    go_wp2_with (go_at_call 8; refine (awake_any _).mono ?_; rintro e w1 ⟨rfl, hb1⟩)
    go_ret
    exact ⟨rfl, hb1⟩
end Go.Proofs.Ytdebcpfjldgalaa
