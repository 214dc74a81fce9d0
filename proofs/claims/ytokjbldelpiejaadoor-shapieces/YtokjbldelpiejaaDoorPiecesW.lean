/-
  The law ShaPieces, walked: for every list of texts and every number it returns true.
-/
import Derived.Test.YtokjbldelpiejaaDoorAwake
import Derived.Test.YtokjbldelpiejaaDoorEq
import Derived.Test.YtokjbldelpiejaaDoorRefSum
import Derived.Test.YtokjbldelpiejaaDoorLists
namespace Go.Proofs.YtokjbldelpiejaaDoor
open Go.RowKit

set_option maxRecDepth 100000 in
set_option maxHeartbeats 4000000 in
theorem shaPieces_walk (p : Option Addr) (len cap : Nat) (ts : List (List Nat)) (at_ : Int) (w : World) (hT : Tab w) (hI : IsLists w.heap.size w p len cap ts) (_hat : -9223372036854775808 ≤ at_ ∧ at_ ≤ 9223372036854775807) :
    Calls Tryd.prog 5 #[.slice p len cap, .int .i64 at_] w fun e w' => e = .returned (.bool true) ∧ Below w.heap.size w w' := by
  have HT : Hid (Tab w) := hT
  have HI : Hid (IsLists w.heap.size w p len cap ts) := hI
  clear hT hI _hat
  by_cases hlen : len ≤ 20
  · have hli : ¬ (20 : Int) < (len : Int) := by omega
    have HL : Hid (ts.length = len) := HI.out.1
    go_enter Tryd.func5, Tryd.ntmps5
    go_wp2_with (first
      | (go_at_call 10; refine (awake_any _ HT.out).mono ?_; rintro e w1 ⟨rfl, hb1⟩)
      | (go_at_call 15; refine (begin_any _).mono ?_; rintro e w2 ⟨B, rfl, hBs, hrun2, hb2⟩; have hbA := hb1.trans (hb2.mono hb1.size); have hBw : w.heap.size ≤ B := Nat.le_trans hb1.size hBs; have HRun2 : Hid (RunAt w2 B []) := hrun2; clear hrun2 hb1 hb2 hBs))
    go_loopw [6, 19] (fun v i wr => ∃ (k : Nat) (q : Option Addr) (c : Nat), k ≤ len ∧ i = .int .i64 k ∧ v = .slice q (ts.take k).flatten.length c ∧ (∀ z ∈ (ts.take k).flatten, z < 256) ∧ (ts.take k).flatten.length ≤ 300 * k ∧ Own w.heap.size wr v (ts.take k).flatten ∧ RunAt wr B (ts.take k).flatten ∧ Below w.heap.size w wr)
      (fun _ i _ => len - (intOf i).toNat)
    case atStart => exact ⟨0, none, 0, Nat.zero_le _, rfl, rfl, by simp, by simp, Own.nil _ _, HRun2.out, hbA⟩
    case round =>
      clear HRun2 hbA
      obtain ⟨k, q, c, hk, rfl, rfl, hz, hfl, hown, hrun, hbel⟩ := hrel
      have hTr : Tab wr := HT.out.below hbel HT.out.pos
      have HTr : Hid (Tab wr) := hTr
      have HZ : Hid (∀ z ∈ (ts.take k).flatten, z < 256) := hz
      by_cases hlt : k < len
      · have hki : (k : Int) < (len : Int) := by omega
        obtain ⟨b, off, rfl, hb, hcell⟩ : ∃ b off, p = some ⟨b, off, none⟩ ∧ b < w.heap.size ∧ ∀ i, i < len → ∃ q l c, wr.cell? ⟨b, off + i, none⟩ = some (.slice q l c) ∧ IsBytes w.heap.size wr q l c (ts.getD i []) := by
          rcases (HI.out.below hbel).2.2 with h | h
          · omega
          · exact h
        obtain ⟨q1, l1, c1, hc1, hI1⟩ := hcell k hlt
        have HI1 : Hid (IsBytes w.heap.size wr q1 l1 c1 (ts.getD k [])) := hI1
        have HFs : Hid ((ts.take k).flatten ++ ts.getD k [] = (ts.take (k + 1)).flatten) := flat_succ ts k (by rw [HL.out]; exact hlt)
        have HOwn : Hid (Own w.heap.size wr (.slice q (ts.take k).flatten.length c) (ts.take k).flatten) := hown
        have HRun : Hid (RunAt wr B (ts.take k).flatten) := hrun
        have HFl : Hid ((ts.take k).flatten.length ≤ 300 * k) := hfl
        have hsz := hbel.size
        clear hz hown hrun hTr hcell hI1 hfl
        by_cases hl1 : l1 ≤ 300
        · have hl1i : ¬ (300 : Int) < (l1 : Int) := by omega
          have HM : Hid (Calls Tryd.prog 16 #[.pointer (some ⟨B, 0, none⟩), .slice q1 l1 c1] wr fun e w' => (∃ v, e = .returned v) ∧ RunAt w' B ((ts.take k).flatten ++ ts.getD k []) ∧ But B wr.heap.size wr w') :=
            more_any B (by have := HT.out.pos; omega) _ _ q1 l1 c1 wr HTr.out HRun.out (HI1.out.mono hsz) (by
              rcases HI1.out.2.2.2.2 with h | ⟨b', off', e, hb', _⟩
              · exact .inl h
              · exact .inr (fun a ha => by rw [e] at ha; cases ha; show b' ≠ B; omega)) (by have := HFl.out; omega) HZ.out
          rw [HFs.out] at HM
          have HZ2 : Hid (∀ z ∈ (ts.take (k + 1)).flatten, z < 256) := by
            intro z hz
            rw [← HFs.out] at hz
            rcases List.mem_append.1 hz with h | h
            · exact HZ.out z h
            · exact HI1.out.2.2.2.1 z h
          have HFl2 : Hid ((ts.take (k + 1)).flatten.length ≤ 300 * (k + 1)) := by
            show _ ≤ _
            rw [← HFs.out, List.length_append, HI1.out.1]; have := HFl.out; omega
          generalize hF : (ts.take k).flatten = F at *
          generalize hF2 : (ts.take (k + 1)).flatten = F2 at *
          generalize hFn : F.length = Fn at *
          have HFn : Hid (F.length = Fn) := hFn
          have HF2 : Hid ((ts.take (k + 1)).flatten = F2) := hF2
          clear hF hF2 hFn
          have hq := equal25 (u8s (sumN F2)) (u8s_int _ (digestN_length _))
          by_cases hat : at_ = (k : Int)
          · subst hat
            have H17 : Hid (∀ W, Tab W → RunAt W B F2 → Calls Tryd.prog 17 #[.pointer (some ⟨B, 0, none⟩)] W fun e w' => e = .returned (.agg (u8s (sumN F2)).toArray) ∧ Below W.heap.size W w') := fun W hT hR => rsum_any B F2 (by have := HFl2.out; omega) HZ2.out W hT hR
            have H12 : Hid (∀ W q l c, IsBytes W.heap.size W q l c F2 → Calls Tryd.prog 12 #[.slice q l c] W fun e w' => e = .returned (.agg (u8s (sumN F2)).toArray) ∧ Below W.heap.size W w') := fun W q l c hI => refSum_any q l c F2 W (by have := hI.1; have := HFl2.out; omega) hI
            generalize u8s (sumN F2) = V at *
            go_wp2_with (first
              | (go_at_call 16; refine HM.out.mono ?_; rintro e w5 ⟨⟨v5, rfl⟩, hrun5, hbut5⟩; have hb5 : Below w.heap.size w w5 := hbel.trans (hbut5.below hsz hBw); have HRun5 : Hid (RunAt w5 B F2) := hrun5; have HOwn5 : Hid (Own w.heap.size w5 (.slice q Fn c) F) := (hbut5.keep HRun.out (by decide)).own HOwn.out; have HI5 : Hid (IsBytes w.heap.size w5 q1 l1 c1 (ts.getD k [])) := HI1.out.below (hbut5.below hsz hBw); clear hrun5 hbut5)
              | (at_builtin; refine wpList_append_bytes rfl _ _ rfl w.heap.size (.slice q Fn c) F rfl HOwn5.out rfl HI5.out (by rw [HFn.out]; have := HFl.out; omega) hb5.size ?_; intro u6 w6 hown6 hgrow6; rw [HFs.out] at hown6; have hb6 : Below w.heap.size w w6 := below_own hb5 hb5.size HOwn5.out hgrow6; have HRun6 : Hid (RunAt w6 B F2) := RunAt.keep (KeepT.row hgrow6 HOwn5.out (by decide)) HRun5.out; obtain ⟨q6, c6, hu6⟩ := hown6.slice; subst hu6; have HOwn6 : Hid (Own w.heap.size w6 (.slice q6 F2.length c6) F2) := hown6; clear hown6 hgrow6)
              | (go_at_call 17; refine (H17.out _ (HT.out.below hb6 HT.out.pos) HRun6.out).mono ?_; rintro e w7 ⟨rfl, hb7⟩; have HRun7 : Hid (RunAt w7 B F2) := HRun6.out.later hb7; have HOwn7 : Hid (Own w.heap.size w7 (.slice q6 F2.length c6) F2) := HOwn6.out.later hb7; have hbE : Below w.heap.size w w7 := hb6.trans (hb7.mono hb6.size))
              | (go_at_call 12; refine (H12.out _ _ _ _ (HOwn7.out.bytes HZ2.out)).mono ?_; rintro e w8 ⟨rfl, hb8⟩))
            go_roundw
            case rel =>
              exact ⟨k + 1, q6, c6, by omega, by go_num, by rw [HF2.out], by rw [HF2.out]; exact HZ2.out, by rw [HF2.out]; exact HFl2.out, by rw [HF2.out]; exact HOwn7.out.later hb8, by rw [HF2.out]; exact HRun7.out.later hb8, hbE.trans (hb8.mono hbE.size)⟩
            case measure => simp [intOf]; omega
          · have hat2 : ¬ (k : Int) = at_ := fun e => hat e.symm
            go_wp2_with (first
              | (go_at_call 16; refine HM.out.mono ?_; rintro e w5 ⟨⟨v5, rfl⟩, hrun5, hbut5⟩; have hb5 : Below w.heap.size w w5 := hbel.trans (hbut5.below hsz hBw); have HRun5 : Hid (RunAt w5 B F2) := hrun5; have HOwn5 : Hid (Own w.heap.size w5 (.slice q Fn c) F) := (hbut5.keep HRun.out (by decide)).own HOwn.out; have HI5 : Hid (IsBytes w.heap.size w5 q1 l1 c1 (ts.getD k [])) := HI1.out.below (hbut5.below hsz hBw); clear hrun5 hbut5)
              | (at_builtin; refine wpList_append_bytes rfl _ _ rfl w.heap.size (.slice q Fn c) F rfl HOwn5.out rfl HI5.out (by rw [HFn.out]; have := HFl.out; omega) hb5.size ?_; intro u6 w6 hown6 hgrow6; rw [HFs.out] at hown6; have hb6 : Below w.heap.size w w6 := below_own hb5 hb5.size HOwn5.out hgrow6; have HRun6 : Hid (RunAt w6 B F2) := RunAt.keep (KeepT.row hgrow6 HOwn5.out (by decide)) HRun5.out; obtain ⟨q6, c6, hu6⟩ := hown6.slice; subst hu6; have HOwn6 : Hid (Own w.heap.size w6 (.slice q6 F2.length c6) F2) := hown6; clear hown6 hgrow6))
            go_roundw
            case rel =>
              exact ⟨k + 1, q6, c6, by omega, by go_num, by rw [HF2.out], by rw [HF2.out]; exact HZ2.out, by rw [HF2.out]; exact HFl2.out, by rw [HF2.out]; exact HOwn6.out, by rw [HF2.out]; exact HRun6.out, hb6⟩
            case measure => simp [intOf]; omega
        · have hl1i : (300 : Int) < (l1 : Int) := by omega
          go_wp2
          go_ret
          exact ⟨rfl, hbel⟩
      · obtain rfl : k = len := by omega
        have HE : Hid (ts.take k = ts) := by show _ = _; exact List.take_of_length_le (by rw [HL.out]; exact Nat.le_refl _)
        rw [HE.out] at hown hrun HZ hfl
        have hq := equal25 (u8s (sumN ts.flatten)) (u8s_int _ (digestN_length _))
        have H17 : Hid (Calls Tryd.prog 17 #[.pointer (some ⟨B, 0, none⟩)] wr fun e w' => e = .returned (.agg (u8s (sumN ts.flatten)).toArray) ∧ Below wr.heap.size wr w') := rsum_any B ts.flatten (by omega) HZ.out wr HTr.out hrun
        have H12 : Hid (∀ W q l c, IsBytes W.heap.size W q l c ts.flatten → Calls Tryd.prog 12 #[.slice q l c] W fun e w' => e = .returned (.agg (u8s (sumN ts.flatten)).toArray) ∧ Below W.heap.size W w') := fun W q l c hI => refSum_any q l c ts.flatten W (by have := hI.1; omega) hI
        have HOwn : Hid (Own w.heap.size wr (.slice q ts.flatten.length c) ts.flatten) := hown
        clear hown hrun hz hTr
        rw [HE.out]
        generalize ts.flatten = F at *
        generalize u8s (sumN F) = V at *
        go_wp2_with (first
          | (go_at_call 17; refine H17.out.mono ?_; rintro e w7 ⟨rfl, hb7⟩; have hbE : Below w.heap.size w w7 := hbel.trans (hb7.mono hbel.size))
          | (go_at_call 12; refine (H12.out _ _ _ _ ((HOwn.out.later hb7).bytes HZ.out)).mono ?_; rintro e w8 ⟨rfl, hb8⟩))
        go_ret
        exact ⟨rfl, hbE.trans (hb8.mono hbE.size)⟩
  · have hli : (20 : Int) < (len : Int) := by omega
    go_enter Tryd.func5, Tryd.ntmps5
    go_wp2_with (go_at_call 10; refine (awake_any _ HT.out).mono ?_; rintro e w1 ⟨rfl, hb1⟩)
    go_ret
    exact ⟨rfl, hb1⟩
end Go.Proofs.YtokjbldelpiejaaDoor
