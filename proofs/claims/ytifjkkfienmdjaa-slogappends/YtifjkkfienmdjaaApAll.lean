/-
  Several texts in one: ROpn, Laid, OpensW, WhA, WholeW, AppendsW.
-/
import Derived.Test.YtifjkkfienmdjaaOpn
import Derived.Test.YtifjkkfienmdjaaBo
import Derived.Test.YtifjkkfienmdjaaAwS
import Derived.Test.YtifjkkfienmdjaaSmAll
import Derived.Maps.AppendAt
import Derived.Test.YtifjkkfienmdjaaRApp
/-
  The reference's Open: the log of the records that stand in a region.
-/
namespace Go.Proofs.Ytifjkkfienmdjaa
open Go.RowKit Go.Shelf

theorem scan_no {ss : List (List Nat)} {f n gen fuel at_ : Nat} {recs : List (List Nat)} (h : (ss.getD (f + at_) []).drop 55 ≠ markL gen recs.length ∨ 262144 < numFrom (ss.getD (f + at_) []) 0 4 ∨ n - at_ < spanN (numFrom (ss.getD (f + at_) []) 0 4 : Nat)) : scan ss f n gen (fuel + 1) at_ recs = (at_, recs) := by
  rw [scan]
  by_cases hn : n ≤ at_
  · rw [if_pos hn]
  · rw [if_neg hn, if_pos h]
theorem scan_yes {ss : List (List Nat)} {f n gen fuel at_ : Nat} {recs : List (List Nat)} (hn : at_ < n) (h1 : (ss.getD (f + at_) []).drop 55 = markL gen recs.length) (h2 : numFrom (ss.getD (f + at_) []) 0 4 ≤ 262144) (h3 : spanN (numFrom (ss.getD (f + at_) []) 0 4 : Nat) ≤ n - at_) :
    scan ss f n gen (fuel + 1) at_ recs = scan ss f n gen fuel (at_ + spanN (numFrom (ss.getD (f + at_) []) 0 4 : Nat)) (recs ++ [recB ss f at_ (numFrom (ss.getD (f + at_) []) 0 4)]) := by
  rw [scan, if_neg (by omega), if_neg]
  rintro (h | h | h)
  · exact h h1
  · omega
  · omega
/-- How many sectors are left, by memory. -/
def roomR (L : Nat) (W : World) (e : Nat) : Nat := match W.cell? ⟨L, 4, none⟩ with | some (.int _ x) => e - x.toNat | _ => 0
/-- What Open answers. -/
def ROpnPost (F : List Nat) (n₀ : Nat) (w : World) (p g : Nat) (d : St) (f n gen : Nat) (e : Ending) (w' : World) : Prop :=
  ∃ L v, e = .returned (.tuple #[.pointer (some ⟨L, 0, none⟩), .int .i64 0]) ∧ w.heap.size ≤ L ∧ (∀ k, v.ownBlock = some k → w.heap.size ≤ k) ∧ Below w.heap.size w w' ∧
      RSt F n₀ w' L p g v d ⟨f, n, gen, (scan d.ss f n gen (n + 1) 0 []).1, (scan d.ss f n gen (n + 1) 0 []).2, false⟩
set_option maxRecDepth 100000 in
set_option maxHeartbeats 4000000 in
theorem refOpen_live {F : List Nat} {n₀ : Nat} {w : World} {p g : Nat} {d : St} (h : RefAt F w p g d) (hc : CrLow n₀ w p 1) (hpg : p < n₀ ∧ g < n₀) (hn₀ : n₀ ≤ w.heap.size) (f n gen : Nat) (hn2 : 2 ≤ n) (hfn : f + n ≤ d.ss.length) (hgen : gen < 4294967296) (hd : d.dead = false) :
    Calls Try.prog 13 #[.pointer (some ⟨p, 0, none⟩), .int .i64 (f : Nat), .int .i64 (n : Nat), .int .u32 (gen : Nat)] w (ROpnPost F n₀ w p g d f n gen) := by
  have hfew := h.1.few
  have hrb : regB d.ss.length (f : Nat) (n : Nat) = true := by
    simp only [regB, Bool.and_eq_true, decide_eq_true_eq]
    omega
  have HR : Hid (Calls Try.prog 33 #[.pointer (some ⟨p, 0, none⟩), .int .i64 (f : Nat), .int .i64 (n : Nat)] w fun e w' => e = .returned (.bool true) ∧ w' = w) := by
    have := refRegion_any h (f : Nat) (n : Nat) (by omega) (by omega)
    rw [hrb] at this
    exact this
  have HSecs : Hid (∀ s ∈ d.ss, IsSec s) := h.1.secs
  obtain ⟨w1, hw1⟩ : ∃ w1, w.alloc (.cells #[.pointer (some ⟨p, 0, none⟩), .int .i64 (f : Nat), .int .i64 (n : Nat), .int .u32 (gen : Nat), .int .i64 0, .slice none 0 0, .bool false] 41) = w1 := ⟨_, rfl⟩
  have hb1 : Below w.heap.size w w1 := by rw [← hw1]; exact (Below.refl _ w).alloc (Nat.le_refl _) _
  have hr1 := Row.new w 41 #[.pointer (some ⟨p, 0, none⟩), .int .i64 (f : Nat), .int .i64 (n : Nat), .int .u32 (gen : Nat), .int .i64 0, .slice none 0 0, .bool false]
  rw [hw1] at hr1
  have HW1 : Hid (w.alloc (.cells #[.pointer (some ⟨p, 0, none⟩), .int .i64 (f : Nat), .int .i64 (n : Nat), .int .u32 (gen : Nat), .int .i64 0, .slice none 0 0, .bool false] 41) = w1) := hw1
  have HS1 : Hid (RSt F n₀ w1 w.heap.size p g (.slice none 0 0) d ⟨f, n, gen, 0, [], false⟩) := by
    obtain ⟨f1, f2⟩ := h.frame (n₀ := n₀) (S := []) hc (Buts.of_below hb1 (Nat.le_refl _)) (by simp) (by simp) (by simp)
    exact ⟨f1, f2, ⟨hr1, RecsAt.nil _ _⟩, hn₀, hpg⟩
  clear hw1 hr1 h hc hrb
  go_enter Try.func13, Try.ntmps13
  go_wp2_with (first
    | (go_at_call 33; refine HR.out.mono ?_; rintro e w2 ⟨rfl, hw2⟩; obtain rfl : w = w2 := hw2.symm; clear hw2)
    | (rw [HW1.out]))
  go_loopw [33] (fun _ wr => ∃ (at_ fuel : Nat) (recs : List (List Nat)) (v : Value), at_ ≤ n ∧ recs.length ≤ at_ ∧ n - at_ < fuel ∧ scan d.ss f n gen fuel at_ recs = scan d.ss f n gen (n + 1) 0 [] ∧ RSt F n₀ wr w.heap.size p g v d ⟨f, n, gen, at_, recs, false⟩ ∧ Below w.heap.size w wr ∧ ∀ k, v.ownBlock = some k → w.heap.size ≤ k) (fun _ wr => roomR w.heap.size wr n)
  case atStart => exact ⟨0, n + 1, [], _, by omega, by simp, by omega, rfl, HS1.out, hb1, by simp [Value.ownBlock]⟩
  case round =>
    obtain ⟨at_, fuel, recs, v, hat, hrl, hfu, hsc, hst, hbl, hov⟩ := hrel
    have HSt : Hid (RSt F n₀ wr w.heap.size p g v d ⟨f, n, gen, at_, recs, false⟩) := hst
    have HBl : Hid (Below w.heap.size w wr) := hbl
    have HOv : Hid (∀ k, v.ownBlock = some k → w.heap.size ≤ k) := hov
    have HSc : Hid (scan d.ss f n gen fuel at_ recs = scan d.ss f n gen (n + 1) 0 []) := hsc
    obtain ⟨vq, vc, rfl⟩ := hst.log.2.slice
    have HC : Hid (∀ W, Below wr.heap.size wr W → W.cell? ⟨w.heap.size, 4, none⟩ = some (.int .i64 (at_ : Nat)) ∧ W.cell? ⟨w.heap.size, 5, none⟩ = some (.slice vq recs.length vc)) := fun W hb => ⟨(hst.later hb).log.1.cell (i := 4) rfl, (hst.later hb).log.1.cell (i := 5) rfl⟩
    obtain ⟨fu, rfl⟩ : ∃ fu, fuel = fu + 1 := ⟨fuel - 1, by omega⟩
    have hszr := hbl.size
    obtain ⟨hc4, hc5⟩ := HC.out wr (Below.refl _ _)
    have HC4o : Hid (wr.cell? ⟨w.heap.size, 4, none⟩ = some (.int .i64 (at_ : Nat))) := hc4
    clear hst hbl hov hsc
    by_cases hlt : at_ < n
    · have hlti : ((at_ : Nat) : Int) < (n : Nat) := by omega
      have hA : f + at_ < d.ss.length := by omega
      obtain ⟨s, hs⟩ : ∃ s, d.ss.getD (f + at_) [] = s := ⟨_, rfl⟩
      have HXs : Hid (IsSec s) := by rw [← hs]; exact sec_at HSecs.out hA
      have HRd : Hid (∀ W, Below wr.heap.size wr W → Calls Try.prog 34 #[.pointer (some ⟨p, 0, none⟩), .int .i64 (((f : Nat) : Int) + ((at_ : Nat) : Int))] W fun e w' => e = .returned (.tuple #[.agg (u8s s).toArray, .int .i64 0]) ∧ Below W.heap.size W w') := fun W hb => by
        have := refRead_any (HSt.out.later hb).disk ((f + at_ : Nat) : Int)
        rw [read_live hd hA, wErr_live hd hA, hs, Int.natCast_add] at this
        exact this
      have HL : Hid ((u8s s).length = 64) := by show _ = _; rw [u8s_length]; exact HXs.out.1
      have HO : Hid (∀ u ∈ u8s s, u.oneCell' = true) := u8s_one _
      have HNu : Hid (∀ (W : World) (b : Nat), Row W b 55 (u8s s) → Calls Try.prog 35 #[.slice (some ⟨b, 0, none⟩) 4 64] W fun e w' => e = .returned (.int .u64 (numFrom s 0 4 : Nat)) ∧ w' = W) := fun W b hr => number_some b 0 4 64 s W (by omega) HXs.out.2 (fun i hi => by rw [Nat.zero_add]; exact hr.cell (i := i) (u8s_at (by rw [HXs.out.1]; omega)))
      obtain ⟨H, hH⟩ : ∃ H, headL [] gen recs.length = H := ⟨_, rfl⟩
      have HFi : Hid (∀ W, Calls Try.prog 36 #[.slice none 0 0, .int .u32 (gen : Nat), .int .i64 (recs.length : Nat)] W fun e w' => e = .returned (.agg (u8s H).toArray) ∧ Below W.heap.size W w') := fun W => by
        have := first_any none 0 0 [] gen recs.length W ⟨rfl, Nat.le_refl _, by omega, by simp, .inl rfl⟩ (by omega) hgen (by omega)
        rw [hH] at this
        exact this
      have HHs : Hid (IsSec H) := by rw [← hH]; exact headL_sec (by simp) _ _
      have HMk : Hid (H.drop 55 = markL gen recs.length) := by show _ = _; rw [← hH, markL]
      have HLH : Hid ((u8s H).length = 64) := by show _ = _; rw [u8s_length]; exact HHs.out.1
      have HOH : Hid (∀ u ∈ u8s H, u.oneCell' = true) := u8s_one _
      obtain ⟨V, hV⟩ : ∃ V, u8s s = V := ⟨_, rfl⟩
      obtain ⟨VH, hVH⟩ : ∃ V, u8s H = V := ⟨_, rfl⟩
      have HVs : Hid (u8s s = V) := hV
      have HVh : Hid (u8s H = VH) := hVH
      rw [hV] at HRd HL HO HNu
      rw [hVH] at HFi HLH HOH
      obtain ⟨m, hm⟩ : ∃ m, numFrom s 0 4 = m := ⟨_, rfl⟩
      rw [hm] at HNu
      have HM : Hid (numFrom s 0 4 = m) := hm
      have HS0 : Hid (d.ss.getD (f + at_) [] = s) := hs
      clear hV hVH hs hH hm
      have hfa : -9223372036854775808 ≤ ((f : Nat) : Int) + ((at_ : Nat) : Int) ∧ ((f : Nat) : Int) + ((at_ : Nat) : Int) ≤ 9223372036854775807 := by omega
      go_upto_region 10 with (first
        | (go_at_call 34; refine (HRd.out _ (Below.refl _ _)).mono ?_; rintro e w5 ⟨rfl, hb5⟩)
        | ((with_reducible show wpList _ _ _ (Oper.mk _ (Op.store 55 (.tmp 11) (.tmp 45)) _ _ _ _ :: _) _ _); rw [z64u8]; refine wpList_store_new rfl (.tmp 11) (.tmp 45) rfl V HL.out HO.out rfl rfl (fun w6 hb6 hR6 hs6 => ?_); have hbq : Below wr.heap.size wr w6 := hb5.trans (hb6.mono hb5.size); have HR6 : Hid (Row w6 w5.heap.size 55 V) := hR6; obtain ⟨hc46, hc56⟩ := HC.out w6 hbq; clear hR6; simp only [Act.put])
        | (go_at_call 35; refine (HNu.out _ _ HR6.out).mono ?_; rintro e w7 ⟨rfl, hw7⟩; obtain rfl := hw7.symm; clear hw7)
        | (go_at_call 36; refine (HFi.out _).mono ?_; rintro e w8 ⟨rfl, hb8⟩)
        | ((with_reducible show wpList _ _ _ (Oper.mk _ (Op.store 55 (.tmp 14) (.tmp 58)) _ _ _ _ :: _) _ _); rw [z64u8]; refine wpList_store_new rfl (.tmp 14) (.tmp 58) rfl VH HLH.out HOH.out rfl rfl (fun w9 hb9 hR9 hs9 => ?_); have hbr : Below wr.heap.size wr w9 := (hbq.trans (hb8.mono hbq.size)).trans (hb9.mono (Nat.le_trans hbq.size hb8.size)); have HR9 : Hid (Row w9 w8.heap.size 55 VH) := hR9; have HR69 : Hid (Row w9 w5.heap.size 55 V) := (HR6.out.later hb8).later hb9; clear hR9; simp only [Act.put]))
      have HB9 : Hid (Below w.heap.size w w9) := HBl.out.trans (hbr.mono hszr)
      have HSt9 : Hid (RSt F n₀ w9 w.heap.size p g (.slice vq recs.length vc) d ⟨f, n, gen, at_, recs, false⟩) := HSt.out.later hbr
      have HStr : Hid (Str w9 (.slice (some ⟨w5.heap.size, 55, none⟩) 9 9) (strOf (s.drop 55)) ∧ Str w9 (.slice (some ⟨w8.heap.size, 55, none⟩) 9 9) (strOf (H.drop 55))) := by
        have e1 := str_of_bytes (row_bytes (HVs.out ▸ HR69.out) HXs.out.2 (k := 9) (off := 55) (c := 9) (by rw [HXs.out.1]; omega) (by omega) (by omega))
        have e2 := str_of_bytes (row_bytes (HVh.out ▸ HR9.out) HHs.out.2 (k := 9) (off := 55) (c := 9) (by rw [HHs.out.1]; omega) (by omega) (by omega))
        rw [List.take_of_length_le (by rw [List.length_drop, HXs.out.1]; omega)] at e1
        rw [List.take_of_length_le (by rw [List.length_drop, HHs.out.1]; omega)] at e2
        exact ⟨e1, e2⟩
      have HSe : Hid (((strOf (s.drop 55)).toList == (strOf (H.drop 55)).toList) = decide (s.drop 55 = H.drop 55)) := strOf_eq _ _ (fun z hz => HXs.out.2 z (List.mem_of_mem_drop hz)) (fun z hz => HHs.out.2 z (List.mem_of_mem_drop hz))
      have HF : Hid (∀ W, Below w9.heap.size w9 W → (convert 25 9 (.slice (some ⟨w5.heap.size, 55, none⟩) 9 9)).run Try.prog W = .ok (.string (strOf (s.drop 55))) W ∧ (convert 25 9 (.slice (some ⟨w8.heap.size, 55, none⟩) 9 9)).run Try.prog W = .ok (.string (strOf (H.drop 55))) W ∧ W.cell? ⟨w.heap.size, 4, none⟩ = some (.int .i64 (at_ : Nat))) := fun W hb => ⟨HStr.out.1 W hb, HStr.out.2 W hb, (HC.out W (hbr.trans (hb.mono hbr.size))).1⟩
      obtain ⟨S1, hS1⟩ : ∃ S1, strOf (s.drop 55) = S1 := ⟨_, rfl⟩
      obtain ⟨S2, hS2⟩ : ∃ S2, strOf (H.drop 55) = S2 := ⟨_, rfl⟩
      rw [hS1, hS2] at HF HSe
      clear hS1 hS2 HStr hc4 hc5 hc46 hc56 hb5 hb6 hbq hb8 hb9
      by_cases h1 : s.drop 55 = H.drop 55
      · have hSe : (S1.toList == S2.toList) = true := by rw [HSe.out]; exact decide_eq_true h1
        by_cases h2 : m ≤ 262144
        · have hmi : ¬ (262144 : Int) < (m : Nat) := by omega
          have hmd : decide ((262144 : Int) < (m : Nat)) = false := decide_eq_false hmi
          have hmw : IntKind.i64.wrap ((m : Nat) : Int) = ((m : Nat) : Int) := by rw [IntKind.wrap_i64]; omega
          obtain ⟨k, hk⟩ : ∃ k, spanN (m : Nat) = k := ⟨_, rfl⟩
          have HSp : Hid (∀ W, Calls Try.prog 10 #[.int .i64 (m : Nat)] W fun e w' => e = .returned (.int .i64 (k : Nat)) ∧ w' = W) := fun W => by have := refSpan_any (m : Nat) W; rw [hk] at this; exact this
          have hsp := spanN_nat h2
          rw [hk] at hsp
          have hk1 : 1 ≤ k := by omega
          have hk2 : k ≤ 5000 := by omega
          have hmk : m ≤ 51 + 64 * (k - 1) := by omega
          have hnw : IntKind.i64.wrap (((n : Nat) : Int) - (at_ : Nat)) = ((n : Nat) : Int) - (at_ : Nat) := by rw [IntKind.wrap_i64]; omega
          clear hsp
          by_cases h3 : k ≤ n - at_
          · have hki : ¬ ((n : Nat) : Int) - (at_ : Nat) < (k : Nat) := by omega
            have hkd : decide (((n : Nat) : Int) - (at_ : Nat) < (k : Nat)) = false := decide_eq_false hki
            have HGo : Hid (scan d.ss f n gen (fu + 1) at_ recs = scan d.ss f n gen fu (at_ + k) (recs ++ [recB d.ss f at_ m])) := by
              have := scan_yes (fuel := fu) (at_ := at_) (recs := recs) (ss := d.ss) (f := f) (n := n) (gen := gen) hlt (by rw [HS0.out, h1]; exact HMk.out) (by rw [HS0.out, HM.out]; exact h2) (by rw [HS0.out, HM.out, hk]; exact h3)
              rw [HS0.out, HM.out, hk] at this
              exact this
            refine wp_region_held_drew (S := fun W => Below w9.heap.size w9 W) (by kernel_rfl) (Below.refl _ _).drew (fun hHeld => ?_)
            refine wpAnyH_takesAt 0 12 9 (of_decide_eq_true (by kernel_rfl)) rfl (fun _ _ _ d _ h => by cases d <;> exact h) (by kernel_rfl) (by kernel_rfl) hHeld ?_
            simp only [List.drop_zero, List.take_succ_cons, List.take_zero]
            iterate 12 (refine wpHeld_step (v := ?_) (by rfl) (fun wz hSw => ?_) ?_; rotate_left; (focus ((obtain ⟨hf1, hf2, hf3⟩ := HF.out wz hSw; clear hSw); go_simp; try with_reducible rfl)); (simp only [Act.put, List.setIfInBounds_toArray, List.set_cons_zero, List.set_cons_succ]))
            refine wpHeld_nil ?_
            refine wpAnyH_takesAt 13 6 3 (of_decide_eq_true (by kernel_rfl)) rfl (fun _ _ _ d _ h => by cases d <;> exact h) (by kernel_rfl) (by kernel_rfl) hHeld ?_
            simp only [List.drop_succ_cons, List.drop_zero, List.take_succ_cons, List.take_zero]
            iterate 6 (refine wpHeld_step (v := ?_) (by rfl) (fun wz hSw => ?_) ?_; rotate_left; (focus ((obtain ⟨hf1, hf2, hf3⟩ := HF.out wz hSw; clear hSw); go_simp; try with_reducible rfl)); (simp only [Act.put, List.setIfInBounds_toArray, List.set_cons_zero, List.set_cons_succ]))
            refine wpHeld_nil ?_
            refine wpAnyH_only (i := 12) (by kernel_rfl) rfl (fun K hK => ?_)
            rw [if_pos (by rfl)]
            go_simp
            refine (HSp.out _).mono ?_
            rintro e wq ⟨rfl, hwq⟩
            obtain rfl := hwq.symm
            clear hwq
            refine hK.out _ _ hHeld ?_
            clear hK K
            refine wpAnyH_takesAt 19 2 0 (of_decide_eq_true (by kernel_rfl)) rfl (fun _ _ _ d _ h => by cases d <;> exact h) (by kernel_rfl) (by kernel_rfl) hHeld ?_
            simp only [List.drop_succ_cons, List.drop_zero, List.take_succ_cons, List.take_zero]
            iterate 2 (refine wpHeld_step (v := ?_) (by rfl) (fun wz hSw => ?_) ?_; rotate_left; (focus ((try dsimp only at hSw); go_simp; try with_reducible rfl)); (simp only [Act.put, List.setIfInBounds_toArray, List.set_cons_zero, List.set_cons_succ]))
            refine wpHeld_nil ?_
            refine wpAnyH_done (by kernel_rfl) ?_ _
            have hb10 := hHeld
            clear hHeld
            have HC9 : Hid (∀ W, Below w9.heap.size w9 W → W.cell? ⟨w.heap.size, 4, none⟩ = some (.int .i64 (at_ : Nat)) ∧ W.cell? ⟨w.heap.size, 5, none⟩ = some (.slice vq recs.length vc)) := fun W hb => HC.out W (hbr.trans (hb.mono hbr.size))
            have HRd9 : Hid (∀ (W : World) (j : Nat), Below w9.heap.size w9 W → f + at_ + j < d.ss.length → Calls Try.prog 34 #[.pointer (some ⟨p, 0, none⟩), .int .i64 (((f : Nat) : Int) + ((at_ : Nat) : Int) + ((j : Nat) : Int))] W fun e w' => e = .returned (.tuple #[.agg (u8s (d.ss.getD (f + at_ + j) [])).toArray, .int .i64 0]) ∧ Below W.heap.size W w') := fun W j hb hj => by
              have := refRead_any (HSt9.out.later hb).disk ((f + at_ + j : Nat) : Int)
              rw [read_live hd hj, wErr_live hd hj, Int.natCast_add, Int.natCast_add] at this
              exact this
            have HIb : Hid (∀ W, Below w9.heap.size w9 W → IsBytes W.heap.size W (some ⟨w5.heap.size, 4, none⟩) 51 60 (gotB d.ss (f + at_) 0)) := fun W hb => by
              have := row_bytes (HVs.out ▸ HR69.out.later hb) HXs.out.2 (k := 51) (off := 4) (c := 60) (by rw [HXs.out.1]; omega) (by omega) (by omega)
              simp only [gotB, List.range_zero, List.map_nil, List.flatten_nil, List.append_nil]
              rw [HS0.out]
              exact this
            have HLb : Hid (∀ j, j + 1 ≤ k → (gotB d.ss (f + at_) j).length = 51 + 64 * j) := fun j hj => gotB_len HSecs.out (by omega)
            have HEnd : Hid (recB d.ss f at_ m = (gotB d.ss (f + at_) (k - 1)).take m) := by show _ = _; rw [recB_got, hk]
            have HHk : Hid (spanN (m : Nat) = k) := hk
            have HSz9 : Hid (w.heap.size ≤ w9.heap.size) := HB9.out.size
            clear hk hSe hki hkd hmd hmi hnw h1 HF
            go_wp2_with ((with_reducible show wpList _ _ _ (Oper.mk (some 82) _ _ _ _ _ :: _) _ _); refine wpList_append_bytes rfl (.const (.slice none 0 0)) (.tmp 81) rfl w9.heap.size _ [] rfl (Own.nil _ _) rfl (HIb.out _ hb10) (by simp) hb10.size (fun v11 w11 ho11 hg11 => ?_); simp only [Act.put, List.setIfInBounds_toArray, List.set_cons_zero, List.set_cons_succ])
            have HB11 : Hid (Below w9.heap.size w9 w11) := hb10.grown hg11 hb10.size (fun k hk => by cases hk)
            have HO11 : Hid (Own w9.heap.size w11 v11 (gotB d.ss (f + at_) 0)) := by rw [List.nil_append] at ho11; exact ho11
            obtain ⟨q11, c11, rfl⟩ : ∃ q c, v11 = .slice q 51 c := by
              obtain ⟨q, c, e⟩ := slice_of_row HO11.out
              rw [HLb.out 0 (by omega)] at e
              exact ⟨q, c, e⟩
            clear ho11 hg11 hb10
            go_loopw [15, 16] (fun bv iv wy => ∃ (j : Nat) (q : Option Addr) (c : Nat), j + 1 ≤ k ∧ iv = .int .i64 ((j + 1 : Nat) : Int) ∧ bv = .slice q (51 + 64 * j) c ∧ Own w9.heap.size wy (.slice q (51 + 64 * j) c) (gotB d.ss (f + at_) j) ∧ Below w9.heap.size w9 wy) (fun _ iv _ => k - (intOf iv).toNat)
            case atStart => exact ⟨0, q11, c11, by omega, by go_num, rfl, HO11.out, HB11.out⟩
            case round =>
              obtain ⟨j, qb, cb, hjk, rfl, rfl, hown, hbw⟩ := hrel
              have HOw : Hid (Own w9.heap.size wr (.slice qb (51 + 64 * j) cb) (gotB d.ss (f + at_) j)) := hown
              have HBw : Hid (Below w9.heap.size w9 wr) := hbw
              obtain ⟨hc4y, hc5y⟩ := HC9.out wr hbw
              have hcap : 51 + 64 * j ≤ cb ∧ cb ≤ 9223372036854775807 := own_cap hown
              have hszy := hbw.size
              clear hown hbw
              by_cases hlt2 : j + 1 < k
              · have hlt2i : ((j : Int) + 1) < (k : Int) := by omega
                have hfj : -9223372036854775808 ≤ ((f : Nat) : Int) + ((at_ : Nat) : Int) + ((j : Int) + 1) ∧ ((f : Nat) : Int) + ((at_ : Nat) : Int) + ((j : Int) + 1) ≤ 9223372036854775807 := by omega
                obtain ⟨s', hs'⟩ : ∃ s', d.ss.getD (f + at_ + (j + 1)) [] = s' := ⟨_, rfl⟩
                have hxs : IsSec s' := by rw [← hs']; exact sec_at HSecs.out (by omega)
                have HR1 : Hid (Calls Try.prog 34 #[.pointer (some ⟨p, 0, none⟩), .int .i64 (((f : Nat) : Int) + ((at_ : Nat) : Int) + ((j : Int) + 1))] wr fun e w' => e = .returned (.tuple #[.agg (u8s s').toArray, .int .i64 0]) ∧ Below wr.heap.size wr w') := by
                  have := HRd9.out wr (j + 1) HBw.out (by omega)
                  rw [hs', Int.natCast_add] at this
                  exact this
                have HG : Hid (gotB d.ss (f + at_) (j + 1) = gotB d.ss (f + at_) j ++ s') := by show _ = _; rw [gotB_succ, hs']
                have HLy : Hid ((u8s s').length = 64) := by show _ = _; rw [u8s_length]; exact hxs.1
                have HOy : Hid (∀ u ∈ u8s s', u.oneCell' = true) := u8s_one _
                have HZs : Hid (IsSec s') := hxs
                obtain ⟨Vy, hVy⟩ : ∃ V, u8s s' = V := ⟨_, rfl⟩
                have HVy : Hid (u8s s' = Vy) := hVy
                rw [hVy] at HR1 HLy HOy
                clear hs' hxs hVy
                go_wp2_with (first
                  | (go_at_call 10; refine (HSp.out _).mono ?_; rintro e wq ⟨rfl, hwq⟩; obtain rfl := hwq.symm; clear hwq)
                  | (go_at_call 34; refine HR1.out.mono ?_; rintro e wa ⟨rfl, hba⟩)
                  | ((with_reducible show wpList _ _ _ (Oper.mk _ (Op.store 55 (.tmp 17) (.tmp 101)) _ _ _ _ :: _) _ _); rw [z64u8]; refine wpList_store_new rfl (.tmp 17) (.tmp 101) rfl Vy HLy.out HOy.out rfl rfl (fun wb hbb hRb hsb => ?_); have hbq2 : Below wr.heap.size wr wb := hba.trans (hbb.mono hba.size); have HOb : Hid (Own w9.heap.size wb (.slice qb (51 + 64 * j) cb) (gotB d.ss (f + at_) j)) := KeepT.own (KeepT.of_below hbq2) HOw.out; have HIy : Hid (IsBytes wb.heap.size wb (some ⟨wa.heap.size, 0, none⟩) 64 64 s') := (by have := row_bytes (HVy.out ▸ hRb) HZs.out.2 (k := 64) (off := 0) (c := 64) (by rw [HZs.out.1]; omega) (by omega) (by omega); rw [List.drop_zero, List.take_of_length_le (by rw [HZs.out.1]; omega)] at this; exact this); have HBb : Hid (Below w9.heap.size w9 wb) := HBw.out.trans (hbq2.mono hszy); clear hRb; simp only [Act.put])
                  | ((with_reducible show wpList _ _ _ (Oper.mk (some 108) _ _ _ _ _ :: _) _ _); refine wpList_append_bytes rfl (.tmp 106) (.tmp 107) rfl w9.heap.size _ (gotB d.ss (f + at_) j) rfl HOb.out rfl HIy.out (by rw [HLb.out j (by omega)]; omega) (by have := HBb.out.size; omega) (fun vz wz hoz hgz => ?_); simp only [Act.put, List.setIfInBounds_toArray, List.set_cons_zero, List.set_cons_succ]))
                have HOz : Hid (Own w9.heap.size wz vz (gotB d.ss (f + at_) (j + 1))) := by rw [HG.out]; exact hoz
                have HBz : Hid (Below w9.heap.size w9 wz) := HBb.out.grown hgz HBb.out.size (fun k hk => (World.ownsRow.lt HOb.out k hk).1)
                obtain ⟨qz, cz, rfl⟩ : ∃ q c, vz = .slice q (51 + 64 * (j + 1)) c := by
                  obtain ⟨q, c, e⟩ := slice_of_row HOz.out
                  rw [HLb.out (j + 1) (by omega)] at e
                  exact ⟨q, c, e⟩
                exact ⟨⟨j + 1, qz, cz, by omega, by go_num, rfl, HOz.out, HBz.out⟩, by simp [intOf]; omega⟩
              · have HJ : Hid (j = k - 1) := by show _ = _; omega
                have hlt2i : ¬ ((j : Int) + 1) < (k : Int) := by omega
                have hmc : m ≤ cb := by have := HJ.out; omega
                have hmci : (m : Int) ≤ (cb : Int) := by omega
                have HX : Hid (Bytes5 wr (.slice qb m cb) (recB d.ss f at_ m)) := by
                  have h5 := (Bytes5.of_own HOw.out (gotB_lt HSecs.out (f + at_) (by have := HJ.out; omega))).head (k := m) (by have := HJ.out; omega)
                  rw [HEnd.out, ← HJ.out]
                  exact h5
                have HSy : Hid (RSt F n₀ wr w.heap.size p g (.slice vq recs.length vc) d ⟨f, n, gen, at_, recs, false⟩) := HSt9.out.later HBw.out
                have hfr5 := HSy.out.log.1.frozen 5
                go_upto_region 20 with (go_at_call 10; refine (HSp.out _).mono ?_; rintro e wq ⟨rfl, hwq⟩; obtain rfl := hwq.symm; clear hwq)
                refine wp_region_gate' 9 (fun W => Below wr.heap.size wr W) (by kernel_rfl) ?_
                have hHeld : Below wr.heap.size wr wr.drew := (Below.refl _ _).drew
                refine wpAnyG_takesAt 0 1 12 (of_decide_eq_true (by kernel_rfl)) rfl (fun _ _ _ d _ h => by cases d <;> exact h) (by kernel_rfl) (by kernel_rfl) (fun _ => hHeld) ?_
                simp only [List.drop_zero, List.take_succ_cons, List.take_zero]
                refine wpHeldG_free (v := .pointer (some ⟨w.heap.size, 0, none⟩)) (by rfl) (fun wz => by go_simp) ?_
                (simp only [Act.put]; (try simp only [List.setIfInBounds_toArray]); (try simp only [List.set_cons_succ]); (try simp only [List.set_cons_zero]))
                refine wpHeldG_nil ?_
                refine wpAnyG_takesAt 1 1 11 (of_decide_eq_true (by kernel_rfl)) rfl (fun _ _ _ d _ h => by cases d <;> exact h) (by kernel_rfl) (by kernel_rfl) (fun _ => hHeld) ?_
                simp only [List.drop_succ_cons, List.drop_zero, List.take_succ_cons, List.take_zero]
                refine wpHeldG_free (v := .pointer (some ⟨w.heap.size, 0, none⟩)) (by rfl) (fun wz => by go_simp) ?_
                (simp only [Act.put]; (try simp only [List.setIfInBounds_toArray]); (try simp only [List.set_cons_succ]); (try simp only [List.set_cons_zero]))
                refine wpHeldG_nil ?_
                refine wpAnyG_takesAt 2 1 10 (of_decide_eq_true (by kernel_rfl)) rfl (fun _ _ _ d _ h => by cases d <;> exact h) (by kernel_rfl) (by kernel_rfl) (fun _ => hHeld) ?_
                simp only [List.drop_succ_cons, List.drop_zero, List.take_succ_cons, List.take_zero]
                refine wpHeldG_free (v := .pointer (some ⟨w.heap.size, 0, none⟩)) (by rfl) (fun wz => by go_simp) ?_
                (simp only [Act.put]; (try simp only [List.setIfInBounds_toArray]); (try simp only [List.set_cons_succ]); (try simp only [List.set_cons_zero]))
                refine wpHeldG_nil ?_
                refine wpAnyG_takesAt 3 1 9 (of_decide_eq_true (by kernel_rfl)) rfl (fun _ _ _ d _ h => by cases d <;> exact h) (by kernel_rfl) (by kernel_rfl) (fun _ => hHeld) ?_
                simp only [List.drop_succ_cons, List.drop_zero, List.take_succ_cons, List.take_zero]
                refine wpHeldG_free (v := .pointer (some ⟨w.heap.size, 5, none⟩)) (by rfl) (fun wz => by go_simp) ?_
                (simp only [Act.put]; (try simp only [List.setIfInBounds_toArray]); (try simp only [List.set_cons_succ]); (try simp only [List.set_cons_zero]))
                refine wpHeldG_nil ?_
                refine wpAnyG_takesAt 4 1 8 (of_decide_eq_true (by kernel_rfl)) rfl (fun _ _ _ d _ h => by cases d <;> exact h) (by kernel_rfl) (by kernel_rfl) (fun _ => hHeld) ?_
                simp only [List.drop_succ_cons, List.drop_zero, List.take_succ_cons, List.take_zero]
                iterate 1 (refine wpHeldG_step (v := ?_) (by rfl) (by kernel_rfl) (fun wz hSw => ?_) ?_; rotate_left; (focus (have hc := (HC9.out wz (HBw.out.trans (hSw.mono hszy))).2; clear hSw; go_simp; try with_reducible rfl)); ((simp only [Act.put]; (try simp only [List.setIfInBounds_toArray]); (try simp only [List.set_cons_succ]); (try simp only [List.set_cons_zero]))))
                refine wpHeldG_nil ?_
                refine wpAnyG_takesAt 5 1 7 (of_decide_eq_true (by kernel_rfl)) rfl (fun _ _ _ d _ h => by cases d <;> exact h) (by kernel_rfl) (by kernel_rfl) (fun _ => hHeld) ?_
                simp only [List.drop_succ_cons, List.drop_zero, List.take_succ_cons, List.take_zero]
                refine wpHeldG_free (v := .slice qb (51 + 64 * j) cb) (by rfl) (fun wz => by go_simp) ?_
                (simp only [Act.put]; (try simp only [List.setIfInBounds_toArray]); (try simp only [List.set_cons_succ]); (try simp only [List.set_cons_zero]))
                refine wpHeldG_nil ?_
                refine wpAnyG_takesAt 6 1 6 (of_decide_eq_true (by kernel_rfl)) rfl (fun _ _ _ d _ h => by cases d <;> exact h) (by kernel_rfl) (by kernel_rfl) (fun _ => hHeld) ?_
                simp only [List.drop_succ_cons, List.drop_zero, List.take_succ_cons, List.take_zero]
                refine wpHeldG_free (v := .int .u64 (m : Nat)) (by rfl) (fun wz => by go_simp) ?_
                (simp only [Act.put]; (try simp only [List.setIfInBounds_toArray]); (try simp only [List.set_cons_succ]); (try simp only [List.set_cons_zero]))
                refine wpHeldG_nil ?_
                refine wpAnyG_takesAt 7 1 5 (of_decide_eq_true (by kernel_rfl)) rfl (fun _ _ _ d _ h => by cases d <;> exact h) (by kernel_rfl) (by kernel_rfl) (fun _ => hHeld) ?_
                simp only [List.drop_succ_cons, List.drop_zero, List.take_succ_cons, List.take_zero]
                refine wpHeldG_free (v := .slice qb m cb) (by rfl) (fun wz => by go_simp) ?_
                (simp only [Act.put]; (try simp only [List.setIfInBounds_toArray]); (try simp only [List.set_cons_succ]); (try simp only [List.set_cons_zero]))
                refine wpHeldG_nil ?_
                refine wpAnyG_only (i := 8) (by kernel_rfl) rfl (by rfl) (fun K hK => ?_)
                go_simp
                obtain ⟨w3, hw3⟩ : ∃ w3, (wr.alloc (Obj.cells #[Value.slice qb m cb] 25)).drew = w3 := ⟨_, rfl⟩
                have hb3 : Below wr.heap.size wr w3 := by rw [← hw3]; exact ((Below.refl _ _).alloc (Nat.le_refl _) _).drew
                have hr3 : Row w3 wr.heap.size 25 [.slice qb m cb] := by rw [← hw3]; exact (Row.new wr 25 #[.slice qb m cb]).drew
                have hs3 : w3.heap.size = wr.heap.size + 1 := by rw [← hw3]; simp
                rw [hw3]
                clear hw3
                refine hK.out _ _ (fun _ => hb3) ?_
                clear hK K
                have hln : n₀ ≤ w.heap.size := HSy.out.low
                obtain ⟨v', w4, hrun, ha1, ha2, ha3, ha4⟩ := run_append_rec2 w3 n₀ 39 (.slice vq recs.length vc) recs (HSy.out.later hb3).log.2 wr.heap.size (.slice qb m cb) (recB d.ss f at_ m) (HX.out.kept (KeepT.of_below hb3)) (hr3.cell (i := 0) rfl) (by omega) (by have := hb3.size; have := HSz9.out; omega)
                obtain ⟨g1, g2, g3, g4⟩ := (HSy.out.later hb3).app (l' := ⟨f, n, gen, at_, recs ++ [recB d.ss f at_ m], false⟩) ha2 ha3 ha1 rfl
                have HRun : Hid ((Builtin.append_ #[39, 39] 39 #[.slice vq recs.length vc, .slice (some ⟨wr.heap.size, 0, none⟩) 1 1]).run Try.prog w3 = .ok v' w4) := hrun
                have c54 : w4.cell? ⟨w.heap.size, 5, none⟩ = some (.slice vq recs.length vc) := g2.cell (i := 5) rfl
                have f54 := g2.frozen 5
                have HG1 : Hid (RSt F n₀ _ w.heap.size p g v' d _) := g1
                have HG3 : Hid (Buts (w.heap.size :: ownL (.slice vq recs.length vc)) _ _ _) := g3
                have HA4 : Hid (∀ k, v'.ownBlock = some k → w.heap.size ≤ k) := fun k hk => by
                  rcases ha4 k hk with h | h
                  · exact HOv.out k h
                  · have := HSz9.out
                    omega
                obtain ⟨vq', vl', vc', hv'⟩ : ∃ vq vl vc, v' = .slice vq vl vc := by obtain ⟨a, b, e⟩ := ha1.slice; exact ⟨_, _, _, e⟩
                have HV' : Hid (v' = .slice vq' vl' vc') := hv'
                rw [hv'] at HRun
                clear hrun ha1 ha2 ha3 ha4 g1 g2 g3 g4 hr3 hv' hHeld
                refine wpAnyG_only (i := 9) (by kernel_rfl) rfl (by rfl) (fun K hK => ?_)
                refine wp_append_of (.tmp 113) (.tmp 117) 39 rfl rfl rfl HRun.out ?_
                refine hK.out _ _ (gone (by kernel_rfl)) ?_
                clear hK K
                refine wpAnyG_takesAt 10 1 2 (of_decide_eq_true (by kernel_rfl)) rfl (fun _ _ _ d _ h => by cases d <;> exact h) (by kernel_rfl) (by kernel_rfl) (gone (by kernel_rfl)) ?_
                simp only [List.drop_succ_cons, List.drop_zero, List.take_succ_cons, List.take_zero]
                refine wpHeldG_free (v := .pointer (some ⟨w.heap.size, 0, none⟩)) (by rfl) (fun wz => by go_simp) ?_
                (simp only [Act.put]; (try simp only [List.setIfInBounds_toArray]); (try simp only [List.set_cons_succ]); (try simp only [List.set_cons_zero]))
                refine wpHeldG_nil ?_
                refine wpAnyG_takesAt 11 1 1 (of_decide_eq_true (by kernel_rfl)) rfl (fun _ _ _ d _ h => by cases d <;> exact h) (by kernel_rfl) (by kernel_rfl) (gone (by kernel_rfl)) ?_
                simp only [List.drop_succ_cons, List.drop_zero, List.take_succ_cons, List.take_zero]
                refine wpHeldG_free (v := .pointer (some ⟨w.heap.size, 5, none⟩)) (by rfl) (fun wz => by go_simp) ?_
                (simp only [Act.put]; (try simp only [List.setIfInBounds_toArray]); (try simp only [List.set_cons_succ]); (try simp only [List.set_cons_zero]))
                refine wpHeldG_nil ?_
                refine wpAnyG_only (i := 12) (by kernel_rfl) rfl (by rfl) (fun K hK => ?_)
                go_simp
                refine hK.out _ _ (gone (by kernel_rfl)) ?_
                clear hK K
                refine wpAnyG_done (by kernel_rfl) ?_ _
                obtain ⟨wk, hwk⟩ : ∃ wk, w4.setCell ⟨w.heap.size, 5, none⟩ (.slice vq' vl' vc') = wk := ⟨_, rfl⟩
                have HSk : Hid (RSt F n₀ wk w.heap.size p g v' d ⟨f, n, gen, at_, recs ++ [recB d.ss f at_ m], false⟩) := by rw [← hwk, ← HV'.out]; exact HG1.out
                have HBk : Hid (Buts (w.heap.size :: ownL (.slice vq recs.length vc)) w3.heap.size w3 wk) := by rw [← hwk, ← HV'.out]; exact HG3.out
                have HB3 : Hid (Below wr.heap.size wr w3) := hb3
                rw [hwk]
                clear hwk c54 f54 hb3 hs3
                have HCk : Hid (∀ W, Below wk.heap.size wk W → W.cell? ⟨w.heap.size, 4, none⟩ = some (.int .i64 (at_ : Nat))) := fun W hb => (HSk.out.later hb).log.1.cell (i := 4) rfl
                have hck4 := HCk.out wk (Below.refl _ _)
                have hfk4 := HSk.out.log.1.frozen 4
                have hsm : IntKind.i64.wrap (((at_ : Nat) : Int) + (k : Nat)) = ((at_ : Nat) : Int) + (k : Nat) := by rw [IntKind.wrap_i64]; omega
                go_upto_region 21 with fail
                refine wp_region_gate' 10 (fun W => Below wk.heap.size wk W) (by kernel_rfl) ?_
                have hHeld : Below wk.heap.size wk wk.drew := (Below.refl _ _).drew
                refine wpAnyG_takesAt 0 1 10 (of_decide_eq_true (by kernel_rfl)) rfl (fun _ _ _ d _ h => by cases d <;> exact h) (by kernel_rfl) (by kernel_rfl) (fun _ => hHeld) ?_
                simp only [List.drop_zero, List.take_succ_cons, List.take_zero]
                iterate 1 (refine wpHeldG_step (v := ?_) (by rfl) (by kernel_rfl) (fun wz hSw => ?_) ?_; rotate_left; (focus ((try dsimp only at hSw); go_simp; try with_reducible rfl)); ((simp only [Act.put]; (try simp only [List.setIfInBounds_toArray]); (try simp only [List.set_cons_succ]); (try simp only [List.set_cons_zero]))))
                refine wpHeldG_nil ?_
                refine wpAnyG_takesAt 1 1 9 (of_decide_eq_true (by kernel_rfl)) rfl (fun _ _ _ d _ h => by cases d <;> exact h) (by kernel_rfl) (by kernel_rfl) (fun _ => hHeld) ?_
                simp only [List.drop_succ_cons, List.drop_zero, List.take_succ_cons, List.take_zero]
                iterate 1 (refine wpHeldG_step (v := ?_) (by rfl) (by kernel_rfl) (fun wz hSw => ?_) ?_; rotate_left; (focus ((try dsimp only at hSw); go_simp; try with_reducible rfl)); ((simp only [Act.put]; (try simp only [List.setIfInBounds_toArray]); (try simp only [List.set_cons_succ]); (try simp only [List.set_cons_zero]))))
                refine wpHeldG_nil ?_
                refine wpAnyG_takesAt 2 1 8 (of_decide_eq_true (by kernel_rfl)) rfl (fun _ _ _ d _ h => by cases d <;> exact h) (by kernel_rfl) (by kernel_rfl) (fun _ => hHeld) ?_
                simp only [List.drop_succ_cons, List.drop_zero, List.take_succ_cons, List.take_zero]
                iterate 1 (refine wpHeldG_step (v := ?_) (by rfl) (by kernel_rfl) (fun wz hSw => ?_) ?_; rotate_left; (focus ((try dsimp only at hSw); go_simp; try with_reducible rfl)); ((simp only [Act.put]; (try simp only [List.setIfInBounds_toArray]); (try simp only [List.set_cons_succ]); (try simp only [List.set_cons_zero]))))
                refine wpHeldG_nil ?_
                refine wpAnyG_takesAt 3 1 7 (of_decide_eq_true (by kernel_rfl)) rfl (fun _ _ _ d _ h => by cases d <;> exact h) (by kernel_rfl) (by kernel_rfl) (fun _ => hHeld) ?_
                simp only [List.drop_succ_cons, List.drop_zero, List.take_succ_cons, List.take_zero]
                iterate 1 (refine wpHeldG_step (v := ?_) (by rfl) (by kernel_rfl) (fun wz hSw => ?_) ?_; rotate_left; (focus (have hc := HCk.out wz hSw; clear hSw; go_simp; try with_reducible rfl)); ((simp only [Act.put]; (try simp only [List.setIfInBounds_toArray]); (try simp only [List.set_cons_succ]); (try simp only [List.set_cons_zero]))))
                refine wpHeldG_nil ?_
                refine wpAnyG_takesAt 4 1 6 (of_decide_eq_true (by kernel_rfl)) rfl (fun _ _ _ d _ h => by cases d <;> exact h) (by kernel_rfl) (by kernel_rfl) (fun _ => hHeld) ?_
                simp only [List.drop_succ_cons, List.drop_zero, List.take_succ_cons, List.take_zero]
                iterate 1 (refine wpHeldG_step (v := ?_) (by rfl) (by kernel_rfl) (fun wz hSw => ?_) ?_; rotate_left; (focus ((try dsimp only at hSw); go_simp; try with_reducible rfl)); ((simp only [Act.put]; (try simp only [List.setIfInBounds_toArray]); (try simp only [List.set_cons_succ]); (try simp only [List.set_cons_zero]))))
                refine wpHeldG_nil ?_
                refine wpAnyG_takesAt 5 1 5 (of_decide_eq_true (by kernel_rfl)) rfl (fun _ _ _ d _ h => by cases d <;> exact h) (by kernel_rfl) (by kernel_rfl) (fun _ => hHeld) ?_
                simp only [List.drop_succ_cons, List.drop_zero, List.take_succ_cons, List.take_zero]
                iterate 1 (refine wpHeldG_step (v := ?_) (by rfl) (by kernel_rfl) (fun wz hSw => ?_) ?_; rotate_left; (focus ((try dsimp only at hSw); go_simp; try with_reducible rfl)); ((simp only [Act.put]; (try simp only [List.setIfInBounds_toArray]); (try simp only [List.set_cons_succ]); (try simp only [List.set_cons_zero]))))
                refine wpHeldG_nil ?_
                refine wpAnyG_only (i := 6) (by kernel_rfl) rfl (by rfl) (fun K hK => ?_)
                go_simp
                refine (HSp.out _).mono ?_
                rintro e wq ⟨rfl, hwq⟩
                obtain rfl := hwq.symm
                clear hwq
                refine hK.out _ _ (fun _ => hHeld) ?_
                clear hK K
                refine wpAnyG_takesAt 7 1 3 (of_decide_eq_true (by kernel_rfl)) rfl (fun _ _ _ d _ h => by cases d <;> exact h) (by kernel_rfl) (by kernel_rfl) (fun _ => hHeld) ?_
                simp only [List.drop_succ_cons, List.drop_zero, List.take_succ_cons, List.take_zero]
                iterate 1 (refine wpHeldG_step (v := ?_) (by rfl) (by kernel_rfl) (fun wz hSw => ?_) ?_; rotate_left; (focus ((try dsimp only at hSw); go_simp; try with_reducible rfl)); ((simp only [Act.put]; (try simp only [List.setIfInBounds_toArray]); (try simp only [List.set_cons_succ]); (try simp only [List.set_cons_zero]))))
                refine wpHeldG_nil ?_
                refine wpAnyG_takesAt 8 1 2 (of_decide_eq_true (by kernel_rfl)) rfl (fun _ _ _ d _ h => by cases d <;> exact h) (by kernel_rfl) (by kernel_rfl) (fun _ => hHeld) ?_
                simp only [List.drop_succ_cons, List.drop_zero, List.take_succ_cons, List.take_zero]
                refine wpHeldG_free (v := .pointer (some ⟨w.heap.size, 0, none⟩)) (by rfl) (fun wz => by go_simp) ?_
                (simp only [Act.put]; (try simp only [List.setIfInBounds_toArray]); (try simp only [List.set_cons_succ]); (try simp only [List.set_cons_zero]))
                refine wpHeldG_nil ?_
                refine wpAnyG_takesAt 9 1 1 (of_decide_eq_true (by kernel_rfl)) rfl (fun _ _ _ d _ h => by cases d <;> exact h) (by kernel_rfl) (by kernel_rfl) (fun _ => hHeld) ?_
                simp only [List.drop_succ_cons, List.drop_zero, List.take_succ_cons, List.take_zero]
                iterate 1 (refine wpHeldG_step (v := ?_) (by rfl) (by kernel_rfl) (fun wz hSw => ?_) ?_; rotate_left; (focus ((try dsimp only at hSw); go_simp; try with_reducible rfl)); ((simp only [Act.put]; (try simp only [List.setIfInBounds_toArray]); (try simp only [List.set_cons_succ]); (try simp only [List.set_cons_zero]))))
                refine wpHeldG_nil ?_
                refine wpAnyG_only (i := 10) (by kernel_rfl) rfl (by rfl) (fun K hK => ?_)
                go_simp
                refine hK.out _ _ (gone (by kernel_rfl)) ?_
                clear hK K hHeld
                refine wpAnyG_done (by kernel_rfl) ?_ _
                have ecast : ((at_ : Nat) : Int) + ((k : Nat) : Int) = ((at_ + k : Nat) : Int) := by omega
                obtain ⟨wl, hwl⟩ : ∃ wl, (wk.setCell ⟨w.heap.size, 4, none⟩ (.int .i64 (((at_ : Nat) : Int) + ((k : Nat) : Int)))).drew = wl := ⟨_, rfl⟩
                have HSl : Hid (RSt F n₀ wl w.heap.size p g v' d ⟨f, n, gen, at_ + k, recs ++ [recB d.ss f at_ m], false⟩) := by
                  rw [← hwl, ecast]
                  exact (HSk.out.setL (i := 4) (l' := ⟨f, n, gen, at_ + k, recs ++ [recB d.ss f at_ m], false⟩) rfl rfl).later (Below.refl _ _).drew
                have HBl2 : Hid (Buts [w.heap.size] wk.heap.size wk wl) := by rw [← hwl]; exact ((Buts.refl _ _ wk).set (by simp) 4 _).drew
                rw [hwl]
                clear hwl ecast hck4 hfk4 hsm
                go_wp2
                have hz3 : w.heap.size ≤ w3.heap.size := by have := HB3.out.size; have := HSz9.out; omega
                have hbA : Below w.heap.size w3 wk := HBk.out.below hz3 (fun x hx => by
                  rcases List.mem_cons.1 hx with h | h
                  · omega
                  · exact HOv.out x (mem_ownL.1 h))
                have hbB : Below w.heap.size wk wl := HBl2.out.below (by have := HBk.out.size; omega) (by simp)
                have hbC : Below w.heap.size w w3 := (HB9.out.trans (HBw.out.mono HSz9.out)).trans (HB3.out.mono (by have := HSz9.out; omega))
                refine ⟨⟨at_ + k, fu, recs ++ [recB d.ss f at_ m], v', by omega, by rw [List.length_append, List.length_singleton]; omega, by omega, HGo.out.symm.trans HSc.out, HSl.out, (hbC.trans hbA).trans hbB, HA4.out⟩, ?_⟩
                have e9 : wl.cell? ⟨w.heap.size, 4, none⟩ = some (.int .i64 ((at_ + k : Nat) : Int)) := HSl.out.log.1.cell (i := 4) rfl
                simp only [roomR, e9, HC4o.out, Int.toNat_natCast]
                omega
          · have hki : ((n : Nat) : Int) - (at_ : Nat) < (k : Nat) := by omega
            have hkd : decide (((n : Nat) : Int) - (at_ : Nat) < (k : Nat)) = true := decide_eq_true hki
            have HFin : Hid (scan d.ss f n gen (n + 1) 0 [] = (at_, recs)) := HSc.out.symm.trans (scan_no (.inr (.inr (by rw [HS0.out, HM.out, hk]; omega))))
            clear hk
            refine wp_region_held_drew (S := fun W => Below w9.heap.size w9 W) (by kernel_rfl) (Below.refl _ _).drew (fun hHeld => ?_)
            refine wpAnyH_takesAt 0 12 9 (of_decide_eq_true (by kernel_rfl)) rfl (fun _ _ _ d _ h => by cases d <;> exact h) (by kernel_rfl) (by kernel_rfl) hHeld ?_
            simp only [List.drop_zero, List.take_succ_cons, List.take_zero]
            iterate 12 (refine wpHeld_step (v := ?_) (by rfl) (fun wz hSw => ?_) ?_; rotate_left; (focus ((obtain ⟨hf1, hf2, hf3⟩ := HF.out wz hSw; clear hSw); go_simp; try with_reducible rfl)); (simp only [Act.put, List.setIfInBounds_toArray, List.set_cons_zero, List.set_cons_succ]))
            refine wpHeld_nil ?_
            refine wpAnyH_takesAt 13 6 3 (of_decide_eq_true (by kernel_rfl)) rfl (fun _ _ _ d _ h => by cases d <;> exact h) (by kernel_rfl) (by kernel_rfl) hHeld ?_
            simp only [List.drop_succ_cons, List.drop_zero, List.take_succ_cons, List.take_zero]
            iterate 6 (refine wpHeld_step (v := ?_) (by rfl) (fun wz hSw => ?_) ?_; rotate_left; (focus ((obtain ⟨hf1, hf2, hf3⟩ := HF.out wz hSw; clear hSw); go_simp; try with_reducible rfl)); (simp only [Act.put, List.setIfInBounds_toArray, List.set_cons_zero, List.set_cons_succ]))
            refine wpHeld_nil ?_
            refine wpAnyH_only (i := 12) (by kernel_rfl) rfl (fun K hK => ?_)
            rw [if_pos (by rfl)]
            go_simp
            refine (HSp.out _).mono ?_
            rintro e wq ⟨rfl, hwq⟩
            obtain rfl := hwq.symm
            clear hwq
            refine hK.out _ _ hHeld ?_
            clear hK K
            refine wpAnyH_takesAt 19 2 0 (of_decide_eq_true (by kernel_rfl)) rfl (fun _ _ _ d _ h => by cases d <;> exact h) (by kernel_rfl) (by kernel_rfl) hHeld ?_
            simp only [List.drop_succ_cons, List.drop_zero, List.take_succ_cons, List.take_zero]
            iterate 2 (refine wpHeld_step (v := ?_) (by rfl) (fun wz hSw => ?_) ?_; rotate_left; (focus ((try dsimp only at hSw); go_simp; try with_reducible rfl)); (simp only [Act.put, List.setIfInBounds_toArray, List.set_cons_zero, List.set_cons_succ]))
            refine wpHeld_nil ?_
            refine wpAnyH_done (by kernel_rfl) ?_ _
            have hb10 := hHeld
            clear hHeld
            go_wp2
            (try rw [Exit.noGoto_ret])
            refine bodyPost_ret (results_tmp2 rfl _ _ _) rfl ?_
            exact ⟨w.heap.size, _, rfl, Nat.le_refl _, HOv.out, HB9.out.trans (hb10.mono HB9.out.size), by rw [HFin.out]; exact HSt9.out.later hb10⟩
        · have hmi : (262144 : Int) < (m : Nat) := by omega
          have hmd : decide ((262144 : Int) < (m : Nat)) = true := decide_eq_true hmi
          have HFin : Hid (scan d.ss f n gen (n + 1) 0 [] = (at_, recs)) := HSc.out.symm.trans (scan_no (.inr (.inl (by rw [HS0.out, HM.out]; omega))))
          refine wp_region_held_drew (S := fun W => Below w9.heap.size w9 W) (by kernel_rfl) (Below.refl _ _).drew (fun hHeld => ?_)
          refine wpAnyH_takesAt 0 10 11 (of_decide_eq_true (by kernel_rfl)) rfl (fun _ _ _ d _ h => by cases d <;> exact h) (by kernel_rfl) (by kernel_rfl) hHeld ?_
          simp only [List.drop_zero, List.take_succ_cons, List.take_zero]
          iterate 10 (refine wpHeld_step (v := ?_) (by rfl) (fun wz hSw => ?_) ?_; rotate_left; (focus ((obtain ⟨hf1, hf2, hf3⟩ := HF.out wz hSw; clear hSw); go_simp; try with_reducible rfl)); (simp only [Act.put, List.setIfInBounds_toArray, List.set_cons_zero, List.set_cons_succ]))
          refine wpHeld_nil ?_
          refine wpAnyH_takesAt 10 10 1 (of_decide_eq_true (by kernel_rfl)) rfl (fun _ _ _ d _ h => by cases d <;> exact h) (by kernel_rfl) (by kernel_rfl) hHeld ?_
          simp only [List.drop_succ_cons, List.drop_zero, List.take_succ_cons, List.take_zero]
          iterate 10 (refine wpHeld_skip (by rfl) ?_; (simp only [Act.put]; (try simp only [List.setIfInBounds_toArray]); (try simp only [List.set_cons_succ]); (try simp only [List.set_cons_zero])))
          refine wpHeld_nil ?_
          refine wpAnyH_takesAt 20 1 0 (of_decide_eq_true (by kernel_rfl)) rfl (fun _ _ _ d _ h => by cases d <;> exact h) (by kernel_rfl) (by kernel_rfl) hHeld ?_
          simp only [List.drop_succ_cons, List.drop_zero, List.take_succ_cons, List.take_zero]
          iterate 1 (refine wpHeld_step (v := ?_) (by rfl) (fun wz hSw => ?_) ?_; rotate_left; (focus ((try dsimp only at hSw); go_simp; try with_reducible rfl)); ((simp only [Act.put]; (try simp only [List.setIfInBounds_toArray]); (try simp only [List.set_cons_succ]); (try simp only [List.set_cons_zero]))))
          refine wpHeld_nil ?_
          refine wpAnyH_done (by kernel_rfl) ?_ _
          have hb10 := hHeld
          clear hHeld
          go_wp2
          (try rw [Exit.noGoto_ret])
          refine bodyPost_ret (results_tmp2 rfl _ _ _) rfl ?_
          exact ⟨w.heap.size, _, rfl, Nat.le_refl _, HOv.out, HB9.out.trans (hb10.mono HB9.out.size), by rw [HFin.out]; exact HSt9.out.later hb10⟩
      · have hSe : (S1.toList == S2.toList) = false := by rw [HSe.out]; exact decide_eq_false h1
        have HFin : Hid (scan d.ss f n gen (n + 1) 0 [] = (at_, recs)) := HSc.out.symm.trans (scan_no (.inl (by rw [HS0.out, ← HMk.out]; exact h1)))
        refine wp_region_held_drew (S := fun W => Below w9.heap.size w9 W) (by kernel_rfl) (Below.refl _ _).drew (fun hHeld => ?_)
        refine wpAnyH_takesAt 0 6 15 (of_decide_eq_true (by kernel_rfl)) rfl (fun _ _ _ d _ h => by cases d <;> exact h) (by kernel_rfl) (by kernel_rfl) hHeld ?_
        simp only [List.drop_zero, List.take_succ_cons, List.take_zero]
        iterate 6 (refine wpHeld_step (v := ?_) (by rfl) (fun wz hSw => ?_) ?_; rotate_left; (focus ((obtain ⟨hf1, hf2, hf3⟩ := HF.out wz hSw; clear hSw); go_simp; try with_reducible rfl)); (simp only [Act.put, List.setIfInBounds_toArray, List.set_cons_zero, List.set_cons_succ]))
        refine wpHeld_nil ?_
        refine wpAnyH_takesAt 6 2 13 (of_decide_eq_true (by kernel_rfl)) rfl (fun _ _ _ d _ h => by cases d <;> exact h) (by kernel_rfl) (by kernel_rfl) hHeld ?_
        simp only [List.drop_succ_cons, List.drop_zero, List.take_succ_cons, List.take_zero]
        iterate 2 (refine wpHeld_skip (by rfl) ?_; (simp only [Act.put]; (try simp only [List.setIfInBounds_toArray]); (try simp only [List.set_cons_succ]); (try simp only [List.set_cons_zero])))
        refine wpHeld_nil ?_
        refine wpAnyH_takesAt 8 2 11 (of_decide_eq_true (by kernel_rfl)) rfl (fun _ _ _ d _ h => by cases d <;> exact h) (by kernel_rfl) (by kernel_rfl) hHeld ?_
        simp only [List.drop_succ_cons, List.drop_zero, List.take_succ_cons, List.take_zero]
        iterate 2 (refine wpHeld_step (v := ?_) (by rfl) (fun wz hSw => ?_) ?_; rotate_left; (focus ((try dsimp only at hSw); go_simp; try with_reducible rfl)); (simp only [Act.put, List.setIfInBounds_toArray, List.set_cons_zero, List.set_cons_succ]))
        refine wpHeld_nil ?_
        refine wpAnyH_takesAt 10 10 1 (of_decide_eq_true (by kernel_rfl)) rfl (fun _ _ _ d _ h => by cases d <;> exact h) (by kernel_rfl) (by kernel_rfl) hHeld ?_
        simp only [List.drop_succ_cons, List.drop_zero, List.take_succ_cons, List.take_zero]
        iterate 10 (refine wpHeld_skip (by rfl) ?_; (simp only [Act.put]; (try simp only [List.setIfInBounds_toArray]); (try simp only [List.set_cons_succ]); (try simp only [List.set_cons_zero])))
        refine wpHeld_nil ?_
        refine wpAnyH_takesAt 20 1 0 (of_decide_eq_true (by kernel_rfl)) rfl (fun _ _ _ d _ h => by cases d <;> exact h) (by kernel_rfl) (by kernel_rfl) hHeld ?_
        simp only [List.drop_succ_cons, List.drop_zero, List.take_succ_cons, List.take_zero]
        iterate 1 (refine wpHeld_step (v := ?_) (by rfl) (fun wz hSw => ?_) ?_; rotate_left; (focus ((try dsimp only at hSw); go_simp; try with_reducible rfl)); ((simp only [Act.put]; (try simp only [List.setIfInBounds_toArray]); (try simp only [List.set_cons_succ]); (try simp only [List.set_cons_zero]))))
        refine wpHeld_nil ?_
        refine wpAnyH_done (by kernel_rfl) ?_ _
        have hb10 := hHeld
        clear hHeld
        go_wp2
        (try rw [Exit.noGoto_ret])
        refine bodyPost_ret (results_tmp2 rfl _ _ _) rfl ?_
        exact ⟨w.heap.size, _, rfl, Nat.le_refl _, HOv.out, HB9.out.trans (hb10.mono HB9.out.size), by rw [HFin.out]; exact HSt9.out.later hb10⟩
    · obtain rfl : at_ = n := by omega
      have HF : Hid (scan d.ss f at_ gen (at_ + 1) 0 [] = (at_, recs)) := by
        show _ = _
        rw [← HSc.out]
        exact scan_end (Nat.le_refl _)
      go_wp2
      refine bodyPost_ret (results_tmp2 rfl _ _ _) rfl ?_
      exact ⟨w.heap.size, _, rfl, Nat.le_refl _, HOv.out, HBl.out, by rw [HF.out]; exact HSt.out⟩
end Go.Proofs.Ytifjkkfienmdjaa
/-
  The law's Laid: both disks with the same bytes.
-/
namespace Go.Proofs.Ytifjkkfienmdjaa
open Go.RowKit Go.Shelf

/-- A sector of bytes, filled up; a disk with bytes. -/
def secZ (zs : List Nat) (i : Nat) : List Nat := splice zeros64 0 ((zs.drop (64 * i)).take 64)
def laidD (n : Int) (zs : List Nat) : Nat → St
  | 0 => newS n []
  | k + 1 => (laidD n zs k).write (k : Nat) (secZ zs k)
theorem secZ_sec {zs : List Nat} (hz : ∀ z ∈ zs, z < 256) (i : Nat) : IsSec (secZ zs i) := by
  refine ⟨?_, splice_mem isSec_zeros.2 (fun z h => hz z (List.mem_of_mem_drop (List.mem_of_mem_take h)))⟩
  rw [secZ, splice_length (by simp only [zeros64, List.length_replicate, List.length_take]; omega)]
  simp [zeros64]
theorem laidD_wr (n : Int) (zs : List Nat) : ∀ k, (laidD n zs k).wr ≤ k
  | 0 => Nat.le_refl _
  | k + 1 => Nat.le_trans (write_wr' _ _ _) (by have := laidD_wr n zs k; omega)

def LaidPost (n : Int) (len : Nat) (zs : List Nat) (w : World) (e : Ending) (w' : World) : Prop :=
  ∃ p g p' g' k, e = .returned (.tuple #[.pointer (some ⟨p, 0, none⟩), .pointer (some ⟨p', 0, none⟩)]) ∧ k ≤ 60 ∧ Both w.heap.size p g p' g' w' (laidD n zs k) ∧ Below w.heap.size w w' ∧ ¬ ((k : Int) < n ∧ 64 * k < len)

set_option maxRecDepth 100000 in
set_option maxHeartbeats 4000000 in
theorem laid_any (n : Int) (hn : n ≤ 60) (q : Option Addr) (len cap : Nat) (zs : List Nat) (w : World) (hI : IsBytes w.heap.size w q len cap zs) :
    Calls Try.prog 11 #[.int .i64 n, .slice q len cap] w (LaidPost n len zs w) := by
  have HI : Hid (IsBytes w.heap.size w q len cap zs) := hI
  have HLn : Hid (zs.length = len) := hI.1
  have HZ : Hid (∀ z ∈ zs, z < 256) := hI.2.2.2.1
  have hlc := hI.2.1
  have hcc := hI.2.2.1
  clear hI
  go_enter Try.func11, Try.ntmps11
  go_wp2_with (first
    | (go_at_call 17; refine (new_any n (q := none) (len := 0) (cap := 0) (cr := []) ⟨rfl, Nat.le_refl _, by omega, .inl rfl⟩ (by omega)).mono ?_; rintro e w3 ⟨p, g, rfl, hp3, hg3, hD3, hb3⟩; have HD3 : Hid (DiskAt [p, g] w3 p g _) := hD3; clear hD3)
    | (go_at_call 18; refine (refNew_any (F₀ := [p, g]) (q := none) (len := 0) (cap := 0) (cr := []) n ⟨rfl, Nat.le_refl _, by omega, .inl rfl⟩).mono ?_; rintro e w4 ⟨p', g', rfl, hp4, hg4, hR4, hb4⟩; have HR4 : Hid (RefAt [p', g', p, g] w4 p' g' _) := hR4; clear hR4))
  have HB4 : Hid (Below w.heap.size w w4) := hb3.trans (hb4.mono hb3.size)
  have HBo4 : Hid (Both w.heap.size p g p' g' w4 (newS n [])) := by
    have l3 := HD3.out.lt
    have s3 := hb3.size
    refine ⟨(HD3.out.more (fun x hx => ?_) (by simp) (by simp)).later hb4, HR4.out.more (fun x hx => ?_) (by simp) (by simp), ⟨by omega, by omega, by omega, by omega⟩, ⟨by omega, by omega, by omega, by omega⟩⟩
    · simp only [List.mem_cons, List.not_mem_nil, or_false] at hx ⊢
      omega
    · simp only [List.mem_cons, List.not_mem_nil, or_false] at hx ⊢
      omega
  clear HD3 HR4 hb3 hb4
  go_loopw [8] (fun iv wr => ∃ (k : Nat), k ≤ 60 ∧ (k : Int) ≤ max n 0 ∧ iv = .int .i64 k ∧ Both w.heap.size p g p' g' wr (laidD n zs k) ∧ Below w.heap.size w wr) (fun iv _ => 61 - (intOf iv).toNat)
  case atStart => exact ⟨0, by omega, by omega, rfl, HBo4.out, HB4.out⟩
  case round =>
    obtain ⟨k, hk60, hkn, rfl, hbo, hbl⟩ := hrel
    have HBo : Hid (Both w.heap.size p g p' g' wr (laidD n zs k)) := hbo
    have HBl : Hid (Below w.heap.size w wr) := hbl
    clear hbo hbl
    by_cases hlt : (k : Int) < n
    · have g1 : decide ((k : Int) < n) = true := decide_eq_true hlt
      by_cases hb64 : (64 : Int) * (k : Int) < (len : Int)
      · obtain ⟨bb, off, rfl, hbb, hcell⟩ : ∃ bb off, q = some ⟨bb, off, none⟩ ∧ bb < w.heap.size ∧ ∀ i, i < len → w.cell? ⟨bb, off + i, none⟩ = some (.int .u8 (zs.getD i 0 : Nat)) := by
          rcases HI.out.2.2.2.2 with h | h
          · omega
          · exact h
        obtain ⟨w5, HW5, hb5, hs5, hr5⟩ := new29 wr
        have HR5 : Hid (Row w5 wr.heap.size 55 (u8s zeros64)) := hr5
        have HSrc : Hid (∀ W, Below w.heap.size w W → ∀ j v, (u8s ((zs.drop (64 * k)).take 64))[j]? = some v → W.cell? ((⟨bb, off + 64 * k, none⟩ : Addr).add j) = some v) := fun W hb j v hj => by
          have hjl := (List.getElem?_eq_some_iff.1 hj).1
          rw [u8s_length, List.length_take, List.length_drop, HLn.out] at hjl
          obtain ⟨c, t, fr, e1, e2⟩ := cells_of_cell (hcell (64 * k + j) (by omega))
          have e3 := (hb.block bb hbb).trans e1
          have e4 : W.cell? ⟨bb, off + (64 * k + j), none⟩ = some (.int .u8 (zs.getD (64 * k + j) 0 : Nat)) := by simp [World.cell?, e3, e2]
          rw [Addr.add_mid, show off + 64 * k + j = off + (64 * k + j) by omega, e4, ← hj, u8s_at (by rw [List.length_take, List.length_drop, HLn.out]; omega)]
          rw [List.getD_eq_getElem?_getD (l := List.take _ _), List.getElem?_take, if_pos (by omega), List.getElem?_drop, ← List.getD_eq_getElem?_getD]
        have HLs : Hid ((u8s ((zs.drop (64 * k)).take 64)).length = Nat.min (len - 64 * k) 64) := by show _ = _; rw [u8s_length, List.length_take, List.length_drop, HLn.out]; exact Nat.min_comm _ _
        clear hcell hr5
        go_upto_region 6 with (rw [HW5.out])
        refine wp_region_held_drew (S := fun _ => True) (by kernel_rfl) trivial (fun hHeld => ?_)
        refine wpAnyH_takesAt 0 1 5 (of_decide_eq_true (by kernel_rfl)) rfl (fun _ _ _ d _ h => by cases d <;> exact h) (by kernel_rfl) (by kernel_rfl) hHeld ?_
        simp only [List.drop_zero, List.take_succ_cons, List.take_zero]
        iterate 1 (refine wpHeld_step (v := ?_) (by rfl) (fun wz hSw => ?_) ?_; rotate_left; (focus ((try dsimp only at hSw); go_simp; try with_reducible rfl)); ((simp only [Act.put]; (try simp only [List.setIfInBounds_toArray]); (try simp only [List.set_cons_succ]); (try simp only [List.set_cons_zero]))))
        refine wpHeld_nil ?_
        refine wpAnyH_takesAt 1 1 4 (of_decide_eq_true (by kernel_rfl)) rfl (fun _ _ _ d _ h => by cases d <;> exact h) (by kernel_rfl) (by kernel_rfl) hHeld ?_
        simp only [List.drop_succ_cons, List.drop_zero, List.take_succ_cons, List.take_zero]
        iterate 1 (refine wpHeld_step (v := ?_) (by rfl) (fun wz hSw => ?_) ?_; rotate_left; (focus ((try dsimp only at hSw); go_simp; try with_reducible rfl)); ((simp only [Act.put]; (try simp only [List.setIfInBounds_toArray]); (try simp only [List.set_cons_succ]); (try simp only [List.set_cons_zero]))))
        refine wpHeld_nil ?_
        refine wpAnyH_takesAt 2 1 3 (of_decide_eq_true (by kernel_rfl)) rfl (fun _ _ _ d _ h => by cases d <;> exact h) (by kernel_rfl) (by kernel_rfl) hHeld ?_
        simp only [List.drop_succ_cons, List.drop_zero, List.take_succ_cons, List.take_zero]
        iterate 1 (refine wpHeld_step (v := ?_) (by rfl) (fun wz hSw => ?_) ?_; rotate_left; (focus ((try dsimp only at hSw); go_simp; try with_reducible rfl)); ((simp only [Act.put]; (try simp only [List.setIfInBounds_toArray]); (try simp only [List.set_cons_succ]); (try simp only [List.set_cons_zero]))))
        refine wpHeld_nil ?_
        refine wpAnyH_takesAt 3 1 2 (of_decide_eq_true (by kernel_rfl)) rfl (fun _ _ _ d _ h => by cases d <;> exact h) (by kernel_rfl) (by kernel_rfl) hHeld ?_
        simp only [List.drop_succ_cons, List.drop_zero, List.take_succ_cons, List.take_zero]
        iterate 1 (refine wpHeld_step (v := ?_) (by rfl) (fun wz hSw => ?_) ?_; rotate_left; (focus ((try dsimp only at hSw); go_simp; try with_reducible rfl)); ((simp only [Act.put]; (try simp only [List.setIfInBounds_toArray]); (try simp only [List.set_cons_succ]); (try simp only [List.set_cons_zero]))))
        refine wpHeld_nil ?_
        have hne : ¬ cap = 64 * k := by omega
        have hk64 : 64 * k ≤ len := by omega
        refine wpAnyH_takesAt 4 1 1 (of_decide_eq_true (by kernel_rfl)) rfl (fun _ _ _ d _ h => by cases d <;> exact h) (by kernel_rfl) (by kernel_rfl) hHeld ?_
        simp only [List.drop_succ_cons, List.drop_zero, List.take_succ_cons, List.take_zero]
        refine wpHeld_step (v := .slice (some ⟨bb, off + 64 * k, none⟩) (len - 64 * k) (cap - 64 * k)) (by rfl) (fun wz hSw => ?_) ?_
        · clear hSw
          have hwp : IntKind.i64.wrap (64 * (k : Int)) = ((64 * k : Nat) : Int) := by rw [IntKind.wrap_i64]; omega
          go_simp
          rw [if_pos (by omega), show (64 * (k : Int)).toNat = 64 * k by omega, if_neg hne]
        simp only [Act.put]
        (try simp only [List.setIfInBounds_toArray])
        (try simp only [List.set_cons_succ])
        (try simp only [List.set_cons_zero])
        refine wpHeld_nil ?_
        have hB5 : Below w.heap.size w w5 := HBl.out.trans (hb5.mono HBl.out.size)
        refine wpAnyH_only (i := 5) (by kernel_rfl) rfl (fun K hK => ?_)
        rw [if_pos (by rfl)]
        refine wp_copy_but (.tmp 26) (.tmp 30) 25 25 rfl 5 Try.underlying25 size5 wr.heap.size 0 64 64 ⟨bb, off + 64 * k, none⟩ (len - 64 * k) (cap - 64 * k) rfl rfl _ 55 HR5.out.drew (u8s ((zs.drop (64 * k)).take 64)) HLs.out (HSrc.out _ hB5.drew) (by rw [u8s_length, u8s_length, List.length_take, List.length_drop, HLn.out]; simp [zeros64]; omega) (u8s_one _) (fun w6 hrow hbut => ?_)
        refine hK.out _ _ trivial ?_
        clear hK K hHeld
        simp only [Act.put, List.setIfInBounds_toArray]
        refine wpAnyH_done (by kernel_rfl) ?_ _
        rw [splice_u8s] at hrow
        have hb56 : Below wr.heap.size wr w6 := ⟨hbut.os.trans hb5.os, hbut.tape.trans hb5.tape, hbut.output.trans hb5.output, Nat.le_trans hb5.size hbut.size, fun i hi => (hbut.block i (by show i < w5.heap.size; omega) (by omega)).trans (hb5.block i hi)⟩
        have HR6 : Hid (Row w6 wr.heap.size 55 (u8s (secZ zs k))) := hrow
        have HBo6 : Hid (Both w.heap.size p g p' g' w6 (laidD n zs k)) := HBo.out.later hb56
        have HBl6 : Hid (Below w.heap.size w w6) := HBl.out.trans (hb56.mono HBl.out.size)
        have hxs := secZ_sec HZ.out k
        have hwr := laidD_wr n zs k
        have HLt : Hid (p < wr.heap.size ∧ g < wr.heap.size ∧ p' < wr.heap.size ∧ g' < wr.heap.size) := ⟨HBo.out.mine.lt.1, HBo.out.mine.lt.2, HBo.out.other.lt.1, HBo.out.other.lt.2⟩
        have HWm : Hid (Calls Try.prog 25 #[.pointer (some ⟨p, 0, none⟩), .int .i64 (k : Nat), .agg (u8s (secZ zs k)).toArray] w6 fun e w' => e = .returned (.int .i64 ((laidD n zs k).wErr (k : Nat))) ∧ DiskAt [p, g, p', g'] w' p g (laidD n zs (k + 1)) ∧ Buts [p, g] w6.heap.size w6 w') := write_any HBo6.out.mine (k : Nat) hxs (by omega)
        have HWo : Hid (∀ W', RefAt [p, g, p', g'] W' p' g' (laidD n zs k) → Calls Try.prog 27 #[.pointer (some ⟨p', 0, none⟩), .int .i64 (k : Nat), .agg (u8s (secZ zs k)).toArray] W' fun e w' => e = .returned (.int .i64 ((laidD n zs k).wErr (k : Nat))) ∧ RefAt [p, g, p', g'] w' p' g' (laidD n zs (k + 1)) ∧ Buts [p', g'] W'.heap.size W' w') := fun W' h => refWrite_any h (k : Nat) hxs (by omega)
        have HLx : Hid ((u8s (secZ zs k)).length = 64) := by show _ = _; rw [u8s_length]; exact hxs.1
        clear hrow hbut hb56 hxs hwr hB5 hb5
        generalize u8s (secZ zs k) = X at *
        go_wp2_with (first
          | ((with_reducible show wpList _ _ _ (Oper.mk (some 34) (Op.load 55 (.tmp 9)) _ _ _ _ :: _) _ _); refine wpList_load_Row rfl 55 (.tmp 9) rfl rfl HR6.out Try.underlying55 (by rw [HLx.out]; exact size55) ?_; simp only [Act.put, List.setIfInBounds_toArray, List.set_cons_zero, List.set_cons_succ])
          | (go_at_call 25; refine HWm.out.mono ?_; rintro e w7 ⟨rfl, hD7, hb7⟩; have HD7 : Hid (DiskAt [p, g, p', g'] w7 p g _) := hD7; have HRf7 : Hid (RefAt [p, g, p', g'] w7 p' g' (laidD n zs k)) := HBo6.out.first hb7; have HR7 : Hid (Row w7 wr.heap.size 55 X) := hb7.row HR6.out.lt (by have := HLt.out; simp; omega) HR6.out; clear hD7)
          | ((with_reducible show wpList _ _ _ (Oper.mk (some 38) (Op.load 55 (.tmp 9)) _ _ _ _ :: _) _ _); refine wpList_load_Row rfl 55 (.tmp 9) rfl rfl HR7.out Try.underlying55 (by rw [HLx.out]; exact size55) ?_; simp only [Act.put, List.setIfInBounds_toArray, List.set_cons_zero, List.set_cons_succ])
          | (go_at_call 27; refine (HWo.out _ HRf7.out).mono ?_; rintro e w8 ⟨rfl, hR8, hb8⟩; have HBn : Hid (Both w.heap.size p g p' g' w8 (laidD n zs (k + 1))) := HBo6.out.second HD7.out hR8 hb8; have HBln : Hid (Below w.heap.size w w8) := HBo6.out.below hb7 hb8 w rfl HBl6.out; clear hR8 hb7 hb8))
        exact ⟨⟨k + 1, by omega, by omega, by simp, HBn.out, HBln.out⟩, by simp [intOf]; omega⟩
      · go_wp2
        refine bodyPost_ret (results_tmp2 rfl _ _ _) rfl ?_
        exact ⟨p, g, p', g', k, rfl, hk60, HBo.out, HBl.out, by omega⟩
    · have g1 : decide ((k : Int) < n) = false := decide_eq_false hlt
      go_wp2
      refine bodyPost_ret (results_tmp2 rfl _ _ _) rfl ?_
      exact ⟨p, g, p', g', k, rfl, hk60, HBo.out, HBl.out, by omega⟩
end Go.Proofs.Ytifjkkfienmdjaa
/-
  The records that any sectors are: the law's walk.
-/
namespace Go.Proofs.Ytifjkkfienmdjaa
open Go.RowKit Go.Shelf

theorem laidD_calm (n : Int) (zs : List Nat) : ∀ k, (laidD n zs k).cr = [] ∧ (laidD n zs k).dead = false
  | 0 => ⟨rfl, rfl⟩
  | k + 1 => by
    obtain ⟨h1, h2⟩ := laidD_calm n zs k
    have hst : (laidD n zs k).strikes = false := by unfold St.strikes; rw [h1]
    show ((laidD n zs k).write (k : Nat) (secZ zs k)).cr = [] ∧ ((laidD n zs k).write (k : Nat) (secZ zs k)).dead = false
    unfold St.write
    split
    · exact ⟨h1, h2⟩
    · rw [if_neg (by rw [hst]; simp)]
      exact ⟨h1, h2⟩
theorem scan_ok (ss : List (List Nat)) (f n gen : Nat) : ∀ (fuel at_ : Nat) (recs : List (List Nat)), at_ ≤ n → recs.length ≤ at_ → (∀ z ∈ recs, z.length ≤ 262144) →
    (scan ss f n gen fuel at_ recs).1 ≤ n ∧ (scan ss f n gen fuel at_ recs).2.length ≤ (scan ss f n gen fuel at_ recs).1 ∧ ∀ z ∈ (scan ss f n gen fuel at_ recs).2, z.length ≤ 262144
  | 0, at_, recs, h1, h2, h3 => ⟨h1, h2, h3⟩
  | fuel + 1, at_, recs, h1, h2, h3 => by
    rw [scan]
    by_cases hn : n ≤ at_
    · rw [if_pos hn]
      exact ⟨h1, h2, h3⟩
    · rw [if_neg hn]
      by_cases hc : (ss.getD (f + at_) []).drop 55 ≠ markL gen recs.length ∨ 262144 < numFrom (ss.getD (f + at_) []) 0 4 ∨ n - at_ < spanN (numFrom (ss.getD (f + at_) []) 0 4)
      · rw [if_pos hc]
        exact ⟨h1, h2, h3⟩
      · rw [if_neg hc]
        have c2 : numFrom (ss.getD (f + at_) []) 0 4 ≤ 262144 := Nat.not_lt.1 (fun h => hc (.inr (.inl h)))
        have c3 : spanN (numFrom (ss.getD (f + at_) []) 0 4) ≤ n - at_ := Nat.not_lt.1 (fun h => hc (.inr (.inr h)))
        have c4 := spanN_nat c2
        refine scan_ok ss f n gen fuel _ _ (by omega) (by rw [List.length_append, List.length_singleton]; omega) (fun z hz => ?_)
        rcases List.mem_append.1 hz with h | h
        · exact h3 z h
        · rw [List.mem_singleton] at h
          subst h
          rw [recB, List.length_take]
          omega
theorem wantAt_of {n₀ : Nat} {W : World} {q : Option Addr} {len c : Nat} {recs : List (List Nat)} (h : RecsAt n₀ W (.slice q len c) recs) : WantAt W q len c recs := by
  obtain ⟨h1, h2, h3⟩ := h.cap
  refine ⟨h1, h2, h3, fun z hz => ?_, ?_⟩
  · obtain ⟨i, hi, e⟩ := List.getElem_of_mem hz
    obtain ⟨_, x, _, _, hx⟩ := h.at (i := i) (by omega)
    rw [List.getD_eq_getElem?_getD, List.getElem?_eq_getElem hi, Option.getD_some, e] at hx
    obtain ⟨_, _, _, _, _, _, _, h5, _⟩ := hx
    exact h5
  · by_cases h0 : len = 0
    · exact .inl h0
    · obtain ⟨G, x, rfl, hx, _⟩ := h.at (i := 0) (by omega)
      refine .inr ⟨G, 0, rfl, ?_, fun i hi => ?_⟩
      · obtain ⟨_, hl, _⟩ := h.own (k := G) rfl
        exact hl
      · obtain ⟨G', x, e, hx, hb⟩ := h.at (i := i) hi
        cases e
        obtain ⟨qx, lx, cx, rfl, hlx⟩ : ∃ qx lx cx, x = .slice qx lx cx ∧ (recs.getD i []).length = lx := by obtain ⟨a, b, c, e, e2, _⟩ := hb; exact ⟨a, b, c, e, e2⟩
        rw [Nat.zero_add]
        exact ⟨qx, lx, cx, hx, hb.bytes⟩
theorem crLow_mine {F : List Nat} {W : World} {p g : Nat} {d : St} (h : DiskAt F W p g d) : CrLow W.heap.size W p 4 := by
  intro q len cap hc
  obtain ⟨h1, h2, h3, h4, h5, q', len', cap', h6, h7⟩ := h
  rw [h6.cell (i := 4) rfl] at hc
  cases hc
  rcases h7.2.2.2 with h | ⟨b, off, e, hl, _⟩
  · exact .inl h
  · exact .inr ⟨b, off, e, hl⟩
theorem crLow_ref {F : List Nat} {W : World} {p g : Nat} {d : St} (h : RefAt F W p g d) : CrLow W.heap.size W p 1 := by
  intro q len cap hc
  obtain ⟨h1, h2, h3, h4, h5, q', len', cap', h6, h7⟩ := h
  rw [h6.cell (i := 1) rfl] at hc
  cases hc
  rcases h7.2.2.2 with h | ⟨b, off, e, hl, _⟩
  · exact .inl h
  · exact .inr ⟨b, off, e, hl⟩

set_option maxRecDepth 100000 in
set_option maxHeartbeats 2000000 in
theorem refOpen_not {F : List Nat} {w : World} {p g : Nat} {d : St} (h : RefAt F w p g d) (f n : Int) (gen : Nat) (hn : -9223372036854775808 ≤ n ∧ n ≤ 9223372036854775807) (hf : -9223372036854775808 ≤ f ∧ f ≤ 9223372036854775807) (hr : regB d.ss.length f n = false) :
    Calls Try.prog 13 #[.pointer (some ⟨p, 0, none⟩), .int .i64 f, .int .i64 n, .int .u32 (gen : Nat)] w fun e w' => e = .returned (.tuple #[.pointer none, .int .i64 1]) ∧ w' = w := by
  have HR : Hid (Calls Try.prog 33 #[.pointer (some ⟨p, 0, none⟩), .int .i64 f, .int .i64 n] w fun e w' => e = .returned (.bool false) ∧ w' = w) := by
    have := refRegion_any h f n hn hf
    rw [hr] at this
    exact this
  clear h hr
  go_enter Try.func13, Try.ntmps13
  go_wp2_with (go_at_call 33; refine HR.out.mono ?_; rintro e w2 ⟨rfl, hw2⟩; obtain rfl : w = w2 := hw2.symm; clear hw2)
  (try rw [Exit.noGoto_ret])
  refine bodyPost_ret (results_tmp2 rfl _ _ _) rfl ?_
  exact ⟨rfl, rfl⟩

set_option maxRecDepth 100000 in
set_option maxHeartbeats 4000000 in
theorem slogOpens_walk (n : Int) (q : Option Addr) (len cap : Nat) (zs : List Nat) (f s : Int) (gen : Nat) (w : World) (hn : -9223372036854775808 ≤ n ∧ n ≤ 9223372036854775807) (hI : IsBytes w.heap.size w q len cap zs) (hf : -9223372036854775808 ≤ f ∧ f ≤ 9223372036854775807) (hs : -9223372036854775808 ≤ s ∧ s ≤ 9223372036854775807) (hgen : gen < 4294967296) :
    Calls Try.prog 4 #[.int .i64 n, .slice q len cap, .int .i64 f, .int .i64 s, .int .u32 (gen : Nat)] w fun e w' => e = .returned (.bool true) ∧ Below w.heap.size w w' := by
  have HA : Hid (Calls Try.prog 8 #[] w fun e w' => e = .returned (.bool true) ∧ Below w.heap.size w w') := awake_any w
  have HI : Hid (IsBytes w.heap.size w q len cap zs) := hI
  clear hI
  by_cases h1 : (60 : Int) < n
  · have g1 : decide ((60 : Int) < n) = true := decide_eq_true h1
    go_enter Try.func4, Try.ntmps4
    go_wp2_with (go_at_call 8; refine HA.out.mono ?_; rintro e w1 ⟨rfl, hb1⟩)
    go_ret
    exact ⟨rfl, hb1⟩
  have g1 : decide ((60 : Int) < n) = false := decide_eq_false h1
  by_cases h2 : n < 0
  · have g2 : decide (n < (0 : Int)) = true := decide_eq_true h2
    go_enter Try.func4, Try.ntmps4
    go_wp2_with (go_at_call 8; refine HA.out.mono ?_; rintro e w1 ⟨rfl, hb1⟩)
    go_ret
    exact ⟨rfl, hb1⟩
  have g2 : decide (n < (0 : Int)) = false := decide_eq_false h2
  by_cases h3 : (4000 : Int) < (len : Int)
  · have g3 : decide ((4000 : Int) < (len : Int)) = true := decide_eq_true h3
    go_enter Try.func4, Try.ntmps4
    go_wp2_with (go_at_call 8; refine HA.out.mono ?_; rintro e w1 ⟨rfl, hb1⟩)
    go_ret
    exact ⟨rfl, hb1⟩
  have g3 : decide ((4000 : Int) < (len : Int)) = false := decide_eq_false h3
  have HLa : Hid (∀ W, Below w.heap.size w W → Calls Try.prog 11 #[.int .i64 n, .slice q len cap] W (LaidPost n len zs W)) := fun W hb => laid_any n (by omega) q len cap zs W ((HI.out.below hb).mono hb.size)
  go_enter Try.func4, Try.ntmps4
  go_upto_region 6 with (first
    | (go_at_call 8; refine HA.out.mono ?_; rintro e w1 ⟨rfl, hb1⟩)
    | (go_at_call 11; refine (HLa.out _ hb1).mono ?_; rintro e w2 ⟨p, g, p', g', k, rfl, hk, hBo, hb2, _⟩; have HBo : Hid (Both w1.heap.size p g p' g' w2 (laidD n zs k)) := hBo; clear hBo))
  have HB2 : Hid (Below w.heap.size w w2) := hb1.trans (hb2.mono hb1.size)
  obtain ⟨hcr, hdead⟩ := laidD_calm n zs k
  have hwr := laidD_wr n zs k
  obtain ⟨d, hd⟩ : ∃ d, laidD n zs k = d := ⟨_, rfl⟩
  rw [hd] at HBo hcr hdead hwr
  have hfew := HBo.out.mine.1.few
  clear hd hb1 hb2
  by_cases hreg : regB d.ss.length f s = true
  · obtain ⟨f, rfl⟩ : ∃ f' : Nat, f = (f' : Nat) := ⟨f.toNat, by simp only [regB, Bool.and_eq_true, decide_eq_true_eq] at hreg; omega⟩
    obtain ⟨s, rfl⟩ : ∃ s' : Nat, s = (s' : Nat) := ⟨s.toNat, by simp only [regB, Bool.and_eq_true, decide_eq_true_eq] at hreg; omega⟩
    obtain ⟨hs2, hfs⟩ : 2 ≤ s ∧ f + s ≤ d.ss.length := by simp only [regB, Bool.and_eq_true, decide_eq_true_eq] at hreg; omega
    obtain ⟨k1, k2, k3⟩ := scan_ok d.ss f s gen (s + 1) 0 [] (by omega) (by simp) (by simp)
    have HOp : Hid (Calls Try.prog 12 #[.pointer (some ⟨p, 0, none⟩), .int .i64 (f : Nat), .int .i64 (s : Nat), .int .u32 (gen : Nat)] w2 fun e w' => ∃ L v, e = .returned (.tuple #[.pointer (some ⟨L, 0, none⟩), .int .i64 0]) ∧ Below w2.heap.size w2 w' ∧ MSt [p, g, p', g'] w2.heap.size w' L p g v d ⟨f, s, gen, (scan d.ss f s gen (s + 1) 0 []).1, (scan d.ss f s gen (s + 1) 0 []).2, false⟩) :=
      (open_live HBo.out.mine (crLow_mine HBo.out.mine) HBo.out.mine.lt (Nat.le_refl _) f s gen hs2 hfs hgen hdead (by omega)).mono fun e w' ⟨L, v, a1, _, _, a4, a5⟩ => ⟨L, v, a1, a4, a5⟩
    have HRo : Hid (∀ W, Below w2.heap.size w2 W → Calls Try.prog 13 #[.pointer (some ⟨p', 0, none⟩), .int .i64 (f : Nat), .int .i64 (s : Nat), .int .u32 (gen : Nat)] W (ROpnPost [p, g, p', g'] W.heap.size W p' g' d f s gen)) := fun W hb =>
      refOpen_live (HBo.out.later hb).other (crLow_ref (HBo.out.later hb).other) (HBo.out.later hb).other.lt (Nat.le_refl _) f s gen hs2 hfs hgen hdead
    obtain ⟨A, hA⟩ : ∃ A, (scan d.ss f s gen (s + 1) 0 []).1 = A := ⟨_, rfl⟩
    obtain ⟨R, hR⟩ : ∃ R, (scan d.ss f s gen (s + 1) 0 []).2 = R := ⟨_, rfl⟩
    simp only [hA, hR] at HOp k1 k2 k3
    have HRo' : Hid (∀ W, Below w2.heap.size w2 W → Calls Try.prog 13 #[.pointer (some ⟨p', 0, none⟩), .int .i64 (f : Nat), .int .i64 (s : Nat), .int .u32 (gen : Nat)] W fun e w' => ∃ L vq vc, e = .returned (.tuple #[.pointer (some ⟨L, 0, none⟩), .int .i64 0]) ∧ Below W.heap.size W w' ∧ RSt [p, g, p', g'] W.heap.size w' L p' g' (.slice vq R.length vc) d ⟨f, s, gen, A, R, false⟩) := fun W hb => (HRo.out W hb).mono fun e w' ⟨L, v, a1, _, _, a4, a5⟩ => by
      rw [hA, hR] at a5
      obtain ⟨vq, vc, rfl⟩ := a5.log.2.slice
      exact ⟨L, vq, vc, a1, a4, a5⟩
    clear hA hR HRo hreg
    go_upto_region 10 with (first
      | (go_at_call 12; refine HOp.out.mono ?_; rintro e w3 ⟨L, v, rfl, hb3, hM3⟩; have HM3 : Hid (MSt [p, g, p', g'] w2.heap.size w3 L p g v d ⟨f, s, gen, A, R, false⟩) := hM3; clear hM3)
      | (go_at_call 13; refine (HRo'.out _ hb3).mono ?_; rintro e w4 ⟨L', vq, vc, rfl, hb4, hR4⟩; have HR4 : Hid (RSt [p, g, p', g'] w3.heap.size w4 L' p' g' (.slice vq R.length vc) d ⟨f, s, gen, A, R, false⟩) := hR4; have HM4 : Hid (MSt [p, g, p', g'] w2.heap.size w4 L p g v d ⟨f, s, gen, A, R, false⟩) := HM3.out.later hb4; clear hR4))
    have HB4 : Hid (Below w.heap.size w w4) := (HB2.out.trans (hb3.mono HB2.out.size)).trans (hb4.mono (Nat.le_trans HB2.out.size hb3.size))
    have HSm : Hid (∀ W, Below w4.heap.size w4 W → Calls Try.prog 14 #[.pointer (some ⟨L, 0, none⟩), .slice vq R.length vc] W fun e w' => e = .returned (.bool true) ∧ Below W.heap.size W w') := fun W hb => by
      have := same_any (HM4.out.later hb) (by show R.length ≤ _; omega) (fun z hz => Nat.le_trans (k3 z hz) (by omega)) vq R.length vc R (wantAt_of (HR4.out.later hb).log.2)
      rw [show decide (R = R) = true from decide_eq_true rfl] at this
      exact this
    have HRm : Hid (∀ W, Below w4.heap.size w4 W → Calls Try.prog 15 #[.pointer (some ⟨L, 0, none⟩)] W fun e w' => e = .returned (.int .i64 (((s : Nat) : Int) - ((A : Nat) : Int))) ∧ Below W.heap.size W w') := fun W hb => by
      have := (HM4.out.later hb).room ⟨by show f ≤ _; omega, by show s ≤ _; omega, k1, hgen, by show R.length ≤ _; omega, by omega⟩
      rw [show ((((⟨f, s, gen, A, R, false⟩ : Lg).n - (⟨f, s, gen, A, R, false⟩ : Lg).pos : Nat)) : Int) = ((s : Nat) : Int) - ((A : Nat) : Int) from Int.ofNat_sub k1] at this
      exact this
    have HF : Hid (∀ W, Below w4.heap.size w4 W → W.cell? ⟨L', 5, none⟩ = some (.slice vq R.length vc) ∧ W.cell? ⟨L', 4, none⟩ = some (.int .i64 (A : Nat))) := fun W hb => ⟨(HR4.out.later hb).log.1.cell (i := 5) rfl, (HR4.out.later hb).log.1.cell (i := 4) rfl⟩
    have hsw : IntKind.i64.wrap (((s : Nat) : Int) - ((A : Nat) : Int)) = ((s : Nat) : Int) - ((A : Nat) : Int) := by rw [IntKind.wrap_i64]; omega
    clear hb3 hb4 k3
    refine wp_region_held_drew (S := fun W => Below w4.heap.size w4 W) (by kernel_rfl) (Below.refl _ _).drew (fun hHeld => ?_)
    refine wpAnyH_takesAt 0 5 13 (of_decide_eq_true (by kernel_rfl)) rfl (fun _ _ _ d _ h => by cases d <;> exact h) (by kernel_rfl) (by kernel_rfl) hHeld ?_
    simp only [List.drop_zero, List.take_succ_cons, List.take_zero]
    iterate 5 (refine wpHeld_step (v := ?_) (by rfl) (fun wz hSw => ?_) ?_; rotate_left; (focus ((obtain ⟨hf1, hf2⟩ := HF.out wz hSw; clear hSw); go_simp; try with_reducible rfl)); (simp only [Act.put, List.setIfInBounds_toArray, List.set_cons_zero, List.set_cons_succ]))
    refine wpHeld_nil ?_
    refine wpAnyH_only (i := 5) (by kernel_rfl) rfl (fun K hK => ?_)
    rw [if_pos (by rfl)]
    go_simp
    refine (HSm.out _ hHeld).mono ?_
    rintro e w5 ⟨rfl, hb5⟩
    have hHeld5 : Below w4.heap.size w4 w5 := hHeld.trans (hb5.mono hHeld.size)
    refine hK.out _ _ hHeld5 ?_
    clear hK K hHeld
    have hHeld := hHeld5
    refine wpAnyH_takesAt 6 2 10 (of_decide_eq_true (by kernel_rfl)) rfl (fun _ _ _ d _ h => by cases d <;> exact h) (by kernel_rfl) (by kernel_rfl) hHeld ?_
    simp only [List.drop_succ_cons, List.drop_zero, List.take_succ_cons, List.take_zero]
    iterate 2 (refine wpHeld_step (v := ?_) (by rfl) (fun wz hSw => ?_) ?_; rotate_left; (focus ((try dsimp only at hSw); go_simp; try with_reducible rfl)); (simp only [Act.put, List.setIfInBounds_toArray, List.set_cons_zero, List.set_cons_succ]))
    refine wpHeld_nil ?_
    refine wpAnyH_takesAt 9 6 4 (of_decide_eq_true (by kernel_rfl)) rfl (fun _ _ _ d _ h => by cases d <;> exact h) (by kernel_rfl) (by kernel_rfl) hHeld ?_
    simp only [List.drop_succ_cons, List.drop_zero, List.take_succ_cons, List.take_zero]
    iterate 6 (refine wpHeld_step (v := ?_) (by rfl) (fun wz hSw => ?_) ?_; rotate_left; (focus ((obtain ⟨hf1, hf2⟩ := HF.out wz hSw; clear hSw); go_simp; try with_reducible rfl)); (simp only [Act.put, List.setIfInBounds_toArray, List.set_cons_zero, List.set_cons_succ]))
    refine wpHeld_nil ?_
    refine wpAnyH_only (i := 8) (by kernel_rfl) rfl (fun K hK => ?_)
    rw [if_pos (by rfl)]
    go_simp
    refine (HRm.out _ hHeld).mono ?_
    rintro e w6 ⟨rfl, hb6⟩
    have hHeld6 : Below w4.heap.size w4 w6 := hHeld.trans (hb6.mono hHeld.size)
    refine hK.out _ _ hHeld6 ?_
    clear hK K hHeld
    have hHeld := hHeld6
    refine wpAnyH_takesAt 15 3 0 (of_decide_eq_true (by kernel_rfl)) rfl (fun _ _ _ d _ h => by cases d <;> exact h) (by kernel_rfl) (by kernel_rfl) hHeld ?_
    simp only [List.drop_succ_cons, List.drop_zero, List.take_succ_cons, List.take_zero]
    iterate 3 (refine wpHeld_step (v := ?_) (by rfl) (fun wz hSw => ?_) ?_; rotate_left; (focus ((try dsimp only at hSw); go_simp; try with_reducible rfl)); (simp only [Act.put, List.setIfInBounds_toArray, List.set_cons_zero, List.set_cons_succ]))
    refine wpHeld_nil ?_
    refine wpAnyH_done (by kernel_rfl) ?_ _
    go_wp2
    go_ret
    exact ⟨rfl, HB4.out.trans (hHeld6.mono HB4.out.size)⟩
  · have hreg' : regB d.ss.length f s = false := by simpa using hreg
    have HOp : Hid (Calls Try.prog 12 #[.pointer (some ⟨p, 0, none⟩), .int .i64 f, .int .i64 s, .int .u32 (gen : Nat)] w2 fun e w' => e = .returned (.tuple #[.pointer none, .int .i64 1]) ∧ w' = w2) := open_not HBo.out.mine f s gen hs hf hreg'
    have HRo : Hid (Calls Try.prog 13 #[.pointer (some ⟨p', 0, none⟩), .int .i64 f, .int .i64 s, .int .u32 (gen : Nat)] w2 fun e w' => e = .returned (.tuple #[.pointer none, .int .i64 1]) ∧ w' = w2) := refOpen_not HBo.out.other f s gen hs hf hreg'
    clear hreg hreg'
    go_wp2_with (first
      | (go_at_call 12; refine HOp.out.mono ?_; rintro e w3 ⟨rfl, hw3⟩; obtain rfl := hw3.symm; clear hw3)
      | (go_at_call 13; refine HRo.out.mono ?_; rintro e w4 ⟨rfl, hw4⟩; obtain rfl := hw4.symm; clear hw4))
    go_ret
    exact ⟨rfl, HB2.out⟩
end Go.Proofs.Ytifjkkfienmdjaa
/-
  A row of slices of bytes that were handed in; what appending does to a log's numbers.
-/
namespace Go.Proofs.Ytifjkkfienmdjaa
open Go.RowKit Go.Shelf

abbrev Sl := Option Addr × Nat × Nat
def slV (x : Sl) : Value := .slice x.1 x.2.1 x.2.2
/-- A row of one's own, of slices. -/
def SlAt (n₀ : Nat) (W : World) (v : Value) (xs : List Sl) : Prop := W.ownsRow n₀ 25 1 v xs.length (xs.map slV)
theorem SlAt.nil (n₀ : Nat) (W : World) : SlAt n₀ W (.slice none 0 0) [] := World.ownsRow_nil _ _ _ _
theorem SlAt.slice {n₀ : Nat} {W : World} {v : Value} {xs : List Sl} (h : SlAt n₀ W v xs) : ∃ q c, v = .slice q xs.length c := slice_of_row h
theorem SlAt.own {n₀ : Nat} {W : World} {v : Value} {xs : List Sl} (h : SlAt n₀ W v xs) {k : Nat} (hk : v.ownBlock = some k) : n₀ ≤ k ∧ k < W.heap.size ∧ ∃ c fr, W.heap[k]? = some (Obj.cells c 25 fr) := ⟨(World.ownsRow.lt h k hk).1, (World.ownsRow.lt h k hk).2, row_tag h k hk⟩
theorem run_append_sl (w : World) (n₀ : Nat) (ty : TypeId) (v : Value) (xs : List Sl) (h : SlAt n₀ w v xs) (a : Addr) (c : Nat) (ys : List Sl) (hn : ∀ j, j < ys.length → w.cell? (a.add j) = some (slV (ys.getD j (none, 0, 0)))) (hlen : xs.length + ys.length ≤ 100000) (hbase : n₀ ≤ w.heap.size) :
    ∃ v' w', (Builtin.append_ #[39, 39] ty #[v, .slice (some a) ys.length c]).run Try.prog w = .ok v' w' ∧ SlAt n₀ w' v' (xs ++ ys) ∧ w.grownBy w' v.ownBlock ∧ KeepT 5 w w' ∧ (v'.ownBlock = v.ownBlock ∨ v'.ownBlock = some w.heap.size) := by
  obtain ⟨i0, hi, hz0, hz1, hz2⟩ := info_parts info25
  obtain ⟨v', w', hr, ho, hg, _, hb⟩ := run_append_own_at (P := Try.prog) w n₀ 39 ty 25 i0 _ 1 24 Try.underlying39 hi hz0 hz1 hz2 (by simp [Value.cells]) (by omega) v xs.length (xs.map slV) h a ys.length c (ys.map slV) (by simp) (fun j u hu => by
    have hj : j < ys.length := by
      have := (List.getElem?_eq_some_iff.1 hu).1
      simpa using this
    rw [hn j hj]
    rw [List.getElem?_map, List.getElem?_eq_getElem hj] at hu
    simp at hu
    rw [← hu, List.getD_eq_getElem?_getD, List.getElem?_eq_getElem hj]
    rfl) (fun u hu => by
    obtain ⟨x, _, rfl⟩ := List.mem_map.1 hu
    rfl) (by simp only [maxLen]; omega) (by omega) hbase
  refine ⟨v', w', hr, ?_, hg, KeepT.row (t := 5) hg h (by decide), hb⟩
  show w'.ownsRow n₀ 25 1 v' (xs ++ ys).length ((xs ++ ys).map slV)
  rw [List.length_append, List.map_append]
  exact ho
/-- Read as a list of records. -/
theorem SlAt.want {n₀ : Nat} {W : World} {q : Option Addr} {len c : Nat} {xs : List Sl} {ts : List (List Nat)} (h : SlAt n₀ W (.slice q len c) xs) (hl : ts.length = xs.length) (hx : ∀ i, i < xs.length → IsBytes W.heap.size W (xs.getD i (none, 0, 0)).1 (xs.getD i (none, 0, 0)).2.1 (xs.getD i (none, 0, 0)).2.2 (ts.getD i [])) : WantAt W q len c ts := by
  obtain ⟨q', c', e⟩ := h.slice
  cases e
  have hz : ∀ z ∈ ts, ∀ y ∈ z, y < 256 := fun z hz => by
    obtain ⟨i, hi, e⟩ := List.getElem_of_mem hz
    have hI := hx i (by omega)
    rw [List.getD_eq_getElem?_getD (l := ts), List.getElem?_eq_getElem hi, Option.getD_some, e] at hI
    exact hI.2.2.2.1
  rcases h.2 with ⟨e, h0⟩ | ⟨g, cap, cur, e, hbg, hg, hnc, hcm, hcs, ht⟩
  · injection e with e1 e2 e3
    exact ⟨hl, by omega, by omega, hz, .inl e2⟩
  · injection e with e1 e2 e3
    subst e1 e3
    refine ⟨hl, by omega, by simp only [maxLen] at hcm; omega, hz, .inr ⟨g, 0, rfl, (Array.getElem?_eq_some_iff.1 hg).1, fun i hi => ?_⟩⟩
    refine ⟨_, _, _, ?_, hx i hi⟩
    have := World.ownsRow.cellAt h i (by simpa using hi)
    rw [Nat.zero_add, this, List.getElem?_map, List.getElem?_eq_getElem hi, List.getD_eq_getElem?_getD, List.getElem?_eq_getElem hi]
    rfl
end Go.Proofs.Ytifjkkfienmdjaa
/-
  All records that were answered with OK are found behind a crash: the law's walk.
-/
namespace Go.Proofs.Ytifjkkfienmdjaa
open Go.RowKit Go.Shelf

theorem lists_of_want {W : World} {q : Option Addr} {len cap : Nat} {want : List (List Nat)} (h : WantAt W q len cap want) : ∃ vs : List Sl, IsLists W.heap.size W q len cap vs ∧ vs.length = want.length ∧ ∀ i, i < len → IsBytes W.heap.size W (vs.getD i (none, 0, 0)).1 (vs.getD i (none, 0, 0)).2.1 (vs.getD i (none, 0, 0)).2.2 (want.getD i []) := by
  obtain ⟨h1, h2, h3, h4, h5⟩ := h
  rcases h5 with h5 | ⟨b, off, rfl, hb, hc⟩
  · subst h5
    exact ⟨[], ⟨rfl, h2, h3, .inl rfl⟩, h1.symm, fun i hi => by omega⟩
  · have key : ∀ n, n ≤ len → ∃ vs : List Sl, vs.length = n ∧ ∀ i, i < n → W.cell? ⟨b, off + i, none⟩ = some (.slice (vs.getD i (none, 0, 0)).1 (vs.getD i (none, 0, 0)).2.1 (vs.getD i (none, 0, 0)).2.2) ∧ IsBytes W.heap.size W (vs.getD i (none, 0, 0)).1 (vs.getD i (none, 0, 0)).2.1 (vs.getD i (none, 0, 0)).2.2 (want.getD i []) := by
      intro n
      induction n with
      | zero => exact fun _ => ⟨[], rfl, fun i hi => by omega⟩
      | succ n ih =>
        intro hn
        obtain ⟨vs, hl, hv⟩ := ih (by omega)
        obtain ⟨qx, lx, cx, e1, e2⟩ := hc n (by omega)
        refine ⟨vs ++ [(qx, lx, cx)], by simp [hl], fun i hi => ?_⟩
        by_cases hin : i < n
        · have e : (vs ++ [((qx, lx, cx) : Sl)]).getD i (none, 0, 0) = vs.getD i (none, 0, 0) := by rw [List.getD_eq_getElem?_getD, List.getElem?_append_left (by omega), List.getD_eq_getElem?_getD]
          rw [e]
          exact hv i hin
        · obtain rfl : i = n := by omega
          have e : (vs ++ [((qx, lx, cx) : Sl)]).getD i (none, 0, 0) = (qx, lx, cx) := by rw [← hl]; simp
          rw [e]
          exact ⟨e1, e2⟩
    obtain ⟨vs, hl, hv⟩ := key len (Nat.le_refl _)
    exact ⟨vs, ⟨hl, h2, h3, .inr ⟨b, off, rfl, hb, fun i hi => (hv i hi).1⟩⟩, by omega, fun i hi => (hv i hi).2⟩
theorem crLow_w {F : List Nat} {W : World} {p g : Nat} {d : St} (h : DiskAt F W p g d) : CrLow W.heap.size W p 4 := by
  intro q len cap hc
  obtain ⟨h1, h2, h3, h4, h5, q', len', cap', h6, h7⟩ := h
  rw [h6.cell (i := 4) rfl] at hc
  cases hc
  rcases h7.2.2.2 with h | ⟨b, off, e, hl, _⟩
  · exact .inl h
  · exact .inr ⟨b, off, e, hl⟩
theorem SlAt.frame {n₀ : Nat} {W W' : World} {v : Value} {xs : List Sl} (h : SlAt n₀ W v xs) (hv : ∀ k, v.ownBlock = some k → W'.heap[k]? = W.heap[k]?) : SlAt n₀ W' v xs := by
  refine ⟨h.1, ?_⟩
  rcases h.2 with h0 | ⟨g, cap, cur, rfl, hbg, hg, hr⟩
  · exact .inl h0
  · exact .inr ⟨g, cap, cur, rfl, hbg, (hv g rfl).trans hg, hr⟩
theorem appL_nums {d : St} {l : Lg} {b : List Nat} (hb : b.length ≤ 400) (hp : l.pos ≤ l.n) : (appL d l b).2.1.wr ≤ d.wr + 20 ∧ (appL d l b).2.2.pos ≤ (appL d l b).2.2.n ∧ (appL d l b).2.2.recs.length ≤ l.recs.length + 1 := by
  have hsp := spanN_nat (n := b.length) (by omega)
  have hw := doW_wr (writesOf l.f l.n l.pos l.gen l.recs.length b) d
  have hl := writesOf_len l.f l.n l.pos l.gen l.recs.length b
  unfold appL
  split
  · exact ⟨by show d.wr ≤ _; omega, hp, by show l.recs.length ≤ _; omega⟩
  · split
    · exact ⟨by show d.wr ≤ _; omega, hp, by show l.recs.length ≤ _; omega⟩
    · split
      · exact ⟨by show d.wr ≤ _; omega, hp, by show l.recs.length ≤ _; omega⟩
      · split
        · exact ⟨by show (doW d _).2.wr ≤ _; omega, hp, by show l.recs.length ≤ _; omega⟩
        · refine ⟨by show (doW d _).2.wr ≤ _; omega, ?_, ?_⟩
          · show l.pos + spanN (b.length : Nat) ≤ l.n
            omega
          · show (l.recs ++ [b]).length ≤ _
            rw [List.length_append, List.length_singleton]
            omega
theorem scan_okW (ss : List (List Nat)) (f n gen : Nat) : ∀ (fuel at_ : Nat) (recs : List (List Nat)), at_ ≤ n → recs.length ≤ at_ → (∀ z ∈ recs, z.length ≤ 262144) →
    (scan ss f n gen fuel at_ recs).1 ≤ n ∧ (scan ss f n gen fuel at_ recs).2.length ≤ (scan ss f n gen fuel at_ recs).1 ∧ ∀ z ∈ (scan ss f n gen fuel at_ recs).2, z.length ≤ 262144
  | 0, at_, recs, h1, h2, h3 => ⟨h1, h2, h3⟩
  | fuel + 1, at_, recs, h1, h2, h3 => by
    rw [scan]
    by_cases hn : n ≤ at_
    · rw [if_pos hn]
      exact ⟨h1, h2, h3⟩
    · rw [if_neg hn]
      by_cases hc : (ss.getD (f + at_) []).drop 55 ≠ markL gen recs.length ∨ 262144 < numFrom (ss.getD (f + at_) []) 0 4 ∨ n - at_ < spanN (numFrom (ss.getD (f + at_) []) 0 4)
      · rw [if_pos hc]
        exact ⟨h1, h2, h3⟩
      · rw [if_neg hc]
        have c2 : numFrom (ss.getD (f + at_) []) 0 4 ≤ 262144 := Nat.not_lt.1 (fun h => hc (.inr (.inl h)))
        have c3 : spanN (numFrom (ss.getD (f + at_) []) 0 4) ≤ n - at_ := Nat.not_lt.1 (fun h => hc (.inr (.inr h)))
        have c4 := spanN_nat c2
        refine scan_okW ss f n gen fuel _ _ (by omega) (by rw [List.length_append, List.length_singleton]; omega) (fun z hz => ?_)
        rcases List.mem_append.1 hz with h | h
        · exact h3 z h
        · rw [List.mem_singleton] at h
          subst h
          rw [recB, List.length_take]
          omega
theorem run_append_nn (W : World) : (Builtin.append_ #[39, 39] 39 #[.slice none 0 0, .slice none 0 0]).run Try.prog W = .ok (.slice none 0 0) W := by
  first
    | rfl
    | (simp [Builtin.append_]; done)
    | (go_simp; done)
theorem run_append_all {n₀ : Nat} {W : World} {dq : Option Addr} {dc : Nat} {xs : List Sl} (h : SlAt n₀ W (.slice dq xs.length dc) xs) (hl : xs.length ≤ 1000) : ∃ q c W', (Builtin.append_ #[39, 39] 39 #[.slice none 0 0, .slice dq xs.length dc]).run Try.prog W = .ok (.slice q xs.length c) W' ∧ SlAt W.heap.size W' (.slice q xs.length c) xs ∧ Below W.heap.size W W' := by
  rcases h.2 with ⟨e, h0⟩ | ⟨g, cap, cur, e, hr⟩
  · injection e with e1 e2 e3
    have hx : xs = [] := List.eq_nil_of_length_eq_zero e2
    subst e1 e3 hx
    exact ⟨none, 0, W, run_append_nn W, SlAt.nil _ _, Below.refl _ _⟩
  · injection e with e1 e2 e3
    subst e1
    obtain ⟨v', W', a1, a2, a3, _, _⟩ := run_append_sl W W.heap.size 39 (.slice none 0 0) [] (SlAt.nil _ _) ⟨g, 0, none⟩ dc xs (fun j hj => by
      have := World.ownsRow.cellAt h j (by simpa using hj)
      rw [Addr.add_mid, Nat.zero_add, this, List.getElem?_map, List.getElem?_eq_getElem hj, List.getD_eq_getElem?_getD, List.getElem?_eq_getElem hj]
      rfl) (by simp; omega) (Nat.le_refl _)
    rw [List.nil_append] at a2
    obtain ⟨q, c, e⟩ := a2.slice
    subst e
    exact ⟨q, c, W', a1, a2, a3.os, a3.tape, a3.output, a3.size, fun k hk => a3.block k hk (by simp [Value.ownBlock])⟩
theorem run_both {n₀ : Nat} {W : World} {dq : Option Addr} {dc : Nat} {xs : List Sl} (h : SlAt n₀ W (.slice dq xs.length dc) xs) (hl : xs.length ≤ 1000) (qx : Option Addr) (lx cx : Nat) : ∃ q1 c1 W1 q2 c2 W2, (Builtin.append_ #[39, 39] 39 #[.slice none 0 0, .slice dq xs.length dc]).run Try.prog W = .ok (.slice q1 xs.length c1) W1 ∧ (Builtin.append_ #[39, 39] 39 #[.slice q1 xs.length c1, .slice (some ⟨W1.heap.size, 0, none⟩) 1 1]).run Try.prog (W1.alloc (.cells #[.slice qx lx cx] 25)) = .ok (.slice q2 (xs.length + 1) c2) W2 ∧ SlAt W.heap.size W2 (.slice q2 (xs.length + 1) c2) (xs ++ [(qx, lx, cx)]) ∧ Below W.heap.size W W2 := by
  obtain ⟨q1, c1, W1, r1, s1, b1⟩ := run_append_all h hl
  have hbA : Below W1.heap.size W1 (W1.alloc (.cells #[.slice qx lx cx] 25)) := (Below.refl _ _).alloc (Nat.le_refl _) _
  have hsz := b1.size
  have s1' : SlAt W.heap.size (W1.alloc (.cells #[.slice qx lx cx] 25)) (.slice q1 xs.length c1) xs := s1.frame (fun k hk => hbA.block k (s1.own hk).2.1)
  obtain ⟨v', W', a1, a2, a3, a4, a5⟩ := run_append_sl (W1.alloc (.cells #[.slice qx lx cx] 25)) W.heap.size 39 _ xs s1' ⟨W1.heap.size, 0, none⟩ 1 [(qx, lx, cx)] (fun i hi => by
    obtain rfl : i = 0 := by simpa using hi
    rw [Addr.add_mid]
    exact (Row.new W1 25 #[.slice qx lx cx]).cell (i := 0) rfl) (by simp; omega) (by simp; omega)
  obtain ⟨q2, c2, e⟩ := a2.slice
  rw [List.length_append, List.length_singleton] at e
  subst e
  refine ⟨q1, c1, W1, q2, c2, W', r1, a1, a2, (b1.trans (hbA.mono hsz)).trans ⟨a3.os, a3.tape, a3.output, a3.size, fun k hk => ?_⟩⟩
  refine a3.block k (by rw [World.size_alloc]; omega) (fun e => ?_)
  have := (s1'.own e.symm).1
  omega
theorem size45 : (Try.prog.info? 45).map (·.size) = some 2 := by kernel_rfl
theorem wrote_ok {d : St} {i : Nat} {s : List Nat} (h : d.wErr (i : Nat) = 0) : d.dead = false ∧ (d.write (i : Nat) s).dead = false ∧ (d.write (i : Nat) s).ss = d.ss.set i s ∧ (d.write (i : Nat) s).wr = d.wr + 1 := by
  have he : d.err (i : Nat) = 0 := by
    unfold St.wErr at h
    by_cases he : d.err (i : Nat) = 0
    · exact he
    · rw [if_pos he] at h; exact absurd h he
  have hst : d.strikes = false := by
    unfold St.wErr at h
    rw [if_neg (by simp [he])] at h
    cases hs : d.strikes with
    | false => rfl
    | true => rw [hs] at h; simp at h
  have hd := (err_zero he).1
  rw [write_eq_ok he hst]
  exact ⟨hd, hd, rfl, rfl⟩

set_option maxRecDepth 100000 in
set_option maxHeartbeats 8000000 in
theorem slogWhole_walk (q : Option Addr) (len cap : Nat) (zs : List Nat) (gen : Nat) (ql : Option Addr) (ll lc : Nat) (want : List (List Nat)) (ca ck : Int) (w : World) (hI : IsBytes w.heap.size w q len cap zs) (hgen : gen < 4294967296) (hW : WantAt w ql ll lc want) :
    Calls Try.prog 6 #[.slice q len cap, .int .u32 (gen : Nat), .slice ql ll lc, .agg #[.int .i64 ca, .int .i64 ck]] w fun e w' => e = .returned (.bool true) ∧ Below w.heap.size w w' := by
  obtain ⟨w1, hw1⟩ : ∃ w1, w.alloc (.cells #[.int .i64 ca, .int .i64 ck] 45) = w1 := ⟨_, rfl⟩
  have HW1 : Hid (w.alloc (.cells #[.int .i64 ca, .int .i64 ck] 45) = w1) := hw1
  have hb1 : Below w.heap.size w w1 := by rw [← hw1]; exact (Below.refl _ w).alloc (Nat.le_refl _) _
  have HR1 : Hid (Row w1 w.heap.size 45 [.int .i64 ca, .int .i64 ck]) := by rw [← hw1]; exact Row.new w 45 #[.int .i64 ca, .int .i64 ck]
  have HA : Hid (Calls Try.prog 8 #[] w1 fun e w' => e = .returned (.bool true) ∧ Below w1.heap.size w1 w') := awake_any w1
  obtain ⟨vs, hvs, hvl, hvb⟩ := lists_of_want hW
  have HVs : Hid (IsLists w.heap.size w ql ll lc vs) := hvs
  have HVb : Hid (∀ i, i < ll → IsBytes w.heap.size w (vs.getD i (none, 0, 0)).1 (vs.getD i (none, 0, 0)).2.1 (vs.getD i (none, 0, 0)).2.2 (want.getD i [])) := hvb
  have HWl : Hid (want.length = ll) := hW.1
  have HI : Hid (IsBytes w.heap.size w q len cap zs) := hI
  have HLn : Hid (zs.length = len) := hI.1
  have HZ : Hid (∀ z ∈ zs, z < 256) := hI.2.2.2.1
  have hlc := hI.2.1
  have hcc := hI.2.2.1
  have HFw : Hid (∀ W, Below w.heap.size w W → Calls Try.prog 16 #[.slice ql ll lc] W fun e w' => e = .returned (.bool (fewL vs)) ∧ w' = W) := fun W hb => few_any ql ll lc vs W (by
    obtain ⟨a1, a2, a3, a4⟩ := HVs.out
    refine ⟨a1, a2, a3, ?_⟩
    rcases a4 with h | ⟨b, off, e, hl, hc⟩
    · exact .inl h
    · exact .inr ⟨b, off, e, Nat.lt_of_lt_of_le hl hb.size, fun i hi => (hb.cell (p := ⟨b, off + i, none⟩) hl).trans (hc i hi)⟩)
  clear hw1 hvs hvb hI hW
  by_cases h4 : (4000 : Int) < (len : Int)
  · have g4 : decide ((4000 : Int) < (len : Int)) = true := decide_eq_true h4
    go_enter Try.func6, Try.ntmps6
    go_wp2_with (first
      | (rw [HW1.out])
      | (go_at_call 8; refine HA.out.mono ?_; rintro e w2 ⟨rfl, hb2⟩))
    go_ret
    exact ⟨rfl, hb1.trans (hb2.mono hb1.size)⟩
  have g4 : decide ((4000 : Int) < (len : Int)) = false := decide_eq_false h4
  by_cases hfew : fewL vs = true
  · have HN : Hid (∀ (W : World) (b : Nat), Row W b 45 [.int .i64 ca, .int .i64 ck] → Calls Try.prog 17 #[.int .i64 60, .slice (some ⟨b, 0, none⟩) 1 1] W fun e w' => ∃ p g, e = .returned (.pointer (some ⟨p, 0, none⟩)) ∧ W.heap.size ≤ p ∧ W.heap.size ≤ g ∧ DiskAt [p, g] w' p g (newS 60 [(ca, ck)]) ∧ Below W.heap.size W w') := fun W b hr => new_any 60 (cr := [(ca, ck)]) ⟨rfl, Nat.le_refl _, by omega, .inr ⟨b, 0, rfl, hr.lt, by simp, hr.range⟩⟩ (by omega)
    rw [hfew] at HFw
    have HFew : Hid (fewL vs = true) := hfew
    clear hfew
    go_enter Try.func6, Try.ntmps6
    go_wp2_with (first
      | (rw [HW1.out])
      | (go_at_call 8; refine HA.out.mono ?_; rintro e w2 ⟨rfl, hb2⟩; have hb02 : Below w.heap.size w w2 := hb1.trans (hb2.mono hb1.size); have HR2 : Hid (Row w2 w.heap.size 45 [.int .i64 ca, .int .i64 ck]) := HR1.out.later hb2)
      | (go_at_call 16; refine (HFw.out _ hb02).mono ?_; rintro e wq ⟨rfl, hwq⟩; obtain rfl := hwq.symm; clear hwq)
      | ((with_reducible show wpList _ _ _ (Oper.mk (some 32) (Op.load 45 (.tmp 7)) _ _ _ _ :: _) _ _); refine wpList_load_mid rfl 45 (.tmp 7) rfl w.heap.size 0 rfl [.int .i64 ca, .int .i64 ck] _ HR2.out.range Try.underlying45 rfl size45 ?_; simp only [Act.put, List.setIfInBounds_toArray, List.set_cons_zero, List.set_cons_succ])
      | (go_at_call 17; refine (HN.out _ w2.heap.size (Row.new w2 45 #[.int .i64 ca, .int .i64 ck])).mono ?_; rintro e w3 ⟨p, g, rfl, hp, hg, hD3, hb3⟩; have HD3 : Hid (DiskAt [p, g] w3 p g _) := hD3; clear hD3))
    have HB3 : Hid (Below w.heap.size w w3) := hb02.trans ((((Below.refl _ w2).alloc (Nat.le_refl _) _).trans (hb3.mono (by simp))).mono hb02.size)
    have hpw : w.heap.size ≤ p ∧ w.heap.size ≤ g := by
      rw [World.size_alloc] at hp hg
      have := hb02.size
      omega
    clear hp hg hb3
    go_loopw [10] (fun iv wr => ∃ (k : Nat) (d : St), k ≤ 60 ∧ iv = .int .i64 k ∧ DiskAt [p, g] wr p g d ∧ d.dead = false ∧ d.ss.length = 60 ∧ d.wr ≤ k ∧ Below w.heap.size w wr) (fun iv _ => 61 - (intOf iv).toNat)
    case atStart => exact ⟨0, newS 60 [(ca, ck)], by omega, rfl, HD3.out, rfl, by show (List.replicate (sizeS 60) zeros64).length = 60; rw [List.length_replicate]; decide, Nat.le_refl _, HB3.out⟩
    case round =>
      obtain ⟨k, d, hk60, rfl, hD, hdead, hd60, hwr, hbl⟩ := hrel
      have HD : Hid (DiskAt [p, g] wr p g d) := hD
      have HBl : Hid (Below w.heap.size w wr) := hbl
      clear hD hbl
      by_cases hlt : (k : Int) < 60
      · have g1 : decide ((k : Int) < 60) = true := decide_eq_true hlt
        by_cases hb64 : (64 : Int) * (k : Int) < (len : Int)
        · skip
          obtain ⟨bb, off, rfl, hbb, hcell⟩ : ∃ bb off, q = some ⟨bb, off, none⟩ ∧ bb < w.heap.size ∧ ∀ i, i < len → w.cell? ⟨bb, off + i, none⟩ = some (.int .u8 (zs.getD i 0 : Nat)) := by
            rcases HI.out.2.2.2.2 with h | h
            · omega
            · exact h
          obtain ⟨w5, HW5, hb5, hs5, hr5⟩ := new29 wr
          have HR5 : Hid (Row w5 wr.heap.size 55 (u8s zeros64)) := hr5
          have HSrc : Hid (∀ W, Below w.heap.size w W → ∀ j v, (u8s ((zs.drop (64 * k)).take 64))[j]? = some v → W.cell? ((⟨bb, off + 64 * k, none⟩ : Addr).add j) = some v) := fun W hb j v hj => by
            have hjl := (List.getElem?_eq_some_iff.1 hj).1
            rw [u8s_length, List.length_take, List.length_drop, HLn.out] at hjl
            obtain ⟨c, t, fr, e1, e2⟩ := cells_of_cell (hcell (64 * k + j) (by omega))
            have e3 := (hb.block bb hbb).trans e1
            have e4 : W.cell? ⟨bb, off + (64 * k + j), none⟩ = some (.int .u8 (zs.getD (64 * k + j) 0 : Nat)) := by simp [World.cell?, e3, e2]
            rw [Addr.add_mid, show off + 64 * k + j = off + (64 * k + j) by omega, e4, ← hj, u8s_at (by rw [List.length_take, List.length_drop, HLn.out]; omega)]
            rw [List.getD_eq_getElem?_getD (l := List.take _ _), List.getElem?_take, if_pos (by omega), List.getElem?_drop, ← List.getD_eq_getElem?_getD]
          have HLs : Hid ((u8s ((zs.drop (64 * k)).take 64)).length = Nat.min (len - 64 * k) 64) := by show _ = _; rw [u8s_length, List.length_take, List.length_drop, HLn.out]; exact Nat.min_comm _ _
          clear hcell hr5
          go_upto_region 10 with (rw [HW5.out])
          refine wp_region_held_drew (S := fun _ => True) (by kernel_rfl) trivial (fun hHeld => ?_)
          refine wpAnyH_takesAt 0 1 5 (of_decide_eq_true (by kernel_rfl)) rfl (fun _ _ _ d _ h => by cases d <;> exact h) (by kernel_rfl) (by kernel_rfl) hHeld ?_
          simp only [List.drop_zero, List.take_succ_cons, List.take_zero]
          iterate 1 (refine wpHeld_step (v := ?_) (by rfl) (fun wz hSw => ?_) ?_; rotate_left; (focus ((try dsimp only at hSw); go_simp; try with_reducible rfl)); ((simp only [Act.put]; (try simp only [List.setIfInBounds_toArray]); (try simp only [List.set_cons_succ]); (try simp only [List.set_cons_zero]))))
          refine wpHeld_nil ?_
          refine wpAnyH_takesAt 1 1 4 (of_decide_eq_true (by kernel_rfl)) rfl (fun _ _ _ d _ h => by cases d <;> exact h) (by kernel_rfl) (by kernel_rfl) hHeld ?_
          simp only [List.drop_succ_cons, List.drop_zero, List.take_succ_cons, List.take_zero]
          iterate 1 (refine wpHeld_step (v := ?_) (by rfl) (fun wz hSw => ?_) ?_; rotate_left; (focus ((try dsimp only at hSw); go_simp; try with_reducible rfl)); ((simp only [Act.put]; (try simp only [List.setIfInBounds_toArray]); (try simp only [List.set_cons_succ]); (try simp only [List.set_cons_zero]))))
          refine wpHeld_nil ?_
          refine wpAnyH_takesAt 2 1 3 (of_decide_eq_true (by kernel_rfl)) rfl (fun _ _ _ d _ h => by cases d <;> exact h) (by kernel_rfl) (by kernel_rfl) hHeld ?_
          simp only [List.drop_succ_cons, List.drop_zero, List.take_succ_cons, List.take_zero]
          iterate 1 (refine wpHeld_step (v := ?_) (by rfl) (fun wz hSw => ?_) ?_; rotate_left; (focus ((try dsimp only at hSw); go_simp; try with_reducible rfl)); ((simp only [Act.put]; (try simp only [List.setIfInBounds_toArray]); (try simp only [List.set_cons_succ]); (try simp only [List.set_cons_zero]))))
          refine wpHeld_nil ?_
          refine wpAnyH_takesAt 3 1 2 (of_decide_eq_true (by kernel_rfl)) rfl (fun _ _ _ d _ h => by cases d <;> exact h) (by kernel_rfl) (by kernel_rfl) hHeld ?_
          simp only [List.drop_succ_cons, List.drop_zero, List.take_succ_cons, List.take_zero]
          iterate 1 (refine wpHeld_step (v := ?_) (by rfl) (fun wz hSw => ?_) ?_; rotate_left; (focus ((try dsimp only at hSw); go_simp; try with_reducible rfl)); ((simp only [Act.put]; (try simp only [List.setIfInBounds_toArray]); (try simp only [List.set_cons_succ]); (try simp only [List.set_cons_zero]))))
          refine wpHeld_nil ?_
          have hne : ¬ cap = 64 * k := by omega
          have hk64 : 64 * k ≤ len := by omega
          refine wpAnyH_takesAt 4 1 1 (of_decide_eq_true (by kernel_rfl)) rfl (fun _ _ _ d _ h => by cases d <;> exact h) (by kernel_rfl) (by kernel_rfl) hHeld ?_
          simp only [List.drop_succ_cons, List.drop_zero, List.take_succ_cons, List.take_zero]
          refine wpHeld_step (v := .slice (some ⟨bb, off + 64 * k, none⟩) (len - 64 * k) (cap - 64 * k)) (by rfl) (fun wz hSw => ?_) ?_
          · clear hSw
            have hwp : IntKind.i64.wrap (64 * (k : Int)) = ((64 * k : Nat) : Int) := by rw [IntKind.wrap_i64]; omega
            go_simp
            rw [if_pos (by omega), show (64 * (k : Int)).toNat = 64 * k by omega, if_neg hne]
          simp only [Act.put]
          (try simp only [List.setIfInBounds_toArray])
          (try simp only [List.set_cons_succ])
          (try simp only [List.set_cons_zero])
          refine wpHeld_nil ?_
          have hB5 : Below w.heap.size w w5 := HBl.out.trans (hb5.mono HBl.out.size)
          refine wpAnyH_only (i := 5) (by kernel_rfl) rfl (fun K hK => ?_)
          rw [if_pos (by rfl)]
          refine wp_copy_but (.tmp 46) (.tmp 50) 25 25 rfl 5 Try.underlying25 size5 wr.heap.size 0 64 64 ⟨bb, off + 64 * k, none⟩ (len - 64 * k) (cap - 64 * k) rfl rfl _ 55 HR5.out.drew (u8s ((zs.drop (64 * k)).take 64)) HLs.out (HSrc.out _ hB5.drew) (by rw [u8s_length, u8s_length, List.length_take, List.length_drop, HLn.out]; simp [zeros64]; omega) (u8s_one _) (fun w6 hrow hbut => ?_)
          refine hK.out _ _ trivial ?_
          clear hK K hHeld
          simp only [Act.put, List.setIfInBounds_toArray]
          refine wpAnyH_done (by kernel_rfl) ?_ _
          rw [splice_u8s] at hrow
          have hb56 : Below wr.heap.size wr w6 := ⟨hbut.os.trans hb5.os, hbut.tape.trans hb5.tape, hbut.output.trans hb5.output, Nat.le_trans hb5.size hbut.size, fun i hi => (hbut.block i (by show i < w5.heap.size; omega) (by omega)).trans (hb5.block i hi)⟩
          have HR6 : Hid (Row w6 wr.heap.size 55 (u8s (secZ zs k))) := hrow
          have HD6 : Hid (DiskAt [p, g] w6 p g d) := HD.out.later hb56
          have HBl6 : Hid (Below w.heap.size w w6) := HBl.out.trans (hb56.mono HBl.out.size)
          have hxs := secZ_sec HZ.out k
          obtain ⟨e0, he0⟩ : ∃ e0, d.wErr (k : Nat) = e0 := ⟨_, rfl⟩
          have HWm : Hid (Calls Try.prog 25 #[.pointer (some ⟨p, 0, none⟩), .int .i64 (k : Nat), .agg (u8s (secZ zs k)).toArray] w6 fun e w' => e = .returned (.int .i64 e0) ∧ DiskAt [p, g] w' p g (d.write (k : Nat) (secZ zs k)) ∧ Buts [p, g] w6.heap.size w6 w') := by
            have := write_any HD6.out (k : Nat) hxs (by omega)
            rw [he0] at this
            exact this
          have HLx : Hid ((u8s (secZ zs k)).length = 64) := by show _ = _; rw [u8s_length]; exact hxs.1
          have HE0 : Hid (d.wErr (k : Nat) = e0) := he0
          clear hrow hbut hb56 hxs hB5 hb5 he0
          generalize u8s (secZ zs k) = X at *
          by_cases hz0 : e0 = 0
          · subst hz0
            obtain ⟨_, a2, a3, a4⟩ := wrote_ok (s := secZ zs k) HE0.out
            go_wp2_with (first
              | ((with_reducible show wpList _ _ _ (Oper.mk (some 54) (Op.load 55 (.tmp 11)) _ _ _ _ :: _) _ _); refine wpList_load_Row rfl 55 (.tmp 11) rfl rfl HR6.out Try.underlying55 (by rw [HLx.out]; exact size55) ?_; simp only [Act.put, List.setIfInBounds_toArray, List.set_cons_zero, List.set_cons_succ])
              | (go_at_call 25; refine HWm.out.mono ?_; rintro e w7 ⟨rfl, hD7, hb7⟩; have HD7 : Hid (DiskAt [p, g] w7 p g _) := hD7; clear hD7))
            exact ⟨⟨k + 1, _, by omega, by simp, HD7.out, a2, by rw [a3, List.length_set]; exact hd60, by rw [a4]; omega, HBl6.out.trans (hb7.below HBl6.out.size (by simp; omega))⟩, by simp [intOf]; omega⟩
          · go_wp2_with (first
              | ((with_reducible show wpList _ _ _ (Oper.mk (some 54) (Op.load 55 (.tmp 11)) _ _ _ _ :: _) _ _); refine wpList_load_Row rfl 55 (.tmp 11) rfl rfl HR6.out Try.underlying55 (by rw [HLx.out]; exact size55) ?_; simp only [Act.put, List.setIfInBounds_toArray, List.set_cons_zero, List.set_cons_succ])
              | (go_at_call 25; refine HWm.out.mono ?_; rintro e w7 ⟨rfl, hD7, hb7⟩))
            (try rw [Exit.noGoto_ret])
            refine bodyPost_ret (results_tmp rfl _ _ _) rfl ?_
            exact ⟨rfl, HBl6.out.trans (hb7.below HBl6.out.size (by simp; omega))⟩
        · have g2 : decide ((64 : Int) * (k : Int) < (len : Int)) = false := decide_eq_false hb64
          obtain ⟨e0, he0⟩ : ∃ e0, d.wErr ((0 : Nat) : Int) = e0 := ⟨_, rfl⟩
          have HFo : Hid (Calls Try.prog 19 #[.pointer (some ⟨p, 0, none⟩), .int .i64 0, .int .i64 60, .int .u32 (gen : Nat)] wr fun e w' => e = .returned (.int .i64 e0) ∧ DiskAt [p, g] w' p g (d.write ((0 : Nat) : Int) zeros64) ∧ Buts [p, g] wr.heap.size wr w') := by
            have := format_any HD.out ((0 : Nat) : Int) 60 gen (by omega) (by omega) (by omega)
            rw [hd60, show regB 60 ((0 : Nat) : Int) 60 = true by decide, if_pos rfl, if_pos rfl, he0] at this
            exact this
          have HE0 : Hid (d.wErr ((0 : Nat) : Int) = e0) := he0
          clear he0
          by_cases hz0 : e0 = 0
          · subst hz0
            obtain ⟨_, b2, b3, b4⟩ := wrote_ok (s := zeros64) HE0.out
            obtain ⟨d1, hd1⟩ : ∃ d1, d.write ((0 : Nat) : Int) zeros64 = d1 := ⟨_, rfl⟩
            rw [hd1] at HFo b2 b3 b4
            have hl1 : d1.ss.length = 60 := by rw [b3, List.length_set]; exact hd60
            have hgz : d1.ss.getD 0 [] = zeros64 := by rw [b3, List.getD_eq_getElem?_getD, List.getElem?_set_self (by omega), Option.getD_some]
            have hg0 : (d1.ss.getD 0 []).getD 63 0 ≠ 165 := by
              rw [hgz]
              decide
            have HOp : Hid (∀ W, DiskAt [p, g] W p g d1 → Calls Try.prog 12 #[.pointer (some ⟨p, 0, none⟩), .int .i64 0, .int .i64 60, .int .u32 (gen : Nat)] W fun e w' => ∃ L v, e = .returned (.tuple #[.pointer (some ⟨L, 0, none⟩), .int .i64 0]) ∧ W.heap.size ≤ L ∧ (∀ k, v.ownBlock = some k → W.heap.size ≤ k) ∧ Below W.heap.size W w' ∧ MSt [p, g] W.heap.size w' L p g v d1 ⟨0, 60, gen, 0, [], false⟩) := fun W h => by
              have := open_live h (crLow_w h) h.lt (Nat.le_refl _) 0 60 gen (by omega) (by omega) hgen b2 (by omega)
              rw [scan_fresh hg0] at this
              exact this
            clear hd1
            go_wp2_with (first
              | (go_at_call 19; refine HFo.out.mono ?_; rintro e w8 ⟨rfl, hD8, hb8⟩; have HD8 : Hid (DiskAt [p, g] w8 p g d1) := hD8; clear hD8)
              | (go_at_call 12; refine (HOp.out _ HD8.out).mono ?_; rintro e w9 ⟨L, v, rfl, hL, hv9, hb9, hM9⟩; have HM9 : Hid (MSt [p, g] w8.heap.size w9 L p g v d1 ⟨0, 60, gen, 0, [], false⟩) := hM9; clear hM9))
            have HInv : Hid (Run.Inv 0 60 gen ⟨d1, ⟨0, 60, gen, 0, [], false⟩, [], none⟩) := ⟨HD8.out.1, ⟨rfl, rfl, rfl⟩, by show 0 + 60 ≤ d1.ss.length; omega, .inl ⟨rfl, b2, rfl, rfl, ⟨rfl, fun _ => hg0⟩⟩⟩
            have hB8 : Below w.heap.size w w8 := HBl.out.trans (hb8.below HBl.out.size (by simp; omega))
            have HB9 : Hid (Below w.heap.size w w9) := hB8.trans (hb9.mono hB8.size)
            have hs8 := hB8.size
            clear hgz hg0 hb8 hb9 hB8 HOp HFo HE0
            go_loopw [14, 15, 16, 71] (fun dv nv bv iv wy => ∃ (j : Nat) (r : Run) (v : Value) (xs : List Sl) (x : Sl) (dq : Option Addr) (dc : Nat), j ≤ ll ∧ iv = .int .i64 j ∧ nv = slV x ∧ bv = .bool r.next.isSome ∧ dv = .slice dq xs.length dc ∧ r.Inv 0 60 gen ∧ MSt [p, g] w8.heap.size wy L p g v r.d r.l ∧ r.l.pos ≤ r.l.n ∧ r.l.recs.length ≤ j ∧ r.d.wr ≤ 61 + 20 * j ∧ SlAt w8.heap.size wy (.slice dq xs.length dc) xs ∧ xs.length = r.done.length ∧ xs.length ≤ j ∧
              (∀ i, i < xs.length → IsBytes w.heap.size w (xs.getD i (none, 0, 0)).1 (xs.getD i (none, 0, 0)).2.1 (xs.getD i (none, 0, 0)).2.2 (r.done.getD i [])) ∧ (∀ y, r.next = some y → IsBytes w.heap.size w x.1 x.2.1 x.2.2 y) ∧ (∀ k, (Value.slice dq xs.length dc).ownBlock = some k → v.ownBlock ≠ some k) ∧ (∀ k, v.ownBlock = some k → w.heap.size ≤ k) ∧ Below w.heap.size w wy) (fun _ _ _ iv _ => ll - (intOf iv).toNat)
            case atStart => exact ⟨0, _, v, [], (none, 0, 0), none, 0, Nat.zero_le _, rfl, rfl, rfl, rfl, HInv.out, HM9.out, by show 0 ≤ 60; omega, Nat.le_refl _, by show d1.wr ≤ _; omega, SlAt.nil _ _, rfl, Nat.le_refl _, fun i hi => by simp at hi, fun y hy => by simp at hy, fun k hk => by simp [Value.ownBlock] at hk, fun k hk => Nat.le_trans hs8 (hv9 k hk), HB9.out⟩
            case round =>
              obtain ⟨j, r, v, xs, x, dq, dc, hj, rfl, rfl, rfl, rfl, hinv, hM, hpos, hrc, hwr2, hsl, hxl, hxj, hxb, hnx, hov, hvw, hbl⟩ := hrel
              have HXl : Hid (xs.length = r.done.length) := hxl
              clear hxl
              have hln := hM.low
              have hlt3 := hM.lt
              have hsz := hbl.size
              obtain ⟨hal, hl20⟩ : (∀ v ∈ vs, v.2.1 ≤ 400) ∧ vs.length ≤ 20 := by
                have := HFew.out
                simp only [fewL, Bool.and_eq_true, List.all_eq_true, decide_eq_true_eq] at this
                exact this
              have hvl2 : vs.length = ll := HVs.out.1
              by_cases hlt : j < ll
              · have hji : ((j : Nat) : Int) < (ll : Nat) := by omega
                obtain ⟨y, hy⟩ : ∃ y, vs.getD j (none, 0, 0) = y := ⟨_, rfl⟩
                obtain ⟨qx, lx, cx⟩ := y
                obtain ⟨b0, hb0⟩ : ∃ b0, want.getD j [] = b0 := ⟨_, rfl⟩
                have hIx : IsBytes w.heap.size w qx lx cx b0 := by
                  have := HVb.out j hlt
                  rw [hy, hb0] at this
                  exact this
                have hx4 : lx ≤ 400 := by
                  have hm : vs.getD j (none, 0, 0) ∈ vs := by
                    rw [List.getD_eq_getElem?_getD, List.getElem?_eq_getElem (by omega), Option.getD_some]
                    exact List.getElem_mem _
                  rw [hy] at hm
                  exact hal _ hm
                have hzl : b0.length = lx := hIx.1
                obtain ⟨lb, loff, rfl, hlb, hcl⟩ := HVs.out.2.2.2.resolve_left (by omega)
                have hcx : wr.cell? ⟨lb, loff + j, none⟩ = some (.slice qx lx cx) := by
                  have := hcl j hlt
                  rw [hy] at this
                  exact (hbl.cell (p := ⟨lb, loff + j, none⟩) hlb).trans this
                obtain ⟨e0, he0⟩ : ∃ e0, (appL r.d r.l b0).1 = e0 := ⟨_, rfl⟩
                obtain ⟨hr1, hr2, hr3⟩ := hinv.reg
                obtain ⟨n1, n2, n3⟩ := appL_nums (d := r.d) (l := r.l) (b := b0) (by omega) hpos
                have HIn' : Hid ((r.step b0).Inv 0 60 gen) := hinv.step (by omega) hIx.2.2.2.1
                have HAp : Hid (Calls Try.prog 21 #[.pointer (some ⟨L, 0, none⟩), .slice qx lx cx] wr fun e w' => ∃ v', e = .returned (.int .i64 e0) ∧ MSt [p, g] w8.heap.size w' L p g v' (r.step b0).d (r.step b0).l ∧ Buts (L :: p :: g :: ownL v) wr.heap.size wr w' ∧ (∀ k, v'.ownBlock = some k → v.ownBlock = some k ∨ wr.heap.size ≤ k)) := by
                  have := append_any hM ⟨by omega, by omega, hpos, by omega, by omega, by omega⟩ qx lx cx b0 (hIx.below hbl) hsz (fun hp0 b off e => by
                    rcases hIx.2.2.2.2 with h0 | ⟨b', off', e', hb', _⟩
                    · omega
                    · rw [e] at e'; cases e'; omega) (by omega) (by omega) (by omega)
                  exact this.mono fun e w' ⟨v', a1, a2, a3, _, a5⟩ => ⟨v', by rw [he0] at a1; exact a1, a2, a3, a5⟩
                have HFr : Hid (∀ (v' : Value) (W : World), Buts (L :: p :: g :: ownL v) wr.heap.size wr W → (∀ k, v'.ownBlock = some k → v.ownBlock = some k ∨ wr.heap.size ≤ k) → SlAt w8.heap.size W (.slice dq xs.length dc) xs ∧ (∀ k, (Value.slice dq xs.length dc).ownBlock = some k → v'.ownBlock ≠ some k) ∧ (∀ k, v'.ownBlock = some k → w.heap.size ≤ k) ∧ Below w.heap.size w W) := fun v' W hb hv' => by
                  refine ⟨hsl.frame (fun k hk => hb.block k (hsl.own hk).2.1 (fun hx => ?_)), fun k hk hk' => ?_, fun k hk => ?_, hbl.trans (hb.below hsz (fun x hx => ?_))⟩
                  · obtain ⟨c1, c2, c3⟩ := hM.rows
                    obtain ⟨_, _, _, _, eK⟩ := hsl.own hk
                    simp only [List.mem_cons] at hx
                    rcases hx with rfl | rfl | rfl | h
                    · obtain ⟨_, _, e⟩ := c3
                      exact absurd rfl (tag_ne eK e (by decide))
                    · obtain ⟨_, _, e⟩ := c1
                      exact absurd rfl (tag_ne eK e (by decide))
                    · obtain ⟨_, _, e⟩ := c2
                      exact absurd rfl (tag_ne eK e (by decide))
                    · exact hov k hk (mem_ownL.1 h)
                  · have := (hsl.own hk).2.1
                    rcases hv' k hk' with h | h
                    · exact hov k hk h
                    · omega
                  · rcases hv' k hk with h | h
                    · exact hvw k h
                    · omega
                  · simp only [List.mem_cons] at hx
                    rcases hx with rfl | rfl | rfl | h
                    · omega
                    · omega
                    · omega
                    · exact hvw x (mem_ownL.1 h)
                have HRl : Hid ((r.step b0).l.pos ≤ (r.step b0).l.n ∧ (r.step b0).l.recs.length ≤ j + 1 ∧ (r.step b0).d.wr ≤ 61 + 20 * (j + 1)) := ⟨n2, Nat.le_trans n3 (by omega), Nat.le_trans n1 (by omega)⟩
                have HDn : Hid ((r.step b0).done = if e0 = 0 then r.done ++ [b0] else r.done) := by show (if (appL r.d r.l b0).1 = 0 then _ else _) = _; rw [he0]
                have HNt : Hid ((r.step b0).next = if e0 = 131 then some b0 else r.next) := by show (if (appL r.d r.l b0).1 = 131 then _ else _) = _; rw [he0]
                have HRn : Hid (∀ W, SlAt w8.heap.size W (.slice dq xs.length dc) xs → w8.heap.size ≤ W.heap.size → ∃ dq' dc' W', (Builtin.append_ #[39, 39] 39 #[.slice dq xs.length dc, .slice (some ⟨W.heap.size, 0, none⟩) 1 1]).run Try.prog (W.alloc (.cells #[.slice qx lx cx] 25)) = .ok (.slice dq' (xs.length + 1) dc') W' ∧ SlAt w8.heap.size W' (.slice dq' (xs.length + 1) dc') (xs ++ [(qx, lx, cx)]) ∧ Buts (ownL (.slice dq xs.length dc)) W.heap.size W W' ∧ KeepT 5 W W' ∧ (∀ k, (Value.slice dq' (xs.length + 1) dc').ownBlock = some k → (Value.slice dq xs.length dc).ownBlock = some k ∨ W.heap.size ≤ k)) := fun W hs hn => by
                  have hbA : Below W.heap.size W (W.alloc (.cells #[.slice qx lx cx] 25)) := (Below.refl _ _).alloc (Nat.le_refl _) _
                  obtain ⟨v', W', a1, a2, a3, a4, a5⟩ := run_append_sl (W.alloc (.cells #[.slice qx lx cx] 25)) w8.heap.size 39 _ xs (hs.frame (fun k hk => hbA.block k (hs.own hk).2.1)) ⟨W.heap.size, 0, none⟩ 1 [(qx, lx, cx)] (fun i hi => by
                    obtain rfl : i = 0 := by simpa using hi
                    rw [Addr.add_mid]
                    exact (Row.new W 25 #[.slice qx lx cx]).cell (i := 0) rfl) (by simp; omega) (by simp; omega)
                  obtain ⟨dq', dc', e⟩ := a2.slice
                  rw [List.length_append, List.length_singleton] at e
                  subst e
                  refine ⟨dq', dc', W', a1, a2, (Buts.of_below hbA (Nat.le_refl _)).trans (Buts.mono ⟨a3.os, a3.tape, a3.output, a3.size, fun k hk hS => a3.block k hk (fun e => hS (mem_ownL.2 e.symm))⟩ (fun _ h => h) hbA.size), (KeepT.of_below hbA).trans a4, fun k hk => ?_⟩
                  rcases a5 with e | e
                  · rw [e] at hk
                    exact .inl hk
                  · rw [e, World.size_alloc] at hk
                    cases hk
                    exact .inr (by omega)
                have HXb : Hid (∀ i, i < xs.length → IsBytes w.heap.size w (xs.getD i (none, 0, 0)).1 (xs.getD i (none, 0, 0)).2.1 (xs.getD i (none, 0, 0)).2.2 (r.done.getD i [])) := hxb
                have HNx : Hid (∀ y, r.next = some y → IsBytes w.heap.size w x.1 x.2.1 x.2.2 y) := hnx
                have HIx : Hid (IsBytes w.heap.size w qx lx cx b0) := hIx
                clear hinv hM hrc hwr2 hsl hxb hnx hov hvw hbl hal hcl hb0 hy hIx he0 n1 n2 n3
                by_cases hz0 : e0 = 0
                · subst hz0
                  go_wp2_with (first
                    | (go_at_call 21; refine HAp.out.mono ?_; rintro e wa ⟨v', rfl, hMa, hba, hva⟩; obtain ⟨hsla, hova, hvwa, hbla⟩ := HFr.out v' wa hba hva; have HMa : Hid (MSt [p, g] w8.heap.size wa L p g v' (r.step b0).d (r.step b0).l) := hMa; obtain ⟨dq', dc', wb, hrun, hslb, hbb, hk5, howb⟩ := HRn.out wa hsla (by have := hba.size; omega); have HRun : Hid (_ = _) := hrun; clear hrun)
                    | (at_builtin; refine wpList_plain rfl fun K hK => wp_append_of (.tmp 80) (.tmp 82) 39 rfl rfl rfl HRun.out (hK _ _ ?_)))
                  have hsa := hba.size
                  have hsb := hbb.size
                  have HMb : Hid (MSt [p, g] w8.heap.size wb L p g v' (r.step b0).d (r.step b0).l) := by
                    obtain ⟨c1, c2, c3⟩ := HMa.out.rows
                    have hne : ∀ k t c fr, (Value.slice dq xs.length dc).ownBlock = some k → t ≠ 25 → ∀ z, wa.heap[z]? = some (Obj.cells c t fr) → z ∉ ownL (Value.slice dq xs.length dc) := fun k t c fr hk ht z hz hx => by
                      obtain ⟨_, _, _, _, eK⟩ := hsla.own (mem_ownL.1 hx)
                      exact absurd rfl (tag_ne eK hz (fun e => ht e.symm))
                    refine HMa.out.frame hbb (fun hx => ?_) (fun hx => ?_) (fun hx => ?_) (fun k hk hx => hova k (mem_ownL.1 hx) hk) (fun z hz => .inr (hsla.own (mem_ownL.1 hz)).1) hk5
                    · obtain ⟨_, _, e⟩ := c1
                      exact hne _ _ _ _ (mem_ownL.1 hx) (by decide) _ e hx
                    · obtain ⟨_, _, e⟩ := c2
                      exact hne _ _ _ _ (mem_ownL.1 hx) (by decide) _ e hx
                    · obtain ⟨_, _, e⟩ := c3
                      exact hne _ _ _ _ (mem_ownL.1 hx) (by decide) _ e hx
                  refine ⟨⟨j + 1, r.step b0, v', xs ++ [(qx, lx, cx)], x, dq', dc', by omega, by go_num, rfl, by rw [HNt.out, if_neg (by decide)], by rw [List.length_append, List.length_singleton], HIn'.out, HMb.out, HRl.out.1, HRl.out.2.1, HRl.out.2.2, by rw [List.length_append, List.length_singleton]; exact hslb, by rw [HDn.out, if_pos (by simp), List.length_append, List.length_append, HXl.out, List.length_singleton, List.length_singleton], by rw [List.length_append, List.length_singleton]; omega, fun i hi => ?_, fun y hy => by rw [HNt.out, if_neg (by decide)] at hy; exact HNx.out y hy, fun k hk hk' => ?_, hvwa, hbla.trans (hbb.below (by have := hbla.size; omega) (fun z hz => by have := (hsla.own (mem_ownL.1 hz)).1; omega))⟩, by simp [intOf]; omega⟩
                  · rw [HDn.out, if_pos (by simp)]
                    rw [List.length_append, List.length_singleton] at hi
                    by_cases hi2 : i < xs.length
                    · have e1 : (xs ++ [((qx, lx, cx) : Sl)]).getD i (none, 0, 0) = xs.getD i (none, 0, 0) := by rw [List.getD_eq_getElem?_getD, List.getElem?_append_left hi2, List.getD_eq_getElem?_getD]
                      have e2 : (r.done ++ [b0]).getD i [] = r.done.getD i [] := by rw [List.getD_eq_getElem?_getD, List.getElem?_append_left (by have := HXl.out; omega), List.getD_eq_getElem?_getD]
                      rw [e1, e2]
                      exact HXb.out i hi2
                    · obtain rfl : i = xs.length := by omega
                      have e1 : (xs ++ [((qx, lx, cx) : Sl)]).getD xs.length (none, 0, 0) = (qx, lx, cx) := by simp
                      have e2 : (r.done ++ [b0]).getD xs.length [] = b0 := by rw [HXl.out]; simp
                      rw [e1, e2]
                      exact HIx.out
                  · rw [List.length_append, List.length_singleton] at hk
                    rcases howb k hk with h | h
                    · exact hova k h hk'
                    · have := (HMa.out.own hk').2.1
                      omega
                · by_cases hz1 : e0 = 131
                  · subst hz1
                    go_wp2_with (go_at_call 21; refine HAp.out.mono ?_; rintro e wa ⟨v', rfl, hMa, hba, hva⟩; obtain ⟨hsla, hova, hvwa, hbla⟩ := HFr.out v' wa hba hva)
                    refine ⟨⟨j + 1, r.step b0, v', xs, (qx, lx, cx), dq, dc, by omega, by go_num, rfl, by rw [HNt.out]; rfl, rfl, HIn'.out, hMa, HRl.out.1, HRl.out.2.1, HRl.out.2.2, hsla, by rw [HDn.out, if_neg (by decide)]; exact HXl.out, by omega, by rw [HDn.out, if_neg (by decide)]; exact HXb.out, fun y hy => by rw [HNt.out, if_pos (by simp)] at hy; cases hy; exact HIx.out, hova, hvwa, hbla⟩, by simp [intOf]; omega⟩
                  · go_wp2_with (go_at_call 21; refine HAp.out.mono ?_; rintro e wa ⟨v', rfl, hMa, hba, hva⟩; obtain ⟨hsla, hova, hvwa, hbla⟩ := HFr.out v' wa hba hva)
                    refine ⟨⟨j + 1, r.step b0, v', xs, x, dq, dc, by omega, by go_num, rfl, by rw [HNt.out, if_neg hz1], rfl, HIn'.out, hMa, HRl.out.1, HRl.out.2.1, HRl.out.2.2, hsla, by rw [HDn.out, if_neg hz0]; exact HXl.out, by omega, by rw [HDn.out, if_neg hz0]; exact HXb.out, fun y hy => by rw [HNt.out, if_neg hz1] at hy; exact HNx.out y hy, hova, hvwa, hbla⟩, by simp [intOf]; omega⟩
              · have hji : ¬ ((j : Nat) : Int) < (ll : Nat) := by omega
                have HD : Hid (DiskAt [p, g] wr p g r.d) := hM.disk
                have hfit : 60 ≤ r.d.ss.length := by have := hinv.fits; omega
                have HFd : Hid ((scan r.d.ss 0 60 gen (60 + 1) 0 []).2 = r.done ∨ ∃ x, r.next = some x ∧ (scan r.d.ss 0 60 gen (60 + 1) 0 []).2 = r.done ++ [x]) := hinv.found (by omega)
                obtain ⟨k1, k2, k3⟩ := scan_okW r.d.ss 0 60 gen (60 + 1) 0 [] (by omega) (by simp) (by simp)
                have HSta : Hid (Calls Try.prog 23 #[.pointer (some ⟨p, 0, none⟩)] wr fun e w' => (∃ v, e = .returned v) ∧ DiskAt [p, g] w' p g r.d.start ∧ Buts [p, g] wr.heap.size wr w') := start_any hM.disk
                have HOp2 : Hid (∀ W, DiskAt [p, g] W p g r.d.start → Calls Try.prog 12 #[.pointer (some ⟨p, 0, none⟩), .int .i64 0, .int .i64 60, .int .u32 (gen : Nat)] W fun e w' => ∃ L v, e = .returned (.tuple #[.pointer (some ⟨L, 0, none⟩), .int .i64 0]) ∧ Below W.heap.size W w' ∧ MSt [p, g] W.heap.size w' L p g v r.d.start ⟨0, 60, gen, (scan r.d.ss 0 60 gen (60 + 1) 0 []).1, (scan r.d.ss 0 60 gen (60 + 1) 0 []).2, false⟩) := fun W h =>
                  (open_live h (crLow_w h) h.lt (Nat.le_refl _) 0 60 gen (by omega) (by show 0 + 60 ≤ r.d.ss.length; omega) hgen rfl (by show 0 ≤ _; omega)).mono fun e w' ⟨L, v, a1, _, _, a4, a5⟩ => ⟨L, v, a1, a4, a5⟩
                obtain ⟨A, hA⟩ : ∃ A, (scan r.d.ss 0 60 gen (60 + 1) 0 []).1 = A := ⟨_, rfl⟩
                obtain ⟨R, hR⟩ : ∃ R, (scan r.d.ss 0 60 gen (60 + 1) 0 []).2 = R := ⟨_, rfl⟩
                simp only [hA, hR] at HOp2 HFd k1 k2 k3
                have HRb : Hid (R.length ≤ 60 ∧ ∀ z ∈ R, z.length ≤ 300000) := ⟨by omega, fun z hz => Nat.le_trans (k3 z hz) (by omega)⟩
                have HSlF : Hid (∀ W, Buts [p, g] wr.heap.size wr W → SlAt w8.heap.size W (.slice dq xs.length dc) xs ∧ Below w.heap.size w W) := fun W hb => by
                  refine ⟨hsl.frame (fun k hk => hb.block k (hsl.own hk).2.1 (fun hx => ?_)), hbl.trans (hb.below hsz (by simp; omega))⟩
                  obtain ⟨c1, c2, _⟩ := hM.rows
                  obtain ⟨_, _, _, _, eK⟩ := hsl.own hk
                  simp only [List.mem_cons, List.not_mem_nil, or_false] at hx
                  rcases hx with rfl | rfl
                  · obtain ⟨_, _, e⟩ := c1
                    exact absurd rfl (tag_ne eK e (by decide))
                  · obtain ⟨_, _, e⟩ := c2
                    exact absurd rfl (tag_ne eK e (by decide))
                have HXb : Hid (∀ i, i < xs.length → IsBytes w.heap.size w (xs.getD i (none, 0, 0)).1 (xs.getD i (none, 0, 0)).2.1 (xs.getD i (none, 0, 0)).2.2 (r.done.getD i [])) := hxb
                have HNx : Hid (∀ y, r.next = some y → IsBytes w.heap.size w x.1 x.2.1 x.2.2 y) := hnx
                have HWn : Hid (∀ W, SlAt w8.heap.size W (.slice dq xs.length dc) xs → Below w.heap.size w W → WantAt W dq xs.length dc r.done) := fun W hs hb => hs.want HXl.out.symm (fun i hi => ((HXb.out i hi).below hb).mono hb.size)
                have HSm : Hid (∀ (W : World) (L : Nat) (v : Value) (n₀ : Nat) (q : Option Addr) (len c : Nat) (want : List (List Nat)), MSt [p, g] n₀ W L p g v r.d.start ⟨0, 60, gen, A, R, false⟩ → WantAt W q len c want → Calls Try.prog 14 #[.pointer (some ⟨L, 0, none⟩), .slice q len c] W fun e w' => e = .returned (.bool (decide (R = want))) ∧ Below W.heap.size W w') := fun W L v n₀ q len c want h hw => same_any h (by show R.length ≤ _; have := HRb.out.1; omega) HRb.out.2 q len c want hw
                clear hinv hM hrc hwr2 hsl hxb hnx hov hvw hbl hal hA hR k1 k2 k3
                by_cases hRd : R = r.done
                · have HDt : Hid (decide (R = r.done) = true) := decide_eq_true hRd
                  go_wp2_with (first
                    | (go_at_call 23; refine HSta.out.mono ?_; rintro e wa ⟨⟨u, rfl⟩, hDa, hba⟩; obtain ⟨hsla, hbla⟩ := HSlF.out wa hba; have HDa : Hid (DiskAt [p, g] wa p g r.d.start) := hDa; clear hDa)
                    | (go_at_call 12; refine (HOp2.out _ HDa.out).mono ?_; rintro e wb ⟨L2, v2, rfl, hbb, hMb⟩; have HMb : Hid (MSt [p, g] wa.heap.size wb L2 p g v2 r.d.start ⟨0, 60, gen, A, R, false⟩) := hMb; have hblb : Below w.heap.size w wb := hbla.trans (hbb.mono hbla.size); have HWb : Hid (WantAt wb dq xs.length dc r.done) := HWn.out wb (hsla.frame (fun k hk => hbb.block k (hsla.own hk).2.1)) hblb; clear hMb)
                    | (go_at_call 14; refine (HSm.out _ _ _ _ _ _ _ _ HMb.out HWb.out).mono ?_; rw [HDt.out]; rintro e wc ⟨rfl, hbc⟩))
                  (try rw [Exit.noGoto_ret])
                  refine bodyPost_ret (results_tmp rfl _ _ _) rfl ?_
                  exact ⟨rfl, hblb.trans (hbc.mono hblb.size)⟩
                · have HDf : Hid (decide (R = r.done) = false) := decide_eq_false hRd
                  obtain ⟨y, hy, hRy⟩ := HFd.out.resolve_left hRd
                  have hns : r.next.isSome = true := by rw [hy]; rfl
                  obtain ⟨xq, xl, xc⟩ := x
                  have hIy : IsBytes w.heap.size w xq xl xc y := HNx.out y hy
                  have hx20 : xs.length ≤ 1000 := by omega
                  have HAl : Hid (∀ W, SlAt w8.heap.size W (.slice dq xs.length dc) xs → Below w.heap.size w W → ∃ q1 c1 W1 q2 c2 W2, (Builtin.append_ #[39, 39] 39 #[.slice none 0 0, .slice dq xs.length dc]).run Try.prog W = .ok (.slice q1 xs.length c1) W1 ∧ (Builtin.append_ #[39, 39] 39 #[.slice q1 xs.length c1, .slice (some ⟨W1.heap.size, 0, none⟩) 1 1]).run Try.prog (W1.alloc (.cells #[.slice xq xl xc] 25)) = .ok (.slice q2 (xs.length + 1) c2) W2 ∧ WantAt W2 q2 (xs.length + 1) c2 (r.done ++ [y]) ∧ Below W.heap.size W W2) := fun W hs hb => by
                    obtain ⟨q1, c1, W1, q2, c2, W2, a1, a2, a3, a4⟩ := run_both hs hx20 xq xl xc
                    have hb2 : Below w.heap.size w W2 := hb.trans (a4.mono hb.size)
                    refine ⟨q1, c1, W1, q2, c2, W2, a1, a2, a3.want (by rw [List.length_append, List.length_append, HXl.out, List.length_singleton, List.length_singleton]) (fun i hi => ?_), a4⟩
                    rw [List.length_append, List.length_singleton] at hi
                    by_cases hi2 : i < xs.length
                    · have e1 : (xs ++ [((xq, xl, xc) : Sl)]).getD i (none, 0, 0) = xs.getD i (none, 0, 0) := by rw [List.getD_eq_getElem?_getD, List.getElem?_append_left hi2, List.getD_eq_getElem?_getD]
                      have e2 : (r.done ++ [y]).getD i [] = r.done.getD i [] := by rw [List.getD_eq_getElem?_getD, List.getElem?_append_left (by have := HXl.out; omega), List.getD_eq_getElem?_getD]
                      rw [e1, e2]
                      exact ((HXb.out i hi2).below hb2).mono hb2.size
                    · obtain rfl : i = xs.length := by omega
                      have e1 : (xs ++ [((xq, xl, xc) : Sl)]).getD xs.length (none, 0, 0) = (xq, xl, xc) := by simp
                      have e2 : (r.done ++ [y]).getD xs.length [] = y := by rw [HXl.out]; simp
                      rw [e1, e2]
                      exact (hIy.below hb2).mono hb2.size
                  have HDt : Hid (decide (R = r.done ++ [y]) = true) := decide_eq_true hRy
                  clear hy hRy hRd
                  simp only [hns, slV]
                  go_wp2_with (first
                    | (go_at_call 23; refine HSta.out.mono ?_; rintro e wa ⟨⟨u, rfl⟩, hDa, hba⟩; obtain ⟨hsla, hbla⟩ := HSlF.out wa hba; have HDa : Hid (DiskAt [p, g] wa p g r.d.start) := hDa; clear hDa)
                    | (go_at_call 12; refine (HOp2.out _ HDa.out).mono ?_; rintro e wb ⟨L2, v2, rfl, hbb, hMb⟩; have HMb : Hid (MSt [p, g] wa.heap.size wb L2 p g v2 r.d.start ⟨0, 60, gen, A, R, false⟩) := hMb; have hblb : Below w.heap.size w wb := hbla.trans (hbb.mono hbla.size); have hslb := hsla.frame (fun k hk => hbb.block k (hsla.own hk).2.1); have HWb : Hid (WantAt wb dq xs.length dc r.done) := HWn.out wb hslb hblb; clear hMb)
                    | (go_at_call 14; have _ := HRun2; refine (HSm.out _ _ _ _ _ _ _ _ (HMc.out.later hbf) HWf.out).mono ?_; rw [HDt.out]; rintro e wg ⟨rfl, hbg⟩)
                    | (go_at_call 14; refine (HSm.out _ _ _ _ _ _ _ _ HMb.out HWb.out).mono ?_; rw [HDf.out]; rintro e wc ⟨rfl, hbc⟩; have hblc : Below w.heap.size w wc := hblb.trans (hbc.mono hblb.size); have HMc : Hid (MSt [p, g] wa.heap.size wc L2 p g v2 r.d.start ⟨0, 60, gen, A, R, false⟩) := HMb.out.later hbc; obtain ⟨q1, c1, wd, q2, c2, wf, hrun1, hrun2, hWf, hbf⟩ := HAl.out wc (hslb.frame (fun k hk => hbc.block k (hslb.own hk).2.1)) hblc; have HRun1 : Hid (_ = _) := hrun1; have HRun2 : Hid (_ = _) := hrun2; have HWf : Hid (WantAt wf q2 (xs.length + 1) c2 (r.done ++ [y])) := hWf; clear hrun1 hrun2 hWf)
                    | ((with_reducible show wpList _ _ _ (Oper.mk (some 106) _ _ _ _ _ :: _) _ _); refine BigFrame.wpList_want (by rfl) fun K hK => wp_append_of (.const (.slice none 0 0)) (.tmp 105) 39 rfl rfl rfl HRun1.out (hK _ _ ?_); simp only [Act.put, List.setIfInBounds_toArray, List.set_cons_zero, List.set_cons_succ])
                    | ((with_reducible show wpList _ _ _ (Oper.mk (some 109) _ _ _ _ _ :: _) _ _); refine BigFrame.wpList_want (by rfl) fun K hK => wp_append_of (.tmp 106) (.tmp 108) 39 rfl rfl rfl HRun2.out (hK _ _ ?_); simp only [Act.put, List.setIfInBounds_toArray, List.set_cons_zero, List.set_cons_succ]))
                  (try rw [Exit.noGoto_ret])
                  refine bodyPost_ret (results_tmp rfl _ _ _) rfl ?_
                  exact ⟨rfl, (hblc.trans (hbf.mono hblc.size)).trans (hbg.mono (Nat.le_trans hblc.size hbf.size))⟩
          · go_wp2_with (go_at_call 19; refine HFo.out.mono ?_; rintro e w8 ⟨rfl, hD8, hb8⟩)
            (try rw [Exit.noGoto_ret])
            refine bodyPost_ret (results_tmp rfl _ _ _) rfl ?_
            exact ⟨rfl, HBl.out.trans (hb8.below HBl.out.size (by simp; omega))⟩
      · have g1 : decide ((k : Int) < 60) = false := decide_eq_false hlt
        obtain ⟨e0, he0⟩ : ∃ e0, d.wErr ((0 : Nat) : Int) = e0 := ⟨_, rfl⟩
        have HFo : Hid (Calls Try.prog 19 #[.pointer (some ⟨p, 0, none⟩), .int .i64 0, .int .i64 60, .int .u32 (gen : Nat)] wr fun e w' => e = .returned (.int .i64 e0) ∧ DiskAt [p, g] w' p g (d.write ((0 : Nat) : Int) zeros64) ∧ Buts [p, g] wr.heap.size wr w') := by
          have := format_any HD.out ((0 : Nat) : Int) 60 gen (by omega) (by omega) (by omega)
          rw [hd60, show regB 60 ((0 : Nat) : Int) 60 = true by decide, if_pos rfl, if_pos rfl, he0] at this
          exact this
        have HE0 : Hid (d.wErr ((0 : Nat) : Int) = e0) := he0
        clear he0
        by_cases hz0 : e0 = 0
        · subst hz0
          obtain ⟨_, b2, b3, b4⟩ := wrote_ok (s := zeros64) HE0.out
          obtain ⟨d1, hd1⟩ : ∃ d1, d.write ((0 : Nat) : Int) zeros64 = d1 := ⟨_, rfl⟩
          rw [hd1] at HFo b2 b3 b4
          have hl1 : d1.ss.length = 60 := by rw [b3, List.length_set]; exact hd60
          have hgz : d1.ss.getD 0 [] = zeros64 := by rw [b3, List.getD_eq_getElem?_getD, List.getElem?_set_self (by omega), Option.getD_some]
          have hg0 : (d1.ss.getD 0 []).getD 63 0 ≠ 165 := by
            rw [hgz]
            decide
          have HOp : Hid (∀ W, DiskAt [p, g] W p g d1 → Calls Try.prog 12 #[.pointer (some ⟨p, 0, none⟩), .int .i64 0, .int .i64 60, .int .u32 (gen : Nat)] W fun e w' => ∃ L v, e = .returned (.tuple #[.pointer (some ⟨L, 0, none⟩), .int .i64 0]) ∧ W.heap.size ≤ L ∧ (∀ k, v.ownBlock = some k → W.heap.size ≤ k) ∧ Below W.heap.size W w' ∧ MSt [p, g] W.heap.size w' L p g v d1 ⟨0, 60, gen, 0, [], false⟩) := fun W h => by
            have := open_live h (crLow_w h) h.lt (Nat.le_refl _) 0 60 gen (by omega) (by omega) hgen b2 (by omega)
            rw [scan_fresh hg0] at this
            exact this
          clear hd1
          go_wp2_with (first
            | (go_at_call 19; refine HFo.out.mono ?_; rintro e w8 ⟨rfl, hD8, hb8⟩; have HD8 : Hid (DiskAt [p, g] w8 p g d1) := hD8; clear hD8)
            | (go_at_call 12; refine (HOp.out _ HD8.out).mono ?_; rintro e w9 ⟨L, v, rfl, hL, hv9, hb9, hM9⟩; have HM9 : Hid (MSt [p, g] w8.heap.size w9 L p g v d1 ⟨0, 60, gen, 0, [], false⟩) := hM9; clear hM9))
          have HInv : Hid (Run.Inv 0 60 gen ⟨d1, ⟨0, 60, gen, 0, [], false⟩, [], none⟩) := ⟨HD8.out.1, ⟨rfl, rfl, rfl⟩, by show 0 + 60 ≤ d1.ss.length; omega, .inl ⟨rfl, b2, rfl, rfl, ⟨rfl, fun _ => hg0⟩⟩⟩
          have hB8 : Below w.heap.size w w8 := HBl.out.trans (hb8.below HBl.out.size (by simp; omega))
          have HB9 : Hid (Below w.heap.size w w9) := hB8.trans (hb9.mono hB8.size)
          have hs8 := hB8.size
          clear hgz hg0 hb8 hb9 hB8 HOp HFo HE0
          go_loopw [14, 15, 16, 71] (fun dv nv bv iv wy => ∃ (j : Nat) (r : Run) (v : Value) (xs : List Sl) (x : Sl) (dq : Option Addr) (dc : Nat), j ≤ ll ∧ iv = .int .i64 j ∧ nv = slV x ∧ bv = .bool r.next.isSome ∧ dv = .slice dq xs.length dc ∧ r.Inv 0 60 gen ∧ MSt [p, g] w8.heap.size wy L p g v r.d r.l ∧ r.l.pos ≤ r.l.n ∧ r.l.recs.length ≤ j ∧ r.d.wr ≤ 61 + 20 * j ∧ SlAt w8.heap.size wy (.slice dq xs.length dc) xs ∧ xs.length = r.done.length ∧ xs.length ≤ j ∧
            (∀ i, i < xs.length → IsBytes w.heap.size w (xs.getD i (none, 0, 0)).1 (xs.getD i (none, 0, 0)).2.1 (xs.getD i (none, 0, 0)).2.2 (r.done.getD i [])) ∧ (∀ y, r.next = some y → IsBytes w.heap.size w x.1 x.2.1 x.2.2 y) ∧ (∀ k, (Value.slice dq xs.length dc).ownBlock = some k → v.ownBlock ≠ some k) ∧ (∀ k, v.ownBlock = some k → w.heap.size ≤ k) ∧ Below w.heap.size w wy) (fun _ _ _ iv _ => ll - (intOf iv).toNat)
          case atStart => exact ⟨0, _, v, [], (none, 0, 0), none, 0, Nat.zero_le _, rfl, rfl, rfl, rfl, HInv.out, HM9.out, by show 0 ≤ 60; omega, Nat.le_refl _, by show d1.wr ≤ _; omega, SlAt.nil _ _, rfl, Nat.le_refl _, fun i hi => by simp at hi, fun y hy => by simp at hy, fun k hk => by simp [Value.ownBlock] at hk, fun k hk => Nat.le_trans hs8 (hv9 k hk), HB9.out⟩
          case round =>
            obtain ⟨j, r, v, xs, x, dq, dc, hj, rfl, rfl, rfl, rfl, hinv, hM, hpos, hrc, hwr2, hsl, hxl, hxj, hxb, hnx, hov, hvw, hbl⟩ := hrel
            have HXl : Hid (xs.length = r.done.length) := hxl
            clear hxl
            have hln := hM.low
            have hlt3 := hM.lt
            have hsz := hbl.size
            obtain ⟨hal, hl20⟩ : (∀ v ∈ vs, v.2.1 ≤ 400) ∧ vs.length ≤ 20 := by
              have := HFew.out
              simp only [fewL, Bool.and_eq_true, List.all_eq_true, decide_eq_true_eq] at this
              exact this
            have hvl2 : vs.length = ll := HVs.out.1
            by_cases hlt : j < ll
            · have hji : ((j : Nat) : Int) < (ll : Nat) := by omega
              obtain ⟨y, hy⟩ : ∃ y, vs.getD j (none, 0, 0) = y := ⟨_, rfl⟩
              obtain ⟨qx, lx, cx⟩ := y
              obtain ⟨b0, hb0⟩ : ∃ b0, want.getD j [] = b0 := ⟨_, rfl⟩
              have hIx : IsBytes w.heap.size w qx lx cx b0 := by
                have := HVb.out j hlt
                rw [hy, hb0] at this
                exact this
              have hx4 : lx ≤ 400 := by
                have hm : vs.getD j (none, 0, 0) ∈ vs := by
                  rw [List.getD_eq_getElem?_getD, List.getElem?_eq_getElem (by omega), Option.getD_some]
                  exact List.getElem_mem _
                rw [hy] at hm
                exact hal _ hm
              have hzl : b0.length = lx := hIx.1
              obtain ⟨lb, loff, rfl, hlb, hcl⟩ := HVs.out.2.2.2.resolve_left (by omega)
              have hcx : wr.cell? ⟨lb, loff + j, none⟩ = some (.slice qx lx cx) := by
                have := hcl j hlt
                rw [hy] at this
                exact (hbl.cell (p := ⟨lb, loff + j, none⟩) hlb).trans this
              obtain ⟨e0, he0⟩ : ∃ e0, (appL r.d r.l b0).1 = e0 := ⟨_, rfl⟩
              obtain ⟨hr1, hr2, hr3⟩ := hinv.reg
              obtain ⟨n1, n2, n3⟩ := appL_nums (d := r.d) (l := r.l) (b := b0) (by omega) hpos
              have HIn' : Hid ((r.step b0).Inv 0 60 gen) := hinv.step (by omega) hIx.2.2.2.1
              have HAp : Hid (Calls Try.prog 21 #[.pointer (some ⟨L, 0, none⟩), .slice qx lx cx] wr fun e w' => ∃ v', e = .returned (.int .i64 e0) ∧ MSt [p, g] w8.heap.size w' L p g v' (r.step b0).d (r.step b0).l ∧ Buts (L :: p :: g :: ownL v) wr.heap.size wr w' ∧ (∀ k, v'.ownBlock = some k → v.ownBlock = some k ∨ wr.heap.size ≤ k)) := by
                have := append_any hM ⟨by omega, by omega, hpos, by omega, by omega, by omega⟩ qx lx cx b0 (hIx.below hbl) hsz (fun hp0 b off e => by
                  rcases hIx.2.2.2.2 with h0 | ⟨b', off', e', hb', _⟩
                  · omega
                  · rw [e] at e'; cases e'; omega) (by omega) (by omega) (by omega)
                exact this.mono fun e w' ⟨v', a1, a2, a3, _, a5⟩ => ⟨v', by rw [he0] at a1; exact a1, a2, a3, a5⟩
              have HFr : Hid (∀ (v' : Value) (W : World), Buts (L :: p :: g :: ownL v) wr.heap.size wr W → (∀ k, v'.ownBlock = some k → v.ownBlock = some k ∨ wr.heap.size ≤ k) → SlAt w8.heap.size W (.slice dq xs.length dc) xs ∧ (∀ k, (Value.slice dq xs.length dc).ownBlock = some k → v'.ownBlock ≠ some k) ∧ (∀ k, v'.ownBlock = some k → w.heap.size ≤ k) ∧ Below w.heap.size w W) := fun v' W hb hv' => by
                refine ⟨hsl.frame (fun k hk => hb.block k (hsl.own hk).2.1 (fun hx => ?_)), fun k hk hk' => ?_, fun k hk => ?_, hbl.trans (hb.below hsz (fun x hx => ?_))⟩
                · obtain ⟨c1, c2, c3⟩ := hM.rows
                  obtain ⟨_, _, _, _, eK⟩ := hsl.own hk
                  simp only [List.mem_cons] at hx
                  rcases hx with rfl | rfl | rfl | h
                  · obtain ⟨_, _, e⟩ := c3
                    exact absurd rfl (tag_ne eK e (by decide))
                  · obtain ⟨_, _, e⟩ := c1
                    exact absurd rfl (tag_ne eK e (by decide))
                  · obtain ⟨_, _, e⟩ := c2
                    exact absurd rfl (tag_ne eK e (by decide))
                  · exact hov k hk (mem_ownL.1 h)
                · have := (hsl.own hk).2.1
                  rcases hv' k hk' with h | h
                  · exact hov k hk h
                  · omega
                · rcases hv' k hk with h | h
                  · exact hvw k h
                  · omega
                · simp only [List.mem_cons] at hx
                  rcases hx with rfl | rfl | rfl | h
                  · omega
                  · omega
                  · omega
                  · exact hvw x (mem_ownL.1 h)
              have HRl : Hid ((r.step b0).l.pos ≤ (r.step b0).l.n ∧ (r.step b0).l.recs.length ≤ j + 1 ∧ (r.step b0).d.wr ≤ 61 + 20 * (j + 1)) := ⟨n2, Nat.le_trans n3 (by omega), Nat.le_trans n1 (by omega)⟩
              have HDn : Hid ((r.step b0).done = if e0 = 0 then r.done ++ [b0] else r.done) := by show (if (appL r.d r.l b0).1 = 0 then _ else _) = _; rw [he0]
              have HNt : Hid ((r.step b0).next = if e0 = 131 then some b0 else r.next) := by show (if (appL r.d r.l b0).1 = 131 then _ else _) = _; rw [he0]
              have HRn : Hid (∀ W, SlAt w8.heap.size W (.slice dq xs.length dc) xs → w8.heap.size ≤ W.heap.size → ∃ dq' dc' W', (Builtin.append_ #[39, 39] 39 #[.slice dq xs.length dc, .slice (some ⟨W.heap.size, 0, none⟩) 1 1]).run Try.prog (W.alloc (.cells #[.slice qx lx cx] 25)) = .ok (.slice dq' (xs.length + 1) dc') W' ∧ SlAt w8.heap.size W' (.slice dq' (xs.length + 1) dc') (xs ++ [(qx, lx, cx)]) ∧ Buts (ownL (.slice dq xs.length dc)) W.heap.size W W' ∧ KeepT 5 W W' ∧ (∀ k, (Value.slice dq' (xs.length + 1) dc').ownBlock = some k → (Value.slice dq xs.length dc).ownBlock = some k ∨ W.heap.size ≤ k)) := fun W hs hn => by
                have hbA : Below W.heap.size W (W.alloc (.cells #[.slice qx lx cx] 25)) := (Below.refl _ _).alloc (Nat.le_refl _) _
                obtain ⟨v', W', a1, a2, a3, a4, a5⟩ := run_append_sl (W.alloc (.cells #[.slice qx lx cx] 25)) w8.heap.size 39 _ xs (hs.frame (fun k hk => hbA.block k (hs.own hk).2.1)) ⟨W.heap.size, 0, none⟩ 1 [(qx, lx, cx)] (fun i hi => by
                  obtain rfl : i = 0 := by simpa using hi
                  rw [Addr.add_mid]
                  exact (Row.new W 25 #[.slice qx lx cx]).cell (i := 0) rfl) (by simp; omega) (by simp; omega)
                obtain ⟨dq', dc', e⟩ := a2.slice
                rw [List.length_append, List.length_singleton] at e
                subst e
                refine ⟨dq', dc', W', a1, a2, (Buts.of_below hbA (Nat.le_refl _)).trans (Buts.mono ⟨a3.os, a3.tape, a3.output, a3.size, fun k hk hS => a3.block k hk (fun e => hS (mem_ownL.2 e.symm))⟩ (fun _ h => h) hbA.size), (KeepT.of_below hbA).trans a4, fun k hk => ?_⟩
                rcases a5 with e | e
                · rw [e] at hk
                  exact .inl hk
                · rw [e, World.size_alloc] at hk
                  cases hk
                  exact .inr (by omega)
              have HXb : Hid (∀ i, i < xs.length → IsBytes w.heap.size w (xs.getD i (none, 0, 0)).1 (xs.getD i (none, 0, 0)).2.1 (xs.getD i (none, 0, 0)).2.2 (r.done.getD i [])) := hxb
              have HNx : Hid (∀ y, r.next = some y → IsBytes w.heap.size w x.1 x.2.1 x.2.2 y) := hnx
              have HIx : Hid (IsBytes w.heap.size w qx lx cx b0) := hIx
              clear hinv hM hrc hwr2 hsl hxb hnx hov hvw hbl hal hcl hb0 hy hIx he0 n1 n2 n3
              by_cases hz0 : e0 = 0
              · subst hz0
                go_wp2_with (first
                  | (go_at_call 21; refine HAp.out.mono ?_; rintro e wa ⟨v', rfl, hMa, hba, hva⟩; obtain ⟨hsla, hova, hvwa, hbla⟩ := HFr.out v' wa hba hva; have HMa : Hid (MSt [p, g] w8.heap.size wa L p g v' (r.step b0).d (r.step b0).l) := hMa; obtain ⟨dq', dc', wb, hrun, hslb, hbb, hk5, howb⟩ := HRn.out wa hsla (by have := hba.size; omega); have HRun : Hid (_ = _) := hrun; clear hrun)
                  | (at_builtin; refine wpList_plain rfl fun K hK => wp_append_of (.tmp 80) (.tmp 82) 39 rfl rfl rfl HRun.out (hK _ _ ?_)))
                have hsa := hba.size
                have hsb := hbb.size
                have HMb : Hid (MSt [p, g] w8.heap.size wb L p g v' (r.step b0).d (r.step b0).l) := by
                  obtain ⟨c1, c2, c3⟩ := HMa.out.rows
                  have hne : ∀ k t c fr, (Value.slice dq xs.length dc).ownBlock = some k → t ≠ 25 → ∀ z, wa.heap[z]? = some (Obj.cells c t fr) → z ∉ ownL (Value.slice dq xs.length dc) := fun k t c fr hk ht z hz hx => by
                    obtain ⟨_, _, _, _, eK⟩ := hsla.own (mem_ownL.1 hx)
                    exact absurd rfl (tag_ne eK hz (fun e => ht e.symm))
                  refine HMa.out.frame hbb (fun hx => ?_) (fun hx => ?_) (fun hx => ?_) (fun k hk hx => hova k (mem_ownL.1 hx) hk) (fun z hz => .inr (hsla.own (mem_ownL.1 hz)).1) hk5
                  · obtain ⟨_, _, e⟩ := c1
                    exact hne _ _ _ _ (mem_ownL.1 hx) (by decide) _ e hx
                  · obtain ⟨_, _, e⟩ := c2
                    exact hne _ _ _ _ (mem_ownL.1 hx) (by decide) _ e hx
                  · obtain ⟨_, _, e⟩ := c3
                    exact hne _ _ _ _ (mem_ownL.1 hx) (by decide) _ e hx
                refine ⟨⟨j + 1, r.step b0, v', xs ++ [(qx, lx, cx)], x, dq', dc', by omega, by go_num, rfl, by rw [HNt.out, if_neg (by decide)], by rw [List.length_append, List.length_singleton], HIn'.out, HMb.out, HRl.out.1, HRl.out.2.1, HRl.out.2.2, by rw [List.length_append, List.length_singleton]; exact hslb, by rw [HDn.out, if_pos (by simp), List.length_append, List.length_append, HXl.out, List.length_singleton, List.length_singleton], by rw [List.length_append, List.length_singleton]; omega, fun i hi => ?_, fun y hy => by rw [HNt.out, if_neg (by decide)] at hy; exact HNx.out y hy, fun k hk hk' => ?_, hvwa, hbla.trans (hbb.below (by have := hbla.size; omega) (fun z hz => by have := (hsla.own (mem_ownL.1 hz)).1; omega))⟩, by simp [intOf]; omega⟩
                · rw [HDn.out, if_pos (by simp)]
                  rw [List.length_append, List.length_singleton] at hi
                  by_cases hi2 : i < xs.length
                  · have e1 : (xs ++ [((qx, lx, cx) : Sl)]).getD i (none, 0, 0) = xs.getD i (none, 0, 0) := by rw [List.getD_eq_getElem?_getD, List.getElem?_append_left hi2, List.getD_eq_getElem?_getD]
                    have e2 : (r.done ++ [b0]).getD i [] = r.done.getD i [] := by rw [List.getD_eq_getElem?_getD, List.getElem?_append_left (by have := HXl.out; omega), List.getD_eq_getElem?_getD]
                    rw [e1, e2]
                    exact HXb.out i hi2
                  · obtain rfl : i = xs.length := by omega
                    have e1 : (xs ++ [((qx, lx, cx) : Sl)]).getD xs.length (none, 0, 0) = (qx, lx, cx) := by simp
                    have e2 : (r.done ++ [b0]).getD xs.length [] = b0 := by rw [HXl.out]; simp
                    rw [e1, e2]
                    exact HIx.out
                · rw [List.length_append, List.length_singleton] at hk
                  rcases howb k hk with h | h
                  · exact hova k h hk'
                  · have := (HMa.out.own hk').2.1
                    omega
              · by_cases hz1 : e0 = 131
                · subst hz1
                  go_wp2_with (go_at_call 21; refine HAp.out.mono ?_; rintro e wa ⟨v', rfl, hMa, hba, hva⟩; obtain ⟨hsla, hova, hvwa, hbla⟩ := HFr.out v' wa hba hva)
                  refine ⟨⟨j + 1, r.step b0, v', xs, (qx, lx, cx), dq, dc, by omega, by go_num, rfl, by rw [HNt.out]; rfl, rfl, HIn'.out, hMa, HRl.out.1, HRl.out.2.1, HRl.out.2.2, hsla, by rw [HDn.out, if_neg (by decide)]; exact HXl.out, by omega, by rw [HDn.out, if_neg (by decide)]; exact HXb.out, fun y hy => by rw [HNt.out, if_pos (by simp)] at hy; cases hy; exact HIx.out, hova, hvwa, hbla⟩, by simp [intOf]; omega⟩
                · go_wp2_with (go_at_call 21; refine HAp.out.mono ?_; rintro e wa ⟨v', rfl, hMa, hba, hva⟩; obtain ⟨hsla, hova, hvwa, hbla⟩ := HFr.out v' wa hba hva)
                  refine ⟨⟨j + 1, r.step b0, v', xs, x, dq, dc, by omega, by go_num, rfl, by rw [HNt.out, if_neg hz1], rfl, HIn'.out, hMa, HRl.out.1, HRl.out.2.1, HRl.out.2.2, hsla, by rw [HDn.out, if_neg hz0]; exact HXl.out, by omega, by rw [HDn.out, if_neg hz0]; exact HXb.out, fun y hy => by rw [HNt.out, if_neg hz1] at hy; exact HNx.out y hy, hova, hvwa, hbla⟩, by simp [intOf]; omega⟩
            · have hji : ¬ ((j : Nat) : Int) < (ll : Nat) := by omega
              have HD : Hid (DiskAt [p, g] wr p g r.d) := hM.disk
              have hfit : 60 ≤ r.d.ss.length := by have := hinv.fits; omega
              have HFd : Hid ((scan r.d.ss 0 60 gen (60 + 1) 0 []).2 = r.done ∨ ∃ x, r.next = some x ∧ (scan r.d.ss 0 60 gen (60 + 1) 0 []).2 = r.done ++ [x]) := hinv.found (by omega)
              obtain ⟨k1, k2, k3⟩ := scan_okW r.d.ss 0 60 gen (60 + 1) 0 [] (by omega) (by simp) (by simp)
              have HSta : Hid (Calls Try.prog 23 #[.pointer (some ⟨p, 0, none⟩)] wr fun e w' => (∃ v, e = .returned v) ∧ DiskAt [p, g] w' p g r.d.start ∧ Buts [p, g] wr.heap.size wr w') := start_any hM.disk
              have HOp2 : Hid (∀ W, DiskAt [p, g] W p g r.d.start → Calls Try.prog 12 #[.pointer (some ⟨p, 0, none⟩), .int .i64 0, .int .i64 60, .int .u32 (gen : Nat)] W fun e w' => ∃ L v, e = .returned (.tuple #[.pointer (some ⟨L, 0, none⟩), .int .i64 0]) ∧ Below W.heap.size W w' ∧ MSt [p, g] W.heap.size w' L p g v r.d.start ⟨0, 60, gen, (scan r.d.ss 0 60 gen (60 + 1) 0 []).1, (scan r.d.ss 0 60 gen (60 + 1) 0 []).2, false⟩) := fun W h =>
                (open_live h (crLow_w h) h.lt (Nat.le_refl _) 0 60 gen (by omega) (by show 0 + 60 ≤ r.d.ss.length; omega) hgen rfl (by show 0 ≤ _; omega)).mono fun e w' ⟨L, v, a1, _, _, a4, a5⟩ => ⟨L, v, a1, a4, a5⟩
              obtain ⟨A, hA⟩ : ∃ A, (scan r.d.ss 0 60 gen (60 + 1) 0 []).1 = A := ⟨_, rfl⟩
              obtain ⟨R, hR⟩ : ∃ R, (scan r.d.ss 0 60 gen (60 + 1) 0 []).2 = R := ⟨_, rfl⟩
              simp only [hA, hR] at HOp2 HFd k1 k2 k3
              have HRb : Hid (R.length ≤ 60 ∧ ∀ z ∈ R, z.length ≤ 300000) := ⟨by omega, fun z hz => Nat.le_trans (k3 z hz) (by omega)⟩
              have HSlF : Hid (∀ W, Buts [p, g] wr.heap.size wr W → SlAt w8.heap.size W (.slice dq xs.length dc) xs ∧ Below w.heap.size w W) := fun W hb => by
                refine ⟨hsl.frame (fun k hk => hb.block k (hsl.own hk).2.1 (fun hx => ?_)), hbl.trans (hb.below hsz (by simp; omega))⟩
                obtain ⟨c1, c2, _⟩ := hM.rows
                obtain ⟨_, _, _, _, eK⟩ := hsl.own hk
                simp only [List.mem_cons, List.not_mem_nil, or_false] at hx
                rcases hx with rfl | rfl
                · obtain ⟨_, _, e⟩ := c1
                  exact absurd rfl (tag_ne eK e (by decide))
                · obtain ⟨_, _, e⟩ := c2
                  exact absurd rfl (tag_ne eK e (by decide))
              have HXb : Hid (∀ i, i < xs.length → IsBytes w.heap.size w (xs.getD i (none, 0, 0)).1 (xs.getD i (none, 0, 0)).2.1 (xs.getD i (none, 0, 0)).2.2 (r.done.getD i [])) := hxb
              have HNx : Hid (∀ y, r.next = some y → IsBytes w.heap.size w x.1 x.2.1 x.2.2 y) := hnx
              have HWn : Hid (∀ W, SlAt w8.heap.size W (.slice dq xs.length dc) xs → Below w.heap.size w W → WantAt W dq xs.length dc r.done) := fun W hs hb => hs.want HXl.out.symm (fun i hi => ((HXb.out i hi).below hb).mono hb.size)
              have HSm : Hid (∀ (W : World) (L : Nat) (v : Value) (n₀ : Nat) (q : Option Addr) (len c : Nat) (want : List (List Nat)), MSt [p, g] n₀ W L p g v r.d.start ⟨0, 60, gen, A, R, false⟩ → WantAt W q len c want → Calls Try.prog 14 #[.pointer (some ⟨L, 0, none⟩), .slice q len c] W fun e w' => e = .returned (.bool (decide (R = want))) ∧ Below W.heap.size W w') := fun W L v n₀ q len c want h hw => same_any h (by show R.length ≤ _; have := HRb.out.1; omega) HRb.out.2 q len c want hw
              clear hinv hM hrc hwr2 hsl hxb hnx hov hvw hbl hal hA hR k1 k2 k3
              by_cases hRd : R = r.done
              · have HDt : Hid (decide (R = r.done) = true) := decide_eq_true hRd
                go_wp2_with (first
                  | (go_at_call 23; refine HSta.out.mono ?_; rintro e wa ⟨⟨u, rfl⟩, hDa, hba⟩; obtain ⟨hsla, hbla⟩ := HSlF.out wa hba; have HDa : Hid (DiskAt [p, g] wa p g r.d.start) := hDa; clear hDa)
                  | (go_at_call 12; refine (HOp2.out _ HDa.out).mono ?_; rintro e wb ⟨L2, v2, rfl, hbb, hMb⟩; have HMb : Hid (MSt [p, g] wa.heap.size wb L2 p g v2 r.d.start ⟨0, 60, gen, A, R, false⟩) := hMb; have hblb : Below w.heap.size w wb := hbla.trans (hbb.mono hbla.size); have HWb : Hid (WantAt wb dq xs.length dc r.done) := HWn.out wb (hsla.frame (fun k hk => hbb.block k (hsla.own hk).2.1)) hblb; clear hMb)
                  | (go_at_call 14; refine (HSm.out _ _ _ _ _ _ _ _ HMb.out HWb.out).mono ?_; rw [HDt.out]; rintro e wc ⟨rfl, hbc⟩))
                (try rw [Exit.noGoto_ret])
                refine bodyPost_ret (results_tmp rfl _ _ _) rfl ?_
                exact ⟨rfl, hblb.trans (hbc.mono hblb.size)⟩
              · have HDf : Hid (decide (R = r.done) = false) := decide_eq_false hRd
                obtain ⟨y, hy, hRy⟩ := HFd.out.resolve_left hRd
                have hns : r.next.isSome = true := by rw [hy]; rfl
                obtain ⟨xq, xl, xc⟩ := x
                have hIy : IsBytes w.heap.size w xq xl xc y := HNx.out y hy
                have hx20 : xs.length ≤ 1000 := by omega
                have HAl : Hid (∀ W, SlAt w8.heap.size W (.slice dq xs.length dc) xs → Below w.heap.size w W → ∃ q1 c1 W1 q2 c2 W2, (Builtin.append_ #[39, 39] 39 #[.slice none 0 0, .slice dq xs.length dc]).run Try.prog W = .ok (.slice q1 xs.length c1) W1 ∧ (Builtin.append_ #[39, 39] 39 #[.slice q1 xs.length c1, .slice (some ⟨W1.heap.size, 0, none⟩) 1 1]).run Try.prog (W1.alloc (.cells #[.slice xq xl xc] 25)) = .ok (.slice q2 (xs.length + 1) c2) W2 ∧ WantAt W2 q2 (xs.length + 1) c2 (r.done ++ [y]) ∧ Below W.heap.size W W2) := fun W hs hb => by
                  obtain ⟨q1, c1, W1, q2, c2, W2, a1, a2, a3, a4⟩ := run_both hs hx20 xq xl xc
                  have hb2 : Below w.heap.size w W2 := hb.trans (a4.mono hb.size)
                  refine ⟨q1, c1, W1, q2, c2, W2, a1, a2, a3.want (by rw [List.length_append, List.length_append, HXl.out, List.length_singleton, List.length_singleton]) (fun i hi => ?_), a4⟩
                  rw [List.length_append, List.length_singleton] at hi
                  by_cases hi2 : i < xs.length
                  · have e1 : (xs ++ [((xq, xl, xc) : Sl)]).getD i (none, 0, 0) = xs.getD i (none, 0, 0) := by rw [List.getD_eq_getElem?_getD, List.getElem?_append_left hi2, List.getD_eq_getElem?_getD]
                    have e2 : (r.done ++ [y]).getD i [] = r.done.getD i [] := by rw [List.getD_eq_getElem?_getD, List.getElem?_append_left (by have := HXl.out; omega), List.getD_eq_getElem?_getD]
                    rw [e1, e2]
                    exact ((HXb.out i hi2).below hb2).mono hb2.size
                  · obtain rfl : i = xs.length := by omega
                    have e1 : (xs ++ [((xq, xl, xc) : Sl)]).getD xs.length (none, 0, 0) = (xq, xl, xc) := by simp
                    have e2 : (r.done ++ [y]).getD xs.length [] = y := by rw [HXl.out]; simp
                    rw [e1, e2]
                    exact (hIy.below hb2).mono hb2.size
                have HDt : Hid (decide (R = r.done ++ [y]) = true) := decide_eq_true hRy
                clear hy hRy hRd
                simp only [hns, slV]
                go_wp2_with (first
                  | (go_at_call 23; refine HSta.out.mono ?_; rintro e wa ⟨⟨u, rfl⟩, hDa, hba⟩; obtain ⟨hsla, hbla⟩ := HSlF.out wa hba; have HDa : Hid (DiskAt [p, g] wa p g r.d.start) := hDa; clear hDa)
                  | (go_at_call 12; refine (HOp2.out _ HDa.out).mono ?_; rintro e wb ⟨L2, v2, rfl, hbb, hMb⟩; have HMb : Hid (MSt [p, g] wa.heap.size wb L2 p g v2 r.d.start ⟨0, 60, gen, A, R, false⟩) := hMb; have hblb : Below w.heap.size w wb := hbla.trans (hbb.mono hbla.size); have hslb := hsla.frame (fun k hk => hbb.block k (hsla.own hk).2.1); have HWb : Hid (WantAt wb dq xs.length dc r.done) := HWn.out wb hslb hblb; clear hMb)
                  | (go_at_call 14; have _ := HRun2; refine (HSm.out _ _ _ _ _ _ _ _ (HMc.out.later hbf) HWf.out).mono ?_; rw [HDt.out]; rintro e wg ⟨rfl, hbg⟩)
                  | (go_at_call 14; refine (HSm.out _ _ _ _ _ _ _ _ HMb.out HWb.out).mono ?_; rw [HDf.out]; rintro e wc ⟨rfl, hbc⟩; have hblc : Below w.heap.size w wc := hblb.trans (hbc.mono hblb.size); have HMc : Hid (MSt [p, g] wa.heap.size wc L2 p g v2 r.d.start ⟨0, 60, gen, A, R, false⟩) := HMb.out.later hbc; obtain ⟨q1, c1, wd, q2, c2, wf, hrun1, hrun2, hWf, hbf⟩ := HAl.out wc (hslb.frame (fun k hk => hbc.block k (hslb.own hk).2.1)) hblc; have HRun1 : Hid (_ = _) := hrun1; have HRun2 : Hid (_ = _) := hrun2; have HWf : Hid (WantAt wf q2 (xs.length + 1) c2 (r.done ++ [y])) := hWf; clear hrun1 hrun2 hWf)
                  | ((with_reducible show wpList _ _ _ (Oper.mk (some 106) _ _ _ _ _ :: _) _ _); refine BigFrame.wpList_want (by rfl) fun K hK => wp_append_of (.const (.slice none 0 0)) (.tmp 105) 39 rfl rfl rfl HRun1.out (hK _ _ ?_); simp only [Act.put, List.setIfInBounds_toArray, List.set_cons_zero, List.set_cons_succ])
                  | ((with_reducible show wpList _ _ _ (Oper.mk (some 109) _ _ _ _ _ :: _) _ _); refine BigFrame.wpList_want (by rfl) fun K hK => wp_append_of (.tmp 106) (.tmp 108) 39 rfl rfl rfl HRun2.out (hK _ _ ?_); simp only [Act.put, List.setIfInBounds_toArray, List.set_cons_zero, List.set_cons_succ]))
                (try rw [Exit.noGoto_ret])
                refine bodyPost_ret (results_tmp rfl _ _ _) rfl ?_
                exact ⟨rfl, (hblc.trans (hbf.mono hblc.size)).trans (hbg.mono (Nat.le_trans hblc.size hbf.size))⟩
        · go_wp2_with (go_at_call 19; refine HFo.out.mono ?_; rintro e w8 ⟨rfl, hD8, hb8⟩)
          (try rw [Exit.noGoto_ret])
          refine bodyPost_ret (results_tmp rfl _ _ _) rfl ?_
          exact ⟨rfl, HBl.out.trans (hb8.below HBl.out.size (by simp; omega))⟩
  · have hfew' : fewL vs = false := by simpa using hfew
    rw [hfew'] at HFw
    go_enter Try.func6, Try.ntmps6
    go_wp2_with (first
      | (rw [HW1.out])
      | (go_at_call 8; refine HA.out.mono ?_; rintro e w2 ⟨rfl, hb2⟩; have hb02 : Below w.heap.size w w2 := hb1.trans (hb2.mono hb1.size))
      | (go_at_call 16; refine (HFw.out _ hb02).mono ?_; rintro e wq ⟨rfl, hwq⟩; obtain rfl := hwq.symm; clear hwq))
    go_ret
    exact ⟨rfl, hb02⟩
end Go.Proofs.Ytifjkkfienmdjaa
/-
  Appends with a crash: sectors, answers and what is found again are the reference's: the law's walk.
-/
namespace Go.Proofs.Ytifjkkfienmdjaa
open Go.RowKit Go.Shelf

section
variable {P : Program} {md : Region.Mode} {ops : Array Oper} {Q : Exit → Act → World → Prop} {S : World → Prop}
/-- A region that draws its order, cut off. -/
theorem wp_region_cut {a : Act} {w : World} {id : Nat} (R : Act → World → Prop) (hm : P.follows .mixedOrders = true) (hS : S w.drew)
    (h : S w.drew → wpAnyH P .any ops (OnOnly fun _ a w => R a w) S ops.size (Array.replicate ops.size false) a w.drew) (hR : ∀ a' w', R a' w' → Q .normal a' w') : (Code.region id ops true).wp P Q a w :=
  Code.wp_mono (fun e a' w' h' => by cases e <;> first | exact hR _ _ h' | exact (h' : False).elim) (wp_region_held_drew hm hS h)
theorem wp_region_cutL {a : Act} {w : World} {id : Nat} (N : Nat) (L : Array Bool) (R : Act → World → Prop) (hm : P.follows .mixedOrders = true) (hS : S w.drew) (hN : ops.size = N) (hL : Array.replicate N false = L)
    (h : S w.drew → wpAnyH P .any ops (OnOnly fun _ a w => R a w) S N L a w.drew) (hR : ∀ a' w', R a' w' → Q .normal a' w') : (Code.region id ops true).wp P Q a w :=
  wp_region_cut R hm hS (by rw [hN, hL]; exact h) hR
end
theorem wpHeld_loadE {ops : Array Oper} {S : World → Prop} {K : Act → Prop} {a : Act} {o : Oper} {rest : List Oper} (hw : Region.wanted o (yielded ops a.tmps) = true) (x : Operand) (ho : o.op = .load 45 x)
    (b off : Nat) (hx : a.eval x = .pointer (some ⟨b, off, none⟩)) (cs : List Value) (hS : ∀ w, S w → w.rangeAt b off cs) (hi : (Try.prog.info? 45).map (·.size) = some cs.length)
    (h : wpHeld Try.prog ops S K rest (a.put o.dst (.agg cs.toArray))) : wpHeld Try.prog ops S K (o :: rest) a := ⟨_, yieldsIf_load_mid hw 45 x ho b off hx cs _ hS Try.underlying45 rfl hi, h⟩
theorem both_new {n₀ p g p' g' : Nat} {W3 X4 : World} {d : St} (hD : DiskAt [p, g] W3 p g d) (hR : RefAt [p', g', p, g] X4 p' g' d) (hb : Below W3.heap.size W3 X4) (hp : n₀ ≤ p ∧ n₀ ≤ g) (hp' : W3.heap.size ≤ p' ∧ W3.heap.size ≤ g') : Both n₀ p g p' g' X4 d := by
  have l3 := hD.lt
  refine ⟨(hD.more (fun x hx => ?_) (by simp) (by simp)).later hb, hR.more (fun x hx => ?_) (by simp) (by simp), ⟨by omega, by omega, by omega, by omega⟩, ⟨by omega, by omega, by omega, by omega⟩⟩
  · simp only [List.mem_cons, List.not_mem_nil, or_false] at hx ⊢
    omega
  · simp only [List.mem_cons, List.not_mem_nil, or_false] at hx ⊢
    omega
theorem write_cr (d : St) (i : Int) (s : List Nat) : (d.write i s).cr = d.cr := by
  unfold St.write
  split
  · rfl
  · split <;> rfl
theorem appL_keeps (d : St) (l : Lg) (b : List Nat) : (appL d l b).2.1.cr = d.cr ∧ (appL d l b).2.1.ss.length = d.ss.length ∧ (appL d l b).2.2.f = l.f ∧ (appL d l b).2.2.n = l.n ∧ (appL d l b).2.2.gen = l.gen ∧ ∀ z ∈ (appL d l b).2.2.recs, z ∈ l.recs ∨ z = b := by
  unfold appL
  split
  · exact ⟨rfl, rfl, rfl, rfl, rfl, fun z hz => .inl hz⟩
  · split
    · exact ⟨rfl, rfl, rfl, rfl, rfl, fun z hz => .inl hz⟩
    · split
      · exact ⟨rfl, rfl, rfl, rfl, rfl, fun z hz => .inl hz⟩
      · split
        · exact ⟨doW_cr _ _, doW_length _ _, rfl, rfl, rfl, fun z hz => .inl hz⟩
        · exact ⟨doW_cr _ _, doW_length _ _, rfl, rfl, rfl, fun z hz => by
            rcases List.mem_append.1 hz with h | h
            · exact .inl h
            · exact .inr (List.mem_singleton.1 h)⟩
theorem MSt.started {F : List Nat} {n₀ : Nat} {W W' : World} {L p g : Nat} {v : Value} {d d' : St} {l : Lg} (h : MSt F n₀ W L p g v d l) (hr : DiskAt F W' p g d') (hb : Buts [p, g] W.heap.size W W') (hc : d'.cr = []) : MSt F n₀ W' L p g v d' l := by
  have hp := h.pg
  have hl := h.low
  refine ⟨hr, fun q len cap hq => .inl ?_, ⟨hb.row h.log.1.lt (by simp; omega) h.log.1, h.log.2.frame (fun k hk => hb.block k (h.own hk).2.1 (by have := h.own hk; simp; omega)) (h.keep5 hb)⟩, h.low, h.pg⟩
  obtain ⟨_, _, _, _, _, q', len', cap', h6, h7⟩ := hr
  rw [h6.cell (i := 4) rfl] at hq
  cases hq
  rw [hc] at h7
  exact h7.1.symm
theorem RSt.started {F : List Nat} {n₀ : Nat} {W W' : World} {L p g : Nat} {v : Value} {d d' : St} {l : Lg} (h : RSt F n₀ W L p g v d l) (hr : RefAt F W' p g d') (hb : Buts [p, g] W.heap.size W W') (hc : d'.cr = []) : RSt F n₀ W' L p g v d' l := by
  have hp := h.pg
  have hl := h.low
  refine ⟨hr, fun q len cap hq => .inl ?_, ⟨hb.row h.log.1.lt (by simp; omega) h.log.1, h.log.2.frame (fun k hk => hb.block k (h.own hk).2.1 (by have := h.own hk; simp; omega)) (h.keep5 hb)⟩, h.low, h.pg⟩
  obtain ⟨_, _, _, _, _, q', len', cap', h6, h7⟩ := hr
  rw [h6.cell (i := 1) rfl] at hq
  cases hq
  rw [hc] at h7
  exact h7.1.symm
/-- Both logs beside each other. -/
structure Two (n₀ : Nat) (W : World) (L L' p g p' g' : Nat) (v v' : Value) (d : St) (l : Lg) : Prop where
  mine : MSt [p, g, p', g'] n₀ W L p g v d l
  other : RSt [p, g, p', g'] n₀ W L' p' g' v' d l
  apart : p ≠ p' ∧ p ≠ g' ∧ g ≠ p' ∧ g ≠ g'
  own : ∀ k, v.ownBlock = some k → v'.ownBlock ≠ some k
section
variable {n₀ : Nat} {W W' : World} {L L' p g p' g' : Nat} {v v' : Value} {d : St} {l : Lg}
theorem Two.later (h : Two n₀ W L L' p g p' g' v v' d l) (hb : Below W.heap.size W W') : Two n₀ W' L L' p g p' g' v v' d l := ⟨h.mine.later hb, h.other.later hb, h.apart, h.own⟩
theorem Two.ne (h : Two n₀ W L L' p g p' g' v v' d l) : L ≠ L' ∧ (∀ k, v.ownBlock = some k → k ≠ L') ∧ (∀ k, v'.ownBlock = some k → k ≠ L) := by
  obtain ⟨_, _, ⟨c1, f1, e1⟩⟩ := h.mine.rows
  obtain ⟨_, _, ⟨c2, f2, e2⟩⟩ := h.other.rows
  refine ⟨tag_ne e1 e2 (by decide), fun k hk => ?_, fun k hk => ?_⟩
  · obtain ⟨_, _, c, fr, e⟩ := h.mine.log.2.own hk
    exact tag_ne e e2 (by decide)
  · obtain ⟨_, _, c, fr, e⟩ := h.other.log.2.own hk
    exact tag_ne e e1 (by decide)
/-- Behind what the one log did. -/
theorem Two.first (h : Two n₀ W L L' p g p' g' v v' d l) (hb : Buts (L :: p :: g :: ownL v) W.heap.size W W') (h5 : KeepT 5 W W') : RSt [p, g, p', g'] n₀ W' L' p' g' v' d l := by
  obtain ⟨n1, n2, n3⟩ := h.ne
  have a := h.apart
  have hp := h.mine.pg
  have hp' := h.other.pg
  have hl := h.mine.low
  have hl' := h.other.low
  refine h.other.frame hb (fun hx => ?_) (fun hx => ?_) (fun hx => ?_) (fun k hk hx => ?_) (fun x hx => ?_) h5
  · simp only [List.mem_cons] at hx
    rcases hx with e | e | e | e
    · omega
    · omega
    · omega
    · have := (h.mine.own (mem_ownL.1 e)).1; omega
  · simp only [List.mem_cons] at hx
    rcases hx with e | e | e | e
    · omega
    · omega
    · omega
    · have := (h.mine.own (mem_ownL.1 e)).1; omega
  · simp only [List.mem_cons] at hx
    rcases hx with e | e | e | e
    · omega
    · omega
    · omega
    · exact n2 _ (mem_ownL.1 e) rfl
  · have hk1 := (h.other.own hk).1
    simp only [List.mem_cons] at hx
    rcases hx with e | e | e | e
    · exact n3 k hk e
    · omega
    · omega
    · exact h.own k (mem_ownL.1 e) hk
  · simp only [List.mem_cons] at hx
    rcases hx with e | e | e | e
    · exact .inr (by omega)
    · exact .inl (by simp [e])
    · exact .inl (by simp [e])
    · exact .inr (h.mine.own (mem_ownL.1 e)).1
/-- .. and then the other. -/
theorem Two.second {d' : St} {l' : Lg} {v2 v2' : Value} {Wa Wb : World} (h : Two n₀ W L L' p g p' g' v v' d l) (hM : MSt [p, g, p', g'] n₀ Wa L p g v2 d' l') (hb1 : Buts (L :: p :: g :: ownL v) W.heap.size W Wa) (hv : ∀ k, v2.ownBlock = some k → v.ownBlock = some k ∨ W.heap.size ≤ k) (hR : RSt [p, g, p', g'] n₀ Wb L' p' g' v2' d' l') (hb : Buts (L' :: p' :: g' :: ownL v') Wa.heap.size Wa Wb) (h5 : KeepT 5 Wa Wb) (hv' : ∀ k, v2'.ownBlock = some k → v'.ownBlock = some k ∨ Wa.heap.size ≤ k) : Two n₀ Wb L L' p g p' g' v2 v2' d' l' := by
  obtain ⟨n1, n2, n3⟩ := h.ne
  have a := h.apart
  have hp := h.mine.pg
  have hp' := h.other.pg
  have hl := h.mine.low
  have hl' := h.other.low
  have hs := hb1.size
  have hlt' := h.other.lt
  have hn2 : ∀ k, v2.ownBlock = some k → k ∉ (L' :: p' :: g' :: ownL v') := fun k hk hx => by
    have hk1 := (hM.own hk).1
    simp only [List.mem_cons] at hx
    rcases hx with e | e | e | e
    · rcases hv k hk with h1 | h1
      · exact n2 k h1 e
      · omega
    · omega
    · omega
    · have h2 := (h.other.own (mem_ownL.1 e)).2.1
      rcases hv k hk with h1 | h1
      · exact h.own k h1 (mem_ownL.1 e)
      · omega
  refine ⟨hM.frame hb (fun hx => ?_) (fun hx => ?_) (fun hx => ?_) hn2 (fun x hx => ?_) h5, hR, a, fun k hk hk' => ?_⟩
  · simp only [List.mem_cons] at hx
    rcases hx with e | e | e | e
    · omega
    · omega
    · omega
    · have := (h.other.own (mem_ownL.1 e)).1; omega
  · simp only [List.mem_cons] at hx
    rcases hx with e | e | e | e
    · omega
    · omega
    · omega
    · have := (h.other.own (mem_ownL.1 e)).1; omega
  · simp only [List.mem_cons] at hx
    rcases hx with e | e | e | e
    · exact n1 e
    · omega
    · omega
    · exact n3 _ (mem_ownL.1 e) rfl
  · simp only [List.mem_cons] at hx
    rcases hx with e | e | e | e
    · exact .inr (by omega)
    · exact .inl (by simp [e])
    · exact .inl (by simp [e])
    · exact .inr (h.other.own (mem_ownL.1 e)).1
  · rcases hv' k hk' with h1 | h1
    · exact hn2 k hk (by simp [mem_ownL.2 h1])
    · have := (hM.own hk).2.1
      omega
theorem Two.started {d' : St} {W1 W2 : World} (h : Two n₀ W L L' p g p' g' v v' d l) (hD : DiskAt [p, g, p', g'] W1 p g d') (hb1 : Buts [p, g] W.heap.size W W1) (hR : RefAt [p, g, p', g'] W2 p' g' d') (hb2 : Buts [p', g'] W1.heap.size W1 W2) (hc : d'.cr = []) : Two n₀ W2 L L' p g p' g' v v' d' l := by
  have hM1 := h.mine.started hD hb1 hc
  have hb1' : Buts (L :: p :: g :: ownL v) W.heap.size W W1 := hb1.mono (by simp) (Nat.le_refl _)
  have hR1 := h.first hb1' (h.mine.keep5 hb1)
  have hR2 := hR1.started hR hb2 hc
  exact h.second hM1 hb1' (fun k hk => .inl hk) hR2 (hb2.mono (by simp) (Nat.le_refl _)) (hR1.keep5 hb2) (fun k hk => .inl hk)
end

set_option maxRecDepth 100000 in
set_option maxHeartbeats 8000000 in
theorem slogAppends_walk (n s : Int) (gen : Nat) (ql : Option Addr) (ll lc : Nat) (want : List (List Nat)) (ca ck : Int) (w : World) (hn : -9223372036854775808 ≤ n ∧ n ≤ 9223372036854775807) (hs : -9223372036854775808 ≤ s ∧ s ≤ 9223372036854775807) (hgen : gen < 4294967296) (hW : WantAt w ql ll lc want) :
    Calls Try.prog 5 #[.int .i64 n, .int .i64 s, .int .u32 (gen : Nat), .slice ql ll lc, .agg #[.int .i64 ca, .int .i64 ck]] w fun e w' => e = .returned (.bool true) ∧ Below w.heap.size w w' := by
  obtain ⟨w1, hw1⟩ : ∃ w1, w.alloc (.cells #[.int .i64 ca, .int .i64 ck] 45) = w1 := ⟨_, rfl⟩
  have HW1 : Hid (w.alloc (.cells #[.int .i64 ca, .int .i64 ck] 45) = w1) := hw1
  have hb1 : Below w.heap.size w w1 := by rw [← hw1]; exact (Below.refl _ w).alloc (Nat.le_refl _) _
  have HR1 : Hid (Row w1 w.heap.size 45 [.int .i64 ca, .int .i64 ck]) := by rw [← hw1]; exact Row.new w 45 #[.int .i64 ca, .int .i64 ck]
  have HA : Hid (Calls Try.prog 8 #[] w1 fun e w' => e = .returned (.bool true) ∧ Below w1.heap.size w1 w') := awake_any w1
  obtain ⟨vs, hvs, hvl, hvb⟩ := lists_of_want hW
  have HVs : Hid (IsLists w.heap.size w ql ll lc vs) := hvs
  have HVb : Hid (∀ i, i < ll → IsBytes w.heap.size w (vs.getD i (none, 0, 0)).1 (vs.getD i (none, 0, 0)).2.1 (vs.getD i (none, 0, 0)).2.2 (want.getD i [])) := hvb
  have HWl : Hid (want.length = ll) := hW.1
  have hlc := hW.2.1
  have hcc := hW.2.2.1
  have HFw : Hid (∀ W, Below w.heap.size w W → Calls Try.prog 16 #[.slice ql ll lc] W fun e w' => e = .returned (.bool (fewL vs)) ∧ w' = W) := fun W hb => few_any ql ll lc vs W (by
    obtain ⟨a1, a2, a3, a4⟩ := HVs.out
    refine ⟨a1, a2, a3, ?_⟩
    rcases a4 with h | ⟨b, off, e, hl, hc⟩
    · exact .inl h
    · exact .inr ⟨b, off, e, Nat.lt_of_lt_of_le hl hb.size, fun i hi => (hb.cell (p := ⟨b, off + i, none⟩) hl).trans (hc i hi)⟩)
  clear hw1 hvs hvb hW
  by_cases h1 : (60 : Int) < n
  · have g1 : decide ((60 : Int) < n) = true := decide_eq_true h1
    go_enter Try.func5, Try.ntmps5
    go_wp2_with (first
      | (rw [HW1.out])
      | (go_at_call 8; refine HA.out.mono ?_; rintro e w2 ⟨rfl, hb2⟩))
    go_ret
    exact ⟨rfl, hb1.trans (hb2.mono hb1.size)⟩
  have g1 : decide ((60 : Int) < n) = false := decide_eq_false h1
  by_cases hfew : fewL vs = false
  · rw [hfew] at HFw
    go_enter Try.func5, Try.ntmps5
    go_wp2_with (first
      | (rw [HW1.out])
      | (go_at_call 8; refine HA.out.mono ?_; rintro e w2 ⟨rfl, hb2⟩; have hb02 : Below w.heap.size w w2 := hb1.trans (hb2.mono hb1.size))
      | (go_at_call 16; refine (HFw.out _ hb02).mono ?_; rintro e wq ⟨rfl, hwq⟩; obtain rfl := hwq.symm; clear hwq))
    go_ret
    exact ⟨rfl, hb02⟩
  rw [Bool.not_eq_false] at hfew
  rw [hfew] at HFw
  have HFew : Hid (fewL vs = true) := hfew
  clear hfew
  have HN : Hid (∀ (W : World) (b : Nat), Row W b 45 [.int .i64 ca, .int .i64 ck] → Calls Try.prog 17 #[.int .i64 n, .slice (some ⟨b, 0, none⟩) 1 1] W fun e w' => ∃ p g, e = .returned (.pointer (some ⟨p, 0, none⟩)) ∧ W.heap.size ≤ p ∧ W.heap.size ≤ g ∧ DiskAt [p, g] w' p g (newS n [(ca, ck)]) ∧ Below W.heap.size W w') := fun W b hr => new_any n (cr := [(ca, ck)]) ⟨rfl, Nat.le_refl _, by omega, .inr ⟨b, 0, rfl, hr.lt, by simp, hr.range⟩⟩ (by omega)
  have HN2 : Hid (∀ (W : World) (b p g : Nat), Row W b 45 [.int .i64 ca, .int .i64 ck] → b ≠ p → b ≠ g → Calls Try.prog 18 #[.int .i64 n, .slice (some ⟨b, 0, none⟩) 1 1] W fun e w' => ∃ p' g', e = .returned (.pointer (some ⟨p', 0, none⟩)) ∧ W.heap.size ≤ p' ∧ W.heap.size ≤ g' ∧ RefAt [p', g', p, g] w' p' g' (newS n [(ca, ck)]) ∧ Below W.heap.size W w') := fun W b p g hr h1 h2 => refNew_any (F₀ := [p, g]) (cr := [(ca, ck)]) n ⟨rfl, Nat.le_refl _, by omega, .inr ⟨b, 0, rfl, hr.lt, by simp [h1, h2], hr.range⟩⟩
  go_enter Try.func5, Try.ntmps5
  go_upto_region 5 with (first
    | (rw [HW1.out])
    | (go_at_call 8; refine HA.out.mono ?_; rintro e w2 ⟨rfl, hb2⟩; have hb02 : Below w.heap.size w w2 := hb1.trans (hb2.mono hb1.size); have HR2 : Hid (Row w2 w.heap.size 45 [.int .i64 ca, .int .i64 ck]) := HR1.out.later hb2)
    | (go_at_call 16; refine (HFw.out _ hb02).mono ?_; rintro e wq ⟨rfl, hwq⟩; obtain rfl := hwq.symm; clear hwq))
  refine wp_region_cutL (S := fun W => Below w2.heap.size w2 W) 10 #[false, false, false, false, false, false, false, false, false, false] (fun a' W => ∃ (p g p' g' b b' : Nat), a' = { tmps := #[.int .i64 n, .int .i64 s, .int .u32 (gen : Nat), .slice ql ll lc, .agg #[.int .i64 ca, .int .i64 ck], undef, undef, undef, undef, .pointer (some ⟨w.heap.size, 0, none⟩), .bool false, .pointer (some ⟨p, 0, none⟩), .pointer (some ⟨p', 0, none⟩), undef, undef, undef, undef, undef, undef, undef, undef, undef, undef, undef, undef, .bool true, .bool false, .int .i64 n, .bool false, .bool false, .slice ql ll lc, .bool true, .bool false, .bool false, .int .i64 n, .agg #[.int .i64 ca, .int .i64 ck], .slice (some ⟨b, 0, none⟩) 1 1, .pointer (some ⟨p, 0, none⟩), .int .i64 n, .agg #[.int .i64 ca, .int .i64 ck], .slice (some ⟨b', 0, none⟩) 1 1, .pointer (some ⟨p', 0, none⟩), undef, undef, undef, undef, undef, undef, undef, undef, undef, undef, undef, undef, undef, undef, undef, undef, undef, undef, undef, undef, undef, undef, undef, undef, undef, undef, undef, undef, undef, undef, undef, undef, undef, undef, undef, undef, undef, undef, undef, undef, undef, undef, undef, undef, undef, undef, undef, undef, undef, undef, undef, undef, undef, undef, undef, undef, undef, undef, undef, undef, undef, undef, undef, undef, undef, undef, undef, undef, undef, undef, undef, undef, undef, undef, undef, undef, undef, undef, undef, undef, undef, undef, undef, undef, undef, undef, undef, undef, undef, undef, undef, undef, undef, undef, undef, undef, undef], defers := [] } ∧ Both w.heap.size p g p' g' W (newS n [(ca, ck)]) ∧ Below w.heap.size w W) (by kernel_rfl) (Below.refl _ _).drew rfl rfl ?body ?tail
  case body =>
    intro hHeld
    refine wpAnyH_takesAt 0 1 9 (of_decide_eq_true (by kernel_rfl)) rfl (fun _ _ _ d _ h => by cases d <;> exact h) (by kernel_rfl) (by kernel_rfl) hHeld ?_
    simp only [List.drop_zero, List.take_succ_cons, List.take_zero]
    iterate 1 (refine wpHeld_step (v := ?_) (by rfl) (fun wz hSw => ?_) ?_; rotate_left; (focus ((try dsimp only at hSw); go_simp; try with_reducible rfl)); ((simp only [Act.put]; (try simp only [List.setIfInBounds_toArray]); (try simp only [List.set_cons_succ]); (try simp only [List.set_cons_zero]))))
    refine wpHeld_nil ?_
    refine wpAnyH_takesAt 1 1 8 (of_decide_eq_true (by kernel_rfl)) rfl (fun _ _ _ d _ h => by cases d <;> exact h) (by kernel_rfl) (by kernel_rfl) hHeld ?_
    simp only [List.drop_succ_cons, List.drop_zero, List.take_succ_cons, List.take_zero]
    refine wpHeld_loadE (by rfl) (.tmp 9) rfl w.heap.size (0) rfl [.int .i64 ca, .int .i64 ck] (fun W hW => (HR2.out.later hW).range) (size45) ?_
    (simp only [Act.put]; (try simp only [List.setIfInBounds_toArray]); (try simp only [List.set_cons_succ]); (try simp only [List.set_cons_zero]))
    refine wpHeld_nil ?_
    refine wpAnyH_takesAt 4 1 7 (of_decide_eq_true (by kernel_rfl)) rfl (fun _ _ _ d _ h => by cases d <;> exact h) (by kernel_rfl) (by kernel_rfl) hHeld ?_
    simp only [List.drop_succ_cons, List.drop_zero, List.take_succ_cons, List.take_zero]
    iterate 1 (refine wpHeld_step (v := ?_) (by rfl) (fun wz hSw => ?_) ?_; rotate_left; (focus ((try dsimp only at hSw); go_simp; try with_reducible rfl)); ((simp only [Act.put]; (try simp only [List.setIfInBounds_toArray]); (try simp only [List.set_cons_succ]); (try simp only [List.set_cons_zero]))))
    refine wpHeld_nil ?_
    refine wpAnyH_takesAt 5 1 6 (of_decide_eq_true (by kernel_rfl)) rfl (fun _ _ _ d _ h => by cases d <;> exact h) (by kernel_rfl) (by kernel_rfl) hHeld ?_
    simp only [List.drop_succ_cons, List.drop_zero, List.take_succ_cons, List.take_zero]
    refine wpHeld_loadE (by rfl) (.tmp 9) rfl w.heap.size (0) rfl [.int .i64 ca, .int .i64 ck] (fun W hW => (HR2.out.later hW).range) (size45) ?_
    (simp only [Act.put]; (try simp only [List.setIfInBounds_toArray]); (try simp only [List.set_cons_succ]); (try simp only [List.set_cons_zero]))
    refine wpHeld_nil ?_
    have hX0 := hHeld
    clear hHeld HFw HVs HVb
    generalize w2.drew = X0 at *
    have hz0 := hX0.size
    have hzz := hb02.size
    refine wpAnyH_either (i := 2) (j := 6) (by kernel_rfl) rfl rfl (fun K hK => ?_) (fun K hK => ?_)
    · rw [if_pos (by rfl)]
      go_simp
      obtain ⟨X1, hE1⟩ : ∃ X1, X0.alloc (.cells #[.int .i64 ca, .int .i64 ck] 45) = X1 := ⟨_, rfl⟩
      have hu1 : Below X0.heap.size X0 X1 := by rw [← hE1]; exact (Below.refl _ X0).alloc (Nat.le_refl _) _
      have rA : Row X1 X0.heap.size 45 [.int .i64 ca, .int .i64 ck] := by rw [← hE1]; exact Row.new X0 45 #[.int .i64 ca, .int .i64 ck]
      have hX1 : Below w2.heap.size w2 X1 := hX0.trans (hu1.mono hX0.size)
      have hz1 := hu1.size
      rw [hE1]
      refine hK.out _ _ hX1 ?_
      clear hK K hE1
      refine wpAnyH_either (i := 3) (j := 6) (by kernel_rfl) rfl rfl (fun K hK => ?_) (fun K hK => ?_)
      · rw [if_pos (by rfl)]
        go_simp
        refine (HN.out X1 _ rA).mono ?_
        rintro e X2 ⟨p, g, rfl, hp, hg, hD, hu2⟩
        have hX2 : Below w2.heap.size w2 X2 := hX1.trans (hu2.mono hX1.size)
        have hz2 := hu2.size
        have hl := hD.lt
        refine hK.out _ _ hX2 ?_
        clear hK K
        refine wpAnyH_only (i := 6) (by kernel_rfl) rfl (fun K hK => ?_)
        rw [if_pos (by rfl)]
        go_simp
        obtain ⟨X3, hE3⟩ : ∃ X3, X2.alloc (.cells #[.int .i64 ca, .int .i64 ck] 45) = X3 := ⟨_, rfl⟩
        have hu3 : Below X2.heap.size X2 X3 := by rw [← hE3]; exact (Below.refl _ X2).alloc (Nat.le_refl _) _
        have rB : Row X3 X2.heap.size 45 [.int .i64 ca, .int .i64 ck] := by rw [← hE3]; exact Row.new X2 45 #[.int .i64 ca, .int .i64 ck]
        have hX3 : Below w2.heap.size w2 X3 := hX2.trans (hu3.mono hX2.size)
        have hz3 := hu3.size
        rw [hE3]
        refine hK.out _ _ hX3 ?_
        clear hK K hE3
        refine wpAnyH_only (i := 7) (by kernel_rfl) rfl (fun K hK => ?_)
        rw [if_pos (by rfl)]
        go_simp
        refine (HN2.out X3 _ p g rB (by omega) (by omega)).mono ?_
        rintro e X4 ⟨p', g', rfl, hp', hg', hR, hu4⟩
        have hX4 : Below w2.heap.size w2 X4 := hX3.trans (hu4.mono hX3.size)
        have hz4 := hu4.size
        refine hK.out _ _ hX4 ?_
        clear hK K
        refine wpAnyH_takesAt 8 1 1 (of_decide_eq_true (by kernel_rfl)) rfl (fun _ _ _ d _ h => by cases d <;> exact h) (by kernel_rfl) (by kernel_rfl) hX4 ?_
        simp only [List.drop_succ_cons, List.drop_zero, List.take_succ_cons, List.take_zero]
        iterate 1 (refine wpHeld_step (v := ?_) (by rfl) (fun wz hSw => ?_) ?_; rotate_left; (focus ((try dsimp only at hSw); go_simp; try with_reducible rfl)); ((simp only [Act.put]; (try simp only [List.setIfInBounds_toArray]); (try simp only [List.set_cons_succ]); (try simp only [List.set_cons_zero]))))
        refine wpHeld_nil ?_
        refine wpAnyH_takesAt 9 1 0 (of_decide_eq_true (by kernel_rfl)) rfl (fun _ _ _ d _ h => by cases d <;> exact h) (by kernel_rfl) (by kernel_rfl) hX4 ?_
        simp only [List.drop_succ_cons, List.drop_zero, List.take_succ_cons, List.take_zero]
        iterate 1 (refine wpHeld_step (v := ?_) (by rfl) (fun wz hSw => ?_) ?_; rotate_left; (focus ((try dsimp only at hSw); go_simp; try with_reducible rfl)); ((simp only [Act.put]; (try simp only [List.setIfInBounds_toArray]); (try simp only [List.set_cons_succ]); (try simp only [List.set_cons_zero]))))
        refine wpHeld_nil ?_
        refine wpAnyH_done (by kernel_rfl) ?_ _
        exact ⟨p, g, p', g', X0.heap.size, X2.heap.size, rfl, both_new hD hR (hu3.trans (hu4.mono hu3.size)) ⟨by omega, by omega⟩ ⟨by omega, by omega⟩, hb02.trans (hX4.mono hb02.size)⟩
      · rw [if_pos (by rfl)]
        go_simp
        obtain ⟨X2, hE2⟩ : ∃ X2, X1.alloc (.cells #[.int .i64 ca, .int .i64 ck] 45) = X2 := ⟨_, rfl⟩
        have hu2 : Below X1.heap.size X1 X2 := by rw [← hE2]; exact (Below.refl _ X1).alloc (Nat.le_refl _) _
        have rB : Row X2 X1.heap.size 45 [.int .i64 ca, .int .i64 ck] := by rw [← hE2]; exact Row.new X1 45 #[.int .i64 ca, .int .i64 ck]
        have hX2 : Below w2.heap.size w2 X2 := hX1.trans (hu2.mono hX1.size)
        have hz2 := hu2.size
        replace rA := rA.later hu2
        rw [hE2]
        refine hK.out _ _ hX2 ?_
        clear hK K hE2
        refine wpAnyH_only (i := 3) (by kernel_rfl) rfl (fun K hK => ?_)
        rw [if_pos (by rfl)]
        go_simp
        have hlB := rB.lt
        refine (HN.out X2 _ rA).mono ?_
        rintro e X3 ⟨p, g, rfl, hp, hg, hD, hu3⟩
        have hX3 : Below w2.heap.size w2 X3 := hX2.trans (hu3.mono hX2.size)
        have hz3 := hu3.size
        replace rB := rB.later hu3
        have hl := hD.lt
        refine hK.out _ _ hX3 ?_
        clear hK K
        refine wpAnyH_only (i := 7) (by kernel_rfl) rfl (fun K hK => ?_)
        rw [if_pos (by rfl)]
        go_simp
        refine (HN2.out X3 _ p g rB (by omega) (by omega)).mono ?_
        rintro e X4 ⟨p', g', rfl, hp', hg', hR, hu4⟩
        have hX4 : Below w2.heap.size w2 X4 := hX3.trans (hu4.mono hX3.size)
        have hz4 := hu4.size
        refine hK.out _ _ hX4 ?_
        clear hK K
        refine wpAnyH_takesAt 8 1 1 (of_decide_eq_true (by kernel_rfl)) rfl (fun _ _ _ d _ h => by cases d <;> exact h) (by kernel_rfl) (by kernel_rfl) hX4 ?_
        simp only [List.drop_succ_cons, List.drop_zero, List.take_succ_cons, List.take_zero]
        iterate 1 (refine wpHeld_step (v := ?_) (by rfl) (fun wz hSw => ?_) ?_; rotate_left; (focus ((try dsimp only at hSw); go_simp; try with_reducible rfl)); ((simp only [Act.put]; (try simp only [List.setIfInBounds_toArray]); (try simp only [List.set_cons_succ]); (try simp only [List.set_cons_zero]))))
        refine wpHeld_nil ?_
        refine wpAnyH_takesAt 9 1 0 (of_decide_eq_true (by kernel_rfl)) rfl (fun _ _ _ d _ h => by cases d <;> exact h) (by kernel_rfl) (by kernel_rfl) hX4 ?_
        simp only [List.drop_succ_cons, List.drop_zero, List.take_succ_cons, List.take_zero]
        iterate 1 (refine wpHeld_step (v := ?_) (by rfl) (fun wz hSw => ?_) ?_; rotate_left; (focus ((try dsimp only at hSw); go_simp; try with_reducible rfl)); ((simp only [Act.put]; (try simp only [List.setIfInBounds_toArray]); (try simp only [List.set_cons_succ]); (try simp only [List.set_cons_zero]))))
        refine wpHeld_nil ?_
        refine wpAnyH_done (by kernel_rfl) ?_ _
        exact ⟨p, g, p', g', X0.heap.size, X1.heap.size, rfl, both_new hD hR (hu4) ⟨by omega, by omega⟩ ⟨by omega, by omega⟩, hb02.trans (hX4.mono hb02.size)⟩
    · rw [if_pos (by rfl)]
      go_simp
      obtain ⟨X1, hE1⟩ : ∃ X1, X0.alloc (.cells #[.int .i64 ca, .int .i64 ck] 45) = X1 := ⟨_, rfl⟩
      have hu1 : Below X0.heap.size X0 X1 := by rw [← hE1]; exact (Below.refl _ X0).alloc (Nat.le_refl _) _
      have rB : Row X1 X0.heap.size 45 [.int .i64 ca, .int .i64 ck] := by rw [← hE1]; exact Row.new X0 45 #[.int .i64 ca, .int .i64 ck]
      have hX1 : Below w2.heap.size w2 X1 := hX0.trans (hu1.mono hX0.size)
      have hz1 := hu1.size
      rw [hE1]
      refine hK.out _ _ hX1 ?_
      clear hK K hE1
      refine wpAnyH_only (i := 2) (by kernel_rfl) rfl (fun K hK => ?_)
      rw [if_pos (by rfl)]
      go_simp
      obtain ⟨X2, hE2⟩ : ∃ X2, X1.alloc (.cells #[.int .i64 ca, .int .i64 ck] 45) = X2 := ⟨_, rfl⟩
      have hu2 : Below X1.heap.size X1 X2 := by rw [← hE2]; exact (Below.refl _ X1).alloc (Nat.le_refl _) _
      have rA : Row X2 X1.heap.size 45 [.int .i64 ca, .int .i64 ck] := by rw [← hE2]; exact Row.new X1 45 #[.int .i64 ca, .int .i64 ck]
      have hX2 : Below w2.heap.size w2 X2 := hX1.trans (hu2.mono hX1.size)
      have hz2 := hu2.size
      replace rB := rB.later hu2
      rw [hE2]
      refine hK.out _ _ hX2 ?_
      clear hK K hE2
      refine wpAnyH_only (i := 3) (by kernel_rfl) rfl (fun K hK => ?_)
      rw [if_pos (by rfl)]
      go_simp
      have hlB := rB.lt
      refine (HN.out X2 _ rA).mono ?_
      rintro e X3 ⟨p, g, rfl, hp, hg, hD, hu3⟩
      have hX3 : Below w2.heap.size w2 X3 := hX2.trans (hu3.mono hX2.size)
      have hz3 := hu3.size
      replace rB := rB.later hu3
      have hl := hD.lt
      refine hK.out _ _ hX3 ?_
      clear hK K
      refine wpAnyH_only (i := 7) (by kernel_rfl) rfl (fun K hK => ?_)
      rw [if_pos (by rfl)]
      go_simp
      refine (HN2.out X3 _ p g rB (by omega) (by omega)).mono ?_
      rintro e X4 ⟨p', g', rfl, hp', hg', hR, hu4⟩
      have hX4 : Below w2.heap.size w2 X4 := hX3.trans (hu4.mono hX3.size)
      have hz4 := hu4.size
      refine hK.out _ _ hX4 ?_
      clear hK K
      refine wpAnyH_takesAt 8 1 1 (of_decide_eq_true (by kernel_rfl)) rfl (fun _ _ _ d _ h => by cases d <;> exact h) (by kernel_rfl) (by kernel_rfl) hX4 ?_
      simp only [List.drop_succ_cons, List.drop_zero, List.take_succ_cons, List.take_zero]
      iterate 1 (refine wpHeld_step (v := ?_) (by rfl) (fun wz hSw => ?_) ?_; rotate_left; (focus ((try dsimp only at hSw); go_simp; try with_reducible rfl)); ((simp only [Act.put]; (try simp only [List.setIfInBounds_toArray]); (try simp only [List.set_cons_succ]); (try simp only [List.set_cons_zero]))))
      refine wpHeld_nil ?_
      refine wpAnyH_takesAt 9 1 0 (of_decide_eq_true (by kernel_rfl)) rfl (fun _ _ _ d _ h => by cases d <;> exact h) (by kernel_rfl) (by kernel_rfl) hX4 ?_
      simp only [List.drop_succ_cons, List.drop_zero, List.take_succ_cons, List.take_zero]
      iterate 1 (refine wpHeld_step (v := ?_) (by rfl) (fun wz hSw => ?_) ?_; rotate_left; (focus ((try dsimp only at hSw); go_simp; try with_reducible rfl)); ((simp only [Act.put]; (try simp only [List.setIfInBounds_toArray]); (try simp only [List.set_cons_succ]); (try simp only [List.set_cons_zero]))))
      refine wpHeld_nil ?_
      refine wpAnyH_done (by kernel_rfl) ?_ _
      exact ⟨p, g, p', g', X1.heap.size, X0.heap.size, rfl, both_new hD hR (hu4) ⟨by omega, by omega⟩ ⟨by omega, by omega⟩, hb02.trans (hX4.mono hb02.size)⟩
  case tail =>
    rintro a' w3 ⟨p, g, p', g', b, b', rfl, hBo, hbW⟩
    obtain ⟨d0, hd0⟩ : ∃ d0, newS n [(ca, ck)] = d0 := ⟨_, rfl⟩
    have hcr0 : d0.cr = [(ca, ck)] := by rw [← hd0]; rfl
    have hwr0 : d0.wr = 0 := by rw [← hd0]; rfl
    have hlen0 : d0.ss.length ≤ 60 := by
      rw [← hd0]
      show (List.replicate (sizeS n) zeros64).length ≤ 60
      rw [List.length_replicate, sizeS]
      omega
    rw [hd0] at hBo
    have HBo : Hid (Both w.heap.size p g p' g' w3 d0) := hBo
    have HB3 : Hid (Below w.heap.size w w3) := hbW
    have hlow := hBo.low
    clear hd0 hBo hbW HN HN2 HR2 HR1 HA HFw hb02 hb2
    obtain ⟨E0, hE0⟩ : ∃ E0, (if regB d0.ss.length ((0 : Nat) : Int) s = true then d0.wErr ((0 : Nat) : Int) else 1) = E0 := ⟨_, rfl⟩
    obtain ⟨d1, hd1⟩ : ∃ d1, (if regB d0.ss.length ((0 : Nat) : Int) s = true then d0.write ((0 : Nat) : Int) zeros64 else d0) = d1 := ⟨_, rfl⟩
    have HFo : Hid (Calls Try.prog 19 #[.pointer (some ⟨p, 0, none⟩), .int .i64 0, .int .i64 s, .int .u32 (gen : Nat)] w3 fun e w' => e = .returned (.int .i64 E0) ∧ DiskAt [p, g, p', g'] w' p g d1 ∧ Buts [p, g] w3.heap.size w3 w') := by
      have := format_any HBo.out.mine ((0 : Nat) : Int) s gen hs (by omega) (by omega)
      rw [hE0, hd1] at this
      exact this
    have HFr : Hid (∀ W, Buts [p, g] w3.heap.size w3 W → Calls Try.prog 20 #[.pointer (some ⟨p', 0, none⟩), .int .i64 0, .int .i64 s, .int .u32 (gen : Nat)] W fun e w' => e = .returned (.int .i64 E0) ∧ RefAt [p, g, p', g'] w' p' g' d1 ∧ Buts [p', g'] W.heap.size W w') := fun W hb => by
      have := refFormat_any (HBo.out.first hb) ((0 : Nat) : Int) s gen hs (by omega) (by omega)
      rw [hE0, hd1] at this
      exact this
    by_cases hz : ¬ E0 = 0
    · have g2 : (E0 == 0) = false := by simp [hz]
      go_wp2_with (first
        | (go_at_call 19; refine HFo.out.mono ?_; rintro e w4 ⟨rfl, hD4, hb4⟩)
        | (go_at_call 20; refine (HFr.out _ hb4).mono ?_; rintro e w5 ⟨rfl, hR5, hb5⟩))
      go_ret
      exact ⟨by simp, HBo.out.below hb4 hb5 w rfl HB3.out⟩
    obtain rfl : E0 = 0 := Decidable.not_not.1 hz
    have hreg : regB d0.ss.length ((0 : Nat) : Int) s = true := by
      cases hr : regB d0.ss.length ((0 : Nat) : Int) s with
      | true => rfl
      | false => rw [hr] at hE0; simp at hE0
    rw [if_pos hreg] at hE0 hd1
    obtain ⟨sn, rfl⟩ : ∃ s' : Nat, s = (s' : Nat) := ⟨s.toNat, by simp only [regB, Bool.and_eq_true, decide_eq_true_eq] at hreg; omega⟩
    obtain ⟨hs2, hsl⟩ : 2 ≤ sn ∧ sn ≤ d0.ss.length := by simp only [regB, Bool.and_eq_true, decide_eq_true_eq] at hreg; omega
    obtain ⟨_, b2, b3, b4⟩ := wrote_ok (s := zeros64) hE0
    rw [hd1] at b2 b3 b4
    have hl1 : d1.ss.length = d0.ss.length := by rw [b3, List.length_set]
    have hg0 : (d1.ss.getD 0 []).getD 63 0 ≠ 165 := by
      rw [show d1.ss.getD 0 [] = zeros64 by rw [b3, List.getD_eq_getElem?_getD, List.getElem?_set_self (by omega), Option.getD_some]]
      decide
    have hcr1 : d1.cr = [(ca, ck)] := by rw [← hd1, write_cr]; exact hcr0
    have HOp : Hid (∀ W, Both w.heap.size p g p' g' W d1 → Calls Try.prog 12 #[.pointer (some ⟨p, 0, none⟩), .int .i64 0, .int .i64 (sn : Nat), .int .u32 (gen : Nat)] W fun e w' => ∃ L v, e = .returned (.tuple #[.pointer (some ⟨L, 0, none⟩), .int .i64 0]) ∧ W.heap.size ≤ L ∧ (∀ k, v.ownBlock = some k → W.heap.size ≤ k) ∧ Below W.heap.size W w' ∧ MSt [p, g, p', g'] W.heap.size w' L p g v d1 ⟨0, sn, gen, 0, [], false⟩) := fun W h => by
      have := open_live h.mine (crLow_mine h.mine) h.mine.lt (Nat.le_refl _) 0 sn gen hs2 (by omega) hgen b2 (by omega)
      rw [scan_fresh hg0] at this
      exact this
    have HRo : Hid (∀ W W', Both w.heap.size p g p' g' W d1 → Below W.heap.size W W' → Calls Try.prog 13 #[.pointer (some ⟨p', 0, none⟩), .int .i64 0, .int .i64 (sn : Nat), .int .u32 (gen : Nat)] W' fun e w' => ∃ L v, e = .returned (.tuple #[.pointer (some ⟨L, 0, none⟩), .int .i64 0]) ∧ (∀ k, v.ownBlock = some k → W'.heap.size ≤ k) ∧ Below W'.heap.size W' w' ∧ RSt [p, g, p', g'] W.heap.size w' L p' g' v d1 ⟨0, sn, gen, 0, [], false⟩) := fun W W' h hb => by
      obtain ⟨f1, f2⟩ := h.other.frame (n₀ := W.heap.size) (S := []) (crLow_ref h.other) (Buts.of_below hb (Nat.le_refl _)) (by simp) (by simp) (by simp)
      refine (refOpen_live f1 f2 h.other.lt hb.size 0 sn gen hs2 (by omega) hgen b2).mono ?_
      rintro e w' ⟨L, v, a1, _, a3, a4, a5⟩
      rw [scan_fresh hg0] at a5
      exact ⟨L, v, a1, a3, a4, a5⟩
    clear hE0 hd1 hreg hz hs
    go_wp2_with (first
      | (go_at_call 19; refine HFo.out.mono ?_; rintro e w4 ⟨rfl, hD4, hb4⟩; have HD4 : Hid (DiskAt [p, g, p', g'] w4 p g d1) := hD4; clear hD4)
      | (go_at_call 20; refine (HFr.out _ hb4).mono ?_; rintro e w5 ⟨rfl, hR5, hb5⟩; have HBo5 : Hid (Both w.heap.size p g p' g' w5 d1) := HBo.out.second HD4.out hR5 hb5; have HB5 : Hid (Below w.heap.size w w5) := HBo.out.below hb4 hb5 w rfl HB3.out; clear hR5 hb4 hb5)
      | (go_at_call 12; refine (HOp.out _ HBo5.out).mono ?_; rintro e w6 ⟨L, v, rfl, hL, hv6, hb6, hM6⟩; have HM6 : Hid (MSt [p, g, p', g'] w5.heap.size w6 L p g v d1 ⟨0, sn, gen, 0, [], false⟩) := hM6; clear hM6)
      | (go_at_call 13; refine (HRo.out _ _ HBo5.out hb6).mono ?_; rintro e w7 ⟨L', v', rfl, hv7, hb7, hR7⟩; have HTw : Hid (Two w5.heap.size w7 L L' p g p' g' v v' d1 ⟨0, sn, gen, 0, [], false⟩) := ⟨HM6.out.later hb7, hR7, HBo5.out.apart, fun k hk hk' => by have h1 := (HM6.out.own hk).2.1; have h2 := hv7 k hk'; omega⟩; have HB7 : Hid (Below w.heap.size w w7) := (HB5.out.trans (hb6.mono HB5.out.size)).trans (hb7.mono (Nat.le_trans HB5.out.size hb6.size)); clear hR7))
    have hs5 := HB5.out.size
    clear hb6 hb7 hv6 hv7 hL HM6 HOp HRo HFo HFr HD4 HBo
    go_loopw [86] (fun iv wy => ∃ (j : Nat) (dd : St) (lg : Lg) (v v' : Value), j ≤ ll ∧ iv = .int .i64 j ∧ Two w5.heap.size wy L L' p g p' g' v v' dd lg ∧ lg.f = 0 ∧ lg.n = sn ∧ lg.gen = gen ∧ lg.pos ≤ lg.n ∧ lg.recs.length ≤ j ∧ (∀ z ∈ lg.recs, z.length ≤ 400) ∧ dd.wr ≤ 61 + 20 * j ∧ dd.cr = [(ca, ck)] ∧ dd.ss.length = d0.ss.length ∧ Below w.heap.size w wy) (fun iv _ => ll - (intOf iv).toNat)
    case atStart => exact ⟨0, d1, _, v, v', Nat.zero_le _, rfl, HTw.out, rfl, rfl, rfl, Nat.zero_le _, Nat.le_refl _, fun z hz => by simp at hz, by omega, hcr1, hl1, HB7.out⟩
    case round =>
      obtain ⟨j, dd, lg, v, v', hj, rfl, hT, hlf, hln, hlg, hpos, hrc, hz4, hwr, hcr, hsl2, hbl⟩ := hrel
      obtain ⟨yq, yc, rfl⟩ := hT.other.log.2.slice
      have hsz := hbl.size
      obtain ⟨hal, hl20⟩ : (∀ v ∈ vs, v.2.1 ≤ 400) ∧ vs.length ≤ 20 := by
        have := HFew.out
        simp only [fewL, Bool.and_eq_true, List.all_eq_true, decide_eq_true_eq] at this
        exact this
      have hvl2 : vs.length = ll := HVs.out.1
      have hlo := hT.mine.low
      have hlo' := hT.other.low
      by_cases hlt : j < ll
      · have hji : ((j : Nat) : Int) < (ll : Nat) := by omega
        obtain ⟨y, hy⟩ : ∃ y, vs.getD j (none, 0, 0) = y := ⟨_, rfl⟩
        obtain ⟨qx, lx, cx⟩ := y
        obtain ⟨b0, hb0⟩ : ∃ b0, want.getD j [] = b0 := ⟨_, rfl⟩
        have hIx : IsBytes w.heap.size w qx lx cx b0 := by
          have := HVb.out j hlt
          rw [hy, hb0] at this
          exact this
        have hx4 : lx ≤ 400 := by
          have hm : vs.getD j (none, 0, 0) ∈ vs := by
            rw [List.getD_eq_getElem?_getD, List.getElem?_eq_getElem (by omega), Option.getD_some]
            exact List.getElem_mem _
          rw [hy] at hm
          exact hal _ hm
        have hzl : b0.length = lx := hIx.1
        obtain ⟨lb, loff, rfl, hlb, hcl⟩ := HVs.out.2.2.2.resolve_left (by omega)
        have hcx : wr.cell? ⟨lb, loff + j, none⟩ = some (.slice qx lx cx) := by
          have := hcl j hlt
          rw [hy] at this
          exact (hbl.cell (p := ⟨lb, loff + j, none⟩) hlb).trans this
        obtain ⟨e0, he0⟩ : ∃ e0, (appL dd lg b0).1 = e0 := ⟨_, rfl⟩
        obtain ⟨n1, n2, n3⟩ := appL_nums (d := dd) (l := lg) (b := b0) (by omega) hpos
        obtain ⟨m1, m2, m3, m4, m5, m6⟩ := appL_keeps dd lg b0
        have hok : LgOk lg dd := ⟨by omega, by omega, hpos, by omega, by omega, by omega⟩
        have HBw : Hid (∀ W, Buts (L :: p :: g :: ownL v) wr.heap.size wr W → Below w.heap.size w W) := fun W hb => hbl.trans (hb.below hsz (fun x hx => by
          simp only [List.mem_cons] at hx
          rcases hx with e | e | e | e
          · omega
          · omega
          · omega
          · have := (hT.mine.own (mem_ownL.1 e)).1; omega))
        have HBw2 : Hid (∀ W W', Buts (L :: p :: g :: ownL v) wr.heap.size wr W → Buts (L' :: p' :: g' :: ownL (.slice yq lg.recs.length yc)) W.heap.size W W' → Below w.heap.size w W') := fun W W' hb hb' => (HBw.out W hb).trans (hb'.below (HBw.out W hb).size (fun x hx => by
          simp only [List.mem_cons] at hx
          rcases hx with e | e | e | e
          · omega
          · omega
          · omega
          · have := (hT.other.own (mem_ownL.1 e)).1; omega))
        have hqn : ∀ P G : Nat, w.heap.size ≤ P → w.heap.size ≤ G → 0 < lx → ∀ b off, qx = some ⟨b, off, none⟩ → b ≠ P ∧ b ≠ G := fun P G hP hG hp0 b off e => by
          rcases hIx.2.2.2.2 with h0 | ⟨b', off', e', hb', _⟩
          · omega
          · rw [e] at e'; cases e'; omega
        have HAp : Hid (Calls Try.prog 21 #[.pointer (some ⟨L, 0, none⟩), .slice qx lx cx] wr fun e w' => ∃ v2, e = .returned (.int .i64 e0) ∧ MSt [p, g, p', g'] w5.heap.size w' L p g v2 (appL dd lg b0).2.1 (appL dd lg b0).2.2 ∧ Buts (L :: p :: g :: ownL v) wr.heap.size wr w' ∧ KeepT 5 wr w' ∧ (∀ k, v2.ownBlock = some k → v.ownBlock = some k ∨ wr.heap.size ≤ k)) := by
          have := append_any hT.mine hok qx lx cx b0 (hIx.below hbl) hsz (hqn p g (by omega) (by omega)) (by omega) (by have := hT.mine.lt; omega) (by omega)
          exact this.mono fun e w' ⟨v2, a1, a2, a3, a4, a5⟩ => ⟨v2, by rw [he0] at a1; exact a1, a2, a3, a4, a5⟩
        have HAr : Hid (∀ W, Buts (L :: p :: g :: ownL v) wr.heap.size wr W → KeepT 5 wr W → Calls Try.prog 22 #[.pointer (some ⟨L', 0, none⟩), .slice qx lx cx] W fun e w' => ∃ v2, e = .returned (.int .i64 e0) ∧ RSt [p, g, p', g'] w5.heap.size w' L' p' g' v2 (appL dd lg b0).2.1 (appL dd lg b0).2.2 ∧ Buts (L' :: p' :: g' :: ownL (.slice yq lg.recs.length yc)) W.heap.size W w' ∧ KeepT 5 W w' ∧ (∀ k, v2.ownBlock = some k → (Value.slice yq lg.recs.length yc).ownBlock = some k ∨ W.heap.size ≤ k)) := fun W hb h5 => by
          have := refAppend_any (hT.first hb h5) hok qx lx cx b0 (hIx.below (HBw.out W hb)) (HBw.out W hb).size (hqn p' g' (by omega) (by omega)) (by omega) (by have h1 := hT.mine.lt; have h2 := hb.size; omega)
          exact this.mono fun e w' ⟨v2, a1, a2, a3, a4, a5⟩ => ⟨v2, by rw [he0] at a1; exact a1, a2, a3, a4, a5⟩
        have HT : Hid (Two w5.heap.size wr L L' p g p' g' v (.slice yq lg.recs.length yc) dd lg) := hT
        have HZ4 : Hid (∀ z ∈ (appL dd lg b0).2.2.recs, z.length ≤ 400) := fun z hz => by
          rcases m6 z hz with h | h
          · exact hz4 z h
          · rw [h]; omega
        have HNum : Hid ((appL dd lg b0).2.2.f = 0 ∧ (appL dd lg b0).2.2.n = sn ∧ (appL dd lg b0).2.2.gen = gen ∧ (appL dd lg b0).2.2.pos ≤ (appL dd lg b0).2.2.n ∧ (appL dd lg b0).2.2.recs.length ≤ j + 1 ∧ (appL dd lg b0).2.1.wr ≤ 61 + 20 * (j + 1) ∧ (appL dd lg b0).2.1.cr = [(ca, ck)] ∧ (appL dd lg b0).2.1.ss.length = d0.ss.length) := ⟨m3.trans hlf, m4.trans hln, m5.trans hlg, n2, Nat.le_trans n3 (by omega), Nat.le_trans n1 (by omega), m1.trans hcr, m2.trans hsl2⟩
        obtain ⟨dn, hdn⟩ : ∃ dn, (appL dd lg b0).2.1 = dn := ⟨_, rfl⟩
        obtain ⟨ln, hln2⟩ : ∃ ln, (appL dd lg b0).2.2 = ln := ⟨_, rfl⟩
        rw [hdn, hln2] at HAp HAr HNum
        rw [hln2] at HZ4
        clear hT hlf hln hlg hpos hrc hz4 hwr hcr hsl2 hal hcl hb0 hy hIx he0 n1 n2 n3 m1 m2 m3 m4 m5 m6 hok hqn hdn hln2 hbl
        go_wp2_with (first
          | (go_at_call 21; refine HAp.out.mono ?_; rintro e wa ⟨v2, rfl, hMa, hba, h5a, hva⟩; have HMa : Hid (MSt [p, g, p', g'] w5.heap.size wa L p g v2 dn ln) := hMa; clear hMa)
          | (go_at_call 22; refine (HAr.out wa hba h5a).mono ?_; rintro e wb ⟨v3, rfl, hRb, hbb, h5b, hvb⟩; have HTb : Hid (Two w5.heap.size wb L L' p g p' g' v2 v3 dn ln) := HT.out.second HMa.out hba hva hRb hbb h5b hvb; have HBb : Hid (Below w.heap.size w wb) := HBw2.out wa wb hba hbb; clear hRb hba hbb h5a h5b hva hvb))
        obtain ⟨k1, k2, k3, k4, k5, k6, k7, k8⟩ := HNum.out
        exact ⟨⟨j + 1, dn, ln, v2, v3, by omega, by simp, HTb.out, k1, k2, k3, k4, k5, HZ4.out, k6, k7, k8, HBb.out⟩, by simp [intOf]; omega⟩
      · have hji : ¬ ((j : Nat) : Int) < (ll : Nat) := by omega
        have HT : Hid (Two w5.heap.size wr L L' p g p' g' v (.slice yq lg.recs.length yc) dd lg) := hT
        have hcs : dd.start.cr = [] := by show dd.cr.drop 1 = []; rw [hcr]; rfl
        have HSta : Hid (Calls Try.prog 23 #[.pointer (some ⟨p, 0, none⟩)] wr fun e w' => (∃ v, e = .returned v) ∧ DiskAt [p, g, p', g'] w' p g dd.start ∧ Buts [p, g] wr.heap.size wr w') := start_any hT.mine.disk
        have HSt2 : Hid (∀ W, Buts [p, g] wr.heap.size wr W → Calls Try.prog 24 #[.pointer (some ⟨p', 0, none⟩)] W fun e w' => (∃ v, e = .returned v) ∧ RefAt [p, g, p', g'] w' p' g' dd.start ∧ Buts [p', g'] W.heap.size W w') := fun W hb => refStart_any (HT.out.first (hb.mono (by simp) (Nat.le_refl _)) (HT.out.mine.keep5 hb)).disk
        have HCs : Hid (dd.start.cr = []) := hcs
        obtain ⟨k1, k2, k3⟩ := scan_ok dd.ss 0 sn gen (sn + 1) 0 [] (by omega) (by simp) (by simp)
        have HOp2 : Hid (∀ W, DiskAt [p, g, p', g'] W p g dd.start → Calls Try.prog 12 #[.pointer (some ⟨p, 0, none⟩), .int .i64 0, .int .i64 (sn : Nat), .int .u32 (gen : Nat)] W fun e w' => ∃ L v, e = .returned (.tuple #[.pointer (some ⟨L, 0, none⟩), .int .i64 0]) ∧ Below W.heap.size W w' ∧ MSt [p, g, p', g'] W.heap.size w' L p g v dd.start ⟨0, sn, gen, (scan dd.ss 0 sn gen (sn + 1) 0 []).1, (scan dd.ss 0 sn gen (sn + 1) 0 []).2, false⟩) := fun W h =>
          (open_live h (crLow_mine h) h.lt (Nat.le_refl _) 0 sn gen hs2 (by show 0 + sn ≤ dd.ss.length; omega) hgen rfl (by show 0 ≤ _; omega)).mono fun e w' ⟨L, v, a1, _, _, a4, a5⟩ => ⟨L, v, a1, a4, a5⟩
        have HRo2 : Hid (∀ W, RefAt [p, g, p', g'] W p' g' dd.start → Calls Try.prog 13 #[.pointer (some ⟨p', 0, none⟩), .int .i64 0, .int .i64 (sn : Nat), .int .u32 (gen : Nat)] W fun e w' => ∃ L v, e = .returned (.tuple #[.pointer (some ⟨L, 0, none⟩), .int .i64 0]) ∧ Below W.heap.size W w' ∧ RSt [p, g, p', g'] W.heap.size w' L p' g' v dd.start ⟨0, sn, gen, (scan dd.ss 0 sn gen (sn + 1) 0 []).1, (scan dd.ss 0 sn gen (sn + 1) 0 []).2, false⟩) := fun W h =>
          (refOpen_live h (crLow_ref h) h.lt (Nat.le_refl _) 0 sn gen hs2 (by show 0 + sn ≤ dd.ss.length; omega) hgen rfl).mono fun e w' ⟨L, v, a1, _, _, a4, a5⟩ => ⟨L, v, a1, a4, a5⟩
        obtain ⟨A, hA⟩ : ∃ A, (scan dd.ss 0 sn gen (sn + 1) 0 []).1 = A := ⟨_, rfl⟩
        obtain ⟨R, hR⟩ : ∃ R, (scan dd.ss 0 sn gen (sn + 1) 0 []).2 = R := ⟨_, rfl⟩
        simp only [hA, hR] at HOp2 HRo2 k1 k2 k3
        have HRo3 : Hid (∀ W, RefAt [p, g, p', g'] W p' g' dd.start → Calls Try.prog 13 #[.pointer (some ⟨p', 0, none⟩), .int .i64 0, .int .i64 (sn : Nat), .int .u32 (gen : Nat)] W fun e w' => ∃ L vq vc, e = .returned (.tuple #[.pointer (some ⟨L, 0, none⟩), .int .i64 0]) ∧ Below W.heap.size W w' ∧ RSt [p, g, p', g'] W.heap.size w' L p' g' (.slice vq R.length vc) dd.start ⟨0, sn, gen, A, R, false⟩) := fun W h => (HRo2.out W h).mono fun e w' ⟨L, v, a1, a4, a5⟩ => by
          obtain ⟨vq, vc, rfl⟩ := a5.log.2.slice
          exact ⟨L, vq, vc, a1, a4, a5⟩
        have HSm1 : Hid (∀ W, Two w5.heap.size W L L' p g p' g' v (.slice yq lg.recs.length yc) dd.start lg → Calls Try.prog 14 #[.pointer (some ⟨L, 0, none⟩), .slice yq lg.recs.length yc] W fun e w' => e = .returned (.bool true) ∧ Below W.heap.size W w') := fun W h => by
          have := same_any h.mine (by omega) (fun z hz => Nat.le_trans (hz4 z hz) (by omega)) yq lg.recs.length yc lg.recs (wantAt_of h.other.log.2)
          rw [show decide (lg.recs = lg.recs) = true from decide_eq_true rfl] at this
          exact this
        have HSm2 : Hid (∀ W L2 L3 v2 vq vc m m', MSt [p, g, p', g'] m W L2 p g v2 dd.start ⟨0, sn, gen, A, R, false⟩ → RSt [p, g, p', g'] m' W L3 p' g' (.slice vq R.length vc) dd.start ⟨0, sn, gen, A, R, false⟩ → Calls Try.prog 14 #[.pointer (some ⟨L2, 0, none⟩), .slice vq R.length vc] W fun e w' => e = .returned (.bool true) ∧ Below W.heap.size W w') := fun W L2 L3 v2 vq vc m m' h h' => by
          have := same_any h (by show R.length ≤ _; omega) (fun z hz => Nat.le_trans (k3 z hz) (by omega)) vq R.length vc R (wantAt_of h'.log.2)
          rw [show decide (R = R) = true from decide_eq_true rfl] at this
          exact this
        have HBs : Hid (∀ W W', Buts [p, g] wr.heap.size wr W → Buts [p', g'] W.heap.size W W' → Below w.heap.size w W') := fun W W' h h' => (hbl.trans (h.below hsz (by simp; omega))).trans (h'.below (Nat.le_trans hsz h.size) (by simp; omega))
        clear hT hlf hln hlg hpos hrc hz4 hwr hcr hsl2 hal hbl hA hR k1 k2 k3 hcs HRo2
        go_wp2_with (first
          | (go_at_call 23; refine HSta.out.mono ?_; rintro e wa ⟨⟨u, rfl⟩, hDa, hba⟩; have HDa : Hid (DiskAt [p, g, p', g'] wa p g dd.start) := hDa; clear hDa)
          | (go_at_call 24; refine (HSt2.out wa hba).mono ?_; rintro e wb ⟨⟨u, rfl⟩, hRb, hbb⟩; have HTb : Hid (Two w5.heap.size wb L L' p g p' g' v (.slice yq lg.recs.length yc) dd.start lg) := HT.out.started HDa.out hba hRb hbb HCs.out; have HBb : Hid (Below w.heap.size w wb) := HBs.out wa wb hba hbb; clear hRb hba hbb)
          | (go_at_call 12; refine (HOp2.out _ HTb.out.mine.disk).mono ?_; rintro e wc ⟨L2, v2, rfl, hbc, hMc⟩; have HMc : Hid (MSt [p, g, p', g'] wb.heap.size wc L2 p g v2 dd.start ⟨0, sn, gen, A, R, false⟩) := hMc; have HTc : Hid (Two w5.heap.size wc L L' p g p' g' v (.slice yq lg.recs.length yc) dd.start lg) := HTb.out.later hbc; have HBc : Hid (Below w.heap.size w wc) := HBb.out.trans (hbc.mono HBb.out.size); clear hMc hbc)
          | (go_at_call 13; refine (HRo3.out _ HTc.out.other.disk).mono ?_; rintro e we ⟨L3, vq, vc, rfl, hbe, hRe⟩; have HRe : Hid (RSt [p, g, p', g'] wc.heap.size we L3 p' g' (.slice vq R.length vc) dd.start ⟨0, sn, gen, A, R, false⟩) := hRe; have HTe : Hid (Two w5.heap.size we L L' p g p' g' v (.slice yq lg.recs.length yc) dd.start lg) := HTc.out.later hbe; have HMe : Hid (MSt [p, g, p', g'] wb.heap.size we L2 p g v2 dd.start ⟨0, sn, gen, A, R, false⟩) := HMc.out.later hbe; have HBe : Hid (Below w.heap.size w we) := HBc.out.trans (hbe.mono HBc.out.size); have hcY : we.cell? ⟨L', 5, none⟩ = some (.slice yq lg.recs.length yc) := HTe.out.other.log.1.cell (i := 5) rfl; clear hRe hbe)
          | (go_at_call 14; have _ := HMf; refine (HSm2.out _ _ _ _ _ _ _ _ HMf.out HRf.out).mono ?_; rintro e wg ⟨rfl, hbg⟩)
          | (go_at_call 14; refine (HSm1.out _ HTe.out).mono ?_; rintro e wf ⟨rfl, hbf⟩; have HRf : Hid (RSt [p, g, p', g'] wc.heap.size wf L3 p' g' (.slice vq R.length vc) dd.start ⟨0, sn, gen, A, R, false⟩) := HRe.out.later hbf; have HMf : Hid (MSt [p, g, p', g'] wb.heap.size wf L2 p g v2 dd.start ⟨0, sn, gen, A, R, false⟩) := HMe.out.later hbf; have HBf : Hid (Below w.heap.size w wf) := HBe.out.trans (hbf.mono HBe.out.size); have hcZ : wf.cell? ⟨L3, 5, none⟩ = some (.slice vq R.length vc) := HRf.out.log.1.cell (i := 5) rfl; clear hbf))
        (try rw [Exit.noGoto_ret])
        refine bodyPost_ret (results_tmp rfl _ _ _) rfl ?_
        exact ⟨rfl, HBf.out.trans (hbg.mono HBf.out.size)⟩

end Go.Proofs.Ytifjkkfienmdjaa
