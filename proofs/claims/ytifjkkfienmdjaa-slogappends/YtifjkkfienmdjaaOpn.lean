/-
  Open: the log of the records that stand in a region.
-/
import Derived.Test.YtifjkkfienmdjaaWhole2
namespace Go.Proofs.Ytifjkkfienmdjaa
open Go.RowKit Go.Shelf

theorem spanN_zero {m : Nat} : 0 < spanN (m : Nat) ↔ m ≤ 262144 := by
  unfold spanN
  split <;> omega
theorem scan_stop {ss : List (List Nat)} {f n gen fuel at_ : Nat} {recs : List (List Nat)} {b : Bool} (h : dueB ⟨f, n, gen, at_, recs, b⟩ (ss.getD (f + at_) []) = false) : scan ss f n gen (fuel + 1) at_ recs = (at_, recs) := by
  rw [scan]
  by_cases hn : n ≤ at_
  · rw [if_pos hn]
  · rw [if_neg hn, if_pos]
    rw [mark9_eq]
    by_cases h1 : (ss.getD (f + at_) []).drop 55 = mark9 gen recs.length
    · simp only [dueB, h1, decide_true, Bool.true_and, Bool.and_eq_false_iff, decide_eq_false_iff_not] at h
      rcases h with h | h
      · rw [spanN_zero] at h
        exact .inr (.inl (by omega))
      · exact .inr (.inr (by omega))
    · exact .inl h1
theorem scan_end {ss : List (List Nat)} {f n gen fuel at_ : Nat} {recs : List (List Nat)} (h : n ≤ at_) : scan ss f n gen (fuel + 1) at_ recs = (at_, recs) := by rw [scan, if_pos h]
theorem due_parts {l : Lg} {s : List Nat} (h : dueB l s = true) : s.drop 55 = mark9 l.gen l.recs.length ∧ numFrom s 0 4 ≤ 262144 ∧ spanN (numFrom s 0 4 : Nat) ≤ l.n - l.pos ∧ 0 < spanN (numFrom s 0 4 : Nat) := by
  simp only [dueB, Bool.and_eq_true, decide_eq_true_eq] at h
  obtain ⟨h1, h2, h3⟩ := h
  exact ⟨h1, spanN_zero.1 h2, h3, h2⟩
theorem scan_go {ss : List (List Nat)} {f n gen fuel at_ : Nat} {recs : List (List Nat)} {b : Bool} (h : dueB ⟨f, n, gen, at_, recs, b⟩ (ss.getD (f + at_) []) = true) (hn : at_ < n) :
    scan ss f n gen (fuel + 1) at_ recs = scan ss f n gen fuel (at_ + spanN (numFrom (ss.getD (f + at_) []) 0 4 : Nat)) (recs ++ [recB ss f at_ (numFrom (ss.getD (f + at_) []) 0 4)]) := by
  obtain ⟨h1, h2, h3, h4⟩ := due_parts h
  rw [scan, if_neg (by omega), if_neg]
  rw [mark9_eq]
  rintro (h | h | h)
  · exact h h1
  · omega
  · simp only at h3
    omega
/-- How many sectors are left, by memory. -/
def roomM (L : Nat) (W : World) (e : Nat) : Nat := match W.cell? ⟨L, 3, none⟩ with | some (.int _ x) => e - x.toNat | _ => 0
set_option maxRecDepth 100000 in
set_option maxHeartbeats 4000000 in
theorem open_live {F : List Nat} {n₀ : Nat} {w : World} {p g : Nat} {d : St} (h : DiskAt F w p g d) (hc : CrLow n₀ w p 4) (hpg : p < n₀ ∧ g < n₀) (hn₀ : n₀ ≤ w.heap.size) (f n gen : Nat) (hn2 : 2 ≤ n) (hfn : f + n ≤ d.ss.length) (hgen : gen < 4294967296) (hd : d.dead = false) (hwr : d.wr ≤ 100000) :
    Calls Try.prog 12 #[.pointer (some ⟨p, 0, none⟩), .int .i64 (f : Nat), .int .i64 (n : Nat), .int .u32 (gen : Nat)] w fun e w' => ∃ L v, e = .returned (.tuple #[.pointer (some ⟨L, 0, none⟩), .int .i64 0]) ∧ w.heap.size ≤ L ∧ (∀ k, v.ownBlock = some k → w.heap.size ≤ k) ∧ Below w.heap.size w w' ∧
      MSt F n₀ w' L p g v d ⟨f, n, gen, (scan d.ss f n gen (n + 1) 0 []).1, (scan d.ss f n gen (n + 1) 0 []).2, false⟩ := by
  have hfew := h.1.few
  have hrb : regB d.ss.length (f : Nat) (n : Nat) = true := by
    simp only [regB, Bool.and_eq_true, decide_eq_true_eq]
    omega
  have HR : Hid (Calls Try.prog 28 #[.pointer (some ⟨p, 0, none⟩), .int .i64 (f : Nat), .int .i64 (n : Nat)] w fun e w' => e = .returned (.bool true) ∧ w' = w) := by
    have := isRegion_any h (f : Nat) (n : Nat) (by omega) (by omega)
    rw [hrb] at this
    exact this
  have HSecs : Hid (∀ s ∈ d.ss, IsSec s) := h.1.secs
  have HD : Hid (DiskAt F w p g d) := h
  obtain ⟨w1, hw1⟩ : ∃ w1, w.alloc (.cells #[.bool true, .pointer (some ⟨p, 0, none⟩), .int .u32 (gen : Nat), .int .i64 (f : Nat), .int .i64 ((f : Int) + (n : Int)), .slice none 0 0] 59) = w1 := ⟨_, rfl⟩
  have hb1 : Below w.heap.size w w1 := by rw [← hw1]; exact (Below.refl _ w).alloc (Nat.le_refl _) _
  have hr1 := Row.new w 59 #[.bool true, .pointer (some ⟨p, 0, none⟩), .int .u32 (gen : Nat), .int .i64 (f : Nat), .int .i64 ((f : Int) + (n : Int)), .slice none 0 0]
  rw [hw1] at hr1
  have HW1 : Hid (w.alloc (.cells #[.bool true, .pointer (some ⟨p, 0, none⟩), .int .u32 (gen : Nat), .int .i64 (f : Nat), .int .i64 ((f : Int) + (n : Int)), .slice none 0 0] 59) = w1) := hw1
  have HS1 : Hid (MSt F n₀ w1 w.heap.size p g (.slice none 0 0) d ⟨f, n, gen, 0, [], false⟩) := by
    obtain ⟨f1, f2⟩ := h.frame (n₀ := n₀) (S := []) hc (Buts.of_below hb1 (Nat.le_refl _)) (by simp) (by simp) (by simp)
    exact ⟨f1, f2, ⟨hr1, RecsAt.nil _ _⟩, hn₀, hpg⟩
  have hfni : -9223372036854775808 ≤ (f : Int) + (n : Int) ∧ (f : Int) + (n : Int) ≤ 9223372036854775807 := by omega
  clear hw1 hr1 h hc hrb
  go_enter Try.func12, Try.ntmps12
  go_wp2
  go_step3
  go_wp2_with (first
    | (go_at_call 28; refine HR.out.mono ?_; rintro e w2 ⟨rfl, hw2⟩; obtain rfl : w = w2 := hw2.symm; clear hw2)
    | (rw [HW1.out]))
  go_step3
  go_wp2
  go_loopw [29] (fun _ wr => ∃ (at_ fuel : Nat) (recs : List (List Nat)) (v : Value), at_ ≤ n ∧ recs.length ≤ at_ ∧ n - at_ < fuel ∧ scan d.ss f n gen fuel at_ recs = scan d.ss f n gen (n + 1) 0 [] ∧ MSt F n₀ wr w.heap.size p g v d ⟨f, n, gen, at_, recs, false⟩ ∧ Below w.heap.size w wr ∧ ∀ k, v.ownBlock = some k → w.heap.size ≤ k) (fun _ wr => roomM w.heap.size wr (f + n))
  case atStart => exact ⟨0, n + 1, [], _, by omega, by simp, by omega, rfl, HS1.out, hb1, by simp [Value.ownBlock]⟩
  case round =>
    obtain ⟨at_, fuel, recs, v, hat, hrl, hfu, hsc, hst, hbl, hov⟩ := hrel
    have HSt : Hid (MSt F n₀ wr w.heap.size p g v d ⟨f, n, gen, at_, recs, false⟩) := hst
    have HBl : Hid (Below w.heap.size w wr) := hbl
    have HOv : Hid (∀ k, v.ownBlock = some k → w.heap.size ≤ k) := hov
    have HSc : Hid (scan d.ss f n gen fuel at_ recs = scan d.ss f n gen (n + 1) 0 []) := hsc
    have HOk : Hid (LgOk ⟨f, n, gen, at_, recs, false⟩ d) := ⟨by show f ≤ _; omega, by show n ≤ _; omega, hat, hgen, by show recs.length ≤ _; omega, hwr⟩
    have HRm : Hid (∀ W, Below wr.heap.size wr W → Calls Try.prog 15 #[.pointer (some ⟨w.heap.size, 0, none⟩)] W fun e w' => e = .returned (.int .i64 ((n - at_ : Nat) : Int)) ∧ Below W.heap.size W w') := fun W hb => (hst.later hb).room HOk.out
    have HC : Hid (∀ W, Below wr.heap.size wr W → W.cell? ⟨w.heap.size, 3, none⟩ = some (.int .i64 ((f + at_ : Nat) : Int))) := fun W hb => (hst.later hb).log.1.cell (i := 3) rfl
    obtain ⟨fu, rfl⟩ : ∃ fu, fuel = fu + 1 := ⟨fuel - 1, by omega⟩
    have hszr := hbl.size
    clear hst hbl hov hsc
    by_cases hlt : at_ < n
    · obtain ⟨rm, hrm⟩ : ∃ rm, n - at_ = rm := ⟨_, rfl⟩
      rw [hrm] at HRm
      have hrm0 : (0 : Int) < (rm : Int) := by omega
      have hA : f + at_ < d.ss.length := by omega
      obtain ⟨s, hs⟩ : ∃ s, d.ss.getD (f + at_) [] = s := ⟨_, rfl⟩
      have HXs : Hid (IsSec s) := by rw [← hs]; exact sec_at HSecs.out hA
      have HRd : Hid (∀ W, Below wr.heap.size wr W → Calls Try.prog 29 #[.pointer (some ⟨p, 0, none⟩), .int .i64 ((f + at_ : Nat) : Int)] W fun e w' => e = .returned (.tuple #[.agg (u8s s).toArray, .int .i64 0]) ∧ Below W.heap.size W w') := fun W hb => by
        have := read_any (HSt.out.later hb).disk ((f + at_ : Nat) : Int)
        rw [read_live hd hA, wErr_live hd hA, hs] at this
        exact this
      have HDu : Hid (∀ W, Below wr.heap.size wr W → Calls Try.prog 30 #[.pointer (some ⟨w.heap.size, 0, none⟩), .agg (u8s s).toArray] W fun e w' => e = .returned (.tuple #[.int .i64 (numFrom s 0 4 : Nat), .bool (dueB ⟨f, n, gen, at_, recs, false⟩ s)]) ∧ Below W.heap.size W w') := fun W hb => due_any (HSt.out.later hb) HOk.out s HXs.out
      have HWh : Hid (∀ W, Below wr.heap.size wr W → dueB ⟨f, n, gen, at_, recs, false⟩ s = true → Calls Try.prog 31 #[.pointer (some ⟨w.heap.size, 0, none⟩), .agg (u8s s).toArray, .int .i64 (numFrom s 0 4 : Nat)] W fun e w' => ∃ q c, e = .returned (.tuple #[.slice q (numFrom s 0 4) c, .int .i64 0]) ∧ Bytes5 w' (.slice q (numFrom s 0 4) c) (recB d.ss f at_ (numFrom s 0 4)) ∧ Below W.heap.size W w') := fun W hb hdu => by
        obtain ⟨h1, h2, h3, h4⟩ := due_parts hdu
        simp only at h3
        have := whole_any (HSt.out.later hb) hd (numFrom s 0 4) h2 (by show f + at_ + _ ≤ _; omega)
        simp only [hs] at this
        exact this
      have HGo : Hid (dueB ⟨f, n, gen, at_, recs, false⟩ s = true → scan d.ss f n gen (fu + 1) at_ recs = scan d.ss f n gen fu (at_ + spanN (numFrom s 0 4 : Nat)) (recs ++ [recB d.ss f at_ (numFrom s 0 4)]) ∧ spanN (numFrom s 0 4 : Nat) ≤ n - at_ ∧ 0 < spanN (numFrom s 0 4 : Nat)) := fun hdu => by
        obtain ⟨h1, h2, h3, h4⟩ := due_parts hdu
        refine ⟨?_, h3, h4⟩
        have := scan_go (b := false) (fuel := fu) (at_ := at_) (recs := recs) (ss := d.ss) (f := f) (n := n) (gen := gen) (by rw [hs]; exact hdu) hlt
        rw [hs] at this
        exact this
      have HStop : Hid (dueB ⟨f, n, gen, at_, recs, false⟩ s = false → scan d.ss f n gen (fu + 1) at_ recs = (at_, recs)) := fun hdu => scan_stop (b := false) (by rw [hs]; exact hdu)
      have HL : Hid ((u8s s).length = 64) := by show _ = _; rw [u8s_length]; exact HXs.out.1
      have HO : Hid (∀ u ∈ u8s s, u.oneCell' = true) := u8s_one _
      obtain ⟨V, hV⟩ : ∃ V, u8s s = V := ⟨_, rfl⟩
      rw [hV] at HRd HDu HWh HL HO
      obtain ⟨m, hm⟩ : ∃ m, numFrom s 0 4 = m := ⟨_, rfl⟩
      rw [hm] at HDu HWh HGo
      obtain ⟨B, hB⟩ : ∃ B, dueB ⟨f, n, gen, at_, recs, false⟩ s = B := ⟨_, rfl⟩
      rw [hB] at HDu HWh HGo HStop
      clear hs hV hm hB hrm
      have hc3 := HC.out wr (Below.refl _ _)
      cases B with
      | false =>
        have HF : Hid (scan d.ss f n gen (n + 1) 0 [] = (at_, recs)) := HSc.out.symm.trans (HStop.out rfl)
        go_wp2_with (first
          | (go_at_call 15; refine (HRm.out _ (Below.refl _ _)).mono ?_; rintro e w4 ⟨rfl, hb4⟩; have hc4 := HC.out w4 hb4)
          | (go_at_call 29; refine (HRd.out _ hb4).mono ?_; rintro e w5 ⟨rfl, hb5⟩)
          | ((with_reducible show wpList _ _ _ (Oper.mk _ (Op.store 55 (.tmp 11) (.tmp 39)) _ _ _ _ :: _) _ _); rw [z64u8]; refine wpList_store_new rfl (.tmp 11) (.tmp 39) rfl V HL.out HO.out rfl rfl (fun w6 hb6 hR6 hs6 => ?_); have hbq : Below wr.heap.size wr w6 := (hb4.trans (hb5.mono hb4.size)).trans (hb6.mono (Nat.le_trans hb4.size hb5.size)); have HR6 : Hid (Row w6 w5.heap.size 55 V) := hR6; clear hR6; simp only [Act.put])
          | ((with_reducible show wpList _ _ _ (Oper.mk (some 43) (Op.load 55 (.tmp 11)) _ _ _ _ :: _) _ _); refine wpList_load_Row rfl 55 (.tmp 11) rfl rfl HR6.out Try.underlying55 (by rw [HL.out]; exact size55) ?_; simp only [Act.put, List.setIfInBounds_toArray, List.set_cons_zero, List.set_cons_succ])
          | (go_at_call 30; refine (HDu.out _ hbq).mono ?_; rintro e w7 ⟨rfl, hb7⟩; have hb07 : Below wr.heap.size wr w7 := hbq.trans (hb7.mono hbq.size); have HR7 : Hid (Row w7 w5.heap.size 55 V) := HR6.out.later hb7))
        rw [Exit.noGoto_ret]
        refine bodyPost_ret (results_tmp2 rfl _ _ _) rfl ?_
        exact ⟨w.heap.size, v, rfl, Nat.le_refl _, HOv.out, HBl.out.trans (hb07.mono hszr), by rw [HF.out]; exact HSt.out.later hb07⟩
      | true =>
        obtain ⟨hgo, hsp1, hsp2⟩ := HGo.out rfl
        have HGo' : Hid (scan d.ss f n gen (fu + 1) at_ recs = scan d.ss f n gen fu (at_ + spanN (m : Nat)) (recs ++ [recB d.ss f at_ m])) := hgo
        have HWi : Hid (∀ W, Below wr.heap.size wr W → Calls Try.prog 31 #[.pointer (some ⟨w.heap.size, 0, none⟩), .agg V.toArray, .int .i64 (m : Nat)] W fun e w' => ∃ q c, e = .returned (.tuple #[.slice q m c, .int .i64 0]) ∧ Bytes5 w' (.slice q m c) (recB d.ss f at_ m) ∧ Below W.heap.size W w') := fun W hb => HWh.out W hb rfl
        clear hgo HWh HGo HStop
        have HTk : Hid (∀ (W : World) (q : Option Addr) (c : Nat), Below wr.heap.size wr W → Bytes5 W (.slice q m c) (recB d.ss f at_ m) → Calls Try.prog 32 #[.pointer (some ⟨w.heap.size, 0, none⟩), .slice q m c] W (TakePost F n₀ W w.heap.size p g v d ⟨f, n, gen, at_ + spanN (m : Nat), recs ++ [recB d.ss f at_ m], false⟩)) := fun W q c hb hx => take_any (HSt.out.later hb) HOk.out hx (by omega) (by have := hb.size; omega)
        go_wp2_with (first
          | (go_at_call 15; refine (HRm.out _ (Below.refl _ _)).mono ?_; rintro e w4 ⟨rfl, hb4⟩; have hc4 := HC.out w4 hb4)
          | (go_at_call 29; refine (HRd.out _ hb4).mono ?_; rintro e w5 ⟨rfl, hb5⟩)
          | ((with_reducible show wpList _ _ _ (Oper.mk _ (Op.store 55 (.tmp 11) (.tmp 39)) _ _ _ _ :: _) _ _); rw [z64u8]; refine wpList_store_new rfl (.tmp 11) (.tmp 39) rfl V HL.out HO.out rfl rfl (fun w6 hb6 hR6 hs6 => ?_); have hbq : Below wr.heap.size wr w6 := (hb4.trans (hb5.mono hb4.size)).trans (hb6.mono (Nat.le_trans hb4.size hb5.size)); have HR6 : Hid (Row w6 w5.heap.size 55 V) := hR6; clear hR6; simp only [Act.put])
          | ((with_reducible show wpList _ _ _ (Oper.mk (some 43) (Op.load 55 (.tmp 11)) _ _ _ _ :: _) _ _); refine wpList_load_Row rfl 55 (.tmp 11) rfl rfl HR6.out Try.underlying55 (by rw [HL.out]; exact size55) ?_; simp only [Act.put, List.setIfInBounds_toArray, List.set_cons_zero, List.set_cons_succ])
          | (go_at_call 30; refine (HDu.out _ hbq).mono ?_; rintro e w7 ⟨rfl, hb7⟩; have hb07 : Below wr.heap.size wr w7 := hbq.trans (hb7.mono hbq.size); have HR7 : Hid (Row w7 w5.heap.size 55 V) := HR6.out.later hb7)
          | ((with_reducible show wpList _ _ _ (Oper.mk (some 56) (Op.load 55 (.tmp 11)) _ _ _ _ :: _) _ _); refine wpList_load_Row rfl 55 (.tmp 11) rfl rfl HR7.out Try.underlying55 (by rw [HL.out]; exact size55) ?_; simp only [Act.put, List.setIfInBounds_toArray, List.set_cons_zero, List.set_cons_succ])
          | (go_at_call 31; refine (HWi.out _ hb07).mono ?_; rintro e w8 ⟨q8, c8, rfl, hx8, hb8⟩; have hb08 : Below wr.heap.size wr w8 := hb07.trans (hb8.mono hb07.size); have HX8 : Hid (Bytes5 w8 (.slice q8 m c8) (recB d.ss f at_ m)) := hx8; clear hx8)
          | (go_at_call 32; refine (HTk.out _ _ _ hb08 HX8.out).mono ?_; rintro e w9 ⟨⟨u, rfl⟩, v9, hs9, hb9, hk9, hv9⟩; have HS9 : Hid (MSt F n₀ w9 w.heap.size p g v9 d ⟨f, n, gen, at_ + spanN (m : Nat), recs ++ [recB d.ss f at_ m], false⟩) := hs9; clear hs9 hk9))
        have hle8 : w.heap.size ≤ w8.heap.size := Nat.le_trans hszr hb08.size
        have hbA : Below w.heap.size w8 w9 := hb9.below hle8 (fun x hx => by
          rcases List.mem_cons.1 hx with h | h
          · omega
          · exact HOv.out x (mem_ownL.1 h))
        refine ⟨⟨at_ + spanN (m : Nat), fu, recs ++ [recB d.ss f at_ m], v9, by omega, by rw [List.length_append, List.length_singleton]; omega, by omega, HGo'.out.symm.trans HSc.out, HS9.out, (HBl.out.trans (hb08.mono hszr)).trans hbA, fun k hk => ?_⟩, ?_⟩
        · rcases hv9 k hk with h | h
          · exact HOv.out k h
          · omega
        · have e9 : w9.cell? ⟨w.heap.size, 3, none⟩ = some (.int .i64 ((f + (at_ + spanN (m : Nat)) : Nat) : Int)) := HS9.out.log.1.cell (i := 3) rfl
          simp only [roomM, e9, HC.out wr (Below.refl _ _), Int.toNat_natCast]
          omega
    · obtain rfl : at_ = n := by omega
      have HF : Hid (scan d.ss f at_ gen (at_ + 1) 0 [] = (at_, recs)) := by
        show _ = _
        rw [← HSc.out]
        exact scan_end (Nat.le_refl _)
      rw [Nat.sub_self] at HRm
      go_wp2_with (go_at_call 15; refine (HRm.out _ (Below.refl _ _)).mono ?_; rintro e w4 ⟨rfl, hb4⟩)
      rw [Exit.noGoto_ret]
      refine bodyPost_ret (results_tmp2 rfl _ _ _) rfl ?_
      exact ⟨w.heap.size, v, rfl, Nat.le_refl _, HOv.out, HBl.out.trans (hb4.mono hszr), by rw [HF.out]; exact HSt.out.later hb4⟩

set_option maxRecDepth 100000 in
set_option maxHeartbeats 2000000 in
theorem open_not {F : List Nat} {w : World} {p g : Nat} {d : St} (h : DiskAt F w p g d) (f n : Int) (gen : Nat) (hn : -9223372036854775808 ≤ n ∧ n ≤ 9223372036854775807) (hf : -9223372036854775808 ≤ f ∧ f ≤ 9223372036854775807) (hr : regB d.ss.length f n = false) :
    Calls Try.prog 12 #[.pointer (some ⟨p, 0, none⟩), .int .i64 f, .int .i64 n, .int .u32 (gen : Nat)] w fun e w' => e = .returned (.tuple #[.pointer none, .int .i64 1]) ∧ w' = w := by
  have HR : Hid (Calls Try.prog 28 #[.pointer (some ⟨p, 0, none⟩), .int .i64 f, .int .i64 n] w fun e w' => e = .returned (.bool false) ∧ w' = w) := by
    have := isRegion_any h f n hn hf
    rw [hr] at this
    exact this
  clear h hr
  go_enter Try.func12, Try.ntmps12
  go_wp2
  go_step3
  go_wp2_with (go_at_call 28; refine HR.out.mono ?_; rintro e w2 ⟨rfl, hw2⟩; obtain rfl : w = w2 := hw2.symm; clear hw2)
  rw [Exit.noGoto_ret]
  refine bodyPost_ret (results_tmp2 rfl _ _ _) rfl ?_
  exact ⟨rfl, rfl⟩
end Go.Proofs.Ytifjkkfienmdjaa
