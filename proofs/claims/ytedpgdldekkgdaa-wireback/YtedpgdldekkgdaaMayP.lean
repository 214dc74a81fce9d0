/-
  mayAnswer: whether a reply may be.
-/
import Derived.Test.YtedpgdldekkgdaaGot
import Derived.Test.YtedpgdldekkgdaaLists
namespace Go.Proofs.Ytedpgdldekkgdaa
open Go.RowKit Go.Shelf

/-- Whether a text is too long for a name. -/
def longS (s : ByteArray) : Bool := decide (64 < s.size)
/-- tooLong, as a value. -/
def fv53 : Value := .func (.func 53) #[] #[]
theorem tooLong_any (s : ByteArray) (w : World) : Calls Try.prog 53 #[.string s] w fun e w' => e = .returned (.bool (longS s)) ∧ w' = w := by
  obtain ⟨dd, hdd⟩ : ∃ dd, longS s = dd := ⟨_, rfl⟩
  rw [hdd]
  by_cases h : 64 < s.size
  · have hi : (64 : Int) < (s.size : Int) := by omega
    have HD : Hid (dd = true) := by show _ = _; rw [← hdd]; exact decide_eq_true h
    clear hdd
    go_enter Try.func53, Try.ntmps53
    go_wp2
    go_ret
    exact ⟨by rw [HD.out]; rfl, rfl⟩
  · have hi : ¬ (64 : Int) < (s.size : Int) := by omega
    have HD : Hid (dd = false) := by show _ = _; rw [← hdd]; exact decide_eq_false h
    clear hdd
    go_enter Try.func53, Try.ntmps53
    go_wp2
    go_ret
    exact ⟨by rw [HD.out]; rfl, rfl⟩
theorem any_take_no {xs : List ByteArray} {k : Nat} (hk : k < xs.length) (h : (xs.take k).any longS = false) (hs : longS xs[k] = false) : (xs.take (k + 1)).any longS = false := by
  rw [List.take_succ_eq_append_getElem hk, List.any_append, h]
  simp [hs]

set_option maxRecDepth 100000 in
set_option maxHeartbeats 1000000 in
theorem indexF_any (q : Option Addr) (l c : Nat) (xs : List ByteArray) (w : World) (hM : IsStrs w.heap.size w q l c xs) :
    Calls Try.prog 57 #[.slice q l c, fv53] w fun e w' => ∃ z : Int, e = .returned (.int .i64 z) ∧ decide (0 ≤ z) = xs.any longS ∧ w' = w := by
  have HM : Hid (IsStrs w.heap.size w q l c xs) := hM
  have HL : Hid (xs.length = l) := hM.1
  have hlc := hM.2.1
  have hcc := hM.2.2.1
  clear hM
  unfold fv53
  go_enter Try.func57, Try.ntmps57
  go_wp2
  go_loopw [8] (fun i wr => ∃ (k : Nat), k ≤ l ∧ i = .int .i64 k ∧ wr = w ∧ (xs.take k).any longS = false) (fun i _ => l - (intOf i).toNat)
  case atStart => exact ⟨0, Nat.zero_le _, rfl, rfl, rfl⟩
  case round =>
    obtain ⟨k, hk, rfl, rfl, hall⟩ := hrel
    have HAl : Hid ((xs.take k).any longS = false) := hall
    clear hall
    by_cases hlt : k < l
    · have hki : (k : Int) < (l : Int) := by omega
      have hkx : k < xs.length := by rw [HL.out]; exact hlt
      obtain ⟨b, off, rfl, hb, hcell⟩ : ∃ b off, q = some ⟨b, off, none⟩ ∧ b < wr.heap.size ∧ ∀ i (h : i < xs.length), wr.cell? ⟨b, off + i, none⟩ = some (.string xs[i]) := by
        rcases HM.out.2.2.2 with h | h
        · omega
        · exact h
      have c1 := hcell k hkx
      have HT := tooLong_any xs[k] wr
      have HTs : Hid (longS xs[k] = false → (xs.take (k + 1)).any longS = false) := any_take_no hkx HAl.out
      have HYes : Hid (longS xs[k] = true → xs.any longS = true) := fun h => List.any_eq_true.2 ⟨xs[k], List.getElem_mem hkx, h⟩
      clear hcell
      cases hs : longS xs[k] with
      | false =>
        rw [hs] at HT
        have HT2 : Hid ((xs.take (k + 1)).any longS = false) := HTs.out hs
        clear HTs HYes hs
        generalize xs[k] = x at *
        go_wp2_with (go_at_call 53; refine HT.mono ?_; rintro e w1 ⟨rfl, hw1⟩; obtain rfl : wr = w1 := hw1.symm; clear hw1)
        go_roundw
        case rel => exact ⟨k + 1, by omega, by go_num, trivial, HT2.out⟩
        case measure => simp [intOf]; omega
      | true =>
        rw [hs] at HT
        have HT2 : Hid (xs.any longS = true) := HYes.out hs
        clear HTs HYes hs
        generalize xs[k] = x at *
        go_wp2_with (go_at_call 53; refine HT.mono ?_; rintro e w1 ⟨rfl, hw1⟩; obtain rfl : wr = w1 := hw1.symm; clear hw1)
        go_ret
        exact ⟨(k : Int), rfl, by rw [HT2.out]; exact decide_eq_true (by omega), rfl⟩
    · obtain rfl : k = l := by omega
      have HN : Hid (xs.any longS = false) := by
        have := HAl.out
        rwa [List.take_of_length_le (by rw [HL.out]; omega)] at this
      go_wp2
      go_ret
      exact ⟨-1, rfl, by rw [HN.out]; rfl, rfl⟩
set_option maxHeartbeats 1000000 in
theorem containsF_any (q : Option Addr) (l c : Nat) (xs : List ByteArray) (w : World) (hM : IsStrs w.heap.size w q l c xs) :
    Calls Try.prog 52 #[.slice q l c, fv53] w fun e w' => e = .returned (.bool (xs.any longS)) ∧ w' = w := by
  have HI := indexF_any q l c xs w hM
  obtain ⟨dd, hdd⟩ : ∃ dd, xs.any longS = dd := ⟨_, rfl⟩
  rw [hdd] at HI ⊢
  clear hdd hM
  unfold fv53 at *
  go_enter Try.func52, Try.ntmps52
  go_wp2_with (go_at_call 57; refine HI.mono ?_; rintro e w1 ⟨z, rfl, hz, hw1⟩; obtain rfl : w = w1 := hw1.symm; clear hw1)
  go_ret
  exact ⟨by rw [← hz]; rfl, rfl⟩

/-- Whether a reply may be. -/
def mayP (r : Rep) (b : List Nat) (xs : List ByteArray) : Bool := decide (0 ≤ r.err) && (decide (r.err ≤ 1000) && (decide (b.length ≤ 110000) && (decide (xs.length ≤ 1000) && !xs.any longS)))

set_option maxRecDepth 100000 in
set_option maxHeartbeats 2000000 in
theorem mayAnswer_any (p : Option Addr) (len cap : Nat) (b : List Nat) (q : Option Addr) (l c : Nat) (xs : List ByteArray) (r : Rep) (hok : r.ok) (hl : b.length = len) (w : World) (hM : IsStrs w.heap.size w q l c xs) :
    Calls Try.prog 38 #[.agg (repC (.slice p len cap) (.slice q l c) r).toArray] w fun e w' => e = .returned (.bool (mayP r b xs)) ∧ Below w.heap.size w w' := by
  obtain ⟨w0, hw0⟩ : ∃ w0, w.alloc (.cells (repC (.slice p len cap) (.slice q l c) r).toArray 44) = w0 := ⟨_, rfl⟩
  have hb0 : Below w.heap.size w w0 := by rw [← hw0]; exact (Below.refl _ w).alloc (Nat.le_refl _) _
  have hA : RepAt w0 w.heap.size (.slice p len cap) (.slice q l c) r := by rw [← hw0]; exact RepAt.new w _ _ r hok
  have HW0 : Hid (w.alloc (.cells (repC (.slice p len cap) (.slice q l c) r).toArray 44) = w0) := hw0
  have hc2 := hA.err
  have hc5 := hA.body
  have hc6 := hA.names
  have HC := containsF_any q l c xs w0 (hM.later hb0)
  unfold fv53 at HC
  have HM : Hid (mayP r b xs = (decide (0 ≤ r.err) && (decide (r.err ≤ 1000) && (decide (len ≤ 110000) && (decide (l ≤ 1000) && !xs.any longS))))) := by
    show _ = _
    rw [← hl, ← hM.1]; rfl
  obtain ⟨ff, hff⟩ : ∃ ff, mayP r b xs = ff := ⟨_, rfl⟩
  rw [hff] at HM ⊢
  clear hA hw0 hok hl hff hM
  by_cases h1 : 0 ≤ r.err
  · by_cases h2 : r.err ≤ 1000
    · by_cases h3 : len ≤ 110000
      · have h3' : (len : Int) ≤ 110000 := by omega
        by_cases h4 : l ≤ 1000
        · have h4' : (l : Int) ≤ 1000 := by omega
          have HV : Hid (ff = !xs.any longS) := by show _ = _; rw [HM.out, decide_eq_true h1, decide_eq_true h2, decide_eq_true h3, decide_eq_true h4]; rfl
          obtain ⟨dd, hdd⟩ : ∃ dd, xs.any longS = dd := ⟨_, rfl⟩
          rw [hdd] at HV HC
          clear hdd HM
          cases dd with
          | true =>
            go_enter Try.func38, Try.ntmps38
            go_wp2_with (first | (rw [HW0.out]) | (go_at_call 52; refine HC.mono ?_; rintro e w1 ⟨rfl, hw1⟩; obtain rfl : w0 = w1 := hw1.symm; clear hw1))
            go_ret
            exact ⟨by rw [HV.out]; rfl, hb0⟩
          | false =>
            go_enter Try.func38, Try.ntmps38
            go_wp2_with (first | (rw [HW0.out]) | (go_at_call 52; refine HC.mono ?_; rintro e w1 ⟨rfl, hw1⟩; obtain rfl : w0 = w1 := hw1.symm; clear hw1))
            go_ret
            exact ⟨by rw [HV.out]; rfl, hb0⟩
        · have h4' : ¬ (l : Int) ≤ 1000 := by omega
          have HV : Hid (ff = false) := by show _ = _; rw [HM.out, decide_eq_true h1, decide_eq_true h2, decide_eq_true h3, decide_eq_false h4]; rfl
          go_enter Try.func38, Try.ntmps38
          go_wp2_with (rw [HW0.out])
          go_ret
          exact ⟨by rw [HV.out]; rfl, hb0⟩
      · have h3' : ¬ (len : Int) ≤ 110000 := by omega
        have HV : Hid (ff = false) := by show _ = _; rw [HM.out, decide_eq_true h1, decide_eq_true h2, decide_eq_false h3]; rfl
        go_enter Try.func38, Try.ntmps38
        go_wp2_with (rw [HW0.out])
        go_ret
        exact ⟨by rw [HV.out]; rfl, hb0⟩
    · have HV : Hid (ff = false) := by show _ = _; rw [HM.out, decide_eq_true h1, decide_eq_false h2]; rfl
      go_enter Try.func38, Try.ntmps38
      go_wp2_with (rw [HW0.out])
      go_ret
      exact ⟨by rw [HV.out]; rfl, hb0⟩
  · have HV : Hid (ff = false) := by show _ = _; rw [HM.out, decide_eq_false h1]; rfl
    go_enter Try.func38, Try.ntmps38
    go_wp2_with (rw [HW0.out])
    go_ret
    exact ⟨by rw [HV.out]; rfl, hb0⟩
end Go.Proofs.Ytedpgdldekkgdaa
