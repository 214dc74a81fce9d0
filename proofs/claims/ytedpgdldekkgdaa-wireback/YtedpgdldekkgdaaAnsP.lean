/-
  answers: whether a reply is small.
-/
import Derived.Test.YtedpgdldekkgdaaReq
import Derived.Test.YtedpgdldekkgdaaLists
namespace Go.Proofs.Ytedpgdldekkgdaa
open Go.RowKit Go.Shelf

/-- Whether a reply is small. -/
def fewP (xs : List ByteArray) (len : Nat) : Bool := xs.all (fun s => decide (s.size ≤ 200)) && (decide (xs.length ≤ 40) && decide (len ≤ 1000))
theorem all_take {xs : List ByteArray} {k : Nat} (hk : k < xs.length) (h : (xs.take k).all (fun s => decide (s.size ≤ 200)) = true) (hs : xs[k].size ≤ 200) : (xs.take (k + 1)).all (fun s => decide (s.size ≤ 200)) = true := by
  rw [List.take_succ_eq_append_getElem hk, List.all_append, h]
  simp [hs]
theorem all_not {xs : List ByteArray} {k : Nat} (hk : k < xs.length) (hs : ¬ xs[k].size ≤ 200) : xs.all (fun s => decide (s.size ≤ 200)) = false := by
  rw [List.all_eq_false]
  exact ⟨xs[k], List.getElem_mem hk, by simpa using hs⟩

set_option maxRecDepth 100000 in
set_option maxHeartbeats 2000000 in
theorem answers_any (p : Option Addr) (len cap : Nat) (q : Option Addr) (l c : Nat) (xs : List ByteArray) (r : Rep) (hok : r.ok) (w : World) (hM : IsStrs w.heap.size w q l c xs) :
    Calls Try.prog 15 #[.agg (repC (.slice p len cap) (.slice q l c) r).toArray] w fun e w' => e = .returned (.bool (fewP xs len)) ∧ Below w.heap.size w w' := by
  obtain ⟨w0, hw0⟩ : ∃ w0, w.alloc (.cells (repC (.slice p len cap) (.slice q l c) r).toArray 44) = w0 := ⟨_, rfl⟩
  have hb0 : Below w.heap.size w w0 := by rw [← hw0]; exact (Below.refl _ w).alloc (Nat.le_refl _) _
  have hA : RepAt w0 w.heap.size (.slice p len cap) (.slice q l c) r := by rw [← hw0]; exact RepAt.new w _ _ r hok
  have HW0 : Hid (w.alloc (.cells (repC (.slice p len cap) (.slice q l c) r).toArray 44) = w0) := hw0
  have hc5 := hA.body
  have hc6 := hA.names
  have HM : Hid (IsStrs w0.heap.size w0 q l c xs) := hM.later hb0
  have HL : Hid (xs.length = l) := hM.1
  have hlc := hM.2.1
  have hcc := hM.2.2.1
  obtain ⟨ff, hff⟩ : ∃ ff, fewP xs len = ff := ⟨_, rfl⟩
  have HF : Hid (ff = (xs.all (fun s => decide (s.size ≤ 200)) && (decide (l ≤ 40) && decide (len ≤ 1000)))) := by show _ = _; rw [← hff, fewP, hM.1]
  rw [hff]
  clear hA hw0 hok hM hff
  go_enter Try.func15, Try.ntmps15
  go_wp2_with (rw [HW0.out])
  go_loopw [8] (fun i wr => ∃ (k : Nat), k ≤ l ∧ i = .int .i64 k ∧ wr = w0 ∧ (xs.take k).all (fun s => decide (s.size ≤ 200)) = true) (fun i _ => l - (intOf i).toNat)
  case atStart => exact ⟨0, Nat.zero_le _, rfl, rfl, rfl⟩
  case round =>
    obtain ⟨k, hk, rfl, rfl, hall⟩ := hrel
    have HAl : Hid ((xs.take k).all (fun s => decide (s.size ≤ 200)) = true) := hall
    clear hall
    by_cases hlt : k < l
    · have hki : (k : Int) < (l : Int) := by omega
      have hkx : k < xs.length := by rw [HL.out]; exact hlt
      obtain ⟨b, off, rfl, hb, hcell⟩ : ∃ b off, q = some ⟨b, off, none⟩ ∧ b < wr.heap.size ∧ ∀ i (h : i < xs.length), wr.cell? ⟨b, off + i, none⟩ = some (.string xs[i]) := by
        rcases HM.out.2.2.2 with h | h
        · omega
        · exact h
      have c1 := hcell k hkx
      have HTs : Hid (xs[k].size ≤ 200 → (xs.take (k + 1)).all (fun s => decide (s.size ≤ 200)) = true) := all_take hkx HAl.out
      have HNo : Hid (¬ xs[k].size ≤ 200 → xs.all (fun s => decide (s.size ≤ 200)) = false) := all_not hkx
      clear hcell
      generalize xs[k] = x at *
      by_cases hx : x.size ≤ 200
      · have hxi : ¬ (200 : Int) < (x.size : Int) := by omega
        have HT : Hid ((xs.take (k + 1)).all (fun s => decide (s.size ≤ 200)) = true) := HTs.out hx
        clear HTs HNo
        go_wp2
        go_roundw
        case rel => exact ⟨k + 1, by omega, by go_num, trivial, HT.out⟩
        case measure => simp [intOf]; omega
      · have hxi : (200 : Int) < (x.size : Int) := by omega
        have HV : Hid (ff = false) := by show _ = _; rw [HF.out, HNo.out hx]; rfl
        clear HTs HNo
        go_wp2
        go_ret
        exact ⟨by rw [HV.out]; rfl, hb0⟩
    · obtain rfl : k = l := by omega
      have hall : xs.all (fun s => decide (s.size ≤ 200)) = true := by
        have := HAl.out
        rwa [List.take_of_length_le (by rw [HL.out]; omega)] at this
      rw [hall] at HF
      clear hall
      by_cases h1 : k ≤ 40
      · have h1i : (k : Int) ≤ 40 := by omega
        by_cases h2 : len ≤ 1000
        · have h2i : (len : Int) ≤ 1000 := by omega
          have HV : Hid (ff = true) := by show _ = _; rw [HF.out, decide_eq_true h1, decide_eq_true h2]; rfl
          go_wp2
          go_ret
          exact ⟨by rw [HV.out]; rfl, hb0⟩
        · have h2i : ¬ (len : Int) ≤ 1000 := by omega
          have HV : Hid (ff = false) := by show _ = _; rw [HF.out, decide_eq_true h1, decide_eq_false h2]; rfl
          go_wp2
          go_ret
          exact ⟨by rw [HV.out]; rfl, hb0⟩
      · have h1i : ¬ (k : Int) ≤ 40 := by omega
        have HV : Hid (ff = false) := by show _ = _; rw [HF.out, decide_eq_false h1]; rfl
        go_wp2
        go_ret
        exact ⟨by rw [HV.out]; rfl, hb0⟩
end Go.Proofs.Ytedpgdldekkgdaa
