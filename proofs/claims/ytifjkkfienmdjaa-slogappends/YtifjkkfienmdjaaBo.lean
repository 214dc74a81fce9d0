/-
  Both disks beside each other; the law's few and Laid.
-/
import Derived.Test.YtifjkkfienmdjaaRecs
import Derived.Test.YtifjkkfienmdjaaNew
import Derived.Test.YtifjkkfienmdjaaRefNew
namespace Go.Proofs.Ytifjkkfienmdjaa
open Go.RowKit Go.Shelf

/-- Both disks, apart from each other. -/
structure Both (n₀ p g p' g' : Nat) (W : World) (d : St) : Prop where
  mine : DiskAt [p, g, p', g'] W p g d
  other : RefAt [p, g, p', g'] W p' g' d
  low : n₀ ≤ p ∧ n₀ ≤ g ∧ n₀ ≤ p' ∧ n₀ ≤ g'
  apart : p ≠ p' ∧ p ≠ g' ∧ g ≠ p' ∧ g ≠ g'

theorem Both.later {n₀ p g p' g' : Nat} {W W' : World} {d : St} (h : Both n₀ p g p' g' W d) (hb : Below W.heap.size W W') : Both n₀ p g p' g' W' d := ⟨h.mine.later hb, h.other.later hb, h.low, h.apart⟩
theorem Both.first {n₀ p g p' g' : Nat} {W W' : World} {d : St} (h : Both n₀ p g p' g' W d) (hb : Buts [p, g] W.heap.size W W') : RefAt [p, g, p', g'] W' p' g' d := by
  have := h.apart
  exact h.other.buts hb (by simp) (by simp; omega) (by simp; omega)
theorem Both.second {n₀ p g p' g' : Nat} {W W1 W' : World} {d d' : St} (h : Both n₀ p g p' g' W d) (hm : DiskAt [p, g, p', g'] W1 p g d') (hr : RefAt [p, g, p', g'] W' p' g' d') (hb : Buts [p', g'] W1.heap.size W1 W') : Both n₀ p g p' g' W' d' := by
  have := h.apart
  exact ⟨hm.buts hb (by simp) (by simp; omega) (by simp; omega), hr, h.low, h.apart⟩
theorem Both.below {n₀ p g p' g' : Nat} {W W1 W' : World} {d : St} (h : Both n₀ p g p' g' W d) (h1 : Buts [p, g] W.heap.size W W1) (h2 : Buts [p', g'] W1.heap.size W1 W') (V : World) (hV : V.heap.size = n₀) (hb : Below n₀ V W) : Below n₀ V W' := by
  have := h.low
  have s0 := hb.size
  have s1 := h1.size
  exact (hb.trans (h1.below (by omega) (by simp; omega))).trans (h2.below (by omega) (by simp; omega))
theorem Both.writes {n₀ p g p' g' : Nat} {W : World} {d : St} (h : Both n₀ p g p' g' W d) : W.cell? ⟨p', 2, none⟩ = some (.int .i64 (d.wr : Nat)) ∧ W.cell? ⟨p', 3, none⟩ = some (.bool d.dead) ∧ W.cell? ⟨p', 0, none⟩ = some (.slice (some ⟨g', 0, none⟩) d.ss.length d.ss.length) := by
  obtain ⟨_, _, _, _, _, q, len, cap, h6, _⟩ := h.other
  exact ⟨h6.cell (i := 2) rfl, h6.cell (i := 3) rfl, h6.cell (i := 0) rfl⟩

/-- A list of slices of bytes that came in. -/
def IsLists (n₀ : Nat) (W : World) (p : Option Addr) (len cap : Nat) (vs : List (Option Addr × Nat × Nat)) : Prop :=
  vs.length = len ∧ len ≤ cap ∧ cap ≤ 9223372036854775807 ∧ (len = 0 ∨ ∃ b off, p = some ⟨b, off, none⟩ ∧ b < n₀ ∧ ∀ i, i < len → W.cell? ⟨b, off + i, none⟩ = some (.slice (vs.getD i (none, 0, 0)).1 (vs.getD i (none, 0, 0)).2.1 (vs.getD i (none, 0, 0)).2.2))
def fewL (vs : List (Option Addr × Nat × Nat)) : Bool := vs.all (fun v => decide (v.2.1 ≤ 400)) && decide (vs.length ≤ 20)

set_option maxRecDepth 100000 in
set_option maxHeartbeats 2000000 in
theorem few_any (p : Option Addr) (len cap : Nat) (vs : List (Option Addr × Nat × Nat)) (w : World) (h : IsLists w.heap.size w p len cap vs) :
    Calls Try.prog 16 #[.slice p len cap] w fun e w' => e = .returned (.bool (fewL vs)) ∧ w' = w := by
  obtain ⟨h1, h2, h3, h4⟩ := h
  have HL : Hid (vs.length = len) := h1
  have hl63 : len ≤ 9223372036854775807 := Nat.le_trans h2 h3
  clear h1
  go_enter Try.func16, Try.ntmps16
  go_wp2
  go_loop [7] (fun iv => ∃ (k : Nat), k ≤ len ∧ iv = .int .i64 k ∧ ∀ v ∈ vs.take k, v.2.1 ≤ 400) (fun iv => len - (intOf iv).toNat)
  case atStart => exact ⟨0, Nat.zero_le _, rfl, by simp⟩
  case round =>
    obtain ⟨k, hk, rfl, hall⟩ := hrel
    have HAll : Hid (∀ v ∈ vs.take k, v.2.1 ≤ 400) := hall
    clear hall
    by_cases hlt : k < len
    · have hki : (k : Int) < (len : Int) := by omega
      obtain ⟨b, off, rfl, hb, hc⟩ : ∃ b off, p = some ⟨b, off, none⟩ ∧ b < w.heap.size ∧ ∀ i, i < len → w.cell? ⟨b, off + i, none⟩ = some (.slice (vs.getD i (none, 0, 0)).1 (vs.getD i (none, 0, 0)).2.1 (vs.getD i (none, 0, 0)).2.2) := by
        rcases h4 with h | h
        · omega
        · exact h
      have hck := hc k hlt
      have hkl : k < vs.length := by rw [HL.out]; exact hlt
      obtain ⟨v, hv⟩ : ∃ v, vs.getD k (none, 0, 0) = v := ⟨_, rfl⟩
      have HT : Hid (vs.take (k + 1) = vs.take k ++ [v]) := by
        show _ = _
        rw [List.take_succ_eq_append_getElem hkl, ← hv, List.getD_eq_getElem?_getD, List.getElem?_eq_getElem hkl, Option.getD_some]
      have HMem : Hid (v ∈ vs) := by
        show _ ∈ _
        rw [← hv, List.getD_eq_getElem?_getD, List.getElem?_eq_getElem hkl, Option.getD_some]
        exact List.getElem_mem hkl
      rw [hv] at hck
      obtain ⟨q, n, c⟩ := v
      clear hc hv h4
      by_cases hbig : (400 : Int) < (n : Int)
      · go_wp2
        go_ret
        refine ⟨?_, rfl⟩
        have : fewL vs = false := by
          unfold fewL
          rw [Bool.and_eq_false_iff]
          refine .inl ?_
          rw [List.all_eq_false]
          exact ⟨_, HMem.out, by simp; omega⟩
        rw [this]
        rfl
      · go_wp2
        go_round
        case rel =>
          refine ⟨k + 1, by omega, by go_num, fun u hu => ?_⟩
          rw [HT.out] at hu
          rcases List.mem_append.1 hu with h | h
          · exact HAll.out u h
          · rw [List.mem_singleton] at h
            subst h
            show n ≤ 400
            omega
        case measure => simp [intOf]; omega
    · obtain rfl : k = len := by omega
      have hf : fewL vs = decide ((k : Int) ≤ 20) := by
        unfold fewL
        have : vs.all (fun v => decide (v.2.1 ≤ 400)) = true := by
          rw [List.all_eq_true]
          intro v hv
          have := HAll.out v (by rw [List.take_of_length_le (by rw [HL.out]; exact Nat.le_refl _)]; exact hv)
          simpa using this
        rw [this, HL.out, Bool.true_and]
        by_cases h : k ≤ 20
        · rw [decide_eq_true h, decide_eq_true (by omega)]
        · rw [decide_eq_false h, decide_eq_false (by omega)]
      go_wp2
      go_ret
      exact ⟨rfl, rfl⟩
end Go.Proofs.Ytifjkkfienmdjaa
