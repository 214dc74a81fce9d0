/-
  Logs on lists: records that are laid are found; what a crash leaves.
-/
import Derived.Test.YtifjkkfienmdjaaLogL
namespace Go.Proofs.Ytifjkkfienmdjaa
open Go.RowKit

theorem spanN_nat {n : Nat} (h : n ≤ 262144) : spanN (n : Int) = 1 + (n + 12) / 64 := by
  unfold spanN
  rw [if_neg (by omega)]
  omega
/-- A record lies at this place. -/
def RecAt (ss : List (List Nat)) (f at_ gen num : Nat) (b : List Nat) : Prop :=
  ss.getD (f + at_) [] = headL b gen num ∧ ∀ i, i + 1 < spanN (b.length : Nat) → ss.getD (f + at_ + (i + 1)) [] = secK b i
def LaidF (ss : List (List Nat)) (f n gen : Nat) : Nat → Nat → List (List Nat) → Nat → Prop
  | at_, _, [], e => at_ = e
  | at_, num, b :: r, e => RecAt ss f at_ gen num b ∧ b.length ≤ 262144 ∧ at_ + spanN (b.length : Nat) ≤ n ∧ LaidF ss f n gen (at_ + spanN (b.length : Nat)) (num + 1) r e
theorem secK_len (b : List Nat) (i : Nat) : (secK b i).length = 64 := by
  rw [secK, splice_length (by simp only [zeros64, List.length_replicate, List.length_take]; omega)]
  simp [zeros64]
theorem secK_getD (b : List Nat) (i r : Nat) (hr : r < 64) (hb : 51 + 64 * i + r < b.length) : (secK b i).getD r 0 = b.getD (51 + 64 * i + r) 0 := by
  have hl : ((b.drop (51 + 64 * i)).take 64).length = min 64 (b.length - (51 + 64 * i)) := by rw [List.length_take, List.length_drop]
  rw [secK, getD_splice (by rw [hl]; simp only [zeros64, List.length_replicate]; omega), if_neg (by omega), if_pos (by rw [hl]; omega)]
  rw [List.getD_eq_getElem?_getD, List.getElem?_take, if_pos (by omega), List.getElem?_drop, List.getD_eq_getElem?_getD]
  rfl
theorem flat_getD : ∀ {L : List (List Nat)} (_ : ∀ s ∈ L, s.length = 64) (x : Nat), L.flatten.getD x 0 = (L.getD (x / 64) []).getD (x % 64) 0
  | [], _, x => by simp
  | s :: r, h, x => by
    have hs := h s (List.mem_cons_self ..)
    rw [List.flatten_cons, List.getD_eq_getElem?_getD]
    by_cases hx : x < 64
    · rw [List.getElem?_append_left (by omega), Nat.div_eq_of_lt hx, Nat.mod_eq_of_lt hx, List.getD_cons_zero, List.getD_eq_getElem?_getD]
    · rw [List.getElem?_append_right (by omega), hs, ← List.getD_eq_getElem?_getD, flat_getD (fun t ht => h t (List.mem_cons_of_mem _ ht)) (x - 64)]
      rw [show x / 64 = (x - 64) / 64 + 1 by omega, List.getD_cons_succ, show (x - 64) % 64 = x % 64 by omega]
theorem flat_len64 : ∀ {L : List (List Nat)} (_ : ∀ s ∈ L, s.length = 64), L.flatten.length = L.length * 64
  | [], _ => rfl
  | s :: r, h => by
    rw [List.flatten_cons, List.length_append, h s (List.mem_cons_self ..), flat_len64 (fun t ht => h t (List.mem_cons_of_mem _ ht)), List.length_cons]
    omega
theorem rec_back {ss : List (List Nat)} {f at_ gen num : Nat} {b : List Nat} (h : RecAt ss f at_ gen num b) (hb : b.length ≤ 262144) : recB ss f at_ b.length = b := by
  obtain ⟨h1, h2⟩ := h
  have hsp := spanN_nat hb
  have e1 : ((List.range (spanN (b.length : Nat) - 1)).map fun i => ss.getD (f + at_ + (i + 1)) []) = (List.range (spanN (b.length : Nat) - 1)).map (secK b) :=
    List.map_congr_left (fun i hi => h2 i (by have := List.mem_range.1 hi; omega))
  rw [recB, e1, h1]
  have hall : ∀ s ∈ (List.range (spanN (b.length : Nat) - 1)).map (secK b), s.length = 64 := fun s hs => by
    obtain ⟨i, _, rfl⟩ := List.mem_map.1 hs
    exact secK_len b i
  have l2 : (((headL b gen num).drop 4).take 51).length = 51 := by rw [List.length_take, List.length_drop, headL_len]; omega
  have l3 := flat_len64 hall
  rw [List.length_map, List.length_range] at l3
  have ltot : (((headL b gen num).drop 4).take 51 ++ ((List.range (spanN (b.length : Nat) - 1)).map (secK b)).flatten).length = 51 + (spanN (b.length : Nat) - 1) * 64 := by rw [List.length_append, l2, l3]
  refine list_eq_getD (by rw [List.length_take, ltot]; omega) (fun j hj => ?_)
  rw [List.length_take, ltot] at hj
  have hjb : j < b.length := by omega
  rw [List.getD_eq_getElem?_getD, List.getElem?_take, if_pos hjb]
  by_cases h51 : j < 51
  · rw [List.getElem?_append_left (by omega), List.getElem?_take, if_pos h51, List.getElem?_drop, ← List.getD_eq_getElem?_getD, headL_getD, if_neg (by omega), if_neg (by omega), if_pos (by rw [List.length_take]; omega), show 4 + j - 4 = j by omega]
  · have hi : (j - 51) / 64 < spanN (b.length : Nat) - 1 := by omega
    have hg : ((List.range (spanN (b.length : Nat) - 1)).map (secK b)).getD ((j - 51) / 64) [] = secK b ((j - 51) / 64) := by
      rw [List.getD_eq_getElem?_getD, List.getElem?_map, List.getElem?_range hi, Option.map_some, Option.getD_some]
    rw [List.getElem?_append_right (by omega), l2, ← List.getD_eq_getElem?_getD, flat_getD hall, hg, secK_getD b _ _ (Nat.mod_lt _ (by omega)) (by omega), show 51 + 64 * ((j - 51) / 64) + (j - 51) % 64 = j by omega]
theorem laidF_le {ss : List (List Nat)} {f n gen : Nat} : ∀ {recs : List (List Nat)} {at_ num e : Nat}, LaidF ss f n gen at_ num recs e → at_ ≤ e
  | [], _, _, _, h => by rw [show _ = _ from h]; exact Nat.le_refl _
  | b :: r, at_, num, e, ⟨_, _, _, h⟩ => Nat.le_trans (Nat.le_add_right _ _) (laidF_le h)
theorem laidF_end {ss : List (List Nat)} {f n gen : Nat} : ∀ {recs : List (List Nat)} {at_ num e : Nat}, LaidF ss f n gen at_ num recs e → at_ ≤ n → e ≤ n
  | [], _, _, _, h, h' => by rw [← show _ = _ from h]; exact h'
  | b :: r, at_, num, e, ⟨_, _, h1, h⟩, _ => laidF_end h h1
/-- What is laid, with no mark behind it, is found. -/
theorem scan_laid {ss : List (List Nat)} {f n gen : Nat} : ∀ (rest : List (List Nat)) (fuel at_ e : Nat) (recs : List (List Nat)), LaidF ss f n gen at_ recs.length rest e → at_ ≤ n → (e < n → (ss.getD (f + e) []).getD 63 0 ≠ 165) → n - at_ < fuel → scan ss f n gen fuel at_ recs = (e, recs ++ rest)
  | [], 0, at_, e, recs, _, _, _, hf => by omega
  | [], fuel + 1, at_, e, recs, h, hle, hend, hf => by
    obtain rfl : at_ = e := h
    rw [scan, List.append_nil]
    by_cases hn : n ≤ at_
    · rw [if_pos hn]
    · rw [if_neg hn, if_pos (.inl (no_mark gen _ (hend (by omega))))]
  | b :: r, 0, at_, e, recs, _, _, _, hf => by omega
  | b :: r, fuel + 1, at_, e, recs, ⟨h1, h2, h3, h4⟩, hle, hend, hf => by
    have hsp := spanN_nat h2
    have hlen : numFrom (ss.getD (f + at_) []) 0 4 = b.length := by rw [h1.1]; exact head_len gen _ (by omega)
    rw [scan, if_neg (by omega), hlen, if_neg (by
      rintro (h | h | h)
      · rw [h1.1] at h; exact h (head_mark b gen _)
      · omega
      · omega), rec_back h1 h2, scan_laid r fuel (at_ + spanN (b.length : Nat)) e (recs ++ [b]) (by rw [List.length_append, List.length_singleton]; exact h4) h3 hend (by omega), List.append_assoc, List.singleton_append]
theorem laidF_same {ss ss' : List (List Nat)} {f n gen : Nat} : ∀ {recs : List (List Nat)} {at_ num e : Nat}, LaidF ss f n gen at_ num recs e → (∀ i, i < e → ss'.getD (f + i) [] = ss.getD (f + i) []) → LaidF ss' f n gen at_ num recs e
  | [], _, _, _, h, _ => h
  | b :: r, at_, num, e, ⟨⟨h1, h1'⟩, h2, h3, h4⟩, hs => by
    have hle := laidF_le h4
    have hsp := spanN_nat h2
    refine ⟨⟨by rw [hs at_ (by omega)]; exact h1, fun i hi => ?_⟩, h2, h3, laidF_same h4 hs⟩
    have := hs (at_ + (i + 1)) (by omega)
    rw [show f + (at_ + (i + 1)) = f + at_ + (i + 1) by omega] at this
    rw [this]
    exact h1' i hi
theorem laidF_snoc {ss : List (List Nat)} {f n gen : Nat} {b : List Nat} : ∀ {recs : List (List Nat)} {at_ num e : Nat}, LaidF ss f n gen at_ num recs e → RecAt ss f e gen (num + recs.length) b → b.length ≤ 262144 → e + spanN (b.length : Nat) ≤ n → LaidF ss f n gen at_ num (recs ++ [b]) (e + spanN (b.length : Nat))
  | [], at_, num, e, h, hr, h2, h3 => by
    obtain rfl : at_ = e := h
    exact ⟨hr, h2, h3, rfl⟩
  | c :: r, at_, num, e, ⟨h1, h1', h1'', h4⟩, hr, h2, h3 => by
    refine ⟨h1, h1', h1'', laidF_snoc h4 ?_ h2 h3⟩
    rw [show num + 1 + r.length = num + (c :: r).length by rw [List.length_cons]; omega]
    exact hr
end Go.Proofs.Ytifjkkfienmdjaa
