/-
  Logs on lists: whatever crash strikes, what was answered with OK is found, and at most the one behind it, whole.
-/
import Derived.Test.YtifjkkfienmdjaaLogM
namespace Go.Proofs.Ytifjkkfienmdjaa
open Go.RowKit

theorem wErr_live {d : St} {i : Nat} (hd : d.dead = false) (hi : i < d.ss.length) : d.err (i : Nat) = 0 := by
  simp only [St.err, hd]
  simp
  omega
def applyW (ss : List (List Nat)) (ws : List (Nat × List Nat)) : List (List Nat) := ws.foldl (fun s x => s.set x.1 x.2) ss
theorem applyW_length : ∀ (ws : List (Nat × List Nat)) (ss : List (List Nat)), (applyW ss ws).length = ss.length
  | [], _ => rfl
  | x :: r, ss => by rw [applyW, List.foldl_cons, ← applyW, applyW_length r, List.length_set]
theorem applyW_append (ss : List (List Nat)) (a b : List (Nat × List Nat)) : applyW ss (a ++ b) = applyW (applyW ss a) b := List.foldl_append
theorem applyW_other : ∀ (ws : List (Nat × List Nat)) (ss : List (List Nat)) (j : Nat), (∀ x ∈ ws, x.1 ≠ j) → (applyW ss ws).getD j [] = ss.getD j []
  | [], _, _, _ => rfl
  | x :: r, ss, j, h => by
    rw [applyW, List.foldl_cons, ← applyW, applyW_other r _ j (fun y hy => h y (List.mem_cons_of_mem _ hy))]
    rw [List.getD_eq_getElem?_getD, List.getElem?_set, if_neg (h x (List.mem_cons_self ..)), List.getD_eq_getElem?_getD]
theorem applyW_last {ss : List (List Nat)} {ws : List (Nat × List Nat)} {i : Nat} {s : List Nat} (hi : i < ss.length) : (applyW ss (ws ++ [(i, s)])).getD i [] = s := by
  rw [applyW_append]
  show ((applyW ss ws).set i s).getD i [] = s
  have : i < (applyW ss ws).length := by rw [applyW_length]; exact hi
  rw [List.getD_eq_getElem?_getD, List.getElem?_set, if_pos rfl, if_pos this, Option.getD_some]
/-- All is written, or a crash strikes at one of the writes. -/
theorem doW_cases : ∀ (ws : List (Nat × List Nat)) (d : St), d.dead = false → (∀ x ∈ ws, x.1 < d.ss.length) →
    ((doW d ws).1 = 0 ∧ (doW d ws).2.dead = false ∧ (doW d ws).2.ss = applyW d.ss ws) ∨
    ∃ pre x post k, ws = pre ++ x :: post ∧ (doW d ws).1 = 131 ∧ (doW d ws).2.dead = true ∧ (doW d ws).2.ss = (applyW d.ss pre).set x.1 (tear ((applyW d.ss pre).getD x.1 []) x.2 k)
  | [], d, hd, _ => .inl ⟨rfl, hd, rfl⟩
  | (i, s) :: r, d, hd, hi => by
    have he := wErr_live hd (hi (i, s) (List.mem_cons_self ..))
    cases hst : d.strikes with
    | true =>
      have e1 : doW d ((i, s) :: r) = (131, d.write i s) := by rw [doW, wErr_tear he hst, if_pos (by simp)]
      rw [e1, write_eq_tear he hst]
      exact .inr ⟨[], (i, s), r, d.keep, rfl, rfl, rfl, by simp [applyW]⟩
    | false =>
      have e1 : doW d ((i, s) :: r) = doW (d.write i s) r := by rw [doW, wErr_ok he hst, if_neg (by simp)]
      have e2 := write_eq_ok (s := s) he hst
      rw [Int.toNat_natCast] at e2
      rw [e1]
      rcases doW_cases r (d.write i s) (by rw [e2]; exact hd) (fun x hx => by rw [e2]; show x.1 < (d.ss.set i s).length; rw [List.length_set]; exact hi x (List.mem_cons_of_mem _ hx)) with ⟨a1, a2, a3⟩ | ⟨pre, x, post, k, a1, a2, a3, a4⟩
      · refine .inl ⟨a1, a2, ?_⟩
        rw [a3, e2]
        rfl
      · refine .inr ⟨(i, s) :: pre, x, post, k, by rw [a1]; rfl, a2, a3, ?_⟩
        rw [a4, e2]
        rfl
/-- Records are laid, and no mark behind them. -/
def GoodL (ss : List (List Nat)) (f n gen : Nat) (recs : List (List Nat)) (e : Nat) : Prop :=
  LaidF ss f n gen 0 0 recs e ∧ (e < n → (ss.getD (f + e) []).getD 63 0 ≠ 165)
theorem good_scan {ss : List (List Nat)} {f n gen : Nat} {recs : List (List Nat)} {e fuel : Nat} (h : GoodL ss f n gen recs e) (hf : n < fuel) : scan ss f n gen fuel 0 [] = (e, recs) := by
  have := scan_laid recs fuel 0 e [] h.1 (Nat.zero_le _) h.2 (by omega)
  simpa using this
def bodyW (f n at_ : Nat) (b : List Nat) : List (Nat × List Nat) := tailW (f + at_) b (spanN (b.length : Nat)) ++ (if at_ + spanN (b.length : Nat) < n then [(f + at_ + spanN (b.length : Nat), zeros64)] else [])
theorem writesOf_eq (f n at_ gen num : Nat) (b : List Nat) : writesOf f n at_ gen num b = bodyW f n at_ b ++ [(f + at_, headL b gen num)] := by
  rw [writesOf, bodyW, List.append_assoc]
theorem bodyW_gt {f n at_ : Nat} {b : List Nat} (hb : b.length ≤ 262144) : ∀ x ∈ bodyW f n at_ b, f + at_ < x.1 ∧ (at_ + spanN (b.length : Nat) ≤ n → x.1 < f + n) := fun x hx => by
  have hsp := spanN_nat hb
  rcases List.mem_append.1 hx with h | h
  · obtain ⟨i, hi, rfl⟩ := List.mem_map.1 h
    have := List.mem_range.1 hi
    exact ⟨by show f + at_ < f + at_ + (i + 1); omega, fun hn => by show f + at_ + (i + 1) < f + n; omega⟩
  · split at h
    · rw [List.mem_singleton] at h
      subst h
      exact ⟨by show f + at_ < f + at_ + spanN (b.length : Nat); omega, fun hn => by show f + at_ + spanN (b.length : Nat) < f + n; omega⟩
    · cases h
/-- What the body's writes leave in each of the record's sectors. -/
theorem tailW_at {ss : List (List Nat)} {f : Nat} {b : List Nat} : ∀ (k i : Nat), i + 1 < k → f + k ≤ ss.length → (applyW ss (tailW f b k)).getD (f + (i + 1)) [] = secK b i := by
  intro k
  induction k with
  | zero => intro i hi; omega
  | succ k ih =>
    intro i hi hl
    cases k with
    | zero => omega
    | succ k =>
      have e : tailW f b (k + 1 + 1) = tailW f b (k + 1) ++ [(f + (k + 1), secK b k)] := by
        simp only [tailW, Nat.add_sub_cancel, List.range_succ, List.map_append, List.map_cons, List.map_nil]
      rw [e]
      by_cases h : i = k
      · subst h
        exact applyW_last (by omega)
      · rw [applyW_append]
        rw [applyW_other _ _ _ (fun x hx => by rw [List.mem_singleton] at hx; subst hx; show f + (k + 1) ≠ f + (i + 1); omega)]
        exact ih i (by omega) (by omega)
theorem good_append {ss : List (List Nat)} {f n gen : Nat} {recs : List (List Nat)} {e : Nat} {b : List Nat} (h : GoodL ss f n gen recs e) (hb : b.length ≤ 262144) (he : e + spanN (b.length : Nat) ≤ n) (hn : f + n ≤ ss.length) :
    GoodL (applyW ss (writesOf f n e gen recs.length b)) f n gen (recs ++ [b]) (e + spanN (b.length : Nat)) := by
  have hsp := spanN_nat hb
  have hgt := bodyW_gt (f := f) (n := n) (at_ := e) hb
  rw [writesOf_eq]
  refine ⟨laidF_snoc (laidF_same h.1 (fun i hi => ?_)) ⟨?_, fun i hi => ?_⟩ hb he, fun hlt => ?_⟩
  · refine applyW_other _ _ _ (fun x hx => ?_)
    rcases List.mem_append.1 hx with h' | h'
    · have := (hgt x h').1; omega
    · rw [List.mem_singleton] at h'; subst h'; show f + e ≠ f + i; omega
  · rw [Nat.zero_add]
    exact applyW_last (by omega)
  · rw [applyW_append, applyW_other [_] _ _ (fun x hx => by rw [List.mem_singleton] at hx; subst hx; show f + e ≠ f + e + (i + 1); omega), bodyW, applyW_append]
    rw [applyW_other _ _ _ (fun x hx => by
      split at hx
      · rw [List.mem_singleton] at hx; subst hx; show f + e + spanN (b.length : Nat) ≠ f + e + (i + 1); omega
      · cases hx)]
    exact tailW_at _ i hi (by omega)
  · rw [applyW_append, applyW_other [_] _ _ (fun x hx => by rw [List.mem_singleton] at hx; subst hx; show f + e ≠ f + (e + spanN (b.length : Nat)); omega), bodyW, if_pos hlt]
    rw [show f + (e + spanN (b.length : Nat)) = f + e + spanN (b.length : Nat) by omega, applyW_last (by omega)]
    decide
theorem good_torn {ss : List (List Nat)} {f n gen : Nat} {recs : List (List Nat)} {e : Nat} {b : List Nat} (h : GoodL ss f n gen recs e) (hb : b.length ≤ 262144) (he : e + spanN (b.length : Nat) ≤ n) (hn : f + n ≤ ss.length) (hss : ∀ s ∈ ss, s.length = 64)
    {pre post : List (Nat × List Nat)} {x : Nat × List Nat} (k : Int) (hw : writesOf f n e gen recs.length b = pre ++ x :: post) :
    GoodL ((applyW ss pre).set x.1 (tear ((applyW ss pre).getD x.1 []) x.2 k)) f n gen recs e ∨ GoodL ((applyW ss pre).set x.1 (tear ((applyW ss pre).getD x.1 []) x.2 k)) f n gen (recs ++ [b]) (e + spanN (b.length : Nat)) := by
  have hsp := spanN_nat hb
  have hgt := bodyW_gt (f := f) (n := n) (at_ := e) hb
  rw [writesOf_eq] at hw
  rcases List.eq_nil_or_concat post with rfl | ⟨post', y, rfl⟩
  · -- the last write
    have hw' : bodyW f n e b ++ [(f + e, headL b gen recs.length)] = pre ++ [x] := hw
    obtain ⟨rfl, hx⟩ := List.append_inj' hw' rfl
    obtain rfl : (f + e, headL b gen recs.length) = x := by simpa using hx
    have hold : (applyW ss (bodyW f n e b)).getD (f + e) [] = ss.getD (f + e) [] := applyW_other _ _ _ (fun y hy => by have := (hgt y hy).1; omega)
    by_cases hk : keepN k = 64
    · refine .inr ?_
      have ht : tear ((applyW ss (bodyW f n e b)).getD (f + e) []) (headL b gen recs.length) k = headL b gen recs.length := by
        rw [tear, hk, List.take_of_length_le (by rw [headL_len]; omega), hold, List.drop_of_length_le, List.append_nil]
        have hl : f + e < ss.length := by omega
        rw [List.getD_eq_getElem?_getD, List.getElem?_eq_getElem hl, Option.getD_some, hss _ (List.getElem_mem hl)]
        omega
      have := good_append h hb he hn
      rw [writesOf_eq, applyW_append] at this
      show GoodL ((applyW ss (bodyW f n e b)).set (f + e) (tear ((applyW ss (bodyW f n e b)).getD (f + e) []) (headL b gen recs.length) k)) f n gen _ _
      rw [ht]
      exact this
    · refine .inl ⟨laidF_same h.1 (fun i hi => ?_), fun hlt => ?_⟩
      · show ((applyW ss (bodyW f n e b)).set (f + e) _).getD (f + i) [] = _
        rw [List.getD_eq_getElem?_getD, List.getElem?_set, if_neg (by omega), ← List.getD_eq_getElem?_getD]
        exact applyW_other _ _ _ (fun y hy => by have := (hgt y hy).1; omega)
      · show (((applyW ss (bodyW f n e b)).set (f + e) (tear ((applyW ss (bodyW f n e b)).getD (f + e) []) (headL b gen recs.length) k)).getD (f + e) []).getD 63 0 ≠ 165
        have hl : f + e < (applyW ss (bodyW f n e b)).length := by rw [applyW_length]; omega
        have e1 : ((applyW ss (bodyW f n e b)).set (f + e) (tear ((applyW ss (bodyW f n e b)).getD (f + e) []) (headL b gen recs.length) k)).getD (f + e) [] = tear ((applyW ss (bodyW f n e b)).getD (f + e) []) (headL b gen recs.length) k := by
          rw [List.getD_eq_getElem?_getD, List.getElem?_set, if_pos rfl, if_pos hl, Option.getD_some]
        have hk64 := keepN_le k
        rw [e1, hold, tear, List.getD_eq_getElem?_getD, List.getElem?_append_right (by rw [List.length_take, headL_len]; omega), List.length_take, headL_len, List.getElem?_drop, show keepN k + (63 - min (keepN k) 64) = 63 by omega, ← List.getD_eq_getElem?_getD]
        exact h.2 hlt
  · -- one of the body's writes
    have hw' : bodyW f n e b ++ [(f + e, headL b gen recs.length)] = (pre ++ x :: post') ++ [y] := by rw [hw, List.concat_eq_append]; simp
    obtain ⟨hbody, _⟩ := List.append_inj' hw' rfl
    have hpre : ∀ z ∈ pre, f + e < z.1 := fun z hz => (hgt z (by rw [hbody]; simp [hz])).1
    have hx : f + e < x.1 := (hgt x (by rw [hbody]; simp)).1
    refine .inl ⟨laidF_same h.1 (fun i hi => ?_), fun hlt => ?_⟩
    · rw [List.getD_eq_getElem?_getD, List.getElem?_set, if_neg (by omega), ← List.getD_eq_getElem?_getD]
      exact applyW_other _ _ _ (fun y hy => by have := hpre y hy; omega)
    · rw [List.getD_eq_getElem?_getD (l := List.set _ _ _), List.getElem?_set, if_neg (by omega), ← List.getD_eq_getElem?_getD]
      rw [applyW_other _ _ _ (fun y hy => by have := hpre y hy; omega)]
      exact h.2 hlt
end Go.Proofs.Ytifjkkfienmdjaa
