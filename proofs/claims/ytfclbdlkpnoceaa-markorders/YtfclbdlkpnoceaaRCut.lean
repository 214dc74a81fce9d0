/-
  The reference's Order, on lists and within a round.
-/
import Derived.Test.YtfclbdlkpnoceaaRSw
namespace Go.Proofs.Ytfclbdlkpnoceaa
open Go.RowKit Go.Shelf Go.Maps
attribute [local go_sem] Oper.semAt_some

/-- Whether a link keeps nothing back. -/
def okL (l out : List O) (y : List Nat) : Bool := hasO out y || ! hasO l y
/-- Whether an object may stand now. -/
def freeO (l out : List O) (o : O) : Bool := o.links.all (okL l out)
/-- The first that may stand, of those left; the order. -/
def orderF (l : List O) : Nat → List O → List O → Option (List O)
  | _, [], out => some out
  | 0, _ :: _, _ => none
  | f + 1, o :: r, out => match (o :: r).findIdx? (freeO l out) with
    | none => none
    | some k => orderF l f ((o :: r).eraseIdx k) (out ++ [(o :: r).getD k noO])
def orderL (l : List O) : Option (List O) := orderF l l.length l []
def placeI : Option Nat → Int
  | none => -1
  | some k => k
theorem findIdx_snoc (P : O → Bool) (m : List O) (o : O) : (m ++ [o]).findIdx? P = match m.findIdx? P with | some k => some k | none => if P o = true then some m.length else none := by
  rw [List.findIdx?_append]
  cases h : m.findIdx? P with
  | some k => simp
  | none => simp [List.findIdx?_cons]
theorem findIdx_none (P : O → Bool) (m : List O) : (placeI (m.findIdx? P) < 0) ↔ m.findIdx? P = none := by
  cases h : m.findIdx? P with
  | none => simp [placeI]
  | some k => simp [placeI]

theorem flatO_len : ∀ (ys : List O), (∀ x ∈ ys, x.ok) → (ys.flatMap objC).length = ys.length * 34
  | [], _ => rfl
  | a :: r, h => by rw [List.flatMap_cons, List.length_append, flatO_len r (fun x hx => h x (by simp [hx])), objC_length (h a (by simp)), List.length_cons]; omega
/-- Objects, appended to a row of one's own. -/
theorem run_append_objs (w : World) (base : Nat) (v : Value) (zs : List O) (hown : OwnO base w v zs) {n₀ : Nat} {p : Option Addr} {len cap : Nat} {ys : List O} (hI : IsObjs n₀ w p len cap ys) (hlen : zs.length + len ≤ 1000000) (hbase : base ≤ w.heap.size) :
    ∃ v' w', (Builtin.append_ #[22, 22] 22 #[v, .slice p len cap]).run Try.prog w = .ok v' w' ∧ OwnO base w' v' (zs ++ ys) ∧ w.grownBy w' v.ownBlock ∧ (v'.ownBlock = v.ownBlock ∨ v'.ownBlock = some w.heap.size) := by
  obtain ⟨i0, hi, hz0, hz1, hz2⟩ := info_parts info46
  obtain ⟨h1, h2, h3, h4, _, h5⟩ := hI
  by_cases hpn : ∃ a, p = some a
  · obtain ⟨ad, rfl⟩ := hpn
    have hfl : (ys.flatMap objC).length = len * 34 := by rw [flatO_len ys h4, h1]
    have hnews : ∀ j u, (ys.flatMap objC)[j]? = some u → w.cell? (ad.add j) = some u := by
      rcases h5 with rfl | ⟨b, off, e, hb, hc⟩
      · obtain rfl := List.length_eq_zero_iff.1 h1
        intro j u hu
        simp at hu
      · cases e
        intro j u hu
        have hj : j < len * 34 := by
          rcases Nat.lt_or_ge j (len * 34) with h | h
          · exact h
          · rw [List.getElem?_eq_none (by omega)] at hu; cases hu
        have hjk : j / 34 < len := by omega
        have h6 := flatO_drop h4 (j / 34) (by omega)
        have h7 : (objC (ys.getD (j / 34) noO))[j % 34]? = some u := by
          rw [← h6, List.getElem?_take, if_pos (by omega), List.getElem?_drop, show j / 34 * 34 + j % 34 = j by omega]
          exact hu
        have h8 := hc (j / 34) hjk (j % 34) u h7
        rw [Addr.add_mid]
        rw [show off + j / 34 * 34 + j % 34 = off + j by omega] at h8
        exact h8
    obtain ⟨v', w', hr, ho, hg, _, hob⟩ := run_append_own_at (P := Try.prog) w base 22 22 46 i0 _ 34 64 Try.underlying22 hi hz0 hz1 hz2 (by simp only [Value.cells, List.size_toArray]; exact objC_length noO_ok) (by omega) v zs.length (zs.flatMap objC) hown ad len cap (ys.flatMap objC) hfl hnews (fun u hu => by obtain ⟨o, _, h⟩ := List.mem_flatMap.1 hu; exact objC_one o u h) (by simp only [maxLen]; omega) (by omega) hbase
    refine ⟨v', w', hr, ?_, hg, hob⟩
    unfold OwnO
    rw [List.length_append, h1, List.flatMap_append]
    exact ho
  · obtain rfl : p = none := by cases p with
      | none => rfl
      | some a => exact absurd ⟨a, rfl⟩ hpn
    have h0 : len = 0 := by
      rcases h5 with h | ⟨b, off, e, _⟩
      · exact h
      · cases e
    subst h0
    obtain rfl := List.length_eq_zero_iff.1 h1
    refine ⟨v, w, ?_, by rw [List.append_nil]; exact hown, ⟨rfl, rfl, rfl, Nat.le_refl _, fun _ _ _ => rfl⟩, .inl rfl⟩
    rcases hown.2 with ⟨rfl, _⟩ | ⟨g, cp, cur, rfl, _, _, hnc, _⟩
    · simp [Builtin.append_, run_underlying Try.underlying22, sizeOf, typeInfo, hi, Builtin.lenOf, Builtin.firstCells]
    · simp [Builtin.append_, run_underlying Try.underlying22, sizeOf, typeInfo, hi, Builtin.lenOf, Builtin.firstCells, hnc, storeCells]
theorem objs_cells {n₀ : Nat} {W : World} {b off len cap : Nat} {l : List O} (hI : IsObjs n₀ W (some ⟨b, off, none⟩) len cap l) : ∀ j u, (l.flatMap objC)[j]? = some u → W.cell? ⟨b, off + j, none⟩ = some u := by
  obtain ⟨h1, h2, h3, h4, _, h5⟩ := hI
  have hfl : (l.flatMap objC).length = len * 34 := by rw [flatO_len l h4, h1]
  rcases h5 with rfl | ⟨b', off', e, hb, hc⟩
  · obtain rfl := List.length_eq_zero_iff.1 h1
    intro j u hu
    simp at hu
  · cases e
    intro j u hu
    have hj : j < len * 34 := by
      rcases Nat.lt_or_ge j (len * 34) with h | h
      · exact h
      · rw [List.getElem?_eq_none (by omega)] at hu; cases hu
    have hjk : j / 34 < len := by omega
    have h6 := flatO_drop h4 (j / 34) (by omega)
    have h7 : (objC (l.getD (j / 34) noO))[j % 34]? = some u := by
      rw [← h6, List.getElem?_take, if_pos (by omega), List.getElem?_drop, show j / 34 * 34 + j % 34 = j by omega]
      exact hu
    have h8 := hc (j / 34) hjk (j % 34) u h7
    rw [show off + j / 34 * 34 + j % 34 = off + j by omega] at h8
    exact h8
/-- Where the tail of a cut row lies. -/
def tailP (b off cl kk : Nat) : Option Addr := if cl = kk + 1 then some ⟨b, off, none⟩ else some ⟨b, off + (kk + 1) * 34, none⟩
/-- A row of objects without its place kk, as append(left[:k:k], left[k+1:]...) makes it. -/
theorem run_cut (W : World) (lb loff k cl kk : Nat) (left : List O) (hI : IsObjs W.heap.size W (some ⟨lb, loff, none⟩) k cl left) (hk : kk < k) (hk1 : k ≤ 1000) :
    ∃ q c w', (Builtin.append_ #[22, 22] 22 #[.slice (some ⟨lb, loff, none⟩) kk kk, .slice (tailP lb loff cl kk) (k - (kk + 1)) (cl - (kk + 1))]).run Try.prog W = .ok (.slice q (k - 1) c) w' ∧ IsObjs w'.heap.size w' q (k - 1) c (left.eraseIdx kk) ∧ Below W.heap.size W w' ∧ (0 < k - 1 → ∀ a, q = some a → a.block < w'.heap.size ∧ (a.block = lb ∨ W.heap.size ≤ a.block)) := by
  obtain ⟨i0, hi, hz0, hz1, hz2⟩ := info_parts info46
  have hcells := objs_cells hI
  obtain ⟨h1, h2, h3, h4, h6, h5⟩ := hI
  have hlb : ∃ (_ : lb < W.heap.size), ∀ i, i < k → W.rangeAt lb (loff + i * 34) (objC (left.getD i noO)) := by
    rcases h5 with h | ⟨b, off, e, hb, hc⟩
    · omega
    · cases e; exact ⟨hb, hc⟩
  obtain ⟨hlb, hrg⟩ := hlb
  have her := List.eraseIdx_eq_take_drop_succ left kk
  have hmem : ∀ o ∈ left.eraseIdx kk, o ∈ left := fun o ho => List.mem_of_mem_eraseIdx ho
  have hlen : (left.eraseIdx kk).length = k - 1 := by rw [List.length_eraseIdx, if_pos (by omega)]; omega
  by_cases hm : k = kk + 1
  · refine ⟨some ⟨lb, loff, none⟩, kk, W, ?_, ?_, Below.refl _ _, fun _ a ha => by cases ha; exact ⟨hlb, .inl rfl⟩⟩
    · rw [show k - (kk + 1) = 0 by omega, show k - 1 = kk by omega]
      unfold tailP
      by_cases hc : cl = kk + 1
      · simp [Builtin.append_, run_underlying Try.underlying22, sizeOf, typeInfo, hi, Builtin.lenOf, Builtin.firstCells, hc, storeCells, loadCells, loadCellsFrom]
      · simp [Builtin.append_, run_underlying Try.underlying22, sizeOf, typeInfo, hi, Builtin.lenOf, Builtin.firstCells, hc, storeCells, loadCells, loadCellsFrom]
    · refine ⟨hlen, by omega, by omega, fun o ho => h4 o (hmem o ho), fun o ho => h6 o (hmem o ho), .inr ⟨lb, loff, rfl, hlb, fun i hi => ?_⟩⟩
      have := hrg i (by omega)
      rw [her, List.drop_of_length_le (by omega), List.append_nil]
      rw [List.getD_eq_getElem?_getD, List.getElem?_take, if_pos (by omega), ← List.getD_eq_getElem?_getD]
      exact this
  · have hne : ¬ cl = kk + 1 := by omega
    have hsp : left.flatMap objC = (left.take (kk + 1)).flatMap objC ++ (left.drop (kk + 1)).flatMap objC := by rw [← List.flatMap_append, List.take_append_drop]
    have hsp0 : left.flatMap objC = (left.take kk).flatMap objC ++ (left.drop kk).flatMap objC := by rw [← List.flatMap_append, List.take_append_drop]
    have hlo : ((left.take kk).flatMap objC).length = kk * 34 := by rw [flatO_len _ (fun x hx => h4 x (List.mem_of_mem_take hx)), List.length_take, Nat.min_eq_left (by omega)]
    have hlo1 : ((left.take (kk + 1)).flatMap objC).length = (kk + 1) * 34 := by rw [flatO_len _ (fun x hx => h4 x (List.mem_of_mem_take hx)), List.length_take, Nat.min_eq_left (by omega)]
    have hln : ((left.drop (kk + 1)).flatMap objC).length = (k - (kk + 1)) * 34 := by rw [flatO_len _ (fun x hx => h4 x (List.mem_of_mem_drop hx)), List.length_drop, h1]
    obtain ⟨v', w', hr, ho, hg⟩ := run_append_arg_grows (P := Try.prog) (w := W) 22 22 46 i0 _ 34 64 Try.underlying22 hi hz0 hz1 hz2 (by simp only [Value.cells, List.size_toArray]; exact objC_length noO_ok) (by omega) ⟨lb, loff, none⟩ kk kk ((left.take kk).flatMap objC) hlo (fun j u hu => by
      rw [Addr.add_mid]
      refine hcells j u ?_
      rw [hsp0, List.getElem?_append_left (by rcases Nat.lt_or_ge j (((left.take kk).flatMap objC).length) with h | h; exact h; rw [List.getElem?_eq_none h] at hu; cases hu)]
      exact hu) ⟨lb, loff + (kk + 1) * 34, none⟩ (k - (kk + 1)) (cl - (kk + 1)) ((left.drop (kk + 1)).flatMap objC) hln (fun j u hu => by
      rw [Addr.add_mid, show loff + (kk + 1) * 34 + j = loff + ((kk + 1) * 34 + j) by omega]
      refine hcells _ u ?_
      rw [hsp, List.getElem?_append_right (by omega), hlo1, Nat.add_sub_cancel_left]
      exact hu) (by omega) (by simp only [maxLen]; omega) (by omega)
    have hO : OwnO W.heap.size w' v' (left.eraseIdx kk) := by
      unfold OwnO
      rw [hlen, her, List.flatMap_append, show k - 1 = kk + (k - (kk + 1)) by omega]
      exact ho
    have hB : Below W.heap.size W w' := ⟨hg.os, hg.tape, hg.output, hg.size, fun i hi => hg.block i hi (by simp)⟩
    obtain ⟨q, c, e⟩ := hO.slice
    rw [hlen] at e
    subst e
    refine ⟨q, c, w', ?_, hO.objs hlen (fun o ho => h4 o (hmem o ho)) (fun o ho => ((h6 o (hmem o ho)).below hB).mono hB.size), hB, fun hp a ha => ?_⟩
    · unfold tailP; rw [if_neg hne]; exact hr
    · have hob := own_block hO (k := a.block) (by rw [ha]; rfl)
      exact ⟨hob.2.1, .inr hob.1⟩
end Go.Proofs.Ytfclbdlkpnoceaa
