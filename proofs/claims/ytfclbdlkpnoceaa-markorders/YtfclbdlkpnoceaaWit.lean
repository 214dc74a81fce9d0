/-
  What a walk found, told one behind the other.
-/
import Derived.Test.YtfclbdlkpnoceaaWlk
namespace Go.Proofs.Ytfclbdlkpnoceaa
open Go.RowKit Go.Shelf Go.Maps
attribute [local go_sem] Oper.semAt_some

/-- What is told: how far, and the id. -/
def tlV (x : Nat × List Nat) : Array Value := #[.int .i64 (x.1 : Nat), idV x.2]
theorem own_cell {m n : Nat} {W : World} {v : Value} {cs : List Value} (h : W.ownsRow m 23 1 v n cs) (hc : cs.length = n) {i : Nat} (hi : i < n) : ∃ b c, v = .slice (some ⟨b, 0, none⟩) n c ∧ m ≤ b ∧ b < W.heap.size ∧ n ≤ c ∧ c ≤ 9223372036854775807 ∧ W.cell? ⟨b, i, none⟩ = cs[i]? := by
  rcases h.2 with ⟨_, hz⟩ | ⟨g, c, cur, e, hg, hgg, hnc, hm, hs, ht⟩
  · omega
  · refine ⟨g, c, e, hg, (Array.getElem?_eq_some_iff.1 hgg).1, hnc, by simpa only [maxLen] using hm, ?_⟩
    have hrow : Row W g 23 cur.toList := by unfold Row; rw [Array.toArray_toList]; exact hgg
    have h1 := hrow.mid ht i 1 (by omega)
    have hil : i < cs.length := by omega
    have h2 : ((cs.drop i).take 1)[0]? = some cs[i] := by simp [List.getElem?_eq_getElem hil]
    have h3 := h1 0 _ h2
    rw [Nat.add_zero] at h3
    rw [h3, List.getElem?_eq_getElem hil]
theorem kpp_of {P : Nat → Obj → Prop} {w W A : World} (hW : Below w.heap.size w W) (hk : KpP P W A) : ∀ k c t fr, P k (.cells c t fr) → w.heap[k]? = some (.cells c t fr) → A.heap[k]? = some (.cells c t fr) := fun k _ _ _ hp h => hk k _ hp ((hW.block k (Array.getElem?_eq_some_iff.1 h).1).trans h)
theorem ownsRow_frame {m n sz : Nat} {t : TypeId} {A B : World} {v : Value} {cs : List Value} (h : A.ownsRow m t sz v n cs) (hk : ∀ k c fr, m ≤ k → k < A.heap.size → A.heap[k]? = some (.cells c t fr) → B.heap[k]? = some (.cells c t fr)) : B.ownsRow m t sz v n cs := by
  refine ⟨h.1, ?_⟩
  rcases h.2 with h | ⟨g, c, cur, e, hg, hgg, hnc, hm, hsz, ht⟩
  · exact .inl h
  · exact .inr ⟨g, c, cur, e, hg, hk g _ _ hg (Array.getElem?_eq_some_iff.1 hgg).1 hgg, hnc, hm, hsz, ht⟩

set_option maxRecDepth 100000 in
set_option maxHeartbeats 1000000 in
theorem walk1_iter (n : Nat) (hn : 2 ≤ n) (lp B m : Nat) (lvs : List (List (List Nat))) (hfl : lvs.flatten.length ≤ 100000) (P : Nat → Obj → Prop) (w W : World) (hF : FoundAt m w B lvs) (hW : Below w.heap.size w W) (hP : ∀ k c t fr, m ≤ k → k < w.heap.size → P k (.cells c t fr)) :
    IterX Fence.wide n Try.prog 23 #[.pointer (some ⟨B, 0, none⟩)] tlV (fun x _ => IsId x.2) (KpP P) (fun pre x => ∃ post, tellL lvs = pre ++ x :: post) (fun xs => xs = tellL lvs) (fun _ => True) lp W := by
  intro J Jx hJ hJx hY h0
  have h1 : 1 ≤ n := by omega
  have hfn : ∀ f, Fence.wide.fn f := fun _ => trivial
  obtain ⟨v, xs, hB, hbx, hrow, hids, hxl⟩ := hF
  obtain ⟨q, c, rfl⟩ := slice_of_row hrow
  obtain ⟨len, hlen⟩ : ∃ len, xs.length = len := ⟨_, rfl⟩
  rw [hlen] at hrow hbx
  have HXL : Hid (xs.length = lvs.length) := by show _ = _; rw [← hxl, List.length_map]
  have HLen : Hid (xs.length = len) := hlen
  have HXl : Hid (xs.map (·.2) = lvs) := hxl
  clear hlen hxl
  have hc := (boxed_below hbx hW).cell
  have HRow : Hid (∀ A, KpP P W A → A.ownsRow m 23 1 (.slice q len c) len (xs.map (·.1))) := fun A hk => ownsRow_frame hrow fun k c fr h1 h2 h3 => kpp_of hW hk k _ _ _ (hP k _ _ _ h1 h2) h3
  have HIds : Hid (∀ A, KpP P W A → ∀ x ∈ xs, OwnIds m A x.1 x.2) := fun A hk x hx => by
    have h := (hids x hx).1
    unfold OwnIds at h ⊢
    exact ownsRow_frame h fun k c fr h1 h2 h3 => kpp_of hW hk k _ _ _ (hP k _ _ _ h1 h2) h3
  have HId : Hid (∀ x ∈ xs, ∀ y ∈ x.2, IsId y) := fun x hx => (hids x hx).2
  refine callsIn_of_wp Try.func23 rfl trivial ?_ rfl
  simp only [Try.ntmps23, List.size_toArray, List.length_cons, List.length_nil, Nat.reduceAdd, Nat.reduceSub, Array.replicate_succ, Array.replicate_zero, List.push_toArray, List.append_toArray, List.nil_append, List.cons_append]
  clear hbx hrow hids
  gi_wp2
  gi_loopw [9] (fun i wr => ∃ (k : Nat), k ≤ len ∧ i = .int .i64 k ∧ J (tellL (lvs.take k)) wr ∧ KpP P W wr) (fun i _ => len - (intOf i).toNat)
  case atStart => exact ⟨0, Nat.zero_le _, rfl, by simpa [tellL, tellF] using h0, KpP.refl _ _⟩
  case round =>
    obtain ⟨k, hk, rfl, hj, hkp⟩ := hrel
    by_cases hlt : k < len
    · have hki : (k : Int) < (len : Int) := by omega
      have hkx : k < xs.length := by rw [HLen.out]; exact hlt
      obtain ⟨b, c', e1, hmb, hbl, hlc, hcc, hcell⟩ := own_cell (HRow.out wr hkp) (by rw [List.length_map]; exact HLen.out) (i := k) (by omega)
      cases e1
      have hmem : xs[k] ∈ xs := List.getElem_mem hkx
      have ho := HIds.out wr hkp _ hmem
      have HIdk : Hid (∀ y ∈ xs[k].2, IsId y) := HId.out _ hmem
      obtain ⟨q2, n2, c2, ev, hn2, hids2, _⟩ := own_ids_slice ho (fun y hy => HIdk.out y hy)
      rw [List.getElem?_map, List.getElem?_eq_getElem hkx, Option.map_some, ev] at hcell
      have hkl : k < lvs.length := by rw [← HXL.out]; exact hkx
      have hlk : lvs[k] = xs[k].2 := by simp [← HXl.out]
      have HT : Hid (tellL (lvs.take (k + 1)) = tellL (lvs.take k) ++ xs[k].2.map (fun x => (k, x))) := by
        show _ = _
        rw [List.take_succ_eq_append_getElem hkl, tellL_snoc, List.length_take, Nat.min_eq_left (by omega), hlk]
      have HN : Hid (∃ post, tellL lvs = (tellL (lvs.take k) ++ xs[k].2.map (fun x => (k, x))) ++ post) := by
        have h5 : lvs = lvs.take (k + 1) ++ lvs.drop (k + 1) := (List.take_append_drop _ _).symm
        have h6 : ∀ (a b : List (List (List Nat))), ∃ post, tellL (a ++ b) = tellL a ++ post := fun a b => by
          unfold tellL
          generalize 0 = d
          induction a generalizing d with
          | nil => exact ⟨tellF d b, rfl⟩
          | cons x r ih => obtain ⟨post, h⟩ := ih (d + 1); exact ⟨post, by rw [List.cons_append, tellF, tellF, h, List.append_assoc]⟩
        obtain ⟨post, h7⟩ := h6 (lvs.take (k + 1)) (lvs.drop (k + 1))
        rw [← h5, HT.out] at h7
        exact ⟨post, h7⟩
      have hnl : n2 ≤ 100000 := by
        have h8 : xs[k].2.length ≤ lvs.flatten.length := by
          rw [← hlk]
          exact (List.sublist_flatten_of_mem (List.getElem_mem hkl)).length_le
        omega
      have HIk : Hid (∀ A, KpP P W A → ∃ q3 c3, xs[k].1 = .slice q3 n2 c3 ∧ IsIds A.heap.size A q3 n2 c3 xs[k].2) := fun A hk => by
        obtain ⟨q3, n3, c3, e3, h3, h4, _⟩ := own_ids_slice (HIds.out A hk _ hmem) (fun y hy => HIdk.out y hy)
        rw [hn2] at h3
        subst h3
        exact ⟨q3, c3, e3, h4⟩
      have HJ : Hid (J (tellL (lvs.take k)) wr) := hj
      have HKp : Hid (KpP P W wr) := hkp
      have HEv : Hid (xs[k].1 = .slice q2 n2 c2) := ev
      have HI2 : Hid (xs[k].2.length = n2) := hn2
      have hn2c := hids2.2.1
      have hc2c := hids2.2.2.1
      clear hj hkp ho hids2 ev hn2 hlk hkl
      generalize xs[k].2 = lv at *
      generalize xs[k].1 = xv at *
      gi_wp2
      gi_loopw [16] (fun i wr => ∃ (k' : Nat), k' ≤ n2 ∧ i = .int .i64 k' ∧ J (tellL (lvs.take k) ++ (lv.take k').map (fun x => (k, x))) wr ∧ KpP P W wr) (fun i _ => n2 - (intOf i).toNat)
      case atStart => exact ⟨0, Nat.zero_le _, rfl, by rw [List.take_zero, List.map_nil, List.append_nil]; exact HJ.out, HKp.out⟩
      case round =>
        obtain ⟨k', hk', rfl, hj', hkp'⟩ := hrel
        by_cases hlt' : k' < n2
        · have hki' : (k' : Int) < (n2 : Int) := by omega
          obtain ⟨q3, c3, e3, hI3⟩ := HIk.out wr hkp'
          have e4 := HEv.out.symm.trans e3
          cases e4
          obtain ⟨b', off', rfl, hb', hr', hid'⟩ := hI3.at hlt'
          have hkl' : k' < lv.length := by rw [HI2.out]; exact hlt'
          have HT' : Hid (tellL (lvs.take k) ++ (lv.take (k' + 1)).map (fun x => (k, x)) = (tellL (lvs.take k) ++ (lv.take k').map (fun x => (k, x))) ++ [(k, lv.getD k' [])]) := by show _ = _; rw [ids_take lv hkl', List.map_append, ← List.append_assoc]; rfl
          have HNx' : Hid (∃ post, tellL lvs = (tellL (lvs.take k) ++ (lv.take k').map (fun x => (k, x))) ++ (k, lv.getD k' []) :: post) := by
            obtain ⟨post, hpost⟩ := HN.out
            refine ⟨(lv.drop (k' + 1)).map (fun x => (k, x)) ++ post, ?_⟩
            rw [hpost]
            conv => lhs; rw [ids_next lv hkl']
            simp only [List.map_append, List.map_cons, List.append_assoc, List.cons_append]
          have HR' : Hid (wr.rangeAt b' (off' + k' * 32) (u8s (lv.getD k' []))) := hr'
          have HY : Hid (∀ Y, Below wr.heap.size wr Y → YieldAt Fence.wide (n - 1) Try.prog lp #[.int .i64 k, idV (lv.getD k' [])] Y fun e W' => (e = .returned (.bool true) ∧ J ((tellL (lvs.take k) ++ (lv.take k').map (fun x => (k, x))) ++ [(k, lv.getD k' [])]) W' ∧ KpP P Y W') ∨ (e = .returned (.bool false) ∧ Jx ((tellL (lvs.take k) ++ (lv.take k').map (fun x => (k, x))) ++ [(k, lv.getD k' [])]) W' ∧ KpP P Y W')) := fun Y hb => hY _ (k, lv.getD k' []) Y (OwnFrom.grow hJ hj' hb) hid' HNx'.out
          have HKp' : Hid (KpP P W wr) := hkp'
          clear hj' hkp' hr' hI3 e3
          generalize lv.getD k' [] = y at *
          gi_wp2_with (first
            | ((with_reducible show wpListIn _ _ _ _ _ (Oper.mk _ (Op.load 33 (.tmp 18)) _ _ _ _ :: _) _ _); refine wpListIn_loadId rfl (.tmp 18) rfl rfl hid' HR'.out ?_; simp only [Act.put, List.setIfInBounds_toArray, List.set_cons_zero, List.set_cons_succ])
            | ((with_reducible show wpListIn _ _ _ _ _ (Oper.mk _ (Op.store 33 (.tmp 6) (.tmp 19)) _ _ _ _ :: _) _ _); rw [z32u8]; refine wpListIn_storeId rfl (.tmp 6) (.tmp 19) rfl hid' rfl rfl (fun Y3 hb3 hR3 => ?_); have HR3 : Hid (Row Y3 wr.heap.size 33 (u8s y)) := hR3; clear hR3; obtain ⟨fn, tmps, assign, body, hy, hRd⟩ := HY.out Y3 hb3; simp only [Act.put])
            | ((with_reducible show wpListIn _ _ _ _ _ (Oper.mk _ (Op.load 33 (.tmp 6)) _ _ _ _ :: _) _ _); refine wpListIn_loadId rfl (.tmp 6) rfl rfl hid' HR3.out.range ?_; simp only [Act.put, List.setIfInBounds_toArray, List.set_cons_zero, List.set_cons_succ]))
          refine RoundIn.mono hRd ?_
          rintro e W3 (⟨rfl, hJ3, hk3⟩ | ⟨rfl, hJ3, hk3⟩)
          · gi_wp2
            go_roundw
            case rel => exact ⟨k' + 1, by omega, by go_num, by rw [HT'.out]; exact hJ3, (HKp'.out.trans (KpP.of_below hb3)).trans hk3⟩
            case measure => simp [intOf]; omega
          · gi_wp2
            refine bodyPost_ret (results_none rfl _ _ _) rfl ?_
            exact ⟨⟨_, rfl⟩, .inr ⟨_, trivial, hJ3⟩⟩
        · obtain rfl : k' = n2 := by omega
          gi_wp2
          go_roundw
          case rel => exact ⟨k + 1, by omega, by go_num, by have e : lv.take k' = lv := List.take_of_length_le (by rw [HI2.out]; exact Nat.le_refl _); rw [e] at hj'; rw [HT.out]; exact hj', hkp'⟩
          case measure => simp [intOf]; omega
    · obtain rfl : k = len := by omega
      gi_wp2
      refine ⟨rfl, _, results_none rfl _ _ _, ?_⟩
      exact ⟨⟨_, rfl⟩, .inl ⟨_, rfl, by rw [List.take_of_length_le (by rw [← HXL.out, HLen.out]; exact Nat.le_refl _)] at hj; exact hj⟩⟩
end Go.Proofs.Ytfclbdlkpnoceaa
