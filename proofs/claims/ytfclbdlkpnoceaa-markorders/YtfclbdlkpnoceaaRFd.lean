/-
  The reference's find and has.
-/
import Derived.Test.YtfclbdlkpnoceaaEqX
namespace Go.Proofs.Ytfclbdlkpnoceaa
open Go.RowKit Go.Shelf Go.Maps
attribute [local go_sem] Oper.semAt_some

/-- The place of the first object with an id. -/
def placeO (l : List O) (x : List Nat) : Int := match l.findIdx? fun o => decide (o.id = x) with | some i => i | none => -1
theorem placeO_none {l : List O} {x : List Nat} (h : ∀ o ∈ l, o.id ≠ x) : placeO l x = -1 := by
  unfold placeO
  rw [List.findIdx?_eq_none_iff.2 (fun o ho => by simpa using h o ho)]
theorem placeO_some {l : List O} {x : List Nat} {k : Nat} (hk : k < l.length) (hx : (l.getD k noO).id = x) (h : ∀ o ∈ l.take k, o.id ≠ x) : placeO l x = k ∧ firstO l x = some (l.getD k noO) := by
  have hg : l.getD k noO = l[k] := by rw [List.getD_eq_getElem?_getD, List.getElem?_eq_getElem hk, Option.getD_some]
  rw [hg] at hx ⊢
  have h2 : ∀ j (hj : j < k), l[j].id ≠ x := fun j hj => h _ (by rw [List.mem_take_iff_getElem]; exact ⟨j, by omega, rfl⟩)
  constructor
  · unfold placeO
    rw [(List.findIdx?_eq_some_iff_getElem (i := k)).2 ⟨hk, by simpa using hx, fun j hj => by simpa using h2 j hj⟩]
  · unfold firstO
    rw [List.find?_eq_some_iff_getElem]
    exact ⟨by simpa using hx, k, hk, rfl, fun j hj => by simpa using h2 j hj⟩
theorem hasO_place {l : List O} {x : List Nat} : (placeO l x < 0 ↔ hasO l x = false) := by
  unfold placeO
  cases h : l.findIdx? fun o => decide (o.id = x) with
  | none =>
    simp only [Int.reduceNeg, Int.reduceLT, true_iff]
    rw [List.findIdx?_eq_none_iff] at h
    cases hh : hasO l x with
    | false => rfl
    | true => obtain ⟨o, ho, e⟩ := hasO_iff.1 hh; simpa [e] using h o ho
  | some i =>
    obtain ⟨hi, hx, _⟩ := List.findIdx?_eq_some_iff_getElem.1 h
    have : hasO l x = true := hasO_iff.2 ⟨l[i], List.getElem_mem hi, by simpa using hx⟩
    rw [this]
    constructor
    · intro h; exact absurd h (by show ¬ ((i : Int) < 0); omega)
    · intro h; cases h
/-- The object at the place. -/
theorem place_at {l : List O} {x : List Nat} (h : hasO l x = true) : ∃ k, k < l.length ∧ placeO l x = (k : Nat) ∧ linksO l x = (l.getD k noO).links := by
  cases hf : l.findIdx? fun o => decide (o.id = x) with
  | none =>
    have : placeO l x < 0 := by unfold placeO; rw [hf]; decide
    rw [hasO_place, h] at this
    cases this
  | some i =>
    obtain ⟨hi, hx, hj⟩ := List.findIdx?_eq_some_iff_getElem.1 hf
    have hp := placeO_some (l := l) (x := x) hi (by rw [List.getD_eq_getElem?_getD, List.getElem?_eq_getElem hi, Option.getD_some]; simpa using hx) (fun o ho => by
      obtain ⟨j, hj2, rfl⟩ := List.mem_take_iff_getElem.1 ho
      simpa using hj j (by omega))
    exact ⟨i, hi, hp.1, by unfold linksO; rw [hp.2]; rfl⟩

set_option maxRecDepth 100000 in
set_option maxHeartbeats 1000000 in
theorem find_any (p : Option Addr) (len cap : Nat) (l : List O) (x : List Nat) (hx : IsId x) (w : World) (hI : IsObjs w.heap.size w p len cap l) :
    Calls Try.prog 19 #[.slice p len cap, idV x] w fun e w' => e = .returned (.int .i64 (placeO l x)) ∧ Below w.heap.size w w' := by
  have HI : Hid (IsObjs w.heap.size w p len cap l) := hI
  have hll := hI.1
  have hlc := hI.2.1
  have hcc := hI.2.2.1
  clear hI
  obtain ⟨X, hX⟩ : ∃ X, u8s x = X := ⟨_, rfl⟩
  obtain ⟨w1, hw1⟩ : ∃ w1, w.alloc (.cells X.toArray 33) = w1 := ⟨_, rfl⟩
  have b1 : Below w.heap.size w w1 := by rw [← hw1]; exact (Below.refl _ w).alloc (Nat.le_refl _) _
  have HX1 : Hid (Row w1 w.heap.size 33 (u8s x)) := by show Row _ _ _ _; rw [← hw1, ← hX]; exact Row.new' w 33 _
  show Calls _ _ #[_, .agg (u8s x).toArray] _ _
  rw [hX]
  go_enter Try.func19, Try.ntmps19
  go_wp2
  go_loopw [8] (fun i wr => ∃ (k : Nat), k ≤ len ∧ i = .int .i64 k ∧ (∀ o ∈ l.take k, o.id ≠ x) ∧ Below w1.heap.size w1 wr) (fun i _ => len - (intOf i).toNat)
  case atStart => exact ⟨0, Nat.zero_le _, rfl, by simp, Below.refl _ _⟩
  case round =>
    obtain ⟨k, hk, rfl, hall, hb⟩ := hrel
    have b1s := b1.size
    have hbs := hb.size
    have HB := (show Hid (Below _ _ _) from hb)
    by_cases hlt : k < len
    · have hki : (k : Int) < (len : Int) := by omega
      obtain ⟨b, off, rfl, hbb, hr, hok, hmem⟩ := ((HI.out.below b1).below (hb.mono (by omega))).at hlt
      have HR : Hid (wr.rangeAt b (off + k * 34) (u8s (l.getD k noO).id)) := by
        have h := range_part (o := 0) (n := 32) hr (objC_id hok)
        rwa [Nat.add_zero] at h
      have hlw := HX1.out.lt
      have HXr : Hid (wr.rangeAt w.heap.size 0 (u8s x)) := (HX1.out.below hb HX1.out.lt).range
      have HT : Hid (l.take (k + 1) = l.take k ++ [l.getD k noO]) := obj_take l (by omega)
      have HPl : Hid ((l.getD k noO).id = x → placeO l x = k) := fun e => (placeO_some (by omega) e hall).1
      have hidk := hok.1
      have hSr : ∀ A, Below wr.heap.size wr A → A.rangeAt b (off + k * 34) (u8s (l.getD k noO).id) ∧ A.rangeAt w.heap.size 0 (u8s x) := fun A hA => ⟨rangeAt_below hA (by omega) HR.out, rangeAt_below hA (by omega) HXr.out⟩
      have HSr := (show Hid (∀ A, Below wr.heap.size wr A → A.rangeAt b (off + k * 34) (u8s (l.getD k noO).id) ∧ A.rangeAt w.heap.size 0 (u8s x)) from hSr)
      clear hr hmem hok hSr hb
      generalize l.getD k noO = y at *
      go_wp2
      refine wp_region_held_drew (S := fun A => A.rangeAt b (off + k * 34) (u8s y.id) ∧ A.rangeAt w.heap.size 0 (u8s x)) (by kernel_rfl) (HSr.out _ (Below.refl _ _).drew) (fun hHeld => ?_)
      refine wpAnyH_takesAt 0 4 3 (of_decide_eq_true (by kernel_rfl)) rfl (fun _ _ _ d _ h => by cases d <;> exact h) (by kernel_rfl) (by kernel_rfl) hHeld ?_
      simp only [List.drop_zero, List.take_succ_cons, List.take_zero]
      iterate 4 (refine wpHeld_step (v := ?_) (by rfl) (fun wz hSw => ?_) ?_; rotate_left; (focus ((try dsimp only at hSw); go_simp; try with_reducible rfl)); (simp only [Act.put, List.setIfInBounds_toArray, List.set_cons_zero, List.set_cons_succ]))
      refine wpHeld_nil ?_
      refine wpAnyH_takesAt 4 1 2 (of_decide_eq_true (by kernel_rfl)) rfl (fun _ _ _ d _ h => by cases d <;> exact h) (by kernel_rfl) (by kernel_rfl) hHeld ?_
      simp only [List.drop_succ_cons, List.drop_zero, List.take_succ_cons, List.take_zero]
      refine wpHeld_load (by rfl) 33 (.tmp 14) rfl b (off + k * 34) rfl (u8s y.id) (fun W hW => hW.1) Try.underlying33 (size33' hidk) ?_
      (simp only [Act.put]; (try simp only [List.setIfInBounds_toArray]); (try simp only [List.set_cons_succ]); (try simp only [List.set_cons_zero]))
      refine wpHeld_nil ?_
      refine wpAnyH_takesAt 5 1 1 (of_decide_eq_true (by kernel_rfl)) rfl (fun _ _ _ d _ h => by cases d <;> exact h) (by kernel_rfl) (by kernel_rfl) hHeld ?_
      simp only [List.drop_succ_cons, List.drop_zero, List.take_succ_cons, List.take_zero]
      refine wpHeld_load (by rfl) 33 (.tmp 3) rfl w.heap.size 0 rfl (u8s x) (fun W hW => hW.2) Try.underlying33 (size33' hx) ?_
      (simp only [Act.put]; (try simp only [List.setIfInBounds_toArray]); (try simp only [List.set_cons_succ]); (try simp only [List.set_cons_zero]))
      refine wpHeld_nil ?_
      refine wpAnyH_takesAt 6 1 0 (of_decide_eq_true (by kernel_rfl)) rfl (fun _ _ _ d _ h => by cases d <;> exact h) (by kernel_rfl) (by kernel_rfl) hHeld ?_
      simp only [List.drop_succ_cons, List.drop_zero, List.take_succ_cons, List.take_zero]
      refine wpHeld_step (v := .bool (decide (y.id = x))) (by rfl) (fun wz _ => exec_eqId (.tmp 15) (.tmp 16) rfl rfl rfl hidk hx) ?_
      (simp only [Act.put]; (try simp only [List.setIfInBounds_toArray]); (try simp only [List.set_cons_succ]); (try simp only [List.set_cons_zero]))
      refine wpHeld_nil ?_
      refine wpAnyH_done (by kernel_rfl) ?_ _
      by_cases he : y.id = x
      · rw [decide_eq_true he]
        have hpl := HPl.out he
        go_wp2
        go_ret
        exact ⟨by rw [hpl]; rfl, b1.trans ((HB.out.mono (by omega)).trans ((Below.refl _ _).drew.mono (by omega)))⟩
      · rw [decide_eq_false he]
        go_wp2
        go_roundw
        case rel =>
          refine ⟨k + 1, by omega, by go_num, fun o ho => ?_, HB.out.trans ((Below.refl _ _).drew.mono (by omega))⟩
          rw [HT.out] at ho
          rcases List.mem_append.1 ho with h | h
          · exact hall o h
          · simp at h; subst h; exact he
        case measure => simp [intOf]; omega
    · obtain rfl : k = len := by omega
      rw [List.take_of_length_le (by omega)] at hall
      have hpl := placeO_none hall
      go_wp2
      go_ret
      exact ⟨by rw [hpl]; rfl, b1.trans (hb.mono (by omega))⟩

set_option maxRecDepth 100000 in
set_option maxHeartbeats 1000000 in
theorem has_any (p : Option Addr) (len cap : Nat) (ids : List (List Nat)) (x : List Nat) (hx : IsId x) (w : World) (hI : IsIds w.heap.size w p len cap ids) :
    Calls Try.prog 20 #[.slice p len cap, idV x] w fun e w' => e = .returned (.bool (decide (x ∈ ids))) ∧ Below w.heap.size w w' := by
  have HI : Hid (IsIds w.heap.size w p len cap ids) := hI
  have hll := hI.1
  have hlc := hI.2.1
  have hcc := hI.2.2.1
  clear hI
  obtain ⟨X, hX⟩ : ∃ X, u8s x = X := ⟨_, rfl⟩
  obtain ⟨w1, hw1⟩ : ∃ w1, w.alloc (.cells X.toArray 33) = w1 := ⟨_, rfl⟩
  have b1 : Below w.heap.size w w1 := by rw [← hw1]; exact (Below.refl _ w).alloc (Nat.le_refl _) _
  have HX1 : Hid (Row w1 w.heap.size 33 (u8s x)) := by show Row _ _ _ _; rw [← hw1, ← hX]; exact Row.new' w 33 _
  show Calls _ _ #[_, .agg (u8s x).toArray] _ _
  rw [hX]
  go_enter Try.func20, Try.ntmps20
  go_wp2
  go_loopw [9] (fun i wr => ∃ (k : Nat), k ≤ len ∧ i = .int .i64 k ∧ x ∉ ids.take k ∧ Below w1.heap.size w1 wr) (fun i _ => len - (intOf i).toNat)
  case atStart => exact ⟨0, Nat.zero_le _, rfl, by simp, Below.refl _ _⟩
  case round =>
    obtain ⟨k, hk, rfl, hall, hb⟩ := hrel
    have b1s := b1.size
    have hbs := hb.size
    have HB := (show Hid (Below _ _ _) from hb)
    by_cases hlt : k < len
    · have hki : (k : Int) < (len : Int) := by omega
      have hkl : k < ids.length := by omega
      obtain ⟨b, off, rfl, hbb, hr, hid⟩ := ((HI.out.below b1).below (hb.mono (by omega))).at hlt
      have HR := (show Hid (World.rangeAt _ _ _ _) from hr)
      have HXr : Hid (Row wr w.heap.size 33 (u8s x)) := HX1.out.below hb HX1.out.lt
      have HT : Hid (ids.take (k + 1) = ids.take k ++ [ids.getD k []]) := ids_take ids hkl
      have HMe : Hid (ids.getD k [] ∈ ids) := ids_mem hkl
      clear hr hb
      generalize ids.getD k [] = y at *
      by_cases he : y = x
      · go_wp2_with (first
          | ((with_reducible show wpList _ _ _ (Oper.mk (some 12) (Op.load 33 _) _ _ _ _ :: _) _ _); refine wpList_loadId rfl (.tmp 11) rfl rfl hid HR.out ?_; simp only [Act.put, List.setIfInBounds_toArray, List.set_cons_zero, List.set_cons_succ])
          | ((with_reducible show wpList _ _ _ (Oper.mk none (Op.store 33 _ _) _ _ _ _ :: _) _ _); rw [z32u8]; refine wpList_storeId rfl (.tmp 6) (.tmp 12) rfl hid rfl rfl (fun Y2 b2 hR_ => ?_); have HY2 : Hid (Row Y2 wr.heap.size 33 (u8s y)) := hR_; clear hR_; simp only [Act.put])
          | ((with_reducible show wpList _ _ _ (Oper.mk (some 13) (Op.load 33 _) _ _ _ _ :: _) _ _); refine wpList_loadId rfl (.tmp 6) rfl rfl hid HY2.out.range ?_; simp only [Act.put, List.setIfInBounds_toArray, List.set_cons_zero, List.set_cons_succ])
          | ((with_reducible show wpList _ _ _ (Oper.mk (some 14) (Op.load 33 _) _ _ _ _ :: _) _ _); refine wpList_loadId rfl (.tmp 3) rfl rfl hx (HXr.out.below b2 HXr.out.lt).range ?_; simp only [Act.put, List.setIfInBounds_toArray, List.set_cons_zero, List.set_cons_succ])
          | ((with_reducible show wpList _ _ _ (Oper.mk (some 15) (Op.binOp _ 33 _ _ _) _ _ _ _ :: _) _ _); refine wpList_eqId (by rfl) (.tmp 13) (.tmp 14) rfl rfl rfl hid hx true (decide_eq_true he) ?_; simp only [Act.put, List.setIfInBounds_toArray, List.set_cons_zero, List.set_cons_succ]))
        go_ret
        exact ⟨by rw [decide_eq_true (he ▸ HMe.out)]; rfl, b1.trans ((HB.out.mono (by omega)).trans (b2.mono (by omega)))⟩
      · go_wp2_with (first
          | ((with_reducible show wpList _ _ _ (Oper.mk (some 12) (Op.load 33 _) _ _ _ _ :: _) _ _); refine wpList_loadId rfl (.tmp 11) rfl rfl hid HR.out ?_; simp only [Act.put, List.setIfInBounds_toArray, List.set_cons_zero, List.set_cons_succ])
          | ((with_reducible show wpList _ _ _ (Oper.mk none (Op.store 33 _ _) _ _ _ _ :: _) _ _); rw [z32u8]; refine wpList_storeId rfl (.tmp 6) (.tmp 12) rfl hid rfl rfl (fun Y2 b2 hR_ => ?_); have HY2 : Hid (Row Y2 wr.heap.size 33 (u8s y)) := hR_; clear hR_; simp only [Act.put])
          | ((with_reducible show wpList _ _ _ (Oper.mk (some 13) (Op.load 33 _) _ _ _ _ :: _) _ _); refine wpList_loadId rfl (.tmp 6) rfl rfl hid HY2.out.range ?_; simp only [Act.put, List.setIfInBounds_toArray, List.set_cons_zero, List.set_cons_succ])
          | ((with_reducible show wpList _ _ _ (Oper.mk (some 14) (Op.load 33 _) _ _ _ _ :: _) _ _); refine wpList_loadId rfl (.tmp 3) rfl rfl hx (HXr.out.below b2 HXr.out.lt).range ?_; simp only [Act.put, List.setIfInBounds_toArray, List.set_cons_zero, List.set_cons_succ])
          | ((with_reducible show wpList _ _ _ (Oper.mk (some 15) (Op.binOp _ 33 _ _ _) _ _ _ _ :: _) _ _); refine wpList_eqId (by rfl) (.tmp 13) (.tmp 14) rfl rfl rfl hid hx false (decide_eq_false he) ?_; simp only [Act.put, List.setIfInBounds_toArray, List.set_cons_zero, List.set_cons_succ]))
        go_roundw
        case rel => exact ⟨k + 1, by omega, by go_num, by rw [HT.out]; simp only [List.mem_append, List.mem_singleton, not_or]; exact ⟨hall, fun e => he e.symm⟩, HB.out.trans (b2.mono (by omega))⟩
        case measure => simp [intOf]; omega
    · obtain rfl : k = len := by omega
      rw [List.take_of_length_le (by omega)] at hall
      go_wp2
      go_ret
      exact ⟨by rw [decide_eq_false hall]; rfl, b1.trans (hb.mono (by omega))⟩
end Go.Proofs.Ytfclbdlkpnoceaa
