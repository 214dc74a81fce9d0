/-
  CmtBack: the walk.
-/
import Derived.Test.YtkhhlcjjdkldjaaOfC
import Derived.Test.YtkhhlcjjdkldjaaTellsW
namespace Go.Proofs.Ytkhhlcjjdkldjaa
open Go.RowKit Go.Shelf

/-- What Of answers, in one form. -/
def oC (b : List Nat) : Cmt := if isC b = true then gC b else noCmt
def oP (b : List Nat) : List (List Nat) := if isC b = true then gP b else []
def oE (b : List Nat) : Int := if isC b = true then 0 else 120
def OfAll (w : World) (b : List Nat) (e : Ending) (w' : World) : Prop :=
  ∃ p len cap, e = .returned (.tuple #[.agg (cmtC (.slice p len cap) (oC b)).toArray, .int .i64 (oE b)]) ∧ IsIds w'.heap.size w' p len cap (oP b) ∧ Below w.heap.size w w'
theorem OfPost.all {w : World} {b : List Nat} {e : Ending} {w' : World} (h : OfPost w b e w') : OfAll w b e w' := by
  rcases h with ⟨hC, p, len, cap, rfl, hI, hb⟩ | ⟨hC, rfl, hb⟩
  · exact ⟨p, len, cap, by rw [oC, oE, if_pos hC, if_pos hC], by rw [oP, if_pos hC]; exact hI, hb⟩
  · have hn : ¬ isC b = true := by rw [hC]; decide
    exact ⟨none, 0, 0, by rw [oC, oE, if_neg hn, if_neg hn], by rw [oP, if_neg hn]; exact ⟨rfl, Nat.le_refl _, by omega, by simp, .inl rfl⟩, hb⟩
theorem oC_ok {b : List Nat} (h : ∀ z ∈ b, z < 256) : (oC b).ok := by
  unfold oC
  split
  · exact gC_ok h
  · exact noCmt_ok
theorem oP_len {b : List Nat} (h : ∀ z ∈ b, z < 256) : (oP b).length ≤ 2 := by
  unfold oP
  split
  · exact (gP_all h).2
  · simp

def Half2 (b : List Nat) (W : World) (e : Ending) (w' : World) : Prop :=
  ∃ v E2, e = .returned (.tuple #[v, .int .i64 E2]) ∧ Below W.heap.size W w' ∧ (oE b = 0 → E2 = 0 ∧ Str w' v (strOf b)) ∧ (∃ q k c, v = .slice q k c)
theorem half2_any (b : List Nat) (hb : ∀ z ∈ b, z < 256) (p : Option Addr) (len cap : Nat) (W : World) (hI : IsIds W.heap.size W p len cap (oP b)) :
    Calls Try.prog 9 #[.agg (cmtC (.slice p len cap) (oC b)).toArray] W (Half2 b W) := by
  have hl := hI.1
  have hl2 := oP_len hb
  cases hC : isC b with
  | true =>
    have e1 : oC b = gC b := by rw [oC, if_pos hC]
    have e2 : oP b = gP b := by rw [oP, if_pos hC]
    have hC' := hC
    simp only [isC, Bool.and_eq_true, decide_eq_true_eq] at hC'
    rw [e1]
    rw [e2] at hI
    refine (put_some p len cap (gP b) (gC b) (gC_ok hb) (by omega) hC'.2 W hI).mono ?_
    rintro e w' ⟨v, rfl, ho, hbl⟩
    refine ⟨v, 0, rfl, hbl, fun _ => ⟨rfl, ?_⟩, own_any_slice ho⟩
    have := str_of_row rfl ho
    rw [got_once hb hC'.1] at this
    exact this
  | false =>
    have hn : ¬ isC b = true := by rw [hC]; decide
    have e1 : oC b = noCmt := by rw [oC, if_neg hn]
    have e2 : oP b = [] := by rw [oP, if_neg hn]
    have e3 : oE b = 120 := by rw [oE, if_neg hn]
    rw [e1]
    rw [e2] at hI
    refine (put_some p len cap [] noCmt noCmt_ok (by omega) (by rfl) W hI).mono ?_
    rintro e w' ⟨v, rfl, ho, hbl⟩
    exact ⟨v, 0, rfl, hbl, fun h => (by rw [e3] at h; cases h), own_any_slice ho⟩
theorem encC_length {ids : List (List Nat)} {c : Cmt} (h : ∀ x ∈ ids, x.length = 32 ∧ ∀ z ∈ x, z < 256) (hok : c.ok) (hm : mayC ids c = true) : (encC ids c).length ≤ 50000 := by
  have hm2 : ids.length ≤ 2 ∧ c.text.size ≤ 4096 := by
    simp only [mayC, Bool.and_eq_true, decide_eq_true_eq] at hm
    exact ⟨hm.1, hm.2.1⟩
  have h1 := encIds_length h hm2.1
  have h2 := encN_ten hok.2.2.1
  have h3 := encN_ten (n := c.author) (by have := hok.2.2.2; omega)
  have h4 := encN_ten (n := (nameL c.text).length) (by rw [nameL_length]; omega)
  have h5 := hok.1.1
  have h6 := hok.2.1.1
  have h7 := nameL_length c.text
  simp only [encC, encText, List.length_append]
  omega
theorem noBytes (w : World) : IsBytes w.heap.size w none 0 0 [] := ⟨rfl, Nat.le_refl _, by omega, by simp, .inl rfl⟩

set_option maxRecDepth 100000 in
set_option maxHeartbeats 4000000 in
theorem back_few (p : Option Addr) (len cap : Nat) (ids : List (List Nat)) (c : Cmt) (p1 : Option Addr) (len1 cap1 : Nat) (b : List Nat) (w : World) (hok : c.ok) (_hI : IsIds w.heap.size w p len cap ids) (_hb : IsBytes w.heap.size w p1 len1 cap1 b) (hf : fewC len c = false) :
    Calls Try.prog 5 #[.agg (cmtC (.slice p len cap) c).toArray, .slice p1 len1 cap1] w fun e w' => e = .returned (.bool true) ∧ Below w.heap.size w w' := by
  obtain ⟨wa, hwa⟩ : ∃ wa, w.alloc (.cells (cmtC (.slice p len cap) c).toArray 29) = wa := ⟨_, rfl⟩
  have HBA : Hid (Below w.heap.size w wa) := by rw [← hwa]; exact (Below.refl _ w).alloc (Nat.le_refl _) _
  have HWA : Hid (w.alloc (.cells (cmtC (.slice p len cap) c).toArray 29) = wa) := hwa
  have HCA : Hid (CmtAt wa w.heap.size (.slice p len cap) c) := by rw [← hwa]; exact CmtAt.new w _ c hok
  have HF : Hid (∀ W, Calls Try.prog 8 #[.agg (cmtC (.slice p len cap) c).toArray] W fun e w' => e = .returned (.bool (fewC len c)) ∧ Below W.heap.size W w') := fun W => few_any p len cap c hok W
  have HOk : Hid c.ok := hok
  have HAw := awake_any wa
  clear hwa hok
  rw [hf] at HF
  go_enter Try.func5, Try.ntmps5
  go_wp2_with (first
    | (rw [HWA.out])
    | (go_at_call 7; refine HAw.mono ?_; rintro e w1 ⟨rfl, hb1⟩; have HB1 : Hid (Below wa.heap.size wa w1) := hb1; clear hb1)
    | ((with_reducible show wpList _ _ _ (Oper.mk (some 15) (Op.load 29 (.tmp 2)) _ _ _ _ :: _) _ _); refine wpList_loadCmt rfl (.tmp 2) rfl rfl HOk.out (HCA.out.later HB1.out).row.range ?_; simp only [Act.put, List.setIfInBounds_toArray, List.set_cons_zero, List.set_cons_succ])
    | (go_at_call 8; refine (HF.out _).mono ?_; rintro e w2 ⟨rfl, hb2⟩; have HB2 : Hid (Below wa.heap.size wa w2) := HB1.out.trans (hb2.mono HB1.out.size); clear hb2))
  go_ret
  exact ⟨rfl, HBA.out.trans (HB2.out.mono HBA.out.size)⟩

set_option maxRecDepth 100000 in
set_option maxHeartbeats 4000000 in
theorem back_long (p : Option Addr) (len cap : Nat) (ids : List (List Nat)) (c : Cmt) (p1 : Option Addr) (len1 cap1 : Nat) (b : List Nat) (w : World) (hok : c.ok) (_hI : IsIds w.heap.size w p len cap ids) (_hb : IsBytes w.heap.size w p1 len1 cap1 b) (hf : fewC len c = true) (hl1 : 5000 < len1) :
    Calls Try.prog 5 #[.agg (cmtC (.slice p len cap) c).toArray, .slice p1 len1 cap1] w fun e w' => e = .returned (.bool true) ∧ Below w.heap.size w w' := by
  obtain ⟨wa, hwa⟩ : ∃ wa, w.alloc (.cells (cmtC (.slice p len cap) c).toArray 29) = wa := ⟨_, rfl⟩
  have HBA : Hid (Below w.heap.size w wa) := by rw [← hwa]; exact (Below.refl _ w).alloc (Nat.le_refl _) _
  have HWA : Hid (w.alloc (.cells (cmtC (.slice p len cap) c).toArray 29) = wa) := hwa
  have HCA : Hid (CmtAt wa w.heap.size (.slice p len cap) c) := by rw [← hwa]; exact CmtAt.new w _ c hok
  have HF : Hid (∀ W, Calls Try.prog 8 #[.agg (cmtC (.slice p len cap) c).toArray] W fun e w' => e = .returned (.bool (fewC len c)) ∧ Below W.heap.size W w') := fun W => few_any p len cap c hok W
  have HOk : Hid c.ok := hok
  have HAw := awake_any wa
  have hl1i : (5000 : Int) < (len1 : Int) := by omega
  clear hwa hok
  rw [hf] at HF
  go_enter Try.func5, Try.ntmps5
  go_wp2_with (first
    | (rw [HWA.out])
    | (go_at_call 7; refine HAw.mono ?_; rintro e w1 ⟨rfl, hb1⟩; have HB1 : Hid (Below wa.heap.size wa w1) := hb1; clear hb1)
    | ((with_reducible show wpList _ _ _ (Oper.mk (some 15) (Op.load 29 (.tmp 2)) _ _ _ _ :: _) _ _); refine wpList_loadCmt rfl (.tmp 2) rfl rfl HOk.out (HCA.out.later HB1.out).row.range ?_; simp only [Act.put, List.setIfInBounds_toArray, List.set_cons_zero, List.set_cons_succ])
    | (go_at_call 8; refine (HF.out _).mono ?_; rintro e w2 ⟨rfl, hb2⟩; have HB2 : Hid (Below wa.heap.size wa w2) := HB1.out.trans (hb2.mono HB1.out.size); clear hb2))
  go_ret
  exact ⟨rfl, HBA.out.trans (HB2.out.mono HBA.out.size)⟩

set_option maxRecDepth 100000 in
set_option maxHeartbeats 4000000 in
theorem back_ok0 (p : Option Addr) (len cap : Nat) (ids : List (List Nat)) (c : Cmt) (p1 : Option Addr) (len1 cap1 : Nat) (b : List Nat) (w : World) (hok : c.ok) (hI : IsIds w.heap.size w p len cap ids) (hb : IsBytes w.heap.size w p1 len1 cap1 b) (hf : fewC len c = true) (hl1 : ¬ 5000 < len1) (hm : mayC ids c = true) (hE : oE b = 0) :
    Calls Try.prog 5 #[.agg (cmtC (.slice p len cap) c).toArray, .slice p1 len1 cap1] w fun e w' => e = .returned (.bool true) ∧ Below w.heap.size w w' := by
  obtain ⟨wa, hwa⟩ : ∃ wa, w.alloc (.cells (cmtC (.slice p len cap) c).toArray 29) = wa := ⟨_, rfl⟩
  have HBA : Hid (Below w.heap.size w wa) := by rw [← hwa]; exact (Below.refl _ w).alloc (Nat.le_refl _) _
  have HWA : Hid (w.alloc (.cells (cmtC (.slice p len cap) c).toArray 29) = wa) := hwa
  have HCA : Hid (CmtAt wa w.heap.size (.slice p len cap) c) := by rw [← hwa]; exact CmtAt.new w _ c hok
  have HF : Hid (∀ W, Calls Try.prog 8 #[.agg (cmtC (.slice p len cap) c).toArray] W fun e w' => e = .returned (.bool (fewC len c)) ∧ Below W.heap.size W w') := fun W => few_any p len cap c hok W
  have HOk : Hid c.ok := hok
  have HAw := awake_any wa
  have hl1i : ¬ (5000 : Int) < (len1 : Int) := by omega
  have hlen : len ≤ 10 := by simp only [fewC, Bool.and_eq_true, decide_eq_true_eq] at hf; exact hf.1
  have HIW : Hid (∀ W, Below wa.heap.size wa W → IsIds W.heap.size W p len cap ids ∧ IsBytes W.heap.size W p1 len1 cap1 b) := fun W h => ⟨(((hI.below HBA.out).mono HBA.out.size).below h).mono h.size, (((hb.below HBA.out).mono HBA.out.size).below h).mono h.size⟩
  have HO : Hid (∀ W, Below wa.heap.size wa W → Calls Try.prog 14 #[.slice p1 len1 cap1] W (OfAll W b)) := fun W h => (of_any p1 len1 cap1 b (by omega) W (HIW.out W h).2).mono fun _ _ h => h.all
  have HSb : Hid (∀ W, Below wa.heap.size wa W → (convert 32 9 (.slice p1 len1 cap1)).run Try.prog W = .ok (.string (strOf b)) W) := fun W h => (str_of_bytes (HIW.out W h).2).here
  have Hb256 : Hid (∀ z ∈ b, z < 256) := hb.2.2.2.1
  have HErr : Hid (oE b = 0) := hE
  have HX : Hid (oC (encC ids c) = c ∧ oP (encC ids c) = ids ∧ oE (encC ids c) = 0) := by
    obtain ⟨g1, g2, g3⟩ := c_back hI.2.2.2.1 hok hm
    exact ⟨by rw [oC, if_pos g3, g2], by rw [oP, if_pos g3, g1], by rw [oE, if_pos g3]⟩
  have HXl : Hid ((encC ids c).length ≤ 50000) := encC_length hI.2.2.2.1 hok hm
  have HXb : Hid (∀ z ∈ encC ids c, z < 256) := encC_bytes hI.2.2.2.1 hok
  have HP : Hid (∀ W, Below wa.heap.size wa W → Calls Try.prog 9 #[.agg (cmtC (.slice p len cap) c).toArray] W fun e w' => ∃ v, e = .returned (.tuple #[v, .int .i64 0]) ∧ Own W.heap.size w' v (encC ids c) ∧ Below W.heap.size W w') := fun W h =>
    put_some p len cap ids c HOk.out (by omega) hm W (HIW.out W h).1
  obtain ⟨X, hX⟩ : ∃ X, encC ids c = X := ⟨_, rfl⟩
  rw [hX] at HX HXl HXb HP
  clear hX
  clear hwa hI hb hok hm hE
  rw [hf] at HF
  go_enter Try.func5, Try.ntmps5
  go_wp2_with (first
    | (rw [HWA.out])
    | (go_at_call 7; refine HAw.mono ?_; rintro e w1 ⟨rfl, hb1⟩; have HB1 : Hid (Below wa.heap.size wa w1) := hb1; clear hb1)
    | ((with_reducible show wpList _ _ _ (Oper.mk (some 15) (Op.load 29 (.tmp 2)) _ _ _ _ :: _) _ _); refine wpList_loadCmt rfl (.tmp 2) rfl rfl HOk.out (HCA.out.later HB1.out).row.range ?_; simp only [Act.put, List.setIfInBounds_toArray, List.set_cons_zero, List.set_cons_succ])
    | (go_at_call 8; refine (HF.out _).mono ?_; rintro e w2 ⟨rfl, hb2⟩; have HB2 : Hid (Below wa.heap.size wa w2) := HB1.out.trans (hb2.mono HB1.out.size); clear hb2; have HP2 := HP.out w2 HB2.out)
    | ((with_reducible show wpList _ _ _ (Oper.mk (some 24) (Op.load 29 (.tmp 2)) _ _ _ _ :: _) _ _); refine wpList_loadCmt rfl (.tmp 2) rfl rfl HOk.out (HCA.out.later HB2.out).row.range ?_; simp only [Act.put, List.setIfInBounds_toArray, List.set_cons_zero, List.set_cons_succ])
    | (go_at_call 9; refine HP2.mono ?_; clear HP2; rintro e w3 ⟨v3, rfl, ho3, hb3⟩; obtain ⟨l3, hl3⟩ : ∃ l, X.length = l := ⟨_, rfl⟩; obtain ⟨q3, c3, hv3⟩ := own_len ho3 hl3; subst hv3; have HB3 : Hid (Below wa.heap.size wa w3) := HB2.out.trans (hb3.mono HB2.out.size); have HO3 : Hid (Calls Try.prog 14 #[.slice q3 l3 c3] w3 (OfAll w3 X)) := (of_any q3 l3 c3 X (by rw [← hl3]; exact HXl.out) w3 (ho3.bytes HXb.out)).mono (fun _ _ h => h.all); clear hb3 ho3 hl3)
    | (go_at_call 14; refine HO3.out.mono ?_; clear HO3; rintro e w4 ⟨p4, l4, c4, rfl, hI4, hb4⟩; rw [HX.out.1, HX.out.2.2]; rw [HX.out.2.1] at hI4; have HI4 : Hid (IsIds w4.heap.size w4 p4 l4 c4 ids) := hI4; have HB4 : Hid (Below wa.heap.size wa w4) := HB3.out.trans (hb4.mono HB3.out.size); clear hI4 hb4)
    | ((with_reducible show wpList _ _ _ (Oper.mk _ (Op.store 29 (.tmp 7) (.tmp 31)) _ _ _ _ :: _) _ _); refine wpList_storeNew rfl (.tmp 7) (.tmp 31) rfl (.slice p4 l4 c4) rfl c HOk.out rfl rfl (fun w5 hb5 hE5 => ?_); have HE5 : Hid (CmtAt w5 w4.heap.size (.slice p4 l4 c4) c) := hE5; have HB5 : Hid (Below wa.heap.size wa w5) := HB4.out.trans (hb5.mono HB4.out.size); have HI5 : Hid (IsIds w5.heap.size w5 p4 l4 c4 ids) := (HI4.out.below hb5).mono hb5.size; clear hE5 hb5; simp only [Act.put])
    | ((with_reducible show wpList _ _ _ (Oper.mk (some 39) (Op.load 29 (.tmp 7)) _ _ _ _ :: _) _ _); refine wpList_load_want29 (by rfl) (.tmp 7) rfl rfl HOk.out HE5.out.row.range ?_; simp only [Act.put, List.setIfInBounds_toArray, List.set_cons_zero, List.set_cons_succ])
    | ((with_reducible show wpList _ _ _ (Oper.mk (some 40) (Op.load 29 (.tmp 2)) _ _ _ _ :: _) _ _); refine wpList_load_want29 (by rfl) (.tmp 2) rfl rfl HOk.out (HCA.out.later HB5.out).row.range ?_; simp only [Act.put, List.setIfInBounds_toArray, List.set_cons_zero, List.set_cons_succ])
    | (go_at_call 16; refine (sameCommit_any p4 l4 c4 ids c p len cap ids c HOk.out HOk.out w5 HI5.out (HIW.out w5 HB5.out).1).mono ?_; rintro e w6 ⟨rfl, hb6⟩; rw [sameC_refl]; have HB6 : Hid (Below wa.heap.size wa w6) := HB5.out.trans (hb6.mono HB5.out.size); have HO5 : Hid (Calls Try.prog 14 #[.slice p1 len1 cap1] w6 (OfAll w6 b)) := HO.out w6 HB6.out; clear hb6)
    | (go_at_call 14; have _ := HB6; refine HO5.out.mono ?_; clear HO5; rintro e w7 ⟨p7, l7, c7, rfl, hI7, hb7⟩; rw [HErr.out]; have HI7 : Hid (IsIds w7.heap.size w7 p7 l7 c7 (oP b)) := hI7; have HB7 : Hid (Below wa.heap.size wa w7) := HB6.out.trans (hb7.mono HB6.out.size); clear hI7 hb7)
    | ((with_reducible show wpList _ _ _ (Oper.mk _ (Op.store 29 (.tmp 9) (.tmp 48)) _ _ _ _ :: _) _ _); refine wpList_storeNew rfl (.tmp 9) (.tmp 48) rfl (.slice p7 l7 c7) rfl (oC b) (oC_ok Hb256.out) rfl rfl (fun w8 hb8 hE8 => ?_); have HE8 : Hid (CmtAt w8 w7.heap.size (.slice p7 l7 c7) (oC b)) := hE8; have HB8 : Hid (Below wa.heap.size wa w8) := HB7.out.trans (hb8.mono HB7.out.size); have HZ8 := half2_any b Hb256.out p7 l7 c7 w8 ((HI7.out.below hb8).mono hb8.size); clear hE8 hb8; simp only [Act.put])
    | ((with_reducible show wpList _ _ _ (Oper.mk (some 51) (Op.load 29 (.tmp 9)) _ _ _ _ :: _) _ _); refine wpList_loadCmt rfl (.tmp 9) rfl rfl (oC_ok Hb256.out) HE8.out.row.range ?_; simp only [Act.put, List.setIfInBounds_toArray, List.set_cons_zero, List.set_cons_succ])
    | (go_at_call 9; have _ := HB8; refine HZ8.mono ?_; clear HZ8; rintro e w9 ⟨v9, E9, rfl, hb9, h9, ⟨q9, k9, c9, hv9⟩⟩; subst hv9; have HB9 : Hid (Below wa.heap.size wa w9) := HB8.out.trans (hb9.mono HB8.out.size); obtain ⟨hE9, hS9⟩ := h9 HErr.out; subst hE9; have g9 := hS9.here; have gb := HSb.out w9 HB9.out; clear hS9 hb9))
  go_ret
  exact ⟨rfl, HBA.out.trans (HB9.out.mono HBA.out.size)⟩

set_option maxRecDepth 100000 in
set_option maxHeartbeats 4000000 in
theorem back_ok9 (p : Option Addr) (len cap : Nat) (ids : List (List Nat)) (c : Cmt) (p1 : Option Addr) (len1 cap1 : Nat) (b : List Nat) (w : World) (hok : c.ok) (hI : IsIds w.heap.size w p len cap ids) (hb : IsBytes w.heap.size w p1 len1 cap1 b) (hf : fewC len c = true) (hl1 : ¬ 5000 < len1) (hm : mayC ids c = true) (hE : oE b = 120) :
    Calls Try.prog 5 #[.agg (cmtC (.slice p len cap) c).toArray, .slice p1 len1 cap1] w fun e w' => e = .returned (.bool true) ∧ Below w.heap.size w w' := by
  obtain ⟨wa, hwa⟩ : ∃ wa, w.alloc (.cells (cmtC (.slice p len cap) c).toArray 29) = wa := ⟨_, rfl⟩
  have HBA : Hid (Below w.heap.size w wa) := by rw [← hwa]; exact (Below.refl _ w).alloc (Nat.le_refl _) _
  have HWA : Hid (w.alloc (.cells (cmtC (.slice p len cap) c).toArray 29) = wa) := hwa
  have HCA : Hid (CmtAt wa w.heap.size (.slice p len cap) c) := by rw [← hwa]; exact CmtAt.new w _ c hok
  have HF : Hid (∀ W, Calls Try.prog 8 #[.agg (cmtC (.slice p len cap) c).toArray] W fun e w' => e = .returned (.bool (fewC len c)) ∧ Below W.heap.size W w') := fun W => few_any p len cap c hok W
  have HOk : Hid c.ok := hok
  have HAw := awake_any wa
  have hl1i : ¬ (5000 : Int) < (len1 : Int) := by omega
  have hlen : len ≤ 10 := by simp only [fewC, Bool.and_eq_true, decide_eq_true_eq] at hf; exact hf.1
  have HIW : Hid (∀ W, Below wa.heap.size wa W → IsIds W.heap.size W p len cap ids ∧ IsBytes W.heap.size W p1 len1 cap1 b) := fun W h => ⟨(((hI.below HBA.out).mono HBA.out.size).below h).mono h.size, (((hb.below HBA.out).mono HBA.out.size).below h).mono h.size⟩
  have HO : Hid (∀ W, Below wa.heap.size wa W → Calls Try.prog 14 #[.slice p1 len1 cap1] W (OfAll W b)) := fun W h => (of_any p1 len1 cap1 b (by omega) W (HIW.out W h).2).mono fun _ _ h => h.all
  have HSb : Hid (∀ W, Below wa.heap.size wa W → (convert 32 9 (.slice p1 len1 cap1)).run Try.prog W = .ok (.string (strOf b)) W) := fun W h => (str_of_bytes (HIW.out W h).2).here
  have Hb256 : Hid (∀ z ∈ b, z < 256) := hb.2.2.2.1
  have HErr : Hid (oE b = 120) := hE
  have HX : Hid (oC (encC ids c) = c ∧ oP (encC ids c) = ids ∧ oE (encC ids c) = 0) := by
    obtain ⟨g1, g2, g3⟩ := c_back hI.2.2.2.1 hok hm
    exact ⟨by rw [oC, if_pos g3, g2], by rw [oP, if_pos g3, g1], by rw [oE, if_pos g3]⟩
  have HXl : Hid ((encC ids c).length ≤ 50000) := encC_length hI.2.2.2.1 hok hm
  have HXb : Hid (∀ z ∈ encC ids c, z < 256) := encC_bytes hI.2.2.2.1 hok
  have HP : Hid (∀ W, Below wa.heap.size wa W → Calls Try.prog 9 #[.agg (cmtC (.slice p len cap) c).toArray] W fun e w' => ∃ v, e = .returned (.tuple #[v, .int .i64 0]) ∧ Own W.heap.size w' v (encC ids c) ∧ Below W.heap.size W w') := fun W h =>
    put_some p len cap ids c HOk.out (by omega) hm W (HIW.out W h).1
  obtain ⟨X, hX⟩ : ∃ X, encC ids c = X := ⟨_, rfl⟩
  rw [hX] at HX HXl HXb HP
  clear hX
  clear hwa hI hb hok hm hE
  rw [hf] at HF
  go_enter Try.func5, Try.ntmps5
  go_wp2_with (first
    | (rw [HWA.out])
    | (go_at_call 7; refine HAw.mono ?_; rintro e w1 ⟨rfl, hb1⟩; have HB1 : Hid (Below wa.heap.size wa w1) := hb1; clear hb1)
    | ((with_reducible show wpList _ _ _ (Oper.mk (some 15) (Op.load 29 (.tmp 2)) _ _ _ _ :: _) _ _); refine wpList_loadCmt rfl (.tmp 2) rfl rfl HOk.out (HCA.out.later HB1.out).row.range ?_; simp only [Act.put, List.setIfInBounds_toArray, List.set_cons_zero, List.set_cons_succ])
    | (go_at_call 8; refine (HF.out _).mono ?_; rintro e w2 ⟨rfl, hb2⟩; have HB2 : Hid (Below wa.heap.size wa w2) := HB1.out.trans (hb2.mono HB1.out.size); clear hb2; have HP2 := HP.out w2 HB2.out)
    | ((with_reducible show wpList _ _ _ (Oper.mk (some 24) (Op.load 29 (.tmp 2)) _ _ _ _ :: _) _ _); refine wpList_loadCmt rfl (.tmp 2) rfl rfl HOk.out (HCA.out.later HB2.out).row.range ?_; simp only [Act.put, List.setIfInBounds_toArray, List.set_cons_zero, List.set_cons_succ])
    | (go_at_call 9; refine HP2.mono ?_; clear HP2; rintro e w3 ⟨v3, rfl, ho3, hb3⟩; obtain ⟨l3, hl3⟩ : ∃ l, X.length = l := ⟨_, rfl⟩; obtain ⟨q3, c3, hv3⟩ := own_len ho3 hl3; subst hv3; have HB3 : Hid (Below wa.heap.size wa w3) := HB2.out.trans (hb3.mono HB2.out.size); have HO3 : Hid (Calls Try.prog 14 #[.slice q3 l3 c3] w3 (OfAll w3 X)) := (of_any q3 l3 c3 X (by rw [← hl3]; exact HXl.out) w3 (ho3.bytes HXb.out)).mono (fun _ _ h => h.all); clear hb3 ho3 hl3)
    | (go_at_call 14; refine HO3.out.mono ?_; clear HO3; rintro e w4 ⟨p4, l4, c4, rfl, hI4, hb4⟩; rw [HX.out.1, HX.out.2.2]; rw [HX.out.2.1] at hI4; have HI4 : Hid (IsIds w4.heap.size w4 p4 l4 c4 ids) := hI4; have HB4 : Hid (Below wa.heap.size wa w4) := HB3.out.trans (hb4.mono HB3.out.size); clear hI4 hb4)
    | ((with_reducible show wpList _ _ _ (Oper.mk _ (Op.store 29 (.tmp 7) (.tmp 31)) _ _ _ _ :: _) _ _); refine wpList_storeNew rfl (.tmp 7) (.tmp 31) rfl (.slice p4 l4 c4) rfl c HOk.out rfl rfl (fun w5 hb5 hE5 => ?_); have HE5 : Hid (CmtAt w5 w4.heap.size (.slice p4 l4 c4) c) := hE5; have HB5 : Hid (Below wa.heap.size wa w5) := HB4.out.trans (hb5.mono HB4.out.size); have HI5 : Hid (IsIds w5.heap.size w5 p4 l4 c4 ids) := (HI4.out.below hb5).mono hb5.size; clear hE5 hb5; simp only [Act.put])
    | ((with_reducible show wpList _ _ _ (Oper.mk (some 39) (Op.load 29 (.tmp 7)) _ _ _ _ :: _) _ _); refine wpList_load_want29 (by rfl) (.tmp 7) rfl rfl HOk.out HE5.out.row.range ?_; simp only [Act.put, List.setIfInBounds_toArray, List.set_cons_zero, List.set_cons_succ])
    | ((with_reducible show wpList _ _ _ (Oper.mk (some 40) (Op.load 29 (.tmp 2)) _ _ _ _ :: _) _ _); refine wpList_load_want29 (by rfl) (.tmp 2) rfl rfl HOk.out (HCA.out.later HB5.out).row.range ?_; simp only [Act.put, List.setIfInBounds_toArray, List.set_cons_zero, List.set_cons_succ])
    | (go_at_call 16; refine (sameCommit_any p4 l4 c4 ids c p len cap ids c HOk.out HOk.out w5 HI5.out (HIW.out w5 HB5.out).1).mono ?_; rintro e w6 ⟨rfl, hb6⟩; rw [sameC_refl]; have HB6 : Hid (Below wa.heap.size wa w6) := HB5.out.trans (hb6.mono HB5.out.size); have HO5 : Hid (Calls Try.prog 14 #[.slice p1 len1 cap1] w6 (OfAll w6 b)) := HO.out w6 HB6.out; clear hb6)
    | (go_at_call 14; have _ := HB6; refine HO5.out.mono ?_; clear HO5; rintro e w7 ⟨p7, l7, c7, rfl, hI7, hb7⟩; rw [HErr.out]; have HI7 : Hid (IsIds w7.heap.size w7 p7 l7 c7 (oP b)) := hI7; have HB7 : Hid (Below wa.heap.size wa w7) := HB6.out.trans (hb7.mono HB6.out.size); clear hI7 hb7)
    | ((with_reducible show wpList _ _ _ (Oper.mk _ (Op.store 29 (.tmp 9) (.tmp 48)) _ _ _ _ :: _) _ _); refine wpList_storeNew rfl (.tmp 9) (.tmp 48) rfl (.slice p7 l7 c7) rfl (oC b) (oC_ok Hb256.out) rfl rfl (fun w8 hb8 hE8 => ?_); have HE8 : Hid (CmtAt w8 w7.heap.size (.slice p7 l7 c7) (oC b)) := hE8; have HB8 : Hid (Below wa.heap.size wa w8) := HB7.out.trans (hb8.mono HB7.out.size); have HZ8 := half2_any b Hb256.out p7 l7 c7 w8 ((HI7.out.below hb8).mono hb8.size); clear hE8 hb8; simp only [Act.put])
    | ((with_reducible show wpList _ _ _ (Oper.mk (some 51) (Op.load 29 (.tmp 9)) _ _ _ _ :: _) _ _); refine wpList_loadCmt rfl (.tmp 9) rfl rfl (oC_ok Hb256.out) HE8.out.row.range ?_; simp only [Act.put, List.setIfInBounds_toArray, List.set_cons_zero, List.set_cons_succ])
    | (go_at_call 9; have _ := HB8; refine HZ8.mono ?_; clear HZ8; rintro e w9 ⟨v9, E9, rfl, hb9, h9, ⟨q9, k9, c9, hv9⟩⟩; subst hv9; have HB9 : Hid (Below wa.heap.size wa w9) := HB8.out.trans (hb9.mono HB8.out.size); clear hb9 h9))
  go_ret
  exact ⟨rfl, HBA.out.trans (HB9.out.mono HBA.out.size)⟩

set_option maxRecDepth 100000 in
set_option maxHeartbeats 4000000 in
theorem back_no0 (p : Option Addr) (len cap : Nat) (ids : List (List Nat)) (c : Cmt) (p1 : Option Addr) (len1 cap1 : Nat) (b : List Nat) (w : World) (hok : c.ok) (hI : IsIds w.heap.size w p len cap ids) (hb : IsBytes w.heap.size w p1 len1 cap1 b) (hf : fewC len c = true) (hl1 : ¬ 5000 < len1) (hm : mayC ids c = false) (hE : oE b = 0) :
    Calls Try.prog 5 #[.agg (cmtC (.slice p len cap) c).toArray, .slice p1 len1 cap1] w fun e w' => e = .returned (.bool true) ∧ Below w.heap.size w w' := by
  obtain ⟨wa, hwa⟩ : ∃ wa, w.alloc (.cells (cmtC (.slice p len cap) c).toArray 29) = wa := ⟨_, rfl⟩
  have HBA : Hid (Below w.heap.size w wa) := by rw [← hwa]; exact (Below.refl _ w).alloc (Nat.le_refl _) _
  have HWA : Hid (w.alloc (.cells (cmtC (.slice p len cap) c).toArray 29) = wa) := hwa
  have HCA : Hid (CmtAt wa w.heap.size (.slice p len cap) c) := by rw [← hwa]; exact CmtAt.new w _ c hok
  have HF : Hid (∀ W, Calls Try.prog 8 #[.agg (cmtC (.slice p len cap) c).toArray] W fun e w' => e = .returned (.bool (fewC len c)) ∧ Below W.heap.size W w') := fun W => few_any p len cap c hok W
  have HOk : Hid c.ok := hok
  have HAw := awake_any wa
  have hl1i : ¬ (5000 : Int) < (len1 : Int) := by omega
  have hlen : len ≤ 10 := by simp only [fewC, Bool.and_eq_true, decide_eq_true_eq] at hf; exact hf.1
  have HIW : Hid (∀ W, Below wa.heap.size wa W → IsIds W.heap.size W p len cap ids ∧ IsBytes W.heap.size W p1 len1 cap1 b) := fun W h => ⟨(((hI.below HBA.out).mono HBA.out.size).below h).mono h.size, (((hb.below HBA.out).mono HBA.out.size).below h).mono h.size⟩
  have HO : Hid (∀ W, Below wa.heap.size wa W → Calls Try.prog 14 #[.slice p1 len1 cap1] W (OfAll W b)) := fun W h => (of_any p1 len1 cap1 b (by omega) W (HIW.out W h).2).mono fun _ _ h => h.all
  have HSb : Hid (∀ W, Below wa.heap.size wa W → (convert 32 9 (.slice p1 len1 cap1)).run Try.prog W = .ok (.string (strOf b)) W) := fun W h => (str_of_bytes (HIW.out W h).2).here
  have Hb256 : Hid (∀ z ∈ b, z < 256) := hb.2.2.2.1
  have HErr : Hid (oE b = 0) := hE
  have HP : Hid (∀ W, Below wa.heap.size wa W → Calls Try.prog 9 #[.agg (cmtC (.slice p len cap) c).toArray] W fun e w' => e = .returned (.tuple #[.slice none 0 0, .int .i64 120]) ∧ Below W.heap.size W w') := fun W h =>
    put_none p len cap ids c HOk.out (by omega) hm W (HIW.out W h).1
  have HO0 : Hid ((oC []).ok) := oC_ok (by simp)
  clear hwa hI hb hok hm hE
  rw [hf] at HF
  go_enter Try.func5, Try.ntmps5
  go_wp2_with (first
    | (rw [HWA.out])
    | (go_at_call 7; refine HAw.mono ?_; rintro e w1 ⟨rfl, hb1⟩; have HB1 : Hid (Below wa.heap.size wa w1) := hb1; clear hb1)
    | ((with_reducible show wpList _ _ _ (Oper.mk (some 15) (Op.load 29 (.tmp 2)) _ _ _ _ :: _) _ _); refine wpList_loadCmt rfl (.tmp 2) rfl rfl HOk.out (HCA.out.later HB1.out).row.range ?_; simp only [Act.put, List.setIfInBounds_toArray, List.set_cons_zero, List.set_cons_succ])
    | (go_at_call 8; refine (HF.out _).mono ?_; rintro e w2 ⟨rfl, hb2⟩; have HB2 : Hid (Below wa.heap.size wa w2) := HB1.out.trans (hb2.mono HB1.out.size); clear hb2; have HP2 := HP.out w2 HB2.out)
    | ((with_reducible show wpList _ _ _ (Oper.mk (some 24) (Op.load 29 (.tmp 2)) _ _ _ _ :: _) _ _); refine wpList_loadCmt rfl (.tmp 2) rfl rfl HOk.out (HCA.out.later HB2.out).row.range ?_; simp only [Act.put, List.setIfInBounds_toArray, List.set_cons_zero, List.set_cons_succ])
    | (go_at_call 9; refine HP2.mono ?_; clear HP2; rintro e w3 ⟨rfl, hb3⟩; have HB3 : Hid (Below wa.heap.size wa w3) := HB2.out.trans (hb3.mono HB2.out.size); have HO3 : Hid (Calls Try.prog 14 #[.slice none 0 0] w3 (OfAll w3 [])) := (of_any none 0 0 [] (by omega) w3 (noBytes w3)).mono (fun _ _ h => h.all); clear hb3)
    | (go_at_call 14; refine HO3.out.mono ?_; clear HO3; rintro e w4 ⟨p4, l4, c4, rfl, hI4, hb4⟩; have HB4 : Hid (Below wa.heap.size wa w4) := HB3.out.trans (hb4.mono HB3.out.size); clear hI4 hb4)
    | ((with_reducible show wpList _ _ _ (Oper.mk _ (Op.store 29 (.tmp 7) (.tmp 31)) _ _ _ _ :: _) _ _); refine wpList_storeNew rfl (.tmp 7) (.tmp 31) rfl (.slice p4 l4 c4) rfl (oC []) HO0.out rfl rfl (fun w5 hb5 hE5 => ?_); have HE5 : Hid (CmtAt w5 w4.heap.size (.slice p4 l4 c4) (oC [])) := hE5; have HB5 : Hid (Below wa.heap.size wa w5) := HB4.out.trans (hb5.mono HB4.out.size); have HO5 : Hid (Calls Try.prog 14 #[.slice p1 len1 cap1] w5 (OfAll w5 b)) := HO.out w5 HB5.out; clear hE5 hb5; simp only [Act.put])
    | (go_at_call 14; have _ := HB5; refine HO5.out.mono ?_; clear HO5; rintro e w7 ⟨p7, l7, c7, rfl, hI7, hb7⟩; rw [HErr.out]; have HI7 : Hid (IsIds w7.heap.size w7 p7 l7 c7 (oP b)) := hI7; have HB7 : Hid (Below wa.heap.size wa w7) := HB5.out.trans (hb7.mono HB5.out.size); clear hI7 hb7)
    | ((with_reducible show wpList _ _ _ (Oper.mk _ (Op.store 29 (.tmp 9) (.tmp 48)) _ _ _ _ :: _) _ _); refine wpList_storeNew rfl (.tmp 9) (.tmp 48) rfl (.slice p7 l7 c7) rfl (oC b) (oC_ok Hb256.out) rfl rfl (fun w8 hb8 hE8 => ?_); have HE8 : Hid (CmtAt w8 w7.heap.size (.slice p7 l7 c7) (oC b)) := hE8; have HB8 : Hid (Below wa.heap.size wa w8) := HB7.out.trans (hb8.mono HB7.out.size); have HZ8 := half2_any b Hb256.out p7 l7 c7 w8 ((HI7.out.below hb8).mono hb8.size); clear hE8 hb8; simp only [Act.put])
    | ((with_reducible show wpList _ _ _ (Oper.mk (some 51) (Op.load 29 (.tmp 9)) _ _ _ _ :: _) _ _); refine wpList_loadCmt rfl (.tmp 9) rfl rfl (oC_ok Hb256.out) HE8.out.row.range ?_; simp only [Act.put, List.setIfInBounds_toArray, List.set_cons_zero, List.set_cons_succ])
    | (go_at_call 9; have _ := HB8; refine HZ8.mono ?_; clear HZ8; rintro e w9 ⟨v9, E9, rfl, hb9, h9, ⟨q9, k9, c9, hv9⟩⟩; subst hv9; have HB9 : Hid (Below wa.heap.size wa w9) := HB8.out.trans (hb9.mono HB8.out.size); obtain ⟨hE9, hS9⟩ := h9 HErr.out; subst hE9; have g9 := hS9.here; have gb := HSb.out w9 HB9.out; clear hS9 hb9))
  go_ret
  exact ⟨rfl, HBA.out.trans (HB9.out.mono HBA.out.size)⟩

set_option maxRecDepth 100000 in
set_option maxHeartbeats 4000000 in
theorem back_no9 (p : Option Addr) (len cap : Nat) (ids : List (List Nat)) (c : Cmt) (p1 : Option Addr) (len1 cap1 : Nat) (b : List Nat) (w : World) (hok : c.ok) (hI : IsIds w.heap.size w p len cap ids) (hb : IsBytes w.heap.size w p1 len1 cap1 b) (hf : fewC len c = true) (hl1 : ¬ 5000 < len1) (hm : mayC ids c = false) (hE : oE b = 120) :
    Calls Try.prog 5 #[.agg (cmtC (.slice p len cap) c).toArray, .slice p1 len1 cap1] w fun e w' => e = .returned (.bool true) ∧ Below w.heap.size w w' := by
  obtain ⟨wa, hwa⟩ : ∃ wa, w.alloc (.cells (cmtC (.slice p len cap) c).toArray 29) = wa := ⟨_, rfl⟩
  have HBA : Hid (Below w.heap.size w wa) := by rw [← hwa]; exact (Below.refl _ w).alloc (Nat.le_refl _) _
  have HWA : Hid (w.alloc (.cells (cmtC (.slice p len cap) c).toArray 29) = wa) := hwa
  have HCA : Hid (CmtAt wa w.heap.size (.slice p len cap) c) := by rw [← hwa]; exact CmtAt.new w _ c hok
  have HF : Hid (∀ W, Calls Try.prog 8 #[.agg (cmtC (.slice p len cap) c).toArray] W fun e w' => e = .returned (.bool (fewC len c)) ∧ Below W.heap.size W w') := fun W => few_any p len cap c hok W
  have HOk : Hid c.ok := hok
  have HAw := awake_any wa
  have hl1i : ¬ (5000 : Int) < (len1 : Int) := by omega
  have hlen : len ≤ 10 := by simp only [fewC, Bool.and_eq_true, decide_eq_true_eq] at hf; exact hf.1
  have HIW : Hid (∀ W, Below wa.heap.size wa W → IsIds W.heap.size W p len cap ids ∧ IsBytes W.heap.size W p1 len1 cap1 b) := fun W h => ⟨(((hI.below HBA.out).mono HBA.out.size).below h).mono h.size, (((hb.below HBA.out).mono HBA.out.size).below h).mono h.size⟩
  have HO : Hid (∀ W, Below wa.heap.size wa W → Calls Try.prog 14 #[.slice p1 len1 cap1] W (OfAll W b)) := fun W h => (of_any p1 len1 cap1 b (by omega) W (HIW.out W h).2).mono fun _ _ h => h.all
  have HSb : Hid (∀ W, Below wa.heap.size wa W → (convert 32 9 (.slice p1 len1 cap1)).run Try.prog W = .ok (.string (strOf b)) W) := fun W h => (str_of_bytes (HIW.out W h).2).here
  have Hb256 : Hid (∀ z ∈ b, z < 256) := hb.2.2.2.1
  have HErr : Hid (oE b = 120) := hE
  have HP : Hid (∀ W, Below wa.heap.size wa W → Calls Try.prog 9 #[.agg (cmtC (.slice p len cap) c).toArray] W fun e w' => e = .returned (.tuple #[.slice none 0 0, .int .i64 120]) ∧ Below W.heap.size W w') := fun W h =>
    put_none p len cap ids c HOk.out (by omega) hm W (HIW.out W h).1
  have HO0 : Hid ((oC []).ok) := oC_ok (by simp)
  clear hwa hI hb hok hm hE
  rw [hf] at HF
  go_enter Try.func5, Try.ntmps5
  go_wp2_with (first
    | (rw [HWA.out])
    | (go_at_call 7; refine HAw.mono ?_; rintro e w1 ⟨rfl, hb1⟩; have HB1 : Hid (Below wa.heap.size wa w1) := hb1; clear hb1)
    | ((with_reducible show wpList _ _ _ (Oper.mk (some 15) (Op.load 29 (.tmp 2)) _ _ _ _ :: _) _ _); refine wpList_loadCmt rfl (.tmp 2) rfl rfl HOk.out (HCA.out.later HB1.out).row.range ?_; simp only [Act.put, List.setIfInBounds_toArray, List.set_cons_zero, List.set_cons_succ])
    | (go_at_call 8; refine (HF.out _).mono ?_; rintro e w2 ⟨rfl, hb2⟩; have HB2 : Hid (Below wa.heap.size wa w2) := HB1.out.trans (hb2.mono HB1.out.size); clear hb2; have HP2 := HP.out w2 HB2.out)
    | ((with_reducible show wpList _ _ _ (Oper.mk (some 24) (Op.load 29 (.tmp 2)) _ _ _ _ :: _) _ _); refine wpList_loadCmt rfl (.tmp 2) rfl rfl HOk.out (HCA.out.later HB2.out).row.range ?_; simp only [Act.put, List.setIfInBounds_toArray, List.set_cons_zero, List.set_cons_succ])
    | (go_at_call 9; refine HP2.mono ?_; clear HP2; rintro e w3 ⟨rfl, hb3⟩; have HB3 : Hid (Below wa.heap.size wa w3) := HB2.out.trans (hb3.mono HB2.out.size); have HO3 : Hid (Calls Try.prog 14 #[.slice none 0 0] w3 (OfAll w3 [])) := (of_any none 0 0 [] (by omega) w3 (noBytes w3)).mono (fun _ _ h => h.all); clear hb3)
    | (go_at_call 14; refine HO3.out.mono ?_; clear HO3; rintro e w4 ⟨p4, l4, c4, rfl, hI4, hb4⟩; have HB4 : Hid (Below wa.heap.size wa w4) := HB3.out.trans (hb4.mono HB3.out.size); clear hI4 hb4)
    | ((with_reducible show wpList _ _ _ (Oper.mk _ (Op.store 29 (.tmp 7) (.tmp 31)) _ _ _ _ :: _) _ _); refine wpList_storeNew rfl (.tmp 7) (.tmp 31) rfl (.slice p4 l4 c4) rfl (oC []) HO0.out rfl rfl (fun w5 hb5 hE5 => ?_); have HE5 : Hid (CmtAt w5 w4.heap.size (.slice p4 l4 c4) (oC [])) := hE5; have HB5 : Hid (Below wa.heap.size wa w5) := HB4.out.trans (hb5.mono HB4.out.size); have HO5 : Hid (Calls Try.prog 14 #[.slice p1 len1 cap1] w5 (OfAll w5 b)) := HO.out w5 HB5.out; clear hE5 hb5; simp only [Act.put])
    | (go_at_call 14; have _ := HB5; refine HO5.out.mono ?_; clear HO5; rintro e w7 ⟨p7, l7, c7, rfl, hI7, hb7⟩; rw [HErr.out]; have HI7 : Hid (IsIds w7.heap.size w7 p7 l7 c7 (oP b)) := hI7; have HB7 : Hid (Below wa.heap.size wa w7) := HB5.out.trans (hb7.mono HB5.out.size); clear hI7 hb7)
    | ((with_reducible show wpList _ _ _ (Oper.mk _ (Op.store 29 (.tmp 9) (.tmp 48)) _ _ _ _ :: _) _ _); refine wpList_storeNew rfl (.tmp 9) (.tmp 48) rfl (.slice p7 l7 c7) rfl (oC b) (oC_ok Hb256.out) rfl rfl (fun w8 hb8 hE8 => ?_); have HE8 : Hid (CmtAt w8 w7.heap.size (.slice p7 l7 c7) (oC b)) := hE8; have HB8 : Hid (Below wa.heap.size wa w8) := HB7.out.trans (hb8.mono HB7.out.size); have HZ8 := half2_any b Hb256.out p7 l7 c7 w8 ((HI7.out.below hb8).mono hb8.size); clear hE8 hb8; simp only [Act.put])
    | ((with_reducible show wpList _ _ _ (Oper.mk (some 51) (Op.load 29 (.tmp 9)) _ _ _ _ :: _) _ _); refine wpList_loadCmt rfl (.tmp 9) rfl rfl (oC_ok Hb256.out) HE8.out.row.range ?_; simp only [Act.put, List.setIfInBounds_toArray, List.set_cons_zero, List.set_cons_succ])
    | (go_at_call 9; have _ := HB8; refine HZ8.mono ?_; clear HZ8; rintro e w9 ⟨v9, E9, rfl, hb9, h9, ⟨q9, k9, c9, hv9⟩⟩; subst hv9; have HB9 : Hid (Below wa.heap.size wa w9) := HB8.out.trans (hb9.mono HB8.out.size); clear hb9 h9))
  go_ret
  exact ⟨rfl, HBA.out.trans (HB9.out.mono HBA.out.size)⟩

theorem cmtBack_walk (p : Option Addr) (len cap : Nat) (ids : List (List Nat)) (c : Cmt) (p1 : Option Addr) (len1 cap1 : Nat) (b : List Nat) (w : World) (hok : c.ok) (hI : IsIds w.heap.size w p len cap ids) (hb : IsBytes w.heap.size w p1 len1 cap1 b) :
    Calls Try.prog 5 #[.agg (cmtC (.slice p len cap) c).toArray, .slice p1 len1 cap1] w fun e w' => e = .returned (.bool true) ∧ Below w.heap.size w w' := by
  cases hf : fewC len c with
  | false => exact back_few p len cap ids c p1 len1 cap1 b w hok hI hb hf
  | true =>
    by_cases hl1 : 5000 < len1
    · exact back_long p len cap ids c p1 len1 cap1 b w hok hI hb hf hl1
    · cases hm : mayC ids c with
      | true =>
        cases hC : isC b with
        | true => exact back_ok0 p len cap ids c p1 len1 cap1 b w hok hI hb hf hl1 hm (by rw [oE, if_pos hC])
        | false => exact back_ok9 p len cap ids c p1 len1 cap1 b w hok hI hb hf hl1 hm (by rw [oE, if_neg (by rw [hC]; decide)])
      | false =>
        cases hC : isC b with
        | true => exact back_no0 p len cap ids c p1 len1 cap1 b w hok hI hb hf hl1 hm (by rw [oE, if_pos hC])
        | false => exact back_no9 p len cap ids c p1 len1 cap1 b w hok hI hb hf hl1 hm (by rw [oE, if_neg (by rw [hC]; decide)])
end Go.Proofs.Ytkhhlcjjdkldjaa
