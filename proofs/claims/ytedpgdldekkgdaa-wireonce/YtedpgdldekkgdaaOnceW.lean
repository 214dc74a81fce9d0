/-
  WireOnce: the walk.
-/
import Derived.Test.YtedpgdldekkgdaaAllP
namespace Go.Proofs.Ytedpgdldekkgdaa
open Go.RowKit Go.Shelf

theorem oQ_name {b : List Nat} (hz : ∀ z ∈ b, z < 256) : (oQ b).name.size ≤ 64 := by
  unfold oQ
  split
  · exact rdQ_name (fun _ h' => (readN_once (ahead_some hz) h').2)
  · show (0 : Nat) ≤ 64
    omega

set_option maxRecDepth 100000 in
set_option maxHeartbeats 4000000 in
theorem wireOnce_walk (p : Option Addr) (len cap : Nat) (b : List Nat) (w : World) (hI : IsBytes w.heap.size w p len cap b) :
    Calls Try.prog 6 #[.slice p len cap] w fun e w' => e = .returned (.bool true) ∧ Below w.heap.size w w' := by
  have HAw := awake_any w
  by_cases hl : 2000 < len
  · have hli : (2000 : Int) < (len : Int) := by omega
    clear hI
    go_enter Try.func6, Try.ntmps6
    go_wp2_with (go_at_call 8; refine HAw.mono ?_; rintro e w1 ⟨rfl, hb1⟩)
    go_ret
    exact ⟨rfl, hb1⟩
  · have hli : ¬ (2000 : Int) < (len : Int) := by omega
    have hz := hI.2.2.2.1
    have HIW : Hid (∀ W, Below w.heap.size w W → IsBytes W.heap.size W p len cap b) := fun W h => (hI.below h).mono h.size
    have HOq : Hid (oQ b).ok := oQ_ok hz
    have HOp : Hid (oP b).ok := oP_ok hz
    have HNm : Hid ((oQ b).name.size ≤ 1000000) := by have := oQ_name hz; show _ ≤ _; omega
    have HO : Hid (∀ W, Below w.heap.size w W → Calls Try.prog 12 #[.slice p len cap] W (OfAllQ W b)) := fun W h => (ofQ_any p len cap b (by omega) W (HIW.out W h)).mono fun _ _ h => h.all
    have HP : Hid (∀ W, Below w.heap.size w W → Calls Try.prog 18 #[.slice p len cap] W (OfAllP W b)) := fun W h => (ofP_any p len cap b (by omega) W (HIW.out W h)).mono fun _ _ h => h.all
    unfold OfAllQ at HO
    unfold OfAllP at HP
    clear hI
    cases hq : isQ b with
    | true =>
      obtain ⟨hm, hbb, hp⟩ := q_read_put hz hq
      have e1 : oE b = 0 := by rw [oE, if_pos hq]
      have e2 : oPE b = 180 := by rw [oPE, if_neg (by rw [hp]; simp)]
      rw [e1] at HO
      rw [e2] at HP
      have HPu : Hid (∀ W q l c, IsBytes W.heap.size W q l c (oB b) → Calls Try.prog 10 #[.agg (reqC (.slice q l c) (oQ b)).toArray] W fun e w' => ∃ v, e = .returned (.tuple #[v, .int .i64 0]) ∧ Own W.heap.size w' v b ∧ Below W.heap.size W w') := fun W q l c h => by
        have := putQ_some q l c (oB b) (oQ b) HOq.out hm W h
        rwa [hbb] at this
      clear hq hm hbb hp e1 e2 hz
      go_enter Try.func6, Try.ntmps6
      go_wp2_with (first
        | (go_at_call 8; refine HAw.mono ?_; rintro e w1 ⟨rfl, hb1⟩; have HB1 : Hid (Below w.heap.size w w1) := hb1; clear hb1)
        | (go_at_call 12; refine (HO.out w1 HB1.out).mono ?_; rintro e w2 ⟨p2, l2, c2, rfl, hI2, hb2⟩; have HI2 : Hid (IsBytes w2.heap.size w2 p2 l2 c2 (oB b)) := hI2; have HB2 : Hid (Below w.heap.size w w2) := HB1.out.trans (hb2.mono HB1.out.size); clear hI2 hb2)
        | ((with_reducible show wpList _ _ _ (Oper.mk _ (Op.store 28 (.tmp 3) (.tmp 19)) _ _ _ _ :: _) _ _); refine wpList_storeReq rfl (.tmp 3) (.tmp 19) rfl (.slice p2 l2 c2) rfl (oQ b) HOq.out rfl rfl (fun w3 hb3 hE3 => ?_); have HE3 : Hid (ReqAt w3 w2.heap.size (.slice p2 l2 c2) (oQ b)) := hE3; have HI3 : Hid (IsBytes w3.heap.size w3 p2 l2 c2 (oB b)) := (HI2.out.below hb3).mono hb3.size; have HB3 : Hid (Below w.heap.size w w3) := HB2.out.trans (hb3.mono HB2.out.size); clear hE3 hb3; simp only [Act.put])
        | (go_at_call 18; refine (HP.out w3 HB3.out).mono ?_; rintro e w4 ⟨p4, l4, c4, y4, m4, d4, rfl, hI4, hS4, hb4⟩; have HI4 : Hid (IsBytes w4.heap.size w4 p4 l4 c4 (oPB b)) := hI4; have HS4 : Hid (IsStrs w4.heap.size w4 y4 m4 d4 (oPN b)) := hS4; have HE4 : Hid (ReqAt w4 w2.heap.size (.slice p2 l2 c2) (oQ b)) := HE3.out.later hb4; have HI34 : Hid (IsBytes w4.heap.size w4 p2 l2 c2 (oB b)) := (HI3.out.below hb4).mono hb4.size; have HB4 : Hid (Below w.heap.size w w4) := HB3.out.trans (hb4.mono HB3.out.size); clear hI4 hS4 hb4)
        | ((with_reducible show wpList _ _ _ (Oper.mk _ (Op.store 44 (.tmp 5) (.tmp 24)) _ _ _ _ :: _) _ _); refine wpList_storeRep rfl (.tmp 5) (.tmp 24) rfl (.slice p4 l4 c4) (.slice y4 m4 d4) rfl rfl (oP b) HOp.out rfl rfl (fun w5 hb5 hE5 => ?_); have HE5 : Hid (RepAt w5 w4.heap.size (.slice p4 l4 c4) (.slice y4 m4 d4) (oP b)) := hE5; have HF5 : Hid (ReqAt w5 w2.heap.size (.slice p2 l2 c2) (oQ b)) := HE4.out.later hb5; have HI5 : Hid (IsBytes w5.heap.size w5 p4 l4 c4 (oPB b)) := (HI4.out.below hb5).mono hb5.size; have HS5 : Hid (IsStrs w5.heap.size w5 y4 m4 d4 (oPN b)) := HS4.out.later hb5; have HJ5 : Hid (IsBytes w5.heap.size w5 p2 l2 c2 (oB b)) := (HI34.out.below hb5).mono hb5.size; have HB5 : Hid (Below w.heap.size w w5) := HB4.out.trans (hb5.mono HB4.out.size); clear hE5 hb5; simp only [Act.put])
        | ((with_reducible show wpList _ _ _ (Oper.mk (some 29) (Op.load 28 (.tmp 3)) _ _ _ _ :: _) _ _); refine wpList_loadReq rfl (.tmp 3) rfl rfl HOq.out HF5.out.row.range ?_; simp only [Act.put, List.setIfInBounds_toArray, List.set_cons_zero, List.set_cons_succ])
        | (go_at_call 10; refine (HPu.out w5 p2 l2 c2 HJ5.out).mono ?_; rintro e w6 ⟨v6, rfl, hO6, hb6⟩; obtain ⟨q6, k6, c6, hu6⟩ := own_any_slice hO6; subst hu6; have hB6 : Below w.heap.size w w6 := HB5.out.trans (hb6.mono HB5.out.size); have hs1 := (own_str hO6).here; have hs2 := (str_of_bytes (HIW.out w6 hB6)).here; have HB6 : Hid (Below w.heap.size w w6) := hB6; clear hO6 hb6 hB6))
      go_ret
      exact ⟨rfl, HB6.out⟩
    | false =>
      have e1 : oE b = 180 := by rw [oE, if_neg (by rw [hq]; simp)]
      rw [e1] at HO
      cases hp : isP b with
      | true =>
        obtain ⟨hm, hbb⟩ := p_read_put hz hp
        have e2 : oPE b = 0 := by rw [oPE, if_pos hp]
        rw [e2] at HP
        have HPu : Hid (∀ W q l c y m d, IsBytes W.heap.size W q l c (oPB b) → IsStrs W.heap.size W y m d (oPN b) → Calls Try.prog 16 #[.agg (repC (.slice q l c) (.slice y m d) (oP b)).toArray] W fun e w' => ∃ v, e = .returned (.tuple #[v, .int .i64 0]) ∧ Own W.heap.size w' v b ∧ Below W.heap.size W w') := fun W q l c y m d h h' => by
          have := putP_some q l c (oPB b) y m d (oPN b) (oP b) HOp.out hm W h h'
          rwa [hbb] at this
        clear hq hm hbb hp e1 e2 hz
        go_enter Try.func6, Try.ntmps6
        go_wp2_with (first
          | (go_at_call 8; refine HAw.mono ?_; rintro e w1 ⟨rfl, hb1⟩; have HB1 : Hid (Below w.heap.size w w1) := hb1; clear hb1)
          | (go_at_call 12; refine (HO.out w1 HB1.out).mono ?_; rintro e w2 ⟨p2, l2, c2, rfl, hI2, hb2⟩; have HI2 : Hid (IsBytes w2.heap.size w2 p2 l2 c2 (oB b)) := hI2; have HB2 : Hid (Below w.heap.size w w2) := HB1.out.trans (hb2.mono HB1.out.size); clear hI2 hb2)
          | ((with_reducible show wpList _ _ _ (Oper.mk _ (Op.store 28 (.tmp 3) (.tmp 19)) _ _ _ _ :: _) _ _); refine wpList_storeReq rfl (.tmp 3) (.tmp 19) rfl (.slice p2 l2 c2) rfl (oQ b) HOq.out rfl rfl (fun w3 hb3 hE3 => ?_); have HE3 : Hid (ReqAt w3 w2.heap.size (.slice p2 l2 c2) (oQ b)) := hE3; have HI3 : Hid (IsBytes w3.heap.size w3 p2 l2 c2 (oB b)) := (HI2.out.below hb3).mono hb3.size; have HB3 : Hid (Below w.heap.size w w3) := HB2.out.trans (hb3.mono HB2.out.size); clear hE3 hb3; simp only [Act.put])
          | (go_at_call 18; refine (HP.out w3 HB3.out).mono ?_; rintro e w4 ⟨p4, l4, c4, y4, m4, d4, rfl, hI4, hS4, hb4⟩; have HI4 : Hid (IsBytes w4.heap.size w4 p4 l4 c4 (oPB b)) := hI4; have HS4 : Hid (IsStrs w4.heap.size w4 y4 m4 d4 (oPN b)) := hS4; have HE4 : Hid (ReqAt w4 w2.heap.size (.slice p2 l2 c2) (oQ b)) := HE3.out.later hb4; have HI34 : Hid (IsBytes w4.heap.size w4 p2 l2 c2 (oB b)) := (HI3.out.below hb4).mono hb4.size; have HB4 : Hid (Below w.heap.size w w4) := HB3.out.trans (hb4.mono HB3.out.size); clear hI4 hS4 hb4)
          | ((with_reducible show wpList _ _ _ (Oper.mk _ (Op.store 44 (.tmp 5) (.tmp 24)) _ _ _ _ :: _) _ _); refine wpList_storeRep rfl (.tmp 5) (.tmp 24) rfl (.slice p4 l4 c4) (.slice y4 m4 d4) rfl rfl (oP b) HOp.out rfl rfl (fun w5 hb5 hE5 => ?_); have HE5 : Hid (RepAt w5 w4.heap.size (.slice p4 l4 c4) (.slice y4 m4 d4) (oP b)) := hE5; have HF5 : Hid (ReqAt w5 w2.heap.size (.slice p2 l2 c2) (oQ b)) := HE4.out.later hb5; have HI5 : Hid (IsBytes w5.heap.size w5 p4 l4 c4 (oPB b)) := (HI4.out.below hb5).mono hb5.size; have HS5 : Hid (IsStrs w5.heap.size w5 y4 m4 d4 (oPN b)) := HS4.out.later hb5; have HJ5 : Hid (IsBytes w5.heap.size w5 p2 l2 c2 (oB b)) := (HI34.out.below hb5).mono hb5.size; have HB5 : Hid (Below w.heap.size w w5) := HB4.out.trans (hb5.mono HB4.out.size); clear hE5 hb5; simp only [Act.put])
          | ((with_reducible show wpList _ _ _ (Oper.mk (some 47) (Op.load 44 (.tmp 5)) _ _ _ _ :: _) _ _); refine wpList_loadRep rfl (.tmp 5) rfl rfl HOp.out HE5.out.row.range ?_; simp only [Act.put, List.setIfInBounds_toArray, List.set_cons_zero, List.set_cons_succ])
          | (go_at_call 16; refine (HPu.out w5 p4 l4 c4 y4 m4 d4 HI5.out HS5.out).mono ?_; rintro e w6 ⟨v6, rfl, hO6, hb6⟩; obtain ⟨q6, k6, c6, hu6⟩ := own_any_slice hO6; subst hu6; have hB6 : Below w.heap.size w w6 := HB5.out.trans (hb6.mono HB5.out.size); have hs1 := (own_str hO6).here; have hs2 := (str_of_bytes (HIW.out w6 hB6)).here; have HB6 : Hid (Below w.heap.size w w6) := hB6; clear hO6 hb6 hB6))
        go_ret
        exact ⟨rfl, HB6.out⟩
      | false =>
        have e2 : oPE b = 180 := by rw [oPE, if_neg (by rw [hp]; simp)]
        rw [e2] at HP
        obtain ⟨eP, heP⟩ : ∃ eP : Int, (if mayP (oP b) (oPB b) (oPN b) = true then (0 : Int) else 180) = eP := ⟨_, rfl⟩
        obtain ⟨zP, hzP⟩ : ∃ zP : List Nat, (if mayP (oP b) (oPB b) (oPN b) = true then 2 :: encP (oP b) (oPB b) (oPN b) else []) = zP := ⟨_, rfl⟩
        have HPu : Hid (∀ W q l c y m d, IsBytes W.heap.size W q l c (oPB b) → IsStrs W.heap.size W y m d (oPN b) → Calls Try.prog 16 #[.agg (repC (.slice q l c) (.slice y m d) (oP b)).toArray] W fun e w' => ∃ v, e = .returned (.tuple #[v, .int .i64 eP]) ∧ Own W.heap.size w' v zP ∧ Below W.heap.size W w') := fun W q l c y m d h h' => by
          have := putP_any q l c (oPB b) y m d (oPN b) (oP b) HOp.out W h h'
          unfold RefPP at this
          rwa [heP, hzP] at this
        clear hq hp e1 e2 hz heP hzP
        go_enter Try.func6, Try.ntmps6
        go_wp2_with (first
          | (go_at_call 8; refine HAw.mono ?_; rintro e w1 ⟨rfl, hb1⟩; have HB1 : Hid (Below w.heap.size w w1) := hb1; clear hb1)
          | (go_at_call 12; refine (HO.out w1 HB1.out).mono ?_; rintro e w2 ⟨p2, l2, c2, rfl, hI2, hb2⟩; have HI2 : Hid (IsBytes w2.heap.size w2 p2 l2 c2 (oB b)) := hI2; have HB2 : Hid (Below w.heap.size w w2) := HB1.out.trans (hb2.mono HB1.out.size); clear hI2 hb2)
          | ((with_reducible show wpList _ _ _ (Oper.mk _ (Op.store 28 (.tmp 3) (.tmp 19)) _ _ _ _ :: _) _ _); refine wpList_storeReq rfl (.tmp 3) (.tmp 19) rfl (.slice p2 l2 c2) rfl (oQ b) HOq.out rfl rfl (fun w3 hb3 hE3 => ?_); have HE3 : Hid (ReqAt w3 w2.heap.size (.slice p2 l2 c2) (oQ b)) := hE3; have HI3 : Hid (IsBytes w3.heap.size w3 p2 l2 c2 (oB b)) := (HI2.out.below hb3).mono hb3.size; have HB3 : Hid (Below w.heap.size w w3) := HB2.out.trans (hb3.mono HB2.out.size); clear hE3 hb3; simp only [Act.put])
          | (go_at_call 18; refine (HP.out w3 HB3.out).mono ?_; rintro e w4 ⟨p4, l4, c4, y4, m4, d4, rfl, hI4, hS4, hb4⟩; have HI4 : Hid (IsBytes w4.heap.size w4 p4 l4 c4 (oPB b)) := hI4; have HS4 : Hid (IsStrs w4.heap.size w4 y4 m4 d4 (oPN b)) := hS4; have HE4 : Hid (ReqAt w4 w2.heap.size (.slice p2 l2 c2) (oQ b)) := HE3.out.later hb4; have HI34 : Hid (IsBytes w4.heap.size w4 p2 l2 c2 (oB b)) := (HI3.out.below hb4).mono hb4.size; have HB4 : Hid (Below w.heap.size w w4) := HB3.out.trans (hb4.mono HB3.out.size); clear hI4 hS4 hb4)
          | ((with_reducible show wpList _ _ _ (Oper.mk _ (Op.store 44 (.tmp 5) (.tmp 24)) _ _ _ _ :: _) _ _); refine wpList_storeRep rfl (.tmp 5) (.tmp 24) rfl (.slice p4 l4 c4) (.slice y4 m4 d4) rfl rfl (oP b) HOp.out rfl rfl (fun w5 hb5 hE5 => ?_); have HE5 : Hid (RepAt w5 w4.heap.size (.slice p4 l4 c4) (.slice y4 m4 d4) (oP b)) := hE5; have HF5 : Hid (ReqAt w5 w2.heap.size (.slice p2 l2 c2) (oQ b)) := HE4.out.later hb5; have HI5 : Hid (IsBytes w5.heap.size w5 p4 l4 c4 (oPB b)) := (HI4.out.below hb5).mono hb5.size; have HS5 : Hid (IsStrs w5.heap.size w5 y4 m4 d4 (oPN b)) := HS4.out.later hb5; have HJ5 : Hid (IsBytes w5.heap.size w5 p2 l2 c2 (oB b)) := (HI34.out.below hb5).mono hb5.size; have HB5 : Hid (Below w.heap.size w w5) := HB4.out.trans (hb5.mono HB4.out.size); clear hE5 hb5; simp only [Act.put])
          | ((with_reducible show wpList _ _ _ (Oper.mk (some 47) (Op.load 44 (.tmp 5)) _ _ _ _ :: _) _ _); refine wpList_loadRep rfl (.tmp 5) rfl rfl HOp.out HE5.out.row.range ?_; simp only [Act.put, List.setIfInBounds_toArray, List.set_cons_zero, List.set_cons_succ])
          | (go_at_call 16; refine (HPu.out w5 p4 l4 c4 y4 m4 d4 HI5.out HS5.out).mono ?_; rintro e w6 ⟨v6, rfl, hO6, hb6⟩; obtain ⟨q6, k6, c6, hu6⟩ := own_any_slice hO6; subst hu6; have hB6 : Below w.heap.size w w6 := HB5.out.trans (hb6.mono HB5.out.size); have hs1 := (own_str hO6).here; have hs2 := (str_of_bytes (HIW.out w6 hB6)).here; have HB6 : Hid (Below w.heap.size w w6) := hB6; clear hO6 hb6 hB6))
        go_ret
        exact ⟨rfl, HB6.out⟩
end Go.Proofs.Ytedpgdldekkgdaa
