/-
  WireReplies: the walk.
-/
import Derived.Test.YtedpgdldekkgdaaAllP
namespace Go.Proofs.Ytedpgdldekkgdaa
open Go.RowKit Go.Shelf

set_option maxRecDepth 100000 in
set_option maxHeartbeats 4000000 in
theorem wireReplies_walk (p : Option Addr) (len cap : Nat) (b : List Nat) (q : Option Addr) (l c : Nat) (xs : List ByteArray) (r : Rep) (p2 : Option Addr) (len2 cap2 : Nat) (b2 : List Nat) (w : World) (hok : r.ok) (hI : IsBytes w.heap.size w p len cap b) (hM : IsStrs w.heap.size w q l c xs) (hJ : IsBytes w.heap.size w p2 len2 cap2 b2) :
    Calls Try.prog 4 #[.agg (repC (.slice p len cap) (.slice q l c) r).toArray, .slice p2 len2 cap2] w fun e w' => e = .returned (.bool true) ∧ Below w.heap.size w w' := by
  obtain ⟨w0, hw0⟩ : ∃ w0, w.alloc (.cells (repC (.slice p len cap) (.slice q l c) r).toArray 44) = w0 := ⟨_, rfl⟩
  have hb0 : Below w.heap.size w w0 := by rw [← hw0]; exact (Below.refl _ w).alloc (Nat.le_refl _) _
  have HA0 : Hid (RepAt w0 w.heap.size (.slice p len cap) (.slice q l c) r) := by rw [← hw0]; exact RepAt.new w _ _ r hok
  have HW0 : Hid (w.alloc (.cells (repC (.slice p len cap) (.slice q l c) r).toArray 44) = w0) := hw0
  have HAw := awake_any w0
  have HAs : Hid (∀ W, Below w.heap.size w W → Calls Try.prog 15 #[.agg (repC (.slice p len cap) (.slice q l c) r).toArray] W fun e w' => e = .returned (.bool (fewP xs len)) ∧ Below W.heap.size W w') := fun W h => answers_any p len cap q l c xs r hok W ((hM.below h).mono h.size)
  have HOk : Hid r.ok := hok
  clear hw0
  cases hf : fewP xs len with
  | false =>
    rw [hf] at HAs
    clear hI hJ hM hok
    go_enter Try.func4, Try.ntmps4
    go_wp2_with (first
      | (rw [HW0.out])
      | (go_at_call 8; refine HAw.mono ?_; rintro e w1 ⟨rfl, hb1⟩; have HA1 : Hid (RepAt w1 w.heap.size (.slice p len cap) (.slice q l c) r) := HA0.out.later hb1)
      | ((with_reducible show wpList _ _ _ (Oper.mk (some 15) (Op.load 44 (.tmp 2)) _ _ _ _ :: _) _ _); refine wpList_loadRep rfl (.tmp 2) rfl rfl HOk.out HA1.out.row.range ?_; simp only [Act.put, List.setIfInBounds_toArray, List.set_cons_zero, List.set_cons_succ])
      | (go_at_call 15; refine (HAs.out w1 (hb0.trans (hb1.mono hb0.size))).mono ?_; rintro e w2 ⟨rfl, hb2⟩))
    go_ret
    exact ⟨rfl, hb0.trans ((hb1.trans (hb2.mono hb1.size)).mono hb0.size)⟩
  | true =>
    rw [hf] at HAs
    by_cases hl : 2000 < len2
    · have hli : (2000 : Int) < (len2 : Int) := by omega
      clear hI hJ hM hok
      go_enter Try.func4, Try.ntmps4
      go_wp2_with (first
        | (rw [HW0.out])
        | (go_at_call 8; refine HAw.mono ?_; rintro e w1 ⟨rfl, hb1⟩; have HA1 : Hid (RepAt w1 w.heap.size (.slice p len cap) (.slice q l c) r) := HA0.out.later hb1)
        | ((with_reducible show wpList _ _ _ (Oper.mk (some 15) (Op.load 44 (.tmp 2)) _ _ _ _ :: _) _ _); refine wpList_loadRep rfl (.tmp 2) rfl rfl HOk.out HA1.out.row.range ?_; simp only [Act.put, List.setIfInBounds_toArray, List.set_cons_zero, List.set_cons_succ])
        | (go_at_call 15; refine (HAs.out w1 (hb0.trans (hb1.mono hb0.size))).mono ?_; rintro e w2 ⟨rfl, hb2⟩))
      go_ret
      exact ⟨rfl, hb0.trans ((hb1.trans (hb2.mono hb1.size)).mono hb0.size)⟩
    · have hli : ¬ (2000 : Int) < (len2 : Int) := by omega
      have HIW : Hid (∀ W, Below w.heap.size w W → IsBytes W.heap.size W p len cap b) := fun W h => (hI.below h).mono h.size
      have HMW : Hid (∀ W, Below w.heap.size w W → IsStrs W.heap.size W q l c xs) := fun W h => (hM.below h).mono h.size
      have HJW : Hid (∀ W, Below w.heap.size w W → IsBytes W.heap.size W p2 len2 cap2 b2) := fun W h => (hJ.below h).mono h.size
      have HOq : Hid (oP b2).ok := oP_ok hJ.2.2.2.1
      obtain ⟨eP, heP⟩ : ∃ eP : Int, (if mayP r b xs = true then (0 : Int) else 180) = eP := ⟨_, rfl⟩
      obtain ⟨zP, hzP⟩ : ∃ zP : List Nat, (if mayP r b xs = true then 2 :: encP r b xs else []) = zP := ⟨_, rfl⟩
      obtain ⟨eO, heO⟩ : ∃ eO : Int, oPE b2 = eO := ⟨_, rfl⟩
      have HP : Hid (∀ W, Below w.heap.size w W → Calls Try.prog 16 #[.agg (repC (.slice p len cap) (.slice q l c) r).toArray] W fun e w' => ∃ v, e = .returned (.tuple #[v, .int .i64 eP]) ∧ Own W.heap.size w' v zP ∧ Below W.heap.size W w') := fun W h => by
        have := putP_any p len cap b q l c xs r hok W (HIW.out W h) (HMW.out W h)
        unfold RefPP at this
        rwa [heP, hzP] at this
      have HR : Hid (∀ W, Below w.heap.size w W → Calls Try.prog 17 #[.agg (repC (.slice p len cap) (.slice q l c) r).toArray] W fun e w' => ∃ v, e = .returned (.tuple #[v, .int .i64 eP]) ∧ Own W.heap.size w' v zP ∧ Below W.heap.size W w') := fun W h => by
        have := refPutP_any p len cap b q l c xs r hok W (HIW.out W h) (HMW.out W h)
        unfold RefPP at this
        rwa [heP, hzP] at this
      have HO : Hid (∀ W, Below w.heap.size w W → Calls Try.prog 18 #[.slice p2 len2 cap2] W fun e w' => ∃ p len cap q l c, e = .returned (.tuple #[.agg (repC (.slice p len cap) (.slice q l c) (oP b2)).toArray, .int .i64 eO]) ∧ IsBytes w'.heap.size w' p len cap (oPB b2) ∧ IsStrs w'.heap.size w' q l c (oPN b2) ∧ Below W.heap.size W w') := fun W h => by
        have := (ofP_any p2 len2 cap2 b2 (by omega) W (HJW.out W h)).mono fun _ _ h => h.all
        unfold OfAllP at this
        rwa [heO] at this
      have HQ : Hid (∀ W, Below w.heap.size w W → Calls Try.prog 19 #[.slice p2 len2 cap2] W fun e w' => ∃ p len cap q l c, e = .returned (.tuple #[.agg (repC (.slice p len cap) (.slice q l c) (oP b2)).toArray, .int .i64 eO]) ∧ IsBytes w'.heap.size w' p len cap (oPB b2) ∧ IsStrs w'.heap.size w' q l c (oPN b2) ∧ Below W.heap.size W w') := fun W h => by
        have := (refOfP_any p2 len2 cap2 b2 (by omega) W (HJW.out W h)).mono fun _ _ h => h.all
        unfold OfAllP at this
        rwa [heO] at this
      clear hI hJ hM heP hzP heO hok
      go_enter Try.func4, Try.ntmps4
      go_wp2_with (first
        | (rw [HW0.out])
        | (go_at_call 8; refine HAw.mono ?_; rintro e w1 ⟨rfl, hb1⟩; have HA1 : Hid (RepAt w1 w.heap.size (.slice p len cap) (.slice q l c) r) := HA0.out.later hb1; have HB1 : Hid (Below w.heap.size w w1) := hb0.trans (hb1.mono hb0.size))
        | ((with_reducible show wpList _ _ _ (Oper.mk (some 15) (Op.load 44 (.tmp 2)) _ _ _ _ :: _) _ _); refine wpList_loadRep rfl (.tmp 2) rfl rfl HOk.out HA1.out.row.range ?_; simp only [Act.put, List.setIfInBounds_toArray, List.set_cons_zero, List.set_cons_succ])
        | (go_at_call 15; refine (HAs.out w1 (hb0.trans (hb1.mono hb0.size))).mono ?_; rintro e w2 ⟨rfl, hb2⟩; have HA2 : Hid (RepAt w2 w.heap.size (.slice p len cap) (.slice q l c) r) := HA1.out.later hb2; have HB2 : Hid (Below w.heap.size w w2) := HB1.out.trans (hb2.mono HB1.out.size); clear hb2)
        | ((with_reducible show wpList _ _ _ (Oper.mk (some 24) (Op.load 44 (.tmp 2)) _ _ _ _ :: _) _ _); refine wpList_loadRep rfl (.tmp 2) rfl rfl HOk.out HA2.out.row.range ?_; simp only [Act.put, List.setIfInBounds_toArray, List.set_cons_zero, List.set_cons_succ])
        | (go_at_call 16; refine (HP.out w2 HB2.out).mono ?_; rintro e w3 ⟨v3, rfl, hO3, hb3⟩; obtain ⟨q3, k3, c3, hu3⟩ := own_any_slice hO3; subst hu3; have HA3 : Hid (RepAt w3 w.heap.size (.slice p len cap) (.slice q l c) r) := HA2.out.later hb3; have HO3 : Hid (Own w2.heap.size w3 (.slice q3 k3 c3) zP) := hO3; have HB3 : Hid (Below w.heap.size w w3) := HB2.out.trans (hb3.mono HB2.out.size); clear hb3 hO3)
        | ((with_reducible show wpList _ _ _ (Oper.mk (some 29) (Op.load 44 (.tmp 2)) _ _ _ _ :: _) _ _); refine wpList_loadRep rfl (.tmp 2) rfl rfl HOk.out HA3.out.row.range ?_; simp only [Act.put, List.setIfInBounds_toArray, List.set_cons_zero, List.set_cons_succ])
        | (go_at_call 17; refine (HR.out w3 HB3.out).mono ?_; rintro e w4 ⟨v4, rfl, hO4, hb4⟩; obtain ⟨q4, k4, c4, hu4⟩ := own_any_slice hO4; subst hu4; have HO4 : Hid (Own w3.heap.size w4 (.slice q4 k4 c4) zP) := hO4; have HO34 : Hid (Own w2.heap.size w4 (.slice q3 k3 c3) zP) := HO3.out.later hb4; have HB4 : Hid (Below w.heap.size w w4) := HB3.out.trans (hb4.mono HB3.out.size); clear hb4 hO4)
        | (go_at_call 18; refine (HO.out w4 HB4.out).mono ?_; rintro e w5 ⟨p5, l5, c5, y5, m5, d5, rfl, hI5, hS5, hb5⟩; have HI5 : Hid (IsBytes w5.heap.size w5 p5 l5 c5 (oPB b2)) := hI5; have HS5 : Hid (IsStrs w5.heap.size w5 y5 m5 d5 (oPN b2)) := hS5; clear hS5; have HO5 : Hid (Own w3.heap.size w5 (.slice q4 k4 c4) zP) := HO4.out.later hb5; have HO35 : Hid (Own w2.heap.size w5 (.slice q3 k3 c3) zP) := HO34.out.later hb5; have HB5 : Hid (Below w.heap.size w w5) := HB4.out.trans (hb5.mono HB4.out.size); clear hI5 hb5)
        | ((with_reducible show wpList _ _ _ (Oper.mk _ (Op.store 44 (.tmp 9) (.tmp 36)) _ _ _ _ :: _) _ _); refine wpList_storeRep rfl (.tmp 9) (.tmp 36) rfl (.slice p5 l5 c5) (.slice y5 m5 d5) rfl rfl (oP b2) HOq.out rfl rfl (fun w6 hb6 hE6 => ?_); have HE6 : Hid (RepAt w6 w5.heap.size (.slice p5 l5 c5) (.slice y5 m5 d5) (oP b2)) := hE6; have HI6 : Hid (IsBytes w6.heap.size w6 p5 l5 c5 (oPB b2)) := (HI5.out.below hb6).mono hb6.size; have HS6 : Hid (IsStrs w6.heap.size w6 y5 m5 d5 (oPN b2)) := HS5.out.later hb6; have HO6 : Hid (Own w3.heap.size w6 (.slice q4 k4 c4) zP) := HO5.out.later hb6; have HO36 : Hid (Own w2.heap.size w6 (.slice q3 k3 c3) zP) := HO35.out.later hb6; have HB6 : Hid (Below w.heap.size w w6) := HB5.out.trans (hb6.mono HB5.out.size); clear hE6 hb6; simp only [Act.put])
        | (go_at_call 19; refine (HQ.out w6 HB6.out).mono ?_; rintro e w7 ⟨p7, l7, c7, y7, m7, d7, rfl, hI7, hS7, hb7⟩; have HI7 : Hid (IsBytes w7.heap.size w7 p7 l7 c7 (oPB b2)) := hI7; have HS7 : Hid (IsStrs w7.heap.size w7 y7 m7 d7 (oPN b2)) := hS7; have HS57 : Hid (IsStrs w7.heap.size w7 y5 m5 d5 (oPN b2)) := HS6.out.later hb7; clear hS7; have HI57 : Hid (IsBytes w7.heap.size w7 p5 l5 c5 (oPB b2)) := (HI6.out.below hb7).mono hb7.size; have HE7 : Hid (RepAt w7 w5.heap.size (.slice p5 l5 c5) (.slice y5 m5 d5) (oP b2)) := HE6.out.later hb7; have HO7 : Hid (Own w3.heap.size w7 (.slice q4 k4 c4) zP) := HO6.out.later hb7; have HO37 : Hid (Own w2.heap.size w7 (.slice q3 k3 c3) zP) := HO36.out.later hb7; have HB7 : Hid (Below w.heap.size w w7) := HB6.out.trans (hb7.mono HB6.out.size); clear hI7 hb7)
        | ((with_reducible show wpList _ _ _ (Oper.mk _ (Op.store 44 (.tmp 11) (.tmp 41)) _ _ _ _ :: _) _ _); refine wpList_storeRep rfl (.tmp 11) (.tmp 41) rfl (.slice p7 l7 c7) (.slice y7 m7 d7) rfl rfl (oP b2) HOq.out rfl rfl (fun w8 hb8 hE8 => ?_); have HE8 : Hid (RepAt w8 w7.heap.size (.slice p7 l7 c7) (.slice y7 m7 d7) (oP b2)) := hE8; have HF8 : Hid (RepAt w8 w5.heap.size (.slice p5 l5 c5) (.slice y5 m5 d5) (oP b2)) := HE7.out.later hb8; have hs1 := (own_str (HO7.out.later hb8)).here; have hs2 := (own_str (HO37.out.later hb8)).here; have HB8 : Hid (Below w.heap.size w w8) := HB7.out.trans (hb8.mono HB7.out.size); have HI8 : Hid (IsBytes w8.heap.size w8 p7 l7 c7 (oPB b2)) := (HI7.out.below hb8).mono hb8.size; have HJ8 : Hid (IsBytes w8.heap.size w8 p5 l5 c5 (oPB b2)) := (HI57.out.below hb8).mono hb8.size; have HG8 := refSameR_any p5 l5 c5 (oPB b2) y5 m5 d5 (oPN b2) (oP b2) p7 l7 c7 (oPB b2) y7 m7 d7 (oPN b2) (oP b2) HOq.out HOq.out w8 HJ8.out HI8.out (HS57.out.later hb8) (HS7.out.later hb8); rw [sameP_refl] at HG8; clear hE8 hb8; simp only [Act.put])
        | ((with_reducible show wpList _ _ _ (Oper.mk (some 59) (Op.load 44 (.tmp 9)) _ _ _ _ :: _) _ _); refine wpList_wantRep (by rfl) (.tmp 9) rfl rfl HOq.out HF8.out.row.range ?_; simp only [Act.put, List.setIfInBounds_toArray, List.set_cons_zero, List.set_cons_succ])
        | ((with_reducible show wpList _ _ _ (Oper.mk (some 60) (Op.load 44 (.tmp 11)) _ _ _ _ :: _) _ _); refine wpList_wantRep (by rfl) (.tmp 11) rfl rfl HOq.out HE8.out.row.range ?_; simp only [Act.put, List.setIfInBounds_toArray, List.set_cons_zero, List.set_cons_succ])
        | (go_at_call 20; refine HG8.mono ?_; rintro e w9 ⟨rfl, hb9⟩))
      go_ret
      exact ⟨rfl, HB8.out.trans (hb9.mono HB8.out.size)⟩
end Go.Proofs.Ytedpgdldekkgdaa
