/-
  WireBack: the walk.
-/
import Derived.Test.YtedpgdldekkgdaaAllP
namespace Go.Proofs.Ytedpgdldekkgdaa
open Go.RowKit Go.Shelf

theorem short_Q {r : Req} (h : r.ok) {b : List Nat} (hb : b.length ≤ 1000) : (if mayQ r b = true then 1 :: encQ r b else []).length ≤ 50000 := by
  split
  · rename_i hm
    simp only [mayQ, Bool.and_eq_true, decide_eq_true_eq] at hm
    have h1 := encN_ten (n := r.client) (by have := h.client; omega)
    have h2 := encN_ten h.seq
    have h3 := encN_ten (n := r.kind.toNat) (by omega)
    have h4 := encN_ten (n := r.tenant) (by have := h.tenant; omega)
    have h5 := encText_length (nameL r.name) (by rw [nameL_length]; omega)
    have h6 := encN_ten h.n
    have h7 := encText_length b (by omega)
    have h8 := h.id.1
    have h9 := h.old.1
    rw [nameL_length] at h5
    simp only [encQ, List.length_append, List.length_cons]
    omega
  · simp
theorem short_P {r : Rep} (h : r.ok) {b : List Nat} {xs : List ByteArray} (hb : b.length ≤ 1000) (hx : xs.length ≤ 40) : (if mayP r b xs = true then 2 :: encP r b xs else []).length ≤ 50000 := by
  split
  · rename_i hm
    have := encP_length h hm
    rw [List.length_cons]
    omega
  · simp
theorem putL_bytesP {r : Rep} (h : r.ok) {b : List Nat} (hb : ∀ z ∈ b, z < 256) (xs : List ByteArray) : ∀ z ∈ (if mayP r b xs = true then 2 :: encP r b xs else []), z < 256 := by
  split
  · intro z hz
    rcases List.mem_cons.1 hz with rfl | h1
    · omega
    · exact encP_bytes h hb xs z h1
  · intro z hz; cases hz

set_option maxRecDepth 100000 in
set_option maxHeartbeats 8000000 in
theorem wireBack_walk (p : Option Addr) (len cap : Nat) (b : List Nat) (r : Req) (p2 : Option Addr) (len2 cap2 : Nat) (x : List Nat) (q : Option Addr) (l c : Nat) (xs : List ByteArray) (a : Rep) (w : World) (hok : r.ok) (hI : IsBytes w.heap.size w p len cap b) (hoa : a.ok) (hJ : IsBytes w.heap.size w p2 len2 cap2 x) (hM : IsStrs w.heap.size w q l c xs) :
    Calls Try.prog 5 #[.agg (reqC (.slice p len cap) r).toArray, .agg (repC (.slice p2 len2 cap2) (.slice q l c) a).toArray] w fun e w' => e = .returned (.bool true) ∧ Below w.heap.size w w' := by
  obtain ⟨w0, hw0⟩ : ∃ w0, (w.alloc (.cells (reqC (.slice p len cap) r).toArray 28)).alloc (.cells (repC (.slice p2 len2 cap2) (.slice q l c) a).toArray 44) = w0 := ⟨_, rfl⟩
  have hb0 : Below w.heap.size w w0 := by rw [← hw0]; exact ((Below.refl _ w).alloc (Nat.le_refl _) _).alloc (by simp) _
  have HA0 : Hid (ReqAt w0 w.heap.size (.slice p len cap) r) := by rw [← hw0]; exact (ReqAt.new w _ r hok).later ((Below.refl _ _).alloc (Nat.le_refl _) _)
  have HC0 : Hid (RepAt w0 (w.heap.size + 1) (.slice p2 len2 cap2) (.slice q l c) a) := by
    rw [← hw0]
    have := RepAt.new (w.alloc (.cells (reqC (.slice p len cap) r).toArray 28)) (.slice p2 len2 cap2) (.slice q l c) a hoa
    rwa [World.size_alloc] at this
  have HW0 : Hid ((w.alloc (.cells (reqC (.slice p len cap) r).toArray 28)).alloc (.cells (repC (.slice p2 len2 cap2) (.slice q l c) a).toArray 44) = w0) := hw0
  have HAw := awake_any w0
  have F1 : Hid (∀ W, Calls Try.prog 9 #[.agg (reqC (.slice p len cap) r).toArray] W fun e w' => e = .returned (.bool (fewQ r len)) ∧ Below W.heap.size W w') := fun W => asks_all p len cap r hok W
  have F2 : Hid (∀ W, Below w.heap.size w W → Calls Try.prog 15 #[.agg (repC (.slice p2 len2 cap2) (.slice q l c) a).toArray] W fun e w' => e = .returned (.bool (fewP xs len2)) ∧ Below W.heap.size W w') := fun W h => answers_any p2 len2 cap2 q l c xs a hoa W ((hM.below h).mono h.size)
  have HOk : Hid r.ok := hok
  have HOa : Hid a.ok := hoa
  clear hw0
  cases hf1 : fewQ r len with
  | false =>
    rw [hf1] at F1
    clear hI hJ hM hok hoa hf1
    go_enter Try.func5, Try.ntmps5
    go_wp2_with (first
      | (rw [HW0.out])
      | (go_at_call 8; refine HAw.mono ?_; rintro e w1 ⟨rfl, hb1⟩; have HA1 : Hid (ReqAt w1 w.heap.size (.slice p len cap) r) := HA0.out.later hb1; have HC1 : Hid (RepAt w1 (w.heap.size + 1) (.slice p2 len2 cap2) (.slice q l c) a) := HC0.out.later hb1; have HB1 : Hid (Below w.heap.size w w1) := hb0.trans (hb1.mono hb0.size); clear hb1)
      | ((with_reducible show wpList _ _ _ (Oper.mk (some 15) (Op.load 28 (.tmp 2)) _ _ _ _ :: _) _ _); refine wpList_loadReq rfl (.tmp 2) rfl rfl HOk.out HA1.out.row.range ?_; simp only [Act.put, List.setIfInBounds_toArray, List.set_cons_zero, List.set_cons_succ])
      | (go_at_call 9; refine (F1.out w1).mono ?_; rintro e w2 ⟨rfl, hb2⟩; have HA2 : Hid (ReqAt w2 w.heap.size (.slice p len cap) r) := HA1.out.later hb2; have HC2 : Hid (RepAt w2 (w.heap.size + 1) (.slice p2 len2 cap2) (.slice q l c) a) := HC1.out.later hb2; have HB2 : Hid (Below w.heap.size w w2) := HB1.out.trans (hb2.mono HB1.out.size); clear hb2))
    go_ret
    exact ⟨rfl, HB2.out⟩
  | true =>
    rw [hf1] at F1
    cases hf2 : fewP xs len2 with
    | false =>
      rw [hf2] at F2
      clear hI hJ hM hok hoa hf1 hf2
      go_enter Try.func5, Try.ntmps5
      go_wp2_with (first
        | (rw [HW0.out])
        | (go_at_call 8; refine HAw.mono ?_; rintro e w1 ⟨rfl, hb1⟩; have HA1 : Hid (ReqAt w1 w.heap.size (.slice p len cap) r) := HA0.out.later hb1; have HC1 : Hid (RepAt w1 (w.heap.size + 1) (.slice p2 len2 cap2) (.slice q l c) a) := HC0.out.later hb1; have HB1 : Hid (Below w.heap.size w w1) := hb0.trans (hb1.mono hb0.size); clear hb1)
        | ((with_reducible show wpList _ _ _ (Oper.mk (some 15) (Op.load 28 (.tmp 2)) _ _ _ _ :: _) _ _); refine wpList_loadReq rfl (.tmp 2) rfl rfl HOk.out HA1.out.row.range ?_; simp only [Act.put, List.setIfInBounds_toArray, List.set_cons_zero, List.set_cons_succ])
        | (go_at_call 9; refine (F1.out w1).mono ?_; rintro e w2 ⟨rfl, hb2⟩; have HA2 : Hid (ReqAt w2 w.heap.size (.slice p len cap) r) := HA1.out.later hb2; have HC2 : Hid (RepAt w2 (w.heap.size + 1) (.slice p2 len2 cap2) (.slice q l c) a) := HC1.out.later hb2; have HB2 : Hid (Below w.heap.size w w2) := HB1.out.trans (hb2.mono HB1.out.size); clear hb2)
        | ((with_reducible show wpList _ _ _ (Oper.mk (some 19) (Op.load 44 (.tmp 3)) _ _ _ _ :: _) _ _); refine wpList_wantRep (by rfl) (.tmp 3) rfl rfl HOa.out HC2.out.row.range ?_; simp only [Act.put, List.setIfInBounds_toArray, List.set_cons_zero, List.set_cons_succ])
        | (go_at_call 15; refine (F2.out w2 HB2.out).mono ?_; rintro e w3 ⟨rfl, hb3⟩; have HA3 : Hid (ReqAt w3 w.heap.size (.slice p len cap) r) := HA2.out.later hb3; have HC3 : Hid (RepAt w3 (w.heap.size + 1) (.slice p2 len2 cap2) (.slice q l c) a) := HC2.out.later hb3; have HB3 : Hid (Below w.heap.size w w3) := HB2.out.trans (hb3.mono HB2.out.size); clear hb3))
      go_ret
      exact ⟨rfl, HB3.out⟩
    | true =>
      rw [hf2] at F2
      have hnm : r.name.size ≤ 200 ∧ len ≤ 1000 := by simpa only [fewQ, Bool.and_eq_true, decide_eq_true_eq] using hf1
      have hxx := fewP_facts hf2
      have HIW : Hid (∀ W, Below w.heap.size w W → IsBytes W.heap.size W p len cap b) := fun W h => (hI.below h).mono h.size
      have HJW : Hid (∀ W, Below w.heap.size w W → IsBytes W.heap.size W p2 len2 cap2 x) := fun W h => (hJ.below h).mono h.size
      have HMW : Hid (∀ W, Below w.heap.size w W → IsStrs W.heap.size W q l c xs) := fun W h => (hM.below h).mono h.size
      have HLb : Hid (b.length = len) := hI.1
      obtain ⟨zQ, hzQ⟩ : ∃ zQ : List Nat, (if mayQ r b = true then 1 :: encQ r b else []) = zQ := ⟨_, rfl⟩
      obtain ⟨eQ, heQ⟩ : ∃ eQ : Int, (if mayQ r b = true then (0 : Int) else 180) = eQ := ⟨_, rfl⟩
      obtain ⟨zP, hzP⟩ : ∃ zP : List Nat, (if mayP a x xs = true then 2 :: encP a x xs else []) = zP := ⟨_, rfl⟩
      obtain ⟨eP, heP⟩ : ∃ eP : Int, (if mayP a x xs = true then (0 : Int) else 180) = eP := ⟨_, rfl⟩
      have HZQ : Hid ((∀ z ∈ zQ, z < 256) ∧ zQ.length ≤ 50000) := by
        rw [← hzQ]
        exact ⟨putL_bytes hok hI.2.2.2.1, short_Q hok (by have := hI.1; omega)⟩
      have HZP : Hid ((∀ z ∈ zP, z < 256) ∧ zP.length ≤ 50000) := by
        rw [← hzP]
        exact ⟨putL_bytesP hoa hJ.2.2.2.1 xs, short_P hoa (by have := hJ.1; omega) hxx.2.1⟩
      have HP1 : Hid (∀ W, Below w.heap.size w W → Calls Try.prog 10 #[.agg (reqC (.slice p len cap) r).toArray] W fun e w' => ∃ v, e = .returned (.tuple #[v, .int .i64 eQ]) ∧ Own W.heap.size w' v zQ ∧ Below W.heap.size W w') := fun W h => by
        have := putQ_any p len cap b r hok (by omega) W (HIW.out W h)
        unfold RefPQ at this
        rwa [heQ, hzQ] at this
      have HP2 : Hid (∀ W, Below w.heap.size w W → Calls Try.prog 16 #[.agg (repC (.slice p2 len2 cap2) (.slice q l c) a).toArray] W fun e w' => ∃ v, e = .returned (.tuple #[v, .int .i64 eP]) ∧ Own W.heap.size w' v zP ∧ Below W.heap.size W w') := fun W h => by
        have := putP_any p2 len2 cap2 x q l c xs a hoa W (HJW.out W h) (HMW.out W h)
        unfold RefPP at this
        rwa [heP, hzP] at this
      obtain ⟨rQ, hrQ⟩ : ∃ rQ, oQ zQ = rQ := ⟨_, rfl⟩
      obtain ⟨bQ, hbQ⟩ : ∃ bQ, oB zQ = bQ := ⟨_, rfl⟩
      obtain ⟨fQ, hfQ⟩ : ∃ fQ, oE zQ = fQ := ⟨_, rfl⟩
      obtain ⟨rP, hrP⟩ : ∃ rP, oP zP = rP := ⟨_, rfl⟩
      obtain ⟨bP, hbP⟩ : ∃ bP, oPB zP = bP := ⟨_, rfl⟩
      obtain ⟨nP, hnP⟩ : ∃ nP, oPN zP = nP := ⟨_, rfl⟩
      obtain ⟨fP, hfP⟩ : ∃ fP, oPE zP = fP := ⟨_, rfl⟩
      have HO1 : Hid (∀ W v, Own 0 W v zQ → ∃ q k c, v = .slice q k c ∧ Calls Try.prog 12 #[.slice q k c] W fun e w' => ∃ p len cap, e = .returned (.tuple #[.agg (reqC (.slice p len cap) rQ).toArray, .int .i64 fQ]) ∧ IsBytes w'.heap.size w' p len cap bQ ∧ Below W.heap.size W w') := fun W v ho => by
        obtain ⟨q, c, rfl⟩ := ho.slice
        have := (ofQ_any q _ c zQ HZQ.out.2 W (ho.bytes HZQ.out.1)).mono fun _ _ h => h.all
        unfold OfAllQ at this
        rw [hrQ, hbQ, hfQ] at this
        exact ⟨q, _, c, rfl, this⟩
      have HO2 : Hid (∀ W v, Own 0 W v zP → ∃ q k c, v = .slice q k c ∧ Calls Try.prog 18 #[.slice q k c] W fun e w' => ∃ p len cap q l c, e = .returned (.tuple #[.agg (repC (.slice p len cap) (.slice q l c) rP).toArray, .int .i64 fP]) ∧ IsBytes w'.heap.size w' p len cap bP ∧ IsStrs w'.heap.size w' q l c nP ∧ Below W.heap.size W w') := fun W v ho => by
        obtain ⟨q, c, rfl⟩ := ho.slice
        have := (ofP_any q _ c zP HZP.out.2 W (ho.bytes HZP.out.1)).mono fun _ _ h => h.all
        unfold OfAllP at this
        rw [hrP, hbP, hnP, hfP] at this
        exact ⟨q, _, c, rfl, this⟩
      have HrQ : Hid rQ.ok := by rw [← hrQ]; exact oQ_ok HZQ.out.1
      have HrP : Hid rP.ok := by rw [← hrP]; exact oP_ok HZP.out.1
      have HQt : Hid (mayQ r b = true → eQ = 0 ∧ rQ = r ∧ bQ = b ∧ fQ = 0) := fun hm => by
        rw [if_pos hm] at hzQ heQ
        obtain ⟨_, g1, g2, g3⟩ := q_put_back hok hm
        rw [hzQ] at g1 g2 g3
        exact ⟨heQ.symm, hrQ.symm.trans g1, hbQ.symm.trans g2, hfQ.symm.trans g3⟩
      have HQf : Hid (mayQ r b = false → eQ = 180) := fun hm => by rw [← heQ, if_neg (by rw [hm]; simp)]
      have HPt : Hid (mayP a x xs = true → eP = 0 ∧ rP = a ∧ bP = x ∧ nP = xs ∧ fP = 0) := fun hm => by
        rw [if_pos hm] at hzP heP
        obtain ⟨g1, g2, g3, g4⟩ := p_put_back hoa hm
        rw [hzP] at g1 g2 g3 g4
        exact ⟨heP.symm, hrP.symm.trans g1, hbP.symm.trans g2, hnP.symm.trans g3, hfP.symm.trans g4⟩
      have HPf : Hid (mayP a x xs = false → eP = 180) := fun hm => by rw [← heP, if_neg (by rw [hm]; simp)]
      clear hI hJ hM hok hoa hf1 hf2 hnm hxx hzQ heQ hzP heP hrQ hbQ hfQ hrP hbP hnP hfP
      cases hm1 : mayQ r b with
      | true =>
        obtain ⟨rfl, g1, g2, rfl⟩ := HQt.out hm1; replace g1 := g1.symm; replace g2 := g2.symm; subst g1; subst g2
        clear HQt HQf hm1
        cases hm2 : mayP a x xs with
        | true =>
          obtain ⟨rfl, g1, g2, g3, rfl⟩ := HPt.out hm2; replace g1 := g1.symm; replace g2 := g2.symm; replace g3 := g3.symm; subst g1; subst g2; subst g3
          clear HPt HPf hm2
          go_enter Try.func5, Try.ntmps5
          go_wp2_with (first
            | (rw [HW0.out])
            | (go_at_call 8; refine HAw.mono ?_; rintro e w1 ⟨rfl, hb1⟩; have HA1 : Hid (ReqAt w1 w.heap.size (.slice p len cap) r) := HA0.out.later hb1; have HC1 : Hid (RepAt w1 (w.heap.size + 1) (.slice p2 len2 cap2) (.slice q l c) a) := HC0.out.later hb1; have HB1 : Hid (Below w.heap.size w w1) := hb0.trans (hb1.mono hb0.size); clear hb1)
            | ((with_reducible show wpList _ _ _ (Oper.mk (some 15) (Op.load 28 (.tmp 2)) _ _ _ _ :: _) _ _); refine wpList_loadReq rfl (.tmp 2) rfl rfl HOk.out HA1.out.row.range ?_; simp only [Act.put, List.setIfInBounds_toArray, List.set_cons_zero, List.set_cons_succ])
            | (go_at_call 9; refine (F1.out w1).mono ?_; rintro e w2 ⟨rfl, hb2⟩; have HA2 : Hid (ReqAt w2 w.heap.size (.slice p len cap) r) := HA1.out.later hb2; have HC2 : Hid (RepAt w2 (w.heap.size + 1) (.slice p2 len2 cap2) (.slice q l c) a) := HC1.out.later hb2; have HB2 : Hid (Below w.heap.size w w2) := HB1.out.trans (hb2.mono HB1.out.size); clear hb2)
            | ((with_reducible show wpList _ _ _ (Oper.mk (some 19) (Op.load 44 (.tmp 3)) _ _ _ _ :: _) _ _); refine wpList_wantRep (by rfl) (.tmp 3) rfl rfl HOa.out HC2.out.row.range ?_; simp only [Act.put, List.setIfInBounds_toArray, List.set_cons_zero, List.set_cons_succ])
            | (go_at_call 15; refine (F2.out w2 HB2.out).mono ?_; rintro e w3 ⟨rfl, hb3⟩; have HA3 : Hid (ReqAt w3 w.heap.size (.slice p len cap) r) := HA2.out.later hb3; have HC3 : Hid (RepAt w3 (w.heap.size + 1) (.slice p2 len2 cap2) (.slice q l c) a) := HC2.out.later hb3; have HB3 : Hid (Below w.heap.size w w3) := HB2.out.trans (hb3.mono HB2.out.size); clear hb3)
            | ((with_reducible show wpList _ _ _ (Oper.mk (some 24) (Op.load 28 (.tmp 2)) _ _ _ _ :: _) _ _); refine wpList_loadReq rfl (.tmp 2) rfl rfl HOk.out HA3.out.row.range ?_; simp only [Act.put, List.setIfInBounds_toArray, List.set_cons_zero, List.set_cons_succ])
            | (go_at_call 10; refine (HP1.out w3 HB3.out).mono ?_; rintro e w4 ⟨v4, rfl, hO4, hb4⟩; obtain ⟨q4, k4, c4, hu4, H12⟩ := HO1.out w4 v4 (hO4.mono (Nat.zero_le _)); subst hu4; have HA4 : Hid (ReqAt w4 w.heap.size (.slice p len cap) r) := HA3.out.later hb4; have HC4 : Hid (RepAt w4 (w.heap.size + 1) (.slice p2 len2 cap2) (.slice q l c) a) := HC3.out.later hb4; have HB4 : Hid (Below w.heap.size w w4) := HB3.out.trans (hb4.mono HB3.out.size); clear hb4 hO4)
            | (go_at_call 12; refine H12.mono ?_; clear H12; rintro e w5 ⟨p5, l5, c5, rfl, hI5, hb5⟩; have HI5 : Hid (IsBytes w5.heap.size w5 p5 l5 c5 b) := hI5; have HA5 : Hid (ReqAt w5 w.heap.size (.slice p len cap) r) := HA4.out.later hb5; have HC5 : Hid (RepAt w5 (w.heap.size + 1) (.slice p2 len2 cap2) (.slice q l c) a) := HC4.out.later hb5; have HB5 : Hid (Below w.heap.size w w5) := HB4.out.trans (hb5.mono HB4.out.size); clear hI5 hb5)
            | ((with_reducible show wpList _ _ _ (Oper.mk _ (Op.store 28 (.tmp 7) (.tmp 31)) _ _ _ _ :: _) _ _); refine wpList_storeReq rfl (.tmp 7) (.tmp 31) rfl (.slice p5 l5 c5) rfl r HrQ.out rfl rfl (fun w6 hb6 hE6 => ?_); have HE6 : Hid (ReqAt w6 w5.heap.size (.slice p5 l5 c5) r) := hE6; have HI6 : Hid (IsBytes w6.heap.size w6 p5 l5 c5 b) := (HI5.out.below hb6).mono hb6.size; have HA6 : Hid (ReqAt w6 w.heap.size (.slice p len cap) r) := HA5.out.later hb6; have HC6 : Hid (RepAt w6 (w.heap.size + 1) (.slice p2 len2 cap2) (.slice q l c) a) := HC5.out.later hb6; have HB6 : Hid (Below w.heap.size w w6) := HB5.out.trans (hb6.mono HB5.out.size); clear hE6 hb6; simp only [Act.put])
            | ((with_reducible show wpList _ _ _ (Oper.mk (some 34) (Op.load 44 (.tmp 3)) _ _ _ _ :: _) _ _); refine wpList_loadRep rfl (.tmp 3) rfl rfl HOa.out HC6.out.row.range ?_; simp only [Act.put, List.setIfInBounds_toArray, List.set_cons_zero, List.set_cons_succ])
            | (go_at_call 16; refine (HP2.out w6 HB6.out).mono ?_; rintro e w7 ⟨v7, rfl, hO7, hb7⟩; obtain ⟨q7, k7, c7, hu7, H18⟩ := HO2.out w7 v7 (hO7.mono (Nat.zero_le _)); subst hu7; have HA7 : Hid (ReqAt w7 w.heap.size (.slice p len cap) r) := HA6.out.later hb7; have HC7 : Hid (RepAt w7 (w.heap.size + 1) (.slice p2 len2 cap2) (.slice q l c) a) := HC6.out.later hb7; have HE7 : Hid (ReqAt w7 w5.heap.size (.slice p5 l5 c5) r) := HE6.out.later hb7; have HI7 : Hid (IsBytes w7.heap.size w7 p5 l5 c5 b) := (HI6.out.below hb7).mono hb7.size; have HB7 : Hid (Below w.heap.size w w7) := HB6.out.trans (hb7.mono HB6.out.size); clear hb7 hO7)
            | (go_at_call 18; refine H18.mono ?_; clear H18; rintro e w8 ⟨p8, l8, c8, y8, m8, d8, rfl, hI8, hS8, hb8⟩; have HI8 : Hid (IsBytes w8.heap.size w8 p8 l8 c8 x) := hI8; have HS8 : Hid (IsStrs w8.heap.size w8 y8 m8 d8 xs) := hS8; have HA8 : Hid (ReqAt w8 w.heap.size (.slice p len cap) r) := HA7.out.later hb8; have HC8 : Hid (RepAt w8 (w.heap.size + 1) (.slice p2 len2 cap2) (.slice q l c) a) := HC7.out.later hb8; have HE8 : Hid (ReqAt w8 w5.heap.size (.slice p5 l5 c5) r) := HE7.out.later hb8; have HJ8 : Hid (IsBytes w8.heap.size w8 p5 l5 c5 b) := (HI7.out.below hb8).mono hb8.size; have HB8 : Hid (Below w.heap.size w w8) := HB7.out.trans (hb8.mono HB7.out.size); clear hI8 hS8 hb8)
            | ((with_reducible show wpList _ _ _ (Oper.mk _ (Op.store 44 (.tmp 11) (.tmp 41)) _ _ _ _ :: _) _ _); refine wpList_storeRep rfl (.tmp 11) (.tmp 41) rfl (.slice p8 l8 c8) (.slice y8 m8 d8) rfl rfl a HrP.out rfl rfl (fun w9 hb9 hE9 => ?_); have HE9 : Hid (RepAt w9 w8.heap.size (.slice p8 l8 c8) (.slice y8 m8 d8) a) := hE9; have HA9 : Hid (ReqAt w9 w.heap.size (.slice p len cap) r) := HA8.out.later hb9; have HC9 : Hid (RepAt w9 (w.heap.size + 1) (.slice p2 len2 cap2) (.slice q l c) a) := HC8.out.later hb9; have HF9 : Hid (ReqAt w9 w5.heap.size (.slice p5 l5 c5) r) := HE8.out.later hb9; have HJ9 : Hid (IsBytes w9.heap.size w9 p5 l5 c5 b) := (HJ8.out.below hb9).mono hb9.size; have HI9 : Hid (IsBytes w9.heap.size w9 p8 l8 c8 x) := (HI8.out.below hb9).mono hb9.size; have HS9 : Hid (IsStrs w9.heap.size w9 y8 m8 d8 xs) := HS8.out.later hb9; have HB9 : Hid (Below w.heap.size w w9) := HB8.out.trans (hb9.mono HB8.out.size); clear hE9 hb9; simp only [Act.put])
            | ((with_reducible show wpList _ _ _ (Oper.mk (some 49) (Op.load 28 (.tmp 7)) _ _ _ _ :: _) _ _); refine wpList_wantReq (by rfl) (.tmp 7) rfl rfl HrQ.out HF9.out.row.range ?_; simp only [Act.put, List.setIfInBounds_toArray, List.set_cons_zero, List.set_cons_succ])
            | ((with_reducible show wpList _ _ _ (Oper.mk (some 50) (Op.load 28 (.tmp 2)) _ _ _ _ :: _) _ _); refine wpList_wantReq (by rfl) (.tmp 2) rfl rfl HOk.out HA9.out.row.range ?_; simp only [Act.put, List.setIfInBounds_toArray, List.set_cons_zero, List.set_cons_succ]; have hl5 : l5 = len := HJ9.out.1.symm.trans HLb.out; subst hl5; have HG := sameQ_alike p5 l5 c5 p cap b r HrQ.out w9 HJ9.out (HIW.out w9 HB9.out))
            | (go_at_call 14; refine HG.mono ?_; clear HG; rintro e w10 ⟨rfl, hb10⟩; have HC10 : Hid (RepAt w10 (w.heap.size + 1) (.slice p2 len2 cap2) (.slice q l c) a) := HC9.out.later hb10; have HE10 : Hid (RepAt w10 w8.heap.size (.slice p8 l8 c8) (.slice y8 m8 d8) a) := HE9.out.later hb10; have HI10 : Hid (IsBytes w10.heap.size w10 p8 l8 c8 x) := (HI9.out.below hb10).mono hb10.size; have HS10 : Hid (IsStrs w10.heap.size w10 y8 m8 d8 xs) := HS9.out.later hb10; have HB10 : Hid (Below w.heap.size w w10) := HB9.out.trans (hb10.mono HB9.out.size); clear hb10)
            | ((with_reducible show wpList _ _ _ (Oper.mk (some 61) (Op.load 44 (.tmp 11)) _ _ _ _ :: _) _ _); refine wpList_wantRep (by rfl) (.tmp 11) rfl rfl HrP.out HE10.out.row.range ?_; simp only [Act.put, List.setIfInBounds_toArray, List.set_cons_zero, List.set_cons_succ])
            | ((with_reducible show wpList _ _ _ (Oper.mk (some 62) (Op.load 44 (.tmp 3)) _ _ _ _ :: _) _ _); refine wpList_wantRep (by rfl) (.tmp 3) rfl rfl HOa.out HC10.out.row.range ?_; simp only [Act.put, List.setIfInBounds_toArray, List.set_cons_zero, List.set_cons_succ]; have HG := sameR_any p8 l8 c8 x y8 m8 d8 xs a p2 len2 cap2 x q l c xs a HrP.out HrP.out w10 HI10.out (HJW.out w10 HB10.out) HS10.out (HMW.out w10 HB10.out); rw [sameP_refl] at HG)
            | (go_at_call 21; refine HG.mono ?_; clear HG; rintro e w11 ⟨rfl, hb11⟩; have HC11 : Hid (RepAt w11 (w.heap.size + 1) (.slice p2 len2 cap2) (.slice q l c) a) := HC10.out.later hb11; have HE11 : Hid (RepAt w11 w8.heap.size (.slice p8 l8 c8) (.slice y8 m8 d8) a) := HE10.out.later hb11; have HI11 : Hid (IsBytes w11.heap.size w11 p8 l8 c8 x) := (HI10.out.below hb11).mono hb11.size; have HS11 : Hid (IsStrs w11.heap.size w11 y8 m8 d8 xs) := HS10.out.later hb11; have HB11 : Hid (Below w.heap.size w w11) := HB10.out.trans (hb11.mono HB10.out.size); clear hb11)
            | ((with_reducible show wpList _ _ _ (Oper.mk (some 66) (Op.load 44 (.tmp 11)) _ _ _ _ :: _) _ _); refine wpList_wantRep (by rfl) (.tmp 11) rfl rfl HrP.out HE11.out.row.range ?_; simp only [Act.put, List.setIfInBounds_toArray, List.set_cons_zero, List.set_cons_succ])
            | ((with_reducible show wpList _ _ _ (Oper.mk (some 67) (Op.load 44 (.tmp 3)) _ _ _ _ :: _) _ _); refine wpList_wantRep (by rfl) (.tmp 3) rfl rfl HOa.out HC11.out.row.range ?_; simp only [Act.put, List.setIfInBounds_toArray, List.set_cons_zero, List.set_cons_succ]; have HG := refSameR_any p8 l8 c8 x y8 m8 d8 xs a p2 len2 cap2 x q l c xs a HrP.out HrP.out w11 HI11.out (HJW.out w11 HB11.out) HS11.out (HMW.out w11 HB11.out); rw [sameP_refl] at HG)
            | (go_at_call 20; refine HG.mono ?_; clear HG; rintro e w12 ⟨rfl, hb12⟩))
          go_ret
          exact ⟨rfl, HB11.out.trans (hb12.mono HB11.out.size)⟩
        | false =>
          obtain rfl := HPf.out hm2
          clear HPt HPf hm2
          go_enter Try.func5, Try.ntmps5
          go_wp2_with (first
            | (rw [HW0.out])
            | (go_at_call 8; refine HAw.mono ?_; rintro e w1 ⟨rfl, hb1⟩; have HA1 : Hid (ReqAt w1 w.heap.size (.slice p len cap) r) := HA0.out.later hb1; have HC1 : Hid (RepAt w1 (w.heap.size + 1) (.slice p2 len2 cap2) (.slice q l c) a) := HC0.out.later hb1; have HB1 : Hid (Below w.heap.size w w1) := hb0.trans (hb1.mono hb0.size); clear hb1)
            | ((with_reducible show wpList _ _ _ (Oper.mk (some 15) (Op.load 28 (.tmp 2)) _ _ _ _ :: _) _ _); refine wpList_loadReq rfl (.tmp 2) rfl rfl HOk.out HA1.out.row.range ?_; simp only [Act.put, List.setIfInBounds_toArray, List.set_cons_zero, List.set_cons_succ])
            | (go_at_call 9; refine (F1.out w1).mono ?_; rintro e w2 ⟨rfl, hb2⟩; have HA2 : Hid (ReqAt w2 w.heap.size (.slice p len cap) r) := HA1.out.later hb2; have HC2 : Hid (RepAt w2 (w.heap.size + 1) (.slice p2 len2 cap2) (.slice q l c) a) := HC1.out.later hb2; have HB2 : Hid (Below w.heap.size w w2) := HB1.out.trans (hb2.mono HB1.out.size); clear hb2)
            | ((with_reducible show wpList _ _ _ (Oper.mk (some 19) (Op.load 44 (.tmp 3)) _ _ _ _ :: _) _ _); refine wpList_wantRep (by rfl) (.tmp 3) rfl rfl HOa.out HC2.out.row.range ?_; simp only [Act.put, List.setIfInBounds_toArray, List.set_cons_zero, List.set_cons_succ])
            | (go_at_call 15; refine (F2.out w2 HB2.out).mono ?_; rintro e w3 ⟨rfl, hb3⟩; have HA3 : Hid (ReqAt w3 w.heap.size (.slice p len cap) r) := HA2.out.later hb3; have HC3 : Hid (RepAt w3 (w.heap.size + 1) (.slice p2 len2 cap2) (.slice q l c) a) := HC2.out.later hb3; have HB3 : Hid (Below w.heap.size w w3) := HB2.out.trans (hb3.mono HB2.out.size); clear hb3)
            | ((with_reducible show wpList _ _ _ (Oper.mk (some 24) (Op.load 28 (.tmp 2)) _ _ _ _ :: _) _ _); refine wpList_loadReq rfl (.tmp 2) rfl rfl HOk.out HA3.out.row.range ?_; simp only [Act.put, List.setIfInBounds_toArray, List.set_cons_zero, List.set_cons_succ])
            | (go_at_call 10; refine (HP1.out w3 HB3.out).mono ?_; rintro e w4 ⟨v4, rfl, hO4, hb4⟩; obtain ⟨q4, k4, c4, hu4, H12⟩ := HO1.out w4 v4 (hO4.mono (Nat.zero_le _)); subst hu4; have HA4 : Hid (ReqAt w4 w.heap.size (.slice p len cap) r) := HA3.out.later hb4; have HC4 : Hid (RepAt w4 (w.heap.size + 1) (.slice p2 len2 cap2) (.slice q l c) a) := HC3.out.later hb4; have HB4 : Hid (Below w.heap.size w w4) := HB3.out.trans (hb4.mono HB3.out.size); clear hb4 hO4)
            | (go_at_call 12; refine H12.mono ?_; clear H12; rintro e w5 ⟨p5, l5, c5, rfl, hI5, hb5⟩; have HI5 : Hid (IsBytes w5.heap.size w5 p5 l5 c5 b) := hI5; have HA5 : Hid (ReqAt w5 w.heap.size (.slice p len cap) r) := HA4.out.later hb5; have HC5 : Hid (RepAt w5 (w.heap.size + 1) (.slice p2 len2 cap2) (.slice q l c) a) := HC4.out.later hb5; have HB5 : Hid (Below w.heap.size w w5) := HB4.out.trans (hb5.mono HB4.out.size); clear hI5 hb5)
            | ((with_reducible show wpList _ _ _ (Oper.mk _ (Op.store 28 (.tmp 7) (.tmp 31)) _ _ _ _ :: _) _ _); refine wpList_storeReq rfl (.tmp 7) (.tmp 31) rfl (.slice p5 l5 c5) rfl r HrQ.out rfl rfl (fun w6 hb6 hE6 => ?_); have HE6 : Hid (ReqAt w6 w5.heap.size (.slice p5 l5 c5) r) := hE6; have HI6 : Hid (IsBytes w6.heap.size w6 p5 l5 c5 b) := (HI5.out.below hb6).mono hb6.size; have HA6 : Hid (ReqAt w6 w.heap.size (.slice p len cap) r) := HA5.out.later hb6; have HC6 : Hid (RepAt w6 (w.heap.size + 1) (.slice p2 len2 cap2) (.slice q l c) a) := HC5.out.later hb6; have HB6 : Hid (Below w.heap.size w w6) := HB5.out.trans (hb6.mono HB5.out.size); clear hE6 hb6; simp only [Act.put])
            | ((with_reducible show wpList _ _ _ (Oper.mk (some 34) (Op.load 44 (.tmp 3)) _ _ _ _ :: _) _ _); refine wpList_loadRep rfl (.tmp 3) rfl rfl HOa.out HC6.out.row.range ?_; simp only [Act.put, List.setIfInBounds_toArray, List.set_cons_zero, List.set_cons_succ])
            | (go_at_call 16; refine (HP2.out w6 HB6.out).mono ?_; rintro e w7 ⟨v7, rfl, hO7, hb7⟩; obtain ⟨q7, k7, c7, hu7, H18⟩ := HO2.out w7 v7 (hO7.mono (Nat.zero_le _)); subst hu7; have HA7 : Hid (ReqAt w7 w.heap.size (.slice p len cap) r) := HA6.out.later hb7; have HC7 : Hid (RepAt w7 (w.heap.size + 1) (.slice p2 len2 cap2) (.slice q l c) a) := HC6.out.later hb7; have HE7 : Hid (ReqAt w7 w5.heap.size (.slice p5 l5 c5) r) := HE6.out.later hb7; have HI7 : Hid (IsBytes w7.heap.size w7 p5 l5 c5 b) := (HI6.out.below hb7).mono hb7.size; have HB7 : Hid (Below w.heap.size w w7) := HB6.out.trans (hb7.mono HB6.out.size); clear hb7 hO7)
            | (go_at_call 18; refine H18.mono ?_; clear H18; rintro e w8 ⟨p8, l8, c8, y8, m8, d8, rfl, hI8, hS8, hb8⟩; have HI8 : Hid (IsBytes w8.heap.size w8 p8 l8 c8 bP) := hI8; have HS8 : Hid (IsStrs w8.heap.size w8 y8 m8 d8 nP) := hS8; have HA8 : Hid (ReqAt w8 w.heap.size (.slice p len cap) r) := HA7.out.later hb8; have HC8 : Hid (RepAt w8 (w.heap.size + 1) (.slice p2 len2 cap2) (.slice q l c) a) := HC7.out.later hb8; have HE8 : Hid (ReqAt w8 w5.heap.size (.slice p5 l5 c5) r) := HE7.out.later hb8; have HJ8 : Hid (IsBytes w8.heap.size w8 p5 l5 c5 b) := (HI7.out.below hb8).mono hb8.size; have HB8 : Hid (Below w.heap.size w w8) := HB7.out.trans (hb8.mono HB7.out.size); clear hI8 hS8 hb8)
            | ((with_reducible show wpList _ _ _ (Oper.mk _ (Op.store 44 (.tmp 11) (.tmp 41)) _ _ _ _ :: _) _ _); refine wpList_storeRep rfl (.tmp 11) (.tmp 41) rfl (.slice p8 l8 c8) (.slice y8 m8 d8) rfl rfl rP HrP.out rfl rfl (fun w9 hb9 hE9 => ?_); have HE9 : Hid (RepAt w9 w8.heap.size (.slice p8 l8 c8) (.slice y8 m8 d8) rP) := hE9; have HA9 : Hid (ReqAt w9 w.heap.size (.slice p len cap) r) := HA8.out.later hb9; have HC9 : Hid (RepAt w9 (w.heap.size + 1) (.slice p2 len2 cap2) (.slice q l c) a) := HC8.out.later hb9; have HF9 : Hid (ReqAt w9 w5.heap.size (.slice p5 l5 c5) r) := HE8.out.later hb9; have HJ9 : Hid (IsBytes w9.heap.size w9 p5 l5 c5 b) := (HJ8.out.below hb9).mono hb9.size; have HI9 : Hid (IsBytes w9.heap.size w9 p8 l8 c8 bP) := (HI8.out.below hb9).mono hb9.size; have HS9 : Hid (IsStrs w9.heap.size w9 y8 m8 d8 nP) := HS8.out.later hb9; have HB9 : Hid (Below w.heap.size w w9) := HB8.out.trans (hb9.mono HB8.out.size); clear hE9 hb9; simp only [Act.put])
            | ((with_reducible show wpList _ _ _ (Oper.mk (some 49) (Op.load 28 (.tmp 7)) _ _ _ _ :: _) _ _); refine wpList_wantReq (by rfl) (.tmp 7) rfl rfl HrQ.out HF9.out.row.range ?_; simp only [Act.put, List.setIfInBounds_toArray, List.set_cons_zero, List.set_cons_succ])
            | ((with_reducible show wpList _ _ _ (Oper.mk (some 50) (Op.load 28 (.tmp 2)) _ _ _ _ :: _) _ _); refine wpList_wantReq (by rfl) (.tmp 2) rfl rfl HOk.out HA9.out.row.range ?_; simp only [Act.put, List.setIfInBounds_toArray, List.set_cons_zero, List.set_cons_succ]; have hl5 : l5 = len := HJ9.out.1.symm.trans HLb.out; subst hl5; have HG := sameQ_alike p5 l5 c5 p cap b r HrQ.out w9 HJ9.out (HIW.out w9 HB9.out))
            | (go_at_call 14; refine HG.mono ?_; clear HG; rintro e w10 ⟨rfl, hb10⟩; have HC10 : Hid (RepAt w10 (w.heap.size + 1) (.slice p2 len2 cap2) (.slice q l c) a) := HC9.out.later hb10; have HE10 : Hid (RepAt w10 w8.heap.size (.slice p8 l8 c8) (.slice y8 m8 d8) rP) := HE9.out.later hb10; have HI10 : Hid (IsBytes w10.heap.size w10 p8 l8 c8 bP) := (HI9.out.below hb10).mono hb10.size; have HS10 : Hid (IsStrs w10.heap.size w10 y8 m8 d8 nP) := HS9.out.later hb10; have HB10 : Hid (Below w.heap.size w w10) := HB9.out.trans (hb10.mono HB9.out.size); clear hb10))
          go_ret
          exact ⟨rfl, HB10.out⟩
      | false =>
        obtain rfl := HQf.out hm1
        clear HQt HQf hm1
        cases hm2 : mayP a x xs with
        | true =>
          obtain ⟨rfl, g1, g2, g3, rfl⟩ := HPt.out hm2; replace g1 := g1.symm; replace g2 := g2.symm; replace g3 := g3.symm; subst g1; subst g2; subst g3
          clear HPt HPf hm2
          go_enter Try.func5, Try.ntmps5
          go_wp2_with (first
            | (rw [HW0.out])
            | (go_at_call 8; refine HAw.mono ?_; rintro e w1 ⟨rfl, hb1⟩; have HA1 : Hid (ReqAt w1 w.heap.size (.slice p len cap) r) := HA0.out.later hb1; have HC1 : Hid (RepAt w1 (w.heap.size + 1) (.slice p2 len2 cap2) (.slice q l c) a) := HC0.out.later hb1; have HB1 : Hid (Below w.heap.size w w1) := hb0.trans (hb1.mono hb0.size); clear hb1)
            | ((with_reducible show wpList _ _ _ (Oper.mk (some 15) (Op.load 28 (.tmp 2)) _ _ _ _ :: _) _ _); refine wpList_loadReq rfl (.tmp 2) rfl rfl HOk.out HA1.out.row.range ?_; simp only [Act.put, List.setIfInBounds_toArray, List.set_cons_zero, List.set_cons_succ])
            | (go_at_call 9; refine (F1.out w1).mono ?_; rintro e w2 ⟨rfl, hb2⟩; have HA2 : Hid (ReqAt w2 w.heap.size (.slice p len cap) r) := HA1.out.later hb2; have HC2 : Hid (RepAt w2 (w.heap.size + 1) (.slice p2 len2 cap2) (.slice q l c) a) := HC1.out.later hb2; have HB2 : Hid (Below w.heap.size w w2) := HB1.out.trans (hb2.mono HB1.out.size); clear hb2)
            | ((with_reducible show wpList _ _ _ (Oper.mk (some 19) (Op.load 44 (.tmp 3)) _ _ _ _ :: _) _ _); refine wpList_wantRep (by rfl) (.tmp 3) rfl rfl HOa.out HC2.out.row.range ?_; simp only [Act.put, List.setIfInBounds_toArray, List.set_cons_zero, List.set_cons_succ])
            | (go_at_call 15; refine (F2.out w2 HB2.out).mono ?_; rintro e w3 ⟨rfl, hb3⟩; have HA3 : Hid (ReqAt w3 w.heap.size (.slice p len cap) r) := HA2.out.later hb3; have HC3 : Hid (RepAt w3 (w.heap.size + 1) (.slice p2 len2 cap2) (.slice q l c) a) := HC2.out.later hb3; have HB3 : Hid (Below w.heap.size w w3) := HB2.out.trans (hb3.mono HB2.out.size); clear hb3)
            | ((with_reducible show wpList _ _ _ (Oper.mk (some 24) (Op.load 28 (.tmp 2)) _ _ _ _ :: _) _ _); refine wpList_loadReq rfl (.tmp 2) rfl rfl HOk.out HA3.out.row.range ?_; simp only [Act.put, List.setIfInBounds_toArray, List.set_cons_zero, List.set_cons_succ])
            | (go_at_call 10; refine (HP1.out w3 HB3.out).mono ?_; rintro e w4 ⟨v4, rfl, hO4, hb4⟩; obtain ⟨q4, k4, c4, hu4, H12⟩ := HO1.out w4 v4 (hO4.mono (Nat.zero_le _)); subst hu4; have HA4 : Hid (ReqAt w4 w.heap.size (.slice p len cap) r) := HA3.out.later hb4; have HC4 : Hid (RepAt w4 (w.heap.size + 1) (.slice p2 len2 cap2) (.slice q l c) a) := HC3.out.later hb4; have HB4 : Hid (Below w.heap.size w w4) := HB3.out.trans (hb4.mono HB3.out.size); clear hb4 hO4)
            | (go_at_call 12; refine H12.mono ?_; clear H12; rintro e w5 ⟨p5, l5, c5, rfl, hI5, hb5⟩; have HI5 : Hid (IsBytes w5.heap.size w5 p5 l5 c5 bQ) := hI5; have HA5 : Hid (ReqAt w5 w.heap.size (.slice p len cap) r) := HA4.out.later hb5; have HC5 : Hid (RepAt w5 (w.heap.size + 1) (.slice p2 len2 cap2) (.slice q l c) a) := HC4.out.later hb5; have HB5 : Hid (Below w.heap.size w w5) := HB4.out.trans (hb5.mono HB4.out.size); clear hI5 hb5)
            | ((with_reducible show wpList _ _ _ (Oper.mk _ (Op.store 28 (.tmp 7) (.tmp 31)) _ _ _ _ :: _) _ _); refine wpList_storeReq rfl (.tmp 7) (.tmp 31) rfl (.slice p5 l5 c5) rfl rQ HrQ.out rfl rfl (fun w6 hb6 hE6 => ?_); have HE6 : Hid (ReqAt w6 w5.heap.size (.slice p5 l5 c5) rQ) := hE6; have HI6 : Hid (IsBytes w6.heap.size w6 p5 l5 c5 bQ) := (HI5.out.below hb6).mono hb6.size; have HA6 : Hid (ReqAt w6 w.heap.size (.slice p len cap) r) := HA5.out.later hb6; have HC6 : Hid (RepAt w6 (w.heap.size + 1) (.slice p2 len2 cap2) (.slice q l c) a) := HC5.out.later hb6; have HB6 : Hid (Below w.heap.size w w6) := HB5.out.trans (hb6.mono HB5.out.size); clear hE6 hb6; simp only [Act.put])
            | ((with_reducible show wpList _ _ _ (Oper.mk (some 34) (Op.load 44 (.tmp 3)) _ _ _ _ :: _) _ _); refine wpList_loadRep rfl (.tmp 3) rfl rfl HOa.out HC6.out.row.range ?_; simp only [Act.put, List.setIfInBounds_toArray, List.set_cons_zero, List.set_cons_succ])
            | (go_at_call 16; refine (HP2.out w6 HB6.out).mono ?_; rintro e w7 ⟨v7, rfl, hO7, hb7⟩; obtain ⟨q7, k7, c7, hu7, H18⟩ := HO2.out w7 v7 (hO7.mono (Nat.zero_le _)); subst hu7; have HA7 : Hid (ReqAt w7 w.heap.size (.slice p len cap) r) := HA6.out.later hb7; have HC7 : Hid (RepAt w7 (w.heap.size + 1) (.slice p2 len2 cap2) (.slice q l c) a) := HC6.out.later hb7; have HE7 : Hid (ReqAt w7 w5.heap.size (.slice p5 l5 c5) rQ) := HE6.out.later hb7; have HI7 : Hid (IsBytes w7.heap.size w7 p5 l5 c5 bQ) := (HI6.out.below hb7).mono hb7.size; have HB7 : Hid (Below w.heap.size w w7) := HB6.out.trans (hb7.mono HB6.out.size); clear hb7 hO7)
            | (go_at_call 18; refine H18.mono ?_; clear H18; rintro e w8 ⟨p8, l8, c8, y8, m8, d8, rfl, hI8, hS8, hb8⟩; have HI8 : Hid (IsBytes w8.heap.size w8 p8 l8 c8 x) := hI8; have HS8 : Hid (IsStrs w8.heap.size w8 y8 m8 d8 xs) := hS8; have HA8 : Hid (ReqAt w8 w.heap.size (.slice p len cap) r) := HA7.out.later hb8; have HC8 : Hid (RepAt w8 (w.heap.size + 1) (.slice p2 len2 cap2) (.slice q l c) a) := HC7.out.later hb8; have HE8 : Hid (ReqAt w8 w5.heap.size (.slice p5 l5 c5) rQ) := HE7.out.later hb8; have HJ8 : Hid (IsBytes w8.heap.size w8 p5 l5 c5 bQ) := (HI7.out.below hb8).mono hb8.size; have HB8 : Hid (Below w.heap.size w w8) := HB7.out.trans (hb8.mono HB7.out.size); clear hI8 hS8 hb8)
            | ((with_reducible show wpList _ _ _ (Oper.mk _ (Op.store 44 (.tmp 11) (.tmp 41)) _ _ _ _ :: _) _ _); refine wpList_storeRep rfl (.tmp 11) (.tmp 41) rfl (.slice p8 l8 c8) (.slice y8 m8 d8) rfl rfl a HrP.out rfl rfl (fun w9 hb9 hE9 => ?_); have HE9 : Hid (RepAt w9 w8.heap.size (.slice p8 l8 c8) (.slice y8 m8 d8) a) := hE9; have HA9 : Hid (ReqAt w9 w.heap.size (.slice p len cap) r) := HA8.out.later hb9; have HC9 : Hid (RepAt w9 (w.heap.size + 1) (.slice p2 len2 cap2) (.slice q l c) a) := HC8.out.later hb9; have HF9 : Hid (ReqAt w9 w5.heap.size (.slice p5 l5 c5) rQ) := HE8.out.later hb9; have HJ9 : Hid (IsBytes w9.heap.size w9 p5 l5 c5 bQ) := (HJ8.out.below hb9).mono hb9.size; have HI9 : Hid (IsBytes w9.heap.size w9 p8 l8 c8 x) := (HI8.out.below hb9).mono hb9.size; have HS9 : Hid (IsStrs w9.heap.size w9 y8 m8 d8 xs) := HS8.out.later hb9; have HB9 : Hid (Below w.heap.size w w9) := HB8.out.trans (hb9.mono HB8.out.size); clear hE9 hb9; simp only [Act.put])
            | ((with_reducible show wpList _ _ _ (Oper.mk (some 61) (Op.load 44 (.tmp 11)) _ _ _ _ :: _) _ _); refine wpList_wantRep (by rfl) (.tmp 11) rfl rfl HrP.out HE9.out.row.range ?_; simp only [Act.put, List.setIfInBounds_toArray, List.set_cons_zero, List.set_cons_succ])
            | ((with_reducible show wpList _ _ _ (Oper.mk (some 62) (Op.load 44 (.tmp 3)) _ _ _ _ :: _) _ _); refine wpList_wantRep (by rfl) (.tmp 3) rfl rfl HOa.out HC9.out.row.range ?_; simp only [Act.put, List.setIfInBounds_toArray, List.set_cons_zero, List.set_cons_succ]; have HG := sameR_any p8 l8 c8 x y8 m8 d8 xs a p2 len2 cap2 x q l c xs a HrP.out HrP.out w9 HI9.out (HJW.out w9 HB9.out) HS9.out (HMW.out w9 HB9.out); rw [sameP_refl] at HG)
            | (go_at_call 21; refine HG.mono ?_; clear HG; rintro e w11 ⟨rfl, hb11⟩; have HC11 : Hid (RepAt w11 (w.heap.size + 1) (.slice p2 len2 cap2) (.slice q l c) a) := HC9.out.later hb11; have HE11 : Hid (RepAt w11 w8.heap.size (.slice p8 l8 c8) (.slice y8 m8 d8) a) := HE9.out.later hb11; have HI11 : Hid (IsBytes w11.heap.size w11 p8 l8 c8 x) := (HI9.out.below hb11).mono hb11.size; have HS11 : Hid (IsStrs w11.heap.size w11 y8 m8 d8 xs) := HS9.out.later hb11; have HB11 : Hid (Below w.heap.size w w11) := HB9.out.trans (hb11.mono HB9.out.size); clear hb11)
            | ((with_reducible show wpList _ _ _ (Oper.mk (some 66) (Op.load 44 (.tmp 11)) _ _ _ _ :: _) _ _); refine wpList_wantRep (by rfl) (.tmp 11) rfl rfl HrP.out HE11.out.row.range ?_; simp only [Act.put, List.setIfInBounds_toArray, List.set_cons_zero, List.set_cons_succ])
            | ((with_reducible show wpList _ _ _ (Oper.mk (some 67) (Op.load 44 (.tmp 3)) _ _ _ _ :: _) _ _); refine wpList_wantRep (by rfl) (.tmp 3) rfl rfl HOa.out HC11.out.row.range ?_; simp only [Act.put, List.setIfInBounds_toArray, List.set_cons_zero, List.set_cons_succ]; have HG := refSameR_any p8 l8 c8 x y8 m8 d8 xs a p2 len2 cap2 x q l c xs a HrP.out HrP.out w11 HI11.out (HJW.out w11 HB11.out) HS11.out (HMW.out w11 HB11.out); rw [sameP_refl] at HG)
            | (go_at_call 20; refine HG.mono ?_; clear HG; rintro e w12 ⟨rfl, hb12⟩))
          go_ret
          exact ⟨rfl, HB11.out.trans (hb12.mono HB11.out.size)⟩
        | false =>
          obtain rfl := HPf.out hm2
          clear HPt HPf hm2
          go_enter Try.func5, Try.ntmps5
          go_wp2_with (first
            | (rw [HW0.out])
            | (go_at_call 8; refine HAw.mono ?_; rintro e w1 ⟨rfl, hb1⟩; have HA1 : Hid (ReqAt w1 w.heap.size (.slice p len cap) r) := HA0.out.later hb1; have HC1 : Hid (RepAt w1 (w.heap.size + 1) (.slice p2 len2 cap2) (.slice q l c) a) := HC0.out.later hb1; have HB1 : Hid (Below w.heap.size w w1) := hb0.trans (hb1.mono hb0.size); clear hb1)
            | ((with_reducible show wpList _ _ _ (Oper.mk (some 15) (Op.load 28 (.tmp 2)) _ _ _ _ :: _) _ _); refine wpList_loadReq rfl (.tmp 2) rfl rfl HOk.out HA1.out.row.range ?_; simp only [Act.put, List.setIfInBounds_toArray, List.set_cons_zero, List.set_cons_succ])
            | (go_at_call 9; refine (F1.out w1).mono ?_; rintro e w2 ⟨rfl, hb2⟩; have HA2 : Hid (ReqAt w2 w.heap.size (.slice p len cap) r) := HA1.out.later hb2; have HC2 : Hid (RepAt w2 (w.heap.size + 1) (.slice p2 len2 cap2) (.slice q l c) a) := HC1.out.later hb2; have HB2 : Hid (Below w.heap.size w w2) := HB1.out.trans (hb2.mono HB1.out.size); clear hb2)
            | ((with_reducible show wpList _ _ _ (Oper.mk (some 19) (Op.load 44 (.tmp 3)) _ _ _ _ :: _) _ _); refine wpList_wantRep (by rfl) (.tmp 3) rfl rfl HOa.out HC2.out.row.range ?_; simp only [Act.put, List.setIfInBounds_toArray, List.set_cons_zero, List.set_cons_succ])
            | (go_at_call 15; refine (F2.out w2 HB2.out).mono ?_; rintro e w3 ⟨rfl, hb3⟩; have HA3 : Hid (ReqAt w3 w.heap.size (.slice p len cap) r) := HA2.out.later hb3; have HC3 : Hid (RepAt w3 (w.heap.size + 1) (.slice p2 len2 cap2) (.slice q l c) a) := HC2.out.later hb3; have HB3 : Hid (Below w.heap.size w w3) := HB2.out.trans (hb3.mono HB2.out.size); clear hb3)
            | ((with_reducible show wpList _ _ _ (Oper.mk (some 24) (Op.load 28 (.tmp 2)) _ _ _ _ :: _) _ _); refine wpList_loadReq rfl (.tmp 2) rfl rfl HOk.out HA3.out.row.range ?_; simp only [Act.put, List.setIfInBounds_toArray, List.set_cons_zero, List.set_cons_succ])
            | (go_at_call 10; refine (HP1.out w3 HB3.out).mono ?_; rintro e w4 ⟨v4, rfl, hO4, hb4⟩; obtain ⟨q4, k4, c4, hu4, H12⟩ := HO1.out w4 v4 (hO4.mono (Nat.zero_le _)); subst hu4; have HA4 : Hid (ReqAt w4 w.heap.size (.slice p len cap) r) := HA3.out.later hb4; have HC4 : Hid (RepAt w4 (w.heap.size + 1) (.slice p2 len2 cap2) (.slice q l c) a) := HC3.out.later hb4; have HB4 : Hid (Below w.heap.size w w4) := HB3.out.trans (hb4.mono HB3.out.size); clear hb4 hO4)
            | (go_at_call 12; refine H12.mono ?_; clear H12; rintro e w5 ⟨p5, l5, c5, rfl, hI5, hb5⟩; have HI5 : Hid (IsBytes w5.heap.size w5 p5 l5 c5 bQ) := hI5; have HA5 : Hid (ReqAt w5 w.heap.size (.slice p len cap) r) := HA4.out.later hb5; have HC5 : Hid (RepAt w5 (w.heap.size + 1) (.slice p2 len2 cap2) (.slice q l c) a) := HC4.out.later hb5; have HB5 : Hid (Below w.heap.size w w5) := HB4.out.trans (hb5.mono HB4.out.size); clear hI5 hb5)
            | ((with_reducible show wpList _ _ _ (Oper.mk _ (Op.store 28 (.tmp 7) (.tmp 31)) _ _ _ _ :: _) _ _); refine wpList_storeReq rfl (.tmp 7) (.tmp 31) rfl (.slice p5 l5 c5) rfl rQ HrQ.out rfl rfl (fun w6 hb6 hE6 => ?_); have HE6 : Hid (ReqAt w6 w5.heap.size (.slice p5 l5 c5) rQ) := hE6; have HI6 : Hid (IsBytes w6.heap.size w6 p5 l5 c5 bQ) := (HI5.out.below hb6).mono hb6.size; have HA6 : Hid (ReqAt w6 w.heap.size (.slice p len cap) r) := HA5.out.later hb6; have HC6 : Hid (RepAt w6 (w.heap.size + 1) (.slice p2 len2 cap2) (.slice q l c) a) := HC5.out.later hb6; have HB6 : Hid (Below w.heap.size w w6) := HB5.out.trans (hb6.mono HB5.out.size); clear hE6 hb6; simp only [Act.put])
            | ((with_reducible show wpList _ _ _ (Oper.mk (some 34) (Op.load 44 (.tmp 3)) _ _ _ _ :: _) _ _); refine wpList_loadRep rfl (.tmp 3) rfl rfl HOa.out HC6.out.row.range ?_; simp only [Act.put, List.setIfInBounds_toArray, List.set_cons_zero, List.set_cons_succ])
            | (go_at_call 16; refine (HP2.out w6 HB6.out).mono ?_; rintro e w7 ⟨v7, rfl, hO7, hb7⟩; obtain ⟨q7, k7, c7, hu7, H18⟩ := HO2.out w7 v7 (hO7.mono (Nat.zero_le _)); subst hu7; have HA7 : Hid (ReqAt w7 w.heap.size (.slice p len cap) r) := HA6.out.later hb7; have HC7 : Hid (RepAt w7 (w.heap.size + 1) (.slice p2 len2 cap2) (.slice q l c) a) := HC6.out.later hb7; have HE7 : Hid (ReqAt w7 w5.heap.size (.slice p5 l5 c5) rQ) := HE6.out.later hb7; have HI7 : Hid (IsBytes w7.heap.size w7 p5 l5 c5 bQ) := (HI6.out.below hb7).mono hb7.size; have HB7 : Hid (Below w.heap.size w w7) := HB6.out.trans (hb7.mono HB6.out.size); clear hb7 hO7)
            | (go_at_call 18; refine H18.mono ?_; clear H18; rintro e w8 ⟨p8, l8, c8, y8, m8, d8, rfl, hI8, hS8, hb8⟩; have HI8 : Hid (IsBytes w8.heap.size w8 p8 l8 c8 bP) := hI8; have HS8 : Hid (IsStrs w8.heap.size w8 y8 m8 d8 nP) := hS8; have HA8 : Hid (ReqAt w8 w.heap.size (.slice p len cap) r) := HA7.out.later hb8; have HC8 : Hid (RepAt w8 (w.heap.size + 1) (.slice p2 len2 cap2) (.slice q l c) a) := HC7.out.later hb8; have HE8 : Hid (ReqAt w8 w5.heap.size (.slice p5 l5 c5) rQ) := HE7.out.later hb8; have HJ8 : Hid (IsBytes w8.heap.size w8 p5 l5 c5 bQ) := (HI7.out.below hb8).mono hb8.size; have HB8 : Hid (Below w.heap.size w w8) := HB7.out.trans (hb8.mono HB7.out.size); clear hI8 hS8 hb8)
            | ((with_reducible show wpList _ _ _ (Oper.mk _ (Op.store 44 (.tmp 11) (.tmp 41)) _ _ _ _ :: _) _ _); refine wpList_storeRep rfl (.tmp 11) (.tmp 41) rfl (.slice p8 l8 c8) (.slice y8 m8 d8) rfl rfl rP HrP.out rfl rfl (fun w9 hb9 hE9 => ?_); have HE9 : Hid (RepAt w9 w8.heap.size (.slice p8 l8 c8) (.slice y8 m8 d8) rP) := hE9; have HA9 : Hid (ReqAt w9 w.heap.size (.slice p len cap) r) := HA8.out.later hb9; have HC9 : Hid (RepAt w9 (w.heap.size + 1) (.slice p2 len2 cap2) (.slice q l c) a) := HC8.out.later hb9; have HF9 : Hid (ReqAt w9 w5.heap.size (.slice p5 l5 c5) rQ) := HE8.out.later hb9; have HJ9 : Hid (IsBytes w9.heap.size w9 p5 l5 c5 bQ) := (HJ8.out.below hb9).mono hb9.size; have HI9 : Hid (IsBytes w9.heap.size w9 p8 l8 c8 bP) := (HI8.out.below hb9).mono hb9.size; have HS9 : Hid (IsStrs w9.heap.size w9 y8 m8 d8 nP) := HS8.out.later hb9; have HB9 : Hid (Below w.heap.size w w9) := HB8.out.trans (hb9.mono HB8.out.size); clear hE9 hb9; simp only [Act.put]))
          go_ret
          exact ⟨rfl, HB9.out⟩
end Go.Proofs.Ytedpgdldekkgdaa
