/-
  DirBack: the walk.
-/
import Derived.Test.YtlmfdifnkkdpfaaReadsW
namespace Go.Proofs.Ytlmfdifnkkdpfaa
open Go.RowKit Go.Shelf

theorem few_bytes {es : List Ent} (h : fewB es = true) (hok : ∀ e ∈ es, e.ok) (hg : goodE es = true) : (encsE es).length ≤ 60000 := by
  have h1 := flat_length es (fun e he => ⟨hok e he, goodE_may hg e he⟩)
  have h2 := few_len h
  have h3 := encN_ten (n := es.length) (by omega)
  rw [encsE, List.length_append]
  omega
theorem encsE_bytes {es : List Ent} (hok : ∀ e ∈ es, e.ok) : ∀ z ∈ encsE es, z < 256 := fun z hz => by
  rcases List.mem_append.1 hz with h | h
  · exact encN_bytes _ z h
  · exact flat_bytes es hok z h

set_option maxRecDepth 100000 in
set_option maxHeartbeats 1000000 in
theorem dirBack_walk (p : Option Addr) (len cap : Nat) (es : List Ent) (pb : Option Addr) (lb cb : Nat) (zs : List Nat) (w : World) (hI : IsEnts w.heap.size w p len cap es) (hJ : IsBytes w.heap.size w pb lb cb zs) :
    Calls Try.prog 5 #[.slice p len cap, .slice pb lb cb] w fun e w' => e = .returned (.bool true) ∧ Below w.heap.size w w' := by
  have HI : Hid (IsEnts w.heap.size w p len cap es) := hI
  have HJ : Hid (IsBytes w.heap.size w pb lb cb zs) := hJ
  have HA := awake_any w
  cases hf : fewB es with
  | false =>
    clear hI hJ
    go_enter Try.func5, Try.ntmps5
    go_wp2_with (first
      | (go_at_call 8; refine HA.mono ?_; rintro e w1 ⟨rfl, hb1⟩)
      | (go_at_call 9; refine (few_any p len cap es w1 (HI.out.later hb1)).mono ?_; rintro e w2 ⟨rfl, hb2⟩; rw [hf]))
    go_ret
    exact ⟨rfl, hb1.trans (hb2.mono hb1.size)⟩
  | true =>
    by_cases h3 : 3000 < lb
    · have h3i : (3000 : Int) < (lb : Int) := by omega
      clear hI hJ
      go_enter Try.func5, Try.ntmps5
      go_wp2_with (first
        | (go_at_call 8; refine HA.mono ?_; rintro e w1 ⟨rfl, hb1⟩)
        | (go_at_call 9; refine (few_any p len cap es w1 (HI.out.later hb1)).mono ?_; rintro e w2 ⟨rfl, hb2⟩; rw [hf]))
      go_ret
      exact ⟨rfl, hb1.trans (hb2.mono hb1.size)⟩
    · have h3i : ¬ (3000 : Int) < (lb : Int) := by omega
      have HN : Hid (∀ e ∈ es, e.name.size ≤ 1000000) := fun e he => by have := few_name hf e he; omega
      have hoks := hI.2.2.2.1
      have HZ : Hid (∀ z ∈ zs, z < 256) := hJ.2.2.2.1
      have HL : Hid (es.length = len) := hI.1
      -- Of of what Put answers
      obtain ⟨X, hX⟩ : ∃ X, (if goodE es then encsE es else []) = X := ⟨_, rfl⟩
      have HXb : Hid (∀ z ∈ X, z < 256) := by
        rw [← hX]
        split
        · exact encsE_bytes hoks
        · intro z hz; cases hz
      have HXl : Hid (X.length ≤ 60000) := by
        rw [← hX]
        show _ ≤ _
        split
        · rename_i hg; exact few_bytes hf hoks hg
        · simp
      have HGood : Hid (goodE es = true → gotE X = es ∧ gotN X = 0) := fun hg => by
        obtain ⟨h1, h2⟩ := dir_back hoks hg
        rw [hg, if_pos rfl] at hX
        subst hX
        exact ⟨by rw [gotE, h2, if_pos rfl, h1], by rw [gotN, h2, if_pos rfl]⟩
      have HPut : Hid (∀ W, Below w.heap.size w W → Calls Try.prog 10 #[.slice p len cap] W fun e w' => ∃ q l c, e = .returned (.tuple #[.slice q l c, .int .i64 (if goodE es then 0 else 110)]) ∧ IsBytes w'.heap.size w' q l c X ∧ Below W.heap.size W w') := fun W h => by
        refine (put_any p len cap es W (HI.out.later h) HN.out).mono ?_
        rintro e w' ⟨v, rfl, hO, hb⟩
        obtain ⟨q, l, c, rfl⟩ := own_any_slice hO
        rw [hX] at hO
        exact ⟨q, l, c, rfl, hO.bytes HXb.out, hb⟩
      have HOfX : Hid (∀ W q l c, IsBytes W.heap.size W q l c X → Calls Try.prog 14 #[.slice q l c] W fun e w' => ∃ q c, e = .returned (.tuple #[.slice q (gotE X).length c, .int .i64 (gotN X)]) ∧ IsEnts w'.heap.size w' q (gotE X).length c (gotE X) ∧ Below W.heap.size W w') := fun W q l c h => of_got q l c X W h (by have := HXl.out; have := h.1; omega)
      have HOfB : Hid (∀ W, Below w.heap.size w W → Calls Try.prog 14 #[.slice pb lb cb] W fun e w' => ∃ q c, e = .returned (.tuple #[.slice q (gotE zs).length c, .int .i64 (gotN zs)]) ∧ IsEnts w'.heap.size w' q (gotE zs).length c (gotE zs) ∧ Below W.heap.size W w') := fun W h => of_got pb lb cb zs W (HJ.out.later h) (by omega)
      have HBk : Hid (gotN zs = 0 → goodE (gotE zs) = true ∧ encsE (gotE zs) = zs) := fun h => by
        cases hd : isDir zs with
        | false => rw [gotN, hd] at h; simp at h
        | true =>
          rw [gotE, hd, if_pos rfl]
          rw [isDir, Bool.and_eq_true, decide_eq_true_eq] at hd
          exact ⟨hd.2, dir_once HZ.out hd.1⟩
      have HNz : Hid (∀ e ∈ gotE zs, e.name.size ≤ 1000000) := gotE_name HZ.out
      clear hX hI hJ hoks
      generalize gotN zs = Nz at *
      generalize gotE zs = Ez at *
      generalize hXe : gotE X = Ex at *
      generalize hXn : gotN X = Nx at *
      clear hXe hXn
      cases hg : goodE es with
      | true =>
        obtain ⟨hE1, hN1⟩ := HGood.out hg
        rw [hE1, hN1, HL.out] at HOfX
        clear hE1 hN1
        by_cases hz : Nz = 0
        · subst hz
          have HBk2 : Hid (goodE Ez = true ∧ encsE Ez = zs) := HBk.out rfl
          clear HBk HGood
          go_enter Try.func5, Try.ntmps5
          go_wp2_with (first
            | (go_at_call 8; refine HA.mono ?_; rintro e w1 ⟨rfl, hb1⟩)
            | (go_at_call 9; refine (few_any p len cap es w1 (HI.out.later hb1)).mono ?_; rintro e w2 ⟨rfl, hb2⟩; rw [hf]; have HB2 : Hid (Below w.heap.size w w2) := hb1.trans (hb2.mono hb1.size); clear hb1 hb2)
            | (go_at_call 10; have hdone := HB2.out; refine (HPut.out w2 HB2.out).mono ?_; rintro e w3 ⟨q3, l3, c3, rfl, hx3, hb3⟩; rw [hg]; have HX3 : Hid (IsBytes w3.heap.size w3 q3 l3 c3 X) := hx3; have HB3 : Hid (Below w.heap.size w w3) := HB2.out.trans (hb3.mono HB2.out.size); clear hdone hx3 hb3 HB2)
            | (go_at_call 14; have hdone := HX3.out; refine (HOfX.out w3 q3 l3 c3 HX3.out).mono ?_; rintro e w4 ⟨q4, c4, rfl, he4, hb4⟩; have HE4 : Hid (IsEnts w4.heap.size w4 q4 len c4 es) := he4; have HB4 : Hid (Below w.heap.size w w4) := HB3.out.trans (hb4.mono HB3.out.size); clear hdone he4 hb4 HB3 HX3)
            | (go_at_call 16; have hdone := HE4.out; refine (sameEnts_any q4 len c4 p cap es w4 HE4.out (HI.out.later HB4.out) HN.out).mono ?_; rintro e wx ⟨rfl, hbx⟩; have HBx : Hid (Below w.heap.size w wx) := HB4.out.trans (hbx.mono HB4.out.size); clear hdone hbx HB4 HE4)
            | (go_at_call 14; have hdone := HBx.out; refine (HOfB.out wx HBx.out).mono ?_; rintro e w6 ⟨q6, c6, rfl, he6, hb6⟩; have HE6 : Hid (IsEnts w6.heap.size w6 q6 Ez.length c6 Ez) := he6; have HB6 : Hid (Below w.heap.size w w6) := HBx.out.trans (hb6.mono HBx.out.size); clear hdone he6 hb6 HBx)
            | (go_at_call 10; have hdone := HE6.out; refine (put_any q6 Ez.length c6 Ez w6 HE6.out HNz.out).mono ?_; rintro e w7 ⟨v7, rfl, hO7, hb7⟩; obtain ⟨q7, l7, c7, hu7⟩ := own_any_slice hO7; subst hu7; have HB7 : Hid (Below w.heap.size w w7) := HB6.out.trans (hb7.mono HB6.out.size); rw [HBk2.out.1] at hO7 ⊢; have hs1 := (own_str hO7).here; rw [if_pos rfl, HBk2.out.2] at hs1; have hs2 := ((str_of_bytes HJ.out).later HB7.out).here;  clear hdone hb7 HB6 HE6))
          all_goals go_ret
          all_goals exact ⟨rfl, HB7.out⟩
        · have hz0 : (Nz != 0) = true := by simpa using hz
          clear HBk HGood
          go_enter Try.func5, Try.ntmps5
          go_wp2_with (first
            | (go_at_call 8; refine HA.mono ?_; rintro e w1 ⟨rfl, hb1⟩)
            | (go_at_call 9; refine (few_any p len cap es w1 (HI.out.later hb1)).mono ?_; rintro e w2 ⟨rfl, hb2⟩; rw [hf]; have HB2 : Hid (Below w.heap.size w w2) := hb1.trans (hb2.mono hb1.size); clear hb1 hb2)
            | (go_at_call 10; have hdone := HB2.out; refine (HPut.out w2 HB2.out).mono ?_; rintro e w3 ⟨q3, l3, c3, rfl, hx3, hb3⟩; rw [hg]; have HX3 : Hid (IsBytes w3.heap.size w3 q3 l3 c3 X) := hx3; have HB3 : Hid (Below w.heap.size w w3) := HB2.out.trans (hb3.mono HB2.out.size); clear hdone hx3 hb3 HB2)
            | (go_at_call 14; have hdone := HX3.out; refine (HOfX.out w3 q3 l3 c3 HX3.out).mono ?_; rintro e w4 ⟨q4, c4, rfl, he4, hb4⟩; have HE4 : Hid (IsEnts w4.heap.size w4 q4 len c4 es) := he4; have HB4 : Hid (Below w.heap.size w w4) := HB3.out.trans (hb4.mono HB3.out.size); clear hdone he4 hb4 HB3 HX3)
            | (go_at_call 16; have hdone := HE4.out; refine (sameEnts_any q4 len c4 p cap es w4 HE4.out (HI.out.later HB4.out) HN.out).mono ?_; rintro e wx ⟨rfl, hbx⟩; have HBx : Hid (Below w.heap.size w wx) := HB4.out.trans (hbx.mono HB4.out.size); clear hdone hbx HB4 HE4)
            | (go_at_call 14; have hdone := HBx.out; refine (HOfB.out wx HBx.out).mono ?_; rintro e w6 ⟨q6, c6, rfl, he6, hb6⟩; have HE6 : Hid (IsEnts w6.heap.size w6 q6 Ez.length c6 Ez) := he6; have HB6 : Hid (Below w.heap.size w w6) := HBx.out.trans (hb6.mono HBx.out.size); clear hdone he6 hb6 HBx)
            | (go_at_call 10; have hdone := HE6.out; refine (put_any q6 Ez.length c6 Ez w6 HE6.out HNz.out).mono ?_; rintro e w7 ⟨v7, rfl, hO7, hb7⟩; obtain ⟨q7, l7, c7, hu7⟩ := own_any_slice hO7; subst hu7; have HB7 : Hid (Below w.heap.size w w7) := HB6.out.trans (hb7.mono HB6.out.size);  clear hdone hb7 HB6 HE6))
          all_goals go_ret
          all_goals exact ⟨rfl, HB7.out⟩
      | false =>
        by_cases hz : Nz = 0
        · subst hz
          have HBk2 : Hid (goodE Ez = true ∧ encsE Ez = zs) := HBk.out rfl
          clear HBk HGood
          go_enter Try.func5, Try.ntmps5
          go_wp2_with (first
            | (go_at_call 8; refine HA.mono ?_; rintro e w1 ⟨rfl, hb1⟩)
            | (go_at_call 9; refine (few_any p len cap es w1 (HI.out.later hb1)).mono ?_; rintro e w2 ⟨rfl, hb2⟩; rw [hf]; have HB2 : Hid (Below w.heap.size w w2) := hb1.trans (hb2.mono hb1.size); clear hb1 hb2)
            | (go_at_call 10; have hdone := HB2.out; refine (HPut.out w2 HB2.out).mono ?_; rintro e w3 ⟨q3, l3, c3, rfl, hx3, hb3⟩; rw [hg]; have HX3 : Hid (IsBytes w3.heap.size w3 q3 l3 c3 X) := hx3; have HB3 : Hid (Below w.heap.size w w3) := HB2.out.trans (hb3.mono HB2.out.size); clear hdone hx3 hb3 HB2)
            | (go_at_call 14; have hdone := HX3.out; refine (HOfX.out w3 q3 l3 c3 HX3.out).mono ?_; rintro e w4 ⟨q4, c4, rfl, he4, hb4⟩; have HE4 : Hid (IsEnts w4.heap.size w4 q4 Ex.length c4 Ex) := he4; have HB4 : Hid (Below w.heap.size w w4) := HB3.out.trans (hb4.mono HB3.out.size); clear hdone he4 hb4 HB3 HX3)
            | (go_at_call 14; have hdone := HB4.out; refine (HOfB.out w4 HB4.out).mono ?_; rintro e w6 ⟨q6, c6, rfl, he6, hb6⟩; have HE6 : Hid (IsEnts w6.heap.size w6 q6 Ez.length c6 Ez) := he6; have HB6 : Hid (Below w.heap.size w w6) := HB4.out.trans (hb6.mono HB4.out.size); clear hdone he6 hb6 HB4)
            | (go_at_call 10; have hdone := HE6.out; refine (put_any q6 Ez.length c6 Ez w6 HE6.out HNz.out).mono ?_; rintro e w7 ⟨v7, rfl, hO7, hb7⟩; obtain ⟨q7, l7, c7, hu7⟩ := own_any_slice hO7; subst hu7; have HB7 : Hid (Below w.heap.size w w7) := HB6.out.trans (hb7.mono HB6.out.size); rw [HBk2.out.1] at hO7 ⊢; have hs1 := (own_str hO7).here; rw [if_pos rfl, HBk2.out.2] at hs1; have hs2 := ((str_of_bytes HJ.out).later HB7.out).here;  clear hdone hb7 HB6 HE6))
          all_goals go_ret
          all_goals exact ⟨rfl, HB7.out⟩
        · have hz0 : (Nz != 0) = true := by simpa using hz
          clear HBk HGood
          go_enter Try.func5, Try.ntmps5
          go_wp2_with (first
            | (go_at_call 8; refine HA.mono ?_; rintro e w1 ⟨rfl, hb1⟩)
            | (go_at_call 9; refine (few_any p len cap es w1 (HI.out.later hb1)).mono ?_; rintro e w2 ⟨rfl, hb2⟩; rw [hf]; have HB2 : Hid (Below w.heap.size w w2) := hb1.trans (hb2.mono hb1.size); clear hb1 hb2)
            | (go_at_call 10; have hdone := HB2.out; refine (HPut.out w2 HB2.out).mono ?_; rintro e w3 ⟨q3, l3, c3, rfl, hx3, hb3⟩; rw [hg]; have HX3 : Hid (IsBytes w3.heap.size w3 q3 l3 c3 X) := hx3; have HB3 : Hid (Below w.heap.size w w3) := HB2.out.trans (hb3.mono HB2.out.size); clear hdone hx3 hb3 HB2)
            | (go_at_call 14; have hdone := HX3.out; refine (HOfX.out w3 q3 l3 c3 HX3.out).mono ?_; rintro e w4 ⟨q4, c4, rfl, he4, hb4⟩; have HE4 : Hid (IsEnts w4.heap.size w4 q4 Ex.length c4 Ex) := he4; have HB4 : Hid (Below w.heap.size w w4) := HB3.out.trans (hb4.mono HB3.out.size); clear hdone he4 hb4 HB3 HX3)
            | (go_at_call 14; have hdone := HB4.out; refine (HOfB.out w4 HB4.out).mono ?_; rintro e w6 ⟨q6, c6, rfl, he6, hb6⟩; have HE6 : Hid (IsEnts w6.heap.size w6 q6 Ez.length c6 Ez) := he6; have HB6 : Hid (Below w.heap.size w w6) := HB4.out.trans (hb6.mono HB4.out.size); clear hdone he6 hb6 HB4)
            | (go_at_call 10; have hdone := HE6.out; refine (put_any q6 Ez.length c6 Ez w6 HE6.out HNz.out).mono ?_; rintro e w7 ⟨v7, rfl, hO7, hb7⟩; obtain ⟨q7, l7, c7, hu7⟩ := own_any_slice hO7; subst hu7; have HB7 : Hid (Below w.heap.size w w7) := HB6.out.trans (hb7.mono HB6.out.size);  clear hdone hb7 HB6 HE6))
          all_goals go_ret
          all_goals exact ⟨rfl, HB7.out⟩
end Go.Proofs.Ytlmfdifnkkdpfaa
