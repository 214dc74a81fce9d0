/-
  slices.Insert of one entry.
-/
import Derived.Test.YtlmfdifnkkdpfaaIns3
namespace Go.Proofs.Ytlmfdifnkkdpfaa
open Go.RowKit Go.Shelf

theorem OwnE.back {W : World} {n₀ : Nat} {q : Option Addr} {l c : Nat} {es : List Ent} (h : OwnE n₀ W (.slice q l c) es) : es.length = l ∧ ((q = none ∧ l = 0 ∧ c = 0) ∨ ∃ g cur, q = some ⟨g, 0, none⟩ ∧ n₀ ≤ g ∧ Row W g 43 cur ∧ l ≤ c ∧ c ≤ maxLen ∧ cur.length = c * 100 ∧ cur.take (l * 100) = es.flatMap entC) := by
  have hl : es.length = l := by obtain ⟨_, _, e⟩ := h.slice; cases e; rfl
  refine ⟨hl, ?_⟩
  unfold OwnE at h
  rw [hl] at h
  rcases h.2 with ⟨e, hz⟩ | ⟨g, c', cur, e, hg, hgg, hnc, hm, hs, ht⟩
  · cases e; exact .inl ⟨rfl, rfl, rfl⟩
  · cases e
    exact .inr ⟨g, cur.toList, rfl, hg, (by unfold Row; rw [Array.toArray_toList]; exact hgg), hnc, hm, by simpa using hs, ht⟩
theorem OwnE.mk {W : World} {n₀ : Nat} {g l c : Nat} {cur : List Value} {es : List Ent} (hl : es.length = l) (hok : ∀ e ∈ es, e.ok) (hg : n₀ ≤ g) (hr : Row W g 43 cur) (hlc : l ≤ c) (hm : c ≤ maxLen) (hs : cur.length = c * 100) (ht : cur.take (l * 100) = es.flatMap entC) : OwnE n₀ W (.slice (some ⟨g, 0, none⟩) l c) es := by
  unfold OwnE
  rw [hl]
  exact ⟨by rw [flatE_length hok, hl], .inr ⟨g, c, cur.toArray, rfl, hg, hr, hlc, hm, by simpa using hs, by simpa using ht⟩⟩
theorem insE_ok {F : List Ent} {i : Nat} {x : Ent} (hok : ∀ e ∈ F, e.ok) (hx : x.ok) : ∀ e ∈ insE F i x, e.ok := fun e he => by
  rw [insE, List.mem_append, List.mem_cons] at he
  rcases he with he | rfl | he
  · exact hok e (List.mem_of_mem_take he)
  · exact hx
  · exact hok e (List.mem_of_mem_drop he)
theorem insE_length {F : List Ent} {i : Nat} (x : Ent) (hi : i ≤ F.length) : (insE F i x).length = F.length + 1 := by
  simp [insE]; omega

set_option maxRecDepth 100000 in
set_option maxHeartbeats 1000000 in
theorem ins_end (base : Nat) (q : Option Addr) (l c : Nat) (F : List Ent) (x : Ent) (w : World) (hO : OwnE base w (.slice q l c) F) (hx : x.ok) (vb : Nat) (hRv : Row w vb 43 (entC x)) (hlen : l ≤ 100000) (hb : base ≤ w.heap.size) :
    Calls Try.prog 54 #[.slice q l c, .int .i64 l, .slice (some ⟨vb, 0, none⟩) 1 1] w fun e w' => ∃ q' l' c', e = .returned (.slice q' l' c') ∧ OwnE base w' (.slice q' l' c') (F ++ [x]) ∧ Below base w w' := by
  have hB := hO.back
  obtain ⟨ue, we, hrune, hoe, hge⟩ := run_append_ent w base 22 (.slice q l c) F hO vb x hx hRv.range (by omega) hb
  obtain ⟨qe, ce, hue⟩ := hoe.slice
  subst hue
  have HOe : Hid (OwnE base we (.slice qe (F ++ [x]).length ce) (F ++ [x])) := hoe
  have HBe : Hid (Below base w we) := (Below.refl base w).grown hge hb (fun j ej => (World.ownsRow.lt hO j ej).1)
  have HRn : Hid ((Builtin.append_ #[22, 22] 22 #[.slice q l c, .slice (some ⟨vb, 0, none⟩) 1 1]).run Try.prog w = .ok (.slice qe (F ++ [x]).length ce) we) := hrune
  clear hrune hoe hge hO hRv hx
  generalize (F ++ [x]).length = le at *
  generalize F ++ [x] = F1 at *
  obtain ⟨_, ⟨rfl, rfl, rfl⟩ | ⟨g, cur, rfl, hg, hr, hlc, hcm, hcl, ht⟩⟩ := hB
  · go_enter Try.func54, Try.ntmps54
    go_wp2_with (at_builtin; refine Lib.wpList_append_run _ rfl _ _ _ _ rfl _ _ rfl rfl _ _ HRn.out ?_)
    go_ret
    exact ⟨_, _, _, rfl, HOe.out, HBe.out⟩
  · have hlc' : (l : Int) ≤ (c : Int) := by omega
    clear hr ht
    have hc63' : c ≤ 9223372036854775807 := by simpa only [maxLen] using hcm
    by_cases hcc : c = l
    · subst hcc
      go_enter Try.func54, Try.ntmps54
      go_wp2_with (at_builtin; refine Lib.wpList_append_run _ rfl _ _ _ _ rfl _ _ rfl rfl _ _ HRn.out ?_)
      go_ret
      exact ⟨_, _, _, rfl, HOe.out, HBe.out⟩
    · go_enter Try.func54, Try.ntmps54
      go_wp2_with (at_builtin; refine Lib.wpList_append_run _ rfl _ _ _ _ rfl _ _ rfl rfl _ _ HRn.out ?_)
      go_ret
      exact ⟨_, _, _, rfl, HOe.out, HBe.out⟩

theorem insert_any (base : Nat) (q : Option Addr) (l c i : Nat) (F : List Ent) (x : Ent) (w : World) (hO : OwnE base w (.slice q l c) F) (hok : ∀ e ∈ F, e.ok) (hx : x.ok) (hi : i ≤ l) (vb : Nat) (hRv : Row w vb 43 (entC x)) (hne : ∀ a, q = some a → vb ≠ a.block) (hlen : l ≤ 100000) (hb : base ≤ w.heap.size) :
    Calls Try.prog 54 #[.slice q l c, .int .i64 i, .slice (some ⟨vb, 0, none⟩) 1 1] w fun e w' => ∃ q' l' c', e = .returned (.slice q' l' c') ∧ OwnE base w' (.slice q' l' c') (insE F i x) ∧ Below base w w' := by
  have hB := hO.back
  by_cases hil : i = l
  · subst hil
    have h := ins_end base q i c F x w hO hx vb hRv hlen hb
    rw [insE, List.take_of_length_le (by omega), List.drop_of_length_le (by omega)]
    exact h
  obtain ⟨hF, ⟨rfl, rfl, rfl⟩ | ⟨g, cur, rfl, hg, hr, hlc, hcm, hcl, ht⟩⟩ := hB
  · omega
  by_cases hr1 : c < l + 1
  · refine (ins_grow g l c i vb cur F x hok hx hF w hr hcl ht hRv (by omega) hlc hr1 hlen).mono ?_
    rintro e w' ⟨G, cur', rfl, h1, h2, h3, h4, h5, h6⟩
    exact ⟨_, _, _, rfl, OwnE.mk (by rw [insE_length x (by omega), hF]) (insE_ok hok hx) hb h3 h1 h2 h4 h5, h6.mono hb⟩
  · refine (ins_room g l c i vb cur F x hok hx hF w hr hcl ht hRv (hne _ rfl) (by omega) (by omega) hcm).mono ?_
    rintro e w' ⟨rfl, rfl⟩
    have hT : (F.take i).length = i := by rw [List.length_take, hF]; omega
    have hTo : ∀ e ∈ F.take i, e.ok := fun e he => hok e (List.mem_of_mem_take he)
    have hD : (F.drop i).length = l - i := by rw [List.length_drop, hF]
    have hDo : ∀ e ∈ F.drop i, e.ok := fun e he => hok e (List.mem_of_mem_drop he)
    have hins := ins_row1 cur ((F.take i).flatMap entC) (entC x) ((F.drop i).flatMap entC) (by
      rw [flatE_length hTo, hT, ← flatE_take hok, ← ht, List.take_take, Nat.min_eq_left (by omega)]) (by rw [flatE_length hTo, hT, entC_length hx, flatE_length hDo, hD, hcl]; omega)
    rw [flatE_length hTo, hT, entC_length hx, flatE_length hDo, hD, hcl, show i * 100 + 100 = (i + 1) * 100 by omega, show (i + 1) * 100 + (l - i) * 100 = (l + 1) * 100 by omega] at hins
    refine ⟨_, _, _, rfl, OwnE.mk (by rw [insE_length x (by omega), hF]) (insE_ok hok hx) hg (Row.sets _ _ (Row.sets _ _ hr.drew)) (by omega) hcm hins.2 ?_, below_setCells hg _ _ (below_setCells hg _ _ (Below.refl _ w).drew)⟩
    rw [hins.1]
    simp [insE]
end Go.Proofs.Ytlmfdifnkkdpfaa
