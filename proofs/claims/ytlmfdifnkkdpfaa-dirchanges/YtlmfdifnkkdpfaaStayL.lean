/-
  Lists of entries: a directory stays one.
-/
import Derived.Test.YtlmfdifnkkdpfaaWith
namespace Go.Proofs.Ytlmfdifnkkdpfaa
open Go.RowKit Go.Shelf

theorem rise_pair : ∀ (l : List (List Nat)), (∀ i, i + 1 < l.length → ltB (l.getD i []) (l.getD (i + 1) []) = true) → l.Pairwise fun a b => ltB a b = true
  | [], _ => List.Pairwise.nil
  | [a], _ => by simp
  | a :: b :: r, h => by
    have ih := rise_pair (b :: r) (fun i hi => by
      have := h (i + 1) (by simpa using hi)
      simpa only [List.getD_cons_succ] using this)
    have h0 := h 0 (by simp)
    simp only [List.getD_cons_succ, List.getD_cons_zero] at h0
    refine List.pairwise_cons.2 ⟨fun y hy => ?_, ih⟩
    rcases List.mem_cons.1 hy with rfl | hy
    · exact h0
    · exact ltB_trans _ _ _ h0 ((List.pairwise_cons.1 ih).1 y hy)
theorem riseB_pair (l : List (List Nat)) : riseB l = true ↔ l.Pairwise fun a b => ltB a b = true := by
  rw [riseB_iff]
  refine ⟨rise_pair l, fun h i hi => ?_⟩
  have := List.pairwise_iff_getElem.1 h i (i + 1) (by omega) hi (by omega)
  simpa [List.getElem?_eq_getElem hi, List.getElem?_eq_getElem (show i < l.length by omega)] using this
theorem goodE_iff (es : List Ent) : goodE es = true ↔ es.length ≤ 500 ∧ (es.Pairwise fun a b => ltB a.blind b.blind = true) ∧ (∀ e ∈ es, mayB e = true) ∧ es.Pairwise fun a b => bytesOf a.name ≠ bytesOf b.name := by
  rw [goodE, Bool.and_eq_true, Bool.and_eq_true, Bool.and_eq_true, decide_eq_true_eq, riseB_pair, blindsE, List.pairwise_map, List.all_eq_true, Bool.not_eq_true', dupB, decide_eq_false_iff_not, Decidable.not_not, List.Nodup, List.pairwise_map, namesE, List.pairwise_map]
theorem good_filt {es : List Ent} (pr : Ent → Bool) (h : goodE es = true) : goodE (filt pr es) = true := by
  obtain ⟨h1, h2, h3, h4⟩ := (goodE_iff es).1 h
  have hs : (filt pr es).Sublist es := List.filter_sublist
  exact (goodE_iff _).2 ⟨by have := hs.length_le; omega, h2.sublist hs, fun e he => h3 e (hs.subset he), h4.sublist hs⟩
theorem filt_with {e x : Ent} {es : List Ent} (h : x ∈ filt (withB e) es) : bytesOf x.name ≠ bytesOf e.name ∧ x.blind ≠ e.blind := by
  have h2 := (List.mem_filter.1 h).2
  rw [Bool.not_eq_true', withB, Bool.or_eq_false_iff, decide_eq_false_iff_not, nameB, text_eq, beq_eq_false_iff_ne] at h2
  exact h2
theorem before_find {pr : Ent → Bool} {F : List Ent} {y : Ent} (h : y ∈ F.take (F.findIdx pr)) : pr y = false := by
  rw [List.mem_take_iff_getElem] at h
  obtain ⟨j, hj, rfl⟩ := h
  simpa using List.not_of_lt_findIdx (p := pr) (show j < F.findIdx pr by omega)
theorem after_find {e : Ent} {F : List Ent} (hp : F.Pairwise fun a b => ltB a.blind b.blind = true) {y : Ent} (h : y ∈ F.drop (F.findIdx (overB e))) : overB e y = true := by
  have hlt : F.findIdx (overB e) < F.length := by
    apply Nat.lt_of_not_le
    intro hge
    rw [List.drop_of_length_le hge] at h
    cases h
  have h0 : overB e F[F.findIdx (overB e)] = true := List.findIdx_getElem
  rw [List.drop_eq_getElem_cons hlt] at h
  rcases List.mem_cons.1 h with rfl | h
  · exact h0
  · have hp2 := hp.sublist (List.drop_sublist (F.findIdx (overB e)) F)
    rw [List.drop_eq_getElem_cons hlt] at hp2
    exact ltB_trans _ _ _ h0 ((List.pairwise_cons.1 hp2).1 y h)
theorem insE_pair {R : Ent → Ent → Prop} {F : List Ent} {k : Nat} {e : Ent} (hF : F.Pairwise R) (h1 : ∀ y ∈ F.take k, R y e) (h2 : ∀ y ∈ F.drop k, R e y) : (insE F k e).Pairwise R := by
  rw [← List.take_append_drop k F, List.pairwise_append] at hF
  obtain ⟨p1, p2, p3⟩ := hF
  rw [insE, List.pairwise_append]
  refine ⟨p1, List.pairwise_cons.2 ⟨h2, p2⟩, fun a ha b hb => ?_⟩
  rcases List.mem_cons.1 hb with rfl | hb
  · exact h1 a ha
  · exact p3 a ha b hb
theorem insE_mem {F : List Ent} {k : Nat} {e x : Ent} (h : x ∈ insE F k e) : x = e ∨ x ∈ F := by
  rw [insE, List.mem_append, List.mem_cons] at h
  rcases h with h | rfl | h
  · exact .inr (List.mem_of_mem_take h)
  · exact .inl rfl
  · exact .inr (List.mem_of_mem_drop h)
theorem insE_self (F : List Ent) (k : Nat) (e : Ent) : e ∈ insE F k e := by rw [insE]; simp
/-- A good directory with an entry put in is one if the entry may stand there, and only then. -/
theorem good_with (e : Ent) {es : List Ent} (h : goodE es = true) (hl : es.length ≤ 400) : goodE (withL e es) = mayB e := by
  have hg := good_filt (withB e) h
  have hfl : (filt (withB e) es).length ≤ es.length := List.length_filter_le _ _
  have hw := fun x => filt_with (e := e) (x := x) (es := es)
  rw [withL]
  generalize filt (withB e) es = F at *
  obtain ⟨h1, h2, h3, h4⟩ := (goodE_iff F).1 hg
  rw [Bool.eq_iff_iff]
  constructor
  · intro hq
    exact ((goodE_iff _).1 hq).2.2.1 e (insE_self _ _ _)
  · intro hm
    refine (goodE_iff _).2 ⟨by rw [insE_length e List.findIdx_le_length]; omega, insE_pair h2 (fun y hy => ?_) (fun y hy => after_find h2 hy), fun x hx => ?_, insE_pair h4 (fun y hy => (hw y (List.mem_of_mem_take hy)).1) (fun y hy e => (hw y (List.mem_of_mem_drop hy)).1 e.symm)⟩
    · have hn : ltB e.blind y.blind = false := before_find hy
      cases hq : ltB y.blind e.blind with
      | true => rfl
      | false => exact absurd (ltB_total _ _ hq hn) (hw y (List.mem_of_mem_take hy)).2
    · rcases insE_mem hx with rfl | hx
      · exact hm
      · exact h3 x hx
/-- .. and the entry is what is found under its name. -/
theorem find_with (e : Ent) (es : List Ent) : ((withL e es).any fun x => nameB x e.name) = true ∧ ∃ k, firstN (fun x => nameB x e.name) (withL e es) = k ∧ k < (withL e es).length ∧ (withL e es).getD k noEnt = e := by
  have hw := fun x => filt_with (e := e) (x := x) (es := es)
  rw [withL]
  generalize filt (withB e) es = F at *
  have hk : F.findIdx (overB e) ≤ F.length := List.findIdx_le_length
  generalize F.findIdx (overB e) = k at *
  have hs : nameB e e.name = true := by rw [nameB]; simp
  have hT : (F.take k).length = k := by rw [List.length_take]; omega
  have hg : (insE F k e).getD k noEnt = e := by
    rw [insE, List.getD_eq_getElem?_getD, List.getElem?_append_right (by omega), hT, Nat.sub_self]; rfl
  have hlt : k < (insE F k e).length := by rw [insE_length e hk]; omega
  have ht : (insE F k e).take k = F.take k := by rw [insE]; exact List.take_left' hT
  have := first_hit (pr := fun x => nameB x e.name) hlt (by rw [hg]; exact hs) (by
    rw [ht, List.any_eq_false]
    intro x hx
    have := (hw x (List.mem_of_mem_take hx)).1
    rw [nameB, text_eq]
    simpa using this)
  exact ⟨this.1, k, this.2, hlt, hg⟩
end Go.Proofs.Ytlmfdifnkkdpfaa
