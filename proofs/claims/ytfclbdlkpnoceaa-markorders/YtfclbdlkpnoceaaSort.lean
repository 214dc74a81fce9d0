/-
  slices.SortFunc of ids by envel.compare: the same ids, sorted.
-/
import Derived.Test.YtfclbdlkpnoceaaSortLay
import Derived.Test.YtfclbdlkpnoceaaCmp
namespace Go.Proofs.Ytfclbdlkpnoceaa
open Go.RowKit Go.Shelf Go.Sort

/-- An id as the sort's contract takes it. -/
abbrev Id32 := { x : List Nat // IsId x }
def encId (x : Id32) : List Value := u8s x.1
def zeroId : Id32 := ⟨List.replicate 32 0, by unfold IsId; exact ⟨by simp, fun z hz => by rw [List.eq_of_mem_replicate hz]; omega⟩⟩
def cfId (x y : Id32) : Int := cmpB x.1 y.1
theorem ltOf_id (x y : Id32) : ltOf cfId x y = ltB x.1 y.1 := cmpB_lss x.1 y.1
theorem swoId : SWO (ltOf cfId) :=
  ⟨fun x => by rw [ltOf_id]; exact ltB_irrefl _, fun x y z h1 h2 => by rw [ltOf_id] at *; exact ltB_trans _ _ _ h1 h2, fun x y z h1 h2 => by rw [ltOf_id] at *; exact ltB_ntrans _ _ _ h1 h2⟩
theorem ids_attached : ∀ (ids : List (List Nat)), (∀ x ∈ ids, IsId x) → ∃ l : List Id32, l.map (·.1) = ids
  | [], _ => ⟨[], rfl⟩
  | x :: r, h => by
    obtain ⟨l, hl⟩ := ids_attached r (fun y hy => h y (List.mem_cons_of_mem _ hy))
    exact ⟨⟨x, h x List.mem_cons_self⟩ :: l, by rw [List.map_cons, hl]⟩
theorem compare_lays [Inhabited Id32] (blk off size : Nat) (w : World) : CmpLays Try.prog 41 #[] encId 32 cfId blk off size w := fun m os dk _ x y => by
  refine Calls.mono (compare_any x.1 y.1 x.2 y.2 _) ?_
  rintro e w' ⟨he, q, hw⟩
  refine ⟨he, q, #[.cells (u8s x.1).toArray 33, .cells (u8s y.1).toArray 33], ?_⟩
  rw [hw, alloc_eq_grow, alloc_eq_grow, grow_grow]
  rfl

/-- The ids of a row, as the sort's contract tells them. -/
theorem holds_ids [Inhabited Id32] {W : World} {g n cap : Nat} {l : List Id32} {cur : List Value} (hr : Row W g 33 cur) (hI : IsIds W.heap.size W (some ⟨g, 0, none⟩) n cap (l.map (·.1))) : HoldsK encId 32 W g 0 l.toArray := by
  intro j hj
  rw [size_flatK] at hj
  have hl : l.length = n := by simpa using hI.1
  have hjn : j < n * 32 := by simpa [hl] using hj
  have hi : j / 32 < n := by omega
  refine ⟨?_, hr.frozen _⟩
  rw [get_flatK _ _ _ _ hj]
  rcases hI.2.2.2.2 with h0 | ⟨b, off, e, _, hc⟩
  · omega
  · cases e
    have hil : j / 32 < l.length := by omega
    have h1 := hc (j / 32) hi
    have e1 : (l.map (·.1)).getD (j / 32) [] = (l[j / 32]).1 := by simp [List.getElem?_eq_getElem hil]
    have e2 : l.toArray[j / 32]! = l[j / 32] := by simp [hil]
    rw [e1] at h1
    rw [e2]
    have h32 : (encId l[j / 32]).length = 32 := by unfold encId; rw [u8s_length]; exact (l[j / 32]).2.1
    have hm : j % 32 < (encId l[j / 32]).length := by omega
    have h2 := h1 (j % 32) _ (List.getElem?_eq_getElem (l := encId l[j / 32]) hm)
    rw [show 0 + j / 32 * 32 + j % 32 = 0 + j by omega] at h2
    rw [h2]
    refine congrArg some ?_
    exact (getElem!_pos (encId l[j / 32]) (j % 32) hm).symm
theorem ids_holds [Inhabited Id32] {W : World} {g n cap : Nat} {d : Array Id32} (hd : d.size = n) (hn : n ≤ cap) (hc : cap ≤ 9223372036854775807) (hg : g < W.heap.size) (h : HoldsK encId 32 W g 0 d) : IsIds W.heap.size W (some ⟨g, 0, none⟩) n cap (d.toList.map (·.1)) := by
  refine ⟨by simpa using hd, hn, hc, fun x hx => ?_, .inr ⟨g, 0, rfl, hg, fun i hi r v hv => ?_⟩⟩
  · obtain ⟨y, _, rfl⟩ := List.mem_map.1 hx
    exact y.2
  · have hil : i < d.toList.length := by simpa [hd] using hi
    have e1 : (d.toList.map (·.1)).getD i [] = (d.toList[i]).1 := by simp [List.getElem?_eq_getElem hil]
    rw [e1] at hv
    have h32 : (u8s (d.toList[i]).1).length = 32 := by rw [u8s_length]; exact (d.toList[i]).2.1
    have hr : r < 32 := by
      rcases Nat.lt_or_ge r 32 with h | h
      · exact h
      · rw [List.getElem?_eq_none (by omega)] at hv; cases hv
    have hj : i * 32 + r < d.size * 32 := by rw [hd]; omega
    have h1 := (h (i * 32 + r) (by rw [size_flatK]; exact hj)).1
    rw [get_flatK _ _ _ _ hj, show (i * 32 + r) / 32 = i by omega, show (i * 32 + r) % 32 = r by omega] at h1
    have e2 : d[i]! = d.toList[i] := by rw [getElem!_pos d i (by simpa using hil)]; simp
    rw [e2] at h1
    rw [show 0 + i * 32 + r = 0 + (i * 32 + r) by omega]
    refine h1.trans ?_
    show some ((u8s (d.toList[i]).1)[r]!) = some v
    rw [getElem!_pos _ _ (by omega)]
    rw [List.getElem?_eq_getElem (by omega)] at hv
    exact hv

/-- The world behind the sort: below the row nothing has turned. -/
theorem below_sorted [Inhabited Id32] (W : World) (g n : Nat) (hg : g < W.heap.size) (d : Array Id32) (os : Array Obj) : Below g W (sortWorldK encId 32 W g 0 n d os) := by
  refine ⟨rfl, rfl, rfl, ?_, fun k hk => ?_⟩
  · simp [sortWorldK, grow, putRowK, putRow, mapBlock, Sort.ahead]
  · simp only [sortWorldK, grow, putRowK, putRow, mapBlock, Sort.ahead]
    rw [Array.getElem?_append_left (by simp; omega), Array.getElem?_modify, if_neg (by omega)]

/-- slices.SortFunc -/
theorem sort_core [Inhabited Id32] (g n cap : Nat) (ids : List (List Nat)) (cur : List Value) (w : World) (hr : Row w g 33 cur) (hI : IsIds w.heap.size w (some ⟨g, 0, none⟩) n cap ids) (hn : n ≤ 100000) :
    Calls Try.prog 40 #[.slice (some ⟨g, 0, none⟩) n cap, .func (.func 41) #[] #[]] w fun e w' => e = .returned (.tuple #[]) ∧ ∃ s, s.Perm ids ∧ (s.Pairwise fun a b => ltB b a = false) ∧ IsIds w'.heap.size w' (some ⟨g, 0, none⟩) n cap s ∧ Below g w w' := by
  obtain ⟨l, rfl⟩ := ids_attached ids hI.2.2.2.1
  have hl : l.length = n := by simpa using hI.1
  have eg : ∀ args w, (callFunc 41 args).run Try.prog w = .ok (.enter 41 args) w := enters_of Try.func41 (by kernel_rfl) rfl
  have hH := holds_ids hr hI
  have hcon := AnyQ.slices_SortFunc sortIds 32 Try.isAgg33 Try.sizeOf33 encId (fun x => by unfold encId; rw [u8s_length]; exact x.2.1) (fun x => u8s_one x.1) cfId swoId 41 #[] g 0 cap l.toArray w eg (compare_lays g 0 _ w) hH hr.lt (by simp; omega)
  rw [show l.toArray.size = n by simpa using hl] at hcon
  refine Calls.mono hcon ?_
  rintro e w' ⟨he, d', m, os, hp, hs, rfl⟩
  have hds : d'.size = n := by rw [hp.1]; simpa using hl
  refine ⟨he, d'.toList.map (·.1), ?_, ?_, ?_, below_sorted w g m hr.lt d' os⟩
  · have h3 := hp.2.2
    rw [show d'.extract 0 n = d' by rw [← hds]; simp, show l.toArray.extract 0 n = l.toArray by rw [← hl]; simp] at h3
    exact h3.map _
  · rw [List.pairwise_map, List.pairwise_iff_getElem]
    intro i j hi hj hij
    have h1 := hs i j (Nat.zero_le _) hij (by simpa [hds] using hj)
    rw [ltOf_id, getElem!_pos d' j (by simpa using hj), getElem!_pos d' i (by simpa using hi)] at h1
    simpa using h1
  · refine ids_holds hds hI.2.1 hI.2.2.1 (Nat.lt_of_lt_of_le hr.lt (below_sorted w g m hr.lt d' os).size) ?_
    exact holdsK_sortWorldK_c encId 32 w g 0 l.toArray d' m os hH hr.lt (by rw [hds]; simpa using hl.symm)
theorem sort_ids (g n cap : Nat) (ids : List (List Nat)) (cur : List Value) (w : World) (hr : Row w g 33 cur) (hI : IsIds w.heap.size w (some ⟨g, 0, none⟩) n cap ids) (hn : n ≤ 100000) :
    Calls Try.prog 40 #[.slice (some ⟨g, 0, none⟩) n cap, .func (.func 41) #[] #[]] w fun e w' => e = .returned (.tuple #[]) ∧ ∃ s, s.Perm ids ∧ (s.Pairwise fun a b => ltB b a = false) ∧ IsIds w'.heap.size w' (some ⟨g, 0, none⟩) n cap s ∧ Below g w w' :=
  @sort_core ⟨zeroId⟩ g n cap ids cur w hr hI hn
end Go.Proofs.Ytfclbdlkpnoceaa
