/-
  An object with links of its own.
-/
import Derived.Test.YtfclbdlkpnoceaaRch
namespace Go.Proofs.Ytfclbdlkpnoceaa
open Go.RowKit Go.Shelf Go.Maps
attribute [local go_sem] Oper.semAt_some

theorem clone39_any (q : Option Addr) (len cap : Nat) (ids : List (List Nat)) (w : World) (hlen : len ≤ 100000) (hI : IsIds w.heap.size w q len cap ids) :
    Calls Try.prog 39 #[.slice q len cap] w fun e w' => ∃ v, e = .returned v ∧ OwnIds w.heap.size w' v ids ∧ Below w.heap.size w w' := by
  cases q with
  | none =>
    have hl := hI.1
    have h0 : len = 0 := by
      rcases hI.2.2.2.2 with h | ⟨b, off, e, _⟩
      · exact h
      · cases e
    have : ids = [] := List.eq_nil_of_length_eq_zero (by omega)
    subst this
    exact (clone_none len cap w).mono fun e w' ⟨he, hw⟩ => ⟨_, he, OwnIds.nil _ _, by rw [hw]; exact Below.refl _ _⟩
  | some a =>
    rcases Nat.eq_zero_or_pos len with h0 | hp
    · subst h0
      have : ids = [] := List.eq_nil_of_length_eq_zero hI.1
      subst this
      exact clone_zero a cap w
    · obtain ⟨b, off, e, _⟩ := hI.at hp
      cases e
      exact clone_some b off len cap ids w hlen hI
theorem own_fresh {n₀ n c : Nat} {W : World} {q : Option Addr} {ids : List (List Nat)} (h : OwnIds n₀ W (.slice q n c) ids) : ∀ a, q = some a → n₀ ≤ a.block ∧ ∃ cs fr, W.heap[a.block]? = some (.cells cs 33 fr) := by
  intro a ha
  rcases h.2 with ⟨e, _⟩ | ⟨g, c', cur, e, hg, hgg, _⟩
  · cases e; cases ha
  · cases e; cases ha; exact ⟨hg, _, _, hgg⟩
theorem IsIds.only {n : Nat} {A B : World} {q : Option Addr} {len cap : Nat} {ids : List (List Nat)} (h : IsIds n A q len cap ids) (hk : ∀ a, q = some a → B.heap[a.block]? = A.heap[a.block]?) : IsIds n B q len cap ids := by
  obtain ⟨h1, h2, h3, h4, h5⟩ := h
  refine ⟨h1, h2, h3, h4, ?_⟩
  rcases h5 with h5 | ⟨b, off, e, hb, hc⟩
  · exact .inl h5
  · exact .inr ⟨b, off, e, hb, fun i hi j v hv => (cell_same (hk _ e) _).trans (hc i hi j v hv)⟩
/-- Links that lie in memory from block m on. -/
def Fresh (m : Nat) (W : World) (o : O) : Prop := IsIds W.heap.size W o.q o.n o.c o.links ∧ o.n = o.c ∧ ∀ a, o.q = some a → m ≤ a.block ∧ a.block < W.heap.size
def O.like (a b : O) : Prop := a.id = b.id ∧ a.links = b.links ∧ a.size = b.size
theorem objC_set {o : O} (h : o.ok) (q : Option Addr) (n c : Nat) : (objC o).set 32 (.slice q n c) = objC { o with q := q, n := n, c := c } := by
  have hl : (u8s o.id).length = 32 := id_len h.1
  unfold objC
  rw [List.set_append_right _ _ (by omega), hl]
  rfl

set_option maxRecDepth 100000 in
set_option maxHeartbeats 1000000 in
theorem own_any (o : O) (hok : o.ok) (hn : o.n ≤ 100000) (w : World) (hI : IsIds w.heap.size w o.q o.n o.c o.links) :
    Calls Try.prog 26 #[.agg (objC o).toArray] w fun e w' => ∃ o', e = .returned (.agg (objC o').toArray) ∧ o'.ok ∧ o'.like o ∧ Fresh w.heap.size w' o' ∧ Below w.heap.size w w' := by
  obtain ⟨w1, hw1⟩ : ∃ w1, w.alloc (.cells (objC o).toArray 46) = w1 := ⟨_, rfl⟩
  have hb1 : Below w.heap.size w w1 := by rw [← hw1]; exact (Below.refl _ w).alloc (Nat.le_refl _) _
  have hs1 : w1.heap.size = w.heap.size + 1 := by rw [← hw1]; simp
  have hR1 : Row w1 w.heap.size 46 (objC o) := by rw [← hw1]; exact Row.new' w 46 _
  obtain ⟨w2, hw2⟩ : ∃ w2, w1.alloc (.cells (objC noO).toArray 46) = w2 := ⟨_, rfl⟩
  have hb2 : Below w1.heap.size w1 w2 := by rw [← hw2]; exact (Below.refl _ w1).alloc (Nat.le_refl _) _
  have hs2 : w2.heap.size = w.heap.size + 2 := by rw [← hw2, World.size_alloc, hs1]
  have hR2 : Row w2 (w.heap.size + 1) 46 (objC noO) := by rw [← hs1, ← hw2]; exact Row.new' w1 46 _
  have hR1' : Row w2 w.heap.size 46 (objC o) := hR1.below hb2 (by omega)
  have hb02 : Below w.heap.size w w2 := hb1.trans (hb2.mono (by omega))
  have HCl : Hid (Calls Try.prog 39 #[.slice o.q o.n o.c] w2 fun e w' => ∃ q n c, e = .returned (.slice q n c) ∧ (Calls Try.prog 42 #[.slice q n c] w' fun e w'' => e = .returned (.slice q n n) ∧ w'' = w') ∧ w'.cell? ⟨w.heap.size, 32, none⟩ = some (.slice o.q o.n o.c) ∧ Row w' w.heap.size 46 (objC o) ∧
      Row (w'.setCell ⟨w.heap.size, 32, none⟩ (.slice q n n)) w.heap.size 46 (objC { o with q := q, n := n, c := n }) ∧ Row (w'.setCell ⟨w.heap.size, 32, none⟩ (.slice q n n)) (w.heap.size + 1) 46 (objC noO) ∧ IsIds w'.heap.size w' q n n o.links ∧ (∀ a, q = some a → w2.heap.size ≤ a.block ∧ a.block < w'.heap.size) ∧ Below w2.heap.size w2 w') :=
    (clone39_any o.q o.n o.c o.links w2 hn ((hI.below hb02).mono hb02.size)).mono fun e w' ⟨v, he, ho, hb⟩ => by
      obtain ⟨q, n, c, rfl, h1, h2, h3⟩ := own_ids_slice ho hI.2.2.2.1
      have hr : Row w' w.heap.size 46 (objC o) := hR1'.below hb (by omega)
      refine ⟨q, n, c, he, clipI_any q n c w' h2.2.1 h2.2.2.1 h3, hr.cell (objC_links hok), hr, ?_, Row.other (hR2.below hb (by omega)) (by simp) _, h2.clip, fun a ha => ⟨(own_fresh ho a ha).1, by obtain ⟨_, _, _, h⟩ := own_fresh ho a ha; exact (Array.getElem?_eq_some_iff.1 h).1⟩, hb⟩
      rw [← objC_set hok q n n]
      exact hr.set 32 _
  have hc32 := hR1'.cell (objC_links hok)
  have HR1 : Hid (Row w2 w.heap.size 46 (objC o)) := hR1'
  have HR2 : Hid (Row w2 (w.heap.size + 1) 46 (objC noO)) := hR2
  have HW2 : Hid ((w.alloc (.cells (objC o).toArray 46)).alloc (.cells (objC noO).toArray 46) = w2) := by show _ = _; rw [hw1, hw2]
  have HS : Hid (w2.heap.size = w.heap.size + 2) := hs2
  have HB2 : Hid (Below w.heap.size w w2) := hb02
  have HX : Hid (objC o = objC o) := rfl
  have HLn : Hid ((objC o).length = 34) := objC_length hok
  clear hw1 hw2 hb1 hb2 hs1 hs2 hR1 hR2 hR1' hb02 hI
  obtain ⟨X, hX⟩ : ∃ X, objC o = X := ⟨_, rfl⟩
  rw [hX]
  have hW2 := HW2.out
  rw [← zO, hX] at hW2
  rw [hX] at HR1 HLn
  have HXX : Hid (objC o = X) := hX
  clear HW2 HX hX
  go_enter Try.func26, Try.ntmps26
  go_wp2_with (first
    | (go_at_call 39; refine HCl.out.mono ?_; rintro e w3 ⟨q, n, c, rfl, hCp, hc33, hr3, hr5, hr6, hI3, hfr, hb3⟩; have HCp := (show Hid _ from hCp); have HR5 := (show Hid (Row _ _ _ _) from hr5); have HR6 := (show Hid (Row _ _ _ _) from hr6); have HI3 := (show Hid (IsIds _ _ _ _ _ _) from hI3); have hf33 := hr3.frozen 32; clear hCp hr5 hr6 hI3 hr3; have hok' : O.ok { o with q := q, n := n, c := n } := hok)
    | (go_at_call 42; refine Calls.mono HCp.out ?_; rintro e w4 ⟨rfl, h4⟩; subst h4)
    | ((with_reducible show wpList _ _ _ (Oper.mk _ (Op.load 46 (.tmp 1)) _ _ _ _ :: _) _ _); refine wpList_loadObj rfl (.tmp 1) rfl rfl hok' HR5.out.range ?_; simp only [Act.put, List.setIfInBounds_toArray, List.set_cons_zero, List.set_cons_succ])
    | ((with_reducible show wpList _ _ _ (Oper.mk _ (Op.store 46 (.tmp 2) (.tmp 8)) _ _ _ _ :: _) _ _); refine wpList_store_Row rfl 46 (.tmp 2) (.tmp 8) rfl (objC { o with q := q, n := n, c := n }) rfl rfl HR6.out (size46' hok') (by simp only [objC_length hok', objC_length noO_ok]) (objC_one _) ?_; simp only [Act.put]))
  obtain ⟨o', ho'⟩ : ∃ o' : O, { o with q := q, n := n, c := n } = o' := ⟨_, rfl⟩
  rw [ho'] at hok' ⊢
  have hR7 := HR6.out.sets_all (vs := objC o') (by simp only [objC_length hok', objC_length noO_ok])
  obtain ⟨w5, hw5⟩ : ∃ w5, w4.setCell ⟨w.heap.size, 32, none⟩ (.slice q n n) = w5 := ⟨_, rfl⟩
  have hb5 : Below w.heap.size w4 w5 := by rw [← hw5]; exact below_setCells (vs := [.slice q n n]) (o := 32) (Nat.le_refl _) (Below.refl _ w4)
  rw [hw5] at hR7 ⊢
  have hb6 : Below w.heap.size w (w5.setCells (w.heap.size + 1) 0 (objC o')) := (HB2.out.trans (hb3.mono (by have := HS.out; omega))).trans (below_setCells (by omega) _ _ hb5)
  refine bodyPost_ret (results_cell_row rfl _ _ (w.heap.size + 1) 46 _ (0, 0) _ rfl hR7 Try.underlying46 rfl (by simpa using size46' hok')) rfl ?_
  have hs5 : (w5.setCells (w.heap.size + 1) 0 (objC o')).heap.size = w4.heap.size := by rw [size_setCells, ← hw5]; exact size_setCells [.slice q n n] 32 w4
  have hq : o'.q = q ∧ o'.n = n ∧ o'.c = n ∧ o'.links = o.links ∧ o'.id = o.id ∧ o'.size = o.size := by rw [← ho']; exact ⟨rfl, rfl, rfl, rfl, rfl, rfl⟩
  refine ⟨o', rfl, hok', ⟨hq.2.2.2.2.1, hq.2.2.2.1, hq.2.2.2.2.2⟩, ⟨?_, by rw [hq.2.1, hq.2.2.1], fun a ha => ?_⟩, hb6⟩
  · rw [hs5, hq.1, hq.2.1, hq.2.2.1, hq.2.2.2.1]
    refine HI3.out.only fun a ha => ?_
    have h8 := (hfr a ha).1
    have h9 := HS.out
    have e1 : (w5.setCells (w.heap.size + 1) 0 (objC o')).heap[a.block]? = w5.heap[a.block]? := by
      rcases Nat.lt_or_ge a.block w5.heap.size with h | h
      · exact (But.sets (B := w.heap.size + 1) (n := w5.heap.size) (objC o') 0 w5).block a.block h (by omega)
      · rw [Array.getElem?_eq_none h, Array.getElem?_eq_none (by rw [size_setCells]; exact h)]
    rw [e1, ← hw5]
    exact heap_setCell_other w4 ⟨w.heap.size, 32, none⟩ a.block _ (by show a.block ≠ w.heap.size; omega)
  · rw [hq.1] at ha
    have := hfr a ha
    have h9 := HS.out
    rw [hs5]
    omega
end Go.Proofs.Ytfclbdlkpnoceaa
