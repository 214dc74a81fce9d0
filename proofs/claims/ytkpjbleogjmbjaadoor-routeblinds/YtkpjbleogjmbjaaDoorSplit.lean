/-
  route.Split: a path's names in a row of their own, or what is wrong with it. Nothing that lay before the call has turned.
-/
import Derived.Test.YtkpjbleogjmbjaaDoorLists
import Derived.Test.YtkpjbleogjmbjaaDoorOps
import Derived.RangeFuncBox
import Derived.RangeFuncFrom
namespace Go.Proofs.YtkpjbleogjmbjaaDoor
open Go.RowKit Go.Shelf
attribute [local go_sem] Oper.semAt_some

/-- What is wrong with a path; its names. -/
def errS (l : List UInt8) : Nat := if 16 < (toldL l).length then 101 else if (toldL l).all goodL then 0 else 100
def namesS (l : List UInt8) : List (List UInt8) := if errS l = 0 then toldL l else []

theorem errS_deep {l : List UInt8} (h : 16 < (toldL l).length) : errS l = 101 := by simp [errS, h]
theorem errS_name {l : List UInt8} (h : ¬ 16 < (toldL l).length) (h2 : (toldL l).all goodL = false) : errS l = 100 := by simp [errS, h, h2]
theorem errS_ok {l : List UInt8} (h : ¬ 16 < (toldL l).length) (h2 : (toldL l).all goodL = true) : errS l = 0 := by simp only [errS, if_neg h, h2, if_pos]

theorem cutL_size : ∀ (l : List UInt8) {a : List UInt8}, a ∈ cutL l → a.length ≤ l.length
  | [], a, h => by simp [cutL] at h; subst h; simp
  | c :: r, a, h => by
    unfold cutL at h
    split at h
    · rcases List.mem_cons.1 h with rfl | h
      · simp
      · have := cutL_size r h; simp; omega
    · split at h
      · simp at h; subst h; simp
      · rename_i b t e
        have hb : ∀ x ∈ b :: t, x.length ≤ r.length := fun x hx => cutL_size r (by rw [e]; exact hx)
        rcases List.mem_cons.1 h with rfl | h
        · have := hb b (by simp); simp; omega
        · have := hb a (by simp [h]); simp; omega
theorem told_size {l a : List UInt8} (h : a ∈ toldL l) : a.length ≤ l.length := by
  unfold toldL at h
  split at h
  · simp at h
  · exact cutL_size l h
/-- A cell that is set to what it holds. -/
theorem setCell_same {W : World} {g k : Nat} {cur : Array Value} {t : TypeId} {fr : Nat × Nat} {v : Value} (h : W.heap[g]? = some (.cells cur t fr)) (hk : cur[k]? = some v) : W.setCell ⟨g, k, none⟩ v = W := by
  obtain ⟨hl, he⟩ := Array.getElem?_eq_some_iff.1 hk
  have e : cur.setIfInBounds k v = cur := by
    subst he
    refine Array.ext (by simp) (fun i h1 h2 => ?_)
    rw [Array.getElem_setIfInBounds]
    split
    · rename_i e; subst e; rfl
    · rfl
  have e2 : ∀ f : Obj → Obj, f (.cells cur t fr) = .cells cur t fr → W.heap.modify g f = W.heap := fun f hf => by
    refine Array.ext_getElem? (fun i => ?_)
    rw [Array.getElem?_modify]
    split
    · rename_i e; subst e; rw [h]; simp [hf]
    · rfl
  unfold World.setCell
  rw [e2 _ (by simp [e])]
/-- A row of texts stands where a block that is no row is turned, or one of another kind. -/
theorem OwnS.put {W : World} {n₀ D : Nat} {v : Value} {xs : List ByteArray} {o : Obj} (h : OwnS n₀ W v xs) (o' : Obj) (hD : W.heap[D]? = some o) (hc : o.isCells = false) : OwnS n₀ (W.putObj D o') v xs :=
  World.ownsRow.kept h (grownBy_putObj' W D o') (by
    rcases h.2 with ⟨rfl, _⟩ | ⟨g, cap, cur, rfl, _, hgb, _⟩
    · exact .inl rfl
    · refine .inr fun e => ?_
      cases e
      rw [hD] at hgb; cases hgb; cases hc)
theorem OwnS.set {W : World} {n₀ B : Nat} {t : TypeId} {v u : Value} {xs : List ByteArray} (h : OwnS n₀ W v xs) (hB : Boxed W B t u) (ht : t ≠ 9) (u' : Value) : OwnS n₀ (W.setCell ⟨B, 0, none⟩ u') v xs :=
  World.ownsRow.kept h (grownBy_setCell' W B u') (.inr (hB.not_row ht h).symm)

set_option maxRecDepth 100000 in
set_option maxHeartbeats 4000000 in
theorem split_in (n : Nat) (hn : 5 ≤ n) (s : ByteArray) (hs : s.size ≤ 100000) (w : World) :
    CallsIn Fence.wide n Tryd.prog 9 #[.string s] w fun e w' => ∃ v, e = .returned (.tuple #[v, .int .i64 (errS (bytesOf s) : Nat)]) ∧ OwnS w.heap.size w' v ((namesS (bytesOf s)).map txt) ∧ Below w.heap.size w w' := by
  have h1 : 1 ≤ n := by omega
  have hfn : ∀ f, Fence.wide.fn f := fun _ => trivial
  obtain ⟨w3, hw3⟩ : ∃ w3, ((w.alloc (.cells #[.slice none 0 0] 41)).alloc (.cells #[.int .i64 0] 35)).alloc (.cells #[.slice none 0 0] 41) = w3 := ⟨_, rfl⟩
  have hs3 : w3.heap.size = w.heap.size + 1 + 1 + 1 := by rw [← hw3]; simp
  have hb3 : Below w.heap.size w w3 := by rw [← hw3]; exact (((Below.refl _ w).alloc (Nat.le_refl _) _).alloc (by simp) _).alloc (by simp; omega) _
  have HR1 : Hid (Row w3 w.heap.size 41 [.slice none 0 0]) := by rw [← hw3]; exact ((Row.new w 41 #[.slice none 0 0]).alloc _).alloc _
  have HR2 : Hid (Row w3 (w.heap.size + 1) 35 [.int .i64 0]) := by
    have h := Row.new (w.alloc (.cells #[.slice none 0 0] 41)) 35 #[.int .i64 0]
    rw [World.size_alloc] at h
    rw [← hw3]; exact h.alloc _
  have HR3 : Hid (Row w3 (w.heap.size + 1 + 1) 41 [.slice none 0 0]) := by
    have h := Row.new ((w.alloc (.cells #[.slice none 0 0] 41)).alloc (.cells #[.int .i64 0] 35)) 41 #[.slice none 0 0]
    rw [World.size_alloc, World.size_alloc] at h
    rw [← hw3]; exact h
  have HW : Hid (((w.alloc (.cells #[.slice none 0 0] 41)).alloc (.cells #[.int .i64 0] 35)).alloc (.cells #[.slice none 0 0] 41) = w3) := hw3
  clear hw3
  refine callsIn_of_wp_marks Tryd.func9 rfl trivial ?_ rfl
  simp only [Tryd.ntmps9, List.size_toArray, List.length_cons, List.length_nil, Nat.reduceAdd, Nat.reduceSub, Array.replicate_succ, Array.replicate_zero, List.push_toArray, List.append_toArray, List.nil_append, List.cons_append]
  gi_wp2_with (gi_at_call 15; rw [HW.out]; refine (callsIn_wide.2 (between_any s w3)).mono ?_; rintro e w4 ⟨rfl, hw4⟩)
  rw [← hw4]
  have hs4 : w4.heap.size = w.heap.size + 4 := by rw [hw4]; simp; omega
  have hb34 : Below w3.heap.size w3 w4 := by rw [hw4]; exact (Below.refl _ w3).alloc (Nat.le_refl _) _
  have bP : Boxed w4 w3.heap.size 9 (.string s) := by rw [hw4]; exact Boxed.new w3 9 _
  have hb4 : Below w.heap.size w w4 := hb3.trans (hb34.mono (by omega))
  have r1 := HR1.out.later hb34
  have r2 := HR2.out.later hb34
  have r3 := HR3.out.later hb34
  obtain ⟨Bp, hBp⟩ : ∃ Bp, Bp = w.heap.size + 1 + 1 + 1 := ⟨_, rfl⟩
  rw [hs3, ← hBp] at bP
  rw [← hBp]
  have hlo : w.heap.size + 1 + 1 < Bp := by omega
  have hhi : Bp < w4.heap.size := by omega
  clear HR1 HR2 HR3 HW hw4 hb34 hb3 hs3 hBp hs4
  refine wpIn_rangeFunc_ok rfl h1 (gf := 23) (lb := #[.pointer (some ⟨Bp, 0, none⟩)]) rfl trivial (enters_of Tryd.func23 (by kernel_rfl) rfl)
    (encs := fun x : ByteArray => #[.string x]) (Ok := fun x _ => x.size ≤ s.size) (Kp := fun X Y => Boxed X Bp 9 (.string s) → Boxed Y Bp 9 (.string s)) (S := fun xs => xs.map bytesOf = toldL (bytesOf s)) (Sp := fun pre => pre.map bytesOf <+: toldL (bytesOf s)) (N := s.size + 1)
    (fun W' hsz hb => between1_iter (n - 1) (by omega) _ Bp s (by omega) W' (boxed_below bP hb)) (fun h k x => k (h x)) (fun A o o' ho hc h => by
      have hne : Bp ≠ w4.heap.size + 1 := by omega
      exact (World.putObj_heap_other hne).trans h) (fun _ => rfl)
    (fun pre A => (∃ v, Boxed A (w.heap.size + 1 + 1) 41 v ∧ A.ownsRow w.heap.size 9 1 v pre.length (strs pre) ∧ v.ownBlock ≠ some Bp) ∧ (pre.length ≤ 16 ∧ Boxed A w.heap.size 41 (.slice none 0 0)) ∧ Boxed A (w.heap.size + 1) 35 (.int .i64 0) ∧ Below w.heap.size w4 A)
    (fun c pre A => (c = .ret ∧ pre.length = 17) ∧ Boxed A w.heap.size 41 (.slice none 0 0) ∧ Boxed A (w.heap.size + 1) 35 (.int .i64 101) ∧ Below w.heap.size w4 A)
    (OwnFrom.and (Own.from (holdsRow_own w.heap.size (w.heap.size + 1 + 1) 41 9 1 (fun pre : List ByteArray => pre.length) (fun pre => strs pre) (fun _ v => v.ownBlock ≠ some Bp)) _)
      (OwnFrom.and (OwnFrom.and (fun _ _ _ _ h _ _ => h) (Own.from (boxed_own _ _ _) _)) (OwnFrom.and (Own.from (boxed_own _ _ _) _) (ownFrom_below (by omega) (by omega)))))
    (fun c => OwnFrom.and (fun _ _ _ _ h _ _ => h) (OwnFrom.and (Own.from (boxed_own _ _ _) _) (OwnFrom.and (Own.from (boxed_own _ _ _) _) (ownFrom_below (by omega) (by omega)))))
    (fun _ _ _ _ h _ _ => h)
    ⟨⟨_, r3, World.ownsRow_nil _ _ _ _, by simp [Value.ownBlock]⟩, ⟨by simp, r1⟩, r2, Below.refl _ _⟩
    (fun x => { tmps := #[.string s, undef, .pointer (some ⟨w.heap.size, 0, none⟩), .pointer (some ⟨w.heap.size + 1, 0, none⟩), .pointer (some ⟨w.heap.size + 1 + 1, 0, none⟩), .string x, undef, undef, .string s, .func (.func 23) #[] #[.pointer (some ⟨Bp, 0, none⟩)], .string x, undef, undef, undef, undef, undef, undef, undef, undef, undef, undef, undef, undef, undef, undef, undef, undef, undef, undef, undef, undef, undef, undef, undef, undef], defers := [] })
    ?assign ?body ?done ?stop
  case assign =>
    intro l x W K hK
    gi_wp2
    exact hK
  case body =>
    rintro li pre x A ⟨⟨v, hv, hrow, hvB⟩, ⟨hpl, hb1⟩, hb2, hB⟩ hox hNn
    obtain ⟨q, c, rfl⟩ := slice_of_row hrow
    have hcv := hv.cell
    have hBsz := hB.size
    by_cases h16 : pre.length = 16
    · have hc1 := hb1.cell
      have hf1 := hb1.frozen
      have hc2 := hb2.cell
      have hf2 := hb2.frozen
      have i16 : ((pre.length : Int) == 16) = true := by rw [h16]; rfl
      have HFin : Hid (KeepsFrom w4.heap.size A ((A.setCell ⟨w.heap.size, 0, none⟩ (.slice none 0 0)).setCell ⟨w.heap.size + 1, 0, none⟩ (.int .i64 101)) ∧ (Boxed A Bp 9 (.string s) → Boxed ((A.setCell ⟨w.heap.size, 0, none⟩ (.slice none 0 0)).setCell ⟨w.heap.size + 1, 0, none⟩ (.int .i64 101)) Bp 9 (.string s)) ∧ ((pre ++ [x]).length = 17) ∧ Boxed ((A.setCell ⟨w.heap.size, 0, none⟩ (.slice none 0 0)).setCell ⟨w.heap.size + 1, 0, none⟩ (.int .i64 101)) w.heap.size 41 (.slice none 0 0) ∧ Boxed ((A.setCell ⟨w.heap.size, 0, none⟩ (.slice none 0 0)).setCell ⟨w.heap.size + 1, 0, none⟩ (.int .i64 101)) (w.heap.size + 1) 35 (.int .i64 101) ∧ Below w.heap.size w4 ((A.setCell ⟨w.heap.size, 0, none⟩ (.slice none 0 0)).setCell ⟨w.heap.size + 1, 0, none⟩ (.int .i64 101))) := by
        have ra : Row A w.heap.size 41 [.slice none 0 0] := hb1
        have rb : Row A (w.heap.size + 1) 35 [.int .i64 0] := hb2
        refine ⟨((KeepsOthers.setCell A _ _).trans (KeepsOthers.setCell _ _ _)).from _, fun h => ?_, by simp [h16], ?_, ?_, (hB.setCell (p := ⟨w.heap.size, 0, none⟩) (Nat.le_refl _) _).setCell (p := ⟨w.heap.size + 1, 0, none⟩) (by show _ ≤ w.heap.size + 1; omega) _⟩
        · have h' : Row A Bp 9 [.string s] := h
          exact (h'.other (a := ⟨w.heap.size, 0, none⟩) (by show Bp ≠ w.heap.size; omega) _).other (a := ⟨w.heap.size + 1, 0, none⟩) (by show Bp ≠ w.heap.size + 1; omega) _
        · exact (ra.set 0 (.slice none 0 0)).other (a := ⟨w.heap.size + 1, 0, none⟩) (by show w.heap.size ≠ w.heap.size + 1; omega) _
        · exact (rb.other (a := ⟨w.heap.size, 0, none⟩) (by show w.heap.size + 1 ≠ w.heap.size; omega) _).set 0 (.int .i64 101)
      clear hv hrow hb1 hb2 hB h16
      gi_wp2
      exact ⟨HFin.out.1, HFin.out.2.1, ⟨rfl, HFin.out.2.2.1⟩, HFin.out.2.2.2⟩
    · have i16 : ((pre.length : Int) == 16) = false := by rw [beq_eq_false_iff_ne]; omega
      obtain ⟨W4, hW4⟩ : ∃ W4, A.alloc (.cells #[.string x] 9) = W4 := ⟨_, rfl⟩
      have hr4 : OwnS w.heap.size W4 (.slice q pre.length c) pre := by rw [← hW4]; exact World.ownsRow.alloc hrow _
      have hs4 : W4.heap.size = A.heap.size + 1 := by rw [← hW4]; exact World.size_alloc _ _
      have hx4 : W4.cell? ⟨A.heap.size, 0, none⟩ = some (.string x) := by rw [← hW4]; exact (Boxed.new A 9 (.string x)).cell
      obtain ⟨u5, W5, hrun, ho5, hg5, hw5⟩ := run_append_str W4 w.heap.size 41 (.slice q pre.length c) pre hr4 A.heap.size x hx4 (by omega) (by omega)
      obtain ⟨q5, c5, rfl⟩ := ho5.slice
      rw [← hW4] at hg5
      obtain ⟨hv1, hv2, hr2, hk2, hb5⟩ := hv.appended (by decide) hrow (show w.heap.size ≤ A.heap.size by omega) (by omega) ho5 hg5
      have hrow9 : ∀ k, (Value.slice q pre.length c).ownBlock = some k → ∃ cc fr, A.heap[k]? = some (Obj.cells cc 9 fr) := fun k hk => row_tag hrow k hk
      have keep : ∀ (b : Nat) (t : TypeId) (u : Value), Boxed A b t u → b ≠ w.heap.size + 1 + 1 → some b ≠ (Value.slice q pre.length c).ownBlock → Boxed (W5.setCell ⟨w.heap.size + 1 + 1, 0, none⟩ (.slice q5 (pre ++ [x]).length c5)) b t u := fun b t u h h1 h2 => by
        have r : Row A b t [u] := h
        have r5 : Row W5 b t [u] := (hg5.block b (by simp; have := h.lt; omega) h2).trans (r.alloc _)
        exact r5.other (a := ⟨w.heap.size + 1 + 1, 0, none⟩) (by show b ≠ w.heap.size + 1 + 1; exact h1) _
      have hne25 : ∀ b t u, Boxed A b t u → t ≠ 9 → some b ≠ (Value.slice q pre.length c).ownBlock := fun b t u h ht e => by
        obtain ⟨cc, fr, h'⟩ := hrow9 b e.symm
        rw [show A.heap[b]? = _ from h] at h'
        cases h'
        exact ht rfl
      have hxB : (Value.slice q5 (pre ++ [x]).length c5).ownBlock ≠ some Bp := by
        rcases hw5 with e | e
        · rw [e]; exact hvB
        · rw [e, hs4]; intro e'; cases e'; omega
      have HFin : Hid (KeepsFrom w4.heap.size A (W5.setCell ⟨w.heap.size + 1 + 1, 0, none⟩ (.slice q5 (pre ++ [x]).length c5)) ∧ (Boxed A Bp 9 (.string s) → Boxed (W5.setCell ⟨w.heap.size + 1 + 1, 0, none⟩ (.slice q5 (pre ++ [x]).length c5)) Bp 9 (.string s)) ∧
          (∃ v, Boxed (W5.setCell ⟨w.heap.size + 1 + 1, 0, none⟩ (.slice q5 (pre ++ [x]).length c5)) (w.heap.size + 1 + 1) 41 v ∧ (W5.setCell ⟨w.heap.size + 1 + 1, 0, none⟩ (.slice q5 (pre ++ [x]).length c5)).ownsRow w.heap.size 9 1 v (pre ++ [x]).length (strs (pre ++ [x])) ∧ v.ownBlock ≠ some Bp) ∧
          ((pre ++ [x]).length ≤ 16 ∧ Boxed (W5.setCell ⟨w.heap.size + 1 + 1, 0, none⟩ (.slice q5 (pre ++ [x]).length c5)) w.heap.size 41 (.slice none 0 0)) ∧ Boxed (W5.setCell ⟨w.heap.size + 1 + 1, 0, none⟩ (.slice q5 (pre ++ [x]).length c5)) (w.heap.size + 1) 35 (.int .i64 0) ∧ Below w.heap.size w4 (W5.setCell ⟨w.heap.size + 1 + 1, 0, none⟩ (.slice q5 (pre ++ [x]).length c5))) :=
        ⟨hk2.from _, fun h => keep _ _ _ h (by omega) (fun e => hvB e.symm), ⟨_, hv2, hr2, hxB⟩, ⟨by simp; omega, keep _ _ _ hb1 (by omega) (hne25 _ _ _ hb1 (by decide))⟩, keep _ _ _ hb2 (by omega) (hne25 _ _ _ hb2 (by decide)), hB.trans hb5⟩
      have hcv4 : W4.cell? ⟨w.heap.size + 1 + 1, 0, none⟩ = some (.slice q pre.length c) := by rw [← hW4]; exact (hv.alloc _).cell
      have hcv5 := hv1.cell
      have hfv5 := hv1.frozen
      have HW4 : Hid (A.alloc (.cells #[.string x] 9) = W4) := hW4
      clear hr4 hx4 ho5 hg5 hw5 hv1 hv2 hr2 hk2 hb5 hrow9 keep hne25 hxB hv hrow hb1 hb2 hB hW4
      generalize hm5 : (pre ++ [x]).length = m5 at *
      have HM5 : Hid ((pre ++ [x]).length = m5) := hm5
      clear hm5
      have HRun : Hid ((Builtin.append_ #[41, 41] 41 #[.slice q pre.length c, .slice (some ⟨A.heap.size, 0, none⟩) 1 1]).run Tryd.prog W4 = .ok (.slice q5 m5 c5) W5) := hrun
      clear hrun
      gi_wp2_with (((with_reducible show wpListIn _ _ _ _ _ (Oper.mk (some 17) _ _ _ _ _ :: _) _ _); rw [HW4.out]; refine wpListIn_oper rfl (by intro c hc; cases hc) (fun K hK => wp_append_of (.tmp 14) (.tmp 16) 41 rfl rfl rfl HRun.out (hK _ _ ?_)); simp only [Act.put, List.setIfInBounds_toArray, List.set_cons_zero, List.set_cons_succ]))
      have e := HM5.out
      subst e
      exact HFin.out
  case done =>
    rintro D ys A hD hys ⟨⟨v, hv, hrow, hvB⟩, ⟨hpl, hb1⟩, hb2, hB⟩ hK
    obtain ⟨q, c, rfl⟩ := slice_of_row hrow
    have hcv := hv.cell
    have HY : Hid (ys.map bytesOf = toldL (bytesOf s)) := hys
    have H16 : Hid (ys.length ≤ 16) := hpl
    have HLen : Hid ((toldL (bytesOf s)).length = ys.length) := by show _ = _; rw [← hys]; simp
    have HB : Hid (Below w.heap.size w w4) := hb4
    have HSz : Hid (∀ x ∈ ys, x.size ≤ 1000000) := fun x hx => by
      have : bytesOf x ∈ toldL (bytesOf s) := by rw [← hys]; exact List.mem_map_of_mem hx
      have := told_size this
      rw [bytesOf_length, bytesOf_length] at this
      omega
    clear hys hpl
    gi_wp2
    gi_loopw [20] (fun i wr => ∃ (k : Nat), k ≤ ys.length ∧ i = .int .i64 k ∧ Boxed wr (w.heap.size + 1 + 1) 41 (.slice q ys.length c) ∧ OwnS w.heap.size wr (.slice q ys.length c) ys ∧ Boxed wr w.heap.size 41 (.slice none 0 0) ∧ Boxed wr (w.heap.size + 1) 35 (.int .i64 0) ∧ Below w.heap.size w4 wr ∧ wr.heap[D]? = some (.deferred (some [])) ∧ ((ys.take k).map bytesOf).all goodL = true) (fun i _ => ys.length - (intOf i).toNat)
    case atStart => exact ⟨0, Nat.zero_le _, rfl, hv, hrow, hb1, hb2, hB, hK, by simp⟩
    case round =>
      clear hv hrow hb1 hb2 hB hK hcv
      obtain ⟨k, hk, rfl, hv, hrow, hb1, hb2, hB, hK, hall⟩ := hrel
      have hcv := hv.cell
      have HA : Hid (((ys.take k).map bytesOf).all goodL = true) := hall
      clear hall
      by_cases hlt : k < ys.length
      · have hki : (k : Int) < (ys.length : Int) := by omega
        obtain ⟨x, hx⟩ : ∃ x, ys[k] = x := ⟨_, rfl⟩
        have hmem : (ys.map bytesOf)[k]? = some (bytesOf x) := by rw [List.getElem?_map, List.getElem?_eq_getElem hlt, hx]; rfl
        have HTk : Hid ((ys.take (k + 1)).map bytesOf = (ys.take k).map bytesOf ++ [bytesOf x]) := by
          show _ = _
          rw [List.take_add_one, List.getElem?_eq_getElem hlt, hx]; simp
        have HX : Hid (x.size ≤ 1000000) := HSz.out x (by rw [← hx]; exact List.getElem_mem hlt)
        obtain ⟨g, rfl, hgb, hgl, _, hlc, hcc, cur, hcur, hcs, htk⟩ := hrow.row (by omega)
        have hck : cur[k]? = some (.string x) := by
          have : (cur.toList.take ys.length)[k]? = some (.string x) := by rw [htk, strs_at hlt, hx]
          rw [List.getElem?_take, if_pos hlt] at this
          simpa using this
        have hcell : wr.cell? ⟨g, k, none⟩ = some (.string x) := by
          rw [cell_of_row wr g k cur 9 (0, 0) hcur]; exact hck
        have hfr : wr.frozen? ⟨g, k, none⟩ = false := by simp [World.frozen?, hcur]
        have HG := good_any x HX.out
        rcases Bool.eq_false_or_eq_true (goodL (bytesOf x)) with eg | eg
        · have HF5 : Hid (∀ W', Below wr.heap.size wr W' → W'.cell? ⟨w.heap.size + 1 + 1, 0, none⟩ = some (.slice (some ⟨g, 0, none⟩) ys.length c) ∧ W'.cell? ⟨g, k, none⟩ = some (.string x) ∧ W'.frozen? ⟨g, k, none⟩ = false ∧ W'.setCell ⟨g, k, none⟩ (.string x) = W' ∧
              Boxed W' (w.heap.size + 1 + 1) 41 (.slice (some ⟨g, 0, none⟩) ys.length c) ∧ OwnS w.heap.size W' (.slice (some ⟨g, 0, none⟩) ys.length c) ys ∧ Boxed W' w.heap.size 41 (.slice none 0 0) ∧ Boxed W' (w.heap.size + 1) 35 (.int .i64 0) ∧ Below w.heap.size w4 W' ∧ W'.heap[D]? = some (.deferred (some []))) := fun W' hb => by
            have hc' : W'.heap[g]? = some (.cells cur 9 (0, 0)) := (hb.block g hgl).trans hcur
            have hv' := boxed_below hv hb
            refine ⟨hv'.cell, (by rw [cell_of_row W' g k cur 9 (0, 0) hc']; exact hck), (by simp [World.frozen?, hc']), setCell_same hc' hck, hv', hrow.later hb, boxed_below hb1 hb, boxed_below hb2 hb, hB.trans (hb.mono (by have := hB.size; omega)), (hb.block D (Array.getElem?_eq_some_iff.1 hK).1).trans hK⟩
          have HA2 : Hid (((ys.take (k + 1)).map bytesOf).all goodL = true) := by
            show _ = _
            rw [HTk.out, List.all_append, HA.out]; simp [eg]
          clear hv hrow hb1 hb2 hB hK hcur hck htk hcs hmem hx
          gi_wp2_with (gi_at_call 16; refine (callsIn_wide.2 (HG wr)).mono ?_; rintro e w' ⟨rfl, hw'⟩; obtain rfl : wr = w' := hw'.symm; clear hw'; rw [eg])
          refine wpIn_region_on_wide (S := fun W' => W'.cell? ⟨w.heap.size + 1 + 1, 0, none⟩ = some (.slice (some ⟨g, 0, none⟩) ys.length c)) (by kernel_rfl) (by kernel_rfl) (HF5.out _ (Below.refl _ wr).drew).1 (fun hHeld => ?_)
          refine wpAnyH_takesAt 0 3 3 (of_decide_eq_true (by kernel_rfl)) rfl (fun _ _ _ d _ h => by cases d <;> exact h) (by kernel_rfl) (by kernel_rfl) hHeld ?_
          simp only [List.drop_zero, List.take_succ_cons, List.take_zero]
          iterate 3 (refine wpHeld_step (v := ?_) (by rfl) (fun wz hSw => ?_) ?_; rotate_left; (focus ((try dsimp only at hSw); go_simp; try with_reducible rfl)); (simp only [Act.put, List.setIfInBounds_toArray, List.set_cons_zero, List.set_cons_succ]))
          refine wpHeld_nil ?_
          refine wpAnyH_only (i := 3) (by kernel_rfl) rfl (fun K hK => ?_)
          rw [if_pos (by rfl)]
          go_simp
          refine (sclone_any x HX.out wr.drew).mono ?_
          rintro e w6 ⟨rfl, hb6⟩
          obtain ⟨f1, f2, f3, f4, f5⟩ := HF5.out w6 ((Below.refl _ wr).drew.trans hb6)
          refine hK.out _ _ f1 ?_
          clear hK K
          have HF4 : Hid (w6.setCell ⟨g, k, none⟩ (.string x) = w6) := f4
          clear f4
          refine wpAnyH_takesAt 4 1 1 (of_decide_eq_true (by kernel_rfl)) rfl (fun _ _ _ d _ h => by cases d <;> exact h) (by kernel_rfl) (by kernel_rfl) f1 ?_
          simp only [List.drop_succ_cons, List.drop_zero, List.take_succ_cons, List.take_zero]
          iterate 1 (refine wpHeld_step (v := ?_) (by rfl) (fun wz hSw => ?_) ?_; rotate_left; (focus ((try dsimp only at hSw); go_simp; try with_reducible rfl)); ((simp only [Act.put]; (try simp only [List.setIfInBounds_toArray]); (try simp only [List.set_cons_succ]); (try simp only [List.set_cons_zero]))))
          refine wpHeld_nil ?_
          refine wpAnyH_only (i := 5) (by kernel_rfl) rfl (fun K hK => ?_)
          rw [if_pos (by rfl)]
          go_simp
          rw [HF4.out]
          refine hK.out _ _ f1 ?_
          clear hK K
          refine wpAnyH_done (by kernel_rfl) ?_ _
          refine OnOnly.on ?_
          obtain ⟨f5, f6, f7, f8, f9, f10⟩ := f5
          gi_wp2
          go_roundw
          case rel => exact ⟨k + 1, hlt, by go_num, f5, f6, f7, f8, f9, f10, HA2.out⟩
          case measure => simp [intOf]; omega
        · have hE : Hid (errS (bytesOf s) = 100) := errS_name (by rw [HLen.out]; have := H16.out; omega) (by
            rw [← HY.out, Bool.eq_false_iff]
            intro h
            have := List.all_eq_true.1 h (bytesOf x) (List.mem_of_getElem? hmem)
            rw [eg] at this; cases this)
          have hc1 := hb1.cell
          have hf1 := hb1.frozen
          have hc2 := hb2.cell
          have hf2 := hb2.frozen
          gi_wp2_with (gi_at_call 16; refine (callsIn_wide.2 (HG wr)).mono ?_; rintro e w' ⟨rfl, hw'⟩; obtain rfl : wr = w' := hw'.symm; clear hw'; rw [eg])
          have ra : Row wr w.heap.size 41 [.slice none 0 0] := hb1
          have rb : Row wr (w.heap.size + 1) 35 [.int .i64 0] := hb2
          have hDl := (Array.getElem?_eq_some_iff.1 hK).1
          have hK2 : ((wr.setCell ⟨w.heap.size, 0, none⟩ (.slice none 0 0)).setCell ⟨w.heap.size + 1, 0, none⟩ (.int .i64 100)).heap[D]? = some (.deferred (some [])) := by
            rw [heap_setCell_other _ _ D _ (by show D ≠ w.heap.size + 1; omega), heap_setCell_other _ _ D _ (by show D ≠ w.heap.size; omega)]; exact hK
          refine ⟨by simp, .inl ⟨_, _, rfl, run_takeDeferred hK2, ?_⟩⟩
          have ra2 := (ra.set 0 (.slice none 0 0)).other (a := ⟨w.heap.size + 1, 0, none⟩) (by show w.heap.size ≠ w.heap.size + 1; omega) (.int .i64 100)
          have rb2 := (rb.other (a := ⟨w.heap.size, 0, none⟩) (by show w.heap.size + 1 ≠ w.heap.size; omega) (.slice none 0 0)).set 0 (.int .i64 100)
          have hB2 := (hB.setCell (p := ⟨w.heap.size, 0, none⟩) (Nat.le_refl _) (.slice none 0 0)).setCell (p := ⟨w.heap.size + 1, 0, none⟩) (by show _ ≤ w.heap.size + 1; omega) (.int .i64 100)
          refine ⟨_, results_cells rfl rfl rfl (ra2.below (below_putObj (B := w4.heap.size) _ _ hD) (by omega)) (rb2.below (below_putObj (B := w4.heap.size) _ _ hD) (by omega)), .slice none 0 0, by rw [hE.out]; rfl, ?_, (HB.out.trans hB2).trans (below_putObj _ _ (by omega))⟩
          rw [namesS, hE.out]
          exact OwnS.nil _ _
      · obtain rfl : k = ys.length := by omega
        have hc1 := hb1.cell
        have hf1 := hb1.frozen
        have hc2 := hb2.cell
        have hf2 := hb2.frozen
        have ra : Row wr w.heap.size 41 [.slice none 0 0] := hb1
        have rb : Row wr (w.heap.size + 1) 35 [.int .i64 0] := hb2
        have hE : Hid (errS (bytesOf s) = 0) := errS_ok (by rw [HLen.out]; have := H16.out; omega) (by rw [← HY.out]; have := HA.out; rwa [List.take_length] at this)
        have hN : Hid ((namesS (bytesOf s)).map txt = ys) := by
          show _ = _
          rw [namesS, if_pos hE.out, ← HY.out, List.map_map]
          conv => rhs; rw [← List.map_id ys]
          exact List.map_congr_left (fun x _ => txt_bytes x)
        gi_wp2
        have hK2 : ((wr.setCell ⟨w.heap.size, 0, none⟩ (.slice q ys.length c)).setCell ⟨w.heap.size + 1, 0, none⟩ (.int .i64 0)).heap[D]? = some (.deferred (some [])) := by
          rw [heap_setCell_other _ _ D _ (by show D ≠ w.heap.size + 1; omega), heap_setCell_other _ _ D _ (by show D ≠ w.heap.size; omega)]; exact hK
        have ra2 := (ra.set 0 (.slice q ys.length c)).other (a := ⟨w.heap.size + 1, 0, none⟩) (by show w.heap.size ≠ w.heap.size + 1; omega) (.int .i64 0)
        have rb1 := rb.other (a := ⟨w.heap.size, 0, none⟩) (by show w.heap.size + 1 ≠ w.heap.size; omega) (.slice q ys.length c)
        have rb2 := rb1.set 0 (.int .i64 0)
        have hB2 := (hB.setCell (p := ⟨w.heap.size, 0, none⟩) (Nat.le_refl _) (.slice q ys.length c)).setCell (p := ⟨w.heap.size + 1, 0, none⟩) (by show _ ≤ w.heap.size + 1; omega) (.int .i64 0)
        have ho2 : OwnS w.heap.size ((wr.setCell ⟨w.heap.size, 0, none⟩ (.slice q ys.length c)).setCell ⟨w.heap.size + 1, 0, none⟩ (.int .i64 0)) (.slice q ys.length c) ys := (hrow.set hb1 (by decide) _).set (t := 35) (u := .int .i64 0) rb1 (by decide) _
        refine ⟨by simp, .inl ⟨_, _, rfl, run_takeDeferred hK2, ?_⟩⟩
        refine ⟨_, results_cells rfl rfl rfl (ra2.below (below_putObj (B := w4.heap.size) _ _ hD) (by omega)) (rb2.below (below_putObj (B := w4.heap.size) _ _ hD) (by omega)), .slice q ys.length c, by rw [hE.out]; rfl, ?_, (HB.out.trans hB2).trans (below_putObj _ _ (by omega))⟩
        rw [hN.out]
        exact ho2.put _ hK2 rfl
  case stop =>
    rintro D c pre A hD hsp ⟨⟨rfl, hpl⟩, hb1, hb2, hB⟩ hK
    have hE : Hid (errS (bytesOf s) = 101) := errS_deep (by
      have := hsp.length_le
      rw [List.length_map, hpl] at this
      omega)
    have ra : Row A w.heap.size 41 [.slice none 0 0] := hb1
    have rb : Row A (w.heap.size + 1) 35 [.int .i64 101] := hb2
    clear hsp
    gi_wp2
    refine ⟨by simp, .inl ⟨_, _, rfl, run_takeDeferred hK, ?_⟩⟩
    refine ⟨_, results_cells rfl rfl rfl (ra.below (below_putObj (B := w4.heap.size) _ _ hD) (by omega)) (rb.below (below_putObj (B := w4.heap.size) _ _ hD) (by omega)), .slice none 0 0, by rw [hE.out]; rfl, ?_, (hb4.trans hB).trans (below_putObj _ _ (by omega))⟩
    rw [namesS, hE.out]
    exact OwnS.nil _ _

theorem split_any (s : ByteArray) (hs : s.size ≤ 100000) (w : World) :
    Calls Tryd.prog 9 #[.string s] w fun e w' => ∃ v, e = .returned (.tuple #[v, .int .i64 (errS (bytesOf s) : Nat)]) ∧ OwnS w.heap.size w' v ((namesS (bytesOf s)).map txt) ∧ Below w.heap.size w w' :=
  callsIn_wide.1 (split_in 5 (Nat.le_refl _) s hs w)
end Go.Proofs.YtkpjbleogjmbjaaDoor
