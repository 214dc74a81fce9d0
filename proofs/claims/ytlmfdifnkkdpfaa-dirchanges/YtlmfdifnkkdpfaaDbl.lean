/-
  dir.doubled: whether two neighbours of the sorted names are alike; that is so just if two names are.
-/
import Derived.Test.YtlmfdifnkkdpfaaNm
namespace Go.Proofs.Ytlmfdifnkkdpfaa
open Go.RowKit Go.Shelf

/-- Two neighbours are alike. -/
def adjB : List (List UInt8) → Bool
  | a :: b :: r => (a == b) || adjB (b :: r)
  | _ => false
theorem adjB_snoc (x : List UInt8) : ∀ (l : List (List UInt8)) (h : l ≠ []), adjB (l ++ [x]) = (adjB l || (l.getLast h == x))
  | [], h => absurd rfl h
  | [a], _ => by simp [adjB]
  | a :: b :: r, h => by
    have ih := adjB_snoc x (b :: r) (by simp)
    have e : (a :: b :: r).getLast h = (b :: r).getLast (by simp) := List.getLast_cons _
    rw [e]
    simp only [List.cons_append] at ih ⊢
    rw [adjB, ih, adjB, Bool.or_assoc]
theorem adjB_prefix : ∀ (l r : List (List UInt8)), adjB l = true → adjB (l ++ r) = true
  | [], _, h => by simp [adjB] at h
  | [a], _, h => by simp [adjB] at h
  | a :: b :: t, r, h => by
    have ih := adjB_prefix (b :: t) r
    simp only [List.cons_append] at ih ⊢
    rw [adjB, Bool.or_eq_true] at h ⊢
    rcases h with h | h
    · exact .inl h
    · exact .inr (ih h)
theorem sorted_nodup : ∀ (l : List (List UInt8)), l.Pairwise (fun a b => a ≤ b) → (adjB l = false ↔ l.Nodup)
  | [], _ => by simp [adjB]
  | [a], _ => by simp [adjB]
  | a :: b :: r, h => by
    have h2 := List.pairwise_cons.1 h
    have ih := sorted_nodup (b :: r) h2.2
    constructor
    · intro hf
      rw [adjB, Bool.or_eq_false_iff] at hf
      refine List.nodup_cons.2 ⟨fun hm => ?_, ih.1 hf.2⟩
      have hne : ¬ a = b := by simpa using hf.1
      rcases List.mem_cons.1 hm with e | hm
      · exact hne e
      · exact hne (List.le_antisymm (h2.1 b List.mem_cons_self) ((List.pairwise_cons.1 h2.2).1 a hm))
    · intro hn
      have h3 := List.nodup_cons.1 hn
      rw [adjB, ih.2 h3.2, Bool.or_false, beq_eq_false_iff_ne]
      intro e
      exact h3.1 (by rw [e]; exact List.mem_cons_self)
theorem sortL_pair (l : List (List UInt8)) : (sortL l).Pairwise (fun a b => a ≤ b) := by
  have := List.pairwise_mergeSort (le := fun x y : List UInt8 => decide (x ≤ y)) (fun a b c h1 h2 => by simp only [decide_eq_true_eq] at *; exact List.le_trans h1 h2) (fun a b => by simp only [Bool.or_eq_true, decide_eq_true_eq]; exact List.le_total a b) l
  exact this.imp (fun h => by simpa using h)
theorem sortL_perm (l : List (List UInt8)) : (sortL l).Perm l := List.mergeSort_perm _ _
/-- Two names are alike. -/
def dupB (es : List Ent) : Bool := decide (¬ ((namesE es).map bytesOf).Nodup)
theorem adjB_dup (es : List Ent) : adjB ((sortedE es).map bytesOf) = dupB es := by
  have e : (sortedE es).map bytesOf = sortL ((namesE es).map bytesOf) := by
    rw [sortedE, List.map_map]
    conv => rhs; rw [← List.map_id (sortL _)]
    exact List.map_congr_left (fun x _ => bytes_txt x)
  rw [e, dupB]
  have h := sorted_nodup _ (sortL_pair ((namesE es).map bytesOf))
  rw [(sortL_perm ((namesE es).map bytesOf)).nodup_iff] at h
  cases hb : adjB (sortL ((namesE es).map bytesOf)) with
  | false => simp [h.1 hb]
  | true =>
    have : ¬ ((namesE es).map bytesOf).Nodup := fun hn => by rw [h.2 hn] at hb; cases hb
    simp [this]
/-- The one told last. -/
def lastS (pre : List ByteArray) : ByteArray := pre.getLastD ⟨#[]⟩
theorem bytesOf_inj {a b : ByteArray} (h : bytesOf a = bytesOf b) : a = b := by rw [← txt_bytes a, h, txt_bytes]
theorem adj_next (pre : List ByteArray) (x : ByteArray) (h : pre ≠ []) : adjB ((pre ++ [x]).map bytesOf) = (adjB (pre.map bytesOf) || (x.toList == (lastS pre).toList)) := by
  rw [List.map_append, List.map_singleton, adjB_snoc _ _ (by simpa using h), text_eq, lastS]
  congr 1
  rw [List.getLast_map, Bool.eq_iff_iff, beq_iff_eq, beq_iff_eq, List.getLastD_eq_getLast?, List.getLast?_eq_some_getLast h, Option.getD_some]
  exact eq_comm
theorem OwnS.put {W : World} {n₀ D : Nat} {v : Value} {xs : List ByteArray} {o : Obj} (h : OwnS n₀ W v xs) (o' : Obj) (hD : W.heap[D]? = some o) (hc : o.isCells = false) : OwnS n₀ (W.putObj D o') v xs :=
  World.ownsRow.kept h (grownBy_putObj' W D o') (by
    rcases h.2 with ⟨rfl, _⟩ | ⟨g, cap, cur, rfl, _, hgb, _⟩
    · exact .inl rfl
    · refine .inr fun e => ?_
      cases e
      rw [hD] at hgb; cases hgb; cases hc)
theorem OwnS.setLow {W : World} {n₀ B : Nat} {v : Value} {xs : List ByteArray} (h : OwnS n₀ W v xs) (hB : B < n₀) (u : Value) : OwnS n₀ (W.setCell ⟨B, 0, none⟩ u) v xs := by
  refine ⟨h.1, ?_⟩
  rcases h.2 with hn | ⟨g, cap, cur, rfl, hg, hgg, rest⟩
  · exact .inl hn
  · exact .inr ⟨g, cap, cur, rfl, hg, (heap_setCell_other W ⟨B, 0, none⟩ g u (by show g ≠ B; omega)).trans hgg, rest⟩
theorem boxed_other {W : World} {B B' : Nat} {t : TypeId} {v : Value} (h : Boxed W B t v) (hb : B ≠ B') (u : Value) : Boxed (W.setCell ⟨B', 0, none⟩ u) B t v := (heap_setCell_other W ⟨B', 0, none⟩ B u hb).trans h

theorem box_from {b B : Nat} {t : TypeId} {v : Value} {A A' : World} {row : Option Nat} (h : Boxed A b t v) (hg : A.grownBy A' row) (hr : ∀ r, row = some r → B ≤ r ∧ ∃ o : Obj, A.heap[r]? = some o ∧ o.isCells = false) : Boxed A' b t v :=
  Own.from (boxed_own b t (fun _ : Unit => v)) B () A A' row h hg hr
theorem wpIn_scope_wide {P : Program} {Q : Exit → Act → World → Prop} {m : Nat} {c : Code} {a : Act} {w : World} (h : c.wpIn Fence.wide m P (Exit.noGoto Q) a w) : (Code.scope c).wpIn Fence.wide m P Q a w := wpIn_wide.2 (wp_scope_straight (wpIn_wide.1 h))

attribute [local go_sem] Oper.semAt_some
set_option maxRecDepth 100000 in
set_option maxHeartbeats 4000000 in
theorem doubled_in (n : Nat) (hn : 5 ≤ n) (p : Option Addr) (len cap : Nat) (es : List Ent) (w : World) (hI : IsEnts w.heap.size w p len cap es) (hlen : len ≤ 100000) (hnm : ∀ e ∈ es, e.name.size ≤ 1000000) :
    CallsIn Fence.wide n Try.prog 39 #[.slice p len cap] w fun e w' => e = .returned (.bool (dupB es)) ∧ Below w.heap.size w w' := by
  have h1 : 1 ≤ n := by omega
  have hfn : ∀ f, Fence.wide.fn f := fun _ => trivial
  obtain ⟨w3, hw3⟩ : ∃ w3, ((((w.alloc (.cells #[.bool false] 4)).alloc (.cells #[.int .i64 0] 3)).alloc (.cells #[.string ⟨#[]⟩] 9))) = w3 := ⟨_, rfl⟩
  have hs3 : w3.heap.size = w.heap.size + 1 + 1 + 1 := by rw [← hw3]; simp
  have hb3 : Below w.heap.size w w3 := by rw [← hw3]; exact (((Below.refl _ w).alloc (Nat.le_refl _) _).alloc (by simp) _).alloc (by simp; omega) _
  have HR1 : Hid (Boxed w3 w.heap.size 4 (.bool false)) := by rw [← hw3]; exact ((Row.new w 4 #[.bool false]).alloc _).alloc _
  have HR2 : Hid (Boxed w3 (w.heap.size + 1) 3 (.int .i64 0)) := by
    rw [← hw3]
    have h := Row.new (w.alloc (.cells #[.bool false] 4)) 3 #[.int .i64 0]
    rw [World.size_alloc] at h
    exact h.alloc _
  have HR3 : Hid (Boxed w3 (w.heap.size + 1 + 1) 9 (.string ⟨#[]⟩)) := by
    rw [← hw3]
    have h := Row.new ((w.alloc (.cells #[.bool false] 4)).alloc (.cells #[.int .i64 0] 3)) 9 #[.string ⟨#[]⟩]
    rw [World.size_alloc, World.size_alloc] at h
    exact h
  have HNames := names_any p len cap es w3 ((hI.below hb3).mono hb3.size) hlen hnm
  have HW : Hid (((w.alloc (.cells #[.bool false] 4)).alloc (.cells #[.int .i64 0] 3)).alloc (.cells #[.string ⟨#[]⟩] 9) = w3) := hw3
  clear hw3 hI hnm
  refine callsIn_of_wp_marks Try.func39 rfl trivial ?_ rfl
  simp only [Try.ntmps39, List.size_toArray, List.length_cons, List.length_nil, Nat.reduceAdd, Nat.reduceSub, Array.replicate_succ, Array.replicate_zero, List.push_toArray, List.append_toArray, List.nil_append, List.cons_append]
  have HS3 : Hid (w3.heap.size = w.heap.size + 1 + 1 + 1) := hs3
  clear hs3
  gi_wp2
  refine wpIn_scope_wide ?_
  gi_wp2
  refine wpIn_label ?_
  rw [HW.out]
  gi_wp2_with (gi_at_call 28; refine (callsIn_wide.2 HNames).mono ?_; rintro e w4 ⟨Bp, q, c, rfl, hBp, hbp, hown, hb4⟩)
  have hlo : w.heap.size + 1 + 1 < w3.heap.size := by rw [HS3.out]; omega
  have hl4 := hb4.size
  have r1 := boxed_below HR1.out hb4
  have r2 := boxed_below HR2.out hb4
  have r3 := boxed_below HR3.out hb4
  have hbw4 : Below w.heap.size w w4 := hb3.trans (hb4.mono hb3.size)
  have HL : Hid ((sortedE es).length = len) := hown.strs.1
  clear HR1 HR2 HR3 HW HNames hb4 HS3
  gi_wp2
  have hbl := hbp.lt
  refine wpIn_rangeFunc_ok rfl h1 (gf := 63) (lb := #[.pointer (some ⟨Bp, 0, none⟩)]) rfl trivial (enters_of Try.func63 (by kernel_rfl) rfl)
    (encs := fun x : ByteArray => #[.string x]) (Ok := fun _ _ => True) (Kp := fun X Y => OwnS w3.heap.size X (.slice q len c) (sortedE es) → OwnS w3.heap.size Y (.slice q len c) (sortedE es)) (S := fun ys => ys = sortedE es) (Sp := fun pre => pre <+: sortedE es) (N := len)
    (fun W' hsz hb => names1_iter (n - 1) (by omega) _ w3.heap.size Bp q len c (sortedE es) W' (boxed_below hbp hb) (hown.later hb)) (fun h k x => k (h x)) (fun A o o' ho hc h => OwnS.put h o' ho hc) (fun _ => rfl)
    (fun pre A => (Boxed A w.heap.size 4 (.bool false) ∧ Boxed A (w.heap.size + 1) 3 (.int .i64 (pre.length : Nat))) ∧ (Boxed A (w.heap.size + 1 + 1) 9 (.string (lastS pre)) ∧ adjB (pre.map bytesOf) = false) ∧ Below w.heap.size w4 A)
    (fun c pre A => (c = .exit 0 ∧ adjB (pre.map bytesOf) = true) ∧ Boxed A w.heap.size 4 (.bool true) ∧ Below w.heap.size w4 A)
    (fun s A A' row h hg hr => by
      obtain ⟨⟨a1, a2⟩, ⟨a3, a4⟩, a5⟩ := h
      exact ⟨⟨box_from a1 hg hr, box_from a2 hg hr⟩, ⟨box_from a3 hg hr, a4⟩, ownFrom_below (by omega) (by omega) s A A' row a5 hg hr⟩)
    (fun c s A A' row h hg hr => by
      obtain ⟨a1, a2, a3⟩ := h
      exact ⟨a1, box_from a2 hg hr, ownFrom_below (by omega) (by omega) s A A' row a3 hg hr⟩)
    (fun _ _ _ _ h _ _ => h)
    ⟨⟨r1, r2⟩, ⟨r3, rfl⟩, Below.refl _ _⟩
    (fun x => { tmps := #[.slice p len cap, undef, .bool false, .pointer (some ⟨w.heap.size, 0, none⟩), .pointer (some ⟨w.heap.size + 1, 0, none⟩), .pointer (some ⟨w.heap.size + 1 + 1, 0, none⟩), .string x, .slice p len cap, .func (.func 63) #[] #[.pointer (some ⟨Bp, 0, none⟩)], .string x, undef, undef, undef, undef, undef, undef, undef, undef, undef, undef, undef], defers := [] })
    ?assign ?body ?done ?stop
  case assign =>
    intro l x W K hK
    gi_wp2
    exact hK
  case body =>
    rintro li pre x A ⟨⟨b1, b2⟩, ⟨b3, hadj⟩, hB⟩ _ hNn
    have HA : Hid (adjB (pre.map bytesOf) = false) := hadj
    have HB : Hid (Below w.heap.size w4 A) := hB
    have H1 : Hid (Boxed A w.heap.size 4 (.bool false)) := b1
    have H2 : Hid (Boxed A (w.heap.size + 1) 3 (.int .i64 (pre.length : Nat))) := b2
    have H3 : Hid (Boxed A (w.heap.size + 1 + 1) 9 (.string (lastS pre))) := b3
    have c1 := b1.cell
    have c2 := b2.cell
    have c3 := b3.cell
    have f1 := b1.frozen
    have f2 := b2.frozen
    have f3 := b3.frozen
    clear b1 b2 b3 hB hadj
    by_cases h0 : pre = []
    · subst h0
      have HFin : Hid (KeepsFrom w4.heap.size A ((A.setCell ⟨w.heap.size + 1, 0, none⟩ (.int .i64 1)).setCell ⟨w.heap.size + 1 + 1, 0, none⟩ (.string x)) ∧ (OwnS w3.heap.size A (.slice q len c) (sortedE es) → OwnS w3.heap.size ((A.setCell ⟨w.heap.size + 1, 0, none⟩ (.int .i64 1)).setCell ⟨w.heap.size + 1 + 1, 0, none⟩ (.string x)) (.slice q len c) (sortedE es)) ∧
          (Boxed ((A.setCell ⟨w.heap.size + 1, 0, none⟩ (.int .i64 1)).setCell ⟨w.heap.size + 1 + 1, 0, none⟩ (.string x)) w.heap.size 4 (.bool false) ∧ Boxed ((A.setCell ⟨w.heap.size + 1, 0, none⟩ (.int .i64 1)).setCell ⟨w.heap.size + 1 + 1, 0, none⟩ (.string x)) (w.heap.size + 1) 3 (.int .i64 (([] ++ [x] : List ByteArray).length : Nat))) ∧
          (Boxed ((A.setCell ⟨w.heap.size + 1, 0, none⟩ (.int .i64 1)).setCell ⟨w.heap.size + 1 + 1, 0, none⟩ (.string x)) (w.heap.size + 1 + 1) 9 (.string (lastS ([] ++ [x]))) ∧ adjB (([] ++ [x] : List ByteArray).map bytesOf) = false) ∧ Below w.heap.size w4 ((A.setCell ⟨w.heap.size + 1, 0, none⟩ (.int .i64 1)).setCell ⟨w.heap.size + 1 + 1, 0, none⟩ (.string x))) := by
        refine ⟨((KeepsOthers.setCell A _ _).trans (KeepsOthers.setCell _ _ _)).from _, fun h => (h.setLow (by omega) _).setLow (by omega) _, ⟨(H1.out.other (by omega) _).other (by omega) _, (H2.out.set _).other (by omega) _⟩, ⟨(H3.out.other (by omega) _).set _, rfl⟩, (HB.out.setCell (p := ⟨w.heap.size + 1, 0, none⟩) (by show _ ≤ w.heap.size + 1; omega) _).setCell (p := ⟨w.heap.size + 1 + 1, 0, none⟩) (by show _ ≤ w.heap.size + 1 + 1; omega) _⟩
      simp only [List.length_nil] at c2
      clear H1 H2 H3
      gi_wp2
      exact HFin.out
    · have hp0 : (0 : Int) < (pre.length : Int) := by
        have := List.length_pos_iff.2 h0
        omega
      have HN : Hid (adjB ((pre ++ [x]).map bytesOf) = (x.toList == (lastS pre).toList)) := by show _ = _; rw [adj_next pre x h0, HA.out, Bool.false_or]
      generalize lastS pre = y at *
      have hpl : pre.length ≤ 1000000 := by omega
      rcases Bool.eq_false_or_eq_true (x.toList == y.toList) with e | e
      · have HFin : Hid (KeepsFrom w4.heap.size A (A.setCell ⟨w.heap.size, 0, none⟩ (.bool true)) ∧ (OwnS w3.heap.size A (.slice q len c) (sortedE es) → OwnS w3.heap.size (A.setCell ⟨w.heap.size, 0, none⟩ (.bool true)) (.slice q len c) (sortedE es)) ∧ adjB ((pre ++ [x]).map bytesOf) = true ∧ Boxed (A.setCell ⟨w.heap.size, 0, none⟩ (.bool true)) w.heap.size 4 (.bool true) ∧ Below w.heap.size w4 (A.setCell ⟨w.heap.size, 0, none⟩ (.bool true))) :=
          ⟨(KeepsOthers.setCell A _ _).from _, fun h => h.setLow (by omega) _, by rw [HN.out]; exact e, H1.out.set _, HB.out.setCell (p := ⟨w.heap.size, 0, none⟩) (Nat.le_refl _) _⟩
        clear H1 H2 H3
        gi_wp2
        exact ⟨HFin.out.1, HFin.out.2.1, ⟨rfl, HFin.out.2.2.1⟩, HFin.out.2.2.2⟩
      · have HFin : Hid (KeepsFrom w4.heap.size A ((A.setCell ⟨w.heap.size + 1, 0, none⟩ (.int .i64 ((pre.length : Int) + 1))).setCell ⟨w.heap.size + 1 + 1, 0, none⟩ (.string x)) ∧ (OwnS w3.heap.size A (.slice q len c) (sortedE es) → OwnS w3.heap.size ((A.setCell ⟨w.heap.size + 1, 0, none⟩ (.int .i64 ((pre.length : Int) + 1))).setCell ⟨w.heap.size + 1 + 1, 0, none⟩ (.string x)) (.slice q len c) (sortedE es)) ∧
            (Boxed ((A.setCell ⟨w.heap.size + 1, 0, none⟩ (.int .i64 ((pre.length : Int) + 1))).setCell ⟨w.heap.size + 1 + 1, 0, none⟩ (.string x)) w.heap.size 4 (.bool false) ∧ Boxed ((A.setCell ⟨w.heap.size + 1, 0, none⟩ (.int .i64 ((pre.length : Int) + 1))).setCell ⟨w.heap.size + 1 + 1, 0, none⟩ (.string x)) (w.heap.size + 1) 3 (.int .i64 ((pre ++ [x]).length : Nat))) ∧
            (Boxed ((A.setCell ⟨w.heap.size + 1, 0, none⟩ (.int .i64 ((pre.length : Int) + 1))).setCell ⟨w.heap.size + 1 + 1, 0, none⟩ (.string x)) (w.heap.size + 1 + 1) 9 (.string (lastS (pre ++ [x]))) ∧ adjB ((pre ++ [x]).map bytesOf) = false) ∧ Below w.heap.size w4 ((A.setCell ⟨w.heap.size + 1, 0, none⟩ (.int .i64 ((pre.length : Int) + 1))).setCell ⟨w.heap.size + 1 + 1, 0, none⟩ (.string x))) := by
          refine ⟨((KeepsOthers.setCell A _ _).trans (KeepsOthers.setCell _ _ _)).from _, fun h => (h.setLow (by omega) _).setLow (by omega) _, ⟨(H1.out.other (by omega) _).other (by omega) _, ?_⟩, ⟨?_, by rw [HN.out]; exact e⟩, (HB.out.setCell (p := ⟨w.heap.size + 1, 0, none⟩) (by show _ ≤ w.heap.size + 1; omega) _).setCell (p := ⟨w.heap.size + 1 + 1, 0, none⟩) (by show _ ≤ w.heap.size + 1 + 1; omega) _⟩
          · rw [show (((pre ++ [x]).length : Nat) : Int) = (pre.length : Int) + 1 by simp]
            exact (H2.out.set _).other (by omega) _
          · rw [show lastS (pre ++ [x]) = x by simp [lastS]]
            exact (H3.out.other (by omega) _).set _
        clear H1 H2 H3
        gi_wp2
        exact HFin.out
  case done =>
    rintro D ys A hD rfl ⟨⟨b1, b2⟩, ⟨b3, hadj⟩, hB⟩ hK
    have c1 := b1.cell
    gi_wp2
    refine ⟨by simp, .inl ⟨_, _, rfl, run_takeDeferred hK, ?_⟩⟩
    rw [← adjB_dup, hadj]
    exact ⟨_, results_tmp rfl _ _ _, rfl, (hbw4.trans hB).trans (below_putObj _ _ (by omega))⟩
  case stop =>
    rintro D c pre A hD hsp ⟨⟨rfl, hadj⟩, b1, hB⟩ hK
    have c1 := b1.cell
    obtain ⟨r, hr⟩ := hsp
    have hdup : dupB es = true := by rw [← adjB_dup, ← hr, List.map_append]; exact adjB_prefix _ _ hadj
    gi_wp2
    refine ⟨by simp, .inl ⟨_, _, rfl, run_takeDeferred hK, ?_⟩⟩
    rw [hdup]
    exact ⟨_, results_tmp rfl _ _ _, rfl, (hbw4.trans hB).trans (below_putObj _ _ (by omega))⟩
end Go.Proofs.Ytlmfdifnkkdpfaa
