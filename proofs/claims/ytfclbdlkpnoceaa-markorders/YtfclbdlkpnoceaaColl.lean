/-
  slices.AppendSeq and slices.Collect of what once tells; slices.Clip and slices.Clone of ids.
-/
import Derived.Test.YtfclbdlkpnoceaaOnce
import Derived.Test.YtfclbdlkpnoceaaBuild
import Derived.Test.YtfclbdlkpnoceaaOps
import Derived.Test.YtfclbdlkpnoceaaRfIds
namespace Go.Proofs.Ytfclbdlkpnoceaa
open Go.RowKit Go.Shelf
attribute [local go_sem] Oper.semAt_some

theorem KpO.trans {n₀ Bx n₂ : Nat} {A B C : World} (h : KpO n₀ Bx n₂ A B) (k : KpO n₀ Bx n₂ B C) : KpO n₀ Bx n₂ A C := ⟨fun i c t fr hi ht => k.1 i c t fr (h.1 i c t fr hi ht) ht, h.2.trans k.2⟩
theorem KpO.record {n₀ Bx n₂ l : Nat} (hl : l < n₂) {A : World} {o : Obj} (o' : Obj) (ho : A.heap[l]? = some o) (hc : o.isCells = false) : KpO n₀ Bx n₂ A (A.putObj l o') := by
  refine ⟨fun k c t fr hk _ => ?_, by simp [World.putObj], fun k x hk hx _ => ?_⟩
  · rw [World.putObj_heap_other (fun e => by subst e; rw [hk] at ho; cases ho; cases hc)]; exact hk
  · rw [World.putObj_heap_other (by omega)]; exact hx
theorem KpO.of_below {n₀ Bx n₂ : Nat} {A B : World} (h : Below A.heap.size A B) : KpO n₀ Bx n₂ A B := ⟨fun k _ _ _ hk _ => (h.block k (Array.getElem?_eq_some_iff.1 hk).1).trans hk, keepsFrom_of_below h⟩
/-- A row of ids grows, and the box that holds its slice is written. -/
theorem KpO.grown {n₀ Bx n₂ : Nat} {A B : World} {v u : Value} {n : Nat} {xs : List Value} (hn : n₀ ≤ Bx) (hbx : Boxed A Bx 23 v) (hr : A.ownsRow n₀ 33 32 v n xs) (hg : A.grownBy B v.ownBlock) (hko : KeepsOthers A (B.setCell ⟨Bx, 0, none⟩ u)) : KpO n₀ Bx n₂ A (B.setCell ⟨Bx, 0, none⟩ u) := by
  refine ⟨fun k c t fr hk ht => ?_, hko.from _⟩
  have hkl := (Array.getElem?_eq_some_iff.1 hk).1
  have h1 : B.heap[k]? = some (Obj.cells c t fr) := by
    refine (hg.block k hkl (fun e => ?_)).trans hk
    obtain ⟨c', fr', h'⟩ := row_tag hr k e.symm
    rw [hk] at h'
    cases h'
    rcases ht with h | h | h
    · have := (World.ownsRow.lt hr k e.symm).1; omega
    · exact absurd h.1 (by decide)
    · exact absurd h (by decide)
  rw [heap_setCell_other B ⟨Bx, 0, none⟩ k u (fun e => ?_)]
  · exact h1
  · have e : k = Bx := e
    subst e
    rcases ht with h | h | h
    · omega
    · exact h.2 rfl
    · subst h
      have hbx : A.heap[k]? = some (.cells #[v] 23 (0, 0)) := hbx
      rw [hk] at hbx
      injection hbx with hbx
      injection hbx with _ h2 _
      exact absurd h2 (by decide)

theorem TwoRow.put {t : TypeId} {c : List Value} {l : Nat} {A B : World} (o : Obj) (h : Row B A.heap.size t c) (hl : l < A.heap.size) : Row (B.putObj l o) A.heap.size t c := (World.putObj_heap_other (by omega)).trans h

set_option maxRecDepth 100000 in
set_option maxHeartbeats 4000000 in
/-- AppendSeq to nothing, of what an iterator tells that once made. -/
theorem appendSeq_in (N : Nat) (hN : 7 ≤ N) (Bs : Nat) (L : List (List Nat)) (M : Nat) (hM : M ≤ 100002) (w : World)
    (hit : ∀ (l : Nat) (W : World), W.heap.size = w.heap.size + 3 → Below (w.heap.size + 1) (w.alloc (.cells #[.slice none 0 0] 23)) W → IterAt Fence.wide (N - 1) Try.prog 55 #[.pointer (some ⟨Bs, 0, none⟩)] (fun x : List Nat => #[.agg (u8s x).toArray]) (fun x _ => IsId x) (KpO w.heap.size w.heap.size (w.heap.size + 3)) (fun xs => xs = L) (fun _ => True) M l W) :
    CallsIn Fence.wide N Try.prog 54 #[.slice none 0 0, .func (.func 55) #[] #[.pointer (some ⟨Bs, 0, none⟩)]] w fun e w' => ∃ v, e = .returned v ∧ OwnIds w.heap.size w' v L ∧ Below w.heap.size w w' := by
  obtain ⟨i0, hi0, hz0, hz1, hz2⟩ := info_parts info33
  have h1 : 1 ≤ N := by omega
  have hfn : ∀ f, Fence.wide.fn f := fun _ => trivial
  refine callsIn_of_wp_marks Try.func54 rfl trivial ?_ rfl
  simp only [Try.ntmps54, List.size_toArray, List.length_cons, List.length_nil, Nat.reduceAdd, Nat.reduceSub, Array.replicate_succ, Array.replicate_zero, List.push_toArray, List.append_toArray, List.nil_append, List.cons_append]
  gi_wp2
  have bX0 := Boxed.new w 23 (.slice none 0 0)
  have hb0 : Below w.heap.size w (w.alloc (.cells #[.slice none 0 0] 23)) := (Below.refl _ w).alloc (Nat.le_refl _) _
  have hs0 : (w.alloc (.cells #[.slice none 0 0] 23)).heap.size = w.heap.size + 1 := by simp
  generalize w.alloc (.cells #[.slice none 0 0] 23) = w0 at *
  refine wpIn_rangeFunc_okv rfl h1 (gf := 55) (lb := #[.pointer (some ⟨Bs, 0, none⟩)]) rfl trivial (enters_of Try.func55 (by kernel_rfl) rfl)
    (encs := fun x : List Nat => #[.agg (u8s x).toArray]) (Ok := fun x _ => IsId x) (Kp := KpO w.heap.size w.heap.size (w.heap.size + 3)) (S := fun xs => xs = L) (Sp := fun _ => True) (N := M)
    (fun W' hs hb => hit _ W' (by omega) (hb.mono (by omega)))
    KpO.trans (fun A o o' ho hc => KpO.record (by omega) o' ho hc) KpO.of_below (fun _ => rfl)
    (fun x A B => Row B A.heap.size 33 (u8s x)) (fun x A B o h hl => TwoRow.put o h hl)
    (fun pre A => (∃ v, Boxed A w.heap.size 23 v ∧ A.ownsRow w.heap.size 33 32 v pre.length (u8s pre.flatten) ∧ True) ∧ Below w.heap.size w A)
    (fun _ _ _ => False)
    (OwnFrom.and (Own.from (holdsRow_own w.heap.size w.heap.size 23 33 32 (fun pre : List (List Nat) => pre.length) (fun pre => u8s pre.flatten) (fun _ _ => True)) _) (ownFrom_below (by omega) (by omega)))
    (fun _ _ _ _ _ h _ _ => h.elim)
    (fun _ _ _ _ h _ _ => h)
    ⟨⟨_, bX0, World.ownsRow_nil _ _ _ _, trivial⟩, hb0⟩
    (fun x A => { tmps := #[.slice none 0 0, .func (.func 55) #[] #[.pointer (some ⟨Bs, 0, none⟩)], .pointer (some ⟨w.heap.size, 0, none⟩), undef, .slice none 0 0, .pointer (some ⟨A.heap.size, 0, none⟩), .func (.func 55) #[] #[.pointer (some ⟨Bs, 0, none⟩)], .agg (u8s x).toArray, undef, undef, undef, undef, undef], defers := [] }) ?assign ?body ?done ?stop
  case assign =>
    intro li x A K hok hK
    have HXL : Hid ((u8s x).length = 32) := by show _ = _; rw [u8s_length]; exact hok.1
    have HX1 : Hid (∀ v ∈ u8s x, v.oneCell' = true) := u8s_one _
    have HK : Hid (∀ W', Below A.heap.size A W' → Row W' A.heap.size 33 (u8s x) → K _ W') := hK
    clear hK
    generalize u8s x = X at *
    gi_wp2_with ((with_reducible show wpListIn _ _ _ _ _ (Oper.mk _ (Op.store 33 (.tmp 5) (.tmp 7)) _ _ _ _ :: _) _ _); rw [z32u8]; refine wpListIn_store_Row rfl 33 (.tmp 5) (.tmp 7) rfl X rfl rfl (Row.new' A 33 (List.replicate 32 (Value.int .u8 0))) (by rw [HXL.out]; exact size33) (by rw [HXL.out]; rfl) HX1.out ?_; have hR2 := (Row.new' A 33 (List.replicate 32 (Value.int .u8 0))).sets_all (vs := X) (by rw [HXL.out]; rfl); have hb2 : Below A.heap.size A ((A.alloc (.cells (List.replicate 32 (Value.int .u8 0)).toArray 33)).setCells A.heap.size 0 X) := below_setCells (Nat.le_refl _) _ _ ((Below.refl _ A).alloc (Nat.le_refl _) _); generalize (A.alloc (.cells (List.replicate 32 (Value.int .u8 0)).toArray 33)).setCells A.heap.size 0 X = A2 at *; have HR2 : Hid (Row A2 A.heap.size 33 X) := hR2; clear hR2; simp only [Act.put])
    exact HK.out A2 hb2 HR2.out
  case body =>
    rintro li pre x A₀ A ⟨⟨v, hv, hrow, _⟩, hB⟩ hok hNn hle hr1
    have HXL : Hid ((u8s x).length = 32) := by show _ = _; rw [u8s_length]; exact hok.1
    obtain ⟨q, c, rfl⟩ := slice_of_row hrow
    have HR1 : Hid (Row A A₀.heap.size 33 (u8s x)) := hr1
    obtain ⟨W4, hW4⟩ : ∃ W4, A.alloc (.cells (u8s x).toArray 33) = W4 := ⟨_, rfl⟩
    have hr4 : W4.ownsRow w.heap.size 33 32 (.slice q pre.length c) pre.length (u8s pre.flatten) := by rw [← hW4]; exact World.ownsRow.alloc hrow _
    have hrg4 : W4.rangeAt A.heap.size 0 (u8s x) := by rw [← hW4]; exact (Row.new' A 33 (u8s x)).range
    have hs4 : W4.heap.size = A.heap.size + 1 := by rw [← hW4]; exact World.size_alloc _ _
    have hBsz := hB.size
    obtain ⟨u5, W5, hrun, ho5, hg5, _, _⟩ := run_append_own_at (P := Try.prog) W4 w.heap.size 23 23 33 i0 _ 32 32 Try.underlying23 hi0 hz0 hz1 hz2 (by simp [Value.cells]) (by omega) (.slice q pre.length c) pre.length (u8s pre.flatten) hr4 ⟨A.heap.size, 0, none⟩ 1 1 (u8s x) (by simp [hok.1]) (fun j u hu => by rw [Addr.add_mid]; exact hrg4 j u hu) (u8s_one _) (by simp only [maxLen]; omega) (by omega) (by omega)
    obtain ⟨q5, l5, c5, rfl⟩ : ∃ q l c, u5 = Value.slice q l c := by obtain ⟨q, c, e⟩ := slice_of_row ho5; exact ⟨q, _, c, e⟩
    have hg5' : (A.alloc (.cells (u8s x).toArray 33)).grownBy W5 (Value.slice q pre.length c).ownBlock := by rw [hW4]; exact hg5
    obtain ⟨hv1, hv2, hr2, hk2, hb2⟩ := hv.appended (by decide) hrow (by omega) (Nat.le_refl _) ho5 hg5'
    have hv4 : Boxed W4 w.heap.size 23 (.slice q pre.length c) := by rw [← hW4]; exact hv.alloc _
    have hkp : KpO w.heap.size w.heap.size (w.heap.size + 3) A (W5.setCell ⟨w.heap.size, 0, none⟩ (.slice q5 l5 c5)) := by
      refine (KpO.of_below (B := W4) ?_).trans (KpO.grown (Nat.le_refl _) hv4 hr4 hg5 ?_)
      · rw [← hW4]; exact (Below.refl _ A).alloc (Nat.le_refl _) _
      · exact (KeepsOthers.of_grownBy hg5 (fun j o e ho => by obtain ⟨c', fr', h'⟩ := row_tag hr4 j e; rw [h'] at ho; cases ho; rfl)).trans (KeepsOthers.setCell _ _ _)
    have HRun : Hid ((Builtin.append_ #[23, 23] 23 #[.slice q pre.length c, .slice (some ⟨A.heap.size, 0, none⟩) 1 1]).run Try.prog W4 = .ok (.slice q5 l5 c5) W5) := hrun
    have hcv := hv.cell
    have hcv5 := hv1.cell
    have hfv5 := hv1.frozen
    have HFin : Hid (KeepsFrom w0.heap.size A (W5.setCell ⟨w.heap.size, 0, none⟩ (.slice q5 l5 c5)) ∧ KpO w.heap.size w.heap.size (w.heap.size + 3) A (W5.setCell ⟨w.heap.size, 0, none⟩ (.slice q5 l5 c5)) ∧ (∃ v, Boxed (W5.setCell ⟨w.heap.size, 0, none⟩ (.slice q5 l5 c5)) w.heap.size 23 v ∧ (W5.setCell ⟨w.heap.size, 0, none⟩ (.slice q5 l5 c5)).ownsRow w.heap.size 33 32 v (pre ++ [x]).length (u8s (pre ++ [x]).flatten) ∧ True) ∧ Below w.heap.size w (W5.setCell ⟨w.heap.size, 0, none⟩ (.slice q5 l5 c5))) := by
      refine ⟨⟨hk2.size, fun k o _ h1 h2 => hk2.same k o h1 h2⟩, hkp, ⟨_, hv2, ?_, trivial⟩, hB.trans hb2⟩
      rw [List.flatten_append, List.length_append, ← u8s_append]
      simpa using hr2
    clear hr1 hrow hr4 hrg4 hg5 hg5' hv hv1 hv2 hr2 hk2 hb2 hkp hok hB ho5 hrun hv4
    generalize u8s x = V at *
    gi_wp2_with (first
      | ((with_reducible show wpListIn _ _ _ _ _ (Oper.mk _ (Op.load 33 (.tmp 5)) _ _ _ _ :: _) _ _); refine wpListIn_load_Row rfl 33 (.tmp 5) rfl rfl HR1.out Try.underlying33 (by rw [HXL.out]; exact size33) ?_; simp only [Act.put, List.setIfInBounds_toArray, List.set_cons_zero, List.set_cons_succ])
      | ((with_reducible show wpListIn _ _ _ _ _ (Oper.mk (some 10) _ _ _ _ _ :: _) _ _); refine wpListIn_oper rfl (by intro c hc; cases hc) (fun K hK => wp_buildOne 23 33 (.tmp 9) rfl V rfl i0 _ Try.underlying23 hi0 hz0 (by rw [hz1, HXL.out]) (by rw [HXL.out]; omega) (by rw [HXL.out]; omega) (hK _ _ ?_)); rw [hW4]; simp only [Act.put, List.setIfInBounds_toArray, List.set_cons_zero, List.set_cons_succ])
      | ((with_reducible show wpListIn _ _ _ _ _ (Oper.mk (some 11) _ _ _ _ _ :: _) _ _); refine wpListIn_oper rfl (by intro c hc; cases hc) (fun K hK => wp_append_of (.tmp 8) (.tmp 10) 23 rfl rfl rfl HRun.out (hK _ _ ?_)); simp only [Act.put, List.setIfInBounds_toArray, List.set_cons_zero, List.set_cons_succ]))
    exact HFin.out
  case done =>
    rintro D xs A hD rfl ⟨⟨v, hv, hrow, _⟩, hB⟩ hKD
    obtain ⟨q, c, rfl⟩ := slice_of_row hrow
    have hcU := hv.cell
    have HRow : Hid (OwnIds w.heap.size A (.slice q xs.length c) xs) := hrow
    clear hrow
    gi_wp2
    refine ⟨by simp, .inl ⟨_, _, rfl, run_takeDeferred hKD, ?_⟩⟩
    have hbK : Below w.heap.size w (A.putObj D (.deferred none)) := hB.trans (below_putObj _ _ (by omega))
    refine ⟨_, results_tmp rfl _ _ _, _, rfl, ?_, hbK⟩
    exact ownsRow_putObj HRow.out (.deferred none) hKD rfl
  case stop => exact fun _ _ _ _ _ _ h => h.elim
end Go.Proofs.Ytfclbdlkpnoceaa
