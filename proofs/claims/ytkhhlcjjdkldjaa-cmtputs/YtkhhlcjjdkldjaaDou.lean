/-
  doubled: whether two parents are alike; mayBe.
-/
import Derived.Test.YtkhhlcjjdkldjaaPar
namespace Go.Proofs.Ytkhhlcjjdkldjaa
open Go.RowKit Go.Shelf
attribute [local go_sem] Oper.semAt_some

def dupI (ids : List (List Nat)) : Bool := decide (¬ ids.Nodup)
theorem nodup_snoc {pre : List (List Nat)} {x : List Nat} (h : pre.Nodup) (hx : ¬ x ∈ pre) : (pre ++ [x]).Nodup := by
  rw [List.nodup_append]
  exact ⟨h, by simp, fun a ha b hb => by rw [List.mem_singleton] at hb; subst hb; intro e; subst e; exact hx ha⟩
theorem dup_snoc {pre : List (List Nat)} {x : List Nat} (hx : x ∈ pre) : ¬ (pre ++ [x]).Nodup := fun h => by
  rw [List.nodup_append] at h
  exact h.2.2 x hx x (by simp) rfl
theorem nodup_prefix {pre ids : List (List Nat)} (h : pre <+: ids) (hi : ids.Nodup) : pre.Nodup := by
  obtain ⟨r, rfl⟩ := h
  exact (List.nodup_append.1 hi).1

set_option maxRecDepth 100000 in
set_option maxHeartbeats 4000000 in
theorem doubled_in (N : Nat) (hN : 7 ≤ N) (p : Option Addr) (len cap : Nat) (ids : List (List Nat)) (c : Cmt) (hok : c.ok) (hlen : len ≤ 100000) (w : World) (hI : IsIds w.heap.size w p len cap ids) :
    CallsIn Fence.wide N Try.prog 45 #[.agg (cmtC (.slice p len cap) c).toArray] w fun e w' => e = .returned (.bool (dupI ids)) ∧ Below w.heap.size w w' := by
  obtain ⟨i0, hi0, hz0, hz1, hz2⟩ := info_parts info24
  have h1 : 1 ≤ N := by omega
  have hfn : ∀ f, Fence.wide.fn f := fun _ => trivial
  obtain ⟨w3, hw3⟩ : ∃ w3, ((w.alloc (.cells (cmtC (.slice p len cap) c).toArray 29)).alloc (.cells #[.bool false] 4)).alloc (.cells #[.slice none 0 0] 22) = w3 := ⟨_, rfl⟩
  have hs3 : w3.heap.size = w.heap.size + 1 + 1 + 1 := by rw [← hw3]; simp
  have hb3 : Below w.heap.size w w3 := by rw [← hw3]; exact (((Below.refl _ w).alloc (Nat.le_refl _) _).alloc (by simp) _).alloc (by simp; omega) _
  have HC3 : Hid (CmtAt w3 w.heap.size (.slice p len cap) c) := by rw [← hw3]; exact ⟨hok, ((Row.new' w 29 _).alloc _).alloc _⟩
  have HR1 : Hid (Boxed w3 (w.heap.size + 1) 4 (.bool false)) := by
    rw [← hw3]
    have h := Row.new (w.alloc (.cells (cmtC (.slice p len cap) c).toArray 29)) 4 #[.bool false]
    rw [World.size_alloc] at h
    exact h.alloc _
  have HR2 : Hid (Boxed w3 (w.heap.size + 1 + 1) 22 (.slice none 0 0)) := by
    rw [← hw3]
    have h := Row.new ((w.alloc (.cells (cmtC (.slice p len cap) c).toArray 29)).alloc (.cells #[.bool false] 4)) 22 #[.slice none 0 0]
    rw [World.size_alloc, World.size_alloc] at h
    exact h
  have HP := parents_any (.slice p len cap) c hok w3
  have HW : Hid (((w.alloc (.cells (cmtC (.slice p len cap) c).toArray 29)).alloc (.cells #[.bool false] 4)).alloc (.cells #[.slice none 0 0] 22) = w3) := hw3
  have HI : Hid (IsIds w.heap.size w p len cap ids) := hI
  have HOk : Hid c.ok := hok
  have HS3 : Hid (w3.heap.size = w.heap.size + 1 + 1 + 1) := hs3
  clear hw3 hI hok hs3
  refine callsIn_of_wp_marks Try.func45 rfl trivial ?_ rfl
  simp only [Try.ntmps45, List.size_toArray, List.length_cons, List.length_nil, Nat.reduceAdd, Nat.reduceSub, Array.replicate_succ, Array.replicate_zero, List.push_toArray, List.append_toArray, List.nil_append, List.cons_append]
  gi_wp2_with (first
    | (rw [HW.out])
    | ((with_reducible show wpListIn _ _ _ _ _ (Oper.mk _ (Op.load 29 (.tmp 1)) _ _ _ _ :: _) _ _); refine wpListIn_load_mid (by rfl) 29 (.tmp 1) rfl rfl HC3.out.row.range Try.underlying29 rfl (size29' HOk.out) ?_; simp only [Act.put, List.setIfInBounds_toArray, List.set_cons_zero, List.set_cons_succ])
    | (gi_at_call 29; refine (callsIn_wide.2 HP).mono ?_; rintro e w4 ⟨rfl, hA4, hw4⟩; have HW4 : Hid (w4 = w3.alloc (.cells (cmtC (.slice p len cap) c).toArray 29)) := hw4; clear hw4))
  have hs4 : w4.heap.size = w.heap.size + 1 + 1 + 1 + 1 := by rw [HW4.out, World.size_alloc, HS3.out]
  have hb34 : Below w3.heap.size w3 w4 := by rw [HW4.out]; exact (Below.refl _ w3).alloc (Nat.le_refl _) _
  have hbw4 : Below w.heap.size w w4 := hb3.trans (hb34.mono hb3.size)
  have r1 := boxed_below HR1.out hb34
  have r2 := boxed_below HR2.out hb34
  have hI4 := HI.out.below hbw4
  have HA4 : Hid (CmtAt w4 w3.heap.size (.slice p len cap) c) := hA4
  clear HR1 HR2 HW HP HW4 hb34 hA4
  refine wpIn_rangeFunc_okv rfl h1 (gf := 48) (lb := #[.pointer (some ⟨w3.heap.size, 0, none⟩)]) rfl trivial (enters_of Try.func48 (by kernel_rfl) rfl)
    (encs := fun x : List Nat => #[.agg (u8s x).toArray]) (Ok := fun x _ => IsId x) (Kp := KpL w.heap.size) (S := fun xs => xs = ids) (Sp := fun pre => pre <+: ids) (N := len)
    (fun W' hs hb => parents1_iter (N - 1) (by omega) _ w.heap.size w3.heap.size p len cap ids c W' (by omega) (HA4.out.later hb) (hI4.below (hb.mono (by omega))))
    KpL.trans (fun A o o' ho hc => KpL.record o' ho hc) KpL.of_below (fun _ => rfl)
    (fun x A B => Row B A.heap.size 24 (u8s x)) (fun x A B o h hl => TwoRow.put o h hl)
    (fun pre A => ((∃ v, Boxed A (w.heap.size + 1 + 1) 22 v ∧ A.ownsRow w.heap.size 24 32 v pre.length (u8s pre.flatten) ∧ True) ∧ Below w.heap.size w A) ∧ (Boxed A (w.heap.size + 1) 4 (.bool false) ∧ (pre.Nodup ∧ ∀ y ∈ pre, IsId y)))
    (fun c pre A => (c = .ret ∧ ¬ pre.Nodup) ∧ Boxed A (w.heap.size + 1) 4 (.bool true) ∧ Below w.heap.size w A)
    (OwnFrom.and (OwnFrom.and (Own.from (holdsRow_own w.heap.size (w.heap.size + 1 + 1) 22 24 32 (fun pre : List (List Nat) => pre.length) (fun pre => u8s pre.flatten) (fun _ _ => True)) _) (ownFrom_below (by omega) (by omega))) (OwnFrom.and (Own.from (boxed_own _ _ _) _) (fun _ _ _ _ h _ _ => h)))
    (fun _ => OwnFrom.and (fun _ _ _ _ h _ _ => h) (OwnFrom.and (Own.from (boxed_own _ _ _) _) (ownFrom_below (by omega) (by omega))))
    (fun _ _ _ _ h _ _ => h)
    ⟨⟨⟨_, r2, World.ownsRow_nil _ _ _ _, trivial⟩, hbw4⟩, r1, List.nodup_nil, by simp⟩
    (fun x A => { tmps := #[.agg (cmtC (.slice p len cap) c).toArray, .pointer (some ⟨w.heap.size, 0, none⟩), .pointer (some ⟨w.heap.size + 1, 0, none⟩), .pointer (some ⟨w.heap.size + 1 + 1, 0, none⟩), .pointer (some ⟨A.heap.size, 0, none⟩), .agg (cmtC (.slice p len cap) c).toArray, .func (.func 48) #[] #[.pointer (some ⟨w3.heap.size, 0, none⟩)], .agg (u8s x).toArray, undef, undef, undef, undef, undef, undef, undef], defers := [] }) ?assign ?body ?done ?stop
  case assign =>
    intro li x A K hok hK
    have HXL : Hid ((u8s x).length = 32) := by show _ = _; rw [u8s_length]; exact hok.1
    have HX1 : Hid (∀ v ∈ u8s x, v.oneCell' = true) := u8s_one _
    have HK : Hid (∀ W', Below A.heap.size A W' → Row W' A.heap.size 24 (u8s x) → K _ W') := hK
    clear hK
    generalize u8s x = X at *
    gi_wp2_with ((with_reducible show wpListIn _ _ _ _ _ (Oper.mk _ (Op.store 24 (.tmp 4) (.tmp 7)) _ _ _ _ :: _) _ _); rw [z32u8]; refine wpListIn_store_Row rfl 24 (.tmp 4) (.tmp 7) rfl X rfl rfl (Row.new' A 24 (List.replicate 32 (Value.int .u8 0))) (by rw [HXL.out]; exact size24) (by rw [HXL.out]; rfl) HX1.out ?_; have hR2 := (Row.new' A 24 (List.replicate 32 (Value.int .u8 0))).sets_all (vs := X) (by rw [HXL.out]; rfl); have hb2 : Below A.heap.size A ((A.alloc (.cells (List.replicate 32 (Value.int .u8 0)).toArray 24)).setCells A.heap.size 0 X) := below_setCells (Nat.le_refl _) _ _ ((Below.refl _ A).alloc (Nat.le_refl _) _); generalize (A.alloc (.cells (List.replicate 32 (Value.int .u8 0)).toArray 24)).setCells A.heap.size 0 X = A2 at *; have HR2 : Hid (Row A2 A.heap.size 24 X) := hR2; clear hR2; simp only [Act.put])
    exact HK.out A2 hb2 HR2.out
  case body =>
    rintro li pre x A₀ B ⟨⟨⟨v, hv, hrow, _⟩, hB⟩, hRb, hnd, hids⟩ hok hNn hle hr1
    have HXL : Hid ((u8s x).length = 32) := by show _ = _; rw [u8s_length]; exact hok.1
    obtain ⟨q, cp, rfl⟩ := slice_of_row hrow
    have HR0 : Hid (Row B A₀.heap.size 24 (u8s x)) := hr1
    have hIp : IsIds B.heap.size B q pre.length cp pre := OwnIds.ids hrow rfl hids
    have HCo : Hid (Calls Try.prog 65 #[.slice q pre.length cp, .agg (u8s x).toArray] B fun e w' => e = .returned (.bool (decide (x ∈ pre))) ∧ Below B.heap.size B w') := contains_any q pre.length cp pre x hok B hIp
    have hcv := hv.cell
    have hdep : Fence.wide.depth = none := rfl
    by_cases hxm : x ∈ pre
    · rw [decide_eq_true hxm] at HCo
      have HFin : Hid (∀ A, Below B.heap.size B A → KeepsFrom w4.heap.size B (A.setCell ⟨w.heap.size + 1, 0, none⟩ (.bool true)) ∧ KpL w.heap.size B (A.setCell ⟨w.heap.size + 1, 0, none⟩ (.bool true)) ∧ ((Code.ret = Code.ret ∧ ¬ (pre ++ [x]).Nodup) ∧ Boxed (A.setCell ⟨w.heap.size + 1, 0, none⟩ (.bool true)) (w.heap.size + 1) 4 (.bool true) ∧ Below w.heap.size w (A.setCell ⟨w.heap.size + 1, 0, none⟩ (.bool true)))) := fun A hA =>
        ⟨(keepsFrom_of_below hA).trans ((KeepsOthers.setCell A _ _).from _), (KpL.of_below hA).trans (KpL.low ((Below.refl _ A).setCell (p := ⟨w.heap.size + 1, 0, none⟩) (by show _ ≤ w.heap.size + 1; omega) _)), ⟨rfl, dup_snoc hxm⟩, (boxed_below hRb hA).set _, (hB.trans (hA.mono hB.size)).setCell (p := ⟨w.heap.size + 1, 0, none⟩) (by show _ ≤ w.heap.size + 1; omega) _⟩
      have HRb : Hid (Boxed B (w.heap.size + 1) 4 (.bool false)) := hRb
      clear hr1 hrow hv hB hRb hnd hids hok hIp hxm
      generalize u8s x = V at *
      gi_wp2_with (first
        | ((with_reducible show wpListIn _ _ _ _ _ (Oper.mk _ (Op.load 24 (.tmp 4)) _ _ _ _ :: _) _ _); refine wpListIn_load_Row rfl 24 (.tmp 4) rfl rfl HR0.out Try.underlying24 (by rw [HXL.out]; exact size24) ?_; simp only [Act.put, List.setIfInBounds_toArray, List.set_cons_zero, List.set_cons_succ])
        | (gi_at_call 65; refine (CallsIn.inRound li (callsIn_wide.2 HCo.out)).mono ?_; rintro e A ⟨rfl, hbA⟩; have cR := (boxed_below HRb.out hbA).cell; have fR := (boxed_below HRb.out hbA).frozen))
      have hF := HFin.out A hbA
      exact ⟨hF.1, hF.2.1, ⟨rfl, hF.2.2.1.2⟩, hF.2.2.2⟩
    · rw [decide_eq_false hxm] at HCo
      have HRb : Hid (Boxed B (w.heap.size + 1) 4 (.bool false)) := hRb
      have HNx : Hid ((pre ++ [x]).Nodup ∧ ∀ y ∈ pre ++ [x], IsId y) := ⟨nodup_snoc hnd hxm, fun y hy => by
        rcases List.mem_append.1 hy with h | h
        · exact hids y h
        · rw [List.mem_singleton] at h; subst h; exact hok⟩
      have HX : Hid (IsId x) := hok
      have HV0 : Hid (Boxed B (w.heap.size + 1 + 1) 22 (.slice q pre.length cp)) := hv
      have HRw : Hid (B.ownsRow w.heap.size 24 32 (.slice q pre.length cp) pre.length (u8s pre.flatten)) := hrow
      have HB : Hid (Below w.heap.size w B) := hB
      have HApp : Hid (∀ A, Below B.heap.size B A → ∃ q5 l5 c5 W5, (Builtin.append_ #[22, 22] 22 #[.slice q pre.length cp, .slice (some ⟨A.heap.size, 0, none⟩) 1 1]).run Try.prog (A.alloc (.cells (u8s x).toArray 24)) = .ok (.slice q5 l5 c5) W5 ∧ Boxed W5 (w.heap.size + 1 + 1) 22 (.slice q pre.length cp) ∧
          (KeepsFrom w4.heap.size B (W5.setCell ⟨w.heap.size + 1 + 1, 0, none⟩ (.slice q5 l5 c5)) ∧ KpL w.heap.size B (W5.setCell ⟨w.heap.size + 1 + 1, 0, none⟩ (.slice q5 l5 c5)) ∧ (((∃ v, Boxed (W5.setCell ⟨w.heap.size + 1 + 1, 0, none⟩ (.slice q5 l5 c5)) (w.heap.size + 1 + 1) 22 v ∧ (W5.setCell ⟨w.heap.size + 1 + 1, 0, none⟩ (.slice q5 l5 c5)).ownsRow w.heap.size 24 32 v (pre ++ [x]).length (u8s (pre ++ [x]).flatten) ∧ True) ∧ Below w.heap.size w (W5.setCell ⟨w.heap.size + 1 + 1, 0, none⟩ (.slice q5 l5 c5))) ∧ (Boxed (W5.setCell ⟨w.heap.size + 1 + 1, 0, none⟩ (.slice q5 l5 c5)) (w.heap.size + 1) 4 (.bool false) ∧ ((pre ++ [x]).Nodup ∧ ∀ y ∈ pre ++ [x], IsId y))))) := fun A hA => by
        have hrA := ownsRow_later hA HRw.out
        have hvA := boxed_below HV0.out hA
        have hRA := boxed_below HRb.out hA
        have hBA : Below w.heap.size w A := HB.out.trans (hA.mono HB.out.size)
        have hBs := hBA.size
        obtain ⟨W4, hW4⟩ : ∃ W4, A.alloc (.cells (u8s x).toArray 24) = W4 := ⟨_, rfl⟩
        have hr4 : W4.ownsRow w.heap.size 24 32 (.slice q pre.length cp) pre.length (u8s pre.flatten) := by rw [← hW4]; exact World.ownsRow.alloc hrA _
        have hrg4 : W4.rangeAt A.heap.size 0 (u8s x) := by rw [← hW4]; exact (Row.new' A 24 (u8s x)).range
        have hs4 : W4.heap.size = A.heap.size + 1 := by rw [← hW4]; exact World.size_alloc _ _
        obtain ⟨u5, W5, hrun, ho5, hg5, _, _⟩ := run_append_own_at (P := Try.prog) W4 w.heap.size 22 22 24 i0 _ 32 32 Try.underlying22 hi0 hz0 hz1 hz2 (by simp [Value.cells]) (by omega) (.slice q pre.length cp) pre.length (u8s pre.flatten) hr4 ⟨A.heap.size, 0, none⟩ 1 1 (u8s x) (by simp [HX.out.1]) (fun j u hu => by rw [Addr.add_mid]; exact hrg4 j u hu) (u8s_one _) (by simp only [maxLen]; omega) (by omega) (by omega)
        obtain ⟨q5, l5, c5, rfl⟩ : ∃ q l c, u5 = Value.slice q l c := by obtain ⟨q, c, e⟩ := slice_of_row ho5; exact ⟨q, _, c, e⟩
        have hg5' : (A.alloc (.cells (u8s x).toArray 24)).grownBy W5 (Value.slice q pre.length cp).ownBlock := by rw [hW4]; exact hg5
        obtain ⟨hv1, hv2, hr2, hk2, hb2⟩ := hvA.appended (by decide) hrA (by omega) (by omega) ho5 hg5'
        have hR5 : Boxed W5 (w.heap.size + 1) 4 (.bool false) := (hRA.alloc _).kept hg5' (hRA.not_row (by decide) hrA)
        refine ⟨q5, l5, c5, W5, by rw [hW4]; exact hrun, hv1, ?_, ?_, ⟨⟨_, hv2, ?_, trivial⟩, hBA.trans hb2⟩, hR5.other (by omega) _, HNx.out⟩
        · exact (keepsFrom_of_below hA).trans ⟨hk2.size, fun k o _ h1 h2 => hk2.same k o h1 h2⟩
        · exact (KpL.of_below hA).trans (KpL.low hb2)
        · rw [List.flatten_append, List.length_append, ← u8s_append]
          simpa using hr2
      clear hr1 hrow hv hB hRb hnd hids hok hIp hxm HV0 HRw HB HRb HNx HX
      generalize u8s x = V at *
      gi_wp2_with (first
        | ((with_reducible show wpListIn _ _ _ _ _ (Oper.mk (some 9) (Op.load 24 (.tmp 4)) _ _ _ _ :: _) _ _); refine wpListIn_load_Row rfl 24 (.tmp 4) rfl rfl HR0.out Try.underlying24 (by rw [HXL.out]; exact size24) ?_; simp only [Act.put, List.setIfInBounds_toArray, List.set_cons_zero, List.set_cons_succ])
        | (gi_at_call 65; refine (CallsIn.inRound li (callsIn_wide.2 HCo.out)).mono ?_; rintro e A ⟨rfl, hbA⟩; have hR1 := HR0.out.later hbA; have HR1 : Hid (Row A A₀.heap.size 24 V) := hR1; clear hR1; have hcvA := (hbA.cell (p := ⟨w.heap.size + 1 + 1, 0, none⟩) (World.block_lt_of_cell? B _ hcv)).trans hcv; obtain ⟨q5, l5, c5, W5, hrun, hv1, hfin⟩ := HApp.out A hbA; have HRun : Hid ((Builtin.append_ #[22, 22] 22 #[.slice q pre.length cp, .slice (some ⟨A.heap.size, 0, none⟩) 1 1]).run Try.prog (A.alloc (.cells V.toArray 24)) = .ok (.slice q5 l5 c5) W5) := hrun; have hcv5 := hv1.cell; have hfv5 := hv1.frozen; have HFin : Hid _ := hfin; clear hrun hv1 hfin)
        | ((with_reducible show wpListIn _ _ _ _ _ (Oper.mk (some 12) (Op.load 24 (.tmp 4)) _ _ _ _ :: _) _ _); refine wpListIn_load_Row rfl 24 (.tmp 4) rfl rfl HR1.out Try.underlying24 (by rw [HXL.out]; exact size24) ?_; simp only [Act.put, List.setIfInBounds_toArray, List.set_cons_zero, List.set_cons_succ])
        | ((with_reducible show wpListIn _ _ _ _ _ (Oper.mk (some 13) _ _ _ _ _ :: _) _ _); refine wpListIn_oper rfl (by intro c hc; cases hc) (fun K hK => wp_buildOne 22 24 (.tmp 12) rfl V rfl i0 _ Try.underlying22 hi0 hz0 (by rw [hz1, HXL.out]) (by rw [HXL.out]; omega) (by rw [HXL.out]; omega) (hK _ _ ?_)); simp only [Act.put, List.setIfInBounds_toArray, List.set_cons_zero, List.set_cons_succ])
        | ((with_reducible show wpListIn _ _ _ _ _ (Oper.mk (some 14) _ _ _ _ _ :: _) _ _); refine wpListIn_oper rfl (by intro c hc; cases hc) (fun K hK => wp_append_of (.tmp 11) (.tmp 13) 22 rfl rfl rfl HRun.out (hK _ _ ?_)); simp only [Act.put, List.setIfInBounds_toArray, List.set_cons_zero, List.set_cons_succ]))
      exact HFin.out
  case done =>
    rintro D xs A hD rfl ⟨⟨⟨v, hv, hrow, _⟩, hB⟩, hRb, hnd, hids⟩ hKD
    have cR := hRb.cell
    have fR := hRb.frozen
    have HNd : Hid (dupI xs = false) := by show _ = _; rw [dupI, decide_eq_false (fun h => h hnd)]
    clear hrow hnd
    gi_wp2
    refine ⟨by simp, .inl ⟨_, _, rfl, run_takeDeferred ((heap_setCell_other A ⟨w.heap.size + 1, 0, none⟩ D _ (by show D ≠ w.heap.size + 1; omega)).trans hKD), ?_⟩⟩
    rw [HNd.out]
    exact ⟨_, results_bool rfl rfl (Row.below (hRb.set _) (below_putObj (B := w4.heap.size) _ _ (by omega)) (by omega)), rfl, (hB.setCell (p := ⟨w.heap.size + 1, 0, none⟩) (by show _ ≤ w.heap.size + 1; omega) _).trans (below_putObj _ _ (by omega))⟩
  case stop =>
    rintro D c pre A hD hsp ⟨⟨rfl, hnd⟩, hRb, hB⟩ hKD
    have HNd : Hid (dupI ids = true) := by show _ = _; exact decide_eq_true (fun h => hnd (nodup_prefix hsp h))
    clear hnd
    gi_wp2
    refine ⟨by simp, .inl ⟨_, _, rfl, run_takeDeferred hKD, ?_⟩⟩
    rw [HNd.out]
    exact ⟨_, results_bool rfl rfl (Row.below hRb (below_putObj (B := w4.heap.size) _ _ (by omega)) (by omega)), rfl, hB.trans (below_putObj _ _ (by omega))⟩

/-- Whether a commit may be written. -/
def mayC (ids : List (List Nat)) (c : Cmt) : Bool := decide (ids.length ≤ 2) && (decide (c.text.size ≤ 4096) && !dupI ids)

set_option maxRecDepth 100000 in
set_option maxHeartbeats 1000000 in
theorem mayBe_any (p : Option Addr) (len cap : Nat) (ids : List (List Nat)) (c : Cmt) (hok : c.ok) (hlen : len ≤ 100000) (w : World) (hI : IsIds w.heap.size w p len cap ids) :
    Calls Try.prog 20 #[.agg (cmtC (.slice p len cap) c).toArray] w fun e w' => e = .returned (.bool (mayC ids c)) ∧ Below w.heap.size w w' := by
  obtain ⟨w0, hw0⟩ : ∃ w0, w.alloc (.cells (cmtC (.slice p len cap) c).toArray 29) = w0 := ⟨_, rfl⟩
  have hb0 : Below w.heap.size w w0 := by rw [← hw0]; exact (Below.refl _ w).alloc (Nat.le_refl _) _
  have hA := CmtAt.new w (.slice p len cap) c hok
  rw [hw0] at hA
  have c1 := hA.par
  have c2 := hA.text
  have HA : Hid (CmtAt w0 w.heap.size (.slice p len cap) c) := hA
  have HW0 : Hid (w.alloc (.cells (cmtC (.slice p len cap) c).toArray 29) = w0) := hw0
  have HD : Hid (Calls Try.prog 45 #[.agg (cmtC (.slice p len cap) c).toArray] w0 fun e w' => e = .returned (.bool (dupI ids)) ∧ Below w0.heap.size w0 w') := (callsIn_wide (n := 7)).1 (doubled_in 7 (by omega) p len cap ids c hok hlen w0 ((hI.below hb0).mono hb0.size))
  have HOk : Hid c.ok := hok
  have hl := hI.1
  unfold mayC
  rw [hl]
  clear hw0 hA hI hok hl
  generalize dupI ids = d at *
  by_cases h1 : len ≤ 2
  · have h1i : (len : Int) ≤ 2 := by omega
    rw [decide_eq_true h1]
    by_cases h2 : c.text.size ≤ 4096
    · have h2i : (c.text.size : Int) ≤ 4096 := by omega
      rw [decide_eq_true h2]
      go_enter Try.func20, Try.ntmps20
      go_wp2_with (first
        | (rw [HW0.out])
        | ((with_reducible show wpList _ _ _ (Oper.mk _ (Op.load 29 (.tmp 1)) _ _ _ _ :: _) _ _); refine BigFrame.wpList_want (by rfl) fun _ hK => wp_load_mid 29 (.tmp 1) rfl w.heap.size 0 rfl (cmtC (.slice p len cap) c) _ HA.out.row.range Try.underlying29 rfl (size29' HOk.out) (hK _ _ ?_); simp only [Act.put, List.setIfInBounds_toArray, List.set_cons_zero, List.set_cons_succ])
        | (go_at_call 45; refine HD.out.mono ?_; rintro e w1 ⟨rfl, hb1⟩))
      go_ret
      exact ⟨by cases d <;> rfl, hb0.trans (hb1.mono hb0.size)⟩
    · have h2i : ¬ (c.text.size : Int) ≤ 4096 := by omega
      rw [decide_eq_false h2]
      go_enter Try.func20, Try.ntmps20
      go_wp2_with (rw [HW0.out])
      go_ret
      exact ⟨rfl, hb0⟩
  · have h1i : ¬ (len : Int) ≤ 2 := by omega
    rw [decide_eq_false h1]
    go_enter Try.func20, Try.ntmps20
    go_wp2_with (rw [HW0.out])
    go_ret
    exact ⟨rfl, hb0⟩
end Go.Proofs.Ytkhhlcjjdkldjaa
