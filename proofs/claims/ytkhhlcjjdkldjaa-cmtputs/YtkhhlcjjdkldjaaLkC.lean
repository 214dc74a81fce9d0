/-
  Links of a commit, and the reference's.
-/
import Derived.Test.YtkhhlcjjdkldjaaDou
import Derived.Test.YtkhhlcjjdkldjaaLinks2
import Derived.Test.YtkhhlcjjdkldjaaRefLinks2
namespace Go.Proofs.Ytkhhlcjjdkldjaa
open Go.RowKit Go.Shelf
attribute [local go_sem] Oper.semAt_some

theorem links_turn (x : List Nat) (l : List (List Nat)) : linksL (x :: l) = linksL (l ++ [x]) := rising_unique _ _ (linksL_rising _) (linksL_rising _) (fun y => by rw [linksL_mem, linksL_mem]; simp [or_comm])
theorem OwnIds.one {W : World} {n₀ g : Nat} {x : List Nat} (hx : IsId x) (hr : Row W g 24 (u8s x)) (hn : n₀ ≤ g) : OwnIds n₀ W (.slice (some ⟨g, 0, none⟩) 1 1) [x] := by
  have l1 : (u8s x).length = 32 := by rw [u8s_length, hx.1]
  refine ⟨by simp [l1], .inr ⟨g, 1, (u8s x).toArray, rfl, hn, hr, Nat.le_refl _, by simp only [maxLen]; omega, by simp [l1], ?_⟩⟩
  simp [List.take_of_length_le (show (u8s x).length ≤ 32 by omega)]

set_option maxRecDepth 100000 in
set_option maxHeartbeats 4000000 in
theorem cmtLinks_any (p : Option Addr) (len cap : Nat) (ids : List (List Nat)) (c : Cmt) (hok : c.ok) (hlen : len ≤ 900) (w : World) (hI : IsIds w.heap.size w p len cap ids) :
    Calls Try.prog 12 #[.agg (cmtC (.slice p len cap) c).toArray] w fun e w' => ∃ q n, e = .returned (.slice q n n) ∧ IsIds w'.heap.size w' q n n (linksL (c.root :: ids)) ∧ Below w.heap.size w w' := by
  obtain ⟨i0, hi0, hz0, hz1, hz2⟩ := info_parts info24
  have hfn : ∀ f, Fence.wide.fn f := fun _ => trivial
  obtain ⟨wa, hwa⟩ : ∃ wa, w.alloc (.cells (cmtC (.slice p len cap) c).toArray 29) = wa := ⟨_, rfl⟩
  have hsa : wa.heap.size = w.heap.size + 1 := by rw [← hwa]; simp
  have HCA : Hid (CmtAt wa w.heap.size (.slice p len cap) c) := by rw [← hwa]; exact CmtAt.new w _ c hok
  obtain ⟨w3, hw3⟩ : ∃ w3, (wa.alloc (.cells (u8s c.root).toArray 24)).alloc (.cells #[.slice (some ⟨wa.heap.size, 0, none⟩) 1 1] 22) = w3 := ⟨_, rfl⟩
  have hs3 : w3.heap.size = w.heap.size + 1 + 1 + 1 := by rw [← hw3]; simp [hsa]
  have hba : Below w.heap.size w wa := by rw [← hwa]; exact (Below.refl _ w).alloc (Nat.le_refl _) _
  have hb3a : Below wa.heap.size wa w3 := by rw [← hw3]; exact ((Below.refl _ wa).alloc (Nat.le_refl _) _).alloc (by simp) _
  have hb3 : Below w.heap.size w w3 := hba.trans (hb3a.mono hba.size)
  have HC3 : Hid (CmtAt w3 w.heap.size (.slice p len cap) c) := HCA.out.later hb3a
  have HR2 : Hid (Boxed w3 (w.heap.size + 1 + 1) 22 (.slice (some ⟨w.heap.size + 1, 0, none⟩) 1 1)) := by
    rw [← hw3, ← hsa]
    have h := Row.new (wa.alloc (.cells (u8s c.root).toArray 24)) 22 #[.slice (some ⟨wa.heap.size, 0, none⟩) 1 1]
    rw [World.size_alloc] at h
    exact h
  have HO2 : Hid (OwnIds w.heap.size w3 (.slice (some ⟨w.heap.size + 1, 0, none⟩) 1 1) [c.root]) := by
    rw [← hw3, ← hsa]
    exact OwnIds.one hok.1 ((Row.new' wa 24 (u8s c.root)).alloc _) (by omega)
  have HP := parents_any (.slice p len cap) c hok w3
  have HWA : Hid (w.alloc (.cells (cmtC (.slice p len cap) c).toArray 29) = wa) := hwa
  have HW : Hid ((wa.alloc (.cells (u8s c.root).toArray 24)).alloc (.cells #[.slice (some ⟨wa.heap.size, 0, none⟩) 1 1] 22) = w3) := hw3
  have HSA : Hid (wa.heap.size = w.heap.size + 1) := hsa
  have HI : Hid (IsIds w.heap.size w p len cap ids) := hI
  have HOk : Hid c.ok := hok
  have HS3 : Hid (w3.heap.size = w.heap.size + 1 + 1 + 1) := hs3
  have HRL : Hid ((u8s c.root).length = 32) := by show _ = _; rw [u8s_length]; exact hok.1.1
  have HRg : Hid (wa.rangeAt w.heap.size 1 (u8s c.root)) := HCA.out.root
  clear hw3 hI hok hs3 hwa hsa hba hb3a
  generalize u8s c.root = V at HRg HRL HW
  refine (callsIn_wide (n := 7)).1 (callsIn_of_wp_marks Try.func12 rfl trivial ((wpIn_wide (n := 7)).2 ?_) rfl)
  simp only [Try.ntmps12, List.size_toArray, List.length_cons, List.length_nil, Nat.reduceAdd, Nat.reduceSub, Array.replicate_succ, Array.replicate_zero, List.push_toArray, List.append_toArray, List.nil_append, List.cons_append]
  go_wp2_with (first
    | (rw [HWA.out])
    | ((with_reducible show wpList _ _ _ (Oper.mk _ (Op.load 24 (.tmp 5)) _ _ _ _ :: _) _ _); refine wpList_load_want (by rfl) 24 (.tmp 5) rfl w.heap.size 1 rfl V HRg.out Try.underlying24 (by rw [HRL.out]; exact size24) ?_; simp only [Act.put, List.setIfInBounds_toArray, List.set_cons_zero, List.set_cons_succ])
    | ((with_reducible show wpList _ _ _ (Oper.mk (some 7) _ _ _ _ _ :: _) _ _); refine wpList_buildOne rfl 22 24 (.tmp 6) rfl V rfl i0 _ Try.underlying22 hi0 hz0 (by rw [hz1, HRL.out]) (by rw [HRL.out]; omega) (by rw [HRL.out]; omega) ?_; simp only [Act.put, List.setIfInBounds_toArray, List.set_cons_zero, List.set_cons_succ])
    | (rw [HW.out])
    | ((with_reducible show wpList _ _ _ (Oper.mk _ (Op.load 29 (.tmp 1)) _ _ _ _ :: _) _ _); refine wpList_loadCmt rfl (.tmp 1) rfl rfl HOk.out HC3.out.row.range ?_; simp only [Act.put, List.setIfInBounds_toArray, List.set_cons_zero, List.set_cons_succ])
    | (go_at_call 29; refine HP.mono ?_; rintro e w4 ⟨rfl, hA4, hw4⟩; have HW4 : Hid (w4 = w3.alloc (.cells (cmtC (.slice p len cap) c).toArray 29)) := hw4; clear hw4))
  have hs4 : w4.heap.size = w.heap.size + 1 + 1 + 1 + 1 := by rw [HW4.out, World.size_alloc, HS3.out]
  have hb34 : Below w3.heap.size w3 w4 := by rw [HW4.out]; exact (Below.refl _ w3).alloc (Nat.le_refl _) _
  have hbw4 : Below w.heap.size w w4 := hb3.trans (hb34.mono hb3.size)
  have r2 := boxed_below HR2.out hb34
  have o2 := ownsRow_later hb34 HO2.out
  have hI4 := HI.out.below hbw4
  have HA4 : Hid (CmtAt w4 w3.heap.size (.slice p len cap) c) := hA4
  have hsa := HSA.out
  rw [hsa]
  clear HR2 HW HP HW4 hb34 hA4 HO2 HWA
  refine (wpIn_wide (n := 7)).1 (wpIn_rangeFunc_okv (n := 7) rfl (by omega) (gf := 48) (lb := #[.pointer (some ⟨w3.heap.size, 0, none⟩)]) rfl trivial (enters_of Try.func48 (by kernel_rfl) rfl)
    (encs := fun x : List Nat => #[.agg (u8s x).toArray]) (Ok := fun x _ => IsId x) (Kp := KpL w.heap.size) (S := fun xs => xs = ids) (Sp := fun pre => pre <+: ids) (N := len)
    (fun W' hs hb => parents1_iter 6 (by omega) _ w.heap.size w3.heap.size p len cap ids c W' (by omega) (HA4.out.later hb) (hI4.below (hb.mono (by omega))))
    KpL.trans (fun A o o' ho hc => KpL.record o' ho hc) KpL.of_below (fun _ => rfl)
    (fun x A B => Row B A.heap.size 24 (u8s x)) (fun x A B o h hl => TwoRow.put o h hl)
    (fun pre A => (∃ v, Boxed A (w.heap.size + 1 + 1) 22 v ∧ A.ownsRow w.heap.size 24 32 v (pre.length + 1) (u8s (c.root :: pre).flatten) ∧ True) ∧ Below w.heap.size w A)
    (fun _ _ _ => False)
    (OwnFrom.and (Own.from (holdsRow_own w.heap.size (w.heap.size + 1 + 1) 22 24 32 (fun pre : List (List Nat) => pre.length + 1) (fun pre => u8s (c.root :: pre).flatten) (fun _ _ => True)) _) (ownFrom_below (by omega) (by omega)))
    (fun _ _ _ _ _ h _ _ => h.elim)
    (fun _ _ _ _ h _ _ => h)
    ⟨⟨_, r2, o2, trivial⟩, hbw4⟩
    (fun x A => { tmps := #[.agg (cmtC (.slice p len cap) c).toArray, .pointer (some ⟨w.heap.size, 0, none⟩), .slice none 0 0, .pointer (some ⟨w.heap.size + 1 + 1, 0, none⟩), .pointer (some ⟨A.heap.size, 0, none⟩), .pointer (some ⟨w.heap.size, 1, none⟩), .agg V.toArray, .slice (some ⟨w.heap.size + 1, 0, none⟩) 1 1, .agg (cmtC (.slice p len cap) c).toArray, .func (.func 48) #[] #[.pointer (some ⟨w3.heap.size, 0, none⟩)], .agg (u8s x).toArray, undef, undef, undef, undef, undef, undef], defers := [] }) ?assign ?body ?done ?stop)
  case assign =>
    intro li x A K hok hK
    have HXL : Hid ((u8s x).length = 32) := by show _ = _; rw [u8s_length]; exact hok.1
    have HX1 : Hid (∀ v ∈ u8s x, v.oneCell' = true) := u8s_one _
    have HK : Hid (∀ W', Below A.heap.size A W' → Row W' A.heap.size 24 (u8s x) → K _ W') := hK
    clear hK
    generalize u8s x = X at *
    gi_wp2_with ((with_reducible show wpListIn _ _ _ _ _ (Oper.mk _ (Op.store 24 (.tmp 4) (.tmp 10)) _ _ _ _ :: _) _ _); rw [z32u8]; refine wpListIn_store_Row rfl 24 (.tmp 4) (.tmp 10) rfl X rfl rfl (Row.new' A 24 (List.replicate 32 (Value.int .u8 0))) (by rw [HXL.out]; exact size24) (by rw [HXL.out]; rfl) HX1.out ?_; have hR2 := (Row.new' A 24 (List.replicate 32 (Value.int .u8 0))).sets_all (vs := X) (by rw [HXL.out]; rfl); have hb2 : Below A.heap.size A ((A.alloc (.cells (List.replicate 32 (Value.int .u8 0)).toArray 24)).setCells A.heap.size 0 X) := below_setCells (Nat.le_refl _) _ _ ((Below.refl _ A).alloc (Nat.le_refl _) _); generalize (A.alloc (.cells (List.replicate 32 (Value.int .u8 0)).toArray 24)).setCells A.heap.size 0 X = A2 at *; have HR2 : Hid (Row A2 A.heap.size 24 X) := hR2; clear hR2; simp only [Act.put])
    exact HK.out A2 hb2 HR2.out
  case body =>
    rintro li pre x A₀ A ⟨⟨v, hv, hrow, _⟩, hBA⟩ hok hNn hle hr1
    have HXL : Hid ((u8s x).length = 32) := by show _ = _; rw [u8s_length]; exact hok.1
    obtain ⟨q, cp, rfl⟩ := slice_of_row hrow
    have HR0 : Hid (Row A A₀.heap.size 24 (u8s x)) := hr1
    have hBs := hBA.size
    obtain ⟨W4, hW4⟩ : ∃ W4, A.alloc (.cells (u8s x).toArray 24) = W4 := ⟨_, rfl⟩
    have hr4 : W4.ownsRow w.heap.size 24 32 (.slice q (pre.length + 1) cp) (pre.length + 1) (u8s (c.root :: pre).flatten) := by rw [← hW4]; exact World.ownsRow.alloc hrow _
    have hrg4 : W4.rangeAt A.heap.size 0 (u8s x) := by rw [← hW4]; exact (Row.new' A 24 (u8s x)).range
    have hs4 : W4.heap.size = A.heap.size + 1 := by rw [← hW4]; exact World.size_alloc _ _
    obtain ⟨u5, W5, hrun, ho5, hg5, _, _⟩ := run_append_own_at (P := Try.prog) W4 w.heap.size 22 22 24 i0 _ 32 32 Try.underlying22 hi0 hz0 hz1 hz2 (by simp [Value.cells]) (by omega) (.slice q (pre.length + 1) cp) (pre.length + 1) (u8s (c.root :: pre).flatten) hr4 ⟨A.heap.size, 0, none⟩ 1 1 (u8s x) (by simp [hok.1]) (fun j u hu => by rw [Addr.add_mid]; exact hrg4 j u hu) (u8s_one _) (by simp only [maxLen]; omega) (by omega) (by omega)
    obtain ⟨q5, l5, c5, rfl⟩ : ∃ q l c, u5 = Value.slice q l c := by obtain ⟨q, c, e⟩ := slice_of_row ho5; exact ⟨q, _, c, e⟩
    have hg5' : (A.alloc (.cells (u8s x).toArray 24)).grownBy W5 (Value.slice q (pre.length + 1) cp).ownBlock := by rw [hW4]; exact hg5
    obtain ⟨hv1, hv2, hr2, hk2, hb2⟩ := hv.appended (by decide) hrow (by omega) (by omega) ho5 hg5'
    have HRun : Hid ((Builtin.append_ #[22, 22] 22 #[.slice q (pre.length + 1) cp, .slice (some ⟨A.heap.size, 0, none⟩) 1 1]).run Try.prog (A.alloc (.cells (u8s x).toArray 24)) = .ok (.slice q5 l5 c5) W5) := by show _ = _; rw [hW4]; exact hrun
    have HFin : Hid (KeepsFrom w4.heap.size A (W5.setCell ⟨w.heap.size + 1 + 1, 0, none⟩ (.slice q5 l5 c5)) ∧ KpL w.heap.size A (W5.setCell ⟨w.heap.size + 1 + 1, 0, none⟩ (.slice q5 l5 c5)) ∧ (∃ v, Boxed (W5.setCell ⟨w.heap.size + 1 + 1, 0, none⟩ (.slice q5 l5 c5)) (w.heap.size + 1 + 1) 22 v ∧ (W5.setCell ⟨w.heap.size + 1 + 1, 0, none⟩ (.slice q5 l5 c5)).ownsRow w.heap.size 24 32 v ((pre ++ [x]).length + 1) (u8s (c.root :: (pre ++ [x])).flatten) ∧ True) ∧ Below w.heap.size w (W5.setCell ⟨w.heap.size + 1 + 1, 0, none⟩ (.slice q5 l5 c5))) := by
      refine ⟨⟨hk2.size, fun k o _ h1 h2 => hk2.same k o h1 h2⟩, KpL.low hb2, ⟨_, hv2, ?_, trivial⟩, hBA.trans hb2⟩
      have e1 : u8s (c.root :: (pre ++ [x])).flatten = u8s (c.root :: pre).flatten ++ u8s x := by rw [u8s_append]; simp
      rw [e1, List.length_append]
      exact hr2
    have hcv := hv.cell
    have hcv5 := hv1.cell
    have hfv5 := hv1.frozen
    clear hr1 hrow hr4 hrg4 hg5 hg5' hv hv1 hv2 hr2 hk2 hb2 hok hBA ho5 hrun hW4
    generalize u8s x = X at *
    gi_wp2_with (first
      | ((with_reducible show wpListIn _ _ _ _ _ (Oper.mk _ (Op.load 24 (.tmp 4)) _ _ _ _ :: _) _ _); refine wpListIn_load_Row rfl 24 (.tmp 4) rfl rfl HR0.out Try.underlying24 (by rw [HXL.out]; exact size24) ?_; simp only [Act.put, List.setIfInBounds_toArray, List.set_cons_zero, List.set_cons_succ])
      | ((with_reducible show wpListIn _ _ _ _ _ (Oper.mk (some 13) _ _ _ _ _ :: _) _ _); refine wpListIn_oper rfl (by intro c hc; cases hc) (fun K hK => wp_buildOne 22 24 (.tmp 12) rfl X rfl i0 _ Try.underlying22 hi0 hz0 (by rw [hz1, HXL.out]) (by rw [HXL.out]; omega) (by rw [HXL.out]; omega) (hK _ _ ?_)); simp only [Act.put, List.setIfInBounds_toArray, List.set_cons_zero, List.set_cons_succ])
      | ((with_reducible show wpListIn _ _ _ _ _ (Oper.mk (some 14) _ _ _ _ _ :: _) _ _); refine wpListIn_oper rfl (by intro c hc; cases hc) (fun K hK => wp_append_of (.tmp 11) (.tmp 13) 22 rfl rfl rfl HRun.out (hK _ _ ?_)); simp only [Act.put, List.setIfInBounds_toArray, List.set_cons_zero, List.set_cons_succ]))
    exact HFin.out
  case done =>
    rintro D xs A hD rfl ⟨⟨v, hv, hrow, _⟩, hBA⟩ hKD
    obtain ⟨q, cp, rfl⟩ := slice_of_row hrow
    have hrow' : OwnIds w.heap.size A (.slice q (xs.length + 1) cp) (c.root :: xs) := hrow
    obtain ⟨n7, hn7⟩ : ∃ n7, xs.length + 1 = n7 := ⟨_, rfl⟩
    rw [hn7] at hv hrow'
    have hcU := hv.cell
    have HAll : Hid (∀ y ∈ c.root :: xs, y.length = 32 ∧ ∀ z ∈ y, z < 256) := fun y hy => by
      rcases List.mem_cons.1 hy with rfl | hy
      · exact HOk.out.1
      · exact HI.out.2.2.2.1 y hy
    have hxl := HI.out.1
    have HLk : Calls Try.prog 30 #[.slice q n7 cp] A fun e w' => ∃ q n, e = .returned (.slice q n n) ∧ IsIds w'.heap.size w' q n n (linksL (c.root :: xs)) ∧ Below A.heap.size A w' := links_any q n7 cp (c.root :: xs) (by omega) A (hrow'.ids hn7 HAll.out)
    have HBA2 : Hid (Below w.heap.size w A) := hBA
    have hDl : D < A.heap.size := (Array.getElem?_eq_some_iff.1 hKD).1
    clear hrow hrow' hBA hn7 hxl
    go_wp2_with (go_at_call 30; refine HLk.mono ?_; rintro e w6 ⟨q6, n6, rfl, hI6, hb6⟩)
    refine ⟨by simp, .inl ⟨_, _, rfl, run_takeDeferred ((hb6.block D hDl).trans hKD), ?_⟩⟩
    refine ⟨_, results_tmp rfl _ _ _, q6, n6, rfl, ?_, (HBA2.out.trans (hb6.mono HBA2.out.size)).trans (below_putObj _ _ (by omega))⟩
    have h := isIds_own (β := Unit) w6.heap.size 0 q6 n6 n6 (linksL (c.root :: xs)) () w6 (w6.putObj D (.deferred none)) (some D) hI6 (grownBy_putObj' _ _ _) (fun r e => by cases e; exact ⟨Nat.zero_le _, _, (hb6.block D hDl).trans hKD, rfl⟩)
    simpa [World.putObj] using h
  case stop => exact fun _ _ _ _ _ _ h => h.elim
end Go.Proofs.Ytkhhlcjjdkldjaa
