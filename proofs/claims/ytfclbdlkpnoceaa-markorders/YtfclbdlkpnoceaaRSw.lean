/-
  The reference's Reach and Sweep.
-/
import Derived.Test.YtfclbdlkpnoceaaRWkAll
import Derived.Test.YtfclbdlkpnoceaaRefLinksAll
namespace Go.Proofs.Ytfclbdlkpnoceaa
open Go.RowKit Go.Shelf Go.Maps
attribute [local go_sem] Oper.semAt_some

set_option maxHeartbeats 1000000 in
theorem refReach_any (p : Option Addr) (len cap : Nat) (q : Option Addr) (rl rc : Nat) (l : List O) (roots : List (List Nat)) (hlen : len ≤ 100) (hln : ∀ o ∈ l, o.links.length ≤ 100) (w : World) (hI : IsObjs w.heap.size w p len cap l) (hR : IsIds w.heap.size w q rl rc roots) :
    Calls Try.prog 13 #[.slice p len cap, .slice q rl rc] w fun e w' => ∃ q1 n1 c1, e = .returned (.slice q1 n1 c1) ∧ IsIds w'.heap.size w' q1 n1 c1 (linksL (reachL l roots)) ∧ Below w.heap.size w w' := by
  have HW : Hid (Calls Try.prog 9 #[.slice p len cap, .slice q rl rc] w fun e w' => ∃ q1 n1 c1 q2 n2 c2, e = .returned (.tuple #[.slice q1 n1 c1, .slice q2 n2 c2]) ∧ IsIds w'.heap.size w' q1 n1 c1 (reachL l roots) ∧ n1 ≤ 1000 ∧ Below w.heap.size w w') :=
    (refWalk_any p len cap q rl rc l roots hlen hln w hI hR).mono fun e w' ⟨q1, n1, c1, q2, n2, c2, he, h1, h2, h3, h4⟩ => by
      obtain ⟨q9, n9, c9, e9, hn9, hi9, _⟩ := own_ids_slice h1 h2
      cases e9
      have := reach_few l roots
      have := hI.1
      exact ⟨q1, _, c1, q2, n2, c2, he, hi9, by omega, h4⟩
  clear hI hR
  go_enter Try.func13, Try.ntmps13
  go_wp2_with (first
    | (go_at_call 9; refine HW.out.mono ?_; rintro e w2 ⟨q1, n1, c1, q2, n2, c2, rfl, hi, hn, b2⟩; have HL : Hid (Calls Try.prog 25 #[.slice q1 n1 c1] w2 fun e w' => ∃ q n c, e = .returned (.slice q n c) ∧ OutAt w' q n c (linksL (reachL l roots)) ∧ Below w2.heap.size w2 w') := refLinks_any q1 n1 c1 _ hn w2 hi; clear hi hn)
    | (go_at_call 25; refine HL.out.mono ?_; rintro e w3 ⟨q3, n3, c3, rfl, ho, b3⟩))
  go_ret
  exact ⟨_, _, _, rfl, ho.1, b2.trans (b3.mono b2.size)⟩

/-- The reference's Sweep under way. -/
def RsI (M : Nat) (A₀ : World) (r : List (List Nat)) (l : List O) (len : Nat) (v7 v8 i : Value) (A : World) : Prop :=
  ∃ (k : Nat), k ≤ len ∧ i = .int .i64 k ∧ OwnO M A v7 (kpL r (l.take k)) ∧ OwnIds M A v8 (gnL r (l.take k)) ∧ Below M A₀ A ∧ M ≤ A.heap.size
def RefSweepPost (w : World) (l : List O) (roots : List (List Nat)) (e : Ending) (w' : World) : Prop :=
  ∃ q1 n1 c1 q2 n2 c2, e = .returned (.tuple #[.slice q1 n1 c1, .slice q2 n2 c2]) ∧ IsObjs w'.heap.size w' q1 n1 c1 (keptL l roots) ∧ IsIds w'.heap.size w' q2 n2 c2 (linksL (goneL l roots)) ∧ Below w.heap.size w w'

set_option maxRecDepth 100000 in
set_option maxHeartbeats 1000000 in
theorem refSweep_any (p : Option Addr) (len cap : Nat) (q : Option Addr) (rl rc : Nat) (l : List O) (roots : List (List Nat)) (hlen : len ≤ 100) (hln : ∀ o ∈ l, o.links.length ≤ 100) (w : World) (hI : IsObjs w.heap.size w p len cap l) (hR : IsIds w.heap.size w q rl rc roots) :
    Calls Try.prog 15 #[.slice p len cap, .slice q rl rc] w (RefSweepPost w l roots) := by
  obtain ⟨i0, hi0, hz0, hz1, hz2⟩ := info_parts info33
  obtain ⟨j0, hj0, hy0, hy1, hy2⟩ := info_parts info46
  have HI : Hid (IsObjs w.heap.size w p len cap l) := hI
  have HRe := (show Hid (Calls Try.prog 13 _ _ _) from refReach_any p len cap q rl rc l roots hlen hln w hI hR)
  have hll := hI.1
  have hlc := hI.2.1
  have hcc := hI.2.2.1
  clear hI hR
  go_enter Try.func15, Try.ntmps15
  go_wp2_with (first
    | (go_at_call 13; refine Calls.mono HRe.out ?_; rintro e w2 ⟨qr, nr, cr, rfl, hr, b2⟩))
  have HRr := (show Hid (IsIds _ _ _ _ _ _) from hr)
  have HIA : Hid (IsObjs w.heap.size w2 p len cap l) := HI.out.below b2
  have b2s := b2.size
  clear hr HRe
  go_loopw [7, 8, 16] (fun v7 v8 i wr => RsI w2.heap.size w2 (reachL l roots) l len v7 v8 i wr) (fun _ _ i _ => len - (intOf i).toNat)
  case atStart => exact ⟨0, Nat.zero_le _, rfl, OwnO.nil _ _, OwnIds.nil _ _, Below.refl _ _, Nat.le_refl _⟩
  case round =>
    obtain ⟨k, hk, rfl, hO, hG, hbA, hwr⟩ := hrel
    have HO := (show Hid (OwnO _ _ _ _) from hO)
    have HG := (show Hid (OwnIds _ _ _ _) from hG)
    have HBA := (show Hid (Below _ _ _) from hbA)
    obtain ⟨q4, c4, rfl⟩ := hO.slice
    obtain ⟨q5, c5, rfl⟩ := hG.slice
    clear hO hG
    by_cases hlt : k < len
    · have hki : (k : Int) < (len : Int) := by omega
      have hkl : k < l.length := by omega
      obtain ⟨b, off, rfl, hb, hr, hok, hmem⟩ := (HIA.out.below (hbA.mono b2s)).at hlt
      have HT : Hid (l.take (k + 1) = l.take k ++ [l.getD k noO]) := obj_take l hkl
      have HR : Hid (wr.rangeAt b (off + k * 34) (objC (l.getD k noO))) := hr
      have hksl : (kpL (reachL l roots) (l.take k)).length ≤ 100000 := by
        have h6 : (kpL (reachL l roots) (l.take k)).length ≤ (l.take k).length := List.length_filter_le _ _
        have h7 := List.length_take_le k l
        omega
      have hgsl : (gnL (reachL l roots) (l.take k)).length ≤ 100000 := by
        have h6 : (gnL (reachL l roots) (l.take k)).length ≤ (l.take k).length := by unfold gnL; rw [List.length_map]; exact List.length_filter_le _ _
        have h7 := List.length_take_le k l
        omega
      clear hr hmem hbA
      generalize l.getD k noO = x at *
      have HHas : Hid (∀ Y, Below wr.heap.size wr Y → Calls Try.prog 20 #[.slice qr nr cr, idV x.id] Y fun e w' => e = .returned (.bool (decide (x.id ∈ linksL (reachL l roots)))) ∧ Below Y.heap.size Y w') := fun Y hY =>
        has_any qr nr cr _ x.id hok.1 Y ((HRr.out.below (HBA.out.trans (hY.mono hwr))).mono (by have := hY.size; omega))
      by_cases hin : x.id ∈ reachL l roots
      · rw [decide_eq_true ((linksL_mem _ _).2 hin)] at HHas
        obtain ⟨hky, hgy⟩ := kpL_snoc_yes (l := l.take k) hin
        have HStep : Hid (∀ Y3, Below wr.heap.size wr Y3 → ∃ v' Y5, (Builtin.append_ #[22, 22] 22 #[.slice q4 (kpL (reachL l roots) (l.take k)).length c4, .slice (some ⟨Y3.heap.size, 0, none⟩) 1 1]).run Try.prog (Y3.alloc (.cells (objC x).toArray 46)) = .ok v' Y5 ∧ RsI w2.heap.size w2 (reachL l roots) l len v' (.slice q5 (gnL (reachL l roots) (l.take k)).length c5) (.int .i64 ((k : Int) + 1)) Y5) := by
          intro Y3 hb3
          have hs3 := hb3.size
          have hb4 : Below Y3.heap.size Y3 (Y3.alloc (.cells (objC x).toArray 46)) := (Below.refl _ Y3).alloc (Nat.le_refl _) _
          have hO4 := (HO.out.later hb3).later hb4
          have hG4 := (HG.out.later hb3).later hb4
          obtain ⟨v', Y5, hrun, hO5, hg5⟩ := run_append_obj (Y3.alloc (.cells (objC x).toArray 46)) w2.heap.size 22 _ _ hO4 Y3.heap.size x hok (Row.new' Y3 46 (objC x)).range hksl (by have := hb4.size; omega)
          have hb5 := below_grown hO4 (by have := hb4.size; omega) hg5
          refine ⟨v', Y5, hrun, k + 1, by omega, by go_num, by rw [HT.out, hky]; exact hO5, by rw [HT.out, hgy]; exact ownsRow_grown hG4 hO4 (by decide) hg5, (HBA.out.trans (hb3.mono hwr)).trans ((hb4.mono (by omega)).trans hb5), by have := hb4.size; have := hg5.size; omega⟩
        clear HT hky hgy HO HG hksl hgsl
        generalize (kpL (reachL l roots) (l.take k)).length = kl at *
        generalize (gnL (reachL l roots) (l.take k)).length = gl at *
        go_wp2_with (first
          | ((with_reducible show wpList _ _ _ (Oper.mk (some 19) (Op.load 46 _) _ _ _ _ :: _) _ _); refine wpList_loadObj rfl (.tmp 18) rfl rfl hok HR.out ?_; simp only [Act.put, List.setIfInBounds_toArray, List.set_cons_zero, List.set_cons_succ])
          | ((with_reducible show wpList _ _ _ (Oper.mk none (Op.store 46 (.tmp 10) (.tmp 19)) _ _ _ _ :: _) _ _); rw [zO]; refine wpList_storeObj rfl (.tmp 10) (.tmp 19) rfl x hok rfl rfl (fun Y2 b2 hE_ => ?_); have HE2 : Hid (ObjAt Y2 wr.heap.size x) := hE_; clear hE_; simp only [Act.put])
          | ((with_reducible show wpList _ _ _ (Oper.mk (some 22) (Op.load 33 _) _ _ _ _ :: _) _ _); refine wpList_loadId rfl (.tmp 21) rfl rfl hok.1 HE2.out.id ?_; simp only [Act.put, List.setIfInBounds_toArray, List.set_cons_zero, List.set_cons_succ])
          | (go_at_call 20; refine (HHas.out Y2 b2).mono ?_; rintro e Y3 ⟨rfl, b3⟩; have HE3 : Hid (ObjAt Y3 wr.heap.size x) := HE2.out.later b3; obtain ⟨v', Y5, hrun, hI5⟩ := HStep.out Y3 (b2.trans (b3.mono b2.size)); have HRun := (show Hid (_ = _) from hrun); have HI5 := (show Hid (RsI _ _ _ _ _ _ _ _ _) from hI5); clear hrun hI5; obtain ⟨q6, l6, c6, rfl⟩ : ∃ q l c, v' = Value.slice q l c := (by obtain ⟨k', _, _, h5, h6, _⟩ := HI5.out; obtain ⟨q', c', e'⟩ := h5.slice; exact ⟨q', _, c', e'⟩))
          | ((with_reducible show wpList _ _ _ (Oper.mk (some 25) (Op.load 46 _) _ _ _ _ :: _) _ _); refine wpList_loadObj rfl (.tmp 10) rfl rfl hok HE3.out.row.range ?_; simp only [Act.put, List.setIfInBounds_toArray, List.set_cons_zero, List.set_cons_succ])
          | ((with_reducible show wpList _ _ _ (Oper.mk (some 26) (Op.buildSlice 22 1 _) _ _ _ _ :: _) _ _); refine wpList_buildOne rfl 22 46 (.tmp 25) rfl (objC x) rfl j0 _ Try.underlying22 hj0 hy0 (by rw [hy1, objC_length hok]) (by rw [objC_length hok]; omega) (by rw [objC_length hok]; omega) ?_; simp only [Act.put, List.setIfInBounds_toArray, List.set_cons_zero, List.set_cons_succ])
          | ((with_reducible show wpList _ _ _ (Oper.mk (some 27) (_) _ _ _ _ :: _) _ _); refine wpList_plain rfl (fun K hK => wp_append_of (.tmp 24) (.tmp 26) 22 rfl rfl rfl HRun.out (hK _ _ ?_)); simp only [Act.put, List.setIfInBounds_toArray, List.set_cons_zero, List.set_cons_succ]))
        go_roundw
        case rel => exact HI5.out
        case measure => simp [intOf]; omega
      · rw [decide_eq_false (fun h => hin ((linksL_mem _ _).1 h))] at HHas
        obtain ⟨hky, hgy⟩ := kpL_snoc_no (l := l.take k) hin
        have HStep : Hid (∀ Y3, Below wr.heap.size wr Y3 → ∃ v' Y5, (Builtin.append_ #[23, 23] 23 #[.slice q5 (gnL (reachL l roots) (l.take k)).length c5, .slice (some ⟨Y3.heap.size, 0, none⟩) 1 1]).run Try.prog (Y3.alloc (.cells (u8s x.id).toArray 33)) = .ok v' Y5 ∧ RsI w2.heap.size w2 (reachL l roots) l len (.slice q4 (kpL (reachL l roots) (l.take k)).length c4) v' (.int .i64 ((k : Int) + 1)) Y5) := by
          intro Y3 hb3
          have hs3 := hb3.size
          have hb4 : Below Y3.heap.size Y3 (Y3.alloc (.cells (u8s x.id).toArray 33)) := (Below.refl _ Y3).alloc (Nat.le_refl _) _
          have hO4 := (HO.out.later hb3).later hb4
          have hG4 := (HG.out.later hb3).later hb4
          obtain ⟨v', Y5, hrun, hG5, hg5⟩ := run_append_id (Y3.alloc (.cells (u8s x.id).toArray 33)) w2.heap.size 23 _ _ hG4 Y3.heap.size x.id hok.1.1 (Row.new' Y3 33 (u8s x.id)).range hgsl (by have := hb4.size; omega)
          have hb5 := below_grown hG4 (by have := hb4.size; omega) hg5
          refine ⟨v', Y5, hrun, k + 1, by omega, by go_num, by rw [HT.out, hky]; exact ownsRow_grown hO4 hG4 (by decide) hg5, by rw [HT.out, hgy]; exact hG5, (HBA.out.trans (hb3.mono hwr)).trans ((hb4.mono (by omega)).trans hb5), by have := hb4.size; have := hg5.size; omega⟩
        clear HT hky hgy HO HG hksl hgsl
        generalize (kpL (reachL l roots) (l.take k)).length = kl at *
        generalize (gnL (reachL l roots) (l.take k)).length = gl at *
        go_wp2_with (first
          | ((with_reducible show wpList _ _ _ (Oper.mk (some 19) (Op.load 46 _) _ _ _ _ :: _) _ _); refine wpList_loadObj rfl (.tmp 18) rfl rfl hok HR.out ?_; simp only [Act.put, List.setIfInBounds_toArray, List.set_cons_zero, List.set_cons_succ])
          | ((with_reducible show wpList _ _ _ (Oper.mk none (Op.store 46 (.tmp 10) (.tmp 19)) _ _ _ _ :: _) _ _); rw [zO]; refine wpList_storeObj rfl (.tmp 10) (.tmp 19) rfl x hok rfl rfl (fun Y2 b2 hE_ => ?_); have HE2 : Hid (ObjAt Y2 wr.heap.size x) := hE_; clear hE_; simp only [Act.put])
          | ((with_reducible show wpList _ _ _ (Oper.mk (some 22) (Op.load 33 _) _ _ _ _ :: _) _ _); refine wpList_loadId rfl (.tmp 21) rfl rfl hok.1 HE2.out.id ?_; simp only [Act.put, List.setIfInBounds_toArray, List.set_cons_zero, List.set_cons_succ])
          | (go_at_call 20; refine (HHas.out Y2 b2).mono ?_; rintro e Y3 ⟨rfl, b3⟩; have HE3 : Hid (ObjAt Y3 wr.heap.size x) := HE2.out.later b3; obtain ⟨v', Y5, hrun, hI5⟩ := HStep.out Y3 (b2.trans (b3.mono b2.size)); have HRun := (show Hid (_ = _) from hrun); have HI5 := (show Hid (RsI _ _ _ _ _ _ _ _ _) from hI5); clear hrun hI5; obtain ⟨q6, l6, c6, rfl⟩ : ∃ q l c, v' = Value.slice q l c := (by obtain ⟨k', _, _, h5, h6, _⟩ := HI5.out; obtain ⟨q', c', e'⟩ := h6.slice; exact ⟨q', _, c', e'⟩))
          | ((with_reducible show wpList _ _ _ (Oper.mk (some 30) (Op.load 33 _) _ _ _ _ :: _) _ _); refine wpList_loadId rfl (.tmp 29) rfl rfl hok.1 HE3.out.id ?_; simp only [Act.put, List.setIfInBounds_toArray, List.set_cons_zero, List.set_cons_succ])
          | ((with_reducible show wpList _ _ _ (Oper.mk (some 31) (Op.buildSlice 23 1 _) _ _ _ _ :: _) _ _); refine wpList_buildOne rfl 23 33 (.tmp 30) rfl (u8s x.id) rfl i0 _ Try.underlying23 hi0 hz0 (by rw [hz1, id_len hok.1]) (by rw [id_len hok.1]; omega) (by rw [id_len hok.1]; omega) ?_; simp only [Act.put, List.setIfInBounds_toArray, List.set_cons_zero, List.set_cons_succ])
          | ((with_reducible show wpList _ _ _ (Oper.mk (some 32) (_) _ _ _ _ :: _) _ _); refine wpList_plain rfl (fun K hK => wp_append_of (.tmp 28) (.tmp 31) 23 rfl rfl rfl HRun.out (hK _ _ ?_)); simp only [Act.put, List.setIfInBounds_toArray, List.set_cons_zero, List.set_cons_succ]))
        go_roundw
        case rel => exact HI5.out
        case measure => simp [intOf]; omega
    · obtain rfl : k = len := by omega
      rw [List.take_of_length_le (by omega)] at HO HG ⊢
      have hIw : IsObjs w.heap.size wr p k cap l := HIA.out.below (hbA.mono b2s)
      have hob := HO.out.objs rfl (fun o ho => hIw.2.2.2.1 o ((List.mem_filter.1 ho).1)) (fun o ho => (hIw.2.2.2.2.1 o ((List.mem_filter.1 ho).1)).mono (by omega))
      have hgid : ∀ y ∈ gnL (reachL l roots) l, IsId y := fun y hy => by
        obtain ⟨o, ho, rfl⟩ := List.mem_map.1 hy
        exact (hIw.2.2.2.1 o ((List.mem_filter.1 ho).1)).1
      obtain ⟨q9, n9, c9, e9, hn9, hi9, _⟩ := own_ids_slice HG.out hgid
      cases e9
      have hgl : (gnL (reachL l roots) l).length ≤ 1000 := by
        have h6 : (gnL (reachL l roots) l).length ≤ l.length := by unfold gnL; rw [List.length_map]; exact List.length_filter_le _ _
        omega
      have HL : Hid (Calls Try.prog 25 #[.slice q5 (gnL (reachL l roots) l).length c5] wr fun e w' => ∃ q n c, e = .returned (.slice q n c) ∧ OutAt w' q n c (linksL (gnL (reachL l roots) l)) ∧ Below wr.heap.size wr w') := refLinks_any q5 _ c5 _ hgl wr hi9
      have HOb := (show Hid (IsObjs _ _ _ _ _ _) from hob)
      clear hob hi9 HO HG hIw hgid hgl
      generalize (kpL (reachL l roots) l).length = kl at *
      generalize (gnL (reachL l roots) l).length = gl at *
      go_wp2_with (first
        | (go_at_call 25; refine HL.out.mono ?_; rintro e w3 ⟨q3, n3, c3, rfl, ho, b3⟩))
      refine bodyPost_ret (results_tmp2 rfl _ _ _) rfl ?_
      exact ⟨q4, kl, c4, q3, n3, c3, rfl, HOb.out.later b3, ho.1, b2.trans ((HBA.out.mono b2s).trans (b3.mono (by omega)))⟩
end Go.Proofs.Ytfclbdlkpnoceaa
