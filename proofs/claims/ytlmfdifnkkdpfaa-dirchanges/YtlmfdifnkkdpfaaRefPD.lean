/-
  The reference's PutDir.
-/
import Derived.Test.YtlmfdifnkkdpfaaPutE
namespace Go.Proofs.Ytlmfdifnkkdpfaa
open Go.RowKit Go.Shelf

set_option maxRecDepth 100000 in
set_option maxHeartbeats 600000 in
theorem refPutDir_any (p : Option Addr) (len cap : Nat) (es : List Ent) (w : World) (hI : IsEnts w.heap.size w p len cap es) (hnm : ∀ e ∈ es, e.name.size ≤ 1000000) :
    Calls Try.prog 11 #[.slice p len cap] w fun e w' => ∃ v, e = .returned (.tuple #[v, .int .i64 (if goodE es then 0 else 110)]) ∧ Own w.heap.size w' v (if goodE es then encsE es else []) ∧ Below w.heap.size w w' := by
  have HI : Hid (IsEnts w.heap.size w p len cap es) := hI
  have HL : Hid (es.length = len) := hI.1
  have HG := refGoodDir_any p len cap es w hI hnm
  rw [refGood_eq] at HG
  have hlc := hI.2.1
  have hcc := hI.2.2.1
  cases hg : goodE es with
  | false =>
    clear hI hnm
    rw [hg] at HG
    go_enter Try.func11, Try.ntmps11
    go_wp2_with (go_at_call 13; refine HG.mono ?_; rintro e w1 ⟨rfl, hb1⟩)
    refine bodyPost_ret (results_tmp2 rfl _ _ _) rfl ?_
    exact ⟨_, rfl, Own.nil _ _, hb1⟩
  | true =>
    have HMay : Hid (∀ e ∈ es, e.ok ∧ mayB e = true) := fun e he => ⟨hI.2.2.2.1 e he, goodE_may hg e he⟩
    have hl5 : len ≤ 500 := by have := goodE_len hg; have := HL.out; omega
    rw [hg] at HG
    clear hI hnm
    have e1 : (len : Int) % 18446744073709551616 = (len : Int) := by omega
    have HLn : Hid ((encN len).length ≤ 10) := encN_ten (by omega)
    go_enter Try.func11, Try.ntmps11
    go_wp2_with (first
      | (go_at_call 13; refine HG.mono ?_; rintro e w1 ⟨rfl, hb1⟩)
      | (go_at_call 33; refine (refN_any none 0 0 [] len w1 (by omega) ⟨rfl, Nat.le_refl _, by omega, by simp, .inl rfl⟩ (by simp)).mono ?_; rintro e w3 ⟨v3, rfl, hO3, hb3⟩; obtain ⟨q3, c3, hu3⟩ := hO3.slice; subst hu3; rw [List.nil_append] at hO3 ⊢; have HO3 : Hid (Own w.heap.size w3 (.slice q3 (encN len).length c3) (encN len)) := hO3.mono hb1.size; have hbw3 : Below w.heap.size w w3 := hb1.trans (hb3.mono hb1.size); clear hO3 hb3))
    go_loopw [4, 16] (fun a i wr => ∃ (k : Nat) (q : Option Addr) (l c : Nat), k ≤ len ∧ i = .int .i64 k ∧ a = .slice q l c ∧ Own w.heap.size wr (.slice q l c) (encN len ++ (es.take k).flatMap encE) ∧ Below w.heap.size w wr) (fun _ i _ => len - (intOf i).toNat)
    case atStart => exact ⟨0, _, _, _, Nat.zero_le _, rfl, rfl, by simpa using HO3.out, hbw3⟩
    case round =>
      clear HO3 hbw3 hb1
      obtain ⟨k, q, l, c, hk, rfl, rfl, hown, hbel⟩ := hrel
      have HO : Hid (Own w.heap.size wr (.slice q l c) (encN len ++ (es.take k).flatMap encE)) := hown
      clear hown
      by_cases hlt : k < len
      · have hki : (k : Int) < (len : Int) := by omega
        obtain ⟨b, off, rfl, hb, hrg, hok, hmem⟩ := (HI.out.below hbel).at hlt
        have HT : Hid (encN len ++ (es.take (k + 1)).flatMap encE = encN len ++ (es.take k).flatMap encE ++ encE (es.getD k noEnt)) := by
          show _ = _
          rw [ent_take es (by rw [HL.out]; exact hlt), List.flatMap_append, List.append_assoc]
          simp
        have HRg : Hid (wr.rangeAt b (off + k * 100) (entC (es.getD k noEnt))) := hrg
        have HM : Hid (mayB (es.getD k noEnt) = true) := (HMay.out _ hmem).2
        have HZ : Hid ((encN len ++ (es.take k).flatMap encE).length ≤ 700000) := by
          show _ ≤ _
          have h1 := flat_length (es.take k) (fun e he => HMay.out e (List.mem_of_mem_take he))
          have h2 := HLn.out
          simp only [List.length_append, List.length_take] at *
          omega
        have HZb : Hid (∀ z ∈ encN len ++ (es.take k).flatMap encE, z < 256) := fun z hz => by
          rcases List.mem_append.1 hz with h | h
          · exact encN_bytes _ z h
          · exact flat_bytes (es.take k) (fun e he => (HMay.out e (List.mem_of_mem_take he)).1) z h
        clear hrg hmem
        generalize es.getD k noEnt = x at *
        generalize encN len ++ (es.take k).flatMap encE = Z at *
        have hsz := hbel.size
        have l1 : Hid (x.blind.length = 32) := hok.1.1
        have l2 : Hid (x.id.length = 32) := hok.2.1.1
        have l3 : Hid (x.key.length = 32) := hok.2.2.1.1
        have hn : x.name.size ≤ 64 := mayB_size HM.out
        obtain ⟨m, hm⟩ : ∃ m : Nat, x.kind = (m : Int) := ⟨x.kind.toNat, by have := mayB_kind HM.out; omega⟩
        have hm64 : m < 9223372036854775808 := by have := hok.2.2.2.1; omega
        have HMn : Hid (x.kind.toNat = m) := by show _ = _; omega
        have hrl := hok.2.2.2.2.1
        have hep := hok.2.2.2.2.2
        have HTl : Hid ((encText (nameL x.name)).length ≤ 100) := by show _ ≤ _; have := encText_length (nameL x.name) (by rw [nameL_length]; omega); rw [nameL_length] at this; omega
        have HMl : Hid ((encN m).length ≤ 10) := encN_ten (by omega)
        have em : (m : Int) % 18446744073709551616 = (m : Int) := by omega
        have er : (x.realm : Int) % 18446744073709551616 = (x.realm : Int) := by omega
        have ee : (x.epoch : Int) % 18446744073709551616 = (x.epoch : Int) := by omega
        have wm : IntKind.u64.wrap (m : Int) = (m : Int) := by rw [IntKind.wrap_u64]; omega
        have wrr : IntKind.u64.wrap (x.realm : Int) = (x.realm : Int) := by rw [IntKind.wrap_u64]; omega
        have wee : IntKind.u64.wrap (x.epoch : Int) = (x.epoch : Int) := by rw [IntKind.wrap_u64]; omega
        have HKd : Hid (x.kind = (m : Int)) := hm
        clear hm
        go_wp2_with (first
          | ((with_reducible show wpList _ _ _ (Oper.mk _ (Op.load 43 (.tmp 18)) _ _ _ _ :: _) _ _); refine wpList_loadEnt rfl (.tmp 18) rfl rfl hok HRg.out ?_; simp only [Act.put, List.setIfInBounds_toArray, List.set_cons_zero, List.set_cons_succ])
          | ((with_reducible show wpList _ _ _ (Oper.mk _ (Op.store 43 (.tmp 6) (.tmp 19)) _ _ _ _ :: _) _ _); refine wpList_storeNew rfl (.tmp 6) (.tmp 19) rfl x hok rfl rfl (fun W2 hb2 hE => ?_); have hcN := hE.name; have hcK := hE.kind; have HE : Hid (EntAt _ _ _) := hE; clear hE; simp only [Act.put])
          | (at_builtin; refine wpList_append_bytes rfl _ _ rfl w.heap.size (.slice q l c) Z rfl (HO.out.later hb2) rfl (bytes_part (n := wr.heap.size + 1) HE.out.blind hok.1.1 hok.1.2 (by omega)) (by have := HZ.out; omega) (by have := hb2.size; omega) ?_; intro u4 w4 ho4 hg4; have hE4 : EntAt w4 wr.heap.size x := ⟨hok, KeepT.row hg4 (HO.out.later hb2) (by decide) _ _ _ HE.out.row⟩; have hb4 : Below w.heap.size w w4 := below_own (hbel.trans (hb2.mono hsz)) (by have := hb2.size; omega) (HO.out.later hb2) hg4; obtain ⟨q4, l4, c4, hu4⟩ := own_any_slice ho4; subst hu4; have HO4 : Hid (Own w.heap.size w4 (.slice q4 l4 c4) (Z ++ x.blind)) := ho4; have HE4 : Hid (EntAt w4 wr.heap.size x) := hE4; clear ho4 hg4 hE4 HE hcN hcK))
        obtain ⟨Gx, hGx⟩ : ∃ Gx, wr.heap.size = Gx := ⟨_, rfl⟩
        rw [hGx] at HE4 ⊢
        have hlG := HE4.out.row.lt
        clear hb2 HO hGx
        obtain ⟨cap5, w5, hcv, hb5, hs5, hI5⟩ := bytes_of_name w4.drew x.name (by omega)
        have HB5 : Hid (Below w4.heap.size w4 w5) := (Below.refl _ w4).drew.trans hb5
        have hcN : ∀ W, Below w4.heap.size w4 W → W.cell? ⟨Gx, 32, none⟩ = some (.string x.name) := fun W h => (HE4.out.later h).name
        have hcK : ∀ W, Below w4.heap.size w4 W → W.cell? ⟨Gx, 33, none⟩ = some (.int .i64 (m : Int)) := fun W h => by rw [← HKd.out]; exact (HE4.out.later h).kind
        refine wp_region_held_drew (S := fun W => Below w4.heap.size w4 W) (by kernel_rfl) (Below.refl _ _).drew (fun hHeld => ?_)
        refine wpAnyH_takesAt 0 3 7 (of_decide_eq_true (by kernel_rfl)) rfl (fun _ _ _ d _ h => by cases d <;> exact h) (by kernel_rfl) (by kernel_rfl) hHeld ?_
        simp only [List.drop_zero, List.take_succ_cons, List.take_zero]
        iterate 3 (refine wpHeld_step (v := ?_) (by rfl) (fun wz hSw => ?_) ?_; rotate_left; (focus (have hcn := hcN wz hSw; go_simp; try with_reducible rfl)); (simp only [Act.put, List.setIfInBounds_toArray, List.set_cons_zero, List.set_cons_succ]))
        refine wpHeld_nil ?_
        refine wpAnyH_takesAt 5 3 4 (of_decide_eq_true (by kernel_rfl)) rfl (fun _ _ _ d _ h => by cases d <;> exact h) (by kernel_rfl) (by kernel_rfl) hHeld ?_
        simp only [List.drop_succ_cons, List.drop_zero, List.take_succ_cons, List.take_zero]
        iterate 3 (refine wpHeld_step (v := ?_) (by rfl) (fun wz hSw => ?_) ?_; rotate_left; (focus (have hck := hcK wz hSw; go_simp; try with_reducible rfl)); (simp only [Act.put, List.setIfInBounds_toArray, List.set_cons_zero, List.set_cons_succ]))
        refine wpHeld_nil ?_
        refine wpAnyH_only (i := 3) (by kernel_rfl) rfl (fun K hK => ?_)
        rw [if_pos (by rfl)]
        go_simp
        refine hK.out _ _ HB5.out ?_
        clear hK K
        refine wpAnyH_only (i := 4) (by kernel_rfl) rfl (fun K hK => ?_)
        rw [if_pos (by rfl)]
        go_simp
        have hI5' := hI5 w5 (KeepF.refl _)
        refine (refText_any q4 l4 c4 (Z ++ x.blind) _ x.name.size cap5 (nameL x.name) w5 ((HO4.out.later HB5.out).bytes (fun z hz => by
          rcases List.mem_append.1 hz with h | h
          · exact HZb.out z h
          · exact hok.1.2 z h)) (hI5'.mono hs5) (by have := HZ.out; have := l1.out; simp only [List.length_append]; omega)).mono ?_
        rintro e w6 ⟨v6, rfl, hO6, hb6⟩
        obtain ⟨q6, l6, c6, hu6⟩ := own_any_slice hO6
        subst hu6
        have hb46 : Below w4.heap.size w4 w6 := HB5.out.trans (hb6.mono HB5.out.size)
        refine hK.out _ _ hb46 ?_
        clear hK K
        refine wpAnyH_only (i := 8) (by kernel_rfl) rfl (fun K hK => ?_)
        rw [if_pos (by rfl)]
        go_simp
        have hZ6 : ∀ z ∈ Z ++ x.blind ++ encText (nameL x.name), z < 256 := fun z hz => by
          rcases List.mem_append.1 hz with h | h
          · rcases List.mem_append.1 h with h | h
            · exact HZb.out z h
            · exact hok.1.2 z h
          · rcases List.mem_append.1 h with h | h
            · exact encN_bytes _ z h
            · exact nameL_lt _ z h
        refine (refN_any q6 l6 c6 (Z ++ x.blind ++ encText (nameL x.name)) m w6 (by omega) (hO6.bytes hZ6) (by have := HZ.out; have := l1.out; have := HTl.out; simp only [List.length_append]; omega)).mono ?_
        rintro e w7 ⟨v7, rfl, hO7, hb7⟩
        obtain ⟨q7, l7, c7, hu7⟩ := own_any_slice hO7
        subst hu7
        have hb47 : Below w4.heap.size w4 w7 := hb46.trans (hb7.mono hb46.size)
        refine hK.out _ _ hb47 ?_
        clear hK K
        refine wpAnyH_takesAt 9 1 0 (of_decide_eq_true (by kernel_rfl)) rfl (fun _ _ _ d _ h => by cases d <;> exact h) (by kernel_rfl) (by kernel_rfl) hb47 ?_
        simp only [List.drop_succ_cons, List.drop_zero, List.take_succ_cons, List.take_zero]
        iterate 1 (refine wpHeld_step (v := ?_) (by rfl) (fun wz hSw => ?_) ?_; rotate_left; (focus ((try dsimp only at hSw); go_simp; try with_reducible rfl)); ((simp only [Act.put]; (try simp only [List.setIfInBounds_toArray]); (try simp only [List.set_cons_succ]); (try simp only [List.set_cons_zero]))))
        refine wpHeld_nil ?_
        refine wpAnyH_done (by kernel_rfl) ?_ _
        have hs67 := hb47.size
        have hbw7 : Below w.heap.size w w7 := hb4.trans (hb47.mono hb4.size)
        have HO7 : Hid (Own w.heap.size w7 (.slice q7 l7 c7) (Z ++ x.blind ++ encText (nameL x.name) ++ encN m)) := hO7.mono (by have := hb4.size; have := hb46.size; omega)
        have HE7 : Hid (EntAt w7 Gx x) := HE4.out.later hb47
        have HW7 : Hid (Below w.heap.size w w7) := hbw7
        have hs7 := hbw7.size
        clear hO7 hO6 hb7 hb6 hb46 hb47 hcN hcK hI5 hcv hb5 hs5 HB5 HO4 HE4 hb4 hI5' hHeld hbw7 hlG hs67
        have hlG := HE7.out.row.lt
        go_wp2
        refine wp_region_held_drew (S := fun _ => True) (by kernel_rfl) trivial (fun hHeld => ?_)
        refine wpAnyH_takesAt 0 3 5 (of_decide_eq_true (by kernel_rfl)) rfl (fun _ _ _ d _ h => by cases d <;> exact h) (by kernel_rfl) (by kernel_rfl) hHeld ?_
        simp only [List.drop_zero, List.take_succ_cons, List.take_zero]
        iterate 3 (refine wpHeld_step (v := ?_) (by rfl) (fun wz hSw => ?_) ?_; rotate_left; (focus ((try dsimp only at hSw); go_simp; try with_reducible rfl)); (simp only [Act.put, List.setIfInBounds_toArray, List.set_cons_zero, List.set_cons_succ]))
        refine wpHeld_nil ?_
        refine wpAnyH_takesAt 4 2 3 (of_decide_eq_true (by kernel_rfl)) rfl (fun _ _ _ d _ h => by cases d <;> exact h) (by kernel_rfl) (by kernel_rfl) hHeld ?_
        simp only [List.drop_succ_cons, List.drop_zero, List.take_succ_cons, List.take_zero]
        iterate 2 (refine wpHeld_step (v := ?_) (by rfl) (fun wz hSw => ?_) ?_; rotate_left; (focus ((try dsimp only at hSw); go_simp; try with_reducible rfl)); (simp only [Act.put, List.setIfInBounds_toArray, List.set_cons_zero, List.set_cons_succ]))
        refine wpHeld_nil ?_
        refine wpAnyH_only (i := 3) (by kernel_rfl) rfl (fun K hK => ?_)
        rw [if_pos (by rfl)]
        refine wp_append_bytes (.tmp 33) (.tmp 35) rfl w.heap.size (.slice q7 l7 c7) (Z ++ x.blind ++ encText (nameL x.name) ++ encN m) rfl (HO7.out.later (Below.refl _ w7).drew) rfl (bytes_part (n := w7.heap.size) HE7.out.id hok.2.1.1 hok.2.1.2 hlG) (by have := HZ.out; have := l1.out; have := HTl.out; have := HMl.out; simp only [List.length_append]; omega) hs7 (fun v8 w8 ho8 hg8 => ?_)
        obtain ⟨q8, l8, c8, hu8⟩ := own_any_slice ho8
        subst hu8
        have hO7d : Own w.heap.size w7.drew (.slice q7 l7 c7) (Z ++ x.blind ++ encText (nameL x.name) ++ encN m) := HO7.out.later (Below.refl _ w7).drew
        have hE8 : EntAt w8 Gx x := ⟨hok, KeepT.row hg8 hO7d (by decide) _ _ _ (HE7.out.later (Below.refl _ w7).drew).row⟩
        have hb8 : Below w.heap.size w w8 := below_own (HW7.out.drew) hs7 hO7d hg8
        refine hK.out _ _ trivial ?_
        clear hK K
        change wpAnyH _ _ _ _ _ _ _ (Act.put _ (some 36) _) _
        (simp only [Act.put]; (try simp only [List.setIfInBounds_toArray]); (try simp only [List.set_cons_succ]); (try simp only [List.set_cons_zero]))
        refine wpAnyH_only (i := 6) (by kernel_rfl) rfl (fun K hK => ?_)
        rw [if_pos (by rfl)]
        refine wp_append_bytes (.tmp 36) (.tmp 38) rfl w.heap.size (.slice q8 l8 c8) (Z ++ x.blind ++ encText (nameL x.name) ++ encN m ++ x.id) rfl ho8 rfl (bytes_part (n := w8.heap.size) hE8.key hok.2.2.1.1 hok.2.2.1.2 hE8.row.lt) (by have := HZ.out; have := l1.out; have := l2.out; have := HTl.out; have := HMl.out; simp only [List.length_append]; omega) hb8.size (fun v9 w9 ho9 hg9 => ?_)
        obtain ⟨q9, l9, c9, hu9⟩ := own_any_slice ho9
        subst hu9
        have hE9 : EntAt w9 Gx x := ⟨hok, KeepT.row hg9 ho8 (by decide) _ _ _ hE8.row⟩
        have hb9 : Below w.heap.size w w9 := below_own hb8 hb8.size ho8 hg9
        refine hK.out _ _ trivial ?_
        clear hK K
        change wpAnyH _ _ _ _ _ _ _ (Act.put _ (some 39) _) _
        (simp only [Act.put]; (try simp only [List.setIfInBounds_toArray]); (try simp only [List.set_cons_succ]); (try simp only [List.set_cons_zero]))
        refine wpAnyH_takesAt 7 1 0 (of_decide_eq_true (by kernel_rfl)) rfl (fun _ _ _ d _ h => by cases d <;> exact h) (by kernel_rfl) (by kernel_rfl) trivial ?_
        simp only [List.drop_succ_cons, List.drop_zero, List.take_succ_cons, List.take_zero]
        iterate 1 (refine wpHeld_step (v := ?_) (by rfl) (fun wz hSw => ?_) ?_; rotate_left; (focus ((try dsimp only at hSw); go_simp; try with_reducible rfl)); ((simp only [Act.put]; (try simp only [List.setIfInBounds_toArray]); (try simp only [List.set_cons_succ]); (try simp only [List.set_cons_zero]))))
        refine wpHeld_nil ?_
        refine wpAnyH_done (by kernel_rfl) ?_ _
        have HO9 : Hid (Own w.heap.size w9 (.slice q9 l9 c9) (Z ++ x.blind ++ encText (nameL x.name) ++ encN m ++ x.id ++ x.key)) := ho9
        have HE9 : Hid (EntAt w9 Gx x) := hE9
        clear ho9 hE9 hg9 hE8 hb8 hg8 ho8 hO7d HO7 HE7 HW7 hs7 hlG hHeld
        have hcR : ∀ W, Below w9.heap.size w9 W → W.cell? ⟨Gx, 98, none⟩ = some (.int .u32 (x.realm : Nat)) := fun W h => (HE9.out.later h).realm
        have hcE : ∀ W, Below w9.heap.size w9 W → W.cell? ⟨Gx, 99, none⟩ = some (.int .u32 (x.epoch : Nat)) := fun W h => (HE9.out.later h).epoch
        have hZ9 : Hid (∀ z ∈ Z ++ x.blind ++ encText (nameL x.name) ++ encN m ++ x.id ++ x.key, z < 256) := fun z hz => by
          simp only [List.mem_append] at hz
          rcases hz with ((((h | h) | h) | h) | h) | h
          · exact HZb.out z h
          · exact hok.1.2 z h
          · exact hZ6 z (by simp [h])
          · exact encN_bytes _ z h
          · exact hok.2.1.2 z h
          · exact hok.2.2.1.2 z h
        go_wp2
        refine wp_region_held_drew (S := fun W => Below w9.heap.size w9 W) (by kernel_rfl) (Below.refl _ _).drew (fun hHeld => ?_)
        refine wpAnyH_takesAt 0 4 6 (of_decide_eq_true (by kernel_rfl)) rfl (fun _ _ _ d _ h => by cases d <;> exact h) (by kernel_rfl) (by kernel_rfl) hHeld ?_
        simp only [List.drop_zero, List.take_succ_cons, List.take_zero]
        iterate 4 (refine wpHeld_step (v := ?_) (by rfl) (fun wz hSw => ?_) ?_; rotate_left; (focus (have hcr := hcR wz hSw; go_simp; try with_reducible rfl)); (simp only [Act.put, List.setIfInBounds_toArray, List.set_cons_zero, List.set_cons_succ]))
        refine wpHeld_nil ?_
        refine wpAnyH_takesAt 5 3 3 (of_decide_eq_true (by kernel_rfl)) rfl (fun _ _ _ d _ h => by cases d <;> exact h) (by kernel_rfl) (by kernel_rfl) hHeld ?_
        simp only [List.drop_succ_cons, List.drop_zero, List.take_succ_cons, List.take_zero]
        iterate 3 (refine wpHeld_step (v := ?_) (by rfl) (fun wz hSw => ?_) ?_; rotate_left; (focus (have hce := hcE wz hSw; go_simp; try with_reducible rfl)); (simp only [Act.put, List.setIfInBounds_toArray, List.set_cons_zero, List.set_cons_succ]))
        refine wpHeld_nil ?_
        refine wpAnyH_only (i := 4) (by kernel_rfl) rfl (fun K hK => ?_)
        rw [if_pos (by rfl)]
        go_simp
        have HLz : (Z ++ x.blind ++ encText (nameL x.name) ++ encN m ++ x.id ++ x.key).length ≤ 800000 := by have := HZ.out; have := l1.out; have := l2.out; have := l3.out; have := HTl.out; have := HMl.out; simp only [List.length_append]; omega
        refine (refN_any q9 l9 c9 _ x.realm w9.drew (by omega) (((HO9.out.later (Below.refl _ w9).drew).bytes hZ9.out)) (by omega)).mono ?_
        rintro e wA ⟨vA, rfl, hOA, hbA⟩
        obtain ⟨qA, lA, cA, huA⟩ := own_any_slice hOA
        subst huA
        have hb9A : Below w9.heap.size w9 wA := (Below.refl _ w9).drew.trans hbA
        refine hK.out _ _ hb9A ?_
        clear hK K
        refine wpAnyH_only (i := 8) (by kernel_rfl) rfl (fun K hK => ?_)
        rw [if_pos (by rfl)]
        go_simp
        refine (refN_any qA lA cA _ x.epoch wA (by omega) (hOA.bytes (fun z hz => by
          rcases List.mem_append.1 hz with h | h
          · exact hZ9.out z h
          · exact encN_bytes _ z h)) (by have := encN_ten (n := x.realm) (by omega); rw [List.length_append]; omega)).mono ?_
        rintro e wB ⟨vB, rfl, hOB, hbB⟩
        obtain ⟨qB, lB, cB, huB⟩ := own_any_slice hOB
        subst huB
        have hb9B : Below w9.heap.size w9 wB := hb9A.trans (hbB.mono hb9A.size)
        refine hK.out _ _ hb9B ?_
        clear hK K
        refine wpAnyH_takesAt 9 1 0 (of_decide_eq_true (by kernel_rfl)) rfl (fun _ _ _ d _ h => by cases d <;> exact h) (by kernel_rfl) (by kernel_rfl) hb9B ?_
        simp only [List.drop_succ_cons, List.drop_zero, List.take_succ_cons, List.take_zero]
        iterate 1 (refine wpHeld_step (v := ?_) (by rfl) (fun wz hSw => ?_) ?_; rotate_left; (focus ((try dsimp only at hSw); go_simp; try with_reducible rfl)); ((simp only [Act.put]; (try simp only [List.setIfInBounds_toArray]); (try simp only [List.set_cons_succ]); (try simp only [List.set_cons_zero]))))
        refine wpHeld_nil ?_
        refine wpAnyH_done (by kernel_rfl) ?_ _
        have hs9 := hb9.size
        have HOB : Hid (Own w.heap.size wB (.slice qB lB cB) (Z ++ encE x)) := by
          have h := hOB.mono (n₁ := w.heap.size) (by have := hb9A.size; omega)
          have e : Z ++ x.blind ++ encText (nameL x.name) ++ encN m ++ x.id ++ x.key ++ encN x.realm ++ encN x.epoch = Z ++ encE x := by
            rw [encE, HMn.out]; simp only [List.append_assoc]
          rw [← e]
          exact h
        have HBB : Hid (Below w.heap.size w wB) := hb9.trans (hb9B.mono hs9)
        clear hOB hbB hOA hbA hb9A hb9B hcR hcE HO9 HE9 hHeld HLz
        go_wp2
        go_roundw
        case rel => exact ⟨k + 1, qB, lB, cB, by omega, by go_num, rfl, by rw [HT.out]; exact HOB.out, HBB.out⟩
        case measure => simp [intOf]; omega
      · obtain rfl : k = len := by omega
        have HZ : Hid (encN k ++ (es.take k).flatMap encE = encsE es) := by
          show _ = _
          rw [List.take_of_length_le (by rw [HL.out]; exact Nat.le_refl _), encsE, HL.out]
        have hO := HO.out
        rw [HZ.out] at hO
        have HO2 : Hid (Own w.heap.size wr (.slice q l c) (encsE es)) := hO
        clear HO hO
        go_wp2
        refine bodyPost_ret (results_tmp2 rfl _ _ _) rfl ?_
        exact ⟨_, rfl, HO2.out, hbel⟩
end Go.Proofs.Ytlmfdifnkkdpfaa
