/-
  What the reference's Expand answers: expandN, or the error; nothing that lay before a call has turned.
-/
import Derived.Test.YtokjbldelpiejaaDoorMac3
import Derived.Test.YtokjbldelpiejaaDoorBeginsW
namespace Go.Proofs.YtokjbldelpiejaaDoor
open Go.RowKit Go.Shelf
attribute [local go_sem] Oper.semAt_some

section
variable {P : Program} {md : Region.Mode} {ops : Array Oper} {Q : Exit → Act → World → Prop} {S : World → Prop}
/-- Whatever order: one of three may come up. -/
theorem wpAnyH_three {i j k fuel : Nat} {listed : Array Bool} {oi oj ok : Oper} {a : Act} {w : World} (hr : Region.ready md ops listed = [i, j, k]) (hi : ops[i]? = some oi) (hj : ops[j]? = some oj) (hk : ops[k]? = some ok)
    (h : ∀ K' : Act → World → Prop, Hid (∀ a w, S w → wpAnyH P md ops Q S fuel (listed.setIfInBounds i true) a w → K' a w) → if Region.wanted oi (yielded ops a.tmps) = true then Oper.wp P oi a w K' Q else K' (a.put oi.dst undef) w)
    (h' : ∀ K' : Act → World → Prop, Hid (∀ a w, S w → wpAnyH P md ops Q S fuel (listed.setIfInBounds j true) a w → K' a w) → if Region.wanted oj (yielded ops a.tmps) = true then Oper.wp P oj a w K' Q else K' (a.put oj.dst undef) w)
    (h'' : ∀ K' : Act → World → Prop, Hid (∀ a w, S w → wpAnyH P md ops Q S fuel (listed.setIfInBounds k true) a w → K' a w) → if Region.wanted ok (yielded ops a.tmps) = true then Oper.wp P ok a w K' Q else K' (a.put ok.dst undef) w) :
    wpAnyH P md ops Q S (fuel + 1) listed a w :=
  wpAnyH_all hr (by simp) (fun x hx => by
    rcases List.mem_cons.1 hx with rfl | hx
    · exact wpOp_step hi (fun K' hK => h K' (fun a w hS hW => hK a w ⟨hS, hW⟩))
    · rcases List.mem_cons.1 hx with rfl | hx
      · exact wpOp_step hj (fun K' hK => h' K' (fun a w hS hW => hK a w ⟨hS, hW⟩))
      · have : x = k := by simpa using hx
        subst this
        exact wpOp_step hk (fun K' hK => h'' K' (fun a w hS hW => hK a w ⟨hS, hW⟩)))
/-- A region that draws its order, cut off. -/
theorem wp_region_cut {a : Act} {w : World} {id : Nat} (R : Act → World → Prop) (hm : P.follows .mixedOrders = true) (hS : S w.drew)
    (h : S w.drew → wpAnyH P .any ops (OnOnly fun _ a w => R a w) S ops.size (Array.replicate ops.size false) a w.drew) (hR : ∀ a' w', R a' w' → Q .normal a' w') : (Code.region id ops true).wp P Q a w :=
  Code.wp_mono (fun e a' w' h' => by cases e <;> first | exact hR _ _ h' | exact (h' : False).elim) (wp_region_held_drew hm hS h)
end

set_option maxRecDepth 100000 in
set_option maxHeartbeats 4000000 in
/-- the reference's Expand -/
theorem refExpand_any (ks info : List Nat) (hkl : ks.length = 32) (hkz : ∀ z ∈ ks, z < 256) (p : Option Addr) (len cap : Nat) (hlen : len ≤ 10000) (N : Nat) (hN : N ≤ 8160) (w : World) (hI : IsBytes w.heap.size w p len cap info) :
    Calls Tryd.prog 25 #[.agg (u8s ks).toArray, .slice p len cap, .int .i64 N] w fun e w' => ∃ q c, e = .returned (.tuple #[.slice q N c, .int .i64 0]) ∧ IsBytes w'.heap.size w' q N c (expandN ks info N) ∧ Below w.heap.size w w' := by
  have HKl : Hid (ks.length = 32) := hkl
  have HKz : Hid (∀ z ∈ ks, z < 256) := hkz
  have HKV : Hid ((u8s ks).length = 32) := by show _ = _; rw [u8s_length]; exact hkl
  obtain ⟨w0, hw0⟩ : ∃ w0, w0 = w.alloc (.cells (u8s ks).toArray 46) := ⟨_, rfl⟩
  have hb0 : Below w.heap.size w w0 := by rw [hw0]; exact (Below.refl _ w).alloc (Nat.le_refl _) _
  have hs0 : w0.heap.size = w.heap.size + 1 := by rw [hw0]; simp
  have HRk0 : Hid (Row w0 w.heap.size 46 (u8s ks)) := by rw [hw0]; exact Row.new' w 46 _
  have HI0 : Hid (IsBytes (w.heap.size + 1) w0 p len cap info) := by have h := hI.later hb0; rw [hs0] at h; exact h
  have HIz : Hid (∀ z ∈ info, z < 256) := hI.2.2.2.1
  have Hb0 : Hid (Below w.heap.size w w0) := hb0
  have hn1 : ¬ (N : Int) < 0 := by omega
  have hn2 : ¬ (8160 : Int) < (N : Int) := by omega
  clear hI hb0 hkl hkz
  generalize hKV : u8s ks = KV at *
  have HKe : Hid (u8s ks = KV) := hKV
  clear hKV
  go_enter Tryd.func25, Tryd.ntmps25
  go_wp2
  rw [← hw0]
  go_loopw [8, 9, 10] (fun v8 v9 i wr => ∃ (k : Nat) (q8 : Option Addr) (c8 : Nat) (q9 : Option Addr) (l9 c9 : Nat), 32 * k < N + 32 ∧ i = .int .i64 ((k : Int) + 1) ∧ v8 = .slice q8 (32 * k) c8 ∧ Own (w.heap.size + 1) wr v8 (linksL ks info k).flatten ∧ v9 = .slice q9 l9 c9 ∧ Own (w.heap.size + 1) wr v9 (linkN ks info k) ∧ Below (w.heap.size + 1) w0 wr)
    (fun _ _ i _ => 300 - (intOf i).toNat)
  case atStart => exact ⟨0, none, 0, none, 0, 0, by omega, rfl, rfl, Own.nil _ _, rfl, Own.nil _ _, Below.refl _ _⟩
  case round =>
    obtain ⟨j, q8, c8, q9, l9, c9, hj, rfl, rfl, ho8, rfl, ho9, hbel⟩ := hrel
    have hsz : w.heap.size + 1 ≤ wr.heap.size := by have := hbel.size; omega
    by_cases hlt : 32 * j < N
    · obtain ⟨L, hL⟩ : ∃ L, L = 32 * j := ⟨_, rfl⟩
      rw [← hL] at ho8 ⊢
      have HL : Hid (L = 32 * j) := hL
      have hLi : (L : Int) < (N : Int) := by omega
      have ey : IntKind.u8.wrap ((j : Int) + 1) = (j : Int) + 1 := by rw [IntKind.wrap_u8]; omega
      have eA : IntKind.i64.wrap ((j : Int) + 1 + 1) = (j : Int) + 1 + 1 := by rw [IntKind.wrap_i64]; omega
      have HL9 : Hid ((linkN ks info j).length = l9) := by
        obtain ⟨q, c, e⟩ := ho9.slice
        simp only [Value.slice.injEq] at e
        exact e.2.1.symm
      have hl9 : l9 ≤ 32 := by have := HL9.out; have := linkN_le ks info j; omega
      have HI9 : Hid (IsBytes wr.heap.size wr q9 l9 c9 (linkN ks info j)) := ho9.bytes (linkN_lt ks info j)
      have HIn : Hid (IsBytes wr.heap.size wr p len cap info) := (HI0.out.below hbel).mono hsz
      have HRk : Hid (Row wr w.heap.size 46 KV) := HRk0.out.below hbel (by omega)
      obtain ⟨nB, hnB⟩ : ∃ nB, nB = l9 + len := ⟨_, rfl⟩
      obtain ⟨nC, hnC⟩ : ∃ nC, nC = nB + 1 := ⟨_, rfl⟩
      have HLB : Hid ((linkN ks info j ++ info).length = nB) := by show _ = _; rw [List.length_append, HL9.out, HIn.out.1, hnB]
      have HLC : Hid ((linkN ks info j ++ info ++ [j + 1]).length = nC) := by show _ = _; rw [List.length_append, HLB.out, hnC]; rfl
      have hnBl : nB ≤ 20000 := by omega
      have hnCl : nC ≤ 20000 := by omega
      have HZ : Hid (∀ z ∈ linkN ks info j ++ info ++ [j + 1], z < 256) := fun z hz => by
        rcases List.mem_append.1 hz with h | h
        · rcases List.mem_append.1 h with h | h
          · exact linkN_lt ks info j z h
          · exact HIz.out z h
        · have : z = j + 1 := by simpa using h
          omega
      have HM : Hid (∀ V q c, Below wr.heap.size wr V → IsBytes V.heap.size V q nC c (linkN ks info j ++ info ++ [j + 1]) → Calls Tryd.prog 20 #[.slice (some ⟨w.heap.size, 0, none⟩) 32 32, .slice q nC c] V fun e w' => e = .returned (.agg (u8s (linkN ks info (j + 1))).toArray) ∧ Below V.heap.size V w') := fun V q c hb hI => by
        have h := refMac_any (some ⟨w.heap.size, 0, none⟩) 32 32 ks (by omega) q nC c _ hnCl V (row_bytes (by rw [HKe.out]; exact HRk.out.later hb) HKl.out (by omega) HKz.out) hI
        rw [linkN, show (j + 1) % 256 = j + 1 by omega]
        exact h
      have HX : Hid (LinkOk (linkN ks info (j + 1))) := ⟨linkN_length ks info j, linkN_lt ks info (j + 1)⟩
      have HFs : Hid ((linksL ks info j).flatten ++ linkN ks info (j + 1) = (linksL ks info (j + 1)).flatten) := by show _ = _; rw [← linksL_succ, List.flatten_append, List.flatten_singleton]
      have HLVl : Hid ((u8s (linkN ks info (j + 1))).length = 32) := by show _ = _; rw [u8s_length]; exact HX.out.1
      have HLV1 : Hid (∀ v ∈ u8s (linkN ks info (j + 1)), v.oneCell' = true) := u8s_one _
      have HO8 : Hid (Own (w.heap.size + 1) wr (.slice q8 L c8) (linksL ks info j).flatten) := ho8
      have HF8 : Hid ((linksL ks info j).flatten.length = L) := by
        obtain ⟨q, c, e⟩ := ho8.slice
        simp only [Value.slice.injEq] at e
        exact e.2.1.symm
      have bW0 : Below wr.heap.size wr wr.drew := (Below.refl _ wr).drew
      clear ho8 ho9 hnB hnC hL
      generalize hLV : u8s (linkN ks info (j + 1)) = LV at *
      have HLV : Hid (u8s (linkN ks info (j + 1)) = LV) := hLV
      clear hLV
      generalize hXe : linkN ks info (j + 1) = X at *
      have HXe : Hid (linkN ks info (j + 1) = X) := hXe
      clear hXe
      generalize linkN ks info j = X0 at *
      go_wp2
      refine wp_region_cut (fun a' V => ∃ (gL : Nat) (v26 v28 v31 v32 : Value), a' = { tmps := #[.agg KV.toArray, .slice p len cap, .int .i64 N, .pointer (some ⟨w.heap.size, 0, none⟩), undef, undef, .slice none 0 0, .int .i64 0, .slice q8 L c8, .slice q9 l9 c9, .int .i64 ((j : Int) + 1), .pointer (some ⟨gL, 0, none⟩), .int .i64 N, .bool false, .bool false, .int .i64 N, .bool false, .bool false, .slice q8 L c8, .int .i64 L, .int .i64 N, .bool true, u22, u23, .slice (some ⟨w.heap.size, 0, none⟩) 32 32, .slice q9 l9 c9, v26, .slice p len cap, v28, .int .i64 ((j : Int) + 1), .int .u8 ((j : Int) + 1), v31, v32, .agg LV.toArray, u34, u35, u36, u37, u38, undef, undef, undef], defers := [] } ∧ wr.heap.size ≤ gL ∧ Row V gL 25 LV ∧ Below wr.heap.size wr V) (S := fun _ => True) (by kernel_rfl) trivial (fun _ => ?_) ?_
      · obtain ⟨V0, hV0⟩ : ∃ V0, V0 = wr.drew := ⟨_, rfl⟩
        rw [← hV0] at bW0 ⊢
        clear hV0
        refine wpAnyH_takesAt 0 2 10 (of_decide_eq_true (by kernel_rfl)) rfl (fun _ _ _ _ _ h => h) (by kernel_rfl) (by kernel_rfl) trivial ?_
        simp only [List.drop_zero, List.take_succ_cons, List.take_zero]
        iterate 2 (refine wpHeld_step (v := ?_) (by rfl) (fun wz hSw => ?_) ?_; rotate_left; (focus (go_simp; try with_reducible rfl)); (simp only [Act.put, List.setIfInBounds_toArray, List.set_cons_zero, List.set_cons_succ]))
        refine wpHeld_nil ?_
        refine wpAnyH_takesAt 3 1 9 (of_decide_eq_true (by kernel_rfl)) rfl (fun _ _ _ _ _ h => h) (by kernel_rfl) (by kernel_rfl) trivial ?_
        simp only [List.drop_succ_cons, List.drop_zero, List.take_succ_cons, List.take_zero]
        iterate 1 (refine wpHeld_step (v := ?_) (by rfl) (fun wz hSw => ?_) ?_; rotate_left; (focus (go_simp; try with_reducible rfl)); (simp only [Act.put, List.setIfInBounds_toArray, List.set_cons_zero, List.set_cons_succ]))
        refine wpHeld_nil ?_
        refine wpAnyH_takesAt 5 2 7 (of_decide_eq_true (by kernel_rfl)) rfl (fun _ _ _ _ _ h => h) (by kernel_rfl) (by kernel_rfl) trivial ?_
        simp only [List.drop_succ_cons, List.drop_zero, List.take_succ_cons, List.take_zero]
        iterate 2 (refine wpHeld_step (v := ?_) (by rfl) (fun wz hSw => ?_) ?_; rotate_left; (focus (go_simp; try with_reducible rfl)); (simp only [Act.put, List.setIfInBounds_toArray, List.set_cons_zero, List.set_cons_succ]))
        refine wpHeld_nil ?_
        refine wpAnyH_three (i := 2) (j := 7) (k := 10) (by kernel_rfl) rfl rfl rfl (fun K hK => ?_) (fun K hK => ?_) (fun K hK => ?_)
        · rw [if_pos (by rfl)]
          refine wp_append_bytes (.const (.slice none 0 0)) (.tmp 25) rfl V0.heap.size (.slice none 0 0) [] rfl (Own.nil _ _) rfl (HI9.out.later bW0) (by simp; omega) (Nat.le_refl _) ?_
          intro u V1 ho1 hg1
          rw [List.nil_append] at ho1
          obtain ⟨qa, ca, hu⟩ := own_len ho1 (n := l9) HL9.out
          subst hu
          simp only [Act.put]
          try simp only [List.setIfInBounds_toArray]
          try simp only [List.set_cons_succ]
          try simp only [List.set_cons_zero]
          refine hK.out _ _ trivial ?_
          clear hK K
          obtain ⟨bs, hbse⟩ : ∃ b, b = V0.heap.size := ⟨_, rfl⟩
          have hbs : wr.heap.size ≤ bs := by rw [hbse]; exact bW0.size
          have hs1 : bs ≤ V1.heap.size := by rw [hbse]; exact hg1.size
          rw [← hbse] at ho1
          have bW1 : Below wr.heap.size wr V1 := bW0.grown hg1 bW0.size (fun k e => by cases e)
          clear hg1 hbse
          refine wpAnyH_three (i := 4) (j := 7) (k := 10) (by kernel_rfl) rfl rfl rfl (fun K hK => ?_) (fun K hK => ?_) (fun K hK => ?_)
          · rw [if_pos (by rfl)]
            refine wp_append_bytes (.tmp 26) (.tmp 27) rfl bs (.slice qa l9 ca) X0 rfl ho1 rfl (HIn.out.later bW1) (by rw [HL9.out]; omega) hs1 ?_
            intro u V2 ho2 hg2
            obtain ⟨qb, cb, hu⟩ := own_len ho2 (n := nB) HLB.out
            subst hu
            simp only [Act.put]
            try simp only [List.setIfInBounds_toArray]
            try simp only [List.set_cons_succ]
            try simp only [List.set_cons_zero]
            refine hK.out _ _ trivial ?_
            clear hK K
            have hs2 : bs ≤ V2.heap.size := Nat.le_trans hs1 hg2.size
            have bW2 : Below wr.heap.size wr V2 := bW1.grown hg2 bW1.size (fun k e => Nat.le_trans hbs (World.ownsRow.lt ho1 k e).1)
            clear hg2
            refine wpAnyH_either (i := 7) (j := 10) (by kernel_rfl) rfl rfl (fun K hK => ?_) (fun K hK => ?_)
            · rw [if_pos (by rfl)]
              go_simp
              refine hK.out _ _ trivial ?_
              clear hK K
              obtain ⟨V3, hV3⟩ : ∃ V, V = V2.alloc (.cells #[.int .u8 ((j : Int) + 1)] 5) := ⟨_, rfl⟩
              obtain ⟨g1, hg1⟩ : ∃ g, g = V2.heap.size := ⟨_, rfl⟩
              rw [← hV3, ← hg1]
              have bW3 : Below wr.heap.size wr V3 := by rw [hV3]; exact bW2.alloc bW2.size _
              have ho3 : Own bs V3 (.slice qb nB cb) (X0 ++ info) := by rw [hV3]; exact ho2.alloc _
              have hs3 : bs ≤ V3.heap.size := by rw [hV3, World.size_alloc]; omega
              have rY3 : Row V3 g1 5 [.int .u8 ((j : Int) + 1)] := by rw [hV3, hg1]; exact Row.new V2 5 _
              clear hV3 hg1
              refine wpAnyH_either (i := 8) (j := 10) (by kernel_rfl) rfl rfl (fun K hK => ?_) (fun K hK => ?_)
              · rw [if_pos (by rfl)]
                refine wp_append_bytes (.tmp 28) (.tmp 31) rfl bs (.slice qb nB cb) (X0 ++ info) rfl ho3 rfl (row_bytes (zs := [j + 1]) (n := 1) rY3 rfl (by omega) (by simp; omega)) (by rw [HLB.out]; omega) hs3 ?_
                intro u V4 ho4 hg4
                obtain ⟨qc, cc, hu⟩ := own_len ho4 (n := nC) HLC.out
                subst hu
                simp only [Act.put]
                try simp only [List.setIfInBounds_toArray]
                try simp only [List.set_cons_succ]
                try simp only [List.set_cons_zero]
                refine hK.out _ _ trivial ?_
                clear hK K
                have hs4 : bs ≤ V4.heap.size := Nat.le_trans hs3 hg4.size
                have bW4 : Below wr.heap.size wr V4 := bW3.grown hg4 bW3.size (fun k e => Nat.le_trans hbs (World.ownsRow.lt ho3 k e).1)
                clear hg4
                refine wpAnyH_either (i := 9) (j := 10) (by kernel_rfl) rfl rfl (fun K hK => ?_) (fun K hK => ?_)
                · rw [if_pos (by rfl)]
                  go_simp
                  refine (HM.out V4 _ _ bW4 (ho4.bytes HZ.out)).mono ?_
                  rintro e V5 ⟨rfl, hc5⟩
                  refine hK.out _ _ trivial ?_
                  clear hK K
                  have bW5 : Below wr.heap.size wr V5 := bW4.trans (hc5.mono bW4.size)
                  refine wpAnyH_only (i := 10) (by kernel_rfl) rfl (fun K hK => ?_)
                  rw [if_pos (by rfl)]
                  go_simp
                  refine hK.out _ _ trivial ?_
                  clear hK K
                  rw [z32u8]
                  obtain ⟨V6, hV6⟩ : ∃ V, V = V5.alloc (.cells (List.replicate 32 (Value.int .u8 0)).toArray 25) := ⟨_, rfl⟩
                  obtain ⟨gL, hgL⟩ : ∃ g, g = V5.heap.size := ⟨_, rfl⟩
                  rw [← hV6, ← hgL]
                  have bW6 : Below wr.heap.size wr V6 := by rw [hV6]; exact bW5.alloc bW5.size _
                  have rL6 : Row V6 gL 25 (List.replicate 32 (Value.int .u8 0)) := by rw [hV6, hgL]; exact Row.new' V5 25 _
                  have lL : wr.heap.size ≤ gL := by rw [hgL]; exact bW5.size
                  clear hV6 hgL
                  refine wpAnyH_only (i := 11) (by kernel_rfl) rfl (fun K hK => ?_)
                  rw [if_pos (by rfl)]
                  refine wp_store_mid 25 (.tmp 11) (.tmp 33) rfl gL 0 LV.toArray rfl rfl (by simpa [HLVl.out] using rL6.there) (by simpa [HLVl.out] using size25) (all_oneCell_toArray HLV1.out) ?_
                  simp only [Act.put]
                  refine hK.out _ _ trivial ?_
                  clear hK K
                  refine wpAnyH_done (by kernel_rfl) ?_ _
                  refine OnOnly.on ?_
                  exact ⟨gL, _, _, _, _, rfl, lL, rL6.sets_all (by rw [HLVl.out]; rfl), below_setCells lL LV 0 bW6⟩
                · rw [if_pos (by rfl)]
                  go_simp
                  refine hK.out _ _ trivial ?_
                  clear hK K
                  rw [z32u8]
                  obtain ⟨V5, hV5⟩ : ∃ V, V = V4.alloc (.cells (List.replicate 32 (Value.int .u8 0)).toArray 25) := ⟨_, rfl⟩
                  obtain ⟨gL, hgL⟩ : ∃ g, g = V4.heap.size := ⟨_, rfl⟩
                  rw [← hV5, ← hgL]
                  have bW5 : Below wr.heap.size wr V5 := by rw [hV5]; exact bW4.alloc bW4.size _
                  have ho5 : Own bs V5 (.slice qc nC cc) (X0 ++ info ++ [j + 1]) := by rw [hV5]; exact ho4.alloc _
                  have hs5 : bs ≤ V5.heap.size := by rw [hV5, World.size_alloc]; omega
                  have rL5 : Row V5 gL 25 (List.replicate 32 (Value.int .u8 0)) := by rw [hV5, hgL]; exact Row.new' V4 25 _
                  have lL : wr.heap.size ≤ gL := by rw [hgL]; exact bW4.size
                  clear hV5 hgL
                  refine wpAnyH_only (i := 9) (by kernel_rfl) rfl (fun K hK => ?_)
                  rw [if_pos (by rfl)]
                  go_simp
                  refine (HM.out V5 _ _ bW5 (ho5.bytes HZ.out)).mono ?_
                  rintro e V6 ⟨rfl, hc6⟩
                  refine hK.out _ _ trivial ?_
                  clear hK K
                  have bW6 : Below wr.heap.size wr V6 := bW5.trans (hc6.mono bW5.size)
                  have rL6 := Row.later rL5 hc6
                  refine wpAnyH_only (i := 11) (by kernel_rfl) rfl (fun K hK => ?_)
                  rw [if_pos (by rfl)]
                  refine wp_store_mid 25 (.tmp 11) (.tmp 33) rfl gL 0 LV.toArray rfl rfl (by simpa [HLVl.out] using rL6.there) (by simpa [HLVl.out] using size25) (all_oneCell_toArray HLV1.out) ?_
                  simp only [Act.put]
                  refine hK.out _ _ trivial ?_
                  clear hK K
                  refine wpAnyH_done (by kernel_rfl) ?_ _
                  refine OnOnly.on ?_
                  exact ⟨gL, _, _, _, _, rfl, lL, rL6.sets_all (by rw [HLVl.out]; rfl), below_setCells lL LV 0 bW6⟩
              · rw [if_pos (by rfl)]
                go_simp
                refine hK.out _ _ trivial ?_
                clear hK K
                rw [z32u8]
                obtain ⟨V4, hV4⟩ : ∃ V, V = V3.alloc (.cells (List.replicate 32 (Value.int .u8 0)).toArray 25) := ⟨_, rfl⟩
                obtain ⟨gL, hgL⟩ : ∃ g, g = V3.heap.size := ⟨_, rfl⟩
                rw [← hV4, ← hgL]
                have bW4 : Below wr.heap.size wr V4 := by rw [hV4]; exact bW3.alloc bW3.size _
                have rY4 : Row V4 g1 5 [.int .u8 ((j : Int) + 1)] := by rw [hV4]; exact Row.alloc rY3 _
                have ho4 : Own bs V4 (.slice qb nB cb) (X0 ++ info) := by rw [hV4]; exact ho3.alloc _
                have hs4 : bs ≤ V4.heap.size := by rw [hV4, World.size_alloc]; omega
                have rL4 : Row V4 gL 25 (List.replicate 32 (Value.int .u8 0)) := by rw [hV4, hgL]; exact Row.new' V3 25 _
                have lL : wr.heap.size ≤ gL := by rw [hgL]; exact bW3.size
                clear hV4 hgL
                refine wpAnyH_only (i := 8) (by kernel_rfl) rfl (fun K hK => ?_)
                rw [if_pos (by rfl)]
                refine wp_append_bytes (.tmp 28) (.tmp 31) rfl bs (.slice qb nB cb) (X0 ++ info) rfl ho4 rfl (row_bytes (zs := [j + 1]) (n := 1) rY4 rfl (by omega) (by simp; omega)) (by rw [HLB.out]; omega) hs4 ?_
                intro u V5 ho5 hg5
                obtain ⟨qc, cc, hu⟩ := own_len ho5 (n := nC) HLC.out
                subst hu
                simp only [Act.put]
                try simp only [List.setIfInBounds_toArray]
                try simp only [List.set_cons_succ]
                try simp only [List.set_cons_zero]
                refine hK.out _ _ trivial ?_
                clear hK K
                have hs5 : bs ≤ V5.heap.size := Nat.le_trans hs4 hg5.size
                have bW5 : Below wr.heap.size wr V5 := bW4.grown hg5 bW4.size (fun k e => Nat.le_trans hbs (World.ownsRow.lt ho4 k e).1)
                have rL5 : Row V5 gL 25 (List.replicate 32 (Value.int .u8 0)) := (KeepT.row (t := 25) hg5 ho4 (by decide)) gL _ _ rL4
                clear hg5
                refine wpAnyH_only (i := 9) (by kernel_rfl) rfl (fun K hK => ?_)
                rw [if_pos (by rfl)]
                go_simp
                refine (HM.out V5 _ _ bW5 (ho5.bytes HZ.out)).mono ?_
                rintro e V6 ⟨rfl, hc6⟩
                refine hK.out _ _ trivial ?_
                clear hK K
                have bW6 : Below wr.heap.size wr V6 := bW5.trans (hc6.mono bW5.size)
                have rL6 := Row.later rL5 hc6
                refine wpAnyH_only (i := 11) (by kernel_rfl) rfl (fun K hK => ?_)
                rw [if_pos (by rfl)]
                refine wp_store_mid 25 (.tmp 11) (.tmp 33) rfl gL 0 LV.toArray rfl rfl (by simpa [HLVl.out] using rL6.there) (by simpa [HLVl.out] using size25) (all_oneCell_toArray HLV1.out) ?_
                simp only [Act.put]
                refine hK.out _ _ trivial ?_
                clear hK K
                refine wpAnyH_done (by kernel_rfl) ?_ _
                refine OnOnly.on ?_
                exact ⟨gL, _, _, _, _, rfl, lL, rL6.sets_all (by rw [HLVl.out]; rfl), below_setCells lL LV 0 bW6⟩
            · rw [if_pos (by rfl)]
              go_simp
              refine hK.out _ _ trivial ?_
              clear hK K
              rw [z32u8]
              obtain ⟨V3, hV3⟩ : ∃ V, V = V2.alloc (.cells (List.replicate 32 (Value.int .u8 0)).toArray 25) := ⟨_, rfl⟩
              obtain ⟨gL, hgL⟩ : ∃ g, g = V2.heap.size := ⟨_, rfl⟩
              rw [← hV3, ← hgL]
              have bW3 : Below wr.heap.size wr V3 := by rw [hV3]; exact bW2.alloc bW2.size _
              have ho3 : Own bs V3 (.slice qb nB cb) (X0 ++ info) := by rw [hV3]; exact ho2.alloc _
              have hs3 : bs ≤ V3.heap.size := by rw [hV3, World.size_alloc]; omega
              have rL3 : Row V3 gL 25 (List.replicate 32 (Value.int .u8 0)) := by rw [hV3, hgL]; exact Row.new' V2 25 _
              have lL : wr.heap.size ≤ gL := by rw [hgL]; exact bW2.size
              clear hV3 hgL
              refine wpAnyH_only (i := 7) (by kernel_rfl) rfl (fun K hK => ?_)
              rw [if_pos (by rfl)]
              go_simp
              refine hK.out _ _ trivial ?_
              clear hK K
              obtain ⟨V4, hV4⟩ : ∃ V, V = V3.alloc (.cells #[.int .u8 ((j : Int) + 1)] 5) := ⟨_, rfl⟩
              obtain ⟨g1, hg1⟩ : ∃ g, g = V3.heap.size := ⟨_, rfl⟩
              rw [← hV4, ← hg1]
              have bW4 : Below wr.heap.size wr V4 := by rw [hV4]; exact bW3.alloc bW3.size _
              have rL4 : Row V4 gL 25 (List.replicate 32 (Value.int .u8 0)) := by rw [hV4]; exact Row.alloc rL3 _
              have ho4 : Own bs V4 (.slice qb nB cb) (X0 ++ info) := by rw [hV4]; exact ho3.alloc _
              have hs4 : bs ≤ V4.heap.size := by rw [hV4, World.size_alloc]; omega
              have rY4 : Row V4 g1 5 [.int .u8 ((j : Int) + 1)] := by rw [hV4, hg1]; exact Row.new V3 5 _
              clear hV4 hg1
              refine wpAnyH_only (i := 8) (by kernel_rfl) rfl (fun K hK => ?_)
              rw [if_pos (by rfl)]
              refine wp_append_bytes (.tmp 28) (.tmp 31) rfl bs (.slice qb nB cb) (X0 ++ info) rfl ho4 rfl (row_bytes (zs := [j + 1]) (n := 1) rY4 rfl (by omega) (by simp; omega)) (by rw [HLB.out]; omega) hs4 ?_
              intro u V5 ho5 hg5
              obtain ⟨qc, cc, hu⟩ := own_len ho5 (n := nC) HLC.out
              subst hu
              simp only [Act.put]
              try simp only [List.setIfInBounds_toArray]
              try simp only [List.set_cons_succ]
              try simp only [List.set_cons_zero]
              refine hK.out _ _ trivial ?_
              clear hK K
              have hs5 : bs ≤ V5.heap.size := Nat.le_trans hs4 hg5.size
              have bW5 : Below wr.heap.size wr V5 := bW4.grown hg5 bW4.size (fun k e => Nat.le_trans hbs (World.ownsRow.lt ho4 k e).1)
              have rL5 : Row V5 gL 25 (List.replicate 32 (Value.int .u8 0)) := (KeepT.row (t := 25) hg5 ho4 (by decide)) gL _ _ rL4
              clear hg5
              refine wpAnyH_only (i := 9) (by kernel_rfl) rfl (fun K hK => ?_)
              rw [if_pos (by rfl)]
              go_simp
              refine (HM.out V5 _ _ bW5 (ho5.bytes HZ.out)).mono ?_
              rintro e V6 ⟨rfl, hc6⟩
              refine hK.out _ _ trivial ?_
              clear hK K
              have bW6 : Below wr.heap.size wr V6 := bW5.trans (hc6.mono bW5.size)
              have rL6 := Row.later rL5 hc6
              refine wpAnyH_only (i := 11) (by kernel_rfl) rfl (fun K hK => ?_)
              rw [if_pos (by rfl)]
              refine wp_store_mid 25 (.tmp 11) (.tmp 33) rfl gL 0 LV.toArray rfl rfl (by simpa [HLVl.out] using rL6.there) (by simpa [HLVl.out] using size25) (all_oneCell_toArray HLV1.out) ?_
              simp only [Act.put]
              refine hK.out _ _ trivial ?_
              clear hK K
              refine wpAnyH_done (by kernel_rfl) ?_ _
              refine OnOnly.on ?_
              exact ⟨gL, _, _, _, _, rfl, lL, rL6.sets_all (by rw [HLVl.out]; rfl), below_setCells lL LV 0 bW6⟩
          · rw [if_pos (by rfl)]
            go_simp
            refine hK.out _ _ trivial ?_
            clear hK K
            obtain ⟨V2, hV2⟩ : ∃ V, V = V1.alloc (.cells #[.int .u8 ((j : Int) + 1)] 5) := ⟨_, rfl⟩
            obtain ⟨g1, hg1⟩ : ∃ g, g = V1.heap.size := ⟨_, rfl⟩
            rw [← hV2, ← hg1]
            have bW2 : Below wr.heap.size wr V2 := by rw [hV2]; exact bW1.alloc bW1.size _
            have ho2 : Own bs V2 (.slice qa l9 ca) X0 := by rw [hV2]; exact ho1.alloc _
            have hs2 : bs ≤ V2.heap.size := by rw [hV2, World.size_alloc]; omega
            have rY2 : Row V2 g1 5 [.int .u8 ((j : Int) + 1)] := by rw [hV2, hg1]; exact Row.new V1 5 _
            have nY : (Value.slice qa l9 ca).ownBlock ≠ some g1 := fun e => by have := (World.ownsRow.lt ho1 _ e).2; rw [hg1] at this; omega
            clear hV2 hg1
            refine wpAnyH_either (i := 4) (j := 10) (by kernel_rfl) rfl rfl (fun K hK => ?_) (fun K hK => ?_)
            · rw [if_pos (by rfl)]
              refine wp_append_bytes (.tmp 26) (.tmp 27) rfl bs (.slice qa l9 ca) X0 rfl ho2 rfl (HIn.out.later bW2) (by rw [HL9.out]; omega) hs2 ?_
              intro u V3 ho3 hg3
              obtain ⟨qb, cb, hu⟩ := own_len ho3 (n := nB) HLB.out
              subst hu
              simp only [Act.put]
              try simp only [List.setIfInBounds_toArray]
              try simp only [List.set_cons_succ]
              try simp only [List.set_cons_zero]
              refine hK.out _ _ trivial ?_
              clear hK K
              have hs3 : bs ≤ V3.heap.size := Nat.le_trans hs2 hg3.size
              have bW3 : Below wr.heap.size wr V3 := bW2.grown hg3 bW2.size (fun k e => Nat.le_trans hbs (World.ownsRow.lt ho2 k e).1)
              have rY3 : Row V3 g1 5 [.int .u8 ((j : Int) + 1)] := (hg3.block _ rY2.lt (fun e => nY e.symm)).trans rY2
              clear hg3
              refine wpAnyH_either (i := 8) (j := 10) (by kernel_rfl) rfl rfl (fun K hK => ?_) (fun K hK => ?_)
              · rw [if_pos (by rfl)]
                refine wp_append_bytes (.tmp 28) (.tmp 31) rfl bs (.slice qb nB cb) (X0 ++ info) rfl ho3 rfl (row_bytes (zs := [j + 1]) (n := 1) rY3 rfl (by omega) (by simp; omega)) (by rw [HLB.out]; omega) hs3 ?_
                intro u V4 ho4 hg4
                obtain ⟨qc, cc, hu⟩ := own_len ho4 (n := nC) HLC.out
                subst hu
                simp only [Act.put]
                try simp only [List.setIfInBounds_toArray]
                try simp only [List.set_cons_succ]
                try simp only [List.set_cons_zero]
                refine hK.out _ _ trivial ?_
                clear hK K
                have hs4 : bs ≤ V4.heap.size := Nat.le_trans hs3 hg4.size
                have bW4 : Below wr.heap.size wr V4 := bW3.grown hg4 bW3.size (fun k e => Nat.le_trans hbs (World.ownsRow.lt ho3 k e).1)
                clear hg4
                refine wpAnyH_either (i := 9) (j := 10) (by kernel_rfl) rfl rfl (fun K hK => ?_) (fun K hK => ?_)
                · rw [if_pos (by rfl)]
                  go_simp
                  refine (HM.out V4 _ _ bW4 (ho4.bytes HZ.out)).mono ?_
                  rintro e V5 ⟨rfl, hc5⟩
                  refine hK.out _ _ trivial ?_
                  clear hK K
                  have bW5 : Below wr.heap.size wr V5 := bW4.trans (hc5.mono bW4.size)
                  refine wpAnyH_only (i := 10) (by kernel_rfl) rfl (fun K hK => ?_)
                  rw [if_pos (by rfl)]
                  go_simp
                  refine hK.out _ _ trivial ?_
                  clear hK K
                  rw [z32u8]
                  obtain ⟨V6, hV6⟩ : ∃ V, V = V5.alloc (.cells (List.replicate 32 (Value.int .u8 0)).toArray 25) := ⟨_, rfl⟩
                  obtain ⟨gL, hgL⟩ : ∃ g, g = V5.heap.size := ⟨_, rfl⟩
                  rw [← hV6, ← hgL]
                  have bW6 : Below wr.heap.size wr V6 := by rw [hV6]; exact bW5.alloc bW5.size _
                  have rL6 : Row V6 gL 25 (List.replicate 32 (Value.int .u8 0)) := by rw [hV6, hgL]; exact Row.new' V5 25 _
                  have lL : wr.heap.size ≤ gL := by rw [hgL]; exact bW5.size
                  clear hV6 hgL
                  refine wpAnyH_only (i := 11) (by kernel_rfl) rfl (fun K hK => ?_)
                  rw [if_pos (by rfl)]
                  refine wp_store_mid 25 (.tmp 11) (.tmp 33) rfl gL 0 LV.toArray rfl rfl (by simpa [HLVl.out] using rL6.there) (by simpa [HLVl.out] using size25) (all_oneCell_toArray HLV1.out) ?_
                  simp only [Act.put]
                  refine hK.out _ _ trivial ?_
                  clear hK K
                  refine wpAnyH_done (by kernel_rfl) ?_ _
                  refine OnOnly.on ?_
                  exact ⟨gL, _, _, _, _, rfl, lL, rL6.sets_all (by rw [HLVl.out]; rfl), below_setCells lL LV 0 bW6⟩
                · rw [if_pos (by rfl)]
                  go_simp
                  refine hK.out _ _ trivial ?_
                  clear hK K
                  rw [z32u8]
                  obtain ⟨V5, hV5⟩ : ∃ V, V = V4.alloc (.cells (List.replicate 32 (Value.int .u8 0)).toArray 25) := ⟨_, rfl⟩
                  obtain ⟨gL, hgL⟩ : ∃ g, g = V4.heap.size := ⟨_, rfl⟩
                  rw [← hV5, ← hgL]
                  have bW5 : Below wr.heap.size wr V5 := by rw [hV5]; exact bW4.alloc bW4.size _
                  have ho5 : Own bs V5 (.slice qc nC cc) (X0 ++ info ++ [j + 1]) := by rw [hV5]; exact ho4.alloc _
                  have hs5 : bs ≤ V5.heap.size := by rw [hV5, World.size_alloc]; omega
                  have rL5 : Row V5 gL 25 (List.replicate 32 (Value.int .u8 0)) := by rw [hV5, hgL]; exact Row.new' V4 25 _
                  have lL : wr.heap.size ≤ gL := by rw [hgL]; exact bW4.size
                  clear hV5 hgL
                  refine wpAnyH_only (i := 9) (by kernel_rfl) rfl (fun K hK => ?_)
                  rw [if_pos (by rfl)]
                  go_simp
                  refine (HM.out V5 _ _ bW5 (ho5.bytes HZ.out)).mono ?_
                  rintro e V6 ⟨rfl, hc6⟩
                  refine hK.out _ _ trivial ?_
                  clear hK K
                  have bW6 : Below wr.heap.size wr V6 := bW5.trans (hc6.mono bW5.size)
                  have rL6 := Row.later rL5 hc6
                  refine wpAnyH_only (i := 11) (by kernel_rfl) rfl (fun K hK => ?_)
                  rw [if_pos (by rfl)]
                  refine wp_store_mid 25 (.tmp 11) (.tmp 33) rfl gL 0 LV.toArray rfl rfl (by simpa [HLVl.out] using rL6.there) (by simpa [HLVl.out] using size25) (all_oneCell_toArray HLV1.out) ?_
                  simp only [Act.put]
                  refine hK.out _ _ trivial ?_
                  clear hK K
                  refine wpAnyH_done (by kernel_rfl) ?_ _
                  refine OnOnly.on ?_
                  exact ⟨gL, _, _, _, _, rfl, lL, rL6.sets_all (by rw [HLVl.out]; rfl), below_setCells lL LV 0 bW6⟩
              · rw [if_pos (by rfl)]
                go_simp
                refine hK.out _ _ trivial ?_
                clear hK K
                rw [z32u8]
                obtain ⟨V4, hV4⟩ : ∃ V, V = V3.alloc (.cells (List.replicate 32 (Value.int .u8 0)).toArray 25) := ⟨_, rfl⟩
                obtain ⟨gL, hgL⟩ : ∃ g, g = V3.heap.size := ⟨_, rfl⟩
                rw [← hV4, ← hgL]
                have bW4 : Below wr.heap.size wr V4 := by rw [hV4]; exact bW3.alloc bW3.size _
                have rY4 : Row V4 g1 5 [.int .u8 ((j : Int) + 1)] := by rw [hV4]; exact Row.alloc rY3 _
                have ho4 : Own bs V4 (.slice qb nB cb) (X0 ++ info) := by rw [hV4]; exact ho3.alloc _
                have hs4 : bs ≤ V4.heap.size := by rw [hV4, World.size_alloc]; omega
                have rL4 : Row V4 gL 25 (List.replicate 32 (Value.int .u8 0)) := by rw [hV4, hgL]; exact Row.new' V3 25 _
                have lL : wr.heap.size ≤ gL := by rw [hgL]; exact bW3.size
                clear hV4 hgL
                refine wpAnyH_only (i := 8) (by kernel_rfl) rfl (fun K hK => ?_)
                rw [if_pos (by rfl)]
                refine wp_append_bytes (.tmp 28) (.tmp 31) rfl bs (.slice qb nB cb) (X0 ++ info) rfl ho4 rfl (row_bytes (zs := [j + 1]) (n := 1) rY4 rfl (by omega) (by simp; omega)) (by rw [HLB.out]; omega) hs4 ?_
                intro u V5 ho5 hg5
                obtain ⟨qc, cc, hu⟩ := own_len ho5 (n := nC) HLC.out
                subst hu
                simp only [Act.put]
                try simp only [List.setIfInBounds_toArray]
                try simp only [List.set_cons_succ]
                try simp only [List.set_cons_zero]
                refine hK.out _ _ trivial ?_
                clear hK K
                have hs5 : bs ≤ V5.heap.size := Nat.le_trans hs4 hg5.size
                have bW5 : Below wr.heap.size wr V5 := bW4.grown hg5 bW4.size (fun k e => Nat.le_trans hbs (World.ownsRow.lt ho4 k e).1)
                have rL5 : Row V5 gL 25 (List.replicate 32 (Value.int .u8 0)) := (KeepT.row (t := 25) hg5 ho4 (by decide)) gL _ _ rL4
                clear hg5
                refine wpAnyH_only (i := 9) (by kernel_rfl) rfl (fun K hK => ?_)
                rw [if_pos (by rfl)]
                go_simp
                refine (HM.out V5 _ _ bW5 (ho5.bytes HZ.out)).mono ?_
                rintro e V6 ⟨rfl, hc6⟩
                refine hK.out _ _ trivial ?_
                clear hK K
                have bW6 : Below wr.heap.size wr V6 := bW5.trans (hc6.mono bW5.size)
                have rL6 := Row.later rL5 hc6
                refine wpAnyH_only (i := 11) (by kernel_rfl) rfl (fun K hK => ?_)
                rw [if_pos (by rfl)]
                refine wp_store_mid 25 (.tmp 11) (.tmp 33) rfl gL 0 LV.toArray rfl rfl (by simpa [HLVl.out] using rL6.there) (by simpa [HLVl.out] using size25) (all_oneCell_toArray HLV1.out) ?_
                simp only [Act.put]
                refine hK.out _ _ trivial ?_
                clear hK K
                refine wpAnyH_done (by kernel_rfl) ?_ _
                refine OnOnly.on ?_
                exact ⟨gL, _, _, _, _, rfl, lL, rL6.sets_all (by rw [HLVl.out]; rfl), below_setCells lL LV 0 bW6⟩
            · rw [if_pos (by rfl)]
              go_simp
              refine hK.out _ _ trivial ?_
              clear hK K
              rw [z32u8]
              obtain ⟨V3, hV3⟩ : ∃ V, V = V2.alloc (.cells (List.replicate 32 (Value.int .u8 0)).toArray 25) := ⟨_, rfl⟩
              obtain ⟨gL, hgL⟩ : ∃ g, g = V2.heap.size := ⟨_, rfl⟩
              rw [← hV3, ← hgL]
              have bW3 : Below wr.heap.size wr V3 := by rw [hV3]; exact bW2.alloc bW2.size _
              have rY3 : Row V3 g1 5 [.int .u8 ((j : Int) + 1)] := by rw [hV3]; exact Row.alloc rY2 _
              have ho3 : Own bs V3 (.slice qa l9 ca) X0 := by rw [hV3]; exact ho2.alloc _
              have hs3 : bs ≤ V3.heap.size := by rw [hV3, World.size_alloc]; omega
              have rL3 : Row V3 gL 25 (List.replicate 32 (Value.int .u8 0)) := by rw [hV3, hgL]; exact Row.new' V2 25 _
              have lL : wr.heap.size ≤ gL := by rw [hgL]; exact bW2.size
              clear hV3 hgL
              refine wpAnyH_only (i := 4) (by kernel_rfl) rfl (fun K hK => ?_)
              rw [if_pos (by rfl)]
              refine wp_append_bytes (.tmp 26) (.tmp 27) rfl bs (.slice qa l9 ca) X0 rfl ho3 rfl (HIn.out.later bW3) (by rw [HL9.out]; omega) hs3 ?_
              intro u V4 ho4 hg4
              obtain ⟨qb, cb, hu⟩ := own_len ho4 (n := nB) HLB.out
              subst hu
              simp only [Act.put]
              try simp only [List.setIfInBounds_toArray]
              try simp only [List.set_cons_succ]
              try simp only [List.set_cons_zero]
              refine hK.out _ _ trivial ?_
              clear hK K
              have hs4 : bs ≤ V4.heap.size := Nat.le_trans hs3 hg4.size
              have bW4 : Below wr.heap.size wr V4 := bW3.grown hg4 bW3.size (fun k e => Nat.le_trans hbs (World.ownsRow.lt ho3 k e).1)
              have rY4 : Row V4 g1 5 [.int .u8 ((j : Int) + 1)] := (hg4.block _ rY3.lt (fun e => nY e.symm)).trans rY3
              have rL4 : Row V4 gL 25 (List.replicate 32 (Value.int .u8 0)) := (KeepT.row (t := 25) hg4 ho3 (by decide)) gL _ _ rL3
              clear hg4
              refine wpAnyH_only (i := 8) (by kernel_rfl) rfl (fun K hK => ?_)
              rw [if_pos (by rfl)]
              refine wp_append_bytes (.tmp 28) (.tmp 31) rfl bs (.slice qb nB cb) (X0 ++ info) rfl ho4 rfl (row_bytes (zs := [j + 1]) (n := 1) rY4 rfl (by omega) (by simp; omega)) (by rw [HLB.out]; omega) hs4 ?_
              intro u V5 ho5 hg5
              obtain ⟨qc, cc, hu⟩ := own_len ho5 (n := nC) HLC.out
              subst hu
              simp only [Act.put]
              try simp only [List.setIfInBounds_toArray]
              try simp only [List.set_cons_succ]
              try simp only [List.set_cons_zero]
              refine hK.out _ _ trivial ?_
              clear hK K
              have hs5 : bs ≤ V5.heap.size := Nat.le_trans hs4 hg5.size
              have bW5 : Below wr.heap.size wr V5 := bW4.grown hg5 bW4.size (fun k e => Nat.le_trans hbs (World.ownsRow.lt ho4 k e).1)
              have rL5 : Row V5 gL 25 (List.replicate 32 (Value.int .u8 0)) := (KeepT.row (t := 25) hg5 ho4 (by decide)) gL _ _ rL4
              clear hg5
              refine wpAnyH_only (i := 9) (by kernel_rfl) rfl (fun K hK => ?_)
              rw [if_pos (by rfl)]
              go_simp
              refine (HM.out V5 _ _ bW5 (ho5.bytes HZ.out)).mono ?_
              rintro e V6 ⟨rfl, hc6⟩
              refine hK.out _ _ trivial ?_
              clear hK K
              have bW6 : Below wr.heap.size wr V6 := bW5.trans (hc6.mono bW5.size)
              have rL6 := Row.later rL5 hc6
              refine wpAnyH_only (i := 11) (by kernel_rfl) rfl (fun K hK => ?_)
              rw [if_pos (by rfl)]
              refine wp_store_mid 25 (.tmp 11) (.tmp 33) rfl gL 0 LV.toArray rfl rfl (by simpa [HLVl.out] using rL6.there) (by simpa [HLVl.out] using size25) (all_oneCell_toArray HLV1.out) ?_
              simp only [Act.put]
              refine hK.out _ _ trivial ?_
              clear hK K
              refine wpAnyH_done (by kernel_rfl) ?_ _
              refine OnOnly.on ?_
              exact ⟨gL, _, _, _, _, rfl, lL, rL6.sets_all (by rw [HLVl.out]; rfl), below_setCells lL LV 0 bW6⟩
          · rw [if_pos (by rfl)]
            go_simp
            refine hK.out _ _ trivial ?_
            clear hK K
            rw [z32u8]
            obtain ⟨V2, hV2⟩ : ∃ V, V = V1.alloc (.cells (List.replicate 32 (Value.int .u8 0)).toArray 25) := ⟨_, rfl⟩
            obtain ⟨gL, hgL⟩ : ∃ g, g = V1.heap.size := ⟨_, rfl⟩
            rw [← hV2, ← hgL]
            have bW2 : Below wr.heap.size wr V2 := by rw [hV2]; exact bW1.alloc bW1.size _
            have ho2 : Own bs V2 (.slice qa l9 ca) X0 := by rw [hV2]; exact ho1.alloc _
            have hs2 : bs ≤ V2.heap.size := by rw [hV2, World.size_alloc]; omega
            have rL2 : Row V2 gL 25 (List.replicate 32 (Value.int .u8 0)) := by rw [hV2, hgL]; exact Row.new' V1 25 _
            have lL : wr.heap.size ≤ gL := by rw [hgL]; exact bW1.size
            clear hV2 hgL
            refine wpAnyH_either (i := 4) (j := 7) (by kernel_rfl) rfl rfl (fun K hK => ?_) (fun K hK => ?_)
            · rw [if_pos (by rfl)]
              refine wp_append_bytes (.tmp 26) (.tmp 27) rfl bs (.slice qa l9 ca) X0 rfl ho2 rfl (HIn.out.later bW2) (by rw [HL9.out]; omega) hs2 ?_
              intro u V3 ho3 hg3
              obtain ⟨qb, cb, hu⟩ := own_len ho3 (n := nB) HLB.out
              subst hu
              simp only [Act.put]
              try simp only [List.setIfInBounds_toArray]
              try simp only [List.set_cons_succ]
              try simp only [List.set_cons_zero]
              refine hK.out _ _ trivial ?_
              clear hK K
              have hs3 : bs ≤ V3.heap.size := Nat.le_trans hs2 hg3.size
              have bW3 : Below wr.heap.size wr V3 := bW2.grown hg3 bW2.size (fun k e => Nat.le_trans hbs (World.ownsRow.lt ho2 k e).1)
              have rL3 : Row V3 gL 25 (List.replicate 32 (Value.int .u8 0)) := (KeepT.row (t := 25) hg3 ho2 (by decide)) gL _ _ rL2
              clear hg3
              refine wpAnyH_only (i := 7) (by kernel_rfl) rfl (fun K hK => ?_)
              rw [if_pos (by rfl)]
              go_simp
              refine hK.out _ _ trivial ?_
              clear hK K
              obtain ⟨V4, hV4⟩ : ∃ V, V = V3.alloc (.cells #[.int .u8 ((j : Int) + 1)] 5) := ⟨_, rfl⟩
              obtain ⟨g1, hg1⟩ : ∃ g, g = V3.heap.size := ⟨_, rfl⟩
              rw [← hV4, ← hg1]
              have bW4 : Below wr.heap.size wr V4 := by rw [hV4]; exact bW3.alloc bW3.size _
              have rL4 : Row V4 gL 25 (List.replicate 32 (Value.int .u8 0)) := by rw [hV4]; exact Row.alloc rL3 _
              have ho4 : Own bs V4 (.slice qb nB cb) (X0 ++ info) := by rw [hV4]; exact ho3.alloc _
              have hs4 : bs ≤ V4.heap.size := by rw [hV4, World.size_alloc]; omega
              have rY4 : Row V4 g1 5 [.int .u8 ((j : Int) + 1)] := by rw [hV4, hg1]; exact Row.new V3 5 _
              clear hV4 hg1
              refine wpAnyH_only (i := 8) (by kernel_rfl) rfl (fun K hK => ?_)
              rw [if_pos (by rfl)]
              refine wp_append_bytes (.tmp 28) (.tmp 31) rfl bs (.slice qb nB cb) (X0 ++ info) rfl ho4 rfl (row_bytes (zs := [j + 1]) (n := 1) rY4 rfl (by omega) (by simp; omega)) (by rw [HLB.out]; omega) hs4 ?_
              intro u V5 ho5 hg5
              obtain ⟨qc, cc, hu⟩ := own_len ho5 (n := nC) HLC.out
              subst hu
              simp only [Act.put]
              try simp only [List.setIfInBounds_toArray]
              try simp only [List.set_cons_succ]
              try simp only [List.set_cons_zero]
              refine hK.out _ _ trivial ?_
              clear hK K
              have hs5 : bs ≤ V5.heap.size := Nat.le_trans hs4 hg5.size
              have bW5 : Below wr.heap.size wr V5 := bW4.grown hg5 bW4.size (fun k e => Nat.le_trans hbs (World.ownsRow.lt ho4 k e).1)
              have rL5 : Row V5 gL 25 (List.replicate 32 (Value.int .u8 0)) := (KeepT.row (t := 25) hg5 ho4 (by decide)) gL _ _ rL4
              clear hg5
              refine wpAnyH_only (i := 9) (by kernel_rfl) rfl (fun K hK => ?_)
              rw [if_pos (by rfl)]
              go_simp
              refine (HM.out V5 _ _ bW5 (ho5.bytes HZ.out)).mono ?_
              rintro e V6 ⟨rfl, hc6⟩
              refine hK.out _ _ trivial ?_
              clear hK K
              have bW6 : Below wr.heap.size wr V6 := bW5.trans (hc6.mono bW5.size)
              have rL6 := Row.later rL5 hc6
              refine wpAnyH_only (i := 11) (by kernel_rfl) rfl (fun K hK => ?_)
              rw [if_pos (by rfl)]
              refine wp_store_mid 25 (.tmp 11) (.tmp 33) rfl gL 0 LV.toArray rfl rfl (by simpa [HLVl.out] using rL6.there) (by simpa [HLVl.out] using size25) (all_oneCell_toArray HLV1.out) ?_
              simp only [Act.put]
              refine hK.out _ _ trivial ?_
              clear hK K
              refine wpAnyH_done (by kernel_rfl) ?_ _
              refine OnOnly.on ?_
              exact ⟨gL, _, _, _, _, rfl, lL, rL6.sets_all (by rw [HLVl.out]; rfl), below_setCells lL LV 0 bW6⟩
            · rw [if_pos (by rfl)]
              go_simp
              refine hK.out _ _ trivial ?_
              clear hK K
              obtain ⟨V3, hV3⟩ : ∃ V, V = V2.alloc (.cells #[.int .u8 ((j : Int) + 1)] 5) := ⟨_, rfl⟩
              obtain ⟨g1, hg1⟩ : ∃ g, g = V2.heap.size := ⟨_, rfl⟩
              rw [← hV3, ← hg1]
              have bW3 : Below wr.heap.size wr V3 := by rw [hV3]; exact bW2.alloc bW2.size _
              have rL3 : Row V3 gL 25 (List.replicate 32 (Value.int .u8 0)) := by rw [hV3]; exact Row.alloc rL2 _
              have ho3 : Own bs V3 (.slice qa l9 ca) X0 := by rw [hV3]; exact ho2.alloc _
              have hs3 : bs ≤ V3.heap.size := by rw [hV3, World.size_alloc]; omega
              have rY3 : Row V3 g1 5 [.int .u8 ((j : Int) + 1)] := by rw [hV3, hg1]; exact Row.new V2 5 _
              have nY : (Value.slice qa l9 ca).ownBlock ≠ some g1 := fun e => by have := (World.ownsRow.lt ho2 _ e).2; rw [hg1] at this; omega
              clear hV3 hg1
              refine wpAnyH_only (i := 4) (by kernel_rfl) rfl (fun K hK => ?_)
              rw [if_pos (by rfl)]
              refine wp_append_bytes (.tmp 26) (.tmp 27) rfl bs (.slice qa l9 ca) X0 rfl ho3 rfl (HIn.out.later bW3) (by rw [HL9.out]; omega) hs3 ?_
              intro u V4 ho4 hg4
              obtain ⟨qb, cb, hu⟩ := own_len ho4 (n := nB) HLB.out
              subst hu
              simp only [Act.put]
              try simp only [List.setIfInBounds_toArray]
              try simp only [List.set_cons_succ]
              try simp only [List.set_cons_zero]
              refine hK.out _ _ trivial ?_
              clear hK K
              have hs4 : bs ≤ V4.heap.size := Nat.le_trans hs3 hg4.size
              have bW4 : Below wr.heap.size wr V4 := bW3.grown hg4 bW3.size (fun k e => Nat.le_trans hbs (World.ownsRow.lt ho3 k e).1)
              have rY4 : Row V4 g1 5 [.int .u8 ((j : Int) + 1)] := (hg4.block _ rY3.lt (fun e => nY e.symm)).trans rY3
              have rL4 : Row V4 gL 25 (List.replicate 32 (Value.int .u8 0)) := (KeepT.row (t := 25) hg4 ho3 (by decide)) gL _ _ rL3
              clear hg4
              refine wpAnyH_only (i := 8) (by kernel_rfl) rfl (fun K hK => ?_)
              rw [if_pos (by rfl)]
              refine wp_append_bytes (.tmp 28) (.tmp 31) rfl bs (.slice qb nB cb) (X0 ++ info) rfl ho4 rfl (row_bytes (zs := [j + 1]) (n := 1) rY4 rfl (by omega) (by simp; omega)) (by rw [HLB.out]; omega) hs4 ?_
              intro u V5 ho5 hg5
              obtain ⟨qc, cc, hu⟩ := own_len ho5 (n := nC) HLC.out
              subst hu
              simp only [Act.put]
              try simp only [List.setIfInBounds_toArray]
              try simp only [List.set_cons_succ]
              try simp only [List.set_cons_zero]
              refine hK.out _ _ trivial ?_
              clear hK K
              have hs5 : bs ≤ V5.heap.size := Nat.le_trans hs4 hg5.size
              have bW5 : Below wr.heap.size wr V5 := bW4.grown hg5 bW4.size (fun k e => Nat.le_trans hbs (World.ownsRow.lt ho4 k e).1)
              have rL5 : Row V5 gL 25 (List.replicate 32 (Value.int .u8 0)) := (KeepT.row (t := 25) hg5 ho4 (by decide)) gL _ _ rL4
              clear hg5
              refine wpAnyH_only (i := 9) (by kernel_rfl) rfl (fun K hK => ?_)
              rw [if_pos (by rfl)]
              go_simp
              refine (HM.out V5 _ _ bW5 (ho5.bytes HZ.out)).mono ?_
              rintro e V6 ⟨rfl, hc6⟩
              refine hK.out _ _ trivial ?_
              clear hK K
              have bW6 : Below wr.heap.size wr V6 := bW5.trans (hc6.mono bW5.size)
              have rL6 := Row.later rL5 hc6
              refine wpAnyH_only (i := 11) (by kernel_rfl) rfl (fun K hK => ?_)
              rw [if_pos (by rfl)]
              refine wp_store_mid 25 (.tmp 11) (.tmp 33) rfl gL 0 LV.toArray rfl rfl (by simpa [HLVl.out] using rL6.there) (by simpa [HLVl.out] using size25) (all_oneCell_toArray HLV1.out) ?_
              simp only [Act.put]
              refine hK.out _ _ trivial ?_
              clear hK K
              refine wpAnyH_done (by kernel_rfl) ?_ _
              refine OnOnly.on ?_
              exact ⟨gL, _, _, _, _, rfl, lL, rL6.sets_all (by rw [HLVl.out]; rfl), below_setCells lL LV 0 bW6⟩
        · rw [if_pos (by rfl)]
          go_simp
          refine hK.out _ _ trivial ?_
          clear hK K
          obtain ⟨V1, hV1⟩ : ∃ V, V = V0.alloc (.cells #[.int .u8 ((j : Int) + 1)] 5) := ⟨_, rfl⟩
          obtain ⟨g1, hg1⟩ : ∃ g, g = V0.heap.size := ⟨_, rfl⟩
          rw [← hV1, ← hg1]
          have bW1 : Below wr.heap.size wr V1 := by rw [hV1]; exact bW0.alloc bW0.size _
          have rY1 : Row V1 g1 5 [.int .u8 ((j : Int) + 1)] := by rw [hV1, hg1]; exact Row.new V0 5 _
          clear hV1 hg1
          refine wpAnyH_either (i := 2) (j := 10) (by kernel_rfl) rfl rfl (fun K hK => ?_) (fun K hK => ?_)
          · rw [if_pos (by rfl)]
            refine wp_append_bytes (.const (.slice none 0 0)) (.tmp 25) rfl V1.heap.size (.slice none 0 0) [] rfl (Own.nil _ _) rfl (HI9.out.later bW1) (by simp; omega) (Nat.le_refl _) ?_
            intro u V2 ho2 hg2
            rw [List.nil_append] at ho2
            obtain ⟨qa, ca, hu⟩ := own_len ho2 (n := l9) HL9.out
            subst hu
            simp only [Act.put]
            try simp only [List.setIfInBounds_toArray]
            try simp only [List.set_cons_succ]
            try simp only [List.set_cons_zero]
            refine hK.out _ _ trivial ?_
            clear hK K
            obtain ⟨bs, hbse⟩ : ∃ b, b = V1.heap.size := ⟨_, rfl⟩
            have hbs : wr.heap.size ≤ bs := by rw [hbse]; exact bW1.size
            have hs2 : bs ≤ V2.heap.size := by rw [hbse]; exact hg2.size
            rw [← hbse] at ho2
            have bW2 : Below wr.heap.size wr V2 := bW1.grown hg2 bW1.size (fun k e => by cases e)
            have rY2 : Row V2 g1 5 [.int .u8 ((j : Int) + 1)] := (hg2.block _ rY1.lt (fun e => by cases e)).trans rY1
            have hgb : g1 < bs := by rw [hbse]; exact rY1.lt
            clear hg2 hbse
            refine wpAnyH_either (i := 4) (j := 10) (by kernel_rfl) rfl rfl (fun K hK => ?_) (fun K hK => ?_)
            · rw [if_pos (by rfl)]
              refine wp_append_bytes (.tmp 26) (.tmp 27) rfl bs (.slice qa l9 ca) X0 rfl ho2 rfl (HIn.out.later bW2) (by rw [HL9.out]; omega) hs2 ?_
              intro u V3 ho3 hg3
              obtain ⟨qb, cb, hu⟩ := own_len ho3 (n := nB) HLB.out
              subst hu
              simp only [Act.put]
              try simp only [List.setIfInBounds_toArray]
              try simp only [List.set_cons_succ]
              try simp only [List.set_cons_zero]
              refine hK.out _ _ trivial ?_
              clear hK K
              have hs3 : bs ≤ V3.heap.size := Nat.le_trans hs2 hg3.size
              have bW3 : Below wr.heap.size wr V3 := bW2.grown hg3 bW2.size (fun k e => Nat.le_trans hbs (World.ownsRow.lt ho2 k e).1)
              have rY3 : Row V3 g1 5 [.int .u8 ((j : Int) + 1)] := (hg3.block _ rY2.lt (fun e => by have := (World.ownsRow.lt ho2 _ e.symm).1; omega)).trans rY2
              clear hg3
              refine wpAnyH_either (i := 8) (j := 10) (by kernel_rfl) rfl rfl (fun K hK => ?_) (fun K hK => ?_)
              · rw [if_pos (by rfl)]
                refine wp_append_bytes (.tmp 28) (.tmp 31) rfl bs (.slice qb nB cb) (X0 ++ info) rfl ho3 rfl (row_bytes (zs := [j + 1]) (n := 1) rY3 rfl (by omega) (by simp; omega)) (by rw [HLB.out]; omega) hs3 ?_
                intro u V4 ho4 hg4
                obtain ⟨qc, cc, hu⟩ := own_len ho4 (n := nC) HLC.out
                subst hu
                simp only [Act.put]
                try simp only [List.setIfInBounds_toArray]
                try simp only [List.set_cons_succ]
                try simp only [List.set_cons_zero]
                refine hK.out _ _ trivial ?_
                clear hK K
                have hs4 : bs ≤ V4.heap.size := Nat.le_trans hs3 hg4.size
                have bW4 : Below wr.heap.size wr V4 := bW3.grown hg4 bW3.size (fun k e => Nat.le_trans hbs (World.ownsRow.lt ho3 k e).1)
                clear hg4
                refine wpAnyH_either (i := 9) (j := 10) (by kernel_rfl) rfl rfl (fun K hK => ?_) (fun K hK => ?_)
                · rw [if_pos (by rfl)]
                  go_simp
                  refine (HM.out V4 _ _ bW4 (ho4.bytes HZ.out)).mono ?_
                  rintro e V5 ⟨rfl, hc5⟩
                  refine hK.out _ _ trivial ?_
                  clear hK K
                  have bW5 : Below wr.heap.size wr V5 := bW4.trans (hc5.mono bW4.size)
                  refine wpAnyH_only (i := 10) (by kernel_rfl) rfl (fun K hK => ?_)
                  rw [if_pos (by rfl)]
                  go_simp
                  refine hK.out _ _ trivial ?_
                  clear hK K
                  rw [z32u8]
                  obtain ⟨V6, hV6⟩ : ∃ V, V = V5.alloc (.cells (List.replicate 32 (Value.int .u8 0)).toArray 25) := ⟨_, rfl⟩
                  obtain ⟨gL, hgL⟩ : ∃ g, g = V5.heap.size := ⟨_, rfl⟩
                  rw [← hV6, ← hgL]
                  have bW6 : Below wr.heap.size wr V6 := by rw [hV6]; exact bW5.alloc bW5.size _
                  have rL6 : Row V6 gL 25 (List.replicate 32 (Value.int .u8 0)) := by rw [hV6, hgL]; exact Row.new' V5 25 _
                  have lL : wr.heap.size ≤ gL := by rw [hgL]; exact bW5.size
                  clear hV6 hgL
                  refine wpAnyH_only (i := 11) (by kernel_rfl) rfl (fun K hK => ?_)
                  rw [if_pos (by rfl)]
                  refine wp_store_mid 25 (.tmp 11) (.tmp 33) rfl gL 0 LV.toArray rfl rfl (by simpa [HLVl.out] using rL6.there) (by simpa [HLVl.out] using size25) (all_oneCell_toArray HLV1.out) ?_
                  simp only [Act.put]
                  refine hK.out _ _ trivial ?_
                  clear hK K
                  refine wpAnyH_done (by kernel_rfl) ?_ _
                  refine OnOnly.on ?_
                  exact ⟨gL, _, _, _, _, rfl, lL, rL6.sets_all (by rw [HLVl.out]; rfl), below_setCells lL LV 0 bW6⟩
                · rw [if_pos (by rfl)]
                  go_simp
                  refine hK.out _ _ trivial ?_
                  clear hK K
                  rw [z32u8]
                  obtain ⟨V5, hV5⟩ : ∃ V, V = V4.alloc (.cells (List.replicate 32 (Value.int .u8 0)).toArray 25) := ⟨_, rfl⟩
                  obtain ⟨gL, hgL⟩ : ∃ g, g = V4.heap.size := ⟨_, rfl⟩
                  rw [← hV5, ← hgL]
                  have bW5 : Below wr.heap.size wr V5 := by rw [hV5]; exact bW4.alloc bW4.size _
                  have ho5 : Own bs V5 (.slice qc nC cc) (X0 ++ info ++ [j + 1]) := by rw [hV5]; exact ho4.alloc _
                  have hs5 : bs ≤ V5.heap.size := by rw [hV5, World.size_alloc]; omega
                  have rL5 : Row V5 gL 25 (List.replicate 32 (Value.int .u8 0)) := by rw [hV5, hgL]; exact Row.new' V4 25 _
                  have lL : wr.heap.size ≤ gL := by rw [hgL]; exact bW4.size
                  clear hV5 hgL
                  refine wpAnyH_only (i := 9) (by kernel_rfl) rfl (fun K hK => ?_)
                  rw [if_pos (by rfl)]
                  go_simp
                  refine (HM.out V5 _ _ bW5 (ho5.bytes HZ.out)).mono ?_
                  rintro e V6 ⟨rfl, hc6⟩
                  refine hK.out _ _ trivial ?_
                  clear hK K
                  have bW6 : Below wr.heap.size wr V6 := bW5.trans (hc6.mono bW5.size)
                  have rL6 := Row.later rL5 hc6
                  refine wpAnyH_only (i := 11) (by kernel_rfl) rfl (fun K hK => ?_)
                  rw [if_pos (by rfl)]
                  refine wp_store_mid 25 (.tmp 11) (.tmp 33) rfl gL 0 LV.toArray rfl rfl (by simpa [HLVl.out] using rL6.there) (by simpa [HLVl.out] using size25) (all_oneCell_toArray HLV1.out) ?_
                  simp only [Act.put]
                  refine hK.out _ _ trivial ?_
                  clear hK K
                  refine wpAnyH_done (by kernel_rfl) ?_ _
                  refine OnOnly.on ?_
                  exact ⟨gL, _, _, _, _, rfl, lL, rL6.sets_all (by rw [HLVl.out]; rfl), below_setCells lL LV 0 bW6⟩
              · rw [if_pos (by rfl)]
                go_simp
                refine hK.out _ _ trivial ?_
                clear hK K
                rw [z32u8]
                obtain ⟨V4, hV4⟩ : ∃ V, V = V3.alloc (.cells (List.replicate 32 (Value.int .u8 0)).toArray 25) := ⟨_, rfl⟩
                obtain ⟨gL, hgL⟩ : ∃ g, g = V3.heap.size := ⟨_, rfl⟩
                rw [← hV4, ← hgL]
                have bW4 : Below wr.heap.size wr V4 := by rw [hV4]; exact bW3.alloc bW3.size _
                have rY4 : Row V4 g1 5 [.int .u8 ((j : Int) + 1)] := by rw [hV4]; exact Row.alloc rY3 _
                have ho4 : Own bs V4 (.slice qb nB cb) (X0 ++ info) := by rw [hV4]; exact ho3.alloc _
                have hs4 : bs ≤ V4.heap.size := by rw [hV4, World.size_alloc]; omega
                have rL4 : Row V4 gL 25 (List.replicate 32 (Value.int .u8 0)) := by rw [hV4, hgL]; exact Row.new' V3 25 _
                have lL : wr.heap.size ≤ gL := by rw [hgL]; exact bW3.size
                clear hV4 hgL
                refine wpAnyH_only (i := 8) (by kernel_rfl) rfl (fun K hK => ?_)
                rw [if_pos (by rfl)]
                refine wp_append_bytes (.tmp 28) (.tmp 31) rfl bs (.slice qb nB cb) (X0 ++ info) rfl ho4 rfl (row_bytes (zs := [j + 1]) (n := 1) rY4 rfl (by omega) (by simp; omega)) (by rw [HLB.out]; omega) hs4 ?_
                intro u V5 ho5 hg5
                obtain ⟨qc, cc, hu⟩ := own_len ho5 (n := nC) HLC.out
                subst hu
                simp only [Act.put]
                try simp only [List.setIfInBounds_toArray]
                try simp only [List.set_cons_succ]
                try simp only [List.set_cons_zero]
                refine hK.out _ _ trivial ?_
                clear hK K
                have hs5 : bs ≤ V5.heap.size := Nat.le_trans hs4 hg5.size
                have bW5 : Below wr.heap.size wr V5 := bW4.grown hg5 bW4.size (fun k e => Nat.le_trans hbs (World.ownsRow.lt ho4 k e).1)
                have rL5 : Row V5 gL 25 (List.replicate 32 (Value.int .u8 0)) := (KeepT.row (t := 25) hg5 ho4 (by decide)) gL _ _ rL4
                clear hg5
                refine wpAnyH_only (i := 9) (by kernel_rfl) rfl (fun K hK => ?_)
                rw [if_pos (by rfl)]
                go_simp
                refine (HM.out V5 _ _ bW5 (ho5.bytes HZ.out)).mono ?_
                rintro e V6 ⟨rfl, hc6⟩
                refine hK.out _ _ trivial ?_
                clear hK K
                have bW6 : Below wr.heap.size wr V6 := bW5.trans (hc6.mono bW5.size)
                have rL6 := Row.later rL5 hc6
                refine wpAnyH_only (i := 11) (by kernel_rfl) rfl (fun K hK => ?_)
                rw [if_pos (by rfl)]
                refine wp_store_mid 25 (.tmp 11) (.tmp 33) rfl gL 0 LV.toArray rfl rfl (by simpa [HLVl.out] using rL6.there) (by simpa [HLVl.out] using size25) (all_oneCell_toArray HLV1.out) ?_
                simp only [Act.put]
                refine hK.out _ _ trivial ?_
                clear hK K
                refine wpAnyH_done (by kernel_rfl) ?_ _
                refine OnOnly.on ?_
                exact ⟨gL, _, _, _, _, rfl, lL, rL6.sets_all (by rw [HLVl.out]; rfl), below_setCells lL LV 0 bW6⟩
            · rw [if_pos (by rfl)]
              go_simp
              refine hK.out _ _ trivial ?_
              clear hK K
              rw [z32u8]
              obtain ⟨V3, hV3⟩ : ∃ V, V = V2.alloc (.cells (List.replicate 32 (Value.int .u8 0)).toArray 25) := ⟨_, rfl⟩
              obtain ⟨gL, hgL⟩ : ∃ g, g = V2.heap.size := ⟨_, rfl⟩
              rw [← hV3, ← hgL]
              have bW3 : Below wr.heap.size wr V3 := by rw [hV3]; exact bW2.alloc bW2.size _
              have rY3 : Row V3 g1 5 [.int .u8 ((j : Int) + 1)] := by rw [hV3]; exact Row.alloc rY2 _
              have ho3 : Own bs V3 (.slice qa l9 ca) X0 := by rw [hV3]; exact ho2.alloc _
              have hs3 : bs ≤ V3.heap.size := by rw [hV3, World.size_alloc]; omega
              have rL3 : Row V3 gL 25 (List.replicate 32 (Value.int .u8 0)) := by rw [hV3, hgL]; exact Row.new' V2 25 _
              have lL : wr.heap.size ≤ gL := by rw [hgL]; exact bW2.size
              clear hV3 hgL
              refine wpAnyH_only (i := 4) (by kernel_rfl) rfl (fun K hK => ?_)
              rw [if_pos (by rfl)]
              refine wp_append_bytes (.tmp 26) (.tmp 27) rfl bs (.slice qa l9 ca) X0 rfl ho3 rfl (HIn.out.later bW3) (by rw [HL9.out]; omega) hs3 ?_
              intro u V4 ho4 hg4
              obtain ⟨qb, cb, hu⟩ := own_len ho4 (n := nB) HLB.out
              subst hu
              simp only [Act.put]
              try simp only [List.setIfInBounds_toArray]
              try simp only [List.set_cons_succ]
              try simp only [List.set_cons_zero]
              refine hK.out _ _ trivial ?_
              clear hK K
              have hs4 : bs ≤ V4.heap.size := Nat.le_trans hs3 hg4.size
              have bW4 : Below wr.heap.size wr V4 := bW3.grown hg4 bW3.size (fun k e => Nat.le_trans hbs (World.ownsRow.lt ho3 k e).1)
              have rY4 : Row V4 g1 5 [.int .u8 ((j : Int) + 1)] := (hg4.block _ rY3.lt (fun e => by have := (World.ownsRow.lt ho3 _ e.symm).1; omega)).trans rY3
              have rL4 : Row V4 gL 25 (List.replicate 32 (Value.int .u8 0)) := (KeepT.row (t := 25) hg4 ho3 (by decide)) gL _ _ rL3
              clear hg4
              refine wpAnyH_only (i := 8) (by kernel_rfl) rfl (fun K hK => ?_)
              rw [if_pos (by rfl)]
              refine wp_append_bytes (.tmp 28) (.tmp 31) rfl bs (.slice qb nB cb) (X0 ++ info) rfl ho4 rfl (row_bytes (zs := [j + 1]) (n := 1) rY4 rfl (by omega) (by simp; omega)) (by rw [HLB.out]; omega) hs4 ?_
              intro u V5 ho5 hg5
              obtain ⟨qc, cc, hu⟩ := own_len ho5 (n := nC) HLC.out
              subst hu
              simp only [Act.put]
              try simp only [List.setIfInBounds_toArray]
              try simp only [List.set_cons_succ]
              try simp only [List.set_cons_zero]
              refine hK.out _ _ trivial ?_
              clear hK K
              have hs5 : bs ≤ V5.heap.size := Nat.le_trans hs4 hg5.size
              have bW5 : Below wr.heap.size wr V5 := bW4.grown hg5 bW4.size (fun k e => Nat.le_trans hbs (World.ownsRow.lt ho4 k e).1)
              have rL5 : Row V5 gL 25 (List.replicate 32 (Value.int .u8 0)) := (KeepT.row (t := 25) hg5 ho4 (by decide)) gL _ _ rL4
              clear hg5
              refine wpAnyH_only (i := 9) (by kernel_rfl) rfl (fun K hK => ?_)
              rw [if_pos (by rfl)]
              go_simp
              refine (HM.out V5 _ _ bW5 (ho5.bytes HZ.out)).mono ?_
              rintro e V6 ⟨rfl, hc6⟩
              refine hK.out _ _ trivial ?_
              clear hK K
              have bW6 : Below wr.heap.size wr V6 := bW5.trans (hc6.mono bW5.size)
              have rL6 := Row.later rL5 hc6
              refine wpAnyH_only (i := 11) (by kernel_rfl) rfl (fun K hK => ?_)
              rw [if_pos (by rfl)]
              refine wp_store_mid 25 (.tmp 11) (.tmp 33) rfl gL 0 LV.toArray rfl rfl (by simpa [HLVl.out] using rL6.there) (by simpa [HLVl.out] using size25) (all_oneCell_toArray HLV1.out) ?_
              simp only [Act.put]
              refine hK.out _ _ trivial ?_
              clear hK K
              refine wpAnyH_done (by kernel_rfl) ?_ _
              refine OnOnly.on ?_
              exact ⟨gL, _, _, _, _, rfl, lL, rL6.sets_all (by rw [HLVl.out]; rfl), below_setCells lL LV 0 bW6⟩
          · rw [if_pos (by rfl)]
            go_simp
            refine hK.out _ _ trivial ?_
            clear hK K
            rw [z32u8]
            obtain ⟨V2, hV2⟩ : ∃ V, V = V1.alloc (.cells (List.replicate 32 (Value.int .u8 0)).toArray 25) := ⟨_, rfl⟩
            obtain ⟨gL, hgL⟩ : ∃ g, g = V1.heap.size := ⟨_, rfl⟩
            rw [← hV2, ← hgL]
            have bW2 : Below wr.heap.size wr V2 := by rw [hV2]; exact bW1.alloc bW1.size _
            have rY2 : Row V2 g1 5 [.int .u8 ((j : Int) + 1)] := by rw [hV2]; exact Row.alloc rY1 _
            have rL2 : Row V2 gL 25 (List.replicate 32 (Value.int .u8 0)) := by rw [hV2, hgL]; exact Row.new' V1 25 _
            have lL : wr.heap.size ≤ gL := by rw [hgL]; exact bW1.size
            clear hV2 hgL
            refine wpAnyH_only (i := 2) (by kernel_rfl) rfl (fun K hK => ?_)
            rw [if_pos (by rfl)]
            refine wp_append_bytes (.const (.slice none 0 0)) (.tmp 25) rfl V2.heap.size (.slice none 0 0) [] rfl (Own.nil _ _) rfl (HI9.out.later bW2) (by simp; omega) (Nat.le_refl _) ?_
            intro u V3 ho3 hg3
            rw [List.nil_append] at ho3
            obtain ⟨qa, ca, hu⟩ := own_len ho3 (n := l9) HL9.out
            subst hu
            simp only [Act.put]
            try simp only [List.setIfInBounds_toArray]
            try simp only [List.set_cons_succ]
            try simp only [List.set_cons_zero]
            refine hK.out _ _ trivial ?_
            clear hK K
            obtain ⟨bs, hbse⟩ : ∃ b, b = V2.heap.size := ⟨_, rfl⟩
            have hbs : wr.heap.size ≤ bs := by rw [hbse]; exact bW2.size
            have hs3 : bs ≤ V3.heap.size := by rw [hbse]; exact hg3.size
            rw [← hbse] at ho3
            have bW3 : Below wr.heap.size wr V3 := bW2.grown hg3 bW2.size (fun k e => by cases e)
            have rY3 : Row V3 g1 5 [.int .u8 ((j : Int) + 1)] := (hg3.block _ rY2.lt (fun e => by cases e)).trans rY2
            have hgb : g1 < bs := by rw [hbse]; exact rY2.lt
            have rL3 : Row V3 gL 25 (List.replicate 32 (Value.int .u8 0)) := (hg3.block _ rL2.lt (fun e => by cases e)).trans rL2
            clear hg3 hbse
            refine wpAnyH_only (i := 4) (by kernel_rfl) rfl (fun K hK => ?_)
            rw [if_pos (by rfl)]
            refine wp_append_bytes (.tmp 26) (.tmp 27) rfl bs (.slice qa l9 ca) X0 rfl ho3 rfl (HIn.out.later bW3) (by rw [HL9.out]; omega) hs3 ?_
            intro u V4 ho4 hg4
            obtain ⟨qb, cb, hu⟩ := own_len ho4 (n := nB) HLB.out
            subst hu
            simp only [Act.put]
            try simp only [List.setIfInBounds_toArray]
            try simp only [List.set_cons_succ]
            try simp only [List.set_cons_zero]
            refine hK.out _ _ trivial ?_
            clear hK K
            have hs4 : bs ≤ V4.heap.size := Nat.le_trans hs3 hg4.size
            have bW4 : Below wr.heap.size wr V4 := bW3.grown hg4 bW3.size (fun k e => Nat.le_trans hbs (World.ownsRow.lt ho3 k e).1)
            have rY4 : Row V4 g1 5 [.int .u8 ((j : Int) + 1)] := (hg4.block _ rY3.lt (fun e => by have := (World.ownsRow.lt ho3 _ e.symm).1; omega)).trans rY3
            have rL4 : Row V4 gL 25 (List.replicate 32 (Value.int .u8 0)) := (KeepT.row (t := 25) hg4 ho3 (by decide)) gL _ _ rL3
            clear hg4
            refine wpAnyH_only (i := 8) (by kernel_rfl) rfl (fun K hK => ?_)
            rw [if_pos (by rfl)]
            refine wp_append_bytes (.tmp 28) (.tmp 31) rfl bs (.slice qb nB cb) (X0 ++ info) rfl ho4 rfl (row_bytes (zs := [j + 1]) (n := 1) rY4 rfl (by omega) (by simp; omega)) (by rw [HLB.out]; omega) hs4 ?_
            intro u V5 ho5 hg5
            obtain ⟨qc, cc, hu⟩ := own_len ho5 (n := nC) HLC.out
            subst hu
            simp only [Act.put]
            try simp only [List.setIfInBounds_toArray]
            try simp only [List.set_cons_succ]
            try simp only [List.set_cons_zero]
            refine hK.out _ _ trivial ?_
            clear hK K
            have hs5 : bs ≤ V5.heap.size := Nat.le_trans hs4 hg5.size
            have bW5 : Below wr.heap.size wr V5 := bW4.grown hg5 bW4.size (fun k e => Nat.le_trans hbs (World.ownsRow.lt ho4 k e).1)
            have rL5 : Row V5 gL 25 (List.replicate 32 (Value.int .u8 0)) := (KeepT.row (t := 25) hg5 ho4 (by decide)) gL _ _ rL4
            clear hg5
            refine wpAnyH_only (i := 9) (by kernel_rfl) rfl (fun K hK => ?_)
            rw [if_pos (by rfl)]
            go_simp
            refine (HM.out V5 _ _ bW5 (ho5.bytes HZ.out)).mono ?_
            rintro e V6 ⟨rfl, hc6⟩
            refine hK.out _ _ trivial ?_
            clear hK K
            have bW6 : Below wr.heap.size wr V6 := bW5.trans (hc6.mono bW5.size)
            have rL6 := Row.later rL5 hc6
            refine wpAnyH_only (i := 11) (by kernel_rfl) rfl (fun K hK => ?_)
            rw [if_pos (by rfl)]
            refine wp_store_mid 25 (.tmp 11) (.tmp 33) rfl gL 0 LV.toArray rfl rfl (by simpa [HLVl.out] using rL6.there) (by simpa [HLVl.out] using size25) (all_oneCell_toArray HLV1.out) ?_
            simp only [Act.put]
            refine hK.out _ _ trivial ?_
            clear hK K
            refine wpAnyH_done (by kernel_rfl) ?_ _
            refine OnOnly.on ?_
            exact ⟨gL, _, _, _, _, rfl, lL, rL6.sets_all (by rw [HLVl.out]; rfl), below_setCells lL LV 0 bW6⟩
        · rw [if_pos (by rfl)]
          go_simp
          refine hK.out _ _ trivial ?_
          clear hK K
          rw [z32u8]
          obtain ⟨V1, hV1⟩ : ∃ V, V = V0.alloc (.cells (List.replicate 32 (Value.int .u8 0)).toArray 25) := ⟨_, rfl⟩
          obtain ⟨gL, hgL⟩ : ∃ g, g = V0.heap.size := ⟨_, rfl⟩
          rw [← hV1, ← hgL]
          have bW1 : Below wr.heap.size wr V1 := by rw [hV1]; exact bW0.alloc bW0.size _
          have rL1 : Row V1 gL 25 (List.replicate 32 (Value.int .u8 0)) := by rw [hV1, hgL]; exact Row.new' V0 25 _
          have lL : wr.heap.size ≤ gL := by rw [hgL]; exact bW0.size
          clear hV1 hgL
          refine wpAnyH_either (i := 2) (j := 7) (by kernel_rfl) rfl rfl (fun K hK => ?_) (fun K hK => ?_)
          · rw [if_pos (by rfl)]
            refine wp_append_bytes (.const (.slice none 0 0)) (.tmp 25) rfl V1.heap.size (.slice none 0 0) [] rfl (Own.nil _ _) rfl (HI9.out.later bW1) (by simp; omega) (Nat.le_refl _) ?_
            intro u V2 ho2 hg2
            rw [List.nil_append] at ho2
            obtain ⟨qa, ca, hu⟩ := own_len ho2 (n := l9) HL9.out
            subst hu
            simp only [Act.put]
            try simp only [List.setIfInBounds_toArray]
            try simp only [List.set_cons_succ]
            try simp only [List.set_cons_zero]
            refine hK.out _ _ trivial ?_
            clear hK K
            obtain ⟨bs, hbse⟩ : ∃ b, b = V1.heap.size := ⟨_, rfl⟩
            have hbs : wr.heap.size ≤ bs := by rw [hbse]; exact bW1.size
            have hs2 : bs ≤ V2.heap.size := by rw [hbse]; exact hg2.size
            rw [← hbse] at ho2
            have bW2 : Below wr.heap.size wr V2 := bW1.grown hg2 bW1.size (fun k e => by cases e)
            have rL2 : Row V2 gL 25 (List.replicate 32 (Value.int .u8 0)) := (hg2.block _ rL1.lt (fun e => by cases e)).trans rL1
            clear hg2 hbse
            refine wpAnyH_either (i := 4) (j := 7) (by kernel_rfl) rfl rfl (fun K hK => ?_) (fun K hK => ?_)
            · rw [if_pos (by rfl)]
              refine wp_append_bytes (.tmp 26) (.tmp 27) rfl bs (.slice qa l9 ca) X0 rfl ho2 rfl (HIn.out.later bW2) (by rw [HL9.out]; omega) hs2 ?_
              intro u V3 ho3 hg3
              obtain ⟨qb, cb, hu⟩ := own_len ho3 (n := nB) HLB.out
              subst hu
              simp only [Act.put]
              try simp only [List.setIfInBounds_toArray]
              try simp only [List.set_cons_succ]
              try simp only [List.set_cons_zero]
              refine hK.out _ _ trivial ?_
              clear hK K
              have hs3 : bs ≤ V3.heap.size := Nat.le_trans hs2 hg3.size
              have bW3 : Below wr.heap.size wr V3 := bW2.grown hg3 bW2.size (fun k e => Nat.le_trans hbs (World.ownsRow.lt ho2 k e).1)
              have rL3 : Row V3 gL 25 (List.replicate 32 (Value.int .u8 0)) := (KeepT.row (t := 25) hg3 ho2 (by decide)) gL _ _ rL2
              clear hg3
              refine wpAnyH_only (i := 7) (by kernel_rfl) rfl (fun K hK => ?_)
              rw [if_pos (by rfl)]
              go_simp
              refine hK.out _ _ trivial ?_
              clear hK K
              obtain ⟨V4, hV4⟩ : ∃ V, V = V3.alloc (.cells #[.int .u8 ((j : Int) + 1)] 5) := ⟨_, rfl⟩
              obtain ⟨g1, hg1⟩ : ∃ g, g = V3.heap.size := ⟨_, rfl⟩
              rw [← hV4, ← hg1]
              have bW4 : Below wr.heap.size wr V4 := by rw [hV4]; exact bW3.alloc bW3.size _
              have rL4 : Row V4 gL 25 (List.replicate 32 (Value.int .u8 0)) := by rw [hV4]; exact Row.alloc rL3 _
              have ho4 : Own bs V4 (.slice qb nB cb) (X0 ++ info) := by rw [hV4]; exact ho3.alloc _
              have hs4 : bs ≤ V4.heap.size := by rw [hV4, World.size_alloc]; omega
              have rY4 : Row V4 g1 5 [.int .u8 ((j : Int) + 1)] := by rw [hV4, hg1]; exact Row.new V3 5 _
              clear hV4 hg1
              refine wpAnyH_only (i := 8) (by kernel_rfl) rfl (fun K hK => ?_)
              rw [if_pos (by rfl)]
              refine wp_append_bytes (.tmp 28) (.tmp 31) rfl bs (.slice qb nB cb) (X0 ++ info) rfl ho4 rfl (row_bytes (zs := [j + 1]) (n := 1) rY4 rfl (by omega) (by simp; omega)) (by rw [HLB.out]; omega) hs4 ?_
              intro u V5 ho5 hg5
              obtain ⟨qc, cc, hu⟩ := own_len ho5 (n := nC) HLC.out
              subst hu
              simp only [Act.put]
              try simp only [List.setIfInBounds_toArray]
              try simp only [List.set_cons_succ]
              try simp only [List.set_cons_zero]
              refine hK.out _ _ trivial ?_
              clear hK K
              have hs5 : bs ≤ V5.heap.size := Nat.le_trans hs4 hg5.size
              have bW5 : Below wr.heap.size wr V5 := bW4.grown hg5 bW4.size (fun k e => Nat.le_trans hbs (World.ownsRow.lt ho4 k e).1)
              have rL5 : Row V5 gL 25 (List.replicate 32 (Value.int .u8 0)) := (KeepT.row (t := 25) hg5 ho4 (by decide)) gL _ _ rL4
              clear hg5
              refine wpAnyH_only (i := 9) (by kernel_rfl) rfl (fun K hK => ?_)
              rw [if_pos (by rfl)]
              go_simp
              refine (HM.out V5 _ _ bW5 (ho5.bytes HZ.out)).mono ?_
              rintro e V6 ⟨rfl, hc6⟩
              refine hK.out _ _ trivial ?_
              clear hK K
              have bW6 : Below wr.heap.size wr V6 := bW5.trans (hc6.mono bW5.size)
              have rL6 := Row.later rL5 hc6
              refine wpAnyH_only (i := 11) (by kernel_rfl) rfl (fun K hK => ?_)
              rw [if_pos (by rfl)]
              refine wp_store_mid 25 (.tmp 11) (.tmp 33) rfl gL 0 LV.toArray rfl rfl (by simpa [HLVl.out] using rL6.there) (by simpa [HLVl.out] using size25) (all_oneCell_toArray HLV1.out) ?_
              simp only [Act.put]
              refine hK.out _ _ trivial ?_
              clear hK K
              refine wpAnyH_done (by kernel_rfl) ?_ _
              refine OnOnly.on ?_
              exact ⟨gL, _, _, _, _, rfl, lL, rL6.sets_all (by rw [HLVl.out]; rfl), below_setCells lL LV 0 bW6⟩
            · rw [if_pos (by rfl)]
              go_simp
              refine hK.out _ _ trivial ?_
              clear hK K
              obtain ⟨V3, hV3⟩ : ∃ V, V = V2.alloc (.cells #[.int .u8 ((j : Int) + 1)] 5) := ⟨_, rfl⟩
              obtain ⟨g1, hg1⟩ : ∃ g, g = V2.heap.size := ⟨_, rfl⟩
              rw [← hV3, ← hg1]
              have bW3 : Below wr.heap.size wr V3 := by rw [hV3]; exact bW2.alloc bW2.size _
              have rL3 : Row V3 gL 25 (List.replicate 32 (Value.int .u8 0)) := by rw [hV3]; exact Row.alloc rL2 _
              have ho3 : Own bs V3 (.slice qa l9 ca) X0 := by rw [hV3]; exact ho2.alloc _
              have hs3 : bs ≤ V3.heap.size := by rw [hV3, World.size_alloc]; omega
              have rY3 : Row V3 g1 5 [.int .u8 ((j : Int) + 1)] := by rw [hV3, hg1]; exact Row.new V2 5 _
              have nY : (Value.slice qa l9 ca).ownBlock ≠ some g1 := fun e => by have := (World.ownsRow.lt ho2 _ e).2; rw [hg1] at this; omega
              clear hV3 hg1
              refine wpAnyH_only (i := 4) (by kernel_rfl) rfl (fun K hK => ?_)
              rw [if_pos (by rfl)]
              refine wp_append_bytes (.tmp 26) (.tmp 27) rfl bs (.slice qa l9 ca) X0 rfl ho3 rfl (HIn.out.later bW3) (by rw [HL9.out]; omega) hs3 ?_
              intro u V4 ho4 hg4
              obtain ⟨qb, cb, hu⟩ := own_len ho4 (n := nB) HLB.out
              subst hu
              simp only [Act.put]
              try simp only [List.setIfInBounds_toArray]
              try simp only [List.set_cons_succ]
              try simp only [List.set_cons_zero]
              refine hK.out _ _ trivial ?_
              clear hK K
              have hs4 : bs ≤ V4.heap.size := Nat.le_trans hs3 hg4.size
              have bW4 : Below wr.heap.size wr V4 := bW3.grown hg4 bW3.size (fun k e => Nat.le_trans hbs (World.ownsRow.lt ho3 k e).1)
              have rY4 : Row V4 g1 5 [.int .u8 ((j : Int) + 1)] := (hg4.block _ rY3.lt (fun e => nY e.symm)).trans rY3
              have rL4 : Row V4 gL 25 (List.replicate 32 (Value.int .u8 0)) := (KeepT.row (t := 25) hg4 ho3 (by decide)) gL _ _ rL3
              clear hg4
              refine wpAnyH_only (i := 8) (by kernel_rfl) rfl (fun K hK => ?_)
              rw [if_pos (by rfl)]
              refine wp_append_bytes (.tmp 28) (.tmp 31) rfl bs (.slice qb nB cb) (X0 ++ info) rfl ho4 rfl (row_bytes (zs := [j + 1]) (n := 1) rY4 rfl (by omega) (by simp; omega)) (by rw [HLB.out]; omega) hs4 ?_
              intro u V5 ho5 hg5
              obtain ⟨qc, cc, hu⟩ := own_len ho5 (n := nC) HLC.out
              subst hu
              simp only [Act.put]
              try simp only [List.setIfInBounds_toArray]
              try simp only [List.set_cons_succ]
              try simp only [List.set_cons_zero]
              refine hK.out _ _ trivial ?_
              clear hK K
              have hs5 : bs ≤ V5.heap.size := Nat.le_trans hs4 hg5.size
              have bW5 : Below wr.heap.size wr V5 := bW4.grown hg5 bW4.size (fun k e => Nat.le_trans hbs (World.ownsRow.lt ho4 k e).1)
              have rL5 : Row V5 gL 25 (List.replicate 32 (Value.int .u8 0)) := (KeepT.row (t := 25) hg5 ho4 (by decide)) gL _ _ rL4
              clear hg5
              refine wpAnyH_only (i := 9) (by kernel_rfl) rfl (fun K hK => ?_)
              rw [if_pos (by rfl)]
              go_simp
              refine (HM.out V5 _ _ bW5 (ho5.bytes HZ.out)).mono ?_
              rintro e V6 ⟨rfl, hc6⟩
              refine hK.out _ _ trivial ?_
              clear hK K
              have bW6 : Below wr.heap.size wr V6 := bW5.trans (hc6.mono bW5.size)
              have rL6 := Row.later rL5 hc6
              refine wpAnyH_only (i := 11) (by kernel_rfl) rfl (fun K hK => ?_)
              rw [if_pos (by rfl)]
              refine wp_store_mid 25 (.tmp 11) (.tmp 33) rfl gL 0 LV.toArray rfl rfl (by simpa [HLVl.out] using rL6.there) (by simpa [HLVl.out] using size25) (all_oneCell_toArray HLV1.out) ?_
              simp only [Act.put]
              refine hK.out _ _ trivial ?_
              clear hK K
              refine wpAnyH_done (by kernel_rfl) ?_ _
              refine OnOnly.on ?_
              exact ⟨gL, _, _, _, _, rfl, lL, rL6.sets_all (by rw [HLVl.out]; rfl), below_setCells lL LV 0 bW6⟩
          · rw [if_pos (by rfl)]
            go_simp
            refine hK.out _ _ trivial ?_
            clear hK K
            obtain ⟨V2, hV2⟩ : ∃ V, V = V1.alloc (.cells #[.int .u8 ((j : Int) + 1)] 5) := ⟨_, rfl⟩
            obtain ⟨g1, hg1⟩ : ∃ g, g = V1.heap.size := ⟨_, rfl⟩
            rw [← hV2, ← hg1]
            have bW2 : Below wr.heap.size wr V2 := by rw [hV2]; exact bW1.alloc bW1.size _
            have rL2 : Row V2 gL 25 (List.replicate 32 (Value.int .u8 0)) := by rw [hV2]; exact Row.alloc rL1 _
            have rY2 : Row V2 g1 5 [.int .u8 ((j : Int) + 1)] := by rw [hV2, hg1]; exact Row.new V1 5 _
            clear hV2 hg1
            refine wpAnyH_only (i := 2) (by kernel_rfl) rfl (fun K hK => ?_)
            rw [if_pos (by rfl)]
            refine wp_append_bytes (.const (.slice none 0 0)) (.tmp 25) rfl V2.heap.size (.slice none 0 0) [] rfl (Own.nil _ _) rfl (HI9.out.later bW2) (by simp; omega) (Nat.le_refl _) ?_
            intro u V3 ho3 hg3
            rw [List.nil_append] at ho3
            obtain ⟨qa, ca, hu⟩ := own_len ho3 (n := l9) HL9.out
            subst hu
            simp only [Act.put]
            try simp only [List.setIfInBounds_toArray]
            try simp only [List.set_cons_succ]
            try simp only [List.set_cons_zero]
            refine hK.out _ _ trivial ?_
            clear hK K
            obtain ⟨bs, hbse⟩ : ∃ b, b = V2.heap.size := ⟨_, rfl⟩
            have hbs : wr.heap.size ≤ bs := by rw [hbse]; exact bW2.size
            have hs3 : bs ≤ V3.heap.size := by rw [hbse]; exact hg3.size
            rw [← hbse] at ho3
            have bW3 : Below wr.heap.size wr V3 := bW2.grown hg3 bW2.size (fun k e => by cases e)
            have rY3 : Row V3 g1 5 [.int .u8 ((j : Int) + 1)] := (hg3.block _ rY2.lt (fun e => by cases e)).trans rY2
            have hgb : g1 < bs := by rw [hbse]; exact rY2.lt
            have rL3 : Row V3 gL 25 (List.replicate 32 (Value.int .u8 0)) := (hg3.block _ rL2.lt (fun e => by cases e)).trans rL2
            clear hg3 hbse
            refine wpAnyH_only (i := 4) (by kernel_rfl) rfl (fun K hK => ?_)
            rw [if_pos (by rfl)]
            refine wp_append_bytes (.tmp 26) (.tmp 27) rfl bs (.slice qa l9 ca) X0 rfl ho3 rfl (HIn.out.later bW3) (by rw [HL9.out]; omega) hs3 ?_
            intro u V4 ho4 hg4
            obtain ⟨qb, cb, hu⟩ := own_len ho4 (n := nB) HLB.out
            subst hu
            simp only [Act.put]
            try simp only [List.setIfInBounds_toArray]
            try simp only [List.set_cons_succ]
            try simp only [List.set_cons_zero]
            refine hK.out _ _ trivial ?_
            clear hK K
            have hs4 : bs ≤ V4.heap.size := Nat.le_trans hs3 hg4.size
            have bW4 : Below wr.heap.size wr V4 := bW3.grown hg4 bW3.size (fun k e => Nat.le_trans hbs (World.ownsRow.lt ho3 k e).1)
            have rY4 : Row V4 g1 5 [.int .u8 ((j : Int) + 1)] := (hg4.block _ rY3.lt (fun e => by have := (World.ownsRow.lt ho3 _ e.symm).1; omega)).trans rY3
            have rL4 : Row V4 gL 25 (List.replicate 32 (Value.int .u8 0)) := (KeepT.row (t := 25) hg4 ho3 (by decide)) gL _ _ rL3
            clear hg4
            refine wpAnyH_only (i := 8) (by kernel_rfl) rfl (fun K hK => ?_)
            rw [if_pos (by rfl)]
            refine wp_append_bytes (.tmp 28) (.tmp 31) rfl bs (.slice qb nB cb) (X0 ++ info) rfl ho4 rfl (row_bytes (zs := [j + 1]) (n := 1) rY4 rfl (by omega) (by simp; omega)) (by rw [HLB.out]; omega) hs4 ?_
            intro u V5 ho5 hg5
            obtain ⟨qc, cc, hu⟩ := own_len ho5 (n := nC) HLC.out
            subst hu
            simp only [Act.put]
            try simp only [List.setIfInBounds_toArray]
            try simp only [List.set_cons_succ]
            try simp only [List.set_cons_zero]
            refine hK.out _ _ trivial ?_
            clear hK K
            have hs5 : bs ≤ V5.heap.size := Nat.le_trans hs4 hg5.size
            have bW5 : Below wr.heap.size wr V5 := bW4.grown hg5 bW4.size (fun k e => Nat.le_trans hbs (World.ownsRow.lt ho4 k e).1)
            have rL5 : Row V5 gL 25 (List.replicate 32 (Value.int .u8 0)) := (KeepT.row (t := 25) hg5 ho4 (by decide)) gL _ _ rL4
            clear hg5
            refine wpAnyH_only (i := 9) (by kernel_rfl) rfl (fun K hK => ?_)
            rw [if_pos (by rfl)]
            go_simp
            refine (HM.out V5 _ _ bW5 (ho5.bytes HZ.out)).mono ?_
            rintro e V6 ⟨rfl, hc6⟩
            refine hK.out _ _ trivial ?_
            clear hK K
            have bW6 : Below wr.heap.size wr V6 := bW5.trans (hc6.mono bW5.size)
            have rL6 := Row.later rL5 hc6
            refine wpAnyH_only (i := 11) (by kernel_rfl) rfl (fun K hK => ?_)
            rw [if_pos (by rfl)]
            refine wp_store_mid 25 (.tmp 11) (.tmp 33) rfl gL 0 LV.toArray rfl rfl (by simpa [HLVl.out] using rL6.there) (by simpa [HLVl.out] using size25) (all_oneCell_toArray HLV1.out) ?_
            simp only [Act.put]
            refine hK.out _ _ trivial ?_
            clear hK K
            refine wpAnyH_done (by kernel_rfl) ?_ _
            refine OnOnly.on ?_
            exact ⟨gL, _, _, _, _, rfl, lL, rL6.sets_all (by rw [HLVl.out]; rfl), below_setCells lL LV 0 bW6⟩
      · rintro a' V ⟨gL, v26, v28, v31, v32, rfl, hgL, hrL, hbV⟩
        have HrL : Hid (Row V gL 25 (u8s X)) := by rw [HLV.out]; exact hrL
        have HO8V : Hid (Own (w.heap.size + 1) V (.slice q8 L c8) (linksL ks info j).flatten) := HO8.out.later hbV
        have hbw : Below (w.heap.size + 1) w0 V := hbel.trans (hbV.mono hsz)
        have hsV : w.heap.size + 1 ≤ V.heap.size := by have := hbV.size; omega
        obtain ⟨L2, hL2⟩ : ∃ L2, L2 = L + 32 := ⟨_, rfl⟩
        have HL2 : Hid (L2 = 32 * (j + 1)) := by show _ = _; have := HL.out; omega
        have HF2 : Hid (((linksL ks info j).flatten ++ X).length = L2) := by show _ = _; rw [List.length_append, HF8.out, HX.out.1, hL2]
        have hLl : L ≤ 10000 := by omega
        clear hL2 hrL hbV bW0
        generalize (linksL ks info j).flatten = F at *
        go_wp2_with (first
          | (at_builtin; have hrow := HrL.out; clear HrL; refine wpList_append_bytes rfl _ _ rfl V.heap.size (.slice none 0 0) [] rfl (Own.nil _ _) rfl (row_bytes hrow HX.out.1 (by omega) HX.out.2) (by simp) (Nat.le_refl _) ?_; intro u9 V1 ho9 hg9; rw [List.nil_append] at ho9; obtain ⟨qd, cd, hu⟩ := own_len ho9 (n := 32) HX.out.1; subst hu; have hb1 : Below V.heap.size V V1 := (Below.refl _ V).grown hg9 (Nat.le_refl _) (fun k e => by cases e); have HO9 : Hid (Own V.heap.size V1 (.slice qd 32 cd) X) := ho9; have HO81 : Hid (Own (w.heap.size + 1) V1 (.slice q8 L c8) F) := HO8V.out.later hb1; have HAp : Hid (Ap (.slice q8 L c8) (.slice qd 32 cd)) := (fun g h1 h2 => by have h3 := (World.ownsRow.lt HO9.out g h1).1; have h4 := (World.ownsRow.lt HO8V.out g h2).2; omega); have hbv1 : Below (w.heap.size + 1) w0 V1 := hbw.trans (hb1.mono hsV); have hsV1 : w.heap.size + 1 ≤ V1.heap.size := (by have := hb1.size; omega); clear ho9 hg9 hb1 hrow)
          | (at_builtin; refine wpList_append_bytes rfl _ _ rfl (w.heap.size + 1) (.slice q8 L c8) F rfl HO81.out rfl (HO9.out.bytes HX.out.2) (by rw [HF8.out]; omega) hsV1 ?_; intro u8 V2 ho8 hg8; obtain ⟨qe, ce, hu⟩ := own_len ho8 (n := L2) HF2.out; subst hu; have HO82 : Hid (Own (w.heap.size + 1) V2 (.slice qe L2 ce) (F ++ X)) := ho8; have HO92 : Hid (Own (w.heap.size + 1) V2 (.slice qd 32 cd) X) := (own_far HO9.out hg8 HAp.out).mono hsV; have hb2 : Below (w.heap.size + 1) w0 V2 := below_own hbv1 hsV1 HO81.out hg8; clear ho8 hg8))
        go_roundw
        case rel => exact ⟨j + 1, qe, ce, qd, 32, cd, by omega, by go_num, by rw [HL2.out], by rw [← HFs.out]; exact HO82.out, rfl, by rw [HXe.out]; exact HO92.out, hb2⟩
        case measure => simp [intOf]; omega
    · obtain ⟨L, hL⟩ : ∃ L, L = 32 * j := ⟨_, rfl⟩
      rw [← hL] at ho8 ⊢
      have hLi : ¬ (L : Int) < (N : Int) := by omega
      have HLt : Hid (∀ z ∈ (linksL ks info j).flatten, z < 256) := fun z hz => by
        obtain ⟨x, hx, hzx⟩ := List.mem_flatten.1 hz
        obtain ⟨i, _, rfl⟩ := List.mem_map.1 hx
        exact linkN_lt ks info (i + 1) z hzx
      have HE : Hid ((linksL ks info j).flatten.take N = expandN ks info N) := expandN_of ks info N j (by omega) (by omega)
      have hBy := ho8.bytes HLt.out
      have hcap := hBy.2.1
      have hNc : N ≤ c8 := by omega
      have hNci : (N : Int) ≤ (c8 : Int) := by omega
      have HBy : Hid (IsBytes wr.heap.size wr q8 N c8 (expandN ks info N)) := by
        have h := hBy.take (n := N) (by omega)
        rw [HE.out] at h
        exact h
      clear hBy ho8 ho9 hL
      go_wp2
      refine bodyPost_ret (results_tmp2 rfl _ _ _) rfl ?_
      exact ⟨q8, c8, rfl, HBy.out, Hb0.out.trans (hbel.mono (by omega))⟩
end Go.Proofs.YtokjbldelpiejaaDoor
