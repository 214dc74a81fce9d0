/-
  The reference's Split: it answers as route.Split does. Nothing that lay before the call has turned.
-/
import Derived.Test.YtkpjbleogjmbjaaSame
namespace Go.Proofs.Ytkpjbleogjmbjaa
open Go.RowKit

theorem add_bytes (a b : ByteArray) : bytesOf (a ++ b) = bytesOf a ++ bytesOf b := by
  simp [bytesOf, ByteArray.data_append]
theorem add_size (a b : ByteArray) : (a ++ b).size = a.size + b.size := by rw [← bytesOf_length, add_bytes, List.length_append, bytesOf_length, bytesOf_length]
/-- The last text of a row, set. -/
theorem OwnS.setLast {W : World} {n₀ g : Nat} {c : Nat} {xs : List ByteArray} (hne : 0 < xs.length) (h : OwnS n₀ W (.slice (some ⟨g, 0, none⟩) xs.length c) xs) (y : ByteArray) : OwnS n₀ (W.setCell ⟨g, xs.length - 1, none⟩ (.string y)) (.slice (some ⟨g, 0, none⟩) xs.length c) (xs.dropLast ++ [y]) := by
  obtain ⟨g', e, hg, hgl, _, hlc, hcc, cur, hcur, hcs, htk⟩ := h.row hne
  cases e
  have hl : (xs.dropLast ++ [y]).length = xs.length := by simp; omega
  have hr : Row W g 9 cur.toList := by unfold Row; rw [Array.toArray_toList]; exact hcur
  have hr2 := hr.set (xs.length - 1) (.string y)
  unfold OwnS
  rw [hl]
  refine ⟨by simp; omega, .inr ⟨g, c, (cur.toList.set (xs.length - 1) (.string y)).toArray, rfl, hg, hr2, hlc, by simpa only [maxLen] using hcc, by simp [hcs], ?_⟩⟩
  rw [Nat.mul_one, List.toList_toArray, List.take_set, htk]
  simp only [Go.Proofs.Ytkpjbleogjmbjaa.strs, List.map_append, List.map_cons, List.map_nil]
  rw [List.set_eq_take_append_cons_drop]
  rw [if_pos (by simp; omega), List.drop_of_length_le (by simp; omega), ← List.map_take, List.dropLast_eq_take]
theorem cut_len (l : List UInt8) : (cutL l).length ≤ l.length + 1 := by
  induction l with
  | nil => simp [cutL]
  | cons c r ih =>
    unfold cutL
    split
    · simp; omega
    · split
      · simp
      · rename_i a t e; rw [e] at ih; simp at ih ⊢; omega

set_option maxRecDepth 100000 in
set_option maxHeartbeats 4000000 in
theorem refSplit_any (s : ByteArray) (hs : s.size ≤ 50000) (w : World) :
    Calls Try.prog 12 #[.string s] w fun e w' => ∃ v, e = .returned (.tuple #[v, .int .i64 (errS (bytesOf s) : Nat)]) ∧ OwnS w.heap.size w' v ((namesS (bytesOf s)).map txt) ∧ Below w.heap.size w w' := by
  rcases Bool.eq_false_or_eq_true (s.toList == []) with e0 | e0
  · have hn : Hid (bytesOf s = []) := by show _ = _; rw [ByteArray.toList_eq] at e0; simpa using e0
    go_enter Try.func12, Try.ntmps12
    go_wp2
    go_ret2
    refine ⟨.slice none 0 0, ?_, ?_, Below.refl _ _⟩
    · rw [hn.out]; rfl
    · rw [hn.out]; exact OwnS.nil _ _
  have HT : Hid (toldL (bytesOf s) = cutL (bytesOf s)) := by
    show _ = _
    rw [ByteArray.toList_eq] at e0
    rw [toldL, if_neg (by simpa using e0)]
  have HO0 : Hid (OwnS w.heap.size (w.alloc (.cells #[.string ⟨#[]⟩] 9)) (.slice (some ⟨w.heap.size, 0, none⟩) 1 1) [⟨#[]⟩]) :=
    ⟨rfl, .inr ⟨w.heap.size, 1, _, rfl, Nat.le_refl _, heap_alloc_last w (.cells #[.string ⟨#[]⟩] 9), Nat.le_refl _, by simp only [maxLen]; omega, rfl, rfl⟩⟩
  go_enter Try.func12, Try.ntmps12
  go_wp2
  go_loopw [4, 5] (fun v i wr => ∃ (k : Nat) (xs : List ByteArray), k ≤ s.size ∧ i = .int .i64 k ∧ OwnS w.heap.size wr v xs ∧ xs.map bytesOf = cutL ((bytesOf s).take k) ∧ Below w.heap.size w wr) (fun _ i _ => s.size - (intOf i).toNat)
  case atStart => exact ⟨0, [⟨#[]⟩], Nat.zero_le _, rfl, HO0.out, rfl, (Below.refl _ w).alloc (Nat.le_refl _) _⟩
  case round =>
    obtain ⟨k, xs, hk, rfl, hown, hcut, hbel⟩ := hrel
    have HC : Hid (xs.map bytesOf = cutL ((bytesOf s).take k)) := hcut
    have hxl : xs.length ≤ k + 1 := by
      have := cut_len ((bytesOf s).take k)
      rw [← hcut] at this
      simp at this
      omega
    have hx0 : 0 < xs.length := by
      have := cutL_ne ((bytesOf s).take k)
      rw [← hcut] at this
      cases xs with
      | nil => simp at this
      | cons a t => simp
    obtain ⟨q, c, rfl⟩ := hown.slice
    have hbs := hbel.size
    clear hcut
    by_cases hlt : k < s.size
    · have hki : (k : Int) < (s.size : Int) := by omega
      have HAt : Hid ((bytesOf s)[k]? = some (s[k]'hlt)) := bytesOf_at s k hlt
      obtain ⟨c1, hc1⟩ : ∃ c1, s[k]'hlt = c1 := ⟨_, rfl⟩
      have HTk : Hid ((bytesOf s).take (k + 1) = (bytesOf s).take k ++ [c1]) := by
        show _ = _
        rw [List.take_add_one, HAt.out, hc1]; rfl
      have b47 := c47 c1
      rcases Bool.eq_false_or_eq_true (c1 == 47) with e1 | e1
      · have h47 : c1 = 47 := by simpa using e1
        obtain ⟨W4, hW4⟩ : ∃ W4, wr.alloc (.cells #[.string ⟨#[]⟩] 9) = W4 := ⟨_, rfl⟩
        have hr4 : OwnS w.heap.size W4 (.slice q xs.length c) xs := by rw [← hW4]; exact World.ownsRow.alloc hown _
        have hb4 : Below w.heap.size w W4 := by rw [← hW4]; exact hbel.alloc hbs _
        have hx4 : W4.cell? ⟨wr.heap.size, 0, none⟩ = some (.string ⟨#[]⟩) := by rw [← hW4]; exact (Boxed.new wr 9 (.string ⟨#[]⟩)).cell
        obtain ⟨u5, W5, hrun, ho5, hg5, hw5⟩ := run_append_str W4 w.heap.size 25 (.slice q xs.length c) xs hr4 wr.heap.size ⟨#[]⟩ hx4 (by omega) hb4.size
        have hb5 : Below w.heap.size w W5 := hb4.grown hg5 hb4.size (fun j e => (World.ownsRow.lt hr4 j e).1)
        have HC2 : Hid ((xs ++ [(⟨#[]⟩ : ByteArray)]).map bytesOf = cutL ((bytesOf s).take (k + 1))) := by
          show _ = _
          rw [HTk.out, h47, cutL_snoc47, ← HC.out]; simp [bytesOf]
        obtain ⟨q5, c5, rfl⟩ := ho5.slice
        have HRun : Hid ((Builtin.append_ #[25, 25] 25 #[.slice q xs.length c, .slice (some ⟨wr.heap.size, 0, none⟩) 1 1]).run Try.prog W4 = .ok (.slice q5 (xs ++ [(⟨#[]⟩ : ByteArray)]).length c5) W5) := hrun
        have HO5 : Hid (OwnS w.heap.size W5 (.slice q5 (xs ++ [(⟨#[]⟩ : ByteArray)]).length c5) (xs ++ [(⟨#[]⟩ : ByteArray)])) := ho5
        have HW4 : Hid (wr.alloc (.cells #[.string ⟨#[]⟩] 9) = W4) := hW4
        rw [e1] at b47
        clear hr4 hx4 ho5 hg5 hw5 hrun hW4 h47 e1 hown
        generalize (xs ++ [(⟨#[]⟩ : ByteArray)]).length = m5 at *
        go_wp2_with (((with_reducible show wpList _ _ _ (Oper.mk (some 23) _ _ _ _ _ :: _) _ _); rw [HW4.out]; refine wpList_plain rfl (fun K hK => wp_append_of (.tmp 21) (.tmp 22) 25 rfl rfl rfl HRun.out (hK _ _ ?_)); simp only [Act.put, List.setIfInBounds_toArray, List.set_cons_zero, List.set_cons_succ]))
        go_roundw
        case rel => exact ⟨k + 1, _, hlt, by go_num, HO5.out, HC2.out, hb5⟩
        case measure => simp [intOf]; omega
      · have hne : c1 ≠ 47 := by simpa using e1
        obtain ⟨g, rfl, hgb, hgl, _, hlc, hcc, cur, hcur, hcs, htk⟩ := hown.row hx0
        obtain ⟨y, hy⟩ : ∃ y, xs[xs.length - 1]'(by omega) = y := ⟨_, rfl⟩
        have hyl : xs = xs.dropLast ++ [y] := by
          have hn : xs ≠ [] := by intro e; rw [e] at hx0; simp at hx0
          rw [← hy, ← List.getLast_eq_getElem hn]; exact (List.dropLast_concat_getLast hn).symm
        have hck : cur[xs.length - 1]? = some (.string y) := by
          have : (cur.toList.take xs.length)[xs.length - 1]? = some (.string y) := by rw [htk, strs_at (by omega), hy]
          rw [List.getElem?_take, if_pos (by omega)] at this
          simpa using this
        have hys : y.size ≤ 50000 := by
          have : bytesOf y ∈ cutL ((bytesOf s).take k) := by rw [← HC.out, hyl]; simp
          have := cutL_size _ this
          rw [List.length_take, bytesOf_length, bytesOf_length] at this
          omega
        have hyt : (s.extract k (k + 1)).size = 1 := by rw [extract_size s k (k + 1) hlt]; omega
        have hadd : ∀ W : World, (Op.stringOp .add y (s.extract k (k + 1))).run Try.prog W = .ok (.string (y ++ s.extract k (k + 1))) W := fun W => run_string_add_sum (P := Try.prog) W y _ (by omega)
        have HC2 : Hid ((xs.dropLast ++ [y ++ s.extract k (k + 1)]).map bytesOf = cutL ((bytesOf s).take (k + 1))) := by
          show _ = _
          have e3 : bytesOf (s.extract k (k + 1)) = [c1] := by
            rw [extract_bytes, show k + 1 - k = 1 by omega]
            have := HAt.out
            rw [List.drop_eq_getElem_cons (by rw [bytesOf_length]; exact hlt)]
            rw [List.getElem?_eq_getElem (by rw [bytesOf_length]; exact hlt)] at this
            rw [Option.some.inj this, hc1]; rfl
          rw [HTk.out, cutL_snoc _ _ hne, ← HC.out, hyl]
          simp only [List.map_append, List.map_cons, List.map_nil, List.dropLast_concat, List.getLastD_concat, add_bytes, e3]
        have hcell : wr.cell? ⟨g, xs.length - 1, none⟩ = some (.string y) := by rw [cell_of_row wr g _ cur 9 (0, 0) hcur]; exact hck
        have hfr : wr.frozen? ⟨g, xs.length - 1, none⟩ = false := by simp [World.frozen?, hcur]
        have HO2 : Hid (OwnS w.heap.size (wr.setCell ⟨g, xs.length - 1, none⟩ (.string (y ++ s.extract k (k + 1)))).drew (.slice (some ⟨g, 0, none⟩) xs.length c) (xs.dropLast ++ [y ++ s.extract k (k + 1)])) := OwnS.setLast hx0 hown _
        have HB2 : Hid (Below w.heap.size w (wr.setCell ⟨g, xs.length - 1, none⟩ (.string (y ++ s.extract k (k + 1)))).drew) := (hbel.setCell (p := ⟨g, xs.length - 1, none⟩) hgb _).drew
        have HD : Hid (wr.drew.cell? ⟨g, xs.length - 1, none⟩ = some (.string y)) := hcell
        rw [e1] at b47
        obtain ⟨m, hm⟩ : ∃ m, xs.length - 1 = m := ⟨_, rfl⟩
        rw [hm] at hcell hfr HO2 HB2 HD
        have hml : xs.length = m + 1 := by omega
        rw [hml] at hown HO2 hlc ⊢
        clear hown hcur hck htk hcs hyl hy hne e1 hm
        have i1 : IntKind.i64.wrap (m : Int) = (m : Int) := by rw [IntKind.wrap_i64]; omega
        have i2 : (m : Int) < (m : Int) + 1 := by omega
        have i3 : IntKind.i64.wrap ((k : Int) + 1) = (k : Int) + 1 := by rw [IntKind.wrap_i64]; omega
        have i4 : (k : Int) ≤ (k : Int) + 1 := by omega
        have i5 : (k : Int) + 1 ≤ (s.size : Int) := by omega
        have i6 : ((k : Int) + 1).toNat = k + 1 := by omega
        have i7 : (0 : Int) ≤ (k : Int) + 1 := by omega
        generalize hsx : s.extract k (k + 1) = sx at *
        go_wp2
        refine wp_region_gate' 13 (fun W' => W'.cell? ⟨g, m, none⟩ = some (.string y)) (by kernel_rfl) ?_
        have hHeld := HD.out
        refine wpAnyG_takesAt 0 13 1 (of_decide_eq_true (by kernel_rfl)) rfl (fun _ _ _ d _ h => by cases d <;> exact h) (by kernel_rfl) (by kernel_rfl) (fun _ => hHeld) ?_
        simp only [List.drop_zero, List.take_succ_cons, List.take_zero]
        iterate 13 (refine wpHeldG_step (v := ?_) (by rfl) (by kernel_rfl) (fun wz hSw => ?_) ?_; rotate_left; (focus ((try dsimp only at hSw); go_simp; try with_reducible rfl)); (simp only [Act.put, List.setIfInBounds_toArray, List.set_cons_zero, List.set_cons_succ]))
        refine wpHeldG_nil ?_
        refine wpAnyG_only (i := 13) (by kernel_rfl) rfl (by rfl) (fun K hK => ?_)
        go_simp
        refine hK.out _ _ (gone (by kernel_rfl)) ?_
        clear hK K hHeld
        refine wpAnyG_done (by kernel_rfl) ?_ _
        go_wp2
        go_roundw
        case rel => exact ⟨k + 1, _, hlt, by go_num, HO2.out, HC2.out, HB2.out⟩
        case measure => simp [intOf]; omega
    · obtain rfl : k = s.size := by omega
      have HX : Hid (xs.map bytesOf = toldL (bytesOf s)) := by
        show _ = _
        rw [HT.out, HC.out, List.take_of_length_le (by rw [bytesOf_length]; exact Nat.le_refl _)]
      have HXl : Hid ((toldL (bytesOf s)).length = xs.length) := by show _ = _; rw [← HX.out]; simp
      by_cases h16 : 16 < xs.length
      · have i16 : (16 : Int) < (xs.length : Int) := by omega
        have hE : Hid (errS (bytesOf s) = 101) := errS_deep (by rw [HXl.out]; exact h16)
        go_wp2
        go_ret2
        refine ⟨.slice none 0 0, by rw [hE.out]; rfl, ?_, hbel⟩
        rw [namesS, hE.out]; exact OwnS.nil _ _
      · have i16 : ¬ (16 : Int) < (xs.length : Int) := by omega
        have H16 : Hid (¬ 16 < (toldL (bytesOf s)).length) := by rw [HXl.out]; exact h16
        have HSz : Hid (∀ x ∈ xs, x.size ≤ 1000000) := fun x hx => by
          have : bytesOf x ∈ toldL (bytesOf s) := by rw [← HX.out]; exact List.mem_map_of_mem hx
          have := told_size this
          rw [bytesOf_length, bytesOf_length] at this
          omega
        have hIs := hown.strs
        obtain ⟨g, rfl, hgb, hgl, _, hlc, hcc, _⟩ := hown.row hx0
        obtain ⟨wo, rfl⟩ : ∃ wo, wo = wr := ⟨_, rfl⟩
        have HIs : Hid (IsStrs wo.heap.size wo (some ⟨g, 0, none⟩) xs.length c xs) := hIs
        clear hIs
        go_wp2
        go_loopw [42] (fun i wr => ∃ (k : Nat), k ≤ xs.length ∧ i = .int .i64 k ∧ ((xs.take k).map bytesOf).all goodL = true ∧ wr = wo) (fun i _ => xs.length - (intOf i).toNat)
        case atStart => exact ⟨0, Nat.zero_le _, rfl, by simp, rfl⟩
        case round =>
          obtain ⟨k, hk, rfl, hall, rfl⟩ := hrel
          have HA : Hid (((xs.take k).map bytesOf).all goodL = true) := hall
          clear hall
          by_cases hlt : k < xs.length
          · have hki : (k : Int) < (xs.length : Int) := by omega
            obtain ⟨x, hx⟩ : ∃ x, xs[k] = x := ⟨_, rfl⟩
            have hmem : (xs.map bytesOf)[k]? = some (bytesOf x) := by rw [List.getElem?_map, List.getElem?_eq_getElem hlt, hx]; rfl
            have HTk : Hid ((xs.take (k + 1)).map bytesOf = (xs.take k).map bytesOf ++ [bytesOf x]) := by
              show _ = _
              rw [List.take_add_one, List.getElem?_eq_getElem hlt, hx]; simp
            have HXs : Hid (x.size ≤ 1000000) := HSz.out x (by rw [← hx]; exact List.getElem_mem hlt)
            have hcell : wr.cell? ⟨g, k, none⟩ = some (.string x) := by
              rcases HIs.out.2.2.2 with h | ⟨b, off, e, _, h⟩
              · omega
              · cases e
                have := h k hlt
                rw [hx] at this
                simpa using this
            rcases Bool.eq_false_or_eq_true (goodL (bytesOf x)) with eg | eg
            · have HA2 : Hid (((xs.take (k + 1)).map bytesOf).all goodL = true) := by
                show _ = _
                rw [HTk.out, List.all_append, HA.out]; simp [eg]
              clear hx hmem
              go_wp2_with (go_at_call 8; refine (refGood_any x HXs.out wr).mono ?_; rintro e w' ⟨rfl, hw'⟩; obtain rfl : wr = w' := hw'.symm; clear hw'; rw [eg])
              go_roundw
              case rel => exact ⟨k + 1, hlt, by go_num, HA2.out, trivial⟩
              case measure => simp [intOf]; omega
            · have hE : Hid (errS (bytesOf s) = 100) := errS_name H16.out (by
                rw [← HX.out, Bool.eq_false_iff]
                intro h
                have := List.all_eq_true.1 h (bytesOf x) (List.mem_of_getElem? hmem)
                rw [eg] at this; cases this)
              clear hx hmem
              go_wp2_with (go_at_call 8; refine (refGood_any x HXs.out wr).mono ?_; rintro e w' ⟨rfl, hw'⟩; obtain rfl : wr = w' := hw'.symm; clear hw'; rw [eg])
              go_ret2
              refine ⟨.slice none 0 0, by rw [hE.out]; rfl, ?_, hbel⟩
              rw [namesS, hE.out]; exact OwnS.nil _ _
          · obtain rfl : k = xs.length := by omega
            have hE : Hid (errS (bytesOf s) = 0) := errS_ok H16.out (by rw [← HX.out]; have := HA.out; rwa [List.take_length] at this)
            have hN : Hid ((namesS (bytesOf s)).map txt = xs) := by
              show _ = _
              rw [namesS, if_pos hE.out, ← HX.out, List.map_map]
              conv => rhs; rw [← List.map_id xs]
              exact List.map_congr_left (fun x _ => txt_bytes x)
            go_wp2
            go_ret2
            refine ⟨.slice (some ⟨g, 0, none⟩) xs.length c, by rw [hE.out]; rfl, ?_, hbel⟩
            rw [hN.out]; exact hown
end Go.Proofs.Ytkpjbleogjmbjaa
