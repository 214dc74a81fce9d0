/-
  The reference's Sorted.
-/
import Derived.Test.YtlmfdifnkkdpfaaSrtA
import Derived.Test.YtlmfdifnkkdpfaaWith
namespace Go.Proofs.Ytlmfdifnkkdpfaa
open Go.RowKit Go.Shelf

theorem leq_run (y x : ByteArray) (W : World) : (binOp BinOp.leq 9 (.string y) (.string x)).run Try.prog W = .ok (.bool (leB y x)) W := by
  simp [binOp, Op.stringOp, leB]
theorem isStrs_take {n₀ : Nat} {W : World} {p : Option Addr} {len cap m : Nat} {xs : List ByteArray} (h : IsStrs n₀ W p len cap xs) (hm : m ≤ len) : IsStrs n₀ W p m m (xs.take m) := by
  obtain ⟨h1, h2, h3, h4⟩ := h
  refine ⟨by simp; omega, Nat.le_refl _, by omega, ?_⟩
  rcases h4 with h0 | ⟨b, off, e, hb, hc⟩
  · exact .inl (by omega)
  · exact .inr ⟨b, off, e, hb, fun i hi => by simpa using hc i (by simp at hi; omega)⟩
theorem isStrs_drop {n₀ : Nat} {W : World} {g len cap m : Nat} {xs : List ByteArray} (h : IsStrs n₀ W (some ⟨g, 0, none⟩) len cap xs) (hm : m < len) : IsStrs n₀ W (some ⟨g, m, none⟩) (len - m) (cap - m) (xs.drop m) := by
  obtain ⟨h1, h2, h3, h4⟩ := h
  refine ⟨by simp; omega, by omega, by omega, ?_⟩
  rcases h4 with h0 | ⟨b, off, e, hb, hc⟩
  · omega
  · cases e
    refine .inr ⟨g, m, rfl, hb, fun i hi => ?_⟩
    have := hc (m + i) (by simp at hi; omega)
    simpa using this
theorem isStrs_none {n₀ : Nat} {W : World} {p : Option Addr} {cap len m : Nat} {xs : List ByteArray} (h1 : xs.length = len) (hm : m = len) (hc : cap ≤ 9223372036854775807) : IsStrs n₀ W p (len - m) cap (xs.drop m) := ⟨by simp; omega, by omega, hc, .inl (by omega)⟩

set_option maxRecDepth 100000 in
set_option maxHeartbeats 2000000 in
theorem sorted_any (p : Option Addr) (len cap : Nat) (xs : List ByteArray) (hlen : len ≤ 1000) (w : World) (hI : IsStrs w.heap.size w p len cap xs) :
    Calls Try.prog 27 #[.slice p len cap] w fun e w' => ∃ q n c, e = .returned (.slice q n c) ∧ OwnS w.heap.size w' (.slice q n c) (srt xs) ∧ Below w.heap.size w w' := by
  have HI : Hid (IsStrs w.heap.size w p len cap xs) := hI
  have hIl := hI.1
  have hlc := hI.2.1
  have hcc := hI.2.2.1
  clear hI
  go_enter Try.func27, Try.ntmps27
  go_wp2
  go_loopw [3, 9] (fun v i wr => ∃ (k : Nat) (q : Option Addr) (n c : Nat), k ≤ len ∧ i = .int .i64 k ∧ v = .slice q n c ∧ (n = 0 → q = none ∧ c = 0) ∧ OwnS w.heap.size wr (.slice q n c) (srt (xs.take k)) ∧ Below w.heap.size w wr) (fun _ i _ => len - (intOf i).toNat)
  case atStart => exact ⟨0, none, 0, 0, Nat.zero_le _, rfl, rfl, fun _ => ⟨rfl, rfl⟩, OwnS.nil _ _, Below.refl _ _⟩
  case round =>
    obtain ⟨wo, rfl⟩ : ∃ wo, wo = wr := ⟨_, rfl⟩
    obtain ⟨k, q, n, c, hk, rfl, rfl, hnil, hout, hbel⟩ := hrel
    by_cases hlt : k < len
    · have hki : (k : Int) < (len : Int) := by omega
      obtain ⟨b, off, rfl, hb, hcx⟩ : ∃ b off, p = some ⟨b, off, none⟩ ∧ b < w.heap.size ∧ wo.cell? ⟨b, off + k, none⟩ = some (.string (xs.getD k ⟨#[]⟩)) := by
        rcases (HI.out.below hbel).2.2.2 with h | ⟨b, off, e, hb, h⟩
        · omega
        · refine ⟨b, off, e, hb, ?_⟩
          have := h k (by omega)
          rw [this, List.getD_eq_getElem?_getD, List.getElem?_eq_getElem (show k < xs.length by omega)]; rfl
      have HStep : Hid (srt (xs.take (k + 1)) = insS (xs.getD k ⟨#[]⟩) (srt (xs.take k))) := srt_take xs k (by omega)
      generalize xs.getD k ⟨#[]⟩ = x at *
      have hnl0 : (srt (xs.take k)).length = k := by rw [srt_length]; simp; omega
      generalize srt (xs.take k) = out at *
      have hnl : out.length = n := hout.strs.1
      have hnc := hout.strs.2.1
      have hc63 := hout.strs.2.2.1
      have HO : Hid (OwnS w.heap.size wo (.slice q n c) out) := hout
      have HS : Hid (IsStrs wo.heap.size wo q n c out) := hout.strs
      have HBr : Hid (Below w.heap.size w wo) := hbel
      clear hout hbel
      go_wp2
      go_loopw [6] (fun j wr2 => ∃ (m : Nat), m ≤ n ∧ j = .int .i64 m ∧ (∀ j, j < m → leB (out.getD j ⟨#[]⟩) x = true) ∧ wr2 = wo) (fun j _ => n - (intOf j).toNat)
      case atStart => exact ⟨0, Nat.zero_le _, rfl, fun j hj => by omega, rfl⟩
      case round =>
        obtain ⟨m, hm, rfl, h1, hw⟩ := hrel
        subst hw
        have hml : m ≤ out.length := by omega
        have hml' : m ≤ n := hm
        by_cases hmn : m < n
        · have hmni : (m : Int) < (n : Int) := by omega
          obtain ⟨g, rfl, _, hgl, _, _, _⟩ := HO.out.row (by omega)
          clear hnil
          obtain ⟨y, hyd⟩ : ∃ y, out.getD m ⟨#[]⟩ = y := ⟨_, rfl⟩
          have hcy : wr.cell? ⟨g, m, none⟩ = some (.string y) := by
            rcases HS.out.2.2.2 with h | ⟨b', off', e, _, h⟩
            · omega
            · cases e
              have := h m (by omega)
              rw [Nat.zero_add] at this
              rw [this, ← hyd, List.getD_eq_getElem?_getD, List.getElem?_eq_getElem (show m < out.length by omega)]; rfl
          have hm63 : (m : Int) + 1 ≤ 9223372036854775807 := by omega
          have hbin0 := leq_run y x
          cases hle : leB y x with
          | true =>
            have HNx : Hid (∀ j, j < m + 1 → leB (out.getD j ⟨#[]⟩) x = true) := fun j hj => by
              by_cases e : j = m
              · subst e; rw [hyd]; exact hle
              · exact h1 j (by omega)
            rw [hle] at hbin0
            clear h1 hyd hle
            go_wp2_with (simp only [hbin0])
            go_roundw
            case rel => exact ⟨m + 1, by omega, by go_num, HNx.out, by first | rfl | trivial⟩
            case measure => simp [intOf]; omega
          | false =>
            rw [hle] at hbin0
            have hcm : ¬ (c = m) := by omega
            have hmc : (m : Int) ≤ (c : Int) := by omega
            have h2 : m < out.length → leB (out.getD m ⟨#[]⟩) x = false := fun _ => by rw [hyd]; exact hle
            obtain ⟨W4, hW4⟩ : ∃ W4, wr.drew.alloc (.cells #[.string x] 9) = W4 := ⟨_, rfl⟩
            have hb4 : Below wr.heap.size wr W4 := by rw [← hW4]; exact ((Below.refl _ wr).drew).alloc (Nat.le_refl _) _
            have hs4 : W4.heap.size = wr.heap.size + 1 := by rw [← hW4]; simp
            have ho4 : OwnS wr.heap.size W4 (.slice (some ⟨wr.heap.size, 0, none⟩) 1 1) [x] := by
              have hr4 : Row W4 wr.heap.size 9 [.string x] := by rw [← hW4]; exact Row.new wr.drew 9 #[.string x]
              exact ⟨by simp, .inr ⟨wr.heap.size, 1, #[.string x], rfl, Nat.le_refl _, hr4, Nat.le_refl _, by simp only [maxLen]; omega, by simp, by simp [Go.Proofs.Ytlmfdifnkkdpfaa.strs]⟩⟩
            have hIr : IsStrs W4.heap.size W4 (some ⟨g, m, none⟩) (n - m) (c - m) (out.drop m) := ((isStrs_drop HS.out hmn).below hb4).mono hb4.size
            obtain ⟨v5, W5, hrun5, ho5, hg5⟩ := run_append_strl W4 wr.heap.size 48 _ [x] ho4 hIr (by rw [List.length_singleton]; omega) (by omega)
            have hb5 : Below wr.heap.size wr W5 := hb4.grown hg5 (by omega) (fun k e => (World.ownsRow.lt ho4 k e).1)
            obtain ⟨q5, c5, hu5⟩ := ho5.slice
            subst hu5
            have hI5 := ho5.strs
            have hn5 : ([x] ++ out.drop m).length = (1 + (n - m)) := by rw [List.length_append, List.length_drop, List.length_singleton]; omega
            rw [hn5] at ho5 hI5 hrun5
            obtain ⟨g5, hq5, _⟩ := ho5.row (by omega)
            subst hq5
            have hIl : IsStrs W5.heap.size W5 (some ⟨g, 0, none⟩) m m (out.take m) := isStrs_take ((HS.out.below hb5).mono hb5.size) hml'
            obtain ⟨v6, W6, hrun6, ho6, hb6⟩ := run_append_fullS W5 48 hIl (fun h => by cases h) hI5 (by omega) (by omega)
            have hb26 : Below wr.heap.size wr W6 := hb5.trans (hb6.mono hb5.size)
            have hnew : out.take m ++ ([x] ++ out.drop m) = srt (xs.take (k + 1)) := by rw [HStep.out, insS_at hml h1 h2]; rfl
            rw [hnew] at ho6
            obtain ⟨q6, c6, hu6⟩ := ho6.slice
            subst hu6
            have HO6 : Hid (OwnS w.heap.size W6 (.slice q6 (srt (xs.take (k + 1))).length c6) (srt (xs.take (k + 1)))) := ho6.mono (by have := hb5.size; have := HBr.out.size; omega)
            have HN6 : Hid ((srt (xs.take (k + 1))).length ≠ 0) := by show _ ≠ _; rw [srt_length, List.length_take]; omega
            have HRun5 : Hid ((Builtin.append_ #[48, 48] 48 #[.slice (some ⟨wr.heap.size, 0, none⟩) 1 1, .slice (some ⟨g, m, none⟩) (n - m) (c - m)]).run Try.prog W4 = .ok (.slice (some ⟨g5, 0, none⟩) (1 + (n - m)) c5) W5) := hrun5
            have HRun6 : Hid ((Builtin.append_ #[48, 48] 48 #[.slice (some ⟨g, 0, none⟩) m m, .slice (some ⟨g5, 0, none⟩) (1 + (n - m)) c5]).run Try.prog W5 = .ok (.slice q6 (srt (xs.take (k + 1))).length c6) W6) := hrun6
            have HB4 : Hid (Below wr.heap.size wr W4) := hb4
            have HB5 : Hid (Below wr.heap.size wr W5) := hb5
            have HB6 : Hid (Below wr.heap.size wr W6) := hb26
            have HW4 : Hid ((wr.alloc (.cells #[.string x] 9)).drew = W4) := hW4
            clear hb4 hs4 ho4 hIr hrun5 ho5 hg5 hb5 hI5 hn5 hIl hrun6 ho6 hb6 hb26 hnew hW4 h1
            go_wp2_with (simp only [hbin0])
            refine wp_region_held_drew (S := fun W => Below wr.heap.size wr W) (by kernel_rfl) (Below.refl _ _).drew (fun hHeld => ?_)
            refine wpAnyH_takesAt 0 5 7 (of_decide_eq_true (by kernel_rfl)) rfl (fun _ _ _ d _ h => by cases d <;> exact h) (by kernel_rfl) (by kernel_rfl) hHeld ?_
            simp only [List.drop_zero, List.take_succ_cons, List.take_zero]
            iterate 5 (refine wpHeld_step (v := ?_) (by rfl) (fun wz hSw => ?_) ?_; rotate_left; (focus ((try dsimp only at hSw); go_simp; try with_reducible rfl)); (simp only [Act.put, List.setIfInBounds_toArray, List.set_cons_zero, List.set_cons_succ]))
            refine wpHeld_nil ?_
            refine wpAnyH_takesAt 6 3 4 (of_decide_eq_true (by kernel_rfl)) rfl (fun _ _ _ d _ h => by cases d <;> exact h) (by kernel_rfl) (by kernel_rfl) hHeld ?_
            simp only [List.drop_succ_cons, List.drop_zero, List.take_succ_cons, List.take_zero]
            iterate 3 (refine wpHeld_step (v := ?_) (by rfl) (fun wz hSw => ?_) ?_; rotate_left; (focus ((try dsimp only at hSw); go_simp; try with_reducible rfl)); (simp only [Act.put, List.setIfInBounds_toArray, List.set_cons_zero, List.set_cons_succ]))
            refine wpHeld_nil ?_
            refine wpAnyH_only (i := 5) (by kernel_rfl) rfl (fun K hK => ?_)
            rw [if_pos (by rfl)]
            go_simp
            rw [HW4.out]
            refine hK.out _ _ HB4.out ?_
            clear hK K hHeld
            refine wpAnyH_only (i := 9) (by kernel_rfl) rfl (fun K hK => ?_)
            rw [if_pos (by rfl)]
            refine wp_append_of (.tmp 32) (.tmp 35) 48 rfl rfl rfl HRun5.out ?_
            refine hK.out _ _ HB5.out ?_
            clear hK K
            refine wpAnyH_only (i := 10) (by kernel_rfl) rfl (fun K hK => ?_)
            rw [if_pos (by rfl)]
            refine wp_append_of (.tmp 30) (.tmp 36) 48 rfl rfl rfl HRun6.out ?_
            refine hK.out _ _ HB6.out ?_
            clear hK K
            refine wpAnyH_only (i := 11) (by kernel_rfl) rfl (fun K hK => ?_)
            rw [if_pos (by rfl)]
            go_simp
            refine hK.out _ _ HB6.out ?_
            clear hK K
            refine wpAnyH_done (by kernel_rfl) ?_ _
            go_wp2
            go_roundw
            case rel => exact ⟨k + 1, q6, _, c6, by omega, by go_num, rfl, fun h => absurd h HN6.out, HO6.out, HBr.out.trans (HB6.out.mono HBr.out.size)⟩
            case measure => simp [intOf]; omega
        · obtain rfl : m = n := by omega
          have h2 : m < out.length → leB (out.getD m ⟨#[]⟩) x = false := fun h => by omega
          by_cases hm0 : m = 0
          · obtain ⟨rfl, rfl⟩ := hnil hm0
            subst hm0
            clear hnil
            obtain ⟨W4, hW4⟩ : ∃ W4, wr.drew.alloc (.cells #[.string x] 9) = W4 := ⟨_, rfl⟩
            have hb4 : Below wr.heap.size wr W4 := by rw [← hW4]; exact ((Below.refl _ wr).drew).alloc (Nat.le_refl _) _
            have hs4 : W4.heap.size = wr.heap.size + 1 := by rw [← hW4]; simp
            have ho4 : OwnS wr.heap.size W4 (.slice (some ⟨wr.heap.size, 0, none⟩) 1 1) [x] := by
              have hr4 : Row W4 wr.heap.size 9 [.string x] := by rw [← hW4]; exact Row.new wr.drew 9 #[.string x]
              exact ⟨by simp, .inr ⟨wr.heap.size, 1, #[.string x], rfl, Nat.le_refl _, hr4, Nat.le_refl _, by simp only [maxLen]; omega, by simp, by simp [Go.Proofs.Ytlmfdifnkkdpfaa.strs]⟩⟩
            have hIr : IsStrs W4.heap.size W4 none 0 0 (out.drop 0) := ⟨by rw [List.length_drop]; omega, Nat.le_refl _, by omega, .inl rfl⟩
            obtain ⟨v5, W5, hrun5, ho5, hg5⟩ := run_append_strl W4 wr.heap.size 48 _ [x] ho4 hIr (by rw [List.length_singleton]; omega) (by omega)
            have hb5 : Below wr.heap.size wr W5 := hb4.grown hg5 (by omega) (fun k e => (World.ownsRow.lt ho4 k e).1)
            obtain ⟨q5, c5, hu5⟩ := ho5.slice
            subst hu5
            have hI5 := ho5.strs
            have hn5 : ([x] ++ out.drop 0).length = 1 := by rw [List.length_append, List.length_drop, List.length_singleton]; omega
            rw [hn5] at ho5 hI5 hrun5
            obtain ⟨g5, hq5, _⟩ := ho5.row (by omega)
            subst hq5
            have hIl : IsStrs W5.heap.size W5 none 0 0 (out.take 0) := ⟨by simp, Nat.le_refl _, by omega, .inl rfl⟩
            obtain ⟨v6, W6, hrun6, ho6, hb6⟩ := run_append_fullS W5 48 hIl (fun _ => rfl) hI5 (by omega) (by omega)
            have hb26 : Below wr.heap.size wr W6 := hb5.trans (hb6.mono hb5.size)
            have hnew : out.take 0 ++ ([x] ++ out.drop 0) = srt (xs.take (k + 1)) := by rw [HStep.out, insS_at hml h1 h2]; rfl
            rw [hnew] at ho6
            obtain ⟨q6, c6, hu6⟩ := ho6.slice
            subst hu6
            have HO6 : Hid (OwnS w.heap.size W6 (.slice q6 (srt (xs.take (k + 1))).length c6) (srt (xs.take (k + 1)))) := ho6.mono (by have := hb5.size; have := HBr.out.size; omega)
            have HN6 : Hid ((srt (xs.take (k + 1))).length ≠ 0) := by show _ ≠ _; rw [srt_length, List.length_take]; omega
            have HRun5 : Hid ((Builtin.append_ #[48, 48] 48 #[.slice (some ⟨wr.heap.size, 0, none⟩) 1 1, .slice none 0 0]).run Try.prog W4 = .ok (.slice (some ⟨g5, 0, none⟩) 1 c5) W5) := hrun5
            have HRun6 : Hid ((Builtin.append_ #[48, 48] 48 #[.slice none 0 0, .slice (some ⟨g5, 0, none⟩) 1 c5]).run Try.prog W5 = .ok (.slice q6 (srt (xs.take (k + 1))).length c6) W6) := hrun6
            have HB4 : Hid (Below wr.heap.size wr W4) := hb4
            have HB5 : Hid (Below wr.heap.size wr W5) := hb5
            have HB6 : Hid (Below wr.heap.size wr W6) := hb26
            have HW4 : Hid ((wr.alloc (.cells #[.string x] 9)).drew = W4) := hW4
            clear hb4 hs4 ho4 hIr hrun5 ho5 hg5 hb5 hI5 hn5 hIl hrun6 ho6 hb6 hb26 hnew hW4 h1
            go_wp2
            refine wp_region_held_drew (S := fun W => Below wr.heap.size wr W) (by kernel_rfl) (Below.refl _ _).drew (fun hHeld => ?_)
            refine wpAnyH_takesAt 0 5 7 (of_decide_eq_true (by kernel_rfl)) rfl (fun _ _ _ d _ h => by cases d <;> exact h) (by kernel_rfl) (by kernel_rfl) hHeld ?_
            simp only [List.drop_zero, List.take_succ_cons, List.take_zero]
            iterate 5 (refine wpHeld_step (v := ?_) (by rfl) (fun wz hSw => ?_) ?_; rotate_left; (focus ((try dsimp only at hSw); go_simp; try with_reducible rfl)); (simp only [Act.put, List.setIfInBounds_toArray, List.set_cons_zero, List.set_cons_succ]))
            refine wpHeld_nil ?_
            refine wpAnyH_takesAt 6 3 4 (of_decide_eq_true (by kernel_rfl)) rfl (fun _ _ _ d _ h => by cases d <;> exact h) (by kernel_rfl) (by kernel_rfl) hHeld ?_
            simp only [List.drop_succ_cons, List.drop_zero, List.take_succ_cons, List.take_zero]
            iterate 3 (refine wpHeld_step (v := ?_) (by rfl) (fun wz hSw => ?_) ?_; rotate_left; (focus ((try dsimp only at hSw); go_simp; try with_reducible rfl)); (simp only [Act.put, List.setIfInBounds_toArray, List.set_cons_zero, List.set_cons_succ]))
            refine wpHeld_nil ?_
            refine wpAnyH_only (i := 5) (by kernel_rfl) rfl (fun K hK => ?_)
            rw [if_pos (by rfl)]
            go_simp
            rw [HW4.out]
            refine hK.out _ _ HB4.out ?_
            clear hK K hHeld
            refine wpAnyH_only (i := 9) (by kernel_rfl) rfl (fun K hK => ?_)
            rw [if_pos (by rfl)]
            refine wp_append_of (.tmp 32) (.tmp 35) 48 rfl rfl rfl HRun5.out ?_
            refine hK.out _ _ HB5.out ?_
            clear hK K
            refine wpAnyH_only (i := 10) (by kernel_rfl) rfl (fun K hK => ?_)
            rw [if_pos (by rfl)]
            refine wp_append_of (.tmp 30) (.tmp 36) 48 rfl rfl rfl HRun6.out ?_
            refine hK.out _ _ HB6.out ?_
            clear hK K
            refine wpAnyH_only (i := 11) (by kernel_rfl) rfl (fun K hK => ?_)
            rw [if_pos (by rfl)]
            go_simp
            refine hK.out _ _ HB6.out ?_
            clear hK K
            refine wpAnyH_done (by kernel_rfl) ?_ _
            go_wp2
            go_roundw
            case rel => exact ⟨k + 1, q6, _, c6, by omega, by go_num, rfl, fun h => absurd h HN6.out, HO6.out, HBr.out.trans (HB6.out.mono HBr.out.size)⟩
            case measure => simp [intOf]; omega
          · obtain ⟨g, rfl, _, hgl, _, _, _⟩ := HO.out.row (by omega)
            clear hnil
            have hmc : (m : Int) ≤ (c : Int) := by omega
            by_cases hcm : c = m
            · have hcm' : m = c := hcm.symm
              clear hcm
              subst hcm'
              obtain ⟨W4, hW4⟩ : ∃ W4, wr.drew.alloc (.cells #[.string x] 9) = W4 := ⟨_, rfl⟩
              have hb4 : Below wr.heap.size wr W4 := by rw [← hW4]; exact ((Below.refl _ wr).drew).alloc (Nat.le_refl _) _
              have hs4 : W4.heap.size = wr.heap.size + 1 := by rw [← hW4]; simp
              have ho4 : OwnS wr.heap.size W4 (.slice (some ⟨wr.heap.size, 0, none⟩) 1 1) [x] := by
                have hr4 : Row W4 wr.heap.size 9 [.string x] := by rw [← hW4]; exact Row.new wr.drew 9 #[.string x]
                exact ⟨by simp, .inr ⟨wr.heap.size, 1, #[.string x], rfl, Nat.le_refl _, hr4, Nat.le_refl _, by simp only [maxLen]; omega, by simp, by simp [Go.Proofs.Ytlmfdifnkkdpfaa.strs]⟩⟩
              have hIr : IsStrs W4.heap.size W4 (some ⟨g, 0, none⟩) 0 0 (out.drop m) := ⟨by rw [List.length_drop]; omega, Nat.le_refl _, by omega, .inl rfl⟩
              obtain ⟨v5, W5, hrun5, ho5, hg5⟩ := run_append_strl W4 wr.heap.size 48 _ [x] ho4 hIr (by rw [List.length_singleton]; omega) (by omega)
              have hb5 : Below wr.heap.size wr W5 := hb4.grown hg5 (by omega) (fun k e => (World.ownsRow.lt ho4 k e).1)
              obtain ⟨q5, c5, hu5⟩ := ho5.slice
              subst hu5
              have hI5 := ho5.strs
              have hn5 : ([x] ++ out.drop m).length = 1 := by rw [List.length_append, List.length_drop, List.length_singleton]; omega
              rw [hn5] at ho5 hI5 hrun5
              obtain ⟨g5, hq5, _⟩ := ho5.row (by omega)
              subst hq5
              have hIl : IsStrs W5.heap.size W5 (some ⟨g, 0, none⟩) m m (out.take m) := isStrs_take ((HS.out.below hb5).mono hb5.size) hml'
              obtain ⟨v6, W6, hrun6, ho6, hb6⟩ := run_append_fullS W5 48 hIl (fun h => by cases h) hI5 (by omega) (by omega)
              have hb26 : Below wr.heap.size wr W6 := hb5.trans (hb6.mono hb5.size)
              have hnew : out.take m ++ ([x] ++ out.drop m) = srt (xs.take (k + 1)) := by rw [HStep.out, insS_at hml h1 h2]; rfl
              rw [hnew] at ho6
              obtain ⟨q6, c6, hu6⟩ := ho6.slice
              subst hu6
              have HO6 : Hid (OwnS w.heap.size W6 (.slice q6 (srt (xs.take (k + 1))).length c6) (srt (xs.take (k + 1)))) := ho6.mono (by have := hb5.size; have := HBr.out.size; omega)
              have HN6 : Hid ((srt (xs.take (k + 1))).length ≠ 0) := by show _ ≠ _; rw [srt_length, List.length_take]; omega
              have HRun5 : Hid ((Builtin.append_ #[48, 48] 48 #[.slice (some ⟨wr.heap.size, 0, none⟩) 1 1, .slice (some ⟨g, 0, none⟩) 0 0]).run Try.prog W4 = .ok (.slice (some ⟨g5, 0, none⟩) 1 c5) W5) := hrun5
              have HRun6 : Hid ((Builtin.append_ #[48, 48] 48 #[.slice (some ⟨g, 0, none⟩) m m, .slice (some ⟨g5, 0, none⟩) 1 c5]).run Try.prog W5 = .ok (.slice q6 (srt (xs.take (k + 1))).length c6) W6) := hrun6
              have HB4 : Hid (Below wr.heap.size wr W4) := hb4
              have HB5 : Hid (Below wr.heap.size wr W5) := hb5
              have HB6 : Hid (Below wr.heap.size wr W6) := hb26
              have HW4 : Hid ((wr.alloc (.cells #[.string x] 9)).drew = W4) := hW4
              clear hb4 hs4 ho4 hIr hrun5 ho5 hg5 hb5 hI5 hn5 hIl hrun6 ho6 hb6 hb26 hnew hW4 h1
              go_wp2
              refine wp_region_held_drew (S := fun W => Below wr.heap.size wr W) (by kernel_rfl) (Below.refl _ _).drew (fun hHeld => ?_)
              refine wpAnyH_takesAt 0 5 7 (of_decide_eq_true (by kernel_rfl)) rfl (fun _ _ _ d _ h => by cases d <;> exact h) (by kernel_rfl) (by kernel_rfl) hHeld ?_
              simp only [List.drop_zero, List.take_succ_cons, List.take_zero]
              iterate 5 (refine wpHeld_step (v := ?_) (by rfl) (fun wz hSw => ?_) ?_; rotate_left; (focus ((try dsimp only at hSw); go_simp; try with_reducible rfl)); (simp only [Act.put, List.setIfInBounds_toArray, List.set_cons_zero, List.set_cons_succ]))
              refine wpHeld_nil ?_
              refine wpAnyH_takesAt 6 3 4 (of_decide_eq_true (by kernel_rfl)) rfl (fun _ _ _ d _ h => by cases d <;> exact h) (by kernel_rfl) (by kernel_rfl) hHeld ?_
              simp only [List.drop_succ_cons, List.drop_zero, List.take_succ_cons, List.take_zero]
              iterate 3 (refine wpHeld_step (v := ?_) (by rfl) (fun wz hSw => ?_) ?_; rotate_left; (focus ((try dsimp only at hSw); go_simp; try with_reducible rfl)); (simp only [Act.put, List.setIfInBounds_toArray, List.set_cons_zero, List.set_cons_succ]))
              refine wpHeld_nil ?_
              refine wpAnyH_only (i := 5) (by kernel_rfl) rfl (fun K hK => ?_)
              rw [if_pos (by rfl)]
              go_simp
              rw [HW4.out]
              refine hK.out _ _ HB4.out ?_
              clear hK K hHeld
              refine wpAnyH_only (i := 9) (by kernel_rfl) rfl (fun K hK => ?_)
              rw [if_pos (by rfl)]
              refine wp_append_of (.tmp 32) (.tmp 35) 48 rfl rfl rfl HRun5.out ?_
              refine hK.out _ _ HB5.out ?_
              clear hK K
              refine wpAnyH_only (i := 10) (by kernel_rfl) rfl (fun K hK => ?_)
              rw [if_pos (by rfl)]
              refine wp_append_of (.tmp 30) (.tmp 36) 48 rfl rfl rfl HRun6.out ?_
              refine hK.out _ _ HB6.out ?_
              clear hK K
              refine wpAnyH_only (i := 11) (by kernel_rfl) rfl (fun K hK => ?_)
              rw [if_pos (by rfl)]
              go_simp
              refine hK.out _ _ HB6.out ?_
              clear hK K
              refine wpAnyH_done (by kernel_rfl) ?_ _
              go_wp2
              go_roundw
              case rel => exact ⟨k + 1, q6, _, c6, by omega, by go_num, rfl, fun h => absurd h HN6.out, HO6.out, HBr.out.trans (HB6.out.mono HBr.out.size)⟩
              case measure => simp [intOf]; omega
            · skip
              obtain ⟨W4, hW4⟩ : ∃ W4, wr.drew.alloc (.cells #[.string x] 9) = W4 := ⟨_, rfl⟩
              have hb4 : Below wr.heap.size wr W4 := by rw [← hW4]; exact ((Below.refl _ wr).drew).alloc (Nat.le_refl _) _
              have hs4 : W4.heap.size = wr.heap.size + 1 := by rw [← hW4]; simp
              have ho4 : OwnS wr.heap.size W4 (.slice (some ⟨wr.heap.size, 0, none⟩) 1 1) [x] := by
                have hr4 : Row W4 wr.heap.size 9 [.string x] := by rw [← hW4]; exact Row.new wr.drew 9 #[.string x]
                exact ⟨by simp, .inr ⟨wr.heap.size, 1, #[.string x], rfl, Nat.le_refl _, hr4, Nat.le_refl _, by simp only [maxLen]; omega, by simp, by simp [Go.Proofs.Ytlmfdifnkkdpfaa.strs]⟩⟩
              have hIr : IsStrs W4.heap.size W4 (some ⟨g, m, none⟩) 0 (c - m) (out.drop m) := ⟨by rw [List.length_drop]; omega, by omega, by omega, .inl rfl⟩
              obtain ⟨v5, W5, hrun5, ho5, hg5⟩ := run_append_strl W4 wr.heap.size 48 _ [x] ho4 hIr (by rw [List.length_singleton]; omega) (by omega)
              have hb5 : Below wr.heap.size wr W5 := hb4.grown hg5 (by omega) (fun k e => (World.ownsRow.lt ho4 k e).1)
              obtain ⟨q5, c5, hu5⟩ := ho5.slice
              subst hu5
              have hI5 := ho5.strs
              have hn5 : ([x] ++ out.drop m).length = 1 := by rw [List.length_append, List.length_drop, List.length_singleton]; omega
              rw [hn5] at ho5 hI5 hrun5
              obtain ⟨g5, hq5, _⟩ := ho5.row (by omega)
              subst hq5
              have hIl : IsStrs W5.heap.size W5 (some ⟨g, 0, none⟩) m m (out.take m) := isStrs_take ((HS.out.below hb5).mono hb5.size) hml'
              obtain ⟨v6, W6, hrun6, ho6, hb6⟩ := run_append_fullS W5 48 hIl (fun h => by cases h) hI5 (by omega) (by omega)
              have hb26 : Below wr.heap.size wr W6 := hb5.trans (hb6.mono hb5.size)
              have hnew : out.take m ++ ([x] ++ out.drop m) = srt (xs.take (k + 1)) := by rw [HStep.out, insS_at hml h1 h2]; rfl
              rw [hnew] at ho6
              obtain ⟨q6, c6, hu6⟩ := ho6.slice
              subst hu6
              have HO6 : Hid (OwnS w.heap.size W6 (.slice q6 (srt (xs.take (k + 1))).length c6) (srt (xs.take (k + 1)))) := ho6.mono (by have := hb5.size; have := HBr.out.size; omega)
              have HN6 : Hid ((srt (xs.take (k + 1))).length ≠ 0) := by show _ ≠ _; rw [srt_length, List.length_take]; omega
              have HRun5 : Hid ((Builtin.append_ #[48, 48] 48 #[.slice (some ⟨wr.heap.size, 0, none⟩) 1 1, .slice (some ⟨g, m, none⟩) 0 (c - m)]).run Try.prog W4 = .ok (.slice (some ⟨g5, 0, none⟩) 1 c5) W5) := hrun5
              have HRun6 : Hid ((Builtin.append_ #[48, 48] 48 #[.slice (some ⟨g, 0, none⟩) m m, .slice (some ⟨g5, 0, none⟩) 1 c5]).run Try.prog W5 = .ok (.slice q6 (srt (xs.take (k + 1))).length c6) W6) := hrun6
              have HB4 : Hid (Below wr.heap.size wr W4) := hb4
              have HB5 : Hid (Below wr.heap.size wr W5) := hb5
              have HB6 : Hid (Below wr.heap.size wr W6) := hb26
              have HW4 : Hid ((wr.alloc (.cells #[.string x] 9)).drew = W4) := hW4
              clear hb4 hs4 ho4 hIr hrun5 ho5 hg5 hb5 hI5 hn5 hIl hrun6 ho6 hb6 hb26 hnew hW4 h1
              go_wp2
              refine wp_region_held_drew (S := fun W => Below wr.heap.size wr W) (by kernel_rfl) (Below.refl _ _).drew (fun hHeld => ?_)
              refine wpAnyH_takesAt 0 5 7 (of_decide_eq_true (by kernel_rfl)) rfl (fun _ _ _ d _ h => by cases d <;> exact h) (by kernel_rfl) (by kernel_rfl) hHeld ?_
              simp only [List.drop_zero, List.take_succ_cons, List.take_zero]
              iterate 5 (refine wpHeld_step (v := ?_) (by rfl) (fun wz hSw => ?_) ?_; rotate_left; (focus ((try dsimp only at hSw); go_simp; try with_reducible rfl)); (simp only [Act.put, List.setIfInBounds_toArray, List.set_cons_zero, List.set_cons_succ]))
              refine wpHeld_nil ?_
              refine wpAnyH_takesAt 6 3 4 (of_decide_eq_true (by kernel_rfl)) rfl (fun _ _ _ d _ h => by cases d <;> exact h) (by kernel_rfl) (by kernel_rfl) hHeld ?_
              simp only [List.drop_succ_cons, List.drop_zero, List.take_succ_cons, List.take_zero]
              iterate 3 (refine wpHeld_step (v := ?_) (by rfl) (fun wz hSw => ?_) ?_; rotate_left; (focus ((try dsimp only at hSw); go_simp; try with_reducible rfl)); (simp only [Act.put, List.setIfInBounds_toArray, List.set_cons_zero, List.set_cons_succ]))
              refine wpHeld_nil ?_
              refine wpAnyH_only (i := 5) (by kernel_rfl) rfl (fun K hK => ?_)
              rw [if_pos (by rfl)]
              go_simp
              rw [HW4.out]
              refine hK.out _ _ HB4.out ?_
              clear hK K hHeld
              refine wpAnyH_only (i := 9) (by kernel_rfl) rfl (fun K hK => ?_)
              rw [if_pos (by rfl)]
              refine wp_append_of (.tmp 32) (.tmp 35) 48 rfl rfl rfl HRun5.out ?_
              refine hK.out _ _ HB5.out ?_
              clear hK K
              refine wpAnyH_only (i := 10) (by kernel_rfl) rfl (fun K hK => ?_)
              rw [if_pos (by rfl)]
              refine wp_append_of (.tmp 30) (.tmp 36) 48 rfl rfl rfl HRun6.out ?_
              refine hK.out _ _ HB6.out ?_
              clear hK K
              refine wpAnyH_only (i := 11) (by kernel_rfl) rfl (fun K hK => ?_)
              rw [if_pos (by rfl)]
              go_simp
              refine hK.out _ _ HB6.out ?_
              clear hK K
              refine wpAnyH_done (by kernel_rfl) ?_ _
              go_wp2
              go_roundw
              case rel => exact ⟨k + 1, q6, _, c6, by omega, by go_num, rfl, fun h => absurd h HN6.out, HO6.out, HBr.out.trans (HB6.out.mono HBr.out.size)⟩
              case measure => simp [intOf]; omega
    · obtain rfl : k = len := by omega
      have HTk : Hid (srt (xs.take k) = srt xs) := by show _ = _; rw [List.take_of_length_le (by omega)]
      rw [HTk.out] at hout
      have HO2 : Hid (OwnS w.heap.size wo (.slice q n c) (srt xs)) := hout
      clear hout
      go_wp2
      go_ret
      exact ⟨_, _, _, rfl, HO2.out, hbel⟩
end Go.Proofs.Ytlmfdifnkkdpfaa
