/-
  DiskDoes: the walk.
-/
import Derived.Test.YtffngjglgdbncaaAlike
import Derived.Test.YtffngjglgdbncaaRefWr
import Derived.Test.YtffngjglgdbncaaRefNew
import Derived.Test.YtffngjglgdbncaaAwake
import Derived.Test.YtffngjglgdbncaaArgsD
namespace Go.Proofs.Ytffngjglgdbncaa
open Go.RowKit Go.Shelf

theorem size31 : (Try.prog.info? 31).map (·.size) = some 66 := by kernel_rfl
theorem info31 : (Try.prog.info? 31).map (fun i => (i.zero, i.size, i.bytes)) = some (some (.agg (deedC noDeed).toArray), 66, 80) := by kernel_rfl
theorem zero31 : ∃ Z : List Value, Z.length = 66 ∧ ∀ w : World, Sem.run Try.prog (zeroValue 31) w = .ok (.agg Z.toArray) w := by
  obtain ⟨i0, hi, hz0, hz1, hz2⟩ := info_parts info31
  refine ⟨deedC noDeed, by simp [deedC, noDeed, zeros64], fun w => ?_⟩
  generalize deedC noDeed = Z at *
  simp [zeroValue, typeInfo, hi, hz0]
/-- Both disks, apart from each other. -/
structure Both (n₀ p g p' g' : Nat) (W : World) (d : St) : Prop where
  mine : DiskAt [p, g, p', g'] W p g d
  other : RefAt [p, g, p', g'] W p' g' d
  low : n₀ ≤ p ∧ n₀ ≤ g ∧ n₀ ≤ p' ∧ n₀ ≤ g'
  apart : p ≠ p' ∧ p ≠ g' ∧ g ≠ p' ∧ g ≠ g'

theorem Both.later {n₀ p g p' g' : Nat} {W W' : World} {d : St} (h : Both n₀ p g p' g' W d) (hb : Below W.heap.size W W') : Both n₀ p g p' g' W' d := ⟨h.mine.later hb, h.other.later hb, h.low, h.apart⟩
theorem Both.first {n₀ p g p' g' : Nat} {W W' : World} {d : St} (h : Both n₀ p g p' g' W d) (hb : Buts [p, g] W.heap.size W W') : RefAt [p, g, p', g'] W' p' g' d := by
  have := h.apart
  exact h.other.buts hb (by simp) (by simp; omega) (by simp; omega)
theorem Both.second {n₀ p g p' g' : Nat} {W W1 W' : World} {d d' : St} (h : Both n₀ p g p' g' W d) (hm : DiskAt [p, g, p', g'] W1 p g d') (hr : RefAt [p, g, p', g'] W' p' g' d') (hb : Buts [p', g'] W1.heap.size W1 W') : Both n₀ p g p' g' W' d' := by
  have := h.apart
  exact ⟨hm.buts hb (by simp) (by simp; omega) (by simp; omega), hr, h.low, h.apart⟩
theorem Both.below {n₀ p g p' g' : Nat} {W W1 W' : World} {d : St} (h : Both n₀ p g p' g' W d) (h1 : Buts [p, g] W.heap.size W W1) (h2 : Buts [p', g'] W1.heap.size W1 W') (V : World) (hV : V.heap.size = n₀) (hb : Below n₀ V W) : Below n₀ V W' := by
  have := h.low
  have s0 := hb.size
  have s1 := h1.size
  exact (hb.trans (h1.below (by omega) (by simp; omega))).trans (h2.below (by omega) (by simp; omega))
theorem Both.writes {n₀ p g p' g' : Nat} {W : World} {d : St} (h : Both n₀ p g p' g' W d) : W.cell? ⟨p', 2, none⟩ = some (.int .i64 (d.wr : Nat)) ∧ W.cell? ⟨p', 3, none⟩ = some (.bool d.dead) ∧ W.cell? ⟨p', 0, none⟩ = some (.slice (some ⟨g', 0, none⟩) d.ss.length d.ss.length) := by
  obtain ⟨_, _, _, _, _, q, len, cap, h6, _⟩ := h.other
  exact ⟨h6.cell (i := 2) rfl, h6.cell (i := 3) rfl, h6.cell (i := 0) rfl⟩
theorem write_wr (d : St) (i : Int) (s : List Nat) : (d.write i s).wr ≤ d.wr + 1 := by
  unfold St.write
  split
  · omega
  · split
    · show d.wr ≤ d.wr + 1; omega
    · exact Nat.le_refl _

set_option maxRecDepth 100000 in
set_option maxHeartbeats 8000000 in
theorem diskDoes_walk (n : Int) (a1 : Option Addr) (len1 cap1 : Nat) (cr : List (Int × Int)) (a2 : Option Addr) (len2 cap2 : Nat) (es : List Deed) (W : World) (hC : CrAt [] W a1 len1 cap1 cr) (hE : IsDeeds W a2 len2 cap2 es) :
    Calls Try.prog 3 #[.int .i64 n, .slice a1 len1 cap1, .slice a2 len2 cap2] W fun e W' => e = .returned (.bool true) ∧ Below W.heap.size W W' := by
  have HC : Hid (CrAt [] W a1 len1 cap1 cr) := hC
  have HE : Hid (IsDeeds W a2 len2 cap2 es) := hE
  have hcap1 : len1 ≤ 9223372036854775807 := Nat.le_trans hC.2.1 hC.2.2.1
  have hcap2 : len2 ≤ 9223372036854775807 := Nat.le_trans hE.2.1 hE.2.2.1
  have HL2 : Hid (es.length = len2) := hE.1
  have HL1 : Hid (cr.length = len1) := hC.1
  clear hC hE
  by_cases h1 : 100 < n
  · have g1 : decide (100 < n) = true := decide_eq_true h1
    go_enter Try.func3, Try.ntmps3
    go_wp2_with (go_at_call 6; refine (awake_any _).mono ?_; rintro e w2 ⟨rfl, hb2⟩)
    go_ret
    exact ⟨rfl, hb2⟩
  have g1 : decide (100 < n) = false := decide_eq_false h1
  by_cases h2 : (10 : Int) < (len1 : Int)
  · have g2 : decide ((10 : Int) < (len1 : Int)) = true := decide_eq_true h2
    go_enter Try.func3, Try.ntmps3
    go_wp2_with (go_at_call 6; refine (awake_any _).mono ?_; rintro e w2 ⟨rfl, hb2⟩)
    go_ret
    exact ⟨rfl, hb2⟩
  have g2 : decide ((10 : Int) < (len1 : Int)) = false := decide_eq_false h2
  by_cases h3 : (60 : Int) < (len2 : Int)
  · go_enter Try.func3, Try.ntmps3
    go_wp2_with (go_at_call 6; refine (awake_any _).mono ?_; rintro e w2 ⟨rfl, hb2⟩)
    go_ret
    exact ⟨rfl, hb2⟩
  have g3 : decide ((60 : Int) < (len2 : Int)) = false := decide_eq_false h3
  have hl1 : len1 ≤ 10 := by omega
  have hl2 : len2 ≤ 60 := by omega
  go_enter Try.func3, Try.ntmps3
  go_wp2_with (first
    | (go_at_call 6; refine (awake_any _).mono ?_; rintro e w2 ⟨rfl, hb2⟩)
    | (go_at_call 7; refine (new_any n (HC.out.later hb2) (by omega)).mono ?_; rintro e w3 ⟨p, g, rfl, hp3, hg3, hD3, hb3⟩; have HD3 : Hid (DiskAt [p, g] w3 p g _) := hD3; clear hD3)
    | (go_at_call 8; refine (refNew_any (F₀ := [p, g]) n (((HC.out.later hb2).more (fun x hx => by simp only [List.mem_cons, List.not_mem_nil, or_false] at hx; omega)).later hb3)).mono ?_; rintro e w4 ⟨p', g', rfl, hp4, hg4, hR4, hb4⟩; have HR4 : Hid (RefAt [p', g', p, g] w4 p' g' _) := hR4; clear hR4))
  have HB4 : Hid (Below W.heap.size W w4) := (hb2.trans (hb3.mono hb2.size)).trans (hb4.mono (Nat.le_trans hb2.size hb3.size))
  have HBo4 : Hid (Both W.heap.size p g p' g' w4 (newS n cr)) := by
    have l3 := HD3.out.lt
    have s2 := hb2.size
    have s3 := hb3.size
    refine ⟨(HD3.out.more (fun x hx => ?_) (by simp) (by simp)).later hb4, HR4.out.more (fun x hx => ?_) (by simp) (by simp), ⟨by omega, by omega, by omega, by omega⟩, ⟨by omega, by omega, by omega, by omega⟩⟩
    · simp only [List.mem_cons, List.not_mem_nil, or_false] at hx ⊢
      omega
    · simp only [List.mem_cons, List.not_mem_nil, or_false] at hx ⊢
      omega
  clear HD3 HR4 hb2 hb3 hb4
  go_loopw [37] (fun iv wr => ∃ (k : Nat) (d : St), k ≤ len2 ∧ iv = .int .i64 k ∧ d.wr ≤ k ∧ Both W.heap.size p g p' g' wr d ∧ Below W.heap.size W wr) (fun iv _ => len2 - (intOf iv).toNat)
  case atStart => exact ⟨0, _, Nat.zero_le _, rfl, Nat.le_refl _, HBo4.out, HB4.out⟩
  case round =>
    obtain ⟨k, d, hk, rfl, hwr, hbo, hbl⟩ := hrel
    have HBo : Hid (Both W.heap.size p g p' g' wr d) := hbo
    have HBl : Hid (Below W.heap.size W wr) := hbl
    by_cases hlt : k < len2
    · have hki : (k : Int) < (len2 : Int) := by omega
      obtain ⟨b, off, rfl, hbW, hcell⟩ : ∃ b off, a2 = some ⟨b, off, none⟩ ∧ b < W.heap.size ∧ ∀ i, i < len2 → W.rangeAt b (off + i * 66) (deedC (es.getD i noDeed)) := by
        rcases HE.out.2.2.2.2 with h | h
        · omega
        · exact h
      obtain ⟨x, hx⟩ : ∃ x, es.getD k noDeed = x := ⟨_, rfl⟩
      have hxs : IsSec x.s := by
        rw [← hx]
        refine HE.out.2.2.2.1 _ ?_
        have hkl : k < es.length := by rw [HL2.out]; exact hlt
        rw [List.getD_eq_getElem?_getD, List.getElem?_eq_getElem hkl, Option.getD_some]
        exact List.getElem_mem hkl
      have HRg : Hid (wr.rangeAt b (off + k * 66) (deedC x)) := by
        have := hcell k hlt
        rw [hx] at this
        exact (Buts.of_below (S := []) HBl.out (Nat.le_refl _)).range hbW (by simp) this
      have HDl : Hid ((deedC x).length = 66) := by show _ = _; simp [deedC, hxs.1]
      clear hcell hx
      obtain ⟨Y, hY⟩ : ∃ Y, deedC x = Y := ⟨_, rfl⟩
      rw [hY] at HRg HDl
      have HO31 : Hid (∀ v ∈ Y, v.oneCell' = true) := fun v hv => by
        rw [← hY, deedC, List.mem_cons, List.mem_cons] at hv
        rcases hv with rfl | rfl | hv
        · rfl
        · rfl
        · exact u8s_one _ v hv
      obtain ⟨Z, hZl, hz31⟩ := zero31
      have HZl : Hid (Z.length = 66) := hZl
      clear hZl
      have HY : Hid (deedC x = Y) := hY
      clear hY
      have HXl : Hid ((u8s x.s).length = 64) := by show _ = _; rw [u8s_length]; exact hxs.1
      have HLt : Hid (p < wr.heap.size ∧ g < wr.heap.size ∧ p' < wr.heap.size ∧ g' < wr.heap.size) := ⟨HBo.out.mine.lt.1, HBo.out.mine.lt.2, HBo.out.other.lt.1, HBo.out.other.lt.2⟩
      obtain ⟨w5, hw5⟩ : ∃ w5, (wr.alloc (.cells Z.toArray 31)).setCells wr.heap.size 0 Y = w5 := ⟨_, rfl⟩
      have hb5 : Below wr.heap.size wr w5 := by rw [← hw5]; exact below_setCells (Nat.le_refl _) _ _ ((Below.refl _ wr).alloc (Nat.le_refl _) _)
      have hR5 : Row w5 wr.heap.size 31 (deedC x) := by rw [← hw5, HY.out]; exact (Row.new' wr 31 Z).sets_all (by rw [HDl.out, HZl.out])
      have HW5 : Hid ((wr.alloc (.cells Z.toArray 31)).setCells wr.heap.size 0 Y = w5) := hw5
      have HBo5 : Hid (Both W.heap.size p g p' g' w5 d) := HBo.out.later hb5
      have HBl5 : Hid (Below W.heap.size W w5) := HBl.out.trans (hb5.mono HBl.out.size)
      have HF5 : Hid (∀ W', Buts [p, g, p', g'] w5.heap.size w5 W' → W'.cell? ⟨wr.heap.size, 0, none⟩ = some (.int .i64 x.kind) ∧ W'.cell? ⟨wr.heap.size, 1, none⟩ = some (.int .i64 x.pos) ∧ W'.rangeAt wr.heap.size 2 (u8s x.s)) := fun W' hb => by
        have hr := hb.row hR5.lt (by have := HLt.out; simp; omega) hR5
        refine ⟨hr.cell (i := 0) rfl, hr.cell (i := 1) rfl, fun j v hj => ?_⟩
        exact hr.cell (i := 2 + j) (by rw [Nat.add_comm]; exact hj)
      have hk0 := (HF5.out w5 (Buts.refl _ _ _)).1
      have hk1 := (HF5.out w5 (Buts.refl _ _ _)).2.1
      have HWm : Hid (∀ W', Below w5.heap.size w5 W' → Calls Try.prog 9 #[.pointer (some ⟨p, 0, none⟩), .int .i64 x.pos, .agg (u8s x.s).toArray] W' fun e w' => e = .returned (.int .i64 (d.wErr x.pos)) ∧ DiskAt [p, g, p', g'] w' p g (d.write x.pos x.s) ∧ Buts [p, g] W'.heap.size W' w') := fun W' hb => write_any (HBo5.out.later hb).mine x.pos hxs (by omega)
      have HWo : Hid (∀ W', RefAt [p, g, p', g'] W' p' g' d → Calls Try.prog 10 #[.pointer (some ⟨p', 0, none⟩), .int .i64 x.pos, .agg (u8s x.s).toArray] W' fun e w' => e = .returned (.int .i64 (d.wErr x.pos)) ∧ RefAt [p, g, p', g'] w' p' g' (d.write x.pos x.s) ∧ Buts [p', g'] W'.heap.size W' w') := fun W' h => refWrite_any h x.pos hxs (by omega)
      clear hw5 hb5 hR5 hbo hbl
      generalize u8s x.s = X at *
      by_cases hz0 : x.kind = 0
      · rw [hz0] at hk0
        go_wp2_with (first
          | ((with_reducible show wpList _ _ _ (Oper.mk _ (Op.load 31 (.tmp 39)) _ _ _ _ :: _) _ _); refine wpList_load_mid rfl 31 (.tmp 39) rfl b (off + k * 66) rfl Y _ HRg.out Try.underlying31 rfl (by rw [HDl.out]; exact size31) ?_; simp only [Act.put, List.setIfInBounds_toArray, List.set_cons_zero, List.set_cons_succ])
          | ((with_reducible show wpList _ _ _ (Oper.mk _ (Op.store 31 (.tmp 10) (.tmp 40)) _ _ _ _ :: _) _ _); refine wpList_store_Row rfl 31 (.tmp 10) (.tmp 40) rfl Y rfl rfl (Row.new' wr 31 Z) (by rw [HDl.out]; exact size31) (by rw [HDl.out, HZl.out]) HO31.out ?_; rw [HW5.out]; simp only [Act.put]))
        refine wp_region_held_drew (S := fun W' => Buts [p, g, p', g'] w5.heap.size w5 W') (by kernel_rfl) (Buts.refl _ _ _).drew (fun hHeld => ?_)
        refine wpAnyH_takesAt 0 4 9 (of_decide_eq_true (by kernel_rfl)) rfl (fun _ _ _ d _ h => by cases d <;> exact h) (by kernel_rfl) (by kernel_rfl) hHeld ?_
        simp only [List.drop_zero, List.take_succ_cons, List.take_zero]
        iterate 4 (refine wpHeld_step (v := ?_) (by rfl) (fun wz hSw => ?_) ?_; rotate_left; (focus (obtain ⟨hf1, hf2, hf3⟩ := HF5.out wz hSw; clear hSw; go_simp; try with_reducible rfl)); (simp only [Act.put, List.setIfInBounds_toArray, List.set_cons_zero, List.set_cons_succ]))
        refine wpHeld_nil ?_
        refine wpAnyH_takesAt 4 1 8 (of_decide_eq_true (by kernel_rfl)) rfl (fun _ _ _ d _ h => by cases d <;> exact h) (by kernel_rfl) (by kernel_rfl) hHeld ?_
        simp only [List.drop_succ_cons, List.drop_zero, List.take_succ_cons, List.take_zero]
        refine wpHeld_load (by rfl) 29 (.tmp 52) rfl wr.heap.size (2) rfl X (fun W hW => (HF5.out W hW).2.2) Try.underlying29 (by rw [HXl.out]; exact size29) ?_
        (simp only [Act.put]; (try simp only [List.setIfInBounds_toArray]); (try simp only [List.set_cons_succ]); (try simp only [List.set_cons_zero]))
        refine wpHeld_nil ?_
        refine wpAnyH_takesAt 6 1 7 (of_decide_eq_true (by kernel_rfl)) rfl (fun _ _ _ d _ h => by cases d <;> exact h) (by kernel_rfl) (by kernel_rfl) hHeld ?_
        simp only [List.drop_succ_cons, List.drop_zero, List.take_succ_cons, List.take_zero]
        iterate 1 (refine wpHeld_step (v := ?_) (by rfl) (fun wz hSw => ?_) ?_; rotate_left; (focus ((try dsimp only at hSw); go_simp; try with_reducible rfl)); ((simp only [Act.put]; (try simp only [List.setIfInBounds_toArray]); (try simp only [List.set_cons_succ]); (try simp only [List.set_cons_zero]))))
        refine wpHeld_nil ?_
        refine wpAnyH_takesAt 7 2 5 (of_decide_eq_true (by kernel_rfl)) rfl (fun _ _ _ d _ h => by cases d <;> exact h) (by kernel_rfl) (by kernel_rfl) hHeld ?_
        simp only [List.drop_succ_cons, List.drop_zero, List.take_succ_cons, List.take_zero]
        iterate 2 (refine wpHeld_step (v := ?_) (by rfl) (fun wz hSw => ?_) ?_; rotate_left; (focus (obtain ⟨hf1, hf2, hf3⟩ := HF5.out wz hSw; clear hSw; go_simp; try with_reducible rfl)); (simp only [Act.put, List.setIfInBounds_toArray, List.set_cons_zero, List.set_cons_succ]))
        refine wpHeld_nil ?_
        refine wpAnyH_takesAt 9 1 4 (of_decide_eq_true (by kernel_rfl)) rfl (fun _ _ _ d _ h => by cases d <;> exact h) (by kernel_rfl) (by kernel_rfl) hHeld ?_
        simp only [List.drop_succ_cons, List.drop_zero, List.take_succ_cons, List.take_zero]
        iterate 1 (refine wpHeld_step (v := ?_) (by rfl) (fun wz hSw => ?_) ?_; rotate_left; (focus ((try dsimp only at hSw); go_simp; try with_reducible rfl)); ((simp only [Act.put]; (try simp only [List.setIfInBounds_toArray]); (try simp only [List.set_cons_succ]); (try simp only [List.set_cons_zero]))))
        refine wpHeld_nil ?_
        refine wpAnyH_takesAt 10 1 3 (of_decide_eq_true (by kernel_rfl)) rfl (fun _ _ _ d _ h => by cases d <;> exact h) (by kernel_rfl) (by kernel_rfl) hHeld ?_
        simp only [List.drop_succ_cons, List.drop_zero, List.take_succ_cons, List.take_zero]
        refine wpHeld_load (by rfl) 29 (.tmp 58) rfl wr.heap.size (2) rfl X (fun W hW => (HF5.out W hW).2.2) Try.underlying29 (by rw [HXl.out]; exact size29) ?_
        (simp only [Act.put]; (try simp only [List.setIfInBounds_toArray]); (try simp only [List.set_cons_succ]); (try simp only [List.set_cons_zero]))
        refine wpHeld_nil ?_
        refine wpAnyH_only (i := 5) (by kernel_rfl) rfl (fun K hK => ?_)
        rw [if_pos (by rfl)]
        go_simp
        refine (HWm.out _ (Below.refl _ _).drew).mono ?_
        rintro e w6 ⟨rfl, hD6, hb6⟩
        have HD6 : Hid (DiskAt [p, g, p', g'] w6 p g (d.write x.pos x.s)) := hD6
        have hb6' : Buts [p, g] w5.heap.size w5 w6 := ⟨hb6.os, hb6.tape, hb6.output, hb6.size, hb6.block⟩
        have HR6 : Hid (RefAt [p, g, p', g'] w6 p' g' d) := HBo5.out.first hb6'
        have hS6 : Buts [p, g, p', g'] w5.heap.size w5 w6 := hb6'.mono (by simp) (Nat.le_refl _)
        refine hK.out _ _ hS6 ?_
        clear hK K hD6 hHeld
        have hHeld := hS6
        refine wpAnyH_only (i := 11) (by kernel_rfl) rfl (fun K hK => ?_)
        rw [if_pos (by rfl)]
        go_simp
        refine (HWo.out _ HR6.out).mono ?_
        rintro e w7 ⟨rfl, hR7, hb7⟩
        have HBn : Hid (Both W.heap.size p g p' g' w7 (d.write x.pos x.s)) := HBo5.out.second HD6.out hR7 hb7
        have HBln : Hid (Below W.heap.size W w7) := HBo5.out.below hb6' hb7 W rfl HBl5.out
        have hS7 : Buts [p, g, p', g'] w5.heap.size w5 w7 := hS6.trans (hb7.mono (by simp) hS6.size)
        refine hK.out _ _ hS7 ?_
        clear hK K hHeld hR7 hb6 hb6' hS6
        have hHeld := hS7
        refine wpAnyH_takesAt 12 1 0 (of_decide_eq_true (by kernel_rfl)) rfl (fun _ _ _ d _ h => by cases d <;> exact h) (by kernel_rfl) (by kernel_rfl) hHeld ?_
        simp only [List.drop_succ_cons, List.drop_zero, List.take_succ_cons, List.take_zero]
        iterate 1 (refine wpHeld_step (v := ?_) (by rfl) (fun wz hSw => ?_) ?_; rotate_left; (focus ((try dsimp only at hSw); go_simp; try with_reducible rfl)); ((simp only [Act.put]; (try simp only [List.setIfInBounds_toArray]); (try simp only [List.set_cons_succ]); (try simp only [List.set_cons_zero]))))
        refine wpHeld_nil ?_
        refine wpAnyH_done (by kernel_rfl) ?_ _
        clear hHeld hS7 hb7
        go_wp2
        have HFw : Hid (∀ W', Below w7.heap.size w7 W' → W'.cell? ⟨p', 2, none⟩ = some (.int .i64 ((d.write x.pos x.s).wr : Nat)) ∧ W'.cell? ⟨p', 3, none⟩ = some (.bool (d.write x.pos x.s).dead)) := fun W' hb => ⟨(HBn.out.later hb).writes.1, (HBn.out.later hb).writes.2.1⟩
        have HWr : Hid (∀ W', Below w7.heap.size w7 W' → Calls Try.prog 15 #[.pointer (some ⟨p, 0, none⟩)] W' fun e w' => e = .returned (.int .i64 ((d.write x.pos x.s).wr : Nat)) ∧ w' = W') := fun W' hb => writes_any (HBn.out.later hb).mine
        have HDd : Hid (∀ W', Below w7.heap.size w7 W' → Calls Try.prog 16 #[.pointer (some ⟨p, 0, none⟩)] W' fun e w' => e = .returned (.bool (d.write x.pos x.s).dead) ∧ w' = W') := fun W' hb => dead_any (HBn.out.later hb).mine
        have HEn : Hid (∃ d2 : St, d2.wr ≤ k + 1 ∧ Both W.heap.size p g p' g' w7.drew d2 ∧ Below W.heap.size W w7.drew) := ⟨d.write x.pos x.s, Nat.le_trans (write_wr _ _ _) (by omega), HBn.out.later (Below.refl _ _).drew, HBln.out.drew⟩
        generalize (d.write x.pos x.s).wr = nw at *
        generalize (d.write x.pos x.s).dead = nd at *
        refine wp_region_held_drew (S := fun W' => Below w7.heap.size w7 W') (by kernel_rfl) (Below.refl _ _).drew (fun hHeld => ?_)
        refine wpAnyH_takesAt 0 1 15 (of_decide_eq_true (by kernel_rfl)) rfl (fun _ _ _ d _ h => by cases d <;> exact h) (by kernel_rfl) (by kernel_rfl) hHeld ?_
        simp only [List.drop_zero, List.take_succ_cons, List.take_zero]
        iterate 1 (refine wpHeld_step (v := ?_) (by rfl) (fun wz hSw => ?_) ?_; rotate_left; (focus ((try dsimp only at hSw); go_simp; try with_reducible rfl)); ((simp only [Act.put]; (try simp only [List.setIfInBounds_toArray]); (try simp only [List.set_cons_succ]); (try simp only [List.set_cons_zero]))))
        refine wpHeld_nil ?_
        refine wpAnyH_takesAt 2 1 14 (of_decide_eq_true (by kernel_rfl)) rfl (fun _ _ _ d _ h => by cases d <;> exact h) (by kernel_rfl) (by kernel_rfl) hHeld ?_
        simp only [List.drop_succ_cons, List.drop_zero, List.take_succ_cons, List.take_zero]
        iterate 1 (refine wpHeld_step (v := ?_) (by rfl) (fun wz hSw => ?_) ?_; rotate_left; (focus ((try dsimp only at hSw); go_simp; try with_reducible rfl)); ((simp only [Act.put]; (try simp only [List.setIfInBounds_toArray]); (try simp only [List.set_cons_succ]); (try simp only [List.set_cons_zero]))))
        refine wpHeld_nil ?_
        refine wpAnyH_takesAt 3 3 11 (of_decide_eq_true (by kernel_rfl)) rfl (fun _ _ _ d _ h => by cases d <;> exact h) (by kernel_rfl) (by kernel_rfl) hHeld ?_
        simp only [List.drop_succ_cons, List.drop_zero, List.take_succ_cons, List.take_zero]
        iterate 3 (refine wpHeld_step (v := ?_) (by rfl) (fun wz hSw => ?_) ?_; rotate_left; (focus (obtain ⟨hf1, hf2⟩ := HFw.out wz hSw; clear hSw; go_simp; try with_reducible rfl)); (simp only [Act.put, List.setIfInBounds_toArray, List.set_cons_zero, List.set_cons_succ]))
        refine wpHeld_nil ?_
        refine wpAnyH_only (i := 1) (by kernel_rfl) rfl (fun K hK => ?_)
        rw [if_pos (by rfl)]
        go_simp
        refine (HWr.out _ hHeld).mono ?_
        rintro e wq ⟨rfl, rfl⟩
        refine hK.out _ _ hHeld ?_
        clear hK K
        refine wpAnyH_takesAt 6 2 8 (of_decide_eq_true (by kernel_rfl)) rfl (fun _ _ _ d _ h => by cases d <;> exact h) (by kernel_rfl) (by kernel_rfl) hHeld ?_
        simp only [List.drop_succ_cons, List.drop_zero, List.take_succ_cons, List.take_zero]
        iterate 2 (refine wpHeld_step (v := ?_) (by rfl) (fun wz hSw => ?_) ?_; rotate_left; (focus ((try dsimp only at hSw); go_simp; try with_reducible rfl)); (simp only [Act.put, List.setIfInBounds_toArray, List.set_cons_zero, List.set_cons_succ]))
        refine wpHeld_nil ?_
        refine wpAnyH_takesAt 8 1 7 (of_decide_eq_true (by kernel_rfl)) rfl (fun _ _ _ d _ h => by cases d <;> exact h) (by kernel_rfl) (by kernel_rfl) hHeld ?_
        simp only [List.drop_succ_cons, List.drop_zero, List.take_succ_cons, List.take_zero]
        iterate 1 (refine wpHeld_step (v := ?_) (by rfl) (fun wz hSw => ?_) ?_; rotate_left; (focus ((try dsimp only at hSw); go_simp; try with_reducible rfl)); ((simp only [Act.put]; (try simp only [List.setIfInBounds_toArray]); (try simp only [List.set_cons_succ]); (try simp only [List.set_cons_zero]))))
        refine wpHeld_nil ?_
        refine wpAnyH_takesAt 10 1 6 (of_decide_eq_true (by kernel_rfl)) rfl (fun _ _ _ d _ h => by cases d <;> exact h) (by kernel_rfl) (by kernel_rfl) hHeld ?_
        simp only [List.drop_succ_cons, List.drop_zero, List.take_succ_cons, List.take_zero]
        iterate 1 (refine wpHeld_step (v := ?_) (by rfl) (fun wz hSw => ?_) ?_; rotate_left; (focus ((try dsimp only at hSw); go_simp; try with_reducible rfl)); ((simp only [Act.put]; (try simp only [List.setIfInBounds_toArray]); (try simp only [List.set_cons_succ]); (try simp only [List.set_cons_zero]))))
        refine wpHeld_nil ?_
        refine wpAnyH_takesAt 11 3 3 (of_decide_eq_true (by kernel_rfl)) rfl (fun _ _ _ d _ h => by cases d <;> exact h) (by kernel_rfl) (by kernel_rfl) hHeld ?_
        simp only [List.drop_succ_cons, List.drop_zero, List.take_succ_cons, List.take_zero]
        iterate 3 (refine wpHeld_step (v := ?_) (by rfl) (fun wz hSw => ?_) ?_; rotate_left; (focus (obtain ⟨hf1, hf2⟩ := HFw.out wz hSw; clear hSw; go_simp; try with_reducible rfl)); (simp only [Act.put, List.setIfInBounds_toArray, List.set_cons_zero, List.set_cons_succ]))
        refine wpHeld_nil ?_
        refine wpAnyH_only (i := 9) (by kernel_rfl) rfl (fun K hK => ?_)
        rw [if_pos (by rfl)]
        go_simp
        refine (HDd.out _ hHeld).mono ?_
        rintro e wq ⟨rfl, rfl⟩
        refine hK.out _ _ hHeld ?_
        clear hK K
        refine wpAnyH_takesAt 14 2 0 (of_decide_eq_true (by kernel_rfl)) rfl (fun _ _ _ d _ h => by cases d <;> exact h) (by kernel_rfl) (by kernel_rfl) hHeld ?_
        simp only [List.drop_succ_cons, List.drop_zero, List.take_succ_cons, List.take_zero]
        iterate 2 (refine wpHeld_step (v := ?_) (by rfl) (fun wz hSw => ?_) ?_; rotate_left; (focus ((try dsimp only at hSw); go_simp; try with_reducible rfl)); (simp only [Act.put, List.setIfInBounds_toArray, List.set_cons_zero, List.set_cons_succ]))
        refine wpHeld_nil ?_
        refine wpAnyH_done (by kernel_rfl) ?_ _
        go_wp2
        obtain ⟨d2, e1, e2, e3⟩ := HEn.out
        exact ⟨⟨k + 1, d2, by omega, by simp, e1, e2, e3⟩, by simp [intOf]; omega⟩
      · by_cases hz1 : x.kind = 1
        · rw [hz1] at hk0
          have HRm : Hid (Calls Try.prog 11 #[.pointer (some ⟨p, 0, none⟩), .int .i64 x.pos] w5 fun e w' => e = .returned (.tuple #[.agg (u8s (d.read x.pos)).toArray, .int .i64 (d.err x.pos)]) ∧ Below w5.heap.size w5 w') := read_any HBo5.out.mine x.pos
          have HRo : Hid (∀ W', Below w5.heap.size w5 W' → Calls Try.prog 12 #[.pointer (some ⟨p', 0, none⟩), .int .i64 x.pos] W' fun e w' => e = .returned (.tuple #[.agg (u8s (d.read x.pos)).toArray, .int .i64 (d.err x.pos)]) ∧ Below W'.heap.size W' w') := fun W' hb => refRead_any (HBo5.out.later hb).other x.pos
          have hrs := HBo5.out.mine.1.read x.pos
          have hq := equal_secs hrs hrs
          rw [decide_eq_true rfl] at hq
          have HVl : Hid ((u8s (d.read x.pos)).length = 64) := by show _ = _; rw [u8s_length]; exact hrs.1
          have HVo : Hid (∀ v ∈ u8s (d.read x.pos), v.oneCell' = true) := u8s_one _
          clear hrs
          generalize u8s (d.read x.pos) = V at *
          generalize d.err x.pos = er at *
          generalize x.pos = ps at *
          go_wp2_with (first
            | ((with_reducible show wpList _ _ _ (Oper.mk _ (Op.load 31 (.tmp 39)) _ _ _ _ :: _) _ _); refine wpList_load_mid rfl 31 (.tmp 39) rfl b (off + k * 66) rfl Y _ HRg.out Try.underlying31 rfl (by rw [HDl.out]; exact size31) ?_; simp only [Act.put, List.setIfInBounds_toArray, List.set_cons_zero, List.set_cons_succ])
            | ((with_reducible show wpList _ _ _ (Oper.mk _ (Op.store 31 (.tmp 10) (.tmp 40)) _ _ _ _ :: _) _ _); refine wpList_store_Row rfl 31 (.tmp 10) (.tmp 40) rfl Y rfl rfl (Row.new' wr 31 Z) (by rw [HDl.out]; exact size31) (by rw [HDl.out, HZl.out]) HO31.out ?_; rw [HW5.out]; simp only [Act.put])
            | (go_at_call 11; refine HRm.out.mono ?_; rintro e w6 ⟨rfl, hb6⟩)
            | ((with_reducible show wpList _ _ _ (Oper.mk none (Op.store 29 (.tmp 11) (.tmp 69)) _ _ _ _ :: _) _ _); rw [z64u8]; refine wpList_store_new rfl (.tmp 11) (.tmp 69) rfl V HVl.out HVo.out rfl rfl (fun w7 hb7 hR7 hs7 => ?_); have HbA : Hid (Below w5.heap.size w5 w7) := hb6.trans (hb7.mono hb6.size); have HX7 : Hid (Row w7 w6.heap.size 29 V) := hR7; have hc1x : w7.cell? ⟨wr.heap.size, 1, none⟩ = some (.int .i64 ps) := (HF5.out w7 (Buts.of_below HbA.out (Nat.le_refl _))).2.1; clear hR7 hb6 hb7 hs7; simp only [Act.put])
            | (go_at_call 12; refine (HRo.out _ HbA.out).mono ?_; rintro e w8 ⟨rfl, hb8⟩)
            | ((with_reducible show wpList _ _ _ (Oper.mk none (Op.store 29 (.tmp 13) (.tmp 76)) _ _ _ _ :: _) _ _); rw [z64u8]; refine wpList_store_new rfl (.tmp 13) (.tmp 76) rfl V HVl.out HVo.out rfl rfl (fun w9 hb9 hR9 hs9 => ?_); have HbB : Hid (Below w7.heap.size w7 w9) := hb8.trans (hb9.mono hb8.size); have HY9 : Hid (Row w9 w8.heap.size 29 V) := hR9; have HX9 : Hid (Row w9 w6.heap.size 29 V) := HX7.out.later HbB.out; clear hR9 hb8 hb9 hs9; simp only [Act.put])
            | ((with_reducible show wpList _ _ _ (Oper.mk (some 78) (Op.load 29 (.tmp 11)) _ _ _ _ :: _) _ _); refine wpList_load_want (by rfl) 29 (.tmp 11) rfl (w6.heap.size) 0 rfl V (HX9.out).range Try.underlying29 (by rw [HVl.out]; exact size29) ?_; simp only [Act.put, List.setIfInBounds_toArray, List.set_cons_zero, List.set_cons_succ])
            | ((with_reducible show wpList _ _ _ (Oper.mk (some 79) (Op.load 29 (.tmp 13)) _ _ _ _ :: _) _ _); refine wpList_load_want (by rfl) 29 (.tmp 13) rfl (w8.heap.size) 0 rfl V (HY9.out).range Try.underlying29 (by rw [HVl.out]; exact size29) ?_; simp only [Act.put, List.setIfInBounds_toArray, List.set_cons_zero, List.set_cons_succ]))
          have hb59 : Below w5.heap.size w5 w9 := HbA.out.trans (HbB.out.mono HbA.out.size)
          have HBn : Hid (Both W.heap.size p g p' g' w9 d) := HBo5.out.later hb59
          have HBln : Hid (Below W.heap.size W w9) := HBl5.out.trans (hb59.mono HBl5.out.size)
          clear hb59
          have HFw : Hid (∀ W', Below w9.heap.size w9 W' → W'.cell? ⟨p', 2, none⟩ = some (.int .i64 ((d).wr : Nat)) ∧ W'.cell? ⟨p', 3, none⟩ = some (.bool (d).dead)) := fun W' hb => ⟨(HBn.out.later hb).writes.1, (HBn.out.later hb).writes.2.1⟩
          have HWr : Hid (∀ W', Below w9.heap.size w9 W' → Calls Try.prog 15 #[.pointer (some ⟨p, 0, none⟩)] W' fun e w' => e = .returned (.int .i64 ((d).wr : Nat)) ∧ w' = W') := fun W' hb => writes_any (HBn.out.later hb).mine
          have HDd : Hid (∀ W', Below w9.heap.size w9 W' → Calls Try.prog 16 #[.pointer (some ⟨p, 0, none⟩)] W' fun e w' => e = .returned (.bool (d).dead) ∧ w' = W') := fun W' hb => dead_any (HBn.out.later hb).mine
          have HEn : Hid (∃ d2 : St, d2.wr ≤ k + 1 ∧ Both W.heap.size p g p' g' w9.drew d2 ∧ Below W.heap.size W w9.drew) := ⟨d, by omega, HBn.out.later (Below.refl _ _).drew, HBln.out.drew⟩
          generalize (d).wr = nw at *
          generalize (d).dead = nd at *
          refine wp_region_held_drew (S := fun W' => Below w9.heap.size w9 W') (by kernel_rfl) (Below.refl _ _).drew (fun hHeld => ?_)
          refine wpAnyH_takesAt 0 1 15 (of_decide_eq_true (by kernel_rfl)) rfl (fun _ _ _ d _ h => by cases d <;> exact h) (by kernel_rfl) (by kernel_rfl) hHeld ?_
          simp only [List.drop_zero, List.take_succ_cons, List.take_zero]
          iterate 1 (refine wpHeld_step (v := ?_) (by rfl) (fun wz hSw => ?_) ?_; rotate_left; (focus ((try dsimp only at hSw); go_simp; try with_reducible rfl)); ((simp only [Act.put]; (try simp only [List.setIfInBounds_toArray]); (try simp only [List.set_cons_succ]); (try simp only [List.set_cons_zero]))))
          refine wpHeld_nil ?_
          refine wpAnyH_takesAt 2 1 14 (of_decide_eq_true (by kernel_rfl)) rfl (fun _ _ _ d _ h => by cases d <;> exact h) (by kernel_rfl) (by kernel_rfl) hHeld ?_
          simp only [List.drop_succ_cons, List.drop_zero, List.take_succ_cons, List.take_zero]
          iterate 1 (refine wpHeld_step (v := ?_) (by rfl) (fun wz hSw => ?_) ?_; rotate_left; (focus ((try dsimp only at hSw); go_simp; try with_reducible rfl)); ((simp only [Act.put]; (try simp only [List.setIfInBounds_toArray]); (try simp only [List.set_cons_succ]); (try simp only [List.set_cons_zero]))))
          refine wpHeld_nil ?_
          refine wpAnyH_takesAt 3 3 11 (of_decide_eq_true (by kernel_rfl)) rfl (fun _ _ _ d _ h => by cases d <;> exact h) (by kernel_rfl) (by kernel_rfl) hHeld ?_
          simp only [List.drop_succ_cons, List.drop_zero, List.take_succ_cons, List.take_zero]
          iterate 3 (refine wpHeld_step (v := ?_) (by rfl) (fun wz hSw => ?_) ?_; rotate_left; (focus (obtain ⟨hf1, hf2⟩ := HFw.out wz hSw; clear hSw; go_simp; try with_reducible rfl)); (simp only [Act.put, List.setIfInBounds_toArray, List.set_cons_zero, List.set_cons_succ]))
          refine wpHeld_nil ?_
          refine wpAnyH_only (i := 1) (by kernel_rfl) rfl (fun K hK => ?_)
          rw [if_pos (by rfl)]
          go_simp
          refine (HWr.out _ hHeld).mono ?_
          rintro e wq ⟨rfl, rfl⟩
          refine hK.out _ _ hHeld ?_
          clear hK K
          refine wpAnyH_takesAt 6 2 8 (of_decide_eq_true (by kernel_rfl)) rfl (fun _ _ _ d _ h => by cases d <;> exact h) (by kernel_rfl) (by kernel_rfl) hHeld ?_
          simp only [List.drop_succ_cons, List.drop_zero, List.take_succ_cons, List.take_zero]
          iterate 2 (refine wpHeld_step (v := ?_) (by rfl) (fun wz hSw => ?_) ?_; rotate_left; (focus ((try dsimp only at hSw); go_simp; try with_reducible rfl)); (simp only [Act.put, List.setIfInBounds_toArray, List.set_cons_zero, List.set_cons_succ]))
          refine wpHeld_nil ?_
          refine wpAnyH_takesAt 8 1 7 (of_decide_eq_true (by kernel_rfl)) rfl (fun _ _ _ d _ h => by cases d <;> exact h) (by kernel_rfl) (by kernel_rfl) hHeld ?_
          simp only [List.drop_succ_cons, List.drop_zero, List.take_succ_cons, List.take_zero]
          iterate 1 (refine wpHeld_step (v := ?_) (by rfl) (fun wz hSw => ?_) ?_; rotate_left; (focus ((try dsimp only at hSw); go_simp; try with_reducible rfl)); ((simp only [Act.put]; (try simp only [List.setIfInBounds_toArray]); (try simp only [List.set_cons_succ]); (try simp only [List.set_cons_zero]))))
          refine wpHeld_nil ?_
          refine wpAnyH_takesAt 10 1 6 (of_decide_eq_true (by kernel_rfl)) rfl (fun _ _ _ d _ h => by cases d <;> exact h) (by kernel_rfl) (by kernel_rfl) hHeld ?_
          simp only [List.drop_succ_cons, List.drop_zero, List.take_succ_cons, List.take_zero]
          iterate 1 (refine wpHeld_step (v := ?_) (by rfl) (fun wz hSw => ?_) ?_; rotate_left; (focus ((try dsimp only at hSw); go_simp; try with_reducible rfl)); ((simp only [Act.put]; (try simp only [List.setIfInBounds_toArray]); (try simp only [List.set_cons_succ]); (try simp only [List.set_cons_zero]))))
          refine wpHeld_nil ?_
          refine wpAnyH_takesAt 11 3 3 (of_decide_eq_true (by kernel_rfl)) rfl (fun _ _ _ d _ h => by cases d <;> exact h) (by kernel_rfl) (by kernel_rfl) hHeld ?_
          simp only [List.drop_succ_cons, List.drop_zero, List.take_succ_cons, List.take_zero]
          iterate 3 (refine wpHeld_step (v := ?_) (by rfl) (fun wz hSw => ?_) ?_; rotate_left; (focus (obtain ⟨hf1, hf2⟩ := HFw.out wz hSw; clear hSw; go_simp; try with_reducible rfl)); (simp only [Act.put, List.setIfInBounds_toArray, List.set_cons_zero, List.set_cons_succ]))
          refine wpHeld_nil ?_
          refine wpAnyH_only (i := 9) (by kernel_rfl) rfl (fun K hK => ?_)
          rw [if_pos (by rfl)]
          go_simp
          refine (HDd.out _ hHeld).mono ?_
          rintro e wq ⟨rfl, rfl⟩
          refine hK.out _ _ hHeld ?_
          clear hK K
          refine wpAnyH_takesAt 14 2 0 (of_decide_eq_true (by kernel_rfl)) rfl (fun _ _ _ d _ h => by cases d <;> exact h) (by kernel_rfl) (by kernel_rfl) hHeld ?_
          simp only [List.drop_succ_cons, List.drop_zero, List.take_succ_cons, List.take_zero]
          iterate 2 (refine wpHeld_step (v := ?_) (by rfl) (fun wz hSw => ?_) ?_; rotate_left; (focus ((try dsimp only at hSw); go_simp; try with_reducible rfl)); (simp only [Act.put, List.setIfInBounds_toArray, List.set_cons_zero, List.set_cons_succ]))
          refine wpHeld_nil ?_
          refine wpAnyH_done (by kernel_rfl) ?_ _
          go_wp2
          obtain ⟨d2, e1, e2, e3⟩ := HEn.out
          exact ⟨⟨k + 1, d2, by omega, by simp, e1, e2, e3⟩, by simp [intOf]; omega⟩
        · have hz0b : (x.kind == 0) = false := by simpa using hz0
          have hz1b : (x.kind == 1) = false := by simpa using hz1
          go_wp2_with (first
            | ((with_reducible show wpList _ _ _ (Oper.mk _ (Op.load 31 (.tmp 39)) _ _ _ _ :: _) _ _); refine wpList_load_mid rfl 31 (.tmp 39) rfl b (off + k * 66) rfl Y _ HRg.out Try.underlying31 rfl (by rw [HDl.out]; exact size31) ?_; simp only [Act.put, List.setIfInBounds_toArray, List.set_cons_zero, List.set_cons_succ])
            | ((with_reducible show wpList _ _ _ (Oper.mk _ (Op.store 31 (.tmp 10) (.tmp 40)) _ _ _ _ :: _) _ _); refine wpList_store_Row rfl 31 (.tmp 10) (.tmp 40) rfl Y rfl rfl (Row.new' wr 31 Z) (by rw [HDl.out]; exact size31) (by rw [HDl.out, HZl.out]) HO31.out ?_; rw [HW5.out]; simp only [Act.put])
            | (go_at_call 13; refine (start_any HBo5.out.mine).mono ?_; rintro e w6 ⟨⟨v6, rfl⟩, hD6, hb6⟩; have HD6 : Hid (DiskAt [p, g, p', g'] w6 p g d.start) := hD6; have HR6 : Hid (RefAt [p, g, p', g'] w6 p' g' d) := HBo5.out.first hb6; clear hD6)
            | (go_at_call 14; refine (refStart_any HR6.out).mono ?_; rintro e w7 ⟨⟨v7, rfl⟩, hR7, hb7⟩; have HBn : Hid (Both W.heap.size p g p' g' w7 d.start) := HBo5.out.second HD6.out hR7 hb7; have HBln : Hid (Below W.heap.size W w7) := HBo5.out.below hb6 hb7 W rfl HBl5.out; clear hR7 hb6 hb7))
          have HFw : Hid (∀ W', Below w7.heap.size w7 W' → W'.cell? ⟨p', 2, none⟩ = some (.int .i64 ((d.start).wr : Nat)) ∧ W'.cell? ⟨p', 3, none⟩ = some (.bool (d.start).dead)) := fun W' hb => ⟨(HBn.out.later hb).writes.1, (HBn.out.later hb).writes.2.1⟩
          have HWr : Hid (∀ W', Below w7.heap.size w7 W' → Calls Try.prog 15 #[.pointer (some ⟨p, 0, none⟩)] W' fun e w' => e = .returned (.int .i64 ((d.start).wr : Nat)) ∧ w' = W') := fun W' hb => writes_any (HBn.out.later hb).mine
          have HDd : Hid (∀ W', Below w7.heap.size w7 W' → Calls Try.prog 16 #[.pointer (some ⟨p, 0, none⟩)] W' fun e w' => e = .returned (.bool (d.start).dead) ∧ w' = W') := fun W' hb => dead_any (HBn.out.later hb).mine
          have HEn : Hid (∃ d2 : St, d2.wr ≤ k + 1 ∧ Both W.heap.size p g p' g' w7.drew d2 ∧ Below W.heap.size W w7.drew) := ⟨d.start, by show 0 ≤ _; omega, HBn.out.later (Below.refl _ _).drew, HBln.out.drew⟩
          generalize (d.start).wr = nw at *
          generalize (d.start).dead = nd at *
          refine wp_region_held_drew (S := fun W' => Below w7.heap.size w7 W') (by kernel_rfl) (Below.refl _ _).drew (fun hHeld => ?_)
          refine wpAnyH_takesAt 0 1 15 (of_decide_eq_true (by kernel_rfl)) rfl (fun _ _ _ d _ h => by cases d <;> exact h) (by kernel_rfl) (by kernel_rfl) hHeld ?_
          simp only [List.drop_zero, List.take_succ_cons, List.take_zero]
          iterate 1 (refine wpHeld_step (v := ?_) (by rfl) (fun wz hSw => ?_) ?_; rotate_left; (focus ((try dsimp only at hSw); go_simp; try with_reducible rfl)); ((simp only [Act.put]; (try simp only [List.setIfInBounds_toArray]); (try simp only [List.set_cons_succ]); (try simp only [List.set_cons_zero]))))
          refine wpHeld_nil ?_
          refine wpAnyH_takesAt 2 1 14 (of_decide_eq_true (by kernel_rfl)) rfl (fun _ _ _ d _ h => by cases d <;> exact h) (by kernel_rfl) (by kernel_rfl) hHeld ?_
          simp only [List.drop_succ_cons, List.drop_zero, List.take_succ_cons, List.take_zero]
          iterate 1 (refine wpHeld_step (v := ?_) (by rfl) (fun wz hSw => ?_) ?_; rotate_left; (focus ((try dsimp only at hSw); go_simp; try with_reducible rfl)); ((simp only [Act.put]; (try simp only [List.setIfInBounds_toArray]); (try simp only [List.set_cons_succ]); (try simp only [List.set_cons_zero]))))
          refine wpHeld_nil ?_
          refine wpAnyH_takesAt 3 3 11 (of_decide_eq_true (by kernel_rfl)) rfl (fun _ _ _ d _ h => by cases d <;> exact h) (by kernel_rfl) (by kernel_rfl) hHeld ?_
          simp only [List.drop_succ_cons, List.drop_zero, List.take_succ_cons, List.take_zero]
          iterate 3 (refine wpHeld_step (v := ?_) (by rfl) (fun wz hSw => ?_) ?_; rotate_left; (focus (obtain ⟨hf1, hf2⟩ := HFw.out wz hSw; clear hSw; go_simp; try with_reducible rfl)); (simp only [Act.put, List.setIfInBounds_toArray, List.set_cons_zero, List.set_cons_succ]))
          refine wpHeld_nil ?_
          refine wpAnyH_only (i := 1) (by kernel_rfl) rfl (fun K hK => ?_)
          rw [if_pos (by rfl)]
          go_simp
          refine (HWr.out _ hHeld).mono ?_
          rintro e wq ⟨rfl, rfl⟩
          refine hK.out _ _ hHeld ?_
          clear hK K
          refine wpAnyH_takesAt 6 2 8 (of_decide_eq_true (by kernel_rfl)) rfl (fun _ _ _ d _ h => by cases d <;> exact h) (by kernel_rfl) (by kernel_rfl) hHeld ?_
          simp only [List.drop_succ_cons, List.drop_zero, List.take_succ_cons, List.take_zero]
          iterate 2 (refine wpHeld_step (v := ?_) (by rfl) (fun wz hSw => ?_) ?_; rotate_left; (focus ((try dsimp only at hSw); go_simp; try with_reducible rfl)); (simp only [Act.put, List.setIfInBounds_toArray, List.set_cons_zero, List.set_cons_succ]))
          refine wpHeld_nil ?_
          refine wpAnyH_takesAt 8 1 7 (of_decide_eq_true (by kernel_rfl)) rfl (fun _ _ _ d _ h => by cases d <;> exact h) (by kernel_rfl) (by kernel_rfl) hHeld ?_
          simp only [List.drop_succ_cons, List.drop_zero, List.take_succ_cons, List.take_zero]
          iterate 1 (refine wpHeld_step (v := ?_) (by rfl) (fun wz hSw => ?_) ?_; rotate_left; (focus ((try dsimp only at hSw); go_simp; try with_reducible rfl)); ((simp only [Act.put]; (try simp only [List.setIfInBounds_toArray]); (try simp only [List.set_cons_succ]); (try simp only [List.set_cons_zero]))))
          refine wpHeld_nil ?_
          refine wpAnyH_takesAt 10 1 6 (of_decide_eq_true (by kernel_rfl)) rfl (fun _ _ _ d _ h => by cases d <;> exact h) (by kernel_rfl) (by kernel_rfl) hHeld ?_
          simp only [List.drop_succ_cons, List.drop_zero, List.take_succ_cons, List.take_zero]
          iterate 1 (refine wpHeld_step (v := ?_) (by rfl) (fun wz hSw => ?_) ?_; rotate_left; (focus ((try dsimp only at hSw); go_simp; try with_reducible rfl)); ((simp only [Act.put]; (try simp only [List.setIfInBounds_toArray]); (try simp only [List.set_cons_succ]); (try simp only [List.set_cons_zero]))))
          refine wpHeld_nil ?_
          refine wpAnyH_takesAt 11 3 3 (of_decide_eq_true (by kernel_rfl)) rfl (fun _ _ _ d _ h => by cases d <;> exact h) (by kernel_rfl) (by kernel_rfl) hHeld ?_
          simp only [List.drop_succ_cons, List.drop_zero, List.take_succ_cons, List.take_zero]
          iterate 3 (refine wpHeld_step (v := ?_) (by rfl) (fun wz hSw => ?_) ?_; rotate_left; (focus (obtain ⟨hf1, hf2⟩ := HFw.out wz hSw; clear hSw; go_simp; try with_reducible rfl)); (simp only [Act.put, List.setIfInBounds_toArray, List.set_cons_zero, List.set_cons_succ]))
          refine wpHeld_nil ?_
          refine wpAnyH_only (i := 9) (by kernel_rfl) rfl (fun K hK => ?_)
          rw [if_pos (by rfl)]
          go_simp
          refine (HDd.out _ hHeld).mono ?_
          rintro e wq ⟨rfl, rfl⟩
          refine hK.out _ _ hHeld ?_
          clear hK K
          refine wpAnyH_takesAt 14 2 0 (of_decide_eq_true (by kernel_rfl)) rfl (fun _ _ _ d _ h => by cases d <;> exact h) (by kernel_rfl) (by kernel_rfl) hHeld ?_
          simp only [List.drop_succ_cons, List.drop_zero, List.take_succ_cons, List.take_zero]
          iterate 2 (refine wpHeld_step (v := ?_) (by rfl) (fun wz hSw => ?_) ?_; rotate_left; (focus ((try dsimp only at hSw); go_simp; try with_reducible rfl)); (simp only [Act.put, List.setIfInBounds_toArray, List.set_cons_zero, List.set_cons_succ]))
          refine wpHeld_nil ?_
          refine wpAnyH_done (by kernel_rfl) ?_ _
          go_wp2
          obtain ⟨d2, e1, e2, e3⟩ := HEn.out
          exact ⟨⟨k + 1, d2, by omega, by simp, e1, e2, e3⟩, by simp [intOf]; omega⟩
    · obtain rfl : k = len2 := by omega
      have HF : Hid (∀ W', Below wr.heap.size wr W' → W'.cell? ⟨p', 0, none⟩ = some (.slice (some ⟨g', 0, none⟩) d.ss.length d.ss.length)) := fun W' hb => (HBo.out.later hb).writes.2.2
      have HLn : Hid (∀ W', Below wr.heap.size wr W' → Calls Try.prog 17 #[.pointer (some ⟨p, 0, none⟩)] W' fun e w' => e = .returned (.int .i64 (d.ss.length : Nat)) ∧ w' = W') := fun W' hb => len_any (HBo.out.later hb).mine
      have HAl : Hid (∀ W', Below wr.heap.size wr W' → Calls Try.prog 18 #[.pointer (some ⟨p, 0, none⟩), .pointer (some ⟨p', 0, none⟩)] W' fun e w' => e = .returned (.bool true) ∧ Below W'.heap.size W' w') := fun W' hb => alike_any (HBo.out.later hb).mine (HBo.out.later hb).other
      have hfew := hbo.mine.1.few
      clear hbo hbl
      generalize d.ss.length = nn at *
      go_wp2
      refine wp_region_held_drew (S := fun W' => Below wr.heap.size wr W') (by kernel_rfl) (Below.refl _ _).drew (fun hHeld => ?_)
      refine wpAnyH_takesAt 0 1 13 (of_decide_eq_true (by kernel_rfl)) rfl (fun _ _ _ d _ h => by cases d <;> exact h) (by kernel_rfl) (by kernel_rfl) hHeld ?_
      simp only [List.drop_zero, List.take_succ_cons, List.take_zero]
      iterate 1 (refine wpHeld_step (v := ?_) (by rfl) (fun wz hSw => ?_) ?_; rotate_left; (focus ((try dsimp only at hSw); go_simp; try with_reducible rfl)); ((simp only [Act.put]; (try simp only [List.setIfInBounds_toArray]); (try simp only [List.set_cons_succ]); (try simp only [List.set_cons_zero]))))
      refine wpHeld_nil ?_
      refine wpAnyH_takesAt 2 1 12 (of_decide_eq_true (by kernel_rfl)) rfl (fun _ _ _ d _ h => by cases d <;> exact h) (by kernel_rfl) (by kernel_rfl) hHeld ?_
      simp only [List.drop_succ_cons, List.drop_zero, List.take_succ_cons, List.take_zero]
      iterate 1 (refine wpHeld_step (v := ?_) (by rfl) (fun wz hSw => ?_) ?_; rotate_left; (focus ((try dsimp only at hSw); go_simp; try with_reducible rfl)); ((simp only [Act.put]; (try simp only [List.setIfInBounds_toArray]); (try simp only [List.set_cons_succ]); (try simp only [List.set_cons_zero]))))
      refine wpHeld_nil ?_
      refine wpAnyH_takesAt 3 4 8 (of_decide_eq_true (by kernel_rfl)) rfl (fun _ _ _ d _ h => by cases d <;> exact h) (by kernel_rfl) (by kernel_rfl) hHeld ?_
      simp only [List.drop_succ_cons, List.drop_zero, List.take_succ_cons, List.take_zero]
      iterate 4 (refine wpHeld_step (v := ?_) (by rfl) (fun wz hSw => ?_) ?_; rotate_left; (focus (have hf1 := HF.out wz hSw; clear hSw; go_simp; try with_reducible rfl)); (simp only [Act.put, List.setIfInBounds_toArray, List.set_cons_zero, List.set_cons_succ]))
      refine wpHeld_nil ?_
      refine wpAnyH_only (i := 1) (by kernel_rfl) rfl (fun K hK => ?_)
      rw [if_pos (by rfl)]
      go_simp
      refine (HLn.out _ hHeld).mono ?_
      rintro e wq ⟨rfl, rfl⟩
      refine hK.out _ _ hHeld ?_
      clear hK K
      refine wpAnyH_takesAt 7 2 5 (of_decide_eq_true (by kernel_rfl)) rfl (fun _ _ _ d _ h => by cases d <;> exact h) (by kernel_rfl) (by kernel_rfl) hHeld ?_
      simp only [List.drop_succ_cons, List.drop_zero, List.take_succ_cons, List.take_zero]
      iterate 2 (refine wpHeld_step (v := ?_) (by rfl) (fun wz hSw => ?_) ?_; rotate_left; (focus ((try dsimp only at hSw); go_simp; try with_reducible rfl)); (simp only [Act.put, List.setIfInBounds_toArray, List.set_cons_zero, List.set_cons_succ]))
      refine wpHeld_nil ?_
      refine wpAnyH_takesAt 9 2 3 (of_decide_eq_true (by kernel_rfl)) rfl (fun _ _ _ d _ h => by cases d <;> exact h) (by kernel_rfl) (by kernel_rfl) hHeld ?_
      simp only [List.drop_succ_cons, List.drop_zero, List.take_succ_cons, List.take_zero]
      iterate 2 (refine wpHeld_step (v := ?_) (by rfl) (fun wz hSw => ?_) ?_; rotate_left; (focus ((try dsimp only at hSw); go_simp; try with_reducible rfl)); (simp only [Act.put, List.setIfInBounds_toArray, List.set_cons_zero, List.set_cons_succ]))
      refine wpHeld_nil ?_
      refine wpAnyH_only (i := 11) (by kernel_rfl) rfl (fun K hK => ?_)
      rw [if_pos (by rfl)]
      go_simp
      refine (HAl.out _ hHeld).mono ?_
      rintro e w9 ⟨rfl, hb9⟩
      have hS9 : Below wr.heap.size wr w9 := hHeld.trans (hb9.mono (Nat.le_refl _))
      refine hK.out _ _ hS9 ?_
      clear hK K hHeld
      have hHeld := hS9
      refine wpAnyH_takesAt 12 2 0 (of_decide_eq_true (by kernel_rfl)) rfl (fun _ _ _ d _ h => by cases d <;> exact h) (by kernel_rfl) (by kernel_rfl) hHeld ?_
      simp only [List.drop_succ_cons, List.drop_zero, List.take_succ_cons, List.take_zero]
      iterate 2 (refine wpHeld_step (v := ?_) (by rfl) (fun wz hSw => ?_) ?_; rotate_left; (focus ((try dsimp only at hSw); go_simp; try with_reducible rfl)); (simp only [Act.put, List.setIfInBounds_toArray, List.set_cons_zero, List.set_cons_succ]))
      refine wpHeld_nil ?_
      refine wpAnyH_done (by kernel_rfl) ?_ _
      go_wp2
      go_ret
      exact ⟨rfl, HBl.out.trans (hS9.mono HBl.out.size)⟩
end Go.Proofs.Ytffngjglgdbncaa
