/-
  Sectors; whether disks have the same ones.
-/
import Derived.Test.YtffngjglgdbncaaEach
import Derived.Test.YtffngjglgdbncaaCl
import Derived.Test.YtffngjglgdbncaaHeld
namespace Go.Proofs.Ytffngjglgdbncaa
open Go.RowKit Go.Shelf
attribute [local go_sem] Oper.semAt_some

theorem alike_end {w w1 : World} {G n c : Nat} {ss : List (List Nat)} (hS : SecsR w1 G ss) (hG : w.heap.size ≤ G) (hGl : G < w1.heap.size) (hb1 : Below w.heap.size w w1) :
    ∃ B G' c', Ending.returned (.func (.func 27) #[] #[.pointer (some ⟨w1.heap.size, 0, none⟩)]) = .returned (.func (.func 27) #[] #[.pointer (some ⟨B, 0, none⟩)]) ∧ Boxed (w1.alloc (.cells #[.slice (some ⟨G, 0, none⟩) n c] 40)) B 40 (.slice (some ⟨G', 0, none⟩) n c') ∧ SecsR (w1.alloc (.cells #[.slice (some ⟨G, 0, none⟩) n c] 40)) G' ss ∧ w.heap.size ≤ G' ∧ G' < (w1.alloc (.cells #[.slice (some ⟨G, 0, none⟩) n c] 40)).heap.size ∧ Below w.heap.size w (w1.alloc (.cells #[.slice (some ⟨G, 0, none⟩) n c] 40)) := by
  have hba := (Below.refl _ w1).alloc (Nat.le_refl _) (.cells #[.slice (some ⟨G, 0, none⟩) n c] 40)
  exact ⟨_, G, c, rfl, Boxed.new w1 40 _, hS.same (KpB.below hba).2, hG, by simp; omega, hb1.trans (hba.mono hb1.size)⟩

set_option maxRecDepth 100000 in
set_option maxHeartbeats 2000000 in
theorem sectors_any {F : List Nat} {p g : Nat} {d : St} {w : World} (h : DiskAt F w p g d) :
    Calls Try.prog 24 #[.pointer (some ⟨p, 0, none⟩)] w fun e w' => ∃ B G c, e = .returned (.func (.func 27) #[] #[.pointer (some ⟨B, 0, none⟩)]) ∧ Boxed w' B 40 (.slice (some ⟨G, 0, none⟩) d.ss.length c) ∧ SecsR w' G d.ss ∧ w.heap.size ≤ G ∧ G < w'.heap.size ∧ Below w.heap.size w w' := by
  obtain ⟨h1, h2, h3, h4, h5, q, len, cap, h6, h7⟩ := h
  have c2 := h6.cell (i := 2) rfl
  have hfl := flat_length h1.secs
  have HCl : Hid (Calls Try.prog 26 #[.slice (some ⟨g, 0, none⟩) d.ss.length d.ss.length] w fun e w' => ∃ G c, e = .returned (.slice (some ⟨G, 0, none⟩) d.ss.length c) ∧ SecsR w' G d.ss ∧ w.heap.size ≤ G ∧ G < w'.heap.size ∧ Below w.heap.size w w') := by
    refine (clone26_row ⟨g, 0, none⟩ d.ss.length d.ss.length (u8s d.ss.flatten) w (by rw [u8s_length, hfl]) (by have := h1.few; omega) (fun j u hj => ?_) (u8s_one _)).mono ?_
    · rw [Addr.add_mid, Nat.zero_add]
      exact h5.cell hj
    · rintro e w' ⟨v', rfl, hown, hne, hb⟩
      rcases hown.2 with ⟨rfl, _⟩ | ⟨G, cp, cur, rfl, hg, hgg, hnc, hcm, hcs, ht⟩
      · exact absurd rfl hne
      · refine ⟨G, cp, rfl, fun i hi => ?_, hg, (Array.getElem?_eq_some_iff.1 hgg).1, hb⟩
        intro j v hj
        have hjl := (List.getElem?_eq_some_iff.1 hj).1
        rw [u8s_length, (sec_at h1.secs hi).1] at hjl
        rw [hown.cellAt (i * 64 + j) (by omega), ← hj, ← flat_at h1.secs hi]
        simp only [u8s, List.map_take, List.map_drop]
        rw [List.getElem?_take, if_pos hjl, List.getElem?_drop]
  clear h5 h6 h7 hfl h1
  generalize d.ss.length = n at *
  go_enter Try.func24, Try.ntmps24
  go_wp2_with (first
    | (go_at_call 26; refine HCl.out.mono ?_; rintro e w1 ⟨G, c, rfl, hS, hG, hGl, hb1⟩)
    | (go_at_call 25; refine (each_any _ _ _ _).mono ?_; rintro e w2 ⟨rfl, hw2⟩))
  go_ret
  subst hw2
  exact alike_end hS hG hGl hb1

set_option maxRecDepth 100000 in
set_option maxHeartbeats 4000000 in
theorem alike_in (n : Nat) (hn : 8 ≤ n) {F F' : List Nat} {p g p' g' : Nat} {d : St} {w : World} (h : DiskAt F w p g d) (h' : RefAt F' w p' g' d) :
    CallsIn Fence.wide n Try.prog 18 #[.pointer (some ⟨p, 0, none⟩), .pointer (some ⟨p', 0, none⟩)] w fun e w' => e = .returned (.bool true) ∧ Below w.heap.size w w' := by
  have h1 : 1 ≤ n := by omega
  have hfn : ∀ f, Fence.wide.fn f := fun _ => trivial
  have hss : ∀ s ∈ d.ss, IsSec s := h.1.secs
  have hfew := h.1.few
  have hlp := h'.lt
  obtain ⟨m, hm⟩ : ∃ m, d.ss.length = m := ⟨_, rfl⟩
  have HM : Hid (d.ss.length = m) := hm
  obtain ⟨w1, hw1⟩ : ∃ w1, ((w.alloc (.cells #[.pointer (some ⟨p', 0, none⟩)] 27)).alloc (.cells #[.bool false] 4)).alloc (.cells #[.int .i64 0] 3) = w1 := ⟨_, rfl⟩
  have hb1 : Below w.heap.size w w1 := by rw [← hw1]; exact ((((Below.refl _ w).alloc (Nat.le_refl _) _).alloc (by simp) _)).alloc (by simp; omega) _
  have hs1 : w1.heap.size = w.heap.size + 3 := by rw [← hw1]; simp
  have b3 : Boxed w1 w.heap.size 27 (.pointer (some ⟨p', 0, none⟩)) := by rw [← hw1]; exact ((Boxed.new w 27 _).alloc _).alloc _
  have b4 : Boxed w1 (w.heap.size + 1) 4 (.bool false) := by
    rw [← hw1]
    have := Boxed.new (w.alloc (.cells #[.pointer (some ⟨p', 0, none⟩)] 27)) 4 (.bool false)
    rw [World.size_alloc] at this
    exact this.alloc _
  have b5 : Boxed w1 (w.heap.size + 1 + 1) 3 (.int .i64 0) := by
    rw [← hw1]
    have := Boxed.new ((w.alloc (.cells #[.pointer (some ⟨p', 0, none⟩)] 27)).alloc (.cells #[.bool false] 4)) 3 (.int .i64 0)
    rw [World.size_alloc, World.size_alloc] at this
    exact this
  have HSec : Hid (Calls Try.prog 24 #[.pointer (some ⟨p, 0, none⟩)] w1 fun e w' => ∃ B G c, e = .returned (.func (.func 27) #[] #[.pointer (some ⟨B, 0, none⟩)]) ∧ Boxed w' B 40 (.slice (some ⟨G, 0, none⟩) d.ss.length c) ∧ SecsR w' G d.ss ∧ w1.heap.size ≤ G ∧ G < w'.heap.size ∧ Below w1.heap.size w1 w') := sectors_any (h.later hb1)
  have HW1 : Hid (((w.alloc (.cells #[.pointer (some ⟨p', 0, none⟩)] 27)).alloc (.cells #[.bool false] 4)).alloc (.cells #[.int .i64 0] 3) = w1) := hw1
  have HRef : Hid (RefAt F' w p' g' d) := h'
  have HB1 : Hid (Below w.heap.size w w1 ∧ w1.heap.size = w.heap.size + 3 ∧ Boxed w1 w.heap.size 27 (.pointer (some ⟨p', 0, none⟩)) ∧ Boxed w1 (w.heap.size + 1) 4 (.bool false) ∧ Boxed w1 (w.heap.size + 1 + 1) 3 (.int .i64 0)) := ⟨hb1, hs1, b3, b4, b5⟩
  clear hw1 h h' hm hb1 hs1 b3 b4 b5
  refine callsIn_of_wp_marks Try.func18 rfl trivial ?_ rfl
  simp only [Try.ntmps18, List.size_toArray, List.length_cons, List.length_nil, Nat.reduceAdd, Nat.reduceSub, Array.replicate_succ, Array.replicate_zero, List.push_toArray, List.append_toArray, List.nil_append, List.cons_append]
  gi_wp2_with (first
    | (gi_at_call 24; rw [HW1.out]; refine (callsIn_wide.2 HSec.out).mono ?_; rintro e w2 ⟨B, G, c, rfl, hbx, hS, hG, hGl, hb2⟩))
  obtain ⟨hb1, hs1, b3, b4, b5⟩ := HB1.out
  have s2 := hb2.size
  have B3 : Hid (Boxed w2 w.heap.size 27 (.pointer (some ⟨p', 0, none⟩))) := boxed_below b3 hb2
  have B4 : Hid (Boxed w2 (w.heap.size + 1) 4 (.bool false)) := boxed_below b4 hb2
  have B5 : Hid (Boxed w2 (w.heap.size + 1 + 1) 3 (.int .i64 0)) := boxed_below b5 hb2
  have hB2 : Below w.heap.size w w2 := hb1.trans (hb2.mono (by omega))
  obtain ⟨q6, l6, c6, hr6, hg6⟩ : ∃ q6 l6 c6, Row w2 p' 42 [.slice (some ⟨g', 0, none⟩) m m, .slice q6 l6 c6, .int .i64 (d.wr : Nat), .bool d.dead] ∧ Row w2 g' 29 (u8s d.ss.flatten) := by
    obtain ⟨_, _, _, _, h5, q6, l6, c6, h6, _⟩ := HRef.out.later hB2
    rw [HM.out] at h6
    exact ⟨q6, l6, c6, h6, h5⟩
  have HF0 : Hid (∀ (k : Nat) (A : World), Boxed A (w.heap.size + 1 + 1) 3 (.int .i64 (k : Nat)) → Buts [w.heap.size + 1 + 1] w2.heap.size w2 A → A.cell? ⟨w.heap.size + 1 + 1, 0, none⟩ = some (.int .i64 (k : Nat)) ∧ A.cell? ⟨w.heap.size, 0, none⟩ = some (.pointer (some ⟨p', 0, none⟩)) ∧ A.cell? ⟨p', 0, none⟩ = some (.slice (some ⟨g', 0, none⟩) m m)) := fun k A hb hbu => by
    have r3 : Boxed A w.heap.size 27 (.pointer (some ⟨p', 0, none⟩)) := (hbu.block _ B3.out.lt (by simp; omega)).trans B3.out
    have r6 := hbu.row hr6.lt (by simp; omega) hr6
    exact ⟨hb.cell, r3.cell, r6.cell (i := 0) rfl⟩
  have hG5 : w.heap.size + 3 ≤ G := by omega
  clear hb1 hs1 b3 b4 b5
  refine wpIn_rangeFunc_arr rfl h1 (gf := 27) (lb := #[.pointer (some ⟨B, 0, none⟩)]) rfl trivial (enters_of Try.func27 (by kernel_rfl) rfl)
    (encs := fun x : Nat × List Nat => #[.int .i64 (x.1 : Nat), .agg (u8s x.2).toArray]) (Ok := fun x _ => x.1 < d.ss.length ∧ x.2 = d.ss.getD x.1 []) (Kp := KpB G) (S := fun xs => xs = numd d.ss d.ss.length) (Sp := fun pre => ∃ k, pre = numd d.ss k) (N := d.ss.length)
    (fun W' hs hb => each1_iter (n - 1) (by omega) _ B G c d.ss hss hfew W' (boxed_below hbx hb) (hS.same (KpB.below hb).2))
    KpB.trans (fun A o o' _ _ => KpB.putObj (by omega) A o') KpB.below (fun _ => rfl) 29 (fun x => u8s x.2)
    (fun pre A => Boxed A (w.heap.size + 1 + 1) 3 (.int .i64 (pre.length : Nat)) ∧ Buts [w.heap.size + 1 + 1] w2.heap.size w2 A)
    (fun _ pre _ => ¬ ∃ k, pre = numd d.ss k)
    (fun pre A A' ⟨a1, a2⟩ hb => ⟨(hb.block _ (by have := B5.out.lt; omega)).trans a1, a2.trans (Buts.of_below hb (Nat.le_refl _))⟩)
    (fun _ _ _ _ h _ => h)
    (fun _ _ _ h _ => h)
    ⟨B5.out, Buts.refl _ _ _⟩
    (fun x A => { tmps := #[.pointer (some ⟨p, 0, none⟩), .pointer (some ⟨p', 0, none⟩), undef, .pointer (some ⟨w.heap.size, 0, none⟩), .pointer (some ⟨w.heap.size + 1, 0, none⟩), .pointer (some ⟨w.heap.size + 1 + 1, 0, none⟩), .int .i64 (x.1 : Nat), .pointer (some ⟨A.heap.size, 0, none⟩), .pointer (some ⟨p, 0, none⟩), .func (.func 27) #[] #[.pointer (some ⟨B, 0, none⟩)], .int .i64 (x.1 : Nat), .agg (u8s x.2).toArray, undef, undef, undef, undef, undef, undef, undef, undef, undef, undef, undef, undef, undef, undef, undef, undef, undef, undef, undef, undef, undef, undef, undef, undef, undef, undef, undef, undef, undef, undef, undef, undef], defers := [] }) ?assign ?body ?done ?stop
  case assign =>
    intro li x A K hok hK
    have hxs : IsSec x.2 := by rw [hok.2]; exact sec_at hss hok.1
    have HXL : Hid ((u8s x.2).length = 64) := by show _ = _; rw [u8s_length]; exact hxs.1
    have HX1 : Hid (∀ v ∈ u8s x.2, v.oneCell' = true) := u8s_one x.2
    have HK : Hid (∀ W', Below A.heap.size A W' → Row W' A.heap.size 29 (u8s x.2) → K _ W') := hK
    clear hK
    generalize u8s x.2 = V at *
    gi_wp2_with ((with_reducible show wpListIn _ _ _ _ _ (Oper.mk _ (Op.store 29 (.tmp 7) (.tmp 11)) _ _ _ _ :: _) _ _); rw [z64u8]; refine wpListIn_store_new rfl (.tmp 7) (.tmp 11) rfl V HXL.out HX1.out rfl rfl (fun w5 hb5 hR5 hs5 => ?_); simp only [Act.put])
    exact HK.out _ hb5 hR5
  case body =>
    rintro li pre x A₀ A ⟨a1, a2⟩ hok hN hle hrow
    have hxs : IsSec x.2 := by rw [hok.2]; exact sec_at hss hok.1
    have hN' : pre.length < m := by rw [← HM.out]; exact hN
    have HXL : Hid ((u8s x.2).length = 64) := by show _ = _; rw [u8s_length]; exact hxs.1
    have HF : Hid (∀ W', Below A.heap.size A W' → W'.cell? ⟨w.heap.size + 1 + 1, 0, none⟩ = some (.int .i64 (pre.length : Nat)) ∧ W'.cell? ⟨w.heap.size, 0, none⟩ = some (.pointer (some ⟨p', 0, none⟩)) ∧ W'.cell? ⟨p', 0, none⟩ = some (.slice (some ⟨g', 0, none⟩) m m)) := fun W' hb => HF0.out _ W' (boxed_below a1 hb) (a2.trans (Buts.of_below hb a2.size))
    have HXR : Hid (∀ W', Below A.heap.size A W' → W'.rangeAt A₀.heap.size 0 (u8s x.2)) := fun W' hb => (hrow.later hb).range
    obtain ⟨k, hk⟩ : ∃ k, pre.length = k := ⟨_, rfl⟩
    rw [hk] at HF hN'
    have hB4 : Boxed A (w.heap.size + 1) 4 (.bool false) := (a2.block _ B4.out.lt (by simp)).trans B4.out
    have HEnd : Hid (∀ A', (A.setCell ⟨w.heap.size + 1 + 1, 0, none⟩ (.int .i64 ((k : Int) + 1))).drew = A' → KeepsFrom w2.heap.size A A' ∧ KpB G A A' ∧ Boxed A' (w.heap.size + 1 + 1) 3 (.int .i64 ((pre ++ [x]).length : Nat)) ∧ Buts [w.heap.size + 1 + 1] w2.heap.size w2 A') := fun A' e => by
      have hbA : Buts [w.heap.size + 1 + 1] A.heap.size A A' := by rw [← e]; exact ((Buts.refl _ _ A).set (by simp) 0 _).drew
      have hr : Row A (w.heap.size + 1 + 1) 3 [.int .i64 (k : Nat)] := by rw [hk] at a1; exact a1
      have hr' := (hr.set 0 (.int .i64 ((k : Int) + 1))).drew
      rw [e] at hr'
      refine ⟨⟨hbA.size, fun i o hi ho hc => (hbA.block i (Array.getElem?_eq_some_iff.1 ho).1 (by have := B5.out.lt; simp; omega)).trans ho⟩, ⟨hbA.size, fun o ho => (hbA.block G (Array.getElem?_eq_some_iff.1 ho).1 (by simp; omega)).trans ho⟩, ?_, a2.trans (hbA.mono (fun _ h => h) a2.size)⟩
      have : (((pre ++ [x]).length : Nat) : Int) = (k : Int) + 1 := by rw [List.length_append, hk]; simp
      rw [this]
      exact hr'
    have hc5 : A.cell? ⟨w.heap.size + 1 + 1, 0, none⟩ = some (.int .i64 (k : Nat)) := by rw [← hk]; exact a1.cell
    have hf5 := a1.frozen
    have hc4 := hB4.cell
    have hf4 := hB4.frozen
    have HB4 : Hid (Boxed A (w.heap.size + 1) 4 (.bool false)) := hB4
    have HGr : Hid (∀ W', Below A.heap.size A W' → k < d.ss.length → W'.rangeAt g' (k * 64) (u8s (d.ss.getD k []))) := fun W' hb hkl => sec_range (((a2.row hg6.lt (by simp; omega) hg6)).later hb) hss hkl
    have HLen : Hid (pre.length = k) := hk
    clear hrow a1 a2 hk hB4
    by_cases hxk : x.1 = k
    · have hxe : x.2 = d.ss.getD k [] := by rw [hok.2, hxk]
      have hq := equal_secs hxs hxs
      rw [decide_eq_true rfl] at hq
      rw [← hxe] at HGr
      have HGr2 : Hid (∀ W', Below A.heap.size A W' → W'.rangeAt g' (k * 64) (u8s x.2)) := fun W' hb => HGr.out W' hb (by rw [HM.out]; exact hN')
      have hki : (k : Int) < (m : Int) := by omega
      have hmk : ¬ (m : Int) ≤ (k : Int) := by omega
      have hmk2 : ¬ m ≤ k := by omega
      have hm64 : m ≤ 65536 := by rw [← HM.out]; exact hfew
      rw [hxk]
      clear hxk hok hxs hxe HGr
      generalize u8s x.2 = V at *
      gi_wp2
      refine wpIn_region_on_round (S := fun W' => Below A.heap.size A W') (by kernel_rfl) (by kernel_rfl) (Below.refl _ _).drew (fun hHeld => ?_)
      refine wpAnyH_takesAt 0 13 10 (of_decide_eq_true (by kernel_rfl)) rfl (fun _ _ _ d _ h => by cases d <;> exact h) (by kernel_rfl) (by kernel_rfl) hHeld ?_
      simp only [List.drop_zero, List.take_succ_cons, List.take_zero]
      iterate 13 (refine wpHeld_step (v := ?_) (by rfl) (fun wz hSw => ?_) ?_; rotate_left; (focus (obtain ⟨hf1, hf2, hf3⟩ := HF.out wz hSw; clear hSw; go_simp; try with_reducible rfl)); (simp only [Act.put, List.setIfInBounds_toArray, List.set_cons_zero, List.set_cons_succ]))
      refine wpHeld_nil ?_
      refine wpAnyH_takesAt 13 1 9 (of_decide_eq_true (by kernel_rfl)) rfl (fun _ _ _ d _ h => by cases d <;> exact h) (by kernel_rfl) (by kernel_rfl) hHeld ?_
      simp only [List.drop_succ_cons, List.drop_zero, List.take_succ_cons, List.take_zero]
      refine wpHeld_load (by rfl) 29 (.tmp 7) rfl A₀.heap.size (0) rfl V (fun W hW => HXR.out W hW) Try.underlying29 (by rw [HXL.out]; exact size29) ?_
      (simp only [Act.put]; (try simp only [List.setIfInBounds_toArray]); (try simp only [List.set_cons_succ]); (try simp only [List.set_cons_zero]))
      refine wpHeld_nil ?_
      refine wpAnyH_takesAt 14 6 3 (of_decide_eq_true (by kernel_rfl)) rfl (fun _ _ _ d _ h => by cases d <;> exact h) (by kernel_rfl) (by kernel_rfl) hHeld ?_
      simp only [List.drop_succ_cons, List.drop_zero, List.take_succ_cons, List.take_zero]
      iterate 6 (refine wpHeld_step (v := ?_) (by rfl) (fun wz hSw => ?_) ?_; rotate_left; (focus (obtain ⟨hf1, hf2, hf3⟩ := HF.out wz hSw; clear hSw; go_simp; try with_reducible rfl)); (simp only [Act.put, List.setIfInBounds_toArray, List.set_cons_zero, List.set_cons_succ]))
      refine wpHeld_nil ?_
      refine wpAnyH_takesAt 20 1 2 (of_decide_eq_true (by kernel_rfl)) rfl (fun _ _ _ d _ h => by cases d <;> exact h) (by kernel_rfl) (by kernel_rfl) hHeld ?_
      simp only [List.drop_succ_cons, List.drop_zero, List.take_succ_cons, List.take_zero]
      refine wpHeld_load (by rfl) 29 (.tmp 31) rfl g' (k * 64) rfl V (fun W hW => HGr2.out W hW) Try.underlying29 (by rw [HXL.out]; exact size29) ?_
      (simp only [Act.put]; (try simp only [List.setIfInBounds_toArray]); (try simp only [List.set_cons_succ]); (try simp only [List.set_cons_zero]))
      refine wpHeld_nil ?_
      refine wpAnyH_takesAt 21 1 1 (of_decide_eq_true (by kernel_rfl)) rfl (fun _ _ _ d _ h => by cases d <;> exact h) (by kernel_rfl) (by kernel_rfl) hHeld ?_
      simp only [List.drop_succ_cons, List.drop_zero, List.take_succ_cons, List.take_zero]
      iterate 1 (refine wpHeld_step (v := ?_) (by rfl) (fun wz hSw => ?_) ?_; rotate_left; (focus ((try dsimp only at hSw); go_simp; try with_reducible rfl)); ((simp only [Act.put]; (try simp only [List.setIfInBounds_toArray]); (try simp only [List.set_cons_succ]); (try simp only [List.set_cons_zero]))))
      refine wpHeld_nil ?_
      refine wpAnyH_takesAt 22 1 0 (of_decide_eq_true (by kernel_rfl)) rfl (fun _ _ _ d _ h => by cases d <;> exact h) (by kernel_rfl) (by kernel_rfl) hHeld ?_
      simp only [List.drop_succ_cons, List.drop_zero, List.take_succ_cons, List.take_zero]
      iterate 1 (refine wpHeld_step (v := ?_) (by rfl) (fun wz hSw => ?_) ?_; rotate_left; (focus ((try dsimp only at hSw); go_simp; try with_reducible rfl)); ((simp only [Act.put]; (try simp only [List.setIfInBounds_toArray]); (try simp only [List.set_cons_succ]); (try simp only [List.set_cons_zero]))))
      refine wpHeld_nil ?_
      refine wpAnyH_done (by kernel_rfl) ?_ _
      refine OnOnly.on ?_
      gi_wp2
      exact HEnd.out _ rfl
    · have hxi : ¬ (x.1 : Int) = (k : Int) := by omega
      obtain ⟨j, hj⟩ : ∃ j, x.1 = j := ⟨_, rfl⟩
      rw [hj] at hxi ⊢
      have hjk : ¬ j = k := by omega
      have hjk3 : ((j : Int) != (k : Int)) = true := by simpa [bne] using hxi
      have HNot : Hid (¬ ∃ k, pre ++ [x] = numd d.ss k) := fun ⟨k', e⟩ => hxk (by rw [numd_last e, HLen.out])
      clear hj hok hxs HGr hxk
      generalize u8s x.2 = V at *
      gi_wp2
      refine wpIn_region_on_round (S := fun W' => Below A.heap.size A W') (by kernel_rfl) (by kernel_rfl) (Below.refl _ _).drew (fun hHeld => ?_)
      refine wpAnyH_takesAt 0 4 19 (of_decide_eq_true (by kernel_rfl)) rfl (fun _ _ _ d _ h => by cases d <;> exact h) (by kernel_rfl) (by kernel_rfl) hHeld ?_
      simp only [List.drop_zero, List.take_succ_cons, List.take_zero]
      iterate 4 (refine wpHeld_step (v := ?_) (by rfl) (fun wz hSw => ?_) ?_; rotate_left; (focus (obtain ⟨hf1, hf2, hf3⟩ := HF.out wz hSw; clear hSw; go_simp; try with_reducible rfl)); (simp only [Act.put, List.setIfInBounds_toArray, List.set_cons_zero, List.set_cons_succ]))
      refine wpHeld_nil ?_
      refine wpAnyH_takesAt 4 7 12 (of_decide_eq_true (by kernel_rfl)) rfl (fun _ _ _ d _ h => by cases d <;> exact h) (by kernel_rfl) (by kernel_rfl) hHeld ?_
      simp only [List.drop_succ_cons, List.drop_zero, List.take_succ_cons, List.take_zero]
      iterate 7 (refine wpHeld_skip (by rfl) ?_; simp only [Act.put, List.setIfInBounds_toArray, List.set_cons_zero, List.set_cons_succ])
      refine wpHeld_nil ?_
      refine wpAnyH_takesAt 11 2 10 (of_decide_eq_true (by kernel_rfl)) rfl (fun _ _ _ d _ h => by cases d <;> exact h) (by kernel_rfl) (by kernel_rfl) hHeld ?_
      simp only [List.drop_succ_cons, List.drop_zero, List.take_succ_cons, List.take_zero]
      iterate 2 (refine wpHeld_step (v := ?_) (by rfl) (fun wz hSw => ?_) ?_; rotate_left; (focus ((try dsimp only at hSw); go_simp; try with_reducible rfl)); (simp only [Act.put, List.setIfInBounds_toArray, List.set_cons_zero, List.set_cons_succ]))
      refine wpHeld_nil ?_
      refine wpAnyH_takesAt 13 9 1 (of_decide_eq_true (by kernel_rfl)) rfl (fun _ _ _ d _ h => by cases d <;> exact h) (by kernel_rfl) (by kernel_rfl) hHeld ?_
      simp only [List.drop_succ_cons, List.drop_zero, List.take_succ_cons, List.take_zero]
      iterate 9 (refine wpHeld_skip (by rfl) ?_; simp only [Act.put, List.setIfInBounds_toArray, List.set_cons_zero, List.set_cons_succ])
      refine wpHeld_nil ?_
      refine wpAnyH_takesAt 22 1 0 (of_decide_eq_true (by kernel_rfl)) rfl (fun _ _ _ d _ h => by cases d <;> exact h) (by kernel_rfl) (by kernel_rfl) hHeld ?_
      simp only [List.drop_succ_cons, List.drop_zero, List.take_succ_cons, List.take_zero]
      iterate 1 (refine wpHeld_step (v := ?_) (by rfl) (fun wz hSw => ?_) ?_; rotate_left; (focus ((try dsimp only at hSw); go_simp; try with_reducible rfl)); ((simp only [Act.put]; (try simp only [List.setIfInBounds_toArray]); (try simp only [List.set_cons_succ]); (try simp only [List.set_cons_zero]))))
      refine wpHeld_nil ?_
      refine wpAnyH_done (by kernel_rfl) ?_ _
      refine OnOnly.on ?_
      gi_wp2
      have hbA : Buts [w.heap.size + 1] A.heap.size A (A.setCell ⟨w.heap.size + 1, 0, none⟩ (.bool false)).drew := ((Buts.refl _ _ A).set (by simp) 0 _).drew
      refine ⟨⟨hbA.size, fun i o hi ho hc => (hbA.block i (Array.getElem?_eq_some_iff.1 ho).1 (by have := B5.out.lt; simp; omega)).trans ho⟩, ⟨hbA.size, fun o ho => (hbA.block G (Array.getElem?_eq_some_iff.1 ho).1 (by simp; omega)).trans ho⟩, HNot.out⟩
  case done =>
    rintro D xs A hD rfl ⟨a1, a2⟩ hKD
    rw [numd_length, HM.out] at a1
    have hB4 : Boxed A (w.heap.size + 1) 4 (.bool false) := (a2.block _ B4.out.lt (by simp)).trans B4.out
    have HF : Hid (∀ W', Buts [w.heap.size + 1] A.heap.size A W' → W'.cell? ⟨w.heap.size + 1 + 1, 0, none⟩ = some (.int .i64 (m : Nat)) ∧ W'.cell? ⟨w.heap.size, 0, none⟩ = some (.pointer (some ⟨p', 0, none⟩)) ∧ W'.cell? ⟨p', 0, none⟩ = some (.slice (some ⟨g', 0, none⟩) m m)) := fun W' hb => by
      have r3 : Boxed A w.heap.size 27 (.pointer (some ⟨p', 0, none⟩)) := (a2.block _ B3.out.lt (by simp; omega)).trans B3.out
      have r3' : Boxed W' w.heap.size 27 (.pointer (some ⟨p', 0, none⟩)) := (hb.block _ r3.lt (by simp)).trans r3
      have r5 : Boxed W' (w.heap.size + 1 + 1) 3 (.int .i64 (m : Nat)) := (hb.block _ a1.lt (by simp)).trans a1
      have r6 := a2.row hr6.lt (by simp; omega) hr6
      exact ⟨r5.cell, r3'.cell, (hb.row r6.lt (by simp; omega) r6).cell (i := 0) rfl⟩
    have hc4 := hB4.cell
    have hf4 := hB4.frozen
    have HEnd : Hid (∀ A' o, (A.setCell ⟨w.heap.size + 1, 0, none⟩ (.bool true)).drew = A' → A'.heap[D]? = some (.deferred (some [])) ∧ Row (A'.putObj D o) (w.heap.size + 1) 4 [.bool true] ∧ Below w.heap.size w (A'.putObj D o)) := fun A' o e => by
      have hbA : Buts [w.heap.size + 1] A.heap.size A A' := by rw [← e]; exact ((Buts.refl _ _ A).set (by simp) 0 _).drew
      have hDl := (Array.getElem?_eq_some_iff.1 hKD).1
      have hr : Row A (w.heap.size + 1) 4 [.bool false] := hB4
      have hr' := (hr.set 0 (.bool true)).drew
      rw [e] at hr'
      have l4 := B4.out.lt
      have l5 := B5.out.lt
      refine ⟨(hbA.block D hDl (by simp; omega)).trans hKD, (World.putObj_heap_other (by omega)).trans hr', ?_⟩
      exact ((hB2.trans (a2.below (by omega) (by simp; omega))).trans (hbA.below (by have := a2.size; omega) (by simp))).trans (below_putObj _ _ (by omega))
    have hm64 : m ≤ 65536 := by rw [← HM.out]; exact hfew
    clear a1 a2 hB4 hKD
    gi_wp2
    refine wpIn_region_on_wide (S := fun W' => Buts [w.heap.size + 1] A.heap.size A W') (by kernel_rfl) (by kernel_rfl) (Buts.refl _ _ _).drew (fun hHeld => ?_)
    refine wpAnyH_takesAt 0 5 3 (of_decide_eq_true (by kernel_rfl)) rfl (fun _ _ _ d _ h => by cases d <;> exact h) (by kernel_rfl) (by kernel_rfl) hHeld ?_
    simp only [List.drop_zero, List.take_succ_cons, List.take_zero]
    iterate 5 (refine wpHeld_step (v := ?_) (by rfl) (fun wz hSw => ?_) ?_; rotate_left; (focus (obtain ⟨hf1, hf2, hf3⟩ := HF.out wz hSw; clear hSw; go_simp; try with_reducible rfl)); (simp only [Act.put, List.setIfInBounds_toArray, List.set_cons_zero, List.set_cons_succ]))
    refine wpHeld_nil ?_
    refine wpAnyH_takesAt 5 2 1 (of_decide_eq_true (by kernel_rfl)) rfl (fun _ _ _ d _ h => by cases d <;> exact h) (by kernel_rfl) (by kernel_rfl) hHeld ?_
    simp only [List.drop_succ_cons, List.drop_zero, List.take_succ_cons, List.take_zero]
    iterate 2 (refine wpHeld_step (v := ?_) (by rfl) (fun wz hSw => ?_) ?_; rotate_left; (focus ((try dsimp only at hSw); go_simp; try with_reducible rfl)); (simp only [Act.put, List.setIfInBounds_toArray, List.set_cons_zero, List.set_cons_succ]))
    refine wpHeld_nil ?_
    refine wpAnyH_only (i := 7) (by kernel_rfl) rfl (fun K hK => ?_)
    rw [if_pos (by rfl)]
    go_simp
    refine hK.out _ _ ((Buts.refl _ _ A).set (by simp) 0 _).drew ?_
    clear hK K
    refine wpAnyH_done (by kernel_rfl) ?_ _
    refine OnOnly.on ?_
    obtain ⟨A', hA'⟩ : ∃ A', (A.setCell ⟨w.heap.size + 1, 0, none⟩ (.bool true)).drew = A' := ⟨_, rfl⟩
    rw [hA']
    have HE : Hid (∀ o, _) := fun o => HEnd.out A' o hA'
    have hKF := (HE.out (.deferred none)).1
    clear hA' hHeld hc4 hf4
    gi_wp2
    refine ⟨by simp, .inl ⟨_, _, rfl, run_takeDeferred hKF, ?_⟩⟩
    obtain ⟨_, e2, e3⟩ := HE.out (.deferred none)
    exact ⟨_, results_bool rfl rfl e2, rfl, e3⟩
  case stop =>
    rintro D c pre A hD hSp h hKD
    exact absurd hSp h

theorem alike_any {F F' : List Nat} {p g p' g' : Nat} {d : St} {w : World} (h : DiskAt F w p g d) (h' : RefAt F' w p' g' d) :
    Calls Try.prog 18 #[.pointer (some ⟨p, 0, none⟩), .pointer (some ⟨p', 0, none⟩)] w fun e w' => e = .returned (.bool true) ∧ Below w.heap.size w w' :=
  callsIn_wide.1 (alike_in 8 (Nat.le_refl _) h h')
end Go.Proofs.Ytffngjglgdbncaa
