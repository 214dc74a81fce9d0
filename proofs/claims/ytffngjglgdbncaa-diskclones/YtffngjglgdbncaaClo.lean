/-
  Clone: a disk that goes on alike, by itself.
-/
import Derived.Test.YtffngjglgdbncaaEach
import Derived.Test.YtffngjglgdbncaaNew
namespace Go.Proofs.Ytffngjglgdbncaa
open Go.RowKit Go.Shelf
attribute [local go_sem] Oper.semAt_some

theorem clone_none (w : World) : Calls Try.prog 19 #[.pointer none] w fun e w' => e = .returned (.pointer none) ∧ w' = w := by
  go_enter Try.func19, Try.ntmps19
  go_wp2
  go_ret
  exact ⟨rfl, rfl⟩

set_option maxRecDepth 100000 in
set_option maxHeartbeats 4000000 in
theorem clone_in (n : Nat) (hn : 8 ≤ n) {F : List Nat} {p g : Nat} {d : St} {w : World} (h : DiskAt F w p g d) (hcr : d.cr.length ≤ 100000) :
    CallsIn Fence.wide n Try.prog 19 #[.pointer (some ⟨p, 0, none⟩)] w fun e w' => ∃ p' g', e = .returned (.pointer (some ⟨p', 0, none⟩)) ∧ w.heap.size ≤ p' ∧ w.heap.size ≤ g' ∧ DiskAt [p', g'] w' p' g' d ∧ Below w.heap.size w w' := by
  have h1 : 1 ≤ n := by omega
  have hfn : ∀ f, Fence.wide.fn f := fun _ => trivial
  have HD : Hid (DiskAt F w p g d) := h
  have c0 : w.cell? ⟨p, 0, none⟩ = some (.bool true) := by
    obtain ⟨h1, h2, h3, h4, h5, q, len, cap, h6, h7⟩ := h
    exact h6.cell (i := 0) rfl
  have HC : Hid (∀ W, Below w.heap.size w W → W.cell? ⟨p, 2, none⟩ = some (.slice (some ⟨g, 0, none⟩) d.ss.length d.ss.length)) := fun W hb => by
    obtain ⟨h1, h2, h3, h4, h5, q, len, cap, h6, h7⟩ := h
    exact (h6.later hb).cell (i := 2) rfl
  obtain ⟨q, len, cap, HN4⟩ : ∃ q len cap, Hid (∀ W, Below w.heap.size w W → W.cell? ⟨p, 4, none⟩ = some (.slice q len cap) ∧ (Calls Try.prog 7 #[.int .i64 (d.ss.length : Nat), .slice q len cap] W fun e w' => ∃ p' g', e = .returned (.pointer (some ⟨p', 0, none⟩)) ∧ W.heap.size ≤ p' ∧ W.heap.size ≤ g' ∧ (∀ F, p' ∈ F → g' ∈ F → (∀ x ∈ F, x = p' ∨ x = g' ∨ x < W.heap.size ∨ w'.heap.size ≤ x) → DiskAt F w' p' g' (newS (d.ss.length : Nat) d.cr)) ∧ Below W.heap.size W w')) := by
    obtain ⟨h1, h2, h3, h4, h5, q, len, cap, h6, h7⟩ := h
    exact ⟨q, len, cap, fun W hb => ⟨(h6.later hb).cell (i := 4) rfl, new_gen _ ((h7.later hb).more (by simp)) (by rw [← h7.1]; exact hcr)⟩⟩
  have hfew := h.1.few
  clear h
  obtain ⟨m, hm⟩ : ∃ m, d.ss.length = m := ⟨_, rfl⟩
  have HM : Hid (d.ss.length = m) := hm
  rw [hm] at HC HN4 hfew
  clear hm
  refine callsIn_of_wp_marks Try.func19 rfl trivial ?_ rfl
  simp only [Try.ntmps19, List.size_toArray, List.length_cons, List.length_nil, Nat.reduceAdd, Nat.reduceSub, Array.replicate_succ, Array.replicate_zero, List.push_toArray, List.append_toArray, List.nil_append, List.cons_append]
  gi_wp2
  rename_i K0 hK0
  have KEY : ∀ (C pc gc : Nat) (W : World), w.heap.size ≤ C → w.heap.size ≤ pc → w.heap.size ≤ gc → C ≠ pc → C ≠ gc → Row W C 25 [.pointer (some ⟨pc, 0, none⟩)] → DiskAt [pc, gc, C] W pc gc (newS (m : Nat) d.cr) → Below w.heap.size w W → K0 { tmps := #[.pointer (some ⟨p, 0, none⟩), undef, .pointer none, .pointer (some ⟨C, 0, none⟩), undef, undef, .pointer (some ⟨p, 0, none⟩), .bool false, .bool false, .pointer (some ⟨p, 0, none⟩), .pointer (some ⟨p, 0, none⟩), .pointer (some ⟨p, 0, none⟩), .bool true, .bool false, .bool false, .pointer (some ⟨p, 0, none⟩), .pointer (some ⟨p, 0, none⟩), .pointer (some ⟨p, 2, none⟩), .slice (some ⟨g, 0, none⟩) m m, .int .i64 (m : Nat), .pointer (some ⟨p, 0, none⟩), .pointer (some ⟨p, 0, none⟩), .pointer (some ⟨p, 4, none⟩), .slice q len cap, .pointer (some ⟨pc, 0, none⟩), undef, undef, undef, undef, undef, undef, undef, undef, undef, undef, undef, undef, undef, undef, undef, undef, undef, undef, undef, undef, undef, undef, undef, undef, undef, undef, undef, undef, undef], defers := [] } W := by
    intro C pc gc W hC hpc hgc hCp hCg hRC hDn hBW
    refine hK0 _ _ ?_
    have hc2 := HC.out W hBW
    gi_wp2_with (gi_at_call 25; refine (callsIn_wide.2 (each_any _ _ _ _)).mono ?_; rintro e w' ⟨rfl, rfl⟩)
    have hss : ∀ s ∈ d.ss, IsSec s := HD.out.1.secs
    have hgp : g < w.heap.size := HD.out.lt.2
    have hpp : p < w.heap.size := HD.out.lt.1
    have hszW := hBW.size
    obtain ⟨w4, hw4⟩ : ∃ w4, W.alloc (.cells #[.slice (some ⟨g, 0, none⟩) m m] 40) = w4 := ⟨_, rfl⟩
    have hb4 : Below W.heap.size W w4 := by rw [← hw4]; exact (Below.refl _ W).alloc (Nat.le_refl _) _
    have hs4 : w4.heap.size = W.heap.size + 1 := by rw [← hw4]; simp
    have hbx : Boxed w4 W.heap.size 40 (.slice (some ⟨g, 0, none⟩) m m) := by rw [← hw4]; exact Boxed.new W 40 _
    have hB4 : Below w.heap.size w w4 := hBW.trans (hb4.mono hszW)
    have hD4 := hDn.later hb4
    have hC4 := hRC.later hb4
    have hl4 := hD4.lt
    have hlC := hC4.lt
    rw [hw4]
    have HS4 : Hid (SecsR w4 g d.ss) := fun i hi => sec_range (HD.out.later hB4).2.2.2.2.1 hss hi
    have HD4 : Hid (DiskAt [pc, gc, C] w4 pc gc (newS (m : Nat) d.cr)) := hD4
    have HC4 : Hid (Row w4 C 25 [.pointer (some ⟨pc, 0, none⟩)]) := hC4
    have hnl : (newS (m : Nat) d.cr).ss.length = m := by simp only [newS, sizeS, List.length_replicate]; omega
    have hpcgc : pc ≠ gc := hD4.2.1
    have HPc : Hid (∃ q5 l5 c5, Row w4 pc 53 [.bool true, .bool true, .slice (some ⟨gc, 0, none⟩) m m, .int .i64 0, .slice q5 l5 c5] ∧ CrAt [pc, gc, C] w4 q5 l5 c5 d.cr) := by
      obtain ⟨h1, h2, h3, h4, h5, q5, l5, c5, h6, h7⟩ := hD4
      rw [hnl] at h6
      exact ⟨q5, l5, c5, h6, h7⟩
    have HG0 : Hid (Row w4 gc 29 (u8s (newS (m : Nat) d.cr).ss.flatten)) := hD4.2.2.2.2.1
    have HN0 : Hid (∀ s ∈ (newS (m : Nat) d.cr).ss, IsSec s) := (newS_ok _ _).secs
    clear hD4 hC4 hDn hRC hw4
    refine wpIn_rangeFunc_arr rfl h1 (gf := 27) (lb := #[.pointer (some ⟨W.heap.size, 0, none⟩)]) rfl trivial (enters_of Try.func27 (by kernel_rfl) rfl)
      (encs := fun x : Nat × List Nat => #[.int .i64 (x.1 : Nat), .agg (u8s x.2).toArray]) (Ok := fun x _ => x.1 < d.ss.length ∧ x.2 = d.ss.getD x.1 []) (Kp := KpB g) (S := fun xs => xs = numd d.ss d.ss.length) (Sp := fun pre => ∃ k, pre = numd d.ss k) (N := d.ss.length)
      (fun W' hs hb => each1_iter (n - 1) (by omega) _ W.heap.size g m d.ss hss (by rw [HM.out]; exact hfew) W' (by rw [HM.out]; exact boxed_below hbx hb) (HS4.out.same (KpB.below hb).2))
      KpB.trans (fun A o o' _ _ => KpB.putObj (by omega) A o') KpB.below (fun _ => rfl) 29 (fun x => u8s x.2)
      (fun pre A => ∃ X : List (List Nat), X.length = m ∧ (∀ s ∈ X, IsSec s) ∧ (∀ x ∈ pre, X.getD x.1 [] = d.ss.getD x.1 []) ∧ Row A gc 29 (u8s X.flatten) ∧ Buts [gc] w4.heap.size w4 A)
      (fun _ _ _ => False)
      (fun pre A A' ⟨X, a1, a2, a3, a4, a5⟩ hb => ⟨X, a1, a2, a3, a4.below hb hl4.2, a5.trans (Buts.of_below hb (Nat.le_refl _))⟩)
      (fun _ _ _ _ h _ => h)
      (fun _ _ _ h _ => h)
      ⟨_, hnl, HN0.out, by simp, HG0.out, Buts.refl _ _ _⟩
      (fun x A => { tmps := #[.pointer (some ⟨p, 0, none⟩), undef, .pointer none, .pointer (some ⟨C, 0, none⟩), .int .i64 (x.1 : Nat), .pointer (some ⟨A.heap.size, 0, none⟩), .pointer (some ⟨p, 0, none⟩), .bool false, .bool false, .pointer (some ⟨p, 0, none⟩), .pointer (some ⟨p, 0, none⟩), .pointer (some ⟨p, 0, none⟩), .bool true, .bool false, .bool false, .pointer (some ⟨p, 0, none⟩), .pointer (some ⟨p, 0, none⟩), .pointer (some ⟨p, 2, none⟩), .slice (some ⟨g, 0, none⟩) m m, .int .i64 (m : Nat), .pointer (some ⟨p, 0, none⟩), .pointer (some ⟨p, 0, none⟩), .pointer (some ⟨p, 4, none⟩), .slice q len cap, .pointer (some ⟨pc, 0, none⟩), .pointer (some ⟨p, 0, none⟩), .pointer (some ⟨p, 0, none⟩), .pointer (some ⟨p, 2, none⟩), .slice (some ⟨g, 0, none⟩) m m, .func (.func 27) #[] #[.pointer (some ⟨W.heap.size, 0, none⟩)], .int .i64 (x.1 : Nat), .agg (u8s x.2).toArray, undef, undef, undef, undef, undef, undef, undef, undef, undef, undef, undef, undef, undef, undef, undef, undef, undef, undef, undef, undef, undef, undef], defers := [] }) ?assign ?body ?done ?stop
    case assign =>
      intro li x A K hok hK
      have hxs : IsSec x.2 := by rw [hok.2]; exact sec_at hss hok.1
      have HXL : Hid ((u8s x.2).length = 64) := by show _ = _; rw [u8s_length]; exact hxs.1
      have HX1 : Hid (∀ v ∈ u8s x.2, v.oneCell' = true) := u8s_one x.2
      have HK : Hid (∀ W', Below A.heap.size A W' → Row W' A.heap.size 29 (u8s x.2) → K _ W') := hK
      clear hK
      generalize u8s x.2 = V at *
      gi_wp2_with ((with_reducible show wpListIn _ _ _ _ _ (Oper.mk _ (Op.store 29 (.tmp 5) (.tmp 31)) _ _ _ _ :: _) _ _); rw [z64u8]; refine wpListIn_store_new rfl (.tmp 5) (.tmp 31) rfl V HXL.out HX1.out rfl rfl (fun w5 hb5 hR5 hs5 => ?_); simp only [Act.put])
      exact HK.out _ hb5 hR5
    case body =>
      rintro li pre x A₀ A ⟨X, a1, a2, a3, a4, a5⟩ hok hN hle hrow
      have hxs : IsSec x.2 := by rw [hok.2]; exact sec_at hss hok.1
      have hx1 : x.1 < m := by rw [← HM.out]; exact hok.1
      have HXL : Hid ((u8s x.2).length = 64) := by show _ = _; rw [u8s_length]; exact hxs.1
      have HX1 : Hid (∀ v ∈ u8s x.2, v.oneCell' = true) := u8s_one x.2
      have HA : Hid (∀ W', Buts [gc] A.heap.size A W' → W'.cell? ⟨C, 0, none⟩ = some (.pointer (some ⟨pc, 0, none⟩)) ∧ W'.cell? ⟨pc, 2, none⟩ = some (.slice (some ⟨gc, 0, none⟩) m m)) := fun W' hb => by
        obtain ⟨q5, l5, c5, h6, _⟩ := HPc.out
        have hb' := a5.trans (hb.mono (fun _ h => h) a5.size)
        exact ⟨(hb'.row HC4.out.lt (by simpa using hCg) HC4.out).cell (i := 0) rfl, (hb'.row h6.lt (by simpa using hpcgc) h6).cell (i := 2) rfl⟩
      have hneA : A₀.heap.size ≠ gc := by omega
      have HXR : Hid (∀ W', Buts [gc] A.heap.size A W' → W'.rangeAt A₀.heap.size 0 (u8s x.2)) := fun W' hb => (hb.row hrow.lt (by simpa using hneA) hrow).range
      have HT : Hid (A.there gc (x.1 * 64) 64) := by
        refine a4.there_mid ?_
        rw [u8s_length, flat_length a2, a1]
        omega
      have HEnd : Hid (∀ A', A.drew.setCells gc (x.1 * 64) (u8s x.2) = A' → KeepsFrom w4.heap.size A A' ∧ KpB g A A' ∧ ∃ X : List (List Nat), X.length = m ∧ (∀ s ∈ X, IsSec s) ∧ (∀ y ∈ pre ++ [x], X.getD y.1 [] = d.ss.getD y.1 []) ∧ Row A' gc 29 (u8s X.flatten) ∧ Buts [gc] w4.heap.size w4 A') := fun A' e => by
        have hbA : Buts [gc] A.heap.size A A' := by rw [← e]; exact (Buts.refl _ _ A).drew.sets (by simp) _ _
        refine ⟨?_, ⟨hbA.size, fun o ho => (hbA.block g (Array.getElem?_eq_some_iff.1 ho).1 (by simp; omega)).trans ho⟩, X.set x.1 x.2, by simpa using a1, fun s hs => ?_, fun y hy => ?_, ?_, a5.trans (hbA.mono (fun _ h => h) a5.size)⟩
        · rw [← e]
          have := (KpM.sets (M := fun k => k = gc) (n₂ := w4.heap.size) rfl (u8s x.2) (x.1 * 64) A.drew).2
          exact ⟨this.size, this.same⟩
        · rcases List.mem_or_eq_of_mem_set hs with h | rfl
          · exact a2 s h
          · exact hxs
        · rw [List.getD_eq_getElem?_getD, List.getElem?_set]
          by_cases hxy : x.1 = y.1
          · rw [if_pos hxy, if_pos (by omega), Option.getD_some, hok.2, hxy]
          · rw [if_neg hxy, ← List.getD_eq_getElem?_getD]
            rcases List.mem_append.1 hy with h | h
            · exact a3 y h
            · rw [List.mem_singleton] at h
              exact absurd (by rw [h]) hxy
        · have := Row.sets (u8s x.2) (x.1 * 64) a4.drew
          rw [flat_put_all a2 (by omega) hxs.1, e] at this
          exact this
      have hxi : (x.1 : Int) < (m : Int) := by omega
      obtain ⟨i, hi⟩ : ∃ i, x.1 = i := ⟨_, rfl⟩
      rw [hi] at HT HEnd hx1 hxi ⊢
      clear hi hok hrow a1 a2 a3 a4 a5 hxs
      generalize u8s x.2 = V at *
      gi_wp2
      refine wpIn_region_on_round (S := fun W' => Buts [gc] A.heap.size A W') (by kernel_rfl) (by kernel_rfl) (Buts.refl _ _ _).drew (fun hHeld => ?_)
      refine wpAnyH_takesAt 0 5 3 (of_decide_eq_true (by kernel_rfl)) rfl (fun _ _ _ d _ h => by cases d <;> exact h) (by kernel_rfl) (by kernel_rfl) hHeld ?_
      simp only [List.drop_zero, List.take_succ_cons, List.take_zero]
      iterate 5 (refine wpHeld_step (v := ?_) (by rfl) (fun wz hSw => ?_) ?_; rotate_left; (focus (obtain ⟨hc1, hc2⟩ := HA.out wz hSw; clear hSw; go_simp; try with_reducible rfl)); (simp only [Act.put, List.setIfInBounds_toArray, List.set_cons_zero, List.set_cons_succ]))
      refine wpHeld_nil ?_
      refine wpAnyH_takesAt 5 1 2 (of_decide_eq_true (by kernel_rfl)) rfl (fun _ _ _ d _ h => by cases d <;> exact h) (by kernel_rfl) (by kernel_rfl) hHeld ?_
      simp only [List.drop_succ_cons, List.drop_zero, List.take_succ_cons, List.take_zero]
      refine wpHeld_load (by rfl) 29 (.tmp 5) rfl A₀.heap.size (0) rfl V (fun W hW => HXR.out W hW) Try.underlying29 (by rw [HXL.out]; exact size29) ?_
      (simp only [Act.put]; (try simp only [List.setIfInBounds_toArray]); (try simp only [List.set_cons_succ]); (try simp only [List.set_cons_zero]))
      refine wpHeld_nil ?_
      refine wpAnyH_takesAt 6 1 1 (of_decide_eq_true (by kernel_rfl)) rfl (fun _ _ _ d _ h => by cases d <;> exact h) (by kernel_rfl) (by kernel_rfl) hHeld ?_
      simp only [List.drop_succ_cons, List.drop_zero, List.take_succ_cons, List.take_zero]
      iterate 1 (refine wpHeld_step (v := ?_) (by rfl) (fun wz hSw => ?_) ?_; rotate_left; (focus ((try dsimp only at hSw); go_simp; try with_reducible rfl)); ((simp only [Act.put]; (try simp only [List.setIfInBounds_toArray]); (try simp only [List.set_cons_succ]); (try simp only [List.set_cons_zero]))))
      refine wpHeld_nil ?_
      refine wpAnyH_only (i := 7) (by kernel_rfl) rfl (fun K hK => ?_)
      rw [if_pos (by rfl)]
      refine wp_store_mid 29 (.tmp 38) (.tmp 37) rfl gc (i * 64) V.toArray rfl rfl (by simp only [List.size_toArray]; rw [HXL.out]; exact HT.out) (by simp only [List.size_toArray]; rw [HXL.out]; exact size29) (all_oneCell_toArray HX1.out) ?_
      refine hK.out _ _ ((Buts.refl _ _ _).drew.sets (by simp) _ _) ?_
      clear hK K
      simp only [Act.put]
      refine wpAnyH_done (by kernel_rfl) ?_ _
      refine OnOnly.on ?_
      exact HEnd.out _ rfl
    case done =>
      rintro D xs A hD rfl ⟨X, a1, a2, a3, a4, a5⟩ hKD
      have hXs : X = d.ss := by
        apply List.ext_getElem (by rw [a1, HM.out])
        intro i h1 h2
        have := a3 (i, d.ss.getD i []) (by simp only [numd, List.mem_map, List.mem_range]; exact ⟨i, h2, rfl⟩)
        simpa [List.getD, List.getElem?_eq_getElem h1, List.getElem?_eq_getElem h2] using this
      subst hXs
      obtain ⟨q5, l5, c5, h6, h7⟩ := HPc.out
      have hrC : Row A C 25 [.pointer (some ⟨pc, 0, none⟩)] := a5.row HC4.out.lt (by simpa using hCg) HC4.out
      have hrPc := a5.row h6.lt (by simpa using hpcgc) h6
      have hcrA := h7.buts (a5.mono (fun _ h => h) (Nat.le_refl _)) (by simp)
      obtain ⟨qo, lo, co, hrP⟩ : ∃ qo lo co, Row A p 53 [.bool true, .bool (!d.dead), .slice (some ⟨g, 0, none⟩) d.ss.length d.ss.length, .int .i64 (d.wr : Nat), .slice qo lo co] := by
        obtain ⟨_, _, _, _, _, qo, lo, co, h6, _⟩ := HD.out.later hB4
        exact ⟨qo, lo, co, a5.row h6.lt (by simp; omega) h6⟩
      have hlA : w4.heap.size ≤ A.heap.size := a5.size
      have hKD1 := hKD
      have HA1 : Hid (∀ W', Buts [pc] A.heap.size A W' → W'.cell? ⟨C, 0, none⟩ = some (.pointer (some ⟨pc, 0, none⟩)) ∧ W'.cell? ⟨p, 1, none⟩ = some (.bool (!d.dead)) ∧ W'.cell? ⟨p, 3, none⟩ = some (.int .i64 (d.wr : Nat))) := fun W' hb => by
        have r1 := hb.row hrC.lt (by simp; omega) hrC
        have r2 := hb.row hrP.lt (by simp; omega) hrP
        exact ⟨r1.cell (i := 0) rfl, r2.cell (i := 1) rfl, r2.cell (i := 3) rfl⟩
      have HP1 : Hid (A.cell? ⟨pc, 1, none⟩ = some (.bool true) ∧ A.frozen? ⟨pc, 1, none⟩ = false) := ⟨hrPc.cell (i := 1) rfl, hrPc.frozen 1⟩
      have HP3 : Hid (∀ A1, (A.setCell ⟨pc, 1, none⟩ (.bool (!d.dead))).drew = A1 → A1.cell? ⟨pc, 3, none⟩ = some (.int .i64 0) ∧ A1.frozen? ⟨pc, 3, none⟩ = false) := fun A1 e => by
        have := (hrPc.set 1 (.bool (!d.dead))).drew
        rw [e] at this
        exact ⟨this.cell (i := 3) rfl, this.frozen 3⟩
      have HEnd : Hid (∀ A1 A2 o, (A.setCell ⟨pc, 1, none⟩ (.bool (!d.dead))).drew = A1 → (A1.setCell ⟨pc, 3, none⟩ (.int .i64 (d.wr : Nat))).drew = A2 → A2.cell? ⟨C, 0, none⟩ = some (.pointer (some ⟨pc, 0, none⟩)) ∧ A2.heap[D]? = some (.deferred (some [])) ∧ DiskAt [pc, gc, C] (A2.putObj D o) pc gc d ∧ Below w.heap.size w (A2.putObj D o)) := fun A1 A2 o e1 e2 => by
        have hbA : Buts [pc] A.heap.size A A2 := by rw [← e2, ← e1]; exact (((Buts.refl _ _ A).set (by simp) 1 _).drew.set (by simp) 3 _).drew
        have hDlt := (Array.getElem?_eq_some_iff.1 hKD1).1
        have hbP : Below w4.heap.size A2 (A2.putObj D o) := below_putObj A2 _ hD
        have hF : ∀ x ∈ [gc], w.heap.size ≤ x := by simp; omega
        have hF2 : ∀ x ∈ [pc], w.heap.size ≤ x := by simp; omega
        have r2 := ((hrPc.set 1 (.bool (!d.dead))).drew.set 3 (.int .i64 (d.wr : Nat))).drew
        have e3 : ((A.setCell ⟨pc, 1, none⟩ (.bool (!d.dead))).drew.setCell ⟨pc, 3, none⟩ (.int .i64 (d.wr : Nat))).drew = A2 := by rw [e1, e2]
        have r2' : Row A2 pc 53 [.bool true, .bool (!d.dead), .slice (some ⟨gc, 0, none⟩) m m, .int .i64 (d.wr : Nat), .slice q5 l5 c5] := by
          rw [← e3]
          exact r2
        refine ⟨(HA1.out A2 hbA).1, (hbA.block D hDlt (by simp; omega)).trans hKD1, ⟨HD.out.1, hpcgc, by simp, by simp, ?_, q5, l5, c5, ?_, ?_⟩, ?_⟩
        · exact (hbA.row a4.lt (by simpa using Ne.symm hpcgc) a4).below hbP hl4.2
        · rw [HM.out]
          exact r2'.below hbP hl4.1
        · have c2 := hcrA.buts hbA (by simp)
          obtain ⟨g1, g2, g3, g4⟩ := h7
          obtain ⟨k1, k2, k3, k4⟩ := c2
          refine ⟨k1, k2, k3, ?_⟩
          rcases g4 with h | ⟨b, off, e, hl, hF, hr⟩
          · exact .inl h
          · rcases k4 with h' | ⟨b', off', e', hl', hF', hr'⟩
            · exact .inl h'
            · rw [e] at e'
              cases e'
              refine .inr ⟨b, off, e, by simpa [World.putObj] using hl', hF', rangeAt_same hr' (fun _ ho => (hbP.block b hl).trans ho)⟩
        · exact (((hB4.trans (a5.below (by omega) hF)).trans (hbA.below (by omega) hF2))).trans (hbP.mono (by omega))
      clear hrC hrPc hcrA hrP h6 h7 a1 a2 a3 a4 hKD1
      have HKD : Hid (A.heap[D]? = some (.deferred (some []))) := hKD
      clear hKD
      gi_wp2
      refine wpIn_region_on_wide (S := fun W' => Buts [pc] A.heap.size A W') (by kernel_rfl) (by kernel_rfl) (Buts.refl _ _ _).drew (fun hHeld => ?_)
      refine wpAnyH_takesAt 0 5 3 (of_decide_eq_true (by kernel_rfl)) rfl (fun _ _ _ d _ h => by cases d <;> exact h) (by kernel_rfl) (by kernel_rfl) hHeld ?_
      simp only [List.drop_zero, List.take_succ_cons, List.take_zero]
      iterate 5 (refine wpHeld_step (v := ?_) (by rfl) (fun wz hSw => ?_) ?_; rotate_left; (focus (obtain ⟨hx1, hx2, _⟩ := HA1.out wz hSw; clear hSw; go_simp; try with_reducible rfl)); (simp only [Act.put, List.setIfInBounds_toArray, List.set_cons_zero, List.set_cons_succ]))
      refine wpHeld_nil ?_
      refine wpAnyH_takesAt 5 2 1 (of_decide_eq_true (by kernel_rfl)) rfl (fun _ _ _ d _ h => by cases d <;> exact h) (by kernel_rfl) (by kernel_rfl) hHeld ?_
      simp only [List.drop_succ_cons, List.drop_zero, List.take_succ_cons, List.take_zero]
      iterate 2 (refine wpHeld_step (v := ?_) (by rfl) (fun wz hSw => ?_) ?_; rotate_left; (focus ((try dsimp only at hSw); go_simp; try with_reducible rfl)); (simp only [Act.put, List.setIfInBounds_toArray, List.set_cons_zero, List.set_cons_succ]))
      refine wpHeld_nil ?_
      refine wpAnyH_only (i := 7) (by kernel_rfl) rfl (fun K hK => ?_)
      rw [if_pos (by rfl)]
      obtain ⟨hz1, hz2⟩ := HP1.out
      go_simp
      refine hK.out _ _ ((Buts.refl _ _ A).set (by simp) 1 _).drew ?_
      clear hK K hz1 hz2
      refine wpAnyH_done (by kernel_rfl) ?_ _
      refine OnOnly.on ?_
      obtain ⟨A1, hA1⟩ : ∃ A1, (A.setCell ⟨pc, 1, none⟩ (.bool (!d.dead))).drew = A1 := ⟨_, rfl⟩
      rw [hA1]
      have HbA1 : Hid (Buts [pc] A.heap.size A A1) := by rw [← hA1]; exact ((Buts.refl _ _ A).set (by simp) 1 _).drew
      have HA1e : Hid ((A.setCell ⟨pc, 1, none⟩ (.bool (!d.dead))).drew = A1) := hA1
      clear hA1 hHeld
      gi_wp2
      refine wpIn_region_on_wide (S := fun W' => Buts [pc] A.heap.size A W') (by kernel_rfl) (by kernel_rfl) HbA1.out.drew (fun hHeld => ?_)
      refine wpAnyH_takesAt 0 5 3 (of_decide_eq_true (by kernel_rfl)) rfl (fun _ _ _ d _ h => by cases d <;> exact h) (by kernel_rfl) (by kernel_rfl) hHeld ?_
      simp only [List.drop_zero, List.take_succ_cons, List.take_zero]
      iterate 5 (refine wpHeld_step (v := ?_) (by rfl) (fun wz hSw => ?_) ?_; rotate_left; (focus (obtain ⟨hx1, _, hx2⟩ := HA1.out wz hSw; clear hSw; go_simp; try with_reducible rfl)); (simp only [Act.put, List.setIfInBounds_toArray, List.set_cons_zero, List.set_cons_succ]))
      refine wpHeld_nil ?_
      refine wpAnyH_takesAt 5 2 1 (of_decide_eq_true (by kernel_rfl)) rfl (fun _ _ _ d _ h => by cases d <;> exact h) (by kernel_rfl) (by kernel_rfl) hHeld ?_
      simp only [List.drop_succ_cons, List.drop_zero, List.take_succ_cons, List.take_zero]
      iterate 2 (refine wpHeld_step (v := ?_) (by rfl) (fun wz hSw => ?_) ?_; rotate_left; (focus ((try dsimp only at hSw); go_simp; try with_reducible rfl)); (simp only [Act.put, List.setIfInBounds_toArray, List.set_cons_zero, List.set_cons_succ]))
      refine wpHeld_nil ?_
      refine wpAnyH_only (i := 7) (by kernel_rfl) rfl (fun K hK => ?_)
      rw [if_pos (by rfl)]
      obtain ⟨hz1, hz2⟩ := HP3.out A1 HA1e.out
      go_simp
      refine hK.out _ _ (HbA1.out.set (by simp) 3 _).drew ?_
      clear hK K hz1 hz2
      refine wpAnyH_done (by kernel_rfl) ?_ _
      refine OnOnly.on ?_
      obtain ⟨A2, hA2⟩ : ∃ A2, (A1.setCell ⟨pc, 3, none⟩ (.int .i64 (d.wr : Nat))).drew = A2 := ⟨_, rfl⟩
      rw [hA2]
      have HE : Hid (∀ o, _) := fun o => HEnd.out A1 A2 o HA1e.out hA2
      have hcC := (HE.out (.deferred none)).1
      have hKF := (HE.out (.deferred none)).2.1
      clear hA2 hHeld
      gi_wp2
      refine ⟨by simp, .inl ⟨_, _, rfl, run_takeDeferred hKF, ?_⟩⟩
      refine ⟨_, results_tmp rfl _ _ _, ?_⟩
      obtain ⟨_, _, e3, e4⟩ := HE.out (.deferred none)
      exact ⟨pc, gc, rfl, hpc, hgc, e3.more (fun x hx => .inl (by simp only [List.mem_cons, List.not_mem_nil, or_false] at hx ⊢; omega)) (by simp) (by simp), e4⟩
    case stop =>
      rintro D c pre A hD _ h hKD
      exact h.elim
  refine wpIn_region_on_wide (S := fun W => Below w.heap.size w W) (by kernel_rfl) (by kernel_rfl) (Below.refl _ _).drew (fun hHeld => ?_)
  refine wpAnyH_takesAt 0 5 7 (of_decide_eq_true (by kernel_rfl)) rfl (fun _ _ _ d _ h => by cases d <;> exact h) (by kernel_rfl) (by kernel_rfl) hHeld ?_
  simp only [List.drop_zero, List.take_succ_cons, List.take_zero]
  iterate 5 (refine wpHeld_step (v := ?_) (by rfl) (fun wz hSw => ?_) ?_; rotate_left; (focus (have hc := HC.out wz hSw; clear hSw; go_simp; try with_reducible rfl)); (simp only [Act.put, List.setIfInBounds_toArray, List.set_cons_zero, List.set_cons_succ]))
  refine wpHeld_nil ?_
  refine wpAnyH_takesAt 5 4 3 (of_decide_eq_true (by kernel_rfl)) rfl (fun _ _ _ d _ h => by cases d <;> exact h) (by kernel_rfl) (by kernel_rfl) hHeld ?_
  simp only [List.drop_succ_cons, List.drop_zero, List.take_succ_cons, List.take_zero]
  iterate 4 (refine wpHeld_step (v := ?_) (by rfl) (fun wz hSw => ?_) ?_; rotate_left; (focus (have hc := (HN4.out wz hSw).1; clear hSw; go_simp; try with_reducible rfl)); (simp only [Act.put, List.setIfInBounds_toArray, List.set_cons_zero, List.set_cons_succ]))
  refine wpHeld_nil ?_
  refine wpAnyH_either (i := 9) (j := 10) (by kernel_rfl) rfl rfl (fun K hK => ?_) (fun K hK => ?_)
  · rw [if_pos (by rfl)]
    go_simp
    refine (HN4.out _ hHeld).2.mono ?_
    rintro e w2 ⟨pc, gc, rfl, hp2, hg2, hD2, hb2⟩
    have hB2 : Below w.heap.size w w2 := hHeld.trans (hb2.mono (Nat.le_refl _))
    refine hK.out _ _ hB2 ?_
    clear hK K
    refine wpAnyH_only (i := 10) (by kernel_rfl) rfl (fun K hK => ?_)
    rw [if_pos (by rfl)]
    go_simp
    have hB3 := hB2.alloc hB2.size (.cells #[Value.pointer none] 25)
    refine hK.out _ _ hB3 ?_
    clear hK K
    refine wpAnyH_only (i := 11) (by kernel_rfl) rfl (fun K hK => ?_)
    rw [if_pos (by rfl)]
    go_simp
    have hB4 := hB2.alloc hB2.size (.cells #[Value.pointer (some ⟨pc, 0, none⟩)] 25)
    refine hK.out _ _ hB4 ?_
    clear hK K
    refine wpAnyH_done (by kernel_rfl) ?_ _
    have hb4 := (Below.refl _ w2).alloc (Nat.le_refl _) (.cells #[Value.pointer (some ⟨pc, 0, none⟩)] 25)
    have hD3 := hD2 [pc, gc, w2.heap.size] (by simp) (by simp) (fun x hx => by simp only [List.mem_cons, List.not_mem_nil, or_false] at hx; omega)
    have hlt := hD3.lt
    exact OnOnly.on (KEY w2.heap.size pc gc _ hB2.size hp2 hg2 (by omega) (by omega) (Row.new w2 25 _) (hD3.later hb4) hB4)
  · rw [if_pos (by rfl)]
    go_simp
    have hB1 : Below w.heap.size w (w.alloc (.cells #[Value.pointer none] 25)).drew := ((Below.refl _ w).alloc (Nat.le_refl _) _).drew
    refine hK.out _ _ hB1 ?_
    clear hK K
    have hr1 : Row (w.alloc (.cells #[Value.pointer none] 25)).drew w.heap.size 25 [Value.pointer none] := Row.new w 25 #[Value.pointer none]
    have hs1 : (w.alloc (.cells #[Value.pointer none] 25)).drew.heap.size = w.heap.size + 1 := by show (w.alloc _).heap.size = _; simp
    generalize (w.alloc (.cells #[Value.pointer none] 25)).drew = w1 at *
    refine wpAnyH_only (i := 9) (by kernel_rfl) rfl (fun K hK => ?_)
    rw [if_pos (by rfl)]
    go_simp
    refine (HN4.out _ hB1).2.mono ?_
    rintro e w2 ⟨pc, gc, rfl, hp2, hg2, hD2, hb2⟩
    have hB2 : Below w.heap.size w w2 := hB1.trans (hb2.mono hB1.size)
    refine hK.out _ _ hB2 ?_
    clear hK K
    have hr2 := hr1.later hb2
    have hc2 := hr2.cell (i := 0) rfl
    have hf2 := hr2.frozen 0
    refine wpAnyH_only (i := 11) (by kernel_rfl) rfl (fun K hK => ?_)
    rw [if_pos (by rfl)]
    go_simp
    have hbut : But w.heap.size w2.heap.size w2 (w2.setCell ⟨w.heap.size, 0, none⟩ (.pointer (some ⟨pc, 0, none⟩))) := But.set 0 _
    have hB4 : Below w.heap.size w (w2.setCell ⟨w.heap.size, 0, none⟩ (.pointer (some ⟨pc, 0, none⟩))) := hB2.trans (hbut.below hB2.size (Nat.le_refl _))
    refine hK.out _ _ hB4 ?_
    clear hK K
    refine wpAnyH_done (by kernel_rfl) ?_ _
    have hD3 := hD2 [pc, gc, w.heap.size] (by simp) (by simp) (fun x hx => by simp only [List.mem_cons, List.not_mem_nil, or_false] at hx; omega)
    exact OnOnly.on (KEY w.heap.size pc gc _ (Nat.le_refl _) (by omega) (by omega) (by omega) (by omega) (hr2.set 0 _) (hD3.buts (S := [w.heap.size]) (Buts.of_but hbut (by simp) (Nat.le_refl _)) (by simp) (by simp; omega) (by simp; omega)) hB4)

/-- Clone -/
theorem clone_any {F : List Nat} {p g : Nat} {d : St} {w : World} (h : DiskAt F w p g d) (hcr : d.cr.length ≤ 100000) :
    Calls Try.prog 19 #[.pointer (some ⟨p, 0, none⟩)] w fun e w' => ∃ p' g', e = .returned (.pointer (some ⟨p', 0, none⟩)) ∧ w.heap.size ≤ p' ∧ w.heap.size ≤ g' ∧ DiskAt [p', g'] w' p' g' d ∧ Below w.heap.size w w' :=
  callsIn_wide.1 (clone_in 8 (Nat.le_refl _) h hcr)
end Go.Proofs.Ytffngjglgdbncaa
