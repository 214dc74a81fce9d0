/-
  The walk of RouteSplits.
-/
import Derived.Test.YtkpjbleogjmbjaaSteps
import Derived.Test.YtkpjbleogjmbjaaAwake
import Derived.Test.YtkpjbleogjmbjaaHeld
namespace Go.Proofs.Ytkpjbleogjmbjaa
open Go.RowKit Go.Shelf
attribute [local go_sem] Oper.semAt_some

set_option maxRecDepth 100000 in
set_option maxHeartbeats 4000000 in
theorem routeSplits_in (n : Nat) (hn : 7 ≤ n) (s : ByteArray) (most : Int) (hm : -9223372036854775808 ≤ most ∧ most ≤ 9223372036854775807) (hs : s.size ≤ 500) (hm0 : 0 ≤ most) (w : World) :
    CallsIn Fence.wide n Try.prog 4 #[.string s, .int .i64 most] w fun e w' => e = .returned (.bool true) ∧ Below w.heap.size w w' := by
  have h1 : 1 ≤ n := by omega
  have hfn : ∀ f, Fence.wide.fn f := fun _ => trivial
  have i1 : ¬ (500 : Int) < (s.size : Int) := by omega
  have i2 : ¬ most < 0 := by omega
  have d1 : decide ((500 : Int) < (s.size : Int)) = false := decide_eq_false i1
  have d2 : decide (most < 0) = false := decide_eq_false i2
  clear i1 i2
  obtain ⟨w0, hw0⟩ : ∃ w0, (w.alloc (.cells #[.int .i64 most] 3)).alloc (.cells #[.bool false] 4) = w0 := ⟨_, rfl⟩
  have r3 : Row w0 w.heap.size 3 [.int .i64 most] := by rw [← hw0]; exact (Row.new w 3 #[.int .i64 most]).alloc _
  have r4 : Row w0 (w.heap.size + 1) 4 [.bool false] := by
    have h := Row.new (w.alloc (.cells #[.int .i64 most] 3)) 4 #[.bool false]
    rw [World.size_alloc] at h
    rw [← hw0]; exact h
  have hb0 : Below w.heap.size w w0 := by rw [← hw0]; exact ((Below.refl _ w).alloc (Nat.le_refl _) _).alloc (by simp) _
  have hz0 : w.heap.size + 1 < w0.heap.size := r4.lt
  have HW0 : Hid ((w.alloc (.cells #[.int .i64 most] 3)).alloc (.cells #[.bool false] 4) = w0) := hw0
  have H3 : Hid (Row w0 w.heap.size 3 [.int .i64 most]) := r3
  have H4 : Hid (Row w0 (w.heap.size + 1) 4 [.bool false]) := r4
  have HSp : Hid (∀ W, Calls Try.prog 11 #[.string s] W fun e w' => ∃ v, e = .returned (.tuple #[v, .int .i64 (errS (bytesOf s) : Nat)]) ∧ OwnS W.heap.size w' v ((namesS (bytesOf s)).map txt) ∧ Below W.heap.size W w') := fun W => split_any s (by omega) W
  have HRp : Hid (∀ W, Calls Try.prog 12 #[.string s] W fun e w' => ∃ v, e = .returned (.tuple #[v, .int .i64 (errS (bytesOf s) : Nat)]) ∧ OwnS W.heap.size w' v ((namesS (bytesOf s)).map txt) ∧ Below W.heap.size W w') := fun W => refSplit_any s (by omega) W
  have HSt : Hid (∀ W, Calls Try.prog 14 #[.string s] W fun e w' => ∃ v B, e = .returned (.func (.func 19) #[] #[.pointer (some ⟨B, 0, none⟩)]) ∧ W.heap.size ≤ B ∧ Boxed w' B 25 v ∧ OwnS W.heap.size w' v ((namesS (bytesOf s)).map txt) ∧ Below W.heap.size W w') := fun W => steps_any s (by omega) W
  have HXl : Hid (((namesS (bytesOf s)).map txt).length ≤ 16) := by
    show _ ≤ _
    rw [List.length_map, namesS]
    split
    · rename_i h
      unfold errS at h
      split at h
      · cases h
      · omega
    · simp
  generalize (namesS (bytesOf s)).map txt = xs at *
  generalize errS (bytesOf s) = E at *
  clear hw0 r3 r4
  refine callsIn_of_wp_marks Try.func4 rfl trivial ?_ rfl
  simp only [Try.ntmps4, List.size_toArray, List.length_cons, List.length_nil, Nat.reduceAdd, Nat.reduceSub, Array.replicate_succ, Array.replicate_zero, List.push_toArray, List.append_toArray, List.nil_append, List.cons_append]
  gi_wp2_with (first
    | (gi_at_call 6; rw [HW0.out]; refine (callsIn_wide.2 (awake_any w0)).mono ?_; rintro e w1 ⟨rfl, hb1⟩; have c3 := (H3.out.later hb1).cell (i := 0) rfl)
    | (gi_at_call 11; refine (callsIn_wide.2 (HSp.out w1)).mono ?_; rintro e w2 ⟨v2, rfl, ho2, hb2⟩; obtain ⟨q2, cc2, rfl⟩ := ho2.slice; have HO2 : Hid (OwnS w1.heap.size w2 (.slice q2 xs.length cc2) xs) := ho2; clear ho2)
    | (gi_at_call 12; refine (callsIn_wide.2 (HRp.out w2)).mono ?_; rintro e w3 ⟨v3, rfl, ho3, hb3⟩; obtain ⟨q3, cc3, rfl⟩ := ho3.slice; have HO3 : Hid (OwnS w2.heap.size w3 (.slice q3 xs.length cc3) xs) := ho3; clear ho3)
    | (gi_at_call 13; refine (callsIn_wide.2 (sameNames_any q2 xs.length cc2 q3 cc3 xs _ ((HO2.out.strs.later hb3).later ((Below.refl _ w3).alloc (Nat.le_refl _) _)) (HO3.out.strs.later ((Below.refl _ w3).alloc (Nat.le_refl _) _)))).mono ?_; rintro e w5 ⟨rfl, hb5⟩)
    | (gi_at_call 14; refine (callsIn_wide.2 (HSt.out _)).mono ?_; rintro e w7 ⟨v7, B, rfl, hB7, bB7, ho7, hb7⟩))
  have ha3 : Below w3.heap.size w3 (w3.alloc (.cells #[.slice q3 xs.length cc3] 25)) := (Below.refl _ w3).alloc (Nat.le_refl _) _
  have ha5 : Below w5.heap.size w5 (w5.alloc (.cells #[.int .i64 0] 3)) := (Below.refl _ w5).alloc (Nat.le_refl _) _
  have hs1 := hb1.size
  have hs2 := hb2.size
  have hs3 := hb3.size
  have hs5 := hb5.size
  have hs7 := hb7.size
  have z3 : (w3.alloc (.cells #[.slice q3 xs.length cc3] 25)).heap.size = w3.heap.size + 1 := World.size_alloc _ _
  have z5 : (w5.alloc (.cells #[.int .i64 0] 3)).heap.size = w5.heap.size + 1 := World.size_alloc _ _
  rw [z3] at hs5
  rw [z5] at hs7
  have r3 : Boxed w7 w.heap.size 3 (.int .i64 most) := (((((H3.out.later hb1).later hb2).later hb3).later ha3).later hb5 |>.later ha5).later hb7
  have r4 : Boxed w7 (w.heap.size + 1) 4 (.bool false) := (((((H4.out.later hb1).later hb2).later hb3).later ha3).later hb5 |>.later ha5).later hb7
  have bW : Boxed w7 w3.heap.size 25 (.slice q3 xs.length cc3) := boxed_below (boxed_below (boxed_below (Boxed.new w3 25 (.slice q3 xs.length cc3)) hb5) ha5) hb7
  have bN : Boxed w7 w5.heap.size 3 (.int .i64 0) := boxed_below (Boxed.new w5 3 (.int .i64 0)) hb7
  have oW : OwnS w2.heap.size w7 (.slice q3 xs.length cc3) xs := (((HO3.out.later ha3).later hb5).later ha5).later hb7
  have hb07 : Below w.heap.size w w7 := ((((((hb0.trans (hb1.mono (by omega))).trans (hb2.mono (by omega))).trans (hb3.mono (by omega))).trans (ha3.mono (by omega))).trans (hb5.mono (by omega))).trans (ha5.mono (by omega))).trans (hb7.mono (by omega))
  rw [z5] at hB7 ho7
  have o1 : w.heap.size + 1 < w3.heap.size := by omega
  have o2 : w3.heap.size < w5.heap.size := by omega
  have o3 := hb07.size
  clear hs1 hs2 hs3 hs5 hz0
  obtain ⟨Bw, hBw⟩ : ∃ Bw, w3.heap.size = Bw := ⟨_, rfl⟩
  obtain ⟨Bn, hBn⟩ : ∃ Bn, w5.heap.size = Bn := ⟨_, rfl⟩
  obtain ⟨n2, hn2⟩ : ∃ n2, w2.heap.size = n2 := ⟨_, rfl⟩
  rw [hBw] at bW o1 o2 ⊢
  rw [hBn] at bN hs7 hB7 ho7 o2 ⊢
  rw [hn2] at oW
  have hX : xs.length ≤ 16 := HXl.out
  clear ha3 ha5 hb1 hb2 hb3 hb5 hb7 z3 z5 HO2 HO3 HSp HRp HSt H3 H4 HW0 HXl c3 hBw hBn hn2 hb0
  refine wpIn_rangeFunc_ok rfl h1 (gf := 19) (lb := #[.pointer (some ⟨B, 0, none⟩)]) rfl trivial (enters_of Try.func19 (by kernel_rfl) rfl)
    (encs := stVal xs) (Ok := fun i _ => i < xs.length) (Kp := fun X Y => OwnS (Bn + 1) X v7 xs → OwnS (Bn + 1) Y v7 xs) (S := fun ys => ys = List.range xs.length) (Sp := fun pre => ∃ k, k < xs.length ∧ pre = List.range (k + 1)) (N := xs.length + 1)
    (fun W' hsz hb => steps1_iter (n - 1) (by omega) _ B (Bn + 1) v7 xs (by omega) W' (boxed_below bB7 hb) (ho7.later hb)) (fun h k x => k (h x)) (fun A o o' ho hc h => h.put o' ho hc) (fun _ => rfl)
    (fun pre A => (Boxed A Bn 3 (.int .i64 (pre.length : Nat)) ∧ Boxed A w.heap.size 3 (.int .i64 most)) ∧ Boxed A (w.heap.size + 1) 4 (.bool false) ∧ (∃ v, Boxed A Bw 25 v ∧ A.ownsRow n2 9 1 v xs.length (strs xs) ∧ v = .slice q3 xs.length cc3) ∧ Below w.heap.size w7 A)
    (fun c pre A => (c = .ret) ∧ (∃ b, (pre = List.range pre.length → b = true) ∧ Boxed A (w.heap.size + 1) 4 (.bool b)) ∧ Below w.heap.size w7 A)
    (OwnFrom.and (OwnFrom.and (Own.from (boxed_own Bn 3 (fun pre : List Nat => .int .i64 (pre.length : Nat))) _) (Own.from (boxed_own _ _ _) _)) (OwnFrom.and (Own.from (boxed_own _ _ _) _) (OwnFrom.and (Own.from (holdsRow_own n2 Bw 25 9 1 (fun _ : List Nat => xs.length) (fun _ => strs xs) (fun _ v => v = .slice q3 xs.length cc3)) _) (ownFrom_below (by omega) (by omega)))))
    (fun c => OwnFrom.and (fun _ _ _ _ h _ _ => h) (OwnFrom.and (fun pre A A' row ⟨b, hb, h⟩ hg hr => ⟨b, hb, Own.from (boxed_own (β := List Nat) (w.heap.size + 1) 4 (fun _ => .bool b)) _ pre A A' row h hg hr⟩) (ownFrom_below (by omega) (by omega))))
    (fun _ _ _ _ h _ _ => h)
    ⟨⟨bN, r3⟩, r4, ⟨_, bW, oW, rfl⟩, Below.refl _ _⟩
    (fun x => { tmps := #[.string s, .int .i64 most, undef, .pointer (some ⟨w.heap.size, 0, none⟩), .pointer (some ⟨w.heap.size + 1, 0, none⟩), .slice q2 xs.length cc2, .int .i64 (E : Nat), .pointer (some ⟨Bw, 0, none⟩), .int .i64 (E : Nat), .pointer (some ⟨Bn, 0, none⟩), .int .i64 (x : Nat), .string (xs.getD x ⟨#[]⟩), .bool true, .bool false, .string s, .int .i64 (s.size : Nat), .bool false, .bool false, .int .i64 most, .bool false, .bool false, .tuple #[.slice q2 xs.length cc2, .int .i64 (E : Nat)], .string s, .tuple #[.slice q2 xs.length cc2, .int .i64 (E : Nat)], .slice q2 xs.length cc2, .int .i64 (E : Nat), .tuple #[.slice q3 xs.length cc3, .int .i64 (E : Nat)], .string s, .tuple #[.slice q3 xs.length cc3, .int .i64 (E : Nat)], .slice q3 xs.length cc3, .int .i64 (E : Nat), .slice q2 xs.length cc2, .slice q3 xs.length cc3, .bool true, .bool false, .bool false, .int .i64 (E : Nat), .int .i64 (E : Nat), .bool false, .bool false, .string s, .func (.func 19) #[] #[.pointer (some ⟨B, 0, none⟩)], .int .i64 (x : Nat), .string (xs.getD x ⟨#[]⟩), undef, undef, undef, undef, undef, undef, undef, undef, undef, undef, undef, undef, undef, undef, undef, undef, undef, undef, undef, undef, undef, undef, undef, undef, undef, undef], defers := [] })
    ?assign ?body ?done ?stop
  case assign =>
    intro l x W K hK
    unfold stVal
    gi_wp2
    exact hK
  case body =>
    rintro li pre x A ⟨⟨hbn, hbm⟩, hbr, ⟨v, hbw, how, rfl⟩, hB⟩ hok hN
    have cn := hbn.cell
    have fn := hbn.frozen
    have cm := hbm.cell
    have cr := hbr.cell
    have fr := hbr.frozen
    have cw := hbw.cell
    have hO : OwnS n2 A (.slice q3 xs.length cc3) xs := how
    by_cases hmo : (pre.length : Int) = most
    · have em : ((pre.length : Int) == most) = true := by rw [beq_iff_eq]; exact hmo
      have HFin : Hid (KeepsFrom w7.heap.size A (A.setCell ⟨w.heap.size + 1, 0, none⟩ (.bool true)) ∧ (OwnS (Bn + 1) A v7 xs → OwnS (Bn + 1) (A.setCell ⟨w.heap.size + 1, 0, none⟩ (.bool true)) v7 xs) ∧ (∃ b, (pre ++ [x] = List.range (pre ++ [x]).length → b = true) ∧ Boxed (A.setCell ⟨w.heap.size + 1, 0, none⟩ (.bool true)) (w.heap.size + 1) 4 (.bool b)) ∧ Below w.heap.size w7 (A.setCell ⟨w.heap.size + 1, 0, none⟩ (.bool true))) :=
        ⟨(KeepsOthers.setCell A _ _).from _, fun h => h.set hbr (by decide) _, ⟨true, fun _ => rfl, hbr.set _⟩, hB.setCell (p := ⟨w.heap.size + 1, 0, none⟩) (by show _ ≤ w.heap.size + 1; omega) _⟩
      clear hbn hbm hbr hbw how hO hB hmo
      gi_wp2
      exact ⟨HFin.out.1, HFin.out.2.1, rfl, HFin.out.2.2⟩
    · have em : ((pre.length : Int) == most) = false := by rw [beq_eq_false_iff_ne]; exact hmo
      by_cases hx : x = pre.length
      · subst hx
        have hji : (pre.length : Int) < (xs.length : Int) := by omega
        have hge : decide ((xs.length : Int) ≤ (pre.length : Int)) = false := decide_eq_false (by omega)
        obtain ⟨g, rfl, _, _, _, hlc, hcc, _⟩ := hO.row (by omega)
        have hcell : A.cell? ⟨g, pre.length, none⟩ = some (.string xs[pre.length]) := by
          rcases hO.strs.2.2.2 with h | ⟨b, off, e, _, h⟩
          · omega
          · cases e
            have := h pre.length hok
            simpa using this
        have hgd : xs.getD pre.length ⟨#[]⟩ = xs[pre.length] := by rw [List.getD_eq_getElem?_getD, List.getElem?_eq_getElem hok]; rfl
        have HFin : Hid (KeepsFrom w7.heap.size A (A.setCell ⟨Bn, 0, none⟩ (.int .i64 ((pre.length : Int) + 1))) ∧ (OwnS (Bn + 1) A v7 xs → OwnS (Bn + 1) (A.setCell ⟨Bn, 0, none⟩ (.int .i64 ((pre.length : Int) + 1))) v7 xs) ∧
            (Boxed (A.setCell ⟨Bn, 0, none⟩ (.int .i64 ((pre.length : Int) + 1))) Bn 3 (.int .i64 ((pre ++ [pre.length]).length : Nat)) ∧ Boxed (A.setCell ⟨Bn, 0, none⟩ (.int .i64 ((pre.length : Int) + 1))) w.heap.size 3 (.int .i64 most)) ∧ Boxed (A.setCell ⟨Bn, 0, none⟩ (.int .i64 ((pre.length : Int) + 1))) (w.heap.size + 1) 4 (.bool false) ∧
            (∃ v, Boxed (A.setCell ⟨Bn, 0, none⟩ (.int .i64 ((pre.length : Int) + 1))) Bw 25 v ∧ (A.setCell ⟨Bn, 0, none⟩ (.int .i64 ((pre.length : Int) + 1))).ownsRow n2 9 1 v xs.length (strs xs) ∧ v = .slice (some ⟨g, 0, none⟩) xs.length cc3) ∧ Below w.heap.size w7 (A.setCell ⟨Bn, 0, none⟩ (.int .i64 ((pre.length : Int) + 1)))) := by
          have rm : Row A w.heap.size 3 [.int .i64 most] := hbm
          have rr : Row A (w.heap.size + 1) 4 [.bool false] := hbr
          have rw' : Row A Bw 25 [.slice (some ⟨g, 0, none⟩) xs.length cc3] := hbw
          refine ⟨(KeepsOthers.setCell A _ _).from _, fun h => h.set hbn (by decide) _, ⟨?_, rm.other (a := ⟨Bn, 0, none⟩) (by show w.heap.size ≠ Bn; omega) _⟩, rr.other (a := ⟨Bn, 0, none⟩) (by show w.heap.size + 1 ≠ Bn; omega) _, ⟨_, rw'.other (a := ⟨Bn, 0, none⟩) (by show Bw ≠ Bn; omega) _, hO.set hbn (by decide) _, rfl⟩, hB.setCell (p := ⟨Bn, 0, none⟩) (by show _ ≤ Bn; omega) _⟩
          rw [List.length_append, List.length_singleton]
          exact hbn.set _
        have ew : IntKind.i64.wrap ((pre.length : Int) + 1) = (pre.length : Int) + 1 := by rw [IntKind.wrap_i64]; omega
        rw [hgd]
        clear hbn hbm hbr hbw how hO hB hmo hgd
        generalize xs[pre.length] = y at *
        obtain ⟨j, hpj⟩ : ∃ j, pre.length = j := ⟨_, rfl⟩
        have HP : Hid (pre.length = j) := hpj
        rw [hpj] at cn em hji hge hcell ew ⊢
        clear hpj
        gi_wp2
        have e := HP.out
        subst e
        obtain ⟨k1, k2, k3, k4, ⟨v, k5, k6, rfl⟩, k7⟩ := HFin.out
        exact ⟨k1, k2, k3, k4, ⟨k5, k6⟩, k7⟩
      · have ex : ((x : Int) != (pre.length : Int)) = true := by rw [bne_iff_ne]; omega
        have HFin : Hid (KeepsFrom w7.heap.size A (A.setCell ⟨w.heap.size + 1, 0, none⟩ (.bool false)) ∧ (OwnS (Bn + 1) A v7 xs → OwnS (Bn + 1) (A.setCell ⟨w.heap.size + 1, 0, none⟩ (.bool false)) v7 xs) ∧ (∃ b, (pre ++ [x] = List.range (pre ++ [x]).length → b = true) ∧ Boxed (A.setCell ⟨w.heap.size + 1, 0, none⟩ (.bool false)) (w.heap.size + 1) 4 (.bool b)) ∧ Below w.heap.size w7 (A.setCell ⟨w.heap.size + 1, 0, none⟩ (.bool false))) :=
          ⟨(KeepsOthers.setCell A _ _).from _, fun h => h.set hbr (by decide) _, ⟨false, fun e => by
            rw [List.length_append, List.length_singleton, List.range_succ] at e
            have := (List.append_inj' e rfl).2
            simp at this
            exact absurd this hx, hbr.set _⟩, hB.setCell (p := ⟨w.heap.size + 1, 0, none⟩) (by show _ ≤ w.heap.size + 1; omega) _⟩
        clear hbn hbm hbr hbw how hO hB hmo hx
        gi_wp2
        exact ⟨HFin.out.1, HFin.out.2.1, rfl, HFin.out.2.2⟩
  case done =>
    rintro D ys A hD rfl ⟨⟨hbn, hbm⟩, hbr, ⟨v, hbw, how, rfl⟩, hB⟩ hK
    rw [List.length_range] at hbn
    have cn := hbn.cell
    have cr := hbr.cell
    have fr := hbr.frozen
    have cw := hbw.cell
    have HK2 : Hid ((A.setCell ⟨w.heap.size + 1, 0, none⟩ (.bool true)).heap[D]? = some (.deferred (some []))) := by
      show _ = _
      rw [heap_setCell_other _ _ D _ (by show D ≠ w.heap.size + 1; omega)]; exact hK
    have HR : Hid (Row (A.setCell ⟨w.heap.size + 1, 0, none⟩ (.bool true)) (w.heap.size + 1) 4 [.bool true]) := hbr.set _
    have HB : Hid (Below w.heap.size w7 (A.setCell ⟨w.heap.size + 1, 0, none⟩ (.bool true))) := hB.setCell (p := ⟨w.heap.size + 1, 0, none⟩) (by show _ ≤ w.heap.size + 1; omega) _
    clear hbn hbm hbr hbw how hB hK
    gi_wp2
    refine ⟨by simp, .inl ⟨_, _, rfl, run_takeDeferred HK2.out, ?_⟩⟩
    exact ⟨_, results_bool rfl rfl (HR.out.below (below_putObj (B := w7.heap.size) _ _ hD) (by omega)), rfl, (hb07.trans HB.out).trans (below_putObj _ _ (by omega))⟩
  case stop =>
    rintro D c pre A hD ⟨k, hk, rfl⟩ ⟨rfl, ⟨b, hb, hbr⟩, hB⟩ hK
    obtain rfl := hb (by simp)
    have hr : Row A (w.heap.size + 1) 4 [.bool true] := hbr
    gi_wp2
    refine ⟨by simp, .inl ⟨_, _, rfl, run_takeDeferred hK, ?_⟩⟩
    exact ⟨_, results_bool rfl rfl (hr.below (below_putObj (B := w7.heap.size) _ _ hD) (by omega)), rfl, (hb07.trans hB).trans (below_putObj _ _ (by omega))⟩

set_option maxRecDepth 100000 in
set_option maxHeartbeats 1000000 in
theorem routeSplits_walk (s : ByteArray) (most : Int) (w : World) (hm : -9223372036854775808 ≤ most ∧ most ≤ 9223372036854775807) : Calls Try.prog 4 #[.string s, .int .i64 most] w fun e w' => e = .returned (.bool true) ∧ Below w.heap.size w w' := by
  obtain ⟨w0, hw0⟩ : ∃ w0, (w.alloc (.cells #[.int .i64 most] 3)).alloc (.cells #[.bool false] 4) = w0 := ⟨_, rfl⟩
  have r3 : Row w0 w.heap.size 3 [.int .i64 most] := by rw [← hw0]; exact (Row.new w 3 #[.int .i64 most]).alloc _
  have r4 : Row w0 (w.heap.size + 1) 4 [.bool false] := by
    have h := Row.new (w.alloc (.cells #[.int .i64 most] 3)) 4 #[.bool false]
    rw [World.size_alloc] at h
    rw [← hw0]; exact h
  have hb0 : Below w.heap.size w w0 := by rw [← hw0]; exact ((Below.refl _ w).alloc (Nat.le_refl _) _).alloc (by simp) _
  have HE : Hid (∀ w1, Below w0.heap.size w0 w1 → (w1.cell? ⟨w.heap.size, 0, none⟩ = some (.int .i64 most) ∧ w1.cell? ⟨w.heap.size + 1, 0, none⟩ = some (.bool false) ∧ w1.frozen? ⟨w.heap.size + 1, 0, none⟩ = false) ∧ Row (w1.setCell ⟨w.heap.size + 1, 0, none⟩ (.bool true)) (w.heap.size + 1) 4 [.bool true] ∧ Below w.heap.size w (w1.setCell ⟨w.heap.size + 1, 0, none⟩ (.bool true))) := fun w1 hb => by
    have q3 := r3.later hb
    have q4 := r4.later hb
    refine ⟨⟨q3.cell (i := 0) rfl, q4.cell (i := 0) rfl, q4.frozen 0⟩, q4.set 0 _, (hb0.trans (hb.mono (by have := r4.lt; omega))).setCell (p := ⟨w.heap.size + 1, 0, none⟩) (by show _ ≤ w.heap.size + 1; omega) _⟩
  have HW0 : Hid ((w.alloc (.cells #[.int .i64 most] 3)).alloc (.cells #[.bool false] 4) = w0) := hw0
  clear hw0 r3 r4
  by_cases h1 : 500 < s.size
  · have i1 : (500 : Int) < (s.size : Int) := by omega
    go_enter Try.func4, Try.ntmps4
    go_wp2_with (go_at_call 6; rw [HW0.out]; refine (awake_any w0).mono ?_; rintro e w1 ⟨rfl, hb1⟩; obtain ⟨⟨c3, c4, f4⟩, r5, b5⟩ := HE.out w1 hb1; have HR5 : Hid (Row (w1.setCell ⟨w.heap.size + 1, 0, none⟩ (.bool true)) (w.heap.size + 1) 4 [.bool true]) := r5; clear r5)
    refine bodyPost_ret (results_bool rfl rfl HR5.out) rfl ?_
    exact ⟨rfl, b5⟩
  by_cases h2 : most < 0
  · have i1 : ¬ (500 : Int) < (s.size : Int) := by omega
    go_enter Try.func4, Try.ntmps4
    go_wp2_with (go_at_call 6; rw [HW0.out]; refine (awake_any w0).mono ?_; rintro e w1 ⟨rfl, hb1⟩; obtain ⟨⟨c3, c4, f4⟩, r5, b5⟩ := HE.out w1 hb1; have HR5 : Hid (Row (w1.setCell ⟨w.heap.size + 1, 0, none⟩ (.bool true)) (w.heap.size + 1) 4 [.bool true]) := r5; clear r5)
    refine bodyPost_ret (results_bool rfl rfl HR5.out) rfl ?_
    exact ⟨rfl, b5⟩
  exact callsIn_wide.1 (routeSplits_in 7 (Nat.le_refl _) s most hm (by omega) (by omega) w)
end Go.Proofs.Ytkpjbleogjmbjaa
