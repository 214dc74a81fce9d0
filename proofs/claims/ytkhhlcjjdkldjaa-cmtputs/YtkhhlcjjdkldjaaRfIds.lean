/-
  What the reference's reader's Id and Ids answer and leave.
-/
import Derived.Test.YtkhhlcjjdkldjaaRfN
import Derived.Test.YtkhhlcjjdkldjaaSame
import Derived.Test.YtkhhlcjjdkldjaaBuild
namespace Go.Proofs.Ytkhhlcjjdkldjaa
open Go.RowKit

theorem run_arrayAt24 (b o L C : Nat) (h : 32 ≤ L) (w : World) : (Instr.arrayAt 24 (.slice (some ⟨b, o, none⟩) L C)).run Try.prog w = .ok (.pointer (some ⟨b, o, none⟩)) w := by
  have h : ¬ L < 32 := by omega
  simp [Instr.arrayAt, run_underlying Try.underlying24, go_sem, h]
/-- No id. -/
def noId : List Value := List.replicate 32 (.int .u8 0)
theorem noId_eq : u8s (List.replicate 32 0) = noId := by simp [u8s, noId]
theorem OwnIds.but {A A' : World} {n₀ B : Nat} {v : Value} {ids : List (List Nat)} (h : OwnIds n₀ A v ids) (hb : But B A.heap.size A A') (hB : B < n₀) : OwnIds n₀ A' v ids := by
  refine ⟨h.1, ?_⟩
  rcases h.2 with hn | ⟨g, cap, cur, rfl, hg, hgg, rest⟩
  · exact .inl hn
  · exact .inr ⟨g, cap, cur, rfl, hg, (hb.block g (Array.getElem?_eq_some_iff.1 hgg).1 (by omega)).trans hgg, rest⟩
theorem bytes_range {n₀ : Nat} {W : World} {b off len cap o n : Nat} {zs : List Nat} (h : IsBytes n₀ W (some ⟨b, off, none⟩) len cap zs) (ho : o + n ≤ len) : W.rangeAt b (off + o) (u8s ((zs.drop o).take n)) := by
  intro j v hv
  have hj : j < n := by
    rcases Nat.lt_or_ge j n with h | h
    · exact h
    · rw [List.getElem?_eq_none (by simp; omega)] at hv; cases hv
  obtain ⟨h1, _, _, _, rfl | ⟨b', off', e, hb, hc⟩⟩ := h
  · omega
  · cases e
    rw [Nat.add_assoc, hc (o + j) (by omega)]
    rw [u8s_at (by simp; omega)] at hv
    rw [← hv]
    simp [List.getElem?_drop, hj]

/-- The id that is read. -/
def idR (st : Option (List Nat)) : List Nat := if (readRaw 32 st).1.length = 32 then (readRaw 32 st).1 else List.replicate 32 0
theorem readRaw_out32 {zs : List Nat} (h : zs.length < 32) : readRaw 32 (some zs) = ([], none) := if_pos (.inr (by omega))
theorem readRaw_in32 {zs : List Nat} (h : 32 ≤ zs.length) : readRaw 32 (some zs) = (zs.take 32, some (zs.drop 32)) := readRaw_in (s := 32) h
theorem readRaw32 (st : Option (List Nat)) : (readRaw 32 st).1.length = 32 ∨ (readRaw 32 st).1.length = 0 := by
  cases st with
  | none => exact .inr rfl
  | some zs =>
    by_cases h : zs.length < 32
    · rw [readRaw_out32 h]; exact .inr rfl
    · rw [readRaw_in32 (by omega)]; refine .inl ?_; show (zs.take 32).length = 32; simp; omega

set_option maxRecDepth 100000 in
set_option maxHeartbeats 1000000 in
/-- Id -/
theorem refId_any (n₀ B : Nat) (st : Option (List Nat)) (w : World) (hn0 : n₀ ≤ B) (h : RfAt n₀ w B st) :
    Calls Try.prog 39 #[.pointer (some ⟨B, 0, none⟩)] w fun e w' => e = .returned (.agg (u8s (idR st)).toArray) ∧ RfAt n₀ w' B (readRaw 32 st).2 ∧ But B w.heap.size w w' := by
  have hBl := h.lt
  have HRaw : Hid (Calls Try.prog 64 #[.pointer (some ⟨B, 0, none⟩), .int .i64 32] (w.alloc (.cells noId.toArray 24)) fun e w' => ∃ q l c, e = .returned (.slice q l c) ∧ IsBytes n₀ w' q l c (readRaw 32 st).1 ∧ RfAt n₀ w' B (readRaw 32 st).2 ∧ But B (w.alloc (.cells noId.toArray 24)).heap.size (w.alloc (.cells noId.toArray 24)) w') := refRaw_any n₀ B st 32 _ hn0 (h.later (by omega) ((Below.refl _ w).alloc (Nat.le_refl _) _))
  have hR32 := readRaw32 st
  have HId : Hid (idR st = if (readRaw 32 st).1.length = 32 then (readRaw 32 st).1 else List.replicate 32 0) := rfl
  generalize idR st = X at *
  generalize (readRaw 32 st).1 = zs at *
  generalize (readRaw 32 st).2 = st' at *
  clear h
  rcases hR32 with h32 | h0
  · have HX : Hid (X = zs) := by show _ = _; rw [HId.out, if_pos h32]
    rw [HX.out]
    have HV : Hid ((u8s zs).length = 32) := by show _ = _; rw [u8s_length, h32]
    have HV1 : Hid (∀ v ∈ u8s zs, v.oneCell' = true) := u8s_one _
    have HP : Hid (∀ (W : World) q l c, IsBytes n₀ W q l c zs → l = 32 ∧ 32 ≤ c ∧ c ≤ 9223372036854775807 ∧ ∃ b off, q = some ⟨b, off, none⟩ ∧ W.rangeAt b off (u8s zs)) := fun W q l c hI => by
      obtain ⟨b, off, rfl, _⟩ : ∃ b off, q = some ⟨b, off, none⟩ ∧ b < n₀ := (bytes_at hI).resolve_left (by rw [← hI.1]; omega)
      have hr := bytes_range (o := 0) (n := 32) hI (by rw [← hI.1]; omega)
      rw [List.drop_zero, List.take_of_length_le (by omega)] at hr
      exact ⟨by rw [← hI.1]; exact h32, by have := hI.2.1; have := hI.1; omega, hI.2.2.1, b, off, rfl, hr⟩
    clear HX HId h32
    generalize u8s zs = V at *
    go_enter Try.func39, Try.ntmps39
    go_wp2_with (first
      | (go_at_call 64; rw [z32u8]; refine HRaw.out.mono ?_; rintro e w1 ⟨q, l, c, rfl, hI1, hR1, hb1⟩; obtain ⟨rfl, hc1, hcc1, b, off, rfl, hrg⟩ := HP.out _ _ _ _ hI1; have HRg : Hid (w1.rangeAt b off V) := hrg; have hA := run_arrayAt24 b off 32 c (Nat.le_refl _); have HR1 : Hid (Row w1 w.heap.size 24 noId) := hb1.row (by simp) (by omega) (Row.new' w 24 noId); clear hrg hI1)
      | ((with_reducible show wpList _ _ _ (Oper.mk _ (Op.load 24 (.tmp 11)) _ _ _ _ :: _) _ _); refine wpList_load_mid rfl 24 (.tmp 11) rfl b off rfl V _ HRg.out Try.underlying24 rfl (by rw [HV.out]; exact size24) ?_; simp only [Act.put, List.setIfInBounds_toArray, List.set_cons_zero, List.set_cons_succ])
      | ((with_reducible show wpList _ _ _ (Oper.mk _ (Op.store 24 (.tmp 2) (.tmp 12)) _ _ _ _ :: _) _ _); refine wpList_store_Row rfl 24 (.tmp 2) (.tmp 12) rfl V rfl rfl HR1.out (by rw [HV.out]; exact size24) (by rw [HV.out]; rfl) HV1.out ?_; simp only [Act.put]))
    refine bodyPost_ret (results_Row rfl rfl (HR1.out.sets_all (by rw [HV.out]; rfl)) Try.underlying24 (by rw [HV.out]; exact size24)) rfl ?_
    have hbs : Below w.heap.size w1 (w1.setCells w.heap.size 0 V) := below_setCells (Nat.le_refl _) _ _ (Below.refl _ _)
    have hs1 : w.heap.size + 1 ≤ w1.heap.size := by have := hb1.size; simpa using this
    exact ⟨rfl, hR1.below hbs hBl (by omega), (But.of_below ((Below.refl _ w).alloc (Nat.le_refl _) _) (Nat.le_refl _)).trans ((hb1.mono (by simp)).trans (But.of_below hbs (Nat.le_refl _)))⟩
  · have HX : Hid (u8s X = noId) := by show _ = _; rw [HId.out, if_neg (by omega), noId_eq]
    rw [HX.out]
    have HP : Hid (∀ (W : World) q l c, IsBytes n₀ W q l c zs → l = 0) := fun W q l c hI => by rw [← hI.1]; exact h0
    clear HX HId h0
    go_enter Try.func39, Try.ntmps39
    go_wp2_with (first
      | (go_at_call 64; rw [z32u8]; refine HRaw.out.mono ?_; rintro e w1 ⟨q, l, c, rfl, hI1, hR1, hb1⟩; obtain rfl := HP.out _ _ _ _ hI1; have HR1 : Hid (Row w1 w.heap.size 24 noId) := hb1.row (by simp) (by omega) (Row.new' w 24 noId); clear hI1)
      | ((with_reducible show wpList _ _ _ (Oper.mk _ (Op.store 24 (.tmp 2) (.tmp 9)) _ _ _ _ :: _) _ _); refine wpList_store_Row rfl 24 (.tmp 2) (.tmp 9) rfl noId rfl rfl HR1.out size24 rfl (by decide) ?_; simp only [Act.put]))
    refine bodyPost_ret (results_Row rfl rfl (HR1.out.sets_all rfl) Try.underlying24 size24) rfl ?_
    have hbs : Below w.heap.size w1 (w1.setCells w.heap.size 0 noId) := below_setCells (Nat.le_refl _) _ _ (Below.refl _ _)
    have hs1 : w.heap.size + 1 ≤ w1.heap.size := by have := hb1.size; simpa using this
    exact ⟨rfl, hR1.below hbs hBl (by omega), (But.of_below ((Below.refl _ w).alloc (Nat.le_refl _) _) (Nat.le_refl _)).trans ((hb1.mono (by simp)).trans (But.of_below hbs (Nat.le_refl _)))⟩

theorem readN_zero {most : Nat} : ∀ {st : Option (List Nat)}, (readN most st).2 = none → (readN most st).1 = 0
  | none, _ => rfl
  | some zs, h => by
    cases hn : numL zs 0 0 with
    | none => rw [readN_bad hn]
    | some y =>
      obtain ⟨x, s⟩ := y
      by_cases hm : most < x
      · rw [readN_over hn hm]
      · rw [readN_some hn hm] at h; cases h

set_option maxRecDepth 100000 in
set_option maxHeartbeats 2000000 in
/-- Ids -/
theorem refRIds_any (n₀ B : Nat) (st : Option (List Nat)) (z : Int) (hz : z ≤ 9223372036854775807) (w : World) (hn0 : n₀ ≤ B) (h : RfAt n₀ w B st) :
    Calls Try.prog 38 #[.pointer (some ⟨B, 0, none⟩), .int .i64 z] w fun e w' => ∃ v, e = .returned v ∧ OwnIds w.heap.size w' v (readIds z st).1 ∧ RfAt n₀ w' B (readIds z st).2 ∧ But B w.heap.size w w' := by
  have hBl := h.lt
  by_cases h0 : z < 0
  · have HFl : Hid (Calls Try.prog 63 #[.pointer (some ⟨B, 0, none⟩)] w fun e w' => (∃ v, e = .returned v) ∧ RfAt n₀ w' B none ∧ But B w.heap.size w w') := refFail_any n₀ B st w h
    have HR : Hid (readIds z st = ([], none)) := by
      show _ = _
      unfold readIds
      rw [readCount, if_pos h0]
      rfl
    rw [HR.out]
    clear h
    go_enter Try.func38, Try.ntmps38
    go_wp2_with (go_at_call 63; refine HFl.out.mono ?_; rintro e w1 ⟨⟨v1, rfl⟩, hR1, hb1⟩)
    go_ret
    exact ⟨_, rfl, OwnIds.nil _ _, hR1, hb1⟩
  · obtain ⟨m, rfl⟩ : ∃ m : Nat, z = (m : Int) := ⟨z.toNat, by omega⟩
    have HR : Hid (readCount (m : Int) st = readN m st) := by
      show _ = _
      rw [readCount, if_neg h0, Int.toNat_natCast]
    have HN : Hid (Calls Try.prog 40 #[.pointer (some ⟨B, 0, none⟩), .int .u64 (m : Nat)] w fun e w' => e = .returned (.int .u64 ((readN m st).1 : Nat)) ∧ RfAt n₀ w' B (readN m st).2 ∧ But B w.heap.size w w') := refRN_any n₀ B m hn0 st w h
    have hle := readN_le m st
    have hzero := readN_zero (most := m) (st := st)
    unfold readIds
    rw [HR.out]
    generalize (readN m st).1 = n at *
    generalize (readN m st).2 = st' at *
    clear h HR
    have e1 : (m : Int) % 18446744073709551616 = (m : Int) := by omega
    cases st' with
    | none =>
      obtain rfl : n = 0 := hzero rfl
      go_enter Try.func38, Try.ntmps38
      go_wp2_with (go_at_call 40; refine HN.out.mono ?_; rintro e w1 ⟨rfl, hR1, hb1⟩)
      have hR : Row w1 B 76 [.slice none 0 0, .bool true] := hR1
      have c1 := hR.cell (i := 1) rfl
      have HR1 : Hid (RfAt n₀ w1 B none) := hR1
      clear hR hR1
      go_loop [6, 7] (fun v i => v = .slice none 0 0 ∧ i = .int .u64 0) (fun _ _ => 0)
      case atStart => exact ⟨rfl, rfl⟩
      case round =>
        obtain ⟨rfl, rfl⟩ := hrel
        go_wp2
        go_ret
        exact ⟨_, rfl, OwnIds.nil _ _, HR1.out, hb1⟩
    | some zs =>
      clear hzero
      go_enter Try.func38, Try.ntmps38
      go_wp2_with (go_at_call 40; refine HN.out.mono ?_; rintro e w1 ⟨rfl, hR1, hb1⟩)
      have HR1 : Hid (RfAt n₀ w1 B (some zs)) := hR1
      have HLen : Hid (zs.length ≤ 100000) := by obtain ⟨q0, l0, c0, _, hI0, hl0⟩ := hR1; show _ ≤ _; rw [hI0.1]; exact hl0
      clear hR1
      go_loopw [6, 7] (fun v i wr => ∃ (k : Nat) (q : Option Addr) (l c : Nat), k ≤ zs.length + 1 ∧ i = .int .u64 (k : Nat) ∧ v = .slice q l c ∧ But B w.heap.size w wr ∧ ((k ≤ n ∧ 32 * k ≤ zs.length ∧ OwnIds w.heap.size wr v (idsOf zs k) ∧ RfAt n₀ wr B (some (zs.drop (32 * k)))) ∨ (zs.length / 32 < n ∧ RfAt n₀ wr B none)))
        (fun _ i _ => zs.length + 2 - (intOf i).toNat)
      case atStart => exact ⟨0, _, _, _, by omega, rfl, rfl, hb1, .inl ⟨by omega, by omega, OwnIds.nil _ _, by simpa using HR1.out⟩⟩
      case round =>
        clear HR1 hb1
        obtain ⟨k, q, l, c, hk1, rfl, rfl, hbut, hcase⟩ := hrel
        have hsz := hbut.size
        rcases hcase with ⟨hkn, hkz, hown, hR⟩ | ⟨hover, hR⟩
        · have HOwn : Hid (OwnIds w.heap.size wr (.slice q l c) (idsOf zs k)) := hown
          have HRk : Hid (RfAt n₀ wr B (some (zs.drop (32 * k)))) := hR
          have HBut : Hid (But B w.heap.size w wr) := hbut
          obtain ⟨q0, l0, c0, hrow, _, hl0⟩ := id hR
          have cb := hrow.cell (i := 1) rfl
          clear hrow hown hR hbut hl0
          by_cases hlt : k < n
          · have hki : (k : Int) < (n : Int) := by omega
            have HIdx : Hid (Calls Try.prog 39 #[.pointer (some ⟨B, 0, none⟩)] wr fun e w' => e = .returned (.agg (u8s (idR (some (zs.drop (32 * k))))).toArray) ∧ RfAt n₀ w' B (readRaw 32 (some (zs.drop (32 * k)))).2 ∧ But B wr.heap.size wr w') := refId_any n₀ B _ wr hn0 HRk.out
            have HX : Hid ((idR (some (zs.drop (32 * k)))).length = 32) := by
              show _ = _
              unfold idR
              split
              · assumption
              · simp
            have HNext : Hid ((32 * (k + 1) ≤ zs.length ∧ idsOf zs k ++ [idR (some (zs.drop (32 * k)))] = idsOf zs (k + 1) ∧ (readRaw 32 (some (zs.drop (32 * k)))).2 = some (zs.drop (32 * (k + 1)))) ∨ (zs.length / 32 < n ∧ (readRaw 32 (some (zs.drop (32 * k)))).2 = none)) := by
              by_cases h32 : 32 * (k + 1) ≤ zs.length
              · left
                have e := readRaw_in32 (zs := zs.drop (32 * k)) (by simp; omega)
                refine ⟨h32, ?_, ?_⟩
                · rw [idR, e, if_pos (by simp; omega), idsOf_succ]
                · rw [e]; show some _ = some _; rw [List.drop_drop]; congr 2
              · right
                exact ⟨by omega, by rw [readRaw_out32 (by simp; omega)]⟩
            generalize idR (some (zs.drop (32 * k))) = X at *
            generalize (readRaw 32 (some (zs.drop (32 * k)))).2 = st2 at *
            have HV : Hid ((u8s X).length = 32) := by show _ = _; rw [u8s_length]; exact HX.out
            obtain ⟨i0, hi0, hz0, hz1, hz2⟩ := info_parts info24
            go_wp2_with (first
              | (go_at_call 39; refine HIdx.out.mono ?_; rintro e w3 ⟨rfl, hR3, hb3⟩; have HR3 : Hid (RfAt n₀ w3 B st2) := hR3; have hBut3 := HBut.out.trans (hb3.mono hsz); have HOwn3 : Hid (OwnIds w.heap.size w3 (.slice q l c) (idsOf zs k)) := HOwn.out.but hb3 hBl; have hs3 := hb3.size; clear hR3 hb3)
              | ((with_reducible show wpList _ _ _ (Oper.mk _ (Op.buildSlice 22 1 _) _ _ _ _ :: _) _ _); refine wpList_buildOne rfl 22 24 (.tmp 30) rfl (u8s X) rfl i0 _ Try.underlying22 hi0 hz0 (by rw [hz1, HV.out]) (by rw [HV.out]; omega) (by rw [HV.out]; omega) ?_; have hRb : Row (w3.alloc (.cells (u8s X).toArray 24)) w3.heap.size 24 (u8s X) := Row.new' w3 24 (u8s X); have HRb : Hid ((w3.alloc (.cells (u8s X).toArray 24)).rangeAt w3.heap.size 0 (u8s X)) := hRb.range; have hbA : Below w3.heap.size w3 (w3.alloc (.cells (u8s X).toArray 24)) := (Below.refl _ w3).alloc (Nat.le_refl _) _; clear hRb; generalize w3.alloc (.cells (u8s X).toArray 24) = w4 at *; simp only [Act.put, List.setIfInBounds_toArray, List.set_cons_zero, List.set_cons_succ])
              | (at_builtin; refine wpList_append_id rfl _ _ rfl w.heap.size (.slice q l c) (idsOf zs k) rfl (HOwn3.out.later hbA) w3.heap.size X rfl HX.out HRb.out (by rw [idsOf_length]; have := HLen.out; omega) (by have := hbA.size; omega) ?_; intro u5 w5 hown5 hgrow5; have hb5 : Below w.heap.size w4 w5 := (Below.refl _ w4).grown hgrow5 (by have := hbA.size; omega) (fun k e => (World.ownsRow.lt (HOwn3.out.later hbA) k e).1); obtain ⟨q5, l5, c5, hu5⟩ : ∃ q l c, u5 = Value.slice q l c := (by obtain ⟨q, c, e⟩ := hown5.slice; exact ⟨q, _, c, e⟩); subst hu5; clear hgrow5))
            have hs4 := hbA.size
            have hBut5 : But B w.heap.size w w5 := hBut3.trans (But.of_below ((hbA.mono (by omega)).trans hb5) (Nat.le_refl _))
            go_roundw
            case rel =>
              refine ⟨k + 1, q5, l5, c5, by omega, by go_num, rfl, hBut5, ?_⟩
              have hR5 : RfAt n₀ w5 B st2 := (HR3.out.later (by omega) hbA).below hb5 hBl (by omega)
              rcases HNext.out with ⟨h1, h2, h3⟩ | ⟨h1, h2⟩
              · left
                rw [h2] at hown5
                rw [h3] at hR5
                exact ⟨by omega, h1, hown5, hR5⟩
              · right
                rw [h2] at hR5
                exact ⟨h1, hR5⟩
            case measure => simp [intOf]; omega
          · obtain rfl : k = n := by omega
            have hki : ¬ (k : Int) < (k : Int) := by omega
            go_wp2
            go_ret
            have e : takeIds k (some zs) = (idsOf zs k, some (zs.drop (32 * k))) := if_neg (by omega)
            rw [e]
            exact ⟨_, rfl, HOwn.out, HRk.out, HBut.out⟩
        · have HRk : Hid (RfAt n₀ wr B none) := hR
          have HBut : Hid (But B w.heap.size w wr) := hbut
          have hrow : Row wr B 76 [.slice none 0 0, .bool true] := hR
          have cb := hrow.cell (i := 1) rfl
          clear hrow hR hbut
          by_cases hlt : (k : Int) < (n : Int)
          all_goals
            go_wp2
            go_ret
            have e : takeIds n (some zs) = ([], none) := if_pos hover
            rw [e]
            exact ⟨_, rfl, OwnIds.nil _ _, HRk.out, HBut.out⟩
end Go.Proofs.Ytkhhlcjjdkldjaa
