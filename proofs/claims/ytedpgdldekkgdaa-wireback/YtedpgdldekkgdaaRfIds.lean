/-
  What the reference's reader's Id and Ids answer and leave.
-/
import Derived.Test.YtedpgdldekkgdaaRfN
import Derived.Test.YtedpgdldekkgdaaSame
import Derived.Test.YtedpgdldekkgdaaBuild
namespace Go.Proofs.Ytedpgdldekkgdaa
open Go.RowKit

theorem run_arrayAt25 (b o L C : Nat) (h : 32 ≤ L) (w : World) : (Instr.arrayAt 25 (.slice (some ⟨b, o, none⟩) L C)).run Try.prog w = .ok (.pointer (some ⟨b, o, none⟩)) w := by
  have h : ¬ L < 32 := by omega
  simp [Instr.arrayAt, run_underlying Try.underlying25, go_sem, h]
/-- No id. -/
def noId : List Value := List.replicate 32 (.int .u8 0)
theorem noId_eq : u8s (List.replicate 32 0) = noId := by simp [u8s, noId]
theorem OwnIds.but {A A' : World} {n₀ B : Nat} {v : Value} {ids : List (List Nat)} (h : OwnIds n₀ A v ids) (hb : But B A.heap.size A A') (hB : B < n₀) : OwnIds n₀ A' v ids := by
  refine ⟨h.1, ?_⟩
  rcases h.2 with hn | ⟨g, cap, cur, rfl, hg, hgg, rest⟩
  · exact .inl hn
  · exact .inr ⟨g, cap, cur, rfl, hg, (hb.block g (Array.getElem?_eq_some_iff.1 hgg).1 (by omega)).trans hgg, rest⟩
theorem bytes_range {n₀ : Nat} {W : World} {b off len cap o n : Nat} {zs : List Nat} (h : IsBytes n₀ W (some ⟨b, off, none⟩) len cap zs) (ho : o + n ≤ len) : W.rangeAt b (off + o) (u8s ((zs.drop o).take n)) := by
  intro j v hv
  have hj : j < n := by
    rcases Nat.lt_or_ge j n with h | h
    · exact h
    · rw [List.getElem?_eq_none (by simp; omega)] at hv; cases hv
  obtain ⟨h1, _, _, _, rfl | ⟨b', off', e, hb, hc⟩⟩ := h
  · omega
  · cases e
    rw [Nat.add_assoc, hc (o + j) (by omega)]
    rw [u8s_at (by simp; omega)] at hv
    rw [← hv]
    simp [List.getElem?_drop, hj]

/-- The id that is read. -/
def idR (st : Option (List Nat)) : List Nat := if (readRaw 32 st).1.length = 32 then (readRaw 32 st).1 else List.replicate 32 0
theorem readRaw_out32 {zs : List Nat} (h : zs.length < 32) : readRaw 32 (some zs) = ([], none) := if_pos (.inr (by omega))
theorem readRaw_in32 {zs : List Nat} (h : 32 ≤ zs.length) : readRaw 32 (some zs) = (zs.take 32, some (zs.drop 32)) := readRaw_in (s := 32) h
theorem readRaw32 (st : Option (List Nat)) : (readRaw 32 st).1.length = 32 ∨ (readRaw 32 st).1.length = 0 := by
  cases st with
  | none => exact .inr rfl
  | some zs =>
    by_cases h : zs.length < 32
    · rw [readRaw_out32 h]; exact .inr rfl
    · rw [readRaw_in32 (by omega)]; refine .inl ?_; show (zs.take 32).length = 32; simp; omega

set_option maxRecDepth 100000 in
set_option maxHeartbeats 1000000 in
/-- Id -/
theorem refId_any (n₀ B : Nat) (st : Option (List Nat)) (w : World) (hn0 : n₀ ≤ B) (h : RfAt n₀ w B st) :
    Calls Try.prog 36 #[.pointer (some ⟨B, 0, none⟩)] w fun e w' => e = .returned (.agg (u8s (idR st)).toArray) ∧ RfAt n₀ w' B (readRaw 32 st).2 ∧ But B w.heap.size w w' := by
  have hBl := h.lt
  have HRaw : Hid (Calls Try.prog 51 #[.pointer (some ⟨B, 0, none⟩), .int .i64 32] (w.alloc (.cells noId.toArray 25)) fun e w' => ∃ q l c, e = .returned (.slice q l c) ∧ IsBytes n₀ w' q l c (readRaw 32 st).1 ∧ RfAt n₀ w' B (readRaw 32 st).2 ∧ But B (w.alloc (.cells noId.toArray 25)).heap.size (w.alloc (.cells noId.toArray 25)) w') := refRaw_any n₀ B st 32 _ hn0 (h.later (by omega) ((Below.refl _ w).alloc (Nat.le_refl _) _))
  have hR32 := readRaw32 st
  have HId : Hid (idR st = if (readRaw 32 st).1.length = 32 then (readRaw 32 st).1 else List.replicate 32 0) := rfl
  generalize idR st = X at *
  generalize (readRaw 32 st).1 = zs at *
  generalize (readRaw 32 st).2 = st' at *
  clear h
  rcases hR32 with h32 | h0
  · have HX : Hid (X = zs) := by show _ = _; rw [HId.out, if_pos h32]
    rw [HX.out]
    have HV : Hid ((u8s zs).length = 32) := by show _ = _; rw [u8s_length, h32]
    have HV1 : Hid (∀ v ∈ u8s zs, v.oneCell' = true) := u8s_one _
    have HP : Hid (∀ (W : World) q l c, IsBytes n₀ W q l c zs → l = 32 ∧ 32 ≤ c ∧ c ≤ 9223372036854775807 ∧ ∃ b off, q = some ⟨b, off, none⟩ ∧ W.rangeAt b off (u8s zs)) := fun W q l c hI => by
      obtain ⟨b, off, rfl, _⟩ : ∃ b off, q = some ⟨b, off, none⟩ ∧ b < n₀ := (bytes_at hI).resolve_left (by rw [← hI.1]; omega)
      have hr := bytes_range (o := 0) (n := 32) hI (by rw [← hI.1]; omega)
      rw [List.drop_zero, List.take_of_length_le (by omega)] at hr
      exact ⟨by rw [← hI.1]; exact h32, by have := hI.2.1; have := hI.1; omega, hI.2.2.1, b, off, rfl, hr⟩
    clear HX HId h32
    generalize u8s zs = V at *
    go_enter Try.func36, Try.ntmps36
    go_wp2_with (first
      | (go_at_call 51; rw [z32u8]; refine HRaw.out.mono ?_; rintro e w1 ⟨q, l, c, rfl, hI1, hR1, hb1⟩; obtain ⟨rfl, hc1, hcc1, b, off, rfl, hrg⟩ := HP.out _ _ _ _ hI1; have HRg : Hid (w1.rangeAt b off V) := hrg; have hA := run_arrayAt25 b off 32 c (Nat.le_refl _); have HR1 : Hid (Row w1 w.heap.size 25 noId) := hb1.row (by simp) (by omega) (Row.new' w 25 noId); clear hrg hI1)
      | ((with_reducible show wpList _ _ _ (Oper.mk _ (Op.load 25 (.tmp 11)) _ _ _ _ :: _) _ _); refine wpList_load_mid rfl 25 (.tmp 11) rfl b off rfl V _ HRg.out Try.underlying25 rfl (by rw [HV.out]; exact size25) ?_; simp only [Act.put, List.setIfInBounds_toArray, List.set_cons_zero, List.set_cons_succ])
      | ((with_reducible show wpList _ _ _ (Oper.mk _ (Op.store 25 (.tmp 2) (.tmp 12)) _ _ _ _ :: _) _ _); refine wpList_store_Row rfl 25 (.tmp 2) (.tmp 12) rfl V rfl rfl HR1.out (by rw [HV.out]; exact size25) (by rw [HV.out]; rfl) HV1.out ?_; simp only [Act.put]))
    refine bodyPost_ret (results_Row rfl rfl (HR1.out.sets_all (by rw [HV.out]; rfl)) Try.underlying25 (by rw [HV.out]; exact size25)) rfl ?_
    have hbs : Below w.heap.size w1 (w1.setCells w.heap.size 0 V) := below_setCells (Nat.le_refl _) _ _ (Below.refl _ _)
    have hs1 : w.heap.size + 1 ≤ w1.heap.size := by have := hb1.size; simpa using this
    exact ⟨rfl, hR1.below hbs hBl (by omega), (But.of_below ((Below.refl _ w).alloc (Nat.le_refl _) _) (Nat.le_refl _)).trans ((hb1.mono (by simp)).trans (But.of_below hbs (Nat.le_refl _)))⟩
  · have HX : Hid (u8s X = noId) := by show _ = _; rw [HId.out, if_neg (by omega), noId_eq]
    rw [HX.out]
    have HP : Hid (∀ (W : World) q l c, IsBytes n₀ W q l c zs → l = 0) := fun W q l c hI => by rw [← hI.1]; exact h0
    clear HX HId h0
    go_enter Try.func36, Try.ntmps36
    go_wp2_with (first
      | (go_at_call 51; rw [z32u8]; refine HRaw.out.mono ?_; rintro e w1 ⟨q, l, c, rfl, hI1, hR1, hb1⟩; obtain rfl := HP.out _ _ _ _ hI1; have HR1 : Hid (Row w1 w.heap.size 25 noId) := hb1.row (by simp) (by omega) (Row.new' w 25 noId); clear hI1)
      | ((with_reducible show wpList _ _ _ (Oper.mk _ (Op.store 25 (.tmp 2) (.tmp 9)) _ _ _ _ :: _) _ _); refine wpList_store_Row rfl 25 (.tmp 2) (.tmp 9) rfl noId rfl rfl HR1.out size25 rfl (by decide) ?_; simp only [Act.put]))
    refine bodyPost_ret (results_Row rfl rfl (HR1.out.sets_all rfl) Try.underlying25 size25) rfl ?_
    have hbs : Below w.heap.size w1 (w1.setCells w.heap.size 0 noId) := below_setCells (Nat.le_refl _) _ _ (Below.refl _ _)
    have hs1 : w.heap.size + 1 ≤ w1.heap.size := by have := hb1.size; simpa using this
    exact ⟨rfl, hR1.below hbs hBl (by omega), (But.of_below ((Below.refl _ w).alloc (Nat.le_refl _) _) (Nat.le_refl _)).trans ((hb1.mono (by simp)).trans (But.of_below hbs (Nat.le_refl _)))⟩

theorem readN_zero {most : Nat} : ∀ {st : Option (List Nat)}, (readN most st).2 = none → (readN most st).1 = 0
  | none, _ => rfl
  | some zs, h => by
    cases hn : numL zs 0 0 with
    | none => rw [readN_bad hn]
    | some y =>
      obtain ⟨x, s⟩ := y
      by_cases hm : most < x
      · rw [readN_over hn hm]
      · rw [readN_some hn hm] at h; cases h

end Go.Proofs.Ytedpgdldekkgdaa
