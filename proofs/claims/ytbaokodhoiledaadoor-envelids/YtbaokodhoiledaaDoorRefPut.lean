/-
  The reference's Ad and PutEnvelope.
-/
import Derived.Test.YtbaokodhoiledaaDoorAwake
namespace Go.Proofs.YtbaokodhoiledaaDoor
open Go.RowKit

set_option maxRecDepth 100000 in
set_option maxHeartbeats 1000000 in
/-- The reference's Ad -/
theorem refAd_any (kd rl ep : Nat) (p : Option Addr) (len cap : Nat) (ids : List (List Nat)) (q : Option Addr) (lb cb : Nat) (hkd : kd < 9223372036854775808) (hrl : rl < 4294967296) (hep : ep < 4294967296) (hlen : len ≤ 1000) (w : World) (hI : IsIds w.heap.size w p len cap ids) :
    Calls Tryd.prog 26 #[.agg #[.int .i64 (kd : Nat), .int .u32 (rl : Nat), .int .u32 (ep : Nat), .slice p len cap, .slice q lb cb]] w fun e w' => ∃ v, e = .returned v ∧ Own w.heap.size w' v (headL kd rl ep ids) ∧ Below w.heap.size w w' := by
  have e1 : IntKind.u64.wrap (kd : Int) = (kd : Int) := by simp [IntKind.wrap, IntKind.bits, IntKind.signed]; omega
  have e2 : IntKind.u64.wrap (rl : Int) = (rl : Int) := by simp [IntKind.wrap, IntKind.bits, IntKind.signed]; omega
  have e3 : IntKind.u64.wrap (ep : Int) = (ep : Int) := by simp [IntKind.wrap, IntKind.bits, IntKind.signed]; omega
  obtain ⟨wa, hwa⟩ : ∃ wa, w.alloc (.cells #[.int .i64 (kd : Nat), .int .u32 (rl : Nat), .int .u32 (ep : Nat), .slice p len cap, .slice q lb cb] 26) = wa := ⟨_, rfl⟩
  have HBA : Hid (Below w.heap.size w wa) := by rw [← hwa]; exact (Below.refl _ w).alloc (Nat.le_refl _) _
  have HWA : Hid (w.alloc (.cells #[.int .i64 (kd : Nat), .int .u32 (rl : Nat), .int .u32 (ep : Nat), .slice p len cap, .slice q lb cb] 26) = wa) := hwa
  have hsa : wa.heap.size = w.heap.size + 1 := by rw [← hwa]; simp
  have HRE : Hid (Row wa w.heap.size 26 [.int .i64 (kd : Nat), .int .u32 (rl : Nat), .int .u32 (ep : Nat), .slice p len cap, .slice q lb cb]) := by rw [← hwa]; exact Row.new w 26 _
  have HIa : Hid (IsIds wa.heap.size wa p len cap ids) := (hI.below HBA.out).mono HBA.out.size
  have HL : Hid ((encN kd ++ encN rl ++ encN ep).length ≤ 30 ∧ (encN kd ++ encN rl).length ≤ 20 ∧ (encN kd).length ≤ 10) := by
    have g1 := encN_ten (n := kd) (by omega)
    have g2 := encN_ten (n := rl) (by omega)
    have g3 := encN_ten (n := ep) (by omega)
    simp only [List.length_append]
    exact ⟨by omega, by omega, by omega⟩
  have HS : Hid (∀ W, Below wa.heap.size wa W → W.cell? ⟨w.heap.size, 0, none⟩ = some (.int .i64 (kd : Nat)) ∧ W.cell? ⟨w.heap.size, 1, none⟩ = some (.int .u32 (rl : Nat)) ∧ W.cell? ⟨w.heap.size, 2, none⟩ = some (.int .u32 (ep : Nat)) ∧ W.cell? ⟨w.heap.size, 3, none⟩ = some (.slice p len cap)) := fun W h =>
    have hr := HRE.out.later h
    ⟨hr.cell (i := 0) rfl, hr.cell (i := 1) rfl, hr.cell (i := 2) rfl, hr.cell (i := 3) rfl⟩
  have HSA : Hid (wa.heap.size = w.heap.size + 1) := hsa
  clear hI hwa hsa
  go_enter Tryd.func26, Tryd.ntmps26
  go_wp2
  rw [HWA.out]
  refine wp_region_held_drew (S := fun W => Below wa.heap.size wa W) (by kernel_rfl) (Below.refl _ _).drew (fun hHeld => ?_)
  refine wpAnyH_takesAt 0 3 13 (of_decide_eq_true (by kernel_rfl)) rfl (fun _ _ _ d _ h => by cases d <;> exact h) (by kernel_rfl) (by kernel_rfl) hHeld ?_
  simp only [List.drop_zero, List.take_succ_cons, List.take_zero]
  iterate 3 (refine wpHeld_step (v := ?_) (by rfl) (fun wz hSw => ?_) ?_; rotate_left; (focus ((obtain ⟨c0, c1, c2, c3⟩ := HS.out wz hSw; clear hSw); go_simp; try with_reducible rfl)); (simp only [Act.put, List.setIfInBounds_toArray, List.set_cons_zero, List.set_cons_succ]))
  refine wpHeld_nil ?_
  refine wpAnyH_takesAt 4 3 10 (of_decide_eq_true (by kernel_rfl)) rfl (fun _ _ _ d _ h => by cases d <;> exact h) (by kernel_rfl) (by kernel_rfl) hHeld ?_
  simp only [List.drop_succ_cons, List.drop_zero, List.take_succ_cons, List.take_zero]
  iterate 3 (refine wpHeld_step (v := ?_) (by rfl) (fun wz hSw => ?_) ?_; rotate_left; (focus ((obtain ⟨c0, c1, c2, c3⟩ := HS.out wz hSw; clear hSw); go_simp; try with_reducible rfl)); (simp only [Act.put, List.setIfInBounds_toArray, List.set_cons_zero, List.set_cons_succ]))
  refine wpHeld_nil ?_
  refine wpAnyH_takesAt 8 3 7 (of_decide_eq_true (by kernel_rfl)) rfl (fun _ _ _ d _ h => by cases d <;> exact h) (by kernel_rfl) (by kernel_rfl) hHeld ?_
  simp only [List.drop_succ_cons, List.drop_zero, List.take_succ_cons, List.take_zero]
  iterate 3 (refine wpHeld_step (v := ?_) (by rfl) (fun wz hSw => ?_) ?_; rotate_left; (focus ((obtain ⟨c0, c1, c2, c3⟩ := HS.out wz hSw; clear hSw); go_simp; try with_reducible rfl)); (simp only [Act.put, List.setIfInBounds_toArray, List.set_cons_zero, List.set_cons_succ]))
  refine wpHeld_nil ?_
  refine wpAnyH_takesAt 12 2 5 (of_decide_eq_true (by kernel_rfl)) rfl (fun _ _ _ d _ h => by cases d <;> exact h) (by kernel_rfl) (by kernel_rfl) hHeld ?_
  simp only [List.drop_succ_cons, List.drop_zero, List.take_succ_cons, List.take_zero]
  iterate 2 (refine wpHeld_step (v := ?_) (by rfl) (fun wz hSw => ?_) ?_; rotate_left; (focus ((obtain ⟨c0, c1, c2, c3⟩ := HS.out wz hSw; clear hSw); go_simp; try with_reducible rfl)); (simp only [Act.put, List.setIfInBounds_toArray, List.set_cons_zero, List.set_cons_succ]))
  refine wpHeld_nil ?_
  refine wpAnyH_only (i := 3) (by kernel_rfl) rfl (fun K hK => ?_)
  rw [if_pos (by rfl)]
  go_simp
  refine (refN_any none 0 0 [] kd wa.drew (by omega) (noBytes _) (by simp)).mono ?_
  rintro e w1 ⟨v1, rfl, ho1, hb1⟩
  have hB1 : Below wa.heap.size wa w1 := (Below.refl _ wa).drew.trans hb1
  obtain ⟨q1, l1, c1, hu1⟩ := own_any_slice ho1
  subst hu1
  rw [List.nil_append] at ho1
  refine hK.out _ _ hB1 ?_
  clear hK K hHeld
  refine wpAnyH_only (i := 7) (by kernel_rfl) rfl (fun K hK => ?_)
  rw [if_pos (by rfl)]
  go_simp
  refine (refN_any q1 l1 c1 (encN kd) rl w1 (by omega) (ho1.bytes (encN_bytes _)) (by have := HL.out; omega)).mono ?_
  rintro e w2 ⟨v2, rfl, ho2, hb2⟩
  have hB2 : Below wa.heap.size wa w2 := hB1.trans (hb2.mono hB1.size)
  obtain ⟨q2, l2, c2, hu2⟩ := own_any_slice ho2
  subst hu2
  refine hK.out _ _ hB2 ?_
  clear hK K
  refine wpAnyH_only (i := 11) (by kernel_rfl) rfl (fun K hK => ?_)
  rw [if_pos (by rfl)]
  go_simp
  refine (refN_any q2 l2 c2 (encN kd ++ encN rl) ep w2 (by omega) (ho2.bytes (fun z hz => by rcases List.mem_append.1 hz with h | h <;> exact encN_bytes _ z h)) (by have := HL.out; omega)).mono ?_
  rintro e w3 ⟨v3, rfl, ho3, hb3⟩
  have hB3 : Below wa.heap.size wa w3 := hB2.trans (hb3.mono hB2.size)
  obtain ⟨q3, l3, c3, hu3⟩ := own_any_slice ho3
  subst hu3
  refine hK.out _ _ hB3 ?_
  clear hK K
  refine wpAnyH_only (i := 14) (by kernel_rfl) rfl (fun K hK => ?_)
  rw [if_pos (by rfl)]
  go_simp
  refine (refIds_any q3 l3 c3 (encN kd ++ encN rl ++ encN ep) p len cap ids w3 (ho3.bytes (fun z hz => by rcases List.mem_append.1 hz with h | h; (rcases List.mem_append.1 h with h | h <;> exact encN_bytes _ z h); exact encN_bytes _ z h)) ((HIa.out.below hB3).mono hB3.size) (by have := HL.out; omega)).mono ?_
  rintro e w4 ⟨v4, rfl, ho4, hb4⟩
  have hB4 : Below wa.heap.size wa w4 := hB3.trans (hb4.mono hB3.size)
  refine hK.out _ _ hB4 ?_
  clear hK K
  refine wpAnyH_only (i := 15) (by kernel_rfl) rfl (fun K hK => ?_)
  rw [if_pos (by rfl)]
  go_simp
  refine hK.out _ _ hB4 ?_
  clear hK K
  refine wpAnyH_done (by kernel_rfl) ?_ _
  go_wp2
  go_ret
  have h3 := hB3.size
  have h0 := HSA.out
  exact ⟨_, rfl, ho4.mono (by omega), HBA.out.trans (hB4.mono (by omega))⟩

/-- So far each is greater than the one ahead. -/
def UpTo (ids : List (List Nat)) (k : Nat) : Prop := ∀ j, j < k → ltB (ids.getD j []) (ids.getD (j + 1) []) = true

/-- What PutEnvelope answers of an envelope whose kind may be. -/
def PutPost (w : World) (kd rl ep : Nat) (ids : List (List Nat)) (bs : List Nat) (e : Ending) (w' : World) : Prop :=
  (riseB ids = true ∧ ∃ v, e = .returned (.tuple #[v, .int .i64 0]) ∧ Own w.heap.size w' v (putE kd rl ep ids bs) ∧ Below w.heap.size w w') ∨ (riseB ids = false ∧ e = .returned (.tuple #[.slice none 0 0, .int .i64 90]) ∧ Below w.heap.size w w')

set_option maxRecDepth 100000 in
set_option maxHeartbeats 2000000 in
theorem refPut_ok (kd rl ep : Nat) (p : Option Addr) (len cap : Nat) (ids : List (List Nat)) (q : Option Addr) (lb cb : Nat) (bs : List Nat) (hk : okKind kd = true) (hrl : rl < 4294967296) (hep : ep < 4294967296) (hlen : len ≤ 1000) (hlb : lb ≤ 70000) (w : World)
    (hI : IsIds w.heap.size w p len cap ids) (hJ : IsBytes w.heap.size w q lb cb bs) :
    Calls Tryd.prog 15 #[.agg #[.int .i64 (kd : Nat), .int .u32 (rl : Nat), .int .u32 (ep : Nat), .slice p len cap, .slice q lb cb]] w (PutPost w kd rl ep ids bs) := by
  have hk1 : ¬ (kd : Int) < 1 := by simp [okKind] at hk; omega
  have hk3 : ¬ (3 : Int) < (kd : Int) := by simp [okKind] at hk; omega
  have hkd : kd < 9223372036854775808 := by omega
  have hli : ¬ (1000 : Int) < (len : Int) := by omega
  have hbi : ¬ (70000 : Int) < (lb : Int) := by omega
  obtain ⟨wa, hwa⟩ : ∃ wa, w.alloc (.cells #[.int .i64 (kd : Nat), .int .u32 (rl : Nat), .int .u32 (ep : Nat), .slice p len cap, .slice q lb cb] 26) = wa := ⟨_, rfl⟩
  have HBA : Hid (Below w.heap.size w wa) := by rw [← hwa]; exact (Below.refl _ w).alloc (Nat.le_refl _) _
  have HWA : Hid (w.alloc (.cells #[.int .i64 (kd : Nat), .int .u32 (rl : Nat), .int .u32 (ep : Nat), .slice p len cap, .slice q lb cb] 26) = wa) := hwa
  have HRE : Hid (Row wa w.heap.size 26 [.int .i64 (kd : Nat), .int .u32 (rl : Nat), .int .u32 (ep : Nat), .slice p len cap, .slice q lb cb]) := by rw [← hwa]; exact Row.new w 26 _
  have HIa : Hid (IsIds wa.heap.size wa p len cap ids) := (hI.below HBA.out).mono HBA.out.size
  have HJa : Hid (IsBytes wa.heap.size wa q lb cb bs) := (hJ.below HBA.out).mono HBA.out.size
  have hIl := hI.1
  have hI32 := hI.2.2.2.1
  have hlc := hI.2.1
  have hcc := hI.2.2.1
  have hJ256 := hJ.2.2.2.1
  have hJl := hJ.1
  have HS : Hid (∀ W, Below wa.heap.size wa W → W.cell? ⟨w.heap.size, 0, none⟩ = some (.int .i64 (kd : Nat)) ∧ W.cell? ⟨w.heap.size, 1, none⟩ = some (.int .u32 (rl : Nat)) ∧ W.cell? ⟨w.heap.size, 2, none⟩ = some (.int .u32 (ep : Nat)) ∧ W.cell? ⟨w.heap.size, 3, none⟩ = some (.slice p len cap) ∧ W.cell? ⟨w.heap.size, 4, none⟩ = some (.slice q lb cb)) := fun W h =>
    have hr := HRE.out.later h
    ⟨hr.cell (i := 0) rfl, hr.cell (i := 1) rfl, hr.cell (i := 2) rfl, hr.cell (i := 3) rfl, hr.cell (i := 4) rfl⟩
  clear hI hJ hwa hk
  go_enter Tryd.func15, Tryd.ntmps15
  go_wp2
  go_loopw [4] (fun i wr => ∃ (k : Nat), (k = 0 ∨ k < len) ∧ i = .int .i64 ((k : Int) + 1) ∧ UpTo ids k ∧ Below wa.heap.size wa wr) (fun i _ => len + 1 - (intOf i).toNat)
  case atStart => rw [HWA.out]; exact ⟨0, .inl rfl, rfl, fun j hj => by omega, Below.refl _ _⟩
  case round =>
    obtain ⟨k, hk, rfl, hup, hbel⟩ := hrel
    have hc3 := (HS.out wr hbel).2.2.2.1
    by_cases hlt : k + 1 < len
    · have hki : (k : Int) + 1 < (len : Int) := by omega
      obtain ⟨b, off, rfl, hb, hcell⟩ : ∃ b off, p = some ⟨b, off, none⟩ ∧ b < wa.heap.size ∧ ∀ i, i < len → wr.rangeAt b (off + i * 32) (u8s (ids.getD i [])) := by
        rcases (HIa.out.below hbel).2.2.2.2 with h | h
        · omega
        · exact h
      have hx := ids_at hI32 (k := k) (by omega)
      have hy := ids_at hI32 (k := k + 1) (by omega)
      have HV : Hid ((u8s (ids.getD k [])).length = 32) := by show _ = _; rw [u8s_length]; exact hx.1
      have HU : Hid ((u8s (ids.getD (k + 1) [])).length = 32) := by show _ = _; rw [u8s_length]; exact hy.1
      have e3 : IntKind.i64.wrap (k : Int) = (k : Int) := by simp [IntKind.wrap, IntKind.bits, IntKind.signed]; omega
      have e5 : ((k : Int) + 1).toNat = k + 1 := by omega
      have e6 : (0 : Int) ≤ (k : Int) + 1 := by omega
      have e7 : (k : Int) < (len : Int) := by omega
      have HRg : Hid (∀ W, Below wr.heap.size wr W → W.rangeAt b (off + k * 32) (u8s (ids.getD k []))) := fun W h => rangeAt_below h (by have := hbel.size; omega) (hcell k (by omega))
      have HRg2 : Hid (∀ W, Below wr.heap.size wr W → W.rangeAt b (off + (k + 1) * 32) (u8s (ids.getD (k + 1) []))) := fun W h => rangeAt_below h (by have := hbel.size; omega) (hcell (k + 1) hlt)
      have HC : Hid (Calls Tryd.prog 24 #[.agg (u8s (ids.getD k [])).toArray, .agg (u8s (ids.getD (k + 1) [])).toArray] wr.drew fun e w' => e = .returned (.bool (ltB (ids.getD k []) (ids.getD (k + 1) []))) ∧ Below wr.heap.size wr w') := by
        refine (less_any _ _ hx hy wr.drew).mono ?_
        rintro e w' ⟨rfl, n, rfl⟩
        exact ⟨rfl, below_drewN ((((Below.refl _ wr).drew).alloc (Nat.le_refl _) _).alloc (by simp) _) n⟩
      have HB : Hid (Below wa.heap.size wa wr) := hbel
      have HC3 : Hid (∀ W, Below wr.heap.size wr W → W.cell? ⟨w.heap.size, 3, none⟩ = some (.slice (some ⟨b, off, none⟩) len cap)) := fun W h => (HS.out W (hbel.trans (h.mono hbel.size))).2.2.2.1
      have HT : Hid (∀ r, ltB (ids.getD k []) (ids.getD (k + 1) []) = r → (r = true → UpTo ids (k + 1)) ∧ (r = false → riseB ids = false)) := fun r hr => by
        subst hr
        refine ⟨fun h j hj => ?_, fun h => riseB_false (by omega) h⟩
        by_cases hjk : j = k
        · subst hjk; exact h
        · exact hup j (by omega)
      clear hcell hx hy hup hbel
      generalize ltB (ids.getD k []) (ids.getD (k + 1) []) = r at *
      have HTr := HT.out r rfl
      clear HT
      generalize u8s (ids.getD k []) = V at *
      generalize u8s (ids.getD (k + 1) []) = U at *
      go_wp2
      refine wp_region_held_drew (S := fun W => Below wr.heap.size wr W) (by kernel_rfl) (Below.refl _ _).drew (fun hHeld => ?_)
      refine wpAnyH_takesAt 0 5 8 (of_decide_eq_true (by kernel_rfl)) rfl (fun _ _ _ d _ h => by cases d <;> exact h) (by kernel_rfl) (by kernel_rfl) hHeld ?_
      simp only [List.drop_zero, List.take_succ_cons, List.take_zero]
      iterate 5 (refine wpHeld_step (v := ?_) (by rfl) (fun wz hSw => ?_) ?_; rotate_left; (focus ((have hcz := HC3.out wz hSw; clear hSw); go_simp; try with_reducible rfl)); (simp only [Act.put, List.setIfInBounds_toArray, List.set_cons_zero, List.set_cons_succ]))
      refine wpHeld_nil ?_
      refine wpAnyH_takesAt 5 1 7 (of_decide_eq_true (by kernel_rfl)) rfl (fun _ _ _ d _ h => by cases d <;> exact h) (by kernel_rfl) (by kernel_rfl) hHeld ?_
      simp only [List.drop_succ_cons, List.drop_zero, List.take_succ_cons, List.take_zero]
      refine wpHeld_load (by rfl) 38 (.tmp 36) rfl b (off + k * 32) rfl V (fun W hW => HRg.out W hW) Tryd.underlying38 (by rw [HV.out]; exact size38) ?_
      (simp only [Act.put]; (try simp only [List.setIfInBounds_toArray]); (try simp only [List.set_cons_succ]); (try simp only [List.set_cons_zero]))
      refine wpHeld_nil ?_
      refine wpAnyH_takesAt 6 4 3 (of_decide_eq_true (by kernel_rfl)) rfl (fun _ _ _ d _ h => by cases d <;> exact h) (by kernel_rfl) (by kernel_rfl) hHeld ?_
      simp only [List.drop_succ_cons, List.drop_zero, List.take_succ_cons, List.take_zero]
      iterate 4 (refine wpHeld_step (v := ?_) (by rfl) (fun wz hSw => ?_) ?_; rotate_left; (focus ((have hcz := HC3.out wz hSw; clear hSw); go_simp; try with_reducible rfl)); (simp only [Act.put, List.setIfInBounds_toArray, List.set_cons_zero, List.set_cons_succ]))
      refine wpHeld_nil ?_
      refine wpAnyH_takesAt 10 1 2 (of_decide_eq_true (by kernel_rfl)) rfl (fun _ _ _ d _ h => by cases d <;> exact h) (by kernel_rfl) (by kernel_rfl) hHeld ?_
      simp only [List.drop_succ_cons, List.drop_zero, List.take_succ_cons, List.take_zero]
      refine wpHeld_load (by rfl) 38 (.tmp 41) rfl b (off + (k + 1) * 32) rfl U (fun W hW => HRg2.out W hW) Tryd.underlying38 (by rw [HU.out]; exact size38) ?_
      (simp only [Act.put]; (try simp only [List.setIfInBounds_toArray]); (try simp only [List.set_cons_succ]); (try simp only [List.set_cons_zero]))
      refine wpHeld_nil ?_
      refine wpAnyH_only (i := 11) (by kernel_rfl) rfl (fun K hK => ?_)
      rw [if_pos (by rfl)]
      go_simp
      refine HC.out.mono ?_
      rintro e w1 ⟨rfl, hb1⟩
      have hB1 : Below wa.heap.size wa w1 := HB.out.trans (hb1.mono HB.out.size)
      refine hK.out _ _ hb1 ?_
      clear hK K hHeld
      refine wpAnyH_only (i := 12) (by kernel_rfl) rfl (fun K hK => ?_)
      rw [if_pos (by rfl)]
      go_simp
      refine hK.out _ _ hb1 ?_
      clear hK K
      refine wpAnyH_done (by kernel_rfl) ?_ _
      cases r with
      | true =>
        have hup := HTr.1 rfl
        have HUp : Hid (UpTo ids (k + 1)) := hup
        clear HTr hup
        go_wp2
        go_roundw
        case rel => exact ⟨k + 1, .inr hlt, by go_num, HUp.out, hB1⟩
        case measure => simp [intOf]; omega
      | false =>
        have hf := HTr.2 rfl
        have HF : Hid (riseB ids = false) := hf
        clear HTr hf
        go_wp2
        refine bodyPost_ret (results_tmp2 rfl _ _ _) rfl ?_
        exact .inr ⟨HF.out, rfl, HBA.out.trans (hB1.mono HBA.out.size)⟩
    · have hki : ¬ (k : Int) + 1 < (len : Int) := by omega
      have HRt : Hid (riseB ids = true) := riseB_true (fun i hi => hup i (by omega))
      have HB : Hid (Below wa.heap.size wa wr) := hbel
      have HA : Hid (Calls Tryd.prog 26 #[.agg #[.int .i64 (kd : Nat), .int .u32 (rl : Nat), .int .u32 (ep : Nat), .slice p len cap, .slice q lb cb]] wr.drew fun e w' => ∃ v, e = .returned v ∧ Own wr.heap.size w' v (headL kd rl ep ids) ∧ Below wr.heap.size wr w') := by
        refine (refAd_any kd rl ep p len cap ids q lb cb hkd hrl hep hlen wr.drew ((HIa.out.below hbel).mono hbel.size)).mono ?_
        rintro e w' ⟨v, h1, h2, h3⟩
        exact ⟨v, h1, h2, (Below.refl _ wr).drew.trans h3⟩
      have HZ : Hid (∀ z ∈ headL kd rl ep ids, z < 256) := headL_bytes kd rl ep hI32
      have HL : Hid ((headL kd rl ep ids).length ≤ 33000) := headL_length hI32 (by omega) (by omega) (by omega) (by omega)
      have HP : Hid (putE kd rl ep ids bs = headL kd rl ep ids ++ encText bs) := rfl
      clear hup hbel
      go_wp2
      refine wp_region_held_drew (S := fun W => Below wr.heap.size wr W) (by kernel_rfl) (Below.refl _ _).drew (fun hHeld => ?_)
      refine wpAnyH_takesAt 0 1 6 (of_decide_eq_true (by kernel_rfl)) rfl (fun _ _ _ d _ h => by cases d <;> exact h) (by kernel_rfl) (by kernel_rfl) hHeld ?_
      simp only [List.drop_zero, List.take_succ_cons, List.take_zero]
      iterate 1 (refine wpHeld_step (v := ?_) (by rfl) (fun wz hSw => ?_) ?_; rotate_left; (focus ((obtain ⟨c0, c1, c2, c3, c4⟩ := HS.out wz (HB.out.trans (Below.mono hSw HB.out.size)); clear hSw); go_simp; try with_reducible rfl)); ((simp only [Act.put]; (try simp only [List.setIfInBounds_toArray]); (try simp only [List.set_cons_succ]); (try simp only [List.set_cons_zero]))))
      refine wpHeld_nil ?_
      refine wpAnyH_takesAt 2 2 4 (of_decide_eq_true (by kernel_rfl)) rfl (fun _ _ _ d _ h => by cases d <;> exact h) (by kernel_rfl) (by kernel_rfl) hHeld ?_
      simp only [List.drop_succ_cons, List.drop_zero, List.take_succ_cons, List.take_zero]
      iterate 2 (refine wpHeld_step (v := ?_) (by rfl) (fun wz hSw => ?_) ?_; rotate_left; (focus ((obtain ⟨c0, c1, c2, c3, c4⟩ := HS.out wz (HB.out.trans (Below.mono hSw HB.out.size)); clear hSw); go_simp; try with_reducible rfl)); (simp only [Act.put, List.setIfInBounds_toArray, List.set_cons_zero, List.set_cons_succ]))
      refine wpHeld_nil ?_
      refine wpAnyH_only (i := 1) (by kernel_rfl) rfl (fun K hK => ?_)
      rw [if_pos (by rfl)]
      go_simp
      refine HA.out.mono ?_
      rintro e w1 ⟨v1, rfl, ho1, hb1⟩
      obtain ⟨q1, l1, c1, hu1⟩ := own_any_slice ho1
      subst hu1
      refine hK.out _ _ hb1 ?_
      clear hK K hHeld
      refine wpAnyH_only (i := 4) (by kernel_rfl) rfl (fun K hK => ?_)
      rw [if_pos (by rfl)]
      go_simp
      have hB1 : Below wa.heap.size wa w1 := HB.out.trans (hb1.mono HB.out.size)
      refine (refText_any q1 l1 c1 (headL kd rl ep ids) q lb cb bs w1 (ho1.bytes HZ.out) ((HJa.out.below hB1).mono hB1.size) (by have := HL.out; omega)).mono ?_
      rintro e w2 ⟨v2, rfl, ho2, hb2⟩
      have hB2 : Below wr.heap.size wr w2 := hb1.trans (hb2.mono hb1.size)
      refine hK.out _ _ hB2 ?_
      clear hK K
      refine wpAnyH_takesAt 5 2 0 (of_decide_eq_true (by kernel_rfl)) rfl (fun _ _ _ d _ h => by cases d <;> exact h) (by kernel_rfl) (by kernel_rfl) hB2 ?_
      simp only [List.drop_succ_cons, List.drop_zero, List.take_succ_cons, List.take_zero]
      iterate 2 (refine wpHeld_step (v := ?_) (by rfl) (fun wz hSw => ?_) ?_; rotate_left; (focus ((try dsimp only at hSw); go_simp; try with_reducible rfl)); (simp only [Act.put, List.setIfInBounds_toArray, List.set_cons_zero, List.set_cons_succ]))
      refine wpHeld_nil ?_
      refine wpAnyH_done (by kernel_rfl) ?_ _
      go_wp2
      refine bodyPost_ret (results_tmp2 rfl _ _ _) rfl ?_
      have hs := HBA.out.size
      have hs2 := hB1.size
      exact .inl ⟨HRt.out, _, rfl, by rw [HP.out]; exact ho2.mono (by omega), HBA.out.trans ((hB1.trans (hb2.mono hs2)).mono hs)⟩

set_option maxRecDepth 100000 in
set_option maxHeartbeats 1000000 in
/-- PutEnvelope, of a kind that may not be. -/
theorem refPut_bad (kd : Int) (rl ep : Nat) (p : Option Addr) (len cap : Nat) (q : Option Addr) (lb cb : Nat) (hk : okKind kd = false) (w : World) :
    Calls Tryd.prog 15 #[.agg #[.int .i64 kd, .int .u32 (rl : Nat), .int .u32 (ep : Nat), .slice p len cap, .slice q lb cb]] w fun e w' => e = .returned (.tuple #[.slice none 0 0, .int .i64 90]) ∧ Below w.heap.size w w' := by
  have hb0 : Below w.heap.size w (w.alloc (.cells #[.int .i64 kd, .int .u32 (rl : Nat), .int .u32 (ep : Nat), .slice p len cap, .slice q lb cb] 26)) := (Below.refl _ w).alloc (Nat.le_refl _) _
  by_cases h1 : kd < 1
  · clear hk
    go_enter Tryd.func15, Tryd.ntmps15
    go_wp2
    refine bodyPost_ret (results_tmp2 rfl _ _ _) rfl ?_
    exact ⟨rfl, hb0⟩
  · have h3 : (3 : Int) < kd := by simp [okKind] at hk; omega
    clear hk
    go_enter Tryd.func15, Tryd.ntmps15
    go_wp2
    refine bodyPost_ret (results_tmp2 rfl _ _ _) rfl ?_
    exact ⟨rfl, hb0⟩
end Go.Proofs.YtbaokodhoiledaaDoor
