/-
  The reference's Open of a real suite: the text that seals to these bytes, or none.
-/
import Derived.Test.YtclelancbfoenaaGreatDoorRefSeal
import Derived.Test.YtclelancbfoenaaGreatDoorReE
import Derived.Test.YtclelancbfoenaaGreatDoorROpen2
namespace Go.Proofs.YtclelancbfoenaaGreatDoor
open Go.RowKit Go.Shelf

namespace Re
/-- Unpad, and where the text lies. -/
theorem unpad_bytes (p : Option Addr) (len cap : Nat) (cs : List Nat) (hlen : len ≤ 60000) (w : World) (hI : IsBytes w.heap.size w p len cap cs) :
    Calls Tryz.prog 21 #[.slice p len cap] w fun e w' => ∃ q l c, e = .returned (.tuple #[.slice q l c, .int .i64 (errU cs)]) ∧ IsBytes w'.heap.size w' q l c (textU cs) ∧ Below w.heap.size w w' := by
  have hnil : ∀ W : World, IsBytes W.heap.size W none 0 0 [] := fun W => ⟨rfl, Nat.le_refl _, by omega, by simp, .inl rfl⟩
  have hcl := hI.1
  by_cases h4 : 4 ≤ len
  · obtain ⟨b, off, rfl, hbb, hcs⟩ : ∃ b off, p = some ⟨b, off, none⟩ ∧ b < w.heap.size ∧ ∀ i, i < len → w.cell? ⟨b, off + i, none⟩ = some (.int .u8 (cs.getD i 0 : Nat)) := by
      rcases hI.2.2.2.2 with h | h
      · omega
      · exact h
    have HN : Hid (Calls Tryz.prog 44 #[.slice (some ⟨b, off, none⟩) 4 cap] w fun e w' => e = .returned (.int .u64 (wordAt cs 0 : Nat)) ∧ w' = w) := by
      have h := number_some b off 4 cap (cs.take 4) w (by decide) (fun z hz => hI.2.2.2.1 z (List.mem_of_mem_take hz)) (fun i hi => by rw [hcs i (by omega)]; simp [hi])
      rw [numFrom_take] at h
      exact h
    by_cases hn : wordAt cs 0 + 4 ≤ len
    · have hT : (toldL cs).length = wordAt cs 0 := toldL_length (by omega)
      have hTz : ∀ z ∈ toldL cs, z < 256 := toldL_lt hI.2.2.2.1
      have hp : IsPad cs ↔ padL (toldL cs) = cs := ⟨fun h => h.2.2, fun h => ⟨by omega, by omega, h⟩⟩
      obtain ⟨o4, C, hc⟩ : ∃ o4 C, (cap = 4 ∧ o4 = off ∧ C = 0) ∨ (cap ≠ 4 ∧ o4 = off + 4 ∧ C = cap - 4) := by
        by_cases h : cap = 4
        · exact ⟨off, 0, .inl ⟨h, rfl, rfl⟩⟩
        · exact ⟨off + 4, cap - 4, .inr ⟨h, rfl, rfl⟩⟩
      have hIt : IsBytes w.heap.size w (some ⟨b, o4, none⟩) (wordAt cs 0) C (toldL cs) := by
        have h2 := hI.2.1
        have h3 := hI.2.2.1
        refine ⟨hT, by omega, by omega, hTz, ?_⟩
        rcases hc with ⟨h, _, _⟩ | ⟨_, rfl, rfl⟩
        · exact .inl (by omega)
        · refine .inr ⟨b, off + 4, rfl, hbb, fun i hi => ?_⟩
          rw [show off + 4 + i = off + (4 + i) by omega, hcs (4 + i) (by omega)]
          simp [toldL, hi]
      have hse : ((strOf (padL (toldL cs))).toList == (strOf cs).toList) = decide (padL (toldL cs) = cs) := strOf_eq _ _ (padL_lt hTz) hI.2.2.2.1
      refine (unpad_core b off len cap (wordAt cs 0) o4 C (bucketN (wordAt cs 0)) (decide (padL (toldL cs) = cs)) (strOf (padL (toldL cs))) (strOf cs) hse hc h4 hI.2.1 hI.2.2.1 hlen hn w HN ?_ ?_).mono ?_
      · refine (refPad_some _ _ _ _ (by omega) w hIt).mono ?_
        rintro e w' ⟨q, c, rfl, ho, hb⟩
        exact ⟨q, c, rfl, str_of_row (by rw [padL_length (by omega), hT]) (by have h := ho; unfold Own at h; rwa [padL_length (by omega), hT] at h), hb⟩
      · intro W hW
        exact str_of_bytes (hI.later hW)
      · rintro e w' ⟨v, rfl, rfl, hbel⟩
        by_cases he : padL (toldL cs) = cs
        · rw [errU_pos (hp.2 he), textU_pos (hp.2 he), decide_eq_true he]
          exact ⟨_, _, _, rfl, hIt.later hbel, hbel⟩
        · rw [errU_neg (fun h => he (hp.1 h)), textU_neg (fun h => he (hp.1 h)), decide_eq_false he]
          exact ⟨_, _, _, rfl, hnil _, hbel⟩
    · have hp : ¬ IsPad cs := fun h => hn (by have := h.2.1; omega)
      rw [errU_neg hp, textU_neg hp]
      refine (unpad_far b off len cap (wordAt cs 0) h4 hI.2.1 hI.2.2.1 hlen (by omega) w HN).mono ?_
      rintro e w' ⟨rfl, hbel⟩
      exact ⟨_, _, _, rfl, hnil _, hbel⟩
  · have hp : ¬ IsPad cs := fun h => h4 (by have := h.1; omega)
    rw [errU_neg hp, textU_neg hp]
    refine (unpad_short p len cap (by omega) w).mono ?_
    rintro e w' ⟨rfl, hbel⟩
    exact ⟨_, _, _, rfl, hnil _, hbel⟩

end Re


theorem bytes_rangeR {n₀ : Nat} {W : World} {b off len cap o n : Nat} {zs : List Nat} (h : IsBytes n₀ W (some ⟨b, off, none⟩) len cap zs) (ho : o + n ≤ len) : W.rangeAt b (off + o) (u8s ((zs.drop o).take n)) := by
  intro j v hv
  have hj : j < n := by
    rcases Nat.lt_or_ge j n with h | h
    · exact h
    · rw [List.getElem?_eq_none (by simp; omega)] at hv; cases hv
  obtain ⟨h1, _, _, _, rfl | ⟨b', off', e, hb, hc⟩⟩ := h
  · omega
  · cases e
    rw [Nat.add_assoc, hc (o + j) (by omega)]
    rw [u8s_at (by simp; omega)] at hv
    rw [← hv]
    simp [List.getElem?_drop, hj]
theorem sealN_lt {k a p : List Nat} (hp : ∀ z ∈ p, z < 256) : ∀ z ∈ sealN k a p, z < 256 := by
  intro z hz
  unfold sealN at hz
  rcases List.mem_append.1 hz with hz | hz
  · rcases List.mem_append.1 hz with hz | hz
    · exact nonceN_lt _ _ _ z hz
    · exact Re.streamN_lt _ _ _ (Re.padL_lt hp) z hz
  · exact tagN_lt _ _ _ _ z hz
/-- What the reference holds for the padded text. -/
def heldP (k zc : List Nat) : List Nat := Re.streamN (useN k 101) 1 (zc.take 12) ((zc.drop 12).take (zc.length - 44))
theorem heldP_length {k zc : List Nat} (h : 44 ≤ zc.length) : (heldP k zc).length = zc.length - 44 := by
  rw [heldP, Re.streamN_length, List.length_take, List.length_drop]
  omega

/-- What was sealed is held as it was padded. -/
theorem heldP_seal {k a p : List Nat} : heldP k (sealN k a p) = Re.padL p := by
  have hl : (sealN k a p).length = 12 + (Re.padL p).length + 32 := by
    unfold sealN turnedN
    rw [List.length_append, List.length_append, nonceN_length, tagN_length, Re.streamN_length]
  have h1 : (sealN k a p).take 12 = nonceN k a (Re.padL p) := by
    unfold sealN
    rw [List.append_assoc, List.take_append_of_le_length (by rw [nonceN_length]; omega), List.take_of_length_le (by rw [nonceN_length]; omega)]
  have h2 : ((sealN k a p).drop 12).take ((sealN k a p).length - 44) = turnedN k a p := by
    rw [hl]
    unfold sealN
    have hd : (nonceN k a (Re.padL p) ++ turnedN k a p ++ tagN k a (nonceN k a (Re.padL p)) (turnedN k a p)).drop 12 = turnedN k a p ++ tagN k a (nonceN k a (Re.padL p)) (turnedN k a p) := by
      rw [List.append_assoc]
      have h := List.drop_left (l₁ := nonceN k a (Re.padL p)) (l₂ := turnedN k a p ++ tagN k a (nonceN k a (Re.padL p)) (turnedN k a p))
      rwa [nonceN_length] at h
    rw [hd]
    have htl : (turnedN k a p).length = (Re.padL p).length := by unfold turnedN; rw [Re.streamN_length]
    rw [show 12 + (Re.padL p).length + 32 - 44 = (turnedN k a p).length by omega, List.take_left]
  unfold heldP
  rw [h1, h2]
  unfold turnedN
  rw [Re.streamN_back]

set_option maxRecDepth 100000 in
set_option maxHeartbeats 4000000 in
theorem refOpen_any (X : Nat) (vs : List Value) (k : List Nat) (hk : IsKey32 k) (pa : Option Addr) (la ca : Nat) (za : List Nat) (hla : la ≤ 1000) (b off lc cap : Nat) (zc : List Nat) (hlc : lc ≤ 8000) (h76 : 76 ≤ lc) (w : World)
    (hs : Row w X 34 (.int .i64 0 :: vs)) (hIa : IsBytes w.heap.size w pa la ca za) (hIc : IsBytes w.heap.size w (some ⟨b, off, none⟩) lc cap zc) :
    Calls Tryz.prog 8 #[.pointer (some ⟨X, 0, none⟩), .agg (u8s k).toArray, .slice pa la ca, .slice (some ⟨b, off, none⟩) lc cap] w fun e w' => ∃ v g, e = .returned (.tuple #[v, .int .i64 g]) ∧ ((Re.IsPad (heldP k zc) ∧ sealN k za (Re.toldL (heldP k zc)) = zc ∧ g = 0 ∧ Str w' v (strOf (Re.toldL (heldP k zc)))) ∨ (¬ (Re.IsPad (heldP k zc) ∧ sealN k za (Re.toldL (heldP k zc)) = zc) ∧ g = 70 ∧ Str w' v (strOf []))) ∧ Below w.heap.size w w' := by
  obtain ⟨m, rfl⟩ : ∃ m, lc = m + 32 := ⟨lc - 32, by omega⟩
  have c0 := hs.cell (i := 0) rfl
  have hXl := hs.lt
  have hcl := hIc.1
  have hcap := hIc.2.1
  have hcap2 := hIc.2.2.1
  obtain ⟨nn, hnn⟩ : ∃ nn, zc.take 12 = nn := ⟨_, rfl⟩
  obtain ⟨md, hmd⟩ : ∃ md, (zc.drop 12).take (zc.length - 44) = md := ⟨_, rfl⟩
  obtain ⟨pq, hpq⟩ : ∃ pq, heldP k zc = pq := ⟨_, rfl⟩
  have hpq2 : Re.streamN (useN k 101) 1 nn md = pq := by rw [← hpq, heldP, hnn, hmd]
  have HNl : Hid (nn.length = 12 ∧ ∀ z ∈ nn, z < 256) := by rw [← hnn]; exact ⟨by rw [List.length_take]; omega, fun z hz => hIc.2.2.2.1 z (List.mem_of_mem_take hz)⟩
  have hml : md.length = m - 12 := by rw [← hmd, List.length_take, List.length_drop]; omega
  have hmz : ∀ z ∈ md, z < 256 := by rw [← hmd]; exact fun z hz => hIc.2.2.2.1 z (List.mem_of_mem_drop (List.mem_of_mem_take hz))
  have hpl : pq.length = m - 12 := by rw [← hpq2, Re.streamN_length, hml]
  have hpz : ∀ z ∈ pq, z < 256 := by rw [← hpq2]; exact Re.streamN_lt _ _ _ hmz
  have Im : ∀ W, Below w.heap.size w W → IsBytes W.heap.size W (some ⟨b, off + 12, none⟩) (m - 12) (cap - 12) md := fun W hW => by
    have h := IsBytes.head (IsBytes.rest (o := 12) (hIc.later hW) (L := m + 20) (C := cap - 12) (q := some ⟨b, off + 12, none⟩) (by omega) (by omega) (fun _ => ⟨b, off, rfl, rfl⟩)) (k := m - 12) (c := cap - 12) (by omega) (by omega) (Nat.le_refl _)
    rw [← hmd, hcl]
    exact h
  have HSt : Hid (∀ W, Below w.heap.size w W → Calls Tryz.prog 19 #[.agg (u8s (useN k 101)).toArray, .int .u32 1, .agg (u8s nn).toArray, .slice (some ⟨b, off + 12, none⟩) (m - 12) (cap - 12)] W fun e w' => ∃ q2 c2, e = .returned (.slice q2 (m - 12) c2) ∧ IsBytes w'.heap.size w' q2 (m - 12) c2 pq ∧ Below W.heap.size W w') := fun W hW => by
    refine (Re.refStream_any (useN k 101) 1 nn (useN_key k 101) (by omega) HNl.out _ _ _ md (by omega) W (Im W hW)).mono ?_
    rintro e w' ⟨v, rfl, hO, hb⟩
    rw [hpq2] at hO
    obtain ⟨q2, c2, rfl⟩ := own_len hO hpl
    exact ⟨q2, c2, rfl, hO.bytes hpz, hb⟩
  have HUn : Hid (∀ W q c, IsBytes W.heap.size W q (m - 12) c pq → Calls Tryz.prog 21 #[.slice q (m - 12) c] W fun e w' => ∃ q2 l2 c2, e = .returned (.tuple #[.slice q2 l2 c2, .int .i64 (Re.errU pq)]) ∧ IsBytes w'.heap.size w' q2 l2 c2 (Re.textU pq) ∧ Below W.heap.size W w') := fun W q c hI => Re.unpad_bytes q _ c pq (by omega) W hI
  have HU : Hid (∀ W, Calls Tryz.prog 20 #[.agg (u8s k).toArray, .string ⟨#[101]⟩] W fun e w' => ∃ g, e = .returned (.slice (some ⟨g, 0, none⟩) 32 32) ∧ W.heap.size ≤ g ∧ Row w' g 39 (u8s (useN k 101)) ∧ Below W.heap.size W w') := fun W => sub_any k hk 101 W
  have Ia : Hid (∀ W, Below w.heap.size w W → IsBytes W.heap.size W pa la ca za) := fun W hW => hIa.later hW
  have Sc : Hid (∀ W, Below w.heap.size w W → Str W (.slice (some ⟨b, off, none⟩) (m + 32) cap) (strOf zc)) := fun W hW => str_of_bytes (hIc.later hW)
  have HNr : Hid (∀ W, Below w.heap.size w W → W.rangeAt b off (u8s nn)) := fun W hW => by
    have h := bytes_rangeR (o := 0) (n := 12) (hIc.later hW) (by omega)
    rw [List.drop_zero, hnn] at h
    exact h
  have HSe : Hid (Re.IsPad pq → ∀ W q l c, Below w.heap.size w W → IsBytes W.heap.size W q l c (Re.toldL pq) → Calls Tryz.prog 22 #[.agg (u8s k).toArray, .slice pa la ca, .slice q l c] W fun e w' => ∃ v, e = .returned v ∧ Str w' v (strOf (sealN k za (Re.toldL pq))) ∧ Below W.heap.size W w') := fun hp W q l c hW hI => by
    have htl : (Re.toldL pq).length ≤ 8000 := by rw [Re.toldL_length hp.2.1]; have := hp.2.1; omega
    have hbu := hp.bucket (by omega)
    have hI1 := hI.1
    have hwl : l = Re.wordAt pq 0 := by rw [← hI1]; exact Re.toldL_length hp.2.1
    refine (refSeal_any k hk pa la ca za hla q l c (Re.toldL pq) (by omega) (by rw [hwl, hbu]; omega) W (hIa.later hW) hI).mono ?_
    rintro e w' ⟨v, rfl, hO, hb⟩
    exact ⟨v, rfl, own_str hO, hb⟩
  have hse : ∀ hp : Re.IsPad pq, ((strOf (sealN k za (Re.toldL pq))).toList == (strOf zc).toList) = decide (sealN k za (Re.toldL pq) = zc) := fun hp => strOf_eq _ _ (sealN_lt (Re.toldL_lt hpz)) hIc.2.2.2.1
  have HKl : Hid ((u8s k).length = 32) := by show _ = _; rw [u8s_length]; exact hk.1
  have HNv : Hid ((u8s nn).length = 12) := by show _ = _; rw [u8s_length]; exact HNl.out.1
  have HUv : Hid ((u8s (useN k 101)).length = 32) := by show _ = _; rw [u8s_length]; exact (useN_key k 101).1
  obtain ⟨w0, hw0⟩ : ∃ w0, w.alloc (.cells (u8s k).toArray 23) = w0 := ⟨_, rfl⟩
  have HW0 : Hid (w.alloc (.cells (u8s k).toArray 23) = w0) := hw0
  have hb0 : Below w.heap.size w w0 := by rw [← hw0]; exact (Below.refl _ w).alloc (Nat.le_refl _) _
  have HK0 : Hid (Row w0 w.heap.size 23 (u8s k)) := by rw [← hw0]; exact Row.new' w 23 (u8s k)
  have c0' : (w.alloc (.cells (u8s k).toArray 23)).cell? ⟨X, 0, none⟩ = some (.int .i64 0) := by rw [HW0.out]; exact (hb0.cell (p := ⟨X, 0, none⟩) hXl).trans c0
  have h76i : ¬ ((m + 32 : Nat) : Int) < 76 := by omega
  have h76j : ¬ (m : Int) + 32 < 76 := by omega
  have hm12 : (12 : Int) ≤ (m : Int) := by omega
  have hmc : (m : Int) ≤ (cap : Int) := by omega
  have hmcn : m ≤ cap := by omega
  have hm12n : 12 ≤ m := by omega
  have hAt := run_arrayAt54 b off 12 cap (Nat.le_refl _)
  have hcap12 : (12 : Int) ≤ (cap : Int) := by omega
  rw [hpq]
  clear hs hw0 hIa hIc hpq hpq2 hmd hnn hmz Im c0
  go_enter Tryz.func8, Tryz.ntmps8
  go_wp2
  rw [HW0.out]
  refine wp_region_held_drew (S := fun W => Below w0.heap.size w0 W) (by kernel_rfl) (Below.refl _ _).drew (fun hHeld => ?_)
  refine wpAnyH_takesAt 0 1 14 (of_decide_eq_true (by kernel_rfl)) rfl (fun _ _ _ d _ h => by cases d <;> exact h) (by kernel_rfl) (by kernel_rfl) hHeld ?_
  simp only [List.drop_zero, List.take_succ_cons, List.take_zero]
  refine wpHeld_load (by rfl) 23 (.tmp 5) rfl w.heap.size (0) rfl (u8s k) (fun W hW => (Row.later HK0.out hW).range) Tryz.underlying23 (by rw [HKl.out]; exact size23) ?_
  (simp only [Act.put]; (try simp only [List.setIfInBounds_toArray]); (try simp only [List.set_cons_succ]); (try simp only [List.set_cons_zero]))
  refine wpHeld_nil ?_
  refine wpAnyH_takesAt 4 3 11 (of_decide_eq_true (by kernel_rfl)) rfl (fun _ _ _ d _ h => by cases d <;> exact h) (by kernel_rfl) (by kernel_rfl) hHeld ?_
  simp only [List.drop_succ_cons, List.drop_zero, List.take_succ_cons, List.take_zero]
  iterate 3 (refine wpHeld_step (v := ?_) (by rfl) (fun wz hSw => ?_) ?_; rotate_left; (focus ((try dsimp only at hSw); go_simp; try with_reducible rfl)); (simp only [Act.put, List.setIfInBounds_toArray, List.set_cons_zero, List.set_cons_succ]))
  refine wpHeld_nil ?_
  refine wpAnyH_takesAt 7 1 10 (of_decide_eq_true (by kernel_rfl)) rfl (fun _ _ _ d _ h => by cases d <;> exact h) (by kernel_rfl) (by kernel_rfl) hHeld ?_
  simp only [List.drop_succ_cons, List.drop_zero, List.take_succ_cons, List.take_zero]
  refine wpHeld_load (by rfl) 54 (.tmp 73) rfl b (off) rfl (u8s nn) (fun W hW => HNr.out W (hb0.trans (hW.mono hb0.size))) Tryz.underlying54 (by rw [HNv.out]; exact size54) ?_
  (simp only [Act.put]; (try simp only [List.setIfInBounds_toArray]); (try simp only [List.set_cons_succ]); (try simp only [List.set_cons_zero]))
  refine wpHeld_nil ?_
  refine wpAnyH_takesAt 8 5 5 (of_decide_eq_true (by kernel_rfl)) rfl (fun _ _ _ d _ h => by cases d <;> exact h) (by kernel_rfl) (by kernel_rfl) hHeld ?_
  simp only [List.drop_succ_cons, List.drop_zero, List.take_succ_cons, List.take_zero]
  iterate 2 (refine wpHeld_step (v := ?_) (by rfl) (fun wz hSw => ?_) ?_; rotate_left; (focus (clear hSw; go_simp; try with_reducible rfl)); (simp only [Act.put, List.setIfInBounds_toArray, List.set_cons_zero, List.set_cons_succ]))
  refine wpHeld_step (v := .int .i64 ((m + 32 : Nat) : Int)) (by rfl) (fun wz hSw => ?_) ?_
  · clear hSw
    go_simp
  simp only [Act.put, List.setIfInBounds_toArray, List.set_cons_zero, List.set_cons_succ]
  refine wpHeld_step (v := .int .i64 (m : Nat)) (by rfl) (fun wz hSw => ?_) ?_
  · clear hSw
    go_simp
    rw [IntKind.wrap_i64]
    omega
  simp only [Act.put, List.setIfInBounds_toArray, List.set_cons_zero, List.set_cons_succ]
  refine wpHeld_step (v := .slice (some ⟨b, off + 12, none⟩) (m - 12) (cap - 12)) (by rfl) (fun wz hSw => ?_) ?_
  · clear hSw
    go_simp
    omega
  simp only [Act.put, List.setIfInBounds_toArray, List.set_cons_zero, List.set_cons_succ]
  refine wpHeld_nil ?_
  refine wpAnyH_only (i := 1) (by kernel_rfl) rfl (fun K hK => ?_)
  rw [if_pos (by rfl)]
  go_simp
  refine (HU.out w0.drew).mono ?_
  rintro e w1 ⟨g1, rfl, hg1, hU1, hb1⟩
  have h01 : Below w0.heap.size w0 w1 := (Below.refl _ w0).drew.trans hb1
  have hB1 : Below w.heap.size w w1 := hb0.trans (h01.mono hb0.size)
  refine hK.out _ _ h01 ?_
  clear hK K hHeld
  refine wpAnyH_more (S' := fun W => Below w1.heap.size w1 W) (fun W h => h01.trans (h.mono h01.size)) _ _ _ _ ?_
  have hHeld := Below.refl w1.heap.size w1
  have hAt2 := run_arrayAt23 g1 0 32 32 (Nat.le_refl _)
  refine wpAnyH_takesAt 2 1 3 (of_decide_eq_true (by kernel_rfl)) rfl (fun _ _ _ d _ h => by cases d <;> exact h) (by kernel_rfl) (by kernel_rfl) hHeld ?_
  simp only [List.drop_succ_cons, List.drop_zero, List.take_succ_cons, List.take_zero]
  iterate 1 (refine wpHeld_step (v := ?_) (by rfl) (fun wz hSw => ?_) ?_; rotate_left; (focus ((try dsimp only at hSw); go_simp; try with_reducible rfl)); ((simp only [Act.put]; (try simp only [List.setIfInBounds_toArray]); (try simp only [List.set_cons_succ]); (try simp only [List.set_cons_zero]))))
  refine wpHeld_nil ?_
  refine wpAnyH_takesAt 3 1 2 (of_decide_eq_true (by kernel_rfl)) rfl (fun _ _ _ d _ h => by cases d <;> exact h) (by kernel_rfl) (by kernel_rfl) hHeld ?_
  simp only [List.drop_succ_cons, List.drop_zero, List.take_succ_cons, List.take_zero]
  refine wpHeld_load (by rfl) 23 (.tmp 69) rfl g1 (0) rfl (u8s (useN k 101)) (fun W hW => (Row.later hU1 hW).range) Tryz.underlying23 (by rw [HUv.out]; exact size23) ?_
  (simp only [Act.put]; (try simp only [List.setIfInBounds_toArray]); (try simp only [List.set_cons_succ]); (try simp only [List.set_cons_zero]))
  refine wpHeld_nil ?_
  refine wpAnyH_only (i := 13) (by kernel_rfl) rfl (fun K hK => ?_)
  rw [if_pos (by rfl)]
  go_simp
  refine (HSt.out w1 hB1).mono ?_
  rintro e w2 ⟨q2, k2, rfl, hI2, hb2⟩
  have hB2 : Below w.heap.size w w2 := hB1.trans (hb2.mono hB1.size)
  have HI2 : Hid (IsBytes w2.heap.size w2 q2 (m - 12) k2 pq) := hI2
  have HK2 : Hid (Row w2 w.heap.size 23 (u8s k)) := Row.later HK0.out (h01.trans (hb2.mono h01.size))
  refine hK.out _ _ hb2 ?_
  clear hK K hHeld
  have hHeld := hb2
  refine wpAnyH_takesAt 14 1 0 (of_decide_eq_true (by kernel_rfl)) rfl (fun _ _ _ d _ h => by cases d <;> exact h) (by kernel_rfl) (by kernel_rfl) hHeld ?_
  simp only [List.drop_succ_cons, List.drop_zero, List.take_succ_cons, List.take_zero]
  iterate 1 (refine wpHeld_step (v := ?_) (by rfl) (fun wz hSw => ?_) ?_; rotate_left; (focus ((try dsimp only at hSw); go_simp; try with_reducible rfl)); ((simp only [Act.put]; (try simp only [List.setIfInBounds_toArray]); (try simp only [List.set_cons_succ]); (try simp only [List.set_cons_zero]))))
  refine wpHeld_nil ?_
  refine wpAnyH_done (by kernel_rfl) ?_ _
  clear hHeld hb2 hI2 hU1 hb1 h01 hB1 hg1 hAt hAt2 HK0 hb0 HU HSt HNr
  by_cases hp : Re.IsPad pq
  · have HUn' : Hid (∀ W q c, IsBytes W.heap.size W q (m - 12) c pq → Calls Tryz.prog 21 #[.slice q (m - 12) c] W fun e w' => ∃ q2 l2 c2, e = .returned (.tuple #[.slice q2 l2 c2, .int .i64 0]) ∧ IsBytes w'.heap.size w' q2 l2 c2 (Re.toldL pq) ∧ Below W.heap.size W w') := fun W q c hI => by
      have h := HUn.out W q c hI
      rw [Re.errU_pos hp, Re.textU_pos hp] at h
      exact h
    have HSe' := HSe.out hp
    have hse' := hse hp
    generalize hts : Re.toldL pq = ts at *
    have HTs : Hid (Re.toldL pq = ts) := hts
    clear hts
    go_wp2_with (go_at_call 21; refine (HUn'.out w2 q2 k2 HI2.out).mono ?_; rintro e w3 ⟨q3, l3, k3, rfl, hI3, hb3⟩; have hB3 : Below w.heap.size w w3 := hB2.trans (hb3.mono hB2.size); have HI3 : Hid (IsBytes w3.heap.size w3 q3 l3 k3 ts) := hI3; have HK3 : Hid (Row w3 w.heap.size 23 (u8s k)) := Row.later HK2.out hb3; clear hI3 hb3 hB2 HK2 HI2)
    refine wp_region_held_drew (S := fun W => Below w3.heap.size w3 W) (by kernel_rfl) (Below.refl _ _).drew (fun hHeld => ?_)
    refine wpAnyH_takesAt 0 3 9 (of_decide_eq_true (by kernel_rfl)) rfl (fun _ _ _ d _ h => by cases d <;> exact h) (by kernel_rfl) (by kernel_rfl) hHeld ?_
    simp only [List.drop_zero, List.take_succ_cons, List.take_zero]
    iterate 3 (refine wpHeld_step (v := ?_) (by rfl) (fun wz hSw => ?_) ?_; rotate_left; (focus ((try dsimp only at hSw); go_simp; try with_reducible rfl)); (simp only [Act.put, List.setIfInBounds_toArray, List.set_cons_zero, List.set_cons_succ]))
    refine wpHeld_nil ?_
    refine wpAnyH_takesAt 3 1 8 (of_decide_eq_true (by kernel_rfl)) rfl (fun _ _ _ d _ h => by cases d <;> exact h) (by kernel_rfl) (by kernel_rfl) hHeld ?_
    simp only [List.drop_succ_cons, List.drop_zero, List.take_succ_cons, List.take_zero]
    refine wpHeld_load (by rfl) 23 (.tmp 5) rfl w.heap.size (0) rfl (u8s k) (fun W hW => (Row.later HK3.out hW).range) Tryz.underlying23 (by rw [HKl.out]; exact size23) ?_
    (simp only [Act.put]; (try simp only [List.setIfInBounds_toArray]); (try simp only [List.set_cons_succ]); (try simp only [List.set_cons_zero]))
    refine wpHeld_nil ?_
    refine wpAnyH_takesAt 4 2 6 (of_decide_eq_true (by kernel_rfl)) rfl (fun _ _ _ d _ h => by cases d <;> exact h) (by kernel_rfl) (by kernel_rfl) hHeld ?_
    simp only [List.drop_succ_cons, List.drop_zero, List.take_succ_cons, List.take_zero]
    iterate 2 (refine wpHeld_step (v := ?_) (by rfl) (fun wz hSw => ?_) ?_; rotate_left; (focus ((try dsimp only at hSw); go_simp; try with_reducible rfl)); (simp only [Act.put, List.setIfInBounds_toArray, List.set_cons_zero, List.set_cons_succ]))
    refine wpHeld_nil ?_
    refine wpAnyH_takesAt 8 2 4 (of_decide_eq_true (by kernel_rfl)) rfl (fun _ _ _ d _ h => by cases d <;> exact h) (by kernel_rfl) (by kernel_rfl) hHeld ?_
    simp only [List.drop_succ_cons, List.drop_zero, List.take_succ_cons, List.take_zero]
    iterate 2 (refine wpHeld_step (v := ?_) (by rfl) (fun wz hSw => ?_) ?_; rotate_left; (focus (have hcv := (Sc.out wz (hB3.trans (hSw.mono hB3.size))).here; go_simp; try with_reducible rfl)); (simp only [Act.put, List.setIfInBounds_toArray, List.set_cons_zero, List.set_cons_succ]))
    refine wpHeld_nil ?_
    refine wpAnyH_only (i := 6) (by kernel_rfl) rfl (fun K hK => ?_)
    rw [if_pos (by rfl)]
    go_simp
    have hd3 : Below w3.heap.size w3 w3.drew := (Below.refl _ w3).drew
    refine (HSe' w3.drew q3 l3 k3 (hB3.trans (hd3.mono hB3.size)) (HI3.out.later hd3)).mono ?_
    rintro e w4 ⟨v4, rfl, hs4, hb4⟩
    have h34 : Below w3.heap.size w3 w4 := hd3.trans hb4
    have hB4 : Below w.heap.size w w4 := hB3.trans (h34.mono hB3.size)
    refine hK.out _ _ h34 ?_
    clear hK K hHeld
    refine wpAnyH_more (S' := fun W => Below w4.heap.size w4 W) (fun W h => h34.trans (h.mono h34.size)) _ _ _ _ ?_
    have hHeld := Below.refl w4.heap.size w4
    refine wpAnyH_takesAt 7 1 2 (of_decide_eq_true (by kernel_rfl)) rfl (fun _ _ _ d _ h => by cases d <;> exact h) (by kernel_rfl) (by kernel_rfl) hHeld ?_
    simp only [List.drop_succ_cons, List.drop_zero, List.take_succ_cons, List.take_zero]
    iterate 1 (refine wpHeld_step (v := ?_) (by rfl) (fun wz hSw => ?_) ?_; rotate_left; (focus (have hcv := hs4 wz hSw; go_simp; try with_reducible rfl)); ((simp only [Act.put]; (try simp only [List.setIfInBounds_toArray]); (try simp only [List.set_cons_succ]); (try simp only [List.set_cons_zero]))))
    refine wpHeld_nil ?_
    by_cases he : sealN k za ts = zc
    · rw [decide_eq_true he] at hse'
      refine wpAnyH_takesAt 10 2 0 (of_decide_eq_true (by kernel_rfl)) rfl (fun _ _ _ d _ h => by cases d <;> exact h) (by kernel_rfl) (by kernel_rfl) hHeld ?_
      simp only [List.drop_succ_cons, List.drop_zero, List.take_succ_cons, List.take_zero]
      iterate 2 (refine wpHeld_step (v := ?_) (by rfl) (fun wz hSw => ?_) ?_; rotate_left; (focus ((try dsimp only at hSw); go_simp; try with_reducible rfl)); (simp only [Act.put, List.setIfInBounds_toArray, List.set_cons_zero, List.set_cons_succ]))
      refine wpHeld_nil ?_
      refine wpAnyH_done (by kernel_rfl) ?_ _
      go_wp2
      refine bodyPost_ret (results_tmp2 rfl _ _ _) rfl ?_
      exact ⟨_, _, rfl, .inl ⟨hp, by rw [HTs.out]; exact he, rfl, by rw [HTs.out]; exact str_of_bytes (HI3.out.later h34)⟩, hB4⟩
    · rw [decide_eq_false he] at hse'
      refine wpAnyH_takesAt 10 2 0 (of_decide_eq_true (by kernel_rfl)) rfl (fun _ _ _ d _ h => by cases d <;> exact h) (by kernel_rfl) (by kernel_rfl) hHeld ?_
      simp only [List.drop_succ_cons, List.drop_zero, List.take_succ_cons, List.take_zero]
      iterate 2 (refine wpHeld_step (v := ?_) (by rfl) (fun wz hSw => ?_) ?_; rotate_left; (focus ((try dsimp only at hSw); go_simp; try with_reducible rfl)); (simp only [Act.put, List.setIfInBounds_toArray, List.set_cons_zero, List.set_cons_succ]))
      refine wpHeld_nil ?_
      refine wpAnyH_done (by kernel_rfl) ?_ _
      go_wp2
      refine bodyPost_ret (results_tmp2 rfl _ _ _) rfl ?_
      exact ⟨_, _, rfl, .inr ⟨fun h => he (by rw [← HTs.out]; exact h.2), rfl, str_none _ _ _⟩, hB4⟩
  · have HUn' : Hid (∀ W q c, IsBytes W.heap.size W q (m - 12) c pq → Calls Tryz.prog 21 #[.slice q (m - 12) c] W fun e w' => ∃ q2 l2 c2, e = .returned (.tuple #[.slice q2 l2 c2, .int .i64 50]) ∧ Below W.heap.size W w') := fun W q c hI => by
      have h := HUn.out W q c hI
      rw [Re.errU_neg hp] at h
      exact h.mono fun e w' ⟨q2, l2, c2, h1, _, h2⟩ => ⟨q2, l2, c2, h1, h2⟩
    go_wp2_with (go_at_call 21; refine (HUn'.out w2 q2 k2 HI2.out).mono ?_; rintro e w3 ⟨q3, l3, k3, rfl, hb3⟩; have hB3 : Below w.heap.size w w3 := hB2.trans (hb3.mono hB2.size); clear hb3 hB2 HK2 HI2)
    refine wp_region_held_drew (S := fun W => Below w3.heap.size w3 W) (by kernel_rfl) (Below.refl _ _).drew (fun hHeld => ?_)
    refine wpAnyH_takesAt 0 3 9 (of_decide_eq_true (by kernel_rfl)) rfl (fun _ _ _ d _ h => by cases d <;> exact h) (by kernel_rfl) (by kernel_rfl) hHeld ?_
    simp only [List.drop_zero, List.take_succ_cons, List.take_zero]
    iterate 3 (refine wpHeld_step (v := ?_) (by rfl) (fun wz hSw => ?_) ?_; rotate_left; (focus ((try dsimp only at hSw); go_simp; try with_reducible rfl)); (simp only [Act.put, List.setIfInBounds_toArray, List.set_cons_zero, List.set_cons_succ]))
    refine wpHeld_nil ?_
    refine wpAnyH_takesAt 3 9 0 (of_decide_eq_true (by kernel_rfl)) rfl (fun _ _ _ d _ h => by cases d <;> exact h) (by kernel_rfl) (by kernel_rfl) hHeld ?_
    simp only [List.drop_succ_cons, List.drop_zero, List.take_succ_cons, List.take_zero]
    iterate 8 (refine wpHeld_skip (by rfl) ?_; simp only [Act.put, List.setIfInBounds_toArray, List.set_cons_zero, List.set_cons_succ])
    iterate 1 (refine wpHeld_step (v := ?_) (by rfl) (fun wz hSw => ?_) ?_; rotate_left; (focus ((try dsimp only at hSw); go_simp; try with_reducible rfl)); (simp only [Act.put, List.setIfInBounds_toArray, List.set_cons_zero, List.set_cons_succ]))
    refine wpHeld_nil ?_
    refine wpAnyH_done (by kernel_rfl) ?_ _
    go_wp2
    refine bodyPost_ret (results_tmp2 rfl _ _ _) rfl ?_
    exact ⟨_, _, rfl, .inr ⟨fun h => hp h.1, rfl, str_none _ _ _⟩, hB3.trans ((Below.refl _ w3).drew.mono hB3.size)⟩
end Go.Proofs.YtclelancbfoenaaGreatDoor
