/-
  realOpen of what realSeal answered: the text.
-/
import Derived.Test.YtclelancbfoenaaGreatDoorRSeal
namespace Go.Proofs.YtclelancbfoenaaGreatDoor
open Go.RowKit Go.Shelf

theorem own_later {A B : World} {n₀ : Nat} {v : Value} {zs : List Nat} (h : Own n₀ A v zs) (hb : Below A.heap.size A B) : Own n₀ B v zs := h.later hb

namespace Re
/-- Of, of a padded text. -/
theorem of_padL (p : Option Addr) (cap : Nat) (zs : List Nat) (hl : zs.length ≤ 60000) (hlen : (padL zs).length ≤ 60000) (w : World) (hI : IsBytes w.heap.size w p (padL zs).length cap (padL zs)) :
    Calls Tryz.prog 39 #[.slice p (padL zs).length cap] w fun e w' => ∃ v, e = .returned (.tuple #[v, .int .i64 0]) ∧ Own w.heap.size w' v zs ∧ Below w.heap.size w w' := by
  obtain ⟨hp, ht⟩ := isPad_padL (zs := zs) (by omega)
  obtain ⟨cs, hcs0⟩ : ∃ cs, padL zs = cs := ⟨_, rfl⟩
  rw [hcs0] at hp ht hI hlen ⊢
  have hb := hp.bucket (by omega)
  obtain ⟨len, hlenE⟩ : ∃ len, cs.length = len := ⟨_, rfl⟩
  rw [hlenE] at hI hlen hb ⊢
  have h4 : 4 ≤ len := by rw [← hlenE]; exact hp.1
  obtain ⟨hn1, hn2⟩ := fits_of_bucket hb h4
  have hcl := hI.1
  have hT : (toldL cs).length = wordAt cs 0 := toldL_length (by omega)
  have hTz : ∀ z ∈ toldL cs, z < 256 := toldL_lt hI.2.2.2.1
  have h32 : 4 < len := by
    have := bucketN_pos (z := (wordAt cs 0 : Int)) (by omega) (by omega)
    omega
  obtain ⟨b, off, rfl, hbb, hcs⟩ : ∃ b off, p = some ⟨b, off, none⟩ ∧ b < w.heap.size ∧ ∀ i, i < len → w.cell? ⟨b, off + i, none⟩ = some (.int .u8 (cs.getD i 0 : Nat)) := by
    rcases hI.2.2.2.2 with h | h
    · omega
    · exact h
  refine (of_core b off len cap (wordAt cs 0) (toldL cs) (padL (toldL cs)) true w hn2 h32 hlen hI.2.1 hI.2.2.1 hT hTz ?_ ?_ ?_ ?_).mono ?_
  · intro W hW j v hv
    have hj : j < (toldL cs).length := by
      rcases Nat.lt_or_ge j (toldL cs).length with h | h
      · exact h
      · rw [List.getElem?_eq_none (by simpa using h)] at hv; cases hv
    rw [u8s_at hj] at hv
    cases hv
    have hj' : j < wordAt cs 0 := by rw [← hT]; exact hj
    rw [Addr.add_mid, hW.cell (p := ⟨b, off + 4 + j, none⟩) hbb, show off + 4 + j = off + (4 + j) by omega, hcs (4 + j) (by omega)]
    simp [toldL, hj']
  · have h := lengthOf_some _ len cap cs h4 w hI
    rw [decide_eq_true hb] at h
    exact h
  · intro g W h
    have h := put_some _ _ _ _ hn1 W h
    rw [hb] at h
    exact h
  · intro n₀ g W hW ho
    have h := equal_any _ _ _ _ _ _ _ _ W hlen hlen (ho.bytes (padL_lt hTz)) ((hI.below hW).mono hW.size)
    rw [decide_eq_true hp.2.2] at h
    exact h
  · rintro e w' ⟨v, rfl, h1, h2, hbel⟩
    refine ⟨v, rfl, ?_, hbel⟩
    have := h1 rfl
    rw [ht] at this
    exact this
end Re

/-- A part of bytes. -/
theorem part_bytes {W : World} {n₀ b off len cap : Nat} {zs : List Nat} (h : IsBytes n₀ W (some ⟨b, off, none⟩) len cap zs) (hl0 : 0 < len) {i l c : Nat} (hil : i + l ≤ len) (hc : l ≤ c) (hc2 : c ≤ cap) {ys : List Nat} (hy : (zs.drop i).take l = ys) : IsBytes n₀ W (some ⟨b, off + i, none⟩) l c ys := by
  obtain ⟨h1, h2, h3, h4, h5⟩ := h
  subst hy
  refine ⟨by simp; omega, hc, by omega, fun z hz => h4 z (List.mem_of_mem_drop (List.mem_of_mem_take hz)), .inr ?_⟩
  rcases h5 with h5 | ⟨b', off', e, hb, hcs⟩
  · omega
  · cases e
    refine ⟨b, off + i, rfl, hb, fun j hj => ?_⟩
    rw [Nat.add_assoc, hcs (i + j) (by omega)]
    congr 2
    simp [List.getD_eq_getElem?_getD, List.getElem?_drop, hj]

set_option maxRecDepth 100000 in
set_option maxHeartbeats 2000000 in
theorem realOpen_any (k : List Nat) (hk : IsKey32 k) (pa : Option Addr) (la ca : Nat) (za : List Nat) (hla : la ≤ 10000) (zp : List Nat) (hlp : zp.length ≤ 20000) (hzp : ∀ z ∈ zp, z < 256) (hbk : bucketN (zp.length : Int) ≤ 30000) (b off lc cap : Nat) (w : World) (hT : Sh.Tab w) (hTr : Re.Tab w)
    (hIa : IsBytes w.heap.size w pa la ca za) (hIc : IsBytes w.heap.size w (some ⟨b, off, none⟩) lc cap (sealN k za zp)) :
    Calls Tryz.prog 18 #[.agg (u8s k).toArray, .slice pa la ca, .slice (some ⟨b, off, none⟩) lc cap] w fun e w' => ∃ v, e = .returned (.tuple #[v, .int .i64 0]) ∧ Own w.heap.size w' v zp ∧ Below w.heap.size w w' := by
  obtain ⟨bN, hbN⟩ : ∃ bN, bucketN (zp.length : Int) = bN := ⟨_, rfl⟩
  obtain ⟨zq, hzq⟩ : ∃ zq, Re.padL zp = zq := ⟨_, rfl⟩
  have HQl : Hid (zq.length = bN) := by show _ = _; rw [← hzq, ← hbN]; exact Re.padL_length (by omega)
  have HQz : Hid (∀ z ∈ zq, z < 256) := by rw [← hzq]; exact Re.padL_lt hzp
  have hSeal : sealN k za zp = nonceN k za zq ++ Re.streamN (useN k 101) 1 (nonceN k za zq) zq ++ tagN k za (nonceN k za zq) (Re.streamN (useN k 101) 1 (nonceN k za zq) zq) := by unfold sealN turnedN; rw [hzq]
  obtain ⟨nn, hnn⟩ : ∃ nn, nonceN k za zq = nn := ⟨_, rfl⟩
  have HNl : Hid (nn.length = 12 ∧ ∀ z ∈ nn, z < 256) := by rw [← hnn]; exact ⟨nonceN_length _ _ _, nonceN_lt _ _ _⟩
  obtain ⟨cc, hcc⟩ : ∃ cc, Re.streamN (useN k 101) 1 nn zq = cc := ⟨_, rfl⟩
  have HCl : Hid (cc.length = bN ∧ ∀ z ∈ cc, z < 256) := by rw [← hcc]; exact ⟨by rw [Re.streamN_length]; exact HQl.out, Re.streamN_lt _ _ _ HQz.out⟩
  obtain ⟨tt, htt⟩ : ∃ tt, tagN k za nn cc = tt := ⟨_, rfl⟩
  have HTl : Hid (tt.length = 32 ∧ ∀ z ∈ tt, z < 256) := by rw [← htt]; exact ⟨tagN_length _ _ _ _, tagN_lt _ _ _ _⟩
  rw [hnn, hcc, htt] at hSeal
  have hlc : lc = 44 + bN := by
    have := hIc.1
    rw [hSeal] at this
    have e1 := HNl.out.1
    have e2 := HCl.out.1
    have e3 := HTl.out.1
    simp at this
    omega
  have hbp : 32 ≤ bN := by rw [← hbN]; exact (bucketN_pos (by omega) (by omega)).2.1
  obtain ⟨tA, htA⟩ : ∃ tA, 12 + bN = tA := ⟨_, rfl⟩
  have HtA : Hid (12 + bN = tA ∧ tA + 32 = lc) := ⟨htA, by omega⟩
  have hcap := hIc.2.1
  have hcap2 := hIc.2.2.1
  have e1 : IntKind.i64.wrap ((lc : Int) - 32) = (tA : Int) := by rw [IntKind.wrap_i64]; omega
  have q1 : (12 : Int) ≤ (tA : Int) := by omega
  have q2 : (tA : Int) ≤ (cap : Int) := by omega
  have q3 : (cap = 12) = False := by simp; omega
  have q4 : (tA : Int) ≤ (lc : Int) := by omega
  have q5 : (cap = tA) = False := by simp; omega
  have IN : Hid (∀ W, Below w.heap.size w W → IsBytes W.heap.size W (some ⟨b, off + 12, none⟩) bN (cap - 12) cc) := fun W hW => part_bytes (hIc.later hW) (by omega) (i := 12) (l := bN) (by omega) (by omega) (by omega) (by rw [hSeal]; rw [List.append_assoc, List.drop_append_of_le_length (by rw [HNl.out.1]; omega), List.drop_of_length_le (by rw [HNl.out.1]; omega), List.nil_append, List.take_append_of_le_length (by rw [HCl.out.1]; omega), List.take_of_length_le (by rw [HCl.out.1]; omega)])
  have IT : Hid (∀ W, Below w.heap.size w W → IsBytes W.heap.size W (some ⟨b, off + tA, none⟩) 32 (cap - tA) tt) := fun W hW => part_bytes (hIc.later hW) (by omega) (i := tA) (l := 32) (by omega) (by omega) (by omega) (by rw [hSeal]; rw [List.drop_append_of_le_length (by rw [List.length_append, HNl.out.1, HCl.out.1]; omega), List.drop_of_length_le (by rw [List.length_append, HNl.out.1, HCl.out.1]; omega), List.nil_append, List.take_of_length_le (by rw [HTl.out.1]; omega)])
  have HNr : Hid (∀ W, Below w.heap.size w W → W.rangeAt b off (u8s nn)) := fun W hW j v hv => by
    have hj : j < nn.length := by
      rcases Nat.lt_or_ge j nn.length with h | h
      · exact h
      · rw [List.getElem?_eq_none (by simpa using h)] at hv; cases hv
    rw [u8s_at hj] at hv
    cases hv
    obtain ⟨_, _, _, _, h5⟩ := hIc.later hW
    rcases h5 with h5 | ⟨b', off', e, hb, hcs⟩
    · omega
    · cases e
      have hl := HNl.out.1
      rw [hcs j (by omega), hSeal]
      congr 2
      simp [List.getD_eq_getElem?_getD, List.getElem?_append, hj]
  have HLen : Hid (∀ W, Calls Tryz.prog 37 #[.int .i64 (lc : Nat)] W fun e w' => e = .returned (.bool true) ∧ Below W.heap.size W w') := fun W => by
    have h := sealedLen_any zp.length (by omega) W
    rw [hbN, ← hlc] at h
    exact h
  have HUs : Hid (∀ W, Below w.heap.size w W → Calls Tryz.prog 34 #[.agg (u8s k).toArray, .int .u8 101] W fun e w' => e = .returned (.agg (u8s (useN k 101)).toArray) ∧ Below W.heap.size W w') := fun W hW => useKey_any k hk 101 (by omega) W (hT.later hW)
  have HSt : Hid (∀ W, Below w.heap.size w W → Calls Tryz.prog 33 #[.agg (u8s (useN k 101)).toArray, .int .u32 1, .agg (u8s nn).toArray, .slice (some ⟨b, off + 12, none⟩) bN (cap - 12)] W fun e w' => ∃ g', e = .returned (.slice (some ⟨g', 0, none⟩) bN bN) ∧ IsBytes w'.heap.size w' (some ⟨g', 0, none⟩) bN bN zq ∧ Below W.heap.size W w') := fun W hW => by
    have h := Re.stream_any (useN k 101) 1 nn (useN_key k 101) (by omega) HNl.out (some ⟨b, off + 12, none⟩) bN (cap - 12) cc (by omega) W (hTr.later hW) (IN.out W hW)
    rw [← hcc, Re.streamN_back] at h
    exact h.mono fun e w' ⟨g', h1, _, h3, h4⟩ => ⟨g', h1, bytes_of_box h3 HQl.out (by omega) HQz.out, h4⟩
  have HTa : Hid (∀ W, Below w.heap.size w W → Calls Tryz.prog 35 #[.agg (u8s k).toArray, .slice pa la ca, .agg (u8s nn).toArray, .slice (some ⟨b, off + 12, none⟩) bN (cap - 12)] W fun e w' => e = .returned (.agg (u8s tt).toArray) ∧ Below W.heap.size W w') := fun W hW => by
    have h := tagOf_any k hk pa la ca za hla nn HNl.out.1 HNl.out.2 (some ⟨b, off + 12, none⟩) bN (cap - 12) cc (by omega) W (hT.later hW) (hIa.later hW) (IN.out W hW)
    rw [htt] at h
    exact h
  have HOf : Hid (∀ W g, Below w.heap.size w W → IsBytes W.heap.size W (some ⟨g, 0, none⟩) bN bN zq → Calls Tryz.prog 39 #[.slice (some ⟨g, 0, none⟩) bN bN] W fun e w' => ∃ v, e = .returned (.tuple #[v, .int .i64 0]) ∧ Own W.heap.size w' v zp ∧ Below W.heap.size W w') := fun W g hW hI => by
    have hl : (Re.padL zp).length = bN := by rw [hzq]; exact HQl.out
    have h := Re.of_padL (some ⟨g, 0, none⟩) bN zp (by omega) (by omega) W (by rw [hl, hzq]; exact hI)
    rw [hl] at h
    exact h
  have HSe : Hid (∀ W q c, Below w.heap.size w W → IsBytes W.heap.size W q zp.length c zp → Calls Tryz.prog 16 #[.agg (u8s k).toArray, .slice pa la ca, .slice q zp.length c] W fun e w' => ∃ v, e = .returned (.tuple #[v, .int .i64 0]) ∧ Own W.heap.size w' v (sealN k za zp) ∧ Below W.heap.size W w') := fun W q c hW hI =>
    realSeal_any k hk pa la ca za hla q zp.length c zp (by omega) (by rw [hbN]; omega) W (hT.later hW) (hTr.later hW) (hIa.later hW) hI
  have HEq : Hid (∀ W v n₀, Below w.heap.size w W → Own n₀ W v (sealN k za zp) → Calls Tryz.prog 38 #[v, .slice (some ⟨b, off, none⟩) lc cap] W fun e w' => e = .returned (.bool true) ∧ Below W.heap.size W w') := fun W v n₀ hW hO => by
    obtain ⟨q, c, rfl⟩ := own_len hO hIc.1
    have h := Re.equal_any q (some ⟨b, off, none⟩) c cap lc lc (sealN k za zp) (sealN k za zp) W (by omega) (by omega) (hO.bytes hIc.2.2.2.1) (hIc.later hW)
    rw [decide_eq_true rfl] at h
    exact h
  have HEt : Hid (∀ W bt, Below w.heap.size w W → Row W bt 39 (u8s tt) → Calls Tryz.prog 38 #[.slice (some ⟨bt, 0, none⟩) 32 32, .slice (some ⟨b, off + tA, none⟩) 32 (cap - tA)] W fun e w' => e = .returned (.bool true) ∧ Below W.heap.size W w') := fun W bt hW hR => by
    have h := Re.equal_any (some ⟨bt, 0, none⟩) (some ⟨b, off + tA, none⟩) 32 (cap - tA) 32 32 tt tt W (by omega) (by omega) (bytes_of_box hR HTl.out.1 (by omega) HTl.out.2) (IT.out W hW)
    rw [decide_eq_true rfl] at h
    exact h
  obtain ⟨w0, hw0⟩ : ∃ w0, w.alloc (.cells (u8s k).toArray 23) = w0 := ⟨_, rfl⟩
  have HW0 : Hid (w.alloc (.cells (u8s k).toArray 23) = w0) := hw0
  have hb0 : Below w.heap.size w w0 := by rw [← hw0]; exact (Below.refl _ w).alloc (Nat.le_refl _) _
  have HK0 : Hid (Row w0 w.heap.size 23 (u8s k)) := by rw [← hw0]; exact Row.new' w 23 (u8s k)
  have HKl : Hid ((u8s k).length = 32) := by show _ = _; rw [u8s_length, hk.1]
  have HNv : Hid ((u8s nn).length = 12) := by show _ = _; rw [u8s_length, HNl.out.1]
  have HNv1 : Hid (∀ v ∈ u8s nn, v.oneCell' = true) := u8s_one _
  have HTv : Hid ((u8s tt).length = 32) := by show _ = _; rw [u8s_length, HTl.out.1]
  have HTv1 : Hid (∀ v ∈ u8s tt, v.oneCell' = true) := u8s_one _
  have hAt := run_arrayAt54 b off lc cap (by omega)
  have HLC : Hid (lc = 44 + bN) := hlc
  have hlc2 : lc ≤ 60000 := by omega
  clear hw0 hSeal hnn hcc htt hzq hbN hIa hIc htA hlc hbk
  go_enter Tryz.func18, Tryz.ntmps18
  go_wp2_with (first
    | (go_at_call 37; rw [HW0.out]; refine (HLen.out _).mono ?_; rintro e w1 ⟨rfl, hb1⟩; have hB1 : Below w.heap.size w w1 := hb0.trans (hb1.mono hb0.size); have HK1 : Hid (Row w1 w.heap.size 23 (u8s k)) := Row.later HK0.out hb1; clear hb1)
    | ((with_reducible show wpList _ _ _ (Oper.mk (some 23) _ _ _ _ _ :: _) _ _); refine wpList_load_mid rfl 54 (.tmp 22) rfl b off rfl (u8s nn) _ (HNr.out _ hB1) Tryz.underlying54 rfl (by rw [HNv.out]; exact size54) ?_; simp only [Act.put, List.setIfInBounds_toArray, List.set_cons_zero, List.set_cons_succ])
    | ((with_reducible show wpList _ _ _ (Oper.mk _ (Op.store 54 (.tmp 8) (.tmp 23)) _ _ _ _ :: _) _ _); change wpList _ _ _ _ _ (w1.alloc (.cells noNonce.toArray 54)); refine wpList_store_Row rfl 54 (.tmp 8) (.tmp 23) rfl (u8s nn) rfl rfl (Row.new' _ _ _) (by rw [HNv.out]; exact size54) (by rw [HNv.out]; rfl) HNv1.out ?_; simp only [Act.put]))
  obtain ⟨w3, hw3⟩ : ∃ w3, (w1.alloc (.cells noNonce.toArray 54)).setCells w1.heap.size 0 (u8s nn) = w3 := ⟨_, rfl⟩
  have hb3 : Below w1.heap.size w1 w3 := by rw [← hw3]; exact below_setCells (Nat.le_refl _) _ _ ((Below.refl _ w1).alloc (Nat.le_refl _) _)
  have hn3 : Row w3 w1.heap.size 54 (u8s nn) := by rw [← hw3]; exact Row.sets_all (Row.new' _ _ _) (by rw [HNv.out]; rfl)
  rw [hw3]
  have HN3 : Hid (Row w3 w1.heap.size 54 (u8s nn)) := hn3
  have HK3 : Hid (Row w3 w.heap.size 23 (u8s k)) := Row.later HK1.out hb3
  have hB3 : Below w.heap.size w w3 := hB1.trans (hb3.mono hB1.size)
  generalize w1.heap.size = bn at *
  clear hw3 hn3 HK1 hB1 hb3
  refine wp_region_noPanic ?_
  refine wp_region_held_drew (S := fun _ => True) (by kernel_rfl) trivial (fun hHeld => ?_)
  refine wpAnyH_takesAt 0 8 0 (of_decide_eq_true (by kernel_rfl)) rfl (fun _ _ _ _ _ h => h) (by kernel_rfl) (by kernel_rfl) hHeld ?_
  simp only [List.drop_zero, List.take_succ_cons, List.take_zero]
  iterate 8 (refine wpHeld_step (v := ?_) (by rfl) (fun wz hSw => ?_) ?_; rotate_left; (focus ((try dsimp only at hSw); go_simp; try with_reducible rfl)); (simp only [Act.put, List.setIfInBounds_toArray, List.set_cons_zero, List.set_cons_succ]))
  refine wpHeld_nil ?_
  refine wpAnyH_done (by kernel_rfl) ?_ _
  refine NoPanic.normal ?_
  clear hHeld
  rw [show tA - 12 = bN by have := HtA.out; omega, show lc - tA = 32 by have := HtA.out; omega]
  have HN4 : Hid (Row w3.drew bn 54 (u8s nn)) := HN3.out
  have HK4 : Hid (Row w3.drew w.heap.size 23 (u8s k)) := HK3.out
  have hB4 : Below w.heap.size w w3.drew := below_drewN hB3 1
  generalize w3.drew = w4 at *
  clear HN3 HK3 hB3 q1 q2 q3 q4 q5 e1 hAt
  go_wp2_with (first
    | ((with_reducible show wpList _ _ _ (Oper.mk (some 33) _ _ _ _ _ :: _) _ _); refine wpList_load_Row rfl 23 (.tmp 3) rfl rfl HK4.out Tryz.underlying23 (by rw [HKl.out]; exact size23) ?_; simp only [Act.put, List.setIfInBounds_toArray, List.set_cons_zero, List.set_cons_succ])
    | ((with_reducible show wpList _ _ _ (Oper.mk (some 35) _ _ _ _ _ :: _) _ _); refine wpList_load_Row rfl 54 (.tmp 8) rfl rfl HN4.out Tryz.underlying54 (by rw [HNv.out]; exact size54) ?_; simp only [Act.put, List.setIfInBounds_toArray, List.set_cons_zero, List.set_cons_succ])
    | (go_at_call 35; refine (HTa.out _ hB4).mono ?_; rintro e w5 ⟨rfl, hb5⟩; have HN5 : Hid (Row w5 bn 54 (u8s nn)) := Row.later HN4.out hb5; have HK5 : Hid (Row w5 w.heap.size 23 (u8s k)) := Row.later HK4.out hb5; have hB5 : Below w.heap.size w w5 := hB4.trans (hb5.mono hB4.size); clear hb5)
    | ((with_reducible show wpList _ _ _ (Oper.mk _ (Op.store 39 (.tmp 12) (.tmp 37)) _ _ _ _ :: _) _ _); change wpList _ _ _ _ _ (w5.alloc (.cells noKey.toArray 39)); refine wpList_store_Row rfl 39 (.tmp 12) (.tmp 37) rfl (u8s tt) rfl rfl (Row.new' _ _ _) (by rw [HTv.out]; kernel_rfl) (by rw [HTv.out]; rfl) HTv1.out ?_; simp only [Act.put]; obtain ⟨w6, hw6⟩ : ∃ w6, (w5.alloc (.cells noKey.toArray 39)).setCells w5.heap.size 0 (u8s tt) = w6 := ⟨_, rfl⟩; have hb6 : Below w5.heap.size w5 w6 := (by rw [← hw6]; exact below_setCells (Nat.le_refl _) _ _ ((Below.refl _ w5).alloc (Nat.le_refl _) _)); have HT6 : Hid (Row w6 w5.heap.size 39 (u8s tt)) := (by rw [← hw6]; exact Row.sets_all (Row.new' _ _ _) (by rw [HTv.out]; rfl)); rw [hw6]; have HN6 : Hid (Row w6 bn 54 (u8s nn)) := Row.later HN5.out hb6; have HK6 : Hid (Row w6 w.heap.size 23 (u8s k)) := Row.later HK5.out hb6; have hB6 : Below w.heap.size w w6 := hB5.trans (hb6.mono hB5.size); generalize w5.heap.size = bt at HT6 ⊢; clear hw6 hb6)
    | (go_at_call 38; refine (HEt.out _ _ hB6 HT6.out).mono ?_; rintro e w7 ⟨rfl, hb7⟩; have HN7 : Hid (Row w7 bn 54 (u8s nn)) := Row.later HN6.out hb7; have HK7 : Hid (Row w7 w.heap.size 23 (u8s k)) := Row.later HK6.out hb7; have hB7 : Below w.heap.size w w7 := hB6.trans (hb7.mono hB6.size); clear hb7))
  clear HK4 HN4 hB4 HK5 HN5 hB5 HK6 HN6 hB6 HT6
  refine wp_region_noPanic ?_
  refine wp_region_held_drew (S := fun W' => W'.rangeAt w.heap.size 0 (u8s k) ∧ W'.rangeAt bn 0 (u8s nn)) (by kernel_rfl) ⟨(Row.drew HK7.out).range, (Row.drew HN7.out).range⟩ (fun hHeld => ?_)
  refine wpAnyH_takesAt 0 1 10 (of_decide_eq_true (by kernel_rfl)) rfl (fun _ _ _ _ _ h => h) (by kernel_rfl) (by kernel_rfl) hHeld ?_
  simp only [List.drop_zero, List.take_succ_cons, List.take_zero]
  refine wpHeld_loadS (by rfl) 23 (.tmp 3) rfl w.heap.size 0 rfl (u8s k) (fun W hW => hW.1) Tryz.underlying23 rfl (by rw [HKl.out]; exact size23) ?_
  simp only [Act.put, List.setIfInBounds_toArray, List.set_cons_zero, List.set_cons_succ]
  refine wpHeld_nil ?_
  refine wpAnyH_takesAt 2 2 8 (of_decide_eq_true (by kernel_rfl)) rfl (fun _ _ _ _ _ h => h) (by kernel_rfl) (by kernel_rfl) hHeld ?_
  simp only [List.drop_succ_cons, List.drop_zero, List.take_succ_cons, List.take_zero]
  refine wpHeld_loadS (by rfl) 54 (.tmp 8) rfl bn 0 rfl (u8s nn) (fun W hW => hW.2) Tryz.underlying54 rfl (by rw [HNv.out]; exact size54) ?_
  simp only [Act.put, List.setIfInBounds_toArray, List.set_cons_zero, List.set_cons_succ]
  iterate 1 (refine wpHeld_step (v := ?_) (by rfl) (fun wz hSw => ?_) ?_; rotate_left; (focus (clear hSw; go_simp; try with_reducible rfl)); (simp only [Act.put, List.setIfInBounds_toArray, List.set_cons_zero, List.set_cons_succ]))
  refine wpHeld_nil ?_
  clear hHeld
  refine wpAnyH_only (i := 1) (by kernel_rfl) rfl (fun K hK => ?_)
  rw [if_pos (by rfl)]
  go_simp
  have hB7d : Below w.heap.size w w7.drew := below_drewN hB7 1
  refine (HUs.out _ hB7d).mono ?_
  rintro e w8 ⟨rfl, hb8⟩
  have hb78 : Below w7.heap.size w7 w8 := (below_drewN (Below.refl _ w7) 1).trans hb8
  have HN8 : Hid (Row w8 bn 54 (u8s nn)) := Row.later HN7.out hb78
  have HK8 : Hid (Row w8 w.heap.size 23 (u8s k)) := Row.later HK7.out hb78
  have hB8 : Below w.heap.size w w8 := hB7.trans (hb78.mono hB7.size)
  refine hK.out _ _ ⟨HK8.out.range, HN8.out.range⟩ ?_
  clear hK K
  refine wpAnyH_only (i := 4) (by kernel_rfl) rfl (fun K hK => ?_)
  rw [if_pos (by rfl)]
  go_simp
  refine (HSt.out _ hB8).mono ?_
  rintro e w9 ⟨g9, rfl, hI9, hb9⟩
  have HN9 : Hid (Row w9 bn 54 (u8s nn)) := Row.later HN8.out hb9
  have HK9 : Hid (Row w9 w.heap.size 23 (u8s k)) := Row.later HK8.out hb9
  have hB9 : Below w.heap.size w w9 := hB8.trans (hb9.mono hB8.size)
  refine hK.out _ _ ⟨HK9.out.range, HN9.out.range⟩ ?_
  clear hK K
  refine wpAnyH_only (i := 5) (by kernel_rfl) rfl (fun K hK => ?_)
  rw [if_pos (by rfl)]
  go_simp
  refine (HOf.out _ g9 hB9 hI9).mono ?_
  rintro e w10 ⟨v10, rfl, hO10, hb10⟩
  have HN10 : Hid (Row w10 bn 54 (u8s nn)) := Row.later HN9.out hb10
  have HK10 : Hid (Row w10 w.heap.size 23 (u8s k)) := Row.later HK9.out hb10
  have hB10 : Below w.heap.size w w10 := hB9.trans (hb10.mono hB9.size)
  obtain ⟨q10, c10, rfl⟩ := own_len hO10 rfl
  have HO10 : Hid (Own w.heap.size w10 (.slice q10 zp.length c10) zp) := Own.mono hB9.size hO10
  have hH10 : w10.rangeAt w.heap.size 0 (u8s k) ∧ w10.rangeAt bn 0 (u8s nn) := ⟨HK10.out.range, HN10.out.range⟩
  refine hK.out _ _ hH10 ?_
  clear hK K
  refine wpAnyH_takesAt 6 5 0 (of_decide_eq_true (by kernel_rfl)) rfl (fun _ _ _ _ _ h => h) (by kernel_rfl) (by kernel_rfl) hH10 ?_
  simp only [List.drop_succ_cons, List.drop_zero, List.take_succ_cons, List.take_zero]
  iterate 5 (refine wpHeld_step (v := ?_) (by rfl) (fun wz hSw => ?_) ?_; rotate_left; (focus ((try dsimp only at hSw); go_simp; try with_reducible rfl)); (simp only [Act.put, List.setIfInBounds_toArray, List.set_cons_zero, List.set_cons_succ]))
  refine wpHeld_nil ?_
  refine wpAnyH_done (by kernel_rfl) ?_ _
  refine NoPanic.normal ?_
  clear HK7 HN7 hB7 hB7d hb8 hb78 HN8 HK8 hB8 hb9 hI9 hH10 HN9 HK9 hB9 hO10 hb10
  obtain ⟨lz, hlz⟩ : ∃ lz, zp.length = lz := ⟨_, rfl⟩
  rw [hlz] at HO10 HSe ⊢
  have HLZ : Hid (zp.length = lz) := hlz
  clear hlz
  go_wp2_with (first
    | ((with_reducible show wpList _ _ _ (Oper.mk (some 54) _ _ _ _ _ :: _) _ _); refine wpList_load_Row rfl 23 (.tmp 3) rfl rfl HK10.out Tryz.underlying23 (by rw [HKl.out]; exact size23) ?_; simp only [Act.put, List.setIfInBounds_toArray, List.set_cons_zero, List.set_cons_succ])
    | (go_at_call 16; refine (HSe.out _ _ _ hB10 (Own.bytes HO10.out hzp)).mono ?_; rintro e w11 ⟨v11, rfl, hO11, hb11⟩; have hB11 : Below w.heap.size w w11 := hB10.trans (hb11.mono hB10.size); have HE : Hid (Calls Tryz.prog 38 #[v11, .slice (some ⟨b, off, none⟩) lc cap] w11 fun e w' => e = .returned (.bool true) ∧ Below w11.heap.size w11 w') := HEq.out _ _ _ hB11 hO11; have HO11 : Hid (Own w.heap.size w11 (.slice q10 lz c10) zp) := own_later HO10.out hb11; clear hO11 hb11)
    | (go_at_call 38; refine HE.out.mono ?_; rintro e w12 ⟨rfl, hb12⟩; have HO12 : Hid (Own w.heap.size w12 (.slice q10 lz c10) zp) := own_later HO11.out hb12; have hB12 : Below w.heap.size w w12 := hB11.trans (hb12.mono hB11.size); clear hb12))
  refine bodyPost_ret (results_tmp2 rfl _ _ _) rfl ?_
  exact ⟨_, rfl, HO12.out, hB12⟩

end Go.Proofs.YtclelancbfoenaaGreatDoor
