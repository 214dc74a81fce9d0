/-
  realOpen of bytes that realSeal never answers: no.
-/
import Derived.Test.YtclelancbfoenaaGreatDoorROpen
import Derived.Test.YtclelancbfoenaaGreatDoorSLenAll
namespace Go.Proofs.YtclelancbfoenaaGreatDoor
open Go.RowKit Go.Shelf

namespace Re
/-- Of, of any bytes: the text that was padded, or no. -/
theorem of_either (p : Option Addr) (len cap : Nat) (cs : List Nat) (hlen : len ≤ 60000) (w : World) (hI : IsBytes w.heap.size w p len cap cs) :
    Calls Tryz.prog 39 #[.slice p len cap] w fun e w' => ∃ v er, e = .returned (.tuple #[v, .int .i64 er]) ∧ ((er = 0 ∧ ∃ ts : List Nat, padL ts = cs ∧ (∀ z ∈ ts, z < 256) ∧ ts.length ≤ 60000 ∧ Own w.heap.size w' v ts) ∨ er = 50) ∧ Below w.heap.size w w' := by
  by_cases hp : IsPad cs
  · have hcl := hI.1
    have hl : (toldL cs).length ≤ 60000 := by rw [toldL_length hp.2.1]; have := hp.2.1; omega
    have hz : ∀ z ∈ toldL cs, z < 256 := toldL_lt hI.2.2.2.1
    have h := of_padL p cap (toldL cs) hl (by rw [hp.2.2]; omega) w (by rw [hp.2.2, hcl]; exact hI)
    rw [hp.2.2, hcl] at h
    exact h.mono fun e w' ⟨v, h1, h2, h3⟩ => ⟨v, 0, h1, .inl ⟨rfl, toldL cs, hp.2.2, hz, hl, h2⟩, h3⟩
  · refine (of_any p len cap cs hlen w hI).mono ?_
    rintro e w' ⟨v, rfl, _, h3⟩
    rw [errU_neg hp]
    exact ⟨v, 50, rfl, .inr rfl, h3⟩
end Re

set_option maxRecDepth 100000 in
set_option maxHeartbeats 2000000 in
theorem realOpen_not (k : List Nat) (hk : IsKey32 k) (pa : Option Addr) (la ca : Nat) (za : List Nat) (hla : la ≤ 10000) (b off lc cap : Nat) (zc : List Nat) (hlc : lc ≤ 30000) (w : World) (hT : Sh.Tab w) (hTr : Re.Tab w)
    (hno : ∀ p : List Nat, (∀ z ∈ p, z < 256) → p.length ≤ 60000 → sealN k za p ≠ zc)
    (hIa : IsBytes w.heap.size w pa la ca za) (hIc : IsBytes w.heap.size w (some ⟨b, off, none⟩) lc cap zc) :
    Calls Tryz.prog 18 #[.agg (u8s k).toArray, .slice pa la ca, .slice (some ⟨b, off, none⟩) lc cap] w fun e w' => e = .returned (.tuple #[.slice none 0 0, .int .i64 70]) ∧ Below w.heap.size w w' := by
  have HLen : Hid (∀ W, Calls Tryz.prog 37 #[.int .i64 (lc : Nat)] W fun e w' => ∃ r, e = .returned (.bool r) ∧ (r = true → 76 ≤ lc) ∧ Below W.heap.size W w') := fun W => sealedLen2_any lc (by omega) W
  obtain ⟨w0, hw0⟩ : ∃ w0, w.alloc (.cells (u8s k).toArray 23) = w0 := ⟨_, rfl⟩
  have HW0 : Hid (w.alloc (.cells (u8s k).toArray 23) = w0) := hw0
  have hb0 : Below w.heap.size w w0 := by rw [← hw0]; exact (Below.refl _ w).alloc (Nat.le_refl _) _
  have HK0 : Hid (Row w0 w.heap.size 23 (u8s k)) := by rw [← hw0]; exact Row.new' w 23 (u8s k)
  have HKl : Hid ((u8s k).length = 32) := by show _ = _; rw [u8s_length, hk.1]
  have hcap := hIc.2.1
  have hcap2 := hIc.2.2.1
  by_cases h76 : 76 ≤ lc
  · obtain ⟨tA, htA⟩ : ∃ tA, tA + 32 = lc := ⟨lc - 32, by omega⟩
    obtain ⟨bN, hbN⟩ : ∃ bN, bN + 12 = tA := ⟨tA - 12, by omega⟩
    obtain ⟨nn, hnn⟩ : ∃ nn, zc.take 12 = nn := ⟨_, rfl⟩
    obtain ⟨cc, hcc⟩ : ∃ cc, (zc.drop 12).take bN = cc := ⟨_, rfl⟩
    obtain ⟨td, htd⟩ : ∃ td, (zc.drop tA).take 32 = td := ⟨_, rfl⟩
    have hzc := hIc.1
    have HNl : Hid (nn.length = 12 ∧ ∀ z ∈ nn, z < 256) := by rw [← hnn]; exact ⟨by simp; omega, fun z hz => hIc.2.2.2.1 z (List.mem_of_mem_take hz)⟩
    have HCl : Hid (cc.length = bN ∧ ∀ z ∈ cc, z < 256) := by rw [← hcc]; exact ⟨by simp; omega, fun z hz => hIc.2.2.2.1 z (List.mem_of_mem_drop (List.mem_of_mem_take hz))⟩
    obtain ⟨tt, htt⟩ : ∃ tt, tagN k za nn cc = tt := ⟨_, rfl⟩
    have HTl : Hid (tt.length = 32 ∧ ∀ z ∈ tt, z < 256) := by rw [← htt]; exact ⟨tagN_length _ _ _ _, tagN_lt _ _ _ _⟩
    obtain ⟨zq, hzq⟩ : ∃ zq, Re.streamN (useN k 101) 1 nn cc = zq := ⟨_, rfl⟩
    have HQl : Hid (zq.length = bN ∧ ∀ z ∈ zq, z < 256) := by rw [← hzq]; exact ⟨by rw [Re.streamN_length]; exact HCl.out.1, Re.streamN_lt _ _ _ HCl.out.2⟩
    have HtA : Hid (bN + 12 = tA ∧ tA + 32 = lc) := ⟨hbN, htA⟩
    have e1 : IntKind.i64.wrap ((lc : Int) - 32) = (tA : Int) := by rw [IntKind.wrap_i64]; omega
    have q1 : (12 : Int) ≤ (tA : Int) := by omega
    have q2 : (tA : Int) ≤ (cap : Int) := by omega
    have q3 : (cap = 12) = False := by simp; omega
    have q4 : (tA : Int) ≤ (lc : Int) := by omega
    have q5 : (cap = tA) = False := by simp; omega
    have IN : Hid (∀ W, Below w.heap.size w W → IsBytes W.heap.size W (some ⟨b, off + 12, none⟩) bN (cap - 12) cc) := fun W hW => part_bytes (hIc.later hW) (by omega) (i := 12) (l := bN) (by omega) (by omega) (by omega) hcc
    have IT : Hid (∀ W, Below w.heap.size w W → IsBytes W.heap.size W (some ⟨b, off + tA, none⟩) 32 (cap - tA) td) := fun W hW => part_bytes (hIc.later hW) (by omega) (i := tA) (l := 32) (by omega) (by omega) (by omega) htd
    have HNr : Hid (∀ W, Below w.heap.size w W → W.rangeAt b off (u8s nn)) := fun W hW j v hv => by
      have hj : j < nn.length := by
        rcases Nat.lt_or_ge j nn.length with h | h
        · exact h
        · rw [List.getElem?_eq_none (by simpa using h)] at hv; cases hv
      rw [u8s_at hj] at hv
      cases hv
      obtain ⟨_, _, _, _, h5⟩ := hIc.later hW
      have hl := HNl.out.1
      rcases h5 with h5 | ⟨b', off', e, hb, hcs⟩
      · omega
      · cases e
        rw [hcs j (by omega), ← hnn]
        congr 2
        simp [List.getD_eq_getElem?_getD, show j < 12 by omega]
    have HUs : Hid (∀ W, Below w.heap.size w W → Calls Tryz.prog 34 #[.agg (u8s k).toArray, .int .u8 101] W fun e w' => e = .returned (.agg (u8s (useN k 101)).toArray) ∧ Below W.heap.size W w') := fun W hW => useKey_any k hk 101 (by omega) W (hT.later hW)
    have HSt : Hid (∀ W, Below w.heap.size w W → Calls Tryz.prog 33 #[.agg (u8s (useN k 101)).toArray, .int .u32 1, .agg (u8s nn).toArray, .slice (some ⟨b, off + 12, none⟩) bN (cap - 12)] W fun e w' => ∃ g', e = .returned (.slice (some ⟨g', 0, none⟩) bN bN) ∧ IsBytes w'.heap.size w' (some ⟨g', 0, none⟩) bN bN zq ∧ Below W.heap.size W w') := fun W hW => by
      have h := Re.stream_any (useN k 101) 1 nn (useN_key k 101) (by omega) HNl.out (some ⟨b, off + 12, none⟩) bN (cap - 12) cc (by omega) W (hTr.later hW) (IN.out W hW)
      rw [hzq] at h
      exact h.mono fun e w' ⟨g', h1, _, h3, h4⟩ => ⟨g', h1, bytes_of_box h3 HQl.out.1 (by omega) HQl.out.2, h4⟩
    have HTa : Hid (∀ W, Below w.heap.size w W → Calls Tryz.prog 35 #[.agg (u8s k).toArray, .slice pa la ca, .agg (u8s nn).toArray, .slice (some ⟨b, off + 12, none⟩) bN (cap - 12)] W fun e w' => e = .returned (.agg (u8s tt).toArray) ∧ Below W.heap.size W w') := fun W hW => by
      have h := tagOf_any k hk pa la ca za hla nn HNl.out.1 HNl.out.2 (some ⟨b, off + 12, none⟩) bN (cap - 12) cc (by omega) W (hT.later hW) (hIa.later hW) (IN.out W hW)
      rw [htt] at h
      exact h
    have HOf : Hid (∀ W g, Below w.heap.size w W → IsBytes W.heap.size W (some ⟨g, 0, none⟩) bN bN zq → Calls Tryz.prog 39 #[.slice (some ⟨g, 0, none⟩) bN bN] W fun e w' => ∃ v er, e = .returned (.tuple #[v, .int .i64 er]) ∧ ((er = 0 ∧ ∃ ts : List Nat, Re.padL ts = zq ∧ (∀ z ∈ ts, z < 256) ∧ ts.length ≤ 60000 ∧ Own W.heap.size w' v ts) ∨ er = 50) ∧ Below W.heap.size W w') := fun W g hW hI => Re.of_either (some ⟨g, 0, none⟩) bN bN zq (by omega) W hI
    have HSe : Hid (∀ W q l c (ts : List Nat), ts.length = l → Re.padL ts = zq → l ≤ 60000 → Below w.heap.size w W → IsBytes W.heap.size W q l c ts → Calls Tryz.prog 16 #[.agg (u8s k).toArray, .slice pa la ca, .slice q l c] W fun e w' => ∃ v, e = .returned (.tuple #[v, .int .i64 0]) ∧ Own W.heap.size w' v (sealN k za ts) ∧ Below W.heap.size W w') := fun W q l c ts hl hp hl6 hW hI =>
      realSeal_any k hk pa la ca za hla q l c ts hl6 (by have h := Re.padL_length (zs := ts) (by omega); rw [hp, HQl.out.1, hl] at h; omega) W (hT.later hW) (hTr.later hW) (hIa.later hW) hI
    have HEq : Hid (∀ W v n₀ (ts : List Nat), (∀ z ∈ ts, z < 256) → ts.length ≤ 60000 → Re.padL ts = zq → Below w.heap.size w W → Own n₀ W v (sealN k za ts) → Calls Tryz.prog 38 #[v, .slice (some ⟨b, off, none⟩) lc cap] W fun e w' => e = .returned (.bool false) ∧ Below W.heap.size W w') := fun W v n₀ ts hz hl hp hW hO => by
      have hsz : ∀ z ∈ sealN k za ts, z < 256 := fun z hz' => by
        unfold sealN at hz'
        rcases List.mem_append.1 hz' with hz' | hz'
        · rcases List.mem_append.1 hz' with hz' | hz'
          · exact nonceN_lt _ _ _ z hz'
          · exact Re.streamN_lt _ _ _ (Re.padL_lt hz) z hz'
        · exact tagN_lt _ _ _ _ z hz'
      have hbk := Re.padL_length (zs := ts) (by omega)
      rw [hp, HQl.out.1] at hbk
      have hsl : (sealN k za ts).length ≤ 60000 := by
        unfold sealN turnedN
        rw [List.length_append, List.length_append, nonceN_length, Re.streamN_length, tagN_length, hp, HQl.out.1]
        omega
      obtain ⟨q, c, rfl⟩ := own_len hO rfl
      have h := Re.equal_any q (some ⟨b, off, none⟩) c cap (sealN k za ts).length lc (sealN k za ts) zc W hsl (by omega) (hO.bytes hsz) (hIc.later hW)
      rw [decide_eq_false (hno ts hz hl)] at h
      exact h
    have HEt : Hid (∀ W bt, Below w.heap.size w W → Row W bt 39 (u8s tt) → Calls Tryz.prog 38 #[.slice (some ⟨bt, 0, none⟩) 32 32, .slice (some ⟨b, off + tA, none⟩) 32 (cap - tA)] W fun e w' => e = .returned (.bool (decide (tt = td))) ∧ Below W.heap.size W w') := fun W bt hW hR =>
      Re.equal_any (some ⟨bt, 0, none⟩) (some ⟨b, off + tA, none⟩) 32 (cap - tA) 32 32 tt td W (by omega) (by omega) (bytes_of_box hR HTl.out.1 (by omega) HTl.out.2) (IT.out W hW)
    have HNv : Hid ((u8s nn).length = 12) := by show _ = _; rw [u8s_length, HNl.out.1]
    have HNv1 : Hid (∀ v ∈ u8s nn, v.oneCell' = true) := u8s_one _
    have HTv : Hid ((u8s tt).length = 32) := by show _ = _; rw [u8s_length, HTl.out.1]
    have HTv1 : Hid (∀ v ∈ u8s tt, v.oneCell' = true) := u8s_one _
    have hAt := run_arrayAt54 b off lc cap (by omega)
    have hlc2 : lc ≤ 60000 := by omega
    clear hw0 hnn hcc htt hzq hIa hIc htd hno hbN htA h76
    go_enter Tryz.func18, Tryz.ntmps18
    go_wp2_with (go_at_call 37; refine Hid.out ?_)
    unfold Hid
    rw [HW0.out]
    refine (HLen.out _).mono ?_
    rintro e w1 ⟨r, rfl, hr76, hb1⟩
    have hB1 : Below w.heap.size w w1 := hb0.trans (hb1.mono hb0.size)
    have HK1 : Hid (Row w1 w.heap.size 23 (u8s k)) := Row.later HK0.out hb1
    clear hb1 hr76
    cases r
    · go_wp2
      refine bodyPost_ret (results_tmp2 rfl _ _ _) rfl ?_
      exact ⟨rfl, hB1⟩
    go_wp2_with (first
      | ((with_reducible show wpList _ _ _ (Oper.mk (some 23) _ _ _ _ _ :: _) _ _); refine wpList_load_mid rfl 54 (.tmp 22) rfl b off rfl (u8s nn) _ (HNr.out _ hB1) Tryz.underlying54 rfl (by rw [HNv.out]; exact size54) ?_; simp only [Act.put, List.setIfInBounds_toArray, List.set_cons_zero, List.set_cons_succ])
      | ((with_reducible show wpList _ _ _ (Oper.mk _ (Op.store 54 (.tmp 8) (.tmp 23)) _ _ _ _ :: _) _ _); change wpList _ _ _ _ _ (w1.alloc (.cells noNonce.toArray 54)); refine wpList_store_Row rfl 54 (.tmp 8) (.tmp 23) rfl (u8s nn) rfl rfl (Row.new' _ _ _) (by rw [HNv.out]; exact size54) (by rw [HNv.out]; rfl) HNv1.out ?_; simp only [Act.put]))
    obtain ⟨w3, hw3⟩ : ∃ w3, (w1.alloc (.cells noNonce.toArray 54)).setCells w1.heap.size 0 (u8s nn) = w3 := ⟨_, rfl⟩
    have hb3 : Below w1.heap.size w1 w3 := by rw [← hw3]; exact below_setCells (Nat.le_refl _) _ _ ((Below.refl _ w1).alloc (Nat.le_refl _) _)
    have hn3 : Row w3 w1.heap.size 54 (u8s nn) := by rw [← hw3]; exact Row.sets_all (Row.new' _ _ _) (by rw [HNv.out]; rfl)
    rw [hw3]
    have HN3 : Hid (Row w3 w1.heap.size 54 (u8s nn)) := hn3
    have HK3 : Hid (Row w3 w.heap.size 23 (u8s k)) := Row.later HK1.out hb3
    have hB3 : Below w.heap.size w w3 := hB1.trans (hb3.mono hB1.size)
    generalize w1.heap.size = bn at *
    clear hw3 hn3 HK1 hB1 hb3
    refine wp_region_noPanic ?_
    refine wp_region_held_drew (S := fun _ => True) (by kernel_rfl) trivial (fun hHeld => ?_)
    refine wpAnyH_takesAt 0 8 0 (of_decide_eq_true (by kernel_rfl)) rfl (fun _ _ _ _ _ h => h) (by kernel_rfl) (by kernel_rfl) hHeld ?_
    simp only [List.drop_zero, List.take_succ_cons, List.take_zero]
    iterate 8 (refine wpHeld_step (v := ?_) (by rfl) (fun wz hSw => ?_) ?_; rotate_left; (focus ((try dsimp only at hSw); go_simp; try with_reducible rfl)); (simp only [Act.put, List.setIfInBounds_toArray, List.set_cons_zero, List.set_cons_succ]))
    refine wpHeld_nil ?_
    refine wpAnyH_done (by kernel_rfl) ?_ _
    refine NoPanic.normal ?_
    clear hHeld
    rw [show tA - 12 = bN by have := HtA.out; omega, show lc - tA = 32 by have := HtA.out; omega]
    have HN4 : Hid (Row w3.drew bn 54 (u8s nn)) := HN3.out
    have HK4 : Hid (Row w3.drew w.heap.size 23 (u8s k)) := HK3.out
    have hB4 : Below w.heap.size w w3.drew := below_drewN hB3 1
    generalize w3.drew = w4 at *
    clear HN3 HK3 hB3 q1 q2 q3 q4 q5 e1 hAt
    go_wp2_with (first
      | ((with_reducible show wpList _ _ _ (Oper.mk (some 33) _ _ _ _ _ :: _) _ _); refine wpList_load_Row rfl 23 (.tmp 3) rfl rfl HK4.out Tryz.underlying23 (by rw [HKl.out]; exact size23) ?_; simp only [Act.put, List.setIfInBounds_toArray, List.set_cons_zero, List.set_cons_succ])
      | ((with_reducible show wpList _ _ _ (Oper.mk (some 35) _ _ _ _ _ :: _) _ _); refine wpList_load_Row rfl 54 (.tmp 8) rfl rfl HN4.out Tryz.underlying54 (by rw [HNv.out]; exact size54) ?_; simp only [Act.put, List.setIfInBounds_toArray, List.set_cons_zero, List.set_cons_succ])
      | (go_at_call 35; refine (HTa.out _ hB4).mono ?_; rintro e w5 ⟨rfl, hb5⟩; have HN5 : Hid (Row w5 bn 54 (u8s nn)) := Row.later HN4.out hb5; have HK5 : Hid (Row w5 w.heap.size 23 (u8s k)) := Row.later HK4.out hb5; have hB5 : Below w.heap.size w w5 := hB4.trans (hb5.mono hB4.size); clear hb5)
      | ((with_reducible show wpList _ _ _ (Oper.mk _ (Op.store 39 (.tmp 12) (.tmp 37)) _ _ _ _ :: _) _ _); change wpList _ _ _ _ _ (w5.alloc (.cells noKey.toArray 39)); refine wpList_store_Row rfl 39 (.tmp 12) (.tmp 37) rfl (u8s tt) rfl rfl (Row.new' _ _ _) (by rw [HTv.out]; kernel_rfl) (by rw [HTv.out]; rfl) HTv1.out ?_; simp only [Act.put]; obtain ⟨w6, hw6⟩ : ∃ w6, (w5.alloc (.cells noKey.toArray 39)).setCells w5.heap.size 0 (u8s tt) = w6 := ⟨_, rfl⟩; have hb6 : Below w5.heap.size w5 w6 := (by rw [← hw6]; exact below_setCells (Nat.le_refl _) _ _ ((Below.refl _ w5).alloc (Nat.le_refl _) _)); have HT6 : Hid (Row w6 w5.heap.size 39 (u8s tt)) := (by rw [← hw6]; exact Row.sets_all (Row.new' _ _ _) (by rw [HTv.out]; rfl)); rw [hw6]; have HN6 : Hid (Row w6 bn 54 (u8s nn)) := Row.later HN5.out hb6; have HK6 : Hid (Row w6 w.heap.size 23 (u8s k)) := Row.later HK5.out hb6; have hB6 : Below w.heap.size w w6 := hB5.trans (hb6.mono hB5.size); generalize w5.heap.size = bt at HT6 ⊢; clear hw6 hb6)
      | (go_at_call 38; refine Hid.out ?_))
    unfold Hid
    refine (HEt.out _ _ hB6 HT6.out).mono ?_
    rintro e w7 ⟨rfl, hb7⟩
    have HN7 : Hid (Row w7 bn 54 (u8s nn)) := Row.later HN6.out hb7
    have HK7 : Hid (Row w7 w.heap.size 23 (u8s k)) := Row.later HK6.out hb7
    have hB7 : Below w.heap.size w w7 := hB6.trans (hb7.mono hB6.size)
    clear hb7
    cases hdec : decide (tt = td)
    · go_wp2
      refine bodyPost_ret (results_tmp2 rfl _ _ _) rfl ?_
      exact ⟨rfl, hB7⟩
    go_wp2
    clear HK4 HN4 hB4 HK5 HN5 hB5 HK6 HN6 hB6 HT6
    refine wp_region_noPanic ?_
    refine wp_region_held_drew (S := fun W' => W'.rangeAt w.heap.size 0 (u8s k) ∧ W'.rangeAt bn 0 (u8s nn)) (by kernel_rfl) ⟨(Row.drew HK7.out).range, (Row.drew HN7.out).range⟩ (fun hHeld => ?_)
    refine wpAnyH_takesAt 0 1 10 (of_decide_eq_true (by kernel_rfl)) rfl (fun _ _ _ _ _ h => h) (by kernel_rfl) (by kernel_rfl) hHeld ?_
    simp only [List.drop_zero, List.take_succ_cons, List.take_zero]
    refine wpHeld_loadS (by rfl) 23 (.tmp 3) rfl w.heap.size 0 rfl (u8s k) (fun W hW => hW.1) Tryz.underlying23 rfl (by rw [HKl.out]; exact size23) ?_
    simp only [Act.put, List.setIfInBounds_toArray, List.set_cons_zero, List.set_cons_succ]
    refine wpHeld_nil ?_
    refine wpAnyH_takesAt 2 2 8 (of_decide_eq_true (by kernel_rfl)) rfl (fun _ _ _ _ _ h => h) (by kernel_rfl) (by kernel_rfl) hHeld ?_
    simp only [List.drop_succ_cons, List.drop_zero, List.take_succ_cons, List.take_zero]
    refine wpHeld_loadS (by rfl) 54 (.tmp 8) rfl bn 0 rfl (u8s nn) (fun W hW => hW.2) Tryz.underlying54 rfl (by rw [HNv.out]; exact size54) ?_
    simp only [Act.put, List.setIfInBounds_toArray, List.set_cons_zero, List.set_cons_succ]
    iterate 1 (refine wpHeld_step (v := ?_) (by rfl) (fun wz hSw => ?_) ?_; rotate_left; (focus (clear hSw; go_simp; try with_reducible rfl)); (simp only [Act.put, List.setIfInBounds_toArray, List.set_cons_zero, List.set_cons_succ]))
    refine wpHeld_nil ?_
    clear hHeld
    refine wpAnyH_only (i := 1) (by kernel_rfl) rfl (fun K hK => ?_)
    rw [if_pos (by rfl)]
    go_simp
    have hB7d : Below w.heap.size w w7.drew := below_drewN hB7 1
    refine (HUs.out _ hB7d).mono ?_
    rintro e w8 ⟨rfl, hb8⟩
    have hb78 : Below w7.heap.size w7 w8 := (below_drewN (Below.refl _ w7) 1).trans hb8
    have HN8 : Hid (Row w8 bn 54 (u8s nn)) := Row.later HN7.out hb78
    have HK8 : Hid (Row w8 w.heap.size 23 (u8s k)) := Row.later HK7.out hb78
    have hB8 : Below w.heap.size w w8 := hB7.trans (hb78.mono hB7.size)
    refine hK.out _ _ ⟨HK8.out.range, HN8.out.range⟩ ?_
    clear hK K
    refine wpAnyH_only (i := 4) (by kernel_rfl) rfl (fun K hK => ?_)
    rw [if_pos (by rfl)]
    go_simp
    refine (HSt.out _ hB8).mono ?_
    rintro e w9 ⟨g9, rfl, hI9, hb9⟩
    have HN9 : Hid (Row w9 bn 54 (u8s nn)) := Row.later HN8.out hb9
    have HK9 : Hid (Row w9 w.heap.size 23 (u8s k)) := Row.later HK8.out hb9
    have hB9 : Below w.heap.size w w9 := hB8.trans (hb9.mono hB8.size)
    refine hK.out _ _ ⟨HK9.out.range, HN9.out.range⟩ ?_
    clear hK K
    refine wpAnyH_only (i := 5) (by kernel_rfl) rfl (fun K hK => ?_)
    rw [if_pos (by rfl)]
    go_simp
    refine (HOf.out _ g9 hB9 hI9).mono ?_
    rintro e w10 ⟨v10, er, rfl, hor, hb10⟩
    have HN10 : Hid (Row w10 bn 54 (u8s nn)) := Row.later HN9.out hb10
    have HK10 : Hid (Row w10 w.heap.size 23 (u8s k)) := Row.later HK9.out hb10
    have hB10 : Below w.heap.size w w10 := hB9.trans (hb10.mono hB9.size)
    have hH10 : w10.rangeAt w.heap.size 0 (u8s k) ∧ w10.rangeAt bn 0 (u8s nn) := ⟨HK10.out.range, HN10.out.range⟩
    refine hK.out _ _ hH10 ?_
    clear hK K
    refine wpAnyH_takesAt 6 5 0 (of_decide_eq_true (by kernel_rfl)) rfl (fun _ _ _ _ _ h => h) (by kernel_rfl) (by kernel_rfl) hH10 ?_
    simp only [List.drop_succ_cons, List.drop_zero, List.take_succ_cons, List.take_zero]
    iterate 5 (refine wpHeld_step (v := ?_) (by rfl) (fun wz hSw => ?_) ?_; rotate_left; (focus ((try dsimp only at hSw); go_simp; try with_reducible rfl)); (simp only [Act.put, List.setIfInBounds_toArray, List.set_cons_zero, List.set_cons_succ]))
    refine wpHeld_nil ?_
    refine wpAnyH_done (by kernel_rfl) ?_ _
    refine NoPanic.normal ?_
    clear HK7 HN7 hB7 hB7d hb8 hb78 HN8 HK8 hB8 hb9 hI9 hH10 HN9 HK9
    rcases hor with ⟨rfl, ts, hts, htz, htl, hO10⟩ | rfl
    · obtain ⟨lz, hlz⟩ : ∃ lz, ts.length = lz := ⟨_, rfl⟩
      obtain ⟨q10, c10, rfl⟩ := own_len hO10 hlz
      have HS10 : Hid (Calls Tryz.prog 16 #[.agg (u8s k).toArray, .slice pa la ca, .slice q10 lz c10] w10 fun e w' => ∃ v, e = .returned (.tuple #[v, .int .i64 0]) ∧ Own w10.heap.size w' v (sealN k za ts) ∧ Below w10.heap.size w10 w') := HSe.out w10 q10 lz c10 ts hlz hts (by omega) hB10 (hO10.bytes htz)
      have HE10 : Hid (∀ W v n₀, Below w.heap.size w W → Own n₀ W v (sealN k za ts) → Calls Tryz.prog 38 #[v, .slice (some ⟨b, off, none⟩) lc cap] W fun e w' => e = .returned (.bool false) ∧ Below W.heap.size W w') := fun W v n₀ hW hO => HEq.out W v n₀ ts htz htl hts hW hO
      clear hO10 htz htl hts hlz hb10 hB9
      go_wp2_with (first
        | ((with_reducible show wpList _ _ _ (Oper.mk (some 54) _ _ _ _ _ :: _) _ _); refine wpList_load_Row rfl 23 (.tmp 3) rfl rfl HK10.out Tryz.underlying23 (by rw [HKl.out]; exact size23) ?_; simp only [Act.put, List.setIfInBounds_toArray, List.set_cons_zero, List.set_cons_succ])
        | (go_at_call 16; refine HS10.out.mono ?_; rintro e w11 ⟨v11, rfl, hO11, hb11⟩; have hB11 : Below w.heap.size w w11 := hB10.trans (hb11.mono hB10.size); have HE : Hid (Calls Tryz.prog 38 #[v11, .slice (some ⟨b, off, none⟩) lc cap] w11 fun e w' => e = .returned (.bool false) ∧ Below w11.heap.size w11 w') := HE10.out _ _ _ hB11 hO11; clear hO11 hb11)
        | (go_at_call 38; refine HE.out.mono ?_; rintro e w12 ⟨rfl, hb12⟩; have hB12 : Below w.heap.size w w12 := hB11.trans (hb12.mono hB11.size); clear hb12))
      refine bodyPost_ret (results_tmp2 rfl _ _ _) rfl ?_
      exact ⟨rfl, hB12⟩
    · go_wp2
      refine bodyPost_ret (results_tmp2 rfl _ _ _) rfl ?_
      exact ⟨rfl, hB10⟩
  · have HLn : Hid (∀ W, Calls Tryz.prog 37 #[.int .i64 (lc : Nat)] W fun e w' => e = .returned (.bool false) ∧ Below W.heap.size W w') := fun W => (HLen.out W).mono fun e w' ⟨r, h1, h2, h3⟩ => by
      cases r
      · exact ⟨h1, h3⟩
      · exact absurd (h2 rfl) h76
    clear hIa hIc hno hw0 h76
    go_enter Tryz.func18, Tryz.ntmps18
    go_wp2_with (go_at_call 37; rw [HW0.out]; refine (HLn.out _).mono ?_; rintro e w1 ⟨rfl, hb1⟩)
    refine bodyPost_ret (results_tmp2 rfl _ _ _) rfl ?_
    exact ⟨rfl, hb0.trans (hb1.mono hb0.size)⟩

end Go.Proofs.YtclelancbfoenaaGreatDoor
