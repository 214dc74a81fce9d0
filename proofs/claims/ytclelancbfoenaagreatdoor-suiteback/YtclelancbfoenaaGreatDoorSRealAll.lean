/-
  Several texts in one: SReal, SReal2, BackB.
-/
import Derived.Test.YtclelancbfoenaaGreatDoorROpen
import Derived.Test.YtclelancbfoenaaGreatDoorTapeAll
import Derived.Test.YtclelancbfoenaaGreatDoorROpen2
import Derived.Test.YtclelancbfoenaaGreatDoorRefOpen
/-
  Seal and Open of a real suite.
-/
namespace Go.Proofs.YtclelancbfoenaaGreatDoor
open Go.RowKit Go.Shelf

theorem sizeN_pos {n : Nat} (h : n ≤ 60000) : 0 < sizeN (n : Int) := by
  have := bucketN_pos (z := (n : Int)) (by omega) (by omega)
  unfold sizeN
  rw [if_neg (by omega)]
  omega

set_option maxRecDepth 100000 in
set_option maxHeartbeats 1000000 in
theorem seal_real (S : Nat) (t d gg : Option Addr) (k : List Nat) (hk : IsKey32 k) (pa : Option Addr) (la ca : Nat) (za : List Nat) (hla : la ≤ 10000) (pp : Option Addr) (lp cp : Nat) (zp : List Nat) (hlp : lp ≤ 60000) (hbk : bucketN (lp : Int) ≤ 30000) (w : World) (hT : Sh.Tab w) (hTr : Re.Tab w)
    (hs : SuiteAt w S 0 t d gg) (hIa : IsBytes w.heap.size w pa la ca za) (hIp : IsBytes w.heap.size w pp lp cp zp) :
    Calls Tryz.prog 6 #[.pointer (some ⟨S, 0, none⟩), .agg (u8s k).toArray, .slice pa la ca, .slice pp lp cp] w fun e w' => ∃ v, e = .returned (.tuple #[v, .int .i64 0]) ∧ Own w.heap.size w' v (sealN k za zp) ∧ Below w.heap.size w w' := by
  have HDS : Hid (∀ W, Below w.heap.size w W → Calls Tryz.prog 16 #[.agg (u8s k).toArray, .slice pa la ca, .slice pp lp cp] W fun e w' => ∃ v, e = .returned (.tuple #[v, .int .i64 0]) ∧ Own W.heap.size w' v (sealN k za zp) ∧ Below W.heap.size W w') := fun W hW =>
    realSeal_any k hk pa la ca za hla pp lp cp zp hlp hbk W (hT.later hW) (hTr.later hW) (hIa.later hW) (hIp.later hW)
  have HM : Hid (∀ W, Below w.heap.size w W → Calls Tryz.prog 13 #[.pointer (some ⟨S, 0, none⟩)] W fun e w' => e = .returned (.bool true) ∧ w' = W) := fun W hW => isMade_some S 0 _ _ gg W (hs.later hW)
  obtain ⟨n, hn⟩ : ∃ n, sizeN (lp : Int) = n := ⟨_, rfl⟩
  have hn0 : 0 < n := by rw [← hn]; exact sizeN_pos hlp
  have HSz : Hid (∀ W, Calls Tryz.prog 14 #[.int .i64 (lp : Int)] W fun e w' => e = .returned (.int .i64 (n : Nat)) ∧ Below W.heap.size W w') := fun W => by rw [← hn]; exact sealedSize_any _ (by omega) W
  have HKl : Hid ((u8s k).length = 32) := by show _ = _; rw [u8s_length, hk.1]
  have HS : Hid (∀ W, Below w.heap.size w W → SuiteAt W S 0 t d gg) := fun W hW => hs.later hW
  have hn' : ((n : Int) == 0) = false := by simp; omega
  have hcp1 : lp ≤ cp := hIp.2.1
  have hcp2 : cp ≤ 9223372036854775807 := hIp.2.2.1
  clear hs hIa hIp hn
  go_enter Tryz.func6, Tryz.ntmps6
  go_wp2_with (first
    | (go_at_call 13; refine (HM.out _ ((Below.refl _ w).alloc (Nat.le_refl _) _)).mono ?_; rintro e w1 ⟨rfl, hw1⟩; obtain ⟨w0, hw0⟩ : ∃ w0, w.alloc (.cells (u8s k).toArray 23) = w0 := ⟨_, rfl⟩; have hb0 : Below w.heap.size w w0 := (by rw [← hw0]; exact (Below.refl _ w).alloc (Nat.le_refl _) _); have HR0 : Hid (Row w0 w.heap.size 23 (u8s k)) := (by rw [← hw0]; exact Row.new' w 23 (u8s k)); rw [hw1, hw0]; clear hw1 hw0)
    | (go_at_call 14; refine (HSz.out _).mono ?_; rintro e w1 ⟨rfl, hb1⟩; have hB1 : Below w.heap.size w w1 := hb0.trans (hb1.mono hb0.size); have HR1 : Hid (Row w1 w.heap.size 23 (u8s k)) := Row.later HR0.out hb1; have HS1 : Hid (SuiteAt w1 S 0 t d gg) := HS.out _ hB1; have cs1 := Row.cell HS1.out (i := 1) rfl; clear hb1 hb0)
    | ((with_reducible show wpList _ _ _ (Oper.mk (some 23) _ _ _ _ _ :: _) _ _); refine wpList_load_Row rfl 23 (.tmp 5) rfl rfl HR1.out Tryz.underlying23 (by rw [HKl.out]; exact size23) ?_; simp only [Act.put, List.setIfInBounds_toArray, List.set_cons_zero, List.set_cons_succ])
    | (go_at_call 16; refine (HDS.out _ hB1).mono ?_; rintro e w2 ⟨v2, rfl, hO2, hb2⟩; have HO2 : Hid (Own w.heap.size w2 v2 (sealN k za zp)) := Own.mono hB1.size hO2; have hB2 : Below w.heap.size w w2 := hB1.trans (hb2.mono hB1.size); clear hO2 hb2))
  refine bodyPost_ret (results_tmp2 rfl _ _ _) rfl ?_
  exact ⟨v2, rfl, HO2.out, hB2⟩

set_option maxRecDepth 100000 in
set_option maxHeartbeats 1000000 in
theorem open_real (S : Nat) (t d gg : Option Addr) (k : List Nat) (hk : IsKey32 k) (pa : Option Addr) (la ca : Nat) (za : List Nat) (hla : la ≤ 10000) (zp : List Nat) (hlp : zp.length ≤ 20000) (hzp : ∀ z ∈ zp, z < 256) (hbk : bucketN (zp.length : Int) ≤ 30000) (b off lc cap : Nat) (w : World) (hT : Sh.Tab w) (hTr : Re.Tab w)
    (hs : SuiteAt w S 0 t d gg) (hIa : IsBytes w.heap.size w pa la ca za) (hIc : IsBytes w.heap.size w (some ⟨b, off, none⟩) lc cap (sealN k za zp)) :
    Calls Tryz.prog 7 #[.pointer (some ⟨S, 0, none⟩), .agg (u8s k).toArray, .slice pa la ca, .slice (some ⟨b, off, none⟩) lc cap] w fun e w' => ∃ v, e = .returned (.tuple #[v, .int .i64 0]) ∧ Own w.heap.size w' v zp ∧ Below w.heap.size w w' := by
  have HDO : Hid (∀ W, Below w.heap.size w W → Calls Tryz.prog 18 #[.agg (u8s k).toArray, .slice pa la ca, .slice (some ⟨b, off, none⟩) lc cap] W fun e w' => ∃ v, e = .returned (.tuple #[v, .int .i64 0]) ∧ Own W.heap.size w' v zp ∧ Below W.heap.size W w') := fun W hW =>
    realOpen_any k hk pa la ca za hla zp hlp hzp hbk b off lc cap W (hT.later hW) (hTr.later hW) (hIa.later hW) (hIc.later hW)
  have HM : Hid (∀ W, Below w.heap.size w W → Calls Tryz.prog 13 #[.pointer (some ⟨S, 0, none⟩)] W fun e w' => e = .returned (.bool true) ∧ w' = W) := fun W hW => isMade_some S 0 _ _ gg W (hs.later hW)
  have HKl : Hid ((u8s k).length = 32) := by show _ = _; rw [u8s_length, hk.1]
  have HS : Hid (∀ W, Below w.heap.size w W → SuiteAt W S 0 t d gg) := fun W hW => hs.later hW
  clear hs hIa hIc
  go_enter Tryz.func7, Tryz.ntmps7
  go_wp2_with (first
    | ((go_at_call 13; refine (HM.out _ ((Below.refl _ w).alloc (Nat.le_refl _) _)).mono ?_; rintro e w1' ⟨rfl, hw1⟩; obtain ⟨w1, hw0⟩ : ∃ w1, w.alloc (.cells (u8s k).toArray 23) = w1 := ⟨_, rfl⟩; have hB1 : Below w.heap.size w w1 := (by rw [← hw0]; exact (Below.refl _ w).alloc (Nat.le_refl _) _); have HR1 : Hid (Row w1 w.heap.size 23 (u8s k)) := (by rw [← hw0]; exact Row.new' w 23 (u8s k)); have HS1 : Hid (SuiteAt w1 S 0 t d gg) := HS.out _ hB1; have cs1 := Row.cell HS1.out (i := 1) rfl; rw [hw1, hw0]; clear hw1 hw0))
    | ((with_reducible show wpList _ _ _ (Oper.mk (some 17) _ _ _ _ _ :: _) _ _); refine wpList_load_Row rfl 23 (.tmp 5) rfl rfl HR1.out Tryz.underlying23 (by rw [HKl.out]; exact size23) ?_; simp only [Act.put, List.setIfInBounds_toArray, List.set_cons_zero, List.set_cons_succ])
    | (go_at_call 18; refine (HDO.out _ hB1).mono ?_; rintro e w2 ⟨v2, rfl, hO2, hb2⟩; have HO2 : Hid (Own w.heap.size w2 v2 zp) := Own.mono hB1.size hO2; have hB2 : Below w.heap.size w w2 := hB1.trans (hb2.mono hB1.size); clear hO2 hb2))
  refine bodyPost_ret (results_tmp2 rfl _ _ _) rfl ?_
  exact ⟨v2, rfl, HO2.out, hB2⟩

end Go.Proofs.YtclelancbfoenaaGreatDoor
/-
  Open of a real suite, of bytes that it never answers to Seal.
-/
namespace Go.Proofs.YtclelancbfoenaaGreatDoor
open Go.RowKit Go.Shelf

set_option maxRecDepth 100000 in
set_option maxHeartbeats 1000000 in
theorem open_real_not (S : Nat) (t d gg : Option Addr) (k : List Nat) (hk : IsKey32 k) (pa : Option Addr) (la ca : Nat) (za : List Nat) (hla : la ≤ 10000) (b off lc cap : Nat) (zc : List Nat) (hlc : lc ≤ 30000) (w : World) (hT : Sh.Tab w) (hTr : Re.Tab w)
    (hno : ∀ p : List Nat, (∀ z ∈ p, z < 256) → p.length ≤ 60000 → sealN k za p ≠ zc) (hs : SuiteAt w S 0 t d gg) (hIa : IsBytes w.heap.size w pa la ca za) (hIc : IsBytes w.heap.size w (some ⟨b, off, none⟩) lc cap zc) :
    Calls Tryz.prog 7 #[.pointer (some ⟨S, 0, none⟩), .agg (u8s k).toArray, .slice pa la ca, .slice (some ⟨b, off, none⟩) lc cap] w fun e w' => e = .returned (.tuple #[.slice none 0 0, .int .i64 70]) ∧ Below w.heap.size w w' := by
  have HDO : Hid (∀ W, Below w.heap.size w W → Calls Tryz.prog 18 #[.agg (u8s k).toArray, .slice pa la ca, .slice (some ⟨b, off, none⟩) lc cap] W fun e w' => e = .returned (.tuple #[.slice none 0 0, .int .i64 70]) ∧ Below W.heap.size W w') := fun W hW =>
    realOpen_not k hk pa la ca za hla b off lc cap zc hlc W (hT.later hW) (hTr.later hW) hno (hIa.later hW) (hIc.later hW)
  have HM : Hid (∀ W, Below w.heap.size w W → Calls Tryz.prog 13 #[.pointer (some ⟨S, 0, none⟩)] W fun e w' => e = .returned (.bool true) ∧ w' = W) := fun W hW => isMade_some S 0 _ _ gg W (hs.later hW)
  have HKl : Hid ((u8s k).length = 32) := by show _ = _; rw [u8s_length, hk.1]
  have HS : Hid (∀ W, Below w.heap.size w W → SuiteAt W S 0 t d gg) := fun W hW => hs.later hW
  clear hs hIa hIc hno
  go_enter Tryz.func7, Tryz.ntmps7
  go_wp2_with (first
    | ((go_at_call 13; refine (HM.out _ ((Below.refl _ w).alloc (Nat.le_refl _) _)).mono ?_; rintro e w1' ⟨rfl, hw1⟩; obtain ⟨w1, hw0⟩ : ∃ w1, w.alloc (.cells (u8s k).toArray 23) = w1 := ⟨_, rfl⟩; have hB1 : Below w.heap.size w w1 := (by rw [← hw0]; exact (Below.refl _ w).alloc (Nat.le_refl _) _); have HR1 : Hid (Row w1 w.heap.size 23 (u8s k)) := (by rw [← hw0]; exact Row.new' w 23 (u8s k)); have HS1 : Hid (SuiteAt w1 S 0 t d gg) := HS.out _ hB1; have cs1 := Row.cell HS1.out (i := 1) rfl; rw [hw1, hw0]; clear hw1 hw0))
    | ((with_reducible show wpList _ _ _ (Oper.mk (some 17) _ _ _ _ _ :: _) _ _); refine wpList_load_Row rfl 23 (.tmp 5) rfl rfl HR1.out Tryz.underlying23 (by rw [HKl.out]; exact size23) ?_; simp only [Act.put, List.setIfInBounds_toArray, List.set_cons_zero, List.set_cons_succ])
    | (go_at_call 18; refine (HDO.out _ hB1).mono ?_; rintro e w2 ⟨rfl, hb2⟩; have hB2 : Below w.heap.size w w2 := hB1.trans (hb2.mono hB1.size); clear hb2))
  refine bodyPost_ret (results_tmp2 rfl _ _ _) rfl ?_
  exact ⟨rfl, hB2⟩

end Go.Proofs.YtclelancbfoenaaGreatDoor
/-
  What a real suite and the reference answer to the same bytes with any key and any words beside them: the same.
-/
namespace Go.Proofs.YtclelancbfoenaaGreatDoor
open Go.RowKit Go.Shelf

theorem bucketN_300 {n : Nat} (h : n ≤ 300) : bucketN (n : Int) ≤ 1024 ∧ 32 ≤ bucketN (n : Int) := by
  have key : ∀ m : Fin 301, bucketN ((m.1 : Nat) : Int) ≤ 1024 ∧ 32 ≤ bucketN ((m.1 : Nat) : Int) := by decide +kernel
  exact key ⟨n, by omega⟩
theorem sealN_length {k a p : List Nat} (hp : p.length ≤ 60000) : (sealN k a p).length = 44 + bucketN (p.length : Int) := by
  unfold sealN turnedN
  rw [List.length_append, List.length_append, nonceN_length, tagN_length, Re.streamN_length, Re.padL_length (by omega)]
  omega

/-- Open of both, with another key and other words. -/
theorem other_both (S : Nat) (t d gg : Option Addr) (X : Nat) (vs : List Value) (k : List Nat) (hk : IsKey32 k) (pa : Option Addr) (la ca : Nat) (za : List Nat) (hla : la ≤ 1000) (zc : List Nat) (hz : ∀ z ∈ zc, z < 256) (h76 : 76 ≤ zc.length) (hlc : zc.length ≤ 8000) :
    ∃ (T : List Nat) (G : Int), (∀ (W : World) (b off cap : Nat), Sh.Tab W → Re.Tab W → SuiteAt W S 0 t d gg → IsBytes W.heap.size W pa la ca za → IsBytes W.heap.size W (some ⟨b, off, none⟩) zc.length cap zc → Calls Tryz.prog 7 #[.pointer (some ⟨S, 0, none⟩), .agg (u8s k).toArray, .slice pa la ca, .slice (some ⟨b, off, none⟩) zc.length cap] W fun e w' => ∃ v, e = .returned (.tuple #[v, .int .i64 G]) ∧ Str w' v (strOf T) ∧ Below W.heap.size W w') ∧
      (∀ (W : World) (b off cap : Nat), Row W X 34 (.int .i64 0 :: vs) → IsBytes W.heap.size W pa la ca za → IsBytes W.heap.size W (some ⟨b, off, none⟩) zc.length cap zc → Calls Tryz.prog 8 #[.pointer (some ⟨X, 0, none⟩), .agg (u8s k).toArray, .slice pa la ca, .slice (some ⟨b, off, none⟩) zc.length cap] W fun e w' => ∃ v, e = .returned (.tuple #[v, .int .i64 G]) ∧ Str w' v (strOf T) ∧ Below W.heap.size W w') := by
  by_cases h : Re.IsPad (heldP k zc) ∧ sealN k za (Re.toldL (heldP k zc)) = zc
  · refine ⟨Re.toldL (heldP k zc), 0, fun W b off cap hT hTr hs hIa hIc => ?_, fun W b off cap hX hIa hIc => ?_⟩
    · have hpl := heldP_length (k := k) (zc := zc) (by omega)
      have hpz : ∀ z ∈ heldP k zc, z < 256 := Re.streamN_lt _ _ _ (fun z hzz => hz z (List.mem_of_mem_drop (List.mem_of_mem_take hzz)))
      have htl : (Re.toldL (heldP k zc)).length = Re.wordAt (heldP k zc) 0 := Re.toldL_length h.1.2.1
      have hw4 := h.1.2.1
      have hbu := h.1.bucket (by omega)
      refine (open_real S t d gg k hk pa la ca za (by omega) (Re.toldL (heldP k zc)) (by omega) (Re.toldL_lt hpz) (by rw [htl, hbu]; omega) b off zc.length cap W hT hTr hs hIa (by rw [h.2]; exact hIc)).mono ?_
      rintro e w' ⟨v, rfl, hO, hb⟩
      exact ⟨v, rfl, own_str hO, hb⟩
    · refine (refOpen_any X vs k hk pa la ca za hla b off zc.length cap zc hlc h76 W hX hIa hIc).mono ?_
      rintro e w' ⟨v, g, rfl, hc, hb⟩
      rcases hc with ⟨_, _, rfl, hS⟩ | ⟨hn, _⟩
      · exact ⟨v, rfl, hS, hb⟩
      · exact absurd h hn
  · refine ⟨[], 70, fun W b off cap hT hTr hs hIa hIc => ?_, fun W b off cap hX hIa hIc => ?_⟩
    · refine (open_real_not S t d gg k hk pa la ca za (by omega) b off zc.length cap zc (by omega) W hT hTr (fun p hp hpl e => h ?_) hs hIa hIc).mono ?_
      · have hP := Re.isPad_padL (zs := p) (by omega)
        rw [← e, heldP_seal]
        exact ⟨hP.1, by rw [hP.2]⟩
      · rintro e w' ⟨rfl, hb⟩
        exact ⟨_, rfl, str_none _ _ _, hb⟩
    · refine (refOpen_any X vs k hk pa la ca za hla b off zc.length cap zc hlc h76 W hX hIa hIc).mono ?_
      rintro e w' ⟨v, g, rfl, hc, hb⟩
      rcases hc with ⟨h1, h2, _⟩ | ⟨_, rfl, hS⟩
      · exact absurd ⟨h1, h2⟩ h
      · exact ⟨v, rfl, hS, hb⟩
end Go.Proofs.YtclelancbfoenaaGreatDoor
