/-
  Seal and Open of a real suite.
-/
import Derived.Test.YtclelancbfoenaaGreatDoorROpen
import Derived.Test.YtclelancbfoenaaGreatDoorSuite
namespace Go.Proofs.YtclelancbfoenaaGreatDoor
open Go.RowKit Go.Shelf

theorem sizeN_pos {n : Nat} (h : n ≤ 60000) : 0 < sizeN (n : Int) := by
  have := bucketN_pos (z := (n : Int)) (by omega) (by omega)
  unfold sizeN
  rw [if_neg (by omega)]
  omega

set_option maxRecDepth 100000 in
set_option maxHeartbeats 1000000 in
theorem seal_real (S : Nat) (t d gg : Option Addr) (k : List Nat) (hk : IsKey32 k) (pa : Option Addr) (la ca : Nat) (za : List Nat) (hla : la ≤ 10000) (pp : Option Addr) (lp cp : Nat) (zp : List Nat) (hlp : lp ≤ 60000) (hbk : bucketN (lp : Int) ≤ 30000) (w : World) (hT : Sh.Tab w) (hTr : Re.Tab w)
    (hs : SuiteAt w S 0 t d gg) (hIa : IsBytes w.heap.size w pa la ca za) (hIp : IsBytes w.heap.size w pp lp cp zp) :
    Calls Tryz.prog 6 #[.pointer (some ⟨S, 0, none⟩), .agg (u8s k).toArray, .slice pa la ca, .slice pp lp cp] w fun e w' => ∃ v, e = .returned (.tuple #[v, .int .i64 0]) ∧ Own w.heap.size w' v (sealN k za zp) ∧ Below w.heap.size w w' := by
  have HDS : Hid (∀ W, Below w.heap.size w W → Calls Tryz.prog 16 #[.agg (u8s k).toArray, .slice pa la ca, .slice pp lp cp] W fun e w' => ∃ v, e = .returned (.tuple #[v, .int .i64 0]) ∧ Own W.heap.size w' v (sealN k za zp) ∧ Below W.heap.size W w') := fun W hW =>
    realSeal_any k hk pa la ca za hla pp lp cp zp hlp hbk W (hT.later hW) (hTr.later hW) (hIa.later hW) (hIp.later hW)
  have HM : Hid (∀ W, Below w.heap.size w W → Calls Tryz.prog 13 #[.pointer (some ⟨S, 0, none⟩)] W fun e w' => e = .returned (.bool true) ∧ w' = W) := fun W hW => isMade_some S 0 _ _ gg W (hs.later hW)
  obtain ⟨n, hn⟩ : ∃ n, sizeN (lp : Int) = n := ⟨_, rfl⟩
  have hn0 : 0 < n := by rw [← hn]; exact sizeN_pos hlp
  have HSz : Hid (∀ W, Calls Tryz.prog 14 #[.int .i64 (lp : Int)] W fun e w' => e = .returned (.int .i64 (n : Nat)) ∧ Below W.heap.size W w') := fun W => by rw [← hn]; exact sealedSize_any _ (by omega) W
  have HKl : Hid ((u8s k).length = 32) := by show _ = _; rw [u8s_length, hk.1]
  have HS : Hid (∀ W, Below w.heap.size w W → SuiteAt W S 0 t d gg) := fun W hW => hs.later hW
  have hn' : ((n : Int) == 0) = false := by simp; omega
  have hcp1 : lp ≤ cp := hIp.2.1
  have hcp2 : cp ≤ 9223372036854775807 := hIp.2.2.1
  clear hs hIa hIp hn
  go_enter Tryz.func6, Tryz.ntmps6
  go_wp2_with (first
    | (go_at_call 13; refine (HM.out _ ((Below.refl _ w).alloc (Nat.le_refl _) _)).mono ?_; rintro e w1 ⟨rfl, hw1⟩; obtain ⟨w0, hw0⟩ : ∃ w0, w.alloc (.cells (u8s k).toArray 23) = w0 := ⟨_, rfl⟩; have hb0 : Below w.heap.size w w0 := (by rw [← hw0]; exact (Below.refl _ w).alloc (Nat.le_refl _) _); have HR0 : Hid (Row w0 w.heap.size 23 (u8s k)) := (by rw [← hw0]; exact Row.new' w 23 (u8s k)); rw [hw1, hw0]; clear hw1 hw0)
    | (go_at_call 14; refine (HSz.out _).mono ?_; rintro e w1 ⟨rfl, hb1⟩; have hB1 : Below w.heap.size w w1 := hb0.trans (hb1.mono hb0.size); have HR1 : Hid (Row w1 w.heap.size 23 (u8s k)) := Row.later HR0.out hb1; have HS1 : Hid (SuiteAt w1 S 0 t d gg) := HS.out _ hB1; have cs1 := Row.cell HS1.out (i := 1) rfl; clear hb1 hb0)
    | ((with_reducible show wpList _ _ _ (Oper.mk (some 23) _ _ _ _ _ :: _) _ _); refine wpList_load_Row rfl 23 (.tmp 5) rfl rfl HR1.out Tryz.underlying23 (by rw [HKl.out]; exact size23) ?_; simp only [Act.put, List.setIfInBounds_toArray, List.set_cons_zero, List.set_cons_succ])
    | (go_at_call 16; refine (HDS.out _ hB1).mono ?_; rintro e w2 ⟨v2, rfl, hO2, hb2⟩; have HO2 : Hid (Own w.heap.size w2 v2 (sealN k za zp)) := Own.mono hB1.size hO2; have hB2 : Below w.heap.size w w2 := hB1.trans (hb2.mono hB1.size); clear hO2 hb2))
  refine bodyPost_ret (results_tmp2 rfl _ _ _) rfl ?_
  exact ⟨v2, rfl, HO2.out, hB2⟩

set_option maxRecDepth 100000 in
set_option maxHeartbeats 1000000 in
theorem open_real (S : Nat) (t d gg : Option Addr) (k : List Nat) (hk : IsKey32 k) (pa : Option Addr) (la ca : Nat) (za : List Nat) (hla : la ≤ 10000) (zp : List Nat) (hlp : zp.length ≤ 20000) (hzp : ∀ z ∈ zp, z < 256) (hbk : bucketN (zp.length : Int) ≤ 30000) (b off lc cap : Nat) (w : World) (hT : Sh.Tab w) (hTr : Re.Tab w)
    (hs : SuiteAt w S 0 t d gg) (hIa : IsBytes w.heap.size w pa la ca za) (hIc : IsBytes w.heap.size w (some ⟨b, off, none⟩) lc cap (sealN k za zp)) :
    Calls Tryz.prog 7 #[.pointer (some ⟨S, 0, none⟩), .agg (u8s k).toArray, .slice pa la ca, .slice (some ⟨b, off, none⟩) lc cap] w fun e w' => ∃ v, e = .returned (.tuple #[v, .int .i64 0]) ∧ Own w.heap.size w' v zp ∧ Below w.heap.size w w' := by
  have HDO : Hid (∀ W, Below w.heap.size w W → Calls Tryz.prog 18 #[.agg (u8s k).toArray, .slice pa la ca, .slice (some ⟨b, off, none⟩) lc cap] W fun e w' => ∃ v, e = .returned (.tuple #[v, .int .i64 0]) ∧ Own W.heap.size w' v zp ∧ Below W.heap.size W w') := fun W hW =>
    realOpen_any k hk pa la ca za hla zp hlp hzp hbk b off lc cap W (hT.later hW) (hTr.later hW) (hIa.later hW) (hIc.later hW)
  have HM : Hid (∀ W, Below w.heap.size w W → Calls Tryz.prog 13 #[.pointer (some ⟨S, 0, none⟩)] W fun e w' => e = .returned (.bool true) ∧ w' = W) := fun W hW => isMade_some S 0 _ _ gg W (hs.later hW)
  have HKl : Hid ((u8s k).length = 32) := by show _ = _; rw [u8s_length, hk.1]
  have HS : Hid (∀ W, Below w.heap.size w W → SuiteAt W S 0 t d gg) := fun W hW => hs.later hW
  clear hs hIa hIc
  go_enter Tryz.func7, Tryz.ntmps7
  go_wp2_with (first
    | ((go_at_call 13; refine (HM.out _ ((Below.refl _ w).alloc (Nat.le_refl _) _)).mono ?_; rintro e w1' ⟨rfl, hw1⟩; obtain ⟨w1, hw0⟩ : ∃ w1, w.alloc (.cells (u8s k).toArray 23) = w1 := ⟨_, rfl⟩; have hB1 : Below w.heap.size w w1 := (by rw [← hw0]; exact (Below.refl _ w).alloc (Nat.le_refl _) _); have HR1 : Hid (Row w1 w.heap.size 23 (u8s k)) := (by rw [← hw0]; exact Row.new' w 23 (u8s k)); have HS1 : Hid (SuiteAt w1 S 0 t d gg) := HS.out _ hB1; have cs1 := Row.cell HS1.out (i := 1) rfl; rw [hw1, hw0]; clear hw1 hw0))
    | ((with_reducible show wpList _ _ _ (Oper.mk (some 17) _ _ _ _ _ :: _) _ _); refine wpList_load_Row rfl 23 (.tmp 5) rfl rfl HR1.out Tryz.underlying23 (by rw [HKl.out]; exact size23) ?_; simp only [Act.put, List.setIfInBounds_toArray, List.set_cons_zero, List.set_cons_succ])
    | (go_at_call 18; refine (HDO.out _ hB1).mono ?_; rintro e w2 ⟨v2, rfl, hO2, hb2⟩; have HO2 : Hid (Own w.heap.size w2 v2 zp) := Own.mono hB1.size hO2; have hB2 : Below w.heap.size w w2 := hB1.trans (hb2.mono hB1.size); clear hO2 hb2))
  refine bodyPost_ret (results_tmp2 rfl _ _ _) rfl ?_
  exact ⟨v2, rfl, HO2.out, hB2⟩

end Go.Proofs.YtclelancbfoenaaGreatDoor
