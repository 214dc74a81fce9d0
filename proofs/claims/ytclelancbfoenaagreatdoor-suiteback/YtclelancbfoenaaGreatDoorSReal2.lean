/-
  Open of a real suite, of bytes that it never answers to Seal.
-/
import Derived.Test.YtclelancbfoenaaGreatDoorROpen2
import Derived.Test.YtclelancbfoenaaGreatDoorSReal
namespace Go.Proofs.YtclelancbfoenaaGreatDoor
open Go.RowKit Go.Shelf

set_option maxRecDepth 100000 in
set_option maxHeartbeats 1000000 in
theorem open_real_not (S : Nat) (t d gg : Option Addr) (k : List Nat) (hk : IsKey32 k) (pa : Option Addr) (la ca : Nat) (za : List Nat) (hla : la ≤ 10000) (b off lc cap : Nat) (zc : List Nat) (hlc : lc ≤ 30000) (w : World) (hT : Sh.Tab w) (hTr : Re.Tab w)
    (hno : ∀ p : List Nat, (∀ z ∈ p, z < 256) → p.length ≤ 60000 → sealN k za p ≠ zc) (hs : SuiteAt w S 0 t d gg) (hIa : IsBytes w.heap.size w pa la ca za) (hIc : IsBytes w.heap.size w (some ⟨b, off, none⟩) lc cap zc) :
    Calls Tryz.prog 7 #[.pointer (some ⟨S, 0, none⟩), .agg (u8s k).toArray, .slice pa la ca, .slice (some ⟨b, off, none⟩) lc cap] w fun e w' => e = .returned (.tuple #[.slice none 0 0, .int .i64 70]) ∧ Below w.heap.size w w' := by
  have HDO : Hid (∀ W, Below w.heap.size w W → Calls Tryz.prog 18 #[.agg (u8s k).toArray, .slice pa la ca, .slice (some ⟨b, off, none⟩) lc cap] W fun e w' => e = .returned (.tuple #[.slice none 0 0, .int .i64 70]) ∧ Below W.heap.size W w') := fun W hW =>
    realOpen_not k hk pa la ca za hla b off lc cap zc hlc W (hT.later hW) (hTr.later hW) hno (hIa.later hW) (hIc.later hW)
  have HM : Hid (∀ W, Below w.heap.size w W → Calls Tryz.prog 13 #[.pointer (some ⟨S, 0, none⟩)] W fun e w' => e = .returned (.bool true) ∧ w' = W) := fun W hW => isMade_some S 0 _ _ gg W (hs.later hW)
  have HKl : Hid ((u8s k).length = 32) := by show _ = _; rw [u8s_length, hk.1]
  have HS : Hid (∀ W, Below w.heap.size w W → SuiteAt W S 0 t d gg) := fun W hW => hs.later hW
  clear hs hIa hIc hno
  go_enter Tryz.func7, Tryz.ntmps7
  go_wp2_with (first
    | ((go_at_call 13; refine (HM.out _ ((Below.refl _ w).alloc (Nat.le_refl _) _)).mono ?_; rintro e w1' ⟨rfl, hw1⟩; obtain ⟨w1, hw0⟩ : ∃ w1, w.alloc (.cells (u8s k).toArray 23) = w1 := ⟨_, rfl⟩; have hB1 : Below w.heap.size w w1 := (by rw [← hw0]; exact (Below.refl _ w).alloc (Nat.le_refl _) _); have HR1 : Hid (Row w1 w.heap.size 23 (u8s k)) := (by rw [← hw0]; exact Row.new' w 23 (u8s k)); have HS1 : Hid (SuiteAt w1 S 0 t d gg) := HS.out _ hB1; have cs1 := Row.cell HS1.out (i := 1) rfl; rw [hw1, hw0]; clear hw1 hw0))
    | ((with_reducible show wpList _ _ _ (Oper.mk (some 17) _ _ _ _ _ :: _) _ _); refine wpList_load_Row rfl 23 (.tmp 5) rfl rfl HR1.out Tryz.underlying23 (by rw [HKl.out]; exact size23) ?_; simp only [Act.put, List.setIfInBounds_toArray, List.set_cons_zero, List.set_cons_succ])
    | (go_at_call 18; refine (HDO.out _ hB1).mono ?_; rintro e w2 ⟨rfl, hb2⟩; have hB2 : Below w.heap.size w w2 := hB1.trans (hb2.mono hB1.size); clear hb2))
  refine bodyPost_ret (results_tmp2 rfl _ _ _) rfl ?_
  exact ⟨rfl, hB2⟩

end Go.Proofs.YtclelancbfoenaaGreatDoor
