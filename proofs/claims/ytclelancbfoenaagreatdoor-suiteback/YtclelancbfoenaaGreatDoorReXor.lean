/-
  What the reference's Xor answers, for any two slices of bytes (of up to 60,000): the bytes put together bit by bit, in memory of their own. Nothing that lay before the call has turned.
-/
import Derived.Test.YtclelancbfoenaaGreatDoorMade
import Derived.Test.YtclelancbfoenaaGreatDoorReVEq
import Derived.Test.YtclelancbfoenaaGreatDoorReNum
import Derived.Deep.RegionHeld3
import Derived.Deep.AppendLies
import Derived.Laws.BytesArg
import Derived.ProofKit
namespace Go.Proofs.YtclelancbfoenaaGreatDoor.Re
open Go.RowKit
set_option maxRecDepth 100000 in
set_option maxHeartbeats 1000000 in
theorem refXor_some (ba oa ca bb ob cb la lb : Nat) (za zb : List Nat) (N : Nat) (hN : N = min la lb) (w : World) (hla : la ≤ 60000) (hba : ba < w.heap.size) (hbb : bb < w.heap.size) (hza : ∀ z ∈ za, z < 256) (hzb : ∀ z ∈ zb, z < 256)
    (hA : ∀ i, i < la → w.cell? ⟨ba, oa + i, none⟩ = some (.int .u8 (za.getD i 0 : Nat))) (hB : ∀ i, i < lb → w.cell? ⟨bb, ob + i, none⟩ = some (.int .u8 (zb.getD i 0 : Nat))) :
    Calls Tryz.prog 42 #[.slice (some ⟨ba, oa, none⟩) la ca, .slice (some ⟨bb, ob, none⟩) lb cb] w fun e w' =>
      ∃ v, e = .returned v ∧ w'.ownsRow w.heap.size 5 1 v N (byteVals (xorAt za zb) N) ∧ Below w.heap.size w w' := by
  obtain ⟨i0, hi, hz0, hz1, hz2⟩ := info_parts info5
  have HN : Hid (N = min la lb) := hN
  have hNl : N ≤ 60000 := by omega
  have hNa : N ≤ la := by omega
  have hNb : N ≤ lb := by omega
  clear hN
  go_enter Tryz.func42, Tryz.ntmps42
  go_wp2
  go_loopw [5, 6] (fun v i wr => ∃ k : Nat, k ≤ N ∧ i = .int .i64 k ∧ wr.ownsRow w.heap.size 5 1 v k (byteVals (xorAt za zb) k) ∧ Below w.heap.size w wr)
    (fun _ i _ => N - (intOf i).toNat)
  case atStart => exact ⟨0, Nat.zero_le _, rfl, World.ownsRow_nil _ _ _ _, Below.refl _ _⟩
  case round =>
    obtain ⟨k, hk, rfl, hown, hbel⟩ := hrel
    by_cases hlt : k < N
    · have cA := (hbel.cell (p := ⟨ba, oa + k, none⟩) hba).trans (hA k (by omega))
      have cB := (hbel.cell (p := ⟨bb, ob + k, none⟩) hbb).trans (hB k (by omega))
      have hx := u8_xor_getD za zb hza hzb k
      have i1 : (k : Int) < (la : Int) := by omega
      have i2 : (k : Int) < (lb : Int) := by omega
      have hsz := hbel.size
      have hne : ∀ b, b < w.heap.size → some b ≠ u5.ownBlock := fun b hb e => by have := (hown.lt b e.symm).1; omega
      have hnA := hne ba hba
      have hnB := hne bb hbb
      have HB : Hid (Below w.heap.size w wr) := hbel
      have HO : Hid (wr.ownsRow w.heap.size 5 1 u5 k (byteVals (xorAt za zb) k)) := hown
      clear hbel hown hA hB hza hzb hne
      generalize za.getD k 0 = x at *
      generalize zb.getD k 0 = y at *
      go_wp2
      go_region_held3 (fun w' => w'.cell? ⟨ba, oa + k, none⟩ = some (.int .u8 x) ∧ w'.cell? ⟨bb, ob + k, none⟩ = some (.int .u8 y))
        (first
          | go_keep
          | (go_split_ands
             refine ⟨?_, ?_⟩
             · (rw [hgrow.cell_far _ (by simp; omega) hnA]; assumption)
             · (rw [hgrow.cell_far _ (by simp; omega) hnB]; assumption)))
        ((refine step_append_lies _ (by rfl) _ _ _ (by rfl) w.heap.size 5 i0 _ 1 1 Tryz.underlying24 hi hz0 hz1 hz2 rfl (by omega) u5 k _ (by rfl) ((HO.out.alloc _).drew)
            ⟨wr.heap.size, 0, none⟩ 1 1 [.int .u8 (xorAt za zb k : Nat)] (by rfl) (by rfl) (World.news_of_block (cs := #[.int .u8 (xorAt za zb k : Nat)]) (t := 5) (fr := (0, 0)) (heap_alloc_new wr _)) (by simp [Value.oneCell'])
            (by omega) (by simp only [maxLen]; omega) (by omega) (by simp; omega) (wr.heap.size + 1) (by simp) ?_; intro gg cap w1 hown1 hgrow hat hlt1))
      go_wp2
      go_roundw
      case rel =>
        exact ⟨k + 1, by omega, by go_num, by rw [← byteVals_succ]; exact hown1, ((HB.out.alloc hsz _).drew).grown hgrow (by simp; omega) (fun j e => (HO.out.lt j e).1)⟩
      case measure => simp [intOf]; omega
    · obtain rfl : k = N := by omega
      by_cases i1 : la ≤ k
      · have i1' : ¬ (k : Int) < (la : Int) := by omega
        go_wp2
        go_ret
        exact ⟨_, rfl, hown, hbel⟩
      · have i1' : (k : Int) < (la : Int) := by omega
        have i2' : ¬ (k : Int) < (lb : Int) := by have := HN.out; omega
        go_wp2
        go_ret
        exact ⟨_, rfl, hown, hbel⟩

set_option maxRecDepth 100000 in
set_option maxHeartbeats 1000000 in
theorem refXor_none (pa pb : Option Addr) (ca cb la lb : Nat) (hz : la = 0 ∨ lb = 0) (hla : la ≤ 60000) (hlb : lb ≤ 60000) (w : World) :
    Calls Tryz.prog 42 #[.slice pa la ca, .slice pb lb cb] w fun e w' => ∃ v, e = .returned v ∧ w'.ownsRow w.heap.size 5 1 v 0 [] ∧ Below w.heap.size w w' := by
  have H : ∀ la lb : Nat, la ≤ 60000 → lb ≤ 60000 → (la = 0 ∨ ((0 : Int) < (la : Int) ∧ lb = 0)) → Calls Tryz.prog 42 #[.slice pa la ca, .slice pb lb cb] w fun e w' => ∃ v, e = .returned v ∧ w'.ownsRow w.heap.size 5 1 v 0 [] ∧ Below w.heap.size w w' := by
    intro la lb hla hlb h
    rcases h with rfl | ⟨h, rfl⟩
    all_goals
      go_enter Tryz.func42, Tryz.ntmps42
      go_wp2
      go_loopw [5, 6] (fun v i wr => v = .slice none 0 0 ∧ i = .int .i64 0 ∧ wr = w) (fun _ _ _ => 0)
      case atStart => exact ⟨rfl, rfl, rfl⟩
      case round =>
        obtain ⟨rfl, rfl, rfl⟩ := hrel
        go_wp2
        go_ret
        exact ⟨_, rfl, World.ownsRow_nil _ _ _ _, Below.refl _ _⟩
  exact H la lb hla hlb (by omega)

/-- the reference's Xor -/
theorem refXor_any (pa pb : Option Addr) (ca cb la lb : Nat) (za zb : List Nat) (w : World) (hla : la ≤ 60000) (hlb : lb ≤ 60000) (hA : IsBytes w.heap.size w pa la ca za) (hB : IsBytes w.heap.size w pb lb cb zb) :
    Calls Tryz.prog 42 #[.slice pa la ca, .slice pb lb cb] w fun e w' =>
      ∃ v, e = .returned v ∧ w'.ownsRow w.heap.size 5 1 v (min la lb) (byteVals (xorAt za zb) (min la lb)) ∧ Below w.heap.size w w' := by
  obtain ⟨_, _, _, hza, rfl | ⟨ba, oa, rfl, hba, hca⟩⟩ := hA
  · rw [show min 0 lb = 0 by omega]
    exact refXor_none _ _ _ _ _ _ (by omega) hla hlb w
  obtain ⟨_, _, _, hzb, rfl | ⟨bb, ob, rfl, hbb, hcb⟩⟩ := hB
  · rw [show min la 0 = 0 by omega]
    exact refXor_none _ _ _ _ _ _ (by omega) hla hlb w
  exact refXor_some ba oa ca bb ob cb la lb za zb _ rfl w hla hba hbb hza hzb hca hcb

end Go.Proofs.YtclelancbfoenaaGreatDoor.Re
