/-
  SameNames of the same texts.
-/
import Derived.Test.YtkpjbleogjmbjaaSplit
import Derived.Test.YtkpjbleogjmbjaaGate
import Derived.Test.YtkpjbleogjmbjaaHeld
namespace Go.Proofs.Ytkpjbleogjmbjaa
open Go.RowKit

set_option maxRecDepth 100000 in
set_option maxHeartbeats 1000000 in
theorem sameNames_any (p : Option Addr) (len cap : Nat) (p2 : Option Addr) (cap2 : Nat) (xs : List ByteArray) (w : World) (hI : IsStrs w.heap.size w p len cap xs) (hJ : IsStrs w.heap.size w p2 len cap2 xs) :
    Calls Try.prog 13 #[.slice p len cap, .slice p2 len cap2] w fun e w' => e = .returned (.bool true) ∧ Below w.heap.size w w' := by
  have HI : Hid (IsStrs w.heap.size w p len cap xs) := hI
  have HJ : Hid (IsStrs w.heap.size w p2 len cap2 xs) := hJ
  have HL : Hid (xs.length = len) := hI.1
  have hlc := hI.2.1
  have hcc := hI.2.2.1
  clear hI hJ
  go_enter Try.func13, Try.ntmps13
  go_wp2
  go_loopw [13] (fun i wr => ∃ (k : Nat), k ≤ len ∧ i = .int .i64 k ∧ Below w.heap.size w wr) (fun i _ => len - (intOf i).toNat)
  case atStart => exact ⟨0, Nat.zero_le _, rfl, Below.refl _ _⟩
  case round =>
    obtain ⟨k, hk, rfl, hbel⟩ := hrel
    by_cases hlt : k < len
    · have hki : (k : Int) < (len : Int) := by omega
      have hkx : k < xs.length := by rw [HL.out]; exact hlt
      obtain ⟨b, off, rfl, hb, hcell⟩ : ∃ b off, p = some ⟨b, off, none⟩ ∧ b < w.heap.size ∧ ∀ i (h : i < xs.length), wr.cell? ⟨b, off + i, none⟩ = some (.string xs[i]) := by
        rcases (HI.out.below hbel).2.2.2 with h | h
        · omega
        · exact h
      obtain ⟨b2, off2, rfl, hb2, hcell2⟩ : ∃ b off, p2 = some ⟨b, off, none⟩ ∧ b < w.heap.size ∧ ∀ i (h : i < xs.length), wr.cell? ⟨b, off + i, none⟩ = some (.string xs[i]) := by
        rcases (HJ.out.below hbel).2.2.2 with h | h
        · omega
        · exact h
      have c1 := hcell k hkx
      have c2 := hcell2 k hkx
      clear hcell hcell2
      generalize xs[k] = x at *
      have HS : Hid (wr.drew.cell? ⟨b, off + k, none⟩ = some (.string x) ∧ wr.drew.cell? ⟨b2, off2 + k, none⟩ = some (.string x)) := ⟨c1, c2⟩
      clear c1 c2
      go_wp2
      refine wp_region_held_drew (S := fun W => W.cell? ⟨b, off + k, none⟩ = some (.string x) ∧ W.cell? ⟨b2, off2 + k, none⟩ = some (.string x)) (by kernel_rfl) HS.out (fun hHeld => ?_)
      refine wpAnyH_takesAt 0 9 0 (of_decide_eq_true (by kernel_rfl)) rfl (fun _ _ _ d _ h => by cases d <;> exact h) (by kernel_rfl) (by kernel_rfl) hHeld ?_
      simp only [List.drop_zero, List.take_succ_cons, List.take_zero]
      iterate 9 (refine wpHeld_step (v := ?_) (by rfl) (fun wz hSw => ?_) ?_; rotate_left; (focus ((obtain ⟨hc1, hc2⟩ := hSw); go_simp; try with_reducible rfl)); (simp only [Act.put, List.setIfInBounds_toArray, List.set_cons_zero, List.set_cons_succ]))
      refine wpHeld_nil ?_
      refine wpAnyH_done (by kernel_rfl) ?_ _
      go_wp2
      go_roundw
      case rel => exact ⟨k + 1, by omega, by go_num, hbel.drew⟩
      case measure => simp [intOf]; omega
    · obtain rfl : k = len := by omega
      go_wp2
      go_ret
      exact ⟨rfl, hbel⟩
end Go.Proofs.Ytkpjbleogjmbjaa
