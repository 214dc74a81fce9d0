/-
  What vec.Equal answers: whether the bytes are alike. Nothing that lay before the call has turned.
-/
import Derived.Test.YtclelancbfoenaaGreatDoorMade
import Derived.Test.YtclelancbfoenaaGreatDoorOwn
import Derived.Test.YtclelancbfoenaaGreatDoorReSpec
import Derived.Deep.RegionHeld3
import Derived.Laws.BitsAllLaws
namespace Go.Proofs.YtclelancbfoenaaGreatDoor.Re
open Go.RowKit

def xorAt (za zb : List Nat) (i : Nat) : Nat := za.getD i 0 ^^^ zb.getD i 0
theorem u8_xor_getD (za zb : List Nat) (hza : ∀ z ∈ za, z < 256) (hzb : ∀ z ∈ zb, z < 256) (i : Nat) : bits .xor .u8 ((za.getD i 0 : Nat) : Int) ((zb.getD i 0 : Nat) : Int) = ((xorAt za zb i : Nat) : Int) :=
  u8_xor_nat _ _ (all_getD (by decide) hza i) (all_getD (by decide) hzb i)

/-- What has come together of the first k bytes that are unlike. -/
def orTo (za zb : List Nat) : Nat → Nat
  | 0 => 0
  | k + 1 => orTo za zb k ||| xorAt za zb k

theorem orTo_lt (za zb : List Nat) (hza : ∀ z ∈ za, z < 256) (hzb : ∀ z ∈ zb, z < 256) : ∀ k, orTo za zb k < 256
  | 0 => by simp [orTo]
  | k + 1 => Nat.or_lt_two_pow (n := 8) (orTo_lt za zb hza hzb k) (Nat.xor_lt_two_pow (n := 8) (all_getD (by decide) hza k) (all_getD (by decide) hzb k))

theorem xor_zero_iff (a b : Nat) : a ^^^ b = 0 ↔ a = b := by
  constructor
  · intro h
    have : (a ^^^ b) ^^^ b = 0 ^^^ b := by rw [h]
    simpa [Nat.xor_assoc] using this
  · rintro rfl; simp

theorem orTo_zero (za zb : List Nat) : ∀ k, orTo za zb k = 0 ↔ ∀ i, i < k → za.getD i 0 = zb.getD i 0
  | 0 => by simp [orTo]
  | k + 1 => by
    rw [orTo, Nat.or_eq_zero_iff, orTo_zero za zb k, xorAt, xor_zero_iff]
    constructor
    · rintro ⟨h1, h2⟩ i hi
      by_cases h : i = k
      · subst h; exact h2
      · exact h1 i (by omega)
    · intro h
      exact ⟨fun i hi => h i (by omega), h k (by omega)⟩

theorem orTo_eq (za zb : List Nat) (h : za.length = zb.length) : (((orTo za zb za.length : Nat) : Int) == 0) = decide (za = zb) := by
  rw [Bool.eq_iff_iff]
  simp only [beq_iff_eq, decide_eq_true_eq]
  rw [show (((orTo za zb za.length : Nat) : Int) = 0 ↔ orTo za zb za.length = 0) by omega, orTo_zero]
  constructor
  · intro H
    apply List.ext_getElem h
    intro i h1 h2
    have := H i h1
    simpa [List.getElem?_eq_getElem h1, List.getElem?_eq_getElem h2] using this
  · rintro rfl i _; rfl

theorem or_step (za zb : List Nat) (hza : ∀ z ∈ za, z < 256) (hzb : ∀ z ∈ zb, z < 256) (k : Nat) : bits .or .u8 ((orTo za zb k : Nat) : Int) ((xorAt za zb k : Nat) : Int) = ((orTo za zb (k + 1) : Nat) : Int) :=
  u8_or_nat _ _ (orTo_lt za zb hza hzb k) (Nat.xor_lt_two_pow (n := 8) (all_getD (by decide) hza k) (all_getD (by decide) hzb k))

set_option maxRecDepth 100000 in
set_option maxHeartbeats 1000000 in
theorem equal_some (ba oa ca bb ob cb la : Nat) (za zb : List Nat) (hzl : za.length = la) (hzl' : zb.length = la) (w : World) (hla : la ≤ 60000) (hba : ba < w.heap.size) (hbb : bb < w.heap.size) (hza : ∀ z ∈ za, z < 256) (hzb : ∀ z ∈ zb, z < 256)
    (hA : ∀ i, i < la → w.cell? ⟨ba, oa + i, none⟩ = some (.int .u8 (za.getD i 0 : Nat))) (hB : ∀ i, i < la → w.cell? ⟨bb, ob + i, none⟩ = some (.int .u8 (zb.getD i 0 : Nat))) :
    Calls Tryz.prog 38 #[.slice (some ⟨ba, oa, none⟩) la ca, .slice (some ⟨bb, ob, none⟩) la cb] w fun e w' => e = .returned (.bool (decide (za = zb))) ∧ Below w.heap.size w w' := by
  have HE : Hid ((((orTo za zb la : Nat) : Int) == 0) = decide (za = zb)) := by
    have := orTo_eq za zb (by omega)
    rwa [hzl] at this
  clear hzl hzl'
  go_enter Tryz.func38, Tryz.ntmps38
  go_wp2
  go_loopw [5, 14] (fun u i wr => ∃ k : Nat, k ≤ la ∧ i = .int .i64 k ∧ u = .int .u8 (orTo za zb k : Nat) ∧ Below w.heap.size w wr)
    (fun _ i _ => la - (intOf i).toNat)
  case atStart => exact ⟨0, Nat.zero_le _, rfl, rfl, Below.refl _ _⟩
  case round =>
    obtain ⟨k, hk, rfl, rfl, hbel⟩ := hrel
    by_cases hlt : k < la
    · have cA := (hbel.cell (p := ⟨ba, oa + k, none⟩) hba).trans (hA k hlt)
      have cB := (hbel.cell (p := ⟨bb, ob + k, none⟩) hbb).trans (hB k hlt)
      have hx := u8_xor_getD za zb hza hzb k
      have ho := or_step za zb hza hzb k
      have i1 : (k : Int) < (la : Int) := by omega
      have HB : Hid (Below w.heap.size w wr) := hbel
      clear hbel hA hB hza hzb
      generalize za.getD k 0 = x at *
      generalize zb.getD k 0 = y at *
      go_wp2
      go_region_held3 (fun w' => w'.cell? ⟨ba, oa + k, none⟩ = some (.int .u8 x) ∧ w'.cell? ⟨bb, ob + k, none⟩ = some (.int .u8 y)) (go_keep) (fail)
      go_wp2
      go_roundw
      case rel => exact ⟨k + 1, by omega, by go_num, rfl, HB.out.drew⟩
      case measure => simp [intOf]; omega
    · obtain rfl : k = la := by omega
      go_wp2
      go_ret
      exact ⟨by rw [← HE.out]; rfl, hbel⟩

set_option maxHeartbeats 1000000 in
theorem equal_unlike (pa pb : Option Addr) (ca cb la lb : Nat) (hne : la ≠ lb) (w : World) :
    Calls Tryz.prog 38 #[.slice pa la ca, .slice pb lb cb] w fun e w' => e = .returned (.bool false) ∧ Below w.heap.size w w' := by
  have hne' : ((la : Int) == (lb : Int)) = false := by simp; omega
  have hne2 : ((la : Int) != (lb : Int)) = true := by simp; omega
  go_enter Tryz.func38, Tryz.ntmps38
  go_wp2
  go_ret
  exact ⟨rfl, Below.refl _ _⟩

set_option maxRecDepth 100000 in
set_option maxHeartbeats 1000000 in
theorem equal_none (pa pb : Option Addr) (ca cb : Nat) (w : World) :
    Calls Tryz.prog 38 #[.slice pa 0 ca, .slice pb 0 cb] w fun e w' => e = .returned (.bool true) ∧ Below w.heap.size w w' := by
  go_enter Tryz.func38, Tryz.ntmps38
  go_wp2
  go_loopw [5, 14] (fun u i wr => u = .int .u8 0 ∧ i = .int .i64 0 ∧ wr = w) (fun _ _ _ => 0)
  case atStart => exact ⟨rfl, rfl, rfl⟩
  case round =>
    obtain ⟨rfl, rfl, rfl⟩ := hrel
    go_wp2
    go_ret
    exact ⟨rfl, Below.refl _ _⟩

/-- vec.Equal -/
theorem equal_any (pa pb : Option Addr) (ca cb la lb : Nat) (za zb : List Nat) (w : World) (hla : la ≤ 60000) (hlb : lb ≤ 60000) (hA : IsBytes w.heap.size w pa la ca za) (hB : IsBytes w.heap.size w pb lb cb zb) :
    Calls Tryz.prog 38 #[.slice pa la ca, .slice pb lb cb] w fun e w' => e = .returned (.bool (decide (za = zb))) ∧ Below w.heap.size w w' := by
  by_cases hl : la = lb
  · subst hl
    obtain ⟨h1, _, _, hza, ha⟩ := hA
    obtain ⟨h2, _, _, hzb, hb⟩ := hB
    by_cases h0 : la = 0
    · subst h0
      obtain rfl := List.length_eq_zero_iff.1 h1
      obtain rfl := List.length_eq_zero_iff.1 h2
      exact equal_none pa pb ca cb w
    · rcases ha with h | ⟨ba, oa, rfl, hba, hca⟩
      · omega
      rcases hb with h | ⟨bb, ob, rfl, hbb, hcb⟩
      · omega
      exact equal_some ba oa ca bb ob cb la za zb h1 h2 w hla hba hbb hza hzb hca hcb
  · have e : decide (za = zb) = false := by
      simp only [decide_eq_false_iff_not]
      rintro rfl
      exact hl (hA.1.symm.trans hB.1)
    rw [e]
    exact equal_unlike pa pb ca cb la lb hl w

end Go.Proofs.YtclelancbfoenaaGreatDoor.Re
