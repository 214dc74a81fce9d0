/-
  A suite in memory, and what New, isMade, Size make of it. Nothing that lay before a call has turned.
-/
import Derived.Test.YtclelancbfoenaaGreatDoorKey
import Derived.Test.YtclelancbfoenaaGreatDoorBucket
import Derived.Test.YtclelancbfoenaaGreatDoorMaps
namespace Go.Proofs.YtclelancbfoenaaGreatDoor
open Go.RowKit

/-- Block S is a suite. -/
def SuiteAt (W : World) (S : Nat) (mode : Int) (t d g : Option Addr) : Prop := Row W S 47 [.bool true, .int .i64 mode, .pointer t, .pointer d, .pointer g]
theorem SuiteAt.below {W W' : World} {S n : Nat} {mode : Int} {t d g : Option Addr} (h : SuiteAt W S mode t d g) (hb : Below n W W') (hn : S < n) : SuiteAt W' S mode t d g := Row.below h hb hn
theorem SuiteAt.later {W W' : World} {S : Nat} {mode : Int} {t d g : Option Addr} (h : SuiteAt W S mode t d g) (hb : Below W.heap.size W W') : SuiteAt W' S mode t d g := Row.later h hb

set_option maxHeartbeats 1000000 in
theorem isMade_some (S : Nat) (mode : Int) (t d g : Option Addr) (w : World) (h : SuiteAt w S mode t d g) :
    Calls Tryz.prog 13 #[.pointer (some ⟨S, 0, none⟩)] w fun e w' => e = .returned (.bool true) ∧ w' = w := by
  have c0 := Row.cell h (i := 0) rfl
  clear h
  go_enter Tryz.func13, Tryz.ntmps13
  go_wp2
  go_ret
  exact ⟨rfl, rfl⟩
set_option maxHeartbeats 1000000 in
theorem isMade_none (w : World) : Calls Tryz.prog 13 #[.pointer none] w fun e w' => e = .returned (.bool false) ∧ w' = w := by
  go_enter Tryz.func13, Tryz.ntmps13
  go_wp2
  go_ret
  exact ⟨rfl, rfl⟩

/-- newDigests: a map without an entry, and a block that leads to it. -/
def digestsW (w : World) : World := (w.alloc (.map #[] 0)).alloc (.cells #[.map (some w.heap.size), .bool false, .string ByteArray.empty, .string ByteArray.empty] 61)
set_option maxHeartbeats 1000000 in
theorem newDigests_any (w : World) : Calls Tryz.prog 11 #[] w fun e w' => e = .returned (.pointer (some ⟨w.heap.size + 1, 0, none⟩)) ∧ w' = digestsW w := by
  have hmm := @run_makeMap Tryz.prog
  go_enter Tryz.func11, Tryz.ntmps11
  go_wp2
  go_ret
  exact ⟨by simp, rfl⟩

/-- newDrawn: four maps without an entry, and a block that leads to them. -/
def mapsW (w : World) : World := (((w.alloc (.map #[] 0)).alloc (.map #[] 0)).alloc (.map #[] 0)).alloc (.map #[] 0)
def drawnW (w : World) (t : Option Addr) : World := (mapsW w).alloc (.cells #[.pointer t, .map (some w.heap.size), .map (some (w.heap.size + 1)), .map (some (w.heap.size + 2)), .map (some (w.heap.size + 3))] 67)
set_option maxHeartbeats 1000000 in
theorem newDrawn_any (t : Option Addr) (w : World) : Calls Tryz.prog 12 #[.pointer t] w fun e w' => e = .returned (.pointer (some ⟨w.heap.size + 4, 0, none⟩)) ∧ w' = drawnW w t := by
  have hmm := @run_makeMap Tryz.prog
  go_enter Tryz.func12, Tryz.ntmps12
  go_wp2
  go_ret
  exact ⟨by simp, by simp [drawnW, mapsW]⟩

theorem below_digestsW (w : World) : Below w.heap.size w (digestsW w) := ((Below.refl _ w).alloc (Nat.le_refl _) _).alloc (by simp) _
theorem size_digestsW (w : World) : (digestsW w).heap.size = w.heap.size + 2 := by simp [digestsW]
theorem below_drawnW (w : World) (t : Option Addr) : Below w.heap.size w (drawnW w t) := ((((((Below.refl _ w).alloc (Nat.le_refl _) _).alloc (by simp) _).alloc (by simp; omega) _).alloc (by simp; omega) _).alloc (by simp; omega) _)
theorem size_drawnW (w : World) (t : Option Addr) : (drawnW w t).heap.size = w.heap.size + 5 := by simp [drawnW, mapsW]

set_option maxHeartbeats 1000000 in
/-- New of a real suite. -/
theorem newReal_any (t : Option Addr) (w : World) : Calls Tryz.prog 5 #[.int .i64 0, .pointer t] w fun e w' => ∃ S g, e = .returned (.pointer (some ⟨S, 0, none⟩)) ∧ w.heap.size ≤ S ∧ SuiteAt w' S 0 t none g ∧ Below w.heap.size w w' := by
  go_enter Tryz.func5, Tryz.ntmps5
  go_wp2_with (go_at_call 11; refine (newDigests_any _).mono ?_; rintro e w1 ⟨rfl, rfl⟩)
  go_ret
  have hs := size_digestsW w
  exact ⟨_, _, rfl, by omega, Row.new _ _ _, (below_digestsW w).alloc (by omega) _⟩

/-- An ideal suite without an entry: all that it has is new. -/
structure FreshAt (W : World) (n S : Nat) (t : Option Addr) : Prop where
  suite : SuiteAt W S 1 t (some ⟨n + 6, 0, none⟩) (some ⟨n + 1, 0, none⟩)
  drawn : Row W (n + 6) 67 [.pointer t, .map (some (n + 2)), .map (some (n + 3)), .map (some (n + 4)), .map (some (n + 5))]
  keys : MapAt Tryz.prog 183 W (n + 2) (fun _ => none)
  ids : MapAt Tryz.prog 9 W (n + 3) (fun _ => none)
  seals : MapAt Tryz.prog 69 W (n + 4) (fun _ => none)
  asked : MapAt Tryz.prog 9 W (n + 5) (fun _ => none)

set_option maxRecDepth 100000 in
set_option maxHeartbeats 1000000 in
/-- New of an ideal suite. -/
theorem newIdeal_any (t : Option Addr) (w : World) : Calls Tryz.prog 5 #[.int .i64 1, .pointer t] w fun e w' => e = .returned (.pointer (some ⟨w.heap.size + 7, 0, none⟩)) ∧ FreshAt w' w.heap.size (w.heap.size + 7) t ∧ Below w.heap.size w w' ∧ w'.heap.size = w.heap.size + 8 := by
  go_enter Tryz.func5, Tryz.ntmps5
  go_wp2_with (first
    | (go_at_call 11; refine (newDigests_any _).mono ?_; rintro e w1 ⟨rfl, rfl⟩)
    | (go_at_call 12; refine (newDrawn_any _ _).mono ?_; rintro e w1 ⟨rfl, rfl⟩))
  go_ret
  have hs := size_digestsW w
  have hs2 := size_drawnW (digestsW w) t
  have hsz : (drawnW (digestsW w) t).heap.size = w.heap.size + 7 := by omega
  have hb : Below (w.heap.size + 7) (drawnW (digestsW w) t) ((drawnW (digestsW w) t).alloc (.cells #[.bool true, .int .i64 1, .pointer t, .pointer (some ⟨(digestsW w).heap.size + 4, 0, none⟩), .pointer (some ⟨w.heap.size + 1, 0, none⟩)] 47)) := (Below.refl _ _).alloc (by omega) _
  refine ⟨by rw [hsz]; rfl, ⟨?_, ?_, ?_, ?_, ?_, ?_⟩, ((below_digestsW w).trans ((below_drawnW _ t).mono (by omega))).alloc (by omega) _, by simp [hsz]⟩
  · have h := Row.new (drawnW (digestsW w) t) 47 #[.bool true, .int .i64 1, .pointer t, .pointer (some ⟨(digestsW w).heap.size + 4, 0, none⟩), .pointer (some ⟨w.heap.size + 1, 0, none⟩)]
    rw [hsz] at h
    rw [hs] at h ⊢
    exact h
  · refine Row.below ?_ hb (by omega)
    have h := Row.new (mapsW (digestsW w)) 67 #[.pointer t, .map (some (digestsW w).heap.size), .map (some ((digestsW w).heap.size + 1)), .map (some ((digestsW w).heap.size + 2)), .map (some ((digestsW w).heap.size + 3))]
    have e : (mapsW (digestsW w)).heap.size = w.heap.size + 6 := by simp [mapsW, hs]
    rw [e] at h
    rw [drawnW]
    rw [hs] at h ⊢
    exact h
  · refine MapAt.below ?_ hb (by omega)
    have h := MapAt.new Tryz.prog 183 (digestsW w)
    rw [hs] at h
    exact ((((h.below ((Below.refl _ _).alloc (Nat.le_refl _) _) (by simp [hs])).below ((Below.refl _ _).alloc (Nat.le_refl _) _) (by simp [hs])).below ((Below.refl _ _).alloc (Nat.le_refl _) _) (by simp [hs])).below ((Below.refl _ _).alloc (Nat.le_refl _) _) (by simp [hs]))
  · refine MapAt.below ?_ hb (by omega)
    have h := MapAt.new Tryz.prog 9 ((digestsW w).alloc (.map #[] 0))
    rw [World.size_alloc, hs] at h
    exact (((h.below ((Below.refl _ _).alloc (Nat.le_refl _) _) (by simp [hs])).below ((Below.refl _ _).alloc (Nat.le_refl _) _) (by simp [hs])).below ((Below.refl _ _).alloc (Nat.le_refl _) _) (by simp [hs]))
  · refine MapAt.below ?_ hb (by omega)
    have h := MapAt.new Tryz.prog 69 (((digestsW w).alloc (.map #[] 0)).alloc (.map #[] 0))
    rw [World.size_alloc, World.size_alloc, hs] at h
    exact ((h.below ((Below.refl _ _).alloc (Nat.le_refl _) _) (by simp [hs])).below ((Below.refl _ _).alloc (Nat.le_refl _) _) (by simp [hs]))
  · refine MapAt.below ?_ hb (by omega)
    have h := MapAt.new Tryz.prog 9 ((((digestsW w).alloc (.map #[] 0)).alloc (.map #[] 0)).alloc (.map #[] 0))
    rw [World.size_alloc, World.size_alloc, World.size_alloc, hs] at h
    exact (h.below ((Below.refl _ _).alloc (Nat.le_refl _) _) (by simp [hs]))

theorem bucketN_le (z : Int) : bucketN z ≤ 65536 := by
  by_cases h : z < 0 ∨ 65532 < z
  · rw [bucketN_none h]; omega
  · have := bucketN_pos (z := z) (by omega) (by omega); omega
/-- The length of a sealed text. -/
def sizeN (z : Int) : Nat := if bucketN z = 0 then 0 else 44 + bucketN z

set_option maxHeartbeats 1000000 in
theorem sealedSize_any (z : Int) (hz : -9223372036854775808 ≤ z ∧ z ≤ 9223372036854775807) (w : World) :
    Calls Tryz.prog 14 #[.int .i64 z] w fun e w' => e = .returned (.int .i64 (sizeN z : Nat)) ∧ Below w.heap.size w w' := by
  have HB := bucket_any z hz w
  have hle : bucketN z ≤ 65536 := bucketN_le z
  have HS : Hid (sizeN z = if bucketN z = 0 then 0 else 44 + bucketN z) := rfl
  generalize bucketN z = k at *
  by_cases hk : k = 0
  · subst hk
    have HBH : Hid (Calls Tryz.prog 25 #[.int .i64 z] w fun e w' => e = .returned (.int .i64 ((0 : Nat) : Int)) ∧ Below w.heap.size w w') := HB
    clear HB
    go_enter Tryz.func14, Tryz.ntmps14
    go_wp2_with (go_at_call 25; refine HBH.out.mono ?_; rintro e w1 ⟨rfl, hb1⟩)
    go_ret
    exact ⟨by rw [HS.out]; rfl, hb1⟩
  · have HBH : Hid (Calls Tryz.prog 25 #[.int .i64 z] w fun e w' => e = .returned (.int .i64 (k : Nat)) ∧ Below w.heap.size w w') := HB
    clear HB
    have hk0 : ((k : Int) == 0) = false := by simp; omega
    have e1 : IntKind.i64.wrap (44 + (k : Int)) = ((44 + k : Nat) : Int) := by rw [IntKind.wrap_i64]; omega
    go_enter Tryz.func14, Tryz.ntmps14
    go_wp2_with (go_at_call 25; refine HBH.out.mono ?_; rintro e w1 ⟨rfl, hb1⟩)
    go_ret
    exact ⟨by rw [HS.out, if_neg hk]; push_cast; rfl, hb1⟩

set_option maxHeartbeats 1000000 in
theorem size_some (S : Nat) (mode : Int) (t d g : Option Addr) (z : Int) (hz : -9223372036854775808 ≤ z ∧ z ≤ 9223372036854775807) (w : World) (h : SuiteAt w S mode t d g) :
    Calls Tryz.prog 9 #[.pointer (some ⟨S, 0, none⟩), .int .i64 z] w fun e w' => e = .returned (.int .i64 (sizeN z : Nat)) ∧ Below w.heap.size w w' := by
  have HM : Hid (Calls Tryz.prog 13 #[.pointer (some ⟨S, 0, none⟩)] w fun e w' => e = .returned (.bool true) ∧ w' = w) := isMade_some S mode t d g w h
  have HS : Hid (Calls Tryz.prog 14 #[.int .i64 z] w fun e w' => e = .returned (.int .i64 (sizeN z : Nat)) ∧ Below w.heap.size w w') := sealedSize_any z hz w
  clear h
  generalize sizeN z = k at *
  go_enter Tryz.func9, Tryz.ntmps9
  go_wp2_with (first
    | (go_at_call 13; refine HM.out.mono ?_; rintro e w1 ⟨rfl, hw1⟩; obtain rfl : w = w1 := hw1.symm; clear hw1)
    | (go_at_call 14; refine HS.out.mono ?_; rintro e w1 ⟨rfl, hb1⟩))
  go_ret
  exact ⟨rfl, hb1⟩
theorem size_none (z : Int) (w : World) : Calls Tryz.prog 9 #[.pointer none, .int .i64 z] w fun e w' => e = .returned (.int .i64 0) ∧ w' = w := by
  go_enter Tryz.func9, Tryz.ntmps9
  go_wp2_with (go_at_call 13; refine (isMade_none _).mono ?_; rintro e w1 ⟨rfl, hw1⟩; obtain rfl : w = w1 := hw1.symm; clear hw1)
  go_ret
  exact ⟨rfl, rfl⟩

end Go.Proofs.YtclelancbfoenaaGreatDoor
