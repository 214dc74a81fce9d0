/-
  A suite in memory, and what New, isMade, Size make of it. Nothing that lay before a call has turned.
-/
import Derived.Test.YtkpjbleogjmbjaaDoorKey
import Derived.Test.YtkpjbleogjmbjaaDoorMaps
namespace Go.Proofs.YtkpjbleogjmbjaaDoor
open Go.RowKit

/-- Block S is a suite. -/
def SuiteAt (W : World) (S : Nat) (mode : Int) (t d g : Option Addr) : Prop := Row W S 48 [.bool true, .int .i64 mode, .pointer t, .pointer d, .pointer g]
theorem SuiteAt.below {W W' : World} {S n : Nat} {mode : Int} {t d g : Option Addr} (h : SuiteAt W S mode t d g) (hb : Below n W W') (hn : S < n) : SuiteAt W' S mode t d g := Row.below h hb hn
theorem SuiteAt.later {W W' : World} {S : Nat} {mode : Int} {t d g : Option Addr} (h : SuiteAt W S mode t d g) (hb : Below W.heap.size W W') : SuiteAt W' S mode t d g := Row.later h hb

set_option maxHeartbeats 1000000 in
theorem isMade_some (S : Nat) (mode : Int) (t d g : Option Addr) (w : World) (h : SuiteAt w S mode t d g) :
    Calls Tryd.prog 18 #[.pointer (some ⟨S, 0, none⟩)] w fun e w' => e = .returned (.bool true) ∧ w' = w := by
  have c0 := Row.cell h (i := 0) rfl
  clear h
  go_enter Tryd.func18, Tryd.ntmps18
  go_wp2
  go_ret
  exact ⟨rfl, rfl⟩
set_option maxHeartbeats 1000000 in
theorem isMade_none (w : World) : Calls Tryd.prog 18 #[.pointer none] w fun e w' => e = .returned (.bool false) ∧ w' = w := by
  go_enter Tryd.func18, Tryd.ntmps18
  go_wp2
  go_ret
  exact ⟨rfl, rfl⟩

/-- newDigests: a map without an entry, and a block that leads to it. -/
def digestsW (w : World) : World := (w.alloc (.map #[] 0)).alloc (.cells #[.map (some w.heap.size), .bool false, .string ByteArray.empty, .string ByteArray.empty] 64)
set_option maxHeartbeats 1000000 in
theorem newDigests_any (w : World) : Calls Tryd.prog 10 #[] w fun e w' => e = .returned (.pointer (some ⟨w.heap.size + 1, 0, none⟩)) ∧ w' = digestsW w := by
  have hmm := @run_makeMap Tryd.prog
  go_enter Tryd.func10, Tryd.ntmps10
  go_wp2
  go_ret
  exact ⟨by simp, rfl⟩

/-- newDrawn: four maps without an entry, and a block that leads to them. -/
def mapsW (w : World) : World := (((w.alloc (.map #[] 0)).alloc (.map #[] 0)).alloc (.map #[] 0)).alloc (.map #[] 0)
def drawnW (w : World) (t : Option Addr) : World := (mapsW w).alloc (.cells #[.pointer t, .map (some w.heap.size), .map (some (w.heap.size + 1)), .map (some (w.heap.size + 2)), .map (some (w.heap.size + 3))] 70)
set_option maxHeartbeats 1000000 in
theorem newDrawn_any (t : Option Addr) (w : World) : Calls Tryd.prog 11 #[.pointer t] w fun e w' => e = .returned (.pointer (some ⟨w.heap.size + 4, 0, none⟩)) ∧ w' = drawnW w t := by
  have hmm := @run_makeMap Tryd.prog
  go_enter Tryd.func11, Tryd.ntmps11
  go_wp2
  go_ret
  exact ⟨by simp, by simp [drawnW, mapsW]⟩

theorem below_digestsW (w : World) : Below w.heap.size w (digestsW w) := ((Below.refl _ w).alloc (Nat.le_refl _) _).alloc (by simp) _
theorem size_digestsW (w : World) : (digestsW w).heap.size = w.heap.size + 2 := by simp [digestsW]
theorem below_drawnW (w : World) (t : Option Addr) : Below w.heap.size w (drawnW w t) := ((((((Below.refl _ w).alloc (Nat.le_refl _) _).alloc (by simp) _).alloc (by simp; omega) _).alloc (by simp; omega) _).alloc (by simp; omega) _)
theorem size_drawnW (w : World) (t : Option Addr) : (drawnW w t).heap.size = w.heap.size + 5 := by simp [drawnW, mapsW]

set_option maxHeartbeats 1000000 in
/-- New of a real suite. -/
theorem newReal_any (t : Option Addr) (w : World) : Calls Tryd.prog 5 #[.int .i64 0, .pointer t] w fun e w' => e = .returned (.pointer (some ⟨w.heap.size + 2, 0, none⟩)) ∧ SuiteAt w' (w.heap.size + 2) 0 t none (some ⟨w.heap.size + 1, 0, none⟩) ∧ Row w' (w.heap.size + 1) 64 [.map (some w.heap.size), .bool false, .string ByteArray.empty, .string ByteArray.empty] ∧ MapAt Tryd.prog (38) w' w.heap.size (fun _ => none) ∧ Below w.heap.size w w' ∧ w'.heap.size = w.heap.size + 3 := by
  go_enter Tryd.func5, Tryd.ntmps5
  go_wp2_with (go_at_call 10; refine (newDigests_any _).mono ?_; rintro e w1 ⟨rfl, rfl⟩)
  go_ret
  have hs := size_digestsW w
  have hb : Below (w.heap.size + 2) (digestsW w) ((digestsW w).alloc (.cells #[.bool true, .int .i64 0, .pointer t, .pointer none, .pointer (some ⟨w.heap.size + 1, 0, none⟩)] 48)) := (Below.refl _ _).alloc (by omega) _
  refine ⟨by rw [hs]; rfl, Row.newAt _ _ _ hs, Row.below (Row.newAt _ _ _ (by simp)) hb (by omega), MapAt.below ?_ hb (by omega), (below_digestsW w).alloc (by omega) _, by simp [hs]⟩
  exact (MapAt.new Tryd.prog (38) w).below ((Below.refl _ _).alloc (Nat.le_refl _) _) (by simp)

/-- An ideal suite without an entry: all that it has is new. -/
structure FreshAt (W : World) (n S : Nat) (t : Option Addr) : Prop where
  suite : SuiteAt W S 1 t (some ⟨n + 6, 0, none⟩) (some ⟨n + 1, 0, none⟩)
  dig : Row W (n + 1) 64 [.map (some n), .bool false, .string ByteArray.empty, .string ByteArray.empty]
  first : MapAt Tryd.prog (38) W n (fun _ => none)
  drawn : Row W (n + 6) 70 [.pointer t, .map (some (n + 2)), .map (some (n + 3)), .map (some (n + 4)), .map (some (n + 5))]
  ids : MapAt Tryd.prog (9) W (n + 3) (fun _ => none)

set_option maxRecDepth 100000 in
set_option maxHeartbeats 1000000 in
/-- New of an ideal suite. -/
theorem newIdeal_any (t : Option Addr) (w : World) : Calls Tryd.prog 5 #[.int .i64 1, .pointer t] w fun e w' => e = .returned (.pointer (some ⟨w.heap.size + 7, 0, none⟩)) ∧ FreshAt w' w.heap.size (w.heap.size + 7) t ∧ Below w.heap.size w w' ∧ w'.heap.size = w.heap.size + 8 := by
  go_enter Tryd.func5, Tryd.ntmps5
  go_wp2_with (first
    | (go_at_call 10; refine (newDigests_any _).mono ?_; rintro e w1 ⟨rfl, rfl⟩)
    | (go_at_call 11; refine (newDrawn_any _ _).mono ?_; rintro e w1 ⟨rfl, rfl⟩))
  go_ret
  have hs := size_digestsW w
  have hs2 := size_drawnW (digestsW w) t
  have hsz : (drawnW (digestsW w) t).heap.size = w.heap.size + 7 := by omega
  have hb : Below (w.heap.size + 7) (drawnW (digestsW w) t) ((drawnW (digestsW w) t).alloc (.cells #[.bool true, .int .i64 1, .pointer t, .pointer (some ⟨(digestsW w).heap.size + 4, 0, none⟩), .pointer (some ⟨w.heap.size + 1, 0, none⟩)] 48)) := (Below.refl _ _).alloc (by omega) _
  refine ⟨by rw [hsz]; rfl, ⟨?_, ?_, ?_, ?_, ?_⟩, ((below_digestsW w).trans ((below_drawnW _ t).mono (by omega))).alloc (by omega) _, by simp [hsz]⟩
  · have h := Row.new (drawnW (digestsW w) t) 48 #[.bool true, .int .i64 1, .pointer t, .pointer (some ⟨(digestsW w).heap.size + 4, 0, none⟩), .pointer (some ⟨w.heap.size + 1, 0, none⟩)]
    rw [hsz] at h
    rw [hs] at h ⊢
    exact h
  · refine Row.below (b := w.heap.size + 1) (Row.below (b := w.heap.size + 1) (Row.newAt (g := w.heap.size + 1) (w.alloc (.map #[] 0)) 64 _ (by simp)) (below_drawnW _ t) (by simp)) hb (by omega)
  · refine MapAt.below (MapAt.below ?_ (below_drawnW _ t) (by rw [hs]; omega)) hb (by omega)
    exact (MapAt.new Tryd.prog (38) w).below ((Below.refl _ _).alloc (Nat.le_refl _) _) (by simp)
  · refine Row.below ?_ hb (by omega)
    have h := Row.new (mapsW (digestsW w)) 70 #[.pointer t, .map (some (digestsW w).heap.size), .map (some ((digestsW w).heap.size + 1)), .map (some ((digestsW w).heap.size + 2)), .map (some ((digestsW w).heap.size + 3))]
    have e : (mapsW (digestsW w)).heap.size = w.heap.size + 6 := by simp [mapsW, hs]
    rw [e] at h
    rw [drawnW]
    rw [hs] at h ⊢
    exact h
  · refine MapAt.below ?_ hb (by omega)
    have h := MapAt.new Tryd.prog (9) ((digestsW w).alloc (.map #[] 0))
    rw [World.size_alloc, hs] at h
    exact (((h.below ((Below.refl _ _).alloc (Nat.le_refl _) _) (by simp [hs])).below ((Below.refl _ _).alloc (Nat.le_refl _) _) (by simp [hs])).below ((Below.refl _ _).alloc (Nat.le_refl _) _) (by simp [hs]))

end Go.Proofs.YtkpjbleogjmbjaaDoor
