/-
  New of an ideal suite: the table of what a Prf was asked.
-/
import Derived.Test.YtkpjbleogjmbjaaDoorTapeAll
namespace Go.Proofs.YtkpjbleogjmbjaaDoor
open Go.RowKit

set_option maxRecDepth 100000 in
set_option maxHeartbeats 1000000 in
/-- New of an ideal suite. -/
theorem newIdeal_keys (t : Option Addr) (w : World) : Calls Tryd.prog 5 #[.int .i64 1, .pointer t] w fun e w' => e = .returned (.pointer (some ⟨w.heap.size + 7, 0, none⟩)) ∧ FreshAt w' w.heap.size (w.heap.size + 7) t ∧ MapAt Tryd.prog 77 w' (w.heap.size + 2) (fun _ => none) ∧ Below w.heap.size w w' ∧ w'.heap.size = w.heap.size + 8 := by
  go_enter Tryd.func5, Tryd.ntmps5
  go_wp2_with (first
    | (go_at_call 10; refine (newDigests_any _).mono ?_; rintro e w1 ⟨rfl, rfl⟩)
    | (go_at_call 11; refine (newDrawn_any _ _).mono ?_; rintro e w1 ⟨rfl, rfl⟩))
  go_ret
  have hs := size_digestsW w
  have hs2 := size_drawnW (digestsW w) t
  have hsz : (drawnW (digestsW w) t).heap.size = w.heap.size + 7 := by omega
  have hb : Below (w.heap.size + 7) (drawnW (digestsW w) t) ((drawnW (digestsW w) t).alloc (.cells #[.bool true, .int .i64 1, .pointer t, .pointer (some ⟨(digestsW w).heap.size + 4, 0, none⟩), .pointer (some ⟨w.heap.size + 1, 0, none⟩)] 48)) := (Below.refl _ _).alloc (by omega) _
  refine ⟨by rw [hsz]; rfl, ⟨?_, ?_, ?_, ?_, ?_⟩, ?_, ((below_digestsW w).trans ((below_drawnW _ t).mono (by omega))).alloc (by omega) _, by simp [hsz]⟩
  · have h := Row.new (drawnW (digestsW w) t) 48 #[.bool true, .int .i64 1, .pointer t, .pointer (some ⟨(digestsW w).heap.size + 4, 0, none⟩), .pointer (some ⟨w.heap.size + 1, 0, none⟩)]
    rw [hsz] at h
    rw [hs] at h ⊢
    exact h
  · refine Row.below (b := w.heap.size + 1) (Row.below (b := w.heap.size + 1) (Row.newAt (g := w.heap.size + 1) (w.alloc (.map #[] 0)) 64 _ (by simp)) (below_drawnW _ t) (by simp)) hb (by omega)
  · refine MapAt.below (MapAt.below ?_ (below_drawnW _ t) (by rw [hs]; omega)) hb (by omega)
    exact (MapAt.new Tryd.prog (38) w).below ((Below.refl _ _).alloc (Nat.le_refl _) _) (by simp)
  · refine Row.below ?_ hb (by omega)
    have h := Row.new (mapsW (digestsW w)) 70 #[.pointer t, .map (some (digestsW w).heap.size), .map (some ((digestsW w).heap.size + 1)), .map (some ((digestsW w).heap.size + 2)), .map (some ((digestsW w).heap.size + 3))]
    have e : (mapsW (digestsW w)).heap.size = w.heap.size + 6 := by simp [mapsW, hs]
    rw [e] at h
    rw [drawnW]
    rw [hs] at h ⊢
    exact h
  · refine MapAt.below ?_ hb (by omega)
    have h := MapAt.new Tryd.prog (9) ((digestsW w).alloc (.map #[] 0))
    rw [World.size_alloc, hs] at h
    exact (((h.below ((Below.refl _ _).alloc (Nat.le_refl _) _) (by simp [hs])).below ((Below.refl _ _).alloc (Nat.le_refl _) _) (by simp [hs])).below ((Below.refl _ _).alloc (Nat.le_refl _) _) (by simp [hs]))
  · refine MapAt.below ?_ hb (by omega)
    have h := MapAt.new Tryd.prog 77 (digestsW w)
    rw [hs] at h
    exact ((((h.below ((Below.refl _ _).alloc (Nat.le_refl _) _) (by simp [hs])).below ((Below.refl _ _).alloc (Nat.le_refl _) _) (by simp [hs])).below ((Below.refl _ _).alloc (Nat.le_refl _) _) (by simp [hs])).below ((Below.refl _ _).alloc (Nat.le_refl _) _) (by simp [hs]))

end Go.Proofs.YtkpjbleogjmbjaaDoor
