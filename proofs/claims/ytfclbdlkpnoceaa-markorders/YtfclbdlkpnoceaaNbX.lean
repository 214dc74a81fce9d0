/-
  What Once needs: two ids held against each other; a round's room.
-/
import Derived.Test.YtfclbdlkpnoceaaNb2
import Derived.RegionIn
namespace Go.Proofs.Ytfclbdlkpnoceaa
open Go.RowKit

/-- The two that a round holds against each other. -/
def TwoAt (ids : List (List Nat)) (x : Nat) (A B : World) : Prop := Row B A.heap.size 33 (u8s (ids.getD x [])) ∧ Row B (A.heap.size + 1) 33 (u8s (ids.getD (x + 1) []))
theorem TwoAt.put {ids : List (List Nat)} {x l : Nat} {A B : World} (o : Obj) (h : TwoAt ids x A B) (hl : l < A.heap.size) : TwoAt ids x A (B.putObj l o) :=
  ⟨(World.putObj_heap_other (by omega)).trans h.1, (World.putObj_heap_other (by omega)).trans h.2⟩
theorem room_none {m m' : Nat} {P : Program} {l : Nat} {args : Array Value} {W : World} {R : Ending → World → Prop} (h : YieldAt Fence.wide m P l args W R) : YieldAt Fence.wide m' P l args W R := by
  obtain ⟨fn, tmps, assign, body, hy, hR⟩ := h
  exact ⟨fn, tmps, assign, body, hy, hR.1, fun c cs _ => hR.2 c cs (room_wide _)⟩
end Go.Proofs.Ytfclbdlkpnoceaa
