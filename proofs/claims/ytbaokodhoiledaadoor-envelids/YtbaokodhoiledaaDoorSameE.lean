/-
  The reference's SameEnvelope of the same envelope; PutEnvelope, whatever it is asked.
-/
import Derived.Test.YtbaokodhoiledaaDoorRefPut
import Derived.Test.YtbaokodhoiledaaDoorSame
namespace Go.Proofs.YtbaokodhoiledaaDoor
open Go.RowKit
/-- PutEnvelope, refused. -/
theorem refPut_no (kd rl ep : Nat) (p : Option Addr) (len cap : Nat) (ids : List (List Nat)) (q : Option Addr) (lb cb : Nat) (bs : List Nat) (hk : (okKind kd && riseB ids) = false) (hrl : rl < 4294967296) (hep : ep < 4294967296) (hlen : len ≤ 1000) (hlb : lb ≤ 70000) (w : World)
    (hI : IsIds w.heap.size w p len cap ids) (hJ : IsBytes w.heap.size w q lb cb bs) :
    Calls Tryd.prog 15 #[.agg #[.int .i64 (kd : Nat), .int .u32 (rl : Nat), .int .u32 (ep : Nat), .slice p len cap, .slice q lb cb]] w fun e w' => e = .returned (.tuple #[.slice none 0 0, .int .i64 90]) ∧ Below w.heap.size w w' := by
  cases hkk : okKind kd with
  | false => exact refPut_bad kd rl ep p len cap q lb cb hkk w
  | true =>
    have hr : riseB ids = false := by rw [hkk] at hk; simpa using hk
    refine (refPut_ok kd rl ep p len cap ids q lb cb bs hkk hrl hep hlen hlb w hI hJ).mono ?_
    rintro e w' (⟨h, _⟩ | ⟨_, h⟩)
    · rw [hr] at h; cases h
    · exact h
/-- PutEnvelope, answered. -/
theorem refPut_yes (kd rl ep : Nat) (p : Option Addr) (len cap : Nat) (ids : List (List Nat)) (q : Option Addr) (lb cb : Nat) (bs : List Nat) (hk : (okKind kd && riseB ids) = true) (hrl : rl < 4294967296) (hep : ep < 4294967296) (hlen : len ≤ 1000) (hlb : lb ≤ 70000) (w : World)
    (hI : IsIds w.heap.size w p len cap ids) (hJ : IsBytes w.heap.size w q lb cb bs) :
    Calls Tryd.prog 15 #[.agg #[.int .i64 (kd : Nat), .int .u32 (rl : Nat), .int .u32 (ep : Nat), .slice p len cap, .slice q lb cb]] w fun e w' => ∃ v, e = .returned (.tuple #[v, .int .i64 0]) ∧ Own w.heap.size w' v (putE kd rl ep ids bs) ∧ Below w.heap.size w w' := by
  rw [Bool.and_eq_true] at hk
  refine (refPut_ok kd rl ep p len cap ids q lb cb bs hk.1 hrl hep hlen hlb w hI hJ).mono ?_
  rintro e w' (⟨_, h⟩ | ⟨h, _⟩)
  · exact h
  · rw [hk.2] at h; cases h
end Go.Proofs.YtbaokodhoiledaaDoor
