/-
  The reference's SameEnvelope of the same envelope; PutEnvelope, whatever it is asked.
-/
import Derived.Test.YtbaokodhoiledaaRefPut
import Derived.Test.YtbaokodhoiledaaSame
namespace Go.Proofs.Ytbaokodhoiledaa
open Go.RowKit

set_option maxRecDepth 100000 in
set_option maxHeartbeats 2000000 in
theorem sameEnv_any (kd : Int) (rl ep : Nat) (p : Option Addr) (len cap : Nat) (q : Option Addr) (lb cb : Nat) (p2 : Option Addr) (cap2 : Nat) (q2 : Option Addr) (cb2 : Nat) (ids : List (List Nat)) (bs : List Nat) (w : World)
    (hI : IsIds w.heap.size w p len cap ids) (hJ : IsBytes w.heap.size w q lb cb bs) (hI2 : IsIds w.heap.size w p2 len cap2 ids) (hJ2 : IsBytes w.heap.size w q2 lb cb2 bs) :
    Calls Try.prog 18 #[.agg #[.int .i64 kd, .int .u32 (rl : Nat), .int .u32 (ep : Nat), .slice p len cap, .slice q lb cb], .agg #[.int .i64 kd, .int .u32 (rl : Nat), .int .u32 (ep : Nat), .slice p2 len cap2, .slice q2 lb cb2]] w fun e w' => e = .returned (.bool true) ∧ Below w.heap.size w w' := by
  obtain ⟨wa, hwa⟩ : ∃ wa, w.alloc (.cells #[.int .i64 kd, .int .u32 (rl : Nat), .int .u32 (ep : Nat), .slice p len cap, .slice q lb cb] 31) = wa := ⟨_, rfl⟩
  obtain ⟨wb, hwb⟩ : ∃ wb, wa.alloc (.cells #[.int .i64 kd, .int .u32 (rl : Nat), .int .u32 (ep : Nat), .slice p2 len cap2, .slice q2 lb cb2] 31) = wb := ⟨_, rfl⟩
  have hba : Below w.heap.size w wa := by rw [← hwa]; exact (Below.refl _ w).alloc (Nat.le_refl _) _
  have hsa : wa.heap.size = w.heap.size + 1 := by rw [← hwa]; simp
  have hbb : Below wa.heap.size wa wb := by rw [← hwb]; exact (Below.refl _ wa).alloc (Nat.le_refl _) _
  have hB : Below w.heap.size w wb := hba.trans (hbb.mono hba.size)
  have hr1 : Row wb w.heap.size 31 [.int .i64 kd, .int .u32 (rl : Nat), .int .u32 (ep : Nat), .slice p len cap, .slice q lb cb] := Row.later (by rw [← hwa]; exact Row.new w 31 _) hbb
  have hr2 : Row wb (w.heap.size + 1) 31 [.int .i64 kd, .int .u32 (rl : Nat), .int .u32 (ep : Nat), .slice p2 len cap2, .slice q2 lb cb2] := by rw [← hwb, ← hsa]; exact Row.new wa 31 _
  have HW : Hid ((w.alloc (.cells #[.int .i64 kd, .int .u32 (rl : Nat), .int .u32 (ep : Nat), .slice p len cap, .slice q lb cb] 31)).alloc (.cells #[.int .i64 kd, .int .u32 (rl : Nat), .int .u32 (ep : Nat), .slice p2 len cap2, .slice q2 lb cb2] 31) = wb) := by show _ = _; rw [hwa, hwb]
  have HS : Hid (Calls Try.prog 8 #[.slice p len cap, .slice p2 len cap2] wb fun e w' => e = .returned (.bool true) ∧ Below wb.heap.size wb w') := sameIds_any p len cap p2 cap2 ids wb ((hI.below hB).mono hB.size) ((hI2.below hB).mono hB.size)
  have HJ1 : Hid (Str wb (.slice q lb cb) (strOf bs)) := str_of_bytes ((hJ.below hB).mono hB.size)
  have HJ2 : Hid (Str wb (.slice q2 lb cb2) (strOf bs)) := str_of_bytes ((hJ2.below hB).mono hB.size)
  have HR1 : Hid (Row wb w.heap.size 31 [.int .i64 kd, .int .u32 (rl : Nat), .int .u32 (ep : Nat), .slice p len cap, .slice q lb cb]) := hr1
  have HR2 : Hid (Row wb (w.heap.size + 1) 31 [.int .i64 kd, .int .u32 (rl : Nat), .int .u32 (ep : Nat), .slice p2 len cap2, .slice q2 lb cb2]) := hr2
  have HB : Hid (Below w.heap.size w wb) := hB
  clear hI hJ hI2 hJ2 hwa hwb hba hbb hB hr1 hr2 hsa
  generalize strOf bs = S at *
  go_enter Try.func18, Try.ntmps18
  go_wp2_with (go_at_call 8; rw [HW.out]; refine HS.out.mono ?_; rintro e w1 ⟨rfl, hb1⟩; have c4 := (HR1.out.later hb1).cell (i := 4) rfl; have d4 := (HR2.out.later hb1).cell (i := 4) rfl; have g1 := HJ1.out w1 hb1; have g2 := HJ2.out w1 hb1)
  go_ret
  exact ⟨rfl, HB.out.trans (hb1.mono HB.out.size)⟩

/-- PutEnvelope, refused. -/
theorem refPut_no (kd rl ep : Nat) (p : Option Addr) (len cap : Nat) (ids : List (List Nat)) (q : Option Addr) (lb cb : Nat) (bs : List Nat) (hk : (okKind kd && riseB ids) = false) (hrl : rl < 4294967296) (hep : ep < 4294967296) (hlen : len ≤ 1000) (hlb : lb ≤ 70000) (w : World)
    (hI : IsIds w.heap.size w p len cap ids) (hJ : IsBytes w.heap.size w q lb cb bs) :
    Calls Try.prog 13 #[.agg #[.int .i64 (kd : Nat), .int .u32 (rl : Nat), .int .u32 (ep : Nat), .slice p len cap, .slice q lb cb]] w fun e w' => e = .returned (.tuple #[.slice none 0 0, .int .i64 90]) ∧ Below w.heap.size w w' := by
  cases hkk : okKind kd with
  | false => exact refPut_bad kd rl ep p len cap q lb cb hkk w
  | true =>
    have hr : riseB ids = false := by rw [hkk] at hk; simpa using hk
    refine (refPut_ok kd rl ep p len cap ids q lb cb bs hkk hrl hep hlen hlb w hI hJ).mono ?_
    rintro e w' (⟨h, _⟩ | ⟨_, h⟩)
    · rw [hr] at h; cases h
    · exact h
/-- PutEnvelope, answered. -/
theorem refPut_yes (kd rl ep : Nat) (p : Option Addr) (len cap : Nat) (ids : List (List Nat)) (q : Option Addr) (lb cb : Nat) (bs : List Nat) (hk : (okKind kd && riseB ids) = true) (hrl : rl < 4294967296) (hep : ep < 4294967296) (hlen : len ≤ 1000) (hlb : lb ≤ 70000) (w : World)
    (hI : IsIds w.heap.size w p len cap ids) (hJ : IsBytes w.heap.size w q lb cb bs) :
    Calls Try.prog 13 #[.agg #[.int .i64 (kd : Nat), .int .u32 (rl : Nat), .int .u32 (ep : Nat), .slice p len cap, .slice q lb cb]] w fun e w' => ∃ v, e = .returned (.tuple #[v, .int .i64 0]) ∧ Own w.heap.size w' v (putE kd rl ep ids bs) ∧ Below w.heap.size w w' := by
  rw [Bool.and_eq_true] at hk
  refine (refPut_ok kd rl ep p len cap ids q lb cb bs hk.1 hrl hep hlen hlb w hI hJ).mono ?_
  rintro e w' (⟨_, h⟩ | ⟨h, _⟩)
  · exact h
  · rw [hk.2] at h; cases h
end Go.Proofs.Ytbaokodhoiledaa
