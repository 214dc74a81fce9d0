/-
  strings.Clone: the same text; nothing that lay before has turned.
-/
import Derived.Test.YtlmfdifnkkdpfaaNames
import Derived.Shelf.Pu.Clone
namespace Go.Proofs.Ytlmfdifnkkdpfaa
open Go.RowKit Go.Shelf

def clone_ren : Go.Shelf.Ren := ⟨fun | 25 => 85 | n => n, fun | 37 => 25 | 47 => 119 | n => n, fun | n => n⟩
theorem clone_lay : Go.Proofs.LaysPu.n25 Try.prog clone_ren := {
  mixed := by kernel_rfl
  f25 := Try.func85.trans (congrArg some (by kernel_rfl))
  t0 := Try.underlying0
  a0 := Try.isAgg0
  z0 := Try.sizeOf0
  v0 := Try.zeroValue0
  i0 := by kernel_rfl
  t3 := Try.underlying3
  a3 := Try.isAgg3
  z3 := Try.sizeOf3
  v3 := Try.zeroValue3
  i3 := by kernel_rfl
  t4 := Try.underlying4
  a4 := Try.isAgg4
  z4 := Try.sizeOf4
  v4 := Try.zeroValue4
  i4 := by kernel_rfl
  t5 := Try.underlying5
  a5 := Try.isAgg5
  z5 := Try.sizeOf5
  v5 := Try.zeroValue5
  i5 := by kernel_rfl
  t9 := Try.underlying9
  a9 := Try.isAgg9
  z9 := Try.sizeOf9
  v9 := Try.zeroValue9
  i9 := by kernel_rfl
  t37 := Try.underlying25
  a37 := Try.isAgg25
  z37 := Try.sizeOf25
  v37 := Try.zeroValue25
  i37 := by kernel_rfl
  t47 := Try.underlying119
  a47 := Try.isAgg119
  z47 := Try.sizeOf119
  v47 := Try.zeroValue119
  i47 := by kernel_rfl
  }

set_option maxHeartbeats 1000000 in
theorem sclone_any (s : ByteArray) (hs : s.size ≤ 1000000) (w : World) : Calls Try.prog 61 #[.string s] w fun e w' => e = .returned (.string s) ∧ Below w.heap.size w w' := by
  go_enter Try.func61, Try.ntmps61
  go_wp2_with (go_at_call 85; refine (AnyPu.stringslite_Clone clone_lay s w (by omega)).mono ?_; rintro e w1 ⟨rfl, hb1⟩)
  go_ret
  exact ⟨rfl, hb1⟩
end Go.Proofs.Ytlmfdifnkkdpfaa
