/-
  DirReads: the walk.
-/
import Derived.Test.YtlmfdifnkkdpfaaRefOD
import Derived.Test.YtlmfdifnkkdpfaaPutsW
namespace Go.Proofs.Ytlmfdifnkkdpfaa
open Go.RowKit Go.Shelf

/-- What Of answers. -/
def gotE (zs : List Nat) : List Ent := if isDir zs then dirL zs else []
def gotN (zs : List Nat) : Int := if isDir zs then 0 else 110
theorem gotE_name {zs : List Nat} (h : ∀ z ∈ zs, z < 256) : ∀ e ∈ gotE zs, e.name.size ≤ 1000000 := fun e he => by
  unfold gotE at he
  split at he
  · have := (esK_ok (sK_ahead h) (nK zs) e he).2; omega
  · cases he
theorem of_got (p : Option Addr) (len cap : Nat) (zs : List Nat) (w : World) (hI : IsBytes w.heap.size w p len cap zs) (hlen : len ≤ 60000) :
    Calls Try.prog 14 #[.slice p len cap] w fun e w' => ∃ q c, e = .returned (.tuple #[.slice q (gotE zs).length c, .int .i64 (gotN zs)]) ∧ IsEnts w'.heap.size w' q (gotE zs).length c (gotE zs) ∧ Below w.heap.size w w' := by
  refine (of_any p len cap zs w hI hlen).mono ?_
  rintro e w' ⟨q, l, c, rfl, hE, hb⟩
  have hl : (gotE zs).length = l := hE.1
  rw [hl]
  exact ⟨q, c, rfl, hE, hb⟩
theorem ref_got (p : Option Addr) (len cap : Nat) (zs : List Nat) (w : World) (hI : IsBytes w.heap.size w p len cap zs) (hlen : len ≤ 60000) :
    Calls Try.prog 15 #[.slice p len cap] w fun e w' => ∃ q c, e = .returned (.tuple #[.slice q (gotE zs).length c, .int .i64 (gotN zs)]) ∧ IsEnts w'.heap.size w' q (gotE zs).length c (gotE zs) ∧ Below w.heap.size w w' := by
  refine (refDirOf_any p len cap zs w hI hlen).mono ?_
  rintro e w' ⟨q, l, c, rfl, hE, hb⟩
  have hl : (gotE zs).length = l := hE.1
  rw [hl]
  exact ⟨q, c, rfl, hE, hb⟩

set_option maxRecDepth 100000 in
set_option maxHeartbeats 1000000 in
theorem dirReads_walk (p : Option Addr) (len cap : Nat) (zs : List Nat) (w : World) (hI : IsBytes w.heap.size w p len cap zs) :
    Calls Try.prog 4 #[.slice p len cap] w fun e w' => e = .returned (.bool true) ∧ Below w.heap.size w w' := by
  have HI : Hid (IsBytes w.heap.size w p len cap zs) := hI
  have HA := awake_any w
  have HNm : Hid (∀ e ∈ gotE zs, e.name.size ≤ 1000000) := gotE_name hI.2.2.2.1
  clear hI
  by_cases h3 : 3000 < len
  · have h3i : (3000 : Int) < (len : Int) := by omega
    go_enter Try.func4, Try.ntmps4
    go_wp2_with (go_at_call 8; refine HA.mono ?_; rintro e w1 ⟨rfl, hb1⟩)
    go_ret
    exact ⟨rfl, hb1⟩
  · have h3i : ¬ (3000 : Int) < (len : Int) := by omega
    have HOf : Hid (∀ W, Below w.heap.size w W → Calls Try.prog 14 #[.slice p len cap] W fun e w' => ∃ q c, e = .returned (.tuple #[.slice q (gotE zs).length c, .int .i64 (gotN zs)]) ∧ IsEnts w'.heap.size w' q (gotE zs).length c (gotE zs) ∧ Below W.heap.size W w') := fun W h => of_got p len cap zs W (HI.out.later h) (by omega)
    have HRf : Hid (∀ W, Below w.heap.size w W → Calls Try.prog 15 #[.slice p len cap] W fun e w' => ∃ q c, e = .returned (.tuple #[.slice q (gotE zs).length c, .int .i64 (gotN zs)]) ∧ IsEnts w'.heap.size w' q (gotE zs).length c (gotE zs) ∧ Below W.heap.size W w') := fun W h => ref_got p len cap zs W (HI.out.later h) (by omega)
    generalize gotE zs = E at *
    generalize gotN zs = N at *
    generalize E.length = L at *
    go_enter Try.func4, Try.ntmps4
    go_wp2_with (first
      | (go_at_call 8; refine HA.mono ?_; rintro e w1 ⟨rfl, hb1⟩)
      | (go_at_call 14; refine (HOf.out w1 hb1).mono ?_; rintro e w2 ⟨q2, c2, rfl, hE2, hb2⟩; have HE2 : Hid (IsEnts w2.heap.size w2 q2 L c2 E) := hE2; have HB2 : Hid (Below w.heap.size w w2) := hb1.trans (hb2.mono hb1.size); clear hE2 hb2 hb1)
      | (go_at_call 15; refine (HRf.out w2 HB2.out).mono ?_; rintro e w3 ⟨q3, c3, rfl, hE3, hb3⟩; have HE3 : Hid (IsEnts w3.heap.size w3 q3 L c3 E) := hE3; have HE23 : Hid (IsEnts w3.heap.size w3 q2 L c2 E) := HE2.out.later hb3; have HB3 : Hid (Below w.heap.size w w3) := HB2.out.trans (hb3.mono HB2.out.size); clear hE3 hb3 HE2 HB2)
      | (go_at_call 16; refine (sameEnts_any q2 L c2 q3 c3 E w3 HE23.out HE3.out HNm.out).mono ?_; rintro e w4 ⟨rfl, hb4⟩))
    go_ret
    exact ⟨rfl, HB3.out.trans (hb4.mono HB3.out.size)⟩

end Go.Proofs.Ytlmfdifnkkdpfaa
