/-
  What PadPuts answers: true, whatever the bytes. Nothing that lay before the call has turned.
-/
import Derived.Test.YtikiebcehaibaaaUnpad
namespace Go.Proofs.Ytikiebcehaibaaa
open Go.RowKit

set_option maxHeartbeats 1000000 in
theorem padPuts_long (p q : Option Addr) (len cap len2 cap2 : Nat) (h : 1000 < len ∨ 3000 < len2) (w : World) :
    Calls Try.prog 4 #[.slice p len cap, .slice q len2 cap2] w fun e w' => e = .returned (.bool true) ∧ Below w.heap.size w w' := by
  by_cases h1 : 1000 < len
  · have h1' : (1000 : Int) < (len : Int) := by omega
    go_enter Try.func4, Try.ntmps4
    go_wp2_with (go_at_call 7; refine (awake_any _).mono ?_; rintro e w1 ⟨rfl, hb1⟩)
    go_ret
    exact ⟨rfl, hb1⟩
  · have h1' : ¬ (1000 : Int) < (len : Int) := by omega
    have h2 : (3000 : Int) < (len2 : Int) := by omega
    go_enter Try.func4, Try.ntmps4
    go_wp2_with (go_at_call 7; refine (awake_any _).mono ?_; rintro e w1 ⟨rfl, hb1⟩)
    go_ret
    exact ⟨rfl, hb1⟩

set_option maxRecDepth 100000 in
set_option maxHeartbeats 1000000 in
theorem padPuts_some (p q : Option Addr) (len cap len2 cap2 : Nat) (zs cs : List Nat) (hlen : len ≤ 1000) (hlen2 : len2 ≤ 3000) (w : World) (hI : IsBytes w.heap.size w p len cap zs) (hJ : IsBytes w.heap.size w q len2 cap2 cs) :
    Calls Try.prog 4 #[.slice p len cap, .slice q len2 cap2] w fun e w' => e = .returned (.bool true) ∧ Below w.heap.size w w' := by
  have h : ¬ (1000 : Int) < (len : Int) := by omega
  have h2 : ¬ (3000 : Int) < (len2 : Int) := by omega

  have HPu : Hid (∀ W, Below w.heap.size w W → Calls Try.prog 11 #[.slice p len cap] W fun e w' => ∃ v, e = .returned (.tuple #[v, .int .i64 0]) ∧ Str w' v (strOf (padL zs)) ∧ Below W.heap.size W w') := fun W hW => by
    refine (put_some _ _ _ zs (by omega) _ (hI.later hW)).mono ?_
    rintro e w' ⟨g, rfl, ho, hb⟩
    exact ⟨_, rfl, str_of_row rfl ho, hb⟩
  have HPa : Hid (∀ W, Below w.heap.size w W → Calls Try.prog 12 #[.slice p len cap] W fun e w' => ∃ v, e = .returned (.tuple #[v, .int .i64 0]) ∧ Str w' v (strOf (padL zs)) ∧ Below W.heap.size W w') := fun W hW => by
    refine (refPad_some _ _ _ zs (by omega) _ (hI.later hW)).mono ?_
    rintro e w' ⟨q, c, rfl, ho, hb⟩
    exact ⟨_, rfl, str_of_row rfl ho, hb⟩
  have HOf : Hid (∀ W, Below w.heap.size w W → Calls Try.prog 13 #[.slice q len2 cap2] W fun e w' => ∃ v, e = .returned (.tuple #[v, .int .i64 (errU cs)]) ∧ Str w' v (strOf (textU cs)) ∧ Below W.heap.size W w') := fun W hW => of_any _ _ _ cs (by omega) _ (hJ.later hW)
  have HUn : Hid (∀ W, Below w.heap.size w W → Calls Try.prog 14 #[.slice q len2 cap2] W fun e w' => ∃ v, e = .returned (.tuple #[v, .int .i64 (errU cs)]) ∧ Str w' v (strOf (textU cs)) ∧ Below W.heap.size W w') := fun W hW => unpad_any _ _ _ cs (by omega) _ (hJ.later hW)
  clear hI hJ
  generalize strOf (padL zs) = S at *
  generalize strOf (textU cs) = T at *
  generalize errU cs = E at *
  go_enter Try.func4, Try.ntmps4
  go_wp2_with (first
    | (go_at_call 7; refine (awake_any _).mono ?_; rintro e w1 ⟨rfl, hb1⟩)
    | (go_at_call 11; refine (HPu.out _ hb1).mono ?_; rintro e w2 ⟨v2, rfl, hs2, hb2⟩; have k2 : Below w.heap.size w w2 := hb1.trans (hb2.mono hb1.size))
    | (go_at_call 12; refine (HPa.out _ k2).mono ?_; rintro e w3 ⟨v3, rfl, hs3, hb3⟩; have k3 : Below w.heap.size w w3 := k2.trans (hb3.mono k2.size))
    | (go_at_call 13; refine (HOf.out _ k3).mono ?_; rintro e w4 ⟨v4, rfl, hs4, hb4⟩; have k4 : Below w.heap.size w w4 := k3.trans (hb4.mono k3.size))
    | (go_at_call 14; refine (HUn.out _ k4).mono ?_; rintro e w5 ⟨v5, rfl, hs5, hb5⟩; have k5 : Below w.heap.size w w5 := k4.trans (hb5.mono k4.size); have c5 := hs5.here; have c4 := (hs4.later hb5).here; have c3 := ((hs3.later hb4).later hb5).here; have c2 := (((hs2.later hb3).later hb4).later hb5).here))
  go_ret
  exact ⟨rfl, k5⟩

/-- PadPuts -/
theorem padPuts_walk (p : Option Addr) (len cap : Nat) (zs : List Nat) (q : Option Addr) (len2 cap2 : Nat) (cs : List Nat) (w : World) (hI : IsBytes w.heap.size w p len cap zs) (hJ : IsBytes w.heap.size w q len2 cap2 cs) :
    Calls Try.prog 4 #[.slice p len cap, .slice q len2 cap2] w fun e w' => e = .returned (.bool true) ∧ Below w.heap.size w w' := by
  by_cases h : 1000 < len ∨ 3000 < len2
  · exact padPuts_long p q len cap len2 cap2 h w
  · exact padPuts_some p q len cap len2 cap2 zs cs (by omega) (by omega) w hI hJ

end Go.Proofs.Ytikiebcehaibaaa
