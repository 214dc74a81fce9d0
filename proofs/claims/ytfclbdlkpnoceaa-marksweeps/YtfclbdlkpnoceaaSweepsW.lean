/-
  MarkSweeps, walked.
-/
import Derived.Test.YtfclbdlkpnoceaaSmO
namespace Go.Proofs.Ytfclbdlkpnoceaa
open Go.RowKit Go.Shelf Go.Maps
attribute [local go_sem] Oper.semAt_some

set_option maxRecDepth 100000 in
set_option maxHeartbeats 1000000 in
theorem markSweeps_walk (p : Option Addr) (len cap : Nat) (l : List O) (q : Option Addr) (rl rc : Nat) (roots : List (List Nat)) (w : World) (hI : IsObjs w.heap.size w p len cap l) (hR : IsIds w.heap.size w q rl rc roots) :
    Calls Try.prog 4 #[.slice p len cap, .slice q rl rc] w fun e w' => e = .returned (.bool true) ∧ Below w.heap.size w w' := by
  have HI : Hid (IsObjs w.heap.size w p len cap l) := hI
  have HR : Hid (IsIds w.heap.size w q rl rc roots) := hR
  clear hI hR
  by_cases hr20 : 20 < rl
  · have hri : (20 : Int) < (rl : Int) := by omega
    go_enter Try.func4, Try.ntmps4
    go_wp2_with (first
      | (go_at_call 7; refine (awake_any w).mono ?_; rintro e w1 ⟨rfl, b1⟩; have HF : Hid (Calls Try.prog 8 #[.slice p len cap] w1 fun e w' => ∃ b, e = .returned (.bool b) ∧ (b = true → (∀ o ∈ l, o.links.length ≤ 20) ∧ len ≤ 30) ∧ Below w1.heap.size w1 w') := few_any p len cap l w1 ((HI.out.below b1).mono b1.size))
      | (go_at_call 8; refine HF.out.mono ?_; rintro e w2 ⟨b, rfl, hfew, b2⟩; have HFew := (show Hid (b = true → _) from hfew); clear hfew; cases b))
    all_goals (go_ret; exact ⟨rfl, b1.trans (b2.mono b1.size)⟩)
  have hri : ¬ (20 : Int) < (rl : Int) := by omega
  go_enter Try.func4, Try.ntmps4
  go_wp2_with (first
    | (go_at_call 7; refine (awake_any w).mono ?_; rintro e w1 ⟨rfl, b1⟩; have HF : Hid (Calls Try.prog 8 #[.slice p len cap] w1 fun e w' => ∃ b, e = .returned (.bool b) ∧ (b = true → (∀ o ∈ l, o.links.length ≤ 20) ∧ len ≤ 30) ∧ Below w1.heap.size w1 w') := few_any p len cap l w1 ((HI.out.below b1).mono b1.size))
    | (go_at_call 8; refine HF.out.mono ?_; rintro e w2 ⟨b, rfl, hfew, b2⟩; have HFew := (show Hid (b = true → _) from hfew); clear hfew; cases b))
  · go_ret
    exact ⟨rfl, b1.trans (b2.mono b1.size)⟩
  obtain ⟨hln, hlen⟩ := HFew.out (by first | rfl | trivial)
  have b12 : Below w.heap.size w w2 := b1.trans (b2.mono b1.size)
  have hI2 : IsObjs w2.heap.size w2 p len cap l := (HI.out.below b12).mono b12.size
  have hR2 : IsIds w2.heap.size w2 q rl rc roots := (HR.out.below b12).mono b12.size
  have HSw : Hid (Calls Try.prog 14 #[.slice p len cap, .slice q rl rc] w2 (SweepPost w2 l roots)) := sweep_any p len cap q rl rc l roots (by omega) (by omega) (fun o ho => by have := hln o ho; omega) w2 hI2 hR2
  have HI2 := (show Hid (IsObjs _ _ _ _ _ _) from hI2)
  have HR2 := (show Hid (IsIds _ _ _ _ _ _) from hR2)
  have HLn : Hid (∀ o ∈ l, o.links.length ≤ 100) := fun o ho => by have := hln o ho; omega
  clear hI2 hR2 HI HR HF b1 b2 hln HFew
  go_wp2_with (first
    | (go_at_call 14; refine HSw.out.mono ?_; rintro e w3 ⟨q1, n1, ks, q2, n2, rfl, hob, hkey, hgo, b3⟩; have HOb := (show Hid (IsObjs _ _ _ _ _ _) from hob); have HGo := (show Hid (IsIds _ _ _ _ _ _) from hgo); have HKey := (show Hid (_ = _) from hkey); clear hob hkey hgo; have HRs : Hid (Calls Try.prog 15 #[.slice p len cap, .slice q rl rc] w3 (RefSweepPost w3 l roots)) := refSweep_any p len cap q rl rc l roots (by omega) HLn.out w3 (HI2.out.later b3) ((HR2.out.below b3).mono b3.size))
    | (go_at_call 15; refine HRs.out.mono ?_; rintro e w4 ⟨q3, n3, c3, q4, n4, c4, rfl, hob2, hgo2, b4⟩; obtain rfl : n3 = n1 := (by have h1 := hob2.1; have h2 := HOb.out.1; have h3 := congrArg List.length HKey.out; simp only [List.length_map] at h3; omega); obtain rfl : n4 = n2 := (by have h1 := hgo2.1; have h2 := HGo.out.1; omega); have HSo : Hid (Calls Try.prog 16 #[.slice q1 n3 n3, .slice q3 n3 c3] w4 fun e w' => e = .returned (.bool true) ∧ Below w4.heap.size w4 w') := sameObjs_any q1 n3 n3 ks q3 c3 _ HKey.out w4 (HOb.out.later b4) hob2; have HGo2 := (show Hid (IsIds _ _ _ _ _ _) from hgo2); clear hob2 hgo2)
    | (go_at_call 16; refine HSo.out.mono ?_; rintro e w5 ⟨rfl, b5⟩; have HSi : Hid (Calls Try.prog 11 #[.slice q2 n4 n4, .slice q4 n4 c4] w5 fun e w' => e = .returned (.bool true) ∧ Below w5.heap.size w5 w') := sameIds_any q2 n4 n4 q4 c4 (linksL (goneL l roots)) w5 (((HGo.out.below b4).mono b4.size |>.below b5).mono b5.size) ((HGo2.out.below b5).mono b5.size))
    | (go_at_call 11; refine HSi.out.mono ?_; rintro e w6 ⟨rfl, b6⟩))
  go_ret
  have s1 := b12.size; have s3 := b3.size; have s4 := b4.size; have s5 := b5.size
  exact ⟨rfl, (((b12.trans (b3.mono (by omega))).trans (b4.mono (by omega))).trans (b5.mono (by omega))).trans (b6.mono (by omega))⟩
end Go.Proofs.Ytfclbdlkpnoceaa
