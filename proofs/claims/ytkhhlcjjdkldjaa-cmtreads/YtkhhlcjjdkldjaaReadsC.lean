/-
  CmtReads: the walk.
-/
import Derived.Test.YtkhhlcjjdkldjaaBackC
import Derived.Test.YtkhhlcjjdkldjaaRefOC
namespace Go.Proofs.Ytkhhlcjjdkldjaa
open Go.RowKit Go.Shelf

set_option maxRecDepth 100000 in
set_option maxHeartbeats 4000000 in
theorem cmtReads_walk (p : Option Addr) (len cap : Nat) (b : List Nat) (w : World) (hb : IsBytes w.heap.size w p len cap b) :
    Calls Try.prog 4 #[.slice p len cap] w fun e w' => e = .returned (.bool true) ∧ Below w.heap.size w w' := by
  have HAw := awake_any w
  by_cases hl : 5000 < len
  · have hli : (5000 : Int) < (len : Int) := by omega
    clear hb
    go_enter Try.func4, Try.ntmps4
    go_wp2_with (go_at_call 7; refine HAw.mono ?_; rintro e w1 ⟨rfl, hb1⟩)
    go_ret
    exact ⟨rfl, hb1⟩
  · have hli : ¬ (5000 : Int) < (len : Int) := by omega
    have HIW : Hid (∀ W, Below w.heap.size w W → IsBytes W.heap.size W p len cap b) := fun W h => (hb.below h).mono h.size
    have HO : Hid (∀ W, Below w.heap.size w W → Calls Try.prog 14 #[.slice p len cap] W (OfAll W b)) := fun W h => (of_any p len cap b (by omega) W (HIW.out W h)).mono fun _ _ h => h.all
    have HR : Hid (∀ W, Below w.heap.size w W → Calls Try.prog 15 #[.slice p len cap] W (OfAll W b)) := fun W h => (refOf_any p len cap b (by omega) W (HIW.out W h)).mono fun _ _ h => h.all
    have HOk : Hid (oC b).ok := oC_ok hb.2.2.2.1
    clear hb
    go_enter Try.func4, Try.ntmps4
    go_wp2_with (first
      | (go_at_call 7; refine HAw.mono ?_; rintro e w1 ⟨rfl, hb1⟩; have HB1 : Hid (Below w.heap.size w w1) := hb1; have H14 := HO.out w1 hb1; clear hb1)
      | (go_at_call 14; refine H14.mono ?_; clear H14; rintro e w2 ⟨p2, l2, c2, rfl, hI2, hb2⟩; have HI2 : Hid (IsIds w2.heap.size w2 p2 l2 c2 (oP b)) := hI2; have HB2 : Hid (Below w.heap.size w w2) := HB1.out.trans (hb2.mono HB1.out.size); clear hI2 hb2)
      | ((with_reducible show wpList _ _ _ (Oper.mk _ (Op.store 29 (.tmp 3) (.tmp 15)) _ _ _ _ :: _) _ _); refine wpList_storeNew rfl (.tmp 3) (.tmp 15) rfl (.slice p2 l2 c2) rfl (oC b) HOk.out rfl rfl (fun w3 hb3 hE3 => ?_); have HE3 : Hid (CmtAt w3 w2.heap.size (.slice p2 l2 c2) (oC b)) := hE3; have HB3 : Hid (Below w.heap.size w w3) := HB2.out.trans (hb3.mono HB2.out.size); have HI3 : Hid (IsIds w3.heap.size w3 p2 l2 c2 (oP b)) := (HI2.out.below hb3).mono hb3.size; have H15 := HR.out w3 HB3.out; clear hE3 hb3; simp only [Act.put])
      | (go_at_call 15; refine H15.mono ?_; clear H15; rintro e w4 ⟨p4, l4, c4, rfl, hI4, hb4⟩; have HI4 : Hid (IsIds w4.heap.size w4 p4 l4 c4 (oP b)) := hI4; have HI34 : Hid (IsIds w4.heap.size w4 p2 l2 c2 (oP b)) := (HI3.out.below hb4).mono hb4.size; have HE4 : Hid (CmtAt w4 w2.heap.size (.slice p2 l2 c2) (oC b)) := HE3.out.later hb4; have HB4 : Hid (Below w.heap.size w w4) := HB3.out.trans (hb4.mono HB3.out.size); clear hI4 hb4)
      | ((with_reducible show wpList _ _ _ (Oper.mk _ (Op.store 29 (.tmp 5) (.tmp 20)) _ _ _ _ :: _) _ _); refine wpList_storeNew rfl (.tmp 5) (.tmp 20) rfl (.slice p4 l4 c4) rfl (oC b) HOk.out rfl rfl (fun w5 hb5 hE5 => ?_); have HE5 : Hid (CmtAt w5 w4.heap.size (.slice p4 l4 c4) (oC b)) := hE5; have HF5 : Hid (CmtAt w5 w2.heap.size (.slice p2 l2 c2) (oC b)) := HE4.out.later hb5; have HB5 : Hid (Below w.heap.size w w5) := HB4.out.trans (hb5.mono HB4.out.size); have HS5 := sameCommit_any p2 l2 c2 (oP b) (oC b) p4 l4 c4 (oP b) (oC b) HOk.out HOk.out w5 ((HI34.out.below hb5).mono hb5.size) ((HI4.out.below hb5).mono hb5.size); rw [sameC_refl] at HS5; clear hE5 hb5; simp only [Act.put])
      | ((with_reducible show wpList _ _ _ (Oper.mk _ (Op.load 29 (.tmp 3)) _ _ _ _ :: _) _ _); refine wpList_load_want29 (by rfl) (.tmp 3) rfl rfl HOk.out HF5.out.row.range ?_; simp only [Act.put, List.setIfInBounds_toArray, List.set_cons_zero, List.set_cons_succ])
      | ((with_reducible show wpList _ _ _ (Oper.mk _ (Op.load 29 (.tmp 5)) _ _ _ _ :: _) _ _); refine wpList_load_want29 (by rfl) (.tmp 5) rfl rfl HOk.out HE5.out.row.range ?_; simp only [Act.put, List.setIfInBounds_toArray, List.set_cons_zero, List.set_cons_succ])
      | (go_at_call 16; refine HS5.mono ?_; rintro e w6 ⟨rfl, hb6⟩))
    go_ret
    exact ⟨rfl, HB5.out.trans (hb6.mono HB5.out.size)⟩
end Go.Proofs.Ytkhhlcjjdkldjaa
