/-
  SameObjects, of objects that are alike.
-/
import Derived.Test.YtfclbdlkpnoceaaRSw
namespace Go.Proofs.Ytfclbdlkpnoceaa
open Go.RowKit Go.Shelf Go.Maps
attribute [local go_sem] Oper.semAt_some

theorem exec_neSame {a : Act} {o : Oper} {w : World} (x y : Operand) (ho : o.op = .binOp .neq 33 x y 33) {i : List Nat} (hx : a.eval x = idV i) (hy : a.eval y = idV i) (hi : IsId i) : (execOp a.eval o).run Try.prog w = .ok (.value (.bool false)) w := by
  rw [exec_neId x y ho hx hy hi hi, decide_eq_true rfl]
  rfl

set_option maxRecDepth 100000 in
set_option maxHeartbeats 1000000 in
theorem sameObjs_any (p : Option Addr) (len cap : Nat) (a : List O) (p2 : Option Addr) (cap2 : Nat) (b : List O) (hab : a.map O.key = b.map O.key) (w : World) (hI : IsObjs w.heap.size w p len cap a) (hJ : IsObjs w.heap.size w p2 len cap2 b) :
    Calls Try.prog 16 #[.slice p len cap, .slice p2 len cap2] w fun e w' => e = .returned (.bool true) ∧ Below w.heap.size w w' := by
  have HI : Hid (IsObjs w.heap.size w p len cap a) := hI
  have HJ : Hid (IsObjs w.heap.size w p2 len cap2 b) := hJ
  have hal := hI.1
  have hbl := hJ.1
  have hlc := hI.2.1
  have hcc := hI.2.2.1
  have hlc2 := hJ.2.1
  have hcc2 := hJ.2.2.1
  clear hI hJ
  go_enter Try.func16, Try.ntmps16
  go_wp2
  go_loopw [13] (fun i wr => ∃ (k : Nat), k ≤ len ∧ i = .int .i64 k ∧ Below w.heap.size w wr) (fun i _ => len - (intOf i).toNat)
  case atStart => exact ⟨0, Nat.zero_le _, rfl, Below.refl _ _⟩
  case round =>
    obtain ⟨k, hk, rfl, hb⟩ := hrel
    have hbs := hb.size
    have HB := (show Hid (Below _ _ _) from hb)
    by_cases hlt : k < len
    · have hki : (k : Int) < (len : Int) := by omega
      have hki0 : (0 : Int) ≤ (k : Int) := by omega
      obtain ⟨b1, o1, rfl, hb1, hr1, hok1, hm1⟩ := (HI.out.below hb).at hlt
      obtain ⟨b2, o2, rfl, hb2, hr2, hok2, hm2⟩ := (HJ.out.below hb).at hlt
      have hkey : (a.getD k noO).key = (b.getD k noO).key := by
        have := congrArg (fun z => z[k]?) hab
        simpa [List.getElem?_eq_getElem (show k < a.length by omega), List.getElem?_eq_getElem (show k < b.length by omega)] using this
      have hL1 : IsIds w.heap.size wr (a.getD k noO).q (a.getD k noO).n (a.getD k noO).c (a.getD k noO).links := (HI.out.2.2.2.2.1 _ hm1).below hb
      have hL2 : IsIds w.heap.size wr (b.getD k noO).q (b.getD k noO).n (b.getD k noO).c (b.getD k noO).links := (HJ.out.2.2.2.2.1 _ hm2).below hb
      clear hm1 hm2 hb
      generalize a.getD k noO = x at *
      generalize b.getD k noO = y at *
      have hid : x.id = y.id := congrArg (·.1) hkey
      have hlk : x.links = y.links := congrArg (fun z => z.2.1) hkey
      have hsz : x.size = y.size := congrArg (fun z => z.2.2) hkey
      have h01 : wr.rangeAt b1 (o1 + k * 34) (u8s x.id) := by
        have h := range_part (o := 0) (n := 32) hr1 (objC_id hok1)
        rwa [Nat.add_zero] at h
      have h02 : wr.rangeAt b2 (o2 + k * 34) (u8s x.id) := by
        have h := range_part (o := 0) (n := 32) hr2 (objC_id hok2)
        rw [Nat.add_zero] at h
        rw [hid]; exact h
      have hs1 := range_cell hr1 (objC_size hok1)
      have hs2 := range_cell hr2 (objC_size hok2)
      have hk1 := range_cell hr1 (objC_links hok1)
      have hk2 := range_cell hr2 (objC_links hok2)
      rw [← hsz] at hs2
      rw [← hlk] at hL2
      have hnn : y.n = x.n := by have := hL1.1; have := hL2.1; omega
      rw [hnn] at hL2 hk2
      have HS : Hid (∀ A, Below wr.heap.size wr A → (A.rangeAt b1 (o1 + k * 34) (u8s x.id) ∧ A.rangeAt b2 (o2 + k * 34) (u8s x.id)) ∧ (A.cell? ⟨b1, o1 + k * 34 + 33, none⟩ = some (.int .i64 x.size) ∧ A.cell? ⟨b2, o2 + k * 34 + 33, none⟩ = some (.int .i64 x.size)) ∧ A.cell? ⟨b1, o1 + k * 34 + 32, none⟩ = some (.slice x.q x.n x.c) ∧ A.cell? ⟨b2, o2 + k * 34 + 32, none⟩ = some (.slice y.q x.n y.c)) := fun A hA =>
        ⟨⟨rangeAt_below hA (by omega) h01, rangeAt_below hA (by omega) h02⟩, ⟨(hA.cell (p := ⟨b1, _, none⟩) (by show b1 < _; omega)).trans hs1, (hA.cell (p := ⟨b2, _, none⟩) (by show b2 < _; omega)).trans hs2⟩, (hA.cell (p := ⟨b1, _, none⟩) (by show b1 < _; omega)).trans hk1, (hA.cell (p := ⟨b2, _, none⟩) (by show b2 < _; omega)).trans hk2⟩
      have HSa : Hid (∀ A, Below wr.heap.size wr A → Calls Try.prog 11 #[.slice x.q x.n x.c, .slice y.q x.n y.c] A fun e w' => e = .returned (.bool true) ∧ Below A.heap.size A w') := fun A hA => by
        have hs := hA.size
        exact sameIds_any x.q x.n x.c y.q y.c x.links A ((hL1.below (hA.mono hbs)).mono (by omega)) ((hL2.below (hA.mono hbs)).mono (by omega))
      have hidx := hok1.1
      clear h01 h02 hs1 hs2 hk1 hk2 hL1 hL2 hr1 hr2 hkey hid hlk hsz hnn hok1 hok2
      generalize x.q = xq at *
      generalize x.n = xn at *
      generalize x.c = xc at *
      generalize y.q = yq at *
      generalize y.c = yc at *
      generalize x.size = xs at *
      generalize x.id = xi at *
      go_wp2
      refine wp_region_held_drew (S := fun A => (A.rangeAt b1 (o1 + k * 34) (u8s xi) ∧ A.rangeAt b2 (o2 + k * 34) (u8s xi)) ∧ (A.cell? ⟨b1, o1 + k * 34 + 33, none⟩ = some (.int .i64 xs) ∧ A.cell? ⟨b2, o2 + k * 34 + 33, none⟩ = some (.int .i64 xs)) ∧ A.cell? ⟨b1, o1 + k * 34 + 32, none⟩ = some (.slice xq xn xc) ∧ A.cell? ⟨b2, o2 + k * 34 + 32, none⟩ = some (.slice yq xn yc)) (by kernel_rfl) (HS.out _ (Below.refl _ _).drew) (fun hHeld => ?_)
      refine wpAnyH_takesAt 0 4 34 (of_decide_eq_true (by kernel_rfl)) rfl (fun _ _ _ d _ h => by cases d <;> exact h) (by kernel_rfl) (by kernel_rfl) hHeld ?_
      simp only [List.drop_zero, List.take_succ_cons, List.take_zero]
      iterate 4 (refine wpHeld_step (v := ?_) (by rfl) (fun wz hSw => ?_) ?_; rotate_left; (focus ((try dsimp only at hSw); go_simp; try with_reducible rfl)); (simp only [Act.put, List.setIfInBounds_toArray, List.set_cons_zero, List.set_cons_succ]))
      refine wpHeld_nil ?_
      refine wpAnyH_takesAt 4 1 33 (of_decide_eq_true (by kernel_rfl)) rfl (fun _ _ _ d _ h => by cases d <;> exact h) (by kernel_rfl) (by kernel_rfl) hHeld ?_
      simp only [List.drop_succ_cons, List.drop_zero, List.take_succ_cons, List.take_zero]
      refine wpHeld_load (by rfl) 33 (.tmp 19) rfl b1 (o1 + k * 34) rfl (u8s xi) (fun W hW => hW.1.1) Try.underlying33 (size33' hidx) ?_
      (simp only [Act.put]; (try simp only [List.setIfInBounds_toArray]); (try simp only [List.set_cons_succ]); (try simp only [List.set_cons_zero]))
      refine wpHeld_nil ?_
      refine wpAnyH_takesAt 5 4 29 (of_decide_eq_true (by kernel_rfl)) rfl (fun _ _ _ d _ h => by cases d <;> exact h) (by kernel_rfl) (by kernel_rfl) hHeld ?_
      simp only [List.drop_succ_cons, List.drop_zero, List.take_succ_cons, List.take_zero]
      iterate 4 (refine wpHeld_step (v := ?_) (by rfl) (fun wz hSw => ?_) ?_; rotate_left; (focus ((try dsimp only at hSw); go_simp; try with_reducible rfl)); (simp only [Act.put, List.setIfInBounds_toArray, List.set_cons_zero, List.set_cons_succ]))
      refine wpHeld_nil ?_
      refine wpAnyH_takesAt 9 1 28 (of_decide_eq_true (by kernel_rfl)) rfl (fun _ _ _ d _ h => by cases d <;> exact h) (by kernel_rfl) (by kernel_rfl) hHeld ?_
      simp only [List.drop_succ_cons, List.drop_zero, List.take_succ_cons, List.take_zero]
      refine wpHeld_load (by rfl) 33 (.tmp 24) rfl b2 (o2 + k * 34) rfl (u8s xi) (fun W hW => hW.1.2) Try.underlying33 (size33' hidx) ?_
      (simp only [Act.put]; (try simp only [List.setIfInBounds_toArray]); (try simp only [List.set_cons_succ]); (try simp only [List.set_cons_zero]))
      refine wpHeld_nil ?_
      refine wpAnyH_takesAt 10 1 27 (of_decide_eq_true (by kernel_rfl)) rfl (fun _ _ _ d _ h => by cases d <;> exact h) (by kernel_rfl) (by kernel_rfl) hHeld ?_
      simp only [List.drop_succ_cons, List.drop_zero, List.take_succ_cons, List.take_zero]
      refine wpHeld_step (v := .bool false) (by rfl) (fun wz _ => exec_neSame (.tmp 20) (.tmp 25) rfl (i := xi) rfl rfl hidx) ?_
      (simp only [Act.put]; (try simp only [List.setIfInBounds_toArray]); (try simp only [List.set_cons_succ]); (try simp only [List.set_cons_zero]))
      refine wpHeld_nil ?_
      refine wpAnyH_takesAt 11 1 26 (of_decide_eq_true (by kernel_rfl)) rfl (fun _ _ _ d _ h => by cases d <;> exact h) (by kernel_rfl) (by kernel_rfl) hHeld ?_
      simp only [List.drop_succ_cons, List.drop_zero, List.take_succ_cons, List.take_zero]
      iterate 1 (refine wpHeld_step (v := ?_) (by rfl) (fun wz hSw => ?_) ?_; rotate_left; (focus ((try dsimp only at hSw); go_simp; try with_reducible rfl)); ((simp only [Act.put]; (try simp only [List.setIfInBounds_toArray]); (try simp only [List.set_cons_succ]); (try simp only [List.set_cons_zero]))))
      refine wpHeld_nil ?_
      refine wpAnyH_takesAt 12 11 15 (of_decide_eq_true (by kernel_rfl)) rfl (fun _ _ _ d _ h => by cases d <;> exact h) (by kernel_rfl) (by kernel_rfl) hHeld ?_
      simp only [List.drop_succ_cons, List.drop_zero, List.take_succ_cons, List.take_zero]
      iterate 11 (refine wpHeld_step (v := ?_) (by rfl) (fun wz hSw => ?_) ?_; rotate_left; (focus ((obtain ⟨_, ⟨g1, g2⟩, _⟩ := hSw); go_simp; try with_reducible rfl)); (simp only [Act.put, List.setIfInBounds_toArray, List.set_cons_zero, List.set_cons_succ]))
      refine wpHeld_nil ?_
      refine wpAnyH_takesAt 23 2 13 (of_decide_eq_true (by kernel_rfl)) rfl (fun _ _ _ d _ h => by cases d <;> exact h) (by kernel_rfl) (by kernel_rfl) hHeld ?_
      simp only [List.drop_succ_cons, List.drop_zero, List.take_succ_cons, List.take_zero]
      iterate 2 (refine wpHeld_step (v := ?_) (by rfl) (fun wz hSw => ?_) ?_; rotate_left; (focus ((try dsimp only at hSw); go_simp; try with_reducible rfl)); (simp only [Act.put, List.setIfInBounds_toArray, List.set_cons_zero, List.set_cons_succ]))
      refine wpHeld_nil ?_
      refine wpAnyH_takesAt 25 10 3 (of_decide_eq_true (by kernel_rfl)) rfl (fun _ _ _ d _ h => by cases d <;> exact h) (by kernel_rfl) (by kernel_rfl) hHeld ?_
      simp only [List.drop_succ_cons, List.drop_zero, List.take_succ_cons, List.take_zero]
      iterate 10 (refine wpHeld_step (v := ?_) (by rfl) (fun wz hSw => ?_) ?_; rotate_left; (focus ((obtain ⟨_, _, g1, g2⟩ := hSw); go_simp; try with_reducible rfl)); (simp only [Act.put, List.setIfInBounds_toArray, List.set_cons_zero, List.set_cons_succ]))
      refine wpHeld_nil ?_
      refine wpAnyH_only (i := 35) (by kernel_rfl) rfl (fun K hK => ?_)
      rw [if_pos (by rfl)]
      go_simp
      refine (HSa.out _ (Below.refl _ _).drew).mono ?_
      rintro e A2 ⟨rfl, bA⟩
      have hHeld2 := HS.out A2 ((Below.refl _ _).drew.trans bA)
      refine hK.out _ _ hHeld2 ?_
      clear hK K hHeld
      have hHeld := hHeld2
      refine wpAnyH_takesAt 36 2 0 (of_decide_eq_true (by kernel_rfl)) rfl (fun _ _ _ d _ h => by cases d <;> exact h) (by kernel_rfl) (by kernel_rfl) hHeld ?_
      simp only [List.drop_succ_cons, List.drop_zero, List.take_succ_cons, List.take_zero]
      iterate 2 (refine wpHeld_step (v := ?_) (by rfl) (fun wz hSw => ?_) ?_; rotate_left; (focus ((try dsimp only at hSw); go_simp; try with_reducible rfl)); (simp only [Act.put, List.setIfInBounds_toArray, List.set_cons_zero, List.set_cons_succ]))
      refine wpHeld_nil ?_
      refine wpAnyH_done (by kernel_rfl) ?_ _
      clear hHeld hHeld2
      go_wp2
      go_roundw
      case rel => exact ⟨k + 1, by omega, by go_num, HB.out.trans (((Below.refl _ wr).drew.trans bA).mono hbs)⟩
      case measure => simp [intOf]; omega
    · obtain rfl : k = len := by omega
      go_wp2
      go_ret
      exact ⟨rfl, hb⟩
end Go.Proofs.Ytfclbdlkpnoceaa
