/-
  Two lists of texts, two replies: whether they are alike.
-/
import Derived.Test.YtedpgdldekkgdaaGot
import Derived.Test.YtedpgdldekkgdaaLists
namespace Go.Proofs.Ytedpgdldekkgdaa
open Go.RowKit Go.Shelf

theorem beq_texts (x y : ByteArray) : (x.toList == y.toList) = decide (x = y) := by
  by_cases h : x = y
  · subst h
    simp
  · rw [decide_eq_false h]
    refine beq_eq_false_iff_ne.2 (fun e => h ?_)
    rw [ByteArray.toList_eq, ByteArray.toList_eq] at e
    apply ByteArray.ext
    exact Array.ext' e
theorem strOf_inj {x y : List Nat} (hx : ∀ z ∈ x, z < 256) (hy : ∀ z ∈ y, z < 256) (h : strOf x = strOf y) : x = y := by
  rw [← nameL_strOf hx, ← nameL_strOf hy, h]
theorem beq_bytes {x y : List Nat} (hx : ∀ z ∈ x, z < 256) (hy : ∀ z ∈ y, z < 256) : ((strOf x).toList == (strOf y).toList) = decide (x = y) := by
  rw [beq_texts]
  by_cases h : x = y
  · rw [h, decide_eq_true rfl, decide_eq_true rfl]
  · rw [decide_eq_false h, decide_eq_false (fun e => h (strOf_inj hx hy e))]
theorem strs_take {xs ys : List ByteArray} {k : Nat} (hx : k < xs.length) (hy : k < ys.length) (h : xs.take k = ys.take k) (he : xs[k] = ys[k]) : xs.take (k + 1) = ys.take (k + 1) := by
  rw [List.take_succ_eq_append_getElem hx, List.take_succ_eq_append_getElem hy, h, he]

set_option maxRecDepth 100000 in
set_option maxHeartbeats 1000000 in
theorem equalS_any (p : Option Addr) (len cap : Nat) (xs : List ByteArray) (p2 : Option Addr) (len2 cap2 : Nat) (ys : List ByteArray) (w : World) (hI : IsStrs w.heap.size w p len cap xs) (hJ : IsStrs w.heap.size w p2 len2 cap2 ys) :
    Calls Try.prog 42 #[.slice p len cap, .slice p2 len2 cap2] w fun e w' => e = .returned (.bool (decide (xs = ys))) ∧ Below w.heap.size w w' := by
  have HI : Hid (IsStrs w.heap.size w p len cap xs) := hI
  have HJ : Hid (IsStrs w.heap.size w p2 len2 cap2 ys) := hJ
  have HL : Hid (xs.length = len) := hI.1
  have HL2 : Hid (ys.length = len2) := hJ.1
  have hlc := hI.2.1
  have hcc := hI.2.2.1
  have hlc2 := hJ.2.1
  have hcc2 := hJ.2.2.1
  clear hI hJ
  obtain ⟨dd, hdd⟩ : ∃ dd, decide (xs = ys) = dd := ⟨_, rfl⟩
  have HDd : Hid (decide (xs = ys) = dd) := hdd
  rw [hdd]
  clear hdd
  by_cases hne : len = len2
  · subst hne
    go_enter Try.func42, Try.ntmps42
    go_wp2
    go_loopw [13] (fun i wr => ∃ (k : Nat), k ≤ len ∧ i = .int .i64 k ∧ xs.take k = ys.take k ∧ Below w.heap.size w wr) (fun i _ => len - (intOf i).toNat)
    case atStart => exact ⟨0, Nat.zero_le _, rfl, rfl, Below.refl _ _⟩
    case round =>
      obtain ⟨k, hk, rfl, htk, hbel⟩ := hrel
      have HTk : Hid (xs.take k = ys.take k) := htk
      clear htk
      by_cases hlt : k < len
      · have hki : (k : Int) < (len : Int) := by omega
        have hkx : k < xs.length := by rw [HL.out]; exact hlt
        have hky : k < ys.length := by rw [HL2.out]; exact hlt
        obtain ⟨b, off, rfl, hb, hcell⟩ : ∃ b off, p = some ⟨b, off, none⟩ ∧ b < w.heap.size ∧ ∀ i (h : i < xs.length), wr.cell? ⟨b, off + i, none⟩ = some (.string xs[i]) := by
          rcases (HI.out.below hbel).2.2.2 with h | h
          · omega
          · exact h
        obtain ⟨b2, off2, rfl, hb2, hcell2⟩ : ∃ b off, p2 = some ⟨b, off, none⟩ ∧ b < w.heap.size ∧ ∀ i (h : i < ys.length), wr.cell? ⟨b, off + i, none⟩ = some (.string ys[i]) := by
          rcases (HJ.out.below hbel).2.2.2 with h | h
          · omega
          · exact h
        have c1 := hcell k hkx
        have c2 := hcell2 k hky
        have HTs : Hid (xs[k] = ys[k] → xs.take (k + 1) = ys.take (k + 1)) := strs_take hkx hky HTk.out
        have HNe : Hid (¬ xs[k] = ys[k] → ¬ xs = ys) := fun h e => h (by subst e; rfl)
        clear hcell hcell2
        have hbt := beq_texts xs[k] ys[k]
        generalize xs[k] = x at *
        generalize ys[k] = y at *
        have HS : Hid (wr.drew.cell? ⟨b, off + k, none⟩ = some (.string x) ∧ wr.drew.cell? ⟨b2, off2 + k, none⟩ = some (.string y)) := ⟨c1, c2⟩
        clear c1 c2
        by_cases hxy : x = y
        · rw [decide_eq_true hxy] at hbt
          have HT1 : Hid (xs.take (k + 1) = ys.take (k + 1)) := HTs.out hxy
          clear hxy
          go_wp2
          refine wp_region_held_drew (S := fun W => W.cell? ⟨b, off + k, none⟩ = some (.string x) ∧ W.cell? ⟨b2, off2 + k, none⟩ = some (.string y)) (by kernel_rfl) HS.out (fun hHeld => ?_)
          refine wpAnyH_takesAt 0 9 0 (of_decide_eq_true (by kernel_rfl)) rfl (fun _ _ _ d _ h => by cases d <;> exact h) (by kernel_rfl) (by kernel_rfl) hHeld ?_
          simp only [List.drop_zero, List.take_succ_cons, List.take_zero]
          iterate 9 (refine wpHeld_step (v := ?_) (by rfl) (fun wz hSw => ?_) ?_; rotate_left; (focus (obtain ⟨hc1, hc2⟩ := hSw; go_simp; try with_reducible rfl)); (simp only [Act.put, List.setIfInBounds_toArray, List.set_cons_zero, List.set_cons_succ]))
          refine wpHeld_nil ?_
          refine wpAnyH_done (by kernel_rfl) ?_ _
          go_wp2
          go_roundw
          case rel => exact ⟨k + 1, by omega, by go_num, HT1.out, hbel.drew⟩
          case measure => simp [intOf]; omega
        · rw [decide_eq_false hxy] at hbt
          have HD : Hid (dd = false) := by show _ = _; rw [← HDd.out]; exact decide_eq_false (HNe.out hxy)
          clear hxy
          go_wp2
          refine wp_region_held_drew (S := fun W => W.cell? ⟨b, off + k, none⟩ = some (.string x) ∧ W.cell? ⟨b2, off2 + k, none⟩ = some (.string y)) (by kernel_rfl) HS.out (fun hHeld => ?_)
          refine wpAnyH_takesAt 0 9 0 (of_decide_eq_true (by kernel_rfl)) rfl (fun _ _ _ d _ h => by cases d <;> exact h) (by kernel_rfl) (by kernel_rfl) hHeld ?_
          simp only [List.drop_zero, List.take_succ_cons, List.take_zero]
          iterate 9 (refine wpHeld_step (v := ?_) (by rfl) (fun wz hSw => ?_) ?_; rotate_left; (focus (obtain ⟨hc1, hc2⟩ := hSw; go_simp; try with_reducible rfl)); (simp only [Act.put, List.setIfInBounds_toArray, List.set_cons_zero, List.set_cons_succ]))
          refine wpHeld_nil ?_
          refine wpAnyH_done (by kernel_rfl) ?_ _
          go_wp2
          go_ret
          exact ⟨by rw [HD.out]; rfl, hbel.drew⟩
      · obtain rfl : k = len := by omega
        have HD : Hid (dd = true) := by
          show _ = _
          rw [← HDd.out]
          have := HTk.out
          rw [List.take_of_length_le (by rw [HL.out]; omega), List.take_of_length_le (by rw [HL2.out]; omega)] at this
          exact decide_eq_true this
        go_wp2
        go_ret
        exact ⟨by rw [HD.out]; rfl, hbel⟩
  · have hnei : ¬ (len : Int) = (len2 : Int) := by omega
    have HD : Hid (dd = false) := by
      show _ = _
      rw [← HDd.out]
      exact decide_eq_false (fun e => hne (by rw [← HL.out, ← HL2.out, e]))
    go_enter Try.func42, Try.ntmps42
    go_wp2
    go_ret
    exact ⟨by rw [HD.out]; rfl, Below.refl _ _⟩

set_option maxRecDepth 100000 in
set_option maxHeartbeats 1000000 in
theorem sameS_any (p : Option Addr) (len cap : Nat) (xs : List ByteArray) (p2 : Option Addr) (len2 cap2 : Nat) (ys : List ByteArray) (w : World) (hI : IsStrs w.heap.size w p len cap xs) (hJ : IsStrs w.heap.size w p2 len2 cap2 ys) :
    Calls Try.prog 40 #[.slice p len cap, .slice p2 len2 cap2] w fun e w' => e = .returned (.bool (decide (xs = ys))) ∧ Below w.heap.size w w' := by
  have HI : Hid (IsStrs w.heap.size w p len cap xs) := hI
  have HJ : Hid (IsStrs w.heap.size w p2 len2 cap2 ys) := hJ
  have HL : Hid (xs.length = len) := hI.1
  have HL2 : Hid (ys.length = len2) := hJ.1
  have hlc := hI.2.1
  have hcc := hI.2.2.1
  have hlc2 := hJ.2.1
  have hcc2 := hJ.2.2.1
  clear hI hJ
  obtain ⟨dd, hdd⟩ : ∃ dd, decide (xs = ys) = dd := ⟨_, rfl⟩
  have HDd : Hid (decide (xs = ys) = dd) := hdd
  rw [hdd]
  clear hdd
  by_cases hne : len = len2
  · subst hne
    go_enter Try.func40, Try.ntmps40
    go_wp2
    go_loopw [13] (fun i wr => ∃ (k : Nat), k ≤ len ∧ i = .int .i64 k ∧ xs.take k = ys.take k ∧ Below w.heap.size w wr) (fun i _ => len - (intOf i).toNat)
    case atStart => exact ⟨0, Nat.zero_le _, rfl, rfl, Below.refl _ _⟩
    case round =>
      obtain ⟨k, hk, rfl, htk, hbel⟩ := hrel
      have HTk : Hid (xs.take k = ys.take k) := htk
      clear htk
      by_cases hlt : k < len
      · have hki : (k : Int) < (len : Int) := by omega
        have hkx : k < xs.length := by rw [HL.out]; exact hlt
        have hky : k < ys.length := by rw [HL2.out]; exact hlt
        obtain ⟨b, off, rfl, hb, hcell⟩ : ∃ b off, p = some ⟨b, off, none⟩ ∧ b < w.heap.size ∧ ∀ i (h : i < xs.length), wr.cell? ⟨b, off + i, none⟩ = some (.string xs[i]) := by
          rcases (HI.out.below hbel).2.2.2 with h | h
          · omega
          · exact h
        obtain ⟨b2, off2, rfl, hb2, hcell2⟩ : ∃ b off, p2 = some ⟨b, off, none⟩ ∧ b < w.heap.size ∧ ∀ i (h : i < ys.length), wr.cell? ⟨b, off + i, none⟩ = some (.string ys[i]) := by
          rcases (HJ.out.below hbel).2.2.2 with h | h
          · omega
          · exact h
        have c1 := hcell k hkx
        have c2 := hcell2 k hky
        have HTs : Hid (xs[k] = ys[k] → xs.take (k + 1) = ys.take (k + 1)) := strs_take hkx hky HTk.out
        have HNe : Hid (¬ xs[k] = ys[k] → ¬ xs = ys) := fun h e => h (by subst e; rfl)
        clear hcell hcell2
        have hbt := beq_texts xs[k] ys[k]
        generalize xs[k] = x at *
        generalize ys[k] = y at *
        have HS : Hid (wr.drew.cell? ⟨b, off + k, none⟩ = some (.string x) ∧ wr.drew.cell? ⟨b2, off2 + k, none⟩ = some (.string y)) := ⟨c1, c2⟩
        clear c1 c2
        by_cases hxy : x = y
        · rw [decide_eq_true hxy] at hbt
          have HT1 : Hid (xs.take (k + 1) = ys.take (k + 1)) := HTs.out hxy
          clear hxy
          go_wp2
          refine wp_region_held_drew (S := fun W => W.cell? ⟨b, off + k, none⟩ = some (.string x) ∧ W.cell? ⟨b2, off2 + k, none⟩ = some (.string y)) (by kernel_rfl) HS.out (fun hHeld => ?_)
          refine wpAnyH_takesAt 0 9 0 (of_decide_eq_true (by kernel_rfl)) rfl (fun _ _ _ d _ h => by cases d <;> exact h) (by kernel_rfl) (by kernel_rfl) hHeld ?_
          simp only [List.drop_zero, List.take_succ_cons, List.take_zero]
          iterate 9 (refine wpHeld_step (v := ?_) (by rfl) (fun wz hSw => ?_) ?_; rotate_left; (focus (obtain ⟨hc1, hc2⟩ := hSw; go_simp; try with_reducible rfl)); (simp only [Act.put, List.setIfInBounds_toArray, List.set_cons_zero, List.set_cons_succ]))
          refine wpHeld_nil ?_
          refine wpAnyH_done (by kernel_rfl) ?_ _
          go_wp2
          go_roundw
          case rel => exact ⟨k + 1, by omega, by go_num, HT1.out, hbel.drew⟩
          case measure => simp [intOf]; omega
        · rw [decide_eq_false hxy] at hbt
          have HD : Hid (dd = false) := by show _ = _; rw [← HDd.out]; exact decide_eq_false (HNe.out hxy)
          clear hxy
          go_wp2
          refine wp_region_held_drew (S := fun W => W.cell? ⟨b, off + k, none⟩ = some (.string x) ∧ W.cell? ⟨b2, off2 + k, none⟩ = some (.string y)) (by kernel_rfl) HS.out (fun hHeld => ?_)
          refine wpAnyH_takesAt 0 9 0 (of_decide_eq_true (by kernel_rfl)) rfl (fun _ _ _ d _ h => by cases d <;> exact h) (by kernel_rfl) (by kernel_rfl) hHeld ?_
          simp only [List.drop_zero, List.take_succ_cons, List.take_zero]
          iterate 9 (refine wpHeld_step (v := ?_) (by rfl) (fun wz hSw => ?_) ?_; rotate_left; (focus (obtain ⟨hc1, hc2⟩ := hSw; go_simp; try with_reducible rfl)); (simp only [Act.put, List.setIfInBounds_toArray, List.set_cons_zero, List.set_cons_succ]))
          refine wpHeld_nil ?_
          refine wpAnyH_done (by kernel_rfl) ?_ _
          go_wp2
          go_ret
          exact ⟨by rw [HD.out]; rfl, hbel.drew⟩
      · obtain rfl : k = len := by omega
        have HD : Hid (dd = true) := by
          show _ = _
          rw [← HDd.out]
          have := HTk.out
          rw [List.take_of_length_le (by rw [HL.out]; omega), List.take_of_length_le (by rw [HL2.out]; omega)] at this
          exact decide_eq_true this
        go_wp2
        go_ret
        exact ⟨by rw [HD.out]; rfl, hbel⟩
  · have hnei : ¬ (len : Int) = (len2 : Int) := by omega
    have HD : Hid (dd = false) := by
      show _ = _
      rw [← HDd.out]
      exact decide_eq_false (fun e => hne (by rw [← HL.out, ← HL2.out, e]))
    go_enter Try.func40, Try.ntmps40
    go_wp2
    go_ret
    exact ⟨by rw [HD.out]; rfl, Below.refl _ _⟩

set_option maxHeartbeats 1000000 in
theorem bytesEq_any (p : Option Addr) (len cap : Nat) (b : List Nat) (p2 : Option Addr) (len2 cap2 : Nat) (b2 : List Nat) (w : World) (hI : IsBytes w.heap.size w p len cap b) (hJ : IsBytes w.heap.size w p2 len2 cap2 b2) :
    Calls Try.prog 41 #[.slice p len cap, .slice p2 len2 cap2] w fun e w' => e = .returned (.bool (decide (b = b2))) ∧ w' = w := by
  have hs1 := (str_of_bytes hI).here
  have hs2 := (str_of_bytes hJ).here
  have hbt := beq_bytes hI.2.2.2.1 hJ.2.2.2.1
  obtain ⟨dd, hdd⟩ : ∃ dd, decide (b = b2) = dd := ⟨_, rfl⟩
  rw [hdd] at hbt ⊢
  clear hI hJ hdd
  go_enter Try.func41, Try.ntmps41
  go_wp2
  go_ret
  exact ⟨rfl, rfl⟩

/-- Whether two replies are alike. -/
def sameP (a : Rep) (x : List Nat) (xs : List ByteArray) (b : Rep) (y : List Nat) (ys : List ByteArray) : Bool :=
  decide (a.client = b.client) && (decide (a.seq = b.seq) && (decide (a.err = b.err) && (decide (a.id = b.id) && (decide (a.n = b.n) && (decide (x = y) && decide (xs = ys))))))
theorem sameP_refl (a : Rep) (x : List Nat) (xs : List ByteArray) : sameP a x xs a x xs = true := by simp [sameP]

set_option maxRecDepth 100000 in
set_option maxHeartbeats 8000000 in
theorem sameR_any (p : Option Addr) (len cap : Nat) (x : List Nat) (q : Option Addr) (l c : Nat) (xs : List ByteArray) (a : Rep) (p2 : Option Addr) (len2 cap2 : Nat) (y : List Nat) (q2 : Option Addr) (l2 c2 : Nat) (ys : List ByteArray) (b : Rep) (hoa : a.ok) (hob : b.ok) (w : World)
    (hI : IsBytes w.heap.size w p len cap x) (hJ : IsBytes w.heap.size w p2 len2 cap2 y) (hM : IsStrs w.heap.size w q l c xs) (hN : IsStrs w.heap.size w q2 l2 c2 ys) :
    Calls Try.prog 21 #[.agg (repC (.slice p len cap) (.slice q l c) a).toArray, .agg (repC (.slice p2 len2 cap2) (.slice q2 l2 c2) b).toArray] w fun e w' => e = .returned (.bool (sameP a x xs b y ys)) ∧ Below w.heap.size w w' := by
  obtain ⟨w0, hw0⟩ : ∃ w0, (w.alloc (.cells (repC (.slice p len cap) (.slice q l c) a).toArray 44)).alloc (.cells (repC (.slice p2 len2 cap2) (.slice q2 l2 c2) b).toArray 44) = w0 := ⟨_, rfl⟩
  have hb0 : Below w.heap.size w w0 := by rw [← hw0]; exact ((Below.refl _ w).alloc (Nat.le_refl _) _).alloc (by simp) _
  have hA : RepAt w0 w.heap.size (.slice p len cap) (.slice q l c) a := by rw [← hw0]; exact (RepAt.new w _ _ a hoa).later ((Below.refl _ _).alloc (Nat.le_refl _) _)
  have hB : RepAt w0 (w.heap.size + 1) (.slice p2 len2 cap2) (.slice q2 l2 c2) b := by
    rw [← hw0]
    have := RepAt.new (w.alloc (.cells (repC (.slice p len cap) (.slice q l c) a).toArray 44)) (.slice p2 len2 cap2) (.slice q2 l2 c2) b hob
    rwa [World.size_alloc] at this
  have HW0 : Hid ((w.alloc (.cells (repC (.slice p len cap) (.slice q l c) a).toArray 44)).alloc (.cells (repC (.slice p2 len2 cap2) (.slice q2 l2 c2) b).toArray 44) = w0) := hw0
  have HA : Hid (RepAt w0 w.heap.size (.slice p len cap) (.slice q l c) a) := hA
  have HB : Hid (RepAt w0 (w.heap.size + 1) (.slice p2 len2 cap2) (.slice q2 l2 c2) b) := hB
  have a0 := hA.client
  have a1 := hA.seq
  have a2 := hA.err
  have a4 := hA.n
  have a5 := hA.body
  have a6 := hA.names
  have b0 := hB.client
  have b1 := hB.seq
  have b2 := hB.err
  have b4 := hB.n
  have b5 := hB.body
  have b6 := hB.names
  have hq := equal_ids hoa.id hob.id
  have HoA : Hid a.ok := hoa
  have HoB : Hid b.ok := hob
  have HBy : Hid (Calls Try.prog 41 #[.slice p len cap, .slice p2 len2 cap2] w0 fun e w' => e = .returned (.bool (decide (x = y))) ∧ w' = w0) := bytesEq_any p len cap x p2 len2 cap2 y w0 ((hI.below hb0).mono hb0.size) ((hJ.below hb0).mono hb0.size)
  have HNm : Hid (Calls Try.prog 42 #[.slice q l c, .slice q2 l2 c2] w0 fun e w' => e = .returned (.bool (decide (xs = ys))) ∧ Below w0.heap.size w0 w') := equalS_any q l c xs q2 l2 c2 ys w0 (hM.later hb0) (hN.later hb0)
  clear hA hB hw0 hI hJ hM hN hoa hob
  unfold sameP
  by_cases h0 : a.client = b.client
  rotate_left
  · rw [decide_eq_false h0]
    have g0 : ¬ ((a.client : Nat) : Int) = ((b.client : Nat) : Int) := by omega
    go_enter Try.func21, Try.ntmps21
    go_wp2_with (first
      | (rw [HW0.out])
      | ((with_reducible show wpList _ _ _ (Oper.mk (some 26) (Op.load 25 _) _ _ _ _ :: _) _ _); refine wpList_load_want (by rfl) 25 (.tmp 25) rfl w.heap.size 3 rfl (u8s a.id) HA.out.id Try.underlying25 (size25' HoA.out.id) ?_; simp only [Act.put, List.setIfInBounds_toArray, List.set_cons_zero, List.set_cons_succ])
      | ((with_reducible show wpList _ _ _ (Oper.mk (some 28) (Op.load 25 _) _ _ _ _ :: _) _ _); refine wpList_load_want (by rfl) 25 (.tmp 27) rfl (w.heap.size + 1) 3 rfl (u8s b.id) HB.out.id Try.underlying25 (size25' HoB.out.id) ?_; simp only [Act.put, List.setIfInBounds_toArray, List.set_cons_zero, List.set_cons_succ])
      | (go_at_call 41; refine HBy.out.mono ?_; rintro e w1 ⟨rfl, hw1⟩; obtain rfl : w0 = w1 := hw1.symm; clear hw1))
    go_ret
    exact ⟨rfl, hb0⟩
  rw [decide_eq_true h0]
  have g0 : ((a.client : Nat) : Int) = ((b.client : Nat) : Int) := by rw [h0]
  clear h0
  by_cases h1 : a.seq = b.seq
  rotate_left
  · rw [decide_eq_false h1]
    have g1 : ¬ ((a.seq : Nat) : Int) = ((b.seq : Nat) : Int) := by omega
    go_enter Try.func21, Try.ntmps21
    go_wp2_with (first
      | (rw [HW0.out])
      | ((with_reducible show wpList _ _ _ (Oper.mk (some 26) (Op.load 25 _) _ _ _ _ :: _) _ _); refine wpList_load_want (by rfl) 25 (.tmp 25) rfl w.heap.size 3 rfl (u8s a.id) HA.out.id Try.underlying25 (size25' HoA.out.id) ?_; simp only [Act.put, List.setIfInBounds_toArray, List.set_cons_zero, List.set_cons_succ])
      | ((with_reducible show wpList _ _ _ (Oper.mk (some 28) (Op.load 25 _) _ _ _ _ :: _) _ _); refine wpList_load_want (by rfl) 25 (.tmp 27) rfl (w.heap.size + 1) 3 rfl (u8s b.id) HB.out.id Try.underlying25 (size25' HoB.out.id) ?_; simp only [Act.put, List.setIfInBounds_toArray, List.set_cons_zero, List.set_cons_succ])
      | (go_at_call 41; refine HBy.out.mono ?_; rintro e w1 ⟨rfl, hw1⟩; obtain rfl : w0 = w1 := hw1.symm; clear hw1))
    go_ret
    exact ⟨rfl, hb0⟩
  rw [decide_eq_true h1]
  have g1 : ((a.seq : Nat) : Int) = ((b.seq : Nat) : Int) := by rw [h1]
  clear h1
  by_cases h2 : a.err = b.err
  rotate_left
  · rw [decide_eq_false h2]
    go_enter Try.func21, Try.ntmps21
    go_wp2_with (first
      | (rw [HW0.out])
      | ((with_reducible show wpList _ _ _ (Oper.mk (some 26) (Op.load 25 _) _ _ _ _ :: _) _ _); refine wpList_load_want (by rfl) 25 (.tmp 25) rfl w.heap.size 3 rfl (u8s a.id) HA.out.id Try.underlying25 (size25' HoA.out.id) ?_; simp only [Act.put, List.setIfInBounds_toArray, List.set_cons_zero, List.set_cons_succ])
      | ((with_reducible show wpList _ _ _ (Oper.mk (some 28) (Op.load 25 _) _ _ _ _ :: _) _ _); refine wpList_load_want (by rfl) 25 (.tmp 27) rfl (w.heap.size + 1) 3 rfl (u8s b.id) HB.out.id Try.underlying25 (size25' HoB.out.id) ?_; simp only [Act.put, List.setIfInBounds_toArray, List.set_cons_zero, List.set_cons_succ])
      | (go_at_call 41; refine HBy.out.mono ?_; rintro e w1 ⟨rfl, hw1⟩; obtain rfl : w0 = w1 := hw1.symm; clear hw1))
    go_ret
    exact ⟨rfl, hb0⟩
  rw [decide_eq_true h2]
  by_cases h3 : a.id = b.id
  rotate_left
  · rw [decide_eq_false h3]
    rw [decide_eq_false h3] at hq
    go_enter Try.func21, Try.ntmps21
    go_wp2_with (first
      | (rw [HW0.out])
      | ((with_reducible show wpList _ _ _ (Oper.mk (some 26) (Op.load 25 _) _ _ _ _ :: _) _ _); refine wpList_load_want (by rfl) 25 (.tmp 25) rfl w.heap.size 3 rfl (u8s a.id) HA.out.id Try.underlying25 (size25' HoA.out.id) ?_; simp only [Act.put, List.setIfInBounds_toArray, List.set_cons_zero, List.set_cons_succ])
      | ((with_reducible show wpList _ _ _ (Oper.mk (some 28) (Op.load 25 _) _ _ _ _ :: _) _ _); refine wpList_load_want (by rfl) 25 (.tmp 27) rfl (w.heap.size + 1) 3 rfl (u8s b.id) HB.out.id Try.underlying25 (size25' HoB.out.id) ?_; simp only [Act.put, List.setIfInBounds_toArray, List.set_cons_zero, List.set_cons_succ])
      | (go_at_call 41; refine HBy.out.mono ?_; rintro e w1 ⟨rfl, hw1⟩; obtain rfl : w0 = w1 := hw1.symm; clear hw1))
    go_ret
    exact ⟨rfl, hb0⟩
  rw [decide_eq_true h3]
  rw [decide_eq_true h3] at hq
  clear h3
  by_cases h4 : a.n = b.n
  rotate_left
  · rw [decide_eq_false h4]
    have g4 : ¬ ((a.n : Nat) : Int) = ((b.n : Nat) : Int) := by omega
    go_enter Try.func21, Try.ntmps21
    go_wp2_with (first
      | (rw [HW0.out])
      | ((with_reducible show wpList _ _ _ (Oper.mk (some 26) (Op.load 25 _) _ _ _ _ :: _) _ _); refine wpList_load_want (by rfl) 25 (.tmp 25) rfl w.heap.size 3 rfl (u8s a.id) HA.out.id Try.underlying25 (size25' HoA.out.id) ?_; simp only [Act.put, List.setIfInBounds_toArray, List.set_cons_zero, List.set_cons_succ])
      | ((with_reducible show wpList _ _ _ (Oper.mk (some 28) (Op.load 25 _) _ _ _ _ :: _) _ _); refine wpList_load_want (by rfl) 25 (.tmp 27) rfl (w.heap.size + 1) 3 rfl (u8s b.id) HB.out.id Try.underlying25 (size25' HoB.out.id) ?_; simp only [Act.put, List.setIfInBounds_toArray, List.set_cons_zero, List.set_cons_succ])
      | (go_at_call 41; refine HBy.out.mono ?_; rintro e w1 ⟨rfl, hw1⟩; obtain rfl : w0 = w1 := hw1.symm; clear hw1))
    go_ret
    exact ⟨rfl, hb0⟩
  rw [decide_eq_true h4]
  have g4 : ((a.n : Nat) : Int) = ((b.n : Nat) : Int) := by rw [h4]
  clear h4
  by_cases h5 : x = y
  rotate_left
  · rw [decide_eq_false h5]
    rw [decide_eq_false h5] at HBy
    go_enter Try.func21, Try.ntmps21
    go_wp2_with (first
      | (rw [HW0.out])
      | ((with_reducible show wpList _ _ _ (Oper.mk (some 26) (Op.load 25 _) _ _ _ _ :: _) _ _); refine wpList_load_want (by rfl) 25 (.tmp 25) rfl w.heap.size 3 rfl (u8s a.id) HA.out.id Try.underlying25 (size25' HoA.out.id) ?_; simp only [Act.put, List.setIfInBounds_toArray, List.set_cons_zero, List.set_cons_succ])
      | ((with_reducible show wpList _ _ _ (Oper.mk (some 28) (Op.load 25 _) _ _ _ _ :: _) _ _); refine wpList_load_want (by rfl) 25 (.tmp 27) rfl (w.heap.size + 1) 3 rfl (u8s b.id) HB.out.id Try.underlying25 (size25' HoB.out.id) ?_; simp only [Act.put, List.setIfInBounds_toArray, List.set_cons_zero, List.set_cons_succ])
      | (go_at_call 41; refine HBy.out.mono ?_; rintro e w1 ⟨rfl, hw1⟩; obtain rfl : w0 = w1 := hw1.symm; clear hw1))
    go_ret
    exact ⟨rfl, hb0⟩
  rw [decide_eq_true h5]
  rw [decide_eq_true h5] at HBy
  clear h5
  obtain ⟨dd, hdd⟩ : ∃ dd, decide (xs = ys) = dd := ⟨_, rfl⟩
  rw [hdd] at HNm ⊢
  clear hdd
  simp only [Bool.true_and]
  go_enter Try.func21, Try.ntmps21
  go_wp2_with (first
    | (rw [HW0.out])
    | ((with_reducible show wpList _ _ _ (Oper.mk (some 26) (Op.load 25 _) _ _ _ _ :: _) _ _); refine wpList_load_want (by rfl) 25 (.tmp 25) rfl w.heap.size 3 rfl (u8s a.id) HA.out.id Try.underlying25 (size25' HoA.out.id) ?_; simp only [Act.put, List.setIfInBounds_toArray, List.set_cons_zero, List.set_cons_succ])
    | ((with_reducible show wpList _ _ _ (Oper.mk (some 28) (Op.load 25 _) _ _ _ _ :: _) _ _); refine wpList_load_want (by rfl) 25 (.tmp 27) rfl (w.heap.size + 1) 3 rfl (u8s b.id) HB.out.id Try.underlying25 (size25' HoB.out.id) ?_; simp only [Act.put, List.setIfInBounds_toArray, List.set_cons_zero, List.set_cons_succ])
    | (go_at_call 41; refine HBy.out.mono ?_; rintro e w1 ⟨rfl, hw1⟩; obtain rfl : w0 = w1 := hw1.symm; clear hw1)
    | (go_at_call 42; refine HNm.out.mono ?_; rintro e w2 ⟨rfl, hb2⟩))
  all_goals go_ret
  all_goals exact ⟨rfl, hb0.trans (hb2.mono hb0.size)⟩

set_option maxRecDepth 100000 in
set_option maxHeartbeats 8000000 in
theorem refSameR_any (p : Option Addr) (len cap : Nat) (x : List Nat) (q : Option Addr) (l c : Nat) (xs : List ByteArray) (a : Rep) (p2 : Option Addr) (len2 cap2 : Nat) (y : List Nat) (q2 : Option Addr) (l2 c2 : Nat) (ys : List ByteArray) (b : Rep) (hoa : a.ok) (hob : b.ok) (w : World)
    (hI : IsBytes w.heap.size w p len cap x) (hJ : IsBytes w.heap.size w p2 len2 cap2 y) (hM : IsStrs w.heap.size w q l c xs) (hN : IsStrs w.heap.size w q2 l2 c2 ys) :
    Calls Try.prog 20 #[.agg (repC (.slice p len cap) (.slice q l c) a).toArray, .agg (repC (.slice p2 len2 cap2) (.slice q2 l2 c2) b).toArray] w fun e w' => e = .returned (.bool (sameP a x xs b y ys)) ∧ Below w.heap.size w w' := by
  obtain ⟨w0, hw0⟩ : ∃ w0, (w.alloc (.cells (repC (.slice p len cap) (.slice q l c) a).toArray 44)).alloc (.cells (repC (.slice p2 len2 cap2) (.slice q2 l2 c2) b).toArray 44) = w0 := ⟨_, rfl⟩
  have hb0 : Below w.heap.size w w0 := by rw [← hw0]; exact ((Below.refl _ w).alloc (Nat.le_refl _) _).alloc (by simp) _
  have hA : RepAt w0 w.heap.size (.slice p len cap) (.slice q l c) a := by rw [← hw0]; exact (RepAt.new w _ _ a hoa).later ((Below.refl _ _).alloc (Nat.le_refl _) _)
  have hB : RepAt w0 (w.heap.size + 1) (.slice p2 len2 cap2) (.slice q2 l2 c2) b := by
    rw [← hw0]
    have := RepAt.new (w.alloc (.cells (repC (.slice p len cap) (.slice q l c) a).toArray 44)) (.slice p2 len2 cap2) (.slice q2 l2 c2) b hob
    rwa [World.size_alloc] at this
  have HW0 : Hid ((w.alloc (.cells (repC (.slice p len cap) (.slice q l c) a).toArray 44)).alloc (.cells (repC (.slice p2 len2 cap2) (.slice q2 l2 c2) b).toArray 44) = w0) := hw0
  have HA : Hid (RepAt w0 w.heap.size (.slice p len cap) (.slice q l c) a) := hA
  have HB : Hid (RepAt w0 (w.heap.size + 1) (.slice p2 len2 cap2) (.slice q2 l2 c2) b) := hB
  have a0 := hA.client
  have a1 := hA.seq
  have a2 := hA.err
  have a4 := hA.n
  have a5 := hA.body
  have a6 := hA.names
  have b0 := hB.client
  have b1 := hB.seq
  have b2 := hB.err
  have b4 := hB.n
  have b5 := hB.body
  have b6 := hB.names
  have hq := equal_ids hoa.id hob.id
  have HoA : Hid a.ok := hoa
  have HoB : Hid b.ok := hob
  have hs1 := (str_of_bytes ((hI.below hb0).mono hb0.size)).here
  have hs2 := (str_of_bytes ((hJ.below hb0).mono hb0.size)).here
  have hbt := beq_bytes hI.2.2.2.1 hJ.2.2.2.1
  have HNm : Hid (Calls Try.prog 40 #[.slice q l c, .slice q2 l2 c2] w0 fun e w' => e = .returned (.bool (decide (xs = ys))) ∧ Below w0.heap.size w0 w') := sameS_any q l c xs q2 l2 c2 ys w0 (hM.later hb0) (hN.later hb0)
  clear hA hB hw0 hI hJ hM hN hoa hob
  unfold sameP
  by_cases h0 : a.client = b.client
  rotate_left
  · rw [decide_eq_false h0]
    have g0 : ¬ ((a.client : Nat) : Int) = ((b.client : Nat) : Int) := by omega
    go_enter Try.func20, Try.ntmps20
    go_wp2_with (first
      | (rw [HW0.out])
      | ((with_reducible show wpList _ _ _ (Oper.mk (some 26) (Op.load 25 _) _ _ _ _ :: _) _ _); refine wpList_load_want (by rfl) 25 (.tmp 25) rfl w.heap.size 3 rfl (u8s a.id) HA.out.id Try.underlying25 (size25' HoA.out.id) ?_; simp only [Act.put, List.setIfInBounds_toArray, List.set_cons_zero, List.set_cons_succ])
      | ((with_reducible show wpList _ _ _ (Oper.mk (some 28) (Op.load 25 _) _ _ _ _ :: _) _ _); refine wpList_load_want (by rfl) 25 (.tmp 27) rfl (w.heap.size + 1) 3 rfl (u8s b.id) HB.out.id Try.underlying25 (size25' HoB.out.id) ?_; simp only [Act.put, List.setIfInBounds_toArray, List.set_cons_zero, List.set_cons_succ]))
    go_ret
    exact ⟨rfl, hb0⟩
  rw [decide_eq_true h0]
  have g0 : ((a.client : Nat) : Int) = ((b.client : Nat) : Int) := by rw [h0]
  clear h0
  by_cases h1 : a.seq = b.seq
  rotate_left
  · rw [decide_eq_false h1]
    have g1 : ¬ ((a.seq : Nat) : Int) = ((b.seq : Nat) : Int) := by omega
    go_enter Try.func20, Try.ntmps20
    go_wp2_with (first
      | (rw [HW0.out])
      | ((with_reducible show wpList _ _ _ (Oper.mk (some 26) (Op.load 25 _) _ _ _ _ :: _) _ _); refine wpList_load_want (by rfl) 25 (.tmp 25) rfl w.heap.size 3 rfl (u8s a.id) HA.out.id Try.underlying25 (size25' HoA.out.id) ?_; simp only [Act.put, List.setIfInBounds_toArray, List.set_cons_zero, List.set_cons_succ])
      | ((with_reducible show wpList _ _ _ (Oper.mk (some 28) (Op.load 25 _) _ _ _ _ :: _) _ _); refine wpList_load_want (by rfl) 25 (.tmp 27) rfl (w.heap.size + 1) 3 rfl (u8s b.id) HB.out.id Try.underlying25 (size25' HoB.out.id) ?_; simp only [Act.put, List.setIfInBounds_toArray, List.set_cons_zero, List.set_cons_succ]))
    go_ret
    exact ⟨rfl, hb0⟩
  rw [decide_eq_true h1]
  have g1 : ((a.seq : Nat) : Int) = ((b.seq : Nat) : Int) := by rw [h1]
  clear h1
  by_cases h2 : a.err = b.err
  rotate_left
  · rw [decide_eq_false h2]
    go_enter Try.func20, Try.ntmps20
    go_wp2_with (first
      | (rw [HW0.out])
      | ((with_reducible show wpList _ _ _ (Oper.mk (some 26) (Op.load 25 _) _ _ _ _ :: _) _ _); refine wpList_load_want (by rfl) 25 (.tmp 25) rfl w.heap.size 3 rfl (u8s a.id) HA.out.id Try.underlying25 (size25' HoA.out.id) ?_; simp only [Act.put, List.setIfInBounds_toArray, List.set_cons_zero, List.set_cons_succ])
      | ((with_reducible show wpList _ _ _ (Oper.mk (some 28) (Op.load 25 _) _ _ _ _ :: _) _ _); refine wpList_load_want (by rfl) 25 (.tmp 27) rfl (w.heap.size + 1) 3 rfl (u8s b.id) HB.out.id Try.underlying25 (size25' HoB.out.id) ?_; simp only [Act.put, List.setIfInBounds_toArray, List.set_cons_zero, List.set_cons_succ]))
    go_ret
    exact ⟨rfl, hb0⟩
  rw [decide_eq_true h2]
  by_cases h3 : a.id = b.id
  rotate_left
  · rw [decide_eq_false h3]
    rw [decide_eq_false h3] at hq
    go_enter Try.func20, Try.ntmps20
    go_wp2_with (first
      | (rw [HW0.out])
      | ((with_reducible show wpList _ _ _ (Oper.mk (some 26) (Op.load 25 _) _ _ _ _ :: _) _ _); refine wpList_load_want (by rfl) 25 (.tmp 25) rfl w.heap.size 3 rfl (u8s a.id) HA.out.id Try.underlying25 (size25' HoA.out.id) ?_; simp only [Act.put, List.setIfInBounds_toArray, List.set_cons_zero, List.set_cons_succ])
      | ((with_reducible show wpList _ _ _ (Oper.mk (some 28) (Op.load 25 _) _ _ _ _ :: _) _ _); refine wpList_load_want (by rfl) 25 (.tmp 27) rfl (w.heap.size + 1) 3 rfl (u8s b.id) HB.out.id Try.underlying25 (size25' HoB.out.id) ?_; simp only [Act.put, List.setIfInBounds_toArray, List.set_cons_zero, List.set_cons_succ]))
    go_ret
    exact ⟨rfl, hb0⟩
  rw [decide_eq_true h3]
  rw [decide_eq_true h3] at hq
  clear h3
  by_cases h4 : a.n = b.n
  rotate_left
  · rw [decide_eq_false h4]
    have g4 : ¬ ((a.n : Nat) : Int) = ((b.n : Nat) : Int) := by omega
    go_enter Try.func20, Try.ntmps20
    go_wp2_with (first
      | (rw [HW0.out])
      | ((with_reducible show wpList _ _ _ (Oper.mk (some 26) (Op.load 25 _) _ _ _ _ :: _) _ _); refine wpList_load_want (by rfl) 25 (.tmp 25) rfl w.heap.size 3 rfl (u8s a.id) HA.out.id Try.underlying25 (size25' HoA.out.id) ?_; simp only [Act.put, List.setIfInBounds_toArray, List.set_cons_zero, List.set_cons_succ])
      | ((with_reducible show wpList _ _ _ (Oper.mk (some 28) (Op.load 25 _) _ _ _ _ :: _) _ _); refine wpList_load_want (by rfl) 25 (.tmp 27) rfl (w.heap.size + 1) 3 rfl (u8s b.id) HB.out.id Try.underlying25 (size25' HoB.out.id) ?_; simp only [Act.put, List.setIfInBounds_toArray, List.set_cons_zero, List.set_cons_succ]))
    go_ret
    exact ⟨rfl, hb0⟩
  rw [decide_eq_true h4]
  have g4 : ((a.n : Nat) : Int) = ((b.n : Nat) : Int) := by rw [h4]
  clear h4
  by_cases h5 : x = y
  rotate_left
  · rw [decide_eq_false h5]
    rw [decide_eq_false h5] at hbt
    go_enter Try.func20, Try.ntmps20
    go_wp2_with (first
      | (rw [HW0.out])
      | ((with_reducible show wpList _ _ _ (Oper.mk (some 26) (Op.load 25 _) _ _ _ _ :: _) _ _); refine wpList_load_want (by rfl) 25 (.tmp 25) rfl w.heap.size 3 rfl (u8s a.id) HA.out.id Try.underlying25 (size25' HoA.out.id) ?_; simp only [Act.put, List.setIfInBounds_toArray, List.set_cons_zero, List.set_cons_succ])
      | ((with_reducible show wpList _ _ _ (Oper.mk (some 28) (Op.load 25 _) _ _ _ _ :: _) _ _); refine wpList_load_want (by rfl) 25 (.tmp 27) rfl (w.heap.size + 1) 3 rfl (u8s b.id) HB.out.id Try.underlying25 (size25' HoB.out.id) ?_; simp only [Act.put, List.setIfInBounds_toArray, List.set_cons_zero, List.set_cons_succ]))
    go_ret
    exact ⟨rfl, hb0⟩
  rw [decide_eq_true h5]
  rw [decide_eq_true h5] at hbt
  clear h5
  obtain ⟨dd, hdd⟩ : ∃ dd, decide (xs = ys) = dd := ⟨_, rfl⟩
  rw [hdd] at HNm ⊢
  clear hdd
  simp only [Bool.true_and]
  go_enter Try.func20, Try.ntmps20
  go_wp2_with (first
    | (rw [HW0.out])
    | ((with_reducible show wpList _ _ _ (Oper.mk (some 26) (Op.load 25 _) _ _ _ _ :: _) _ _); refine wpList_load_want (by rfl) 25 (.tmp 25) rfl w.heap.size 3 rfl (u8s a.id) HA.out.id Try.underlying25 (size25' HoA.out.id) ?_; simp only [Act.put, List.setIfInBounds_toArray, List.set_cons_zero, List.set_cons_succ])
    | ((with_reducible show wpList _ _ _ (Oper.mk (some 28) (Op.load 25 _) _ _ _ _ :: _) _ _); refine wpList_load_want (by rfl) 25 (.tmp 27) rfl (w.heap.size + 1) 3 rfl (u8s b.id) HB.out.id Try.underlying25 (size25' HoB.out.id) ?_; simp only [Act.put, List.setIfInBounds_toArray, List.set_cons_zero, List.set_cons_succ])
    | (go_at_call 40; refine HNm.out.mono ?_; rintro e w2 ⟨rfl, hb2⟩))
  all_goals go_ret
  all_goals exact ⟨rfl, hb0.trans (hb2.mono hb0.size)⟩

end Go.Proofs.Ytedpgdldekkgdaa
