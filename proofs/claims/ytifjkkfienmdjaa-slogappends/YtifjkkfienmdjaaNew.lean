/-
  New: a disk in memory of its own.
-/
import Derived.Test.YtifjkkfienmdjaaCl
import Derived.Deep.CutRange
namespace Go.Proofs.Ytifjkkfienmdjaa
open Go.RowKit Go.Shelf

theorem made_rep (N n : Nat) (hN : 0 < N) (v : Value) : (madeCells (List.replicate N v).toArray (n * N)).toList = List.replicate (n * N) v := by
  apply List.ext_getElem
  · simp [madeCells]
  · intro i h1 h2
    have hm : i % N < N := Nat.mod_lt _ hN
    simp [madeCells, hm]
theorem made_sectors (n : Nat) : (madeCells (u8s zeros64).toArray (n * 64)).toList = u8s (List.replicate n zeros64).flatten := by
  rw [zeros64, List.flatten_replicate_replicate]
  simp only [u8s, List.map_replicate]
  exact made_rep 64 n (by decide) _
theorem row_of_made64 {W : World} {n₀ g n k : Nat} {e : TypeId} {xs : List Value} (h : W.ownsRow n₀ e k (.slice (some ⟨g, 0, none⟩) n n) n xs) : Row W g e xs := by
  rcases h.2 with ⟨h', _⟩ | ⟨g', cap', cur, h', _, hg, _, _, hcs, htake⟩
  · simp at h'
  · simp only [Value.slice.injEq, Option.some.injEq, Addr.mk.injEq, and_true, true_and] at h'
    obtain ⟨rfl, rfl⟩ := h'
    unfold Row
    rw [hg]
    have : cur.toList = xs := by rw [← htake, List.take_of_length_le (by simp; omega)]
    rw [← this]

theorem wp_make29 {o : Oper} {a : Act} {w : World} {K : Act → World → Prop} {Q : Exit → Act → World → Prop} (l c : Operand) (hop : o.op = Op.makeSlice 79 l c) (n : Nat) (hl : a.eval l = .int .i64 (n : Int)) (hc : a.eval c = .int .i64 (n : Int)) (hn : n ≤ 65536)
    (hK : ∀ w', Row w' w.heap.size 55 (u8s (List.replicate n zeros64).flatten) → Below w.heap.size w w' → w.heap.size < w'.heap.size → K (a.put o.dst (.slice (some ⟨w.heap.size, 0, none⟩) n n)) w') : o.wp Try.prog a w K Q := by
  obtain ⟨z, hz, h29⟩ := hide29 info55
  obtain ⟨i0, hi, hz0, hz1, hz2⟩ := info_parts h29
  obtain ⟨w', hrun, r1, r2⟩ := run_make_full (P := Try.prog) w w.heap.size 79 55 i0 z 64 Try.underlying79 hi hz0 hz1 .i64 .i64 n (by rw [hz2]; omega) (by simp only [maxLen]; omega) (Nat.le_refl _)
  unfold Oper.wp
  simp [execOp, hop, hl, hc, hrun, Result.andThen]
  rw [hz, made_sectors] at r1
  have hr : Row w' w.heap.size 55 (u8s (List.replicate n zeros64).flatten) := row_of_made64 r1
  exact hK w' hr ((Below.refl _ w).grown r2 (Nat.le_refl _) (fun k e => by cases e)) hr.lt

theorem new_end {n : Int} {g : Nat} {q3 : Option Addr} {len c3 : Nat} {cr : List (Int × Int)} {w w3 : World} (hrow : Row w3 g 55 (u8s (List.replicate (sizeS n) zeros64).flatten)) (hg : w.heap.size ≤ g) (hcr : ∀ F, (∀ x ∈ F, x = w3.heap.size ∨ x = g ∨ x < w.heap.size ∨ w3.heap.size < x) → CrAt F w3 q3 len c3 cr) (hb : Below w.heap.size w w3) :
    ∃ p g', Ending.returned (.pointer (some ⟨w3.heap.size, 0, none⟩)) = .returned (.pointer (some ⟨p, 0, none⟩)) ∧ w.heap.size ≤ p ∧ w.heap.size ≤ g' ∧ (∀ F, p ∈ F → g' ∈ F → (∀ x ∈ F, x = p ∨ x = g' ∨ x < w.heap.size ∨ (w3.alloc (.cells #[.bool true, .bool true, .slice (some ⟨g, 0, none⟩) (sizeS n) (sizeS n), .int .i64 0, .slice q3 len c3] 83)).heap.size ≤ x) → DiskAt F (w3.alloc (.cells #[.bool true, .bool true, .slice (some ⟨g, 0, none⟩) (sizeS n) (sizeS n), .int .i64 0, .slice q3 len c3] 83)) p g' (newS n cr)) ∧ Below w.heap.size w (w3.alloc (.cells #[.bool true, .bool true, .slice (some ⟨g, 0, none⟩) (sizeS n) (sizeS n), .int .i64 0, .slice q3 len c3] 83)) := by
  have hbn := (Below.refl _ w3).alloc (Nat.le_refl _) (.cells #[.bool true, .bool true, .slice (some ⟨g, 0, none⟩) (sizeS n) (sizeS n), .int .i64 0, .slice q3 len c3] 83)
  have hl := hrow.lt
  refine ⟨_, g, rfl, hb.size, hg, fun F hp hgF hF => ⟨newS_ok n cr, by omega, hp, hgF, hrow.later hbn, q3, len, c3, ?_, (hcr F (fun x hx => ?_)).later hbn⟩, hb.trans (hbn.mono hb.size)⟩
  · have hr := Row.new w3 83 #[.bool true, .bool true, .slice (some ⟨g, 0, none⟩) (sizeS n) (sizeS n), .int .i64 0, .slice q3 len c3]
    simpa [newS] using hr
  · have := hF x hx
    rw [World.size_alloc] at this
    omega

set_option maxRecDepth 100000 in
set_option maxHeartbeats 2000000 in
theorem new_gen (n : Int) {q : Option Addr} {len cap : Nat} {cr : List (Int × Int)} {w : World} (h : CrAt [] w q len cap cr) (hlen : len ≤ 100000) :
    Calls Try.prog 17 #[.int .i64 n, .slice q len cap] w fun e w' => ∃ p g, e = .returned (.pointer (some ⟨p, 0, none⟩)) ∧ w.heap.size ≤ p ∧ w.heap.size ≤ g ∧ (∀ F, p ∈ F → g ∈ F → (∀ x ∈ F, x = p ∨ x = g ∨ x < w.heap.size ∨ w'.heap.size ≤ x) → DiskAt F w' p g (newS n cr)) ∧ Below w.heap.size w w' := by
  have HC : Hid (CrAt [] w q len cap cr) := h
  clear h
  have HW : Hid (∀ W, Calls Try.prog 38 #[.int .i64 n, .int .i64 65536] W fun e w' => e = .returned (.int .i64 ((sizeS n : Nat) : Int)) ∧ w' = W) := fun W => by
    refine (within_any n 65536 W).mono ?_
    rintro e w' ⟨rfl, rfl⟩
    exact ⟨by simp only [sizeS]; congr 2; omega, rfl⟩
  have hsz : sizeS n ≤ 65536 := by unfold sizeS; omega
  go_enter Try.func17, Try.ntmps17
  go_upto_region 1 with fail
  refine wp_region_held_drew (S := fun _ => True) (by kernel_rfl) trivial (fun hHeld => ?_)
  refine wpAnyH_takesAt 0 1 7 (of_decide_eq_true (by kernel_rfl)) rfl (fun _ _ _ d _ h => by cases d <;> exact h) (by kernel_rfl) (by kernel_rfl) hHeld ?_
  simp only [List.drop_zero, List.take_succ_cons, List.take_zero]
  iterate 1 (refine wpHeld_step (v := ?_) (by rfl) (fun wz hSw => ?_) ?_; rotate_left; (focus ((try dsimp only at hSw); go_simp; try with_reducible rfl)); ((simp only [Act.put]; (try simp only [List.setIfInBounds_toArray]); (try simp only [List.set_cons_succ]); (try simp only [List.set_cons_zero]))))
  refine wpHeld_nil ?_
  refine wpAnyH_takesAt 3 1 6 (of_decide_eq_true (by kernel_rfl)) rfl (fun _ _ _ d _ h => by cases d <;> exact h) (by kernel_rfl) (by kernel_rfl) hHeld ?_
  simp only [List.drop_succ_cons, List.drop_zero, List.take_succ_cons, List.take_zero]
  iterate 1 (refine wpHeld_step (v := ?_) (by rfl) (fun wz hSw => ?_) ?_; rotate_left; (focus ((try dsimp only at hSw); go_simp; try with_reducible rfl)); ((simp only [Act.put]; (try simp only [List.setIfInBounds_toArray]); (try simp only [List.set_cons_succ]); (try simp only [List.set_cons_zero]))))
  refine wpHeld_nil ?_
  refine wpAnyH_only (i := 1) (by kernel_rfl) rfl (fun K hK => ?_)
  rw [if_pos (by rfl)]
  go_simp
  refine (HW.out _).mono ?_
  rintro e w1 ⟨rfl, rfl⟩
  refine hK.out _ _ trivial ?_
  clear hK K
  refine wpAnyH_either (i := 2) (j := 4) (by kernel_rfl) rfl rfl (fun K hK => ?_) (fun K hK => ?_)
  · rw [if_pos (by rfl)]
    refine wp_make29 (.tmp 6) (.tmp 6) rfl (sizeS n) rfl rfl hsz ?_
    intro w2 hrow hb2 hs2
    refine hK.out _ _ trivial ?_
    clear hK K
    simp only [Act.put, List.setIfInBounds_toArray]
    refine wpAnyH_only (i := 4) (by kernel_rfl) rfl (fun K hK => ?_)
    rw [if_pos (by rfl)]
    go_simp
    refine (clone21_any (HC.out.later (Below.trans (Below.drew (Below.refl _ w)) hb2)) hlen).mono ?_
    rintro e w3 ⟨q3, c3, rfl, hcr, hb3⟩
    refine hK.out _ _ trivial ?_
    clear hK K
    refine wpAnyH_takesAt 5 1 2 (of_decide_eq_true (by kernel_rfl)) rfl (fun _ _ _ d _ h => by cases d <;> exact h) (by kernel_rfl) (by kernel_rfl) hHeld ?_
    simp only [List.drop_succ_cons, List.drop_zero, List.take_succ_cons, List.take_zero]
    iterate 1 (refine wpHeld_step (v := ?_) (by rfl) (fun wz hSw => ?_) ?_; rotate_left; (focus ((try dsimp only at hSw); go_simp; try with_reducible rfl)); ((simp only [Act.put]; (try simp only [List.setIfInBounds_toArray]); (try simp only [List.set_cons_succ]); (try simp only [List.set_cons_zero]))))
    refine wpHeld_nil ?_
    refine wpAnyH_only (i := 6) (by kernel_rfl) rfl (fun K hK => ?_)
    rw [if_pos (by rfl)]
    go_simp
    refine hK.out _ _ trivial ?_
    clear hK K
    refine wpAnyH_takesAt 7 1 0 (of_decide_eq_true (by kernel_rfl)) rfl (fun _ _ _ d _ h => by cases d <;> exact h) (by kernel_rfl) (by kernel_rfl) hHeld ?_
    simp only [List.drop_succ_cons, List.drop_zero, List.take_succ_cons, List.take_zero]
    iterate 1 (refine wpHeld_step (v := ?_) (by rfl) (fun wz hSw => ?_) ?_; rotate_left; (focus ((try dsimp only at hSw); go_simp; try with_reducible rfl)); ((simp only [Act.put]; (try simp only [List.setIfInBounds_toArray]); (try simp only [List.set_cons_succ]); (try simp only [List.set_cons_zero]))))
    refine wpHeld_nil ?_
    refine wpAnyH_done (by kernel_rfl) ?_ _
    go_wp2
    go_ret
    have hrow3 := hrow.later hb3
    have hs3 := hb3.size
    have hba : Below w.heap.size w w3 := (Below.trans (Below.drew (Below.refl _ w)) hb2).trans (hb3.mono hb2.size)
    exact new_end hrow3 (Nat.le_refl _) (fun F hF => hcr F (fun x hx => by
      have : w.heap.size < w2.heap.size := hs2
      have := hF x hx
      omega)) hba
  · rw [if_pos (by rfl)]
    go_simp
    refine (clone21_any (HC.out.later (Below.drew (Below.refl _ w))) hlen).mono ?_
    rintro e w2 ⟨q3, c3, rfl, hcr, hb2⟩
    refine hK.out _ _ trivial ?_
    clear hK K
    refine wpAnyH_only (i := 2) (by kernel_rfl) rfl (fun K hK => ?_)
    rw [if_pos (by rfl)]
    refine wp_make29 (.tmp 6) (.tmp 6) rfl (sizeS n) rfl rfl hsz ?_
    intro w3 hrow hb3 hs3
    refine hK.out _ _ trivial ?_
    clear hK K
    simp only [Act.put, List.setIfInBounds_toArray]
    refine wpAnyH_takesAt 5 1 2 (of_decide_eq_true (by kernel_rfl)) rfl (fun _ _ _ d _ h => by cases d <;> exact h) (by kernel_rfl) (by kernel_rfl) hHeld ?_
    simp only [List.drop_succ_cons, List.drop_zero, List.take_succ_cons, List.take_zero]
    iterate 1 (refine wpHeld_step (v := ?_) (by rfl) (fun wz hSw => ?_) ?_; rotate_left; (focus ((try dsimp only at hSw); go_simp; try with_reducible rfl)); ((simp only [Act.put]; (try simp only [List.setIfInBounds_toArray]); (try simp only [List.set_cons_succ]); (try simp only [List.set_cons_zero]))))
    refine wpHeld_nil ?_
    refine wpAnyH_only (i := 6) (by kernel_rfl) rfl (fun K hK => ?_)
    rw [if_pos (by rfl)]
    go_simp
    refine hK.out _ _ trivial ?_
    clear hK K
    refine wpAnyH_takesAt 7 1 0 (of_decide_eq_true (by kernel_rfl)) rfl (fun _ _ _ d _ h => by cases d <;> exact h) (by kernel_rfl) (by kernel_rfl) hHeld ?_
    simp only [List.drop_succ_cons, List.drop_zero, List.take_succ_cons, List.take_zero]
    iterate 1 (refine wpHeld_step (v := ?_) (by rfl) (fun wz hSw => ?_) ?_; rotate_left; (focus ((try dsimp only at hSw); go_simp; try with_reducible rfl)); ((simp only [Act.put]; (try simp only [List.setIfInBounds_toArray]); (try simp only [List.set_cons_succ]); (try simp only [List.set_cons_zero]))))
    refine wpHeld_nil ?_
    refine wpAnyH_done (by kernel_rfl) ?_ _
    go_wp2
    go_ret
    have hs2 : w.heap.size ≤ w2.heap.size := hb2.size
    have hba : Below w.heap.size w w3 := (Below.trans (Below.drew (Below.refl _ w)) hb2).trans (hb3.mono hs2)
    exact new_end hrow hs2 (fun F hF => (hcr F (fun x hx => by
      have := hF x hx
      have : w.drew.heap.size = w.heap.size := rfl
      omega)).later hb3) hba

theorem new_any (n : Int) {q : Option Addr} {len cap : Nat} {cr : List (Int × Int)} {w : World} (h : CrAt [] w q len cap cr) (hlen : len ≤ 100000) :
    Calls Try.prog 17 #[.int .i64 n, .slice q len cap] w fun e w' => ∃ p g, e = .returned (.pointer (some ⟨p, 0, none⟩)) ∧ w.heap.size ≤ p ∧ w.heap.size ≤ g ∧ DiskAt [p, g] w' p g (newS n cr) ∧ Below w.heap.size w w' := by
  refine (new_gen n h hlen).mono ?_
  rintro e w' ⟨p, g, rfl, h1, h2, h3, h4⟩
  refine ⟨p, g, rfl, h1, h2, h3 [p, g] (by simp) (by simp) (fun x hx => ?_), h4⟩
  simp only [List.mem_cons, List.not_mem_nil, or_false] at hx
  omega
end Go.Proofs.Ytifjkkfienmdjaa
