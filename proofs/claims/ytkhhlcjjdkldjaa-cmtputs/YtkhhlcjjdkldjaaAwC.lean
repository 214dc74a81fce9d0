/-
  The law's Few and awake.
-/
import Derived.Test.YtkhhlcjjdkldjaaNext
import Derived.Test.YtkhhlcjjdkldjaaBuild
namespace Go.Proofs.Ytkhhlcjjdkldjaa
open Go.RowKit

def fewC (len : Nat) (c : Cmt) : Bool := decide (len ≤ 10) && decide (c.text.size ≤ 5000)

set_option maxRecDepth 100000 in
set_option maxHeartbeats 1000000 in
theorem few_any (p : Option Addr) (len cap : Nat) (c : Cmt) (hok : c.ok) (w : World) :
    Calls Try.prog 8 #[.agg (cmtC (.slice p len cap) c).toArray] w fun e w' => e = .returned (.bool (fewC len c)) ∧ Below w.heap.size w w' := by
  obtain ⟨w0, hw0⟩ : ∃ w0, w.alloc (.cells (cmtC (.slice p len cap) c).toArray 29) = w0 := ⟨_, rfl⟩
  have hb0 : Below w.heap.size w w0 := by rw [← hw0]; exact (Below.refl _ w).alloc (Nat.le_refl _) _
  have hA := CmtAt.new w (.slice p len cap) c hok
  rw [hw0] at hA
  have c1 := hA.par
  have c2 := hA.text
  have HW0 : Hid (w.alloc (.cells (cmtC (.slice p len cap) c).toArray 29) = w0) := hw0
  clear hw0 hA
  unfold fewC
  by_cases h1 : len ≤ 10
  · have h1i : (len : Int) ≤ 10 := by omega
    rw [decide_eq_true h1]
    by_cases h2 : c.text.size ≤ 5000
    · have h2i : (c.text.size : Int) ≤ 5000 := by omega
      rw [decide_eq_true h2]
      go_enter Try.func8, Try.ntmps8
      go_wp2_with (rw [HW0.out])
      go_ret
      exact ⟨rfl, hb0⟩
    · have h2i : ¬ (c.text.size : Int) ≤ 5000 := by omega
      rw [decide_eq_false h2]
      go_enter Try.func8, Try.ntmps8
      go_wp2_with (rw [HW0.out])
      go_ret
      exact ⟨rfl, hb0⟩
  · have h1i : ¬ (len : Int) ≤ 10 := by omega
    rw [decide_eq_false h1]
    go_enter Try.func8, Try.ntmps8
    go_wp2_with (rw [HW0.out])
    go_ret
    exact ⟨rfl, hb0⟩

theorem info29 : (Try.prog.info? 29).map (fun i => (i.zero, i.size, i.bytes)) = some (some (.agg Try.zeroCells29), 68, 120) := by kernel_rfl
def threeC : Cmt := ⟨zeros32, zeros32, 3, 0, ⟨#[]⟩⟩
theorem threeC_ok : threeC.ok := ⟨isId_zeros, isId_zeros, by simp [threeC], by simp [threeC]⟩
theorem wpList_built_want {ops : Array Oper} {rest : List Oper} {o : Oper} {a : Act} {w : World} {Q : Exit → Act → World → Prop} (hw : Region.wanted o (yielded ops a.tmps) = true) (t : TypeId) (parts : Array (Nat × Operand)) (ho : o.op = .build t parts) (cells : Array Value) (L : List (Nat × Value)) (hL : (parts.map fun (i, x) => (i, a.eval x)).toList = L)
    (hc : Try.prog.built t L = some cells) (h : wpList Try.prog ops Q rest (a.put o.dst (.agg cells)) w) : wpList Try.prog ops Q (o :: rest) a w :=
  BigFrame.wpList_want hw fun _ hK => by
    unfold Oper.wp execOp
    simp only [ho, Sem.run_bind, run_build w t _ cells (hL ▸ hc), Result.andThen_ok]
    exact hK _ _ h
set_option maxRecDepth 100000 in
theorem built_three : Try.prog.built 29 [(3, .int .u64 3)] = some (cmtC (.slice none 0 0) threeC).toArray := by kernel_rfl

set_option maxRecDepth 100000 in
set_option maxHeartbeats 1000000 in
theorem awake_any (w : World) : Calls Try.prog 7 #[] w fun e w' => e = .returned (.bool true) ∧ Below w.heap.size w w' := by
  have HN : Calls Try.prog 18 #[.slice none 0 0] w fun e w' => e = .returned (.int .u64 0) ∧ Below w.heap.size w w' := next_any none 0 0 [] w ⟨rfl, Nat.le_refl _, by omega, by simp, .inl rfl⟩
  have HBu : Hid (Try.prog.built 29 [(3, .int .u64 3)] = some (cmtC (.slice none 0 0) threeC).toArray) := built_three
  obtain ⟨i0, hi0, hz0, hz1, hz9⟩ := info_parts info29
  have HV : Hid ((cmtC (.slice none 0 0) threeC).length = 68) := cmtC_length threeC_ok
  have HN2 : Hid (∀ W : World, Calls Try.prog 18 #[.slice (some ⟨W.heap.size, 0, none⟩) 1 1] (W.alloc (.cells (cmtC (.slice none 0 0) threeC).toArray 29)) fun e w' => e = .returned (.int .u64 4) ∧ Below W.heap.size W w') := fun W => by
    refine (next_any (some ⟨W.heap.size, 0, none⟩) 1 1 [(.slice none 0 0, threeC)] _ ⟨rfl, Nat.le_refl _, by omega, fun e he => ?_, .inr ⟨_, 0, rfl, by simp, fun i hi => ?_⟩⟩).mono ?_
    · obtain rfl := List.mem_singleton.1 he
      exact ⟨rfl, threeC_ok⟩
    · obtain rfl : i = 0 := by omega
      exact (CmtAt.new W (.slice none 0 0) threeC threeC_ok).row.range
    · rintro e w' ⟨rfl, hb⟩
      exact ⟨rfl, ((Below.refl _ W).alloc (Nat.le_refl _) _).trans (hb.mono (by simp))⟩
  generalize cmtC (.slice none 0 0) threeC = V at *
  go_enter Try.func7, Try.ntmps7
  go_wp2_with (first
    | (go_at_call 18; have _ := hb1; refine (HN2.out w1).mono ?_; rintro e w2 ⟨rfl, hb2⟩)
    | (go_at_call 18; refine HN.mono ?_; rintro e w1 ⟨rfl, hb1⟩)
    | ((with_reducible show wpList _ _ _ (Oper.mk _ (Op.build 29 _) _ _ _ _ :: _) _ _); refine wpList_built_want (by rfl) 29 _ rfl _ _ (by simp only [List.map_toArray, List.map_cons, List.map_nil]; rfl) HBu.out ?_; simp only [Act.put, List.setIfInBounds_toArray, List.set_cons_zero, List.set_cons_succ])
    | ((with_reducible show wpList _ _ _ (Oper.mk _ (Op.buildSlice 47 1 #[(0, Operand.tmp 4)]) _ _ _ _ :: _) _ _); refine BigFrame.wpList_want (by rfl) fun K hK => wp_buildOne 47 29 (.tmp 4) rfl V rfl i0 _ Try.underlying47 hi0 hz0 (by rw [hz1, HV.out]) (by rw [HV.out]; omega) (by rw [HV.out]; omega) (hK _ _ ?_); clear hK; simp only [Act.put, List.setIfInBounds_toArray, List.set_cons_zero, List.set_cons_succ]))
  go_ret
  exact ⟨rfl, hb1.trans (hb2.mono hb1.size)⟩
end Go.Proofs.Ytkhhlcjjdkldjaa
