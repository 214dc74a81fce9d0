/-
  envel.Links: the ids, each once, rising.
-/
import Derived.Test.YtfclbdlkpnoceaaColl
import Derived.Test.YtfclbdlkpnoceaaSort
import Derived.Shelf.SlSortCmp.NoneTotal
namespace Go.Proofs.Ytfclbdlkpnoceaa
open Go.RowKit

set_option maxRecDepth 100000 in
set_option maxHeartbeats 1000000 in
/-- Of nothing once tells nothing. -/
theorem once1_none (n : Nat) (l Bs : Nat) (p : Option Addr) (cap M n₀ Bx n₂ : Nat) (W : World) (hbS : Boxed W Bs 23 (.slice p 0 cap)) :
    IterAt Fence.wide n Try.prog 55 #[.pointer (some ⟨Bs, 0, none⟩)] (fun x : List Nat => #[.agg (u8s x).toArray]) (fun x _ => IsId x) (KpO n₀ Bx n₂) (fun xs => xs = []) (fun _ => True) M l W := by
  intro J Jx hJ hJx hY h0
  have hfn : ∀ f, Fence.wide.fn f := fun _ => trivial
  obtain ⟨W1, hW1⟩ : ∃ W1, W.alloc (.cells #[.func (.yield l) #[] #[]] 90) = W1 := ⟨_, rfl⟩
  have hb1 : Below W.heap.size W W1 := by rw [← hW1]; exact (Below.refl _ W).alloc (Nat.le_refl _) _
  have HWA : Hid (W.alloc (.cells #[.func (.yield l) #[] #[]] 90) = W1) := hW1
  have HS0 : Hid (W1.cell? ⟨Bs, 0, none⟩ = some (.slice p 0 cap)) := (boxed_below hbS hb1).cell
  have HJ1 : Hid (J [] W1.drew) := OwnFrom.grow hJ h0 (hb1.trans ((Below.refl W1.heap.size W1).drew.mono hb1.size))
  refine callsIn_of_wp_marks Try.func55 rfl trivial ?_ rfl
  simp only [Try.ntmps55, List.size_toArray, List.length_cons, List.length_nil, Nat.reduceAdd, Nat.reduceSub, Array.replicate_succ, Array.replicate_zero, List.push_toArray, List.append_toArray, List.nil_append, List.cons_append]
  clear hW1 hY h0 hb1
  gi_wp2
  rw [HWA.out]
  refine wpIn_region_Wo (S := fun A => A.cell? ⟨Bs, 0, none⟩ = some (.slice p 0 cap)) (by kernel_rfl) HS0.out (fun hHeld => ?_)
  refine wpAnyW_takesAt 0 4 7 (of_decide_eq_true (by kernel_rfl)) rfl (fun _ _ _ d _ h => by cases d <;> exact h) (by kernel_rfl) (by kernel_rfl) hHeld ?_
  simp only [List.drop_zero, List.take_succ_cons, List.take_zero]
  iterate 4 (refine wpHeld_step (v := ?_) (by rfl) (fun wz hSw => ?_) ?_; rotate_left; (focus ((try dsimp only at hSw); go_simp; try with_reducible rfl)); (simp only [Act.put, List.setIfInBounds_toArray, List.set_cons_zero, List.set_cons_succ]))
  refine wpHeld_nil ?_
  refine wpAnyW_takesAt 4 6 1 (of_decide_eq_true (by kernel_rfl)) rfl (fun _ _ _ d _ h => by cases d <;> exact h) (by kernel_rfl) (by kernel_rfl) hHeld ?_
  simp only [List.drop_succ_cons, List.drop_zero, List.take_succ_cons, List.take_zero]
  iterate 6 (refine wpHeld_skip (by rfl) ?_; simp only [Act.put, List.setIfInBounds_toArray, List.set_cons_zero, List.set_cons_succ])
  refine wpHeld_nil ?_
  refine wpAnyW_takesAt 10 1 0 (of_decide_eq_true (by kernel_rfl)) rfl (fun _ _ _ d _ h => by cases d <;> exact h) (by kernel_rfl) (by kernel_rfl) hHeld ?_
  simp only [List.drop_succ_cons, List.drop_zero, List.take_succ_cons, List.take_zero]
  iterate 1 (refine wpHeld_step (v := ?_) (by rfl) (fun wz hSw => ?_) ?_; rotate_left; (focus ((try dsimp only at hSw); go_simp; try with_reducible rfl)); ((simp only [Act.put]; (try simp only [List.setIfInBounds_toArray]); (try simp only [List.set_cons_succ]); (try simp only [List.set_cons_zero]))))
  refine wpHeld_nil ?_
  refine wpAnyW_done (by kernel_rfl) ?_ _
  refine OnOnly.on ?_
  gi_wp2
  exact ⟨_, results_none rfl _ _ _, ⟨_, rfl⟩, .inl ⟨_, rfl, HJ1.out⟩⟩

set_option maxHeartbeats 1000000 in
theorem collect_of (Bs : Nat) (L : List (List Nat)) (w : World) (h : Calls Try.prog 54 #[.slice none 0 0, .func (.func 55) #[] #[.pointer (some ⟨Bs, 0, none⟩)]] w fun e w' => ∃ v, e = .returned v ∧ OwnIds w.heap.size w' v L ∧ Below w.heap.size w w') :
    Calls Try.prog 43 #[.func (.func 55) #[] #[.pointer (some ⟨Bs, 0, none⟩)]] w fun e w' => ∃ v, e = .returned v ∧ OwnIds w.heap.size w' v L ∧ Below w.heap.size w w' := by
  have H : Hid (Calls Try.prog 54 #[.slice none 0 0, .func (.func 55) #[] #[.pointer (some ⟨Bs, 0, none⟩)]] w fun e w' => ∃ v, e = .returned v ∧ OwnIds w.heap.size w' v L ∧ Below w.heap.size w w') := h
  clear h
  go_enter Try.func43, Try.ntmps43
  go_wp2_with (go_at_call 54; refine H.out.mono ?_; rintro e w1 ⟨v1, rfl, ho1, hb1⟩)
  go_ret
  exact ⟨_, rfl, ho1, hb1⟩

set_option maxHeartbeats 1000000 in
theorem clipI_any (q : Option Addr) (n c : Nat) (w : World) (hn : n ≤ c) (hc : c ≤ 9223372036854775807) (hq : q = none → n = 0 ∧ c = 0) :
    Calls Try.prog 42 #[.slice q n c] w fun e w' => e = .returned (.slice q n n) ∧ w' = w := by
  cases q with
  | none =>
    obtain ⟨rfl, rfl⟩ := hq rfl
    go_enter Try.func42, Try.ntmps42
    go_wp2
    go_ret
    exact ⟨rfl, rfl⟩
  | some a =>
    have h1 : (n : Int) ≤ (c : Int) := by omega
    go_enter Try.func42, Try.ntmps42
    go_wp2
    go_ret
    exact ⟨rfl, rfl⟩

set_option maxRecDepth 100000 in
set_option maxHeartbeats 1000000 in
theorem clone_none (len cap : Nat) (w : World) : Calls Try.prog 39 #[.slice none len cap] w fun e w' => e = .returned (.slice none 0 0) ∧ w' = w := by
  have hq : ∀ W : World, (binOp .eql 23 (.slice none len cap) (.slice none 0 0)).run Try.prog W = .ok (.bool true) W := fun W => Lib.run_eql_slice_nil W _ _ none len cap 0 0 Try.underlying23
  go_enter Try.func39, Try.ntmps39
  go_wp2
  go_ret
  exact ⟨rfl, rfl⟩
set_option maxRecDepth 100000 in
set_option maxHeartbeats 1000000 in
theorem clone_some (b off len cap : Nat) (ids : List (List Nat)) (w : World) (hlen : len ≤ 100000) (hI : IsIds w.heap.size w (some ⟨b, off, none⟩) len cap ids) :
    Calls Try.prog 39 #[.slice (some ⟨b, off, none⟩) len cap] w fun e w' => ∃ v, e = .returned v ∧ OwnIds w.heap.size w' v ids ∧ Below w.heap.size w w' := by
  obtain ⟨i0, hi0, hz0, hz1, hz2⟩ := info_parts info33
  have hl := hI.1
  have HI : Hid (IsIds w.heap.size w (some ⟨b, off, none⟩) len cap ids) := hI
  have HC : Hid (∀ j u, (u8s ids.flatten)[j]? = some u → (w.alloc (.cells #[] 33)).cell? ((⟨b, off, none⟩ : Addr).add j) = some u) := fun j u hu => by
    have hfl : ids.flatten.length ≤ 32 * len := by
      have := flat_ids hI.2.2.2.1 ids.length
      rw [List.take_length] at this
      omega
    have hj : j < ids.flatten.length := by
      rcases Nat.lt_or_ge j ids.flatten.length with h | h
      · exact h
      · rw [List.getElem?_eq_none (by simpa using h)] at hu; cases hu
    rcases hI.2.2.2.2 with h0 | ⟨b', off', e, hb, hc⟩
    · subst h0; omega
    · cases e
      have hi : j / 32 < ids.length := by omega
      have h1 := hc (j / 32) (by omega) (j % 32) u (by
        rw [← flat_drop hI.2.2.2.1 (j / 32) hi, ← u8s_drop, List.getElem?_take, if_pos (by omega), List.getElem?_drop, show j / 32 * 32 + j % 32 = j by omega]
        exact hu)
      rw [Addr.add_mid, show off + j = off + j / 32 * 32 + j % 32 by omega]
      exact (World.cell?_alloc_lt w _ ⟨b, off + j / 32 * 32 + j % 32, none⟩ hb).trans h1
  have HL : Hid ((u8s ids.flatten).length = len * 32) := by
    show _ = _
    rw [u8s_length]
    have : ∀ (l : List (List Nat)), (∀ x ∈ l, x.length = 32 ∧ ∀ z ∈ x, z < 256) → l.flatten.length = l.length * 32 := by
      intro l
      induction l with
      | nil => intro _; simp
      | cons a t ih => intro hl; have := ih (fun x hx => hl x (List.mem_cons_of_mem _ hx)); have := (hl a List.mem_cons_self).1; simp [*]; omega
    rw [this ids hI.2.2.2.1, hl]
  clear hI
  have hq : ∀ W : World, (binOp .eql 23 (.slice (some ⟨b, off, none⟩) len cap) (.slice none 0 0)).run Try.prog W = .ok (.bool false) W := fun W => Lib.run_eql_slice_nil W _ _ (some ⟨b, off, none⟩) len cap 0 0 Try.underlying23
  go_enter Try.func39, Try.ntmps39
  go_wp2_with (at_builtin; refine wpList_append_own _ rfl _ _ 23 rfl w.heap.size 33 i0 _ 32 32 Try.underlying23 hi0 hz0 hz1 hz2 (by simp [Value.cells]) (by omega) _ _ _ rfl (World.ownsRow_made w #[] 0 (Nat.le_refl _) (Nat.zero_le _) (by simp)) ⟨b, off, none⟩ len cap (u8s ids.flatten) rfl ?qc1 ?qc2 ?qc3 ?qc4 ?qc5 ?qc6 ?_)
  case qc1 => exact HL.out
  case qc2 => exact HC.out
  case qc3 => exact u8s_one _
  case qc4 => simp only [maxLen]; omega
  case qc5 => omega
  case qc6 => simp
  intro v' w1 hown hgrow hnil
  go_wp2
  go_ret
  refine ⟨v', rfl, ?_, ?_⟩
  · unfold OwnIds
    rw [hl]
    simpa using hown
  · exact ((Below.refl _ w).alloc (Nat.le_refl _) _).grown hgrow (by simp) (fun k e => by cases e; exact Nat.le_refl _)
end Go.Proofs.Ytfclbdlkpnoceaa
