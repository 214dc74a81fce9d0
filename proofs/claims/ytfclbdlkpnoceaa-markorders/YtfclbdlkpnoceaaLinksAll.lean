/-
  Several texts in one: Links, Links2.
-/
import Derived.Test.YtfclbdlkpnoceaaColl
import Derived.Test.YtfclbdlkpnoceaaSort
import Derived.Shelf.SlSortCmp.NoneTotal
/-
  envel.Links: the ids, each once, rising.
-/
namespace Go.Proofs.Ytfclbdlkpnoceaa
open Go.RowKit

set_option maxRecDepth 100000 in
set_option maxHeartbeats 1000000 in
/-- Of nothing once tells nothing. -/
theorem once1_none (n : Nat) (l Bs : Nat) (p : Option Addr) (cap M n₀ Bx n₂ : Nat) (W : World) (hbS : Boxed W Bs 23 (.slice p 0 cap)) :
    IterAt Fence.wide n Try.prog 55 #[.pointer (some ⟨Bs, 0, none⟩)] (fun x : List Nat => #[.agg (u8s x).toArray]) (fun x _ => IsId x) (KpO n₀ Bx n₂) (fun xs => xs = []) (fun _ => True) M l W := by
  intro J Jx hJ hJx hY h0
  have hfn : ∀ f, Fence.wide.fn f := fun _ => trivial
  obtain ⟨W1, hW1⟩ : ∃ W1, W.alloc (.cells #[.func (.yield l) #[] #[]] 90) = W1 := ⟨_, rfl⟩
  have hb1 : Below W.heap.size W W1 := by rw [← hW1]; exact (Below.refl _ W).alloc (Nat.le_refl _) _
  have HWA : Hid (W.alloc (.cells #[.func (.yield l) #[] #[]] 90) = W1) := hW1
  have HS0 : Hid (W1.cell? ⟨Bs, 0, none⟩ = some (.slice p 0 cap)) := (boxed_below hbS hb1).cell
  have HJ1 : Hid (J [] W1.drew) := OwnFrom.grow hJ h0 (hb1.trans ((Below.refl W1.heap.size W1).drew.mono hb1.size))
  refine callsIn_of_wp_marks Try.func55 rfl trivial ?_ rfl
  simp only [Try.ntmps55, List.size_toArray, List.length_cons, List.length_nil, Nat.reduceAdd, Nat.reduceSub, Array.replicate_succ, Array.replicate_zero, List.push_toArray, List.append_toArray, List.nil_append, List.cons_append]
  clear hW1 hY h0 hb1
  gi_wp2
  rw [HWA.out]
  refine wpIn_region_Wo (S := fun A => A.cell? ⟨Bs, 0, none⟩ = some (.slice p 0 cap)) (by kernel_rfl) HS0.out (fun hHeld => ?_)
  refine wpAnyW_takesAt 0 4 7 (of_decide_eq_true (by kernel_rfl)) rfl (fun _ _ _ d _ h => by cases d <;> exact h) (by kernel_rfl) (by kernel_rfl) hHeld ?_
  simp only [List.drop_zero, List.take_succ_cons, List.take_zero]
  iterate 4 (refine wpHeld_step (v := ?_) (by rfl) (fun wz hSw => ?_) ?_; rotate_left; (focus ((try dsimp only at hSw); go_simp; try with_reducible rfl)); (simp only [Act.put, List.setIfInBounds_toArray, List.set_cons_zero, List.set_cons_succ]))
  refine wpHeld_nil ?_
  refine wpAnyW_takesAt 4 6 1 (of_decide_eq_true (by kernel_rfl)) rfl (fun _ _ _ d _ h => by cases d <;> exact h) (by kernel_rfl) (by kernel_rfl) hHeld ?_
  simp only [List.drop_succ_cons, List.drop_zero, List.take_succ_cons, List.take_zero]
  iterate 6 (refine wpHeld_skip (by rfl) ?_; simp only [Act.put, List.setIfInBounds_toArray, List.set_cons_zero, List.set_cons_succ])
  refine wpHeld_nil ?_
  refine wpAnyW_takesAt 10 1 0 (of_decide_eq_true (by kernel_rfl)) rfl (fun _ _ _ d _ h => by cases d <;> exact h) (by kernel_rfl) (by kernel_rfl) hHeld ?_
  simp only [List.drop_succ_cons, List.drop_zero, List.take_succ_cons, List.take_zero]
  iterate 1 (refine wpHeld_step (v := ?_) (by rfl) (fun wz hSw => ?_) ?_; rotate_left; (focus ((try dsimp only at hSw); go_simp; try with_reducible rfl)); ((simp only [Act.put]; (try simp only [List.setIfInBounds_toArray]); (try simp only [List.set_cons_succ]); (try simp only [List.set_cons_zero]))))
  refine wpHeld_nil ?_
  refine wpAnyW_done (by kernel_rfl) ?_ _
  refine OnOnly.on ?_
  gi_wp2
  exact ⟨_, results_none rfl _ _ _, ⟨_, rfl⟩, .inl ⟨_, rfl, HJ1.out⟩⟩

set_option maxHeartbeats 1000000 in
theorem collect_of (Bs : Nat) (L : List (List Nat)) (w : World) (h : Calls Try.prog 54 #[.slice none 0 0, .func (.func 55) #[] #[.pointer (some ⟨Bs, 0, none⟩)]] w fun e w' => ∃ v, e = .returned v ∧ OwnIds w.heap.size w' v L ∧ Below w.heap.size w w') :
    Calls Try.prog 43 #[.func (.func 55) #[] #[.pointer (some ⟨Bs, 0, none⟩)]] w fun e w' => ∃ v, e = .returned v ∧ OwnIds w.heap.size w' v L ∧ Below w.heap.size w w' := by
  have H : Hid (Calls Try.prog 54 #[.slice none 0 0, .func (.func 55) #[] #[.pointer (some ⟨Bs, 0, none⟩)]] w fun e w' => ∃ v, e = .returned v ∧ OwnIds w.heap.size w' v L ∧ Below w.heap.size w w') := h
  clear h
  go_enter Try.func43, Try.ntmps43
  go_wp2_with (go_at_call 54; refine H.out.mono ?_; rintro e w1 ⟨v1, rfl, ho1, hb1⟩)
  go_ret
  exact ⟨_, rfl, ho1, hb1⟩

set_option maxHeartbeats 1000000 in
theorem clipI_any (q : Option Addr) (n c : Nat) (w : World) (hn : n ≤ c) (hc : c ≤ 9223372036854775807) (hq : q = none → n = 0 ∧ c = 0) :
    Calls Try.prog 42 #[.slice q n c] w fun e w' => e = .returned (.slice q n n) ∧ w' = w := by
  cases q with
  | none =>
    obtain ⟨rfl, rfl⟩ := hq rfl
    go_enter Try.func42, Try.ntmps42
    go_wp2
    go_ret
    exact ⟨rfl, rfl⟩
  | some a =>
    have h1 : (n : Int) ≤ (c : Int) := by omega
    go_enter Try.func42, Try.ntmps42
    go_wp2
    go_ret
    exact ⟨rfl, rfl⟩

set_option maxRecDepth 100000 in
set_option maxHeartbeats 1000000 in
theorem clone_none (len cap : Nat) (w : World) : Calls Try.prog 39 #[.slice none len cap] w fun e w' => e = .returned (.slice none 0 0) ∧ w' = w := by
  have hq : ∀ W : World, (binOp .eql 23 (.slice none len cap) (.slice none 0 0)).run Try.prog W = .ok (.bool true) W := fun W => Lib.run_eql_slice_nil W _ _ none len cap 0 0 Try.underlying23
  go_enter Try.func39, Try.ntmps39
  go_wp2
  go_ret
  exact ⟨rfl, rfl⟩
set_option maxRecDepth 100000 in
set_option maxHeartbeats 1000000 in
theorem clone_some (b off len cap : Nat) (ids : List (List Nat)) (w : World) (hlen : len ≤ 100000) (hI : IsIds w.heap.size w (some ⟨b, off, none⟩) len cap ids) :
    Calls Try.prog 39 #[.slice (some ⟨b, off, none⟩) len cap] w fun e w' => ∃ v, e = .returned v ∧ OwnIds w.heap.size w' v ids ∧ Below w.heap.size w w' := by
  obtain ⟨i0, hi0, hz0, hz1, hz2⟩ := info_parts info33
  have hl := hI.1
  have HI : Hid (IsIds w.heap.size w (some ⟨b, off, none⟩) len cap ids) := hI
  have HC : Hid (∀ j u, (u8s ids.flatten)[j]? = some u → (w.alloc (.cells #[] 33)).cell? ((⟨b, off, none⟩ : Addr).add j) = some u) := fun j u hu => by
    have hfl : ids.flatten.length ≤ 32 * len := by
      have := flat_ids hI.2.2.2.1 ids.length
      rw [List.take_length] at this
      omega
    have hj : j < ids.flatten.length := by
      rcases Nat.lt_or_ge j ids.flatten.length with h | h
      · exact h
      · rw [List.getElem?_eq_none (by simpa using h)] at hu; cases hu
    rcases hI.2.2.2.2 with h0 | ⟨b', off', e, hb, hc⟩
    · subst h0; omega
    · cases e
      have hi : j / 32 < ids.length := by omega
      have h1 := hc (j / 32) (by omega) (j % 32) u (by
        rw [← flat_drop hI.2.2.2.1 (j / 32) hi, ← u8s_drop, List.getElem?_take, if_pos (by omega), List.getElem?_drop, show j / 32 * 32 + j % 32 = j by omega]
        exact hu)
      rw [Addr.add_mid, show off + j = off + j / 32 * 32 + j % 32 by omega]
      exact (World.cell?_alloc_lt w _ ⟨b, off + j / 32 * 32 + j % 32, none⟩ hb).trans h1
  have HL : Hid ((u8s ids.flatten).length = len * 32) := by
    show _ = _
    rw [u8s_length]
    have : ∀ (l : List (List Nat)), (∀ x ∈ l, x.length = 32 ∧ ∀ z ∈ x, z < 256) → l.flatten.length = l.length * 32 := by
      intro l
      induction l with
      | nil => intro _; simp
      | cons a t ih => intro hl; have := ih (fun x hx => hl x (List.mem_cons_of_mem _ hx)); have := (hl a List.mem_cons_self).1; simp [*]; omega
    rw [this ids hI.2.2.2.1, hl]
  clear hI
  have hq : ∀ W : World, (binOp .eql 23 (.slice (some ⟨b, off, none⟩) len cap) (.slice none 0 0)).run Try.prog W = .ok (.bool false) W := fun W => Lib.run_eql_slice_nil W _ _ (some ⟨b, off, none⟩) len cap 0 0 Try.underlying23
  go_enter Try.func39, Try.ntmps39
  go_wp2_with (at_builtin; refine wpList_append_own _ rfl _ _ 23 rfl w.heap.size 33 i0 _ 32 32 Try.underlying23 hi0 hz0 hz1 hz2 (by simp [Value.cells]) (by omega) _ _ _ rfl (World.ownsRow_made w #[] 0 (Nat.le_refl _) (Nat.zero_le _) (by simp)) ⟨b, off, none⟩ len cap (u8s ids.flatten) rfl ?qc1 ?qc2 ?qc3 ?qc4 ?qc5 ?qc6 ?_)
  case qc1 => exact HL.out
  case qc2 => exact HC.out
  case qc3 => exact u8s_one _
  case qc4 => simp only [maxLen]; omega
  case qc5 => omega
  case qc6 => simp
  intro v' w1 hown hgrow hnil
  go_wp2
  go_ret
  refine ⟨v', rfl, ?_, ?_⟩
  · unfold OwnIds
    rw [hl]
    simpa using hown
  · exact ((Below.refl _ w).alloc (Nat.le_refl _) _).grown hgrow (by simp) (fun k e => by cases e; exact Nat.le_refl _)
end Go.Proofs.Ytfclbdlkpnoceaa
/-
  envel.Links: the ids, each once, rising.
-/
namespace Go.Proofs.Ytfclbdlkpnoceaa
open Go.RowKit

/-- What Links answers. -/
def LinksPost (w : World) (ids : List (List Nat)) (e : Ending) (w' : World) : Prop := ∃ q n, e = .returned (.slice q n n) ∧ IsIds w'.heap.size w' q n n (linksL ids) ∧ Below w.heap.size w w'
theorem linksL_all {ids : List (List Nat)} (h : ∀ x ∈ ids, x.length = 32 ∧ ∀ z ∈ x, z < 256) : ∀ x ∈ linksL ids, x.length = 32 ∧ ∀ z ∈ x, z < 256 := fun x hx => h x ((linksL_mem ids x).1 hx)
theorem own_ids_slice {W : World} {n₀ : Nat} {v : Value} {ids : List (List Nat)} (h : OwnIds n₀ W v ids) (hi : ∀ x ∈ ids, x.length = 32 ∧ ∀ z ∈ x, z < 256) : ∃ q n c, v = .slice q n c ∧ ids.length = n ∧ IsIds W.heap.size W q n c ids ∧ (q = none → n = 0 ∧ c = 0) := by
  obtain ⟨q, c, rfl⟩ := h.slice
  refine ⟨q, _, c, rfl, rfl, h.ids rfl hi, ?_⟩
  rintro rfl
  rcases h.2 with ⟨e, hl⟩ | ⟨g, cap, cur, e, _⟩
  · injection e with _ h1 h2
    exact ⟨h1, h2⟩
  · injection e with h1
    cases h1
theorem IsIds.clip {n₀ : Nat} {W : World} {q : Option Addr} {n c : Nat} {ids : List (List Nat)} (h : IsIds n₀ W q n c ids) : IsIds n₀ W q n n ids := ⟨h.1, Nat.le_refl _, by have := h.2.1; have := h.2.2.1; omega, h.2.2.2.1, h.2.2.2.2⟩

set_option maxRecDepth 100000 in
set_option maxHeartbeats 2000000 in
theorem links_pos (b off len cap : Nat) (ids : List (List Nat)) (hlen : len ≤ 1000) (hpos : 0 < len) (w : World) (hI : IsIds w.heap.size w (some ⟨b, off, none⟩) len cap ids) : Calls Try.prog 24 #[.slice (some ⟨b, off, none⟩) len cap] w (LinksPost w ids) := by
  have HI32 : Hid (∀ x ∈ ids, x.length = 32 ∧ ∀ z ∈ x, z < 256) := hI.2.2.2.1
  have hl := hI.1
  have HC : Hid (Calls Try.prog 39 #[.slice (some ⟨b, off, none⟩) len cap] w fun e w' => ∃ g c cur, e = .returned (.slice (some ⟨g, 0, none⟩) len c) ∧ w.heap.size ≤ g ∧ Row w' g 33 cur ∧ IsIds w'.heap.size w' (some ⟨g, 0, none⟩) len c ids ∧ Below w.heap.size w w') := by
    refine (clone_some b off len cap ids w (by omega) hI).mono ?_
    rintro e w' ⟨v, rfl, ho, hb⟩
    obtain ⟨q, n, c, rfl, hn, hi, _⟩ := own_ids_slice ho HI32.out
    obtain rfl : len = n := by omega
    unfold OwnIds at ho
    rw [hn] at ho
    obtain ⟨g, cur, rfl, hg, hr, _⟩ := row_of_own ho hpos
    exact ⟨g, c, cur, rfl, hg, hr, hi, hb⟩
  have HLen : Hid (∀ s : List (List Nat), s.Perm ids → s.length = len) := fun s hs => by rw [hs.length_eq]; exact hl
  clear hI hl
  go_enter Try.func24, Try.ntmps24
  go_wp2_with (first
    | (go_at_call 39; refine HC.out.mono ?_; rintro e w1 ⟨g, c1, cur, rfl, hg, hr1, hi1, hb1⟩; have H1 := sort_ids g len c1 ids cur w1 hr1 hi1 (by omega); have hgl := hr1.lt; clear hr1 hi1)
    | (go_at_call 40; refine H1.mono ?_; clear H1; rintro e w2 ⟨rfl, s, hp, hs, hi2, hb2⟩; have hB2 : Below w.heap.size w w2 := hb1.trans (hb2.mono hg); have HP : Hid (onceL s = linksL ids) := onceL_links ids s hp hs; have HI2 : Hid (IsIds w2.heap.size w2 (some ⟨g, 0, none⟩) len c1 s) := hi2; clear hp hs hi2 hb2 hb1)
    | (go_at_call 44; refine (once_any _ _ _ _).mono ?_; rintro e w3 ⟨rfl, hw3⟩; have hb3 : Below w2.heap.size w2 w3 := (by rw [hw3]; exact (Below.refl _ w2).alloc (Nat.le_refl _) _); have hbS : Boxed w3 w2.heap.size 23 (.slice (some ⟨g, 0, none⟩) len c1) := (by rw [hw3]; exact Boxed.new w2 23 _); have hs3 : w3.heap.size = w2.heap.size + 1 := (by rw [hw3]; simp); have hi3 := (HI2.out.below hb3).mono hb3.size; have H3 := callsIn_wide.1 (appendSeq_in 7 (Nat.le_refl _) w2.heap.size (onceL s) (len + 1) (by omega) w3 (fun l W hsW hbW => once1_iter 6 (by omega) l w2.heap.size w3.heap.size w3.heap.size (w3.heap.size + 3) g 0 len c1 s (by omega) hpos W (by omega) (by omega) (by omega) (by omega) (boxed_below (boxed_below hbS ((Below.refl _ w3).alloc (Nat.le_refl _) _)) (hbW.mono (by simp))) ((hi3.below ((Below.refl _ w3).alloc (Nat.le_refl _) (.cells #[.slice none 0 0] 23))).below (hbW.mono (by omega))))); have hB3 : Below w.heap.size w w3 := hB2.trans (hb3.mono hB2.size); rw [HP.out] at H3; have H4 := collect_of w2.heap.size (linksL ids) w3 H3; clear hw3 hb3 hbS hs3 hi3 H3 hB2)
    | (go_at_call 43; refine H4.mono ?_; clear H4; rintro e w4 ⟨v4, rfl, ho4, hb4⟩; have hB4 : Below w.heap.size w w4 := hB3.trans (hb4.mono hB3.size); obtain ⟨q4, n4, c4, hv4, hn4, hi4, hq4⟩ := own_ids_slice ho4 (linksL_all HI32.out); subst hv4; have H5 := clipI_any q4 n4 c4 w4 hi4.2.1 hi4.2.2.1 hq4; have HI4 : Hid (IsIds w4.heap.size w4 q4 n4 n4 (linksL ids)) := hi4.clip; clear ho4 hb4 hB3 hi4 hq4)
    | (go_at_call 42; refine H5.mono ?_; clear H5; rintro e w5 ⟨rfl, hw5⟩; obtain rfl : w4 = w5 := hw5.symm; clear hw5))
  go_ret
  exact ⟨q4, n4, rfl, HI4.out, hB4⟩

set_option maxRecDepth 100000 in
set_option maxHeartbeats 1000000 in
theorem clone_zero (a : Addr) (cap : Nat) (w : World) : Calls Try.prog 39 #[.slice (some a) 0 cap] w fun e w' => ∃ v, e = .returned v ∧ OwnIds w.heap.size w' v [] ∧ Below w.heap.size w w' := by
  obtain ⟨i0, hi0, hz0, hz1, hz2⟩ := info_parts info33
  have hq : ∀ W : World, (binOp .eql 23 (.slice (some a) 0 cap) (.slice none 0 0)).run Try.prog W = .ok (.bool false) W := fun W => Lib.run_eql_slice_nil W _ _ (some a) 0 cap 0 0 Try.underlying23
  go_enter Try.func39, Try.ntmps39
  go_wp2_with (at_builtin; refine wpList_append_own _ rfl _ _ 23 rfl w.heap.size 33 i0 _ 32 32 Try.underlying23 hi0 hz0 hz1 hz2 (by simp [Value.cells]) (by omega) _ _ _ rfl (World.ownsRow_made w #[] 0 (Nat.le_refl _) (Nat.zero_le _) (by simp)) a 0 cap [] rfl ?qc1 ?qc2 ?qc3 ?qc4 ?qc5 ?qc6 ?_)
  case qc1 => rfl
  case qc2 => exact fun j u hu => by cases hu
  case qc3 => simp
  case qc4 => simp only [maxLen]; omega
  case qc5 => omega
  case qc6 => simp
  intro v' w1 hown hgrow hnil
  go_wp2
  go_ret
  refine ⟨v', rfl, ?_, ?_⟩
  · have h : w1.ownsRow w.heap.size 33 32 v' 0 [] := by simpa using hown
    exact h
  · exact ((Below.refl _ w).alloc (Nat.le_refl _) _).grown hgrow (by simp) (fun k e => by cases e; exact Nat.le_refl _)

set_option maxRecDepth 100000 in
set_option maxHeartbeats 2000000 in
theorem links_zero (p : Option Addr) (cap : Nat) (w : World) : Calls Try.prog 24 #[.slice p 0 cap] w (LinksPost w []) := by
  have HC : Hid (Calls Try.prog 39 #[.slice p 0 cap] w fun e w' => ∃ q c, e = .returned (.slice q 0 c) ∧ Below w.heap.size w w') := by
    cases p with
    | none =>
      refine (clone_none 0 cap w).mono ?_
      rintro e w' ⟨rfl, rfl⟩
      exact ⟨_, _, rfl, Below.refl _ _⟩
    | some a =>
      refine (clone_zero a cap w).mono ?_
      rintro e w' ⟨v, rfl, ho, hb⟩
      obtain ⟨q, c, rfl⟩ := ho.slice
      exact ⟨_, _, rfl, hb⟩
  go_enter Try.func24, Try.ntmps24
  go_wp2_with (first
    | (go_at_call 39; refine HC.out.mono ?_; rintro e w1 ⟨q1, c1, rfl, hb1⟩; have H1 : Calls Try.prog 40 #[.slice q1 0 c1, .func (.func 41) #[] #[]] w1 (fun e w' => e = .returned (.tuple #[]) ∧ w' = w1) := AnyF.slices_SortFunc_none sortIds q1 c1 (.func (.func 41) #[] #[]) w1)
    | (go_at_call 40; refine H1.mono ?_; clear H1; rintro e w2 ⟨rfl, hw2⟩; obtain rfl : w1 = w2 := hw2.symm; clear hw2)
    | (go_at_call 44; refine (once_any _ _ _ _).mono ?_; rintro e w3 ⟨rfl, hw3⟩; have hb3 : Below w1.heap.size w1 w3 := (by rw [hw3]; exact (Below.refl _ w1).alloc (Nat.le_refl _) _); have hbS : Boxed w3 w1.heap.size 23 (.slice q1 0 c1) := (by rw [hw3]; exact Boxed.new w1 23 _); have H3 := callsIn_wide.1 (appendSeq_in 7 (Nat.le_refl _) w1.heap.size [] 1 (by omega) w3 (fun l W hsW hbW => once1_none 6 l w1.heap.size q1 c1 1 w3.heap.size w3.heap.size (w3.heap.size + 3) W (boxed_below (boxed_below hbS ((Below.refl _ w3).alloc (Nat.le_refl _) _)) (hbW.mono (by simp))))); have hB3 : Below w.heap.size w w3 := hb1.trans (hb3.mono hb1.size); have H4 := collect_of w1.heap.size [] w3 H3; clear hw3 hb3 hbS H3 hb1)
    | (go_at_call 43; refine H4.mono ?_; clear H4; rintro e w4 ⟨v4, rfl, ho4, hb4⟩; have hB4 : Below w.heap.size w w4 := hB3.trans (hb4.mono hB3.size); obtain ⟨q4, n4, c4, hv4, hn4, hi4, hq4⟩ := own_ids_slice ho4 (by simp); subst hv4; have H5 := clipI_any q4 n4 c4 w4 hi4.2.1 hi4.2.2.1 hq4; have HI4 : Hid (IsIds w4.heap.size w4 q4 n4 n4 []) := hi4.clip; clear ho4 hb4 hB3 hi4 hq4)
    | (go_at_call 42; refine H5.mono ?_; clear H5; rintro e w5 ⟨rfl, hw5⟩; obtain rfl : w4 = w5 := hw5.symm; clear hw5))
  go_ret
  exact ⟨q4, n4, rfl, HI4.out, hB4⟩

/-- Links -/
theorem links_any (p : Option Addr) (len cap : Nat) (ids : List (List Nat)) (hlen : len ≤ 1000) (w : World) (hI : IsIds w.heap.size w p len cap ids) : Calls Try.prog 24 #[.slice p len cap] w (LinksPost w ids) := by
  by_cases h0 : len = 0
  · subst h0
    obtain rfl := List.eq_nil_of_length_eq_zero hI.1
    exact links_zero p cap w
  · obtain ⟨b, off, rfl, _⟩ : ∃ b off, p = some ⟨b, off, none⟩ ∧ b < w.heap.size := by
      rcases hI.2.2.2.2 with h | ⟨b, off, h, hb, _⟩
      · exact absurd h h0
      · exact ⟨b, off, h, hb⟩
    exact links_pos b off len cap ids hlen (by omega) w hI
end Go.Proofs.Ytfclbdlkpnoceaa
