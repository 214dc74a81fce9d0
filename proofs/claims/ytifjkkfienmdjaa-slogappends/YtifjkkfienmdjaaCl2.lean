/-
  slices.Clone of bytes; take.
-/
import Derived.Test.YtifjkkfienmdjaaMLog
import Derived.Test.YtifjkkfienmdjaaCl
namespace Go.Proofs.Ytifjkkfienmdjaa
open Go.RowKit Go.Shelf Go.Lib

set_option maxHeartbeats 2000000 in
set_option maxRecDepth 100000 in
theorem clone41_row (ad : Addr) (n c : Nat) (news : List Value) (w : World) (hl : news.length = n * 1) (hn : n ≤ 1000000)
    (hc : ∀ j u, news[j]? = some u → w.cell? (ad.add j) = some u) (h1 : ∀ u ∈ news, u.oneCell' = true) :
    Calls Try.prog 41 #[.slice (some ad) n c] w fun e w' => ∃ v', e = .returned v' ∧ w'.ownsRow w.heap.size 5 1 v' n news ∧ v' ≠ .slice none 0 0 ∧ Below w.heap.size w w' := by
  obtain ⟨i0, hi, hz0, hz1, hz2⟩ := info_parts info5
  have q22 : ∀ (w : World) (a : Option Addr) (n c n' c' : Nat), (binOp .eql 25 (.slice a n c) (.slice none n' c')).run Try.prog w = .ok (.bool a.isNone) w := fun w a n c n' c' => Lib.run_eql_slice_nil w _ _ a n c n' c' Try.underlying25
  have A : Hid (∀ j u, news[j]? = some u → w.cell? (ad.add j) = some u) := hc
  clear hc
  go_enter Try.func41, Try.ntmps41
  go_wp2_with (at_builtin; refine wpList_append_own _ rfl _ _ 25 rfl w.heap.size 5 i0 _ 1 1 Try.underlying25 hi hz0 hz1 hz2 rfl (by decide) _ _ _ rfl (World.ownsRow_made w #[] 0 (Nat.le_refl _) (Nat.zero_le _) (by simp)) ad n c news rfl ?qc1 ?qc2 ?qc3 ?qc4 ?qc5 ?qc6 ?_)
  case qc1 => exact hl
  case qc2 =>
    intro j u hj
    exact Lib.cell?_alloc_some _ (A.out j u hj)
  case qc3 => exact h1
  case qc4 => simp only [maxLen]; omega
  case qc5 => omega
  case qc6 => simp
  intro v' w1 hown hgrow hnil
  go_wp2
  go_ret
  refine ⟨v', rfl, by simpa using hown, ?_, ?_⟩
  · exact hnil
  · exact ((Below.refl _ w).alloc (Nat.le_refl _) _).grown hgrow (by simp) (by intro k hk; simp [Value.ownBlock] at hk; omega)
set_option maxHeartbeats 1000000 in
theorem clone41_nil (n c : Nat) (w : World) : Calls Try.prog 41 #[.slice none n c] w fun e w' => e = .returned (.slice none 0 0) ∧ w' = w := by
  have q22 : ∀ (w : World) (a : Option Addr) (n c n' c' : Nat), (binOp .eql 25 (.slice a n c) (.slice none n' c')).run Try.prog w = .ok (.bool a.isNone) w := fun w a n c n' c' => Lib.run_eql_slice_nil w _ _ a n c n' c' Try.underlying25
  go_enter Try.func41, Try.ntmps41
  go_wp2
  go_ret
  exact ⟨rfl, rfl⟩
/-- slices.Clone of bytes -/
theorem clone41_any {m : Nat} {q : Option Addr} {len cap : Nat} {zs : List Nat} {w : World} (h : IsBytes m w q len cap zs) (hlen : len ≤ 1000000) :
    Calls Try.prog 41 #[.slice q len cap] w fun e w' => ∃ v', e = .returned v' ∧ Own w.heap.size w' v' zs ∧ Below w.heap.size w w' := by
  obtain ⟨h1, h2, h3, hz, h4⟩ := h
  cases q with
  | none =>
    have h0 : len = 0 := by
      rcases h4 with h | ⟨_, _, e, _⟩
      · exact h
      · cases e
    subst h0
    obtain rfl := List.length_eq_zero_iff.1 h1
    refine (clone41_nil 0 cap w).mono ?_
    rintro e w' ⟨rfl, rfl⟩
    exact ⟨_, rfl, World.ownsRow_nil _ _ _ _, Below.refl _ _⟩
  | some ad =>
    have hc : ∀ j u, (u8s zs)[j]? = some u → w.cell? (ad.add j) = some u := by
      rcases h4 with h0 | ⟨b, off, e, hb, hr⟩
      · subst h0
        obtain rfl := List.length_eq_zero_iff.1 h1
        intro j u hj
        simp [u8s] at hj
      · cases e
        intro j u hj
        have hjl := (List.getElem?_eq_some_iff.1 hj).1
        rw [u8s_length] at hjl
        rw [Addr.add_mid, hr j (by omega), ← hj, u8s_at hjl]
    refine (clone41_row ad len cap (u8s zs) w (by rw [u8s_length]; omega) hlen hc (u8s_one _)).mono ?_
    rintro e w' ⟨v', rfl, hown, _, hb⟩
    refine ⟨v', rfl, ?_, hb⟩
    unfold Own
    rw [h1]
    exact hown
end Go.Proofs.Ytifjkkfienmdjaa
