/-
  slices.Clone of crashes and of sectors: the same, in memory of its own.
-/
import Derived.Test.YtifjkkfienmdjaaWi
import Derived.Lib.Walk
import Derived.Lib.SliceRun
import Derived.Shelf.RegionOpenPlain
namespace Go.Proofs.Ytifjkkfienmdjaa
open Go.RowKit Go.Shelf Go.Lib

theorem info45 : (Try.prog.info? 45).map (fun i => (i.zero, i.size, i.bytes)) = some (some (.agg #[.int .i64 0, .int .i64 0]), 2, 16) := by kernel_rfl
theorem info55 : (Try.prog.info? 55).map (fun i => (i.zero, i.size, i.bytes)) = some (some (.agg (u8s zeros64).toArray), 64, 64) := by kernel_rfl
theorem hide29 {P : Program} {t : TypeId} {L : List Value} {n m : Nat} (h : (P.info? t).map (fun i => (i.zero, i.size, i.bytes)) = some (some (.agg L.toArray), n, m)) : ∃ z : Value, z.cells = L.toArray ∧ (P.info? t).map (fun i => (i.zero, i.size, i.bytes)) = some (some z, n, m) := ⟨_, rfl, h⟩

set_option maxHeartbeats 2000000 in
set_option maxRecDepth 100000 in
theorem clone21_row (ad : Addr) (n c : Nat) (news : List Value) (w : World) (hl : news.length = n * 2) (hn : n ≤ 100000)
    (hc : ∀ j u, news[j]? = some u → w.cell? (ad.add j) = some u) (h1 : ∀ u ∈ news, u.oneCell' = true) :
    Calls Try.prog 39 #[.slice (some ad) n c] w fun e w' => ∃ v', e = .returned v' ∧ w'.ownsRow w.heap.size 45 2 v' n news ∧ v' ≠ .slice none 0 0 ∧ Below w.heap.size w w' := by
  obtain ⟨i0, hi, hz0, hz1, hz2⟩ := info_parts info45
  have q22 : ∀ (w : World) (a : Option Addr) (n c n' c' : Nat), (binOp .eql 49 (.slice a n c) (.slice none n' c')).run Try.prog w = .ok (.bool a.isNone) w := fun w a n c n' c' => Lib.run_eql_slice_nil w _ _ a n c n' c' Try.underlying49
  have A : Hid (∀ j u, news[j]? = some u → w.cell? (ad.add j) = some u) := hc
  clear hc
  go_enter Try.func39, Try.ntmps39
  go_wp2_with (at_builtin; refine wpList_append_own _ rfl _ _ 49 rfl w.heap.size 45 i0 _ 2 16 Try.underlying49 hi hz0 hz1 hz2 rfl (by decide) _ _ _ rfl (World.ownsRow_made w #[] 0 (Nat.le_refl _) (Nat.zero_le _) (by simp)) ad n c news rfl ?qc1 ?qc2 ?qc3 ?qc4 ?qc5 ?qc6 ?_)
  case qc1 => exact hl
  case qc2 =>
    intro j u hj
    exact Lib.cell?_alloc_some _ (A.out j u hj)
  case qc3 => exact h1
  case qc4 => simp only [maxLen]; omega
  case qc5 => omega
  case qc6 => simp
  intro v' w1 hown hgrow hnil
  go_wp2
  go_ret
  refine ⟨v', rfl, by simpa using hown, ?_, ?_⟩
  · exact hnil
  · exact ((Below.refl _ w).alloc (Nat.le_refl _) _).grown hgrow (by simp) (by intro k hk; simp [Value.ownBlock] at hk; omega)
set_option maxHeartbeats 1000000 in
theorem clone21_nil (n c : Nat) (w : World) : Calls Try.prog 39 #[.slice none n c] w fun e w' => e = .returned (.slice none 0 0) ∧ w' = w := by
  have q22 : ∀ (w : World) (a : Option Addr) (n c n' c' : Nat), (binOp .eql 49 (.slice a n c) (.slice none n' c')).run Try.prog w = .ok (.bool a.isNone) w := fun w a n c n' c' => Lib.run_eql_slice_nil w _ _ a n c n' c' Try.underlying49
  go_enter Try.func39, Try.ntmps39
  go_wp2
  go_ret
  exact ⟨rfl, rfl⟩
theorem row_cap {W : World} {n₀ n c : Nat} {e : TypeId} {size : Nat} {q : Option Addr} {xs : List Value} (h : W.ownsRow n₀ e size (.slice q n c) n xs) : c ≤ 9223372036854775807 := by
  rcases h.2 with ⟨e, _⟩ | ⟨g, cp, cur, e, hg, hgg, hnc, hcm, hcs, ht⟩
  · cases e; omega
  · cases e; simpa only [maxLen] using hcm

/-- Crashes cloned: outside any blocks that lay before, or are named behind the call. -/
theorem clone21_any {q : Option Addr} {len cap : Nat} {cr : List (Int × Int)} {w : World} (h : CrAt [] w q len cap cr) (hlen : len ≤ 100000) :
    Calls Try.prog 39 #[.slice q len cap] w fun e w' => ∃ q' cap', e = .returned (.slice q' len cap') ∧ (∀ F, (∀ x ∈ F, x < w.heap.size ∨ w'.heap.size ≤ x) → CrAt F w' q' len cap' cr) ∧ Below w.heap.size w w' := by
  obtain ⟨h1, h2, h3, h4⟩ := h
  cases q with
  | none =>
    have h0 : len = 0 := by
      rcases h4 with h | ⟨_, _, e, _⟩
      · exact h
      · cases e
    subst h0
    refine (clone21_nil 0 cap w).mono ?_
    rintro e w' ⟨rfl, rfl⟩
    exact ⟨none, 0, rfl, fun F _ => ⟨h1, Nat.le_refl _, by omega, .inl rfl⟩, Below.refl _ _⟩
  | some ad =>
    obtain ⟨b, off, fld⟩ := ad
    rcases h4 with h0 | ⟨b', off', e, hb, _, hr⟩
    · subst h0
      obtain rfl := List.length_eq_zero_iff.1 h1
      refine (clone21_row ⟨b, off, fld⟩ 0 cap [] w rfl (by omega) (by simp) (by simp)).mono ?_
      rintro e w' ⟨v', rfl, hown, hne, hbl⟩
      obtain ⟨q', c', rfl⟩ : ∃ q c, v' = .slice q 0 c := slice_of_row hown
      exact ⟨q', c', rfl, fun F _ => ⟨rfl, Nat.zero_le _, row_cap hown, .inl rfl⟩, hbl⟩
    · cases e
      refine (clone21_row ⟨b, off, none⟩ len cap (crC cr) w (by rw [crC_length, h1]) hlen (fun j u hj => by rw [Addr.add_lit]; exact hr j u hj) (crC_one cr)).mono ?_
      rintro e w' ⟨v', rfl, hown, hne, hbl⟩
      rcases hown.2 with ⟨rfl, _⟩ | ⟨g, cp, cur, rfl, hg, hgg, hnc, hcm, hcs, ht⟩
      · exact absurd rfl hne
      · refine ⟨_, cp, rfl, fun F hF => ⟨h1, hnc, by simpa only [maxLen] using hcm, .inr ⟨g, 0, rfl, (Array.getElem?_eq_some_iff.1 hgg).1, fun hx => ?_, ?_⟩⟩, hbl⟩
        · have h5 := (Array.getElem?_eq_some_iff.1 hgg).1
          rcases hF g hx with h | h <;> omega
        · intro j v hj
          have hjl := (List.getElem?_eq_some_iff.1 hj).1
          rw [crC_length, h1] at hjl
          rw [Nat.zero_add, hown.cellAt j hjl, hj]
end Go.Proofs.Ytifjkkfienmdjaa
