/-
  Clones of fates and of bytes; within, Waiting, fate.
-/
import Derived.Test.YthdfhbbfbohojaaLk
import Derived.Test.YthdfhbbfbohojaaOps
import Derived.Lib.Walk
import Derived.Lib.SliceRun
import Derived.Shelf.RegionOpenPlain
namespace Go.Proofs.Ythdfhbbfbohojaa
open Go.RowKit Go.Shelf Go.Lib

theorem info47 : (Try.prog.info? 47).map (fun i => (i.zero, i.size, i.bytes)) = some (some (.agg #[.int .i64 0, .int .i64 0]), 2, 16) := by kernel_rfl

set_option maxHeartbeats 2000000 in
set_option maxRecDepth 100000 in
theorem clone15_row (ad : Addr) (n c : Nat) (news : List Value) (w : World) (hl : news.length = n * 2) (hn : n ≤ 100000)
    (hc : ∀ j u, news[j]? = some u → w.cell? (ad.add j) = some u) (h1 : ∀ u ∈ news, u.oneCell' = true) :
    Calls Try.prog 15 #[.slice (some ad) n c] w fun e w' => ∃ v', e = .returned v' ∧ w'.ownsRow w.heap.size 47 2 v' n news ∧ v' ≠ .slice none 0 0 ∧ Below w.heap.size w w' := by
  obtain ⟨i0, hi, hz0, hz1, hz2⟩ := info_parts info47
  have q22 : ∀ (w : World) (a : Option Addr) (n c n' c' : Nat), (binOp .eql 22 (.slice a n c) (.slice none n' c')).run Try.prog w = .ok (.bool a.isNone) w := fun w a n c n' c' => Lib.run_eql_slice_nil w _ _ a n c n' c' Try.underlying22
  have A : Hid (∀ j u, news[j]? = some u → w.cell? (ad.add j) = some u) := hc
  clear hc
  go_enter Try.func15, Try.ntmps15
  go_wp2_with (at_builtin; refine wpList_append_own _ rfl _ _ 22 rfl w.heap.size 47 i0 _ 2 16 Try.underlying22 hi hz0 hz1 hz2 rfl (by decide) _ _ _ rfl (World.ownsRow_made w #[] 0 (Nat.le_refl _) (Nat.zero_le _) (by simp)) ad n c news rfl ?qc1 ?qc2 ?qc3 ?qc4 ?qc5 ?qc6 ?_)
  case qc1 => exact hl
  case qc2 =>
    intro j u hj
    exact Lib.cell?_alloc_some _ (A.out j u hj)
  case qc3 => exact h1
  case qc4 => simp only [maxLen]; omega
  case qc5 => omega
  case qc6 => simp
  intro v' w1 hown hgrow hnil
  go_wp2
  go_ret
  refine ⟨v', rfl, by simpa using hown, ?_, ?_⟩
  · exact hnil
  · exact ((Below.refl _ w).alloc (Nat.le_refl _) _).grown hgrow (by simp) (by intro k hk; simp [Value.ownBlock] at hk; omega)
set_option maxHeartbeats 1000000 in
theorem clone15_nil (n c : Nat) (w : World) : Calls Try.prog 15 #[.slice none n c] w fun e w' => e = .returned (.slice none 0 0) ∧ w' = w := by
  have q22 : ∀ (w : World) (a : Option Addr) (n c n' c' : Nat), (binOp .eql 22 (.slice a n c) (.slice none n' c')).run Try.prog w = .ok (.bool a.isNone) w := fun w a n c n' c' => Lib.run_eql_slice_nil w _ _ a n c n' c' Try.underlying22
  go_enter Try.func15, Try.ntmps15
  go_wp2
  go_ret
  exact ⟨rfl, rfl⟩

set_option maxHeartbeats 2000000 in
set_option maxRecDepth 100000 in
theorem clone20_row (ad : Addr) (n c : Nat) (news : List Value) (w : World) (hl : news.length = n * 1) (hn : n ≤ 1000000)
    (hc : ∀ j u, news[j]? = some u → w.cell? (ad.add j) = some u) (h1 : ∀ u ∈ news, u.oneCell' = true) :
    Calls Try.prog 20 #[.slice (some ad) n c] w fun e w' => ∃ v', e = .returned v' ∧ w'.ownsRow w.heap.size 5 1 v' n news ∧ v' ≠ .slice none 0 0 ∧ Below w.heap.size w w' := by
  obtain ⟨i0, hi, hz0, hz1, hz2⟩ := info_parts info5
  have q22 : ∀ (w : World) (a : Option Addr) (n c n' c' : Nat), (binOp .eql 32 (.slice a n c) (.slice none n' c')).run Try.prog w = .ok (.bool a.isNone) w := fun w a n c n' c' => Lib.run_eql_slice_nil w _ _ a n c n' c' Try.underlying32
  have A : Hid (∀ j u, news[j]? = some u → w.cell? (ad.add j) = some u) := hc
  clear hc
  go_enter Try.func20, Try.ntmps20
  go_wp2_with (at_builtin; refine wpList_append_own _ rfl _ _ 32 rfl w.heap.size 5 i0 _ 1 1 Try.underlying32 hi hz0 hz1 hz2 rfl (by decide) _ _ _ rfl (World.ownsRow_made w #[] 0 (Nat.le_refl _) (Nat.zero_le _) (by simp)) ad n c news rfl ?qc1 ?qc2 ?qc3 ?qc4 ?qc5 ?qc6 ?_)
  case qc1 => exact hl
  case qc2 =>
    intro j u hj
    exact Lib.cell?_alloc_some _ (A.out j u hj)
  case qc3 => exact h1
  case qc4 => simp only [maxLen]; omega
  case qc5 => omega
  case qc6 => simp
  intro v' w1 hown hgrow hnil
  go_wp2
  go_ret
  refine ⟨v', rfl, by simpa using hown, ?_, ?_⟩
  · exact hnil
  · exact ((Below.refl _ w).alloc (Nat.le_refl _) _).grown hgrow (by simp) (by intro k hk; simp [Value.ownBlock] at hk; omega)
set_option maxHeartbeats 1000000 in
theorem clone20_nil (n c : Nat) (w : World) : Calls Try.prog 20 #[.slice none n c] w fun e w' => e = .returned (.slice none 0 0) ∧ w' = w := by
  have q22 : ∀ (w : World) (a : Option Addr) (n c n' c' : Nat), (binOp .eql 32 (.slice a n c) (.slice none n' c')).run Try.prog w = .ok (.bool a.isNone) w := fun w a n c n' c' => Lib.run_eql_slice_nil w _ _ a n c n' c' Try.underlying32
  go_enter Try.func20, Try.ntmps20
  go_wp2
  go_ret
  exact ⟨rfl, rfl⟩

/-- bytes.Clone. -/
theorem cloneB_any {m : Nat} {q : Option Addr} {len cap : Nat} {zs : List Nat} {w : World} (h : IsBytes m w q len cap zs) (hlen : len ≤ 1000000) :
    Calls Try.prog 20 #[.slice q len cap] w fun e w' => ∃ v', e = .returned v' ∧ Own w.heap.size w' v' zs ∧ Below w.heap.size w w' := by
  obtain ⟨h1, h2, h3, hz, h4⟩ := h
  cases q with
  | none =>
    have h0 : len = 0 := by
      rcases h4 with h | ⟨_, _, e, _⟩
      · exact h
      · cases e
    subst h0
    obtain rfl := List.length_eq_zero_iff.1 h1
    refine (clone20_nil 0 cap w).mono ?_
    rintro e w' ⟨rfl, rfl⟩
    exact ⟨_, rfl, World.ownsRow_nil _ _ _ _, Below.refl _ _⟩
  | some ad =>
    have hc : ∀ j u, (u8s zs)[j]? = some u → w.cell? (ad.add j) = some u := by
      rcases h4 with h0 | ⟨b, off, e, hb, hr⟩
      · subst h0
        obtain rfl := List.length_eq_zero_iff.1 h1
        intro j u hj
        simp [u8s] at hj
      · cases e
        intro j u hj
        have hjl := (List.getElem?_eq_some_iff.1 hj).1
        rw [u8s_length] at hjl
        rw [Addr.add_mid, hr j (by omega), ← hj, u8s_at hjl]
    refine (clone20_row ad len cap (u8s zs) w (by rw [u8s_length]; omega) hlen hc (u8s_one _)).mono ?_
    rintro e w' ⟨v', rfl, hown, _, hb⟩
    refine ⟨v', rfl, ?_, hb⟩
    unfold Own
    rw [h1]
    exact hown
/-- slices.Clone of fates. -/
theorem cloneF_any {base : Nat} {v : Value} {fs : List (Int × Int)} {w : World} (h : FatesAt base w v fs) (hlen : fs.length ≤ 100000) :
    Calls Try.prog 15 #[v] w fun e w' => ∃ v', e = .returned v' ∧ FatesAt base w' v' fs ∧ Below w.heap.size w w' := by
  obtain ⟨q, cap, rfl, h1, h2, h3⟩ := h
  cases q with
  | none =>
    have h0 : fs = [] := by
      rcases h3 with h | ⟨_, _, e, _⟩
      · exact h
      · cases e
    subst h0
    refine (clone15_nil 0 cap w).mono ?_
    rintro e w' ⟨rfl, rfl⟩
    exact ⟨_, rfl, ⟨none, 0, rfl, Nat.le_refl _, by omega, .inl rfl⟩, Below.refl _ _⟩
  | some ad =>
    have hc : ∀ j u, (fs.flatMap fC)[j]? = some u → w.cell? (ad.add j) = some u := by
      rcases h3 with rfl | ⟨b, off, e, hb, _, hr⟩
      · intro j u hj
        simp at hj
      · cases e
        intro j u hj
        rw [Addr.add_mid]; exact hr j u hj
    refine (clone15_row ad fs.length cap (fs.flatMap fC) w (flat_len encF fs) hlen hc (flat_one encF fs)).mono ?_
    rintro e w' ⟨v', rfl, hown, hne, hb⟩
    refine ⟨v', rfl, ?_, hb⟩
    rcases hown.2 with ⟨rfl, _⟩ | ⟨g, cp, cur, rfl, hg, hgg, hnc, hcm, hcs, ht⟩
    · exact absurd rfl hne
    · refine ⟨_, cp, rfl, hnc, by simpa only [maxLen] using hcm, .inr ⟨g, 0, rfl, (Array.getElem?_eq_some_iff.1 hgg).1, .inr ⟨_, _, hgg⟩, ?_⟩⟩
      have hr : Row w' g 47 cur.toList := by unfold Row; rw [Array.toArray_toList]; exact hgg
      intro j u hj
      rw [Nat.zero_add]
      rw [← ht, List.getElem?_take] at hj
      split at hj
      · exact hr.cell hj
      · cases hj

/-- n, or the nearer end. -/
def clampN (n most : Int) : Int := min (max n 0) most
set_option maxHeartbeats 1000000 in
theorem within_any (n most : Int) (w : World) : Calls Try.prog 17 #[.int .i64 n, .int .i64 most] w fun e w' => e = .returned (.int .i64 (clampN n most)) ∧ w' = w := by
  go_enter Try.func17, Try.ntmps17
  go_wp2
  go_ret
  refine ⟨?_, rfl⟩
  simp [clampN]
set_option maxHeartbeats 1000000 in
theorem waiting_nil (w : World) : Calls Try.prog 12 #[.pointer none] w fun e w' => e = .returned (.int .i64 0) ∧ w' = w := by
  go_enter Try.func12, Try.ntmps12
  go_wp2
  go_ret
  exact ⟨rfl, rfl⟩
set_option maxHeartbeats 1000000 in
theorem waiting_row {p : Nat} {q : Option Addr} {n c : Nat} {w : World} (hc3 : w.cell? ⟨p, 3, none⟩ = some (.slice q n c)) : Calls Try.prog 12 #[.pointer (some ⟨p, 0, none⟩)] w fun e w' => e = .returned (.int .i64 n) ∧ w' = w := by
  go_enter Try.func12, Try.ntmps12
  go_wp2
  go_ret
  exact ⟨rfl, rfl⟩
set_option maxHeartbeats 1000000 in
theorem rwaiting_row {p : Nat} {q : Option Addr} {n c : Nat} {w : World} (hc2 : w.cell? ⟨p, 2, none⟩ = some (.slice q n c)) : Calls Try.prog 13 #[.pointer (some ⟨p, 0, none⟩)] w fun e w' => e = .returned (.int .i64 n) ∧ w' = w := by
  go_enter Try.func13, Try.ntmps13
  go_wp2
  go_ret
  exact ⟨rfl, rfl⟩
theorem waiting_any {base p g : Nat} {fv wv : Value} {L : Lk} {w : World} (h : LkAt base w p g fv wv L) : Calls Try.prog 12 #[.pointer (some ⟨p, 0, none⟩)] w fun e w' => e = .returned (.int .i64 L.ms.length) ∧ w' = w := by
  obtain ⟨q, c, rfl, _⟩ := h.wait
  exact waiting_row (h.row.cell (i := 3) rfl)
theorem rwaiting_any {base p g : Nat} {fv wv : Value} {L : Lk} {w : World} (h : RkAt base w p g fv wv L) : Calls Try.prog 13 #[.pointer (some ⟨p, 0, none⟩)] w fun e w' => e = .returned (.int .i64 L.ms.length) ∧ w' = w := by
  obtain ⟨q, c, rfl, _⟩ := h.wait
  exact rwaiting_row (h.row.cell (i := 2) rfl)
end Go.Proofs.Ythdfhbbfbohojaa
