/-
  neighbours: each id but the first one, with the one ahead of it, told to whoever asks.
-/
import Derived.Test.YtfclbdlkpnoceaaCmp
import Derived.Test.YtfclbdlkpnoceaaHeldIn
import Derived.Test.YtfclbdlkpnoceaaLow2
namespace Go.Proofs.Ytfclbdlkpnoceaa
open Go.RowKit

/-- Block Bl holds a slice of these ids. -/
def NbAt (Bl n₀ : Nat) (p : Option Addr) (len cap : Nat) (ids : List (List Nat)) (W : World) : Prop := W.cell? ⟨Bl, 0, none⟩ = some (.slice p len cap) ∧ IsIds n₀ W p len cap ids
theorem NbAt.later {Bl n₀ : Nat} {p : Option Addr} {len cap : Nat} {ids : List (List Nat)} {A B : World} (h : NbAt Bl n₀ p len cap ids A) (hn : n₀ ≤ A.heap.size) (hb : Below A.heap.size A B) : NbAt Bl n₀ p len cap ids B :=
  ⟨(hb.cell (p := ⟨Bl, 0, none⟩) (World.block_lt_of_cell? A _ h.1)).trans h.1, h.2.below (hb.mono hn)⟩
theorem NbAt.below {Bl n₀ N : Nat} {p : Option Addr} {len cap : Nat} {ids : List (List Nat)} {A B : World} (h : NbAt Bl n₀ p len cap ids A) (hn : n₀ ≤ N) (hB : Bl < N) (hb : Below N A B) : NbAt Bl n₀ p len cap ids B :=
  ⟨(hb.cell (p := ⟨Bl, 0, none⟩) hB).trans h.1, h.2.below (hb.mono hn)⟩

set_option maxHeartbeats 1000000 in
theorem neighbours_in (F : Fence) (n : Nat) (h47 : F.fn 56) (hro : F.round = none) (p : Option Addr) (len cap : Nat) (w : World) :
    CallsIn F n Try.prog 56 #[.slice p len cap] w fun e w' => e = .returned (.func (.func 71) #[] #[.pointer (some ⟨w.heap.size, 0, none⟩)]) ∧ w' = w.alloc (.cells #[.slice p len cap] 23) := by
  refine callsIn_of_wp Try.func56 rfl h47 ?_ hro
  simp only [Try.ntmps56, List.size_toArray, List.length_cons, List.length_nil, Nat.reduceAdd, Nat.reduceSub, Array.replicate_succ, Array.replicate_zero, List.push_toArray, List.append_toArray, List.nil_append, List.cons_append]
  gi_wp2
  go_ret
  exact ⟨rfl, rfl⟩

/-- What is handed over: the number of the one ahead. -/
def nbVal (ids : List (List Nat)) (i : Nat) : Array Value := #[.agg (u8s (ids.getD i [])).toArray, .agg (u8s (ids.getD (i + 1) [])).toArray]

set_option maxRecDepth 100000 in
set_option maxHeartbeats 2000000 in
theorem nb_iter (n : Nat) (hn : 1 ≤ n) (l Bl n₀ : Nat) (p : Option Addr) (len cap : Nat) (ids : List (List Nat)) (hlen : len ≤ 100000) (W : World) (hN : NbAt Bl n₀ p len cap ids W) :
    IterLow Fence.wide n Try.prog 71 #[.pointer (some ⟨Bl, 0, none⟩)] (nbVal ids) (fun i _ => i + 1 < len) (fun A B => NbAt Bl n₀ p len cap ids A → NbAt Bl n₀ p len cap ids B)
      (fun xs => xs = List.range (len - 1)) (fun pre => ∃ k, k + 1 < len ∧ pre = List.range (k + 1)) len l W := by
  intro J Jx hJ hJx hY h0
  have hlc := hN.2.2.1
  have hcc := hN.2.2.2.1
  have hfn : ∀ f, Fence.wide.fn f := fun _ => trivial
  refine callsIn_of_wp Try.func71 rfl trivial ?_ rfl
  simp only [Try.ntmps71, List.size_toArray, List.length_cons, List.length_nil, Nat.reduceAdd, Nat.reduceSub, Array.replicate_succ, Array.replicate_zero, List.push_toArray, List.append_toArray, List.nil_append, List.cons_append]
  have HN : Hid (NbAt Bl n₀ p len cap ids W) := hN
  clear hN
  gi_wp2
  gi_loopw [3] (fun i wr => ∃ (k : Nat), (k = 0 ∨ k < len) ∧ i = .int .i64 ((k : Int) + 1) ∧ J (List.range k) wr ∧ NbAt Bl n₀ p len cap ids wr) (fun i _ => len + 1 - (intOf i).toNat)
  case atStart => exact ⟨0, .inl rfl, rfl, h0, HN.out⟩
  case round =>
    obtain ⟨k, hk, rfl, hj, hnb⟩ := hrel
    have hc := hnb.1
    by_cases hlt : k + 1 < len
    · have hki : (k : Int) + 1 < (len : Int) := by omega
      obtain ⟨b, off, rfl, hb, hcell⟩ : ∃ b off, p = some ⟨b, off, none⟩ ∧ b < n₀ ∧ ∀ i, i < len → wr.rangeAt b (off + i * 32) (u8s (ids.getD i [])) := by
        rcases hnb.2.2.2.2.2 with h | h
        · omega
        · exact h
      have hx := ids_at hnb.2.2.2.2.1 (k := k) (by rw [hnb.2.1]; omega)
      have hy := ids_at hnb.2.2.2.2.1 (k := k + 1) (by rw [hnb.2.1]; omega)
      have HYd : Hid (YieldAt Fence.wide (n - 1) Try.prog l (nbVal ids k) wr.drew fun e W' =>
        (e = .returned (.bool true) ∧ J (List.range (k + 1)) W' ∧ NbAt Bl n₀ (some ⟨b, off, none⟩) len cap ids W') ∨ (e = .returned (.bool false) ∧ Jx (List.range (k + 1)) W' ∧ NbAt Bl n₀ (some ⟨b, off, none⟩) len cap ids W')) := by
        obtain ⟨fn, tmps, assign, body, hy, hR⟩ := hY (List.range k) k wr.drew (hJ _ _ _ hj (Below.refl W.heap.size wr).drew) hlt (by simp; omega)
        refine ⟨fn, tmps, assign, body, hy, hR.mono fun e W' h => ?_⟩
        rw [List.range_succ]
        rcases h with ⟨h1, h2, h3⟩ | ⟨h1, h2, h3⟩
        · exact .inl ⟨h1, h2, h3 hnb⟩
        · exact .inr ⟨h1, h2, h3 hnb⟩
      have HV : Hid ((u8s (ids.getD k [])).length = 32) := by show _ = _; rw [u8s_length]; exact hx.1
      have HU : Hid ((u8s (ids.getD (k + 1) [])).length = 32) := by show _ = _; rw [u8s_length]; exact hy.1
      have e3 : IntKind.i64.wrap (k : Int) = (k : Int) := by simp [IntKind.wrap, IntKind.bits, IntKind.signed]; omega
      have e4 : IntKind.i64.wrap ((k : Int) + 1 + 1) = (k : Int) + 1 + 1 := by simp [IntKind.wrap, IntKind.bits, IntKind.signed]; omega
      have e5 : ((k : Int) + 1).toNat = k + 1 := by omega
      have e6 : (0 : Int) ≤ (k : Int) + 1 := by omega
      have e7 : (k : Int) < (len : Int) := by omega
      have HS0 : Hid (wr.cell? ⟨Bl, 0, none⟩ = some (.slice (some ⟨b, off, none⟩) len cap) ∧ wr.rangeAt b (off + k * 32) (u8s (ids.getD k [])) ∧ wr.rangeAt b (off + (k + 1) * 32) (u8s (ids.getD (k + 1) []))) := ⟨hc, hcell k (by omega), hcell (k + 1) hlt⟩
      have HS1 : Hid (∀ W, NbAt Bl n₀ (some ⟨b, off, none⟩) len cap ids W → W.cell? ⟨Bl, 0, none⟩ = some (.slice (some ⟨b, off, none⟩) len cap) ∧ W.rangeAt b (off + k * 32) (u8s (ids.getD k [])) ∧ W.rangeAt b (off + (k + 1) * 32) (u8s (ids.getD (k + 1) []))) := fun W h => by
        refine ⟨h.1, ?_⟩
        rcases h.2.2.2.2.2 with h | ⟨b', off', e, _, h⟩
        · omega
        · cases e; exact ⟨h k (by omega), h (k + 1) hlt⟩
      unfold nbVal at HYd
      clear hY hcell hx hy hnb HN hj
      generalize u8s (ids.getD k []) = V at *
      generalize u8s (ids.getD (k + 1) []) = U at *
      gi_wp2
      refine wpIn_region_W (S := fun W => W.cell? ⟨Bl, 0, none⟩ = some (.slice (some ⟨b, off, none⟩) len cap) ∧ W.rangeAt b (off + k * 32) V ∧ W.rangeAt b (off + (k + 1) * 32) U) (by kernel_rfl) HS0.out (fun hHeld => ?_)
      clear hc
      refine wpAnyW_takesAt 0 5 7 (of_decide_eq_true (by kernel_rfl)) rfl (fun _ _ _ d _ h => by cases d <;> exact h) (by kernel_rfl) (by kernel_rfl) hHeld ?_
      simp only [List.drop_zero, List.take_succ_cons, List.take_zero]
      iterate 5 (refine wpHeld_step (v := ?_) (by rfl) (fun wz hSw => ?_) ?_; rotate_left; (focus ((have hcz := hSw.1; clear hSw); go_simp; try with_reducible rfl)); (simp only [Act.put, List.setIfInBounds_toArray, List.set_cons_zero, List.set_cons_succ]))
      refine wpHeld_nil ?_
      refine wpAnyW_takesAt 5 1 6 (of_decide_eq_true (by kernel_rfl)) rfl (fun _ _ _ d _ h => by cases d <;> exact h) (by kernel_rfl) (by kernel_rfl) hHeld ?_
      simp only [List.drop_succ_cons, List.drop_zero, List.take_succ_cons, List.take_zero]
      refine wpHeld_load (by rfl) 33 (.tmp 14) rfl b (off + k * 32) rfl V (fun W hW => hW.2.1) Try.underlying33 (by rw [HV.out]; exact size33) ?_
      (simp only [Act.put]; (try simp only [List.setIfInBounds_toArray]); (try simp only [List.set_cons_succ]); (try simp only [List.set_cons_zero]))
      refine wpHeld_nil ?_
      refine wpAnyW_takesAt 6 3 3 (of_decide_eq_true (by kernel_rfl)) rfl (fun _ _ _ d _ h => by cases d <;> exact h) (by kernel_rfl) (by kernel_rfl) hHeld ?_
      simp only [List.drop_succ_cons, List.drop_zero, List.take_succ_cons, List.take_zero]
      iterate 3 (refine wpHeld_step (v := ?_) (by rfl) (fun wz hSw => ?_) ?_; rotate_left; (focus ((have hcz := hSw.1; clear hSw); go_simp; try with_reducible rfl)); (simp only [Act.put, List.setIfInBounds_toArray, List.set_cons_zero, List.set_cons_succ]))
      refine wpHeld_nil ?_
      refine wpAnyW_takesAt 9 1 2 (of_decide_eq_true (by kernel_rfl)) rfl (fun _ _ _ d _ h => by cases d <;> exact h) (by kernel_rfl) (by kernel_rfl) hHeld ?_
      simp only [List.drop_succ_cons, List.drop_zero, List.take_succ_cons, List.take_zero]
      refine wpHeld_load (by rfl) 33 (.tmp 18) rfl b (off + (k + 1) * 32) rfl U (fun W hW => hW.2.2) Try.underlying33 (by rw [HU.out]; exact size33) ?_
      (simp only [Act.put]; (try simp only [List.setIfInBounds_toArray]); (try simp only [List.set_cons_succ]); (try simp only [List.set_cons_zero]))
      refine wpHeld_nil ?_
      obtain ⟨fn, tmps, assign, body, hy, hR⟩ := HYd.out
      refine wpAnyW_only (i := 10) (by kernel_rfl) rfl (by rfl) (fun K hK => ?_)
      go_simp
      refine RoundIn.mono hR ?_
      rintro e W3 (⟨rfl, hJ3, hk3⟩ | ⟨rfl, hJ3, hk3⟩)
      · refine hK.out _ _ (HS1.out _ hk3) ?_
        clear hK K hHeld
        refine wpAnyW_only (i := 11) (by kernel_rfl) rfl (by rfl) (fun K hK => ?_)
        go_simp
        refine hK.out _ _ (HS1.out _ hk3) ?_
        clear hK K
        refine wpAnyW_done (by kernel_rfl) ?_ _
        gi_wp2
        go_roundw
        case rel => exact ⟨k + 1, .inr hlt, by go_num, hJ3, hk3⟩
        case measure => simp [intOf]; omega
      · refine hK.out _ _ (HS1.out _ hk3) ?_
        clear hK K hHeld
        refine wpAnyW_only (i := 11) (by kernel_rfl) rfl (by rfl) (fun K hK => ?_)
        go_simp
        refine hK.out _ _ (HS1.out _ hk3) ?_
        clear hK K
        refine wpAnyW_done (by kernel_rfl) ?_ _
        gi_wp2
        refine bodyPost_ret (results_none rfl _ _ _) rfl ?_
        exact ⟨⟨_, rfl⟩, .inr ⟨_, ⟨k, hlt, rfl⟩, hJ3⟩⟩
    · have hki : ¬ (k : Int) + 1 < (len : Int) := by omega
      gi_wp2
      go_end0
      refine ⟨⟨_, rfl⟩, .inl ?_⟩
      rw [show k = len - 1 by omega] at hj
      exact hj
end Go.Proofs.Ytfclbdlkpnoceaa
