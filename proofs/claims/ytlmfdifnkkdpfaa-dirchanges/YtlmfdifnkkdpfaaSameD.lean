/-
  SameEntries of the same entries; rows of entries that are owned, an entry appended; a row of entries, each filled in.
-/
import Derived.Test.YtlmfdifnkkdpfaaEq43
namespace Go.Proofs.Ytlmfdifnkkdpfaa
open Go.RowKit

theorem wpHeld_loadE {ops : Array Oper} {S : World → Prop} {K : Act → Prop} {a : Act} {o : Oper} {rest : List Oper} (hw : Region.wanted o (yielded ops a.tmps) = true) (x : Operand) (ho : o.op = .load 43 x)
    (b off : Nat) (hx : a.eval x = .pointer (some ⟨b, off, none⟩)) (cs : List Value) (hS : ∀ w, S w → w.rangeAt b off cs) (hi : (Try.prog.info? 43).map (·.size) = some cs.length)
    (h : wpHeld Try.prog ops S K rest (a.put o.dst (.agg cs.toArray))) : wpHeld Try.prog ops S K (o :: rest) a := ⟨_, yieldsIf_load_mid hw 43 x ho b off hx cs _ hS Try.underlying43 rfl hi, h⟩

set_option maxRecDepth 100000 in
set_option maxHeartbeats 1000000 in
theorem sameEnts_any (p : Option Addr) (len cap : Nat) (p2 : Option Addr) (cap2 : Nat) (es : List Ent) (w : World) (hI : IsEnts w.heap.size w p len cap es) (hJ : IsEnts w.heap.size w p2 len cap2 es) (hnm : ∀ e ∈ es, e.name.size ≤ 1000000) :
    Calls Try.prog 16 #[.slice p len cap, .slice p2 len cap2] w fun e w' => e = .returned (.bool true) ∧ Below w.heap.size w w' := by
  have HI : Hid (IsEnts w.heap.size w p len cap es) := hI
  have HJ : Hid (IsEnts w.heap.size w p2 len cap2 es) := hJ
  have HL : Hid (es.length = len) := hI.1
  have HNm : Hid (∀ e ∈ es, e.name.size ≤ 1000000) := hnm
  have hlc := hI.2.1
  have hcc := hI.2.2.1
  clear hI hJ hnm
  go_enter Try.func16, Try.ntmps16
  go_wp2
  go_loopw [13] (fun i wr => ∃ (k : Nat), k ≤ len ∧ i = .int .i64 k ∧ Below w.heap.size w wr) (fun i _ => len - (intOf i).toNat)
  case atStart => exact ⟨0, Nat.zero_le _, rfl, Below.refl _ _⟩
  case round =>
    obtain ⟨k, hk, rfl, hbel⟩ := hrel
    by_cases hlt : k < len
    · have hki : (k : Int) < (len : Int) := by omega
      obtain ⟨b, off, rfl, hb, hrg, hok, hmem⟩ := (HI.out.below hbel).at hlt
      obtain ⟨b2, off2, rfl, hb2, hrg2, _, _⟩ := (HJ.out.below hbel).at hlt
      have HRg : Hid (wr.rangeAt b (off + k * 100) (entC (es.getD k noEnt))) := hrg
      have HRg2 : Hid (wr.rangeAt b2 (off2 + k * 100) (entC (es.getD k noEnt))) := hrg2
      have HV : Hid ((Try.prog.info? 43).map (·.size) = some (entC (es.getD k noEnt)).length) := size43' hok
      have hq := equal43 hok (by have := HNm.out _ hmem; simp only [maxLen]; omega)
      have hsz := hbel.size
      clear hrg hrg2 hok hmem
      generalize entC (es.getD k noEnt) = V at *
      go_wp2
      refine wp_region_held_drew (S := fun W => Below wr.heap.size wr W) (by kernel_rfl) (Below.refl _ _).drew (fun hHeld => ?_)
      refine wpAnyH_takesAt 0 3 6 (of_decide_eq_true (by kernel_rfl)) rfl (fun _ _ _ d _ h => by cases d <;> exact h) (by kernel_rfl) (by kernel_rfl) hHeld ?_
      simp only [List.drop_zero, List.take_succ_cons, List.take_zero]
      iterate 3 (refine wpHeld_step (v := ?_) (by rfl) (fun wz hSw => ?_) ?_; rotate_left; (focus ((try dsimp only at hSw); go_simp; try with_reducible rfl)); (simp only [Act.put, List.setIfInBounds_toArray, List.set_cons_zero, List.set_cons_succ]))
      refine wpHeld_nil ?_
      refine wpAnyH_takesAt 3 1 5 (of_decide_eq_true (by kernel_rfl)) rfl (fun _ _ _ d _ h => by cases d <;> exact h) (by kernel_rfl) (by kernel_rfl) hHeld ?_
      simp only [List.drop_succ_cons, List.drop_zero, List.take_succ_cons, List.take_zero]
      refine wpHeld_loadE (by rfl) (.tmp 18) rfl b (off + k * 100) rfl V (fun W hW => rangeAt_below hW (by omega) HRg.out) (HV.out) ?_
      (simp only [Act.put]; (try simp only [List.setIfInBounds_toArray]); (try simp only [List.set_cons_succ]); (try simp only [List.set_cons_zero]))
      refine wpHeld_nil ?_
      refine wpAnyH_takesAt 4 3 2 (of_decide_eq_true (by kernel_rfl)) rfl (fun _ _ _ d _ h => by cases d <;> exact h) (by kernel_rfl) (by kernel_rfl) hHeld ?_
      simp only [List.drop_succ_cons, List.drop_zero, List.take_succ_cons, List.take_zero]
      iterate 3 (refine wpHeld_step (v := ?_) (by rfl) (fun wz hSw => ?_) ?_; rotate_left; (focus ((try dsimp only at hSw); go_simp; try with_reducible rfl)); (simp only [Act.put, List.setIfInBounds_toArray, List.set_cons_zero, List.set_cons_succ]))
      refine wpHeld_nil ?_
      refine wpAnyH_takesAt 7 1 1 (of_decide_eq_true (by kernel_rfl)) rfl (fun _ _ _ d _ h => by cases d <;> exact h) (by kernel_rfl) (by kernel_rfl) hHeld ?_
      simp only [List.drop_succ_cons, List.drop_zero, List.take_succ_cons, List.take_zero]
      refine wpHeld_loadE (by rfl) (.tmp 22) rfl b2 (off2 + k * 100) rfl V (fun W hW => rangeAt_below hW (by omega) HRg2.out) (HV.out) ?_
      (simp only [Act.put]; (try simp only [List.setIfInBounds_toArray]); (try simp only [List.set_cons_succ]); (try simp only [List.set_cons_zero]))
      refine wpHeld_nil ?_
      refine wpAnyH_takesAt 8 1 0 (of_decide_eq_true (by kernel_rfl)) rfl (fun _ _ _ d _ h => by cases d <;> exact h) (by kernel_rfl) (by kernel_rfl) hHeld ?_
      simp only [List.drop_succ_cons, List.drop_zero, List.take_succ_cons, List.take_zero]
      iterate 1 (refine wpHeld_step (v := ?_) (by rfl) (fun wz hSw => ?_) ?_; rotate_left; (focus ((try dsimp only at hSw); go_simp; try with_reducible rfl)); ((simp only [Act.put]; (try simp only [List.setIfInBounds_toArray]); (try simp only [List.set_cons_succ]); (try simp only [List.set_cons_zero]))))
      refine wpHeld_nil ?_
      refine wpAnyH_done (by kernel_rfl) ?_ _
      go_wp2
      go_roundw
      case rel => exact ⟨k + 1, by omega, by go_num, hbel.drew⟩
      case measure => simp [intOf]; omega
    · obtain rfl : k = len := by omega
      go_wp2
      go_ret
      exact ⟨rfl, hbel⟩

theorem info43 : (Try.prog.info? 43).map (fun i => (i.zero, i.size, i.bytes)) = some (some (.agg Try.zeroCells43), 100, 128) := by kernel_rfl
/-- The slice v owns a row of just these entries. -/
def OwnE (n₀ : Nat) (W : World) (v : Value) (es : List Ent) : Prop := W.ownsRow n₀ 43 100 v es.length (es.flatMap entC)
theorem OwnE.nil (n₀ : Nat) (W : World) : OwnE n₀ W (.slice none 0 0) [] := World.ownsRow_nil _ _ _ _
theorem OwnE.later {A B : World} (hb : Below A.heap.size A B) {n₀ : Nat} {v : Value} {es : List Ent} (h : OwnE n₀ A v es) : OwnE n₀ B v es := ownsRow_later hb h
theorem OwnE.mono {W : World} {n₀ n₁ : Nat} (hn : n₁ ≤ n₀) {v : Value} {es : List Ent} (h : OwnE n₀ W v es) : OwnE n₁ W v es := ownsRow_mono hn h
theorem OwnE.slice {W : World} {n₀ : Nat} {v : Value} {es : List Ent} (h : OwnE n₀ W v es) : ∃ q c, v = .slice q es.length c := slice_of_row h
theorem flatE_drop {es : List Ent} (h : ∀ x ∈ es, x.ok) : ∀ (k : Nat), k < es.length → ((es.flatMap entC).drop (k * 100)).take 100 = entC (es.getD k noEnt) := by
  induction es with
  | nil => intro k hk; simp at hk
  | cons a r ih =>
    intro k hk
    have ha := entC_length (h a List.mem_cons_self)
    cases k with
    | zero => simp [List.take_append_of_le_length (show 100 ≤ (entC a).length by omega), List.take_of_length_le (show (entC a).length ≤ 100 by omega)]
    | succ k =>
      rw [List.flatMap_cons, show (k + 1) * 100 = (entC a).length + k * 100 by omega, List.drop_append]
      simp only [Nat.add_sub_cancel_left]
      rw [List.drop_of_length_le (by omega), List.nil_append, ih (fun x hx => h x (List.mem_cons_of_mem _ hx)) k (by simpa using hk)]
      rfl
theorem OwnE.ents {W : World} {n₀ : Nat} {q : Option Addr} {len cap : Nat} {es : List Ent} (h : OwnE n₀ W (.slice q len cap) es) (hi : ∀ x ∈ es, x.ok) : IsEnts W.heap.size W q len cap es := by
  have hl : es.length = len := by obtain ⟨_, _, e⟩ := h.slice; cases e; rfl
  unfold OwnE at h
  rw [hl] at h
  rcases h.2 with ⟨e, hz⟩ | ⟨g, c, cur, e, hg, hgg, hnc, hm, hs, ht⟩
  · cases e
    exact ⟨hl, Nat.le_refl _, by omega, hi, .inl rfl⟩
  · cases e
    refine ⟨hl, hnc, by simpa only [maxLen] using hm, hi, .inr ⟨g, 0, rfl, (Array.getElem?_eq_some_iff.1 hgg).1, fun i hil => ?_⟩⟩
    rw [Nat.zero_add, ← flatE_drop hi i (by omega)]
    have hrow : Row W g 43 cur.toList := by unfold Row; rw [Array.toArray_toList]; exact hgg
    exact hrow.mid ht (i * 100) 100 (by omega)
/-- An entry, appended. -/
theorem run_append_ent (w : World) (base : Nat) (ty : TypeId) (v : Value) (es : List Ent) (hown : OwnE base w v es) (b : Nat) (x : Ent) (hx : x.ok) (hb : w.rangeAt b 0 (entC x)) (hlen : es.length ≤ 100000) (hbase : base ≤ w.heap.size) :
    ∃ v' w', (Builtin.append_ #[22, 22] ty #[v, .slice (some ⟨b, 0, none⟩) 1 1]).run Try.prog w = .ok v' w' ∧ OwnE base w' v' (es ++ [x]) ∧ w.grownBy w' v.ownBlock := by
  obtain ⟨i0, hi, hz0, hz1, hz2⟩ := info_parts info43
  obtain ⟨v', w', hr, ho, hg, _⟩ := run_append_own_at (P := Try.prog) w base 22 ty 43 i0 _ 100 128 Try.underlying22 hi hz0 hz1 hz2 (by simp only [Value.cells]; simp) (by omega) v es.length (es.flatMap entC) hown ⟨b, 0, none⟩ 1 1 (entC x) (by rw [entC_length hx]) (fun j u hu => by
    have := hb j u hu
    rw [Addr.add_mid]; exact this) (entC_one _) (by simp only [maxLen]; omega) (by omega) hbase
  refine ⟨v', w', hr, ?_, hg⟩
  unfold OwnE
  rw [List.length_append, List.flatMap_append]
  simpa using ho
end Go.Proofs.Ytlmfdifnkkdpfaa
