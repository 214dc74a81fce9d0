/-
  Slices that own a row of ids; an id appended to such; two lists of the same ids are found alike.
-/
import Derived.Test.YtfclbdlkpnoceaaIds
import Derived.Test.YtfclbdlkpnoceaaHeld
import Derived.ChangeKeysEq
import Derived.Great.BuildSlice
import Derived.BigQuiet
namespace Go.Proofs.Ytfclbdlkpnoceaa
open Go.RowKit

theorem info33 : (Try.prog.info? 33).map (fun i => (i.zero, i.size, i.bytes)) = some (some (.agg (List.replicate 32 (Value.int .u8 0)).toArray), 32, 32) := by kernel_rfl
/-- The slice v owns a row of just these ids. -/
def OwnIds (n₀ : Nat) (W : World) (v : Value) (ids : List (List Nat)) : Prop := W.ownsRow n₀ 33 32 v ids.length (u8s ids.flatten)
theorem OwnIds.nil (n₀ : Nat) (W : World) : OwnIds n₀ W (.slice none 0 0) [] := World.ownsRow_nil _ _ _ _
theorem OwnIds.later {A B : World} (hb : Below A.heap.size A B) {n₀ : Nat} {v : Value} {ids : List (List Nat)} (h : OwnIds n₀ A v ids) : OwnIds n₀ B v ids := ownsRow_later hb h
theorem OwnIds.mono {W : World} {n₀ n₁ : Nat} (hn : n₁ ≤ n₀) {v : Value} {ids : List (List Nat)} (h : OwnIds n₀ W v ids) : OwnIds n₁ W v ids := ownsRow_mono hn h
theorem OwnIds.slice {W : World} {n₀ : Nat} {v : Value} {ids : List (List Nat)} (h : OwnIds n₀ W v ids) : ∃ q c, v = .slice q ids.length c := slice_of_row h
theorem flat_drop {ids : List (List Nat)} (h : ∀ x ∈ ids, x.length = 32 ∧ ∀ z ∈ x, z < 256) : ∀ (k : Nat), k < ids.length → (ids.flatten.drop (k * 32)).take 32 = ids.getD k [] := by
  induction ids with
  | nil => intro k hk; simp at hk
  | cons a r ih =>
    intro k hk
    have ha := (h a List.mem_cons_self).1
    cases k with
    | zero => simp [List.take_append_of_le_length (show 32 ≤ a.length by omega), List.take_of_length_le (show a.length ≤ 32 by omega)]
    | succ k =>
      rw [List.flatten_cons, show (k + 1) * 32 = a.length + k * 32 by omega, List.drop_append]
      simp only [Nat.add_sub_cancel_left]
      rw [List.drop_of_length_le (by omega), List.nil_append, ih (fun x hx => h x (List.mem_cons_of_mem _ hx)) k (by simpa using hk)]
      rfl
theorem u8s_drop (l : List Nat) (o n : Nat) : ((u8s l).drop o).take n = u8s ((l.drop o).take n) := by simp [u8s, List.map_drop, List.map_take]
theorem OwnIds.ids {W : World} {n₀ : Nat} {q : Option Addr} {len cap : Nat} {ids : List (List Nat)} (h : OwnIds n₀ W (.slice q len cap) ids) (hl : ids.length = len) (hi : ∀ x ∈ ids, x.length = 32 ∧ ∀ z ∈ x, z < 256) : IsIds W.heap.size W q len cap ids := by
  unfold OwnIds at h
  rw [hl] at h
  rcases h.2 with ⟨e, hz⟩ | ⟨g, c, cur, e, hg, hgg, hnc, hm, hs, ht⟩
  · cases e
    exact ⟨hl, Nat.le_refl _, by omega, hi, .inl rfl⟩
  · cases e
    refine ⟨hl, hnc, by simpa only [maxLen] using hm, hi, .inr ⟨g, 0, rfl, (Array.getElem?_eq_some_iff.1 hgg).1, fun i hil => ?_⟩⟩
    rw [Nat.zero_add, ← flat_drop hi i (by omega), ← u8s_drop]
    have hrow : Row W g 33 cur.toList := by unfold Row; rw [Array.toArray_toList]; exact hgg
    exact hrow.mid ht (i * 32) 32 (by omega)

/-- An id, appended. -/
theorem run_append_id (w : World) (base : Nat) (ty : TypeId) (v : Value) (ids : List (List Nat)) (hown : OwnIds base w v ids) (b : Nat) (x : List Nat) (hx : x.length = 32) (hb : w.rangeAt b 0 (u8s x)) (hlen : ids.length ≤ 100000) (hbase : base ≤ w.heap.size) :
    ∃ v' w', (Builtin.append_ #[23, 23] ty #[v, .slice (some ⟨b, 0, none⟩) 1 1]).run Try.prog w = .ok v' w' ∧ OwnIds base w' v' (ids ++ [x]) ∧ w.grownBy w' v.ownBlock := by
  obtain ⟨i0, hi, hz0, hz1, hz2⟩ := info_parts info33
  obtain ⟨v', w', hr, ho, hg, _⟩ := run_append_own_at (P := Try.prog) w base 23 ty 33 i0 _ 32 32 Try.underlying23 hi hz0 hz1 hz2 (by simp [Value.cells]) (by omega) v ids.length (u8s ids.flatten) hown ⟨b, 0, none⟩ 1 1 (u8s x) (by simp [hx]) (fun j u hu => by
    have := hb j u hu
    rw [Addr.add_mid]; exact this) (u8s_one _) (by simp only [maxLen]; omega) (by omega) hbase
  refine ⟨v', w', hr, ?_, hg⟩
  unfold OwnIds
  rw [List.length_append, List.flatten_append, ← u8s_append]
  simpa using ho
theorem wpList_append_id {ops : Array Oper} {rest : List Oper} {o : Oper} {a : Act} {w : World} {Q : Exit → Act → World → Prop} (hgd : o.guard = none) (s x : Operand)
    (ho : o.op = .call { callee := .builtin .append, args := #[s, x], argTypes := #[23, 23] })
    (base : Nat) (v : Value) (ids : List (List Nat)) (hs : a.eval s = v) (hown : OwnIds base w v ids) (b : Nat) (y : List Nat) (hx : a.eval x = .slice (some ⟨b, 0, none⟩) 1 1) (hy : y.length = 32) (hb : w.rangeAt b 0 (u8s y)) (hlen : ids.length ≤ 100000) (hbase : base ≤ w.heap.size)
    (h : ∀ v' w', OwnIds base w' v' (ids ++ [y]) → w.grownBy w' v.ownBlock → wpList Try.prog ops Q rest (a.put o.dst v') w') : wpList Try.prog ops Q (o :: rest) a w :=
  wpList_plain hgd fun _ hK => by
    obtain ⟨v', w', hr, h1, h2⟩ := run_append_id w base o.type v ids hown b y hy hb hlen hbase
    unfold Oper.wp
    simp [execOp, ho, resolve, invoke, builtin, hs, hx, hr, Result.andThen]
    exact hK _ _ (h v' w' h1 h2)

/-! Arrays with the same cells -/
theorem eqItems_same {P : Program} {e : TypeId} {k : IntKind} (he : P.plainKey e = true) (hu : P.underlying e = some (.int k)) (S : List Value) (w : World) : ∀ (is : List Nat), (∀ i ∈ is, ∃ z, S[i]? = some (.int k z)) →
    (Op.eqItems 9999 e 1 S.toArray S.toArray is).run P w = .ok true w
  | [], _ => by simp [Op.eqItems]
  | i :: is, h => by
    obtain ⟨z, hz⟩ := h i (by simp)
    have hp : (part e S.toArray (i * 1)).run P w = .ok (.int k z) w := run_part_plain w he (by simpa using hz)
    have hq := run_equalIn_int w 9998 e k k z z hu
    have ih := eqItems_same he hu S w is (fun j hj => h j (by simp [hj]))
    simp only [Op.eqItems, Sem.run_bind, hp, Result.andThen_ok, hq]
    simpa using ih
theorem equal_same {P : Program} {t e : TypeId} {n : Nat} {k : IntKind} (ht : P.underlying t = some (.array n e)) (he : P.plainKey e = true) (hu : P.underlying e = some (.int k)) (hc : P.cellsOf e = 1) (hi : (P.info? e).map (·.size) = some 1) (S : List Value) (hS : ∀ i, i < n → ∃ z, S[i]? = some (.int k z)) (w : World) :
    (Op.equalIn 10000 t (.agg S.toArray) (.agg S.toArray)).run P w = .ok true w := by
  cases hq : P.info? e with
  | none => simp [hq] at hi
  | some i =>
    rw [run_equalIn_array w 9999 _ _ ht hq, hc]
    exact eqItems_same he hu S w _ (fun i hi => hS i (List.mem_range.1 hi))
theorem u8s_int (l : List Nat) {n : Nat} (hl : l.length = n) : ∀ i, i < n → ∃ z, (u8s l)[i]? = some (.int .u8 z) := fun i hi => ⟨_, u8s_at (by omega)⟩
theorem equal33 (S : List Value) (hS : ∀ i, i < 32 → ∃ z, S[i]? = some (.int .u8 z)) (w : World) : (Op.equalIn 10000 33 (.agg S.toArray) (.agg S.toArray)).run Try.prog w = .ok true w :=
  equal_same Try.underlying33 (by kernel_rfl) Try.underlying5 (by kernel_rfl) size5 S hS w

set_option maxRecDepth 100000 in
set_option maxHeartbeats 1000000 in
/-- SameIds of the same ids. -/
theorem sameIds_any (p : Option Addr) (len cap : Nat) (p2 : Option Addr) (cap2 : Nat) (ids : List (List Nat)) (w : World) (hI : IsIds w.heap.size w p len cap ids) (hJ : IsIds w.heap.size w p2 len cap2 ids) :
    Calls Try.prog 11 #[.slice p len cap, .slice p2 len cap2] w fun e w' => e = .returned (.bool true) ∧ Below w.heap.size w w' := by
  have HI : Hid (IsIds w.heap.size w p len cap ids) := hI
  have HJ : Hid (IsIds w.heap.size w p2 len cap2 ids) := hJ
  have HL : Hid (ids.length = len) := hI.1
  have hlc := hI.2.1
  have hcc := hI.2.2.1
  clear hI hJ
  go_enter Try.func11, Try.ntmps11
  go_wp2
  go_loopw [13] (fun i wr => ∃ (k : Nat), k ≤ len ∧ i = .int .i64 k ∧ Below w.heap.size w wr) (fun i _ => len - (intOf i).toNat)
  case atStart => exact ⟨0, Nat.zero_le _, rfl, Below.refl _ _⟩
  case round =>
    obtain ⟨k, hk, rfl, hbel⟩ := hrel
    by_cases hlt : k < len
    · have hki : (k : Int) < (len : Int) := by omega
      obtain ⟨b, off, rfl, hb, hcell⟩ : ∃ b off, p = some ⟨b, off, none⟩ ∧ b < w.heap.size ∧ ∀ i, i < len → wr.rangeAt b (off + i * 32) (u8s (ids.getD i [])) := by
        rcases (HI.out.below hbel).2.2.2.2 with h | h
        · omega
        · exact h
      obtain ⟨b2, off2, rfl, hb2, hcell2⟩ : ∃ b off, p2 = some ⟨b, off, none⟩ ∧ b < w.heap.size ∧ ∀ i, i < len → wr.rangeAt b (off + i * 32) (u8s (ids.getD i [])) := by
        rcases (HJ.out.below hbel).2.2.2.2 with h | h
        · omega
        · exact h
      have hx := ids_at HI.out.2.2.2.1 (k := k) (by rw [HL.out]; exact hlt)
      have HRg : Hid (wr.rangeAt b (off + k * 32) (u8s (ids.getD k []))) := hcell k hlt
      have HRg2 : Hid (wr.rangeAt b2 (off2 + k * 32) (u8s (ids.getD k []))) := hcell2 k hlt
      have HV : Hid ((u8s (ids.getD k [])).length = 32) := by show _ = _; rw [u8s_length]; exact hx.1
      have hq := equal33 (u8s (ids.getD k [])) (u8s_int _ hx.1)
      have hsz := hbel.size
      clear hcell hcell2 hx
      generalize u8s (ids.getD k []) = V at *
      go_wp2
      refine wp_region_held_drew (S := fun W => Below wr.heap.size wr W) (by kernel_rfl) (Below.refl _ _).drew (fun hHeld => ?_)
      refine wpAnyH_takesAt 0 3 6 (of_decide_eq_true (by kernel_rfl)) rfl (fun _ _ _ d _ h => by cases d <;> exact h) (by kernel_rfl) (by kernel_rfl) hHeld ?_
      simp only [List.drop_zero, List.take_succ_cons, List.take_zero]
      iterate 3 (refine wpHeld_step (v := ?_) (by rfl) (fun wz hSw => ?_) ?_; rotate_left; (focus ((try dsimp only at hSw); go_simp; try with_reducible rfl)); (simp only [Act.put, List.setIfInBounds_toArray, List.set_cons_zero, List.set_cons_succ]))
      refine wpHeld_nil ?_
      refine wpAnyH_takesAt 3 1 5 (of_decide_eq_true (by kernel_rfl)) rfl (fun _ _ _ d _ h => by cases d <;> exact h) (by kernel_rfl) (by kernel_rfl) hHeld ?_
      simp only [List.drop_succ_cons, List.drop_zero, List.take_succ_cons, List.take_zero]
      refine wpHeld_load (by rfl) 33 (.tmp 18) rfl b (off + k * 32) rfl V (fun W hW => rangeAt_below hW (by omega) HRg.out) Try.underlying33 (by rw [HV.out]; exact size33) ?_
      (simp only [Act.put]; (try simp only [List.setIfInBounds_toArray]); (try simp only [List.set_cons_succ]); (try simp only [List.set_cons_zero]))
      refine wpHeld_nil ?_
      refine wpAnyH_takesAt 4 3 2 (of_decide_eq_true (by kernel_rfl)) rfl (fun _ _ _ d _ h => by cases d <;> exact h) (by kernel_rfl) (by kernel_rfl) hHeld ?_
      simp only [List.drop_succ_cons, List.drop_zero, List.take_succ_cons, List.take_zero]
      iterate 3 (refine wpHeld_step (v := ?_) (by rfl) (fun wz hSw => ?_) ?_; rotate_left; (focus ((try dsimp only at hSw); go_simp; try with_reducible rfl)); (simp only [Act.put, List.setIfInBounds_toArray, List.set_cons_zero, List.set_cons_succ]))
      refine wpHeld_nil ?_
      refine wpAnyH_takesAt 7 1 1 (of_decide_eq_true (by kernel_rfl)) rfl (fun _ _ _ d _ h => by cases d <;> exact h) (by kernel_rfl) (by kernel_rfl) hHeld ?_
      simp only [List.drop_succ_cons, List.drop_zero, List.take_succ_cons, List.take_zero]
      refine wpHeld_load (by rfl) 33 (.tmp 22) rfl b2 (off2 + k * 32) rfl V (fun W hW => rangeAt_below hW (by omega) HRg2.out) Try.underlying33 (by rw [HV.out]; exact size33) ?_
      (simp only [Act.put]; (try simp only [List.setIfInBounds_toArray]); (try simp only [List.set_cons_succ]); (try simp only [List.set_cons_zero]))
      refine wpHeld_nil ?_
      refine wpAnyH_takesAt 8 1 0 (of_decide_eq_true (by kernel_rfl)) rfl (fun _ _ _ d _ h => by cases d <;> exact h) (by kernel_rfl) (by kernel_rfl) hHeld ?_
      simp only [List.drop_succ_cons, List.drop_zero, List.take_succ_cons, List.take_zero]
      iterate 1 (refine wpHeld_step (v := ?_) (by rfl) (fun wz hSw => ?_) ?_; rotate_left; (focus ((try dsimp only at hSw); go_simp; try with_reducible rfl)); ((simp only [Act.put]; (try simp only [List.setIfInBounds_toArray]); (try simp only [List.set_cons_succ]); (try simp only [List.set_cons_zero]))))
      refine wpHeld_nil ?_
      refine wpAnyH_done (by kernel_rfl) ?_ _
      go_wp2
      go_roundw
      case rel => exact ⟨k + 1, by omega, by go_num, hbel.drew⟩
      case measure => simp [intOf]; omega
    · obtain rfl : k = len := by omega
      go_wp2
      go_ret
      exact ⟨rfl, hbel⟩
end Go.Proofs.Ytfclbdlkpnoceaa
