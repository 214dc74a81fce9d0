/-
  Slices that own a row of ids; an id appended to such; two lists of the same ids are found alike.
-/
import Derived.Test.YtbaokodhoiledaaDoorWrAll
import Derived.Test.YtbaokodhoiledaaDoorHeld
import Derived.ChangeKeysEq
import Derived.Great.BuildSlice
import Derived.BigQuiet
namespace Go.Proofs.YtbaokodhoiledaaDoor
open Go.RowKit

theorem info38 : (Tryd.prog.info? 38).map (fun i => (i.zero, i.size, i.bytes)) = some (some (.agg (List.replicate 32 (Value.int .u8 0)).toArray), 32, 32) := by kernel_rfl
/-- The slice v owns a row of just these ids. -/
def OwnIds (n₀ : Nat) (W : World) (v : Value) (ids : List (List Nat)) : Prop := W.ownsRow n₀ 38 32 v ids.length (u8s ids.flatten)
theorem OwnIds.nil (n₀ : Nat) (W : World) : OwnIds n₀ W (.slice none 0 0) [] := World.ownsRow_nil _ _ _ _
theorem OwnIds.later {A B : World} (hb : Below A.heap.size A B) {n₀ : Nat} {v : Value} {ids : List (List Nat)} (h : OwnIds n₀ A v ids) : OwnIds n₀ B v ids := ownsRow_later hb h
theorem OwnIds.mono {W : World} {n₀ n₁ : Nat} (hn : n₁ ≤ n₀) {v : Value} {ids : List (List Nat)} (h : OwnIds n₀ W v ids) : OwnIds n₁ W v ids := ownsRow_mono hn h
theorem OwnIds.slice {W : World} {n₀ : Nat} {v : Value} {ids : List (List Nat)} (h : OwnIds n₀ W v ids) : ∃ q c, v = .slice q ids.length c := slice_of_row h
theorem flat_drop {ids : List (List Nat)} (h : ∀ x ∈ ids, x.length = 32 ∧ ∀ z ∈ x, z < 256) : ∀ (k : Nat), k < ids.length → (ids.flatten.drop (k * 32)).take 32 = ids.getD k [] := by
  induction ids with
  | nil => intro k hk; simp at hk
  | cons a r ih =>
    intro k hk
    have ha := (h a List.mem_cons_self).1
    cases k with
    | zero => simp [List.take_append_of_le_length (show 32 ≤ a.length by omega), List.take_of_length_le (show a.length ≤ 32 by omega)]
    | succ k =>
      rw [List.flatten_cons, show (k + 1) * 32 = a.length + k * 32 by omega, List.drop_append]
      simp only [Nat.add_sub_cancel_left]
      rw [List.drop_of_length_le (by omega), List.nil_append, ih (fun x hx => h x (List.mem_cons_of_mem _ hx)) k (by simpa using hk)]
      rfl
theorem u8s_drop (l : List Nat) (o n : Nat) : ((u8s l).drop o).take n = u8s ((l.drop o).take n) := by simp [u8s, List.map_drop, List.map_take]
theorem OwnIds.ids {W : World} {n₀ : Nat} {q : Option Addr} {len cap : Nat} {ids : List (List Nat)} (h : OwnIds n₀ W (.slice q len cap) ids) (hl : ids.length = len) (hi : ∀ x ∈ ids, x.length = 32 ∧ ∀ z ∈ x, z < 256) : IsIds W.heap.size W q len cap ids := by
  unfold OwnIds at h
  rw [hl] at h
  rcases h.2 with ⟨e, hz⟩ | ⟨g, c, cur, e, hg, hgg, hnc, hm, hs, ht⟩
  · cases e
    exact ⟨hl, Nat.le_refl _, by omega, hi, .inl rfl⟩
  · cases e
    refine ⟨hl, hnc, by simpa only [maxLen] using hm, hi, .inr ⟨g, 0, rfl, (Array.getElem?_eq_some_iff.1 hgg).1, fun i hil => ?_⟩⟩
    rw [Nat.zero_add, ← flat_drop hi i (by omega), ← u8s_drop]
    have hrow : Row W g 38 cur.toList := by unfold Row; rw [Array.toArray_toList]; exact hgg
    exact hrow.mid ht (i * 32) 32 (by omega)

/-- An id, appended. -/
theorem run_append_id (w : World) (base : Nat) (ty : TypeId) (v : Value) (ids : List (List Nat)) (hown : OwnIds base w v ids) (b : Nat) (x : List Nat) (hx : x.length = 32) (hb : w.rangeAt b 0 (u8s x)) (hlen : ids.length ≤ 100000) (hbase : base ≤ w.heap.size) :
    ∃ v' w', (Builtin.append_ #[24, 24] ty #[v, .slice (some ⟨b, 0, none⟩) 1 1]).run Tryd.prog w = .ok v' w' ∧ OwnIds base w' v' (ids ++ [x]) ∧ w.grownBy w' v.ownBlock := by
  obtain ⟨i0, hi, hz0, hz1, hz2⟩ := info_parts info38
  obtain ⟨v', w', hr, ho, hg, _⟩ := run_append_own_at (P := Tryd.prog) w base 24 ty 38 i0 _ 32 32 Tryd.underlying24 hi hz0 hz1 hz2 (by simp [Value.cells]) (by omega) v ids.length (u8s ids.flatten) hown ⟨b, 0, none⟩ 1 1 (u8s x) (by simp [hx]) (fun j u hu => by
    have := hb j u hu
    rw [Addr.add_mid]; exact this) (u8s_one _) (by simp only [maxLen]; omega) (by omega) hbase
  refine ⟨v', w', hr, ?_, hg⟩
  unfold OwnIds
  rw [List.length_append, List.flatten_append, ← u8s_append]
  simpa using ho
theorem wpList_append_id {ops : Array Oper} {rest : List Oper} {o : Oper} {a : Act} {w : World} {Q : Exit → Act → World → Prop} (hgd : o.guard = none) (s x : Operand)
    (ho : o.op = .call { callee := .builtin .append, args := #[s, x], argTypes := #[24, 24] })
    (base : Nat) (v : Value) (ids : List (List Nat)) (hs : a.eval s = v) (hown : OwnIds base w v ids) (b : Nat) (y : List Nat) (hx : a.eval x = .slice (some ⟨b, 0, none⟩) 1 1) (hy : y.length = 32) (hb : w.rangeAt b 0 (u8s y)) (hlen : ids.length ≤ 100000) (hbase : base ≤ w.heap.size)
    (h : ∀ v' w', OwnIds base w' v' (ids ++ [y]) → w.grownBy w' v.ownBlock → wpList Tryd.prog ops Q rest (a.put o.dst v') w') : wpList Tryd.prog ops Q (o :: rest) a w :=
  wpList_plain hgd fun _ hK => by
    obtain ⟨v', w', hr, h1, h2⟩ := run_append_id w base o.type v ids hown b y hy hb hlen hbase
    unfold Oper.wp
    simp [execOp, ho, resolve, invoke, builtin, hs, hx, hr, Result.andThen]
    exact hK _ _ (h v' w' h1 h2)

/-! Arrays with the same cells -/
theorem eqItems_same {P : Program} {e : TypeId} {k : IntKind} (he : P.plainKey e = true) (hu : P.underlying e = some (.int k)) (S : List Value) (w : World) : ∀ (is : List Nat), (∀ i ∈ is, ∃ z, S[i]? = some (.int k z)) →
    (Op.eqItems 9999 e 1 S.toArray S.toArray is).run P w = .ok true w
  | [], _ => by simp [Op.eqItems]
  | i :: is, h => by
    obtain ⟨z, hz⟩ := h i (by simp)
    have hp : (part e S.toArray (i * 1)).run P w = .ok (.int k z) w := run_part_plain w he (by simpa using hz)
    have hq := run_equalIn_int w 9998 e k k z z hu
    have ih := eqItems_same he hu S w is (fun j hj => h j (by simp [hj]))
    simp only [Op.eqItems, Sem.run_bind, hp, Result.andThen_ok, hq]
    simpa using ih
theorem equal_same {P : Program} {t e : TypeId} {n : Nat} {k : IntKind} (ht : P.underlying t = some (.array n e)) (he : P.plainKey e = true) (hu : P.underlying e = some (.int k)) (hc : P.cellsOf e = 1) (hi : (P.info? e).map (·.size) = some 1) (S : List Value) (hS : ∀ i, i < n → ∃ z, S[i]? = some (.int k z)) (w : World) :
    (Op.equalIn 10000 t (.agg S.toArray) (.agg S.toArray)).run P w = .ok true w := by
  cases hq : P.info? e with
  | none => simp [hq] at hi
  | some i =>
    rw [run_equalIn_array w 9999 _ _ ht hq, hc]
    exact eqItems_same he hu S w _ (fun i hi => hS i (List.mem_range.1 hi))
theorem u8s_int (l : List Nat) {n : Nat} (hl : l.length = n) : ∀ i, i < n → ∃ z, (u8s l)[i]? = some (.int .u8 z) := fun i hi => ⟨_, u8s_at (by omega)⟩
theorem equal38 (S : List Value) (hS : ∀ i, i < 32 → ∃ z, S[i]? = some (.int .u8 z)) (w : World) : (Op.equalIn 10000 38 (.agg S.toArray) (.agg S.toArray)).run Tryd.prog w = .ok true w :=
  equal_same Tryd.underlying38 (by kernel_rfl) Tryd.underlying5 (by kernel_rfl) size5 S hS w

end Go.Proofs.YtbaokodhoiledaaDoor
