/-
  Slices that own a row of ids; an id appended to such; two lists of the same ids are found alike.
-/
import Derived.Test.YtedpgdldekkgdaaIds
import Derived.Test.YtedpgdldekkgdaaHeld
import Derived.ChangeKeysEq
import Derived.Great.BuildSlice
import Derived.BigQuiet
namespace Go.Proofs.Ytedpgdldekkgdaa
open Go.RowKit

theorem info25 : (Try.prog.info? 25).map (fun i => (i.zero, i.size, i.bytes)) = some (some (.agg (List.replicate 32 (Value.int .u8 0)).toArray), 32, 32) := by kernel_rfl
/-- The slice v owns a row of just these ids. -/
def OwnIds (n₀ : Nat) (W : World) (v : Value) (ids : List (List Nat)) : Prop := W.ownsRow n₀ 25 32 v ids.length (u8s ids.flatten)
theorem OwnIds.nil (n₀ : Nat) (W : World) : OwnIds n₀ W (.slice none 0 0) [] := World.ownsRow_nil _ _ _ _
theorem OwnIds.later {A B : World} (hb : Below A.heap.size A B) {n₀ : Nat} {v : Value} {ids : List (List Nat)} (h : OwnIds n₀ A v ids) : OwnIds n₀ B v ids := ownsRow_later hb h
theorem OwnIds.mono {W : World} {n₀ n₁ : Nat} (hn : n₁ ≤ n₀) {v : Value} {ids : List (List Nat)} (h : OwnIds n₀ W v ids) : OwnIds n₁ W v ids := ownsRow_mono hn h
theorem OwnIds.slice {W : World} {n₀ : Nat} {v : Value} {ids : List (List Nat)} (h : OwnIds n₀ W v ids) : ∃ q c, v = .slice q ids.length c := slice_of_row h
theorem flat_drop {ids : List (List Nat)} (h : ∀ x ∈ ids, x.length = 32 ∧ ∀ z ∈ x, z < 256) : ∀ (k : Nat), k < ids.length → (ids.flatten.drop (k * 32)).take 32 = ids.getD k [] := by
  induction ids with
  | nil => intro k hk; simp at hk
  | cons a r ih =>
    intro k hk
    have ha := (h a List.mem_cons_self).1
    cases k with
    | zero => simp [List.take_append_of_le_length (show 32 ≤ a.length by omega), List.take_of_length_le (show a.length ≤ 32 by omega)]
    | succ k =>
      rw [List.flatten_cons, show (k + 1) * 32 = a.length + k * 32 by omega, List.drop_append]
      simp only [Nat.add_sub_cancel_left]
      rw [List.drop_of_length_le (by omega), List.nil_append, ih (fun x hx => h x (List.mem_cons_of_mem _ hx)) k (by simpa using hk)]
      rfl
theorem u8s_drop (l : List Nat) (o n : Nat) : ((u8s l).drop o).take n = u8s ((l.drop o).take n) := by simp [u8s, List.map_drop, List.map_take]
theorem OwnIds.ids {W : World} {n₀ : Nat} {q : Option Addr} {len cap : Nat} {ids : List (List Nat)} (h : OwnIds n₀ W (.slice q len cap) ids) (hl : ids.length = len) (hi : ∀ x ∈ ids, x.length = 32 ∧ ∀ z ∈ x, z < 256) : IsIds W.heap.size W q len cap ids := by
  unfold OwnIds at h
  rw [hl] at h
  rcases h.2 with ⟨e, hz⟩ | ⟨g, c, cur, e, hg, hgg, hnc, hm, hs, ht⟩
  · cases e
    exact ⟨hl, Nat.le_refl _, by omega, hi, .inl rfl⟩
  · cases e
    refine ⟨hl, hnc, by simpa only [maxLen] using hm, hi, .inr ⟨g, 0, rfl, (Array.getElem?_eq_some_iff.1 hgg).1, fun i hil => ?_⟩⟩
    rw [Nat.zero_add, ← flat_drop hi i (by omega), ← u8s_drop]
    have hrow : Row W g 25 cur.toList := by unfold Row; rw [Array.toArray_toList]; exact hgg
    exact hrow.mid ht (i * 32) 32 (by omega)

/-! Arrays with the same cells -/
theorem eqItems_same {P : Program} {e : TypeId} {k : IntKind} (he : P.plainKey e = true) (hu : P.underlying e = some (.int k)) (S : List Value) (w : World) : ∀ (is : List Nat), (∀ i ∈ is, ∃ z, S[i]? = some (.int k z)) →
    (Op.eqItems 9999 e 1 S.toArray S.toArray is).run P w = .ok true w
  | [], _ => by simp [Op.eqItems]
  | i :: is, h => by
    obtain ⟨z, hz⟩ := h i (by simp)
    have hp : (part e S.toArray (i * 1)).run P w = .ok (.int k z) w := run_part_plain w he (by simpa using hz)
    have hq := run_equalIn_int w 9998 e k k z z hu
    have ih := eqItems_same he hu S w is (fun j hj => h j (by simp [hj]))
    simp only [Op.eqItems, Sem.run_bind, hp, Result.andThen_ok, hq]
    simpa using ih
theorem equal_same {P : Program} {t e : TypeId} {n : Nat} {k : IntKind} (ht : P.underlying t = some (.array n e)) (he : P.plainKey e = true) (hu : P.underlying e = some (.int k)) (hc : P.cellsOf e = 1) (hi : (P.info? e).map (·.size) = some 1) (S : List Value) (hS : ∀ i, i < n → ∃ z, S[i]? = some (.int k z)) (w : World) :
    (Op.equalIn 10000 t (.agg S.toArray) (.agg S.toArray)).run P w = .ok true w := by
  cases hq : P.info? e with
  | none => simp [hq] at hi
  | some i =>
    rw [run_equalIn_array w 9999 _ _ ht hq, hc]
    exact eqItems_same he hu S w _ (fun i hi => hS i (List.mem_range.1 hi))
theorem u8s_int (l : List Nat) {n : Nat} (hl : l.length = n) : ∀ i, i < n → ∃ z, (u8s l)[i]? = some (.int .u8 z) := fun i hi => ⟨_, u8s_at (by omega)⟩
theorem equal25 (S : List Value) (hS : ∀ i, i < 32 → ∃ z, S[i]? = some (.int .u8 z)) (w : World) : (Op.equalIn 10000 25 (.agg S.toArray) (.agg S.toArray)).run Try.prog w = .ok true w :=
  equal_same Try.underlying25 (by kernel_rfl) Try.underlying5 (by kernel_rfl) size5 S hS w

end Go.Proofs.Ytedpgdldekkgdaa
