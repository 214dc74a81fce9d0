/-
  Two arrays with the same cells are found alike.
-/
import Derived.Test.YtclelancbfoenaaGreatDoorMade
import Derived.Test.YtclelancbfoenaaGreatDoorRow
import Derived.Test.YtclelancbfoenaaGreatDoorChecked
import Derived.ChangeKeysEq
namespace Go.Proofs.YtclelancbfoenaaGreatDoor.Re
open Go.RowKit

theorem eqItems_same {P : Program} {e : TypeId} {k : IntKind} (he : P.plainKey e = true) (hu : P.underlying e = some (.int k)) (S : List Value) (w : World) : ∀ (is : List Nat), (∀ i ∈ is, ∃ z, S[i]? = some (.int k z)) →
    (Op.eqItems 9999 e 1 S.toArray S.toArray is).run P w = .ok true w
  | [], _ => by simp [Op.eqItems]
  | i :: is, h => by
    obtain ⟨z, hz⟩ := h i (by simp)
    have hp : (part e S.toArray (i * 1)).run P w = .ok (.int k z) w := run_part_plain w he (by simpa using hz)
    have hq := run_equalIn_int w 9998 e k k z z hu
    have ih := eqItems_same he hu S w is (fun j hj => h j (by simp [hj]))
    simp only [Op.eqItems, Sem.run_bind, hp, Result.andThen_ok, hq]
    simpa using ih

theorem equal_same {P : Program} {t e : TypeId} {n : Nat} {k : IntKind} (ht : P.underlying t = some (.array n e)) (he : P.plainKey e = true) (hu : P.underlying e = some (.int k)) (hc : P.cellsOf e = 1) (hi : (P.info? e).map (·.size) = some 1) (S : List Value) (hS : ∀ i, i < n → ∃ z, S[i]? = some (.int k z)) (w : World) :
    (Op.equalIn 10000 t (.agg S.toArray) (.agg S.toArray)).run P w = .ok true w := by
  cases hq : P.info? e with
  | none => simp [hq] at hi
  | some i =>
    rw [run_equalIn_array w 9999 _ _ ht hq, hc]
    exact eqItems_same he hu S w _ (fun i hi => hS i (List.mem_range.1 hi))

theorem u8s_int (l : List Nat) {n : Nat} (hl : l.length = n) : ∀ i, i < n → ∃ z, (u8s l)[i]? = some (.int .u8 z) := fun i hi => ⟨_, u8s_at (by omega)⟩
theorem u32s_int (l : List Nat) {n : Nat} (hl : l.length = n) : ∀ i, i < n → ∃ z, (u32s l)[i]? = some (.int .u32 z) := fun i hi => ⟨_, u32s_at (by omega)⟩
theorem equal86 (S : List Value) (hS : ∀ i, i < 64 → ∃ z, S[i]? = some (.int .u8 z)) (w : World) : (Op.equalIn 10000 86 (.agg S.toArray) (.agg S.toArray)).run Tryz.prog w = .ok true w :=
  equal_same Tryz.underlying86 (by kernel_rfl) Tryz.underlying5 (by kernel_rfl) size5 S hS w
end Go.Proofs.YtclelancbfoenaaGreatDoor.Re
