/-
  What an ideal suite draws for what it has not answered yet; known's answer. All that turns is the tape and the table.
-/
import Derived.Test.YtkpjbleogjmbjaaDoorMaps
namespace Go.Proofs.YtkpjbleogjmbjaaDoor
open Classical
open Go.RowKit Go.Shelf

theorem row_apart {W : World} {a b : Nat} {t t' : TypeId} {x y : List Value} (ha : Row W a t x) (hb : Row W b t' y) (ht : t ≠ t') : a ≠ b := fun e => by
  subst e
  unfold Row at ha hb
  rw [ha] at hb
  cases hb
  exact ht rfl
theorem row_map {W : World} {P : Program} {k : TypeId} {a b : Nat} {t : TypeId} {x : List Value} {f : Value → Option Value} (ha : Row W a t x) (hb : MapAt P k W b f) : a ≠ b := fun e => by
  subst e
  obtain ⟨_, _, hb, _⟩ := hb
  unfold Row at ha
  rw [ha] at hb
  cases hb

end Go.Proofs.YtkpjbleogjmbjaaDoor
