/-
  Steps of a drawn region that names no program: an operation whose guard is false, a whole array's load. A bool that lies in a block.
-/
import Derived.Test.YthdfhbbfbohojaaBaseAll
import Derived.Test.YthdfhbbfbohojaaChecked
namespace Go.Proofs.Ythdfhbbfbohojaa
open Go Go.RowKit

theorem wpHeld_skip {P : Program} {ops : Array Oper} {S : World → Prop} {K : Act → Prop} {a : Act} {o : Oper} {rest : List Oper} (hw : Region.wanted o (yielded ops a.tmps) = false) (h : wpHeld P ops S K rest (a.put o.dst undef)) : wpHeld P ops S K (o :: rest) a := ⟨undef, .inr ⟨hw, rfl⟩, h⟩
theorem wpHeld_load {P : Program} {ops : Array Oper} {S : World → Prop} {K : Act → Prop} {a : Act} {o : Oper} {rest : List Oper} (hw : Region.wanted o (yielded ops a.tmps) = true) (ty : TypeId) (x : Operand) (ho : o.op = .load ty x)
    (b off : Nat) (hx : a.eval x = .pointer (some ⟨b, off, none⟩)) (cs : List Value) {m : Nat} {e : TypeId} (hS : ∀ w, S w → w.rangeAt b off cs) (hu : P.underlying ty = some (.array m e)) (hi : (P.info? ty).map (·.size) = some cs.length)
    (h : wpHeld P ops S K rest (a.put o.dst (.agg cs.toArray))) : wpHeld P ops S K (o :: rest) a := ⟨_, yieldsIf_load_mid hw ty x ho b off hx cs _ hS hu rfl hi, h⟩

theorem results_bool {fn : Func} {p : Tmp} (h : fn.results = #[.cell p 4]) {tmps : Array Value} {w : World} {g : Nat} (hp : tmps.getD p undef = .pointer (some ⟨g, 0, none⟩)) {v : Value} (hg : Row w g 4 [v]) : (results fn tmps).run Try.prog w = .ok v w := by
  have hp' : tmps[p]?.getD undef = .pointer (some ⟨g, 0, none⟩) := by simpa using hp
  have hc := hg.cell (i := 0) rfl
  simp [results, h, hp', asAddr, loadVar, isAgg, run_underlying Try.underlying4, go_sem, hc]
end Go.Proofs.Ythdfhbbfbohojaa
