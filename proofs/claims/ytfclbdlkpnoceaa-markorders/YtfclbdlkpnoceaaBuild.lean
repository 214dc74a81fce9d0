/-
  Laws that name no program: a composite value of which a part is an array by value.
-/
import Derived.Test.YtfclbdlkpnoceaaBaseAll
import Derived.Great.BuildSlice
namespace Go.Proofs.Ytfclbdlkpnoceaa
open Go Go.RowKit

theorem foldl_put (off : Nat) : ∀ (V : List Value) (n : Nat) (C : Array Value), (V.zipIdx n).foldl (fun cs x => cs.setIfInBounds (off + x.2) x.1) C = (putAt C.toList (off + n) V).toArray
  | [], n, C => by simp [putAt]
  | v :: r, n, C => by
    rw [List.zipIdx_cons, List.foldl_cons, foldl_put off r (n + 1), putAt]
    simp [Nat.add_assoc]

theorem fold_put (off : Nat) (V C : List Value) : V.toArray.zipIdx.foldl (fun cs (x : Value × Nat) => cs.setIfInBounds (off + x.2) x.1) C.toArray = (putAt C off V).toArray := by
  have h := foldl_put off V 0 C.toArray
  rw [← Array.foldl_toList]
  simpa using h

theorem fill_one (size : Nat) (V C : List Value) (hV : V.length = size) (hC : C.length = size) : Instr.fill (fun i => some (i * size, size)) C.toArray [(0, .agg V.toArray)] = some V.toArray := by
  unfold Instr.fill
  simp only [Value.cells, List.size_toArray, Nat.zero_mul, Nat.zero_add]
  rw [if_neg (by simp [hV, hC])]
  have h := fold_put 0 V C
  simp only [Nat.zero_add] at h
  rw [h, putAt_all C V (by omega)]
  simp [Instr.fill]

/-- A slice of one array. -/
theorem wpList_buildOne {P : Program} {ops : Array Oper} {rest : List Oper} {o : Oper} {a : Act} {w : World} {Q : Exit → Act → World → Prop} (hg : o.guard = none) (t e : TypeId) (x : Operand) (ho : o.op = .buildSlice t 1 #[(0, x)])
    (V : List Value) (hx : a.eval x = .agg V.toArray) (ie : TypeInfo) (z : Value) (hu : P.underlying t = some (.slice e)) (hie : P.info? e = some ie) (hz : ie.zero = some z) (hs : ie.size = V.length) (hp : 0 < V.length) (hsm : V.length ≤ 1000)
    (h : wpList P ops Q rest (a.put o.dst (.slice (some ⟨w.heap.size, 0, none⟩) 1 1)) (w.alloc (.cells V.toArray e))) : wpList P ops Q (o :: rest) a w := by
  refine wpList_buildSlice hg t e 1 _ ho V.toArray ie z hu hie hz (by omega) (by omega) ?_ h
  rw [hs, Nat.one_mul, ← Array.toArray_toList (xs := (Array.range V.length).map (z.cells[· % z.cells.size]!))]
  simp only [List.map_toArray, List.map_cons, List.map_nil, hx]
  exact fill_one V.length V _ rfl (by simp)
theorem wp_buildOne {P : Program} {o : Oper} {a : Act} {w : World} {K : Act → World → Prop} {Q : Exit → Act → World → Prop} (t e : TypeId) (x : Operand) (ho : o.op = .buildSlice t 1 #[(0, x)])
    (V : List Value) (hx : a.eval x = .agg V.toArray) (ie : TypeInfo) (z : Value) (hu : P.underlying t = some (.slice e)) (hie : P.info? e = some ie) (hz : ie.zero = some z) (hs : ie.size = V.length) (hp : 0 < V.length) (hsm : V.length ≤ 1000)
    (h : K (a.put o.dst (.slice (some ⟨w.heap.size, 0, none⟩) 1 1)) (w.alloc (.cells V.toArray e))) : o.wp P a w K Q := by
  refine wp_buildSlice t e 1 _ ho V.toArray ie z hu hie hz (by omega) (by omega) ?_ h
  rw [hs, Nat.one_mul, ← Array.toArray_toList (xs := (Array.range V.length).map (z.cells[· % z.cells.size]!))]
  simp only [List.map_toArray, List.map_cons, List.map_nil, hx]
  exact fill_one V.length V _ rfl (by simp)
end Go.Proofs.Ytfclbdlkpnoceaa
