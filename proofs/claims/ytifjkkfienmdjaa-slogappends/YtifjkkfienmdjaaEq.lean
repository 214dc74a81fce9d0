/-
  Two sectors, held for alike.
-/
import Derived.Test.YtifjkkfienmdjaaWrite
namespace Go.Proofs.Ytifjkkfienmdjaa
open Go.RowKit

/-- Whether they are alike in these places. -/
def allAt (S T : List Value) (is : List Nat) : Bool := is.all fun i => decide (intOf (S.getD i undef) = intOf (T.getD i undef))
theorem eqItems_two {P : Program} {e : TypeId} {k : IntKind} (he : P.plainKey e = true) (hu : P.underlying e = some (.int k)) (S T : List Value) (w : World) : ∀ (is : List Nat), (∀ i ∈ is, ∃ y z, S[i]? = some (.int k y) ∧ T[i]? = some (.int k z)) →
    (Op.eqItems 9999 e 1 S.toArray T.toArray is).run P w = .ok (allAt S T is) w
  | [], _ => by simp [Op.eqItems, allAt]
  | i :: is, h => by
    obtain ⟨y, z, hy, hz⟩ := h i (by simp)
    have hp : (part e S.toArray (i * 1)).run P w = .ok (.int k y) w := run_part_plain w he (by simpa using hy)
    have hp2 : (part e T.toArray (i * 1)).run P w = .ok (.int k z) w := run_part_plain w he (by simpa using hz)
    have hq := run_equalIn_int w 9998 e k k y z hu
    have ih := eqItems_two he hu S T w is (fun j hj => h j (by simp [hj]))
    simp only [Op.eqItems, Sem.run_bind, hp, hp2, Result.andThen_ok, hq]
    by_cases hyz : y = z
    · subst hyz
      simp [ih, allAt, hy, hz, intOf]
    · simp [hyz, allAt, hy, hz, intOf]
theorem allAt_secs {x y : List Nat} (hx : IsSec x) (hy : IsSec y) : allAt (u8s x) (u8s y) (List.range 64) = decide (x = y) := by
  rw [Bool.eq_iff_iff, decide_eq_true_eq, allAt, List.all_eq_true]
  constructor
  · intro h
    apply List.ext_getElem (by rw [hx.1, hy.1])
    intro i h1 h2
    have hi : i < 64 := by have := hx.1; omega
    have := h i (List.mem_range.2 hi)
    rw [decide_eq_true_eq] at this
    simp only [List.getD_eq_getElem?_getD] at this
    rw [u8s_at h1, u8s_at h2] at this
    simp [intOf, List.getElem?_eq_getElem h1, List.getElem?_eq_getElem h2] at this
    exact Int.ofNat.inj this
  · rintro rfl i _
    simp
theorem equal_secs {x y : List Nat} (hx : IsSec x) (hy : IsSec y) (w : World) : (Op.equalIn 10000 55 (.agg (u8s x).toArray) (.agg (u8s y).toArray)).run Try.prog w = .ok (decide (x = y)) w := by
  cases hq : Try.prog.info? 5 with
  | none => have := size5; rw [hq] at this; simp at this
  | some i =>
    rw [run_equalIn_array w 9999 _ _ Try.underlying55 hq, show Try.prog.cellsOf 5 = 1 by kernel_rfl]
    rw [eqItems_two (by kernel_rfl) Try.underlying5 (u8s x) (u8s y) w _ (fun i hi => ?_), allAt_secs hx hy]
    have hi := List.mem_range.1 hi
    exact ⟨_, _, u8s_at (by rw [hx.1]; exact hi), u8s_at (by rw [hy.1]; exact hi)⟩
/-- A guarded load of an array; a sector stored into a new variable. -/
theorem wpList_load_want {ops : Array Oper} {rest : List Oper} {o : Oper} {a : Act} {w : World} {Q : Exit → Act → World → Prop} (hw : Region.wanted o (yielded ops a.tmps) = true) (t : TypeId) (x : Operand) (ho : o.op = .load t x) (b off : Nat) (hx : a.eval x = .pointer (some ⟨b, off, none⟩)) (cs : List Value) {n : Nat} {e : TypeId} (hr : w.rangeAt b off cs)
    (hu : Try.prog.underlying t = some (.array n e)) (hi : (Try.prog.info? t).map (·.size) = some cs.length) (h : wpList Try.prog ops Q rest (a.put o.dst (.agg cs.toArray)) w) : wpList Try.prog ops Q (o :: rest) a w :=
  BigFrame.wpList_want hw fun _ hK => wp_load_mid t x ho b off hx cs _ hr hu rfl hi (hK _ _ h)
theorem wpList_store_new {ops : Array Oper} {rest : List Oper} {o : Oper} {a : Act} {w : World} {Q : Exit → Act → World → Prop} (hgd : o.guard = none) (x y : Operand) (ho : o.op = .store 55 x y) (S : List Value) (hL : S.length = 64) (hO : ∀ v ∈ S, v.oneCell' = true)
    (hx : a.eval x = .pointer (some ⟨w.heap.size, 0, none⟩)) (hy : a.eval y = .agg S.toArray)
    (h : ∀ W2, Below w.heap.size w W2 → Row W2 w.heap.size 55 S → W2.heap.size = w.heap.size + 1 → wpList Try.prog ops Q rest (a.put o.dst undef) W2) : wpList Try.prog ops Q (o :: rest) a (w.alloc (.cells (List.replicate 64 (Value.int .u8 0)).toArray 55)) :=
  have hr := Row.new' w 55 (List.replicate 64 (Value.int .u8 0))
  wpList_store_Row hgd 55 x y ho S hx hy hr (by rw [hL]; exact size55) (by rw [hL, List.length_replicate]) hO
    (h _ (below_setCells (Nat.le_refl _) _ _ ((Below.refl _ w).alloc (Nat.le_refl _) _)) (hr.sets_all (by rw [hL, List.length_replicate])) (by rw [size_setCells]; simp))
/-- The same inside a fence. -/
theorem wpListIn_load_mid {F : Fence} {n : Nat} {P : Program} {ops : Array Oper} {rest : List Oper} {o : Oper} {a : Act} {w : World} {Q : Exit → Act → World → Prop} (hgd : o.guard = none) (ty : TypeId) (x : Operand) (ho : o.op = .load ty x)
    (g off : Nat) (hx : a.eval x = .pointer (some ⟨g, off, none⟩)) (cs : List Value) (hg : w.rangeAt g off cs) {m : Nat} {e : TypeId} (hu : P.underlying ty = some (.array m e)) (hi : (P.info? ty).map (·.size) = some cs.length)
    (h : wpListIn F n P ops Q rest (a.put o.dst (.agg cs.toArray)) w) : wpListIn F n P ops Q (o :: rest) a w := by
  refine wpListIn_plain hgd fun K hK => ?_
  unfold Oper.wpIn
  refine ⟨by simp [Oper.about, ho], ?_⟩
  rw [Oper.semAt_plain F _ _ (by rw [ho]; intro c hc; cases hc)]
  simp only [execOp, ho, hx, Instr.loadAt, Instr.sureAddr, Sem.run_bind, Sem.run_pure, Result.andThen_ok, run_loadVar_mid w g off ty cs _ hg hu rfl hi]
  exact hK _ _ h
theorem wpListIn_store_new {F : Fence} {n : Nat} {ops : Array Oper} {rest : List Oper} {o : Oper} {a : Act} {w : World} {Q : Exit → Act → World → Prop} (hgd : o.guard = none) (x y : Operand) (ho : o.op = .store 55 x y) (S : List Value) (hL : S.length = 64) (hO : ∀ v ∈ S, v.oneCell' = true)
    (hx : a.eval x = .pointer (some ⟨w.heap.size, 0, none⟩)) (hy : a.eval y = .agg S.toArray)
    (h : ∀ W2, Below w.heap.size w W2 → Row W2 w.heap.size 55 S → W2.heap.size = w.heap.size + 1 → wpListIn F n Try.prog ops Q rest (a.put o.dst undef) W2) : wpListIn F n Try.prog ops Q (o :: rest) a (w.alloc (.cells (List.replicate 64 (Value.int .u8 0)).toArray 55)) :=
  have hr := Row.new' w 55 (List.replicate 64 (Value.int .u8 0))
  wpListIn_store_Row hgd 55 x y ho S hx hy hr (by rw [hL]; exact size55) (by rw [hL, List.length_replicate]) hO
    (h _ (below_setCells (Nat.le_refl _) _ _ ((Below.refl _ w).alloc (Nat.le_refl _) _)) (hr.sets_all (by rw [hL, List.length_replicate])) (by rw [size_setCells]; simp))
end Go.Proofs.Ytifjkkfienmdjaa
