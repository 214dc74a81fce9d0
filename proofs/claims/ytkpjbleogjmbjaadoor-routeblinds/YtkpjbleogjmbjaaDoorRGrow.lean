/-
  A row that is put behind the others.
-/
import Derived.Test.YtkpjbleogjmbjaaDoorRRow
import Derived.Test.YtkpjbleogjmbjaaDoorRefTake
import Derived.Test.YtkpjbleogjmbjaaDoorBuild
import Derived.Maps.AppendAt
namespace Go.Proofs.YtkpjbleogjmbjaaDoor
open Classical
open Go.RowKit Go.Shelf

theorem wp_append_of {P : Program} {o : Oper} {a : Act} {w w' : World} {K : Act → World → Prop} {Q : Exit → Act → World → Prop} (s x : Operand) (t : TypeId) (ho : o.op = .call { callee := .builtin .append, args := #[s, x], argTypes := #[t, t] })
    {vs vx v : Value} (hs : a.eval s = vs) (hx : a.eval x = vx) (hrun : (Builtin.append_ #[t, t] o.type #[vs, vx]).run P w = .ok v w') (h : K (a.put o.dst v) w') : Oper.wp P o a w K Q := by
  unfold Oper.wp
  simp [execOp, ho, resolve, invoke, builtin, hs, hx, hrun, Result.andThen]
  exact h

def zeroR : List Value := .int .i64 0 :: (noKey ++ [.slice none 0 0, .slice none 0 0, .slice none 0 0])
theorem info85 : (Tryd.prog.info? 85).map (fun i => (i.zero, i.size, i.bytes)) = some (some (.agg zeroR.toArray), 36, 112) := by kernel_rfl
theorem list32 {K : List Value} (hK : K.length = 32) : ∃ f : Nat → Value, K = (List.range 32).map f := by
  refine ⟨fun i => K.getD i undef, List.ext_getElem (by simp [hK]) (fun i h1 h2 => ?_)⟩
  simp [List.getElem?_eq_getElem h1]
theorem run_build85 (K : List Value) (hK : K.length = 32) (w : World) (pl : Option Addr) (ll cl : Nat) (pa : Option Addr) (la ca : Nat) (pb : Option Addr) (lb cb : Nat) :
    (Instr.build 85 #[(0, .int .i64 1), (1, .agg K.toArray), (2, .slice pl ll cl), (3, .slice pa la ca), (4, .slice pb lb cb)]).run Tryd.prog w = .ok (.agg (rowC K (.slice pl ll cl) (.slice pa la ca) (.slice pb lb cb)).toArray) w :=
  run_build w 85 _ _ (by obtain ⟨f, rfl⟩ := list32 hK; kernel_rfl)

theorem REnt.At.keepT {R : Nat} {W W' : World} {e : REnt} (h : e.At R W) (hk : KeepT 5 W W') : e.At R W' := ⟨hk.own h.l, hk.own h.a, hk.own h.b, h.L, h.d⟩

set_option maxRecDepth 100000 in
theorem rows_append {K : List Value} (hK : K.length = 32) (hK1 : ∀ v ∈ K, v.oneCell' = true) (R : Nat) (W : World) (rq : Option Addr) (rc : Nat) (es : List REnt) (x : REnt) (ty : TypeId) (hx : x.At R W) (hE : RowsAt K R W (.slice rq es.length rc) es) (hRl : R + 1 ≤ W.heap.size) (hn : es.length ≤ 1000) :
    ∃ q' c' W4, (Builtin.append_ #[31, 31] ty #[.slice rq es.length rc, .slice (some ⟨W.heap.size, 0, none⟩) 1 1]).run Tryd.prog (W.alloc (.cells (x.cells K).toArray 85)) = .ok (.slice q' (es ++ [x]).length c') W4 ∧ RowsAt K R W4 (.slice q' (es ++ [x]).length c') (es ++ [x]) ∧ (∀ t, t ≠ 85 → KeepT t W W4) ∧ Below (R + 1) W W4 := by
  obtain ⟨i0, hi0, hz0, hz1, hz2⟩ := info_parts info85
  obtain ⟨W3, hW3⟩ : ∃ W3, W.alloc (.cells (x.cells K).toArray 85) = W3 := ⟨_, rfl⟩
  have hb3 : Below W.heap.size W W3 := by rw [← hW3]; exact (Below.refl _ W).alloc (Nat.le_refl _) _
  have hr3 : Row W3 W.heap.size 85 (x.cells K) := by rw [← hW3]; exact Row.new' W 85 _
  have hone : ∀ v ∈ (x.cells K), v.oneCell' = true := by
    obtain ⟨_, _, e1⟩ := hx.l.slice
    obtain ⟨_, _, e2⟩ := hx.a.slice
    obtain ⟨_, _, e3⟩ := hx.b.slice
    exact rowC_one hK1 (by rw [e1]; rfl) (by rw [e2]; rfl) (by rw [e3]; rfl)
  rw [hW3]
  have hE3 := hE.later hb3
  obtain ⟨v', W4, hrun, ho4, hg4, _, _⟩ := run_append_own_at (P := Tryd.prog) W3 (R + 1) 31 ty 85 i0 _ 36 112 Tryd.underlying31 hi0 hz0 hz1 hz2 (by rfl) (by omega) (.slice rq es.length rc) es.length _ hE3.own ⟨W.heap.size, 0, none⟩ 1 1 (x.cells K) (by rw [cells_len hK]) (fun j u hu => by rw [Addr.add_mid]; exact hr3.range j u hu) hone (by simp only [maxLen]; omega) (by omega) (by have := hb3.size; omega)
  have hkt : ∀ t, t ≠ 85 → KeepT t W W4 := fun t ht => (KeepT.of_below hb3).trans (KeepT.row hg4 hE3.own (fun e => ht e.symm))
  have hk2 := hkt 5 (by decide)
  have hbe : Below (R + 1) W3 W4 := (Below.refl _ W3).grown hg4 (by have := hb3.size; omega) (fun k e => (World.ownsRow.lt hE3.own k e).1)
  obtain ⟨q', c', rfl⟩ := slice_of_row ho4
  have hl : (es ++ [x]).length = es.length + 1 := by simp
  rw [hl]
  refine ⟨q', c', W4, hrun, ⟨?_, fun e he => ?_⟩, hkt, (hb3.mono (by omega)).trans hbe⟩
  · rw [hl, List.map_append, List.flatten_append]
    simpa using ho4
  · rcases List.mem_append.1 he with h | h
    · exact (hE.all e h).keepT hk2
    · rw [List.mem_singleton] at h; subst h; exact hx.keepT hk2

/-- The reference's suite. -/
structure RefSt (K : List Value) (W : World) (R : Nat) (mode : Int) (zs : List Nat) (es : List REnt) (q : Option Addr) (ql qc : Nat) (rq : Option Addr) (rc : Nat) (x3 x4 : Value) : Prop where
  row : Row W R 33 [.int .i64 mode, .slice q ql qc, .slice rq es.length rc, x3, x4, .bool false]
  tape : IsBytes R W q ql qc zs
  rows : RowsAt K R W (.slice rq es.length rc) es
theorem RefSt.later {K : List Value} {W W' : World} {R : Nat} {mode : Int} {zs : List Nat} {es : List REnt} {q : Option Addr} {ql qc : Nat} {rq : Option Addr} {rc : Nat} {x3 x4 : Value} (h : RefSt K W R mode zs es q ql qc rq rc x3 x4) (hb : Below W.heap.size W W') : RefSt K W' R mode zs es q ql qc rq rc x3 x4 :=
  ⟨h.row.later hb, h.tape.below (hb.mono (Nat.le_of_lt h.row.lt)), h.rows.later hb⟩
/-- What the reference's calls may turn: its own block, and what is above it and holds no bytes. -/
def RFr (R : Nat) (w w' : World) : Prop := Below R w w' ∧ ∀ t, t ≠ 33 → t ≠ 85 → KeepT t w w'
theorem RFr.of_below {R : Nat} {w w' : World} (h : Below w.heap.size w w') (hR : R ≤ w.heap.size) : RFr R w w' := ⟨h.mono hR, fun _ _ _ => KeepT.of_below h⟩
theorem RFr.trans {R : Nat} {a b c : World} (h : RFr R a b) (k : RFr R b c) : RFr R a c := ⟨h.1.trans k.1, fun t h1 h2 => (h.2 t h1 h2).trans (k.2 t h1 h2)⟩
theorem RFr.row {R : Nat} {w w' : World} {c : List Value} (hr : Row w R 33 c) (h : But R w.heap.size w w') : RFr R w w' :=
  ⟨h.below (Nat.le_of_lt hr.lt) (Nat.le_refl _), fun t ht _ k cc fr hk => by
    have hkl := (Array.getElem?_eq_some_iff.1 hk).1
    by_cases e : k = R
    · subst e
      unfold Row at hr
      rw [hr] at hk
      cases hk
      exact absurd rfl ht
    · exact (h.block k hkl e).trans hk⟩
theorem RFr.keep {R b : Nat} {w w' : World} {t : TypeId} {c : List Value} (h : RFr R w w') (hr : Row w b t c) (h1 : t ≠ 33) (h2 : t ≠ 85) : Row w' b t c := h.2 t h1 h2 _ _ _ hr
theorem RFr.own {R n₀ : Nat} {w w' : World} {v : Value} {zs : List Nat} (h : RFr R w w') (ho : Own n₀ w v zs) : Own n₀ w' v zs := (h.2 5 (by decide) (by decide)).own ho

theorem ownsRow_keep {A A' : World} {base : Nat} {e : TypeId} {size : Nat} {v : Value} {n : Nat} {xs : List Value} (h : A.ownsRow base e size v n xs) (hk : ∀ b, v.ownBlock = some b → A'.heap[b]? = A.heap[b]?) : A'.ownsRow base e size v n xs := by
  refine ⟨h.1, ?_⟩
  rcases h.2 with hn | ⟨g, cap, cur, rfl, hg, hgg, rest⟩
  · exact .inl hn
  · exact .inr ⟨g, cap, cur, rfl, hg, (hk g rfl).trans hgg, rest⟩
theorem RowsAt.but {K : List Value} {R : Nat} {W W' : World} {v : Value} {es : List REnt} {c : List Value} (h : RowsAt K R W v es) (hr : Row W R 33 c) (hb : But R W.heap.size W W') : RowsAt K R W' v es :=
  ⟨ownsRow_keep h.own (fun b hv => hb.block b (World.ownsRow.lt h.own b hv).2 (by have := (World.ownsRow.lt h.own b hv).1; omega)), fun e he => (h.all e he).keepT ((RFr.row hr hb).2 5 (by decide) (by decide))⟩

end Go.Proofs.YtkpjbleogjmbjaaDoor
