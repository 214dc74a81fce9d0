/-
  Laws that name no program: a block that holds just these cells; what a load, a store of one cell, a new block, a draw make of it; and a list that is filled up.
-/
import Derived.Test.YtlmfdifnkkdpfaaLoop
import Derived.Deep.MidRow
import Derived.Deep.WholeRow
import Derived.WalkKit
import Derived.BigQuiet
import Derived.ProofKit
namespace Go.Proofs.Ytlmfdifnkkdpfaa
open Go Go.RowKit

/-- Block b holds just the cells c. -/
def Row (W : World) (b : Nat) (t : TypeId) (c : List Value) : Prop := W.heap[b]? = some (.cells c.toArray t (0, 0))

theorem Row.lt {W : World} {b : Nat} {t : TypeId} {c : List Value} (h : Row W b t c) : b < W.heap.size := (Array.getElem?_eq_some_iff.1 h).1
theorem Row.new (W : World) (t : TypeId) (c : Array Value) : Row (W.alloc (.cells c t)) W.heap.size t c.toList := by
  unfold Row; rw [Array.toArray_toList]; exact heap_alloc_last W _
theorem Row.new' (W : World) (t : TypeId) (c : List Value) : Row (W.alloc (.cells c.toArray t)) W.heap.size t c := heap_alloc_last W _
theorem Row.below {W W' : World} {n b : Nat} {t : TypeId} {c : List Value} (h : Row W b t c) (hb : Below n W W') (hn : b < n) : Row W' b t c := (hb.block b hn).trans h
theorem Row.later {W W' : World} {b : Nat} {t : TypeId} {c : List Value} (h : Row W b t c) (hb : Below W.heap.size W W') : Row W' b t c := h.below hb h.lt
theorem Row.alloc {W : World} {b : Nat} {t : TypeId} {c : List Value} (h : Row W b t c) (o : Obj) : Row (W.alloc o) b t c := (Below.heap_alloc W o b h.lt).trans h
theorem Row.drew {W : World} {b : Nat} {t : TypeId} {c : List Value} (h : Row W b t c) : Row W.drew b t c := h
theorem Row.drewN {W : World} {b : Nat} {t : TypeId} {c : List Value} (h : Row W b t c) (n : Nat) : Row (W.drewN n) b t c := h
theorem Row.cell {W : World} {b : Nat} {t : TypeId} {c : List Value} (h : Row W b t c) {i : Nat} {v : Value} (hi : c[i]? = some v) : W.cell? ⟨b, i, none⟩ = some v := by
  rw [cell_of_row W b i _ t (0, 0) h]; simpa using hi
theorem Row.range {W : World} {b : Nat} {t : TypeId} {c : List Value} (h : Row W b t c) : W.rangeAt b 0 c := fun j v hv => by rw [Nat.zero_add]; exact h.cell hv
theorem Row.frozen {W : World} {b : Nat} {t : TypeId} {c : List Value} (h : Row W b t c) (i : Nat) : W.frozen? ⟨b, i, none⟩ = false := by
  unfold Row at h
  simp [World.frozen?, h]
theorem Row.there {W : World} {b : Nat} {t : TypeId} {c : List Value} (h : Row W b t c) : W.there b 0 c.length := fun j hj => by
  rw [Nat.zero_add]; exact ⟨by rw [h.cell (List.getElem?_eq_getElem hj)]; rfl, h.frozen j⟩

theorem Row.set {W : World} {b : Nat} {t : TypeId} {c : List Value} (h : Row W b t c) (i : Nat) (v : Value) : Row (W.setCell ⟨b, i, none⟩ v) b t (c.set i v) := by
  unfold Row
  rw [heap_setCell_same W b i _ t v h]
  simp
theorem Row.other {W : World} {b : Nat} {t : TypeId} {c : List Value} (h : Row W b t c) {a : Addr} (ha : b ≠ a.block) (v : Value) : Row (W.setCell a v) b t c := (heap_setCell_other W a b v ha).trans h

/-- The cells c with vs from place o on. -/
def putAt (c : List Value) : Nat → List Value → List Value
  | _, [] => c
  | o, v :: r => putAt (c.set o v) (o + 1) r

theorem putAt_eq : ∀ (vs c : List Value) (o : Nat), o + vs.length ≤ c.length → putAt c o vs = c.take o ++ vs ++ c.drop (o + vs.length)
  | [], c, o, _ => by simp [putAt]
  | v :: r, c, o, h => by
    simp only [List.length_cons] at h
    rw [putAt, putAt_eq r _ _ (by simp; omega)]
    apply List.ext_getElem?
    intro i
    simp only [List.length_cons, List.getElem?_append, List.length_take, List.length_append, List.length_set, List.getElem?_drop, List.getElem?_take, List.getElem?_set, List.getElem?_cons]
    have e1 : min (o + 1) c.length = o + 1 := by omega
    have e2 : min o c.length = o := by omega
    rw [e1, e2]
    by_cases h1 : i < o
    · simp [h1, show i < o + 1 by omega, show i < o + 1 + r.length by omega, show i < o + (r.length + 1) by omega, show ¬ o = i by omega]
    · by_cases h2 : i = o
      · subst h2; simp [show i < c.length by omega, show i < i + 1 + r.length by omega]
      · by_cases h3 : i < o + (r.length + 1)
        · simp [h1, show ¬ i < o + 1 by omega, show i < o + 1 + r.length by omega, h3, show ¬ i - o = 0 by omega, show i - (o + 1) = i - o - 1 by omega]
        · simp [show ¬ i < o + 1 + r.length by omega, h3, show o + 1 + r.length + (i - (o + 1 + r.length)) = o + (r.length + 1) + (i - (o + (r.length + 1))) by omega]; omega

theorem putAt_all (c vs : List Value) (h : vs.length = c.length) : putAt c 0 vs = vs := by
  rw [putAt_eq vs c 0 (by omega)]; simp [h]

theorem Row.sets {t : TypeId} {b : Nat} : ∀ (vs : List Value) (o : Nat) {W : World} {c : List Value}, Row W b t c → Row (W.setCells b o vs) b t (putAt c o vs)
  | [], _, _, _, h => h
  | v :: r, o, _, _, h => Row.sets r (o + 1) (h.set o v)
theorem Row.others {t : TypeId} {b b' : Nat} (hb : b' ≠ b) : ∀ (vs : List Value) (o : Nat) {W : World} {c : List Value}, Row W b' t c → Row (W.setCells b o vs) b' t c
  | [], _, _, _, h => h
  | v :: r, o, _, _, h => Row.others hb r (o + 1) (h.other (a := ⟨b, o, none⟩) hb v)
theorem below_setCells {B b : Nat} {a : World} (hb : B ≤ b) : ∀ (vs : List Value) (o : Nat) {w : World}, Below B a w → Below B a (w.setCells b o vs)
  | [], _, _, h => h
  | v :: r, o, _, h => below_setCells hb r (o + 1) (h.setCell (p := ⟨b, o, none⟩) hb v)
theorem below_drewN {B : Nat} {a w : World} (h : Below B a w) (n : Nat) : Below B a (w.drewN n) := ⟨h.os, h.tape, h.output, h.size, h.block⟩
theorem size_setCells {b : Nat} : ∀ (vs : List Value) (o : Nat) (w : World), (w.setCells b o vs).heap.size = w.heap.size
  | [], _, _ => rfl
  | _ :: r, o, _ => (size_setCells r (o + 1) _).trans (World.size_setCell _ _ _)

/-- A list, filled up to N with z. -/
def fill (N : Nat) (z : Value) (vs : List Value) : List Value := vs ++ List.replicate (N - vs.length) z
theorem fill_length (N : Nat) (z : Value) (vs : List Value) (h : vs.length ≤ N) : (fill N z vs).length = N := by simp [fill]; omega
theorem fill_nil (N : Nat) (z : Value) : fill N z [] = List.replicate N z := by simp [fill]
theorem fill_full (N : Nat) (z : Value) (vs : List Value) (h : vs.length = N) : fill N z vs = vs := by simp [fill, h]
theorem fill_at (N : Nat) (z : Value) (vs : List Value) {i : Nat} (h : i < vs.length) : (fill N z vs)[i]? = vs[i]? := by simp [fill, List.getElem?_append_left h]
theorem fill_rest (N : Nat) (z : Value) (vs : List Value) {i : Nat} (h : vs.length ≤ i) (hi : i < N) : (fill N z vs)[i]? = some z := by
  rw [fill, List.getElem?_append_right h, List.getElem?_replicate, if_pos (by omega)]
theorem fill_set (N : Nat) (z v : Value) (vs : List Value) {i : Nat} (hi : vs.length = i) (h : i < N) : (fill N z vs).set i v = fill N z (vs ++ [v]) := by
  subst hi
  simp only [fill, List.set_append, Nat.lt_irrefl, if_false, Nat.sub_self, List.append_assoc, List.length_append, List.length_singleton]
  rw [show N - vs.length = (N - (vs.length + 1)) + 1 by omega, List.replicate_succ]
  simp

/-- Numbers as cells. -/
def u32s (l : List Nat) : List Value := l.map fun z => .int .u32 (z : Nat)
def u8s (l : List Nat) : List Value := l.map fun z => .int .u8 (z : Nat)
theorem u32s_at {l : List Nat} {i : Nat} (h : i < l.length) : (u32s l)[i]? = some (.int .u32 (l.getD i 0 : Nat)) := by simp [u32s, List.getElem?_eq_getElem h]
theorem u8s_at {l : List Nat} {i : Nat} (h : i < l.length) : (u8s l)[i]? = some (.int .u8 (l.getD i 0 : Nat)) := by simp [u8s, List.getElem?_eq_getElem h]
@[simp] theorem u32s_length (l : List Nat) : (u32s l).length = l.length := by simp [u32s]
@[simp] theorem u8s_length (l : List Nat) : (u8s l).length = l.length := by simp [u8s]
theorem u32s_snoc (l : List Nat) (x : Nat) : u32s l ++ [.int .u32 (x : Nat)] = u32s (l ++ [x]) := by simp [u32s]
theorem u8s_snoc (l : List Nat) (x : Nat) : u8s l ++ [.int .u8 (x : Nat)] = u8s (l ++ [x]) := by simp [u8s]
theorem u32s_one (l : List Nat) : ∀ v ∈ u32s l, v.oneCell' = true := by simp [u32s, Value.oneCell']
theorem u8s_one (l : List Nat) : ∀ v ∈ u8s l, v.oneCell' = true := by simp [u8s, Value.oneCell']

/-- A whole row, read and written by a plain region; a result that lies in a row. -/
theorem wpList_load_Row {P : Program} {ops : Array Oper} {rest : List Oper} {o : Oper} {a : Act} {w : World} {Q : Exit → Act → World → Prop} (hgd : o.guard = none) (ty : TypeId) (x : Operand) (ho : o.op = .load ty x)
    {g : Nat} (hx : a.eval x = .pointer (some ⟨g, 0, none⟩)) {t : TypeId} {cs : List Value} (hg : Row w g t cs) {n : Nat} {e : TypeId} (hu : P.underlying ty = some (.array n e)) (hi : (P.info? ty).map (·.size) = some cs.length)
    (h : wpList P ops Q rest (a.put o.dst (.agg cs.toArray)) w) : wpList P ops Q (o :: rest) a w :=
  wpList_load_mid hgd ty x ho g 0 hx cs _ hg.range hu rfl hi h
theorem wpList_store_Row {P : Program} {ops : Array Oper} {rest : List Oper} {o : Oper} {a : Act} {w : World} {Q : Exit → Act → World → Prop} (hgd : o.guard = none) (ty : TypeId) (x y : Operand) (ho : o.op = .store ty x y)
    {g : Nat} (vs : List Value) (hx : a.eval x = .pointer (some ⟨g, 0, none⟩)) (hy : a.eval y = .agg vs.toArray) {t : TypeId} {cs : List Value} (hg : Row w g t cs) (hi : (P.info? ty).map (·.size) = some vs.length) (hl : vs.length = cs.length) (h1 : ∀ v ∈ vs, v.oneCell' = true)
    (h : wpList P ops Q rest (a.put o.dst undef) (w.setCells g 0 vs)) : wpList P ops Q (o :: rest) a w :=
  wpList_store_mid hgd ty x y ho g 0 vs.toArray hx hy (by simpa [hl] using hg.there) (by simpa using hi) (all_oneCell_toArray h1) h
theorem Row.sets_all {W : World} {b : Nat} {t : TypeId} {c vs : List Value} (h : Row W b t c) (hl : vs.length = c.length) : Row (W.setCells b 0 vs) b t vs := by
  have := Row.sets vs 0 h
  rwa [putAt_all c vs hl] at this
theorem results_Row {P : Program} {fn : Func} {p : Tmp} {ty : TypeId} (h : fn.results = #[.cell p ty]) {tmps : Array Value} {w : World} {g : Nat} {t : TypeId} {cs : List Value} (hp : tmps.getD p undef = .pointer (some ⟨g, 0, none⟩)) (hg : Row w g t cs)
    {n : Nat} {e : TypeId} (hu : P.underlying ty = some (.array n e)) (hi : (P.info? ty).map (·.size) = some cs.length) : (results fn tmps).run P w = .ok (.agg cs.toArray) w :=
  results_cell_row h tmps w g t cs.toArray (0, 0) _ hp hg hu rfl (by simpa using hi)

/-- Rows of noughts, written out. -/
theorem z64u32 : #[Value.int .u32 0, Value.int .u32 0, Value.int .u32 0, Value.int .u32 0, Value.int .u32 0, Value.int .u32 0, Value.int .u32 0, Value.int .u32 0, Value.int .u32 0, Value.int .u32 0, Value.int .u32 0, Value.int .u32 0, Value.int .u32 0, Value.int .u32 0, Value.int .u32 0, Value.int .u32 0, Value.int .u32 0, Value.int .u32 0, Value.int .u32 0, Value.int .u32 0, Value.int .u32 0, Value.int .u32 0, Value.int .u32 0, Value.int .u32 0, Value.int .u32 0, Value.int .u32 0, Value.int .u32 0, Value.int .u32 0, Value.int .u32 0, Value.int .u32 0, Value.int .u32 0, Value.int .u32 0, Value.int .u32 0, Value.int .u32 0, Value.int .u32 0, Value.int .u32 0, Value.int .u32 0, Value.int .u32 0, Value.int .u32 0, Value.int .u32 0, Value.int .u32 0, Value.int .u32 0, Value.int .u32 0, Value.int .u32 0, Value.int .u32 0, Value.int .u32 0, Value.int .u32 0, Value.int .u32 0, Value.int .u32 0, Value.int .u32 0, Value.int .u32 0, Value.int .u32 0, Value.int .u32 0, Value.int .u32 0, Value.int .u32 0, Value.int .u32 0, Value.int .u32 0, Value.int .u32 0, Value.int .u32 0, Value.int .u32 0, Value.int .u32 0, Value.int .u32 0, Value.int .u32 0, Value.int .u32 0] = (List.replicate 64 (Value.int .u32 0)).toArray := rfl
theorem z64u8 : #[Value.int .u8 0, Value.int .u8 0, Value.int .u8 0, Value.int .u8 0, Value.int .u8 0, Value.int .u8 0, Value.int .u8 0, Value.int .u8 0, Value.int .u8 0, Value.int .u8 0, Value.int .u8 0, Value.int .u8 0, Value.int .u8 0, Value.int .u8 0, Value.int .u8 0, Value.int .u8 0, Value.int .u8 0, Value.int .u8 0, Value.int .u8 0, Value.int .u8 0, Value.int .u8 0, Value.int .u8 0, Value.int .u8 0, Value.int .u8 0, Value.int .u8 0, Value.int .u8 0, Value.int .u8 0, Value.int .u8 0, Value.int .u8 0, Value.int .u8 0, Value.int .u8 0, Value.int .u8 0, Value.int .u8 0, Value.int .u8 0, Value.int .u8 0, Value.int .u8 0, Value.int .u8 0, Value.int .u8 0, Value.int .u8 0, Value.int .u8 0, Value.int .u8 0, Value.int .u8 0, Value.int .u8 0, Value.int .u8 0, Value.int .u8 0, Value.int .u8 0, Value.int .u8 0, Value.int .u8 0, Value.int .u8 0, Value.int .u8 0, Value.int .u8 0, Value.int .u8 0, Value.int .u8 0, Value.int .u8 0, Value.int .u8 0, Value.int .u8 0, Value.int .u8 0, Value.int .u8 0, Value.int .u8 0, Value.int .u8 0, Value.int .u8 0, Value.int .u8 0, Value.int .u8 0, Value.int .u8 0] = (List.replicate 64 (Value.int .u8 0)).toArray := rfl
theorem z32u8 : #[Value.int .u8 0, Value.int .u8 0, Value.int .u8 0, Value.int .u8 0, Value.int .u8 0, Value.int .u8 0, Value.int .u8 0, Value.int .u8 0, Value.int .u8 0, Value.int .u8 0, Value.int .u8 0, Value.int .u8 0, Value.int .u8 0, Value.int .u8 0, Value.int .u8 0, Value.int .u8 0, Value.int .u8 0, Value.int .u8 0, Value.int .u8 0, Value.int .u8 0, Value.int .u8 0, Value.int .u8 0, Value.int .u8 0, Value.int .u8 0, Value.int .u8 0, Value.int .u8 0, Value.int .u8 0, Value.int .u8 0, Value.int .u8 0, Value.int .u8 0, Value.int .u8 0, Value.int .u8 0] = (List.replicate 32 (Value.int .u8 0)).toArray := rfl
theorem z8u32 : #[Value.int .u32 0, Value.int .u32 0, Value.int .u32 0, Value.int .u32 0, Value.int .u32 0, Value.int .u32 0, Value.int .u32 0, Value.int .u32 0] = (List.replicate 8 (Value.int .u32 0)).toArray := rfl
end Go.Proofs.Ytlmfdifnkkdpfaa
