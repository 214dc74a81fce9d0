/-
  Objects: as data, as cells, in memory; what is reached of them, level by level, on lists.
-/
import Derived.Test.YtfclbdlkpnoceaaCmp
import Derived.Test.YtfclbdlkpnoceaaRfIds
import Derived.Test.YtfclbdlkpnoceaaOps
import Derived.Great.BuildSlice
namespace Go.Proofs.Ytfclbdlkpnoceaa
open Go.RowKit

/-- An object, with the slice that its links lie in. -/
structure O where
  id : List Nat
  q : Option Addr
  n : Nat
  c : Nat
  links : List (List Nat)
  size : Int
def O.ok (o : O) : Prop := IsId o.id ∧ (-9223372036854775808 ≤ o.size ∧ o.size ≤ 9223372036854775807)
def zeros32 : List Nat := List.replicate 32 0
def noO : O := ⟨zeros32, none, 0, 0, [], 0⟩
theorem isId_zeros : IsId zeros32 := ⟨by simp [zeros32], fun z hz => by rw [List.eq_of_mem_replicate hz]; omega⟩
theorem noO_ok : noO.ok := ⟨isId_zeros, by simp [noO]⟩
/-- An object's cells. -/
def objC (o : O) : List Value := u8s o.id ++ [.slice o.q o.n o.c, .int .i64 o.size]
theorem objC_length {o : O} (h : o.ok) : (objC o).length = 34 := by simp [objC, u8s_length, h.1.1]
theorem objC_one (o : O) : ∀ v ∈ objC o, v.oneCell' = true := by
  intro v hv
  rcases List.mem_append.1 hv with h | h
  · exact u8s_one _ v h
  · simp at h
    rcases h with rfl | rfl <;> rfl
theorem objC_id {o : O} (h : o.ok) : ((objC o).drop 0).take 32 = u8s o.id := by
  rw [objC, List.drop_zero, List.take_append_of_le_length (by simp [u8s_length, h.1.1]), List.take_of_length_le (by simp [u8s_length, h.1.1])]
theorem objC_links {o : O} (h : o.ok) : (objC o)[32]? = some (.slice o.q o.n o.c) := by
  rw [objC, List.getElem?_append_right (by simp [u8s_length, h.1.1])]; simp [u8s_length, h.1.1]
theorem objC_size {o : O} (h : o.ok) : (objC o)[33]? = some (.int .i64 o.size) := by
  rw [objC, List.getElem?_append_right (by simp [u8s_length, h.1.1])]; simp [u8s_length, h.1.1]
theorem range_part {W : World} {b off o n : Nat} {cs xs : List Value} (h : W.rangeAt b off cs) (hx : (cs.drop o).take n = xs) : W.rangeAt b (off + o) xs := by
  intro j v hj
  rw [← hx] at hj
  have hjl : j < n := by
    rcases Nat.lt_or_ge j n with h | h
    · exact h
    · rw [List.getElem?_eq_none (by simp; omega)] at hj; cases hj
  rw [List.getElem?_take, if_pos hjl, List.getElem?_drop] at hj
  rw [show off + o + j = off + (o + j) by omega]
  exact h _ _ hj
theorem range_cell {W : World} {b off o : Nat} {cs : List Value} {v : Value} (h : W.rangeAt b off cs) (hx : cs[o]? = some v) : W.cell? ⟨b, off + o, none⟩ = some v := h o v hx

/-- A slice of objects: it has none, or it leads to cells of a block below n₀; so do their links. -/
def IsObjs (n₀ : Nat) (W : World) (p : Option Addr) (len cap : Nat) (l : List O) : Prop :=
  l.length = len ∧ len ≤ cap ∧ cap ≤ 9223372036854775807 ∧ (∀ o ∈ l, o.ok) ∧ (∀ o ∈ l, IsIds n₀ W o.q o.n o.c o.links) ∧ (len = 0 ∨ ∃ b off, p = some ⟨b, off, none⟩ ∧ b < n₀ ∧ ∀ i, i < len → W.rangeAt b (off + i * 34) (objC (l.getD i noO)))
theorem IsObjs.below {n₀ : Nat} {A B : World} (h : Below n₀ A B) {p : Option Addr} {len cap : Nat} {l : List O} : IsObjs n₀ A p len cap l → IsObjs n₀ B p len cap l
  | ⟨h1, h2, h3, h4, h6, .inl e⟩ => ⟨h1, h2, h3, h4, fun o ho => (h6 o ho).below h, .inl e⟩
  | ⟨h1, h2, h3, h4, h6, .inr ⟨b, off, e, hb, hc⟩⟩ => ⟨h1, h2, h3, h4, fun o ho => (h6 o ho).below h, .inr ⟨b, off, e, hb, fun i hi => rangeAt_below h hb (hc i hi)⟩⟩
theorem IsObjs.mono {n₀ n₁ : Nat} (h : n₀ ≤ n₁) {W : World} {p : Option Addr} {len cap : Nat} {l : List O} : IsObjs n₀ W p len cap l → IsObjs n₁ W p len cap l
  | ⟨h1, h2, h3, h4, h6, .inl e⟩ => ⟨h1, h2, h3, h4, fun o ho => (h6 o ho).mono h, .inl e⟩
  | ⟨h1, h2, h3, h4, h6, .inr ⟨b, off, e, hb, hc⟩⟩ => ⟨h1, h2, h3, h4, fun o ho => (h6 o ho).mono h, .inr ⟨b, off, e, Nat.lt_of_lt_of_le hb h, hc⟩⟩
theorem IsObjs.later {A B : World} (hb : Below A.heap.size A B) {p : Option Addr} {len cap : Nat} {l : List O} (h : IsObjs A.heap.size A p len cap l) : IsObjs B.heap.size B p len cap l := (h.below hb).mono hb.size
theorem obj_mem {l : List O} {k : Nat} (hk : k < l.length) : l.getD k noO ∈ l := by
  rw [List.getD_eq_getElem?_getD, List.getElem?_eq_getElem hk, Option.getD_some]
  exact List.getElem_mem hk
theorem obj_take (l : List O) {k : Nat} (hk : k < l.length) : l.take (k + 1) = l.take k ++ [l.getD k noO] := by
  rw [List.take_succ_eq_append_getElem hk, List.getD_eq_getElem?_getD, List.getElem?_eq_getElem hk, Option.getD_some]
theorem obj_drop (l : List O) {k : Nat} (hk : k < l.length) : l.drop k = l.getD k noO :: l.drop (k + 1) := by
  rw [List.drop_eq_getElem_cons hk, List.getD_eq_getElem?_getD, List.getElem?_eq_getElem hk, Option.getD_some]
theorem IsObjs.at {n₀ : Nat} {W : World} {p : Option Addr} {len cap : Nat} {l : List O} (h : IsObjs n₀ W p len cap l) {k : Nat} (hk : k < len) : ∃ b off, p = some ⟨b, off, none⟩ ∧ b < n₀ ∧ W.rangeAt b (off + k * 34) (objC (l.getD k noO)) ∧ (l.getD k noO).ok ∧ l.getD k noO ∈ l := by
  obtain ⟨h1, _, _, h4, _, h5⟩ := h
  rcases h5 with h | ⟨b, off, e, hb, hc⟩
  · omega
  · exact ⟨b, off, e, hb, hc k hk, h4 _ (obj_mem (by omega)), obj_mem (by omega)⟩

theorem info46 : (Try.prog.info? 46).map (fun i => (i.zero, i.size, i.bytes)) = some (some (.agg (objC noO).toArray), 34, 64) := by kernel_rfl
theorem size46 : (Try.prog.info? 46).map (·.size) = some 34 := by kernel_rfl
theorem size46' {o : O} (h : o.ok) : (Try.prog.info? 46).map (·.size) = some (objC o).length := by rw [objC_length h]; exact size46
/-- An object in a variable of its own: what its cells say. -/
structure ObjAt (W : World) (g : Nat) (o : O) : Prop where
  ok : o.ok
  row : Row W g 46 (objC o)
theorem ObjAt.below {A B : World} {n g : Nat} {o : O} (h : ObjAt A g o) (hb : Below n A B) (hn : g < n) : ObjAt B g o := ⟨h.ok, h.row.below hb hn⟩
theorem ObjAt.later {A B : World} {g : Nat} {o : O} (h : ObjAt A g o) (hb : Below A.heap.size A B) : ObjAt B g o := h.below hb h.row.lt
theorem ObjAt.links {W : World} {g : Nat} {o : O} (h : ObjAt W g o) : W.cell? ⟨g, 32, none⟩ = some (.slice o.q o.n o.c) := h.row.cell (objC_links h.ok)
theorem ObjAt.size {W : World} {g : Nat} {o : O} (h : ObjAt W g o) : W.cell? ⟨g, 33, none⟩ = some (.int .i64 o.size) := h.row.cell (objC_size h.ok)
theorem ObjAt.id {W : World} {g : Nat} {o : O} (h : ObjAt W g o) : W.rangeAt g 0 (u8s o.id) := by
  have := range_part h.row.range (objC_id h.ok)
  simpa using this
theorem ObjAt.new (w : World) (o : O) (h : o.ok) : ObjAt (w.alloc (.cells (objC o).toArray 46)) w.heap.size o := ⟨h, Row.new' w 46 (objC o)⟩

theorem zO : #[Value.int .u8 0, Value.int .u8 0, Value.int .u8 0, Value.int .u8 0, Value.int .u8 0, Value.int .u8 0, Value.int .u8 0, Value.int .u8 0, Value.int .u8 0, Value.int .u8 0, Value.int .u8 0, Value.int .u8 0, Value.int .u8 0, Value.int .u8 0, Value.int .u8 0, Value.int .u8 0, Value.int .u8 0, Value.int .u8 0, Value.int .u8 0, Value.int .u8 0, Value.int .u8 0, Value.int .u8 0, Value.int .u8 0, Value.int .u8 0, Value.int .u8 0, Value.int .u8 0, Value.int .u8 0, Value.int .u8 0, Value.int .u8 0, Value.int .u8 0, Value.int .u8 0, Value.int .u8 0, Value.slice none 0 0, Value.int .i64 0] = (objC noO).toArray := rfl
/-- An object, stored into a new variable. -/
theorem wpList_storeObj {ops : Array Oper} {rest : List Oper} {o : Oper} {a : Act} {w : World} {Q : Exit → Act → World → Prop} (hgd : o.guard = none) (x y : Operand) (ho : o.op = .store 46 x y) (e : O) (hok : e.ok)
    (hx : a.eval x = .pointer (some ⟨w.heap.size, 0, none⟩)) (hy : a.eval y = .agg (objC e).toArray)
    (h : ∀ W2, Below w.heap.size w W2 → ObjAt W2 w.heap.size e → wpList Try.prog ops Q rest (a.put o.dst undef) W2) : wpList Try.prog ops Q (o :: rest) a (w.alloc (.cells (objC noO).toArray 46)) :=
  wpList_store_Row hgd 46 x y ho (objC e) hx hy (Row.new w 46 (objC noO).toArray) (size46' hok) (by simp only [objC_length hok, objC_length noO_ok]) (objC_one e)
    (h _ (below_setCells (Nat.le_refl _) _ _ ((Below.refl _ w).alloc (Nat.le_refl _) _)) ⟨hok, (Row.new w 46 (objC noO).toArray).sets_all (by simp only [objC_length hok, objC_length noO_ok])⟩)
theorem wpList_loadObj {ops : Array Oper} {rest : List Oper} {o : Oper} {a : Act} {w : World} {Q : Exit → Act → World → Prop} (hgd : o.guard = none) (x : Operand) (ho : o.op = .load 46 x) {b off : Nat} (hx : a.eval x = .pointer (some ⟨b, off, none⟩)) {e : O} (hok : e.ok) (hr : w.rangeAt b off (objC e))
    (h : wpList Try.prog ops Q rest (a.put o.dst (.agg (objC e).toArray)) w) : wpList Try.prog ops Q (o :: rest) a w :=
  wpList_load_mid hgd 46 x ho b off hx (objC e) _ hr Try.underlying46 rfl (size46' hok) h

/-- A row of objects that is owned. -/
def OwnO (n₀ : Nat) (W : World) (v : Value) (l : List O) : Prop := W.ownsRow n₀ 46 34 v l.length (l.flatMap objC)
theorem OwnO.nil (n₀ : Nat) (W : World) : OwnO n₀ W (.slice none 0 0) [] := World.ownsRow_nil _ _ _ _
theorem OwnO.later {A B : World} (hb : Below A.heap.size A B) {n₀ : Nat} {v : Value} {l : List O} (h : OwnO n₀ A v l) : OwnO n₀ B v l := ownsRow_later hb h
theorem OwnO.mono {W : World} {n₀ n₁ : Nat} (hn : n₁ ≤ n₀) {v : Value} {l : List O} (h : OwnO n₀ W v l) : OwnO n₁ W v l := ownsRow_mono hn h
theorem OwnO.slice {W : World} {n₀ : Nat} {v : Value} {l : List O} (h : OwnO n₀ W v l) : ∃ q c, v = .slice q l.length c := slice_of_row h
theorem flatO_drop {l : List O} (h : ∀ x ∈ l, x.ok) : ∀ (k : Nat), k < l.length → ((l.flatMap objC).drop (k * 34)).take 34 = objC (l.getD k noO) := by
  induction l with
  | nil => intro k hk; simp at hk
  | cons a r ih =>
    intro k hk
    have ha := objC_length (h a (by simp))
    cases k with
    | zero => simp [List.take_append_of_le_length (show 34 ≤ (objC a).length by omega), List.take_of_length_le (show (objC a).length ≤ 34 by omega)]
    | succ k =>
      rw [List.flatMap_cons, show (k + 1) * 34 = (objC a).length + k * 34 by omega, List.drop_length_add_append]
      simpa using ih (fun x hx => h x (by simp [hx])) k (by simpa using hk)
/-- An owned row of objects, as it is read: its links given. -/
theorem OwnO.objs {W : World} {n₀ : Nat} {q : Option Addr} {len cap : Nat} {l : List O} (h : OwnO n₀ W (.slice q len cap) l) (hl : l.length = len) (hi : ∀ x ∈ l, x.ok) (hI : ∀ o ∈ l, IsIds W.heap.size W o.q o.n o.c o.links) : IsObjs W.heap.size W q len cap l := by
  unfold OwnO at h
  rw [hl] at h
  rcases h.2 with ⟨e, hz⟩ | ⟨g, c, cur, e, hg, hgg, hnc, hm, hs, ht⟩
  · cases e
    exact ⟨hl, Nat.le_refl _, by omega, hi, hI, .inl rfl⟩
  · cases e
    refine ⟨hl, hnc, by simpa only [maxLen] using hm, hi, hI, .inr ⟨g, 0, rfl, (Array.getElem?_eq_some_iff.1 hgg).1, fun i hil => ?_⟩⟩
    rw [Nat.zero_add, ← flatO_drop hi i (by omega)]
    have hrow : Row W g 46 cur.toList := by unfold Row; rw [Array.toArray_toList]; exact hgg
    exact hrow.mid ht (i * 34) 34 (by omega)
/-- An object, appended. -/
theorem run_append_obj (w : World) (base : Nat) (ty : TypeId) (v : Value) (l : List O) (hown : OwnO base w v l) (b : Nat) (x : O) (hx : x.ok) (hb : w.rangeAt b 0 (objC x)) (hlen : l.length ≤ 100000) (hbase : base ≤ w.heap.size) :
    ∃ v' w', (Builtin.append_ #[22, 22] ty #[v, .slice (some ⟨b, 0, none⟩) 1 1]).run Try.prog w = .ok v' w' ∧ OwnO base w' v' (l ++ [x]) ∧ w.grownBy w' v.ownBlock := by
  obtain ⟨i0, hi, hz0, hz1, hz2⟩ := info_parts info46
  obtain ⟨v', w', hr, ho, hg, _⟩ := run_append_own_at (P := Try.prog) w base 22 ty 46 i0 _ 34 64 Try.underlying22 hi hz0 hz1 hz2 (by simp only [Value.cells, List.size_toArray]; exact objC_length noO_ok) (by omega) v l.length (l.flatMap objC) hown ⟨b, 0, none⟩ 1 1 (objC x) (by rw [objC_length hx]) (fun j u hu => by
    have := hb j u hu
    rw [Addr.add_mid]; exact this) (objC_one _) (by simp only [maxLen]; omega) (by omega) hbase
  refine ⟨v', w', hr, ?_, hg⟩
  unfold OwnO
  rw [List.length_append, List.flatMap_append]
  simpa using ho
end Go.Proofs.Ytfclbdlkpnoceaa
