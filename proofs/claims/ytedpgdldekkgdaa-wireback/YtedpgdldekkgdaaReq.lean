/-
  A request and a reply: as data, as cells, in memory; how a new variable that holds one comes about.
-/
import Derived.Test.YtedpgdldekkgdaaEqId
import Derived.Great.BuildSlice
namespace Go.Proofs.Ytedpgdldekkgdaa
open Go.RowKit

def zeros32 : List Nat := List.replicate 32 0
theorem isId_zeros : IsId zeros32 := ⟨by simp [zeros32], fun z hz => by rw [List.eq_of_mem_replicate hz]; omega⟩
theorem drop_app {α : Type} {a b : List α} {n m : Nat} (ha : a.length = n) (hm : n ≤ m) : (a ++ b).drop m = b.drop (m - n) := by
  rw [List.drop_append, List.drop_of_length_le (by omega), List.nil_append, ha]
theorem range_part {W : World} {b off o n : Nat} {cs xs : List Value} (h : W.rangeAt b off cs) (hx : (cs.drop o).take n = xs) : W.rangeAt b (off + o) xs := by
  intro j v hj
  rw [← hx] at hj
  have hjl : j < n := by
    rcases Nat.lt_or_ge j n with h | h
    · exact h
    · rw [List.getElem?_eq_none (by simp; omega)] at hj; cases hj
  rw [List.getElem?_take, if_pos hjl, List.getElem?_drop] at hj
  rw [show off + o + j = off + (o + j) by omega]
  exact h _ _ hj
theorem wpList_load_want {ops : Array Oper} {rest : List Oper} {o : Oper} {a : Act} {w : World} {Q : Exit → Act → World → Prop} (hw : Region.wanted o (yielded ops a.tmps) = true) (t : TypeId) (x : Operand) (ho : o.op = .load t x) (b off : Nat) (hx : a.eval x = .pointer (some ⟨b, off, none⟩)) (cs : List Value) {n : Nat} {e : TypeId} (hr : w.rangeAt b off cs)
    (hu : Try.prog.underlying t = some (.array n e)) (hi : (Try.prog.info? t).map (·.size) = some cs.length) (h : wpList Try.prog ops Q rest (a.put o.dst (.agg cs.toArray)) w) : wpList Try.prog ops Q (o :: rest) a w :=
  BigFrame.wpList_want hw fun _ hK => wp_load_mid t x ho b off hx cs _ hr hu rfl hi (hK _ _ h)
theorem size25' {x : List Nat} (h : IsId x) : (Try.prog.info? 25).map (·.size) = some (u8s x).length := by rw [u8s_length, h.1]; exact size25

/-- A request, its body aside: that slice stands in the last cell. -/
structure Req where
  client : Nat
  seq : Nat
  kind : Int
  tenant : Nat
  name : ByteArray
  id : List Nat
  old : List Nat
  n : Nat
structure Req.ok (r : Req) : Prop where
  client : r.client < 4294967296
  seq : r.seq < 18446744073709551616
  kind : -9223372036854775808 ≤ r.kind ∧ r.kind ≤ 9223372036854775807
  tenant : r.tenant < 4294967296
  id : IsId r.id
  old : IsId r.old
  n : r.n < 18446744073709551616
def noReq : Req := ⟨0, 0, 0, 0, ⟨#[]⟩, zeros32, zeros32, 0⟩
theorem noReq_ok : noReq.ok := ⟨by simp [noReq], by simp [noReq], by simp [noReq], by simp [noReq], isId_zeros, isId_zeros, by simp [noReq]⟩
def reqC (s : Value) (r : Req) : List Value := .int .u32 (r.client : Nat) :: .int .u64 (r.seq : Nat) :: .int .i64 r.kind :: .int .u32 (r.tenant : Nat) :: .string r.name :: (u8s r.id ++ (u8s r.old ++ [.int .u64 (r.n : Nat), s]))
theorem reqC_length {s : Value} {r : Req} (h : r.ok) : (reqC s r).length = 71 := by simp [reqC, h.id.1, h.old.1]
theorem reqC_one {s : Value} (hs : s.oneCell' = true) (r : Req) : ∀ v ∈ reqC s r, v.oneCell' = true := by
  intro v hv
  simp only [reqC, List.mem_append, List.mem_cons, List.not_mem_nil, or_false] at hv
  rcases hv with rfl | rfl | rfl | rfl | rfl | h | h | rfl | rfl
  · rfl
  · rfl
  · rfl
  · rfl
  · rfl
  · exact u8s_one _ v h
  · exact u8s_one _ v h
  · rfl
  · exact hs
theorem reqC_id {s : Value} {r : Req} (h : r.ok) : ((reqC s r).drop 5).take 32 = u8s r.id := by
  have l1 : (u8s r.id).length = 32 := by rw [u8s_length, h.id.1]
  show ((u8s r.id ++ _).drop 0).take 32 = _
  rw [List.drop_zero, List.take_append_of_le_length (by omega), List.take_of_length_le (by omega)]
theorem reqC_old {s : Value} {r : Req} (h : r.ok) : ((reqC s r).drop 37).take 32 = u8s r.old := by
  have l1 : (u8s r.id).length = 32 := by rw [u8s_length, h.id.1]
  have l2 : (u8s r.old).length = 32 := by rw [u8s_length, h.old.1]
  show ((u8s r.id ++ _).drop 32).take 32 = _
  rw [drop_app l1 (by omega)]
  show ((u8s r.old ++ _).drop 0).take 32 = _
  rw [List.drop_zero, List.take_append_of_le_length (by omega), List.take_of_length_le (by omega)]
theorem reqC_tail {s : Value} {r : Req} (h : r.ok) (k : Nat) : (reqC s r)[69 + k]? = ([.int .u64 (r.n : Nat), s] : List Value)[k]? := by
  have l1 : (u8s r.id).length = 32 := by rw [u8s_length, h.id.1]
  have l2 : (u8s r.old).length = 32 := by rw [u8s_length, h.old.1]
  rw [reqC, show 69 + k = (64 + k) + 1 + 1 + 1 + 1 + 1 by omega]
  simp only [List.getElem?_cons_succ]
  rw [List.getElem?_append_right (by omega), l1, List.getElem?_append_right (by omega), l2]
  congr 1
  omega
theorem size28 : (Try.prog.info? 28).map (·.size) = some 71 := by kernel_rfl
theorem size28' {s : Value} {r : Req} (h : r.ok) : (Try.prog.info? 28).map (·.size) = some (reqC s r).length := by rw [reqC_length h]; exact size28
/-- A request in a variable of its own. -/
structure ReqAt (W : World) (g : Nat) (s : Value) (r : Req) : Prop where
  ok : r.ok
  row : Row W g 28 (reqC s r)
theorem ReqAt.below {A B : World} {n g : Nat} {s : Value} {r : Req} (h : ReqAt A g s r) (hb : Below n A B) (hn : g < n) : ReqAt B g s r := ⟨h.ok, h.row.below hb hn⟩
theorem ReqAt.later {A B : World} {g : Nat} {s : Value} {r : Req} (h : ReqAt A g s r) (hb : Below A.heap.size A B) : ReqAt B g s r := h.below hb h.row.lt
theorem ReqAt.client {W : World} {g : Nat} {s : Value} {r : Req} (h : ReqAt W g s r) : W.cell? ⟨g, 0, none⟩ = some (.int .u32 (r.client : Nat)) := h.row.cell rfl
theorem ReqAt.seq {W : World} {g : Nat} {s : Value} {r : Req} (h : ReqAt W g s r) : W.cell? ⟨g, 1, none⟩ = some (.int .u64 (r.seq : Nat)) := h.row.cell rfl
theorem ReqAt.kind {W : World} {g : Nat} {s : Value} {r : Req} (h : ReqAt W g s r) : W.cell? ⟨g, 2, none⟩ = some (.int .i64 r.kind) := h.row.cell rfl
theorem ReqAt.tenant {W : World} {g : Nat} {s : Value} {r : Req} (h : ReqAt W g s r) : W.cell? ⟨g, 3, none⟩ = some (.int .u32 (r.tenant : Nat)) := h.row.cell rfl
theorem ReqAt.name {W : World} {g : Nat} {s : Value} {r : Req} (h : ReqAt W g s r) : W.cell? ⟨g, 4, none⟩ = some (.string r.name) := h.row.cell rfl
theorem ReqAt.id {W : World} {g : Nat} {s : Value} {r : Req} (h : ReqAt W g s r) : W.rangeAt g 5 (u8s r.id) := by
  have := range_part h.row.range (reqC_id h.ok)
  simpa using this
theorem ReqAt.old {W : World} {g : Nat} {s : Value} {r : Req} (h : ReqAt W g s r) : W.rangeAt g 37 (u8s r.old) := by
  have := range_part h.row.range (reqC_old h.ok)
  simpa using this
theorem ReqAt.n {W : World} {g : Nat} {s : Value} {r : Req} (h : ReqAt W g s r) : W.cell? ⟨g, 69, none⟩ = some (.int .u64 (r.n : Nat)) := h.row.cell (reqC_tail h.ok 0)
theorem ReqAt.body {W : World} {g : Nat} {s : Value} {r : Req} (h : ReqAt W g s r) : W.cell? ⟨g, 70, none⟩ = some s := h.row.cell (reqC_tail h.ok 1)
theorem ReqAt.new (w : World) (s : Value) (r : Req) (h : r.ok) : ReqAt (w.alloc (.cells (reqC s r).toArray 28)) w.heap.size s r := ⟨h, Row.new' w 28 (reqC s r)⟩
/-- A request of noughts: its cells. -/
def zc28 : Array Value := (reqC (.slice none 0 0) noReq).toArray
@[simp] theorem zeroValue28 (w : World) : (zeroValue 28).run Try.prog w = .ok (.agg zc28) w := by kernel_rfl
@[simp] theorem zc28_ne : zc28 ≠ #[] := by
  intro h
  have := congrArg Array.size h
  rw [zc28, List.size_toArray, reqC_length noReq_ok] at this
  simp at this
theorem zero28_len : zc28.toList.length = 71 := by rw [zc28]; exact reqC_length noReq_ok
theorem zero28 : zc28 = (reqC (.slice none 0 0) noReq).toArray := rfl
theorem wpList_storeReq {ops : Array Oper} {rest : List Oper} {o : Oper} {a : Act} {w : World} {Q : Exit → Act → World → Prop} (hgd : o.guard = none) (x y : Operand) (ho : o.op = .store 28 x y) (s : Value) (hs : s.oneCell' = true) (r : Req) (hok : r.ok)
    (hx : a.eval x = .pointer (some ⟨w.heap.size, 0, none⟩)) (hy : a.eval y = .agg (reqC s r).toArray)
    (h : ∀ W2, Below w.heap.size w W2 → ReqAt W2 w.heap.size s r → wpList Try.prog ops Q rest (a.put o.dst undef) W2) : wpList Try.prog ops Q (o :: rest) a (w.alloc (.cells zc28 28)) :=
  wpList_store_Row hgd 28 x y ho (reqC s r) hx hy (Row.new w 28 zc28) (size28' hok) (by rw [reqC_length hok, zero28_len]) (reqC_one hs r)
    (h _ (below_setCells (Nat.le_refl _) _ _ ((Below.refl _ w).alloc (Nat.le_refl _) _)) ⟨hok, (Row.new w 28 zc28).sets_all (by rw [reqC_length hok, zero28_len])⟩)
theorem wpList_loadReq {ops : Array Oper} {rest : List Oper} {o : Oper} {a : Act} {w : World} {Q : Exit → Act → World → Prop} (hgd : o.guard = none) (x : Operand) (ho : o.op = .load 28 x) {b off : Nat} (hx : a.eval x = .pointer (some ⟨b, off, none⟩)) {s : Value} {r : Req} (hok : r.ok) (hr : w.rangeAt b off (reqC s r))
    (h : wpList Try.prog ops Q rest (a.put o.dst (.agg (reqC s r).toArray)) w) : wpList Try.prog ops Q (o :: rest) a w :=
  wpList_load_mid hgd 28 x ho b off hx (reqC s r) _ hr Try.underlying28 rfl (size28' hok) h

/-- A reply, its body and its names aside: those slices stand in the last two cells. -/
structure Rep where
  client : Nat
  seq : Nat
  err : Int
  id : List Nat
  n : Nat
structure Rep.ok (r : Rep) : Prop where
  client : r.client < 4294967296
  seq : r.seq < 18446744073709551616
  err : -9223372036854775808 ≤ r.err ∧ r.err ≤ 9223372036854775807
  id : IsId r.id
  n : r.n < 18446744073709551616
def noRep : Rep := ⟨0, 0, 0, zeros32, 0⟩
theorem noRep_ok : noRep.ok := ⟨by simp [noRep], by simp [noRep], by simp [noRep], isId_zeros, by simp [noRep]⟩
def repC (s t : Value) (r : Rep) : List Value := .int .u32 (r.client : Nat) :: .int .u64 (r.seq : Nat) :: .int .i64 r.err :: (u8s r.id ++ [.int .u64 (r.n : Nat), s, t])
theorem repC_length {s t : Value} {r : Rep} (h : r.ok) : (repC s t r).length = 38 := by simp [repC, h.id.1]
theorem repC_one {s t : Value} (hs : s.oneCell' = true) (ht : t.oneCell' = true) (r : Rep) : ∀ v ∈ repC s t r, v.oneCell' = true := by
  intro v hv
  simp only [repC, List.mem_append, List.mem_cons, List.not_mem_nil, or_false] at hv
  rcases hv with rfl | rfl | rfl | h | rfl | rfl | rfl
  · rfl
  · rfl
  · rfl
  · exact u8s_one _ v h
  · rfl
  · exact hs
  · exact ht
theorem repC_id {s t : Value} {r : Rep} (h : r.ok) : ((repC s t r).drop 3).take 32 = u8s r.id := by
  have l1 : (u8s r.id).length = 32 := by rw [u8s_length, h.id.1]
  show ((u8s r.id ++ _).drop 0).take 32 = _
  rw [List.drop_zero, List.take_append_of_le_length (by omega), List.take_of_length_le (by omega)]
theorem repC_tail {s t : Value} {r : Rep} (h : r.ok) (k : Nat) : (repC s t r)[35 + k]? = ([.int .u64 (r.n : Nat), s, t] : List Value)[k]? := by
  have l1 : (u8s r.id).length = 32 := by rw [u8s_length, h.id.1]
  rw [repC, show 35 + k = (32 + k) + 1 + 1 + 1 by omega]
  simp only [List.getElem?_cons_succ]
  rw [List.getElem?_append_right (by omega), l1]
  congr 1
  omega
theorem size44 : (Try.prog.info? 44).map (·.size) = some 38 := by kernel_rfl
theorem size44' {s t : Value} {r : Rep} (h : r.ok) : (Try.prog.info? 44).map (·.size) = some (repC s t r).length := by rw [repC_length h]; exact size44
/-- A reply in a variable of its own. -/
structure RepAt (W : World) (g : Nat) (s t : Value) (r : Rep) : Prop where
  ok : r.ok
  row : Row W g 44 (repC s t r)
theorem RepAt.below {A B : World} {n g : Nat} {s t : Value} {r : Rep} (h : RepAt A g s t r) (hb : Below n A B) (hn : g < n) : RepAt B g s t r := ⟨h.ok, h.row.below hb hn⟩
theorem RepAt.later {A B : World} {g : Nat} {s t : Value} {r : Rep} (h : RepAt A g s t r) (hb : Below A.heap.size A B) : RepAt B g s t r := h.below hb h.row.lt
theorem RepAt.client {W : World} {g : Nat} {s t : Value} {r : Rep} (h : RepAt W g s t r) : W.cell? ⟨g, 0, none⟩ = some (.int .u32 (r.client : Nat)) := h.row.cell rfl
theorem RepAt.seq {W : World} {g : Nat} {s t : Value} {r : Rep} (h : RepAt W g s t r) : W.cell? ⟨g, 1, none⟩ = some (.int .u64 (r.seq : Nat)) := h.row.cell rfl
theorem RepAt.err {W : World} {g : Nat} {s t : Value} {r : Rep} (h : RepAt W g s t r) : W.cell? ⟨g, 2, none⟩ = some (.int .i64 r.err) := h.row.cell rfl
theorem RepAt.id {W : World} {g : Nat} {s t : Value} {r : Rep} (h : RepAt W g s t r) : W.rangeAt g 3 (u8s r.id) := by
  have := range_part h.row.range (repC_id h.ok)
  simpa using this
theorem RepAt.n {W : World} {g : Nat} {s t : Value} {r : Rep} (h : RepAt W g s t r) : W.cell? ⟨g, 35, none⟩ = some (.int .u64 (r.n : Nat)) := h.row.cell (repC_tail h.ok 0)
theorem RepAt.body {W : World} {g : Nat} {s t : Value} {r : Rep} (h : RepAt W g s t r) : W.cell? ⟨g, 36, none⟩ = some s := h.row.cell (repC_tail h.ok 1)
theorem RepAt.names {W : World} {g : Nat} {s t : Value} {r : Rep} (h : RepAt W g s t r) : W.cell? ⟨g, 37, none⟩ = some t := h.row.cell (repC_tail h.ok 2)
theorem RepAt.new (w : World) (s t : Value) (r : Rep) (h : r.ok) : RepAt (w.alloc (.cells (repC s t r).toArray 44)) w.heap.size s t r := ⟨h, Row.new' w 44 (repC s t r)⟩
/-- A reply of noughts: its cells. -/
@[reducible] def zc44 : Array Value := #[.int .u32 0, .int .u64 0, .int .i64 0, .int .u8 0, .int .u8 0, .int .u8 0, .int .u8 0, .int .u8 0, .int .u8 0, .int .u8 0, .int .u8 0, .int .u8 0, .int .u8 0, .int .u8 0, .int .u8 0, .int .u8 0, .int .u8 0, .int .u8 0, .int .u8 0, .int .u8 0, .int .u8 0, .int .u8 0, .int .u8 0, .int .u8 0, .int .u8 0, .int .u8 0, .int .u8 0, .int .u8 0, .int .u8 0, .int .u8 0, .int .u8 0, .int .u8 0, .int .u8 0, .int .u8 0, .int .u8 0, .int .u64 0, .slice none 0 0, .slice none 0 0]
theorem zero44_len : zc44.toList.length = 38 := by kernel_rfl
theorem zero44 : zc44 = (repC (.slice none 0 0) (.slice none 0 0) noRep).toArray := by kernel_rfl
theorem wpList_storeRep {ops : Array Oper} {rest : List Oper} {o : Oper} {a : Act} {w : World} {Q : Exit → Act → World → Prop} (hgd : o.guard = none) (x y : Operand) (ho : o.op = .store 44 x y) (s t : Value) (hs : s.oneCell' = true) (ht : t.oneCell' = true) (r : Rep) (hok : r.ok)
    (hx : a.eval x = .pointer (some ⟨w.heap.size, 0, none⟩)) (hy : a.eval y = .agg (repC s t r).toArray)
    (h : ∀ W2, Below w.heap.size w W2 → RepAt W2 w.heap.size s t r → wpList Try.prog ops Q rest (a.put o.dst undef) W2) : wpList Try.prog ops Q (o :: rest) a (w.alloc (.cells zc44 44)) :=
  wpList_store_Row hgd 44 x y ho (repC s t r) hx hy (Row.new w 44 zc44) (size44' hok) (by rw [repC_length hok, zero44_len]) (repC_one hs ht r)
    (h _ (below_setCells (Nat.le_refl _) _ _ ((Below.refl _ w).alloc (Nat.le_refl _) _)) ⟨hok, (Row.new w 44 zc44).sets_all (by rw [repC_length hok, zero44_len])⟩)
theorem wpList_loadRep {ops : Array Oper} {rest : List Oper} {o : Oper} {a : Act} {w : World} {Q : Exit → Act → World → Prop} (hgd : o.guard = none) (x : Operand) (ho : o.op = .load 44 x) {b off : Nat} (hx : a.eval x = .pointer (some ⟨b, off, none⟩)) {s t : Value} {r : Rep} (hok : r.ok) (hr : w.rangeAt b off (repC s t r))
    (h : wpList Try.prog ops Q rest (a.put o.dst (.agg (repC s t r).toArray)) w) : wpList Try.prog ops Q (o :: rest) a w :=
  wpList_load_mid hgd 44 x ho b off hx (repC s t r) _ hr Try.underlying44 rfl (size44' hok) h
end Go.Proofs.Ytedpgdldekkgdaa
