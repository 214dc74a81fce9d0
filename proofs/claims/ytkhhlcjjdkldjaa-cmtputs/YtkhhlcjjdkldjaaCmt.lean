/-
  A commit: as data, as cells, in memory; how a new variable that holds one comes about.
-/
import Derived.Test.YtkhhlcjjdkldjaaEqId
import Derived.Great.BuildSlice
namespace Go.Proofs.Ytkhhlcjjdkldjaa
open Go.RowKit

/-- A commit, its parents aside: their slice stands in the first cell. -/
structure Cmt where
  root : List Nat
  key : List Nat
  seq : Nat
  author : Nat
  text : ByteArray
def Cmt.ok (c : Cmt) : Prop := IsId c.root ∧ IsId c.key ∧ c.seq < 18446744073709551616 ∧ c.author < 4294967296
def zeros32 : List Nat := List.replicate 32 0
def noCmt : Cmt := ⟨zeros32, zeros32, 0, 0, ⟨#[]⟩⟩
theorem isId_zeros : IsId zeros32 := ⟨by simp [zeros32], fun z hz => by rw [List.eq_of_mem_replicate hz]; omega⟩
theorem noCmt_ok : noCmt.ok := ⟨isId_zeros, isId_zeros, by simp [noCmt], by simp [noCmt]⟩
/-- Its cells. -/
def cmtC (s : Value) (c : Cmt) : List Value := s :: (u8s c.root ++ (u8s c.key ++ [.int .u64 (c.seq : Nat), .int .u32 (c.author : Nat), .string c.text]))
theorem cmtC_length {s : Value} {c : Cmt} (h : c.ok) : (cmtC s c).length = 68 := by
  simp [cmtC, h.1.1, h.2.1.1]
theorem cmtC_one {s : Value} (hs : s.oneCell' = true) (c : Cmt) : ∀ v ∈ cmtC s c, v.oneCell' = true := by
  intro v hv
  simp only [cmtC, List.mem_append, List.mem_cons, List.not_mem_nil, or_false] at hv
  rcases hv with rfl | h | h | rfl | rfl | rfl
  · exact hs
  · exact u8s_one _ v h
  · exact u8s_one _ v h
  · rfl
  · rfl
  · rfl
theorem cmtC_par (s : Value) (c : Cmt) : (cmtC s c)[0]? = some s := rfl
theorem drop_app {α : Type} {a b : List α} {n m : Nat} (ha : a.length = n) (hm : n ≤ m) : (a ++ b).drop m = b.drop (m - n) := by
  rw [List.drop_append, List.drop_of_length_le (by omega), List.nil_append, ha]
theorem cmtC_root {s : Value} {c : Cmt} (h : c.ok) : ((cmtC s c).drop 1).take 32 = u8s c.root := by
  have l1 : (u8s c.root).length = 32 := by rw [u8s_length, h.1.1]
  show ((u8s c.root ++ _).drop 0).take 32 = _
  rw [List.drop_zero, List.take_append_of_le_length (by omega), List.take_of_length_le (by omega)]
theorem cmtC_key {s : Value} {c : Cmt} (h : c.ok) : ((cmtC s c).drop 33).take 32 = u8s c.key := by
  have l1 : (u8s c.root).length = 32 := by rw [u8s_length, h.1.1]
  have l2 : (u8s c.key).length = 32 := by rw [u8s_length, h.2.1.1]
  show ((u8s c.root ++ _).drop 32).take 32 = _
  rw [drop_app l1 (by omega)]
  show ((u8s c.key ++ _).drop 0).take 32 = _
  rw [List.drop_zero, List.take_append_of_le_length (by omega), List.take_of_length_le (by omega)]
theorem cmtC_tail {s : Value} {c : Cmt} (h : c.ok) (k : Nat) : (cmtC s c)[65 + k]? = ([.int .u64 (c.seq : Nat), .int .u32 (c.author : Nat), .string c.text] : List Value)[k]? := by
  have l1 : (u8s c.root).length = 32 := by rw [u8s_length, h.1.1]
  have l2 : (u8s c.key).length = 32 := by rw [u8s_length, h.2.1.1]
  rw [cmtC, show 65 + k = (64 + k) + 1 by omega, List.getElem?_cons_succ, List.getElem?_append_right (by omega), l1, List.getElem?_append_right (by omega), l2]
  congr 1
  omega
theorem cmtC_seq {s : Value} {c : Cmt} (h : c.ok) : (cmtC s c)[65]? = some (.int .u64 (c.seq : Nat)) := cmtC_tail h 0
theorem cmtC_author {s : Value} {c : Cmt} (h : c.ok) : (cmtC s c)[66]? = some (.int .u32 (c.author : Nat)) := cmtC_tail h 1
theorem cmtC_text {s : Value} {c : Cmt} (h : c.ok) : (cmtC s c)[67]? = some (.string c.text) := cmtC_tail h 2

theorem range_part {W : World} {b off o n : Nat} {cs xs : List Value} (h : W.rangeAt b off cs) (hx : (cs.drop o).take n = xs) : W.rangeAt b (off + o) xs := by
  intro j v hj
  rw [← hx] at hj
  have hjl : j < n := by
    rcases Nat.lt_or_ge j n with h | h
    · exact h
    · rw [List.getElem?_eq_none (by simp; omega)] at hj; cases hj
  rw [List.getElem?_take, if_pos hjl, List.getElem?_drop] at hj
  rw [show off + o + j = off + (o + j) by omega]
  exact h _ _ hj

theorem size29 : (Try.prog.info? 29).map (·.size) = some 68 := by kernel_rfl
theorem size29' {s : Value} {c : Cmt} (h : c.ok) : (Try.prog.info? 29).map (·.size) = some (cmtC s c).length := by rw [cmtC_length h]; exact size29
theorem size25 : (Try.prog.info? 25).map (·.size) = some 32 := by kernel_rfl
/-- A commit in a variable of its own: what its cells say. -/
structure CmtAt (W : World) (g : Nat) (s : Value) (c : Cmt) : Prop where
  ok : c.ok
  row : Row W g 29 (cmtC s c)
theorem CmtAt.below {A B : World} {n g : Nat} {s : Value} {c : Cmt} (h : CmtAt A g s c) (hb : Below n A B) (hn : g < n) : CmtAt B g s c := ⟨h.ok, h.row.below hb hn⟩
theorem CmtAt.later {A B : World} {g : Nat} {s : Value} {c : Cmt} (h : CmtAt A g s c) (hb : Below A.heap.size A B) : CmtAt B g s c := h.below hb h.row.lt
theorem CmtAt.par {W : World} {g : Nat} {s : Value} {c : Cmt} (h : CmtAt W g s c) : W.cell? ⟨g, 0, none⟩ = some s := h.row.cell (cmtC_par s c)
theorem CmtAt.seq {W : World} {g : Nat} {s : Value} {c : Cmt} (h : CmtAt W g s c) : W.cell? ⟨g, 65, none⟩ = some (.int .u64 (c.seq : Nat)) := h.row.cell (cmtC_seq h.ok)
theorem CmtAt.author {W : World} {g : Nat} {s : Value} {c : Cmt} (h : CmtAt W g s c) : W.cell? ⟨g, 66, none⟩ = some (.int .u32 (c.author : Nat)) := h.row.cell (cmtC_author h.ok)
theorem CmtAt.text {W : World} {g : Nat} {s : Value} {c : Cmt} (h : CmtAt W g s c) : W.cell? ⟨g, 67, none⟩ = some (.string c.text) := h.row.cell (cmtC_text h.ok)
theorem CmtAt.root {W : World} {g : Nat} {s : Value} {c : Cmt} (h : CmtAt W g s c) : W.rangeAt g 1 (u8s c.root) := by
  have := range_part h.row.range (cmtC_root h.ok)
  simpa using this
theorem CmtAt.key {W : World} {g : Nat} {s : Value} {c : Cmt} (h : CmtAt W g s c) : W.rangeAt g 33 (u8s c.key) := by
  have := range_part h.row.range (cmtC_key h.ok)
  simpa using this
theorem CmtAt.new (w : World) (s : Value) (c : Cmt) (h : c.ok) : CmtAt (w.alloc (.cells (cmtC s c).toArray 29)) w.heap.size s c := ⟨h, Row.new' w 29 (cmtC s c)⟩

theorem zero29_len : Try.zeroCells29.toList.length = 68 := by kernel_rfl
/-- A commit, stored into a new variable; loaded; one of its two arrays loaded. -/
theorem wpList_storeNew {ops : Array Oper} {rest : List Oper} {o : Oper} {a : Act} {w : World} {Q : Exit → Act → World → Prop} (hgd : o.guard = none) (x y : Operand) (ho : o.op = .store 29 x y) (s : Value) (hs : s.oneCell' = true) (c : Cmt) (hok : c.ok)
    (hx : a.eval x = .pointer (some ⟨w.heap.size, 0, none⟩)) (hy : a.eval y = .agg (cmtC s c).toArray)
    (h : ∀ W2, Below w.heap.size w W2 → CmtAt W2 w.heap.size s c → wpList Try.prog ops Q rest (a.put o.dst undef) W2) : wpList Try.prog ops Q (o :: rest) a (w.alloc (.cells Try.zeroCells29 29)) :=
  wpList_store_Row hgd 29 x y ho (cmtC s c) hx hy (Row.new w 29 Try.zeroCells29) (size29' hok) (by rw [cmtC_length hok, zero29_len]) (cmtC_one hs c)
    (h _ (below_setCells (Nat.le_refl _) _ _ ((Below.refl _ w).alloc (Nat.le_refl _) _)) ⟨hok, (Row.new w 29 Try.zeroCells29).sets_all (by rw [cmtC_length hok, zero29_len])⟩)
theorem wpList_loadCmt {ops : Array Oper} {rest : List Oper} {o : Oper} {a : Act} {w : World} {Q : Exit → Act → World → Prop} (hgd : o.guard = none) (x : Operand) (ho : o.op = .load 29 x) {b off : Nat} (hx : a.eval x = .pointer (some ⟨b, off, none⟩)) {s : Value} {c : Cmt} (hok : c.ok) (hr : w.rangeAt b off (cmtC s c))
    (h : wpList Try.prog ops Q rest (a.put o.dst (.agg (cmtC s c).toArray)) w) : wpList Try.prog ops Q (o :: rest) a w :=
  wpList_load_mid hgd 29 x ho b off hx (cmtC s c) _ hr Try.underlying29 rfl (size29' hok) h

theorem wpList_load_want {ops : Array Oper} {rest : List Oper} {o : Oper} {a : Act} {w : World} {Q : Exit → Act → World → Prop} (hw : Region.wanted o (yielded ops a.tmps) = true) (t : TypeId) (x : Operand) (ho : o.op = .load t x) (b off : Nat) (hx : a.eval x = .pointer (some ⟨b, off, none⟩)) (cs : List Value) {n : Nat} {e : TypeId} (hr : w.rangeAt b off cs)
    (hu : Try.prog.underlying t = some (.array n e)) (hi : (Try.prog.info? t).map (·.size) = some cs.length) (h : wpList Try.prog ops Q rest (a.put o.dst (.agg cs.toArray)) w) : wpList Try.prog ops Q (o :: rest) a w :=
  BigFrame.wpList_want hw fun _ hK => wp_load_mid t x ho b off hx cs _ hr hu rfl hi (hK _ _ h)
theorem size24' {x : List Nat} (h : IsId x) : (Try.prog.info? 24).map (·.size) = some (u8s x).length := by rw [u8s_length, h.1]; exact size24
theorem size25' {x : List Nat} (h : IsId x) : (Try.prog.info? 25).map (·.size) = some (u8s x).length := by rw [u8s_length, h.1]; exact size25
/-- Two keys, held for alike. -/
theorem equal_keys {x y : List Nat} (hx : IsId x) (hy : IsId y) (w : World) : (Op.equalIn 10000 25 (.agg (u8s x).toArray) (.agg (u8s y).toArray)).run Try.prog w = .ok (decide (x = y)) w := by
  cases hq : Try.prog.info? 5 with
  | none => have := size5; rw [hq] at this; simp at this
  | some i =>
    rw [run_equalIn_array w 9999 _ _ Try.underlying25 hq, show Try.prog.cellsOf 5 = 1 by kernel_rfl]
    rw [eqItems_two (by kernel_rfl) Try.underlying5 (u8s x) (u8s y) w _ (fun i hi => ?_), allAt_ids hx hy]
    have hi := List.mem_range.1 hi
    exact ⟨_, _, u8s_at (by rw [hx.1]; exact hi), u8s_at (by rw [hy.1]; exact hi)⟩

/-- A slice of commits: it has none, or it leads to cells of a block below n₀. -/
def IsCmts (n₀ : Nat) (W : World) (p : Option Addr) (len cap : Nat) (cs : List (Value × Cmt)) : Prop :=
  cs.length = len ∧ len ≤ cap ∧ cap ≤ 9223372036854775807 ∧ (∀ e ∈ cs, e.1.oneCell' = true ∧ e.2.ok) ∧ (len = 0 ∨ ∃ b off, p = some ⟨b, off, none⟩ ∧ b < n₀ ∧ ∀ i, i < len → W.rangeAt b (off + i * 68) (cmtC (cs.getD i (undef, noCmt)).1 (cs.getD i (undef, noCmt)).2))
theorem IsCmts.below {n₀ : Nat} {A B : World} (h : Below n₀ A B) {p : Option Addr} {len cap : Nat} {es : List (Value × Cmt)} : IsCmts n₀ A p len cap es → IsCmts n₀ B p len cap es
  | ⟨h1, h2, h3, h4, .inl e⟩ => ⟨h1, h2, h3, h4, .inl e⟩
  | ⟨h1, h2, h3, h4, .inr ⟨b, off, e, hb, hc⟩⟩ => ⟨h1, h2, h3, h4, .inr ⟨b, off, e, hb, fun i hi => rangeAt_below h hb (hc i hi)⟩⟩
theorem IsCmts.mono {n₀ n₁ : Nat} (h : n₀ ≤ n₁) {W : World} {p : Option Addr} {len cap : Nat} {es : List (Value × Cmt)} : IsCmts n₀ W p len cap es → IsCmts n₁ W p len cap es
  | ⟨h1, h2, h3, h4, .inl e⟩ => ⟨h1, h2, h3, h4, .inl e⟩
  | ⟨h1, h2, h3, h4, .inr ⟨b, off, e, hb, hc⟩⟩ => ⟨h1, h2, h3, h4, .inr ⟨b, off, e, Nat.lt_of_lt_of_le hb h, hc⟩⟩
theorem IsCmts.later {A B : World} (hb : Below A.heap.size A B) {p : Option Addr} {len cap : Nat} {es : List (Value × Cmt)} (h : IsCmts A.heap.size A p len cap es) : IsCmts B.heap.size B p len cap es := (h.below hb).mono hb.size
theorem cmt_mem {es : List (Value × Cmt)} {k : Nat} (hk : k < es.length) : es.getD k (undef, noCmt) ∈ es := by
  rw [List.getD_eq_getElem?_getD, List.getElem?_eq_getElem hk, Option.getD_some]
  exact List.getElem_mem hk
theorem cmt_take (es : List (Value × Cmt)) {k : Nat} (hk : k < es.length) : es.take (k + 1) = es.take k ++ [es.getD k (undef, noCmt)] := by
  rw [List.take_succ_eq_append_getElem hk, List.getD_eq_getElem?_getD, List.getElem?_eq_getElem hk, Option.getD_some]
theorem IsCmts.at {n₀ : Nat} {W : World} {p : Option Addr} {len cap : Nat} {es : List (Value × Cmt)} (h : IsCmts n₀ W p len cap es) {k : Nat} (hk : k < len) : ∃ b off, p = some ⟨b, off, none⟩ ∧ b < n₀ ∧ W.rangeAt b (off + k * 68) (cmtC (es.getD k (undef, noCmt)).1 (es.getD k (undef, noCmt)).2) ∧ (es.getD k (undef, noCmt)).1.oneCell' = true ∧ (es.getD k (undef, noCmt)).2.ok := by
  obtain ⟨h1, _, _, h4, h5⟩ := h
  rcases h5 with h | ⟨b, off, e, hb, hc⟩
  · omega
  · exact ⟨b, off, e, hb, hc k hk, h4 _ (cmt_mem (by omega))⟩
end Go.Proofs.Ytkhhlcjjdkldjaa
