/-
  A variable that is written part by part: requests.
-/
import Derived.Test.YtedpgdldekkgdaaPutQ
import Derived.Test.YtedpgdldekkgdaaNextId
namespace Go.Proofs.Ytedpgdldekkgdaa
open Go.RowKit Go.Shelf

theorem cells_one {v : Value} (h : v.oneCell' = true) : v.cells = #[v] := by
  cases v <;> first | rfl | (simp [Value.oneCell'] at h)
/-- One cell of a variable, written. -/
theorem run_storeVar_one {P : Program} (w : World) (b o : Nat) (ty : TypeId) (v : Value) (ht : w.there b o 1) (hi : (P.info? ty).map (·.size) = some 1) (h1 : v.oneCell' = true) :
    (storeVar ty ⟨b, o, none⟩ v).run P w = .ok () (w.setCells b o [v]) := by
  have := run_storeCells_cells (P := P) b o [v] 0 w (fun j hj => by simpa using (ht j (by simpa using hj)).1) (fun j hj => by simpa using (ht j (by simpa using hj)).2) (fun u hu => by rw [List.mem_singleton.1 hu]; exact h1)
  cases hq : P.info? ty with
  | none => simp [hq] at hi
  | some i =>
    have hs : 1 = i.size := by simp [hq] at hi; omega
    simp only [Nat.add_zero] at this
    simp [storeVar, sizeOf, typeInfo, hq, cells_one h1, ← hs, this]
theorem Row.thereAt {W : World} {b : Nat} {t : TypeId} {c : List Value} (h : Row W b t c) {o n : Nat} (hn : o + n ≤ c.length) : W.there b o n := fun j hj => by
  exact ⟨by rw [h.cell (i := o + j) (List.getElem?_eq_getElem (by omega))]; rfl, h.frozen _⟩
/-- One cell of a row, or some, written. -/
theorem wpList_putOne {ops : Array Oper} {rest : List Oper} {o : Oper} {a : Act} {w : World} {Q : Exit → Act → World → Prop} (hgd : o.guard = none) (ty : TypeId) (x y : Operand) (ho : o.op = .store ty x y) {E f : Nat} (hx : a.eval x = .pointer (some ⟨E, f, none⟩)) (v : Value) (hy : a.eval y = v) (h1 : v.oneCell' = true) (hi : (Try.prog.info? ty).map (·.size) = some 1)
    {t : TypeId} {cs cs' : List Value} (hr : Row w E t cs) (hf : f + 1 ≤ cs.length) (he : putAt cs f [v] = cs')
    (h : ∀ W2, Row W2 E t cs' → But E w.heap.size w W2 → wpList Try.prog ops Q rest (a.put o.dst undef) W2) : wpList Try.prog ops Q (o :: rest) a w :=
  wpList_plain hgd fun _ hK => by
    unfold Oper.wp execOp
    simp only [ho, hx, hy, Instr.storeAt, Instr.sureAddr, Sem.run_bind, Sem.run_pure, Result.andThen_ok, run_storeVar_one w E f ty v (hr.thereAt hf) hi h1]
    have hr2 := Row.sets [v] f hr
    rw [he] at hr2
    exact hK _ _ (h _ hr2 (But.sets _ _ _))
theorem wpList_putArr {ops : Array Oper} {rest : List Oper} {o : Oper} {a : Act} {w : World} {Q : Exit → Act → World → Prop} (hgd : o.guard = none) (ty : TypeId) (x y : Operand) (ho : o.op = .store ty x y) {E f : Nat} (hx : a.eval x = .pointer (some ⟨E, f, none⟩)) (vs : List Value) (hy : a.eval y = .agg vs.toArray) (h1 : ∀ v ∈ vs, v.oneCell' = true) (hi : (Try.prog.info? ty).map (·.size) = some vs.length)
    {t : TypeId} {cs cs' : List Value} (hr : Row w E t cs) (hf : f + vs.length ≤ cs.length) (he : putAt cs f vs = cs')
    (h : ∀ W2, Row W2 E t cs' → But E w.heap.size w W2 → wpList Try.prog ops Q rest (a.put o.dst undef) W2) : wpList Try.prog ops Q (o :: rest) a w :=
  wpList_store_mid hgd ty x y ho E f vs.toArray hx hy (by simpa using hr.thereAt hf) (by simpa using hi) (all_oneCell_toArray h1) (by
    have hr2 := Row.sets vs f hr
    rw [he] at hr2
    exact h _ hr2 (But.sets _ _ _))

theorem putQ_seq (s : Value) (r : Req) (n : Nat) : putAt (reqC s r) 1 [.int .u64 (n : Nat)] = reqC s { r with seq := n } := rfl
theorem putQ_kind (s : Value) (r : Req) (n : Int) : putAt (reqC s r) 2 [.int .i64 n] = reqC s { r with kind := n } := rfl
theorem putQ_tenant (s : Value) (r : Req) (n : Nat) : putAt (reqC s r) 3 [.int .u32 (n : Nat)] = reqC s { r with tenant := n } := rfl
theorem putQ_name (s : Value) (r : Req) (n : ByteArray) : putAt (reqC s r) 4 [.string n] = reqC s { r with name := n } := rfl
theorem putQ_id {s : Value} {r : Req} (h : r.ok) {x : List Nat} (hx : IsId x) : putAt (reqC s r) 5 (u8s x) = reqC s { r with id := x } := by
  have l1 : (u8s r.id).length = 32 := by rw [u8s_length, h.id.1]
  have l2 : (u8s x).length = 32 := by rw [u8s_length, hx.1]
  rw [putAt_eq (u8s x) (reqC s r) 5 (by rw [reqC_length h, l2]; omega), l2]
  have : (reqC s r).drop (5 + 32) = u8s r.old ++ [.int .u64 (r.n : Nat), s] := by
    show (u8s r.id ++ _).drop 32 = _
    rw [drop_app l1 (by omega)]
    rfl
  rw [this]
  simp [reqC]
theorem putQ_old {s : Value} {r : Req} (h : r.ok) {x : List Nat} (hx : IsId x) : putAt (reqC s r) 37 (u8s x) = reqC s { r with old := x } := by
  have l1 : (u8s r.id).length = 32 := by rw [u8s_length, h.id.1]
  have l0 : (u8s r.old).length = 32 := by rw [u8s_length, h.old.1]
  have l2 : (u8s x).length = 32 := by rw [u8s_length, hx.1]
  rw [putAt_eq (u8s x) (reqC s r) 37 (by rw [reqC_length h, l2]; omega), l2]
  have h1 : (reqC s r).take 37 = .int .u32 (r.client : Nat) :: .int .u64 (r.seq : Nat) :: .int .i64 r.kind :: .int .u32 (r.tenant : Nat) :: .string r.name :: u8s r.id := by
    show (_ :: _ :: _ :: _ :: _ :: (u8s r.id ++ _)).take (32 + 1 + 1 + 1 + 1 + 1) = _
    simp only [List.take_succ_cons]
    rw [List.take_append_of_le_length (by omega), List.take_of_length_le (by omega)]
  have h2 : (reqC s r).drop (37 + 32) = [.int .u64 (r.n : Nat), s] := by
    show (u8s r.id ++ _).drop 64 = _
    rw [drop_app l1 (by omega)]
    show (u8s r.old ++ _).drop 32 = _
    rw [drop_app l0 (by omega)]
    rfl
  rw [h1, h2]
  simp [reqC]
theorem reqC_take69 {s : Value} {r : Req} (h : r.ok) : (reqC s r).take 69 = .int .u32 (r.client : Nat) :: .int .u64 (r.seq : Nat) :: .int .i64 r.kind :: .int .u32 (r.tenant : Nat) :: .string r.name :: (u8s r.id ++ u8s r.old) := by
  have l1 : (u8s r.id).length = 32 := by rw [u8s_length, h.id.1]
  have l0 : (u8s r.old).length = 32 := by rw [u8s_length, h.old.1]
  show (_ :: _ :: _ :: _ :: _ :: (u8s r.id ++ (u8s r.old ++ _))).take (64 + 1 + 1 + 1 + 1 + 1) = _
  simp only [List.take_succ_cons]
  rw [← List.append_assoc, List.take_append_of_le_length (by rw [List.length_append]; omega), List.take_of_length_le (by rw [List.length_append]; omega)]
theorem reqC_split {s : Value} {r : Req} (h : r.ok) : reqC s r = (reqC s r).take 69 ++ [.int .u64 (r.n : Nat), s] := by
  rw [reqC_take69 h]
  simp [reqC]
theorem putQ_n {s : Value} {r : Req} (h : r.ok) (n : Nat) : putAt (reqC s r) 69 [.int .u64 (n : Nat)] = reqC s { r with n := n } := by
  rw [putAt_eq _ (reqC s r) 69 (by rw [reqC_length h]; simp)]
  have : (reqC s r).drop (69 + 1) = [s] := by
    rw [reqC_split h, drop_app (n := 69) (by rw [List.length_take, reqC_length h]; rfl) (by omega)]
    rfl
  rw [List.length_singleton, this, reqC_take69 h]
  simp [reqC]
theorem putQ_body {s : Value} {r : Req} (h : r.ok) (v : Value) : putAt (reqC s r) 70 [v] = reqC v r := by
  rw [putAt_eq _ (reqC s r) 70 (by rw [reqC_length h]; simp)]
  have h1 : (reqC s r).take 70 = (reqC s r).take 69 ++ [.int .u64 (r.n : Nat)] := by
    have hl : ((reqC s r).take 69).length = 69 := by rw [List.length_take, reqC_length h]; rfl
    conv => lhs; rw [reqC_split h]
    rw [List.take_append, hl, List.take_of_length_le (by omega)]
    rfl
  have h2 : (reqC s r).drop (70 + 1) = [] := List.drop_of_length_le (by rw [reqC_length h]; omega)
  rw [List.length_singleton, h1, h2, reqC_take69 h]
  simp [reqC]
/-- While a request is read: the variable, the reader. -/
structure StQ (n₀ B E : Nat) (W : World) (S : Value) (r : Req) (st : Option (List Nat)) : Prop where
  ok : r.ok
  row : Row W E 28 (reqC S r)
  rd : RfAt n₀ W B st
theorem StQ.read {n₀ B E : Nat} {W W' : World} {S : Value} {r : Req} {st st' : Option (List Nat)} (h : StQ n₀ B E W S r st) (hB : B < E) (hf : RfAt n₀ W' B st') (hb : But B W.heap.size W W') : StQ n₀ B E W' S r st' :=
  ⟨h.ok, hb.row h.row.lt (by omega) h.row, hf⟩
theorem StQ.put {n₀ B E : Nat} {W W' : World} {S S' : Value} {r r' : Req} {st : Option (List Nat)} (h : StQ n₀ B E W S r st) (hB : B < E) (h0 : n₀ ≤ B) (hok : r'.ok) (hr : Row W' E 28 (reqC S' r')) (hb : But E W.heap.size W W') : StQ n₀ B E W' S' r' st :=
  ⟨hok, hr, h.rd.but hb (by omega) (by omega) (by have := h.row.lt; omega)⟩
theorem StQ.later {n₀ B E : Nat} {W W' : World} {S : Value} {r : Req} {st : Option (List Nat)} (h : StQ n₀ B E W S r st) (hB : n₀ ≤ B) (hb : Below W.heap.size W W') : StQ n₀ B E W' S r st :=
  ⟨h.ok, h.row.later hb, h.rd.later (by have := h.rd.lt; omega) hb⟩
theorem built28c (c : Nat) : Try.prog.built 28 [(0, .int .u32 (c : Nat))] = some (reqC (.slice none 0 0) { noReq with client := c }).toArray := by kernel_rfl
theorem readN1_one (r : List Nat) : readN 1 (some (1 :: r)) = (1, some r) := by
  have := readN_back (most := 1) (n := 1) r (by omega) (by omega)
  rwa [encN_small (by omega)] at this
theorem readN1_only {b : List Nat} (hz : ∀ z ∈ b, z < 256) (h : (readN 1 (some b)).1 = 1) : ∃ r, b = 1 :: r := by
  cases h2 : (readN 1 (some b)).2 with
  | none => have := readN_zero h2; omega
  | some r =>
    have := (readN_once (ahead_some hz) h2).1
    rw [h, encN_small (by omega)] at this
    exact ⟨r, Option.some.inj this⟩
theorem readN2_one (r : List Nat) : readN 2 (some (2 :: r)) = (2, some r) := by
  have := readN_back (most := 2) (n := 2) r (by omega) (by omega)
  rwa [encN_small (by omega)] at this
theorem readN2_only {b : List Nat} (hz : ∀ z ∈ b, z < 256) (h : (readN 2 (some b)).1 = 2) : ∃ r, b = 2 :: r := by
  cases h2 : (readN 2 (some b)).2 with
  | none => have := readN_zero h2; omega
  | some r =>
    have := (readN_once (ahead_some hz) h2).1
    rw [h, encN_small (by omega)] at this
    exact ⟨r, Option.some.inj this⟩
end Go.Proofs.Ytedpgdldekkgdaa
