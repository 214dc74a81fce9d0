/-
  Several texts in one: It, It2.
-/
import Derived.Test.YtfclbdlkpnoceaaNx2
import Derived.Test.YtfclbdlkpnoceaaKey
import Derived.Test.YtfclbdlkpnoceaaColl
/-
  Ids and objects, told one behind the other; ids and objects in variables of a round.
-/
namespace Go.Proofs.Ytfclbdlkpnoceaa
open Go.RowKit Go.Shelf Go.Maps
attribute [local go_sem] Oper.semAt_some

section
variable {F : Fence} {n : Nat} {ops : Array Oper} {rest : List Oper} {o : Oper} {a : Act} {w : World} {Q : Exit → Act → World → Prop}
theorem wpListIn_loadSt {P : Program} (hgd : o.guard = none) (ty : TypeId) (x : Operand) (ho : o.op = .load ty x)
    (g off : Nat) (hx : a.eval x = .pointer (some ⟨g, off, none⟩)) (cs : List Value) (hg : w.rangeAt g off cs) {d : TypeDesc} (hu : P.underlying ty = some d) (hd : d.isRow = true) (hi : (P.info? ty).map (·.size) = some cs.length)
    (h : wpListIn F n P ops Q rest (a.put o.dst (.agg cs.toArray)) w) : wpListIn F n P ops Q (o :: rest) a w := by
  refine wpListIn_plain hgd fun K hK => ?_
  unfold Oper.wpIn
  refine ⟨by simp [Oper.about, ho], ?_⟩
  rw [Oper.semAt_plain F _ _ (by rw [ho]; intro c hc; cases hc)]
  simp only [execOp, ho, hx, Instr.loadAt, Instr.sureAddr, Sem.run_bind, Sem.run_pure, Result.andThen_ok, run_loadVar_mid w g off ty cs _ hg hu hd hi]
  exact hK _ _ h
theorem id_len {x : List Nat} (hx : IsId x) : (u8s x).length = 32 := by rw [u8s_length]; exact hx.1
theorem size33' {x : List Nat} (hx : IsId x) : (Try.prog.info? 33).map (·.size) = some (u8s x).length := by rw [id_len hx]; exact size33
/-- An id, read. -/
theorem wpListIn_loadId (hgd : o.guard = none) (x : Operand) (ho : o.op = .load 33 x) {g off : Nat} (hx : a.eval x = .pointer (some ⟨g, off, none⟩)) {i : List Nat} (hi : IsId i) (hg : w.rangeAt g off (u8s i))
    (h : wpListIn F n Try.prog ops Q rest (a.put o.dst (idV i)) w) : wpListIn F n Try.prog ops Q (o :: rest) a w :=
  wpListIn_loadSt hgd 33 x ho g off hx (u8s i) hg Try.underlying33 rfl (size33' hi) h
/-- An id, stored into a new variable. -/
theorem wpListIn_storeId (hgd : o.guard = none) (x y : Operand) (ho : o.op = .store 33 x y) {i : List Nat} (hi : IsId i) (hx : a.eval x = .pointer (some ⟨w.heap.size, 0, none⟩)) (hy : a.eval y = idV i)
    (h : ∀ W2, Below w.heap.size w W2 → Row W2 w.heap.size 33 (u8s i) → wpListIn F n Try.prog ops Q rest (a.put o.dst undef) W2) : wpListIn F n Try.prog ops Q (o :: rest) a (w.alloc (.cells (List.replicate 32 (Value.int .u8 0)).toArray 33)) :=
  wpListIn_store_Row hgd 33 x y ho (u8s i) hx hy (Row.new' w 33 (List.replicate 32 (Value.int .u8 0))) (size33' hi) (by rw [id_len hi]; rfl) (u8s_one i)
    (h _ (below_setCells (Nat.le_refl _) _ _ ((Below.refl _ w).alloc (Nat.le_refl _) _)) ((Row.new' w 33 (List.replicate 32 (Value.int .u8 0))).sets_all (by rw [id_len hi]; rfl)))
theorem wpList_loadId (hgd : o.guard = none) (x : Operand) (ho : o.op = .load 33 x) {g off : Nat} (hx : a.eval x = .pointer (some ⟨g, off, none⟩)) {i : List Nat} (hi : IsId i) (hg : w.rangeAt g off (u8s i))
    (h : wpList Try.prog ops Q rest (a.put o.dst (idV i)) w) : wpList Try.prog ops Q (o :: rest) a w :=
  wpList_load_mid hgd 33 x ho g off hx (u8s i) _ hg Try.underlying33 rfl (size33' hi) h
theorem wpList_storeId (hgd : o.guard = none) (x y : Operand) (ho : o.op = .store 33 x y) {i : List Nat} (hi : IsId i) (hx : a.eval x = .pointer (some ⟨w.heap.size, 0, none⟩)) (hy : a.eval y = idV i)
    (h : ∀ W2, Below w.heap.size w W2 → Row W2 w.heap.size 33 (u8s i) → wpList Try.prog ops Q rest (a.put o.dst undef) W2) : wpList Try.prog ops Q (o :: rest) a (w.alloc (.cells (List.replicate 32 (Value.int .u8 0)).toArray 33)) :=
  wpList_store_Row hgd 33 x y ho (u8s i) hx hy (Row.new' w 33 (List.replicate 32 (Value.int .u8 0))) (size33' hi) (by rw [id_len hi]; rfl) (u8s_one i)
    (h _ (below_setCells (Nat.le_refl _) _ _ ((Below.refl _ w).alloc (Nat.le_refl _) _)) ((Row.new' w 33 (List.replicate 32 (Value.int .u8 0))).sets_all (by rw [id_len hi]; rfl)))
/-- An object, read; stored into a new variable. -/
theorem wpListIn_loadObj (hgd : o.guard = none) (x : Operand) (ho : o.op = .load 46 x) {g off : Nat} (hx : a.eval x = .pointer (some ⟨g, off, none⟩)) {e : O} (hok : e.ok) (hg : w.rangeAt g off (objC e))
    (h : wpListIn F n Try.prog ops Q rest (a.put o.dst (.agg (objC e).toArray)) w) : wpListIn F n Try.prog ops Q (o :: rest) a w :=
  wpListIn_loadSt hgd 46 x ho g off hx (objC e) hg Try.underlying46 rfl (size46' hok) h
theorem wpListIn_storeObj (hgd : o.guard = none) (x y : Operand) (ho : o.op = .store 46 x y) (e : O) (hok : e.ok) (hx : a.eval x = .pointer (some ⟨w.heap.size, 0, none⟩)) (hy : a.eval y = .agg (objC e).toArray)
    (h : ∀ W2, Below w.heap.size w W2 → ObjAt W2 w.heap.size e → wpListIn F n Try.prog ops Q rest (a.put o.dst undef) W2) : wpListIn F n Try.prog ops Q (o :: rest) a (w.alloc (.cells (objC noO).toArray 46)) :=
  wpListIn_store_Row hgd 46 x y ho (objC e) hx hy (Row.new' w 46 (objC noO)) (size46' hok) (by simp only [objC_length hok, objC_length noO_ok]) (objC_one e)
    (h _ (below_setCells (Nat.le_refl _) _ _ ((Below.refl _ w).alloc (Nat.le_refl _) _)) ⟨hok, (Row.new' w 46 (objC noO)).sets_all (by simp only [objC_length hok, objC_length noO_ok])⟩)
end
theorem ids_mem {ids : List (List Nat)} {k : Nat} (hk : k < ids.length) : ids.getD k [] ∈ ids := by
  rw [List.getD_eq_getElem?_getD, List.getElem?_eq_getElem hk, Option.getD_some]; exact List.getElem_mem hk
theorem ids_take (ids : List (List Nat)) {k : Nat} (hk : k < ids.length) : ids.take (k + 1) = ids.take k ++ [ids.getD k []] := by
  rw [List.take_succ_eq_append_getElem hk, List.getD_eq_getElem?_getD, List.getElem?_eq_getElem hk, Option.getD_some]
theorem ids_next (ids : List (List Nat)) {k : Nat} (hk : k < ids.length) : ids = ids.take k ++ ids.getD k [] :: ids.drop (k + 1) := by
  have h := (List.take_append_drop (k + 1) ids).symm
  rw [ids_take ids hk, List.append_assoc, List.singleton_append] at h
  exact h
theorem IsIds.at {n₀ : Nat} {W : World} {p : Option Addr} {len cap : Nat} {ids : List (List Nat)} (h : IsIds n₀ W p len cap ids) {k : Nat} (hk : k < len) : ∃ b off, p = some ⟨b, off, none⟩ ∧ b < n₀ ∧ W.rangeAt b (off + k * 32) (u8s (ids.getD k [])) ∧ IsId (ids.getD k []) := by
  obtain ⟨h1, _, _, h4, h5⟩ := h
  rcases h5 with h | ⟨b, off, e, hb, hc⟩
  · omega
  · exact ⟨b, off, e, hb, hc k hk, h4 _ (ids_mem (by omega))⟩
theorem IsIds.kpp {n₀ : Nat} {A B : World} {P : Nat → Obj → Prop} (h : KpP P A B) (hP : ∀ k c t fr, k < n₀ → P k (.cells c t fr)) {p : Option Addr} {len cap : Nat} {ids : List (List Nat)} (hI : IsIds n₀ A p len cap ids) : IsIds n₀ B p len cap ids :=
  hI.kept fun k _ _ _ hk hh => h k _ (hP k _ _ _ hk) hh

theorem values_any (q : Option Addr) (len c : Nat) (w : World) : Calls Try.prog 37 #[.slice q len c] w fun e w' => e = .returned (.func (.func 49) #[] #[.pointer (some ⟨w.heap.size, 0, none⟩)]) ∧ w' = w.alloc (.cells #[.slice q len c] 23) := by
  go_enter Try.func37, Try.ntmps37
  go_wp2
  go_ret
  exact ⟨rfl, rfl⟩

set_option maxRecDepth 100000 in
set_option maxHeartbeats 2000000 in
theorem values1_iter (n : Nat) (hn : 2 ≤ n) (l B n₀ : Nat) (q : Option Addr) (len c : Nat) (ids : List (List Nat)) (P : Nat → Obj → Prop) (W : World) (hlen : len ≤ 100000)
    (hB : Boxed W B 23 (.slice q len c)) (hI : IsIds n₀ W q len c ids) (hP : ∀ k c t fr, k < n₀ → P k (.cells c t fr)) :
    IterX Fence.wide n Try.prog 49 #[.pointer (some ⟨B, 0, none⟩)] (fun x : List Nat => #[idV x]) (fun x _ => IsId x) (KpP P) (fun pre x => ∃ post, ids = pre ++ x :: post) (fun xs => xs = ids) (fun _ => True) l W := by
  intro J Jx hJ hJx hY h0
  have h1 : 1 ≤ n := by omega
  have hfn : ∀ f, Fence.wide.fn f := fun _ => trivial
  have hc := hB.cell
  have HI : Hid (IsIds n₀ W q len c ids) := hI
  have HL : Hid (ids.length = len) := hI.1
  refine callsIn_of_wp Try.func49 rfl trivial ?_ rfl
  simp only [Try.ntmps49, List.size_toArray, List.length_cons, List.length_nil, Nat.reduceAdd, Nat.reduceSub, Array.replicate_succ, Array.replicate_zero, List.push_toArray, List.append_toArray, List.nil_append, List.cons_append]
  have hlc := hI.2.1
  have hcc := hI.2.2.1
  clear hB hI
  gi_wp2
  gi_loopw [7] (fun i wr => ∃ (k : Nat), k ≤ len ∧ i = .int .i64 k ∧ J (ids.take k) wr ∧ KpP P W wr) (fun i _ => len - (intOf i).toNat)
  case atStart => exact ⟨0, Nat.zero_le _, rfl, by simpa using h0, KpP.refl _ _⟩
  case round =>
    obtain ⟨k, hk, rfl, hj, hkp⟩ := hrel
    have HKp : Hid (KpP P W wr) := hkp
    by_cases hlt : k < len
    · have hki : (k : Int) < (len : Int) := by omega
      obtain ⟨b, off, rfl, hb, hr, hid⟩ := (HI.out.kpp hkp hP).at hlt
      have hkl : k < ids.length := by rw [HL.out]; exact hlt
      have HT : Hid (ids.take (k + 1) = ids.take k ++ [ids.getD k []]) := ids_take ids hkl
      have HNx : Hid (∃ post, ids = ids.take k ++ ids.getD k [] :: post) := ⟨_, ids_next ids hkl⟩
      have HR : Hid (wr.rangeAt b (off + k * 32) (u8s (ids.getD k []))) := hr
      have HY : Hid (∀ Y, Below wr.heap.size wr Y → YieldAt Fence.wide (n - 1) Try.prog l #[idV (ids.getD k [])] Y fun e W' => (e = .returned (.bool true) ∧ J (ids.take k ++ [ids.getD k []]) W' ∧ KpP P Y W') ∨ (e = .returned (.bool false) ∧ Jx (ids.take k ++ [ids.getD k []]) W' ∧ KpP P Y W')) := fun Y hb => hY _ _ Y (OwnFrom.grow hJ hj hb) hid HNx.out
      clear hY hj hkp hr
      generalize ids.getD k [] = x at *
      gi_wp2_with (first
        | ((with_reducible show wpListIn _ _ _ _ _ (Oper.mk _ (Op.load 33 (.tmp 9)) _ _ _ _ :: _) _ _); refine wpListIn_loadId rfl (.tmp 9) rfl rfl hid HR.out ?_; simp only [Act.put, List.setIfInBounds_toArray, List.set_cons_zero, List.set_cons_succ])
        | ((with_reducible show wpListIn _ _ _ _ _ (Oper.mk _ (Op.store 33 (.tmp 4) (.tmp 10)) _ _ _ _ :: _) _ _); rw [z32u8]; refine wpListIn_storeId rfl (.tmp 4) (.tmp 10) rfl hid rfl rfl (fun Y2 hb2 hR2 => ?_); have HR2 : Hid (Row Y2 wr.heap.size 33 (u8s x)) := hR2; clear hR2; obtain ⟨fn, tmps, assign, body, hy, hRd⟩ := HY.out Y2 hb2; simp only [Act.put])
        | ((with_reducible show wpListIn _ _ _ _ _ (Oper.mk _ (Op.load 33 (.tmp 4)) _ _ _ _ :: _) _ _); refine wpListIn_loadId rfl (.tmp 4) rfl rfl hid HR2.out.range ?_; simp only [Act.put, List.setIfInBounds_toArray, List.set_cons_zero, List.set_cons_succ]))
      refine RoundIn.mono hRd ?_
      rintro e W3 (⟨rfl, hJ3, hk3⟩ | ⟨rfl, hJ3, hk3⟩)
      · gi_wp2
        go_roundw
        case rel => exact ⟨k + 1, by omega, by go_num, by rw [HT.out]; exact hJ3, (HKp.out.trans (KpP.of_below hb2)).trans hk3⟩
        case measure => simp [intOf]; omega
      · gi_wp2
        refine bodyPost_ret (results_none rfl _ _ _) rfl ?_
        exact ⟨⟨_, rfl⟩, .inr ⟨_, trivial, hJ3⟩⟩
    · obtain rfl : k = len := by omega
      gi_wp2
      refine ⟨rfl, _, results_none rfl _ _ _, ?_⟩
      exact ⟨⟨_, rfl⟩, .inl ⟨_, rfl, by rw [List.take_of_length_le (by rw [HL.out]; exact Nat.le_refl _)] at hj; exact hj⟩⟩
end Go.Proofs.Ytfclbdlkpnoceaa
/-
  Objects told from the last to the first; the links of a level, told one behind the other.
-/
namespace Go.Proofs.Ytfclbdlkpnoceaa
open Go.RowKit Go.Shelf Go.Maps
attribute [local go_sem] Oper.semAt_some

theorem backward_any (q : Option Addr) (len c : Nat) (w : World) : Calls Try.prog 48 #[.slice q len c] w fun e w' => e = .returned (.func (.func 59) #[] #[.pointer (some ⟨w.heap.size, 0, none⟩)]) ∧ w' = w.alloc (.cells #[.slice q len c] 22) := by
  go_enter Try.func48, Try.ntmps48
  go_wp2
  go_ret
  exact ⟨rfl, rfl⟩
/-- What is told of an object at a place. -/
def bkV (l : List O) (i : Nat) : Array Value := #[.int .i64 i, .agg (objC (l.getD i noO)).toArray]
theorem cell_cells {A : World} {b i : Nat} {v : Value} (h : A.cell? ⟨b, i, none⟩ = some v) : ∃ c t fr, A.heap[b]? = some (.cells c t fr) := by
  unfold World.cell? at h
  cases ho : A.heap[b]? with
  | none => simp [ho] at h
  | some o => cases o with
    | cells c t fr => exact ⟨c, t, fr, rfl⟩
    | _ => simp [ho] at h
theorem IsObjs.kpp {n₀ : Nat} {A B : World} {P : Nat → Obj → Prop} (h : KpP P A B) (hP : ∀ k c t fr, k < n₀ → P k (.cells c t fr)) {p : Option Addr} {len cap : Nat} {l : List O} (hI : IsObjs n₀ A p len cap l) : IsObjs n₀ B p len cap l := by
  obtain ⟨h1, h2, h3, h4, h5, h6⟩ := hI
  refine ⟨h1, h2, h3, h4, fun o ho => (h5 o ho).kpp h hP, ?_⟩
  rcases h6 with h6 | ⟨b, off, e, hb, hc⟩
  · exact .inl h6
  · refine .inr ⟨b, off, e, hb, fun i hi j v hv => ?_⟩
    have h7 := hc i hi j v hv
    obtain ⟨c, t, fr, ho⟩ := cell_cells h7
    rw [cell_same (A := A) (B := B) (by rw [ho]; exact h b _ (hP b _ _ _ hb) ho)]
    exact h7

set_option maxRecDepth 100000 in
set_option maxHeartbeats 2000000 in
theorem backward1_iter (n : Nat) (hn : 2 ≤ n) (lp B n₀ : Nat) (q : Option Addr) (len c : Nat) (l : List O) (P : Nat → Obj → Prop) (W : World) (hlen : len ≤ 100000)
    (hB : Boxed W B 22 (.slice q len c)) (hPB : ∀ o, P B o) (hI : IsObjs n₀ W q len c l) (hP : ∀ k c t fr, k < n₀ → P k (.cells c t fr)) :
    IterX Fence.wide n Try.prog 59 #[.pointer (some ⟨B, 0, none⟩)] (bkV l) (fun i _ => (l.getD i noO).ok ∧ i < len) (KpP P) (fun pre i => pre.length + 1 + i = len) (fun xs => xs.length = len) (fun _ => True) lp W := by
  intro J Jx hJ hJx hY h0
  have h1 : 1 ≤ n := by omega
  have hfn : ∀ f, Fence.wide.fn f := fun _ => trivial
  have hc := hB.cell
  have HI : Hid (IsObjs n₀ W q len c l) := hI
  have HB : Hid (Boxed W B 22 (.slice q len c)) := hB
  refine callsIn_of_wp Try.func59 rfl trivial ?_ rfl
  simp only [Try.ntmps59, List.size_toArray, List.length_cons, List.length_nil, Nat.reduceAdd, Nat.reduceSub, Array.replicate_succ, Array.replicate_zero, List.push_toArray, List.append_toArray, List.nil_append, List.cons_append]
  have hlc := hI.2.1
  have hcc := hI.2.2.1
  clear hB hI
  gi_wp2
  gi_loopw [3] (fun i wr => ∃ (k : Nat) (pre : List Nat), k ≤ len ∧ i = .int .i64 ((k : Int) - 1) ∧ pre.length + k = len ∧ J pre wr ∧ KpP P W wr) (fun i _ => (intOf i + 1).toNat)
  case atStart => exact ⟨len, [], Nat.le_refl _, by simp, by simp, h0, KpP.refl _ _⟩
  case round =>
    obtain ⟨k, pre, hk, rfl, hpre, hj, hkp⟩ := hrel
    have HKp : Hid (KpP P W wr) := hkp
    have hcw : wr.cell? ⟨B, 0, none⟩ = some (.slice q len c) := by
      have : Boxed wr B 22 (.slice q len c) := hkp B _ (hPB _) HB.out
      exact this.cell
    by_cases hlt : 0 < k
    · obtain ⟨j, rfl⟩ : ∃ j, k = j + 1 := ⟨k - 1, by omega⟩
      have e0 : (((j + 1 : Nat) : Int) - 1) = (j : Int) := by omega
      rw [e0]
      have hki : (j : Int) < (len : Int) := by omega
      have hki0 : (0 : Int) ≤ (j : Int) := by omega
      obtain ⟨b, off, rfl, hb, hr, hok, hm⟩ := (HI.out.kpp hkp hP).at (show j < len by omega)
      have HR : Hid (wr.rangeAt b (off + j * 34) (objC (l.getD j noO))) := hr
      have HY : Hid (YieldAt Fence.wide (n - 1) Try.prog lp #[.int .i64 j, .agg (objC (l.getD j noO)).toArray] wr fun e W' => (e = .returned (.bool true) ∧ J (pre ++ [j]) W' ∧ KpP P wr W') ∨ (e = .returned (.bool false) ∧ Jx (pre ++ [j]) W' ∧ KpP P wr W')) := hY _ _ wr hj ⟨hok, by omega⟩ (by omega)
      clear hY hj hkp hr
      generalize l.getD j noO = x at *
      obtain ⟨fn, tmps, assign, body, hy, hRd⟩ := HY.out
      gi_wp2_with (first
        | ((with_reducible show wpListIn _ _ _ _ _ (Oper.mk _ (Op.load 46 (.tmp 15)) _ _ _ _ :: _) _ _); refine wpListIn_loadObj rfl (.tmp 15) rfl rfl hok HR.out ?_; simp only [Act.put, List.setIfInBounds_toArray, List.set_cons_zero, List.set_cons_succ]))
      refine RoundIn.mono hRd ?_
      rintro e W3 (⟨rfl, hJ3, hk3⟩ | ⟨rfl, hJ3, hk3⟩)
      · gi_wp2
        go_roundw
        case rel => exact ⟨j, _, by omega, by go_num, by simp; omega, hJ3, HKp.out.trans hk3⟩
        case measure => simp [intOf]
      · gi_wp2
        refine bodyPost_ret (results_none rfl _ _ _) rfl ?_
        exact ⟨⟨_, rfl⟩, .inr ⟨_, trivial, hJ3⟩⟩
    · obtain rfl : k = 0 := by omega
      have e0 : (((0 : Nat) : Int) - 1) = -1 := by omega
      rw [e0]
      gi_wp2
      refine ⟨rfl, _, results_none rfl _ _ _, ?_⟩
      exact ⟨⟨_, rfl⟩, .inl ⟨_, by omega, hj⟩⟩

theorem linked_any (Lm Mm : Nat) (q : Option Addr) (len c : Nat) (w : World) : Calls Try.prog 38 #[.agg #[.map (some Lm), .map (some Mm)], .slice q len c] w fun e w' =>
    e = .returned (.func (.func 50) #[] #[.pointer (some ⟨w.heap.size + 1, 0, none⟩), .pointer (some ⟨w.heap.size, 0, none⟩)]) ∧ w' = (w.alloc (.cells #[.map (some Lm), .map (some Mm)] 75)).alloc (.cells #[.slice q len c] 23) := by
  go_enter Try.func38, Try.ntmps38
  go_wp2
  go_ret
  exact ⟨rfl, rfl⟩
section
variable {F : Fence} {n : Nat} {ops : Array Oper} {rest : List Oper} {o : Oper} {a : Act} {w : World} {Q : Exit → Act → World → Prop} {b : Nat} {f : Value → Option Value}
theorem wpListIn_look (c : Bool) (hgd : o.guard = none) (m x : Operand) (t e : TypeId) (ho : o.op = Op.lookup t m x c) (ht : Try.prog.underlying t = some (.map 33 e)) {z : Value} (hz : (zeroValue e).run Try.prog w = .ok z w)
    (hm : a.eval m = .map (some b)) (h : MapAt Try.prog 33 w b f) {i : List Nat} (hx : a.eval x = idV i) (hi : IsId i) (V : Value) (hV : (if c then .tuple #[(f (idV i)).getD z, .bool (f (idV i)).isSome] else (f (idV i)).getD z) = V)
    (hK : wpListIn F n Try.prog ops Q rest (a.put o.dst V) w) : wpListIn F n Try.prog ops Q (o :: rest) a w := by
  refine wpListIn_plain hgd fun K hKK => ?_
  obtain ⟨kl, hkey⟩ := key_id hi
  have hrun := h.look c keyed33 ht hz hkey
  rw [hV] at hrun
  unfold Oper.wpIn
  refine ⟨by simp [Oper.about, ho], ?_⟩
  rw [Oper.semAt_plain F _ _ (by rw [ho]; intro c hc; cases hc)]
  simp only [execOp, ho, hm, hx, Sem.run_bind, Sem.run_pure, Result.andThen_ok, hrun]
  exact hKK _ _ hK
open Classical in
theorem wpListIn_mapStore (N : Nat) (hgd : o.guard = none) (m x v : Operand) (t e : TypeId) (ho : o.op = Op.mapUpdate t m x v) (ht : Try.prog.underlying t = some (.map 33 e))
    (hm : a.eval m = .map (some b)) (h : MapAt Try.prog 33 w b f) {val : Value} {i : List Nat} (hx : a.eval x = idV i) (hv : a.eval v = val) (hi : IsId i)
    (hK : ∀ w', MapAt Try.prog 33 w' b (fnPut f (idV i) val) → But b N w w' → wpListIn F n Try.prog ops Q rest (a.put o.dst undef) w') : wpListIn F n Try.prog ops Q (o :: rest) a w := by
  refine wpListIn_plain hgd fun K hKK => ?_
  obtain ⟨kl, hkey⟩ := key_id hi
  obtain ⟨w', hrun, r1, r2⟩ := h.store keyed33 ht val hkey N
  unfold Oper.wpIn
  refine ⟨by simp [Oper.about, ho], ?_⟩
  rw [Oper.semAt_plain F _ _ (by rw [ho]; intro c hc; cases hc)]
  simp only [execOp, ho, hm, hx, hv, Sem.run_bind, Sem.run_pure, Result.andThen_ok, hrun]
  exact hKK _ _ (hK w' r1 r2)
end
theorem zero23 (w : World) : (zeroValue 23).run Try.prog w = .ok (.slice none 0 0) w := by kernel_rfl
theorem zero58 (w : World) : (zeroValue 58).run Try.prog w = .ok (.agg #[]) w := by kernel_rfl
theorem linkedL_snoc (l : List O) (xs : List (List Nat)) (x : List Nat) : linkedL l (xs ++ [x]) = linkedL l xs ++ linksO l x := by simp [linkedL]

set_option maxRecDepth 100000 in
set_option maxHeartbeats 4000000 in
theorem linked1_iter (n : Nat) (hn : 2 ≤ n) (lp B1 B2 Lm Mm n₀ : Nat) (q : Option Addr) (len c : Nat) (lv : List (List Nat)) (l : List O) (P : Nat → Obj → Prop) (W : World) (hlen : len ≤ 100000)
    (hB : Boxed W B1 23 (.slice q len c)) (hB2 : Row W B2 75 [.map (some Lm), .map (some Mm)]) (hPB : ∀ o, P B2 o) (hPL : ∀ o, P Lm o) (hI : IsIds n₀ W q len c lv) (hM : MapAt Try.prog 33 W Lm (linkF l))
    (hl : ∀ o ∈ l, IsIds n₀ W o.q o.n o.c o.links) (hln : ∀ o ∈ l, o.n ≤ 100000) (hhas : ∀ x ∈ lv, hasO l x = true) (hP : ∀ k c t fr, k < n₀ → P k (.cells c t fr)) :
    IterX Fence.wide n Try.prog 50 #[.pointer (some ⟨B1, 0, none⟩), .pointer (some ⟨B2, 0, none⟩)] (fun x : List Nat => #[idV x]) (fun x _ => IsId x) (KpP P) (fun pre x => ∃ post, linkedL l lv = pre ++ x :: post) (fun xs => xs = linkedL l lv) (fun _ => True) lp W := by
  intro J Jx hJ hJx hY h0
  have h1 : 1 ≤ n := by omega
  have hfn : ∀ f, Fence.wide.fn f := fun _ => trivial
  have hc := hB.cell
  have HI : Hid (IsIds n₀ W q len c lv) := hI
  have HB2 : Hid (Row W B2 75 [.map (some Lm), .map (some Mm)]) := hB2
  have HM : Hid (MapAt Try.prog 33 W Lm (linkF l)) := hM
  have HL : Hid (lv.length = len) := hI.1
  refine callsIn_of_wp Try.func50 rfl trivial ?_ rfl
  simp only [Try.ntmps50, List.size_toArray, List.length_cons, List.length_nil, Nat.reduceAdd, Nat.reduceSub, Array.replicate_succ, Array.replicate_zero, List.push_toArray, List.append_toArray, List.nil_append, List.cons_append]
  have hlc := hI.2.1
  have hcc := hI.2.2.1
  clear hB hI hB2 hM
  gi_wp2
  gi_loopw [10] (fun i wr => ∃ (k : Nat), k ≤ len ∧ i = .int .i64 k ∧ J (linkedL l (lv.take k)) wr ∧ KpP P W wr) (fun i _ => len - (intOf i).toNat)
  case atStart => exact ⟨0, Nat.zero_le _, rfl, by simpa [linkedL] using h0, KpP.refl _ _⟩
  case round =>
    obtain ⟨k, hk, rfl, hj, hkp⟩ := hrel
    by_cases hlt : k < len
    · have hki : (k : Int) < (len : Int) := by omega
      obtain ⟨b, off, rfl, hb, hr, hid⟩ := (HI.out.kpp hkp hP).at hlt
      have hkl : k < lv.length := by rw [HL.out]; exact hlt
      have HT : Hid (linkedL l (lv.take (k + 1)) = linkedL l (lv.take k) ++ linksO l (lv.getD k [])) := by show _ = _; rw [ids_take lv hkl, linkedL_snoc]
      have HNx : Hid (linkedL l lv = linkedL l (lv.take k) ++ (linksO l (lv.getD k []) ++ linkedL l (lv.drop (k + 1)))) := (congrArg (linkedL l) (ids_next lv hkl)).trans (by simp only [linkedL, List.flatMap_append, List.flatMap_cons])
      have HR : Hid (wr.rangeAt b (off + k * 32) (u8s (lv.getD k []))) := hr
      obtain ⟨o, hol, _, hof, hoL⟩ := linkF_has (hhas _ (ids_mem hkl))
      rw [hoL] at HT HNx
      have HO : Hid (IsIds n₀ W o.q o.n o.c o.links) := hl o hol
      have hon := hln o hol
      obtain ⟨hol1, hol2, hol3, _, _⟩ := hl o hol
      have HF : Hid (linkF l (idV (lv.getD k [])) = some (.slice o.q o.n o.c)) := hof
      have HJ : Hid (J (linkedL l (lv.take k)) wr) := hj
      have HKp : Hid (KpP P W wr) := hkp
      have hBw : Row wr B2 75 [.map (some Lm), .map (some Mm)] := hkp B2 _ (hPB _) HB2.out
      have hMw : MapAt Try.prog 33 wr Lm (linkF l) := by
        obtain ⟨ob, hob⟩ : ∃ o, W.heap[Lm]? = some o := ⟨_, Array.getElem?_eq_getElem HM.out.lt⟩
        exact HM.out.kept (by rw [hob]; exact hkp Lm ob (hPL _) hob)
      obtain ⟨kl, hkl2⟩ := key_id hid
      have HKl : Hid (keyOf Try.prog 33 (idV (lv.getD k [])) = some kl) := hkl2
      have HBw : Hid (Row wr B2 75 [.map (some Lm), .map (some Mm)]) := hBw
      have HMw : Hid (MapAt Try.prog 33 wr Lm (linkF l)) := hMw
      clear hj hkp hr hof hoL hBw hMw hkl2 hkl
      generalize lv.getD k [] = x at *
      gi_wp2_with (first
        | ((with_reducible show wpListIn _ _ _ _ _ (Oper.mk _ (Op.load 33 (.tmp 12)) _ _ _ _ :: _) _ _); refine wpListIn_loadId rfl (.tmp 12) rfl rfl hid HR.out ?_; simp only [Act.put, List.setIfInBounds_toArray, List.set_cons_zero, List.set_cons_succ])
        | ((with_reducible show wpListIn _ _ _ _ _ (Oper.mk _ (Op.store 33 (.tmp 5) (.tmp 13)) _ _ _ _ :: _) _ _); rw [z32u8]; refine wpListIn_storeId rfl (.tmp 5) (.tmp 13) rfl hid rfl rfl (fun Y2 hb2 hR2 => ?_); have HR2 : Hid (Row Y2 wr.heap.size 33 (u8s x)) := hR2; clear hR2; have hcL := ((HBw.out.below hb2 HBw.out.lt).cell (i := 0) rfl); simp only [Act.put])
        | ((with_reducible show wpListIn _ _ _ _ _ (Oper.mk _ (Op.load 33 (.tmp 5)) _ _ _ _ :: _) _ _); refine wpListIn_loadId rfl (.tmp 5) rfl rfl hid HR2.out.range ?_; simp only [Act.put, List.setIfInBounds_toArray, List.set_cons_zero, List.set_cons_succ])
        | ((with_reducible show wpListIn _ _ _ _ _ (Oper.mk _ (Op.lookup 73 _ _ _) _ _ _ _ :: _) _ _); refine wpListIn_look false rfl (.tmp 15) (.tmp 16) 73 23 rfl Try.underlying73 (zero23 _) rfl (HMw.out.below hb2 HMw.out.lt) rfl hid (.slice o.q o.n o.c) (by rw [HF.out]; rfl) ?_; simp only [Act.put, List.setIfInBounds_toArray, List.set_cons_zero, List.set_cons_succ]))
      have HJ2 : Hid (J (linkedL l (lv.take k)) Y2) := OwnFrom.grow hJ HJ.out hb2
      have HK2 : Hid (KpP P W Y2) := HKp.out.trans (KpP.of_below hb2)
      have HI2 : Hid (o.links.length = o.n) := hol1
      clear HJ HKp HR2 hcL hol1
      generalize o.q = oq at *
      generalize o.n = on at *
      generalize o.c = oc at *
      generalize o.links = ol at *
      gi_loopw [19] (fun i wr => ∃ (k' : Nat), k' ≤ on ∧ i = .int .i64 k' ∧ J (linkedL l (lv.take k) ++ ol.take k') wr ∧ KpP P W wr) (fun i _ => on - (intOf i).toNat)
      case atStart => exact ⟨0, Nat.zero_le _, rfl, by rw [List.take_zero, List.append_nil]; exact HJ2.out, HK2.out⟩
      case round =>
        obtain ⟨k', hk', rfl, hj', hkp'⟩ := hrel
        by_cases hlt' : k' < on
        · have hki' : (k' : Int) < (on : Int) := by omega
          obtain ⟨b', off', rfl, hb', hr', hid'⟩ := (HO.out.kpp hkp' hP).at hlt'
          have hkl' : k' < ol.length := by rw [HI2.out]; exact hlt'
          have HT' : Hid (linkedL l (lv.take k) ++ ol.take (k' + 1) = (linkedL l (lv.take k) ++ ol.take k') ++ [ol.getD k' []]) := by show _ = _; rw [ids_take ol hkl', List.append_assoc]
          have HNx' : Hid (∃ post, linkedL l lv = (linkedL l (lv.take k) ++ ol.take k') ++ ol.getD k' [] :: post) := by
            refine ⟨ol.drop (k' + 1) ++ linkedL l (lv.drop (k + 1)), ?_⟩
            rw [HNx.out]
            conv => lhs; rw [ids_next ol hkl']
            simp only [List.append_assoc, List.cons_append]
          have HR' : Hid (wr.rangeAt b' (off' + k' * 32) (u8s (ol.getD k' []))) := hr'
          have HY : Hid (∀ Y, Below wr.heap.size wr Y → YieldAt Fence.wide (n - 1) Try.prog lp #[idV (ol.getD k' [])] Y fun e W' => (e = .returned (.bool true) ∧ J ((linkedL l (lv.take k) ++ ol.take k') ++ [ol.getD k' []]) W' ∧ KpP P Y W') ∨ (e = .returned (.bool false) ∧ Jx ((linkedL l (lv.take k) ++ ol.take k') ++ [ol.getD k' []]) W' ∧ KpP P Y W')) := fun Y hb => hY _ _ Y (OwnFrom.grow hJ hj' hb) hid' HNx'.out
          have HKp' : Hid (KpP P W wr) := hkp'
          clear hj' hkp' hr'
          generalize ol.getD k' [] = y at *
          gi_wp2_with (first
            | ((with_reducible show wpListIn _ _ _ _ _ (Oper.mk _ (Op.load 33 (.tmp 21)) _ _ _ _ :: _) _ _); refine wpListIn_loadId rfl (.tmp 21) rfl rfl hid' HR'.out ?_; simp only [Act.put, List.setIfInBounds_toArray, List.set_cons_zero, List.set_cons_succ])
            | ((with_reducible show wpListIn _ _ _ _ _ (Oper.mk _ (Op.store 33 (.tmp 7) (.tmp 22)) _ _ _ _ :: _) _ _); rw [z32u8]; refine wpListIn_storeId rfl (.tmp 7) (.tmp 22) rfl hid' rfl rfl (fun Y3 hb3 hR3 => ?_); have HR3 : Hid (Row Y3 wr.heap.size 33 (u8s y)) := hR3; clear hR3; obtain ⟨fn, tmps, assign, body, hy, hRd⟩ := HY.out Y3 hb3; simp only [Act.put])
            | ((with_reducible show wpListIn _ _ _ _ _ (Oper.mk _ (Op.load 33 (.tmp 7)) _ _ _ _ :: _) _ _); refine wpListIn_loadId rfl (.tmp 7) rfl rfl hid' HR3.out.range ?_; simp only [Act.put, List.setIfInBounds_toArray, List.set_cons_zero, List.set_cons_succ]))
          refine RoundIn.mono hRd ?_
          rintro e W3 (⟨rfl, hJ3, hk3⟩ | ⟨rfl, hJ3, hk3⟩)
          · gi_wp2
            go_roundw
            case rel => exact ⟨k' + 1, by omega, by go_num, by rw [HT'.out]; exact hJ3, (HKp'.out.trans (KpP.of_below hb3)).trans hk3⟩
            case measure => simp [intOf]; omega
          · gi_wp2
            refine bodyPost_ret (results_none rfl _ _ _) rfl ?_
            exact ⟨⟨_, rfl⟩, .inr ⟨_, trivial, hJ3⟩⟩
        · obtain rfl : k' = on := by omega
          gi_wp2
          go_roundw
          case rel => exact ⟨k + 1, by omega, by go_num, by have e : ol.take k' = ol := List.take_of_length_le (by rw [HI2.out]; exact Nat.le_refl _); rw [e] at hj'; rw [HT.out]; exact hj', hkp'⟩
          case measure => simp [intOf]; omega
    · obtain rfl : k = len := by omega
      gi_wp2
      refine ⟨rfl, _, results_none rfl _ _ _, ?_⟩
      exact ⟨⟨_, rfl⟩, .inl ⟨_, rfl, by rw [List.take_of_length_le (by rw [HL.out]; exact Nat.le_refl _)] at hj; exact hj⟩⟩
end Go.Proofs.Ytfclbdlkpnoceaa
