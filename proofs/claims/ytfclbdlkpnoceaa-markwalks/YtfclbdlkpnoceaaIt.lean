/-
  Ids and objects, told one behind the other; ids and objects in variables of a round.
-/
import Derived.Test.YtfclbdlkpnoceaaNx2
import Derived.Test.YtfclbdlkpnoceaaKey
import Derived.Test.YtfclbdlkpnoceaaColl
namespace Go.Proofs.Ytfclbdlkpnoceaa
open Go.RowKit Go.Shelf Go.Maps
attribute [local go_sem] Oper.semAt_some

section
variable {F : Fence} {n : Nat} {ops : Array Oper} {rest : List Oper} {o : Oper} {a : Act} {w : World} {Q : Exit → Act → World → Prop}
theorem wpListIn_loadSt {P : Program} (hgd : o.guard = none) (ty : TypeId) (x : Operand) (ho : o.op = .load ty x)
    (g off : Nat) (hx : a.eval x = .pointer (some ⟨g, off, none⟩)) (cs : List Value) (hg : w.rangeAt g off cs) {d : TypeDesc} (hu : P.underlying ty = some d) (hd : d.isRow = true) (hi : (P.info? ty).map (·.size) = some cs.length)
    (h : wpListIn F n P ops Q rest (a.put o.dst (.agg cs.toArray)) w) : wpListIn F n P ops Q (o :: rest) a w := by
  refine wpListIn_plain hgd fun K hK => ?_
  unfold Oper.wpIn
  refine ⟨by simp [Oper.about, ho], ?_⟩
  rw [Oper.semAt_plain F _ _ (by rw [ho]; intro c hc; cases hc)]
  simp only [execOp, ho, hx, Instr.loadAt, Instr.sureAddr, Sem.run_bind, Sem.run_pure, Result.andThen_ok, run_loadVar_mid w g off ty cs _ hg hu hd hi]
  exact hK _ _ h
theorem id_len {x : List Nat} (hx : IsId x) : (u8s x).length = 32 := by rw [u8s_length]; exact hx.1
theorem size33' {x : List Nat} (hx : IsId x) : (Try.prog.info? 33).map (·.size) = some (u8s x).length := by rw [id_len hx]; exact size33
/-- An id, read. -/
theorem wpListIn_loadId (hgd : o.guard = none) (x : Operand) (ho : o.op = .load 33 x) {g off : Nat} (hx : a.eval x = .pointer (some ⟨g, off, none⟩)) {i : List Nat} (hi : IsId i) (hg : w.rangeAt g off (u8s i))
    (h : wpListIn F n Try.prog ops Q rest (a.put o.dst (idV i)) w) : wpListIn F n Try.prog ops Q (o :: rest) a w :=
  wpListIn_loadSt hgd 33 x ho g off hx (u8s i) hg Try.underlying33 rfl (size33' hi) h
/-- An id, stored into a new variable. -/
theorem wpListIn_storeId (hgd : o.guard = none) (x y : Operand) (ho : o.op = .store 33 x y) {i : List Nat} (hi : IsId i) (hx : a.eval x = .pointer (some ⟨w.heap.size, 0, none⟩)) (hy : a.eval y = idV i)
    (h : ∀ W2, Below w.heap.size w W2 → Row W2 w.heap.size 33 (u8s i) → wpListIn F n Try.prog ops Q rest (a.put o.dst undef) W2) : wpListIn F n Try.prog ops Q (o :: rest) a (w.alloc (.cells (List.replicate 32 (Value.int .u8 0)).toArray 33)) :=
  wpListIn_store_Row hgd 33 x y ho (u8s i) hx hy (Row.new' w 33 (List.replicate 32 (Value.int .u8 0))) (size33' hi) (by rw [id_len hi]; rfl) (u8s_one i)
    (h _ (below_setCells (Nat.le_refl _) _ _ ((Below.refl _ w).alloc (Nat.le_refl _) _)) ((Row.new' w 33 (List.replicate 32 (Value.int .u8 0))).sets_all (by rw [id_len hi]; rfl)))
theorem wpList_loadId (hgd : o.guard = none) (x : Operand) (ho : o.op = .load 33 x) {g off : Nat} (hx : a.eval x = .pointer (some ⟨g, off, none⟩)) {i : List Nat} (hi : IsId i) (hg : w.rangeAt g off (u8s i))
    (h : wpList Try.prog ops Q rest (a.put o.dst (idV i)) w) : wpList Try.prog ops Q (o :: rest) a w :=
  wpList_load_mid hgd 33 x ho g off hx (u8s i) _ hg Try.underlying33 rfl (size33' hi) h
theorem wpList_storeId (hgd : o.guard = none) (x y : Operand) (ho : o.op = .store 33 x y) {i : List Nat} (hi : IsId i) (hx : a.eval x = .pointer (some ⟨w.heap.size, 0, none⟩)) (hy : a.eval y = idV i)
    (h : ∀ W2, Below w.heap.size w W2 → Row W2 w.heap.size 33 (u8s i) → wpList Try.prog ops Q rest (a.put o.dst undef) W2) : wpList Try.prog ops Q (o :: rest) a (w.alloc (.cells (List.replicate 32 (Value.int .u8 0)).toArray 33)) :=
  wpList_store_Row hgd 33 x y ho (u8s i) hx hy (Row.new' w 33 (List.replicate 32 (Value.int .u8 0))) (size33' hi) (by rw [id_len hi]; rfl) (u8s_one i)
    (h _ (below_setCells (Nat.le_refl _) _ _ ((Below.refl _ w).alloc (Nat.le_refl _) _)) ((Row.new' w 33 (List.replicate 32 (Value.int .u8 0))).sets_all (by rw [id_len hi]; rfl)))
/-- An object, read; stored into a new variable. -/
theorem wpListIn_loadObj (hgd : o.guard = none) (x : Operand) (ho : o.op = .load 46 x) {g off : Nat} (hx : a.eval x = .pointer (some ⟨g, off, none⟩)) {e : O} (hok : e.ok) (hg : w.rangeAt g off (objC e))
    (h : wpListIn F n Try.prog ops Q rest (a.put o.dst (.agg (objC e).toArray)) w) : wpListIn F n Try.prog ops Q (o :: rest) a w :=
  wpListIn_loadSt hgd 46 x ho g off hx (objC e) hg Try.underlying46 rfl (size46' hok) h
theorem wpListIn_storeObj (hgd : o.guard = none) (x y : Operand) (ho : o.op = .store 46 x y) (e : O) (hok : e.ok) (hx : a.eval x = .pointer (some ⟨w.heap.size, 0, none⟩)) (hy : a.eval y = .agg (objC e).toArray)
    (h : ∀ W2, Below w.heap.size w W2 → ObjAt W2 w.heap.size e → wpListIn F n Try.prog ops Q rest (a.put o.dst undef) W2) : wpListIn F n Try.prog ops Q (o :: rest) a (w.alloc (.cells (objC noO).toArray 46)) :=
  wpListIn_store_Row hgd 46 x y ho (objC e) hx hy (Row.new' w 46 (objC noO)) (size46' hok) (by simp only [objC_length hok, objC_length noO_ok]) (objC_one e)
    (h _ (below_setCells (Nat.le_refl _) _ _ ((Below.refl _ w).alloc (Nat.le_refl _) _)) ⟨hok, (Row.new' w 46 (objC noO)).sets_all (by simp only [objC_length hok, objC_length noO_ok])⟩)
end
theorem ids_mem {ids : List (List Nat)} {k : Nat} (hk : k < ids.length) : ids.getD k [] ∈ ids := by
  rw [List.getD_eq_getElem?_getD, List.getElem?_eq_getElem hk, Option.getD_some]; exact List.getElem_mem hk
theorem ids_take (ids : List (List Nat)) {k : Nat} (hk : k < ids.length) : ids.take (k + 1) = ids.take k ++ [ids.getD k []] := by
  rw [List.take_succ_eq_append_getElem hk, List.getD_eq_getElem?_getD, List.getElem?_eq_getElem hk, Option.getD_some]
theorem ids_next (ids : List (List Nat)) {k : Nat} (hk : k < ids.length) : ids = ids.take k ++ ids.getD k [] :: ids.drop (k + 1) := by
  have h := (List.take_append_drop (k + 1) ids).symm
  rw [ids_take ids hk, List.append_assoc, List.singleton_append] at h
  exact h
theorem IsIds.at {n₀ : Nat} {W : World} {p : Option Addr} {len cap : Nat} {ids : List (List Nat)} (h : IsIds n₀ W p len cap ids) {k : Nat} (hk : k < len) : ∃ b off, p = some ⟨b, off, none⟩ ∧ b < n₀ ∧ W.rangeAt b (off + k * 32) (u8s (ids.getD k [])) ∧ IsId (ids.getD k []) := by
  obtain ⟨h1, _, _, h4, h5⟩ := h
  rcases h5 with h | ⟨b, off, e, hb, hc⟩
  · omega
  · exact ⟨b, off, e, hb, hc k hk, h4 _ (ids_mem (by omega))⟩
theorem IsIds.kpp {n₀ : Nat} {A B : World} {P : Nat → Obj → Prop} (h : KpP P A B) (hP : ∀ k c t fr, k < n₀ → P k (.cells c t fr)) {p : Option Addr} {len cap : Nat} {ids : List (List Nat)} (hI : IsIds n₀ A p len cap ids) : IsIds n₀ B p len cap ids :=
  hI.kept fun k _ _ _ hk hh => h k _ (hP k _ _ _ hk) hh

theorem values_any (q : Option Addr) (len c : Nat) (w : World) : Calls Try.prog 37 #[.slice q len c] w fun e w' => e = .returned (.func (.func 49) #[] #[.pointer (some ⟨w.heap.size, 0, none⟩)]) ∧ w' = w.alloc (.cells #[.slice q len c] 23) := by
  go_enter Try.func37, Try.ntmps37
  go_wp2
  go_ret
  exact ⟨rfl, rfl⟩

set_option maxRecDepth 100000 in
set_option maxHeartbeats 2000000 in
theorem values1_iter (n : Nat) (hn : 2 ≤ n) (l B n₀ : Nat) (q : Option Addr) (len c : Nat) (ids : List (List Nat)) (P : Nat → Obj → Prop) (W : World) (hlen : len ≤ 100000)
    (hB : Boxed W B 23 (.slice q len c)) (hI : IsIds n₀ W q len c ids) (hP : ∀ k c t fr, k < n₀ → P k (.cells c t fr)) :
    IterX Fence.wide n Try.prog 49 #[.pointer (some ⟨B, 0, none⟩)] (fun x : List Nat => #[idV x]) (fun x _ => IsId x) (KpP P) (fun pre x => ∃ post, ids = pre ++ x :: post) (fun xs => xs = ids) (fun _ => True) l W := by
  intro J Jx hJ hJx hY h0
  have h1 : 1 ≤ n := by omega
  have hfn : ∀ f, Fence.wide.fn f := fun _ => trivial
  have hc := hB.cell
  have HI : Hid (IsIds n₀ W q len c ids) := hI
  have HL : Hid (ids.length = len) := hI.1
  refine callsIn_of_wp Try.func49 rfl trivial ?_ rfl
  simp only [Try.ntmps49, List.size_toArray, List.length_cons, List.length_nil, Nat.reduceAdd, Nat.reduceSub, Array.replicate_succ, Array.replicate_zero, List.push_toArray, List.append_toArray, List.nil_append, List.cons_append]
  have hlc := hI.2.1
  have hcc := hI.2.2.1
  clear hB hI
  gi_wp2
  gi_loopw [7] (fun i wr => ∃ (k : Nat), k ≤ len ∧ i = .int .i64 k ∧ J (ids.take k) wr ∧ KpP P W wr) (fun i _ => len - (intOf i).toNat)
  case atStart => exact ⟨0, Nat.zero_le _, rfl, by simpa using h0, KpP.refl _ _⟩
  case round =>
    obtain ⟨k, hk, rfl, hj, hkp⟩ := hrel
    have HKp : Hid (KpP P W wr) := hkp
    by_cases hlt : k < len
    · have hki : (k : Int) < (len : Int) := by omega
      obtain ⟨b, off, rfl, hb, hr, hid⟩ := (HI.out.kpp hkp hP).at hlt
      have hkl : k < ids.length := by rw [HL.out]; exact hlt
      have HT : Hid (ids.take (k + 1) = ids.take k ++ [ids.getD k []]) := ids_take ids hkl
      have HNx : Hid (∃ post, ids = ids.take k ++ ids.getD k [] :: post) := ⟨_, ids_next ids hkl⟩
      have HR : Hid (wr.rangeAt b (off + k * 32) (u8s (ids.getD k []))) := hr
      have HY : Hid (∀ Y, Below wr.heap.size wr Y → YieldAt Fence.wide (n - 1) Try.prog l #[idV (ids.getD k [])] Y fun e W' => (e = .returned (.bool true) ∧ J (ids.take k ++ [ids.getD k []]) W' ∧ KpP P Y W') ∨ (e = .returned (.bool false) ∧ Jx (ids.take k ++ [ids.getD k []]) W' ∧ KpP P Y W')) := fun Y hb => hY _ _ Y (OwnFrom.grow hJ hj hb) hid HNx.out
      clear hY hj hkp hr
      generalize ids.getD k [] = x at *
      gi_wp2_with (first
        | ((with_reducible show wpListIn _ _ _ _ _ (Oper.mk _ (Op.load 33 (.tmp 9)) _ _ _ _ :: _) _ _); refine wpListIn_loadId rfl (.tmp 9) rfl rfl hid HR.out ?_; simp only [Act.put, List.setIfInBounds_toArray, List.set_cons_zero, List.set_cons_succ])
        | ((with_reducible show wpListIn _ _ _ _ _ (Oper.mk _ (Op.store 33 (.tmp 4) (.tmp 10)) _ _ _ _ :: _) _ _); rw [z32u8]; refine wpListIn_storeId rfl (.tmp 4) (.tmp 10) rfl hid rfl rfl (fun Y2 hb2 hR2 => ?_); have HR2 : Hid (Row Y2 wr.heap.size 33 (u8s x)) := hR2; clear hR2; obtain ⟨fn, tmps, assign, body, hy, hRd⟩ := HY.out Y2 hb2; simp only [Act.put])
        | ((with_reducible show wpListIn _ _ _ _ _ (Oper.mk _ (Op.load 33 (.tmp 4)) _ _ _ _ :: _) _ _); refine wpListIn_loadId rfl (.tmp 4) rfl rfl hid HR2.out.range ?_; simp only [Act.put, List.setIfInBounds_toArray, List.set_cons_zero, List.set_cons_succ]))
      refine RoundIn.mono hRd ?_
      rintro e W3 (⟨rfl, hJ3, hk3⟩ | ⟨rfl, hJ3, hk3⟩)
      · gi_wp2
        go_roundw
        case rel => exact ⟨k + 1, by omega, by go_num, by rw [HT.out]; exact hJ3, (HKp.out.trans (KpP.of_below hb2)).trans hk3⟩
        case measure => simp [intOf]; omega
      · gi_wp2
        refine bodyPost_ret (results_none rfl _ _ _) rfl ?_
        exact ⟨⟨_, rfl⟩, .inr ⟨_, trivial, hJ3⟩⟩
    · obtain rfl : k = len := by omega
      gi_wp2
      refine ⟨rfl, _, results_none rfl _ _ _, ?_⟩
      exact ⟨⟨_, rfl⟩, .inl ⟨_, rfl, by rw [List.take_of_length_le (by rw [HL.out]; exact Nat.le_refl _)] at hj; exact hj⟩⟩
end Go.Proofs.Ytfclbdlkpnoceaa
