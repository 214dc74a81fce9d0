/-
  Messages told from the last to the first.
-/
import Derived.Test.YthdfhbbfbohojaaFa
import Derived.Test.YthdfhbbfbohojaaIns3
import Derived.Test.YthdfhbbfbohojaaNx2
namespace Go.Proofs.Ythdfhbbfbohojaa
open Go.RowKit Go.Shelf
attribute [local go_sem] Oper.semAt_some

section
variable {F : Fence} {n : Nat} {ops : Array Oper} {rest : List Oper} {o : Oper} {a : Act} {w : World} {Q : Exit → Act → World → Prop}
theorem wpListIn_loadSt {P : Program} (hgd : o.guard = none) (ty : TypeId) (x : Operand) (ho : o.op = .load ty x)
    (g off : Nat) (hx : a.eval x = .pointer (some ⟨g, off, none⟩)) (cs : List Value) (hg : w.rangeAt g off cs) {d : TypeDesc} (hu : P.underlying ty = some d) (hd : d.isRow = true) (hi : (P.info? ty).map (·.size) = some cs.length)
    (h : wpListIn F n P ops Q rest (a.put o.dst (.agg cs.toArray)) w) : wpListIn F n P ops Q (o :: rest) a w := by
  refine wpListIn_plain hgd fun K hK => ?_
  unfold Oper.wpIn
  refine ⟨by simp [Oper.about, ho], ?_⟩
  rw [Oper.semAt_plain F _ _ (by rw [ho]; intro c hc; cases hc)]
  simp only [execOp, ho, hx, Instr.loadAt, Instr.sureAddr, Sem.run_bind, Sem.run_pure, Result.andThen_ok, run_loadVar_mid w g off ty cs _ hg hu hd hi]
  exact hK _ _ h
end
theorem low_own {β : Type} {B : Nat} {I : β → World → Prop} (h : Low B I) (hB : ∀ s A, I s A → B ≤ A.heap.size) : OwnFrom B I := fun s A A' row hs hg hr => h s A A' hs ⟨hg.os, hg.tape, hg.output, hg.size, fun k hk => hg.block k (by have := hB s A hs; omega) (fun e => by have := (hr k e.symm).1; omega)⟩
theorem WaitAt.kpp {α : Type} {C : α → List Value} {t : TypeId} {A B : World} {p g : Nat} {v : Value} {ms : List α} {P : Nat → Obj → Prop} (h : WaitAt t C A p g v ms) (hk : KpP P A B) (hP : ∀ c u fr, P g (.cells c u fr)) : WaitAt t C B p g v ms := by
  obtain ⟨q, c, e, h⟩ := h
  refine ⟨q, c, e, h.imp id ?_⟩
  rintro ⟨o, cur, e, hr, h⟩
  exact ⟨o, cur, e, hk g _ (hP _ _ _) hr, h⟩
def noM : Msg := ⟨0, none, 0, 0, []⟩
theorem msg_get {ms : List Msg} {i : Nat} (h : i < ms.length) : ms[i]? = some (ms.getD i noM) := by
  rw [List.getD_eq_getElem?_getD, List.getElem?_eq_getElem h, Option.getD_some]
/-- What is told of a message at a place. -/
def bkV (ms : List Msg) (i : Nat) : Array Value := #[.int .i64 i, .agg (ms.getD i noM).cD.toArray]
theorem backward_any (q : Option Addr) (len c : Nat) (w : World) : Calls Try.prog 24 #[.slice q len c] w fun e w' => e = .returned (.func (.func 26) #[] #[.pointer (some ⟨w.heap.size, 0, none⟩)]) ∧ w' = w.alloc (.cells #[.slice q len c] 42) := by
  go_enter Try.func24, Try.ntmps24
  go_wp2
  go_ret
  exact ⟨rfl, rfl⟩

set_option maxRecDepth 100000 in
set_option maxHeartbeats 2000000 in
theorem backward1_iter (n : Nat) (hn : 2 ≤ n) (lp B : Nat) (q : Option Addr) (len c p g : Nat) (ms : List Msg) (hl : ms.length = len) (P : Nat → Obj → Prop) (W : World) (hlen : len ≤ 100000)
    (hB : Boxed W B 42 (.slice q len c)) (hPB : ∀ o, P B o) (hI : WaitAt 53 Msg.cD W p g (.slice q len c) ms) (hP : ∀ c t fr, P g (.cells c t fr)) :
    IterX Fence.wide n Try.prog 26 #[.pointer (some ⟨B, 0, none⟩)] (bkV ms) (fun i _ => i < len) (KpP P) (fun pre i => pre.length + 1 + i = len) (fun xs => xs.length = len) (fun _ => True) lp W := by
  intro J Jx hJ hJx hY h0
  have h1 : 1 ≤ n := by omega
  have hfn : ∀ f, Fence.wide.fn f := fun _ => trivial
  have hc := hB.cell
  have HI : Hid (WaitAt 53 Msg.cD W p g (.slice q len c) ms) := hI
  have HB : Hid (Boxed W B 42 (.slice q len c)) := hB
  have HL : Hid (ms.length = len) := hl
  refine callsIn_of_wp Try.func26 rfl trivial ?_ rfl
  simp only [Try.ntmps26, List.size_toArray, List.length_cons, List.length_nil, Nat.reduceAdd, Nat.reduceSub, Array.replicate_succ, Array.replicate_zero, List.push_toArray, List.append_toArray, List.nil_append, List.cons_append]
  clear hB hI hl
  gi_wp2
  gi_loopw [3] (fun i wr => ∃ (k : Nat) (pre : List Nat), k ≤ len ∧ i = .int .i64 ((k : Int) - 1) ∧ pre.length + k = len ∧ J pre wr ∧ KpP P W wr) (fun i _ => (intOf i + 1).toNat)
  case atStart => exact ⟨len, [], Nat.le_refl _, by simp, by simp, h0, KpP.refl _ _⟩
  case round =>
    obtain ⟨k, pre, hk, rfl, hpre, hj, hkp⟩ := hrel
    have HKp : Hid (KpP P W wr) := hkp
    have hcw : wr.cell? ⟨B, 0, none⟩ = some (.slice q len c) := by
      have : Boxed wr B 42 (.slice q len c) := hkp B _ (hPB _) HB.out
      exact this.cell
    by_cases hlt : 0 < k
    · obtain ⟨j, rfl⟩ : ∃ j, k = j + 1 := ⟨k - 1, by omega⟩
      have e0 : (((j + 1 : Nat) : Int) - 1) = (j : Int) := by omega
      rw [e0]
      have hki : (j : Int) < (len : Int) := by omega
      have hki0 : (0 : Int) ≤ (j : Int) := by omega
      obtain ⟨o, cur, rfl, hrow, _, hlc, hcc, hoc, hr⟩ := WaitAt.range encD (HI.out.kpp hkp hP) (msg_get (ms := ms) (show j < ms.length by rw [HL.out]; omega))
      have HR : Hid (wr.rangeAt g (o + j * 2) (ms.getD j noM).cD) := hr
      have HY : Hid (YieldAt Fence.wide (n - 1) Try.prog lp #[.int .i64 j, .agg (ms.getD j noM).cD.toArray] wr fun e W' => (e = .returned (.bool true) ∧ J (pre ++ [j]) W' ∧ KpP P wr W') ∨ (e = .returned (.bool false) ∧ Jx (pre ++ [j]) W' ∧ KpP P wr W')) := hY _ _ wr hj (by omega) (by omega)
      clear hY hj hkp hr hrow hoc
      have hsz : (Try.prog.info? 53).map (·.size) = some (ms.getD j noM).cD.length := size53
      generalize (ms.getD j noM).cD = x at *
      obtain ⟨fn, tmps, assign, body, hy, hRd⟩ := HY.out
      gi_wp2_with (first
        | ((with_reducible show wpListIn _ _ _ _ _ (Oper.mk _ (Op.load 53 (.tmp 15)) _ _ _ _ :: _) _ _); refine wpListIn_loadSt rfl 53 (.tmp 15) rfl g (o + j * 2) rfl x HR.out Try.underlying53 rfl hsz ?_; simp only [Act.put, List.setIfInBounds_toArray, List.set_cons_zero, List.set_cons_succ]))
      refine RoundIn.mono hRd ?_
      rintro e W3 (⟨rfl, hJ3, hk3⟩ | ⟨rfl, hJ3, hk3⟩)
      · gi_wp2
        go_roundw
        case rel => exact ⟨j, _, by omega, by go_num, by simp; omega, hJ3, HKp.out.trans hk3⟩
        case measure => simp [intOf]
      · gi_wp2
        refine bodyPost_ret (results_none rfl _ _ _) rfl ?_
        exact ⟨⟨_, rfl⟩, .inr ⟨_, trivial, hJ3⟩⟩
    · obtain rfl : k = 0 := by omega
      have e0 : (((0 : Nat) : Int) - 1) = -1 := by omega
      rw [e0]
      gi_wp2
      refine ⟨rfl, _, results_none rfl _ _ _, ?_⟩
      exact ⟨⟨_, rfl⟩, .inl ⟨_, by omega, hj⟩⟩
end Go.Proofs.Ythdfhbbfbohojaa
