/-
  slices.Backward over what was asked: the last one first.
-/
import Derived.Test.YtobmcaknfbooiaaDoorLast
import Derived.Test.YtobmcaknfbooiaaDoorBucket
import Derived.Test.YtobmcaknfbooiaaDoorSoft
import Derived.Shelf.Abstract
namespace Go.Proofs.YtobmcaknfbooiaaDoor
open Go.RowKit Go.Shelf
attribute [local go_sem] Oper.semAt_some

/-- A struct from the middle of a row, in a fence. -/
theorem wpListIn_load_midS {F : Fence} {n : Nat} {P : Program} {ops : Array Oper} {rest : List Oper} {o : Oper} {a : Act} {w : World} {Q : Exit → Act → World → Prop} (hgd : o.guard = none) (ty : TypeId) (x : Operand) (ho : o.op = .load ty x)
    {g off : Nat} (hx : a.eval x = .pointer (some ⟨g, off, none⟩)) {cs : List Value} (hg : w.rangeAt g off cs) {d : TypeDesc} (hu : P.underlying ty = some d) (hd : d.isRow = true) (hi : (P.info? ty).map (·.size) = some cs.length)
    (h : wpListIn F n P ops Q rest (a.put o.dst (.agg cs.toArray)) w) : wpListIn F n P ops Q (o :: rest) a w := by
  refine wpListIn_plain hgd fun K hK => ?_
  unfold Oper.wpIn
  refine ⟨by simp [Oper.about, ho], ?_⟩
  rw [Oper.semAt_plain F _ _ (by rw [ho]; intro c hc; cases hc)]
  simp only [execOp, ho, hx, Instr.loadAt, Instr.sureAddr, Sem.run_bind, Sem.run_pure, Result.andThen_ok, run_loadVar_mid w g off ty cs d hg hu hd hi]
  exact hK _ _ h

/-- The places of a list, the last one first, as far as m of them are left. -/
def downL (n m : Nat) : List Nat := (List.range n).reverse.take (n - m)
theorem downL_all (n : Nat) : downL n 0 = (List.range n).reverse := by
  unfold downL
  rw [Nat.sub_zero, List.take_of_length_le (by simp)]
theorem downL_none (n : Nat) : downL n n = [] := by simp [downL]
theorem downL_step {n m : Nat} (h : m < n) : downL n (m + 1) ++ [m] = downL n m := by
  unfold downL
  have hi : n - (m + 1) < (List.range n).reverse.length := by simp; omega
  rw [show n - m = n - (m + 1) + 1 by omega, List.take_succ_eq_append_getElem hi]
  congr 1
  simp
  omega

set_option maxRecDepth 100000 in
set_option maxHeartbeats 2000000 in
/-- The function value that Backward hands back. -/
theorem back1_iter (nn : Nat) (hnn : 2 ≤ nn) (l B : Nat) (q : Option Addr) (cap : Nat) (xs : List (List Value)) (hx : AskedAll xs) (hlen : xs.length ≤ 100000) (W : World) (hB : Row W B 101 [.slice q xs.length cap]) (hown : AskOwn W (.slice q xs.length cap) xs)
    (M : Nat → Prop) (Kp : World → World → Prop) (hK1 : ∀ A B, Kp A B → ∀ (k : Nat) (c : Array Value) (t : TypeId) (fr : Nat × Nat), ¬ M k → A.heap[k]? = some (Obj.cells c t fr) → B.heap[k]? = some (Obj.cells c t fr))
    (hMB : ¬ M B) (hMq : ∀ b, (Value.slice q xs.length cap).ownBlock = some b → ¬ M b) :
    IterSoft Fence.wide nn Tryd.prog 75 #[.pointer (some ⟨B, 0, none⟩)] (fun i : Nat => #[.int .i64 (i : Nat), .agg (xs.getD i []).toArray]) (fun i _ => i < xs.length) Kp (fun ys => ys = (List.range xs.length).reverse) (fun pre => ∃ r, pre ++ r = (List.range xs.length).reverse) xs.length l W := by
  intro J Jx hJ hJx hY h0
  have hfn : ∀ f, Fence.wide.fn f := fun _ => trivial
  have cB := hB.cell (i := 0) rfl
  obtain ⟨n, hn⟩ : ∃ n, xs.length = n := ⟨_, rfl⟩
  rw [hn] at cB hlen
  have e1 : IntKind.i64.wrap ((n : Int) - 1) = (n : Int) - 1 := by rw [IntKind.wrap_i64]; omega
  refine callsIn_of_wp Tryd.func75 rfl trivial ?_ rfl
  simp only [Tryd.ntmps75, List.size_toArray, List.length_cons, List.length_nil, Nat.reduceAdd, Nat.reduceSub, Array.replicate_succ, Array.replicate_zero, List.push_toArray, List.append_toArray, List.nil_append, List.cons_append]
  gi_wp2
  have HX : Hid (∀ (j : Nat) (wr : World), (∀ b, (Value.slice q n cap).ownBlock = some b → wr.heap[b]? = W.heap[b]?) → j < n → ∃ g, q = some ⟨g, 0, none⟩ ∧ wr.rangeAt g (j * 34) (xs.getD j [])) := fun j wr hwr hj => by
    have ho : AskOwn wr (.slice q xs.length cap) xs := hown.keep (by rw [hn]; exact hwr)
    have hg : xs[j]? = some (xs.getD j []) := by simp [List.getElem?_eq_getElem (show j < xs.length by omega)]
    obtain ⟨_, g, h1, _, h2⟩ := ho.range hx hg
    exact ⟨g, h1, h2⟩
  have HQ : Hid (∀ b, (Value.slice q n cap).ownBlock = some b → ∃ c t fr, W.heap[b]? = some (Obj.cells c t fr)) := fun b hb => by
    rcases hown.2 with ⟨e, _⟩ | ⟨g', c', cur', e, _, hgg, _⟩
    · simp only [Value.slice.injEq] at e; obtain ⟨rfl, _, _⟩ := e; simp [Value.ownBlock] at hb
    · simp only [Value.slice.injEq] at e
      obtain ⟨rfl, _, _⟩ := e
      simp [Value.ownBlock] at hb
      subst hb
      exact ⟨_, _, _, hgg⟩
  have HL34 : Hid (∀ j, j < n → (xs.getD j []).length = 34) := fun j hj => hx.len _ (by
    have : xs.getD j [] = xs[j]'(by omega) := by simp [List.getElem?_eq_getElem (show j < xs.length by omega)]
    rw [this]; exact List.getElem_mem _)
  rw [hn] at hMq hY
  have HB : Hid (Row W B 101 [.slice q n cap]) := by rw [← hn]; exact hB
  clear hown hx hB cB
  gi_loopw [3] (fun r wr => ∃ m : Nat, m ≤ n ∧ r = .int .i64 ((m : Int) - 1) ∧ J (downL n m) wr ∧ Hid (Row wr B 101 [.slice q n cap]) ∧ Hid (∀ b, (Value.slice q n cap).ownBlock = some b → wr.heap[b]? = W.heap[b]?)) (fun r _ => (intOf r + 1).toNat)
  case atStart => exact ⟨n, Nat.le_refl _, rfl, by rw [downL_none]; exact h0, HB.out, fun _ _ => rfl⟩
  case round =>
    obtain ⟨m, hm, rfl, hJs, hBr, hqr⟩ := hrel
    cases m with
    | zero =>
      have hge : ¬ (0 : Int) ≤ ((0 : Nat) : Int) - 1 := by omega
      gi_wp2
      go_end0
      exact ⟨⟨_, rfl⟩, .inl (by rw [← downL_all]; exact hJs)⟩
    | succ m =>
      have ei : (((m + 1 : Nat) : Int) - 1) = (m : Int) := by omega
      rw [ei]
      have hge : (0 : Int) ≤ (m : Int) := by omega
      have hlt : (m : Int) < (n : Int) := by omega
      obtain ⟨g, rfl, hrg⟩ := HX.out m wr hqr.out (by omega)
      have hcB := hBr.out.cell (i := 0) rfl
      obtain ⟨fn, tmps, assign, body, hy, hR⟩ := hY (downL n (m + 1)) m wr hJs (by omega) (by simp [downL]; omega)
      rw [downL_step (by omega)] at hR
      have HRG : Hid (wr.rangeAt g (m * 34) (xs.getD m [])) := hrg
      have HSZ : Hid ((Tryd.prog.info? 72).map (·.size) = some (xs.getD m []).length) := by show _ = _; rw [HL34.out m (by omega)]; exact size72
      have e2 : IntKind.i64.wrap ((m : Int) - 1) = (m : Int) - 1 := by rw [IntKind.wrap_i64]; omega
      clear hrg hY HX
      generalize xs.getD m [] = c at *
      gi_wp2_with ((with_reducible show wpListIn _ _ _ _ _ (Oper.mk _ (Op.load 72 (.tmp 15)) _ _ _ _ :: _) _ _); refine wpListIn_load_midS rfl 72 (.tmp 15) rfl rfl HRG.out Tryd.underlying72 rfl HSZ.out ?_; simp only [Act.put, List.setIfInBounds_toArray, List.set_cons_zero, List.set_cons_succ])
      refine ⟨fun _ => by omega, hR.mono ?_⟩
      rintro e W3 (⟨rfl, hJ3, hk3⟩ | ⟨rfl, hJ3, hk3⟩)
      · have hB3 : Hid (Row W3 B 101 [.slice (some ⟨g, 0, none⟩) n cap]) := hK1 _ _ hk3 _ _ _ _ hMB hBr.out
        have hq3 : Hid (∀ b, (Value.slice (some ⟨g, 0, none⟩) n cap).ownBlock = some b → W3.heap[b]? = W.heap[b]?) := fun b hb => by
          obtain ⟨cc, tt, fr, hc⟩ := HQ.out b hb
          exact (hK1 _ _ hk3 b cc tt fr (hMq b hb) ((hqr.out b hb).trans hc)).trans hc.symm
        gi_wp2
        go_roundw
        case rel => exact ⟨m, by omega, rfl, hJ3, hB3.out, hq3.out⟩
        case measure => simp only [intOf]; omega
      · have HD : Hid (∃ r, downL n m ++ r = (List.range n).reverse) := ⟨_, List.take_append_drop _ _⟩
        gi_wp2
        refine bodyPost_ret (results_none rfl _ _ _) rfl ?_
        exact ⟨⟨_, rfl⟩, .inr ⟨_, by rw [hn]; exact HD.out, hJ3⟩⟩

/-- Backward: the list is boxed. -/
theorem back_any (q : Option Addr) (n cap : Nat) (w : World) : Calls Tryd.prog 63 #[.slice q n cap] w fun e w' => e = .returned (.func (.func 75) #[] #[.pointer (some ⟨w.heap.size, 0, none⟩)]) ∧ w' = w.alloc (.cells #[.slice q n cap] 101) := by
  go_enter Tryd.func63, Tryd.ntmps63
  go_wp2
  go_ret
  exact ⟨rfl, rfl⟩
/-- latest: what it is asked is boxed. -/
theorem latest_in (m D : Nat) (p : Option Addr) (n cap : Nat) (w : World) : CallsIn Fence.wide m Tryd.prog 46 #[.pointer (some ⟨D, 0, none⟩), .slice p n cap] w fun e w' => e = .returned (.func (.func 62) #[] #[.pointer (some ⟨w.heap.size, 0, none⟩), .pointer (some ⟨w.heap.size + 1, 0, none⟩)]) ∧ w' = (w.alloc (.cells #[.pointer (some ⟨D, 0, none⟩)] 51)).alloc (.cells #[.slice p n cap] 25) := by
  refine callsIn_of_wp Tryd.func46 rfl trivial ?_ rfl
  simp only [Tryd.ntmps46, List.size_toArray, List.length_cons, List.length_nil, Nat.reduceAdd, Nat.reduceSub, Array.replicate_succ, Array.replicate_zero, List.push_toArray, List.append_toArray, List.nil_append, List.cons_append]
  gi_wp2
  go_ret
  exact ⟨rfl, rfl⟩

end Go.Proofs.YtobmcaknfbooiaaDoor
