/-
  once: the ids of a sorted list, those that are alike as one, told to a loop whose rounds may grow a row of their own.
-/
import Derived.Test.YtfclbdlkpnoceaaNb2
import Derived.Test.YtfclbdlkpnoceaaEqId
import Derived.Test.YtfclbdlkpnoceaaNbX
namespace Go.Proofs.Ytfclbdlkpnoceaa
open Go.RowKit Go.Shelf
attribute [local go_sem] Oper.semAt_some

theorem IsIds.kept {n₀ : Nat} {A B : World} (h : ∀ (k : Nat) (c : Array Value) (t : TypeId) (fr : Nat × Nat), k < n₀ → A.heap[k]? = some (Obj.cells c t fr) → B.heap[k]? = some (Obj.cells c t fr)) {p : Option Addr} {len cap : Nat} {ids : List (List Nat)} :
    IsIds n₀ A p len cap ids → IsIds n₀ B p len cap ids
  | ⟨h1, h2, h3, h4, .inl e⟩ => ⟨h1, h2, h3, h4, .inl e⟩
  | ⟨h1, h2, h3, h4, .inr ⟨b, off, e, hb, hc⟩⟩ => ⟨h1, h2, h3, h4, .inr ⟨b, off, e, hb, fun i hi j v hv => by
      obtain ⟨c, t, fr, hh, hci⟩ := cells_of_cell (hc i hi j v hv)
      rw [cell_of_row B b _ c t fr (h b c t fr hb hh)]
      exact hci⟩⟩
theorem isIds_own {β : Type} (n₀ B : Nat) (p : Option Addr) (len cap : Nat) (ids : List (List Nat)) : OwnFrom B (fun (_ : β) W => IsIds n₀ W p len cap ids) := fun _ A A' row hs hg hr =>
  hs.kept (fun k c t fr _ hk => (hg.block k (Array.getElem?_eq_some_iff.1 hk).1 (fun e => by
    obtain ⟨_, o, ho, hc⟩ := hr k e.symm
    rw [hk] at ho; cases ho; cases hc)).trans hk)

theorem wpListIn_load_want {F : Fence} {n : Nat} {P : Program} {ops : Array Oper} {rest : List Oper} {o : Oper} {a : Act} {w : World} {Q : Exit → Act → World → Prop} (hw : Region.wanted o (yielded ops a.tmps) = true) (ty : TypeId) (x : Operand) (ho : o.op = .load ty x)
    {g : Nat} (hx : a.eval x = .pointer (some ⟨g, 0, none⟩)) {t : TypeId} {cs : List Value} (hg : Row w g t cs) {m : Nat} {e : TypeId} (hu : P.underlying ty = some (.array m e)) (hi : (P.info? ty).map (·.size) = some cs.length)
    (h : wpListIn F n P ops Q rest (a.put o.dst (.agg cs.toArray)) w) : wpListIn F n P ops Q (o :: rest) a w := by
  unfold wpListIn
  rw [if_pos hw]
  unfold Oper.wpIn
  refine ⟨by simp [Oper.about, ho], ?_⟩
  rw [Oper.semAt_plain F _ _ (by rw [ho]; intro c hc; cases hc)]
  simp only [execOp, ho, hx, Instr.loadAt, Instr.sureAddr, Sem.run_bind, Sem.run_pure, Result.andThen_ok, run_loadVar_mid w g 0 ty cs _ hg.range hu rfl hi]
  exact h

set_option maxHeartbeats 1000000 in
theorem once_any (p : Option Addr) (len cap : Nat) (w : World) :
    Calls Try.prog 44 #[.slice p len cap] w fun e w' => e = .returned (.func (.func 55) #[] #[.pointer (some ⟨w.heap.size, 0, none⟩)]) ∧ w' = w.alloc (.cells #[.slice p len cap] 23) := by
  go_enter Try.func44, Try.ntmps44
  go_wp2
  go_ret
  exact ⟨rfl, rfl⟩

/-- What a round of the loop that once is told to keeps. -/
def KpO (n₀ Bx n₂ : Nat) (A B : World) : Prop :=
  (∀ (k : Nat) (c : Array Value) (t : TypeId) (fr : Nat × Nat), A.heap[k]? = some (Obj.cells c t fr) → k < n₀ ∨ (t = 23 ∧ k ≠ Bx) ∨ t = 90 → B.heap[k]? = some (Obj.cells c t fr)) ∧ KeepsFrom n₂ A B
theorem KpO.boxed {n₀ Bx n₂ : Nat} {A B : World} (h : KpO n₀ Bx n₂ A B) {b : Nat} {t : TypeId} {v : Value} (hb : Boxed A b t v) (ht : (t = 23 ∧ b ≠ Bx) ∨ t = 90) : Boxed B b t v := h.1 b _ t _ hb (.inr ht)
theorem KpO.ids {n₀ Bx n₂ : Nat} {A B : World} (h : KpO n₀ Bx n₂ A B) {p : Option Addr} {len cap : Nat} {ids : List (List Nat)} (hI : IsIds n₀ A p len cap ids) : IsIds n₀ B p len cap ids := hI.kept (fun k c t fr hk hh => h.1 k c t fr hh (.inl hk))

set_option maxRecDepth 100000 in
set_option maxHeartbeats 4000000 in
theorem once1_iter (n : Nat) (hn : 5 ≤ n) (l Bs n₀ Bx n₂ : Nat) (b off len cap : Nat) (s : List (List Nat)) (hlen : len ≤ 100000) (hpos : 0 < len) (W : World) (hn₀ : n₀ ≤ W.heap.size) (hn₂ : n₂ ≤ W.heap.size) (hBs : Bs ≠ Bx) (hBx : Bx < W.heap.size) (hbS : Boxed W Bs 23 (.slice (some ⟨b, off, none⟩) len cap)) (hI : IsIds n₀ W (some ⟨b, off, none⟩) len cap s) :
    IterAt Fence.wide n Try.prog 55 #[.pointer (some ⟨Bs, 0, none⟩)] (fun x : List Nat => #[.agg (u8s x).toArray]) (fun x _ => IsId x) (KpO n₀ Bx n₂) (fun xs => xs = onceL s) (fun _ => True) (len + 1) l W := by
  intro J Jx hJ hJx hY h0
  have h1 : 1 ≤ n := by omega
  have hfn : ∀ f, Fence.wide.fn f := fun _ => trivial
  have hI32 := hI.2.2.2.1
  have hIl := hI.1
  have hlc := hI.2.1
  have hcc := hI.2.2.1
  have hli : ¬ (len : Int) = 0 := by omega
  have hlb : ((len : Int) == 0) = false := by rw [beq_eq_false_iff_ne]; exact hli
  have hlp : (0 : Int) < (len : Int) := by omega
  obtain ⟨hb, hcell⟩ : b < n₀ ∧ ∀ i, i < len → W.rangeAt b (off + i * 32) (u8s (s.getD i [])) := by
    rcases hI.2.2.2.2 with h | ⟨b', off', e, h1, h2⟩
    · omega
    · cases e; exact ⟨h1, h2⟩
  obtain ⟨W1, hW1⟩ : ∃ W1, W.alloc (.cells #[.func (.yield l) #[] #[]] 90) = W1 := ⟨_, rfl⟩
  have hb1 : Below W.heap.size W W1 := by rw [← hW1]; exact (Below.refl _ W).alloc (Nat.le_refl _) _
  have hs1 : W1.heap.size = W.heap.size + 1 := by rw [← hW1]; simp
  have bY1 : Boxed W1 W.heap.size 90 (.func (.yield l) #[] #[]) := by rw [← hW1]; exact Boxed.new W 90 _
  have bS1 := boxed_below hbS hb1
  have hI1 : IsIds n₀ W1 (some ⟨b, off, none⟩) len cap s := hI.below (hb1.mono hn₀)
  have hr1 : W1.rangeAt b off (u8s (s.getD 0 [])) := by
    have := rangeAt_below hb1 (by omega) (hcell 0 hpos)
    simpa using this
  have hx0 := ids_at hI32 (k := 0) (by omega)
  have HWA : Hid (W.alloc (.cells #[.func (.yield l) #[] #[]] 90) = W1) := hW1
  have HYd : Hid (YieldAt Fence.wide (n - 1) Try.prog l #[.agg (u8s (s.getD 0 [])).toArray] W1.drew fun e W' =>
      (e = .returned (.bool true) ∧ J (onceOf s []) W' ∧ KpO n₀ Bx n₂ W1.drew W') ∨ (e = .returned (.bool false) ∧ Jx (onceOf s []) W' ∧ KpO n₀ Bx n₂ W1.drew W')) :=
    hY [] (s.getD 0 []) W1.drew (OwnFrom.grow hJ h0 (hb1.trans ((Below.refl W1.heap.size W1).drew.mono (by omega)))) hx0 (by simp)
  have HS0 : Hid (W1.cell? ⟨W.heap.size, 0, none⟩ = some (.func (.yield l) #[] #[]) ∧ W1.cell? ⟨Bs, 0, none⟩ = some (.slice (some ⟨b, off, none⟩) len cap) ∧ W1.rangeAt b off (u8s (s.getD 0 []))) := ⟨bY1.cell, bS1.cell, hr1⟩
  have HS1 : Hid (∀ A, KpO n₀ Bx n₂ W1.drew A → A.cell? ⟨W.heap.size, 0, none⟩ = some (.func (.yield l) #[] #[]) ∧ A.cell? ⟨Bs, 0, none⟩ = some (.slice (some ⟨b, off, none⟩) len cap) ∧ A.rangeAt b off (u8s (s.getD 0 []))) := fun A hk => by
    refine ⟨(hk.boxed (show Boxed W1.drew W.heap.size 90 _ from bY1) (.inr rfl)).cell, (hk.boxed (show Boxed W1.drew Bs 23 _ from bS1) (.inl ⟨rfl, hBs⟩)).cell, ?_⟩
    rcases (hk.ids (show IsIds n₀ W1.drew _ len cap s from hI1)).2.2.2.2 with h | ⟨b', off', e, _, h2⟩
    · omega
    · cases e; simpa using h2 0 hpos
  have HV : Hid ((u8s (s.getD 0 [])).length = 32) := by show _ = _; rw [u8s_length]; exact hx0.1
  refine callsIn_of_wp_marks Try.func55 rfl trivial ?_ rfl
  simp only [Try.ntmps55, List.size_toArray, List.length_cons, List.length_nil, Nat.reduceAdd, Nat.reduceSub, Array.replicate_succ, Array.replicate_zero, List.push_toArray, List.append_toArray, List.nil_append, List.cons_append]
  clear hcell hr1 hx0 hW1
  gi_wp2
  rw [HWA.out]
  refine wpIn_region_Wo (S := fun A => A.cell? ⟨W.heap.size, 0, none⟩ = some (.func (.yield l) #[] #[]) ∧ A.cell? ⟨Bs, 0, none⟩ = some (.slice (some ⟨b, off, none⟩) len cap) ∧ A.rangeAt b off (u8s (s.getD 0 []))) (by kernel_rfl) HS0.out (fun hHeld => ?_)
  generalize u8s (s.getD 0 []) = V at *
  refine wpAnyW_takesAt 0 7 4 (of_decide_eq_true (by kernel_rfl)) rfl (fun _ _ _ d _ h => by cases d <;> exact h) (by kernel_rfl) (by kernel_rfl) hHeld ?_
  simp only [List.drop_zero, List.take_succ_cons, List.take_zero]
  iterate 7 (refine wpHeld_step (v := ?_) (by rfl) (fun wz hSw => ?_) ?_; rotate_left; (focus ((have hy := hSw.1; have hs := hSw.2.1; clear hSw); go_simp; try with_reducible rfl)); (simp only [Act.put, List.setIfInBounds_toArray, List.set_cons_zero, List.set_cons_succ]))
  refine wpHeld_nil ?_
  refine wpAnyW_takesAt 7 1 3 (of_decide_eq_true (by kernel_rfl)) rfl (fun _ _ _ d _ h => by cases d <;> exact h) (by kernel_rfl) (by kernel_rfl) hHeld ?_
  simp only [List.drop_succ_cons, List.drop_zero, List.take_succ_cons, List.take_zero]
  refine wpHeld_load (by rfl) 33 (.tmp 11) rfl b (off) rfl V (fun W hW => hW.2.2) Try.underlying33 (by rw [HV.out]; exact size33) ?_
  (simp only [Act.put]; (try simp only [List.setIfInBounds_toArray]); (try simp only [List.set_cons_succ]); (try simp only [List.set_cons_zero]))
  refine wpHeld_nil ?_
  obtain ⟨fn, tmps, assign, body, hy, hR⟩ := HYd.out
  refine wpAnyW_only (i := 8) (by kernel_rfl) rfl (by rfl) (fun K hK => ?_)
  go_simp
  refine RoundIn.mono hR ?_
  rintro e W3 (⟨rfl, hJ3, hk3⟩ | ⟨rfl, hJ3, hk3⟩)
  · refine hK.out _ _ (HS1.out _ hk3) ?_
    clear hK K hHeld
    have hHeld := HS1.out _ hk3
    refine wpAnyW_takesAt 9 2 0 (of_decide_eq_true (by kernel_rfl)) rfl (fun _ _ _ d _ h => by cases d <;> exact h) (by kernel_rfl) (by kernel_rfl) hHeld ?_
    simp only [List.drop_succ_cons, List.drop_zero, List.take_succ_cons, List.take_zero]
    iterate 2 (refine wpHeld_step (v := ?_) (by rfl) (fun wz hSw => ?_) ?_; rotate_left; (focus ((try dsimp only at hSw); go_simp; try with_reducible rfl)); (simp only [Act.put, List.setIfInBounds_toArray, List.set_cons_zero, List.set_cons_succ]))
    refine wpHeld_nil ?_
    refine wpAnyW_done (by kernel_rfl) ?_ _
    refine OnOnly.on ?_
    have bY3 : Boxed W3 W.heap.size 90 (.func (.yield l) #[] #[]) := hk3.boxed (show Boxed W1.drew W.heap.size 90 _ from bY1) (.inr rfl)
    have bS3 : Boxed W3 Bs 23 (.slice (some ⟨b, off, none⟩) len cap) := hk3.boxed (show Boxed W1.drew Bs 23 _ from bS1) (.inl ⟨rfl, hBs⟩)
    have hI3 : IsIds n₀ W3 (some ⟨b, off, none⟩) len cap s := hk3.ids (show IsIds n₀ W1.drew _ len cap s from hI1)
    have hs3 : W.heap.size + 1 ≤ W3.heap.size := by have := hk3.2.size; simp at this; omega
    have cS3 := bS3.cell
    clear hHeld HS0 HS1 HYd hR hy HV hk3
    gi_wp2_with (gi_at_call 56; refine (neighbours_in Fence.wide _ trivial rfl _ _ _ _).mono ?_; rintro e w' ⟨rfl, rfl⟩)
    have bL4 := Boxed.new W3 23 (.slice (some ⟨b, off, none⟩) len cap)
    have bY4 := bY3.alloc (.cells #[.slice (some ⟨b, off, none⟩) len cap] 23)
    have hb4 : Below W3.heap.size W3 (W3.alloc (.cells #[.slice (some ⟨b, off, none⟩) len cap] 23)) := (Below.refl _ W3).alloc (Nat.le_refl _) _
    have hs4 : (W3.alloc (.cells #[.slice (some ⟨b, off, none⟩) len cap] 23)).heap.size = W3.heap.size + 1 := by simp
    have hI4 : IsIds n₀ (W3.alloc (.cells #[.slice (some ⟨b, off, none⟩) len cap] 23)) (some ⟨b, off, none⟩) len cap s := hI3.below (hb4.mono (by omega))
    have hJ4 := OwnFrom.grow hJ hJ3 hb4
    clear hJ3 bS3 cS3 bY3 hI3
    generalize W3.alloc (.cells #[.slice (some ⟨b, off, none⟩) len cap] 23) = w4 at *
    have hnb4 : NbAt W3.heap.size n₀ (some ⟨b, off, none⟩) len cap s w4 := ⟨bL4.cell, hI4⟩
    have hBlt : ∀ A, NbAt W3.heap.size n₀ (some ⟨b, off, none⟩) len cap s A → W3.heap.size < A.heap.size := fun A h => World.block_lt_of_cell? A _ h.1
    refine wpIn_rangeFunc_okv rfl h1 (gf := 71) (lb := #[.pointer (some ⟨W3.heap.size, 0, none⟩)]) rfl trivial (enters_of Try.func71 (by kernel_rfl) rfl)
      (encs := nbVal s) (Ok := fun i _ => i + 1 < len) (Kp := fun A B => NbAt W3.heap.size n₀ (some ⟨b, off, none⟩) len cap s A → NbAt W3.heap.size n₀ (some ⟨b, off, none⟩) len cap s B) (S := fun xs => xs = List.range (len - 1)) (Sp := fun pre => ∃ k, k + 1 < len ∧ pre = List.range (k + 1)) (N := len)
      (fun W' hs hb => nb_iterAt (n - 1) (by omega) _ W3.heap.size n₀ (some ⟨b, off, none⟩) len cap s hlen W' (hnb4.below (N := w4.heap.size) (by omega) (by omega) hb))
      (fun h k x => k (h x)) (fun A o o' ho hc h => h.below (N := w4.heap.size) (by omega) (by omega) (below_putObj A o' (by omega))) (fun hb h => h.later (by have := hBlt _ h; omega) hb) (fun _ => rfl)
      (TwoAt s) (fun x A B o h hl => h.put o hl)
      (fun pre A => J (onceOf s pre) A ∧ Boxed A W.heap.size 90 (.func (.yield l) #[] #[]) ∧ Boxed A W3.heap.size 23 (.slice (some ⟨b, off, none⟩) len cap) ∧ IsIds n₀ A (some ⟨b, off, none⟩) len cap s)
      (fun c _ A => c = .ret ∧ ∃ xs, Jx xs A)
      (OwnFrom.and (fun pre A B row hj hg hr => OwnFrom.mono hJ (by omega) _ A B row hj hg hr) (OwnFrom.and (Own.from (boxed_own _ _ _) _) (OwnFrom.and (Own.from (boxed_own _ _ _) _) (isIds_own _ _ _ _ _ _))))
      (fun c pre A B row ⟨hc, xs, hj⟩ hg hr => ⟨hc, xs, OwnFrom.mono hJx (by omega) xs A B row hj hg hr⟩)
      (fun _ _ _ _ h _ _ => h)
      ⟨hJ4, bY4, bL4, hI4⟩
      (fun x A => { tmps := #[.func (.yield l) #[] #[], .pointer (some ⟨Bs, 0, none⟩), .pointer (some ⟨W.heap.size, 0, none⟩), .pointer (some ⟨A.heap.size, 0, none⟩), .pointer (some ⟨A.heap.size + 1, 0, none⟩), .slice (some ⟨b, off, none⟩) len cap, .int .i64 (len : Nat), .bool false, .bool false, .func (.yield l) #[] #[], .slice (some ⟨b, off, none⟩) len cap, .pointer (some ⟨b, off, none⟩), .agg V.toArray, .bool true, .bool false, .bool false, .slice (some ⟨b, off, none⟩) len cap,
        .func (.func 71) #[] #[.pointer (some ⟨W3.heap.size, 0, none⟩)], .agg (u8s (s.getD x [])).toArray, .agg (u8s (s.getD (x + 1) [])).toArray, undef, undef, undef, undef, undef, undef, undef, undef, undef], defers := [] }) ?assign ?body ?done ?stop
    case assign =>
      intro li x A K hok hK
      have hx := ids_at hI32 (k := x) (by omega)
      have hy := ids_at hI32 (k := x + 1) (by omega)
      have HXL : Hid ((u8s (s.getD x [])).length = 32) := by show _ = _; rw [u8s_length]; exact hx.1
      have HX1 : Hid (∀ v ∈ u8s (s.getD x []), v.oneCell' = true) := u8s_one _
      have HYL : Hid ((u8s (s.getD (x + 1) [])).length = 32) := by show _ = _; rw [u8s_length]; exact hy.1
      have HY1 : Hid (∀ v ∈ u8s (s.getD (x + 1) []), v.oneCell' = true) := u8s_one _
      have HK : Hid (∀ W', Below A.heap.size A W' → Row W' A.heap.size 33 (u8s (s.getD x [])) ∧ Row W' (A.heap.size + 1) 33 (u8s (s.getD (x + 1) [])) → K _ W') := hK
      unfold nbVal
      clear hK hx hy
      generalize u8s (s.getD x []) = X at *
      generalize u8s (s.getD (x + 1) []) = U at *
      gi_wp2_with (first
        | ((with_reducible show wpListIn _ _ _ _ _ (Oper.mk _ (Op.store 33 (.tmp 3) (.tmp 18)) _ _ _ _ :: _) _ _); rw [z32u8]; refine wpListIn_store_Row rfl 33 (.tmp 3) (.tmp 18) rfl X rfl rfl (Row.new' A 33 (List.replicate 32 (Value.int .u8 0))) (by rw [HXL.out]; exact size33) (by rw [HXL.out]; rfl) HX1.out ?_; have hR2 := (Row.new' A 33 (List.replicate 32 (Value.int .u8 0))).sets_all (vs := X) (by rw [HXL.out]; rfl); have hb2 : Below A.heap.size A ((A.alloc (.cells (List.replicate 32 (Value.int .u8 0)).toArray 33)).setCells A.heap.size 0 X) := below_setCells (Nat.le_refl _) _ _ ((Below.refl _ A).alloc (Nat.le_refl _) _); have hs2 : ((A.alloc (.cells (List.replicate 32 (Value.int .u8 0)).toArray 33)).setCells A.heap.size 0 X).heap.size = A.heap.size + 1 := (size_setCells _ _ _).trans (World.size_alloc _ _); generalize (A.alloc (.cells (List.replicate 32 (Value.int .u8 0)).toArray 33)).setCells A.heap.size 0 X = A2 at *; have HR2 : Hid (Row A2 A.heap.size 33 X) := hR2; have HS2 : Hid (A2.heap.size = A.heap.size + 1) := hs2; clear hR2 hs2; simp only [Act.put])
        | ((with_reducible show wpListIn _ _ _ _ _ (Oper.mk _ (Op.store 33 (.tmp 4) (.tmp 19)) _ _ _ _ :: _) _ _); rw [z32u8]; refine wpListIn_store_Row rfl 33 (.tmp 4) (.tmp 19) rfl U rfl rfl (Row.new' A2 33 (List.replicate 32 (Value.int .u8 0))) (by rw [HYL.out]; exact size33) (by rw [HYL.out]; rfl) HY1.out ?_; have hR3 := (Row.new' A2 33 (List.replicate 32 (Value.int .u8 0))).sets_all (vs := U) (by rw [HYL.out]; rfl); have hb3 : Below A2.heap.size A2 ((A2.alloc (.cells (List.replicate 32 (Value.int .u8 0)).toArray 33)).setCells A2.heap.size 0 U) := below_setCells (Nat.le_refl _) _ _ ((Below.refl _ A2).alloc (Nat.le_refl _) _); generalize (A2.alloc (.cells (List.replicate 32 (Value.int .u8 0)).toArray 33)).setCells A2.heap.size 0 U = A3 at *; have HR3 : Hid (Row A3 A2.heap.size 33 U) := hR3; clear hR3; simp only [Act.put]))
      have hs2 := HS2.out
      have := HK.out A3 (hb2.trans (hb3.mono (by omega))) ⟨HR2.out.later hb3, by have := HR3.out; rw [hs2] at this; exact this⟩
      rw [hs2]
      exact this
    case body =>
      rintro li pre x A₀ A ⟨hj, hbY, hbL, hIA⟩ hok hN hle ⟨hr1, hr2⟩
      have hx := ids_at hI32 (k := x) (by omega)
      have hy := ids_at hI32 (k := x + 1) (by omega)
      have HXL : Hid ((u8s (s.getD x [])).length = 32) := by show _ = _; rw [u8s_length]; exact hx.1
      have HYL : Hid ((u8s (s.getD (x + 1) [])).length = 32) := by show _ = _; rw [u8s_length]; exact hy.1
      have heq := equal_ids hx hy
      have HR1 : Hid (Row A A₀.heap.size 33 (u8s (s.getD x []))) := hr1
      have HR2 : Hid (Row A (A₀.heap.size + 1) 33 (u8s (s.getD (x + 1) []))) := hr2
      have hcY := hbY.cell
      by_cases hxy : s.getD x [] = s.getD (x + 1) []
      · have HJ : Hid (J (onceOf s (pre ++ [x])) A) := by rw [onceOf_same hxy]; exact hj
        rw [decide_eq_true hxy] at heq
        clear hr1 hr2 hx hy hxy hj
        generalize u8s (s.getD x []) = X at *
        generalize u8s (s.getD (x + 1) []) = U at *
        gi_wp2_with (first
          | ((with_reducible show wpListIn _ _ _ _ _ (Oper.mk _ (Op.load 33 (.tmp 3)) _ _ _ _ :: _) _ _); refine wpListIn_load_Row rfl 33 (.tmp 3) rfl rfl HR1.out Try.underlying33 (by rw [HXL.out]; exact size33) ?_; simp only [Act.put, List.setIfInBounds_toArray, List.set_cons_zero, List.set_cons_succ])
          | ((with_reducible show wpListIn _ _ _ _ _ (Oper.mk (some 21) (Op.load 33 (.tmp 4)) _ _ _ _ :: _) _ _); refine wpListIn_load_Row rfl 33 (.tmp 4) rfl rfl HR2.out Try.underlying33 (by rw [HYL.out]; exact size33) ?_; simp only [Act.put, List.setIfInBounds_toArray, List.set_cons_zero, List.set_cons_succ]))
        exact ⟨KeepsFrom.refl _ _, fun h => h, HJ.out, hbY, hbL, hIA⟩
      · have HY3 : Hid (YieldAt Fence.wide (n - 1 - 1 - 1) Try.prog l #[.agg (u8s (s.getD (x + 1) [])).toArray] A fun e W' =>
            (e = .returned (.bool true) ∧ J (onceOf s (pre ++ [x])) W' ∧ KpO n₀ Bx n₂ A W') ∨ (e = .returned (.bool false) ∧ Jx (onceOf s (pre ++ [x])) W' ∧ KpO n₀ Bx n₂ A W')) := by
          rw [onceOf_other hxy]
          exact room_none (hY (onceOf s pre) (s.getD (x + 1) []) A hj hy (by have := onceOf_length s pre; omega))
        have HFin : Hid (∀ B, KpO n₀ Bx n₂ A B → KeepsFrom w4.heap.size A B ∧ NbAt W3.heap.size n₀ (some ⟨b, off, none⟩) len cap s B ∧ Boxed B W.heap.size 90 (.func (.yield l) #[] #[]) ∧ Boxed B W3.heap.size 23 (.slice (some ⟨b, off, none⟩) len cap) ∧ IsIds n₀ B (some ⟨b, off, none⟩) len cap s) := fun B hk =>
          have k1 := hk.boxed hbY (.inr rfl)
          have k2 := hk.boxed hbL (.inl ⟨rfl, by omega⟩)
          have k3 := hk.ids hIA
          ⟨keepsFrom_ge hk.2 (by omega), ⟨k2.cell, k3⟩, k1, k2, k3⟩
        rw [decide_eq_false hxy] at heq
        clear hr1 hr2 hx hy hxy hj hbY hbL hIA
        generalize u8s (s.getD x []) = X at *
        generalize u8s (s.getD (x + 1) []) = U at *
        obtain ⟨fn, tmps, assign, body, hy, hR⟩ := HY3.out
        gi_wp2_with (first
          | ((with_reducible show wpListIn _ _ _ _ _ (Oper.mk _ (Op.load 33 (.tmp 3)) _ _ _ _ :: _) _ _); refine wpListIn_load_Row rfl 33 (.tmp 3) rfl rfl HR1.out Try.underlying33 (by rw [HXL.out]; exact size33) ?_; simp only [Act.put, List.setIfInBounds_toArray, List.set_cons_zero, List.set_cons_succ])
          | ((with_reducible show wpListIn _ _ _ _ _ (Oper.mk (some 21) (Op.load 33 (.tmp 4)) _ _ _ _ :: _) _ _); refine wpListIn_load_Row rfl 33 (.tmp 4) rfl rfl HR2.out Try.underlying33 (by rw [HYL.out]; exact size33) ?_; simp only [Act.put, List.setIfInBounds_toArray, List.set_cons_zero, List.set_cons_succ])
          | ((with_reducible show wpListIn _ _ _ _ _ (Oper.mk (some 25) (Op.load 33 (.tmp 4)) _ _ _ _ :: _) _ _); refine wpListIn_load_want (by rfl) 33 (.tmp 4) rfl rfl HR2.out Try.underlying33 (by rw [HYL.out]; exact size33) ?_; simp only [Act.put, List.setIfInBounds_toArray, List.set_cons_zero, List.set_cons_succ]))
        refine ⟨fun _ => by omega, RoundIn.mono (show RoundIn (Fence.wide.inRound li) _ _ _ _ _ _ _ _ _ from hR) ?_⟩
        rintro e A3 (⟨rfl, hJ3, hk3⟩ | ⟨rfl, hJ3, hk3⟩)
        · obtain ⟨k1, k2, k3, k4, k5⟩ := HFin.out A3 hk3
          clear hk3 hR hy heq hcY
          gi_wp2
          exact ⟨k1, fun _ => k2, hJ3, k3, k4, k5⟩
        · obtain ⟨k1, k2, k3, k4, k5⟩ := HFin.out A3 hk3
          clear hk3 hR hy heq hcY
          gi_wp2
          exact ⟨k1, fun _ => k2, rfl, _, hJ3⟩
    case done =>
      rintro D xs A hD rfl ⟨hj, _, _, _⟩ hKD
      rw [show len - 1 = s.length - 1 by omega, onceOf_all (by omega)] at hj
      gi_wp2
      refine ⟨by simp, .inl ⟨_, _, rfl, run_takeDeferred hKD, ?_⟩⟩
      exact ⟨_, results_none rfl _ _ _, ⟨_, rfl⟩, .inl ⟨_, rfl, OwnFrom.putObj (OwnFrom.mono hJ (by omega : W.heap.size ≤ w4.heap.size)) _ hj hD hKD rfl⟩⟩
    case stop =>
      rintro D c pre A hD _ ⟨rfl, xs, hj⟩ hKD
      gi_wp2
      refine ⟨by simp, .inl ⟨_, _, rfl, run_takeDeferred hKD, ?_⟩⟩
      exact ⟨_, results_none rfl _ _ _, ⟨_, rfl⟩, .inr ⟨xs, trivial, OwnFrom.putObj (OwnFrom.mono hJx (by omega : W.heap.size ≤ w4.heap.size)) _ hj hD hKD rfl⟩⟩
  · refine hK.out _ _ (HS1.out _ hk3) ?_
    clear hK K hHeld
    have hHeld := HS1.out _ hk3
    refine wpAnyW_takesAt 9 2 0 (of_decide_eq_true (by kernel_rfl)) rfl (fun _ _ _ d _ h => by cases d <;> exact h) (by kernel_rfl) (by kernel_rfl) hHeld ?_
    simp only [List.drop_succ_cons, List.drop_zero, List.take_succ_cons, List.take_zero]
    iterate 2 (refine wpHeld_step (v := ?_) (by rfl) (fun wz hSw => ?_) ?_; rotate_left; (focus ((try dsimp only at hSw); go_simp; try with_reducible rfl)); (simp only [Act.put, List.setIfInBounds_toArray, List.set_cons_zero, List.set_cons_succ]))
    refine wpHeld_nil ?_
    refine wpAnyW_done (by kernel_rfl) ?_ _
    refine OnOnly.on ?_
    gi_wp2
    exact ⟨_, results_none rfl _ _ _, ⟨_, rfl⟩, .inr ⟨_, trivial, hJ3⟩⟩
end Go.Proofs.Ytfclbdlkpnoceaa
