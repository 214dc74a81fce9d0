/-
  OfRequest: the request that bytes are, or that they are none.
-/
import Derived.Test.YtedpgdldekkgdaaPutQ
import Derived.Test.YtedpgdldekkgdaaNextId
import Derived.Laws.ResultCell
namespace Go.Proofs.Ytedpgdldekkgdaa
open Go.RowKit Go.Shelf

section
variable {P : Program} {md : Region.Mode} {ops : Array Oper} {Q : Exit → Act → World → Prop} {S : World → Prop}
/-- A region that draws its order, cut off. -/
theorem wp_region_cut {a : Act} {w : World} {id : Nat} (R : Act → World → Prop) (hm : P.follows .mixedOrders = true) (hS : S w.drew)
    (h : S w.drew → wpAnyH P .any ops (OnOnly fun _ a w => R a w) S ops.size (Array.replicate ops.size false) a w.drew) (hR : ∀ a' w', R a' w' → Q .normal a' w') : (Code.region id ops true).wp P Q a w :=
  Code.wp_mono (fun e a' w' h' => by cases e <;> first | exact hR _ _ h' | exact (h' : False).elim) (wp_region_held_drew hm hS h)
theorem wp_region_cutL {a : Act} {w : World} {id : Nat} (N : Nat) (L : Array Bool) (R : Act → World → Prop) (hm : P.follows .mixedOrders = true) (hS : S w.drew) (hN : ops.size = N) (hL : Array.replicate N false = L)
    (h : S w.drew → wpAnyH P .any ops (OnOnly fun _ a w => R a w) S N L a w.drew) (hR : ∀ a' w', R a' w' → Q .normal a' w') : (Code.region id ops true).wp P Q a w :=
  wp_region_cut R hm hS (by rw [hN, hL]; exact h) hR
end
theorem below_but {B n : Nat} {a w w' : World} (h : Below n a w) (hb : But B w.heap.size w w') (hn : n ≤ B) (hn2 : n ≤ w.heap.size) : Below n a w' := h.trans (hb.below hn2 hn)
theorem results_RowS_tmp {P : Program} {fn : Func} {p u : Tmp} {ty : TypeId} (h : fn.results = #[.cell p ty, .tmp u]) {tmps : Array Value} {w : World} {g : Nat} {t : TypeId} {cs : List Value} (hp : tmps.getD p undef = .pointer (some ⟨g, 0, none⟩)) (hg : Row w g t cs)
    {fs : Array Field} (hu : P.underlying ty = some (.struct fs)) (hi : (P.info? ty).map (·.size) = some cs.length) : (results fn tmps).run P w = .ok (.tuple #[.agg cs.toArray, tmps.getD u undef]) w := by
  rw [results_cell_tmp h, hp]
  simp [asAddr, run_loadVar_row w g t ty cs.toArray (0, 0) _ hg hu rfl (by simpa using hi)]
theorem wpList_built_want {ops : Array Oper} {rest : List Oper} {o : Oper} {a : Act} {w : World} {Q : Exit → Act → World → Prop} (hw : Region.wanted o (yielded ops a.tmps) = true) (t : TypeId) (parts : Array (Nat × Operand)) (ho : o.op = .build t parts) (cells : Array Value) (L : List (Nat × Value)) (hL : (parts.map fun (i, x) => (i, a.eval x)).toList = L)
    (hc : Try.prog.built t L = some cells) (h : wpList Try.prog ops Q rest (a.put o.dst (.agg cells)) w) : wpList Try.prog ops Q (o :: rest) a w :=
  BigFrame.wpList_want hw fun _ hK => by
    unfold Oper.wp execOp
    simp only [ho, Sem.run_bind, run_build w t _ cells (hL ▸ hc), Result.andThen_ok]
    exact hK _ _ h

/-- A row of bytes is not the block that another row fills. -/
theorem own_row_other {W W' : World} {n₀ g : Nat} {v : Value} {zs : List Nat} {cs : List Value} {t : TypeId} (h : Own n₀ W v zs) (hg : Row W g t cs) (hb : But g W.heap.size W W') (ht : t ≠ 5 := by decide) : Own n₀ W' v zs := by
  refine ⟨h.1, ?_⟩
  rcases h.2 with hn | ⟨k, cap, cur, rfl, hk, hkk, rest⟩
  · exact .inl hn
  · refine .inr ⟨k, cap, cur, rfl, hk, (hb.block k (Array.getElem?_eq_some_iff.1 hkk).1 (fun e => ?_)).trans hkk, rest⟩
    subst e
    unfold Row at hg
    rw [hg] at hkk
    cases hkk
    exact ht rfl
set_option maxRecDepth 100000 in
theorem built28' (f1 f2 : Nat → Value) (c s k t n : Int) (nm : ByteArray) (p : Option Addr) (l cp : Nat) :
    Try.prog.built 28 [(0, .int .u32 c), (1, .int .u64 s), (2, .int .i64 k), (3, .int .u32 t), (4, .string nm), (5, .agg ((List.range 32).map f1).toArray), (6, .agg ((List.range 32).map f2).toArray), (7, .int .u64 n), (8, .slice p l cp)]
      = some (Value.int .u32 c :: Value.int .u64 s :: Value.int .i64 k :: Value.int .u32 t :: Value.string nm :: ((List.range 32).map f1 ++ ((List.range 32).map f2 ++ [Value.int .u64 n, Value.slice p l cp]))).toArray := by kernel_rfl
theorem built28 (r : Req) (hok : r.ok) (p : Option Addr) (l cp : Nat) :
    Try.prog.built 28 [(0, .int .u32 (r.client : Nat)), (1, .int .u64 (r.seq : Nat)), (2, .int .i64 r.kind), (3, .int .u32 (r.tenant : Nat)), (4, .string r.name), (5, .agg (u8s r.id).toArray), (6, .agg (u8s r.old).toArray), (7, .int .u64 (r.n : Nat)), (8, .slice p l cp)] = some (reqC (.slice p l cp) r).toArray := by
  have h1 := range32 (V := u8s r.id) (by rw [u8s_length, hok.id.1])
  have h2 := range32 (V := u8s r.old) (by rw [u8s_length, hok.old.1])
  have hb := built28' (fun i => (u8s r.id).getD i undef) (fun i => (u8s r.old).getD i undef) r.client r.seq r.kind r.tenant r.n r.name p l cp
  rw [← h1, ← h2] at hb
  exact hb
theorem built28z : Try.prog.built 28 [] = some (reqC (.slice none 0 0) noReq).toArray := by kernel_rfl
theorem run_build28 (r : Req) (hok : r.ok) (p : Option Addr) (l cp : Nat) (w : World) :
    (Instr.build 28 #[(0, .int .u32 (r.client : Nat)), (1, .int .u64 (r.seq : Nat)), (2, .int .i64 r.kind), (3, .int .u32 (r.tenant : Nat)), (4, .string r.name), (5, .agg (u8s r.id).toArray), (6, .agg (u8s r.old).toArray), (7, .int .u64 (r.n : Nat)), (8, .slice p l cp)]).run Try.prog w = .ok (.agg (reqC (.slice p l cp) r).toArray) w :=
  run_build w 28 _ _ (built28 r hok p l cp)

/-- Whether bytes are a request. -/
def isQ (b : List Nat) : Bool := decide (endE (q9 (readN 1 (some b)).2) = 0) && (decide ((readN 1 (some b)).1 = 1) && mayQ (rdQ (readN 1 (some b)).2) (bdQ (readN 1 (some b)).2))
/-- What OfRequest answers. -/
def OfQPost (w : World) (b : List Nat) (e : Ending) (w' : World) : Prop :=
  (isQ b = true ∧ ∃ p len cap, e = .returned (.tuple #[.agg (reqC (.slice p len cap) (rdQ (readN 1 (some b)).2)).toArray, .int .i64 0]) ∧ IsBytes w'.heap.size w' p len cap (bdQ (readN 1 (some b)).2) ∧ Below w.heap.size w w') ∨
  (isQ b = false ∧ e = .returned (.tuple #[.agg (reqC (.slice none 0 0) noReq).toArray, .int .i64 180]) ∧ Below w.heap.size w w')

set_option maxRecDepth 100000 in
set_option maxHeartbeats 8000000 in
theorem ofQ_any (p : Option Addr) (len cap : Nat) (b : List Nat) (hlen : len ≤ 50000) (w : World) (hI : IsBytes w.heap.size w p len cap b) :
    Calls Try.prog 12 #[.slice p len cap] w (OfQPost w b) := by
  have hzb : ∀ z ∈ b, z < 256 := hI.2.2.2.1
  have HI : Hid (IsBytes w.heap.size w p len cap b) := hI
  obtain ⟨st, hst⟩ : ∃ st, (readN 1 (some b)).2 = st := ⟨_, rfl⟩
  obtain ⟨A, hA⟩ : ∃ A, (readN 1 (some b)).1 = A := ⟨_, rfl⟩
  have hz : Ahead st := by rw [← hst]; exact fun _ h' => (readN_once (ahead_some hzb) h').2
  have hA1 : A ≤ 1 := by rw [← hA]; exact readN_le 1 _
  have HOk : Hid (rdQ st).ok := rdQ_ok hz
  have HBd : Hid ((∀ x ∈ bdQ st, x < 256) ∧ (bdQ st).length ≤ 110000) := bdQ_all hz
  have HNm : Hid ((rdQ st).name.size ≤ 64) := rdQ_name hz
  obtain ⟨iq, hiq⟩ : ∃ iq, isQ b = iq := ⟨_, rfl⟩
  have HQ : Hid (iq = (decide (endE (q9 st) = 0) && (decide (A = 1) && mayQ (rdQ st) (bdQ st)))) := by
    show _ = _
    rw [← hiq, isQ, hst, hA]
  have HP : Hid (OfQPost w b = fun e w' => (iq = true ∧ ∃ p len cap, e = .returned (.tuple #[.agg (reqC (.slice p len cap) (rdQ st)).toArray, .int .i64 0]) ∧ IsBytes w'.heap.size w' p len cap (bdQ st) ∧ Below w.heap.size w w') ∨
      (iq = false ∧ e = .returned (.tuple #[.agg (reqC (.slice none 0 0) noReq).toArray, .int .i64 180]) ∧ Below w.heap.size w w')) := by
    show _ = _
    unfold OfQPost
    rw [hiq, hst]
  rw [HP.out]
  clear HP
  have k1 := readN_le 4294967295 st
  have k3 := readN_le 10 (q2 st)
  have k4 := readN_le 4294967295 (q3 st)
  have c1 : IntKind.u32.wrap ((readN 4294967295 st).1 : Int) = ((readN 4294967295 st).1 : Int) := by rw [IntKind.wrap_u32]; omega
  have c3 : IntKind.i64.wrap ((readN 10 (q2 st)).1 : Int) = ((readN 10 (q2 st)).1 : Int) := by rw [IntKind.wrap_i64]; omega
  have c4 : IntKind.u32.wrap ((readN 4294967295 (q3 st)).1 : Int) = ((readN 4294967295 (q3 st)).1 : Int) := by rw [IntKind.wrap_u32]; omega
  obtain ⟨w1, hw1⟩ : ∃ w1, w.alloc (.cells zc28 28) = w1 := ⟨_, rfl⟩
  have HW1 : Hid (w.alloc (.cells zc28 28) = w1) := hw1
  have hs1 : w1.heap.size = w.heap.size + 1 := by rw [← hw1]; simp
  have HB1 : Hid (Below w.heap.size w w1) := by rw [← hw1]; exact (Below.refl _ w).alloc (Nat.le_refl _) _
  have HR1 : Hid (Row w1 w.heap.size 28 (reqC (.slice none 0 0) noReq)) := by rw [← hw1, zero28]; exact Row.new' w 28 _
  have HSt : Hid ((readN 1 (some b)).2 = st) := hst
  have HA : Hid ((readN 1 (some b)).1 = A) := hA
  have Hz : Hid (Ahead st) := hz
  clear hw1 hI hst hA hz hzb k1 k3 k4 hiq
  go_enter Try.func12, Try.ntmps12
  go_wp2_with (first
    | (rw [HW1.out])
    | (go_at_call 29; refine (read_any p len cap b (by omega) w1 ((HI.out.below HB1.out).mono HB1.out.size)).mono ?_; rintro e w2 ⟨B, rfl, hBw, hR2, hb2⟩; have HR2 : Hid (RdAt w2 B (some b)) := hR2; have hBl2 : B < w2.heap.size := hR2.lt; clear hR2)
    | (go_at_call 30; refine (readerN_any B (some b) 1 (by omega) w2 HR2.out).mono ?_; rintro e w3 ⟨rfl, hR3, hb3⟩; rw [HSt.out] at hR3; have HR3 : Hid (RdAt w3 B st) := hR3; have HB3 : Hid (Below w1.heap.size w1 w3) := below_but hb2 hb3 hBw hb2.size; have hBl3 : B < w3.heap.size := hR3.lt; rw [HA.out]; clear hR3 hb3 hb2))
  refine wp_region_cutL (S := fun _ => True) 25 #[false, false, false, false, false, false, false, false, false, false, false, false, false, false, false, false, false, false, false, false, false, false, false, false, false] (fun a' W => ∃ (G nB lb cb : Nat) (qb : Option Addr) (s11 s12 s13 s14 s15 s16 s17 s18 s19 s20 s21 s22 s23 s24 s25 s26 s27 s28 s29 s30 s31 s32 s33 : Value), a' = { tmps := #[.slice p len cap, undef, .pointer (some ⟨w.heap.size, 0, none⟩), .int .i64 0, .pointer (some ⟨B, 0, none⟩), .int .u64 (A : Nat), .pointer (some ⟨G, 0, none⟩), .slice p len cap, .pointer (some ⟨B, 0, none⟩), .pointer (some ⟨B, 0, none⟩), .int .u64 (A : Nat), s11, s12, s13, s14, s15, s16, s17, s18, s19, s20, s21, s22, s23, s24, s25, s26, s27, s28, s29, s30, s31, s32, s33, undef, undef, undef, undef, undef, undef, undef, undef, undef, undef, undef, undef, undef, undef], defers := [] } ∧ ReqAt W G (.slice qb lb cb) (rdQ st) ∧ RdAt W B (q9 st) ∧ Own nB W (.slice qb lb cb) (bdQ st) ∧ Below w1.heap.size w1 W ∧ w1.heap.size ≤ nB ∧ B < G) (by kernel_rfl) trivial rfl rfl ?body ?tail
  case body =>
    intro hHeld
    have hR0 : RdAt w3.drew B st := HR3.out.later (Below.refl _ w3).drew
    have hB0 : Below w1.heap.size w1 w3.drew := HB3.out.drew
    have hL0 : B < w3.drew.heap.size := hBl3
    clear HR3 HB3 HR2 HR1 HB1 HI hBl2 hBl3
    generalize w3.drew = X0 at *
    refine wpAnyH_takesAt 0 1 24 (of_decide_eq_true (by kernel_rfl)) rfl (fun _ _ _ d _ h => by cases d <;> exact h) (by kernel_rfl) (by kernel_rfl) hHeld ?_
    simp only [List.drop_zero, List.take_succ_cons, List.take_zero]
    iterate 1 (refine wpHeld_step (v := ?_) (by rfl) (fun wz hSw => ?_) ?_; rotate_left; (focus ((try dsimp only at hSw); go_simp; try with_reducible rfl)); ((simp only [Act.put]; (try simp only [List.setIfInBounds_toArray]); (try simp only [List.set_cons_succ]); (try simp only [List.set_cons_zero]))))
    refine wpHeld_nil ?_
    refine wpAnyH_takesAt 3 1 23 (of_decide_eq_true (by kernel_rfl)) rfl (fun _ _ _ d _ h => by cases d <;> exact h) (by kernel_rfl) (by kernel_rfl) hHeld ?_
    simp only [List.drop_succ_cons, List.drop_zero, List.take_succ_cons, List.take_zero]
    iterate 1 (refine wpHeld_step (v := ?_) (by rfl) (fun wz hSw => ?_) ?_; rotate_left; (focus ((try dsimp only at hSw); go_simp; try with_reducible rfl)); ((simp only [Act.put]; (try simp only [List.setIfInBounds_toArray]); (try simp only [List.set_cons_succ]); (try simp only [List.set_cons_zero]))))
    refine wpHeld_nil ?_
    refine wpAnyH_takesAt 5 1 22 (of_decide_eq_true (by kernel_rfl)) rfl (fun _ _ _ d _ h => by cases d <;> exact h) (by kernel_rfl) (by kernel_rfl) hHeld ?_
    simp only [List.drop_succ_cons, List.drop_zero, List.take_succ_cons, List.take_zero]
    iterate 1 (refine wpHeld_step (v := ?_) (by rfl) (fun wz hSw => ?_) ?_; rotate_left; (focus ((try dsimp only at hSw); go_simp; try with_reducible rfl)); ((simp only [Act.put]; (try simp only [List.setIfInBounds_toArray]); (try simp only [List.set_cons_succ]); (try simp only [List.set_cons_zero]))))
    refine wpHeld_nil ?_
    refine wpAnyH_takesAt 8 1 21 (of_decide_eq_true (by kernel_rfl)) rfl (fun _ _ _ d _ h => by cases d <;> exact h) (by kernel_rfl) (by kernel_rfl) hHeld ?_
    simp only [List.drop_succ_cons, List.drop_zero, List.take_succ_cons, List.take_zero]
    iterate 1 (refine wpHeld_step (v := ?_) (by rfl) (fun wz hSw => ?_) ?_; rotate_left; (focus ((try dsimp only at hSw); go_simp; try with_reducible rfl)); ((simp only [Act.put]; (try simp only [List.setIfInBounds_toArray]); (try simp only [List.set_cons_succ]); (try simp only [List.set_cons_zero]))))
    refine wpHeld_nil ?_
    refine wpAnyH_takesAt 11 1 20 (of_decide_eq_true (by kernel_rfl)) rfl (fun _ _ _ d _ h => by cases d <;> exact h) (by kernel_rfl) (by kernel_rfl) hHeld ?_
    simp only [List.drop_succ_cons, List.drop_zero, List.take_succ_cons, List.take_zero]
    iterate 1 (refine wpHeld_step (v := ?_) (by rfl) (fun wz hSw => ?_) ?_; rotate_left; (focus ((try dsimp only at hSw); go_simp; try with_reducible rfl)); ((simp only [Act.put]; (try simp only [List.setIfInBounds_toArray]); (try simp only [List.set_cons_succ]); (try simp only [List.set_cons_zero]))))
    refine wpHeld_nil ?_
    refine wpAnyH_takesAt 14 1 19 (of_decide_eq_true (by kernel_rfl)) rfl (fun _ _ _ d _ h => by cases d <;> exact h) (by kernel_rfl) (by kernel_rfl) hHeld ?_
    simp only [List.drop_succ_cons, List.drop_zero, List.take_succ_cons, List.take_zero]
    iterate 1 (refine wpHeld_step (v := ?_) (by rfl) (fun wz hSw => ?_) ?_; rotate_left; (focus ((try dsimp only at hSw); go_simp; try with_reducible rfl)); ((simp only [Act.put]; (try simp only [List.setIfInBounds_toArray]); (try simp only [List.set_cons_succ]); (try simp only [List.set_cons_zero]))))
    refine wpHeld_nil ?_
    refine wpAnyH_takesAt 16 1 18 (of_decide_eq_true (by kernel_rfl)) rfl (fun _ _ _ d _ h => by cases d <;> exact h) (by kernel_rfl) (by kernel_rfl) hHeld ?_
    simp only [List.drop_succ_cons, List.drop_zero, List.take_succ_cons, List.take_zero]
    iterate 1 (refine wpHeld_step (v := ?_) (by rfl) (fun wz hSw => ?_) ?_; rotate_left; (focus ((try dsimp only at hSw); go_simp; try with_reducible rfl)); ((simp only [Act.put]; (try simp only [List.setIfInBounds_toArray]); (try simp only [List.set_cons_succ]); (try simp only [List.set_cons_zero]))))
    refine wpHeld_nil ?_
    refine wpAnyH_takesAt 18 1 17 (of_decide_eq_true (by kernel_rfl)) rfl (fun _ _ _ d _ h => by cases d <;> exact h) (by kernel_rfl) (by kernel_rfl) hHeld ?_
    simp only [List.drop_succ_cons, List.drop_zero, List.take_succ_cons, List.take_zero]
    iterate 1 (refine wpHeld_step (v := ?_) (by rfl) (fun wz hSw => ?_) ?_; rotate_left; (focus ((try dsimp only at hSw); go_simp; try with_reducible rfl)); ((simp only [Act.put]; (try simp only [List.setIfInBounds_toArray]); (try simp only [List.set_cons_succ]); (try simp only [List.set_cons_zero]))))
    refine wpHeld_nil ?_
    refine wpAnyH_takesAt 20 1 16 (of_decide_eq_true (by kernel_rfl)) rfl (fun _ _ _ d _ h => by cases d <;> exact h) (by kernel_rfl) (by kernel_rfl) hHeld ?_
    simp only [List.drop_succ_cons, List.drop_zero, List.take_succ_cons, List.take_zero]
    iterate 1 (refine wpHeld_step (v := ?_) (by rfl) (fun wz hSw => ?_) ?_; rotate_left; (focus ((try dsimp only at hSw); go_simp; try with_reducible rfl)); ((simp only [Act.put]; (try simp only [List.setIfInBounds_toArray]); (try simp only [List.set_cons_succ]); (try simp only [List.set_cons_zero]))))
    refine wpHeld_nil ?_
    refine wpAnyH_either (i := 1) (j := 23) (by kernel_rfl) rfl rfl (fun K hK => ?_) (fun K hK => ?_)
    · rw [if_pos (by rfl)]
      go_simp
      refine (readerN_any B st 4294967295 (by omega) X0 hR0).mono ?_
      rintro e X1 ⟨rfl, hR1, hu⟩
      have hL1 : B < X1.heap.size := Nat.lt_of_lt_of_le hL0 hu.size
      have hB1 : Below w1.heap.size w1 X1 := below_but hB0 hu hBw hB0.size
      refine hK.out _ _ trivial ?_
      clear hK K hu
      refine wpAnyH_takesAt 2 1 14 (of_decide_eq_true (by kernel_rfl)) rfl (fun _ _ _ d _ h => by cases d <;> exact h) (by kernel_rfl) (by kernel_rfl) hHeld ?_
      simp only [List.drop_succ_cons, List.drop_zero, List.take_succ_cons, List.take_zero]
      iterate 1 (refine wpHeld_step (v := ?_) (by rfl) (fun wz hSw => ?_) ?_; rotate_left; (focus ((try dsimp only at hSw); go_simp; try with_reducible rfl)); ((simp only [Act.put]; (try simp only [List.setIfInBounds_toArray]); (try simp only [List.set_cons_succ]); (try simp only [List.set_cons_zero]))))
      refine wpHeld_nil ?_
      refine wpAnyH_either (i := 4) (j := 23) (by kernel_rfl) rfl rfl (fun K hK => ?_) (fun K hK => ?_)
      · rw [if_pos (by rfl)]
        go_simp
        refine (readerN_any B (q1 st) 18446744073709551615 (by omega) X1 hR1).mono ?_
        rintro e X2 ⟨rfl, hR2, hu⟩
        have hL2 : B < X2.heap.size := Nat.lt_of_lt_of_le hL1 hu.size
        have hB2 : Below w1.heap.size w1 X2 := below_but hB1 hu hBw hB1.size
        refine hK.out _ _ trivial ?_
        clear hK K hu
        refine wpAnyH_either (i := 6) (j := 23) (by kernel_rfl) rfl rfl (fun K hK => ?_) (fun K hK => ?_)
        · rw [if_pos (by rfl)]
          go_simp
          refine (readerN_any B (q2 st) 10 (by omega) X2 hR2).mono ?_
          rintro e X3 ⟨rfl, hR3, hu⟩
          have hL3 : B < X3.heap.size := Nat.lt_of_lt_of_le hL2 hu.size
          have hB3 : Below w1.heap.size w1 X3 := below_but hB2 hu hBw hB2.size
          refine hK.out _ _ trivial ?_
          clear hK K hu
          refine wpAnyH_takesAt 7 1 11 (of_decide_eq_true (by kernel_rfl)) rfl (fun _ _ _ d _ h => by cases d <;> exact h) (by kernel_rfl) (by kernel_rfl) hHeld ?_
          simp only [List.drop_succ_cons, List.drop_zero, List.take_succ_cons, List.take_zero]
          iterate 1 (refine wpHeld_step (v := ?_) (by rfl) (fun wz hSw => ?_) ?_; rotate_left; (focus ((try dsimp only at hSw); go_simp; try with_reducible rfl)); ((simp only [Act.put]; (try simp only [List.setIfInBounds_toArray]); (try simp only [List.set_cons_succ]); (try simp only [List.set_cons_zero]))))
          refine wpHeld_nil ?_
          refine wpAnyH_either (i := 9) (j := 23) (by kernel_rfl) rfl rfl (fun K hK => ?_) (fun K hK => ?_)
          · rw [if_pos (by rfl)]
            go_simp
            refine (readerN_any B (q3 st) 4294967295 (by omega) X3 hR3).mono ?_
            rintro e X4 ⟨rfl, hR4, hu⟩
            have hL4 : B < X4.heap.size := Nat.lt_of_lt_of_le hL3 hu.size
            have hB4 : Below w1.heap.size w1 X4 := below_but hB3 hu hBw hB3.size
            refine hK.out _ _ trivial ?_
            clear hK K hu
            refine wpAnyH_takesAt 10 1 9 (of_decide_eq_true (by kernel_rfl)) rfl (fun _ _ _ d _ h => by cases d <;> exact h) (by kernel_rfl) (by kernel_rfl) hHeld ?_
            simp only [List.drop_succ_cons, List.drop_zero, List.take_succ_cons, List.take_zero]
            iterate 1 (refine wpHeld_step (v := ?_) (by rfl) (fun wz hSw => ?_) ?_; rotate_left; (focus ((try dsimp only at hSw); go_simp; try with_reducible rfl)); ((simp only [Act.put]; (try simp only [List.setIfInBounds_toArray]); (try simp only [List.set_cons_succ]); (try simp only [List.set_cons_zero]))))
            refine wpHeld_nil ?_
            refine wpAnyH_either (i := 12) (j := 23) (by kernel_rfl) rfl rfl (fun K hK => ?_) (fun K hK => ?_)
            · rw [if_pos (by rfl)]
              go_simp
              refine (readerText_any B (q4 st) 64 (by omega) X4 hR4).mono ?_
              rintro e X5 ⟨v, rfl, hO5, hR5, hu⟩
              obtain ⟨qn, ln, cn, hv⟩ := own_any_slice hO5
              subst hv
              have hL5 : B < X5.heap.size := Nat.lt_of_lt_of_le hL4 hu.size
              have hB5 : Below w1.heap.size w1 X5 := below_but hB4 hu hBw hB4.size
              refine hK.out _ _ trivial ?_
              clear hK K hu
              refine wpAnyH_strong (S' := fun W => Own X4.heap.size W (.slice qn ln cn) (readText 64 (q4 st)).1) (fun _ _ => trivial) _ _ _ _ ?_
              refine wpAnyH_takesAt 13 1 7 (of_decide_eq_true (by kernel_rfl)) rfl (fun _ _ _ d _ h => by cases d <;> exact h) (by kernel_rfl) (by kernel_rfl) hO5 ?_
              simp only [List.drop_succ_cons, List.drop_zero, List.take_succ_cons, List.take_zero]
              iterate 1 (refine wpHeld_step (v := ?_) (by rfl) (fun wz hSw => ?_) ?_; rotate_left; (focus (have hst := (own_str hSw).here; go_simp; try with_reducible rfl)); ((simp only [Act.put]; (try simp only [List.setIfInBounds_toArray]); (try simp only [List.set_cons_succ]); (try simp only [List.set_cons_zero]))))
              refine wpHeld_nil ?_
              refine wpAnyH_either (i := 15) (j := 23) (by kernel_rfl) rfl rfl (fun K hK => ?_) (fun K hK => ?_)
              · rw [if_pos (by rfl)]
                go_simp
                refine (nextId_any B (q5 st) X5 hR5 Hz.out.q5).mono ?_
                rintro e X6 ⟨rfl, hR6, hu⟩
                have hL6 : B < X6.heap.size := Nat.lt_of_lt_of_le hL5 hu.size
                have hB6 : Below w1.heap.size w1 X6 := below_but hB5 hu hBw hB5.size
                have hO6 := hO5.but hu hL4
                refine hK.out _ _ hO6 ?_
                clear hK K hu
                refine wpAnyH_either (i := 17) (j := 23) (by kernel_rfl) rfl rfl (fun K hK => ?_) (fun K hK => ?_)
                · rw [if_pos (by rfl)]
                  go_simp
                  refine (nextId_any B (q6 st) X6 hR6 Hz.out.q6).mono ?_
                  rintro e X7 ⟨rfl, hR7, hu⟩
                  have hL7 : B < X7.heap.size := Nat.lt_of_lt_of_le hL6 hu.size
                  have hB7 : Below w1.heap.size w1 X7 := below_but hB6 hu hBw hB6.size
                  have hO7 := hO6.but hu hL4
                  refine hK.out _ _ hO7 ?_
                  clear hK K hu
                  refine wpAnyH_either (i := 19) (j := 23) (by kernel_rfl) rfl rfl (fun K hK => ?_) (fun K hK => ?_)
                  · rw [if_pos (by rfl)]
                    go_simp
                    refine (readerN_any B (q7 st) 18446744073709551615 (by omega) X7 hR7).mono ?_
                    rintro e X8 ⟨rfl, hR8, hu⟩
                    have hL8 : B < X8.heap.size := Nat.lt_of_lt_of_le hL7 hu.size
                    have hB8 : Below w1.heap.size w1 X8 := below_but hB7 hu hBw hB7.size
                    have hO8 := hO7.but hu hL4
                    refine hK.out _ _ hO8 ?_
                    clear hK K hu
                    refine wpAnyH_either (i := 21) (j := 23) (by kernel_rfl) rfl rfl (fun K hK => ?_) (fun K hK => ?_)
                    · rw [if_pos (by rfl)]
                      go_simp
                      refine (readerText_any B (q8 st) 110000 (by omega) X8 hR8).mono ?_
                      rintro e X9 ⟨v, rfl, hP9, hR9, hu⟩
                      obtain ⟨qb, lb, cb, hv⟩ := own_any_slice hP9
                      subst hv
                      have hL9 : B < X9.heap.size := Nat.lt_of_lt_of_le hL8 hu.size
                      have hB9 : Below w1.heap.size w1 X9 := below_but hB8 hu hBw hB8.size
                      have hO9 := hO8.but hu hL4
                      refine hK.out _ _ hO9 ?_
                      clear hK K hu
                      refine wpAnyH_takesAt 22 1 2 (of_decide_eq_true (by kernel_rfl)) rfl (fun _ _ _ d _ h => by cases d <;> exact h) (by kernel_rfl) (by kernel_rfl) hO9 ?_
                      simp only [List.drop_succ_cons, List.drop_zero, List.take_succ_cons, List.take_zero]
                      refine wpHeld_step (v := .agg (reqC (.slice qb lb cb) (rdQ st)).toArray) (by rfl) (fun wz _ => ?_) ?_
                      · have hbu := run_build28 (rdQ st) HOk.out qb lb cb wz
                        show (execOp _ ⟨_, Op.build 28 _, _, _, _, _⟩).run Try.prog wz = _
                        unfold execOp
                        simp only [List.map_toArray, List.map_cons, List.map_nil, Sem.run_bind]
                        erw [hbu]
                        rfl
                      (simp only [Act.put]; (try simp only [List.setIfInBounds_toArray]); (try simp only [List.set_cons_succ]); (try simp only [List.set_cons_zero]))
                      refine wpHeld_nil ?_
                      refine wpAnyH_only (i := 23) (by kernel_rfl) rfl (fun K hK => ?_)
                      rw [if_pos (by rfl)]
                      go_simp
                      obtain ⟨X10, hX10⟩ : ∃ X10, X9.alloc (.cells zc28 28) = X10 := ⟨_, rfl⟩
                      have hu : Below X9.heap.size X9 X10 := by rw [← hX10]; exact (Below.refl _ X9).alloc (Nat.le_refl _) _
                      have hG10 : Row X10 X9.heap.size 28 zc28.toList := by rw [← hX10]; exact Row.new X9 28 zc28
                      have hR10 := hR9.later hu
                      have hB10 : Below w1.heap.size w1 X10 := hB9.trans (hu.mono hB9.size)
                      have hL10 : B < X10.heap.size := Nat.lt_of_lt_of_le hL9 hu.size
                      have hO10 := hO9.later hu
                      rw [hX10]
                      have hP10 := hP9.later hu
                      refine hK.out _ _ hO10 ?_
                      clear hK K hu hX10
                      refine wpAnyH_only (i := 24) (by kernel_rfl) rfl (fun K hK => ?_)
                      rw [if_pos (by rfl)]
                      have hbs : But X9.heap.size X10.heap.size X10 (X10.setCells X9.heap.size 0 (reqC (.slice qb lb cb) (rdQ st))) := But.sets _ _ _
                      have hrs : Row (X10.setCells X9.heap.size 0 (reqC (.slice qb lb cb) (rdQ st))) X9.heap.size 28 (reqC (.slice qb lb cb) (rdQ st)) := hG10.sets_all (by rw [reqC_length HOk.out, zero28_len])
                      have hGlt := hG10.lt
                      refine wp_store_mid 28 (.tmp 6) (.tmp 33) rfl (X9.heap.size) 0 (reqC (.slice qb lb cb) (rdQ st)).toArray rfl rfl (by have := hG10.there; rw [zero28_len] at this; simpa [reqC_length HOk.out] using this) (by simpa using size28' HOk.out) (all_oneCell_toArray (reqC_one rfl _)) ?_
                      refine hK.out _ _ (own_row_other hO10 hG10 hbs) ?_
                      clear hK K
                      change wpAnyH _ _ _ _ _ _ _ (Act.put _ none _) _
                      simp only [Act.put]
                      refine wpAnyH_done (by kernel_rfl) ?_ _
                      exact ⟨X9.heap.size, X8.heap.size, lb, cb, qb, _, _, _, _, _, _, _, _, _, _, _, _, _, _, _, _, _, _, _, _, _, _, _, rfl, ⟨HOk.out, hrs⟩, hR10.but hbs hL9, own_row_other hP10 hG10 hbs, below_setCells (by have := hL9; omega) _ _ hB10, hB8.size, hL9⟩
                    · rw [if_pos (by rfl)]
                      go_simp
                      obtain ⟨X9, hX9⟩ : ∃ X9, X8.alloc (.cells zc28 28) = X9 := ⟨_, rfl⟩
                      have hu : Below X8.heap.size X8 X9 := by rw [← hX9]; exact (Below.refl _ X8).alloc (Nat.le_refl _) _
                      have hG9 : Row X9 X8.heap.size 28 zc28.toList := by rw [← hX9]; exact Row.new X8 28 zc28
                      have hR9 := hR8.later hu
                      have hB9 : Below w1.heap.size w1 X9 := hB8.trans (hu.mono hB8.size)
                      have hL9 : B < X9.heap.size := Nat.lt_of_lt_of_le hL8 hu.size
                      have hO9 := hO8.later hu
                      rw [hX9]
                      refine hK.out _ _ hO9 ?_
                      clear hK K hu hX9
                      refine wpAnyH_only (i := 21) (by kernel_rfl) rfl (fun K hK => ?_)
                      rw [if_pos (by rfl)]
                      go_simp
                      refine (readerText_any B (q8 st) 110000 (by omega) X9 hR9).mono ?_
                      rintro e X10 ⟨v, rfl, hP10, hR10, hu⟩
                      obtain ⟨qb, lb, cb, hv⟩ := own_any_slice hP10
                      subst hv
                      have hL10 : B < X10.heap.size := Nat.lt_of_lt_of_le hL9 hu.size
                      have hB10 : Below w1.heap.size w1 X10 := below_but hB9 hu hBw hB9.size
                      have hG10 := hu.row hG9.lt (Nat.ne_of_gt hL8) hG9
                      have hO10 := hO9.but hu hL4
                      refine hK.out _ _ hO10 ?_
                      clear hK K hu
                      refine wpAnyH_takesAt 22 1 1 (of_decide_eq_true (by kernel_rfl)) rfl (fun _ _ _ d _ h => by cases d <;> exact h) (by kernel_rfl) (by kernel_rfl) hO10 ?_
                      simp only [List.drop_succ_cons, List.drop_zero, List.take_succ_cons, List.take_zero]
                      refine wpHeld_step (v := .agg (reqC (.slice qb lb cb) (rdQ st)).toArray) (by rfl) (fun wz _ => ?_) ?_
                      · have hbu := run_build28 (rdQ st) HOk.out qb lb cb wz
                        show (execOp _ ⟨_, Op.build 28 _, _, _, _, _⟩).run Try.prog wz = _
                        unfold execOp
                        simp only [List.map_toArray, List.map_cons, List.map_nil, Sem.run_bind]
                        erw [hbu]
                        rfl
                      (simp only [Act.put]; (try simp only [List.setIfInBounds_toArray]); (try simp only [List.set_cons_succ]); (try simp only [List.set_cons_zero]))
                      refine wpHeld_nil ?_
                      refine wpAnyH_only (i := 24) (by kernel_rfl) rfl (fun K hK => ?_)
                      rw [if_pos (by rfl)]
                      have hbs : But X8.heap.size X10.heap.size X10 (X10.setCells X8.heap.size 0 (reqC (.slice qb lb cb) (rdQ st))) := But.sets _ _ _
                      have hrs : Row (X10.setCells X8.heap.size 0 (reqC (.slice qb lb cb) (rdQ st))) X8.heap.size 28 (reqC (.slice qb lb cb) (rdQ st)) := hG10.sets_all (by rw [reqC_length HOk.out, zero28_len])
                      have hGlt := hG10.lt
                      refine wp_store_mid 28 (.tmp 6) (.tmp 33) rfl (X8.heap.size) 0 (reqC (.slice qb lb cb) (rdQ st)).toArray rfl rfl (by have := hG10.there; rw [zero28_len] at this; simpa [reqC_length HOk.out] using this) (by simpa using size28' HOk.out) (all_oneCell_toArray (reqC_one rfl _)) ?_
                      refine hK.out _ _ (own_row_other hO10 hG10 hbs) ?_
                      clear hK K
                      change wpAnyH _ _ _ _ _ _ _ (Act.put _ none _) _
                      simp only [Act.put]
                      refine wpAnyH_done (by kernel_rfl) ?_ _
                      exact ⟨X8.heap.size, X9.heap.size, lb, cb, qb, _, _, _, _, _, _, _, _, _, _, _, _, _, _, _, _, _, _, _, _, _, _, _, rfl, ⟨HOk.out, hrs⟩, hR10.but hbs hL8, own_row_other hP10 hG10 hbs, below_setCells (by have := hL8; omega) _ _ hB10, hB9.size, hL8⟩
                  · rw [if_pos (by rfl)]
                    go_simp
                    obtain ⟨X8, hX8⟩ : ∃ X8, X7.alloc (.cells zc28 28) = X8 := ⟨_, rfl⟩
                    have hu : Below X7.heap.size X7 X8 := by rw [← hX8]; exact (Below.refl _ X7).alloc (Nat.le_refl _) _
                    have hG8 : Row X8 X7.heap.size 28 zc28.toList := by rw [← hX8]; exact Row.new X7 28 zc28
                    have hR8 := hR7.later hu
                    have hB8 : Below w1.heap.size w1 X8 := hB7.trans (hu.mono hB7.size)
                    have hL8 : B < X8.heap.size := Nat.lt_of_lt_of_le hL7 hu.size
                    have hO8 := hO7.later hu
                    rw [hX8]
                    refine hK.out _ _ hO8 ?_
                    clear hK K hu hX8
                    refine wpAnyH_only (i := 19) (by kernel_rfl) rfl (fun K hK => ?_)
                    rw [if_pos (by rfl)]
                    go_simp
                    refine (readerN_any B (q7 st) 18446744073709551615 (by omega) X8 hR8).mono ?_
                    rintro e X9 ⟨rfl, hR9, hu⟩
                    have hL9 : B < X9.heap.size := Nat.lt_of_lt_of_le hL8 hu.size
                    have hB9 : Below w1.heap.size w1 X9 := below_but hB8 hu hBw hB8.size
                    have hG9 := hu.row hG8.lt (Nat.ne_of_gt hL7) hG8
                    have hO9 := hO8.but hu hL4
                    refine hK.out _ _ hO9 ?_
                    clear hK K hu
                    refine wpAnyH_only (i := 21) (by kernel_rfl) rfl (fun K hK => ?_)
                    rw [if_pos (by rfl)]
                    go_simp
                    refine (readerText_any B (q8 st) 110000 (by omega) X9 hR9).mono ?_
                    rintro e X10 ⟨v, rfl, hP10, hR10, hu⟩
                    obtain ⟨qb, lb, cb, hv⟩ := own_any_slice hP10
                    subst hv
                    have hL10 : B < X10.heap.size := Nat.lt_of_lt_of_le hL9 hu.size
                    have hB10 : Below w1.heap.size w1 X10 := below_but hB9 hu hBw hB9.size
                    have hG10 := hu.row hG9.lt (Nat.ne_of_gt hL7) hG9
                    have hO10 := hO9.but hu hL4
                    refine hK.out _ _ hO10 ?_
                    clear hK K hu
                    refine wpAnyH_takesAt 22 1 1 (of_decide_eq_true (by kernel_rfl)) rfl (fun _ _ _ d _ h => by cases d <;> exact h) (by kernel_rfl) (by kernel_rfl) hO10 ?_
                    simp only [List.drop_succ_cons, List.drop_zero, List.take_succ_cons, List.take_zero]
                    refine wpHeld_step (v := .agg (reqC (.slice qb lb cb) (rdQ st)).toArray) (by rfl) (fun wz _ => ?_) ?_
                    · have hbu := run_build28 (rdQ st) HOk.out qb lb cb wz
                      show (execOp _ ⟨_, Op.build 28 _, _, _, _, _⟩).run Try.prog wz = _
                      unfold execOp
                      simp only [List.map_toArray, List.map_cons, List.map_nil, Sem.run_bind]
                      erw [hbu]
                      rfl
                    (simp only [Act.put]; (try simp only [List.setIfInBounds_toArray]); (try simp only [List.set_cons_succ]); (try simp only [List.set_cons_zero]))
                    refine wpHeld_nil ?_
                    refine wpAnyH_only (i := 24) (by kernel_rfl) rfl (fun K hK => ?_)
                    rw [if_pos (by rfl)]
                    have hbs : But X7.heap.size X10.heap.size X10 (X10.setCells X7.heap.size 0 (reqC (.slice qb lb cb) (rdQ st))) := But.sets _ _ _
                    have hrs : Row (X10.setCells X7.heap.size 0 (reqC (.slice qb lb cb) (rdQ st))) X7.heap.size 28 (reqC (.slice qb lb cb) (rdQ st)) := hG10.sets_all (by rw [reqC_length HOk.out, zero28_len])
                    have hGlt := hG10.lt
                    refine wp_store_mid 28 (.tmp 6) (.tmp 33) rfl (X7.heap.size) 0 (reqC (.slice qb lb cb) (rdQ st)).toArray rfl rfl (by have := hG10.there; rw [zero28_len] at this; simpa [reqC_length HOk.out] using this) (by simpa using size28' HOk.out) (all_oneCell_toArray (reqC_one rfl _)) ?_
                    refine hK.out _ _ (own_row_other hO10 hG10 hbs) ?_
                    clear hK K
                    change wpAnyH _ _ _ _ _ _ _ (Act.put _ none _) _
                    simp only [Act.put]
                    refine wpAnyH_done (by kernel_rfl) ?_ _
                    exact ⟨X7.heap.size, X9.heap.size, lb, cb, qb, _, _, _, _, _, _, _, _, _, _, _, _, _, _, _, _, _, _, _, _, _, _, _, rfl, ⟨HOk.out, hrs⟩, hR10.but hbs hL7, own_row_other hP10 hG10 hbs, below_setCells (by have := hL7; omega) _ _ hB10, hB9.size, hL7⟩
                · rw [if_pos (by rfl)]
                  go_simp
                  obtain ⟨X7, hX7⟩ : ∃ X7, X6.alloc (.cells zc28 28) = X7 := ⟨_, rfl⟩
                  have hu : Below X6.heap.size X6 X7 := by rw [← hX7]; exact (Below.refl _ X6).alloc (Nat.le_refl _) _
                  have hG7 : Row X7 X6.heap.size 28 zc28.toList := by rw [← hX7]; exact Row.new X6 28 zc28
                  have hR7 := hR6.later hu
                  have hB7 : Below w1.heap.size w1 X7 := hB6.trans (hu.mono hB6.size)
                  have hL7 : B < X7.heap.size := Nat.lt_of_lt_of_le hL6 hu.size
                  have hO7 := hO6.later hu
                  rw [hX7]
                  refine hK.out _ _ hO7 ?_
                  clear hK K hu hX7
                  refine wpAnyH_only (i := 17) (by kernel_rfl) rfl (fun K hK => ?_)
                  rw [if_pos (by rfl)]
                  go_simp
                  refine (nextId_any B (q6 st) X7 hR7 Hz.out.q6).mono ?_
                  rintro e X8 ⟨rfl, hR8, hu⟩
                  have hL8 : B < X8.heap.size := Nat.lt_of_lt_of_le hL7 hu.size
                  have hB8 : Below w1.heap.size w1 X8 := below_but hB7 hu hBw hB7.size
                  have hG8 := hu.row hG7.lt (Nat.ne_of_gt hL6) hG7
                  have hO8 := hO7.but hu hL4
                  refine hK.out _ _ hO8 ?_
                  clear hK K hu
                  refine wpAnyH_only (i := 19) (by kernel_rfl) rfl (fun K hK => ?_)
                  rw [if_pos (by rfl)]
                  go_simp
                  refine (readerN_any B (q7 st) 18446744073709551615 (by omega) X8 hR8).mono ?_
                  rintro e X9 ⟨rfl, hR9, hu⟩
                  have hL9 : B < X9.heap.size := Nat.lt_of_lt_of_le hL8 hu.size
                  have hB9 : Below w1.heap.size w1 X9 := below_but hB8 hu hBw hB8.size
                  have hG9 := hu.row hG8.lt (Nat.ne_of_gt hL6) hG8
                  have hO9 := hO8.but hu hL4
                  refine hK.out _ _ hO9 ?_
                  clear hK K hu
                  refine wpAnyH_only (i := 21) (by kernel_rfl) rfl (fun K hK => ?_)
                  rw [if_pos (by rfl)]
                  go_simp
                  refine (readerText_any B (q8 st) 110000 (by omega) X9 hR9).mono ?_
                  rintro e X10 ⟨v, rfl, hP10, hR10, hu⟩
                  obtain ⟨qb, lb, cb, hv⟩ := own_any_slice hP10
                  subst hv
                  have hL10 : B < X10.heap.size := Nat.lt_of_lt_of_le hL9 hu.size
                  have hB10 : Below w1.heap.size w1 X10 := below_but hB9 hu hBw hB9.size
                  have hG10 := hu.row hG9.lt (Nat.ne_of_gt hL6) hG9
                  have hO10 := hO9.but hu hL4
                  refine hK.out _ _ hO10 ?_
                  clear hK K hu
                  refine wpAnyH_takesAt 22 1 1 (of_decide_eq_true (by kernel_rfl)) rfl (fun _ _ _ d _ h => by cases d <;> exact h) (by kernel_rfl) (by kernel_rfl) hO10 ?_
                  simp only [List.drop_succ_cons, List.drop_zero, List.take_succ_cons, List.take_zero]
                  refine wpHeld_step (v := .agg (reqC (.slice qb lb cb) (rdQ st)).toArray) (by rfl) (fun wz _ => ?_) ?_
                  · have hbu := run_build28 (rdQ st) HOk.out qb lb cb wz
                    show (execOp _ ⟨_, Op.build 28 _, _, _, _, _⟩).run Try.prog wz = _
                    unfold execOp
                    simp only [List.map_toArray, List.map_cons, List.map_nil, Sem.run_bind]
                    erw [hbu]
                    rfl
                  (simp only [Act.put]; (try simp only [List.setIfInBounds_toArray]); (try simp only [List.set_cons_succ]); (try simp only [List.set_cons_zero]))
                  refine wpHeld_nil ?_
                  refine wpAnyH_only (i := 24) (by kernel_rfl) rfl (fun K hK => ?_)
                  rw [if_pos (by rfl)]
                  have hbs : But X6.heap.size X10.heap.size X10 (X10.setCells X6.heap.size 0 (reqC (.slice qb lb cb) (rdQ st))) := But.sets _ _ _
                  have hrs : Row (X10.setCells X6.heap.size 0 (reqC (.slice qb lb cb) (rdQ st))) X6.heap.size 28 (reqC (.slice qb lb cb) (rdQ st)) := hG10.sets_all (by rw [reqC_length HOk.out, zero28_len])
                  have hGlt := hG10.lt
                  refine wp_store_mid 28 (.tmp 6) (.tmp 33) rfl (X6.heap.size) 0 (reqC (.slice qb lb cb) (rdQ st)).toArray rfl rfl (by have := hG10.there; rw [zero28_len] at this; simpa [reqC_length HOk.out] using this) (by simpa using size28' HOk.out) (all_oneCell_toArray (reqC_one rfl _)) ?_
                  refine hK.out _ _ (own_row_other hO10 hG10 hbs) ?_
                  clear hK K
                  change wpAnyH _ _ _ _ _ _ _ (Act.put _ none _) _
                  simp only [Act.put]
                  refine wpAnyH_done (by kernel_rfl) ?_ _
                  exact ⟨X6.heap.size, X9.heap.size, lb, cb, qb, _, _, _, _, _, _, _, _, _, _, _, _, _, _, _, _, _, _, _, _, _, _, _, rfl, ⟨HOk.out, hrs⟩, hR10.but hbs hL6, own_row_other hP10 hG10 hbs, below_setCells (by have := hL6; omega) _ _ hB10, hB9.size, hL6⟩
              · rw [if_pos (by rfl)]
                go_simp
                obtain ⟨X6, hX6⟩ : ∃ X6, X5.alloc (.cells zc28 28) = X6 := ⟨_, rfl⟩
                have hu : Below X5.heap.size X5 X6 := by rw [← hX6]; exact (Below.refl _ X5).alloc (Nat.le_refl _) _
                have hG6 : Row X6 X5.heap.size 28 zc28.toList := by rw [← hX6]; exact Row.new X5 28 zc28
                have hR6 := hR5.later hu
                have hB6 : Below w1.heap.size w1 X6 := hB5.trans (hu.mono hB5.size)
                have hL6 : B < X6.heap.size := Nat.lt_of_lt_of_le hL5 hu.size
                have hO6 := hO5.later hu
                rw [hX6]
                refine hK.out _ _ hO6 ?_
                clear hK K hu hX6
                refine wpAnyH_only (i := 15) (by kernel_rfl) rfl (fun K hK => ?_)
                rw [if_pos (by rfl)]
                go_simp
                refine (nextId_any B (q5 st) X6 hR6 Hz.out.q5).mono ?_
                rintro e X7 ⟨rfl, hR7, hu⟩
                have hL7 : B < X7.heap.size := Nat.lt_of_lt_of_le hL6 hu.size
                have hB7 : Below w1.heap.size w1 X7 := below_but hB6 hu hBw hB6.size
                have hG7 := hu.row hG6.lt (Nat.ne_of_gt hL5) hG6
                have hO7 := hO6.but hu hL4
                refine hK.out _ _ hO7 ?_
                clear hK K hu
                refine wpAnyH_only (i := 17) (by kernel_rfl) rfl (fun K hK => ?_)
                rw [if_pos (by rfl)]
                go_simp
                refine (nextId_any B (q6 st) X7 hR7 Hz.out.q6).mono ?_
                rintro e X8 ⟨rfl, hR8, hu⟩
                have hL8 : B < X8.heap.size := Nat.lt_of_lt_of_le hL7 hu.size
                have hB8 : Below w1.heap.size w1 X8 := below_but hB7 hu hBw hB7.size
                have hG8 := hu.row hG7.lt (Nat.ne_of_gt hL5) hG7
                have hO8 := hO7.but hu hL4
                refine hK.out _ _ hO8 ?_
                clear hK K hu
                refine wpAnyH_only (i := 19) (by kernel_rfl) rfl (fun K hK => ?_)
                rw [if_pos (by rfl)]
                go_simp
                refine (readerN_any B (q7 st) 18446744073709551615 (by omega) X8 hR8).mono ?_
                rintro e X9 ⟨rfl, hR9, hu⟩
                have hL9 : B < X9.heap.size := Nat.lt_of_lt_of_le hL8 hu.size
                have hB9 : Below w1.heap.size w1 X9 := below_but hB8 hu hBw hB8.size
                have hG9 := hu.row hG8.lt (Nat.ne_of_gt hL5) hG8
                have hO9 := hO8.but hu hL4
                refine hK.out _ _ hO9 ?_
                clear hK K hu
                refine wpAnyH_only (i := 21) (by kernel_rfl) rfl (fun K hK => ?_)
                rw [if_pos (by rfl)]
                go_simp
                refine (readerText_any B (q8 st) 110000 (by omega) X9 hR9).mono ?_
                rintro e X10 ⟨v, rfl, hP10, hR10, hu⟩
                obtain ⟨qb, lb, cb, hv⟩ := own_any_slice hP10
                subst hv
                have hL10 : B < X10.heap.size := Nat.lt_of_lt_of_le hL9 hu.size
                have hB10 : Below w1.heap.size w1 X10 := below_but hB9 hu hBw hB9.size
                have hG10 := hu.row hG9.lt (Nat.ne_of_gt hL5) hG9
                have hO10 := hO9.but hu hL4
                refine hK.out _ _ hO10 ?_
                clear hK K hu
                refine wpAnyH_takesAt 22 1 1 (of_decide_eq_true (by kernel_rfl)) rfl (fun _ _ _ d _ h => by cases d <;> exact h) (by kernel_rfl) (by kernel_rfl) hO10 ?_
                simp only [List.drop_succ_cons, List.drop_zero, List.take_succ_cons, List.take_zero]
                refine wpHeld_step (v := .agg (reqC (.slice qb lb cb) (rdQ st)).toArray) (by rfl) (fun wz _ => ?_) ?_
                · have hbu := run_build28 (rdQ st) HOk.out qb lb cb wz
                  show (execOp _ ⟨_, Op.build 28 _, _, _, _, _⟩).run Try.prog wz = _
                  unfold execOp
                  simp only [List.map_toArray, List.map_cons, List.map_nil, Sem.run_bind]
                  erw [hbu]
                  rfl
                (simp only [Act.put]; (try simp only [List.setIfInBounds_toArray]); (try simp only [List.set_cons_succ]); (try simp only [List.set_cons_zero]))
                refine wpHeld_nil ?_
                refine wpAnyH_only (i := 24) (by kernel_rfl) rfl (fun K hK => ?_)
                rw [if_pos (by rfl)]
                have hbs : But X5.heap.size X10.heap.size X10 (X10.setCells X5.heap.size 0 (reqC (.slice qb lb cb) (rdQ st))) := But.sets _ _ _
                have hrs : Row (X10.setCells X5.heap.size 0 (reqC (.slice qb lb cb) (rdQ st))) X5.heap.size 28 (reqC (.slice qb lb cb) (rdQ st)) := hG10.sets_all (by rw [reqC_length HOk.out, zero28_len])
                have hGlt := hG10.lt
                refine wp_store_mid 28 (.tmp 6) (.tmp 33) rfl (X5.heap.size) 0 (reqC (.slice qb lb cb) (rdQ st)).toArray rfl rfl (by have := hG10.there; rw [zero28_len] at this; simpa [reqC_length HOk.out] using this) (by simpa using size28' HOk.out) (all_oneCell_toArray (reqC_one rfl _)) ?_
                refine hK.out _ _ (own_row_other hO10 hG10 hbs) ?_
                clear hK K
                change wpAnyH _ _ _ _ _ _ _ (Act.put _ none _) _
                simp only [Act.put]
                refine wpAnyH_done (by kernel_rfl) ?_ _
                exact ⟨X5.heap.size, X9.heap.size, lb, cb, qb, _, _, _, _, _, _, _, _, _, _, _, _, _, _, _, _, _, _, _, _, _, _, _, rfl, ⟨HOk.out, hrs⟩, hR10.but hbs hL5, own_row_other hP10 hG10 hbs, below_setCells (by have := hL5; omega) _ _ hB10, hB9.size, hL5⟩
            · rw [if_pos (by rfl)]
              go_simp
              obtain ⟨X5, hX5⟩ : ∃ X5, X4.alloc (.cells zc28 28) = X5 := ⟨_, rfl⟩
              have hu : Below X4.heap.size X4 X5 := by rw [← hX5]; exact (Below.refl _ X4).alloc (Nat.le_refl _) _
              have hG5 : Row X5 X4.heap.size 28 zc28.toList := by rw [← hX5]; exact Row.new X4 28 zc28
              have hR5 := hR4.later hu
              have hB5 : Below w1.heap.size w1 X5 := hB4.trans (hu.mono hB4.size)
              have hL5 : B < X5.heap.size := Nat.lt_of_lt_of_le hL4 hu.size
              rw [hX5]
              refine hK.out _ _ trivial ?_
              clear hK K hu hX5
              refine wpAnyH_only (i := 12) (by kernel_rfl) rfl (fun K hK => ?_)
              rw [if_pos (by rfl)]
              go_simp
              refine (readerText_any B (q4 st) 64 (by omega) X5 hR5).mono ?_
              rintro e X6 ⟨v, rfl, hO6, hR6, hu⟩
              obtain ⟨qn, ln, cn, hv⟩ := own_any_slice hO6
              subst hv
              have hL6 : B < X6.heap.size := Nat.lt_of_lt_of_le hL5 hu.size
              have hB6 : Below w1.heap.size w1 X6 := below_but hB5 hu hBw hB5.size
              have hG6 := hu.row hG5.lt (Nat.ne_of_gt hL4) hG5
              refine hK.out _ _ trivial ?_
              clear hK K hu
              refine wpAnyH_strong (S' := fun W => Own X5.heap.size W (.slice qn ln cn) (readText 64 (q4 st)).1) (fun _ _ => trivial) _ _ _ _ ?_
              refine wpAnyH_takesAt 13 1 6 (of_decide_eq_true (by kernel_rfl)) rfl (fun _ _ _ d _ h => by cases d <;> exact h) (by kernel_rfl) (by kernel_rfl) hO6 ?_
              simp only [List.drop_succ_cons, List.drop_zero, List.take_succ_cons, List.take_zero]
              iterate 1 (refine wpHeld_step (v := ?_) (by rfl) (fun wz hSw => ?_) ?_; rotate_left; (focus (have hst := (own_str hSw).here; go_simp; try with_reducible rfl)); ((simp only [Act.put]; (try simp only [List.setIfInBounds_toArray]); (try simp only [List.set_cons_succ]); (try simp only [List.set_cons_zero]))))
              refine wpHeld_nil ?_
              refine wpAnyH_only (i := 15) (by kernel_rfl) rfl (fun K hK => ?_)
              rw [if_pos (by rfl)]
              go_simp
              refine (nextId_any B (q5 st) X6 hR6 Hz.out.q5).mono ?_
              rintro e X7 ⟨rfl, hR7, hu⟩
              have hL7 : B < X7.heap.size := Nat.lt_of_lt_of_le hL6 hu.size
              have hB7 : Below w1.heap.size w1 X7 := below_but hB6 hu hBw hB6.size
              have hG7 := hu.row hG6.lt (Nat.ne_of_gt hL4) hG6
              have hO7 := hO6.but hu hL5
              refine hK.out _ _ hO7 ?_
              clear hK K hu
              refine wpAnyH_only (i := 17) (by kernel_rfl) rfl (fun K hK => ?_)
              rw [if_pos (by rfl)]
              go_simp
              refine (nextId_any B (q6 st) X7 hR7 Hz.out.q6).mono ?_
              rintro e X8 ⟨rfl, hR8, hu⟩
              have hL8 : B < X8.heap.size := Nat.lt_of_lt_of_le hL7 hu.size
              have hB8 : Below w1.heap.size w1 X8 := below_but hB7 hu hBw hB7.size
              have hG8 := hu.row hG7.lt (Nat.ne_of_gt hL4) hG7
              have hO8 := hO7.but hu hL5
              refine hK.out _ _ hO8 ?_
              clear hK K hu
              refine wpAnyH_only (i := 19) (by kernel_rfl) rfl (fun K hK => ?_)
              rw [if_pos (by rfl)]
              go_simp
              refine (readerN_any B (q7 st) 18446744073709551615 (by omega) X8 hR8).mono ?_
              rintro e X9 ⟨rfl, hR9, hu⟩
              have hL9 : B < X9.heap.size := Nat.lt_of_lt_of_le hL8 hu.size
              have hB9 : Below w1.heap.size w1 X9 := below_but hB8 hu hBw hB8.size
              have hG9 := hu.row hG8.lt (Nat.ne_of_gt hL4) hG8
              have hO9 := hO8.but hu hL5
              refine hK.out _ _ hO9 ?_
              clear hK K hu
              refine wpAnyH_only (i := 21) (by kernel_rfl) rfl (fun K hK => ?_)
              rw [if_pos (by rfl)]
              go_simp
              refine (readerText_any B (q8 st) 110000 (by omega) X9 hR9).mono ?_
              rintro e X10 ⟨v, rfl, hP10, hR10, hu⟩
              obtain ⟨qb, lb, cb, hv⟩ := own_any_slice hP10
              subst hv
              have hL10 : B < X10.heap.size := Nat.lt_of_lt_of_le hL9 hu.size
              have hB10 : Below w1.heap.size w1 X10 := below_but hB9 hu hBw hB9.size
              have hG10 := hu.row hG9.lt (Nat.ne_of_gt hL4) hG9
              have hO10 := hO9.but hu hL5
              refine hK.out _ _ hO10 ?_
              clear hK K hu
              refine wpAnyH_takesAt 22 1 1 (of_decide_eq_true (by kernel_rfl)) rfl (fun _ _ _ d _ h => by cases d <;> exact h) (by kernel_rfl) (by kernel_rfl) hO10 ?_
              simp only [List.drop_succ_cons, List.drop_zero, List.take_succ_cons, List.take_zero]
              refine wpHeld_step (v := .agg (reqC (.slice qb lb cb) (rdQ st)).toArray) (by rfl) (fun wz _ => ?_) ?_
              · have hbu := run_build28 (rdQ st) HOk.out qb lb cb wz
                show (execOp _ ⟨_, Op.build 28 _, _, _, _, _⟩).run Try.prog wz = _
                unfold execOp
                simp only [List.map_toArray, List.map_cons, List.map_nil, Sem.run_bind]
                erw [hbu]
                rfl
              (simp only [Act.put]; (try simp only [List.setIfInBounds_toArray]); (try simp only [List.set_cons_succ]); (try simp only [List.set_cons_zero]))
              refine wpHeld_nil ?_
              refine wpAnyH_only (i := 24) (by kernel_rfl) rfl (fun K hK => ?_)
              rw [if_pos (by rfl)]
              have hbs : But X4.heap.size X10.heap.size X10 (X10.setCells X4.heap.size 0 (reqC (.slice qb lb cb) (rdQ st))) := But.sets _ _ _
              have hrs : Row (X10.setCells X4.heap.size 0 (reqC (.slice qb lb cb) (rdQ st))) X4.heap.size 28 (reqC (.slice qb lb cb) (rdQ st)) := hG10.sets_all (by rw [reqC_length HOk.out, zero28_len])
              have hGlt := hG10.lt
              refine wp_store_mid 28 (.tmp 6) (.tmp 33) rfl (X4.heap.size) 0 (reqC (.slice qb lb cb) (rdQ st)).toArray rfl rfl (by have := hG10.there; rw [zero28_len] at this; simpa [reqC_length HOk.out] using this) (by simpa using size28' HOk.out) (all_oneCell_toArray (reqC_one rfl _)) ?_
              refine hK.out _ _ (own_row_other hO10 hG10 hbs) ?_
              clear hK K
              change wpAnyH _ _ _ _ _ _ _ (Act.put _ none _) _
              simp only [Act.put]
              refine wpAnyH_done (by kernel_rfl) ?_ _
              exact ⟨X4.heap.size, X9.heap.size, lb, cb, qb, _, _, _, _, _, _, _, _, _, _, _, _, _, _, _, _, _, _, _, _, _, _, _, rfl, ⟨HOk.out, hrs⟩, hR10.but hbs hL4, own_row_other hP10 hG10 hbs, below_setCells (by have := hL4; omega) _ _ hB10, hB9.size, hL4⟩
          · rw [if_pos (by rfl)]
            go_simp
            obtain ⟨X4, hX4⟩ : ∃ X4, X3.alloc (.cells zc28 28) = X4 := ⟨_, rfl⟩
            have hu : Below X3.heap.size X3 X4 := by rw [← hX4]; exact (Below.refl _ X3).alloc (Nat.le_refl _) _
            have hG4 : Row X4 X3.heap.size 28 zc28.toList := by rw [← hX4]; exact Row.new X3 28 zc28
            have hR4 := hR3.later hu
            have hB4 : Below w1.heap.size w1 X4 := hB3.trans (hu.mono hB3.size)
            have hL4 : B < X4.heap.size := Nat.lt_of_lt_of_le hL3 hu.size
            rw [hX4]
            refine hK.out _ _ trivial ?_
            clear hK K hu hX4
            refine wpAnyH_only (i := 9) (by kernel_rfl) rfl (fun K hK => ?_)
            rw [if_pos (by rfl)]
            go_simp
            refine (readerN_any B (q3 st) 4294967295 (by omega) X4 hR4).mono ?_
            rintro e X5 ⟨rfl, hR5, hu⟩
            have hL5 : B < X5.heap.size := Nat.lt_of_lt_of_le hL4 hu.size
            have hB5 : Below w1.heap.size w1 X5 := below_but hB4 hu hBw hB4.size
            have hG5 := hu.row hG4.lt (Nat.ne_of_gt hL3) hG4
            refine hK.out _ _ trivial ?_
            clear hK K hu
            refine wpAnyH_takesAt 10 1 8 (of_decide_eq_true (by kernel_rfl)) rfl (fun _ _ _ d _ h => by cases d <;> exact h) (by kernel_rfl) (by kernel_rfl) hHeld ?_
            simp only [List.drop_succ_cons, List.drop_zero, List.take_succ_cons, List.take_zero]
            iterate 1 (refine wpHeld_step (v := ?_) (by rfl) (fun wz hSw => ?_) ?_; rotate_left; (focus ((try dsimp only at hSw); go_simp; try with_reducible rfl)); ((simp only [Act.put]; (try simp only [List.setIfInBounds_toArray]); (try simp only [List.set_cons_succ]); (try simp only [List.set_cons_zero]))))
            refine wpHeld_nil ?_
            refine wpAnyH_only (i := 12) (by kernel_rfl) rfl (fun K hK => ?_)
            rw [if_pos (by rfl)]
            go_simp
            refine (readerText_any B (q4 st) 64 (by omega) X5 hR5).mono ?_
            rintro e X6 ⟨v, rfl, hO6, hR6, hu⟩
            obtain ⟨qn, ln, cn, hv⟩ := own_any_slice hO6
            subst hv
            have hL6 : B < X6.heap.size := Nat.lt_of_lt_of_le hL5 hu.size
            have hB6 : Below w1.heap.size w1 X6 := below_but hB5 hu hBw hB5.size
            have hG6 := hu.row hG5.lt (Nat.ne_of_gt hL3) hG5
            refine hK.out _ _ trivial ?_
            clear hK K hu
            refine wpAnyH_strong (S' := fun W => Own X5.heap.size W (.slice qn ln cn) (readText 64 (q4 st)).1) (fun _ _ => trivial) _ _ _ _ ?_
            refine wpAnyH_takesAt 13 1 6 (of_decide_eq_true (by kernel_rfl)) rfl (fun _ _ _ d _ h => by cases d <;> exact h) (by kernel_rfl) (by kernel_rfl) hO6 ?_
            simp only [List.drop_succ_cons, List.drop_zero, List.take_succ_cons, List.take_zero]
            iterate 1 (refine wpHeld_step (v := ?_) (by rfl) (fun wz hSw => ?_) ?_; rotate_left; (focus (have hst := (own_str hSw).here; go_simp; try with_reducible rfl)); ((simp only [Act.put]; (try simp only [List.setIfInBounds_toArray]); (try simp only [List.set_cons_succ]); (try simp only [List.set_cons_zero]))))
            refine wpHeld_nil ?_
            refine wpAnyH_only (i := 15) (by kernel_rfl) rfl (fun K hK => ?_)
            rw [if_pos (by rfl)]
            go_simp
            refine (nextId_any B (q5 st) X6 hR6 Hz.out.q5).mono ?_
            rintro e X7 ⟨rfl, hR7, hu⟩
            have hL7 : B < X7.heap.size := Nat.lt_of_lt_of_le hL6 hu.size
            have hB7 : Below w1.heap.size w1 X7 := below_but hB6 hu hBw hB6.size
            have hG7 := hu.row hG6.lt (Nat.ne_of_gt hL3) hG6
            have hO7 := hO6.but hu hL5
            refine hK.out _ _ hO7 ?_
            clear hK K hu
            refine wpAnyH_only (i := 17) (by kernel_rfl) rfl (fun K hK => ?_)
            rw [if_pos (by rfl)]
            go_simp
            refine (nextId_any B (q6 st) X7 hR7 Hz.out.q6).mono ?_
            rintro e X8 ⟨rfl, hR8, hu⟩
            have hL8 : B < X8.heap.size := Nat.lt_of_lt_of_le hL7 hu.size
            have hB8 : Below w1.heap.size w1 X8 := below_but hB7 hu hBw hB7.size
            have hG8 := hu.row hG7.lt (Nat.ne_of_gt hL3) hG7
            have hO8 := hO7.but hu hL5
            refine hK.out _ _ hO8 ?_
            clear hK K hu
            refine wpAnyH_only (i := 19) (by kernel_rfl) rfl (fun K hK => ?_)
            rw [if_pos (by rfl)]
            go_simp
            refine (readerN_any B (q7 st) 18446744073709551615 (by omega) X8 hR8).mono ?_
            rintro e X9 ⟨rfl, hR9, hu⟩
            have hL9 : B < X9.heap.size := Nat.lt_of_lt_of_le hL8 hu.size
            have hB9 : Below w1.heap.size w1 X9 := below_but hB8 hu hBw hB8.size
            have hG9 := hu.row hG8.lt (Nat.ne_of_gt hL3) hG8
            have hO9 := hO8.but hu hL5
            refine hK.out _ _ hO9 ?_
            clear hK K hu
            refine wpAnyH_only (i := 21) (by kernel_rfl) rfl (fun K hK => ?_)
            rw [if_pos (by rfl)]
            go_simp
            refine (readerText_any B (q8 st) 110000 (by omega) X9 hR9).mono ?_
            rintro e X10 ⟨v, rfl, hP10, hR10, hu⟩
            obtain ⟨qb, lb, cb, hv⟩ := own_any_slice hP10
            subst hv
            have hL10 : B < X10.heap.size := Nat.lt_of_lt_of_le hL9 hu.size
            have hB10 : Below w1.heap.size w1 X10 := below_but hB9 hu hBw hB9.size
            have hG10 := hu.row hG9.lt (Nat.ne_of_gt hL3) hG9
            have hO10 := hO9.but hu hL5
            refine hK.out _ _ hO10 ?_
            clear hK K hu
            refine wpAnyH_takesAt 22 1 1 (of_decide_eq_true (by kernel_rfl)) rfl (fun _ _ _ d _ h => by cases d <;> exact h) (by kernel_rfl) (by kernel_rfl) hO10 ?_
            simp only [List.drop_succ_cons, List.drop_zero, List.take_succ_cons, List.take_zero]
            refine wpHeld_step (v := .agg (reqC (.slice qb lb cb) (rdQ st)).toArray) (by rfl) (fun wz _ => ?_) ?_
            · have hbu := run_build28 (rdQ st) HOk.out qb lb cb wz
              show (execOp _ ⟨_, Op.build 28 _, _, _, _, _⟩).run Try.prog wz = _
              unfold execOp
              simp only [List.map_toArray, List.map_cons, List.map_nil, Sem.run_bind]
              erw [hbu]
              rfl
            (simp only [Act.put]; (try simp only [List.setIfInBounds_toArray]); (try simp only [List.set_cons_succ]); (try simp only [List.set_cons_zero]))
            refine wpHeld_nil ?_
            refine wpAnyH_only (i := 24) (by kernel_rfl) rfl (fun K hK => ?_)
            rw [if_pos (by rfl)]
            have hbs : But X3.heap.size X10.heap.size X10 (X10.setCells X3.heap.size 0 (reqC (.slice qb lb cb) (rdQ st))) := But.sets _ _ _
            have hrs : Row (X10.setCells X3.heap.size 0 (reqC (.slice qb lb cb) (rdQ st))) X3.heap.size 28 (reqC (.slice qb lb cb) (rdQ st)) := hG10.sets_all (by rw [reqC_length HOk.out, zero28_len])
            have hGlt := hG10.lt
            refine wp_store_mid 28 (.tmp 6) (.tmp 33) rfl (X3.heap.size) 0 (reqC (.slice qb lb cb) (rdQ st)).toArray rfl rfl (by have := hG10.there; rw [zero28_len] at this; simpa [reqC_length HOk.out] using this) (by simpa using size28' HOk.out) (all_oneCell_toArray (reqC_one rfl _)) ?_
            refine hK.out _ _ (own_row_other hO10 hG10 hbs) ?_
            clear hK K
            change wpAnyH _ _ _ _ _ _ _ (Act.put _ none _) _
            simp only [Act.put]
            refine wpAnyH_done (by kernel_rfl) ?_ _
            exact ⟨X3.heap.size, X9.heap.size, lb, cb, qb, _, _, _, _, _, _, _, _, _, _, _, _, _, _, _, _, _, _, _, _, _, _, _, rfl, ⟨HOk.out, hrs⟩, hR10.but hbs hL3, own_row_other hP10 hG10 hbs, below_setCells (by have := hL3; omega) _ _ hB10, hB9.size, hL3⟩
        · rw [if_pos (by rfl)]
          go_simp
          obtain ⟨X3, hX3⟩ : ∃ X3, X2.alloc (.cells zc28 28) = X3 := ⟨_, rfl⟩
          have hu : Below X2.heap.size X2 X3 := by rw [← hX3]; exact (Below.refl _ X2).alloc (Nat.le_refl _) _
          have hG3 : Row X3 X2.heap.size 28 zc28.toList := by rw [← hX3]; exact Row.new X2 28 zc28
          have hR3 := hR2.later hu
          have hB3 : Below w1.heap.size w1 X3 := hB2.trans (hu.mono hB2.size)
          have hL3 : B < X3.heap.size := Nat.lt_of_lt_of_le hL2 hu.size
          rw [hX3]
          refine hK.out _ _ trivial ?_
          clear hK K hu hX3
          refine wpAnyH_only (i := 6) (by kernel_rfl) rfl (fun K hK => ?_)
          rw [if_pos (by rfl)]
          go_simp
          refine (readerN_any B (q2 st) 10 (by omega) X3 hR3).mono ?_
          rintro e X4 ⟨rfl, hR4, hu⟩
          have hL4 : B < X4.heap.size := Nat.lt_of_lt_of_le hL3 hu.size
          have hB4 : Below w1.heap.size w1 X4 := below_but hB3 hu hBw hB3.size
          have hG4 := hu.row hG3.lt (Nat.ne_of_gt hL2) hG3
          refine hK.out _ _ trivial ?_
          clear hK K hu
          refine wpAnyH_takesAt 7 1 10 (of_decide_eq_true (by kernel_rfl)) rfl (fun _ _ _ d _ h => by cases d <;> exact h) (by kernel_rfl) (by kernel_rfl) hHeld ?_
          simp only [List.drop_succ_cons, List.drop_zero, List.take_succ_cons, List.take_zero]
          iterate 1 (refine wpHeld_step (v := ?_) (by rfl) (fun wz hSw => ?_) ?_; rotate_left; (focus ((try dsimp only at hSw); go_simp; try with_reducible rfl)); ((simp only [Act.put]; (try simp only [List.setIfInBounds_toArray]); (try simp only [List.set_cons_succ]); (try simp only [List.set_cons_zero]))))
          refine wpHeld_nil ?_
          refine wpAnyH_only (i := 9) (by kernel_rfl) rfl (fun K hK => ?_)
          rw [if_pos (by rfl)]
          go_simp
          refine (readerN_any B (q3 st) 4294967295 (by omega) X4 hR4).mono ?_
          rintro e X5 ⟨rfl, hR5, hu⟩
          have hL5 : B < X5.heap.size := Nat.lt_of_lt_of_le hL4 hu.size
          have hB5 : Below w1.heap.size w1 X5 := below_but hB4 hu hBw hB4.size
          have hG5 := hu.row hG4.lt (Nat.ne_of_gt hL2) hG4
          refine hK.out _ _ trivial ?_
          clear hK K hu
          refine wpAnyH_takesAt 10 1 8 (of_decide_eq_true (by kernel_rfl)) rfl (fun _ _ _ d _ h => by cases d <;> exact h) (by kernel_rfl) (by kernel_rfl) hHeld ?_
          simp only [List.drop_succ_cons, List.drop_zero, List.take_succ_cons, List.take_zero]
          iterate 1 (refine wpHeld_step (v := ?_) (by rfl) (fun wz hSw => ?_) ?_; rotate_left; (focus ((try dsimp only at hSw); go_simp; try with_reducible rfl)); ((simp only [Act.put]; (try simp only [List.setIfInBounds_toArray]); (try simp only [List.set_cons_succ]); (try simp only [List.set_cons_zero]))))
          refine wpHeld_nil ?_
          refine wpAnyH_only (i := 12) (by kernel_rfl) rfl (fun K hK => ?_)
          rw [if_pos (by rfl)]
          go_simp
          refine (readerText_any B (q4 st) 64 (by omega) X5 hR5).mono ?_
          rintro e X6 ⟨v, rfl, hO6, hR6, hu⟩
          obtain ⟨qn, ln, cn, hv⟩ := own_any_slice hO6
          subst hv
          have hL6 : B < X6.heap.size := Nat.lt_of_lt_of_le hL5 hu.size
          have hB6 : Below w1.heap.size w1 X6 := below_but hB5 hu hBw hB5.size
          have hG6 := hu.row hG5.lt (Nat.ne_of_gt hL2) hG5
          refine hK.out _ _ trivial ?_
          clear hK K hu
          refine wpAnyH_strong (S' := fun W => Own X5.heap.size W (.slice qn ln cn) (readText 64 (q4 st)).1) (fun _ _ => trivial) _ _ _ _ ?_
          refine wpAnyH_takesAt 13 1 6 (of_decide_eq_true (by kernel_rfl)) rfl (fun _ _ _ d _ h => by cases d <;> exact h) (by kernel_rfl) (by kernel_rfl) hO6 ?_
          simp only [List.drop_succ_cons, List.drop_zero, List.take_succ_cons, List.take_zero]
          iterate 1 (refine wpHeld_step (v := ?_) (by rfl) (fun wz hSw => ?_) ?_; rotate_left; (focus (have hst := (own_str hSw).here; go_simp; try with_reducible rfl)); ((simp only [Act.put]; (try simp only [List.setIfInBounds_toArray]); (try simp only [List.set_cons_succ]); (try simp only [List.set_cons_zero]))))
          refine wpHeld_nil ?_
          refine wpAnyH_only (i := 15) (by kernel_rfl) rfl (fun K hK => ?_)
          rw [if_pos (by rfl)]
          go_simp
          refine (nextId_any B (q5 st) X6 hR6 Hz.out.q5).mono ?_
          rintro e X7 ⟨rfl, hR7, hu⟩
          have hL7 : B < X7.heap.size := Nat.lt_of_lt_of_le hL6 hu.size
          have hB7 : Below w1.heap.size w1 X7 := below_but hB6 hu hBw hB6.size
          have hG7 := hu.row hG6.lt (Nat.ne_of_gt hL2) hG6
          have hO7 := hO6.but hu hL5
          refine hK.out _ _ hO7 ?_
          clear hK K hu
          refine wpAnyH_only (i := 17) (by kernel_rfl) rfl (fun K hK => ?_)
          rw [if_pos (by rfl)]
          go_simp
          refine (nextId_any B (q6 st) X7 hR7 Hz.out.q6).mono ?_
          rintro e X8 ⟨rfl, hR8, hu⟩
          have hL8 : B < X8.heap.size := Nat.lt_of_lt_of_le hL7 hu.size
          have hB8 : Below w1.heap.size w1 X8 := below_but hB7 hu hBw hB7.size
          have hG8 := hu.row hG7.lt (Nat.ne_of_gt hL2) hG7
          have hO8 := hO7.but hu hL5
          refine hK.out _ _ hO8 ?_
          clear hK K hu
          refine wpAnyH_only (i := 19) (by kernel_rfl) rfl (fun K hK => ?_)
          rw [if_pos (by rfl)]
          go_simp
          refine (readerN_any B (q7 st) 18446744073709551615 (by omega) X8 hR8).mono ?_
          rintro e X9 ⟨rfl, hR9, hu⟩
          have hL9 : B < X9.heap.size := Nat.lt_of_lt_of_le hL8 hu.size
          have hB9 : Below w1.heap.size w1 X9 := below_but hB8 hu hBw hB8.size
          have hG9 := hu.row hG8.lt (Nat.ne_of_gt hL2) hG8
          have hO9 := hO8.but hu hL5
          refine hK.out _ _ hO9 ?_
          clear hK K hu
          refine wpAnyH_only (i := 21) (by kernel_rfl) rfl (fun K hK => ?_)
          rw [if_pos (by rfl)]
          go_simp
          refine (readerText_any B (q8 st) 110000 (by omega) X9 hR9).mono ?_
          rintro e X10 ⟨v, rfl, hP10, hR10, hu⟩
          obtain ⟨qb, lb, cb, hv⟩ := own_any_slice hP10
          subst hv
          have hL10 : B < X10.heap.size := Nat.lt_of_lt_of_le hL9 hu.size
          have hB10 : Below w1.heap.size w1 X10 := below_but hB9 hu hBw hB9.size
          have hG10 := hu.row hG9.lt (Nat.ne_of_gt hL2) hG9
          have hO10 := hO9.but hu hL5
          refine hK.out _ _ hO10 ?_
          clear hK K hu
          refine wpAnyH_takesAt 22 1 1 (of_decide_eq_true (by kernel_rfl)) rfl (fun _ _ _ d _ h => by cases d <;> exact h) (by kernel_rfl) (by kernel_rfl) hO10 ?_
          simp only [List.drop_succ_cons, List.drop_zero, List.take_succ_cons, List.take_zero]
          refine wpHeld_step (v := .agg (reqC (.slice qb lb cb) (rdQ st)).toArray) (by rfl) (fun wz _ => ?_) ?_
          · have hbu := run_build28 (rdQ st) HOk.out qb lb cb wz
            show (execOp _ ⟨_, Op.build 28 _, _, _, _, _⟩).run Try.prog wz = _
            unfold execOp
            simp only [List.map_toArray, List.map_cons, List.map_nil, Sem.run_bind]
            erw [hbu]
            rfl
          (simp only [Act.put]; (try simp only [List.setIfInBounds_toArray]); (try simp only [List.set_cons_succ]); (try simp only [List.set_cons_zero]))
          refine wpHeld_nil ?_
          refine wpAnyH_only (i := 24) (by kernel_rfl) rfl (fun K hK => ?_)
          rw [if_pos (by rfl)]
          have hbs : But X2.heap.size X10.heap.size X10 (X10.setCells X2.heap.size 0 (reqC (.slice qb lb cb) (rdQ st))) := But.sets _ _ _
          have hrs : Row (X10.setCells X2.heap.size 0 (reqC (.slice qb lb cb) (rdQ st))) X2.heap.size 28 (reqC (.slice qb lb cb) (rdQ st)) := hG10.sets_all (by rw [reqC_length HOk.out, zero28_len])
          have hGlt := hG10.lt
          refine wp_store_mid 28 (.tmp 6) (.tmp 33) rfl (X2.heap.size) 0 (reqC (.slice qb lb cb) (rdQ st)).toArray rfl rfl (by have := hG10.there; rw [zero28_len] at this; simpa [reqC_length HOk.out] using this) (by simpa using size28' HOk.out) (all_oneCell_toArray (reqC_one rfl _)) ?_
          refine hK.out _ _ (own_row_other hO10 hG10 hbs) ?_
          clear hK K
          change wpAnyH _ _ _ _ _ _ _ (Act.put _ none _) _
          simp only [Act.put]
          refine wpAnyH_done (by kernel_rfl) ?_ _
          exact ⟨X2.heap.size, X9.heap.size, lb, cb, qb, _, _, _, _, _, _, _, _, _, _, _, _, _, _, _, _, _, _, _, _, _, _, _, rfl, ⟨HOk.out, hrs⟩, hR10.but hbs hL2, own_row_other hP10 hG10 hbs, below_setCells (by have := hL2; omega) _ _ hB10, hB9.size, hL2⟩
      · rw [if_pos (by rfl)]
        go_simp
        obtain ⟨X2, hX2⟩ : ∃ X2, X1.alloc (.cells zc28 28) = X2 := ⟨_, rfl⟩
        have hu : Below X1.heap.size X1 X2 := by rw [← hX2]; exact (Below.refl _ X1).alloc (Nat.le_refl _) _
        have hG2 : Row X2 X1.heap.size 28 zc28.toList := by rw [← hX2]; exact Row.new X1 28 zc28
        have hR2 := hR1.later hu
        have hB2 : Below w1.heap.size w1 X2 := hB1.trans (hu.mono hB1.size)
        have hL2 : B < X2.heap.size := Nat.lt_of_lt_of_le hL1 hu.size
        rw [hX2]
        refine hK.out _ _ trivial ?_
        clear hK K hu hX2
        refine wpAnyH_only (i := 4) (by kernel_rfl) rfl (fun K hK => ?_)
        rw [if_pos (by rfl)]
        go_simp
        refine (readerN_any B (q1 st) 18446744073709551615 (by omega) X2 hR2).mono ?_
        rintro e X3 ⟨rfl, hR3, hu⟩
        have hL3 : B < X3.heap.size := Nat.lt_of_lt_of_le hL2 hu.size
        have hB3 : Below w1.heap.size w1 X3 := below_but hB2 hu hBw hB2.size
        have hG3 := hu.row hG2.lt (Nat.ne_of_gt hL1) hG2
        refine hK.out _ _ trivial ?_
        clear hK K hu
        refine wpAnyH_only (i := 6) (by kernel_rfl) rfl (fun K hK => ?_)
        rw [if_pos (by rfl)]
        go_simp
        refine (readerN_any B (q2 st) 10 (by omega) X3 hR3).mono ?_
        rintro e X4 ⟨rfl, hR4, hu⟩
        have hL4 : B < X4.heap.size := Nat.lt_of_lt_of_le hL3 hu.size
        have hB4 : Below w1.heap.size w1 X4 := below_but hB3 hu hBw hB3.size
        have hG4 := hu.row hG3.lt (Nat.ne_of_gt hL1) hG3
        refine hK.out _ _ trivial ?_
        clear hK K hu
        refine wpAnyH_takesAt 7 1 10 (of_decide_eq_true (by kernel_rfl)) rfl (fun _ _ _ d _ h => by cases d <;> exact h) (by kernel_rfl) (by kernel_rfl) hHeld ?_
        simp only [List.drop_succ_cons, List.drop_zero, List.take_succ_cons, List.take_zero]
        iterate 1 (refine wpHeld_step (v := ?_) (by rfl) (fun wz hSw => ?_) ?_; rotate_left; (focus ((try dsimp only at hSw); go_simp; try with_reducible rfl)); ((simp only [Act.put]; (try simp only [List.setIfInBounds_toArray]); (try simp only [List.set_cons_succ]); (try simp only [List.set_cons_zero]))))
        refine wpHeld_nil ?_
        refine wpAnyH_only (i := 9) (by kernel_rfl) rfl (fun K hK => ?_)
        rw [if_pos (by rfl)]
        go_simp
        refine (readerN_any B (q3 st) 4294967295 (by omega) X4 hR4).mono ?_
        rintro e X5 ⟨rfl, hR5, hu⟩
        have hL5 : B < X5.heap.size := Nat.lt_of_lt_of_le hL4 hu.size
        have hB5 : Below w1.heap.size w1 X5 := below_but hB4 hu hBw hB4.size
        have hG5 := hu.row hG4.lt (Nat.ne_of_gt hL1) hG4
        refine hK.out _ _ trivial ?_
        clear hK K hu
        refine wpAnyH_takesAt 10 1 8 (of_decide_eq_true (by kernel_rfl)) rfl (fun _ _ _ d _ h => by cases d <;> exact h) (by kernel_rfl) (by kernel_rfl) hHeld ?_
        simp only [List.drop_succ_cons, List.drop_zero, List.take_succ_cons, List.take_zero]
        iterate 1 (refine wpHeld_step (v := ?_) (by rfl) (fun wz hSw => ?_) ?_; rotate_left; (focus ((try dsimp only at hSw); go_simp; try with_reducible rfl)); ((simp only [Act.put]; (try simp only [List.setIfInBounds_toArray]); (try simp only [List.set_cons_succ]); (try simp only [List.set_cons_zero]))))
        refine wpHeld_nil ?_
        refine wpAnyH_only (i := 12) (by kernel_rfl) rfl (fun K hK => ?_)
        rw [if_pos (by rfl)]
        go_simp
        refine (readerText_any B (q4 st) 64 (by omega) X5 hR5).mono ?_
        rintro e X6 ⟨v, rfl, hO6, hR6, hu⟩
        obtain ⟨qn, ln, cn, hv⟩ := own_any_slice hO6
        subst hv
        have hL6 : B < X6.heap.size := Nat.lt_of_lt_of_le hL5 hu.size
        have hB6 : Below w1.heap.size w1 X6 := below_but hB5 hu hBw hB5.size
        have hG6 := hu.row hG5.lt (Nat.ne_of_gt hL1) hG5
        refine hK.out _ _ trivial ?_
        clear hK K hu
        refine wpAnyH_strong (S' := fun W => Own X5.heap.size W (.slice qn ln cn) (readText 64 (q4 st)).1) (fun _ _ => trivial) _ _ _ _ ?_
        refine wpAnyH_takesAt 13 1 6 (of_decide_eq_true (by kernel_rfl)) rfl (fun _ _ _ d _ h => by cases d <;> exact h) (by kernel_rfl) (by kernel_rfl) hO6 ?_
        simp only [List.drop_succ_cons, List.drop_zero, List.take_succ_cons, List.take_zero]
        iterate 1 (refine wpHeld_step (v := ?_) (by rfl) (fun wz hSw => ?_) ?_; rotate_left; (focus (have hst := (own_str hSw).here; go_simp; try with_reducible rfl)); ((simp only [Act.put]; (try simp only [List.setIfInBounds_toArray]); (try simp only [List.set_cons_succ]); (try simp only [List.set_cons_zero]))))
        refine wpHeld_nil ?_
        refine wpAnyH_only (i := 15) (by kernel_rfl) rfl (fun K hK => ?_)
        rw [if_pos (by rfl)]
        go_simp
        refine (nextId_any B (q5 st) X6 hR6 Hz.out.q5).mono ?_
        rintro e X7 ⟨rfl, hR7, hu⟩
        have hL7 : B < X7.heap.size := Nat.lt_of_lt_of_le hL6 hu.size
        have hB7 : Below w1.heap.size w1 X7 := below_but hB6 hu hBw hB6.size
        have hG7 := hu.row hG6.lt (Nat.ne_of_gt hL1) hG6
        have hO7 := hO6.but hu hL5
        refine hK.out _ _ hO7 ?_
        clear hK K hu
        refine wpAnyH_only (i := 17) (by kernel_rfl) rfl (fun K hK => ?_)
        rw [if_pos (by rfl)]
        go_simp
        refine (nextId_any B (q6 st) X7 hR7 Hz.out.q6).mono ?_
        rintro e X8 ⟨rfl, hR8, hu⟩
        have hL8 : B < X8.heap.size := Nat.lt_of_lt_of_le hL7 hu.size
        have hB8 : Below w1.heap.size w1 X8 := below_but hB7 hu hBw hB7.size
        have hG8 := hu.row hG7.lt (Nat.ne_of_gt hL1) hG7
        have hO8 := hO7.but hu hL5
        refine hK.out _ _ hO8 ?_
        clear hK K hu
        refine wpAnyH_only (i := 19) (by kernel_rfl) rfl (fun K hK => ?_)
        rw [if_pos (by rfl)]
        go_simp
        refine (readerN_any B (q7 st) 18446744073709551615 (by omega) X8 hR8).mono ?_
        rintro e X9 ⟨rfl, hR9, hu⟩
        have hL9 : B < X9.heap.size := Nat.lt_of_lt_of_le hL8 hu.size
        have hB9 : Below w1.heap.size w1 X9 := below_but hB8 hu hBw hB8.size
        have hG9 := hu.row hG8.lt (Nat.ne_of_gt hL1) hG8
        have hO9 := hO8.but hu hL5
        refine hK.out _ _ hO9 ?_
        clear hK K hu
        refine wpAnyH_only (i := 21) (by kernel_rfl) rfl (fun K hK => ?_)
        rw [if_pos (by rfl)]
        go_simp
        refine (readerText_any B (q8 st) 110000 (by omega) X9 hR9).mono ?_
        rintro e X10 ⟨v, rfl, hP10, hR10, hu⟩
        obtain ⟨qb, lb, cb, hv⟩ := own_any_slice hP10
        subst hv
        have hL10 : B < X10.heap.size := Nat.lt_of_lt_of_le hL9 hu.size
        have hB10 : Below w1.heap.size w1 X10 := below_but hB9 hu hBw hB9.size
        have hG10 := hu.row hG9.lt (Nat.ne_of_gt hL1) hG9
        have hO10 := hO9.but hu hL5
        refine hK.out _ _ hO10 ?_
        clear hK K hu
        refine wpAnyH_takesAt 22 1 1 (of_decide_eq_true (by kernel_rfl)) rfl (fun _ _ _ d _ h => by cases d <;> exact h) (by kernel_rfl) (by kernel_rfl) hO10 ?_
        simp only [List.drop_succ_cons, List.drop_zero, List.take_succ_cons, List.take_zero]
        refine wpHeld_step (v := .agg (reqC (.slice qb lb cb) (rdQ st)).toArray) (by rfl) (fun wz _ => ?_) ?_
        · have hbu := run_build28 (rdQ st) HOk.out qb lb cb wz
          show (execOp _ ⟨_, Op.build 28 _, _, _, _, _⟩).run Try.prog wz = _
          unfold execOp
          simp only [List.map_toArray, List.map_cons, List.map_nil, Sem.run_bind]
          erw [hbu]
          rfl
        (simp only [Act.put]; (try simp only [List.setIfInBounds_toArray]); (try simp only [List.set_cons_succ]); (try simp only [List.set_cons_zero]))
        refine wpHeld_nil ?_
        refine wpAnyH_only (i := 24) (by kernel_rfl) rfl (fun K hK => ?_)
        rw [if_pos (by rfl)]
        have hbs : But X1.heap.size X10.heap.size X10 (X10.setCells X1.heap.size 0 (reqC (.slice qb lb cb) (rdQ st))) := But.sets _ _ _
        have hrs : Row (X10.setCells X1.heap.size 0 (reqC (.slice qb lb cb) (rdQ st))) X1.heap.size 28 (reqC (.slice qb lb cb) (rdQ st)) := hG10.sets_all (by rw [reqC_length HOk.out, zero28_len])
        have hGlt := hG10.lt
        refine wp_store_mid 28 (.tmp 6) (.tmp 33) rfl (X1.heap.size) 0 (reqC (.slice qb lb cb) (rdQ st)).toArray rfl rfl (by have := hG10.there; rw [zero28_len] at this; simpa [reqC_length HOk.out] using this) (by simpa using size28' HOk.out) (all_oneCell_toArray (reqC_one rfl _)) ?_
        refine hK.out _ _ (own_row_other hO10 hG10 hbs) ?_
        clear hK K
        change wpAnyH _ _ _ _ _ _ _ (Act.put _ none _) _
        simp only [Act.put]
        refine wpAnyH_done (by kernel_rfl) ?_ _
        exact ⟨X1.heap.size, X9.heap.size, lb, cb, qb, _, _, _, _, _, _, _, _, _, _, _, _, _, _, _, _, _, _, _, _, _, _, _, rfl, ⟨HOk.out, hrs⟩, hR10.but hbs hL1, own_row_other hP10 hG10 hbs, below_setCells (by have := hL1; omega) _ _ hB10, hB9.size, hL1⟩
    · rw [if_pos (by rfl)]
      go_simp
      obtain ⟨X1, hX1⟩ : ∃ X1, X0.alloc (.cells zc28 28) = X1 := ⟨_, rfl⟩
      have hu : Below X0.heap.size X0 X1 := by rw [← hX1]; exact (Below.refl _ X0).alloc (Nat.le_refl _) _
      have hG1 : Row X1 X0.heap.size 28 zc28.toList := by rw [← hX1]; exact Row.new X0 28 zc28
      have hR1 := hR0.later hu
      have hB1 : Below w1.heap.size w1 X1 := hB0.trans (hu.mono hB0.size)
      have hL1 : B < X1.heap.size := Nat.lt_of_lt_of_le hL0 hu.size
      rw [hX1]
      refine hK.out _ _ trivial ?_
      clear hK K hu hX1
      refine wpAnyH_only (i := 1) (by kernel_rfl) rfl (fun K hK => ?_)
      rw [if_pos (by rfl)]
      go_simp
      refine (readerN_any B st 4294967295 (by omega) X1 hR1).mono ?_
      rintro e X2 ⟨rfl, hR2, hu⟩
      have hL2 : B < X2.heap.size := Nat.lt_of_lt_of_le hL1 hu.size
      have hB2 : Below w1.heap.size w1 X2 := below_but hB1 hu hBw hB1.size
      have hG2 := hu.row hG1.lt (Nat.ne_of_gt hL0) hG1
      refine hK.out _ _ trivial ?_
      clear hK K hu
      refine wpAnyH_takesAt 2 1 13 (of_decide_eq_true (by kernel_rfl)) rfl (fun _ _ _ d _ h => by cases d <;> exact h) (by kernel_rfl) (by kernel_rfl) hHeld ?_
      simp only [List.drop_succ_cons, List.drop_zero, List.take_succ_cons, List.take_zero]
      iterate 1 (refine wpHeld_step (v := ?_) (by rfl) (fun wz hSw => ?_) ?_; rotate_left; (focus ((try dsimp only at hSw); go_simp; try with_reducible rfl)); ((simp only [Act.put]; (try simp only [List.setIfInBounds_toArray]); (try simp only [List.set_cons_succ]); (try simp only [List.set_cons_zero]))))
      refine wpHeld_nil ?_
      refine wpAnyH_only (i := 4) (by kernel_rfl) rfl (fun K hK => ?_)
      rw [if_pos (by rfl)]
      go_simp
      refine (readerN_any B (q1 st) 18446744073709551615 (by omega) X2 hR2).mono ?_
      rintro e X3 ⟨rfl, hR3, hu⟩
      have hL3 : B < X3.heap.size := Nat.lt_of_lt_of_le hL2 hu.size
      have hB3 : Below w1.heap.size w1 X3 := below_but hB2 hu hBw hB2.size
      have hG3 := hu.row hG2.lt (Nat.ne_of_gt hL0) hG2
      refine hK.out _ _ trivial ?_
      clear hK K hu
      refine wpAnyH_only (i := 6) (by kernel_rfl) rfl (fun K hK => ?_)
      rw [if_pos (by rfl)]
      go_simp
      refine (readerN_any B (q2 st) 10 (by omega) X3 hR3).mono ?_
      rintro e X4 ⟨rfl, hR4, hu⟩
      have hL4 : B < X4.heap.size := Nat.lt_of_lt_of_le hL3 hu.size
      have hB4 : Below w1.heap.size w1 X4 := below_but hB3 hu hBw hB3.size
      have hG4 := hu.row hG3.lt (Nat.ne_of_gt hL0) hG3
      refine hK.out _ _ trivial ?_
      clear hK K hu
      refine wpAnyH_takesAt 7 1 10 (of_decide_eq_true (by kernel_rfl)) rfl (fun _ _ _ d _ h => by cases d <;> exact h) (by kernel_rfl) (by kernel_rfl) hHeld ?_
      simp only [List.drop_succ_cons, List.drop_zero, List.take_succ_cons, List.take_zero]
      iterate 1 (refine wpHeld_step (v := ?_) (by rfl) (fun wz hSw => ?_) ?_; rotate_left; (focus ((try dsimp only at hSw); go_simp; try with_reducible rfl)); ((simp only [Act.put]; (try simp only [List.setIfInBounds_toArray]); (try simp only [List.set_cons_succ]); (try simp only [List.set_cons_zero]))))
      refine wpHeld_nil ?_
      refine wpAnyH_only (i := 9) (by kernel_rfl) rfl (fun K hK => ?_)
      rw [if_pos (by rfl)]
      go_simp
      refine (readerN_any B (q3 st) 4294967295 (by omega) X4 hR4).mono ?_
      rintro e X5 ⟨rfl, hR5, hu⟩
      have hL5 : B < X5.heap.size := Nat.lt_of_lt_of_le hL4 hu.size
      have hB5 : Below w1.heap.size w1 X5 := below_but hB4 hu hBw hB4.size
      have hG5 := hu.row hG4.lt (Nat.ne_of_gt hL0) hG4
      refine hK.out _ _ trivial ?_
      clear hK K hu
      refine wpAnyH_takesAt 10 1 8 (of_decide_eq_true (by kernel_rfl)) rfl (fun _ _ _ d _ h => by cases d <;> exact h) (by kernel_rfl) (by kernel_rfl) hHeld ?_
      simp only [List.drop_succ_cons, List.drop_zero, List.take_succ_cons, List.take_zero]
      iterate 1 (refine wpHeld_step (v := ?_) (by rfl) (fun wz hSw => ?_) ?_; rotate_left; (focus ((try dsimp only at hSw); go_simp; try with_reducible rfl)); ((simp only [Act.put]; (try simp only [List.setIfInBounds_toArray]); (try simp only [List.set_cons_succ]); (try simp only [List.set_cons_zero]))))
      refine wpHeld_nil ?_
      refine wpAnyH_only (i := 12) (by kernel_rfl) rfl (fun K hK => ?_)
      rw [if_pos (by rfl)]
      go_simp
      refine (readerText_any B (q4 st) 64 (by omega) X5 hR5).mono ?_
      rintro e X6 ⟨v, rfl, hO6, hR6, hu⟩
      obtain ⟨qn, ln, cn, hv⟩ := own_any_slice hO6
      subst hv
      have hL6 : B < X6.heap.size := Nat.lt_of_lt_of_le hL5 hu.size
      have hB6 : Below w1.heap.size w1 X6 := below_but hB5 hu hBw hB5.size
      have hG6 := hu.row hG5.lt (Nat.ne_of_gt hL0) hG5
      refine hK.out _ _ trivial ?_
      clear hK K hu
      refine wpAnyH_strong (S' := fun W => Own X5.heap.size W (.slice qn ln cn) (readText 64 (q4 st)).1) (fun _ _ => trivial) _ _ _ _ ?_
      refine wpAnyH_takesAt 13 1 6 (of_decide_eq_true (by kernel_rfl)) rfl (fun _ _ _ d _ h => by cases d <;> exact h) (by kernel_rfl) (by kernel_rfl) hO6 ?_
      simp only [List.drop_succ_cons, List.drop_zero, List.take_succ_cons, List.take_zero]
      iterate 1 (refine wpHeld_step (v := ?_) (by rfl) (fun wz hSw => ?_) ?_; rotate_left; (focus (have hst := (own_str hSw).here; go_simp; try with_reducible rfl)); ((simp only [Act.put]; (try simp only [List.setIfInBounds_toArray]); (try simp only [List.set_cons_succ]); (try simp only [List.set_cons_zero]))))
      refine wpHeld_nil ?_
      refine wpAnyH_only (i := 15) (by kernel_rfl) rfl (fun K hK => ?_)
      rw [if_pos (by rfl)]
      go_simp
      refine (nextId_any B (q5 st) X6 hR6 Hz.out.q5).mono ?_
      rintro e X7 ⟨rfl, hR7, hu⟩
      have hL7 : B < X7.heap.size := Nat.lt_of_lt_of_le hL6 hu.size
      have hB7 : Below w1.heap.size w1 X7 := below_but hB6 hu hBw hB6.size
      have hG7 := hu.row hG6.lt (Nat.ne_of_gt hL0) hG6
      have hO7 := hO6.but hu hL5
      refine hK.out _ _ hO7 ?_
      clear hK K hu
      refine wpAnyH_only (i := 17) (by kernel_rfl) rfl (fun K hK => ?_)
      rw [if_pos (by rfl)]
      go_simp
      refine (nextId_any B (q6 st) X7 hR7 Hz.out.q6).mono ?_
      rintro e X8 ⟨rfl, hR8, hu⟩
      have hL8 : B < X8.heap.size := Nat.lt_of_lt_of_le hL7 hu.size
      have hB8 : Below w1.heap.size w1 X8 := below_but hB7 hu hBw hB7.size
      have hG8 := hu.row hG7.lt (Nat.ne_of_gt hL0) hG7
      have hO8 := hO7.but hu hL5
      refine hK.out _ _ hO8 ?_
      clear hK K hu
      refine wpAnyH_only (i := 19) (by kernel_rfl) rfl (fun K hK => ?_)
      rw [if_pos (by rfl)]
      go_simp
      refine (readerN_any B (q7 st) 18446744073709551615 (by omega) X8 hR8).mono ?_
      rintro e X9 ⟨rfl, hR9, hu⟩
      have hL9 : B < X9.heap.size := Nat.lt_of_lt_of_le hL8 hu.size
      have hB9 : Below w1.heap.size w1 X9 := below_but hB8 hu hBw hB8.size
      have hG9 := hu.row hG8.lt (Nat.ne_of_gt hL0) hG8
      have hO9 := hO8.but hu hL5
      refine hK.out _ _ hO9 ?_
      clear hK K hu
      refine wpAnyH_only (i := 21) (by kernel_rfl) rfl (fun K hK => ?_)
      rw [if_pos (by rfl)]
      go_simp
      refine (readerText_any B (q8 st) 110000 (by omega) X9 hR9).mono ?_
      rintro e X10 ⟨v, rfl, hP10, hR10, hu⟩
      obtain ⟨qb, lb, cb, hv⟩ := own_any_slice hP10
      subst hv
      have hL10 : B < X10.heap.size := Nat.lt_of_lt_of_le hL9 hu.size
      have hB10 : Below w1.heap.size w1 X10 := below_but hB9 hu hBw hB9.size
      have hG10 := hu.row hG9.lt (Nat.ne_of_gt hL0) hG9
      have hO10 := hO9.but hu hL5
      refine hK.out _ _ hO10 ?_
      clear hK K hu
      refine wpAnyH_takesAt 22 1 1 (of_decide_eq_true (by kernel_rfl)) rfl (fun _ _ _ d _ h => by cases d <;> exact h) (by kernel_rfl) (by kernel_rfl) hO10 ?_
      simp only [List.drop_succ_cons, List.drop_zero, List.take_succ_cons, List.take_zero]
      refine wpHeld_step (v := .agg (reqC (.slice qb lb cb) (rdQ st)).toArray) (by rfl) (fun wz _ => ?_) ?_
      · have hbu := run_build28 (rdQ st) HOk.out qb lb cb wz
        show (execOp _ ⟨_, Op.build 28 _, _, _, _, _⟩).run Try.prog wz = _
        unfold execOp
        simp only [List.map_toArray, List.map_cons, List.map_nil, Sem.run_bind]
        erw [hbu]
        rfl
      (simp only [Act.put]; (try simp only [List.setIfInBounds_toArray]); (try simp only [List.set_cons_succ]); (try simp only [List.set_cons_zero]))
      refine wpHeld_nil ?_
      refine wpAnyH_only (i := 24) (by kernel_rfl) rfl (fun K hK => ?_)
      rw [if_pos (by rfl)]
      have hbs : But X0.heap.size X10.heap.size X10 (X10.setCells X0.heap.size 0 (reqC (.slice qb lb cb) (rdQ st))) := But.sets _ _ _
      have hrs : Row (X10.setCells X0.heap.size 0 (reqC (.slice qb lb cb) (rdQ st))) X0.heap.size 28 (reqC (.slice qb lb cb) (rdQ st)) := hG10.sets_all (by rw [reqC_length HOk.out, zero28_len])
      have hGlt := hG10.lt
      refine wp_store_mid 28 (.tmp 6) (.tmp 33) rfl (X0.heap.size) 0 (reqC (.slice qb lb cb) (rdQ st)).toArray rfl rfl (by have := hG10.there; rw [zero28_len] at this; simpa [reqC_length HOk.out] using this) (by simpa using size28' HOk.out) (all_oneCell_toArray (reqC_one rfl _)) ?_
      refine hK.out _ _ (own_row_other hO10 hG10 hbs) ?_
      clear hK K
      change wpAnyH _ _ _ _ _ _ _ (Act.put _ none _) _
      simp only [Act.put]
      refine wpAnyH_done (by kernel_rfl) ?_ _
      exact ⟨X0.heap.size, X9.heap.size, lb, cb, qb, _, _, _, _, _, _, _, _, _, _, _, _, _, _, _, _, _, _, _, _, _, _, _, rfl, ⟨HOk.out, hrs⟩, hR10.but hbs hL0, own_row_other hP10 hG10 hbs, below_setCells (by have := hL0; omega) _ _ hB10, hB9.size, hL0⟩
  case tail =>
    rintro a' w4 ⟨G, nB, lb, cb, qb, s11, s12, s13, s14, s15, s16, s17, s18, s19, s20, s21, s22, s23, s24, s25, s26, s27, s28, s29, s30, s31, s32, s33, rfl, hE4, hR4, hO4, hB4, hnB, hBG⟩
    have HE4 : Hid (ReqAt w4 G (.slice qb lb cb) (rdQ st)) := hE4
    have HR4 : Hid (RdAt w4 B (q9 st)) := hR4
    have HO4 : Hid (Own nB w4 (.slice qb lb cb) (bdQ st)) := hO4
    have HB4 : Hid (Below w1.heap.size w1 w4) := hB4
    have HRR4 : Hid (Row w4 w.heap.size 28 (reqC (.slice none 0 0) noReq)) := HR1.out.below hB4 (by omega)
    have HBz : Hid (Try.prog.built 28 [] = some (reqC (.slice none 0 0) noReq).toArray) := built28z
    obtain ⟨lb', hlb⟩ : ∃ l, (bdQ st).length = l := ⟨_, rfl⟩
    have hlb2 : lb = lb' := by
      obtain ⟨q9', c9', h9⟩ := own_len hO4 hlb
      cases h9
      rfl
    subst hlb2
    have HM : Hid (Calls Try.prog 22 #[.agg (reqC (.slice qb lb cb) (rdQ st)).toArray] w4 fun e w' => e = .returned (.bool (mayQ (rdQ st) (bdQ st))) ∧ Below w4.heap.size w4 w') := mayAsk_any qb lb cb (bdQ st) (rdQ st) HOk.out hlb (by have := HNm.out; omega) w4
    clear hE4 hR4 hO4 hB4 HR1 HR3 HB3 HR2 c1 c3 c4 hlb
    by_cases hE : endE (q9 st) = 0
    · by_cases hA : A = 1
      · subst hA
        cases hM : mayQ (rdQ st) (bdQ st) with
        | true =>
          rw [hM] at HM
          have HV : Hid (iq = true) := by show _ = _; rw [HQ.out, decide_eq_true hE, hM]; rfl
          have HE : Hid (endE (q9 st) = 0) := hE
          clear hE
          go_wp2_with (first
            | (go_at_call 33; refine (end_any B (q9 st) w4 HR4.out).mono ?_; rintro e w4' ⟨rfl, hw4⟩; obtain rfl : w4 = w4' := hw4.symm; clear hw4; rw [HE.out])
            | ((with_reducible show wpList _ _ _ (Oper.mk (some 42) (Op.load 28 (.tmp 6)) _ _ _ _ :: _) _ _); refine BigFrame.wpList_want (by rfl) fun _ hK => wp_load_mid 28 (.tmp 6) rfl G 0 rfl (reqC (.slice qb lb cb) (rdQ st)) _ HE4.out.row.range Try.underlying28 rfl (size28' HOk.out) (hK _ _ ?_); simp only [Act.put, List.setIfInBounds_toArray, List.set_cons_zero, List.set_cons_succ])
            | (go_at_call 22; refine HM.out.mono ?_; rintro e w5 ⟨rfl, hb5⟩; have HRR5 : Hid (Row w5 w.heap.size 28 (reqC (.slice none 0 0) noReq)) := HRR4.out.later hb5; have HE5 : Hid (ReqAt w5 G (.slice qb lb cb) (rdQ st)) := HE4.out.later hb5; have HO5 : Hid (Own nB w5 (.slice qb lb cb) (bdQ st)) := HO4.out.later hb5; have HB5 : Hid (Below w1.heap.size w1 w5) := HB4.out.trans (hb5.mono HB4.out.size); clear hb5)
            | ((with_reducible show wpList _ _ _ (Oper.mk (some 47) (Op.load 28 (.tmp 6)) _ _ _ _ :: _) _ _); refine wpList_loadReq rfl (.tmp 6) rfl rfl HOk.out HE5.out.row.range ?_; simp only [Act.put, List.setIfInBounds_toArray, List.set_cons_zero, List.set_cons_succ])
            | ((with_reducible show wpList _ _ _ (Oper.mk _ (Op.store 28 (.tmp 2) (.tmp 47)) _ _ _ _ :: _) _ _); refine wpList_store_Row rfl 28 (.tmp 2) (.tmp 47) rfl (reqC (.slice qb lb cb) (rdQ st)) rfl rfl HRR5.out (size28' HOk.out) (by rw [reqC_length HOk.out, reqC_length noReq_ok]) (reqC_one rfl _) ?_; simp only [Act.put]))
          refine bodyPost_ret (results_RowS_tmp rfl rfl (Row.sets_all (vs := reqC (.slice qb lb cb) (rdQ st)) HRR5.out (by rw [reqC_length HOk.out, reqC_length noReq_ok])) Try.underlying28 (size28' HOk.out)) rfl ?_
          have hbut : But w.heap.size w5.heap.size w5 (w5.setCells w.heap.size 0 (reqC (.slice qb lb cb) (rdQ st))) := But.sets _ _ _
          have hoi := HO5.out.but hbut (by omega)
          exact .inl ⟨HV.out, qb, lb, cb, rfl, hoi.bytes HBd.out.1, below_setCells (Nat.le_refl _) _ _ (HB1.out.trans (HB5.out.mono HB1.out.size))⟩
        | false =>
          rw [hM] at HM
          have HV : Hid (iq = false) := by show _ = _; rw [HQ.out, decide_eq_true hE, hM]; rfl
          have HE : Hid (endE (q9 st) = 0) := hE
          clear hE
          go_wp2_with (first
            | (go_at_call 33; refine (end_any B (q9 st) w4 HR4.out).mono ?_; rintro e w4' ⟨rfl, hw4⟩; obtain rfl : w4 = w4' := hw4.symm; clear hw4; rw [HE.out])
            | ((with_reducible show wpList _ _ _ (Oper.mk (some 42) (Op.load 28 (.tmp 6)) _ _ _ _ :: _) _ _); refine BigFrame.wpList_want (by rfl) fun _ hK => wp_load_mid 28 (.tmp 6) rfl G 0 rfl (reqC (.slice qb lb cb) (rdQ st)) _ HE4.out.row.range Try.underlying28 rfl (size28' HOk.out) (hK _ _ ?_); simp only [Act.put, List.setIfInBounds_toArray, List.set_cons_zero, List.set_cons_succ])
            | (go_at_call 22; refine HM.out.mono ?_; rintro e w5 ⟨rfl, hb5⟩; have HRR5 : Hid (Row w5 w.heap.size 28 (reqC (.slice none 0 0) noReq)) := HRR4.out.later hb5; have HE5 : Hid (ReqAt w5 G (.slice qb lb cb) (rdQ st)) := HE4.out.later hb5; have HO5 : Hid (Own nB w5 (.slice qb lb cb) (bdQ st)) := HO4.out.later hb5; have HB5 : Hid (Below w1.heap.size w1 w5) := HB4.out.trans (hb5.mono HB4.out.size); clear hb5)
            | ((with_reducible show wpList _ _ _ (Oper.mk (some 46) _ _ _ _ _ :: _) _ _); refine wpList_built_want (by rfl) 28 _ rfl _ _ (by simp only [List.map_toArray, List.map_nil]) HBz.out ?_; simp only [Act.put, List.setIfInBounds_toArray, List.set_cons_zero, List.set_cons_succ])
            | ((with_reducible show wpList _ _ _ (Oper.mk _ (Op.store 28 (.tmp 2) (.tmp 46)) _ _ _ _ :: _) _ _); refine wpList_store_Row rfl 28 (.tmp 2) (.tmp 46) rfl (reqC (.slice none 0 0) noReq) rfl rfl HRR5.out (size28' noReq_ok) rfl (reqC_one rfl _) ?_; simp only [Act.put]))
          refine bodyPost_ret (results_RowS_tmp rfl rfl (Row.sets_all (vs := reqC (.slice none 0 0) noReq) HRR5.out rfl) Try.underlying28 (size28' noReq_ok)) rfl ?_
          exact .inr ⟨HV.out, rfl, below_setCells (Nat.le_refl _) _ _ (HB1.out.trans (HB5.out.mono HB1.out.size))⟩
      · have hA0 : A = 0 := by omega
        subst hA0
        have HV : Hid (iq = false) := by show _ = _; rw [HQ.out, decide_eq_true hE]; rfl
        have HE : Hid (endE (q9 st) = 0) := hE
        clear hE
        clear hA HM
        go_wp2_with (first
          | (go_at_call 33; refine (end_any B (q9 st) w4 HR4.out).mono ?_; rintro e w4' ⟨rfl, hw4⟩; obtain rfl : w4 = w4' := hw4.symm; clear hw4; rw [HE.out])
          | ((with_reducible show wpList _ _ _ (Oper.mk (some 46) _ _ _ _ _ :: _) _ _); refine wpList_built_want (by rfl) 28 _ rfl _ _ (by simp only [List.map_toArray, List.map_nil]) HBz.out ?_; simp only [Act.put, List.setIfInBounds_toArray, List.set_cons_zero, List.set_cons_succ])
          | ((with_reducible show wpList _ _ _ (Oper.mk _ (Op.store 28 (.tmp 2) (.tmp 46)) _ _ _ _ :: _) _ _); refine wpList_store_Row rfl 28 (.tmp 2) (.tmp 46) rfl (reqC (.slice none 0 0) noReq) rfl rfl HRR4.out (size28' noReq_ok) rfl (reqC_one rfl _) ?_; simp only [Act.put]))
        refine bodyPost_ret (results_RowS_tmp rfl rfl (Row.sets_all (vs := reqC (.slice none 0 0) noReq) HRR4.out rfl) Try.underlying28 (size28' noReq_ok)) rfl ?_
        exact .inr ⟨HV.out, rfl, below_setCells (Nat.le_refl _) _ _ (HB1.out.trans (HB4.out.mono HB1.out.size))⟩
    · have hE80 : endE (q9 st) = 80 := by
        cases hs : q9 st with
        | none => rfl
        | some zs =>
          rw [hs] at hE
          by_cases h0 : 0 < zs.length
          · show (if 0 < zs.length then (80 : Int) else 0) = 80
            rw [if_pos h0]
          · exact absurd (show (if 0 < zs.length then (80 : Int) else 0) = 0 from if_neg h0) hE
      have HV : Hid (iq = false) := by show _ = _; rw [HQ.out, decide_eq_false hE]; rfl
      have HE : Hid (endE (q9 st) = 80) := hE80
      clear hE hE80 HM
      go_wp2_with (first
        | (go_at_call 33; refine (end_any B (q9 st) w4 HR4.out).mono ?_; rintro e w4' ⟨rfl, hw4⟩; obtain rfl : w4 = w4' := hw4.symm; clear hw4; rw [HE.out])
        | ((with_reducible show wpList _ _ _ (Oper.mk (some 46) _ _ _ _ _ :: _) _ _); refine wpList_built_want (by rfl) 28 _ rfl _ _ (by simp only [List.map_toArray, List.map_nil]) HBz.out ?_; simp only [Act.put, List.setIfInBounds_toArray, List.set_cons_zero, List.set_cons_succ])
        | ((with_reducible show wpList _ _ _ (Oper.mk _ (Op.store 28 (.tmp 2) (.tmp 46)) _ _ _ _ :: _) _ _); refine wpList_store_Row rfl 28 (.tmp 2) (.tmp 46) rfl (reqC (.slice none 0 0) noReq) rfl rfl HRR4.out (size28' noReq_ok) rfl (reqC_one rfl _) ?_; simp only [Act.put]))
      refine bodyPost_ret (results_RowS_tmp rfl rfl (Row.sets_all (vs := reqC (.slice none 0 0) noReq) HRR4.out rfl) Try.underlying28 (size28' noReq_ok)) rfl ?_
      exact .inr ⟨HV.out, rfl, below_setCells (Nat.le_refl _) _ _ (HB1.out.trans (HB4.out.mono HB1.out.size))⟩
end Go.Proofs.Ytedpgdldekkgdaa
