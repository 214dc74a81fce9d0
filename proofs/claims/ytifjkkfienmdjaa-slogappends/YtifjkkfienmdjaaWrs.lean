/-
  writes: what is written for a record, one sector behind the other.
-/
import Derived.Test.YtifjkkfienmdjaaOpn
import Derived.Test.YtifjkkfienmdjaaNx
import Derived.Test.YtifjkkfienmdjaaChX
import Derived.Test.YtifjkkfienmdjaaHeldRd
namespace Go.Proofs.Ytifjkkfienmdjaa
open Go.RowKit Go.Shelf
attribute [local go_sem] Oper.semAt_some

/-- All cells but those of the blocks of M stand. -/
def CK (M : List Nat) (A B : World) : Prop := ∀ (k : Nat) (c : Array Value) (t : TypeId) (fr : Nat × Nat), k ∉ M → A.heap[k]? = some (Obj.cells c t fr) → B.heap[k]? = some (Obj.cells c t fr)
theorem CK.trans {M : List Nat} {A B C : World} (h : CK M A B) (k : CK M B C) : CK M A C := fun i c t fr hi hc => k i c t fr hi (h i c t fr hi hc)
theorem CK.mono {M M' : List Nat} {A B : World} (h : CK M A B) (hM : ∀ x ∈ M, x ∈ M') : CK M' A B := fun i c t fr hi hc => h i c t fr (fun e => hi (hM i e)) hc
theorem CK.of_below {M : List Nat} {A B : World} (h : Below A.heap.size A B) : CK M A B := fun i _ _ _ _ hc => (h.block i (Array.getElem?_eq_some_iff.1 hc).1).trans hc
theorem CK.of_buts {M : List Nat} {A B : World} (h : Buts M A.heap.size A B) : CK M A B := fun i _ _ _ hi hc => (h.block i (Array.getElem?_eq_some_iff.1 hc).1 hi).trans hc
theorem CK.record {M : List Nat} {A : World} {l : Nat} {o : Obj} (o' : Obj) (ho : A.heap[l]? = some o) (hc : o.isCells = false) : CK M A (A.putObj l o') := fun i c t fr _ hk => by
  rw [World.putObj_heap_other (fun e => by subst e; rw [hk] at ho; cases ho; cases hc)]
  exact hk
theorem CK.row {M : List Nat} {A B : World} (h : CK M A B) {b : Nat} {t : TypeId} {c : List Value} (hb : b ∉ M) (hr : Row A b t c) : Row B b t c := h b _ _ _ hb hr
theorem CK.boxed {M : List Nat} {A B : World} (h : CK M A B) {b : Nat} {t : TypeId} {v : Value} (hb : b ∉ M) (hr : Boxed A b t v) : Boxed B b t v := h b _ _ _ hb hr
theorem CK.bytes {M : List Nat} {A B : World} (h : CK M A B) {m : Nat} {q : Option Addr} {len cap : Nat} (hM : 0 < len → ∀ b off, q = some ⟨b, off, none⟩ → b < m → b ∉ M) {zs : List Nat} (hI : IsBytes m A q len cap zs) : IsBytes m B q len cap zs := by
  obtain ⟨h1, h2, h3, h4, h5⟩ := hI
  refine ⟨h1, h2, h3, h4, ?_⟩
  by_cases h0 : len = 0
  · exact .inl h0
  rcases h5 with h5 | ⟨b, off, e, hb, hc⟩
  · exact .inl h5
  · refine .inr ⟨b, off, e, hb, fun i hi => ?_⟩
    obtain ⟨c, t, fr, e1, e2⟩ := cells_of_cell (hc i hi)
    have e3 := h b c t fr (hM (by omega) b off e hb) e1
    simp [World.cell?, e3, e2]
/-- What a round keeps. -/
def KpC (M : List Nat) (n : Nat) (A B : World) : Prop := CK M A B ∧ KeepsFrom n A B
theorem KpC.trans {M : List Nat} {n : Nat} {A B C : World} (h : KpC M n A B) (k : KpC M n B C) : KpC M n A C := ⟨h.1.trans k.1, h.2.trans k.2⟩
theorem KpC.mono {M M' : List Nat} {n n' : Nat} {A B : World} (h : KpC M n A B) (hM : ∀ x ∈ M, x ∈ M') (hn : n ≤ n') : KpC M' n' A B := ⟨h.1.mono hM, Ch.keepsFrom_ge h.2 hn⟩
theorem KpC.of_below {M : List Nat} {n : Nat} {A B : World} (h : Below A.heap.size A B) : KpC M n A B := ⟨CK.of_below h, keepsFrom_of_below h⟩
theorem KpC.record {M : List Nat} {n l : Nat} (hl : l < n) {A : World} {o : Obj} (o' : Obj) (ho : A.heap[l]? = some o) (hc : o.isCells = false) : KpC M n A (A.putObj l o') :=
  ⟨CK.record o' ho hc, by simp [World.putObj], fun k x hk hx _ => by rw [World.putObj_heap_other (by omega)]; exact hx⟩
theorem low_own {β : Type} {B : Nat} {I : β → World → Prop} (h : Low B I) (hB : ∀ s A, I s A → B ≤ A.heap.size) : OwnFrom B I := fun s A A' row hs hg hr => h s A A' hs ⟨hg.os, hg.tape, hg.output, hg.size, fun k hk => hg.block k (by have := hB s A hs; omega) (fun e => by have := (hr k e.symm).1; omega)⟩
/-- All writes of a record, by the places of its first sector and of the region's end. -/
def wsOf (A E gen num : Nat) (zs : List Nat) : List (Nat × List Nat) :=
  tailW A zs (spanN (zs.length : Nat)) ++ ((if A + spanN (zs.length : Nat) < E then [(A + spanN (zs.length : Nat), zeros64)] else []) ++ [(A, headL zs gen num)])
theorem wsOf_eq (f n at_ gen num : Nat) (zs : List Nat) : writesOf f n at_ gen num zs = wsOf (f + at_) (f + n) gen num zs := by
  unfold writesOf wsOf
  by_cases h : at_ + spanN (zs.length : Nat) < n
  · rw [if_pos h, if_pos (by omega)]
  · rw [if_neg h, if_neg (by omega)]

set_option maxHeartbeats 1000000 in
theorem writes_any (a : Option Addr) (q : Option Addr) (len cap : Nat) (w : World) : Calls Try.prog 40 #[.pointer a, .slice q len cap] w fun e w' =>
    e = .returned (.func (.func 49) #[] #[.pointer (some ⟨w.heap.size, 0, none⟩), .pointer (some ⟨w.heap.size + 1, 0, none⟩)]) ∧ w' = (w.alloc (.cells #[.pointer a] 31)).alloc (.cells #[.slice q len cap] 25) := by
  go_enter Try.func40, Try.ntmps40
  go_wp2
  go_ret
  exact ⟨rfl, rfl⟩

theorem chOk_own' (zs : List Nat) (m B : Nat) : OwnFrom B (Ch.ChOk zs m) := fun x A B' row hs hg hr => ⟨hs.1, Ch.text_own B (fun x : Nat × Nat => x.1) (fun x => Ch.pieceL zs m x.2) x A B' row hs.2 hg hr⟩
/-- What a round keeps that leaves. -/
def KxL (L : Nat) (M : List Nat) (n : Nat) (A B : World) : Prop := KpC M n A B ∧ ∀ i v, i ≠ 0 → A.cell? ⟨L, i, none⟩ = some v → B.cell? ⟨L, i, none⟩ = some v
theorem keepsFrom_set {n b : Nat} {A : World} {t : TypeId} {v : Value} (h : Boxed A b t v) (u : Value) : KeepsFrom n A (A.setCell ⟨b, 0, none⟩ u) := by
  have hb : Buts [b] A.heap.size A (A.setCell ⟨b, 0, none⟩ u) := (Buts.refl _ _ _).set (by simp) 0 u
  refine ⟨hb.size, fun k o _ ho hc => (hb.block k (Array.getElem?_eq_some_iff.1 ho).1 (fun hx => ?_)).trans ho⟩
  rw [List.mem_singleton] at hx
  subst hx
  rw [show A.heap[k]? = _ from h] at ho
  cases ho
  cases hc
theorem boxed_set {b : Nat} {A : World} {t : TypeId} {v : Value} (h : Boxed A b t v) (u : Value) : Boxed (A.setCell ⟨b, 0, none⟩ u) b t u := by
  have : Row A b t [v] := h
  exact this.set 0 u
theorem sec_piece (zs : List Nat) (j : Nat) : splice zeros64 0 (Ch.pieceL (zs.drop 51) 64 j) = secK zs j := by
  unfold secK Ch.pieceL
  rw [List.drop_drop]
theorem below_set {B b : Nat} {A : World} (hB : B ≤ b) (u : Value) : Below B A (A.setCell ⟨b, 0, none⟩ u) := ((Buts.refl [b] (max B A.heap.size) A).set (by simp) 0 u).below (by omega) (by simpa using hB)
theorem exec_build {a : Act} {o : Oper} {t : TypeId} {Z : Array Value} (ho : o.op = .build t #[]) (hb : Try.prog.built t [] = some Z) (w : World) : (execOp a.eval o).run Try.prog w = .ok (.value (.agg Z)) w := by
  have hL : ((#[] : Array (Nat × Operand)).map fun (i, x) => (i, a.eval x)).toList = [] := by simp
  unfold execOp
  simp only [ho, Sem.run_bind, run_build w t _ Z (hL ▸ hb), Result.andThen_ok]
  rfl
def restP (q : Option Addr) (cap r : Nat) : Option Addr := if cap = r then q else q.map (·.add r)
theorem wpListIn_val {n : Nat} {P : Program} {ops : Array Oper} {rest : List Oper} {o : Oper} {a : Act} {w : World} {Q : Exit → Act → World → Prop} {v : Value} (hgd : o.guard = none) (hy : (execOp a.eval o).run P w = .ok (.value v) w)
    (h : wpListIn Fence.wide n P ops Q rest (a.put o.dst v) w) : wpListIn Fence.wide n P ops Q (o :: rest) a w :=
  wpListIn_plain hgd fun K hK => by
    unfold Oper.wpIn
    refine ⟨fun _ _ => trivial, ?_⟩
    rw [show Fence.wide.round = none from rfl, Oper.semAt_none, hy]
    exact hK _ _ h
theorem slice_rest {m : Nat} {W : World} {q : Option Addr} {len cap : Nat} {zs : List Nat} (h : IsBytes m W q len cap zs) (r : Nat) (hr : r ≤ len) {q' : Option Addr} (hq : r < len → ∀ b off, q = some ⟨b, off, none⟩ → q' = some ⟨b, off + r, none⟩) : IsBytes m W q' (len - r) (cap - r) (zs.drop r) := by
  obtain ⟨h1, h2, h3, h4, h5⟩ := h
  refine ⟨by rw [List.length_drop]; omega, by omega, by omega, fun z hz => h4 z (List.mem_of_mem_drop hz), ?_⟩
  by_cases hlt : r < len
  · rcases h5 with h5 | ⟨b, off, e, hb, hc⟩
    · omega
    · refine .inr ⟨b, off + r, hq hlt b off e, hb, fun i hi => ?_⟩
      have := hc (r + i) (by omega)
      rw [show off + r + i = off + (r + i) by omega, this, List.getD_eq_getElem?_getD, List.getD_eq_getElem?_getD, List.getElem?_drop]
  · exact .inl (by omega)

set_option maxRecDepth 100000 in
set_option maxHeartbeats 4000000 in
theorem writes1_iter (n : Nat) (hn : 8 ≤ n) (l B1 B2 L p g R A E gen num : Nat) (vq : Option Addr) (vc : Nat) (q : Option Addr) (len cap : Nat) (zs : List Nat) (m : Nat) (W : World)
    (hb1 : Boxed W B1 31 (.pointer (some ⟨L, 0, none⟩))) (hb2 : Boxed W B2 25 (.slice q len cap))
    (hL : Row W L 59 [.bool true, .pointer (some ⟨p, 0, none⟩), .int .u32 (gen : Nat), .int .i64 (A : Nat), .int .i64 (E : Nat), .slice vq num vc])
    (hI : IsBytes m W q len cap zs) (hm : m ≤ W.heap.size) (hqn : 0 < len → ∀ b off, q = some ⟨b, off, none⟩ → b ≠ p ∧ b ≠ g) (hlen : len ≤ 60000) (hA : A ≤ 200000) (hnum : num ≤ 100000)
    (hB1 : B1 ∉ [p, g, L, R]) (hB2 : B2 ∉ [p, g, L, R]) (hLp : L ∉ [p, g]) (hlt : ∀ x ∈ [p, g, L, R], x < W.heap.size) :
    IterNx Fence.wide n Try.prog 49 #[.pointer (some ⟨B1, 0, none⟩), .pointer (some ⟨B2, 0, none⟩)] (fun x : Nat × List Nat => #[.int .i64 (x.1 : Nat), .agg (u8s x.2).toArray]) (fun x _ => IsSec x.2) (KpC [p, g] W.heap.size) (KxL L [p, g, L, R] W.heap.size)
      (fun pre x => ∃ post, wsOf A E gen num zs = pre ++ x :: post) (fun xs => xs = wsOf A E gen num zs) (fun _ => True) l W := by
  intro J Jx hJ hJx hY h0
  have h1 : 1 ≤ n := by omega
  have hfn : ∀ f, Fence.wide.fn f := fun _ => trivial
  have hlc := hI.2.1
  have hcc := hI.2.2.1
  have HLn : Hid (zs.length = len) := hI.1
  have HZ : Hid (∀ z ∈ zs, z < 256) := hI.2.2.2.1
  have hcL3 := hL.cell (i := 3) rfl
  have HI : Hid (IsBytes m W q len cap zs) := hI
  have HbL : Hid (Row W L 59 [.bool true, .pointer (some ⟨p, 0, none⟩), .int .u32 (gen : Nat), .int .i64 (A : Nat), .int .i64 (E : Nat), .slice vq num vc]) := hL
  have HB1 : Hid (Boxed W B1 31 (.pointer (some ⟨L, 0, none⟩))) := hb1
  have HB2 : Hid (Boxed W B2 25 (.slice q len cap)) := hb2
  obtain ⟨w1, hw1⟩ : ∃ w1, W.alloc (.cells #[.func (.yield l) #[] #[]] 98) = w1 := ⟨_, rfl⟩
  have bb1 : Below W.heap.size W w1 := by rw [← hw1]; exact (Below.refl _ W).alloc (Nat.le_refl _) _
  have hs1 : w1.heap.size = W.heap.size + 1 := by rw [← hw1]; simp
  have bY := Boxed.new W 98 (.func (.yield l) #[] #[])
  rw [hw1] at bY
  have HW1 : Hid (W.alloc (.cells #[.func (.yield l) #[] #[]] 98) = w1) := hw1
  have hcB1 := (boxed_below hb1 bb1).cell
  have hcL := (hL.later bb1).cell (i := 3) rfl
  refine callsIn_of_wp_marks Try.func49 rfl trivial ?_ rfl
  simp only [Try.ntmps49, List.size_toArray, List.length_cons, List.length_nil, Nat.reduceAdd, Nat.reduceSub, Array.replicate_succ, Array.replicate_zero, List.push_toArray, List.append_toArray, List.nil_append, List.cons_append]
  clear hw1 hI hL hb1 hb2 hcL3
  obtain ⟨w2, hw2⟩ : ∃ w2, w1.alloc (.cells #[.int .i64 ((A : Int) + 1)] 3) = w2 := ⟨_, rfl⟩
  have bb2 : Below w1.heap.size w1 w2 := by rw [← hw2]; exact (Below.refl _ w1).alloc (Nat.le_refl _) _
  have Hs2 : Hid (w2.heap.size = W.heap.size + 2) := by show _ = _; rw [← hw2]; simp [hs1]
  have bI := Boxed.new w1 3 (.int .i64 ((A : Int) + 1))
  rw [hw2, hs1] at bI
  have HW2 : Hid (w1.alloc (.cells #[.int .i64 ((A : Int) + 1)] 3) = w2) := hw2
  have HBe2 : Hid (Below W.heap.size W w2) := bb1.trans (bb2.mono bb1.size)
  have hcB2 := (boxed_below HB2.out HBe2.out).cell
  have HbY2 : Hid (Boxed w2 W.heap.size 98 (.func (.yield l) #[] #[])) := boxed_below bY bb2
  have HbI2 : Hid (Boxed w2 (W.heap.size + 1) 3 (.int .i64 ((A : Int) + 1))) := bI
  obtain ⟨r, q', hr51, hrl, hri, hq', HI2⟩ : ∃ (r : Nat) (q' : Option Addr), r ≤ 51 ∧ r ≤ len ∧ Hid ((len ≤ 51 ∧ r = len) ∨ (51 < len ∧ r = 51)) ∧ Hid (q' = restP q cap r) ∧ Hid (IsBytes w2.heap.size w2 q' (len - r) (cap - r) (zs.drop r)) := by
    refine ⟨min len 51, _, by omega, by omega, (show _ ∨ _ by omega), rfl, ?_⟩
    have hI2 := (HI.out.below (HBe2.out.mono hm)).mono (Nat.le_trans hm HBe2.out.size)
    refine slice_rest hI2 _ (by omega) (fun hlt b off e => ?_)
    rw [e]
    rw [restP, if_neg (by omega), Option.map_some, Addr.add_mid]
  have hcv : IntKind.i64.wrap (r : Int) = (r : Int) := by rw [IntKind.wrap_i64]; omega
  clear hw2 bI bY
  gi_wp2_with (first
    | (rw [HW1.out])
    | (rw [HW2.out])
    | ((with_reducible show wpListIn _ _ _ _ _ (Oper.mk (some 14) _ _ _ _ _ :: _) _ _); refine wpListIn_val rfl (v := .int .i64 (r : Nat)) (by rcases hri.out with ⟨h, e⟩ | ⟨h, e⟩ <;> (rw [e]; go_simp; try omega)) ?_; simp only [Act.put, List.setIfInBounds_toArray, List.set_cons_zero, List.set_cons_succ])
    | ((with_reducible show wpListIn _ _ _ _ _ (Oper.mk (some 15) _ _ _ _ _ :: _) _ _); refine wpListIn_val rfl (v := .slice q' (len - r) (cap - r)) (by rw [hq'.out]; unfold restP; cases q <;> (by_cases hcr : cap = r) <;> (go_simp; try simp [hcr])) ?_; simp only [Act.put, List.setIfInBounds_toArray, List.set_cons_zero, List.set_cons_succ])
    | (gi_at_call 50; refine (callsIn_wide.2 (Ch.chunks_any q' (len - r) (cap - r) (zs.drop r) (by omega) 64 w2 HI2.out)).mono ?_; rintro e w3 ⟨Bo, rfl, bO, bN, hT, hb3⟩))
  have hs2 := Hs2.out
  have hs3 : W.heap.size + 2 ≤ w3.heap.size := by have := hb3.size; omega
  have HBe3 : Hid (Below W.heap.size W w3) := HBe2.out.trans (hb3.mono (by omega))
  obtain ⟨zr, hzr⟩ : ∃ zr, zs.drop r = zr := ⟨_, rfl⟩
  have HZr : Hid (zr = zs.drop 51) := by
    show _ = _
    rw [← hzr]
    rcases hri.out with ⟨h, e⟩ | ⟨h, e⟩
    · rw [e, List.drop_of_length_le (by rw [HLn.out]; omega), List.drop_of_length_le (by rw [HLn.out]; omega)]
    · rw [e]
  obtain ⟨lr, hlr⟩ : ∃ lr, len - r = lr := ⟨_, rfl⟩
  have HLr : Hid (lr = len - 51) := by show _ = _; rcases hri.out with ⟨h, e⟩ | ⟨h, e⟩ <;> omega
  have hzl : zr.length = lr := by rw [← hzr, List.length_drop, HLn.out, hlr]
  have hzz : ∀ z ∈ zr, z < 256 := fun z hz => HZ.out z (List.mem_of_mem_drop (by rw [hzr]; exact hz))
  have hlr6 : lr ≤ 60000 := by omega
  rw [hzr] at hT
  rw [hlr] at bO ⊢
  have hspn := spanN_nat (n := zs.length) (by rw [HLn.out]; omega)
  have HSpn : Hid (spanN (zs.length : Nat) = 1 + (len + 12) / 64) := by show _ = _; rw [hspn, HLn.out]
  clear hspn
  have HbY3 : Hid (Boxed w3 W.heap.size 98 (.func (.yield l) #[] #[])) := boxed_below HbY2.out hb3
  have HbI3 : Hid (Boxed w3 (W.heap.size + 1) 3 (.int .i64 ((A : Int) + 1))) := boxed_below HbI2.out hb3
  have HT3 : Hid (Ch.Text w3 (w2.heap.size + 1) zr) := hT
  have HbN3 : Hid (Boxed w3 w2.heap.size 3 (.int .i64 64)) := bN
  have HbO3 : Hid (Boxed w3 Bo 25 (.slice (some ⟨w2.heap.size + 1, 0, none⟩) lr lr)) := bO
  have hBi : ∀ x ∈ [p, g, L, R, W.heap.size + 1], x < W.heap.size + 2 := fun x hx => by
    simp only [List.mem_cons, List.not_mem_nil, or_false] at hx
    have := hlt x
    simp only [List.mem_cons, List.not_mem_nil, or_false] at this
    omega
  have HIl : Hid (Low w3.heap.size (fun (pre : List (Nat × Nat)) X => J (tailW A zs (pre.length + 1)) X ∧ Boxed X (W.heap.size + 1) 3 (.int .i64 ((A : Int) + 1 + (pre.length : Nat))) ∧ CK [p, g, W.heap.size + 1] w3 X ∧ (pre.length = 0 ∨ 64 * (pre.length - 1) < lr) ∧ w3.heap.size ≤ X.heap.size)) := fun pre X X' ⟨a1, a2, a3, a4, a5⟩ hb =>
    ⟨hJ.mono (by omega) _ _ _ a1 hb, (hb.block _ (by omega)).trans a2, fun k c t fr hk hc => (hb.block k (Array.getElem?_eq_some_iff.1 hc).1).trans (a3 k c t fr hk hc), a4, Nat.le_trans a5 hb.size⟩
  have HIxl : Hid (∀ c : Code, Low w3.heap.size (fun (_ : List (Nat × Nat)) X => c = .ret ∧ (∃ pre', Jx pre' X) ∧ w3.heap.size ≤ X.heap.size)) := fun c pre X X' ⟨a1, ⟨pre', a2⟩, a3⟩ hb => ⟨a1, ⟨pre', hJx.mono (by omega) _ _ _ a2 hb⟩, Nat.le_trans a3 hb.size⟩
  have HKd1 : Hid (w2.heap.size + 1 ∉ [p, g, L, R, W.heap.size + 1]) := fun hx => by have := hBi _ hx; omega
  clear bO bN hT hb3 hs2
  refine wpIn_rangeFunc_okx rfl h1 (gf := 57) (lb := #[.pointer (some ⟨Bo, 0, none⟩), .pointer (some ⟨w2.heap.size, 0, none⟩)]) rfl trivial (enters_of Try.func57 (by kernel_rfl) rfl)
    (Kp := KpC [p, g, L, R, W.heap.size + 1] (w3.heap.size + 2))
    (fun W' hsz hb => Ch.chunks1_iterx (n - 1) (by omega) _ Bo w2.heap.size (w2.heap.size + 1) lr zr hzz hzl hlr6 64 (by omega) (by omega) W' (fun k => k ∉ [p, g, L, R, W.heap.size + 1]) HKd1.out (fun k hk hx => by have := hBi _ hx; omega)
      (KpC [p, g, L, R, W.heap.size + 1] (w3.heap.size + 2)) (fun A B h k c t fr hc hk => h.1 k c t fr hk hc) (fun A B h => by rw [hsz]; exact h.2) (boxed_below HbO3.out hb).cell (boxed_below HbN3.out hb).cell (HT3.out.below hb))
    KpC.trans (fun X o o' ho hc => KpC.record (by omega) o' ho hc) (fun _ => rfl)
    (fun pre X => J (tailW A zs (pre.length + 1)) X ∧ Boxed X (W.heap.size + 1) 3 (.int .i64 ((A : Int) + 1 + (pre.length : Nat))) ∧ CK [p, g, W.heap.size + 1] w3 X ∧ (pre.length = 0 ∨ 64 * (pre.length - 1) < lr) ∧ w3.heap.size ≤ X.heap.size)
    (fun c _ X => c = .ret ∧ (∃ pre', Jx pre' X) ∧ w3.heap.size ≤ X.heap.size)
    (low_own HIl.out (fun _ _ h => h.2.2.2.2)) (fun c => low_own (HIxl.out c) (fun _ _ h => h.2.2)) (chOk_own' zr 64 w3.heap.size)
    ⟨hJ _ _ _ h0 HBe3.out, by simpa using HbI3.out, fun _ _ _ _ _ h => h, .inl rfl, Nat.le_refl _⟩
    (fun x => { tmps := #[.func (.yield l) #[] #[], .pointer (some ⟨B1, 0, none⟩), .pointer (some ⟨B2, 0, none⟩), .pointer (some ⟨W.heap.size, 0, none⟩), .pointer (some ⟨W.heap.size + 1, 0, none⟩), Ch.chVal zr 64 x, .pointer (some ⟨L, 0, none⟩), .pointer (some ⟨L, 0, none⟩), .pointer (some ⟨L, 3, none⟩), .int .i64 (A : Nat), .int .i64 ((A : Int) + 1), .slice q len cap, .slice q len cap, .int .i64 (len : Nat), .int .i64 (r : Nat), .slice q' lr (cap - r), .func (.func 57) #[] #[.pointer (some ⟨Bo, 0, none⟩), .pointer (some ⟨w2.heap.size, 0, none⟩)], Ch.chVal zr 64 x, undef, undef, undef, undef, undef, undef, undef, undef, undef, undef, undef, undef, undef, undef, undef, undef, undef, undef, undef, undef, undef, undef, undef, undef, undef, undef, undef, undef, undef, undef, undef, undef, undef, undef, undef], defers := [] }) ?assign ?body ?done ?stop
  case assign =>
    intro li x X K hK
    gi_wp2
    exact hK
  case body =>
    rintro li pre x X ⟨hj, hbx, hck, hpr, hsz⟩ hok ⟨hnx, hpl⟩
    obtain ⟨j, hjx⟩ : ∃ j, x.2 = j := ⟨_, rfl⟩
    have hpj : pre.length = j := by have := congrArg List.length hnx; rw [hjx] at this; simpa using this
    have hj64 : 64 * j < lr := by rw [← hzl, ← hjx]; exact hok.1
    have hjs : j + 1 < spanN (zs.length : Nat) := by have := HSpn.out; have := HLr.out; omega
    rw [hpj] at hj hbx
    obtain ⟨pl, hpl2⟩ : ∃ pl, (Ch.pieceL zr 64 j).length = pl := ⟨_, rfl⟩
    have hplE : pl = min 64 (lr - 64 * j) := by rw [← hpl2, Ch.pieceL_length, hzl]
    have hpl64 : pl ≤ 64 := by omega
    have e1 : Ch.chVal zr 64 x = .slice (some ⟨x.1, 0, none⟩) pl pl := by unfold Ch.chVal; rw [hjx, hpl2]
    have hIp : IsBytes X.drew.heap.size X.drew (some ⟨x.1, 0, none⟩) pl pl (Ch.pieceL zr 64 j) := by
      have hT : Ch.Text X x.1 (Ch.pieceL zr 64 j) := by have := hok.2; rw [hjx] at this; exact this
      refine ⟨hpl2, Nat.le_refl _, by omega, fun z h => hzz z (List.mem_of_mem_drop (List.mem_of_mem_take h)), .inr ⟨x.1, 0, rfl, hT.lt, fun i hi => ?_⟩⟩
      rw [Nat.zero_add]
      exact hT.cell i (by omega)
    have HFl : Hid (Calls Try.prog 51 #[.slice (some ⟨x.1, 0, none⟩) pl pl] X.drew fun e w' => e = .returned (.agg (u8s (secK zs j)).toArray) ∧ Below X.heap.size X w') := by
      have := filled_any _ pl pl _ X.drew hIp hpl64
      rw [HZr.out, sec_piece] at this
      exact this.mono fun e w' ⟨he, hb⟩ => ⟨he, (Below.refl _ X).drew.trans hb⟩
    obtain ⟨post, hpost⟩ := tailW_split (f := A) (b := zs) hjs
    have HNx : Hid (∃ post, wsOf A E gen num zs = tailW A zs (j + 1) ++ (A + (j + 1), secK zs j) :: post) := by
      refine ⟨post ++ ((if A + spanN (zs.length : Nat) < E then [(A + spanN (zs.length : Nat), zeros64)] else []) ++ [(A, headL zs gen num)]), ?_⟩
      rw [wsOf, hpost, List.append_assoc, List.cons_append]
    have HYd : Hid (∀ Y, Below X.heap.size X Y → YieldAt Fence.wide (n - 1 - 1 - 1) Try.prog l #[.int .i64 ((A : Int) + 1 + (j : Nat)), .agg (u8s (secK zs j)).toArray] Y fun e W' =>
        (e = .returned (.bool true) ∧ J (tailW A zs (j + 1 + 1)) W' ∧ KpC [p, g] W.heap.size Y W') ∨ (e = .returned (.bool false) ∧ Jx (tailW A zs (j + 1 + 1)) W' ∧ KxL L [p, g, L, R] W.heap.size Y W')) := fun Y hb => by
      have h := hY (tailW A zs (j + 1)) (A + (j + 1), secK zs j) Y (hJ _ _ _ hj (hb.mono (by omega))) (secK_sec HZ.out j) HNx.out
      rw [← tailW_succ] at h
      have e2 : ((A + (j + 1) : Nat) : Int) = (A : Int) + 1 + (j : Nat) := by omega
      simp only [e2] at h
      exact Ch.room_none h
    have HBx : Hid (Boxed X (W.heap.size + 1) 3 (.int .i64 ((A : Int) + 1 + (j : Nat)))) := hbx
    have HCk : Hid (CK [p, g, W.heap.size + 1] w3 X) := hck
    have HbY : Hid (Boxed X W.heap.size 98 (.func (.yield l) #[] #[])) := hck.boxed (by have := hlt p (by simp); have := hlt g (by simp); simp; omega) HbY3.out
    have HSY : Hid (∀ Y, Below X.heap.size X Y → Boxed Y W.heap.size 98 (.func (.yield l) #[] #[]) ∧ Boxed Y (W.heap.size + 1) 3 (.int .i64 ((A : Int) + 1 + (j : Nat)))) := fun Y hb => ⟨boxed_below HbY.out hb, boxed_below HBx.out hb⟩
    have HN4 : Hid (W.heap.size ∉ [p, g, L, R] ∧ W.heap.size + 1 ∉ [p, g, L, R]) := ⟨fun hx => by have := hlt _ hx; omega, fun hx => by have := hlt _ hx; omega⟩
    have HS3 : Hid (∀ Y Z, Below X.heap.size X Y → KpC [p, g, L, R] W.heap.size Y Z → Boxed Z W.heap.size 98 (.func (.yield l) #[] #[]) ∧ Boxed Z (W.heap.size + 1) 3 (.int .i64 ((A : Int) + 1 + (j : Nat)))) := fun Y Z hb hk => ⟨hk.1.boxed HN4.out.1 (HSY.out Y hb).1, hk.1.boxed HN4.out.2 (HSY.out Y hb).2⟩
    have hpj' : (pre ++ [x]).length = j + 1 := by rw [List.length_append, hpj]; rfl
    have hji : (j : Int) ≤ 100000 := by omega
    rw [e1]
    obtain ⟨V, hV⟩ : ∃ V, u8s (secK zs j) = V := ⟨_, rfl⟩
    rw [hV] at HFl HYd
    clear hY hj hbx hck hok hnx hIp e1 hpost hV hpl2 hplE hjx
    gi_wp2
    refine wpIn_region_V (S := fun Y => Boxed Y W.heap.size 98 (.func (.yield l) #[] #[]) ∧ Boxed Y (W.heap.size + 1) 3 (.int .i64 ((A : Int) + 1 + (j : Nat)))) (by kernel_rfl) (HSY.out _ (Below.refl _ _).drew) (fun hHeld => ?_)
    refine wpAnyV_takesAt 0 2 4 (of_decide_eq_true (by kernel_rfl)) rfl (fun _ _ _ d _ h => by cases d <;> exact h) (by kernel_rfl) (by kernel_rfl) hHeld ?_
    simp only [List.drop_zero, List.take_succ_cons, List.take_zero]
    iterate 2 (refine wpHeld_step (v := ?_) (by rfl) (fun wz hSw => ?_) ?_; rotate_left; (focus (have hcY := hSw.1.cell; have hcI := hSw.2.cell; clear hSw; go_simp; try with_reducible rfl)); (simp only [Act.put, List.setIfInBounds_toArray, List.set_cons_zero, List.set_cons_succ]))
    refine wpHeld_nil ?_
    refine wpAnyV_takesAt 2 1 3 (of_decide_eq_true (by kernel_rfl)) rfl (fun _ _ _ d _ h => by cases d <;> exact h) (by kernel_rfl) (by kernel_rfl) hHeld ?_
    simp only [List.drop_succ_cons, List.drop_zero, List.take_succ_cons, List.take_zero]
    iterate 1 (refine wpHeld_step (v := ?_) (by rfl) (fun wz hSw => ?_) ?_; rotate_left; (focus ((try dsimp only at hSw); go_simp; try with_reducible rfl)); ((simp only [Act.put]; (try simp only [List.setIfInBounds_toArray]); (try simp only [List.set_cons_succ]); (try simp only [List.set_cons_zero]))))
    refine wpHeld_nil ?_
    refine wpAnyV_only (i := 3) (by kernel_rfl) rfl (by rfl) (fun K hK => ?_)
    go_simp
    refine ⟨fun _ => by omega, (CallsIn.inRound li (callsIn_wide.2 HFl.out)).mono ?_⟩
    rintro e X2 ⟨rfl, hb2⟩
    refine hK.out _ _ (HSY.out X2 hb2) ?_
    clear hK K hHeld
    refine wpAnyV_only (i := 4) (by kernel_rfl) rfl (by rfl) (fun K hK => ?_)
    obtain ⟨fn, tmps, assign, body, hy, hR⟩ := HYd.out X2 hb2
    go_simp
    refine ⟨fun _ => by omega, RoundIn.mono (show RoundIn (Fence.wide.inRound li) _ _ _ _ _ _ _ _ _ from hR) ?_⟩
    rintro e X3 (⟨rfl, hJ3, hk3⟩ | ⟨rfl, hJ3, hk3⟩)
    · have hHeld := HS3.out X2 X3 hb2 (hk3.mono (by simp) (Nat.le_refl _))
      refine hK.out _ _ hHeld ?_
      clear hK K
      refine wpAnyV_takesAt 5 1 0 (of_decide_eq_true (by kernel_rfl)) rfl (fun _ _ _ d _ h => by cases d <;> exact h) (by kernel_rfl) (by kernel_rfl) hHeld ?_
      simp only [List.drop_succ_cons, List.drop_zero, List.take_succ_cons, List.take_zero]
      iterate 1 (refine wpHeld_step (v := ?_) (by rfl) (fun wz hSw => ?_) ?_; rotate_left; (focus ((try dsimp only at hSw); go_simp; try with_reducible rfl)); ((simp only [Act.put]; (try simp only [List.setIfInBounds_toArray]); (try simp only [List.set_cons_succ]); (try simp only [List.set_cons_zero]))))
      refine wpHeld_nil ?_
      refine wpAnyV_done (by kernel_rfl) ?_ _
      have hcI := hHeld.2.cell
      have hfI : X3.frozen? ⟨W.heap.size + 1, 0, none⟩ = false := by
        have : Row X3 (W.heap.size + 1) 3 [_] := hHeld.2
        exact this.frozen 0
      gi_wp2
      have hset : CK [W.heap.size + 1] X3 (X3.setCell ⟨W.heap.size + 1, 0, none⟩ (.int .i64 ((A : Int) + 1 + (j : Nat) + 1))) := CK.of_buts ((Buts.refl _ _ _).set (by simp) 0 _)
      have hkf := keepsFrom_set (n := w3.heap.size + 2) hHeld.2 (.int .i64 ((A : Int) + 1 + (j : Nat) + 1))
      refine ⟨((keepsFrom_of_below hb2).trans (Ch.keepsFrom_ge hk3.2 (by omega))).trans (keepsFrom_set hHeld.2 _), ((KpC.of_below hb2).trans (hk3.mono (by simp) (by omega))).trans ⟨hset.mono (by simp), hkf⟩, ?_⟩
      dsimp only
      rw [hpj']
      have e3 : (A : Int) + 1 + ((j + 1 : Nat) : Int) = (A : Int) + 1 + (j : Nat) + 1 := by omega
      refine ⟨hJ _ _ _ hJ3 (below_set (by omega) _), ?_, ((HCk.out.trans (CK.of_below hb2)).trans (hk3.1.mono (by simp))).trans (hset.mono (by simp)), .inr (by omega), Nat.le_trans hsz (Nat.le_trans (Nat.le_trans hb2.size hk3.2.size) hkf.size)⟩
      rw [e3]
      exact boxed_set hHeld.2 _
    · have hHeld := HS3.out X2 X3 hb2 hk3.1
      refine hK.out _ _ hHeld ?_
      clear hK K
      refine wpAnyV_takesAt 5 1 0 (of_decide_eq_true (by kernel_rfl)) rfl (fun _ _ _ d _ h => by cases d <;> exact h) (by kernel_rfl) (by kernel_rfl) hHeld ?_
      simp only [List.drop_succ_cons, List.drop_zero, List.take_succ_cons, List.take_zero]
      iterate 1 (refine wpHeld_step (v := ?_) (by rfl) (fun wz hSw => ?_) ?_; rotate_left; (focus ((try dsimp only at hSw); go_simp; try with_reducible rfl)); ((simp only [Act.put]; (try simp only [List.setIfInBounds_toArray]); (try simp only [List.set_cons_succ]); (try simp only [List.set_cons_zero]))))
      refine wpHeld_nil ?_
      refine wpAnyV_done (by kernel_rfl) ?_ _
      gi_wp2
      exact ⟨(keepsFrom_of_below hb2).trans (Ch.keepsFrom_ge hk3.1.2 (by omega)), (KpC.of_below hb2).trans (hk3.1.mono (fun x hx => by simp only [List.mem_cons, List.not_mem_nil, or_false] at hx ⊢; omega) (by omega)), rfl, ⟨_, hJ3⟩, Nat.le_trans hsz (Nat.le_trans hb2.size hk3.1.2.size)⟩
  case done =>
    rintro D ys X hD ⟨k, hk, hys⟩ ⟨hj, hbx, hck, hpr, hsz⟩ hKD
    have hyl : ys.length = k := by have := congrArg List.length hys; simpa using this
    obtain ⟨K, hKs⟩ : ∃ K, spanN (zs.length : Nat) = K := ⟨_, rfl⟩
    have hkK : k + 1 = K := by have := HSpn.out; have := HLr.out; rw [hyl] at hpr; omega
    have hK2 : K ≤ 2000 := by have := HSpn.out; omega
    rw [hyl, hkK] at hj
    have hbx' : Boxed X (W.heap.size + 1) 3 (.int .i64 ((A + K : Nat) : Int)) := by
      have e : ((A + K : Nat) : Int) = (A : Int) + 1 + (ys.length : Nat) := by omega
      rw [e]
      exact hbx
    have hpg := hlt p (by simp)
    have hgg := hlt g (by simp)
    have hB1l := HB1.out.lt
    have hB2l := HB2.out.lt
    have hLl := hlt L (by simp)
    simp only [List.mem_cons, List.not_mem_nil, or_false, not_or] at hB1 hB2 hLp
    have HSX : Hid (∀ Y, Below X.heap.size X Y → Boxed Y W.heap.size 98 (.func (.yield l) #[] #[]) ∧ Boxed Y (W.heap.size + 1) 3 (.int .i64 ((A + K : Nat) : Int)) ∧ Boxed Y B1 31 (.pointer (some ⟨L, 0, none⟩)) ∧ Boxed Y B2 25 (.slice q len cap) ∧ Y.cell? ⟨L, 2, none⟩ = some (.int .u32 (gen : Nat)) ∧ Y.cell? ⟨L, 3, none⟩ = some (.int .i64 (A : Nat)) ∧ Y.cell? ⟨L, 4, none⟩ = some (.int .i64 (E : Nat)) ∧ Y.cell? ⟨L, 5, none⟩ = some (.slice vq num vc)) := fun Y hb => by
      have hc := hck.trans (CK.of_below (M := [p, g, W.heap.size + 1]) hb)
      have hL := hc.row (b := L) (by simp; omega) (HbL.out.later HBe3.out)
      exact ⟨hc.boxed (by simp; omega) HbY3.out, boxed_below hbx' hb, hc.boxed (by simp; omega) (boxed_below HB1.out HBe3.out), hc.boxed (by simp; omega) (boxed_below HB2.out HBe3.out), hL.cell (i := 2) rfl, hL.cell (i := 3) rfl, hL.cell (i := 4) rfl, hL.cell (i := 5) rfl⟩
    have HSB : Hid (∀ X0 Y, (Boxed X0 W.heap.size 98 (.func (.yield l) #[] #[]) ∧ Boxed X0 (W.heap.size + 1) 3 (.int .i64 ((A + K : Nat) : Int)) ∧ Boxed X0 B1 31 (.pointer (some ⟨L, 0, none⟩)) ∧ Boxed X0 B2 25 (.slice q len cap) ∧ X0.cell? ⟨L, 2, none⟩ = some (.int .u32 (gen : Nat)) ∧ X0.cell? ⟨L, 3, none⟩ = some (.int .i64 (A : Nat)) ∧ X0.cell? ⟨L, 4, none⟩ = some (.int .i64 (E : Nat)) ∧ X0.cell? ⟨L, 5, none⟩ = some (.slice vq num vc)) → Below X0.heap.size X0 Y → Boxed Y W.heap.size 98 (.func (.yield l) #[] #[]) ∧ Boxed Y (W.heap.size + 1) 3 (.int .i64 ((A + K : Nat) : Int)) ∧ Boxed Y B1 31 (.pointer (some ⟨L, 0, none⟩)) ∧ Boxed Y B2 25 (.slice q len cap) ∧ Y.cell? ⟨L, 2, none⟩ = some (.int .u32 (gen : Nat)) ∧ Y.cell? ⟨L, 3, none⟩ = some (.int .i64 (A : Nat)) ∧ Y.cell? ⟨L, 4, none⟩ = some (.int .i64 (E : Nat)) ∧ Y.cell? ⟨L, 5, none⟩ = some (.slice vq num vc)) := fun X0 Y hs hb => by
      obtain ⟨f1, f2, f3, f4, f5, f6, f7, f8⟩ := hs
      have hlL := World.block_lt_of_cell? X0 _ f5
      exact ⟨boxed_below f1 hb, boxed_below f2 hb, boxed_below f3 hb, boxed_below f4 hb, (hb.cell (p := ⟨L, 2, none⟩) hlL).trans f5, (hb.cell (p := ⟨L, 3, none⟩) hlL).trans f6, (hb.cell (p := ⟨L, 4, none⟩) hlL).trans f7, (hb.cell (p := ⟨L, 5, none⟩) hlL).trans f8⟩
    have hRl := hlt R (by simp)
    have HSK : Hid (∀ Y Y', (Boxed Y W.heap.size 98 (.func (.yield l) #[] #[]) ∧ Boxed Y (W.heap.size + 1) 3 (.int .i64 ((A + K : Nat) : Int)) ∧ Boxed Y B1 31 (.pointer (some ⟨L, 0, none⟩)) ∧ Boxed Y B2 25 (.slice q len cap) ∧ Y.cell? ⟨L, 2, none⟩ = some (.int .u32 (gen : Nat)) ∧ Y.cell? ⟨L, 3, none⟩ = some (.int .i64 (A : Nat)) ∧ Y.cell? ⟨L, 4, none⟩ = some (.int .i64 (E : Nat)) ∧ Y.cell? ⟨L, 5, none⟩ = some (.slice vq num vc)) → KxL L [p, g, L, R] W.heap.size Y Y' → Boxed Y' W.heap.size 98 (.func (.yield l) #[] #[]) ∧ Boxed Y' (W.heap.size + 1) 3 (.int .i64 ((A + K : Nat) : Int)) ∧ Boxed Y' B1 31 (.pointer (some ⟨L, 0, none⟩)) ∧ Boxed Y' B2 25 (.slice q len cap) ∧ Y'.cell? ⟨L, 2, none⟩ = some (.int .u32 (gen : Nat)) ∧ Y'.cell? ⟨L, 3, none⟩ = some (.int .i64 (A : Nat)) ∧ Y'.cell? ⟨L, 4, none⟩ = some (.int .i64 (E : Nat)) ∧ Y'.cell? ⟨L, 5, none⟩ = some (.slice vq num vc)) := fun Y Y' hs hk => by
      obtain ⟨f1, f2, f3, f4, f5, f6, f7, f8⟩ := hs
      exact ⟨hk.1.1.boxed (by simp; omega) f1, hk.1.1.boxed (by simp; omega) f2, hk.1.1.boxed (by simp; omega) f3, hk.1.1.boxed (by simp; omega) f4, hk.2 2 _ (by omega) f5, hk.2 3 _ (by omega) f6, hk.2 4 _ (by omega) f7, hk.2 5 _ (by omega) f8⟩
    have HKL : Hid (∀ Y Y', KpC [p, g] W.heap.size Y Y' → KxL L [p, g, L, R] W.heap.size Y Y') := fun Y Y' hk => ⟨hk.mono (fun x hx => by simp only [List.mem_cons, List.not_mem_nil, or_false] at hx ⊢; omega) (Nat.le_refl _), fun i v _ hc => by
      obtain ⟨c, t, fr, e1, e2⟩ := cells_of_cell hc
      have e3 := hk.1 L c t fr (by simp; omega) e1
      simp [World.cell?, e3, e2]⟩
    have hDW : W.heap.size ≤ D := by omega
    have HIX : Hid (IsBytes m X q len cap zs) := hck.bytes (fun hp0 b off e hb hx => by have := hqn hp0 b off e; simp only [List.mem_cons, List.not_mem_nil, or_false] at hx; omega) (HI.out.below (HBe3.out.mono hm))
    have HSz : Hid (W.heap.size ≤ X.heap.size) := Nat.le_trans (by omega) hsz
    by_cases hAE : A + K < E
    · have HPre : Hid ((tailW A zs K ++ [(A + K, zeros64)]) ++ [(A, headL zs gen num)] = wsOf A E gen num zs) := by show _ = _; rw [wsOf, hKs, if_pos hAE, List.append_assoc]
      have HYz : Hid (∀ Y, Below X.heap.size X Y → YieldAt Fence.wide (n - 1) Try.prog l #[.int .i64 ((A + K : Nat) : Int), .agg (u8s zeros64).toArray] Y fun e W' =>
          (e = .returned (.bool true) ∧ J (tailW A zs K ++ [(A + K, zeros64)]) W' ∧ KpC [p, g] W.heap.size Y W') ∨ (e = .returned (.bool false) ∧ Jx (tailW A zs K ++ [(A + K, zeros64)]) W' ∧ KxL L [p, g, L, R] W.heap.size Y W')) := fun Y hb => Ch.room_none (hY (tailW A zs K) (A + K, zeros64) Y (hJ _ _ _ hj (hb.mono HSz.out)) isSec_zeros ⟨[(A, headL zs gen num)], by rw [wsOf, hKs, if_pos hAE, List.singleton_append]⟩)
      have hci : ((A + K : Nat) : Int) < (E : Nat) := by omega
      have hcd : decide (((A + K : Nat) : Int) < (E : Nat)) = true := decide_eq_true hci
      have HBu : Hid (Try.prog.built 55 [] = some (u8s zeros64).toArray) := built29
      obtain ⟨Z0, hZ0⟩ : ∃ Z, u8s zeros64 = Z := ⟨_, rfl⟩
      rw [hZ0] at HYz HBu
      clear hZ0
      have HDx : Hid (D < X.heap.size) := (Array.getElem?_eq_some_iff.1 hKD).1
      have HKDx : Hid (X.heap[D]? = some (.deferred (some []))) := hKD
      obtain ⟨Ni, hNi⟩ : ∃ Ni : Int, ((A + K : Nat) : Int) = Ni := ⟨_, rfl⟩
      rw [hNi] at HYz HSX hci hcd HSB HSK
      gi_wp2
      refine wpIn_region_Wo (S := fun Y => Boxed Y W.heap.size 98 (.func (.yield l) #[] #[]) ∧ Boxed Y (W.heap.size + 1) 3 (.int .i64 Ni) ∧ Boxed Y B1 31 (.pointer (some ⟨L, 0, none⟩)) ∧ Boxed Y B2 25 (.slice q len cap) ∧ Y.cell? ⟨L, 2, none⟩ = some (.int .u32 (gen : Nat)) ∧ Y.cell? ⟨L, 3, none⟩ = some (.int .i64 (A : Nat)) ∧ Y.cell? ⟨L, 4, none⟩ = some (.int .i64 (E : Nat)) ∧ Y.cell? ⟨L, 5, none⟩ = some (.slice vq num vc)) (by kernel_rfl) (HSX.out _ (Below.refl _ _).drew) (fun hHeld => ?_)
      refine wpAnyW_takesAt 0 5 8 (of_decide_eq_true (by kernel_rfl)) rfl (fun _ _ _ d _ h => by cases d <;> exact h) (by kernel_rfl) (by kernel_rfl) hHeld ?_
      simp only [List.drop_zero, List.take_succ_cons, List.take_zero]
      iterate 5 (refine wpHeld_step (v := ?_) (by rfl) (fun wz hSw => ?_) ?_; rotate_left; (focus (obtain ⟨f1, f2, f3, f4, f5, f6, f7, f8⟩ := hSw; have g1 := f1.cell; have g2 := f2.cell; have g3 := f3.cell; have g4 := f4.cell; clear f1 f2 f3 f4; go_simp; try with_reducible rfl)); (simp only [Act.put, List.setIfInBounds_toArray, List.set_cons_zero, List.set_cons_succ]))
      refine wpHeld_nil ?_
      refine wpAnyW_takesAt 5 1 7 (of_decide_eq_true (by kernel_rfl)) rfl (fun _ _ _ d _ h => by cases d <;> exact h) (by kernel_rfl) (by kernel_rfl) hHeld ?_
      simp only [List.drop_succ_cons, List.drop_zero, List.take_succ_cons, List.take_zero]
      iterate 1 (refine wpHeld_step (v := ?_) (by rfl) (fun wz hSw => ?_) ?_; rotate_left; (focus ((try dsimp only at hSw); go_simp; try with_reducible rfl)); ((simp only [Act.put]; (try simp only [List.setIfInBounds_toArray]); (try simp only [List.set_cons_succ]); (try simp only [List.set_cons_zero]))))
      refine wpHeld_nil ?_
      refine wpAnyW_takesAt 6 1 6 (of_decide_eq_true (by kernel_rfl)) rfl (fun _ _ _ d _ h => by cases d <;> exact h) (by kernel_rfl) (by kernel_rfl) hHeld ?_
      simp only [List.drop_succ_cons, List.drop_zero, List.take_succ_cons, List.take_zero]
      iterate 1 (refine wpHeld_step (v := ?_) (by rfl) (fun wz hSw => ?_) ?_; rotate_left; (focus ((try dsimp only at hSw); go_simp; try with_reducible rfl)); ((simp only [Act.put]; (try simp only [List.setIfInBounds_toArray]); (try simp only [List.set_cons_succ]); (try simp only [List.set_cons_zero]))))
      refine wpHeld_nil ?_
      refine wpAnyW_takesAt 7 2 4 (of_decide_eq_true (by kernel_rfl)) rfl (fun _ _ _ d _ h => by cases d <;> exact h) (by kernel_rfl) (by kernel_rfl) hHeld ?_
      simp only [List.drop_succ_cons, List.drop_zero, List.take_succ_cons, List.take_zero]
      iterate 2 (refine wpHeld_step (v := ?_) (by rfl) (fun wz hSw => ?_) ?_; rotate_left; (focus (obtain ⟨f1, f2, f3, f4, f5, f6, f7, f8⟩ := hSw; have g1 := f1.cell; have g2 := f2.cell; have g3 := f3.cell; have g4 := f4.cell; clear f1 f2 f3 f4; go_simp; try with_reducible rfl)); (simp only [Act.put, List.setIfInBounds_toArray, List.set_cons_zero, List.set_cons_succ]))
      refine wpHeld_nil ?_
      refine wpAnyW_takesAt 9 1 3 (of_decide_eq_true (by kernel_rfl)) rfl (fun _ _ _ d _ h => by cases d <;> exact h) (by kernel_rfl) (by kernel_rfl) hHeld ?_
      simp only [List.drop_succ_cons, List.drop_zero, List.take_succ_cons, List.take_zero]
      refine wpHeld_step (v := .agg Z0.toArray) (by rfl) (fun wz hSw => ?_) ?_
      · clear hSw
        exact exec_build rfl HBu.out wz
      (simp only [Act.put]; (try simp only [List.setIfInBounds_toArray]); (try simp only [List.set_cons_succ]); (try simp only [List.set_cons_zero]))
      refine wpHeld_nil ?_
      refine wpAnyW_only (i := 10) (by kernel_rfl) rfl (by rfl) (fun K hK => ?_)
      obtain ⟨fn, tmps, assign, body, hy, hR⟩ := HYz.out X.drew (Below.refl _ _).drew
      go_simp
      refine RoundIn.mono hR ?_
      rintro e X3 (⟨rfl, hJ3, hk3⟩ | ⟨rfl, hJ3, hk3⟩)
      · have hHeld := HSK.out X.drew X3 (HSX.out _ (Below.refl _ _).drew) (HKL.out _ _ hk3)
        refine hK.out _ _ hHeld ?_
        clear hK K
        refine wpAnyW_takesAt 11 1 1 (of_decide_eq_true (by kernel_rfl)) rfl (fun _ _ _ d _ h => by cases d <;> exact h) (by kernel_rfl) (by kernel_rfl) hHeld ?_
        simp only [List.drop_succ_cons, List.drop_zero, List.take_succ_cons, List.take_zero]
        iterate 1 (refine wpHeld_step (v := ?_) (by rfl) (fun wz hSw => ?_) ?_; rotate_left; (focus ((try dsimp only at hSw); go_simp; try with_reducible rfl)); ((simp only [Act.put]; (try simp only [List.setIfInBounds_toArray]); (try simp only [List.set_cons_succ]); (try simp only [List.set_cons_zero]))))
        refine wpHeld_nil ?_
        refine wpAnyW_takesAt 12 1 0 (of_decide_eq_true (by kernel_rfl)) rfl (fun _ _ _ d _ h => by cases d <;> exact h) (by kernel_rfl) (by kernel_rfl) hHeld ?_
        simp only [List.drop_succ_cons, List.drop_zero, List.take_succ_cons, List.take_zero]
        iterate 1 (refine wpHeld_step (v := ?_) (by rfl) (fun wz hSw => ?_) ?_; rotate_left; (focus ((try dsimp only at hSw); go_simp; try with_reducible rfl)); ((simp only [Act.put]; (try simp only [List.setIfInBounds_toArray]); (try simp only [List.set_cons_succ]); (try simp only [List.set_cons_zero]))))
        refine wpHeld_nil ?_
        refine wpAnyW_done (by kernel_rfl) ?_ _
        refine OnOnly.on ?_
        have HZs : Hid (W.heap.size ≤ X3.heap.size) := Nat.le_trans HSz.out hk3.2.size
        have HKD3 : Hid (X3.heap[D]? = some (.deferred (some []))) := hk3.2.same D _ (by omega) HKDx.out rfl
        have HIX3 : Hid (IsBytes m X3 q len cap zs) := hk3.1.bytes (fun hp0 b off e hb hx => by have := hqn hp0 b off e; simp only [List.mem_cons, List.not_mem_nil, or_false] at hx; omega) (HIX.out.below (Below.refl _ _).drew)
        have hHeldN := hHeld
        have HSZ : Hid (Boxed X3 W.heap.size 98 (.func (.yield l) #[] #[]) ∧ Boxed X3 (W.heap.size + 1) 3 (.int .i64 Ni) ∧ Boxed X3 B1 31 (.pointer (some ⟨L, 0, none⟩)) ∧ Boxed X3 B2 25 (.slice q len cap) ∧ X3.cell? ⟨L, 2, none⟩ = some (.int .u32 (gen : Nat)) ∧ X3.cell? ⟨L, 3, none⟩ = some (.int .i64 (A : Nat)) ∧ X3.cell? ⟨L, 4, none⟩ = some (.int .i64 (E : Nat)) ∧ X3.cell? ⟨L, 5, none⟩ = some (.slice vq num vc)) := hHeldN
        have HFo : Hid (Calls Try.prog 52 #[.slice q len cap, .int .u32 (gen : Nat), .int .i64 (num : Nat)] X3.drew fun e w' => e = .returned (.agg (u8s (headL zs gen num)).toArray) ∧ Below X3.heap.size X3 w') := (firstOf_any q len cap zs gen num X3.drew ((HIX3.out.mono (Nat.le_trans hm HZs.out)).below (Below.refl _ _).drew) (by omega) (by omega)).mono fun e w' ⟨he, hb⟩ => ⟨he, (Below.refl _ X3).drew.trans hb⟩
        have HYh : Hid (∀ Y, Below X3.heap.size X3 Y → YieldAt Fence.wide (n - 1) Try.prog l #[.int .i64 (A : Nat), .agg (u8s (headL zs gen num)).toArray] Y fun e W' =>
            (e = .returned (.bool true) ∧ J (wsOf A E gen num zs) W' ∧ KpC [p, g] W.heap.size Y W') ∨ (e = .returned (.bool false) ∧ Jx (wsOf A E gen num zs) W' ∧ KxL L [p, g, L, R] W.heap.size Y W')) := fun Y hb => by
          have h := hY (tailW A zs K ++ [(A + K, zeros64)]) (A, headL zs gen num) Y (hJ _ _ _ (hJ3) (hb.mono (by have := HZs.out; omega))) (headL_sec HZ.out gen num) ⟨[], by rw [← HPre.out]⟩
          rw [HPre.out] at h
          exact Ch.room_none h
        have HKD : Hid (X3.heap[D]? = some (.deferred (some []))) := HKD3.out
        have HDl : Hid (D < X3.heap.size) := (Array.getElem?_eq_some_iff.1 HKD.out).1
        obtain ⟨V7, hV7⟩ : ∃ V, u8s (headL zs gen num) = V := ⟨_, rfl⟩
        rw [hV7] at HFo HYh
        clear hV7 hHeld hHeldN
        have HS7 : Hid (∀ Y Y', Below X3.heap.size X3 Y → KxL L [p, g, L, R] W.heap.size Y Y' → Boxed Y' W.heap.size 98 (.func (.yield l) #[] #[]) ∧ Boxed Y' (W.heap.size + 1) 3 (.int .i64 Ni) ∧ Boxed Y' B1 31 (.pointer (some ⟨L, 0, none⟩)) ∧ Boxed Y' B2 25 (.slice q len cap) ∧ Y'.cell? ⟨L, 2, none⟩ = some (.int .u32 (gen : Nat)) ∧ Y'.cell? ⟨L, 3, none⟩ = some (.int .i64 (A : Nat)) ∧ Y'.cell? ⟨L, 4, none⟩ = some (.int .i64 (E : Nat)) ∧ Y'.cell? ⟨L, 5, none⟩ = some (.slice vq num vc)) := fun Y Y' hb hk => HSK.out Y Y' (HSB.out X3 Y HSZ.out hb) hk
        gi_wp2
        refine wpIn_region_Wo (S := fun Y => Boxed Y W.heap.size 98 (.func (.yield l) #[] #[]) ∧ Boxed Y (W.heap.size + 1) 3 (.int .i64 Ni) ∧ Boxed Y B1 31 (.pointer (some ⟨L, 0, none⟩)) ∧ Boxed Y B2 25 (.slice q len cap) ∧ Y.cell? ⟨L, 2, none⟩ = some (.int .u32 (gen : Nat)) ∧ Y.cell? ⟨L, 3, none⟩ = some (.int .i64 (A : Nat)) ∧ Y.cell? ⟨L, 4, none⟩ = some (.int .i64 (E : Nat)) ∧ Y.cell? ⟨L, 5, none⟩ = some (.slice vq num vc)) (by kernel_rfl) (HSB.out X3 _ HSZ.out (Below.refl _ _).drew) (fun hHeld => ?_)
        refine wpAnyW_takesAt 0 4 10 (of_decide_eq_true (by kernel_rfl)) rfl (fun _ _ _ d _ h => by cases d <;> exact h) (by kernel_rfl) (by kernel_rfl) hHeld ?_
        simp only [List.drop_zero, List.take_succ_cons, List.take_zero]
        iterate 4 (refine wpHeld_step (v := ?_) (by rfl) (fun wz hSw => ?_) ?_; rotate_left; (focus (obtain ⟨f1, f2, f3, f4, f5, f6, f7, f8⟩ := hSw; have g1 := f1.cell; have g2 := f2.cell; have g3 := f3.cell; have g4 := f4.cell; clear f1 f2 f3 f4; go_simp; try with_reducible rfl)); (simp only [Act.put, List.setIfInBounds_toArray, List.set_cons_zero, List.set_cons_succ]))
        refine wpHeld_nil ?_
        refine wpAnyW_takesAt 4 1 9 (of_decide_eq_true (by kernel_rfl)) rfl (fun _ _ _ d _ h => by cases d <;> exact h) (by kernel_rfl) (by kernel_rfl) hHeld ?_
        simp only [List.drop_succ_cons, List.drop_zero, List.take_succ_cons, List.take_zero]
        iterate 1 (refine wpHeld_step (v := ?_) (by rfl) (fun wz hSw => ?_) ?_; rotate_left; (focus (obtain ⟨f1, f2, f3, f4, f5, f6, f7, f8⟩ := hSw; have g1 := f1.cell; have g2 := f2.cell; have g3 := f3.cell; have g4 := f4.cell; clear f1 f2 f3 f4; go_simp; try with_reducible rfl)); ((simp only [Act.put]; (try simp only [List.setIfInBounds_toArray]); (try simp only [List.set_cons_succ]); (try simp only [List.set_cons_zero]))))
        refine wpHeld_nil ?_
        refine wpAnyW_takesAt 5 1 8 (of_decide_eq_true (by kernel_rfl)) rfl (fun _ _ _ d _ h => by cases d <;> exact h) (by kernel_rfl) (by kernel_rfl) hHeld ?_
        simp only [List.drop_succ_cons, List.drop_zero, List.take_succ_cons, List.take_zero]
        iterate 1 (refine wpHeld_step (v := ?_) (by rfl) (fun wz hSw => ?_) ?_; rotate_left; (focus (obtain ⟨f1, f2, f3, f4, f5, f6, f7, f8⟩ := hSw; have g1 := f1.cell; have g2 := f2.cell; have g3 := f3.cell; have g4 := f4.cell; clear f1 f2 f3 f4; go_simp; try with_reducible rfl)); ((simp only [Act.put]; (try simp only [List.setIfInBounds_toArray]); (try simp only [List.set_cons_succ]); (try simp only [List.set_cons_zero]))))
        refine wpHeld_nil ?_
        refine wpAnyW_takesAt 6 1 7 (of_decide_eq_true (by kernel_rfl)) rfl (fun _ _ _ d _ h => by cases d <;> exact h) (by kernel_rfl) (by kernel_rfl) hHeld ?_
        simp only [List.drop_succ_cons, List.drop_zero, List.take_succ_cons, List.take_zero]
        iterate 1 (refine wpHeld_step (v := ?_) (by rfl) (fun wz hSw => ?_) ?_; rotate_left; (focus (obtain ⟨f1, f2, f3, f4, f5, f6, f7, f8⟩ := hSw; have g1 := f1.cell; have g2 := f2.cell; have g3 := f3.cell; have g4 := f4.cell; clear f1 f2 f3 f4; go_simp; try with_reducible rfl)); ((simp only [Act.put]; (try simp only [List.setIfInBounds_toArray]); (try simp only [List.set_cons_succ]); (try simp only [List.set_cons_zero]))))
        refine wpHeld_nil ?_
        refine wpAnyW_takesAt 7 2 5 (of_decide_eq_true (by kernel_rfl)) rfl (fun _ _ _ d _ h => by cases d <;> exact h) (by kernel_rfl) (by kernel_rfl) hHeld ?_
        simp only [List.drop_succ_cons, List.drop_zero, List.take_succ_cons, List.take_zero]
        iterate 2 (refine wpHeld_step (v := ?_) (by rfl) (fun wz hSw => ?_) ?_; rotate_left; (focus ((try dsimp only at hSw); go_simp; try with_reducible rfl)); (simp only [Act.put, List.setIfInBounds_toArray, List.set_cons_zero, List.set_cons_succ]))
        refine wpHeld_nil ?_
        refine wpAnyW_takesAt 9 1 4 (of_decide_eq_true (by kernel_rfl)) rfl (fun _ _ _ d _ h => by cases d <;> exact h) (by kernel_rfl) (by kernel_rfl) hHeld ?_
        simp only [List.drop_succ_cons, List.drop_zero, List.take_succ_cons, List.take_zero]
        iterate 1 (refine wpHeld_step (v := ?_) (by rfl) (fun wz hSw => ?_) ?_; rotate_left; (focus (obtain ⟨f1, f2, f3, f4, f5, f6, f7, f8⟩ := hSw; have g1 := f1.cell; have g2 := f2.cell; have g3 := f3.cell; have g4 := f4.cell; clear f1 f2 f3 f4; go_simp; try with_reducible rfl)); ((simp only [Act.put]; (try simp only [List.setIfInBounds_toArray]); (try simp only [List.set_cons_succ]); (try simp only [List.set_cons_zero]))))
        refine wpHeld_nil ?_
        refine wpAnyW_takesAt 10 1 3 (of_decide_eq_true (by kernel_rfl)) rfl (fun _ _ _ d _ h => by cases d <;> exact h) (by kernel_rfl) (by kernel_rfl) hHeld ?_
        simp only [List.drop_succ_cons, List.drop_zero, List.take_succ_cons, List.take_zero]
        iterate 1 (refine wpHeld_step (v := ?_) (by rfl) (fun wz hSw => ?_) ?_; rotate_left; (focus (obtain ⟨f1, f2, f3, f4, f5, f6, f7, f8⟩ := hSw; have g1 := f1.cell; have g2 := f2.cell; have g3 := f3.cell; have g4 := f4.cell; clear f1 f2 f3 f4; go_simp; try with_reducible rfl)); ((simp only [Act.put]; (try simp only [List.setIfInBounds_toArray]); (try simp only [List.set_cons_succ]); (try simp only [List.set_cons_zero]))))
        refine wpHeld_nil ?_
        refine wpAnyW_only (i := 11) (by kernel_rfl) rfl (by rfl) (fun K hK => ?_)
        go_simp
        refine (callsIn_wide.2 (count_at hHeld.2.2.2.2.2.2.2)).mono ?_
        rintro e Y1 ⟨rfl, rfl⟩
        refine hK.out _ _ hHeld ?_
        clear hK K
        refine wpAnyW_only (i := 12) (by kernel_rfl) rfl (by rfl) (fun K hK => ?_)
        go_simp
        refine (callsIn_wide.2 HFo.out).mono ?_
        rintro e Y2 ⟨rfl, hb2⟩
        refine hK.out _ _ (HSB.out _ Y2 HSZ.out hb2) ?_
        clear hK K hHeld
        refine wpAnyW_only (i := 13) (by kernel_rfl) rfl (by rfl) (fun K hK => ?_)
        obtain ⟨fn, tmps, assign, body, hy, hR⟩ := HYh.out Y2 hb2
        go_simp
        refine RoundIn.mono hR ?_
        rintro e Y3 (⟨rfl, hJ3, hk3⟩ | ⟨rfl, hJ3, hk3⟩)
        · have hkL : KxL L [p, g, L, R] W.heap.size Y2 Y3 := HKL.out _ _ hk3
          refine hK.out _ _ (HS7.out Y2 Y3 hb2 hkL) ?_
          clear hK K
          refine wpAnyW_done (by kernel_rfl) ?_ _
          refine OnOnly.on ?_
          have hKD3 : Y3.heap[D]? = some (.deferred (some [])) := hk3.2.same D _ (by omega) ((hb2.block D HDl.out).trans HKD.out) rfl
          gi_wp2
          refine ⟨by simp, .inl ⟨_, _, rfl, run_takeDeferred hKD3, ?_⟩⟩
          exact ⟨_, results_none rfl _ _ _, ⟨_, rfl⟩, .inl ⟨_, rfl, hJ _ _ _ hJ3 (below_putObj Y3 _ (by omega))⟩⟩
        · refine hK.out _ _ (HS7.out Y2 Y3 hb2 hk3) ?_
          clear hK K
          refine wpAnyW_done (by kernel_rfl) ?_ _
          refine OnOnly.on ?_
          have hKD3 : Y3.heap[D]? = some (.deferred (some [])) := hk3.1.2.same D _ (by omega) ((hb2.block D HDl.out).trans HKD.out) rfl
          gi_wp2
          refine ⟨by simp, .inl ⟨_, _, rfl, run_takeDeferred hKD3, ?_⟩⟩
          exact ⟨_, results_none rfl _ _ _, ⟨_, rfl⟩, .inr ⟨_, trivial, hJx _ _ _ hJ3 (below_putObj Y3 _ (by omega))⟩⟩
      · have hHeld := HSK.out X.drew X3 (HSX.out _ (Below.refl _ _).drew) hk3
        refine hK.out _ _ hHeld ?_
        clear hK K
        refine wpAnyW_takesAt 11 1 1 (of_decide_eq_true (by kernel_rfl)) rfl (fun _ _ _ d _ h => by cases d <;> exact h) (by kernel_rfl) (by kernel_rfl) hHeld ?_
        simp only [List.drop_succ_cons, List.drop_zero, List.take_succ_cons, List.take_zero]
        iterate 1 (refine wpHeld_step (v := ?_) (by rfl) (fun wz hSw => ?_) ?_; rotate_left; (focus ((try dsimp only at hSw); go_simp; try with_reducible rfl)); ((simp only [Act.put]; (try simp only [List.setIfInBounds_toArray]); (try simp only [List.set_cons_succ]); (try simp only [List.set_cons_zero]))))
        refine wpHeld_nil ?_
        refine wpAnyW_takesAt 12 1 0 (of_decide_eq_true (by kernel_rfl)) rfl (fun _ _ _ d _ h => by cases d <;> exact h) (by kernel_rfl) (by kernel_rfl) hHeld ?_
        simp only [List.drop_succ_cons, List.drop_zero, List.take_succ_cons, List.take_zero]
        iterate 1 (refine wpHeld_step (v := ?_) (by rfl) (fun wz hSw => ?_) ?_; rotate_left; (focus ((try dsimp only at hSw); go_simp; try with_reducible rfl)); ((simp only [Act.put]; (try simp only [List.setIfInBounds_toArray]); (try simp only [List.set_cons_succ]); (try simp only [List.set_cons_zero]))))
        refine wpHeld_nil ?_
        refine wpAnyW_done (by kernel_rfl) ?_ _
        refine OnOnly.on ?_
        have hKD3 : X3.heap[D]? = some (.deferred (some [])) := hk3.1.2.same D _ (by omega) HKDx.out rfl
        gi_wp2
        refine ⟨by simp, .inl ⟨_, _, rfl, run_takeDeferred hKD3, ?_⟩⟩
        exact ⟨_, results_none rfl _ _ _, ⟨_, rfl⟩, .inr ⟨_, trivial, hJx _ _ _ hJ3 (below_putObj X3 _ (by omega))⟩⟩
    · have HPre : Hid (tailW A zs K ++ [(A, headL zs gen num)] = wsOf A E gen num zs) := by show _ = _; rw [wsOf, hKs, if_neg hAE, List.nil_append]
      have hci : ¬ ((A + K : Nat) : Int) < (E : Nat) := by omega
      have hcd : decide (((A + K : Nat) : Int) < (E : Nat)) = false := decide_eq_false hci
      obtain ⟨Ni, hNi⟩ : ∃ Ni : Int, ((A + K : Nat) : Int) = Ni := ⟨_, rfl⟩
      rw [hNi] at HSX hci hcd HSB HSK
      have HKDx : Hid (X.heap[D]? = some (.deferred (some []))) := hKD
      have HZs : Hid (W.heap.size ≤ X.heap.size) := HSz.out
      gi_wp2
      refine wpIn_region_Wo (S := fun Y => Boxed Y W.heap.size 98 (.func (.yield l) #[] #[]) ∧ Boxed Y (W.heap.size + 1) 3 (.int .i64 Ni) ∧ Boxed Y B1 31 (.pointer (some ⟨L, 0, none⟩)) ∧ Boxed Y B2 25 (.slice q len cap) ∧ Y.cell? ⟨L, 2, none⟩ = some (.int .u32 (gen : Nat)) ∧ Y.cell? ⟨L, 3, none⟩ = some (.int .i64 (A : Nat)) ∧ Y.cell? ⟨L, 4, none⟩ = some (.int .i64 (E : Nat)) ∧ Y.cell? ⟨L, 5, none⟩ = some (.slice vq num vc)) (by kernel_rfl) (HSX.out _ (Below.refl _ _).drew) (fun hHeld => ?_)
      refine wpAnyW_takesAt 0 5 8 (of_decide_eq_true (by kernel_rfl)) rfl (fun _ _ _ d _ h => by cases d <;> exact h) (by kernel_rfl) (by kernel_rfl) hHeld ?_
      simp only [List.drop_zero, List.take_succ_cons, List.take_zero]
      iterate 5 (refine wpHeld_step (v := ?_) (by rfl) (fun wz hSw => ?_) ?_; rotate_left; (focus (obtain ⟨f1, f2, f3, f4, f5, f6, f7, f8⟩ := hSw; have g1 := f1.cell; have g2 := f2.cell; have g3 := f3.cell; have g4 := f4.cell; clear f1 f2 f3 f4; go_simp; try with_reducible rfl)); (simp only [Act.put, List.setIfInBounds_toArray, List.set_cons_zero, List.set_cons_succ]))
      refine wpHeld_nil ?_
      refine wpAnyW_takesAt 5 1 7 (of_decide_eq_true (by kernel_rfl)) rfl (fun _ _ _ d _ h => by cases d <;> exact h) (by kernel_rfl) (by kernel_rfl) hHeld ?_
      simp only [List.drop_succ_cons, List.drop_zero, List.take_succ_cons, List.take_zero]
      iterate 1 (refine wpHeld_step (v := ?_) (by rfl) (fun wz hSw => ?_) ?_; rotate_left; (focus ((try dsimp only at hSw); go_simp; try with_reducible rfl)); ((simp only [Act.put]; (try simp only [List.setIfInBounds_toArray]); (try simp only [List.set_cons_succ]); (try simp only [List.set_cons_zero]))))
      refine wpHeld_nil ?_
      refine wpAnyW_takesAt 6 1 6 (of_decide_eq_true (by kernel_rfl)) rfl (fun _ _ _ d _ h => by cases d <;> exact h) (by kernel_rfl) (by kernel_rfl) hHeld ?_
      simp only [List.drop_succ_cons, List.drop_zero, List.take_succ_cons, List.take_zero]
      iterate 1 (refine wpHeld_step (v := ?_) (by rfl) (fun wz hSw => ?_) ?_; rotate_left; (focus ((try dsimp only at hSw); go_simp; try with_reducible rfl)); ((simp only [Act.put]; (try simp only [List.setIfInBounds_toArray]); (try simp only [List.set_cons_succ]); (try simp only [List.set_cons_zero]))))
      refine wpHeld_nil ?_
      refine wpAnyW_takesAt 7 5 1 (of_decide_eq_true (by kernel_rfl)) rfl (fun _ _ _ d _ h => by cases d <;> exact h) (by kernel_rfl) (by kernel_rfl) hHeld ?_
      simp only [List.drop_succ_cons, List.drop_zero, List.take_succ_cons, List.take_zero]
      iterate 5 (refine wpHeld_skip (by rfl) ?_; (simp only [Act.put]; (try simp only [List.setIfInBounds_toArray]); (try simp only [List.set_cons_succ]); (try simp only [List.set_cons_zero])))
      refine wpHeld_nil ?_
      refine wpAnyW_takesAt 12 1 0 (of_decide_eq_true (by kernel_rfl)) rfl (fun _ _ _ d _ h => by cases d <;> exact h) (by kernel_rfl) (by kernel_rfl) hHeld ?_
      simp only [List.drop_succ_cons, List.drop_zero, List.take_succ_cons, List.take_zero]
      iterate 1 (refine wpHeld_step (v := ?_) (by rfl) (fun wz hSw => ?_) ?_; rotate_left; (focus ((try dsimp only at hSw); go_simp; try with_reducible rfl)); ((simp only [Act.put]; (try simp only [List.setIfInBounds_toArray]); (try simp only [List.set_cons_succ]); (try simp only [List.set_cons_zero]))))
      refine wpHeld_nil ?_
      refine wpAnyW_done (by kernel_rfl) ?_ _
      refine OnOnly.on ?_
      have HJX : Hid (J (tailW A zs K) X.drew) := hJ _ _ _ hj (Below.refl _ _).drew
      have HZs2 : Hid (m ≤ X.heap.size) := Nat.le_trans hm HSz.out
      have HSZ : Hid (Boxed X W.heap.size 98 (.func (.yield l) #[] #[]) ∧ Boxed X (W.heap.size + 1) 3 (.int .i64 Ni) ∧ Boxed X B1 31 (.pointer (some ⟨L, 0, none⟩)) ∧ Boxed X B2 25 (.slice q len cap) ∧ X.cell? ⟨L, 2, none⟩ = some (.int .u32 (gen : Nat)) ∧ X.cell? ⟨L, 3, none⟩ = some (.int .i64 (A : Nat)) ∧ X.cell? ⟨L, 4, none⟩ = some (.int .i64 (E : Nat)) ∧ X.cell? ⟨L, 5, none⟩ = some (.slice vq num vc)) := HSX.out X (Below.refl _ _)
      have HFo : Hid (Calls Try.prog 52 #[.slice q len cap, .int .u32 (gen : Nat), .int .i64 (num : Nat)] X.drew.drew fun e w' => e = .returned (.agg (u8s (headL zs gen num)).toArray) ∧ Below X.heap.size X w') := (firstOf_any q len cap zs gen num X.drew.drew ((HIX.out.mono HZs2.out).below (Below.refl _ _).drew.drew) (by omega) (by omega)).mono fun e w' ⟨he, hb⟩ => ⟨he, (Below.refl _ X).drew.drew.trans hb⟩
      have HYh : Hid (∀ Y, Below X.heap.size X Y → YieldAt Fence.wide (n - 1) Try.prog l #[.int .i64 (A : Nat), .agg (u8s (headL zs gen num)).toArray] Y fun e W' =>
          (e = .returned (.bool true) ∧ J (wsOf A E gen num zs) W' ∧ KpC [p, g] W.heap.size Y W') ∨ (e = .returned (.bool false) ∧ Jx (wsOf A E gen num zs) W' ∧ KxL L [p, g, L, R] W.heap.size Y W')) := fun Y hb => by
        have h := hY (tailW A zs K) (A, headL zs gen num) Y (hJ _ _ _ (hj) (hb.mono (by have := HZs.out; omega))) (headL_sec HZ.out gen num) ⟨[], by rw [← HPre.out]⟩
        rw [HPre.out] at h
        exact Ch.room_none h
      have HKD : Hid (X.heap[D]? = some (.deferred (some []))) := HKDx.out
      have HDl : Hid (D < X.heap.size) := (Array.getElem?_eq_some_iff.1 HKD.out).1
      obtain ⟨V7, hV7⟩ : ∃ V, u8s (headL zs gen num) = V := ⟨_, rfl⟩
      rw [hV7] at HFo HYh
      clear hV7
      have HS7 : Hid (∀ Y Y', Below X.heap.size X Y → KxL L [p, g, L, R] W.heap.size Y Y' → Boxed Y' W.heap.size 98 (.func (.yield l) #[] #[]) ∧ Boxed Y' (W.heap.size + 1) 3 (.int .i64 Ni) ∧ Boxed Y' B1 31 (.pointer (some ⟨L, 0, none⟩)) ∧ Boxed Y' B2 25 (.slice q len cap) ∧ Y'.cell? ⟨L, 2, none⟩ = some (.int .u32 (gen : Nat)) ∧ Y'.cell? ⟨L, 3, none⟩ = some (.int .i64 (A : Nat)) ∧ Y'.cell? ⟨L, 4, none⟩ = some (.int .i64 (E : Nat)) ∧ Y'.cell? ⟨L, 5, none⟩ = some (.slice vq num vc)) := fun Y Y' hb hk => HSK.out Y Y' (HSB.out X Y HSZ.out hb) hk
      gi_wp2
      refine wpIn_region_Wo (S := fun Y => Boxed Y W.heap.size 98 (.func (.yield l) #[] #[]) ∧ Boxed Y (W.heap.size + 1) 3 (.int .i64 Ni) ∧ Boxed Y B1 31 (.pointer (some ⟨L, 0, none⟩)) ∧ Boxed Y B2 25 (.slice q len cap) ∧ Y.cell? ⟨L, 2, none⟩ = some (.int .u32 (gen : Nat)) ∧ Y.cell? ⟨L, 3, none⟩ = some (.int .i64 (A : Nat)) ∧ Y.cell? ⟨L, 4, none⟩ = some (.int .i64 (E : Nat)) ∧ Y.cell? ⟨L, 5, none⟩ = some (.slice vq num vc)) (by kernel_rfl) (HSB.out X _ HSZ.out (Below.refl _ _).drew.drew) (fun hHeld => ?_)
      refine wpAnyW_takesAt 0 4 10 (of_decide_eq_true (by kernel_rfl)) rfl (fun _ _ _ d _ h => by cases d <;> exact h) (by kernel_rfl) (by kernel_rfl) hHeld ?_
      simp only [List.drop_zero, List.take_succ_cons, List.take_zero]
      iterate 4 (refine wpHeld_step (v := ?_) (by rfl) (fun wz hSw => ?_) ?_; rotate_left; (focus (obtain ⟨f1, f2, f3, f4, f5, f6, f7, f8⟩ := hSw; have g1 := f1.cell; have g2 := f2.cell; have g3 := f3.cell; have g4 := f4.cell; clear f1 f2 f3 f4; go_simp; try with_reducible rfl)); (simp only [Act.put, List.setIfInBounds_toArray, List.set_cons_zero, List.set_cons_succ]))
      refine wpHeld_nil ?_
      refine wpAnyW_takesAt 4 1 9 (of_decide_eq_true (by kernel_rfl)) rfl (fun _ _ _ d _ h => by cases d <;> exact h) (by kernel_rfl) (by kernel_rfl) hHeld ?_
      simp only [List.drop_succ_cons, List.drop_zero, List.take_succ_cons, List.take_zero]
      iterate 1 (refine wpHeld_step (v := ?_) (by rfl) (fun wz hSw => ?_) ?_; rotate_left; (focus (obtain ⟨f1, f2, f3, f4, f5, f6, f7, f8⟩ := hSw; have g1 := f1.cell; have g2 := f2.cell; have g3 := f3.cell; have g4 := f4.cell; clear f1 f2 f3 f4; go_simp; try with_reducible rfl)); ((simp only [Act.put]; (try simp only [List.setIfInBounds_toArray]); (try simp only [List.set_cons_succ]); (try simp only [List.set_cons_zero]))))
      refine wpHeld_nil ?_
      refine wpAnyW_takesAt 5 1 8 (of_decide_eq_true (by kernel_rfl)) rfl (fun _ _ _ d _ h => by cases d <;> exact h) (by kernel_rfl) (by kernel_rfl) hHeld ?_
      simp only [List.drop_succ_cons, List.drop_zero, List.take_succ_cons, List.take_zero]
      iterate 1 (refine wpHeld_step (v := ?_) (by rfl) (fun wz hSw => ?_) ?_; rotate_left; (focus (obtain ⟨f1, f2, f3, f4, f5, f6, f7, f8⟩ := hSw; have g1 := f1.cell; have g2 := f2.cell; have g3 := f3.cell; have g4 := f4.cell; clear f1 f2 f3 f4; go_simp; try with_reducible rfl)); ((simp only [Act.put]; (try simp only [List.setIfInBounds_toArray]); (try simp only [List.set_cons_succ]); (try simp only [List.set_cons_zero]))))
      refine wpHeld_nil ?_
      refine wpAnyW_takesAt 6 1 7 (of_decide_eq_true (by kernel_rfl)) rfl (fun _ _ _ d _ h => by cases d <;> exact h) (by kernel_rfl) (by kernel_rfl) hHeld ?_
      simp only [List.drop_succ_cons, List.drop_zero, List.take_succ_cons, List.take_zero]
      iterate 1 (refine wpHeld_step (v := ?_) (by rfl) (fun wz hSw => ?_) ?_; rotate_left; (focus (obtain ⟨f1, f2, f3, f4, f5, f6, f7, f8⟩ := hSw; have g1 := f1.cell; have g2 := f2.cell; have g3 := f3.cell; have g4 := f4.cell; clear f1 f2 f3 f4; go_simp; try with_reducible rfl)); ((simp only [Act.put]; (try simp only [List.setIfInBounds_toArray]); (try simp only [List.set_cons_succ]); (try simp only [List.set_cons_zero]))))
      refine wpHeld_nil ?_
      refine wpAnyW_takesAt 7 2 5 (of_decide_eq_true (by kernel_rfl)) rfl (fun _ _ _ d _ h => by cases d <;> exact h) (by kernel_rfl) (by kernel_rfl) hHeld ?_
      simp only [List.drop_succ_cons, List.drop_zero, List.take_succ_cons, List.take_zero]
      iterate 2 (refine wpHeld_step (v := ?_) (by rfl) (fun wz hSw => ?_) ?_; rotate_left; (focus ((try dsimp only at hSw); go_simp; try with_reducible rfl)); (simp only [Act.put, List.setIfInBounds_toArray, List.set_cons_zero, List.set_cons_succ]))
      refine wpHeld_nil ?_
      refine wpAnyW_takesAt 9 1 4 (of_decide_eq_true (by kernel_rfl)) rfl (fun _ _ _ d _ h => by cases d <;> exact h) (by kernel_rfl) (by kernel_rfl) hHeld ?_
      simp only [List.drop_succ_cons, List.drop_zero, List.take_succ_cons, List.take_zero]
      iterate 1 (refine wpHeld_step (v := ?_) (by rfl) (fun wz hSw => ?_) ?_; rotate_left; (focus (obtain ⟨f1, f2, f3, f4, f5, f6, f7, f8⟩ := hSw; have g1 := f1.cell; have g2 := f2.cell; have g3 := f3.cell; have g4 := f4.cell; clear f1 f2 f3 f4; go_simp; try with_reducible rfl)); ((simp only [Act.put]; (try simp only [List.setIfInBounds_toArray]); (try simp only [List.set_cons_succ]); (try simp only [List.set_cons_zero]))))
      refine wpHeld_nil ?_
      refine wpAnyW_takesAt 10 1 3 (of_decide_eq_true (by kernel_rfl)) rfl (fun _ _ _ d _ h => by cases d <;> exact h) (by kernel_rfl) (by kernel_rfl) hHeld ?_
      simp only [List.drop_succ_cons, List.drop_zero, List.take_succ_cons, List.take_zero]
      iterate 1 (refine wpHeld_step (v := ?_) (by rfl) (fun wz hSw => ?_) ?_; rotate_left; (focus (obtain ⟨f1, f2, f3, f4, f5, f6, f7, f8⟩ := hSw; have g1 := f1.cell; have g2 := f2.cell; have g3 := f3.cell; have g4 := f4.cell; clear f1 f2 f3 f4; go_simp; try with_reducible rfl)); ((simp only [Act.put]; (try simp only [List.setIfInBounds_toArray]); (try simp only [List.set_cons_succ]); (try simp only [List.set_cons_zero]))))
      refine wpHeld_nil ?_
      refine wpAnyW_only (i := 11) (by kernel_rfl) rfl (by rfl) (fun K hK => ?_)
      go_simp
      refine (callsIn_wide.2 (count_at hHeld.2.2.2.2.2.2.2)).mono ?_
      rintro e Y1 ⟨rfl, rfl⟩
      refine hK.out _ _ hHeld ?_
      clear hK K
      refine wpAnyW_only (i := 12) (by kernel_rfl) rfl (by rfl) (fun K hK => ?_)
      go_simp
      refine (callsIn_wide.2 HFo.out).mono ?_
      rintro e Y2 ⟨rfl, hb2⟩
      refine hK.out _ _ (HSB.out _ Y2 HSZ.out hb2) ?_
      clear hK K hHeld
      refine wpAnyW_only (i := 13) (by kernel_rfl) rfl (by rfl) (fun K hK => ?_)
      obtain ⟨fn, tmps, assign, body, hy, hR⟩ := HYh.out Y2 hb2
      go_simp
      refine RoundIn.mono hR ?_
      rintro e Y3 (⟨rfl, hJ3, hk3⟩ | ⟨rfl, hJ3, hk3⟩)
      · have hkL : KxL L [p, g, L, R] W.heap.size Y2 Y3 := HKL.out _ _ hk3
        refine hK.out _ _ (HS7.out Y2 Y3 hb2 hkL) ?_
        clear hK K
        refine wpAnyW_done (by kernel_rfl) ?_ _
        refine OnOnly.on ?_
        have hKD3 : Y3.heap[D]? = some (.deferred (some [])) := hk3.2.same D _ (by omega) ((hb2.block D HDl.out).trans HKD.out) rfl
        gi_wp2
        refine ⟨by simp, .inl ⟨_, _, rfl, run_takeDeferred hKD3, ?_⟩⟩
        exact ⟨_, results_none rfl _ _ _, ⟨_, rfl⟩, .inl ⟨_, rfl, hJ _ _ _ hJ3 (below_putObj Y3 _ (by omega))⟩⟩
      · refine hK.out _ _ (HS7.out Y2 Y3 hb2 hk3) ?_
        clear hK K
        refine wpAnyW_done (by kernel_rfl) ?_ _
        refine OnOnly.on ?_
        have hKD3 : Y3.heap[D]? = some (.deferred (some [])) := hk3.1.2.same D _ (by omega) ((hb2.block D HDl.out).trans HKD.out) rfl
        gi_wp2
        refine ⟨by simp, .inl ⟨_, _, rfl, run_takeDeferred hKD3, ?_⟩⟩
        exact ⟨_, results_none rfl _ _ _, ⟨_, rfl⟩, .inr ⟨_, trivial, hJx _ _ _ hJ3 (below_putObj Y3 _ (by omega))⟩⟩
  case stop =>
    rintro D c pre X hD ⟨k, hk⟩ ⟨rfl, ⟨pre', hj⟩, hsz⟩ hKD
    gi_wp2
    refine ⟨by simp, .inl ⟨_, _, rfl, run_takeDeferred hKD, ?_⟩⟩
    exact ⟨_, results_none rfl _ _ _, ⟨_, rfl⟩, .inr ⟨pre', trivial, hJx.mono (by omega : W.heap.size ≤ w3.heap.size) _ _ _ hj (below_putObj X _ hD)⟩⟩
end Go.Proofs.Ytifjkkfienmdjaa
