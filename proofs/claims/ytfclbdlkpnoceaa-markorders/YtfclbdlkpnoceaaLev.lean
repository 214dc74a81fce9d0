/-
  The levels, told one behind the other.
-/
import Derived.Test.YtfclbdlkpnoceaaMeetAll
import Derived.Test.YtfclbdlkpnoceaaLinksAll
namespace Go.Proofs.Ytfclbdlkpnoceaa
open Go.RowKit Go.Shelf Go.Maps
attribute [local go_sem] Oper.semAt_some

theorem levels_any (p : Option Addr) (len cap : Nat) (q : Option Addr) (rl rc : Nat) (w : World) : Calls Try.prog 22 #[.slice p len cap, .slice q rl rc] w fun e w' =>
    e = .returned (.func (.func 34) #[] #[.pointer (some ⟨w.heap.size, 0, none⟩), .pointer (some ⟨w.heap.size + 1, 0, none⟩)]) ∧ w' = (w.alloc (.cells #[.slice p len cap] 22)).alloc (.cells #[.slice q rl rc] 23) := by
  go_enter Try.func22, Try.ntmps22
  go_wp2
  go_ret
  exact ⟨rfl, rfl⟩
def mapSize (w : World) (b : Nat) : Nat := match w.heap[b]? with | some (.map es _) => es.size | _ => 0
theorem mapSize_met {w : World} {b : Nat} {S : List (List Nat)} (h : MapAt Try.prog 33 w b (metF S)) (hS : S.Nodup) : mapSize w b = S.length := by
  obtain ⟨es, cl, hb, _, hp, hf, hx⟩ := h
  have hk : (es.toList.map (·.key)).Nodup := List.pairwise_map.2 hp
  have h1 := nodup_le (es.toList.map (·.key)) (S.map idV) hk (fun y hy => by
    obtain ⟨e, he, rfl⟩ := List.mem_map.1 hy
    obtain ⟨x, hx1, hx2⟩ := metF_some (hf e he)
    exact List.mem_map.2 ⟨x, hx1, hx2.symm⟩)
  have h2 := nodup_le (S.map idV) (es.toList.map (·.key)) (List.pairwise_map.2 (hS.imp fun {a b} hne e => hne (idV_inj e))) (fun y hy => by
    obtain ⟨x, hx1, rfl⟩ := List.mem_map.1 hy
    obtain ⟨e, he, hek⟩ := hx (idV x) (.agg #[]) (by rw [metF_at, if_pos hx1])
    exact List.mem_map.2 ⟨e, he, hek⟩)
  simp at h1 h2
  unfold mapSize
  rw [hb]
  show es.size = _
  omega
def lenV : Value → Nat
  | .slice _ n _ => n
  | _ => 0
theorem linkedL_length {l : List O} (h : ∀ o ∈ l, o.links.length ≤ 100) : ∀ (lv : List (List Nat)), (linkedL l lv).length ≤ 100 * lv.length
  | [] => by simp [linkedL]
  | x :: r => by
    have ih := linkedL_length h r
    have hx : (linksO l x).length ≤ 100 := by
      cases hh : hasO l x with
      | false => rw [linksO_none hh]; simp
      | true => obtain ⟨o, ho, _, _, e⟩ := linkF_has hh; rw [e]; exact h o ho
    simp only [linkedL, List.flatMap_cons, List.length_append, List.length_cons] at ih ⊢
    omega
theorem own_buts {β : Type} {B m : Nat} {I : β → World → Prop} (h : OwnFrom B I) {s : β} {A A' : World} (hi : I s A) (hb : Buts [m] A.heap.size A A') (hm : B ≤ m) {o : Obj} (ho : A.heap[m]? = some o) (hc : o.isCells = false) : I s A' :=
  h s A A' (some m) hi ⟨hb.os, hb.tape, hb.output, hb.size, fun k hk hne => hb.block k hk (by simp; exact fun e => hne (by rw [e]))⟩ (fun r e => by cases e; exact ⟨hm, o, ho, hc⟩)
theorem MapAt.obj {P : Program} {k : TypeId} {w : World} {b : Nat} {f : Value → Option Value} (h : MapAt P k w b f) : ∃ o : Obj, w.heap[b]? = some o ∧ o.isCells = false := by
  obtain ⟨es, cl, hb, _⟩ := h
  exact ⟨_, hb, rfl⟩
theorem MapAt.kpp {P : Program} {k : TypeId} {A B : World} {b : Nat} {f : Value → Option Value} {Pr : Nat → Obj → Prop} (h : MapAt P k A b f) (hk : KpP Pr A B) (hP : ∀ o : Obj, o.isCells = false → Pr b o) : MapAt P k B b f := by
  obtain ⟨o, ho, hc⟩ := h.obj
  exact h.kept (by rw [ho]; exact hk b o (hP o hc) ho)
theorem OwnIds.kpp {n₀ : Nat} {A B : World} {Pr : Nat → Obj → Prop} {v : Value} {ids : List (List Nat)} (h : OwnIds n₀ A v ids) (hk : KpP Pr A B) (hP : ∀ k c fr, n₀ ≤ k → Pr k (.cells c 33 fr)) : OwnIds n₀ B v ids := by
  unfold OwnIds at h ⊢
  refine ⟨h.1, ?_⟩
  rcases h.2 with h | ⟨g, c, cur, e, hg, hgg, hnc, hm, hsz, ht⟩
  · exact .inl h
  · exact .inr ⟨g, c, cur, e, hg, hk g _ (hP g _ _ hg) hgg, hnc, hm, hsz, ht⟩

theorem wpHeld_loadSt {P : Program} {ops : Array Oper} {S : World → Prop} {K : Act → Prop} {a : Act} {o : Oper} {rest : List Oper} (hw : Region.wanted o (yielded ops a.tmps) = true) (ty : TypeId) (x : Operand) (ho : o.op = .load ty x)
    (b off : Nat) (hx : a.eval x = .pointer (some ⟨b, off, none⟩)) (cs : List Value) {d : TypeDesc} (hS : ∀ w, S w → w.rangeAt b off cs) (hu : P.underlying ty = some d) (hd : d.isRow = true) (hi : (P.info? ty).map (·.size) = some cs.length)
    (h : wpHeld P ops S K rest (a.put o.dst (.agg cs.toArray))) : wpHeld P ops S K (o :: rest) a := ⟨_, yieldsIf_load_mid hw ty x ho b off hx cs _ hS hu hd hi, h⟩
/-- Levels under way. -/
def LvI (Z Bw Lm Mm n₀ : Nat) (p : Option Addr) (len cap : Nat) (l : List O) (roots : List (List Nat)) (J : List (Value × List (List Nat)) → World → Prop) (v : Value) (A : World) : Prop :=
  ∃ (pre : List (Value × List (List Nat))) (next : List (List Nat)) (f : Nat), Wk l roots (pre.map (·.2)) next f ∧ (∀ y ∈ next, IsId y) ∧ J pre A ∧ OwnIds Z A v (meetL l (pre.map (·.2)).flatten next) ∧
    MapAt Try.prog 33 A Mm (metF ((pre.map (·.2)).flatten ++ meetL l (pre.map (·.2)).flatten next)) ∧ MapAt Try.prog 33 A Lm (linkF l) ∧ Row A Bw 75 [.map (some Lm), .map (some Mm)] ∧ IsObjs n₀ A p len cap l ∧ Z ≤ A.heap.size

theorem Wk.all_nodup {l : List O} {roots : List (List Nat)} {lvs : List (List (List Nat))} {next : List (List Nat)} {f : Nat} (h : Wk l roots lvs next f) : (lvs.flatten ++ meetL l lvs.flatten next).Nodup ∧ (lvs.flatten ++ meetL l lvs.flatten next).length ≤ l.length := by
  have h1 : (lvs.flatten ++ meetL l lvs.flatten next).Nodup := by
    rw [List.nodup_append]
    refine ⟨h.nodup, meetL_nodup _ _ _, fun x hx y hy => ?_⟩
    rintro rfl
    exact (meetL_mem.1 hy).2.2 hx
  have h2 := nodup_le (lvs.flatten ++ meetL l lvs.flatten next) (l.map (·.id)) h1 (fun x hx => by
    have hh : hasO l x = true := by
      rcases List.mem_append.1 hx with h3 | h3
      · exact h.has x h3
      · exact (meetL_mem.1 h3).2.1
    obtain ⟨o, ho, e⟩ := hasO_iff.1 hh
    exact List.mem_map.2 ⟨o, ho, e⟩)
  exact ⟨h1, by simpa using h2⟩
def lvM (L Mm : Nat) (v : Value) (w : World) : Nat := 2 * (L + 1 - mapSize w Mm) + min 1 (lenV v)

set_option maxRecDepth 100000 in
set_option maxHeartbeats 1000000 in
theorem levels1_iter (n : Nat) (hn : 9 ≤ n) (lp B1 B2 n₀ : Nat) (p : Option Addr) (len cap : Nat) (q : Option Addr) (rl rc : Nat) (l : List O) (roots : List (List Nat)) (P : Nat → Obj → Prop) (W : World) (hlen : len ≤ 100) (hrl : rl ≤ 1000)
    (hB1 : Boxed W B1 22 (.slice p len cap)) (hB2 : Boxed W B2 23 (.slice q rl rc)) (hI : IsObjs n₀ W p len cap l) (hR : IsIds n₀ W q rl rc roots) (hn₀ : n₀ ≤ W.heap.size) (hln : ∀ o ∈ l, o.links.length ≤ 100)
    (hP1 : ∀ k o, W.heap.size ≤ k → (∀ c fr, o ≠ .cells c 23 fr) → P k o) (hP2 : ∀ k c t fr, k < n₀ → P k (.cells c t fr)) :
    IterX Fence.wide n Try.prog 34 #[.pointer (some ⟨B1, 0, none⟩), .pointer (some ⟨B2, 0, none⟩)] (fun x : Value × List (List Nat) => #[x.1]) (fun x A => OwnIds W.heap.size A x.1 x.2 ∧ ∀ y ∈ x.2, IsId y) (KpP P) (fun pre x => ∃ post, levels l roots = pre.map (·.2) ++ x.2 :: post) (fun xs => xs.map (·.2) = levels l roots) (fun _ => True) lp W := by
  intro J Jx hJ hJx hY h0
  have h1 : 1 ≤ n := by omega
  have hfn : ∀ f, Fence.wide.fn f := fun _ => trivial
  have hc1 := hB1.cell
  have hlll := hI.1
  refine callsIn_of_wp Try.func34 rfl trivial ?_ rfl
  simp only [Try.ntmps34, List.size_toArray, List.length_cons, List.length_nil, Nat.reduceAdd, Nat.reduceSub, Array.replicate_succ, Array.replicate_zero, List.push_toArray, List.append_toArray, List.nil_append, List.cons_append]
  gi_wp2_with (gi_at_call 35; refine (begin_in _ (by omega) p len cap l (by omega) W (hI.mono hn₀)).mono ?_; rintro e W1 ⟨Lm, Mm, rfl, hL1, hM1, hne, hLZ, hMZ, hb1⟩)
  obtain ⟨X0, hX0⟩ : ∃ X0, W1.alloc (.cells #[.map (some Lm), .map (some Mm)] 75) = X0 := ⟨_, rfl⟩
  rw [hX0]
  have bX : Below W1.heap.size W1 X0 := by rw [← hX0]; exact (Below.refl _ W1).alloc (Nat.le_refl _) _
  have sX : X0.heap.size = W1.heap.size + 1 := by rw [← hX0]; simp
  have rX : Row X0 W1.heap.size 75 [.map (some Lm), .map (some Mm)] := by rw [← hX0]; exact Row.new' W1 75 _
  clear hX0
  have hWB : W.heap.size ≤ W1.heap.size := hb1.size
  have hLl := hL1.lt
  have hMl := hM1.lt
  have hJ0 : J [] X0 := OwnFrom.grow hJ h0 (hb1.trans (bX.mono hb1.size))
  have hL0 : MapAt Try.prog 33 X0 Lm (linkF l) := hL1.below bX hLl
  have hM0 : MapAt Try.prog 33 X0 Mm (metF []) := hM1.below bX hMl
  have hbW : Below W.heap.size W X0 := hb1.trans (bX.mono hb1.size)
  have hI0 : IsObjs n₀ X0 p len cap l := hI.below (hbW.mono hn₀)
  have hR0 : IsIds n₀ X0 q rl rc roots := hR.below (hbW.mono hn₀)
  have hB20 : Boxed X0 B2 23 (.slice q rl rc) := boxed_below hB2 hbW
  have hLX : Lm < X0.heap.size := hL0.lt
  have hMX : Mm < X0.heap.size := hM0.lt
  generalize W1.heap.size = Bw at *
  have hBL : Bw ≠ Lm ∧ Bw ≠ Mm := by constructor <;> omega
  clear hc1 hB1 hB2 hI hR h0 hL1 hM1 hb1 hbW
  -- the first level
  have hS0 : Hid (∀ A, Below X0.heap.size X0 A → A.rangeAt Bw 0 [.map (some Lm), .map (some Mm)] ∧ A.cell? ⟨B2, 0, none⟩ = some (.slice q rl rc)) := fun A hb =>
    ⟨(rX.below hb rX.lt).range, (boxed_below hB20 hb).cell⟩
  obtain ⟨X1, hX1⟩ : ∃ X1, X0.drew = X1 := ⟨_, rfl⟩
  have hd1 : Below X0.heap.size X0 X1 := by rw [← hX1]; exact (Below.refl _ X0).drew
  have s1 : X1.heap.size = X0.heap.size := by rw [← hX1]; rfl
  obtain ⟨X2, hX2⟩ : ∃ X2, X1.alloc (.cells #[.slice q rl rc] 23) = X2 := ⟨_, rfl⟩
  have hb2 : Below X0.heap.size X0 X2 := by rw [← hX2]; exact hd1.alloc (by omega) _
  have hbx2 : Boxed X2 X1.heap.size 23 (.slice q rl rc) := by rw [← hX2]; exact Boxed.new X1 23 _
  have s2 : X2.heap.size = X0.heap.size + 1 := by rw [← hX2]; simp [s1]
  have HMt : Hid (∀ N, 6 ≤ N → CallsIn Fence.wide N Try.prog 36 #[.agg #[.map (some Lm), .map (some Mm)], .func (.func 49) #[] #[.pointer (some ⟨X1.heap.size, 0, none⟩)]] X2 (MeetPost X2 Mm l [] roots)) := fun N hN =>
    meet_in N hN Lm Mm hne l [] roots (by rw [hR0.1]; omega) 49 _ X2 (hM0.below hb2 hMX) (hL0.below hb2 hLX) (enters_of Try.func49 (by kernel_rfl) rfl) (fun lp' V hs hb =>
      values1_iter (N - 1) (by omega) lp' X1.heap.size n₀ q rl rc roots _ V (by omega) (boxed_below hbx2 hb) ((hR0.below (hb2.mono (by omega))).below (hb.mono (by omega))) (fun k c t fr hk => ⟨by omega, .inl rfl⟩))
  have HB23 : Hid (∀ A, Buts [Mm] X2.heap.size X2 A → A.cell? ⟨B2, 0, none⟩ = some (.slice q rl rc)) := fun A hb => by
    have h2 := boxed_below hB20 hb2
    have h3 : Boxed A B2 23 (.slice q rl rc) := (hb.block B2 h2.lt (by
      simp
      rintro rfl
      obtain ⟨o, ho', hc'⟩ := hM0.obj
      rw [hB20] at ho'
      cases ho'
      cases hc')).trans h2
    exact h3.cell
  have HFirst : Hid (∀ (v : Value) (A : World), OwnIds X2.heap.size A v (meetL l [] roots) → MapAt Try.prog 33 A Mm (metF ([] ++ meetL l [] roots)) → Buts [Mm] X2.heap.size X2 A → LvI W.heap.size Bw Lm Mm n₀ p len cap l roots J v A) := by
    intro v A ho hm hb
    have hsz := hb.size
    refine ⟨[], roots, l.length + 1, Wk.start l roots, hR0.2.2.2.1, ?_, ho.mono (by omega), hm, ?_, ?_, ?_, by omega⟩
    · obtain ⟨o, ho', hc'⟩ := (hM0.below hb2 hMX).obj
      exact own_buts hJ (OwnFrom.grow hJ hJ0 hb2) hb hMZ ho' hc'
    · exact (hL0.below hb2 hLX).buts hb (by omega) (by simpa using hne)
    · exact hb.row (by omega) (by simpa using hBL.2) (rX.below hb2 rX.lt)
    · exact (hI0.below (hb2.mono (by omega))).below (hb.below (by omega) (by simp; omega))
  clear s1 s2 sX bX
  refine wpIn_region_W (S := fun A => A.rangeAt Bw 0 [.map (some Lm), .map (some Mm)] ∧ A.cell? ⟨B2, 0, none⟩ = some (.slice q rl rc)) (by kernel_rfl) (hS0.out _ (by rw [hX1]; exact hd1)) (fun hHeld => ?_)
  rw [hX1] at hHeld ⊢
  refine wpAnyW_takesAt 0 1 4 (of_decide_eq_true (by kernel_rfl)) rfl (fun _ _ _ d _ h => by cases d <;> exact h) (by kernel_rfl) (by kernel_rfl) hHeld ?_
  simp only [List.drop_zero, List.take_succ_cons, List.take_zero]
  refine wpHeld_loadSt (by rfl) 75 (.tmp 4) rfl Bw 0 rfl [.map (some Lm), .map (some Mm)] (fun W hW => hW.1) Try.underlying75 rfl (by kernel_rfl) ?_
  (simp only [Act.put]; (try simp only [List.setIfInBounds_toArray]); (try simp only [List.set_cons_succ]); (try simp only [List.set_cons_zero]))
  refine wpHeld_nil ?_
  refine wpAnyW_takesAt 1 1 3 (of_decide_eq_true (by kernel_rfl)) rfl (fun _ _ _ d _ h => by cases d <;> exact h) (by kernel_rfl) (by kernel_rfl) hHeld ?_
  simp only [List.drop_succ_cons, List.drop_zero, List.take_succ_cons, List.take_zero]
  iterate 1 (refine wpHeld_step (v := ?_) (by rfl) (fun wz hSw => ?_) ?_; rotate_left; (focus ((have hcz2 := hSw.2; clear hSw); go_simp; try with_reducible rfl)); ((simp only [Act.put]; (try simp only [List.setIfInBounds_toArray]); (try simp only [List.set_cons_succ]); (try simp only [List.set_cons_zero]))))
  refine wpHeld_nil ?_
  refine wpAnyW_only (i := 2) (by kernel_rfl) rfl (by rfl) (fun K hK => ?_)
  go_simp
  refine (callsIn_wide.2 (values_any q rl rc X1)).mono ?_
  rintro e X2' ⟨rfl, rfl⟩
  rw [hX2]
  refine hK.out _ _ (hS0.out _ hb2) ?_
  clear hK K
  refine wpAnyW_only (i := 3) (by kernel_rfl) rfl (by rfl) (fun K hK => ?_)
  go_simp
  refine (HMt.out _ (by omega)).mono ?_
  rintro e X3 ⟨v3, rfl, ho3, hm3, hb3⟩
  have hI3 := HFirst.out v3 X3 ho3 hm3 hb3
  refine hK.out _ _ ?_ ?_
  · have hrw : Row X3 Bw 75 [.map (some Lm), .map (some Mm)] := by obtain ⟨_, _, _, _, _, _, _, _, _, h, _⟩ := hI3; exact h
    exact ⟨hrw.range, HB23.out X3 hb3⟩
  clear hK K
  refine wpAnyW_only (i := 4) (by kernel_rfl) rfl (by rfl) (fun K hK => ?_)
  go_simp
  refine hK.out _ _ ?_ ?_
  · have hrw : Row X3 Bw 75 [.map (some Lm), .map (some Mm)] := by obtain ⟨_, _, _, _, _, _, _, _, _, h, _⟩ := hI3; exact h
    exact ⟨hrw.range, HB23.out X3 hb3⟩
  clear hK K
  refine wpAnyW_done (by kernel_rfl) ?_ _
  have HI3 : Hid (LvI W.heap.size Bw Lm Mm n₀ p len cap l roots J v3 X3) := hI3
  clear HB23 HFirst HMt hb3 hm3 ho3 hI3 hHeld hS0 hX1 hX2 hd1 hb2 hbx2 hJ0 hL0 hM0 hI0 hR0 hB20 rX
  gi_wp2
  gi_loopw [5] (fun v wr => LvI W.heap.size Bw Lm Mm n₀ p len cap l roots J v wr) (fun v wr => lvM l.length Mm v wr)
  case atStart => exact HI3.out
  case round =>
    clear HI3
    obtain ⟨pre, next, f, hwk, hnx, hj, ho, hm, hL, hr, hI, hsz⟩ := hrel
    have hnd := hwk.all_nodup
    obtain ⟨lv, hlv⟩ : ∃ lv, meetL l (pre.map (·.2)).flatten next = lv := ⟨_, rfl⟩
    rw [hlv] at ho hm hnd
    have hstep := hwk.step
    have hstop := hwk.stop
    rw [hlv] at hstep hstop
    have hlm : ∀ x ∈ lv, hasO l x = true ∧ IsId x := fun x hx => by rw [← hlv] at hx; exact ⟨(meetL_mem.1 hx).2.1, hnx x (meetL_mem.1 hx).1⟩
    have hmsz := mapSize_met hm hnd.1
    obtain ⟨q', c', rfl⟩ := ho.slice
    by_cases hz : lv = []
    · have hl0 : lv.length = 0 := by rw [hz]; rfl
      rw [hl0]
      have HDone : Hid (pre.map (·.2) = levels l roots ∧ J pre wr) := ⟨(hstop hz).symm, hj⟩
      clear ho hm hL hr hI hj hstep hstop hwk hnx hlm hlv
      gi_wp2
      refine ⟨rfl, _, results_none rfl _ _ _, ?_⟩
      exact ⟨⟨_, rfl⟩, .inl ⟨_, HDone.out.1, HDone.out.2⟩⟩
    · have hpos : 0 < lv.length := List.length_pos_iff.2 hz
      have hwk2 := hstep hz
      have hpi : (0 : Int) < (lv.length : Int) := by omega
      obtain ⟨met, hmet⟩ : ∃ met, met = (pre.map (·.2)).flatten ++ lv := ⟨_, rfl⟩
      have hfl : (pre.map (·.2) ++ [lv]).flatten = met := by rw [hmet]; simp
      have hlvl : lv.length ≤ 100 := by have := hnd.2; simp at this; omega
      have HY : Hid (YieldAt Fence.wide (n - 1) Try.prog lp #[.slice q' lv.length c'] wr fun e W' => (e = .returned (.bool true) ∧ J (pre ++ [(.slice q' lv.length c', lv)]) W' ∧ KpP P wr W') ∨ (e = .returned (.bool false) ∧ Jx (pre ++ [(.slice q' lv.length c', lv)]) W' ∧ KpP P wr W')) :=
        hY pre (.slice q' lv.length c', lv) wr hj ⟨ho, fun y hy => (hlm y hy).2⟩ ⟨_, hwk2.all.trans (List.append_assoc _ _ _)⟩
      -- the next level
      have HNext : Hid (∀ W3, J (pre ++ [(.slice q' lv.length c', lv)]) W3 → KpP P wr W3 → ∃ X1 X2, W3.drew = X1 ∧ (X1.alloc (.cells #[.map (some Lm), .map (some Mm)] 75)).alloc (.cells #[.slice q' lv.length c'] 23) = X2 ∧
          (∀ A, Below W3.heap.size W3 A → A.rangeAt Bw 0 [.map (some Lm), .map (some Mm)]) ∧ Below W3.heap.size W3 X1 ∧ Below W3.heap.size W3 X2 ∧
          (∀ N, 6 ≤ N → CallsIn Fence.wide N Try.prog 36 #[.agg #[.map (some Lm), .map (some Mm)], .func (.func 50) #[] #[.pointer (some ⟨X1.heap.size + 1, 0, none⟩), .pointer (some ⟨X1.heap.size, 0, none⟩)]] X2 (MeetPost X2 Mm l met (linkedL l lv))) ∧
          (∀ v X3, OwnIds X2.heap.size X3 v (meetL l met (linkedL l lv)) → MapAt Try.prog 33 X3 Mm (metF (met ++ meetL l met (linkedL l lv))) → Buts [Mm] X2.heap.size X2 X3 → X3.rangeAt Bw 0 [.map (some Lm), .map (some Mm)] ∧ LvI W.heap.size Bw Lm Mm n₀ p len cap l roots J v X3 ∧ lvM l.length Mm v X3 < lvM l.length Mm (.slice q' lv.length c') wr)) := by
        intro W3 hj3 hk3
        have hL3 : MapAt Try.prog 33 W3 Lm (linkF l) := hL.kpp hk3 (fun o hc => hP1 Lm o hLZ (fun c fr e => by rw [e] at hc; cases hc))
        have hM3 : MapAt Try.prog 33 W3 Mm (metF ((pre.map (·.2)).flatten ++ lv)) := hm.kpp hk3 (fun o hc => hP1 Mm o hMZ (fun c fr e => by rw [e] at hc; cases hc))
        rw [← hmet] at hM3
        have hr3 : Row W3 Bw 75 [.map (some Lm), .map (some Mm)] := hk3 Bw _ (hP1 Bw _ hWB (fun c fr e => by cases e)) hr
        have ho3 : OwnIds W.heap.size W3 (.slice q' lv.length c') lv := ho.kpp hk3 (fun k c fr hk => hP1 k _ hk (fun c' fr' e => by cases e))
        have hI3 : IsObjs n₀ W3 p len cap l := hI.kpp hk3 hP2
        have hz3 : W.heap.size ≤ W3.heap.size := by have := hr3.lt; omega
        have hLl := hL3.lt
        have hMl := hM3.lt
        refine ⟨W3.drew, _, rfl, rfl, ?_⟩
        generalize hX1 : W3.drew = X1
        have b1 : Below W3.heap.size W3 X1 := by rw [← hX1]; exact (Below.refl _ W3).drew
        have s1 : X1.heap.size = W3.heap.size := by rw [← hX1]; rfl
        obtain ⟨Xa, hXa⟩ : ∃ Xa, X1.alloc (.cells #[.map (some Lm), .map (some Mm)] 75) = Xa := ⟨_, rfl⟩
        rw [hXa]
        have sa : Xa.heap.size = X1.heap.size + 1 := by rw [← hXa]; simp
        have ba : Below X1.heap.size X1 Xa := by rw [← hXa]; exact (Below.refl _ X1).alloc (Nat.le_refl _) _
        have ra : Row Xa X1.heap.size 75 [.map (some Lm), .map (some Mm)] := by rw [← hXa]; exact Row.new' X1 75 _
        generalize hX2 : Xa.alloc (.cells #[.slice q' lv.length c'] 23) = X2
        have s2 : X2.heap.size = X1.heap.size + 2 := by rw [← hX2, World.size_alloc, sa]
        have b2 : Below Xa.heap.size Xa X2 := by rw [← hX2]; exact (Below.refl _ Xa).alloc (Nat.le_refl _) _
        have bx2 : Boxed X2 (X1.heap.size + 1) 23 (.slice q' lv.length c') := by rw [← sa, ← hX2]; exact Boxed.new Xa 23 _
        have r2 : Row X2 X1.heap.size 75 [.map (some Lm), .map (some Mm)] := ra.below b2 (by omega)
        have b12 : Below X1.heap.size X1 X2 := ba.trans (b2.mono (by omega))
        have b02 : Below W3.heap.size W3 X2 := b1.trans (b12.mono (by omega))
        obtain ⟨q2, n2, c2, e2, hn2, hids, _⟩ := own_ids_slice ho3 (fun x hx => (hlm x hx).2)
        cases e2
        have hids2 : IsIds X1.heap.size X2 q' lv.length c' lv := (hids.mono (by omega : W3.heap.size ≤ X1.heap.size)).below (by rw [s1]; exact b02)
        have hl2 : ∀ o ∈ l, IsIds X1.heap.size X2 o.q o.n o.c o.links := fun o ho => ((hI3.2.2.2.2.1 o ho).below (b02.mono (by omega))).mono (by omega)
        refine ⟨fun A hb => (hr3.below hb hr3.lt).range, b1, b02, fun N hN => ?_, fun v X3 ho' hm' hb' => ?_⟩
        · refine meet_in N hN Lm Mm hne l met (linkedL l lv) (by have := linkedL_length hln lv; omega) 50 _ X2 (hM3.below b02 hMl) (hL3.below b02 hLl) (enters_of Try.func50 (by kernel_rfl) rfl) (fun lp' V hs hb => ?_)
          exact linked1_iter (N - 1) (by omega) lp' (X1.heap.size + 1) X1.heap.size Lm Mm X1.heap.size q' lv.length c' lv l _ V (by omega) (boxed_below bx2 hb) (r2.below hb r2.lt) (fun _ => ⟨by omega, .inr (by omega)⟩) (fun _ => ⟨by omega, .inr hne⟩)
            (hids2.below (hb.mono (by omega))) ((hL3.below b02 hLl).below hb (by omega)) (fun o ho => (hl2 o ho).below (hb.mono (by omega))) (fun o ho => by have h5 := hln o ho; have h6 := (hl2 o ho).1; omega) (fun x hx => (hlm x hx).1) (fun k c t fr hk => ⟨by omega, .inl rfl⟩)
        · have hr4 : Row X3 Bw 75 [.map (some Lm), .map (some Mm)] := hb'.row (by have := hr3.lt; omega) (by simpa using hBL.2) (hr3.below b02 hr3.lt)
          have hnx2 : ∀ y ∈ linkedL l lv, IsId y := fun y hy => by
            obtain ⟨x, hx, hy2⟩ := List.mem_flatMap.1 hy
            obtain ⟨o, hol, _, _, hoL⟩ := linkF_has (hlm x hx).1
            rw [hoL] at hy2
            exact (hl2 o hol).2.2.2.1 y hy2
          have hI4 : LvI W.heap.size Bw Lm Mm n₀ p len cap l roots J v X3 := by
            have emap : (pre ++ [((Value.slice q' lv.length c', lv) : Value × List (List Nat))]).map (·.2) = pre.map (·.2) ++ [lv] := by simp
            refine ⟨pre ++ [(.slice q' lv.length c', lv)], linkedL l lv, f - 1, by rw [emap]; exact hwk2, hnx2, ?_, ?_, ?_, ?_, hr4, ?_, ?_⟩
            · obtain ⟨o, ho5, hc5⟩ := (hM3.below b02 hMl).obj
              exact own_buts hJ (OwnFrom.grow hJ hj3 b02) hb' hMZ ho5 hc5
            · rw [emap, hfl]; exact ho'.mono (by omega)
            · rw [emap, hfl]; exact hm'
            · exact (hL3.below b02 hLl).buts hb' (by omega) (by simpa using hne)
            · exact (hI3.below (b02.mono (by omega))).below (hb'.below (by omega) (by simp; omega))
            · have := hb'.size; omega
          refine ⟨hr4.range, hI4, ?_⟩
          have hnd2 := hwk2.all_nodup
          rw [hfl] at hnd2
          have hms2 := mapSize_met hm' hnd2.1
          obtain ⟨q5, c5, rfl⟩ := ho'.slice
          unfold lvM
          rw [hms2, hmsz, ← hmet]
          have h8 := hnd2.2
          simp only [List.length_append, lenV] at h8 ⊢
          omega
      clear ho hm hL hr hI hj hstep hstop hwk hwk2 hnx hlm hlv hmsz hnd hfl hmet hz hY
      generalize lv.length = m at *
      obtain ⟨fn, tmps, assign, body, hy, hRd⟩ := HY.out
      gi_wp2
      refine RoundIn.mono hRd ?_
      rintro e W3 (⟨rfl, hJ3, hk3⟩ | ⟨rfl, hJ3, hk3⟩)
      · gi_wp2
        obtain ⟨Y1, Y2, hY1, hY2, hS3, hb1, hb2, hMt, hFin⟩ := HNext.out W3 hJ3 hk3
        have HS3 : Hid (∀ A, Below W3.heap.size W3 A → A.rangeAt Bw 0 [.map (some Lm), .map (some Mm)]) := hS3
        have HMt := (show Hid _ from hMt)
        have HFin := (show Hid _ from hFin)
        clear hS3 hMt hFin HNext hJ3 hk3
        refine wpIn_region_W (S := fun A => A.rangeAt Bw 0 [.map (some Lm), .map (some Mm)]) (by kernel_rfl) (HS3.out _ (by rw [hY1]; exact hb1)) (fun hHeld => ?_)
        rw [hY1] at hHeld ⊢
        refine wpAnyW_takesAt 0 2 4 (of_decide_eq_true (by kernel_rfl)) rfl (fun _ _ _ d _ h => by cases d <;> exact h) (by kernel_rfl) (by kernel_rfl) hHeld ?_
        simp only [List.drop_zero, List.take_succ_cons, List.take_zero]
        refine wpHeld_loadSt (by rfl) 75 (.tmp 4) rfl Bw 0 rfl [.map (some Lm), .map (some Mm)] (fun W hW => hW) Try.underlying75 rfl (by kernel_rfl) ?_
        (simp only [Act.put]; (try simp only [List.setIfInBounds_toArray]); (try simp only [List.set_cons_succ]); (try simp only [List.set_cons_zero]))
        refine wpHeld_loadSt (by rfl) 75 (.tmp 4) rfl Bw 0 rfl [.map (some Lm), .map (some Mm)] (fun W hW => hW) Try.underlying75 rfl (by kernel_rfl) ?_
        (simp only [Act.put]; (try simp only [List.setIfInBounds_toArray]); (try simp only [List.set_cons_succ]); (try simp only [List.set_cons_zero]))
        refine wpHeld_nil ?_
        refine wpAnyW_takesAt 2 1 3 (of_decide_eq_true (by kernel_rfl)) rfl (fun _ _ _ d _ h => by cases d <;> exact h) (by kernel_rfl) (by kernel_rfl) hHeld ?_
        simp only [List.drop_succ_cons, List.drop_zero, List.take_succ_cons, List.take_zero]
        iterate 1 (refine wpHeld_step (v := ?_) (by rfl) (fun wz hSw => ?_) ?_; rotate_left; (focus ((clear hSw); go_simp; try with_reducible rfl)); ((simp only [Act.put]; (try simp only [List.setIfInBounds_toArray]); (try simp only [List.set_cons_succ]); (try simp only [List.set_cons_zero]))))
        refine wpHeld_nil ?_
        refine wpAnyW_only (i := 3) (by kernel_rfl) rfl (by rfl) (fun K hK => ?_)
        go_simp
        refine (callsIn_wide.2 (linked_any Lm Mm q' m c' Y1)).mono ?_
        rintro e X2' ⟨rfl, rfl⟩
        rw [hY2]
        refine hK.out _ _ (HS3.out _ hb2) ?_
        clear hK K
        refine wpAnyW_only (i := 4) (by kernel_rfl) rfl (by rfl) (fun K hK => ?_)
        go_simp
        refine (HMt.out _ (by omega)).mono ?_
        rintro e X3 ⟨v4, rfl, ho4, hm4, hb4⟩
        obtain ⟨hS4, hI4, hlt4⟩ := HFin.out v4 X3 ho4 hm4 hb4
        refine hK.out _ _ hS4 ?_
        clear hK K
        refine wpAnyW_only (i := 5) (by kernel_rfl) rfl (by rfl) (fun K hK => ?_)
        go_simp
        refine hK.out _ _ hS4 ?_
        clear hK K
        refine wpAnyW_done (by kernel_rfl) ?_ _
        clear hHeld hS4
        gi_wp2
        go_roundw
        case rel => exact hI4
        case measure => exact hlt4
      · gi_wp2
        refine ⟨rfl, _, results_none rfl _ _ _, ?_⟩
        exact ⟨⟨_, rfl⟩, .inr ⟨_, trivial, hJ3⟩⟩
end Go.Proofs.Ytfclbdlkpnoceaa
