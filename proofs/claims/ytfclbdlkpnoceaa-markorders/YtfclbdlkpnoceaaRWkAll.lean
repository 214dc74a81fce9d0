/-
  Several texts in one: RWk, RWk2.
-/
import Derived.Test.YtfclbdlkpnoceaaRFd
/-
  Three rows under way, and the ids that are gone through beside them: the reference's Walk.
-/
namespace Go.Proofs.Ytfclbdlkpnoceaa
open Go.RowKit Go.Shelf Go.Maps
attribute [local go_sem] Oper.semAt_some

def nums (ds : List Nat) : List Value := ds.map fun d => .int .i64 (d : Nat)
theorem info3 : (Try.prog.info? 3).map (fun i => (i.zero, i.size, i.bytes)) = some (some (.int .i64 0), 1, 8) := by kernel_rfl
def OwnNums (n₀ : Nat) (W : World) (v : Value) (ds : List Nat) : Prop := W.ownsRow n₀ 3 1 v ds.length (nums ds)
/-- Ids, appended to a row of one's own. -/
theorem run_append_ids (w : World) (base : Nat) (v : Value) (zs : List (List Nat)) (hown : OwnIds base w v zs) {n₀ : Nat} {p : Option Addr} {len cap : Nat} {ys : List (List Nat)} (hI : IsIds n₀ w p len cap ys) (hlen : zs.length + len ≤ 1000000) (hbase : base ≤ w.heap.size) :
    ∃ v' w', (Builtin.append_ #[23, 23] 23 #[v, .slice p len cap]).run Try.prog w = .ok v' w' ∧ OwnIds base w' v' (zs ++ ys) ∧ w.grownBy w' v.ownBlock ∧ (v'.ownBlock = v.ownBlock ∨ v'.ownBlock = some w.heap.size) := by
  obtain ⟨i0, hi, hz0, hz1, hz2⟩ := info_parts info33
  obtain ⟨h1, h2, h3, h4, h5⟩ := hI
  by_cases hpn : ∃ a, p = some a
  · obtain ⟨ad, rfl⟩ := hpn
    have hfl : (u8s ys.flatten).length = len * 32 := by
      rw [u8s_length, List.length_flatten, ← h1]
      clear h1 h2 h3 h5
      induction ys with
      | nil => rfl
      | cons a r ih => rw [List.map_cons, List.sum_cons, ih (fun x hx => h4 x (by simp [hx])), (h4 a (by simp)).1, List.length_cons]; omega
    have hnews : ∀ j u, (u8s ys.flatten)[j]? = some u → w.cell? (ad.add j) = some u := by
      rcases h5 with rfl | ⟨b, off, e, hb, hc⟩
      · obtain rfl := List.length_eq_zero_iff.1 h1
        intro j u hu
        simp [u8s] at hu
      · cases e
        intro j u hu
        have hj : j < len * 32 := by
          rcases Nat.lt_or_ge j (len * 32) with h | h
          · exact h
          · rw [List.getElem?_eq_none (by omega)] at hu; cases hu
        have hjk : j / 32 < len := by omega
        have h6 := flat_drop h4 (j / 32) (by omega)
        have h7 : (u8s (ys.getD (j / 32) []))[j % 32]? = some u := by
          rw [← h6, ← u8s_drop, List.getElem?_take, if_pos (by omega), List.getElem?_drop, show j / 32 * 32 + j % 32 = j by omega]
          exact hu
        have h8 := hc (j / 32) hjk (j % 32) u h7
        rw [Addr.add_mid]
        rw [show off + j / 32 * 32 + j % 32 = off + j by omega] at h8
        exact h8
    obtain ⟨v', w', hr, ho, hg, _, hob⟩ := run_append_own_at (P := Try.prog) w base 23 23 33 i0 _ 32 32 Try.underlying23 hi hz0 hz1 hz2 (by simp [Value.cells]) (by omega) v zs.length (u8s zs.flatten) hown ad len cap (u8s ys.flatten) hfl hnews (u8s_one _) (by simp only [maxLen]; omega) (by omega) hbase
    refine ⟨v', w', hr, ?_, hg, hob⟩
    unfold OwnIds
    rw [List.length_append, h1, List.flatten_append, ← u8s_append]
    exact ho
  · obtain rfl : p = none := by cases p with
      | none => rfl
      | some a => exact absurd ⟨a, rfl⟩ hpn
    have h0 : len = 0 := by
      rcases h5 with h | ⟨b, off, e, _⟩
      · exact h
      · cases e
    subst h0
    obtain rfl := List.length_eq_zero_iff.1 h1
    refine ⟨v, w, ?_, by rw [List.append_nil]; exact hown, ⟨rfl, rfl, rfl, Nat.le_refl _, fun _ _ _ => rfl⟩, .inl rfl⟩
    rcases hown.2 with ⟨rfl, _⟩ | ⟨g, cp, cur, rfl, _, _, hnc, _⟩
    · simp [Builtin.append_, run_underlying Try.underlying23, sizeOf, typeInfo, hi, Builtin.lenOf, Builtin.firstCells]
    · simp [Builtin.append_, run_underlying Try.underlying23, sizeOf, typeInfo, hi, Builtin.lenOf, Builtin.firstCells, hnc, storeCells]

/-- out, far, behind, and next. -/
structure RwK (Z : Nat) (W : World) (v6 v7 v10 : Value) (qn : Option Addr) (nn cn : Nat) (out : List (List Nat)) (far : List Nat) (beh next : List (List Nat)) : Prop where
  size : Z ≤ W.heap.size
  out : OwnIds Z W v6 out
  far : OwnNums Z W v7 far
  beh : OwnIds Z W v10 beh
  next : IsIds W.heap.size W qn nn cn next
  apart : ∀ k, v6.ownBlock = some k → v10.ownBlock ≠ some k
  aside : 0 < nn → ∀ a, qn = some a → a.block < W.heap.size ∧ v6.ownBlock ≠ some a.block ∧ v7.ownBlock ≠ some a.block ∧ v10.ownBlock ≠ some a.block
theorem IsIds.only' {n : Nat} {A B : World} {q : Option Addr} {len cap : Nat} {ids : List (List Nat)} (h : IsIds n A q len cap ids) (hk : 0 < len → ∀ a, q = some a → B.heap[a.block]? = A.heap[a.block]?) : IsIds n B q len cap ids := by
  rcases Nat.eq_zero_or_pos len with h0 | hp
  · exact ⟨h.1, h.2.1, h.2.2.1, h.2.2.2.1, .inl h0⟩
  · exact h.only (hk hp)
variable {Z : Nat} {W : World} {v6 v7 v10 : Value} {qn : Option Addr} {nn cn : Nat} {out : List (List Nat)} {far : List Nat} {beh next : List (List Nat)}
theorem RwK.later (h : RwK Z W v6 v7 v10 qn nn cn out far beh next) {B : World} (hb : Below W.heap.size W B) : RwK Z B v6 v7 v10 qn nn cn out far beh next :=
  ⟨Nat.le_trans h.size hb.size, h.out.later hb, ownsRow_later hb h.far, h.beh.later hb, (h.next.below hb).mono hb.size, h.apart, fun hp a ha => ⟨Nat.lt_of_lt_of_le (h.aside hp a ha).1 hb.size, (h.aside hp a ha).2⟩⟩
theorem ownsRow_apart {M t sz n : Nat} {A B : World} {v : Value} {cs : List Value} {ob : Option Nat} (h : A.ownsRow M t sz v n cs) (hg : A.grownBy B ob) (hne : ∀ k, v.ownBlock = some k → ob ≠ some k) : B.ownsRow M t sz v n cs := by
  refine ⟨h.1, ?_⟩
  rcases h.2 with h | ⟨g, c, cur, e, hgz, hgg, hnc, hm, hsz, ht⟩
  · exact .inl h
  · exact .inr ⟨g, c, cur, e, hgz, (hg.block g (Array.getElem?_eq_some_iff.1 hgg).1 (fun e' => hne g (by rw [e]; rfl) e'.symm)).trans hgg, hnc, hm, hsz, ht⟩
theorem row_types {M t t' sz sz' n n' : Nat} {A : World} {v v' : Value} {cs cs' : List Value} (h : A.ownsRow M t sz v n cs) (h' : A.ownsRow M t' sz' v' n' cs') (ht : t ≠ t') : ∀ k, v.ownBlock = some k → v'.ownBlock ≠ some k := fun k e e' => by
  obtain ⟨_, _, c, fr, h1⟩ := own_block h e
  obtain ⟨_, _, c', fr', h2⟩ := own_block h' e'
  rw [h1] at h2
  cases h2
  exact ht rfl
theorem RwK.app6 (h : RwK Z W v6 v7 v10 qn nn cn out far beh next) {x : List Nat} (hx : IsId x) (hl : out.length ≤ 100000) :
    ∃ v' W', (Builtin.append_ #[23, 23] 23 #[v6, .slice (some ⟨W.heap.size, 0, none⟩) 1 1]).run Try.prog (W.alloc (.cells (u8s x).toArray 33)) = .ok v' W' ∧ RwK Z W' v' v7 v10 qn nn cn (out ++ [x]) far beh next ∧ Below Z W W' := by
  have hb4 : Below W.heap.size W (W.alloc (.cells (u8s x).toArray 33)) := (Below.refl _ W).alloc (Nat.le_refl _) _
  have h4 := h.later hb4
  have hs4 : (W.alloc (.cells (u8s x).toArray 33)).heap.size = W.heap.size + 1 := by simp
  have hI : IsIds (W.heap.size + 1) (W.alloc (.cells (u8s x).toArray 33)) (some ⟨W.heap.size, 0, none⟩) 1 1 [x] := ⟨rfl, Nat.le_refl _, by omega, fun y hy => by simp at hy; subst hy; exact hx, .inr ⟨W.heap.size, 0, rfl, by omega, fun i hi => by
    obtain rfl : i = 0 := by omega
    simpa using (Row.new' W 33 (u8s x)).range⟩⟩
  generalize W.alloc (.cells (u8s x).toArray 33) = W4 at *
  obtain ⟨v', w', hr, ho, hg, hob⟩ := run_append_ids W4 Z v6 out h4.out hI (by omega) h4.size
  have hne10 : ∀ k, v10.ownBlock = some k → v6.ownBlock ≠ some k := fun k e e' => h.apart k e' e
  refine ⟨v', w', hr, ⟨Nat.le_trans h4.size hg.size, ho, ownsRow_apart h4.far hg (row_types h4.far h4.out (by decide)), ownsRow_apart h4.beh hg hne10, (h4.next.only' (fun hp a ha => hg.block _ (by have := (h4.aside hp a ha).1; omega) (fun e => (h4.aside hp a ha).2.1 e.symm))).mono hg.size, fun k e e' => ?_, fun hp a ha => ?_⟩, (hb4.mono h.size).trans (below_grown h4.out h4.size hg)⟩
  · rcases hob with e2 | e2
    · rw [e2] at e; exact h.apart k e e'
    · rw [e2] at e; cases e; have := (own_block h.beh e').2.1; omega
  · have h5 := h.aside hp a ha
    refine ⟨by have := hg.size; omega, ?_, h5.2.2⟩
    rcases hob with e2 | e2
    · rw [e2]; exact h5.2.1
    · rw [e2]; intro e3; have := Option.some.inj e3; omega
theorem RwK.app7 (h : RwK Z W v6 v7 v10 qn nn cn out far beh next) (d : Nat) (hl : far.length ≤ 100000) :
    ∃ v' W', (Builtin.append_ #[26, 26] 26 #[v7, .slice (some ⟨W.heap.size, 0, none⟩) 1 1]).run Try.prog (W.alloc (.cells #[.int .i64 (d : Nat)] 3)) = .ok v' W' ∧ RwK Z W' v6 v' v10 qn nn cn out (far ++ [d]) beh next ∧ Below Z W W' := by
  obtain ⟨i0, hi, hz0, hz1, hz2⟩ := info_parts info3
  have hb4 : Below W.heap.size W (W.alloc (.cells #[.int .i64 (d : Nat)] 3)) := (Below.refl _ W).alloc (Nat.le_refl _) _
  have h4 := h.later hb4
  have hs4 : (W.alloc (.cells #[.int .i64 (d : Nat)] 3)).heap.size = W.heap.size + 1 := by simp
  have hrg : (W.alloc (.cells #[.int .i64 (d : Nat)] 3)).rangeAt W.heap.size 0 [.int .i64 (d : Nat)] := (Row.new' W 3 [.int .i64 (d : Nat)]).range
  generalize W.alloc (.cells #[.int .i64 (d : Nat)] 3) = W4 at *
  obtain ⟨v', w', hr, ho, hg, _, hob⟩ := run_append_own_at (P := Try.prog) W4 Z 26 26 3 i0 _ 1 8 Try.underlying26 hi hz0 hz1 hz2 rfl (by omega) v7 far.length (nums far) h4.far ⟨W.heap.size, 0, none⟩ 1 1 [.int .i64 (d : Nat)] rfl (fun j u hu => by rw [Addr.add_mid]; exact hrg j u hu) (by simp [Value.oneCell']) (by simp only [maxLen]; omega) (by omega) h4.size
  refine ⟨v', w', hr, ⟨Nat.le_trans h4.size hg.size, ownsRow_apart h4.out hg (row_types h4.out h4.far (by decide)), ?_, ownsRow_apart h4.beh hg (row_types h4.beh h4.far (by decide)), (h4.next.only' (fun hp a ha => hg.block _ (by have := (h4.aside hp a ha).1; omega) (fun e => (h4.aside hp a ha).2.2.1 e.symm))).mono hg.size, h.apart, fun hp a ha => ?_⟩, (hb4.mono h.size).trans (below_grown h4.far h4.size hg)⟩
  · unfold OwnNums nums
    rw [List.length_append, List.map_append]
    exact ho
  · have h5 := h.aside hp a ha
    refine ⟨by have := hg.size; omega, h5.2.1, ?_, h5.2.2.2⟩
    rcases hob with e2 | e2
    · rw [e2]; exact h5.2.2.1
    · rw [e2]; intro e3; have := Option.some.inj e3; omega
theorem RwK.app10 (h : RwK Z W v6 v7 v10 qn nn cn out far beh next) {n₀ : Nat} {p : Option Addr} {len cap : Nat} {ys : List (List Nat)} (hI : IsIds n₀ W p len cap ys) (hl : beh.length + len ≤ 1000000) :
    ∃ v' W', (Builtin.append_ #[23, 23] 23 #[v10, .slice p len cap]).run Try.prog W = .ok v' W' ∧ RwK Z W' v6 v7 v' qn nn cn out far (beh ++ ys) next ∧ Below Z W W' := by
  obtain ⟨v', w', hr, ho, hg, hob⟩ := run_append_ids W Z v10 beh h.beh hI hl h.size
  refine ⟨v', w', hr, ⟨Nat.le_trans h.size hg.size, ownsRow_apart h.out hg h.apart, ownsRow_apart h.far hg (row_types h.far h.beh (by decide)), ho, (h.next.only' (fun hp a ha => hg.block _ (h.aside hp a ha).1 (fun e => (h.aside hp a ha).2.2.2 e.symm))).mono hg.size, fun k e e' => ?_, fun hp a ha => ?_⟩, below_grown h.beh h.size hg⟩
  · rcases hob with e2 | e2
    · rw [e2] at e'; exact h.apart k e e'
    · rw [e2] at e'; cases e'; have := (own_block h.out e).2.1; omega
  · have h5 := h.aside hp a ha
    refine ⟨by have := hg.size; omega, h5.2.1, h5.2.2.1, ?_⟩
    rcases hob with e2 | e2
    · rw [e2]; exact h5.2.2.2
    · rw [e2]; intro e3; have := Option.some.inj e3; omega
end Go.Proofs.Ytfclbdlkpnoceaa
/-
  The reference's Walk.
-/
namespace Go.Proofs.Ytfclbdlkpnoceaa
open Go.RowKit Go.Shelf Go.Maps
attribute [local go_sem] Oper.semAt_some

theorem wpList_loadIdV {ops : Array Oper} {rest : List Oper} {o : Oper} {a : Act} {w : World} {Q : Exit → Act → World → Prop} (hw : Region.wanted o (yielded ops a.tmps) = true) (x : Operand) (ho : o.op = .load 33 x) {g off : Nat} (hx : a.eval x = .pointer (some ⟨g, off, none⟩)) {i : List Nat} (hi : IsId i) (hg : w.rangeAt g off (u8s i))
    (h : wpList Try.prog ops Q rest (a.put o.dst (idV i)) w) : wpList Try.prog ops Q (o :: rest) a w := by
  refine BigFrame.wpList_want hw fun K hK => ?_
  unfold Oper.wp
  simp only [execOp, ho, hx, Instr.loadAt, Instr.sureAddr, Sem.run_bind, Sem.run_pure, Result.andThen_ok, run_loadVar_mid w g off 33 (u8s i) _ hg Try.underlying33 rfl (size33' hi)]
  exact hK _ _ h
theorem farL_snoc (lvs : List (List (List Nat))) (lv : List (List Nat)) : farL (lvs ++ [lv]) = farL lvs ++ List.replicate lv.length lvs.length := by
  unfold farL
  rw [tellL_snoc, List.map_append, List.map_map]
  congr 1
  rw [List.eq_replicate_iff]
  exact ⟨by simp, fun b hb => by obtain ⟨x, _, rfl⟩ := List.mem_map.1 hb; rfl⟩
/-- The reference's Walk under way: between two rounds. -/
def RwO (Z : Nat) (w : World) (l : List O) (roots : List (List Nat)) (v6 v7 v8 v9 : Value) (A : World) : Prop :=
  ∃ (lvs : List (List (List Nat))) (next : List (List Nat)) (qn : Option Addr) (nn cn d : Nat), v8 = .slice qn nn cn ∧ v9 = .int .i64 (d : Nat) ∧ RwK Z A v6 v7 (.slice none 0 0) qn nn cn lvs.flatten (farL lvs) [] next ∧ Below Z w A ∧ (∀ y ∈ lvs.flatten, IsId y) ∧
    ((∃ f, Wk l roots lvs next f ∧ d = lvs.length ∧ lvs.length ≤ l.length + 1) ∨ (levels l roots = lvs ∧ next = [] ∧ d ≤ l.length + 2)) ∧ lvs.flatten.length ≤ l.length
/-- Within a round. -/
def RwN (Z : Nat) (w : World) (l : List O) (lvs : List (List (List Nat))) (qn : Option Addr) (nn cn : Nat) (next : List (List Nat)) (v6 v7 v10 v22 : Value) (A : World) : Prop :=
  ∃ (k : Nat), k ≤ nn ∧ v22 = .int .i64 (k : Nat) ∧ RwK Z A v6 v7 v10 qn nn cn (lvs.flatten ++ meetL l lvs.flatten (next.take k)) (farL lvs ++ List.replicate (meetL l lvs.flatten (next.take k)).length lvs.length) (linkedL l (meetL l lvs.flatten (next.take k))) next ∧ Below Z w A

set_option maxRecDepth 100000 in
set_option maxHeartbeats 1000000 in
theorem refWalk_any (p : Option Addr) (len cap : Nat) (q : Option Addr) (rl rc : Nat) (l : List O) (roots : List (List Nat)) (hlen : len ≤ 100) (hln : ∀ o ∈ l, o.links.length ≤ 100) (w : World) (hI : IsObjs w.heap.size w p len cap l) (hR : IsIds w.heap.size w q rl rc roots) :
    Calls Try.prog 9 #[.slice p len cap, .slice q rl rc] w fun e w' => ∃ q1 n1 c1 q2 n2 c2, e = .returned (.tuple #[.slice q1 n1 c1, .slice q2 n2 c2]) ∧ OwnIds w.heap.size w' (.slice q1 n1 c1) (reachL l roots) ∧ (∀ y ∈ reachL l roots, IsId y) ∧ OwnNums w.heap.size w' (.slice q2 n2 c2) (farL (levels l roots)) ∧ Below w.heap.size w w' := by
  obtain ⟨i0, hi0, hz0, hz1, hz2⟩ := info_parts info33
  have HI : Hid (IsObjs w.heap.size w p len cap l) := hI
  have HR : Hid (IsIds w.heap.size w q rl rc roots) := hR
  have hll := hI.1
  have hlc := hI.2.1
  have hcc := hI.2.2.1
  clear hI hR
  generalize hZ : w.heap.size = Z at *
  go_enter Try.func9, Try.ntmps9
  go_wp2
  go_loopw [6, 7, 8, 9] (fun v6 v7 v8 v9 wr => RwO Z w l roots v6 v7 v8 v9 wr) (fun v6 _ v8 _ _ => 2 * (l.length + 1 - lenV v6) + min 1 (lenV v8))
  case atStart =>
    refine ⟨[], roots, q, rl, rc, 0, rfl, rfl, ⟨by omega, OwnIds.nil _ _, World.ownsRow_nil _ _ _ _, OwnIds.nil _ _, by rw [hZ]; exact HR.out, (fun k e => by cases e), fun hp a ha => ?_⟩, Below.refl _ _, by simp, .inl ⟨_, Wk.start l roots, rfl, by simp⟩, by simp⟩
    obtain ⟨b, off, e, hb, _⟩ := HR.out.at hp
    rw [e] at ha
    cases ha
    exact ⟨by rw [hZ]; exact hb, by simp [Value.ownBlock], by simp [Value.ownBlock], by simp [Value.ownBlock]⟩
  case round =>
    obtain ⟨lvs, next, qn, nn, cn, d, rfl, rfl, hK, hB, hids, hst, hfl⟩ := hrel
    have hnl := hK.next.1
    have hnc := hK.next.2.1
    have hncc := hK.next.2.2.1
    by_cases hn0 : nn = 0
    · subst hn0
      have hne : next = [] := List.eq_nil_of_length_eq_zero hnl
      have hdone : levels l roots = lvs := by
        rcases hst with ⟨f, hwk, _⟩ | ⟨h, _⟩
        · exact hwk.stop (by rw [hne]; rfl)
        · exact h
      obtain ⟨q1, c1, e1⟩ := hK.out.slice
      obtain ⟨q2, c2, e2⟩ := slice_of_row hK.far
      subst e1 e2
      have HOut := (show Hid (OwnIds _ _ _ _) from hK.out)
      have HFar := (show Hid (OwnNums _ _ _ _) from hK.far)
      generalize lvs.flatten.length = n1 at *
      generalize (farL lvs).length = n2 at *
      clear hK hst hnl hfl
      go_wp2
      refine bodyPost_ret (results_tmp2 rfl _ _ _) rfl ?_
      refine ⟨q1, n1, c1, q2, n2, c2, rfl, ?_, ?_, ?_, hB⟩
      · unfold reachL; rw [hdone]; exact HOut.out
      · unfold reachL; rw [hdone]; exact hids
      · rw [hdone]; exact HFar.out
    · have hnp : (0 : Int) < (nn : Int) := by omega
      obtain ⟨f, hwk, hd, hlvl⟩ : ∃ f, Wk l roots lvs next f ∧ d = lvs.length ∧ lvs.length ≤ l.length + 1 := by
        rcases hst with h | ⟨_, h, _⟩
        · exact h
        · rw [h] at hnl; exact absurd hnl.symm hn0
      have hnxt := hK.next.2.2.2.1
      have hall := hwk.all_nodup
      have hKs := hK.size
      have HK := (show Hid (RwK _ _ _ _ _ _ _ _ _ _ _ _) from hK)
      have HB := (show Hid (Below _ _ _) from hB)
      clear hst hK hB
      obtain ⟨q1, c1, e1⟩ := HK.out.out.slice
      obtain ⟨q2, c2, e2⟩ := slice_of_row HK.out.far
      subst e1 e2
      rw [hd]
      go_wp2
      rw [show decide (0 < nn) = true from decide_eq_true (by omega)]
      go_loopw [6, 7, 10, 22] (fun v6 v7 v10 v22 wr => RwN Z w l lvs qn nn cn next v6 v7 v10 v22 wr) (fun _ _ _ i _ => nn - (intOf i).toNat)
      case atStart => exact ⟨0, Nat.zero_le _, rfl, by rw [List.take_zero, meetL_nil]; simpa [linkedL] using HK.out, HB.out⟩
      case round =>
        clear HK HB
        obtain ⟨k, hk, rfl, hK, hB⟩ := hrel
        have hKs2 := hK.size
        have HK := (show Hid (RwK _ _ _ _ _ _ _ _ _ _ _ _) from hK)
        have HB := (show Hid (Below _ _ _) from hB)
        obtain ⟨q1, c1, e1⟩ := HK.out.out.slice
        obtain ⟨q2, c2, e2⟩ := slice_of_row HK.out.far
        obtain ⟨q3, c3, e3⟩ := HK.out.beh.slice
        subst e1 e2 e3
        by_cases hlt : k < nn
        · have hki : (k : Int) < (nn : Int) := by omega
          obtain ⟨nb, noff, e4, hnb, hnr, hid⟩ := hK.next.at hlt
          have hkl : k < next.length := by omega
          have HT : Hid (meetL l lvs.flatten (next.take (k + 1)) = meetS l lvs.flatten (meetL l lvs.flatten (next.take k)) (next.getD k [])) := by show _ = _; rw [ids_take next hkl, meetL_snoc]
          have HRx := (show Hid (World.rangeAt _ _ _ _) from hnr)
          subst e4
          clear hK hB hnr
          generalize next.getD k [] = x at *
          have HFind : Hid (∀ Y, Below wr.heap.size wr Y → Calls Try.prog 19 #[.slice p len cap, idV x] Y fun e w' => e = .returned (.int .i64 (placeO l x)) ∧ Below Y.heap.size Y w') := fun Y hY => find_any p len cap l x hid Y (((HI.out.below HB.out).below (hY.mono hKs2)).mono (by have := hY.size; omega))
          cases hh : hasO l x with
          | false =>
            have hpl : placeO l x < 0 := hasO_place.2 hh
            have HSkip : Hid (∀ Y, Below wr.heap.size wr Y → RwN Z w l lvs (some ⟨nb, noff, none⟩) nn cn next (.slice q1 (lvs.flatten ++ meetL l lvs.flatten (next.take k)).length c1) (.slice q2 (farL lvs ++ List.replicate (meetL l lvs.flatten (next.take k)).length lvs.length).length c2) (.slice q3 (linkedL l (meetL l lvs.flatten (next.take k))).length c3) (.int .i64 ((k : Int) + 1)) Y) := fun Y hY =>
              ⟨k + 1, by omega, by go_num, by rw [HT.out, meetS, if_neg (by rw [hh]; exact fun h => by cases h.1)]; exact HK.out.later hY, HB.out.trans (hY.mono hKs2)⟩
            clear HK HT
            generalize placeO l x = pl at *
            generalize (lvs.flatten ++ meetL l lvs.flatten (next.take k)).length = z1 at *
            generalize (farL lvs ++ List.replicate (meetL l lvs.flatten (next.take k)).length lvs.length).length = z2 at *
            generalize (linkedL l (meetL l lvs.flatten (next.take k))).length = z3 at *
            go_wp2_with (first
              | ((with_reducible show wpList _ _ _ (Oper.mk (some 25) (Op.load 33 _) _ _ _ _ :: _) _ _); refine wpList_loadId rfl (.tmp 24) rfl rfl hid HRx.out ?_; simp only [Act.put, List.setIfInBounds_toArray, List.set_cons_zero, List.set_cons_succ])
              | ((with_reducible show wpList _ _ _ (Oper.mk none (Op.store 33 (.tmp 12) (.tmp 25)) _ _ _ _ :: _) _ _); rw [z32u8]; refine wpList_storeId rfl (.tmp 12) (.tmp 25) rfl hid rfl rfl (fun Y2 b2 hR_ => ?_); have HY2 : Hid (Row Y2 wr.heap.size 33 (u8s x)) := hR_; clear hR_; simp only [Act.put])
              | ((with_reducible show wpList _ _ _ (Oper.mk (some 27) (Op.load 33 _) _ _ _ _ :: _) _ _); refine wpList_loadId rfl (.tmp 12) rfl rfl hid HY2.out.range ?_; simp only [Act.put, List.setIfInBounds_toArray, List.set_cons_zero, List.set_cons_succ])
              | (go_at_call 19; refine (HFind.out Y2 b2).mono ?_; rintro e Y3 ⟨rfl, b3⟩; have HY3 : Hid (Row Y3 wr.heap.size 33 (u8s x)) := HY2.out.below b3 HY2.out.lt))
            go_roundw
            case rel => exact HSkip.out Y3 (b2.trans (b3.mono b2.size))
            case measure => simp [intOf]; omega
          | true =>
            obtain ⟨pl, hpl, hplE, hplL⟩ := place_at hh
            have hpli : ¬ (pl : Int) < 0 := by omega
            have hpll : (pl : Int) < (len : Int) := by omega
            rw [hplE] at HFind
            have hcurm : ∀ y ∈ lvs.flatten ++ meetL l lvs.flatten (next.take k), IsId y := fun y hy => by
              rcases List.mem_append.1 hy with h | h
              · exact hids y h
              · exact hnxt y (List.mem_of_mem_take (meetL_mem.1 h).1)
            have HHas : Hid (∀ Y, Below wr.heap.size wr Y → Calls Try.prog 20 #[.slice q1 (lvs.flatten ++ meetL l lvs.flatten (next.take k)).length c1, idV x] Y fun e w' => e = .returned (.bool (decide (x ∈ lvs.flatten ++ meetL l lvs.flatten (next.take k)))) ∧ Below Y.heap.size Y w') := fun Y hY => by
              obtain ⟨q9, n9, c9, e9, hn9, hi9, _⟩ := own_ids_slice (HK.out.later hY).out hcurm
              cases e9
              exact has_any _ _ _ _ x hid Y hi9
            by_cases hin : x ∈ lvs.flatten ++ meetL l lvs.flatten (next.take k)
            · have HSkip : Hid (∀ Y, Below wr.heap.size wr Y → RwN Z w l lvs (some ⟨nb, noff, none⟩) nn cn next (.slice q1 (lvs.flatten ++ meetL l lvs.flatten (next.take k)).length c1) (.slice q2 (farL lvs ++ List.replicate (meetL l lvs.flatten (next.take k)).length lvs.length).length c2) (.slice q3 (linkedL l (meetL l lvs.flatten (next.take k))).length c3) (.int .i64 ((k : Int) + 1)) Y) := fun Y hY =>
                ⟨k + 1, by omega, by go_num, by rw [HT.out, meetS, if_neg (fun h => h.2 hin)]; exact HK.out.later hY, HB.out.trans (hY.mono hKs2)⟩
              rw [decide_eq_true hin] at HHas
              clear HK HT hcurm hin
              generalize (lvs.flatten ++ meetL l lvs.flatten (next.take k)).length = z1 at *
              generalize (farL lvs ++ List.replicate (meetL l lvs.flatten (next.take k)).length lvs.length).length = z2 at *
              generalize (linkedL l (meetL l lvs.flatten (next.take k))).length = z3 at *
              go_wp2_with (first
                | ((with_reducible show wpList _ _ _ (Oper.mk (some 25) (Op.load 33 _) _ _ _ _ :: _) _ _); refine wpList_loadId rfl (.tmp 24) rfl rfl hid HRx.out ?_; simp only [Act.put, List.setIfInBounds_toArray, List.set_cons_zero, List.set_cons_succ])
                | ((with_reducible show wpList _ _ _ (Oper.mk none (Op.store 33 (.tmp 12) (.tmp 25)) _ _ _ _ :: _) _ _); rw [z32u8]; refine wpList_storeId rfl (.tmp 12) (.tmp 25) rfl hid rfl rfl (fun Y2 b2 hR_ => ?_); have HY2 : Hid (Row Y2 wr.heap.size 33 (u8s x)) := hR_; clear hR_; simp only [Act.put])
                | ((with_reducible show wpList _ _ _ (Oper.mk (some 27) (Op.load 33 _) _ _ _ _ :: _) _ _); refine wpList_loadId rfl (.tmp 12) rfl rfl hid HY2.out.range ?_; simp only [Act.put, List.setIfInBounds_toArray, List.set_cons_zero, List.set_cons_succ])
                | (go_at_call 19; refine (HFind.out Y2 b2).mono ?_; rintro e Y3 ⟨rfl, b3⟩; have HY3 : Hid (Row Y3 wr.heap.size 33 (u8s x)) := HY2.out.below b3 HY2.out.lt)
                | ((with_reducible show wpList _ _ _ (Oper.mk (some 33) (Op.load 33 _) _ _ _ _ :: _) _ _); refine wpList_loadIdV (by rfl) (.tmp 12) rfl rfl hid HY3.out.range ?_; simp only [Act.put, List.setIfInBounds_toArray, List.set_cons_zero, List.set_cons_succ])
                | (go_at_call 20; refine (HHas.out Y3 (b2.trans (b3.mono b2.size))).mono ?_; rintro e Y4 ⟨rfl, b4⟩; have HY4 : Hid (Row Y4 wr.heap.size 33 (u8s x)) := HY3.out.below b4 HY3.out.lt))
              go_roundw
              case rel => exact HSkip.out Y4 (b2.trans ((b3.mono b2.size).trans (b4.mono (Nat.le_trans b2.size b3.size))))
              case measure => simp [intOf]; omega
            · rw [decide_eq_false hin] at HHas
              have HE : Hid (meetL l lvs.flatten (next.take (k + 1)) = meetL l lvs.flatten (next.take k) ++ [x]) := by show _ = _; rw [HT.out, meetS, if_pos ⟨hh, hin⟩]
              have hcl : (lvs.flatten ++ meetL l lvs.flatten (next.take k)).length ≤ 100 := by
                have h5 := nodup_le (lvs.flatten ++ meetL l lvs.flatten (next.take k)) (l.map (·.id)) (by
                  rw [List.nodup_append]
                  refine ⟨hwk.nodup, meetL_nodup _ _ _, fun y hy y' hy' => ?_⟩
                  rintro rfl
                  exact (meetL_mem.1 hy').2.2 hy) (fun y hy => by
                  have hh2 : hasO l y = true := by
                    rcases List.mem_append.1 hy with h3 | h3
                    · exact hwk.has y h3
                    · exact (meetL_mem.1 h3).2.1
                  obtain ⟨o, ho, e⟩ := hasO_iff.1 hh2
                  exact List.mem_map.2 ⟨o, ho, e⟩)
                rw [List.length_map] at h5
                omega
              have HStep : Hid (∀ Y, Below wr.heap.size wr Y → ∃ v6 Y5 v7 Y6 v10 Y7, (Builtin.append_ #[23, 23] 23 #[.slice q1 (lvs.flatten ++ meetL l lvs.flatten (next.take k)).length c1, .slice (some ⟨Y.heap.size, 0, none⟩) 1 1]).run Try.prog (Y.alloc (.cells (u8s x).toArray 33)) = .ok v6 Y5 ∧
                  (Builtin.append_ #[26, 26] 26 #[.slice q2 (farL lvs ++ List.replicate (meetL l lvs.flatten (next.take k)).length lvs.length).length c2, .slice (some ⟨Y5.heap.size, 0, none⟩) 1 1]).run Try.prog (Y5.alloc (.cells #[.int .i64 (lvs.length : Nat)] 3)) = .ok v7 Y6 ∧
                  (∃ pb poff, p = some ⟨pb, poff, none⟩ ∧ Y6.cell? ⟨pb, poff + pl * 34 + 32, none⟩ = some (.slice (l.getD pl noO).q (l.getD pl noO).n (l.getD pl noO).c)) ∧
                  (Builtin.append_ #[23, 23] 23 #[.slice q3 (linkedL l (meetL l lvs.flatten (next.take k))).length c3, .slice (l.getD pl noO).q (l.getD pl noO).n (l.getD pl noO).c]).run Try.prog Y6 = .ok v10 Y7 ∧ RwN Z w l lvs (some ⟨nb, noff, none⟩) nn cn next v6 v7 v10 (.int .i64 ((k : Int) + 1)) Y7) := by
                intro Y hY
                have hfarl := farL_length lvs
                have hll2 := linkedL_length hln (meetL l lvs.flatten (next.take k))
                rw [List.length_append] at hcl
                obtain ⟨v6, Y5, hr6, hK5, hb5⟩ := (HK.out.later hY).app6 hid (by rw [List.length_append]; omega)
                obtain ⟨v7, Y6, hr7, hK6, hb6⟩ := hK5.app7 lvs.length (by rw [List.length_append, List.length_replicate]; omega)
                have hBY : Below Z w Y := HB.out.trans (hY.mono hKs2)
                have hB6 : Below Z w Y6 := (hBY.trans hb5).trans hb6
                obtain ⟨pb, poff, ep, hpb, hpr, hpok, hpm⟩ := (HI.out.below hB6).at (show pl < len by omega)
                have hIL : IsIds Z Y6 (l.getD pl noO).q (l.getD pl noO).n (l.getD pl noO).c (l.getD pl noO).links := (HI.out.2.2.2.2.1 _ hpm).below hB6
                obtain ⟨v10, Y7, hr10, hK7, hb7⟩ := hK6.app10 hIL (by have h5 := hln _ hpm; have h6 := hIL.1; omega)
                refine ⟨v6, Y5, v7, Y6, v10, Y7, hr6, hr7, ⟨pb, poff, ep, range_cell hpr (objC_links hpok)⟩, hr10, k + 1, by omega, by go_num, ?_, hB6.trans hb7⟩
                rw [HE.out, linkedL_snoc, hplL, List.length_append, List.length_singleton, List.replicate_succ', ← List.append_assoc, ← List.append_assoc]
                exact hK7
              clear HK HT hcurm hin hcl HE
              generalize (lvs.flatten ++ meetL l lvs.flatten (next.take k)).length = z1 at *
              generalize (farL lvs ++ List.replicate (meetL l lvs.flatten (next.take k)).length lvs.length).length = z2 at *
              generalize (linkedL l (meetL l lvs.flatten (next.take k))).length = z3 at *
              generalize (l.getD pl noO).q = oq at *
              generalize (l.getD pl noO).n = on at *
              generalize (l.getD pl noO).c = oc at *
              go_wp2_with (first
                | ((with_reducible show wpList _ _ _ (Oper.mk (some 25) (Op.load 33 _) _ _ _ _ :: _) _ _); refine wpList_loadId rfl (.tmp 24) rfl rfl hid HRx.out ?_; simp only [Act.put, List.setIfInBounds_toArray, List.set_cons_zero, List.set_cons_succ])
                | ((with_reducible show wpList _ _ _ (Oper.mk none (Op.store 33 (.tmp 12) (.tmp 25)) _ _ _ _ :: _) _ _); rw [z32u8]; refine wpList_storeId rfl (.tmp 12) (.tmp 25) rfl hid rfl rfl (fun Y2 b2 hR_ => ?_); have HY2 : Hid (Row Y2 wr.heap.size 33 (u8s x)) := hR_; clear hR_; simp only [Act.put])
                | ((with_reducible show wpList _ _ _ (Oper.mk (some 27) (Op.load 33 _) _ _ _ _ :: _) _ _); refine wpList_loadId rfl (.tmp 12) rfl rfl hid HY2.out.range ?_; simp only [Act.put, List.setIfInBounds_toArray, List.set_cons_zero, List.set_cons_succ])
                | (go_at_call 19; refine (HFind.out Y2 b2).mono ?_; rintro e Y3 ⟨rfl, b3⟩; have HY3 : Hid (Row Y3 wr.heap.size 33 (u8s x)) := HY2.out.below b3 HY2.out.lt)
                | ((with_reducible show wpList _ _ _ (Oper.mk (some 33) (Op.load 33 _) _ _ _ _ :: _) _ _); refine wpList_loadIdV (by rfl) (.tmp 12) rfl rfl hid HY3.out.range ?_; simp only [Act.put, List.setIfInBounds_toArray, List.set_cons_zero, List.set_cons_succ])
                | (go_at_call 20; refine (HHas.out Y3 (b2.trans (b3.mono b2.size))).mono ?_; rintro e Y4 ⟨rfl, b4⟩; have HY4 : Hid (Row Y4 wr.heap.size 33 (u8s x)) := HY3.out.below b4 HY3.out.lt; obtain ⟨v6, Y5, v7, Y6, v10, Y7, hr6, hr7, ⟨pb, poff, ep, hcp⟩, hr10, hN7⟩ := HStep.out Y4 (b2.trans ((b3.mono b2.size).trans (b4.mono (Nat.le_trans b2.size b3.size)))); have HR6 := (show Hid (_ = _) from hr6); have HR7 := (show Hid (_ = _) from hr7); have HR10 := (show Hid (_ = _) from hr10); have HN7 := (show Hid (RwN _ _ _ _ _ _ _ _ _ _ _ _ _) from hN7); obtain ⟨q6, m6, c6, e6⟩ : ∃ q m c, v6 = Value.slice q m c := (by obtain ⟨_, _, _, h5, _⟩ := hN7; obtain ⟨q', c', e'⟩ := h5.out.slice; exact ⟨q', _, c', e'⟩); obtain ⟨q7, m7, c7, e7⟩ : ∃ q m c, v7 = Value.slice q m c := (by obtain ⟨_, _, _, h5, _⟩ := hN7; obtain ⟨q', c', e'⟩ := slice_of_row h5.far; exact ⟨q', _, c', e'⟩); obtain ⟨q10, m10, c10, e10⟩ : ∃ q m c, v10 = Value.slice q m c := (by obtain ⟨_, _, _, h5, _⟩ := hN7; obtain ⟨q', c', e'⟩ := h5.beh.slice; exact ⟨q', _, c', e'⟩); subst e6 e7 e10 ep; clear hr6 hr7 hr10 hN7)
                | ((with_reducible show wpList _ _ _ (Oper.mk (some 37) (Op.load 33 _) _ _ _ _ :: _) _ _); refine wpList_loadId rfl (.tmp 12) rfl rfl hid HY4.out.range ?_; simp only [Act.put, List.setIfInBounds_toArray, List.set_cons_zero, List.set_cons_succ])
                | ((with_reducible show wpList _ _ _ (Oper.mk (some 38) (Op.buildSlice 23 1 _) _ _ _ _ :: _) _ _); refine wpList_buildOne rfl 23 33 (.tmp 37) rfl (u8s x) rfl i0 _ Try.underlying23 hi0 hz0 (by rw [hz1, id_len hid]) (by rw [id_len hid]; omega) (by rw [id_len hid]; omega) ?_; simp only [Act.put, List.setIfInBounds_toArray, List.set_cons_zero, List.set_cons_succ])
                | ((with_reducible show wpList _ _ _ (Oper.mk (some 39) (_) _ _ _ _ :: _) _ _); refine wpList_plain rfl (fun K hK => wp_append_of (.tmp 36) (.tmp 38) 23 rfl rfl rfl HR6.out (hK _ _ ?_)); simp only [Act.put, List.setIfInBounds_toArray, List.set_cons_zero, List.set_cons_succ])
                | ((with_reducible show wpList _ _ _ (Oper.mk (some 43) (_) _ _ _ _ :: _) _ _); refine wpList_plain rfl (fun K hK => wp_append_of (.tmp 40) (.tmp 42) 26 rfl rfl rfl HR7.out (hK _ _ ?_)); simp only [Act.put, List.setIfInBounds_toArray, List.set_cons_zero, List.set_cons_succ])
                | ((with_reducible show wpList _ _ _ (Oper.mk (some 50) (_) _ _ _ _ :: _) _ _); refine wpList_plain rfl (fun K hK => wp_append_of (.tmp 44) (.tmp 49) 23 rfl rfl rfl HR10.out (hK _ _ ?_)); simp only [Act.put, List.setIfInBounds_toArray, List.set_cons_zero, List.set_cons_succ]))
              go_roundw
              case rel => exact HN7.out
              case measure => simp [intOf]; omega
        · obtain rfl : k = nn := by omega
          have htk : next.take k = next := List.take_of_length_le (by omega)
          rw [htk] at HK
          obtain ⟨lv, hlv⟩ : ∃ lv, meetL l lvs.flatten next = lv := ⟨_, rfl⟩
          have hstep := hwk.step
          have hstop := hwk.stop
          rw [hlv] at HK hall hstep hstop
          have hlm : ∀ x ∈ lv, hasO l x = true ∧ IsId x := fun x hx => by rw [← hlv] at hx; exact ⟨(meetL_mem.1 hx).2.1, hnxt x (meetL_mem.1 hx).1⟩
          have hlid : ∀ y ∈ linkedL l lv, IsId y := fun y hy => by
            obtain ⟨x, hx, hy2⟩ := List.mem_flatMap.1 hy
            obtain ⟨o, hol, _, _, hoL⟩ := linkF_has (hlm x hx).1
            rw [hoL] at hy2
            exact (HI.out.2.2.2.2.1 o hol).2.2.2.1 y hy2
          have HFin : Hid (RwO Z w l roots (.slice q1 (lvs.flatten ++ lv).length c1) (.slice q2 (farL lvs ++ List.replicate lv.length lvs.length).length c2) (.slice q3 (linkedL l lv).length c3) (.int .i64 ((lvs.length : Int) + 1)) wr ∧
              2 * (l.length + 1 - (lvs.flatten ++ lv).length) + min 1 (linkedL l lv).length < 2 * (l.length + 1 - lvs.flatten.length) + min 1 k) := by
            obtain ⟨q9, n9, c9, e9, hn9, hi9, _⟩ := own_ids_slice HK.out.beh hlid
            cases e9
            have hKn : ∀ (L : List (List (List Nat))), L.flatten = lvs.flatten ++ lv → farL L = farL lvs ++ List.replicate lv.length lvs.length → RwK Z wr (.slice q1 (lvs.flatten ++ lv).length c1) (.slice q2 (farL lvs ++ List.replicate lv.length lvs.length).length c2) (.slice none 0 0) q3 (linkedL l lv).length c3 L.flatten (farL L) [] (linkedL l lv) := fun L e1 e2 => by
              rw [e1, e2]
              refine ⟨HK.out.size, HK.out.out, HK.out.far, OwnIds.nil _ _, hi9, (fun k e e' => by cases e'), fun hp a ha => ?_⟩
              obtain ⟨h1, cs, fr, h2⟩ := own_fresh HK.out.beh a ha
              have hob : (Value.slice q3 (linkedL l lv).length c3).ownBlock = some a.block := by rw [ha]; rfl
              exact ⟨(Array.getElem?_eq_some_iff.1 h2).1, fun e => HK.out.apart _ e hob, fun e => row_types HK.out.far HK.out.beh (by decide) _ e hob, by simp [Value.ownBlock]⟩
            by_cases hz : lv = []
            · have e0 : linkedL l lv = [] := by rw [hz]; rfl
              have el : levels l roots = lvs := hstop hz
              refine ⟨⟨lvs, linkedL l lv, q3, _, c3, lvs.length + 1, rfl, by go_num, hKn lvs (by rw [hz, List.append_nil]) (by rw [hz]; simp), hB, hids, .inr ⟨el, e0, by omega⟩, hfl⟩, ?_⟩
              rw [e0, hz, List.append_nil]
              simp only [List.length_nil]
              omega
            · have hp : 0 < lv.length := List.length_pos_iff.2 hz
              have hw2 := hstep hz
              have hall2 := hall.2
              rw [List.length_append] at hall2
              have hll3 : (lvs ++ [lv]).length ≤ l.length + 1 := by
                have h5 := levF_length l (l.length + 1) [] roots
                have h6 := congrArg List.length hw2.all
                unfold levels at h6
                rw [List.length_append] at h6
                omega
              refine ⟨⟨lvs ++ [lv], linkedL l lv, q3, _, c3, lvs.length + 1, rfl, by go_num, hKn (lvs ++ [lv]) (by simp) (farL_snoc _ _), hB, ?_, .inl ⟨_, hw2, by simp, hll3⟩, by rw [show (lvs ++ [lv]).flatten = lvs.flatten ++ lv by simp, List.length_append]; omega⟩, ?_⟩
              · intro y hy
                simp only [List.flatten_append, List.flatten_cons, List.flatten_nil, List.append_nil] at hy
                rcases List.mem_append.1 hy with h | h
                · exact hids y h
                · exact (hlm y h).2
              · rw [List.length_append]; omega
          rw [htk, hlv]
          clear HK hK hstep hstop hall
          generalize (lvs.flatten ++ lv).length = z1 at *
          generalize (farL lvs ++ List.replicate lv.length lvs.length).length = z2 at *
          generalize (linkedL l lv).length = z3 at *
          go_wp2
          go_roundw
          case rel => exact HFin.out.1
          case measure => simpa [lenV] using HFin.out.2
end Go.Proofs.Ytfclbdlkpnoceaa
