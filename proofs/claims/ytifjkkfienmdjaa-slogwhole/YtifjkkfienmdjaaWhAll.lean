/-
  Several texts in one: Sme, Nxp, Sme2, ArgsS, WhA, WholeW.
-/
import Derived.Test.YtifjkkfienmdjaaAwS
import Derived.Test.YtifjkkfienmdjaaNx
import Derived.Test.YtifjkkfienmdjaaArgs
import Derived.Maps.AppendAt
import Derived.Test.YtifjkkfienmdjaaBo
import Derived.Test.YtifjkkfienmdjaaLaid
/-
  Records, told one behind the other; the law's same.
-/
namespace Go.Proofs.Ytifjkkfienmdjaa
open Go.RowKit Go.Shelf
attribute [local go_sem] Oper.semAt_some

set_option maxHeartbeats 1000000 in
theorem records_any {L : Nat} {v : Value} {w : World} (q : Option Addr) (len c : Nat) (hv : v = .slice q len c) (h : w.cell? ⟨L, 5, none⟩ = some v) : Calls Try.prog 37 #[.pointer (some ⟨L, 0, none⟩)] w fun e w' => e = .returned (.func (.func 48) #[] #[.pointer (some ⟨w.heap.size, 0, none⟩)]) ∧ w' = w.alloc (.cells #[v] 39) := by
  subst hv
  have hlt := World.block_lt_of_cell? w _ h
  have hc : (w.alloc (.cells #[.slice none 0 0] 39)).cell? ⟨L, 5, none⟩ = some (.slice q len c) := (((Below.refl _ w).alloc (Nat.le_refl _) _).cell (p := ⟨L, 5, none⟩) hlt).trans h
  clear h
  go_enter Try.func37, Try.ntmps37
  go_wp2
  go_ret
  exact ⟨rfl, rfl⟩

set_option maxRecDepth 100000 in
set_option maxHeartbeats 2000000 in
theorem records1_iter (n : Nat) (hn : 4 ≤ n) (l B n₀ : Nat) (q : Option Addr) (len c : Nat) (recs : List (List Nat)) (M : List Nat) (W : World) (hbx : Boxed W B 39 (.slice q len c)) (hR : RecsAt n₀ W (.slice q len c) recs) (hM : ∀ x ∈ M, ∃ c t fr, W.heap[x]? = some (Obj.cells c t fr) ∧ t ≠ 5 ∧ t ≠ 25) (hlen : len ≤ 100000) (hl4 : ∀ z ∈ recs, z.length ≤ 300000) :
    IterNx Fence.wide n Try.prog 48 #[.pointer (some ⟨B, 0, none⟩)] (fun x : Value × List Nat => #[x.1]) (fun x X => Bytes5 X x.1 x.2) (KpC M W.heap.size) (KpC M W.heap.size) (fun pre x => ∃ post, recs = pre.map (·.2) ++ x.2 :: post) (fun xs => xs.map (·.2) = recs) (fun _ => True) l W := by
  intro J Jx hJ hJx hY h0
  have h1 : 1 ≤ n := by omega
  have hfn : ∀ f, Fence.wide.fn f := fun _ => trivial
  have hc := hbx.cell
  have HR : Hid (RecsAt n₀ W (.slice q len c) recs) := hR
  obtain ⟨hrl, hlc, hcc⟩ := hR.cap
  have HRl : Hid (recs.length = len) := hrl
  have HK5 : Hid (∀ X, CK M W X → KeepT 5 W X) := fun X hk k c fr hc => hk k c 5 fr (fun hx => by
    obtain ⟨c', t', fr', e, h5, _⟩ := hM k hx
    rw [hc] at e
    cases e
    exact h5 rfl) hc
  have HRX : Hid (∀ X, CK M W X → RecsAt n₀ X (.slice q len c) recs) := fun X hk => HR.out.frame (fun k hk' => by
    obtain ⟨_, _, c', fr', e⟩ := HR.out.own hk'
    rw [e]
    exact hk k c' 25 fr' (fun hx => by
      obtain ⟨c2, t2, fr2, e2, _, h25⟩ := hM k hx
      rw [e] at e2
      cases e2
      exact h25 rfl) e) (HK5.out X hk)
  refine callsIn_of_wp Try.func48 rfl trivial ?_ rfl
  simp only [Try.ntmps48, List.size_toArray, List.length_cons, List.length_nil, Nat.reduceAdd, Nat.reduceSub, Array.replicate_succ, Array.replicate_zero, List.push_toArray, List.append_toArray, List.nil_append, List.cons_append]
  clear hbx hR hrl hM
  gi_wp2
  gi_loopw [7] (fun i wr => ∃ (k : Nat) (pre : List (Value × List Nat)), k ≤ len ∧ i = .int .i64 k ∧ pre.map (·.2) = recs.take k ∧ J pre wr ∧ CK M W wr ∧ W.heap.size ≤ wr.heap.size) (fun i _ => len - (intOf i).toNat)
  case atStart => exact ⟨0, [], Nat.zero_le _, rfl, by simp, h0, fun _ _ _ _ _ h => h, Nat.le_refl _⟩
  case round =>
    obtain ⟨k, pre, hk, rfl, hpre, hj, hck, hsz⟩ := hrel
    have HCk : Hid (CK M W wr) := hck
    by_cases hlt : k < len
    · have hki : (k : Int) < (len : Int) := by omega
      obtain ⟨G, x, rfl, hcx, hbx⟩ := (HRX.out wr hck).at hlt
      obtain ⟨zs, hzs⟩ : ∃ zs, recs.getD k [] = zs := ⟨_, rfl⟩
      rw [hzs] at hbx
      have hkl : k < recs.length := by rw [HRl.out]; exact hlt
      have hmem : zs ∈ recs := by rw [← hzs, List.getD_eq_getElem?_getD, List.getElem?_eq_getElem hkl, Option.getD_some]; exact List.getElem_mem hkl
      have hzl := hl4 zs hmem
      have HT : Hid (recs.take (k + 1) = recs.take k ++ [zs]) := by show _ = _; rw [List.take_succ_eq_append_getElem hkl, ← hzs, List.getD_eq_getElem?_getD, List.getElem?_eq_getElem hkl, Option.getD_some]
      have HNx : Hid (∃ post, recs = pre.map (·.2) ++ zs :: post) := ⟨recs.drop (k + 1), by
        have : recs = recs.take (k + 1) ++ recs.drop (k + 1) := (List.take_append_drop _ _).symm
        rw [HT.out, ← hpre, List.append_assoc, List.singleton_append] at this
        exact this⟩
      have hz256 : ∀ z ∈ zs, z < 256 := by obtain ⟨_, _, _, _, _, _, _, h5, _⟩ := hbx; exact h5
      obtain ⟨qx, lx, cx, rfl, hlx⟩ : ∃ qx lx cx, x = .slice qx lx cx ∧ zs.length = lx := by obtain ⟨a, b, c, e, e2, _⟩ := hbx; exact ⟨a, b, c, e, e2⟩
      have HCl : Hid (Calls Try.prog 41 #[.slice qx lx cx] wr fun e w' => ∃ u, e = .returned u ∧ Bytes5 w' u zs ∧ Below wr.heap.size wr w') := (clone41_any hbx.bytes (by omega)).mono fun e w' ⟨u, b1, b2, b3⟩ => ⟨u, b1, Bytes5.of_own b2 hz256, b3⟩
      have HY : Hid (∀ Y u, Below wr.heap.size wr Y → Bytes5 Y u zs → YieldAt Fence.wide (n - 1) Try.prog l #[u] Y fun e W' => (e = .returned (.bool true) ∧ J (pre ++ [(u, zs)]) W' ∧ KpC M W.heap.size Y W') ∨ (e = .returned (.bool false) ∧ Jx (pre ++ [(u, zs)]) W' ∧ KpC M W.heap.size Y W')) := fun Y u hb hx => hY pre (u, zs) Y (hJ _ _ _ hj (hb.mono hsz)) hx HNx.out
      have HPr : Hid (∀ u : Value, (pre ++ [(u, zs)]).map (·.2) = recs.take (k + 1)) := fun u => by rw [List.map_append, hpre, HT.out]; rfl
      clear hY hj hbx hck hpre hmem hzs hl4
      gi_wp2_with (first
        | (gi_at_call 41; refine (callsIn_wide.2 HCl.out).mono ?_; rintro e Y2 ⟨u, rfl, hx2, hb2⟩; obtain ⟨fn, tmps, assign, body, hy, hR⟩ := HY.out Y2 u hb2 hx2))
      refine RoundIn.mono hR ?_
      rintro e W3 (⟨rfl, hJ3, hk3⟩ | ⟨rfl, hJ3, hk3⟩)
      · gi_wp2
        go_roundw
        case rel => exact ⟨k + 1, _, by omega, by go_num, HPr.out u, hJ3, (HCk.out.trans (CK.of_below hb2)).trans hk3.1, Nat.le_trans hsz (Nat.le_trans hb2.size hk3.2.size)⟩
        case measure => simp [intOf]; omega
      · gi_wp2
        refine bodyPost_ret (results_none rfl _ _ _) rfl ?_
        exact ⟨⟨_, rfl⟩, .inr ⟨_, trivial, hJ3⟩⟩
    · obtain rfl : k = len := by omega
      gi_wp2
      refine ⟨rfl, _, results_none rfl _ _ _, ?_⟩
      exact ⟨⟨_, rfl⟩, .inl ⟨_, by rw [hpre, List.take_of_length_le (by rw [HRl.out]; exact Nat.le_refl _)], hj⟩⟩
end Go.Proofs.Ytifjkkfienmdjaa
/-
  A law of the walk that names no program: a range over a function that tells a given list, the loop's variable in a slot.
-/
namespace Go.Proofs.Ytifjkkfienmdjaa
open Go Go.RowKit

section
variable {F : Fence} {n : Nat} {P : Program}
theorem wpIn_rangeFunc_nxp {α : Type} {g : Operand} {ps : Array Tmp} {assign body : Code} {Q : Exit → Act → World → Prop} {a : Act} {w : World}
    (hro : F.round = none) (h1 : 1 ≤ n) {gf : Nat} {lb : Array Value} (hg : a.eval g = .func (.func gf) #[] lb) (hFg : F.fn gf) (eg : ∀ args w, (callFunc gf args).run P w = .ok (.enter gf args) w)
    {encs : α → Array Value} {Ok : α → World → Prop} {Kp : World → World → Prop} {Kx : World → World → Prop} {Nx : List α → α → Prop} {S Sp : List α → Prop}
    (hit : ∀ W, W.heap.size = w.heap.size + 2 → Below w.heap.size w W → IterNx F (n - 1) P gf lb encs Ok Kp Kx Nx S Sp (w.heap.size + 1) W)
    (hKt : ∀ {A B C : World}, Kp A B → Kp B C → Kp A C) (hKb : ∀ (W : World) (o o' : Obj), W.heap[w.heap.size + 1]? = some o → o.isCells = false → Kp W (W.putObj (w.heap.size + 1) o'))
    (hKx1 : ∀ {A B C : World}, Kp A B → Kx B C → Kx A C) (hKx2 : ∀ {A B C : World}, Kx A B → Kp B C → Kx A C) (hps : ∀ x, (encs x).size = ps.size)
    (I : List α → World → Prop) (Ix : Code → List α → World → Prop) (hI : Low w.heap.size I) (hIx : ∀ c, Low w.heap.size (Ix c)) (hOk : ∀ (x : α) (W : World) (o o' : Obj), Ok x W → W.heap[w.heap.size + 1]? = some o → o.isCells = false → Ok x (W.putObj (w.heap.size + 1) o')) (h0 : I [] w) (a₁ : α → Act)
    (hassign : ∀ (l : Nat) (x : α) (W : World) (K : Act → World → Prop), K (a₁ x) W →
      assign.wpIn (F.inRound l) (n - 1 - 1) P (Exit.then K (fun _ _ _ => False)) { tmps := (ps.zip (encs x)).foldl (fun t (p, v) => t.setIfInBounds p v) a.tmps, defers := [] } W)
    (hbody : ∀ (l : Nat) (pre : List α) (x : α) (W : World), I pre W → Ok x W → Nx pre x → body.wpIn (F.inRound l) (n - 1 - 1) P (roundWord2 w.heap.size Kp Kx I Ix (pre ++ [x]) W) (a₁ x) W)
    (hdone : ∀ (D : Nat) (xs : List α) (W : World), w.heap.size ≤ D → S xs → I xs W → W.heap[D]? = some (.deferred (some [])) → Q .normal { a with defers := { target := .collected D, args := #[] } :: a.defers } W)
    (hstop : ∀ (D : Nat) (c : Code) (pre : List α) (W : World), w.heap.size ≤ D → Sp pre → Ix c pre W → W.heap[D]? = some (.deferred (some [])) → c.wpIn F n P Q { a with defers := { target := .collected D, args := #[] } :: a.defers } W) :
    (Code.rangeFunc g ps assign body).wpIn F n P Q a w := by
  refine wpIn_rangeFunc fun fn hfn => ?_
  rw [hro]
  -- the loop's record, by its state and its pending jump
  obtain ⟨rec, hrec⟩ : ∃ rec : LoopState → Option Code → Loop, rec = fun st pe => { state := st, pending := pe, fn, tmps := a.tmps, params := ps, assign, body, defers := w.heap.size } := ⟨_, rfl⟩
  obtain ⟨W1, hW1⟩ : ∃ W1, (w.alloc (.deferred (some []))).alloc (.loop (rec .ready none)) = W1 := ⟨_, rfl⟩
  have hs1 : W1.heap.size = w.heap.size + 2 := by rw [← hW1]; simp
  have hb1 : Below w.heap.size w W1 := by rw [← hW1]; exact ((Below.refl _ w).alloc (Nat.le_refl _) _).alloc (by simp) _
  have hL1 : W1.heap[w.heap.size + 1]? = some (.loop (rec .ready none)) := by
    rw [← hW1]; have := World.alloc_heap_new (w.alloc (.deferred (some []))) (.loop (rec .ready none)); rwa [World.size_alloc] at this
  have hD1 : W1.heap[w.heap.size]? = some (.deferred (some [])) := by
    rw [← hW1]; exact (Below.heap_alloc _ _ _ (by simp)).trans (World.alloc_heap_new w _)
  have hI1 : I [] W1 := hI _ _ _ h0 hb1
  -- what is said of a world between two rounds, of a world behind the last one
  obtain ⟨T, hT⟩ : ∃ T : LoopState → Option Code → World → Prop, T = fun st pe W => W.heap[w.heap.size + 1]? = some (.loop (rec st pe)) ∧ W.heap[w.heap.size]? = some (.deferred (some [])) := ⟨_, rfl⟩
  have hTlow : ∀ st pe, Low W1.heap.size (fun (_ : List α) W => T st pe W) := by
    intro st pe s A B hs hg'
    rw [hT] at hs ⊢
    exact ⟨(hg'.block _ (by omega)).trans hs.1, (hg'.block _ (by omega)).trans hs.2⟩
  refine ⟨w.heap.size + 1, [{ target := .collected w.heap.size, args := #[] }], W1, { target := .fn (.func gf) lb, args := #[.func (.yield (w.heap.size + 1)) #[] #[]] }, W1, gf,
    #[.func (.yield (w.heap.size + 1)) #[] #[]] ++ lb, W1, ?_, ?_, ?_, ?_, fun _ => h1, ?_⟩
  · rw [← hW1, hrec]; exact run_enterLoop_outer _ _ _ _ _
  · simp only [resolve, hg]
    simp [go_sem]
  · intro f' hf'
    simp [Target.leads] at hf'
    subst hf'
    exact hFg
  · simp [invoke, go_sem, eg]
  · refine (hit W1 hs1 hb1 (fun pre W => I pre W ∧ T .ready none W) (fun pre W => ∃ c, Ix c pre W ∧ T .done (some c) W)
      (Low.and (hI.mono (by omega)) (hTlow _ _))
      (fun s A B ⟨c, hc, ht⟩ hg' => ⟨c, (hIx c).mono (by omega) s A B hc hg', hTlow _ _ s A B ht hg'⟩) ?_ ⟨hI1, by rw [hT]; exact ⟨hL1, hD1⟩⟩).mono ?_
    · rintro pre x W ⟨hi, ht⟩ hok hN
      rw [hT] at ht
      obtain ⟨hl, hd⟩ := ht
      have hlt : w.heap.size + 1 < W.heap.size := (Array.getElem?_eq_some_iff.1 hl).1
      have hy := run_yield (P := P) (args := encs x) hl (by rw [hrec]; exact hps x)
      rw [hrec] at hy
      refine ⟨fn, _, assign, body, hy, roundIn_of_wpIn hfn (hassign _ x W _ ⟨_, run_beginRound hl (by rw [hrec]), ?_⟩)⟩
      -- the world in which the body begins
      obtain ⟨W2, hW2⟩ : ∃ W2, W.putObj (w.heap.size + 1) (.loop { rec .ready none with state := .busy }) = W2 := ⟨_, rfl⟩
      rw [hW2]
      have hl2 : W2.heap[w.heap.size + 1]? = some (.loop { rec .ready none with state := .busy }) := by rw [← hW2]; exact World.putObj_heap_same hlt
      have hd2 : W2.heap[w.heap.size]? = some (.deferred (some [])) := by rw [← hW2]; exact (World.putObj_heap_other (by omega)).trans hd
      have hk2 : Kp W W2 := by rw [← hW2]; exact hKb _ _ _ hl rfl
      have hi2 : I pre W2 := by rw [← hW2]; exact low_putObj hI _ hi (by omega)
      have ho2 : Ok x W2 := by rw [← hW2]; exact hOk _ _ _ _ hok hl rfl
      -- whatever way the body is left
      have fin : ∀ (jump : Option Code) (W3 : World), KeepsFrom w.heap.size W2 W3 → Kp W2 W3 →
          ∃ W4, (Instr.endRound (w.heap.size + 1) jump).run P W3 = .ok (.bool jump.isNone) W4 ∧ T (if jump.isNone then .ready else .done) jump W4 ∧ Kp W W4 ∧ (I (pre ++ [x]) W3 → I (pre ++ [x]) W4) ∧ (∀ c, Ix c (pre ++ [x]) W3 → Ix c (pre ++ [x]) W4) := by
        intro jump W3 hk3 hkp
        have hl3 := hk3.same _ _ (by omega) hl2 rfl
        have hd3 := hk3.same _ _ (Nat.le_refl _) hd2 rfl
        refine ⟨_, run_endRound (P := P) jump hl3, ?_, hKt (hKt hk2 hkp) (hKb _ _ _ hl3 rfl), fun h => low_putObj hI _ h (by omega), fun c h => low_putObj (hIx c) _ h (by omega)⟩
        rw [hT, hrec]
        exact ⟨World.putObj_heap_same (Array.getElem?_eq_some_iff.1 hl3).1, (World.putObj_heap_other (by omega)).trans hd3⟩
      have finx : ∀ (jump : Option Code) (W3 : World), KeepsFrom w.heap.size W2 W3 → Kx W2 W3 →
          ∃ W4, (Instr.endRound (w.heap.size + 1) jump).run P W3 = .ok (.bool jump.isNone) W4 ∧ T (if jump.isNone then .ready else .done) jump W4 ∧ Kx W W4 ∧ (I (pre ++ [x]) W3 → I (pre ++ [x]) W4) ∧ (∀ c, Ix c (pre ++ [x]) W3 → Ix c (pre ++ [x]) W4) := by
        intro jump W3 hk3 hkp
        have hl3 := hk3.same _ _ (by omega) hl2 rfl
        have hd3 := hk3.same _ _ (Nat.le_refl _) hd2 rfl
        refine ⟨_, run_endRound (P := P) jump hl3, ?_, hKx2 (hKx1 hk2 hkp) (hKb _ _ _ hl3 rfl), fun h => low_putObj hI _ h (by omega), fun c h => low_putObj (hIx c) _ h (by omega)⟩
        rw [hT, hrec]
        exact ⟨World.putObj_heap_same (Array.getElem?_eq_some_iff.1 hl3).1, (World.putObj_heap_other (by omega)).trans hd3⟩
      refine wpIn_mono (hbody _ pre x W2 hi2 ho2 hN) ?_
      rintro e a3 W3 hp
      cases e with
      | normal =>
        obtain ⟨W4, hr, ht, hk, hi4, _⟩ := fin none W3 hp.1 hp.2.1
        exact ⟨_, _, hr, .inl ⟨rfl, ⟨hi4 hp.2.2, ht⟩, hk⟩⟩
      | ret =>
        obtain ⟨W4, hr, ht, hk, _, hx4⟩ := finx (some .ret) W3 hp.1 hp.2.1
        exact ⟨_, _, hr, .inr ⟨rfl, ⟨_, hx4 _ hp.2.2, ht⟩, hk⟩⟩
      | exit id =>
        obtain ⟨W4, hr, ht, hk, _, hx4⟩ := finx (some (.exit id)) W3 hp.1 hp.2.1
        exact ⟨_, _, hr, .inr ⟨rfl, ⟨_, hx4 _ hp.2.2, ht⟩, hk⟩⟩
      | goto t =>
        obtain ⟨W4, hr, ht, hk, _, hx4⟩ := finx (some (.goto t)) W3 hp.1 hp.2.1
        exact ⟨_, _, hr, .inr ⟨rfl, ⟨_, hx4 _ hp.2.2, ht⟩, hk⟩⟩
      | panic ch => exact hp.elim
      | outgrown => exact hp.elim
    · rintro e W2 ⟨⟨v, rfl⟩, (⟨xs, hS, hi, ht⟩ | ⟨pre, hSp, c, hi, ht⟩)⟩
      · rw [hT] at ht
        have hr := run_endLoop (P := P) ht.1 (by rw [hrec]; simp)
        rw [hrec] at hr
        exact ⟨none, _, hr, hdone _ xs _ (Nat.le_refl _) hS (low_putObj hI _ hi (by omega)) ((World.putObj_heap_other (by omega)).trans ht.2)⟩
      · rw [hT] at ht
        have hr := run_endLoop (P := P) ht.1 (by rw [hrec]; simp)
        rw [hrec] at hr
        exact ⟨some c, _, hr, hstop _ c pre _ (Nat.le_refl _) hSp (low_putObj (hIx c) _ hi (by omega)) ((World.putObj_heap_other (by omega)).trans ht.2)⟩


end
end Go.Proofs.Ytifjkkfienmdjaa
/-
  The law's same: whether a log has just these records.
-/
namespace Go.Proofs.Ytifjkkfienmdjaa
open Go.RowKit Go.Shelf
attribute [local go_sem] Oper.semAt_some

/-- A list of bytes, as it is read. -/
def WantAt (W : World) (q : Option Addr) (len cap : Nat) (want : List (List Nat)) : Prop :=
  want.length = len ∧ len ≤ cap ∧ cap ≤ 9223372036854775807 ∧ (∀ z ∈ want, ∀ y ∈ z, y < 256) ∧ (len = 0 ∨ ∃ b off, q = some ⟨b, off, none⟩ ∧ b < W.heap.size ∧ ∀ i, i < len → ∃ qx lx cx, W.cell? ⟨b, off + i, none⟩ = some (.slice qx lx cx) ∧ IsBytes W.heap.size W qx lx cx (want.getD i []))
theorem WantAt.later {W W' : World} {q : Option Addr} {len cap : Nat} {want : List (List Nat)} (h : WantAt W q len cap want) (hb : Below W.heap.size W W') : WantAt W' q len cap want := by
  obtain ⟨h1, h2, h3, h3', h4⟩ := h
  refine ⟨h1, h2, h3, h3', ?_⟩
  rcases h4 with h | ⟨b, off, e, hlt, hc⟩
  · exact .inl h
  · refine .inr ⟨b, off, e, Nat.lt_of_lt_of_le hlt hb.size, fun i hi => ?_⟩
    obtain ⟨qx, lx, cx, e1, e2⟩ := hc i hi
    exact ⟨qx, lx, cx, (hb.cell (p := ⟨b, off + i, none⟩) hlt).trans e1, e2.later hb⟩
theorem take_ne {recs want pre : List (List Nat)} {z : List Nat} {post : List (List Nat)} (h : recs = pre ++ z :: post) (hb : want.length ≤ pre.length ∨ z ≠ want.getD pre.length []) : recs ≠ want := fun e => by
  subst e
  rcases hb with hb | hb
  · rw [h, List.length_append, List.length_cons] at hb
    omega
  · apply hb
    rw [h, List.getD_eq_getElem?_getD, List.getElem?_append_right (Nat.le_refl _), Nat.sub_self]
    rfl

set_option maxRecDepth 100000 in
set_option maxHeartbeats 4000000 in
theorem same_in (n : Nat) (hn : 8 ≤ n) {F : List Nat} {n₀ : Nat} {w : World} {L p g : Nat} {v : Value} {d : St} {l : Lg} (h : MSt F n₀ w L p g v d l) (hrl : l.recs.length ≤ 100000) (hl4 : ∀ z ∈ l.recs, z.length ≤ 300000) (wq : Option Addr) (wl wc : Nat) (want : List (List Nat)) (hW : WantAt w wq wl wc want) :
    CallsIn Fence.wide n Try.prog 14 #[.pointer (some ⟨L, 0, none⟩), .slice wq wl wc] w fun e w' => e = .returned (.bool (decide (l.recs = want))) ∧ Below w.heap.size w w' := by
  have h1n : 1 ≤ n := by omega
  have hfn : ∀ f, Fence.wide.fn f := fun _ => trivial
  obtain ⟨vq, vc, rfl⟩ := h.log.2.slice
  have HSt : Hid (MSt F n₀ w L p g _ d l) := h
  have HW : Hid (WantAt w wq wl wc want) := hW
  have hwl := hW.1
  have hwc := hW.2.1
  have hwcc := hW.2.2.1
  obtain ⟨recs, hrecs⟩ : ∃ recs, l.recs = recs := ⟨_, rfl⟩
  rw [hrecs] at hrl hl4 ⊢
  obtain ⟨w3, hw3⟩ : ∃ w3, ((w.alloc (.cells #[.slice wq wl wc] 39)).alloc (.cells #[.bool false] 4)).alloc (.cells #[.int .i64 0] 3) = w3 := ⟨_, rfl⟩
  have hb3 : Below w.heap.size w w3 := by rw [← hw3]; exact two_below.alloc (by simp; omega) _
  have hs3 : w3.heap.size = w.heap.size + 3 := by rw [← hw3]; simp
  have HW3 : Hid (((w.alloc (.cells #[.slice wq wl wc] 39)).alloc (.cells #[.bool false] 4)).alloc (.cells #[.int .i64 0] 3) = w3) := hw3
  have bW3 : Boxed w3 w.heap.size 39 (.slice wq wl wc) := by rw [← hw3]; exact ((Boxed.new w 39 _).alloc _).alloc _
  have bR3 : Row w3 (w.heap.size + 1) 4 [.bool false] := by rw [← hw3]; exact (two_row w _ 4 _).later ((Below.refl _ _).alloc (Nat.le_refl _) _)
  have bN3 : Boxed w3 (w.heap.size + 2) 3 (.int .i64 0) := by
    rw [← hw3]
    have := Boxed.new ((w.alloc (.cells #[.slice wq wl wc] 39)).alloc (.cells #[.bool false] 4)) 3 (.int .i64 0)
    rwa [World.size_alloc, World.size_alloc] at this
  have hS3 := h.later hb3
  have hc5 := hS3.log.1.cell (i := 5) rfl
  obtain ⟨w4, hw4⟩ : ∃ w4, w3.alloc (.cells #[.slice vq l.recs.length vc] 39) = w4 := ⟨_, rfl⟩
  have hb34 : Below w3.heap.size w3 w4 := by rw [← hw4]; exact (Below.refl _ _).alloc (Nat.le_refl _) _
  have HRc : Hid (Calls Try.prog 37 #[.pointer (some ⟨L, 0, none⟩)] w3 fun e w' => e = .returned (.func (.func 48) #[] #[.pointer (some ⟨w3.heap.size, 0, none⟩)]) ∧ w' = w4) := (records_any vq l.recs.length vc rfl hc5).mono fun e w' ⟨a, b⟩ => ⟨a, b.trans hw4⟩
  have bA4 : Boxed w4 w3.heap.size 39 (.slice vq l.recs.length vc) := by rw [← hw4]; exact Boxed.new w3 39 _
  have hs4 : w4.heap.size = w.heap.size + 4 := by rw [← hw4]; simp [hs3]
  rw [hs3] at HRc bA4
  rw [hrecs] at bA4
  have HS4 : Hid (MSt F n₀ w4 L p g _ d l) := hS3.later hb34
  have HBe4 : Hid (Below w.heap.size w w4) := hb3.trans (hb34.mono hb3.size)
  have HbW4 : Hid (Boxed w4 w.heap.size 39 (.slice wq wl wc)) := boxed_below bW3 hb34
  have HbR4 : Hid (Row w4 (w.heap.size + 1) 4 [.bool false]) := bR3.later hb34
  have HbN4 : Hid (Boxed w4 (w.heap.size + 2) 3 (.int .i64 0)) := boxed_below bN3 hb34
  have HbA4 : Hid (Boxed w4 (w.heap.size + 3) 39 (.slice vq recs.length vc)) := bA4
  have HRe4 : Hid (RecsAt n₀ w4 (.slice vq recs.length vc) recs) := by rw [← hrecs]; exact HS4.out.log.2
  have hLw := HSt.out.lt.2.2
  have HLow : Hid (Low w4.heap.size (fun (pre : List (Value × List Nat)) A => Boxed A (w.heap.size + 2) 3 (.int .i64 (pre.length : Nat)) ∧ Row A (w.heap.size + 1) 4 [.bool false] ∧ pre.map (·.2) = want.take pre.length ∧ pre.length ≤ wl ∧ CK [w.heap.size + 1, w.heap.size + 2] w4 A ∧ Below w.heap.size w A ∧ w4.heap.size ≤ A.heap.size)) := fun pre A A' ⟨a1, a2, a3, a4, a5, a6, a7⟩ hb => ⟨(hb.block _ (by omega)).trans a1, a2.below hb (by omega), a3, a4, fun k c t fr hk hc => (hb.block k (Array.getElem?_eq_some_iff.1 hc).1).trans (a5 k c t fr hk hc), a6.trans (hb.mono (by omega)), Nat.le_trans a7 hb.size⟩
  have HLowx : Hid (∀ c : Code, Low w4.heap.size (fun (_ : List (Value × List Nat)) A => c = .ret ∧ Row A (w.heap.size + 1) 4 [.bool false] ∧ recs ≠ want ∧ Below w.heap.size w A)) := fun c _ A A' ⟨a1, a2, a3, a4⟩ hb => ⟨a1, a2.below hb (by omega), a3, a4.trans (hb.mono (by omega))⟩
  obtain ⟨bE, hbE⟩ : ∃ b, decide (recs = want) = b := ⟨_, rfl⟩
  rw [hbE]
  have HBE : Hid (decide (recs = want) = bE) := hbE
  clear hbE
  clear hw3 hw4 bW3 bR3 bN3 bA4 h hS3 hc5 hb3 hb34 hW
  refine callsIn_of_wp_marks Try.func14 rfl trivial ?_ rfl
  simp only [Try.ntmps14, List.size_toArray, List.length_cons, List.length_nil, Nat.reduceAdd, Nat.reduceSub, Array.replicate_succ, Array.replicate_zero, List.push_toArray, List.append_toArray, List.nil_append, List.cons_append]
  gi_wp2_with (first
    | (gi_at_call 37; rw [HW3.out]; refine (callsIn_wide.2 HRc.out).mono ?_; rintro e w' ⟨rfl, hw'⟩; obtain rfl := hw'.symm; clear hw'))
  refine wpIn_rangeFunc_nxp rfl h1n (gf := 48) (lb := #[.pointer (some ⟨w.heap.size + 3, 0, none⟩)]) rfl trivial (enters_of Try.func48 (by kernel_rfl) rfl)
    (encs := fun x : Value × List Nat => #[x.1]) (Ok := fun x X => Bytes5 X x.1 x.2) (Kp := KpC [w.heap.size + 1, w.heap.size + 2] (w4.heap.size + 2)) (Kx := KpC [w.heap.size + 1, w.heap.size + 2] (w4.heap.size + 2)) (Nx := fun pre x => ∃ post, recs = pre.map (·.2) ++ x.2 :: post) (S := fun xs => xs.map (·.2) = recs) (Sp := fun _ => True)
    (fun W hsz hb => by
      have := records1_iter (n - 1) (by omega) (w4.heap.size + 1) (w.heap.size + 3) n₀ vq recs.length vc recs [w.heap.size + 1, w.heap.size + 2] W (boxed_below HbA4.out hb) (HRe4.out.kept (KeepT.of_below hb) (KeepT.of_below hb)) (fun x hx => by
        simp only [List.mem_cons, List.not_mem_nil, or_false] at hx
        rcases hx with rfl | rfl
        · exact ⟨_, _, _, HbR4.out.later hb, by decide, by decide⟩
        · exact ⟨_, _, _, boxed_below HbN4.out hb, by decide, by decide⟩) hrl hl4
      rw [hsz] at this
      exact this)
    KpC.trans (fun A o o' ho hc => KpC.record (by omega) o' ho hc) (fun h k => h.trans k) (fun h k => h.trans k) (fun _ => rfl)
    (fun pre A => Boxed A (w.heap.size + 2) 3 (.int .i64 (pre.length : Nat)) ∧ Row A (w.heap.size + 1) 4 [.bool false] ∧ pre.map (·.2) = want.take pre.length ∧ pre.length ≤ wl ∧ CK [w.heap.size + 1, w.heap.size + 2] w4 A ∧ Below w.heap.size w A ∧ w4.heap.size ≤ A.heap.size)
    (fun c _ A => c = .ret ∧ Row A (w.heap.size + 1) 4 [.bool false] ∧ recs ≠ want ∧ Below w.heap.size w A)
    HLow.out HLowx.out (fun x W o o' hx ho hc => hx.kept (fun k c fr hk => by rw [World.putObj_heap_other (fun e => by subst e; rw [hk] at ho; cases ho; cases hc)]; exact hk)) ⟨HbN4.out, HbR4.out, by simp, Nat.zero_le _, fun _ _ _ _ _ h => h, HBe4.out, Nat.le_refl _⟩
    (fun x => { tmps := #[.pointer (some ⟨L, 0, none⟩), .slice wq wl wc, undef, .pointer (some ⟨w.heap.size, 0, none⟩), .pointer (some ⟨w.heap.size + 1, 0, none⟩), .pointer (some ⟨w.heap.size + 1 + 1, 0, none⟩), x.1, .pointer (some ⟨L, 0, none⟩), .func (.func 48) #[] #[.pointer (some ⟨w.heap.size + 3, 0, none⟩)], x.1, undef, undef, undef, undef, undef, undef, undef, undef, undef, undef, undef, undef, undef, undef, undef, undef, undef, undef, undef, undef, undef, undef, undef, undef, undef, undef], defers := [] }) ?assign ?body ?done ?stop
  case assign =>
    intro li x A K hK
    gi_wp2
    exact hK
  case body =>
    rintro li pre x A ⟨a1, a2, a3, a4, a5, a6, a7⟩ hok ⟨post, hpost⟩
    obtain ⟨k, hk⟩ : ∃ k, pre.length = k := ⟨_, rfl⟩
    rw [hk] at a1 a3 a4
    obtain ⟨xv, zs⟩ := x
    obtain ⟨qx, lx, cx, rfl, hlx⟩ : ∃ qx lx cx, xv = .slice qx lx cx ∧ zs.length = lx := by obtain ⟨a, b, c, e, e2, _⟩ := hok; exact ⟨a, b, c, e, e2⟩
    have bWA : Boxed A w.heap.size 39 (.slice wq wl wc) := a5.boxed (by simp) HbW4.out
    have hz256 : ∀ z ∈ zs, z < 256 := by obtain ⟨_, _, _, _, _, _, _, h5, _⟩ := hok; exact h5
    have HSx : Hid (Str A (.slice qx lx cx) (strOf zs)) := str_of_bytes hok.bytes
    have HWA : Hid (WantAt A wq wl wc want) := HW.out.later a6
    have hcR := a2.cell (i := 0) rfl
    have hfR := a2.frozen
    have hsA : w.heap.size + 4 ≤ A.heap.size := by omega
    have HStop : Hid (recs ≠ want → ∀ A', (A.setCell ⟨w.heap.size + 1, 0, none⟩ (.bool false)).drew = A' → KeepsFrom w4.heap.size A A' ∧ KpC [w.heap.size + 1, w.heap.size + 2] (w4.heap.size + 2) A A' ∧ Row A' (w.heap.size + 1) 4 [.bool false] ∧ recs ≠ want ∧ Below w.heap.size w A') := fun hne A' e => by
      have hbA : Buts [w.heap.size + 1] A.heap.size A A' := by rw [← e]; exact ((Buts.refl _ _ A).set (by simp) 0 _).drew
      have hKF : ∀ n', w4.heap.size ≤ n' → KeepsFrom n' A A' := fun n' hn' => ⟨hbA.size, fun i o hi ho hc => (hbA.block i (Array.getElem?_eq_some_iff.1 ho).1 (by simp; omega)).trans ho⟩
      have hr' := (a2.set 0 (.bool false)).drew
      rw [e] at hr'
      exact ⟨hKF _ (Nat.le_refl _), ⟨(CK.of_buts hbA).mono (by simp), hKF _ (by omega)⟩, hr', hne, a6.trans (hbA.below (by omega) (by simp))⟩
    by_cases hge : wl ≤ k
    · have hgi : ((wl : Nat) : Int) ≤ (k : Nat) := by omega
      have hgi2 : decide (((wl : Nat) : Int) ≤ (k : Nat)) = true := decide_eq_true hgi
      have hne : recs ≠ want := take_ne hpost (.inl (by rw [List.length_map, hk, hwl]; exact hge))
      have HF : Hid (∀ X, Below A.heap.size A X → X.cell? ⟨w.heap.size + 1 + 1, 0, none⟩ = some (.int .i64 (k : Nat)) ∧ X.cell? ⟨w.heap.size, 0, none⟩ = some (.slice wq wl wc)) := fun X hb => ⟨(boxed_below a1 hb).cell, (boxed_below bWA hb).cell⟩
      have HEnd := HStop.out hne
      have HE : Hid _ := HEnd
      clear HEnd HStop a1 a2 a3 a4 a5 a6 hok hpost bWA hne
      gi_wp2
      refine wpIn_region_on_round (S := fun W' => Below A.heap.size A W') (by kernel_rfl) (by kernel_rfl) (Below.refl _ _).drew (fun hHeld => ?_)
      refine wpAnyH_takesAt 0 5 9 (of_decide_eq_true (by kernel_rfl)) rfl (fun _ _ _ d _ h => by cases d <;> exact h) (by kernel_rfl) (by kernel_rfl) hHeld ?_
      simp only [List.drop_zero, List.take_succ_cons, List.take_zero]
      iterate 5 (refine wpHeld_step (v := ?_) (by rfl) (fun wz hSw => ?_) ?_; rotate_left; (focus ((obtain ⟨hf1, hf2⟩ := HF.out wz hSw; clear hSw); go_simp; try with_reducible rfl)); (simp only [Act.put, List.setIfInBounds_toArray, List.set_cons_zero, List.set_cons_succ]))
      refine wpHeld_nil ?_
      refine wpAnyH_takesAt 5 8 1 (of_decide_eq_true (by kernel_rfl)) rfl (fun _ _ _ d _ h => by cases d <;> exact h) (by kernel_rfl) (by kernel_rfl) hHeld ?_
      simp only [List.drop_succ_cons, List.drop_zero, List.take_succ_cons, List.take_zero]
      iterate 8 (refine wpHeld_skip (by rfl) ?_; (simp only [Act.put]; (try simp only [List.setIfInBounds_toArray]); (try simp only [List.set_cons_succ]); (try simp only [List.set_cons_zero])))
      refine wpHeld_nil ?_
      refine wpAnyH_takesAt 13 1 0 (of_decide_eq_true (by kernel_rfl)) rfl (fun _ _ _ d _ h => by cases d <;> exact h) (by kernel_rfl) (by kernel_rfl) hHeld ?_
      simp only [List.drop_succ_cons, List.drop_zero, List.take_succ_cons, List.take_zero]
      iterate 1 (refine wpHeld_step (v := ?_) (by rfl) (fun wz hSw => ?_) ?_; rotate_left; (focus ((try dsimp only at hSw); go_simp; try with_reducible rfl)); ((simp only [Act.put]; (try simp only [List.setIfInBounds_toArray]); (try simp only [List.set_cons_succ]); (try simp only [List.set_cons_zero]))))
      refine wpHeld_nil ?_
      refine wpAnyH_done (by kernel_rfl) ?_ _
      refine OnOnly.on ?_
      gi_wp2
      obtain ⟨e1, e2, e3, e4, e5⟩ := HE.out _ rfl
      exact ⟨e1, e2, rfl, e3, e4, e5⟩
    · have hgi : ¬ ((wl : Nat) : Int) ≤ (k : Nat) := by omega
      have hgi2 : decide (((wl : Nat) : Int) ≤ (k : Nat)) = false := decide_eq_false hgi
      have hkl : ((k : Nat) : Int) < (wl : Nat) := by omega
      have hklt : k < 9223372036854775807 := by omega
      obtain ⟨_, _, _, hw256, hel⟩ := HWA.out
      obtain ⟨wb, woff, hwq, hwb, hel⟩ := hel.resolve_left (by omega)
      obtain ⟨qy, ly, cy, hcy, hIy⟩ := hel k (by omega)
      obtain ⟨ys, hys⟩ : ∃ ys, want.getD k [] = ys := ⟨_, rfl⟩
      rw [hys] at hIy
      have hy256 : ∀ z ∈ ys, z < 256 := by
        have hkw : k < want.length := by omega
        rw [← hys, List.getD_eq_getElem?_getD, List.getElem?_eq_getElem hkw, Option.getD_some]
        exact hw256 _ (List.getElem_mem hkw)
      have HSy : Hid (Str A (.slice qy ly cy) (strOf ys)) := str_of_bytes hIy
      subst hwq
      have HF : Hid (∀ X, Below A.heap.size A X → X.cell? ⟨w.heap.size + 1 + 1, 0, none⟩ = some (.int .i64 (k : Nat)) ∧ X.cell? ⟨w.heap.size, 0, none⟩ = some (.slice (some ⟨wb, woff, none⟩) wl wc) ∧ X.cell? ⟨wb, woff + k, none⟩ = some (.slice qy ly cy) ∧ (convert 25 9 (.slice qx lx cx)).run Try.prog X = .ok (.string (strOf zs)) X ∧ (convert 25 9 (.slice qy ly cy)).run Try.prog X = .ok (.string (strOf ys)) X) := fun X hb => ⟨(boxed_below a1 hb).cell, (boxed_below bWA hb).cell, (hb.cell (p := ⟨wb, woff + k, none⟩) hwb).trans hcy, HSx.out X hb, HSy.out X hb⟩
      have HSe := strOf_eq zs ys hz256 hy256
      by_cases hzy : zs = ys
      · have hSe : ((strOf zs).toList == (strOf ys).toList) = true := by rw [HSe]; exact decide_eq_true hzy
        have hcN := a1.cell
        have hfN := a1.frozen
        have HGo : Hid (∀ A', (A.setCell ⟨w.heap.size + 1 + 1, 0, none⟩ (.int .i64 ((k : Nat) + 1))).drew = A' → KeepsFrom w4.heap.size A A' ∧ KpC [w.heap.size + 1, w.heap.size + 2] (w4.heap.size + 2) A A' ∧ Boxed A' (w.heap.size + 2) 3 (.int .i64 ((pre ++ [((.slice qx lx cx : Value), zs)]).length : Nat)) ∧ Row A' (w.heap.size + 1) 4 [.bool false] ∧ (pre ++ [((.slice qx lx cx : Value), zs)]).map (·.2) = want.take (pre ++ [((.slice qx lx cx : Value), zs)]).length ∧ (pre ++ [((.slice qx lx cx : Value), zs)]).length ≤ wl ∧ CK [w.heap.size + 1, w.heap.size + 2] w4 A' ∧ Below w.heap.size w A' ∧ w4.heap.size ≤ A'.heap.size) := fun A' e => by
          have hbA : Buts [w.heap.size + 2] A.heap.size A A' := by rw [← e]; exact ((Buts.refl _ _ A).set (by simp) 0 _).drew
          have hKF : ∀ n', w4.heap.size ≤ n' → KeepsFrom n' A A' := fun n' hn' => ⟨hbA.size, fun i o hi ho hc => (hbA.block i (Array.getElem?_eq_some_iff.1 ho).1 (by simp; omega)).trans ho⟩
          have hCK : CK [w.heap.size + 1, w.heap.size + 2] A A' := (CK.of_buts hbA).mono (by simp)
          rw [List.length_append, hk]
          refine ⟨hKF _ (Nat.le_refl _), ⟨hCK, hKF _ (by omega)⟩, ?_, (hbA.block _ a2.lt (by simp)).trans a2, ?_, by simp; omega, a5.trans hCK, a6.trans (hbA.below (by omega) (by simp)), Nat.le_trans a7 hbA.size⟩
          · have r1 : Row A (w.heap.size + 2) 3 [.int .i64 (k : Nat)] := a1
            have r2 := (r1.set 0 (.int .i64 ((k : Nat) + 1))).drew
            rw [← e]
            exact r2
          · have hkw : k < want.length := by omega
            rw [List.map_append, a3, show k + [((.slice qx lx cx : Value), zs)].length = k + 1 from rfl, List.take_succ_eq_append_getElem hkw]
            rw [List.getD_eq_getElem?_getD, List.getElem?_eq_getElem hkw, Option.getD_some] at hys
            rw [hys, hzy]
            rfl
        clear HStop a1 a2 a3 a4 a5 a6 hok hpost bWA hel hys HSe hIy hcy
        gi_wp2
        refine wpIn_region_on_round (S := fun W' => Below A.heap.size A W') (by kernel_rfl) (by kernel_rfl) (Below.refl _ _).drew (fun hHeld => ?_)
        refine wpAnyH_takesAt 0 14 0 (of_decide_eq_true (by kernel_rfl)) rfl (fun _ _ _ d _ h => by cases d <;> exact h) (by kernel_rfl) (by kernel_rfl) hHeld ?_
        simp only [List.drop_zero, List.take_succ_cons, List.take_zero]
        iterate 14 (refine wpHeld_step (v := ?_) (by rfl) (fun wz hSw => ?_) ?_; rotate_left; (focus ((obtain ⟨hf1, hf2, hf3, hf4, hf5⟩ := HF.out wz hSw; clear hSw); go_simp; try with_reducible rfl)); (simp only [Act.put, List.setIfInBounds_toArray, List.set_cons_zero, List.set_cons_succ]))
        refine wpHeld_nil ?_
        refine wpAnyH_done (by kernel_rfl) ?_ _
        refine OnOnly.on ?_
        gi_wp2
        obtain ⟨e1, e2, e3⟩ := HGo.out _ rfl
        exact ⟨e1, e2, e3⟩
      · have hSe : ((strOf zs).toList == (strOf ys).toList) = false := by rw [HSe]; exact decide_eq_false hzy
        have hne : recs ≠ want := take_ne hpost (.inr (by rw [List.length_map, hk, hys]; exact hzy))
        have HEnd := HStop.out hne
        have HE : Hid _ := HEnd
        clear HEnd HStop a1 a2 a3 a4 a5 a6 hok hpost bWA hne hel hys HSe hIy hcy
        gi_wp2
        refine wpIn_region_on_round (S := fun W' => Below A.heap.size A W') (by kernel_rfl) (by kernel_rfl) (Below.refl _ _).drew (fun hHeld => ?_)
        refine wpAnyH_takesAt 0 14 0 (of_decide_eq_true (by kernel_rfl)) rfl (fun _ _ _ d _ h => by cases d <;> exact h) (by kernel_rfl) (by kernel_rfl) hHeld ?_
        simp only [List.drop_zero, List.take_succ_cons, List.take_zero]
        iterate 14 (refine wpHeld_step (v := ?_) (by rfl) (fun wz hSw => ?_) ?_; rotate_left; (focus ((obtain ⟨hf1, hf2, hf3, hf4, hf5⟩ := HF.out wz hSw; clear hSw); go_simp; try with_reducible rfl)); (simp only [Act.put, List.setIfInBounds_toArray, List.set_cons_zero, List.set_cons_succ]))
        refine wpHeld_nil ?_
        refine wpAnyH_done (by kernel_rfl) ?_ _
        refine OnOnly.on ?_
        gi_wp2
        obtain ⟨e1, e2, e3, e4, e5⟩ := HE.out _ rfl
        exact ⟨e1, e2, rfl, e3, e4, e5⟩
  case done =>
    rintro D xs A hD hxs ⟨a1, a2, a3, a4, a5, a6, a7⟩ hKD
    have hm : xs.length = recs.length := by rw [← hxs, List.length_map]
    obtain ⟨m, hmm⟩ : ∃ m, recs.length = m := ⟨_, rfl⟩
    rw [hxs] at a3
    rw [hm, hmm] at a1 a3 a4
    have bWA : Boxed A w.heap.size 39 (.slice wq wl wc) := a5.boxed (by simp) HbW4.out
    have hc4 := a2.cell (i := 0) rfl
    have hf4 := a2.frozen
    have HF : Hid (∀ X, Buts [w.heap.size + 1] A.heap.size A X → X.cell? ⟨w.heap.size + 1 + 1, 0, none⟩ = some (.int .i64 (m : Nat)) ∧ X.cell? ⟨w.heap.size, 0, none⟩ = some (.slice wq wl wc)) := fun X hb => by
      have r1 : Boxed X (w.heap.size + 2) 3 (.int .i64 (m : Nat)) := (hb.block _ a1.lt (by simp)).trans a1
      have r2 : Boxed X w.heap.size 39 (.slice wq wl wc) := (hb.block _ bWA.lt (by simp)).trans bWA
      exact ⟨r1.cell, r2.cell⟩
    have HCt : Hid (Calls Try.prog 26 #[.pointer (some ⟨L, 0, none⟩)] A.drew fun e w' => e = .returned (.int .i64 (m : Nat)) ∧ w' = A.drew) := by
      have hA := HSt.out.later a6
      have := (hA.log.1.cell (i := 5) rfl)
      rw [hrecs, hmm] at this
      exact count_at this
    have HEnd : Hid (∀ (b : Bool) A' o, (A.setCell ⟨w.heap.size + 1, 0, none⟩ (.bool b)).drew = A' → A'.heap[D]? = some (.deferred (some [])) ∧ Row (A'.putObj D o) (w.heap.size + 1) 4 [.bool b] ∧ Below w.heap.size w (A'.putObj D o)) := fun b A' o e => by
      have hbA : Buts [w.heap.size + 1] A.heap.size A A' := by rw [← e]; exact ((Buts.refl _ _ A).set (by simp) 0 _).drew
      have hDl := (Array.getElem?_eq_some_iff.1 hKD).1
      have hr' := (a2.set 0 (.bool b)).drew
      rw [e] at hr'
      refine ⟨(hbA.block D hDl (by simp; omega)).trans hKD, (World.putObj_heap_other (by omega)).trans hr', ?_⟩
      exact (a6.trans (hbA.below (by omega) (by simp))).trans (below_putObj _ _ (by omega))
    by_cases hmw : m = wl
    · obtain rfl : bE = true := by rw [← HBE.out]; exact decide_eq_true (by rw [a3, List.take_of_length_le (by omega)])
      subst hmw
      clear a1 a2 a3 a4 a5 a6 hKD bWA
      gi_wp2
      refine wpIn_region_on_wide (S := fun W' => Buts [w.heap.size + 1] A.heap.size A W') (by kernel_rfl) (by kernel_rfl) (Buts.refl _ _ _).drew (fun hHeld => ?_)
      refine wpAnyH_takesAt 0 6 5 (of_decide_eq_true (by kernel_rfl)) rfl (fun _ _ _ d _ h => by cases d <;> exact h) (by kernel_rfl) (by kernel_rfl) hHeld ?_
      simp only [List.drop_zero, List.take_succ_cons, List.take_zero]
      iterate 6 (refine wpHeld_step (v := ?_) (by rfl) (fun wz hSw => ?_) ?_; rotate_left; (focus ((obtain ⟨hf1, hf2⟩ := HF.out wz hSw; clear hSw); go_simp; try with_reducible rfl)); (simp only [Act.put, List.setIfInBounds_toArray, List.set_cons_zero, List.set_cons_succ]))
      refine wpHeld_nil ?_
      refine wpAnyH_takesAt 7 1 4 (of_decide_eq_true (by kernel_rfl)) rfl (fun _ _ _ d _ h => by cases d <;> exact h) (by kernel_rfl) (by kernel_rfl) hHeld ?_
      simp only [List.drop_succ_cons, List.drop_zero, List.take_succ_cons, List.take_zero]
      iterate 1 (refine wpHeld_step (v := ?_) (by rfl) (fun wz hSw => ?_) ?_; rotate_left; (focus ((obtain ⟨hf1, hf2⟩ := HF.out wz hSw; clear hSw); go_simp; try with_reducible rfl)); ((simp only [Act.put]; (try simp only [List.setIfInBounds_toArray]); (try simp only [List.set_cons_succ]); (try simp only [List.set_cons_zero]))))
      refine wpHeld_nil ?_
      refine wpAnyH_only (i := 6) (by kernel_rfl) rfl (fun K hK => ?_)
      rw [if_pos (by rfl)]
      go_simp
      refine HCt.out.mono ?_
      rintro e wq' ⟨rfl, hwq'⟩
      obtain rfl := hwq'.symm
      clear hwq'
      refine hK.out _ _ hHeld ?_
      clear hK K
      refine wpAnyH_takesAt 8 2 1 (of_decide_eq_true (by kernel_rfl)) rfl (fun _ _ _ d _ h => by cases d <;> exact h) (by kernel_rfl) (by kernel_rfl) hHeld ?_
      simp only [List.drop_succ_cons, List.drop_zero, List.take_succ_cons, List.take_zero]
      iterate 2 (refine wpHeld_step (v := ?_) (by rfl) (fun wz hSw => ?_) ?_; rotate_left; (focus ((try dsimp only at hSw); go_simp; try with_reducible rfl)); (simp only [Act.put, List.setIfInBounds_toArray, List.set_cons_zero, List.set_cons_succ]))
      refine wpHeld_nil ?_
      refine wpAnyH_only (i := 10) (by kernel_rfl) rfl (fun K hK => ?_)
      rw [if_pos (by rfl)]
      go_simp
      refine hK.out _ _ ((Buts.refl _ _ A).set (by simp) 0 _).drew ?_
      clear hK K
      refine wpAnyH_done (by kernel_rfl) ?_ _
      refine OnOnly.on ?_
      obtain ⟨A', hA'⟩ : ∃ A', (A.setCell ⟨w.heap.size + 1, 0, none⟩ (.bool true)).drew = A' := ⟨_, rfl⟩
      rw [hA']
      have HE : Hid (∀ o, _) := fun o => HEnd.out true A' o hA'
      have hKF := (HE.out (.deferred none)).1
      clear hA' hHeld hc4 hf4
      gi_wp2
      refine ⟨by simp, .inl ⟨_, _, rfl, run_takeDeferred hKF, ?_⟩⟩
      obtain ⟨_, e2, e3⟩ := HE.out (.deferred none)
      exact ⟨_, results_bool rfl rfl e2, rfl, e3⟩
    · obtain rfl : bE = false := by rw [← HBE.out]; exact decide_eq_false (fun e => hmw (by rw [← hmm, e, hwl]))
      have hmi : ¬ ((m : Nat) : Int) = (wl : Nat) := by omega
      have hmi2 : (((m : Nat) : Int) == (wl : Nat)) = false := by simpa using hmi
      clear a1 a2 a3 a4 a5 a6 hKD bWA
      gi_wp2
      refine wpIn_region_on_wide (S := fun W' => Buts [w.heap.size + 1] A.heap.size A W') (by kernel_rfl) (by kernel_rfl) (Buts.refl _ _ _).drew (fun hHeld => ?_)
      refine wpAnyH_takesAt 0 5 6 (of_decide_eq_true (by kernel_rfl)) rfl (fun _ _ _ d _ h => by cases d <;> exact h) (by kernel_rfl) (by kernel_rfl) hHeld ?_
      simp only [List.drop_zero, List.take_succ_cons, List.take_zero]
      iterate 5 (refine wpHeld_step (v := ?_) (by rfl) (fun wz hSw => ?_) ?_; rotate_left; (focus ((obtain ⟨hf1, hf2⟩ := HF.out wz hSw; clear hSw); go_simp; try with_reducible rfl)); (simp only [Act.put, List.setIfInBounds_toArray, List.set_cons_zero, List.set_cons_succ]))
      refine wpHeld_nil ?_
      refine wpAnyH_takesAt 5 4 2 (of_decide_eq_true (by kernel_rfl)) rfl (fun _ _ _ d _ h => by cases d <;> exact h) (by kernel_rfl) (by kernel_rfl) hHeld ?_
      simp only [List.drop_succ_cons, List.drop_zero, List.take_succ_cons, List.take_zero]
      iterate 4 (refine wpHeld_skip (by rfl) ?_; (simp only [Act.put]; (try simp only [List.setIfInBounds_toArray]); (try simp only [List.set_cons_succ]); (try simp only [List.set_cons_zero])))
      refine wpHeld_nil ?_
      refine wpAnyH_takesAt 9 1 1 (of_decide_eq_true (by kernel_rfl)) rfl (fun _ _ _ d _ h => by cases d <;> exact h) (by kernel_rfl) (by kernel_rfl) hHeld ?_
      simp only [List.drop_succ_cons, List.drop_zero, List.take_succ_cons, List.take_zero]
      iterate 1 (refine wpHeld_step (v := ?_) (by rfl) (fun wz hSw => ?_) ?_; rotate_left; (focus ((try dsimp only at hSw); go_simp; try with_reducible rfl)); ((simp only [Act.put]; (try simp only [List.setIfInBounds_toArray]); (try simp only [List.set_cons_succ]); (try simp only [List.set_cons_zero]))))
      refine wpHeld_nil ?_
      refine wpAnyH_only (i := 10) (by kernel_rfl) rfl (fun K hK => ?_)
      rw [if_pos (by rfl)]
      go_simp
      refine hK.out _ _ ((Buts.refl _ _ A).set (by simp) 0 _).drew ?_
      clear hK K
      refine wpAnyH_done (by kernel_rfl) ?_ _
      refine OnOnly.on ?_
      obtain ⟨A', hA'⟩ : ∃ A', (A.setCell ⟨w.heap.size + 1, 0, none⟩ (.bool false)).drew = A' := ⟨_, rfl⟩
      rw [hA']
      have HE : Hid (∀ o, _) := fun o => HEnd.out false A' o hA'
      have hKF := (HE.out (.deferred none)).1
      clear hA' hHeld hc4 hf4
      gi_wp2
      refine ⟨by simp, .inl ⟨_, _, rfl, run_takeDeferred hKF, ?_⟩⟩
      obtain ⟨_, e2, e3⟩ := HE.out (.deferred none)
      exact ⟨_, results_bool rfl rfl e2, rfl, e3⟩
  case stop =>
    rintro D c pre A hD _ ⟨rfl, a2, a3, a4⟩ hKD
    gi_wp2
    refine ⟨by simp, .inl ⟨_, _, rfl, run_takeDeferred hKD, ?_⟩⟩
    have hrE : Row (A.putObj D (.deferred none)) (w.heap.size + 1) 4 [.bool false] := (World.putObj_heap_other (by omega)).trans a2
    refine ⟨_, results_bool rfl rfl hrE, ?_⟩
    obtain rfl : bE = false := by rw [← HBE.out]; exact decide_eq_false a3
    exact ⟨rfl, a4.trans (below_putObj A _ (by omega))⟩
theorem same_any {F : List Nat} {n₀ : Nat} {w : World} {L p g : Nat} {v : Value} {d : St} {l : Lg} (h : MSt F n₀ w L p g v d l) (hrl : l.recs.length ≤ 100000) (hl4 : ∀ z ∈ l.recs, z.length ≤ 300000) (wq : Option Addr) (wl wc : Nat) (want : List (List Nat)) (hW : WantAt w wq wl wc want) :
    Calls Try.prog 14 #[.pointer (some ⟨L, 0, none⟩), .slice wq wl wc] w fun e w' => e = .returned (.bool (decide (l.recs = want))) ∧ Below w.heap.size w w' :=
  callsIn_wide.1 (same_in 8 (Nat.le_refl _) h hrl hl4 wq wl wc want hW)
end Go.Proofs.Ytifjkkfienmdjaa
/-
  What came in as an argument: a list of records, a crash.
-/
namespace Go.Proofs.Ytifjkkfienmdjaa
open Go.ChangeShapes Go.WideShapes Go.ChangeAt Go.RowKit

set_option maxRecDepth 100000 in
theorem listS_of {α : Type} {d : α} {Q : Nat → α → Prop} : ∀ (n : Nat), (∀ i, i < n → ∃ t, Q i t) → ∃ ts : List α, ts.length = n ∧ ∀ i, i < n → Q i (ts.getD i d)
  | 0, _ => ⟨[], rfl, fun i hi => by omega⟩
  | n + 1, h => by
    obtain ⟨ts, hl, ht⟩ := listS_of n (fun i hi => h i (by omega))
    obtain ⟨t, hq⟩ := h n (by omega)
    refine ⟨ts ++ [t], by simp [hl], fun i hi => ?_⟩
    by_cases h1 : i < n
    · rw [show (ts ++ [t]).getD i d = ts.getD i d by simp [List.getElem?_append_left (show i < ts.length by omega)]]
      exact ht i h1
    · obtain rfl : i = n := by omega
      rw [show (ts ++ [t]).getD i d = t by simp [← hl]]
      exact hq
set_option maxRecDepth 100000 in
theorem crS_of_trod {H : Type} {enc : TypeId × Value → H} {W : World} {fuel : Nat} {cs : List Value} {x : DataW H × List MemPlace} (hf : DataW.trod enc Try.prog W 0 (fun _ => true) true fuel 45 cs = some x) :
    ∃ c : Int × Int, cs = [.int .i64 c.1, .int .i64 c.2] := by
  have c3 : Try.prog.cellsOf 3 = 1 := by kernel_rfl
  have c45 : Try.prog.cellsOf 45 = 2 := by kernel_rfl
  obtain ⟨xs, n, _, _, hlen, hn, hel⟩ := DataW.trod_struct Try.underlying45 hf
  have hn : xs.length = 2 := hn
  rw [c45] at hlen
  have h0 : DataW.trod enc Try.prog W 0 (fun _ => true) true n 3 ((cs.drop 0).take (Try.prog.cellsOf 3)) = xs[0]? := hel 0 _ rfl
  rw [c3, List.getElem?_eq_getElem (by omega)] at h0
  have h1 : DataW.trod enc Try.prog W 0 (fun _ => true) true n 3 ((cs.drop 1).take (Try.prog.cellsOf 3)) = xs[1]? := hel 1 _ rfl
  rw [c3, List.getElem?_eq_getElem (by omega)] at h1
  obtain ⟨z0, e0, _, w0⟩ := DataW.trod_int Try.underlying3 h0
  obtain ⟨z1, e1, _, w1⟩ := DataW.trod_int Try.underlying3 h1
  have cut : ∀ k m, cs.drop k = (cs.drop k).take m ++ cs.drop (k + m) := fun k m => by
    rw [← List.drop_drop, List.take_append_drop]
  refine ⟨(z0, z1), ?_⟩
  have f : cs = cs.drop 0 := rfl
  rw [f, cut 0 1, e0, cut (0 + 1) 1, e1, List.drop_of_length_le (by omega)]
  rfl
theorem open_crash {H : Type} {enc : TypeId × Value → H} {W : World} {base : Nat} {v : Value} {x : DataW H} {p : List MemPlace} (hv : Value.okWide Try.prog W .any base 45 v) (h : ∃ fuel, DataW.trod enc Try.prog W 0 (fun _ => true) true fuel 45 v.cells.toList = some (x, p)) :
    ∃ ca ck : Int, v = .agg #[.int .i64 ca, .int .i64 ck] := by
  obtain ⟨cs, rfl, hs⟩ : ∃ cs, v = .agg cs ∧ cs.size = Try.prog.cellsOf 45 := by
    simp only [Value.okWide, Try.underlying45] at hv
    obtain ⟨cs, e1, e2, _⟩ := hv
    exact ⟨cs, e1, e2⟩
  obtain ⟨fuel, hf⟩ := h
  obtain ⟨l, he⟩ := crS_of_trod hf
  refine ⟨l.1, l.2, ?_⟩
  cases cs
  simp only [Value.cells] at he
  rw [← he]
theorem bytesS_of_trod {H : Type} {enc : TypeId × Value → H} {W : World} {fuel : Nat} {cs : List Value} {x : DataW H × List MemPlace} (hf : DataW.trod enc Try.prog W 0 (fun _ => true) true fuel 25 cs = some x) :
    ∃ a len cap zs, cs = [.slice a len cap] ∧ IsBytes W.heap.size W a len cap zs := by
  rcases open_ints Try.underlying25 Try.underlying5 (by kernel_rfl) hf with ⟨hcs, _⟩ | ⟨y, len, cap, zs, hcs, _, hl, hm, hz, _, hcell, hwz⟩
  · exact ⟨_, _, _, [], hcs, rfl, Nat.le_refl _, by omega, by simp, .inl rfl⟩
  · have hz' : zs.length = cap := by simpa using hz
    refine ⟨_, _, _, (zs.take len).map Int.toNat, hcs, by simp; omega, hl, by simpa only [maxLen] using hm, ?_, ?_⟩
    · intro z hz'
      obtain ⟨n, hn, rfl⟩ := List.mem_map.1 hz'
      have := bounds_u8 (hwz n (List.mem_of_mem_take hn))
      omega
    · by_cases h0 : len = 0
      · exact .inl h0
      · obtain ⟨b, off, spot⟩ := y
        have hc0 := hcell 0 (by omega)
        have hspot : spot = none := by simpa [Addr.add] using World.cell?_spot hc0
        subst hspot
        refine .inr ⟨b, off, rfl, ?_, fun i hi => ?_⟩
        · rw [Addr.add_mid] at hc0
          exact World.block_lt_of_cell? W _ hc0
        · have hi' : i < zs.length := by omega
          have h1 := hcell i hi'
          rw [Addr.add_mid] at h1
          rw [h1]
          have hb := bounds_u8 (hwz zs[i] (List.getElem_mem hi'))
          simp [List.getElem?_eq_getElem hi', hi]
          omega

theorem cells25 : Try.prog.cellsOf 25 = 1 := by kernel_rfl
/-- A list of records that came in. -/
theorem open_recs {H : Type} {enc : TypeId × Value → H} {W : World} {base : Nat} {v : Value} {x : DataW H} {p : List MemPlace} (hv : Value.okWide Try.prog W .any base 39 v) (h : ∃ fuel, DataW.trod enc Try.prog W 0 (fun _ => true) true fuel 39 v.cells.toList = some (x, p)) :
    ∃ a len cap ts, v = .slice a len cap ∧ WantAt W a len cap ts := by
  obtain ⟨a, len, cap, rfl⟩ := okWide_slice Try.underlying39 hv
  obtain ⟨fuel, hf⟩ := h
  rcases DataW.trod_slice Try.underlying39 hf with ⟨hcs, _⟩ | ⟨y, l, c, elems, rest, n, _, hcs, _, _, hl, hm, hlen, hel, _, _⟩
  · simp [Value.cells] at hcs
    obtain ⟨rfl, rfl, rfl⟩ := hcs
    exact ⟨_, _, _, [], rfl, rfl, Nat.le_refl _, by omega, by simp, .inl rfl⟩
  · simp [Value.cells] at hcs
    obtain ⟨rfl, rfl, rfl⟩ := hcs
    have hm' : cap ≤ 9223372036854775807 := by simpa only [maxLen] using hm
    have key : ∀ i, i < len → ∃ t q l c, W.cell? (y.add i) = some (.slice q l c) ∧ IsBytes W.heap.size W q l c t := by
      intro i hi
      have h0 := hel i hi
      rw [cells25, Nat.mul_one, List.getElem?_eq_getElem (by omega : i < elems.length)] at h0
      obtain ⟨cs, hc, ht⟩ := Option.bind_eq_some_iff.1 h0
      obtain ⟨a', l', c', zs, rfl, hI⟩ := bytesS_of_trod ht
      exact ⟨zs, a', l', c', cell_of_cells?_one hc, hI⟩
    by_cases h0 : len = 0
    · subst h0
      exact ⟨_, _, _, [], rfl, rfl, hl, hm', by simp, .inl rfl⟩
    · obtain ⟨b, off, spot⟩ := y
      obtain ⟨_, _, _, _, hc0, _⟩ := key 0 (by omega)
      have hspot : spot = none := by simpa [Addr.add] using World.cell?_spot hc0
      subst hspot
      rw [Addr.add_mid] at hc0
      obtain ⟨ts, htl, hts⟩ := listS_of (d := []) (Q := fun i t => ∃ q l c, W.cell? ⟨b, off + i, none⟩ = some (.slice q l c) ∧ IsBytes W.heap.size W q l c t) len (fun i hi => by
        obtain ⟨t, q, l, c, h1, h2⟩ := key i hi
        rw [Addr.add_mid] at h1
        exact ⟨t, q, l, c, h1, h2⟩)
      refine ⟨_, _, _, ts, rfl, htl, hl, hm', fun z hz => ?_, .inr ⟨b, off, rfl, World.block_lt_of_cell? W _ hc0, hts⟩⟩
      obtain ⟨i, hi, e⟩ := List.getElem_of_mem hz
      obtain ⟨_, _, _, _, hI⟩ := hts i (by omega)
      rw [List.getD_eq_getElem?_getD, List.getElem?_eq_getElem hi, Option.getD_some, e] at hI
      exact hI.2.2.2.1
end Go.Proofs.Ytifjkkfienmdjaa
/-
  A row of slices of bytes that were handed in; what appending does to a log's numbers.
-/
namespace Go.Proofs.Ytifjkkfienmdjaa
open Go.RowKit Go.Shelf

abbrev Sl := Option Addr × Nat × Nat
def slV (x : Sl) : Value := .slice x.1 x.2.1 x.2.2
/-- A row of one's own, of slices. -/
def SlAt (n₀ : Nat) (W : World) (v : Value) (xs : List Sl) : Prop := W.ownsRow n₀ 25 1 v xs.length (xs.map slV)
theorem SlAt.nil (n₀ : Nat) (W : World) : SlAt n₀ W (.slice none 0 0) [] := World.ownsRow_nil _ _ _ _
theorem SlAt.slice {n₀ : Nat} {W : World} {v : Value} {xs : List Sl} (h : SlAt n₀ W v xs) : ∃ q c, v = .slice q xs.length c := slice_of_row h
theorem SlAt.own {n₀ : Nat} {W : World} {v : Value} {xs : List Sl} (h : SlAt n₀ W v xs) {k : Nat} (hk : v.ownBlock = some k) : n₀ ≤ k ∧ k < W.heap.size ∧ ∃ c fr, W.heap[k]? = some (Obj.cells c 25 fr) := ⟨(World.ownsRow.lt h k hk).1, (World.ownsRow.lt h k hk).2, row_tag h k hk⟩
theorem run_append_sl (w : World) (n₀ : Nat) (ty : TypeId) (v : Value) (xs : List Sl) (h : SlAt n₀ w v xs) (a : Addr) (c : Nat) (ys : List Sl) (hn : ∀ j, j < ys.length → w.cell? (a.add j) = some (slV (ys.getD j (none, 0, 0)))) (hlen : xs.length + ys.length ≤ 100000) (hbase : n₀ ≤ w.heap.size) :
    ∃ v' w', (Builtin.append_ #[39, 39] ty #[v, .slice (some a) ys.length c]).run Try.prog w = .ok v' w' ∧ SlAt n₀ w' v' (xs ++ ys) ∧ w.grownBy w' v.ownBlock ∧ KeepT 5 w w' ∧ (v'.ownBlock = v.ownBlock ∨ v'.ownBlock = some w.heap.size) := by
  obtain ⟨i0, hi, hz0, hz1, hz2⟩ := info_parts info25
  obtain ⟨v', w', hr, ho, hg, _, hb⟩ := run_append_own_at (P := Try.prog) w n₀ 39 ty 25 i0 _ 1 24 Try.underlying39 hi hz0 hz1 hz2 (by simp [Value.cells]) (by omega) v xs.length (xs.map slV) h a ys.length c (ys.map slV) (by simp) (fun j u hu => by
    have hj : j < ys.length := by
      have := (List.getElem?_eq_some_iff.1 hu).1
      simpa using this
    rw [hn j hj]
    rw [List.getElem?_map, List.getElem?_eq_getElem hj] at hu
    simp at hu
    rw [← hu, List.getD_eq_getElem?_getD, List.getElem?_eq_getElem hj]
    rfl) (fun u hu => by
    obtain ⟨x, _, rfl⟩ := List.mem_map.1 hu
    rfl) (by simp only [maxLen]; omega) (by omega) hbase
  refine ⟨v', w', hr, ?_, hg, KeepT.row (t := 5) hg h (by decide), hb⟩
  show w'.ownsRow n₀ 25 1 v' (xs ++ ys).length ((xs ++ ys).map slV)
  rw [List.length_append, List.map_append]
  exact ho
/-- Read as a list of records. -/
theorem SlAt.want {n₀ : Nat} {W : World} {q : Option Addr} {len c : Nat} {xs : List Sl} {ts : List (List Nat)} (h : SlAt n₀ W (.slice q len c) xs) (hl : ts.length = xs.length) (hx : ∀ i, i < xs.length → IsBytes W.heap.size W (xs.getD i (none, 0, 0)).1 (xs.getD i (none, 0, 0)).2.1 (xs.getD i (none, 0, 0)).2.2 (ts.getD i [])) : WantAt W q len c ts := by
  obtain ⟨q', c', e⟩ := h.slice
  cases e
  have hz : ∀ z ∈ ts, ∀ y ∈ z, y < 256 := fun z hz => by
    obtain ⟨i, hi, e⟩ := List.getElem_of_mem hz
    have hI := hx i (by omega)
    rw [List.getD_eq_getElem?_getD (l := ts), List.getElem?_eq_getElem hi, Option.getD_some, e] at hI
    exact hI.2.2.2.1
  rcases h.2 with ⟨e, h0⟩ | ⟨g, cap, cur, e, hbg, hg, hnc, hcm, hcs, ht⟩
  · injection e with e1 e2 e3
    exact ⟨hl, by omega, by omega, hz, .inl e2⟩
  · injection e with e1 e2 e3
    subst e1 e3
    refine ⟨hl, by omega, by simp only [maxLen] at hcm; omega, hz, .inr ⟨g, 0, rfl, (Array.getElem?_eq_some_iff.1 hg).1, fun i hi => ?_⟩⟩
    refine ⟨_, _, _, ?_, hx i hi⟩
    have := World.ownsRow.cellAt h i (by simpa using hi)
    rw [Nat.zero_add, this, List.getElem?_map, List.getElem?_eq_getElem hi, List.getD_eq_getElem?_getD, List.getElem?_eq_getElem hi]
    rfl
end Go.Proofs.Ytifjkkfienmdjaa
/-
  All records that were answered with OK are found behind a crash: the law's walk.
-/
namespace Go.Proofs.Ytifjkkfienmdjaa
open Go.RowKit Go.Shelf

theorem lists_of_want {W : World} {q : Option Addr} {len cap : Nat} {want : List (List Nat)} (h : WantAt W q len cap want) : ∃ vs : List Sl, IsLists W.heap.size W q len cap vs ∧ vs.length = want.length ∧ ∀ i, i < len → IsBytes W.heap.size W (vs.getD i (none, 0, 0)).1 (vs.getD i (none, 0, 0)).2.1 (vs.getD i (none, 0, 0)).2.2 (want.getD i []) := by
  obtain ⟨h1, h2, h3, h4, h5⟩ := h
  rcases h5 with h5 | ⟨b, off, rfl, hb, hc⟩
  · subst h5
    exact ⟨[], ⟨rfl, h2, h3, .inl rfl⟩, h1.symm, fun i hi => by omega⟩
  · have key : ∀ n, n ≤ len → ∃ vs : List Sl, vs.length = n ∧ ∀ i, i < n → W.cell? ⟨b, off + i, none⟩ = some (.slice (vs.getD i (none, 0, 0)).1 (vs.getD i (none, 0, 0)).2.1 (vs.getD i (none, 0, 0)).2.2) ∧ IsBytes W.heap.size W (vs.getD i (none, 0, 0)).1 (vs.getD i (none, 0, 0)).2.1 (vs.getD i (none, 0, 0)).2.2 (want.getD i []) := by
      intro n
      induction n with
      | zero => exact fun _ => ⟨[], rfl, fun i hi => by omega⟩
      | succ n ih =>
        intro hn
        obtain ⟨vs, hl, hv⟩ := ih (by omega)
        obtain ⟨qx, lx, cx, e1, e2⟩ := hc n (by omega)
        refine ⟨vs ++ [(qx, lx, cx)], by simp [hl], fun i hi => ?_⟩
        by_cases hin : i < n
        · have e : (vs ++ [((qx, lx, cx) : Sl)]).getD i (none, 0, 0) = vs.getD i (none, 0, 0) := by rw [List.getD_eq_getElem?_getD, List.getElem?_append_left (by omega), List.getD_eq_getElem?_getD]
          rw [e]
          exact hv i hin
        · obtain rfl : i = n := by omega
          have e : (vs ++ [((qx, lx, cx) : Sl)]).getD i (none, 0, 0) = (qx, lx, cx) := by rw [← hl]; simp
          rw [e]
          exact ⟨e1, e2⟩
    obtain ⟨vs, hl, hv⟩ := key len (Nat.le_refl _)
    exact ⟨vs, ⟨hl, h2, h3, .inr ⟨b, off, rfl, hb, fun i hi => (hv i hi).1⟩⟩, by omega, fun i hi => (hv i hi).2⟩
theorem crLow_w {F : List Nat} {W : World} {p g : Nat} {d : St} (h : DiskAt F W p g d) : CrLow W.heap.size W p 4 := by
  intro q len cap hc
  obtain ⟨h1, h2, h3, h4, h5, q', len', cap', h6, h7⟩ := h
  rw [h6.cell (i := 4) rfl] at hc
  cases hc
  rcases h7.2.2.2 with h | ⟨b, off, e, hl, _⟩
  · exact .inl h
  · exact .inr ⟨b, off, e, hl⟩
theorem SlAt.frame {n₀ : Nat} {W W' : World} {v : Value} {xs : List Sl} (h : SlAt n₀ W v xs) (hv : ∀ k, v.ownBlock = some k → W'.heap[k]? = W.heap[k]?) : SlAt n₀ W' v xs := by
  refine ⟨h.1, ?_⟩
  rcases h.2 with h0 | ⟨g, cap, cur, rfl, hbg, hg, hr⟩
  · exact .inl h0
  · exact .inr ⟨g, cap, cur, rfl, hbg, (hv g rfl).trans hg, hr⟩
theorem appL_nums {d : St} {l : Lg} {b : List Nat} (hb : b.length ≤ 400) (hp : l.pos ≤ l.n) : (appL d l b).2.1.wr ≤ d.wr + 20 ∧ (appL d l b).2.2.pos ≤ (appL d l b).2.2.n ∧ (appL d l b).2.2.recs.length ≤ l.recs.length + 1 := by
  have hsp := spanN_nat (n := b.length) (by omega)
  have hw := doW_wr (writesOf l.f l.n l.pos l.gen l.recs.length b) d
  have hl := writesOf_len l.f l.n l.pos l.gen l.recs.length b
  unfold appL
  split
  · exact ⟨by show d.wr ≤ _; omega, hp, by show l.recs.length ≤ _; omega⟩
  · split
    · exact ⟨by show d.wr ≤ _; omega, hp, by show l.recs.length ≤ _; omega⟩
    · split
      · exact ⟨by show d.wr ≤ _; omega, hp, by show l.recs.length ≤ _; omega⟩
      · split
        · exact ⟨by show (doW d _).2.wr ≤ _; omega, hp, by show l.recs.length ≤ _; omega⟩
        · refine ⟨by show (doW d _).2.wr ≤ _; omega, ?_, ?_⟩
          · show l.pos + spanN (b.length : Nat) ≤ l.n
            omega
          · show (l.recs ++ [b]).length ≤ _
            rw [List.length_append, List.length_singleton]
            omega
theorem scan_okW (ss : List (List Nat)) (f n gen : Nat) : ∀ (fuel at_ : Nat) (recs : List (List Nat)), at_ ≤ n → recs.length ≤ at_ → (∀ z ∈ recs, z.length ≤ 262144) →
    (scan ss f n gen fuel at_ recs).1 ≤ n ∧ (scan ss f n gen fuel at_ recs).2.length ≤ (scan ss f n gen fuel at_ recs).1 ∧ ∀ z ∈ (scan ss f n gen fuel at_ recs).2, z.length ≤ 262144
  | 0, at_, recs, h1, h2, h3 => ⟨h1, h2, h3⟩
  | fuel + 1, at_, recs, h1, h2, h3 => by
    rw [scan]
    by_cases hn : n ≤ at_
    · rw [if_pos hn]
      exact ⟨h1, h2, h3⟩
    · rw [if_neg hn]
      by_cases hc : (ss.getD (f + at_) []).drop 55 ≠ markL gen recs.length ∨ 262144 < numFrom (ss.getD (f + at_) []) 0 4 ∨ n - at_ < spanN (numFrom (ss.getD (f + at_) []) 0 4)
      · rw [if_pos hc]
        exact ⟨h1, h2, h3⟩
      · rw [if_neg hc]
        have c2 : numFrom (ss.getD (f + at_) []) 0 4 ≤ 262144 := Nat.not_lt.1 (fun h => hc (.inr (.inl h)))
        have c3 : spanN (numFrom (ss.getD (f + at_) []) 0 4) ≤ n - at_ := Nat.not_lt.1 (fun h => hc (.inr (.inr h)))
        have c4 := spanN_nat c2
        refine scan_okW ss f n gen fuel _ _ (by omega) (by rw [List.length_append, List.length_singleton]; omega) (fun z hz => ?_)
        rcases List.mem_append.1 hz with h | h
        · exact h3 z h
        · rw [List.mem_singleton] at h
          subst h
          rw [recB, List.length_take]
          omega
theorem run_append_nn (W : World) : (Builtin.append_ #[39, 39] 39 #[.slice none 0 0, .slice none 0 0]).run Try.prog W = .ok (.slice none 0 0) W := by
  first
    | rfl
    | (simp [Builtin.append_]; done)
    | (go_simp; done)
theorem run_append_all {n₀ : Nat} {W : World} {dq : Option Addr} {dc : Nat} {xs : List Sl} (h : SlAt n₀ W (.slice dq xs.length dc) xs) (hl : xs.length ≤ 1000) : ∃ q c W', (Builtin.append_ #[39, 39] 39 #[.slice none 0 0, .slice dq xs.length dc]).run Try.prog W = .ok (.slice q xs.length c) W' ∧ SlAt W.heap.size W' (.slice q xs.length c) xs ∧ Below W.heap.size W W' := by
  rcases h.2 with ⟨e, h0⟩ | ⟨g, cap, cur, e, hr⟩
  · injection e with e1 e2 e3
    have hx : xs = [] := List.eq_nil_of_length_eq_zero e2
    subst e1 e3 hx
    exact ⟨none, 0, W, run_append_nn W, SlAt.nil _ _, Below.refl _ _⟩
  · injection e with e1 e2 e3
    subst e1
    obtain ⟨v', W', a1, a2, a3, _, _⟩ := run_append_sl W W.heap.size 39 (.slice none 0 0) [] (SlAt.nil _ _) ⟨g, 0, none⟩ dc xs (fun j hj => by
      have := World.ownsRow.cellAt h j (by simpa using hj)
      rw [Addr.add_mid, Nat.zero_add, this, List.getElem?_map, List.getElem?_eq_getElem hj, List.getD_eq_getElem?_getD, List.getElem?_eq_getElem hj]
      rfl) (by simp; omega) (Nat.le_refl _)
    rw [List.nil_append] at a2
    obtain ⟨q, c, e⟩ := a2.slice
    subst e
    exact ⟨q, c, W', a1, a2, a3.os, a3.tape, a3.output, a3.size, fun k hk => a3.block k hk (by simp [Value.ownBlock])⟩
theorem run_both {n₀ : Nat} {W : World} {dq : Option Addr} {dc : Nat} {xs : List Sl} (h : SlAt n₀ W (.slice dq xs.length dc) xs) (hl : xs.length ≤ 1000) (qx : Option Addr) (lx cx : Nat) : ∃ q1 c1 W1 q2 c2 W2, (Builtin.append_ #[39, 39] 39 #[.slice none 0 0, .slice dq xs.length dc]).run Try.prog W = .ok (.slice q1 xs.length c1) W1 ∧ (Builtin.append_ #[39, 39] 39 #[.slice q1 xs.length c1, .slice (some ⟨W1.heap.size, 0, none⟩) 1 1]).run Try.prog (W1.alloc (.cells #[.slice qx lx cx] 25)) = .ok (.slice q2 (xs.length + 1) c2) W2 ∧ SlAt W.heap.size W2 (.slice q2 (xs.length + 1) c2) (xs ++ [(qx, lx, cx)]) ∧ Below W.heap.size W W2 := by
  obtain ⟨q1, c1, W1, r1, s1, b1⟩ := run_append_all h hl
  have hbA : Below W1.heap.size W1 (W1.alloc (.cells #[.slice qx lx cx] 25)) := (Below.refl _ _).alloc (Nat.le_refl _) _
  have hsz := b1.size
  have s1' : SlAt W.heap.size (W1.alloc (.cells #[.slice qx lx cx] 25)) (.slice q1 xs.length c1) xs := s1.frame (fun k hk => hbA.block k (s1.own hk).2.1)
  obtain ⟨v', W', a1, a2, a3, a4, a5⟩ := run_append_sl (W1.alloc (.cells #[.slice qx lx cx] 25)) W.heap.size 39 _ xs s1' ⟨W1.heap.size, 0, none⟩ 1 [(qx, lx, cx)] (fun i hi => by
    obtain rfl : i = 0 := by simpa using hi
    rw [Addr.add_mid]
    exact (Row.new W1 25 #[.slice qx lx cx]).cell (i := 0) rfl) (by simp; omega) (by simp; omega)
  obtain ⟨q2, c2, e⟩ := a2.slice
  rw [List.length_append, List.length_singleton] at e
  subst e
  refine ⟨q1, c1, W1, q2, c2, W', r1, a1, a2, (b1.trans (hbA.mono hsz)).trans ⟨a3.os, a3.tape, a3.output, a3.size, fun k hk => ?_⟩⟩
  refine a3.block k (by rw [World.size_alloc]; omega) (fun e => ?_)
  have := (s1'.own e.symm).1
  omega
theorem size45 : (Try.prog.info? 45).map (·.size) = some 2 := by kernel_rfl
theorem wrote_ok {d : St} {i : Nat} {s : List Nat} (h : d.wErr (i : Nat) = 0) : d.dead = false ∧ (d.write (i : Nat) s).dead = false ∧ (d.write (i : Nat) s).ss = d.ss.set i s ∧ (d.write (i : Nat) s).wr = d.wr + 1 := by
  have he : d.err (i : Nat) = 0 := by
    unfold St.wErr at h
    by_cases he : d.err (i : Nat) = 0
    · exact he
    · rw [if_pos he] at h; exact absurd h he
  have hst : d.strikes = false := by
    unfold St.wErr at h
    rw [if_neg (by simp [he])] at h
    cases hs : d.strikes with
    | false => rfl
    | true => rw [hs] at h; simp at h
  have hd := (err_zero he).1
  rw [write_eq_ok he hst]
  exact ⟨hd, hd, rfl, rfl⟩

set_option maxRecDepth 100000 in
set_option maxHeartbeats 8000000 in
theorem slogWhole_walk (q : Option Addr) (len cap : Nat) (zs : List Nat) (gen : Nat) (ql : Option Addr) (ll lc : Nat) (want : List (List Nat)) (ca ck : Int) (w : World) (hI : IsBytes w.heap.size w q len cap zs) (hgen : gen < 4294967296) (hW : WantAt w ql ll lc want) :
    Calls Try.prog 6 #[.slice q len cap, .int .u32 (gen : Nat), .slice ql ll lc, .agg #[.int .i64 ca, .int .i64 ck]] w fun e w' => e = .returned (.bool true) ∧ Below w.heap.size w w' := by
  obtain ⟨w1, hw1⟩ : ∃ w1, w.alloc (.cells #[.int .i64 ca, .int .i64 ck] 45) = w1 := ⟨_, rfl⟩
  have HW1 : Hid (w.alloc (.cells #[.int .i64 ca, .int .i64 ck] 45) = w1) := hw1
  have hb1 : Below w.heap.size w w1 := by rw [← hw1]; exact (Below.refl _ w).alloc (Nat.le_refl _) _
  have HR1 : Hid (Row w1 w.heap.size 45 [.int .i64 ca, .int .i64 ck]) := by rw [← hw1]; exact Row.new w 45 #[.int .i64 ca, .int .i64 ck]
  have HA : Hid (Calls Try.prog 8 #[] w1 fun e w' => e = .returned (.bool true) ∧ Below w1.heap.size w1 w') := awake_any w1
  obtain ⟨vs, hvs, hvl, hvb⟩ := lists_of_want hW
  have HVs : Hid (IsLists w.heap.size w ql ll lc vs) := hvs
  have HVb : Hid (∀ i, i < ll → IsBytes w.heap.size w (vs.getD i (none, 0, 0)).1 (vs.getD i (none, 0, 0)).2.1 (vs.getD i (none, 0, 0)).2.2 (want.getD i [])) := hvb
  have HWl : Hid (want.length = ll) := hW.1
  have HI : Hid (IsBytes w.heap.size w q len cap zs) := hI
  have HLn : Hid (zs.length = len) := hI.1
  have HZ : Hid (∀ z ∈ zs, z < 256) := hI.2.2.2.1
  have hlc := hI.2.1
  have hcc := hI.2.2.1
  have HFw : Hid (∀ W, Below w.heap.size w W → Calls Try.prog 16 #[.slice ql ll lc] W fun e w' => e = .returned (.bool (fewL vs)) ∧ w' = W) := fun W hb => few_any ql ll lc vs W (by
    obtain ⟨a1, a2, a3, a4⟩ := HVs.out
    refine ⟨a1, a2, a3, ?_⟩
    rcases a4 with h | ⟨b, off, e, hl, hc⟩
    · exact .inl h
    · exact .inr ⟨b, off, e, Nat.lt_of_lt_of_le hl hb.size, fun i hi => (hb.cell (p := ⟨b, off + i, none⟩) hl).trans (hc i hi)⟩)
  clear hw1 hvs hvb hI hW
  by_cases h4 : (4000 : Int) < (len : Int)
  · have g4 : decide ((4000 : Int) < (len : Int)) = true := decide_eq_true h4
    go_enter Try.func6, Try.ntmps6
    go_wp2_with (first
      | (rw [HW1.out])
      | (go_at_call 8; refine HA.out.mono ?_; rintro e w2 ⟨rfl, hb2⟩))
    go_ret
    exact ⟨rfl, hb1.trans (hb2.mono hb1.size)⟩
  have g4 : decide ((4000 : Int) < (len : Int)) = false := decide_eq_false h4
  by_cases hfew : fewL vs = true
  · have HN : Hid (∀ (W : World) (b : Nat), Row W b 45 [.int .i64 ca, .int .i64 ck] → Calls Try.prog 17 #[.int .i64 60, .slice (some ⟨b, 0, none⟩) 1 1] W fun e w' => ∃ p g, e = .returned (.pointer (some ⟨p, 0, none⟩)) ∧ W.heap.size ≤ p ∧ W.heap.size ≤ g ∧ DiskAt [p, g] w' p g (newS 60 [(ca, ck)]) ∧ Below W.heap.size W w') := fun W b hr => new_any 60 (cr := [(ca, ck)]) ⟨rfl, Nat.le_refl _, by omega, .inr ⟨b, 0, rfl, hr.lt, by simp, hr.range⟩⟩ (by omega)
    rw [hfew] at HFw
    have HFew : Hid (fewL vs = true) := hfew
    clear hfew
    go_enter Try.func6, Try.ntmps6
    go_wp2_with (first
      | (rw [HW1.out])
      | (go_at_call 8; refine HA.out.mono ?_; rintro e w2 ⟨rfl, hb2⟩; have hb02 : Below w.heap.size w w2 := hb1.trans (hb2.mono hb1.size); have HR2 : Hid (Row w2 w.heap.size 45 [.int .i64 ca, .int .i64 ck]) := HR1.out.later hb2)
      | (go_at_call 16; refine (HFw.out _ hb02).mono ?_; rintro e wq ⟨rfl, hwq⟩; obtain rfl := hwq.symm; clear hwq)
      | ((with_reducible show wpList _ _ _ (Oper.mk (some 32) (Op.load 45 (.tmp 7)) _ _ _ _ :: _) _ _); refine wpList_load_mid rfl 45 (.tmp 7) rfl w.heap.size 0 rfl [.int .i64 ca, .int .i64 ck] _ HR2.out.range Try.underlying45 rfl size45 ?_; simp only [Act.put, List.setIfInBounds_toArray, List.set_cons_zero, List.set_cons_succ])
      | (go_at_call 17; refine (HN.out _ w2.heap.size (Row.new w2 45 #[.int .i64 ca, .int .i64 ck])).mono ?_; rintro e w3 ⟨p, g, rfl, hp, hg, hD3, hb3⟩; have HD3 : Hid (DiskAt [p, g] w3 p g _) := hD3; clear hD3))
    have HB3 : Hid (Below w.heap.size w w3) := hb02.trans ((((Below.refl _ w2).alloc (Nat.le_refl _) _).trans (hb3.mono (by simp))).mono hb02.size)
    have hpw : w.heap.size ≤ p ∧ w.heap.size ≤ g := by
      rw [World.size_alloc] at hp hg
      have := hb02.size
      omega
    clear hp hg hb3
    go_loopw [10] (fun iv wr => ∃ (k : Nat) (d : St), k ≤ 60 ∧ iv = .int .i64 k ∧ DiskAt [p, g] wr p g d ∧ d.dead = false ∧ d.ss.length = 60 ∧ d.wr ≤ k ∧ Below w.heap.size w wr) (fun iv _ => 61 - (intOf iv).toNat)
    case atStart => exact ⟨0, newS 60 [(ca, ck)], by omega, rfl, HD3.out, rfl, by show (List.replicate (sizeS 60) zeros64).length = 60; rw [List.length_replicate]; decide, Nat.le_refl _, HB3.out⟩
    case round =>
      obtain ⟨k, d, hk60, rfl, hD, hdead, hd60, hwr, hbl⟩ := hrel
      have HD : Hid (DiskAt [p, g] wr p g d) := hD
      have HBl : Hid (Below w.heap.size w wr) := hbl
      clear hD hbl
      by_cases hlt : (k : Int) < 60
      · have g1 : decide ((k : Int) < 60) = true := decide_eq_true hlt
        by_cases hb64 : (64 : Int) * (k : Int) < (len : Int)
        · skip
          obtain ⟨bb, off, rfl, hbb, hcell⟩ : ∃ bb off, q = some ⟨bb, off, none⟩ ∧ bb < w.heap.size ∧ ∀ i, i < len → w.cell? ⟨bb, off + i, none⟩ = some (.int .u8 (zs.getD i 0 : Nat)) := by
            rcases HI.out.2.2.2.2 with h | h
            · omega
            · exact h
          obtain ⟨w5, HW5, hb5, hs5, hr5⟩ := new29 wr
          have HR5 : Hid (Row w5 wr.heap.size 55 (u8s zeros64)) := hr5
          have HSrc : Hid (∀ W, Below w.heap.size w W → ∀ j v, (u8s ((zs.drop (64 * k)).take 64))[j]? = some v → W.cell? ((⟨bb, off + 64 * k, none⟩ : Addr).add j) = some v) := fun W hb j v hj => by
            have hjl := (List.getElem?_eq_some_iff.1 hj).1
            rw [u8s_length, List.length_take, List.length_drop, HLn.out] at hjl
            obtain ⟨c, t, fr, e1, e2⟩ := cells_of_cell (hcell (64 * k + j) (by omega))
            have e3 := (hb.block bb hbb).trans e1
            have e4 : W.cell? ⟨bb, off + (64 * k + j), none⟩ = some (.int .u8 (zs.getD (64 * k + j) 0 : Nat)) := by simp [World.cell?, e3, e2]
            rw [Addr.add_mid, show off + 64 * k + j = off + (64 * k + j) by omega, e4, ← hj, u8s_at (by rw [List.length_take, List.length_drop, HLn.out]; omega)]
            rw [List.getD_eq_getElem?_getD (l := List.take _ _), List.getElem?_take, if_pos (by omega), List.getElem?_drop, ← List.getD_eq_getElem?_getD]
          have HLs : Hid ((u8s ((zs.drop (64 * k)).take 64)).length = Nat.min (len - 64 * k) 64) := by show _ = _; rw [u8s_length, List.length_take, List.length_drop, HLn.out]; exact Nat.min_comm _ _
          clear hcell hr5
          go_upto_region 10 with (rw [HW5.out])
          refine wp_region_held_drew (S := fun _ => True) (by kernel_rfl) trivial (fun hHeld => ?_)
          refine wpAnyH_takesAt 0 1 5 (of_decide_eq_true (by kernel_rfl)) rfl (fun _ _ _ d _ h => by cases d <;> exact h) (by kernel_rfl) (by kernel_rfl) hHeld ?_
          simp only [List.drop_zero, List.take_succ_cons, List.take_zero]
          iterate 1 (refine wpHeld_step (v := ?_) (by rfl) (fun wz hSw => ?_) ?_; rotate_left; (focus ((try dsimp only at hSw); go_simp; try with_reducible rfl)); ((simp only [Act.put]; (try simp only [List.setIfInBounds_toArray]); (try simp only [List.set_cons_succ]); (try simp only [List.set_cons_zero]))))
          refine wpHeld_nil ?_
          refine wpAnyH_takesAt 1 1 4 (of_decide_eq_true (by kernel_rfl)) rfl (fun _ _ _ d _ h => by cases d <;> exact h) (by kernel_rfl) (by kernel_rfl) hHeld ?_
          simp only [List.drop_succ_cons, List.drop_zero, List.take_succ_cons, List.take_zero]
          iterate 1 (refine wpHeld_step (v := ?_) (by rfl) (fun wz hSw => ?_) ?_; rotate_left; (focus ((try dsimp only at hSw); go_simp; try with_reducible rfl)); ((simp only [Act.put]; (try simp only [List.setIfInBounds_toArray]); (try simp only [List.set_cons_succ]); (try simp only [List.set_cons_zero]))))
          refine wpHeld_nil ?_
          refine wpAnyH_takesAt 2 1 3 (of_decide_eq_true (by kernel_rfl)) rfl (fun _ _ _ d _ h => by cases d <;> exact h) (by kernel_rfl) (by kernel_rfl) hHeld ?_
          simp only [List.drop_succ_cons, List.drop_zero, List.take_succ_cons, List.take_zero]
          iterate 1 (refine wpHeld_step (v := ?_) (by rfl) (fun wz hSw => ?_) ?_; rotate_left; (focus ((try dsimp only at hSw); go_simp; try with_reducible rfl)); ((simp only [Act.put]; (try simp only [List.setIfInBounds_toArray]); (try simp only [List.set_cons_succ]); (try simp only [List.set_cons_zero]))))
          refine wpHeld_nil ?_
          refine wpAnyH_takesAt 3 1 2 (of_decide_eq_true (by kernel_rfl)) rfl (fun _ _ _ d _ h => by cases d <;> exact h) (by kernel_rfl) (by kernel_rfl) hHeld ?_
          simp only [List.drop_succ_cons, List.drop_zero, List.take_succ_cons, List.take_zero]
          iterate 1 (refine wpHeld_step (v := ?_) (by rfl) (fun wz hSw => ?_) ?_; rotate_left; (focus ((try dsimp only at hSw); go_simp; try with_reducible rfl)); ((simp only [Act.put]; (try simp only [List.setIfInBounds_toArray]); (try simp only [List.set_cons_succ]); (try simp only [List.set_cons_zero]))))
          refine wpHeld_nil ?_
          have hne : ¬ cap = 64 * k := by omega
          have hk64 : 64 * k ≤ len := by omega
          refine wpAnyH_takesAt 4 1 1 (of_decide_eq_true (by kernel_rfl)) rfl (fun _ _ _ d _ h => by cases d <;> exact h) (by kernel_rfl) (by kernel_rfl) hHeld ?_
          simp only [List.drop_succ_cons, List.drop_zero, List.take_succ_cons, List.take_zero]
          refine wpHeld_step (v := .slice (some ⟨bb, off + 64 * k, none⟩) (len - 64 * k) (cap - 64 * k)) (by rfl) (fun wz hSw => ?_) ?_
          · clear hSw
            have hwp : IntKind.i64.wrap (64 * (k : Int)) = ((64 * k : Nat) : Int) := by rw [IntKind.wrap_i64]; omega
            go_simp
            rw [if_pos (by omega), show (64 * (k : Int)).toNat = 64 * k by omega, if_neg hne]
          simp only [Act.put]
          (try simp only [List.setIfInBounds_toArray])
          (try simp only [List.set_cons_succ])
          (try simp only [List.set_cons_zero])
          refine wpHeld_nil ?_
          have hB5 : Below w.heap.size w w5 := HBl.out.trans (hb5.mono HBl.out.size)
          refine wpAnyH_only (i := 5) (by kernel_rfl) rfl (fun K hK => ?_)
          rw [if_pos (by rfl)]
          refine wp_copy_but (.tmp 46) (.tmp 50) 25 25 rfl 5 Try.underlying25 size5 wr.heap.size 0 64 64 ⟨bb, off + 64 * k, none⟩ (len - 64 * k) (cap - 64 * k) rfl rfl _ 55 HR5.out.drew (u8s ((zs.drop (64 * k)).take 64)) HLs.out (HSrc.out _ hB5.drew) (by rw [u8s_length, u8s_length, List.length_take, List.length_drop, HLn.out]; simp [zeros64]; omega) (u8s_one _) (fun w6 hrow hbut => ?_)
          refine hK.out _ _ trivial ?_
          clear hK K hHeld
          simp only [Act.put, List.setIfInBounds_toArray]
          refine wpAnyH_done (by kernel_rfl) ?_ _
          rw [splice_u8s] at hrow
          have hb56 : Below wr.heap.size wr w6 := ⟨hbut.os.trans hb5.os, hbut.tape.trans hb5.tape, hbut.output.trans hb5.output, Nat.le_trans hb5.size hbut.size, fun i hi => (hbut.block i (by show i < w5.heap.size; omega) (by omega)).trans (hb5.block i hi)⟩
          have HR6 : Hid (Row w6 wr.heap.size 55 (u8s (secZ zs k))) := hrow
          have HD6 : Hid (DiskAt [p, g] w6 p g d) := HD.out.later hb56
          have HBl6 : Hid (Below w.heap.size w w6) := HBl.out.trans (hb56.mono HBl.out.size)
          have hxs := secZ_sec HZ.out k
          obtain ⟨e0, he0⟩ : ∃ e0, d.wErr (k : Nat) = e0 := ⟨_, rfl⟩
          have HWm : Hid (Calls Try.prog 25 #[.pointer (some ⟨p, 0, none⟩), .int .i64 (k : Nat), .agg (u8s (secZ zs k)).toArray] w6 fun e w' => e = .returned (.int .i64 e0) ∧ DiskAt [p, g] w' p g (d.write (k : Nat) (secZ zs k)) ∧ Buts [p, g] w6.heap.size w6 w') := by
            have := write_any HD6.out (k : Nat) hxs (by omega)
            rw [he0] at this
            exact this
          have HLx : Hid ((u8s (secZ zs k)).length = 64) := by show _ = _; rw [u8s_length]; exact hxs.1
          have HE0 : Hid (d.wErr (k : Nat) = e0) := he0
          clear hrow hbut hb56 hxs hB5 hb5 he0
          generalize u8s (secZ zs k) = X at *
          by_cases hz0 : e0 = 0
          · subst hz0
            obtain ⟨_, a2, a3, a4⟩ := wrote_ok (s := secZ zs k) HE0.out
            go_wp2_with (first
              | ((with_reducible show wpList _ _ _ (Oper.mk (some 54) (Op.load 55 (.tmp 11)) _ _ _ _ :: _) _ _); refine wpList_load_Row rfl 55 (.tmp 11) rfl rfl HR6.out Try.underlying55 (by rw [HLx.out]; exact size55) ?_; simp only [Act.put, List.setIfInBounds_toArray, List.set_cons_zero, List.set_cons_succ])
              | (go_at_call 25; refine HWm.out.mono ?_; rintro e w7 ⟨rfl, hD7, hb7⟩; have HD7 : Hid (DiskAt [p, g] w7 p g _) := hD7; clear hD7))
            exact ⟨⟨k + 1, _, by omega, by simp, HD7.out, a2, by rw [a3, List.length_set]; exact hd60, by rw [a4]; omega, HBl6.out.trans (hb7.below HBl6.out.size (by simp; omega))⟩, by simp [intOf]; omega⟩
          · go_wp2_with (first
              | ((with_reducible show wpList _ _ _ (Oper.mk (some 54) (Op.load 55 (.tmp 11)) _ _ _ _ :: _) _ _); refine wpList_load_Row rfl 55 (.tmp 11) rfl rfl HR6.out Try.underlying55 (by rw [HLx.out]; exact size55) ?_; simp only [Act.put, List.setIfInBounds_toArray, List.set_cons_zero, List.set_cons_succ])
              | (go_at_call 25; refine HWm.out.mono ?_; rintro e w7 ⟨rfl, hD7, hb7⟩))
            (try rw [Exit.noGoto_ret])
            refine bodyPost_ret (results_tmp rfl _ _ _) rfl ?_
            exact ⟨rfl, HBl6.out.trans (hb7.below HBl6.out.size (by simp; omega))⟩
        · have g2 : decide ((64 : Int) * (k : Int) < (len : Int)) = false := decide_eq_false hb64
          obtain ⟨e0, he0⟩ : ∃ e0, d.wErr ((0 : Nat) : Int) = e0 := ⟨_, rfl⟩
          have HFo : Hid (Calls Try.prog 19 #[.pointer (some ⟨p, 0, none⟩), .int .i64 0, .int .i64 60, .int .u32 (gen : Nat)] wr fun e w' => e = .returned (.int .i64 e0) ∧ DiskAt [p, g] w' p g (d.write ((0 : Nat) : Int) zeros64) ∧ Buts [p, g] wr.heap.size wr w') := by
            have := format_any HD.out ((0 : Nat) : Int) 60 gen (by omega) (by omega) (by omega)
            rw [hd60, show regB 60 ((0 : Nat) : Int) 60 = true by decide, if_pos rfl, if_pos rfl, he0] at this
            exact this
          have HE0 : Hid (d.wErr ((0 : Nat) : Int) = e0) := he0
          clear he0
          by_cases hz0 : e0 = 0
          · subst hz0
            obtain ⟨_, b2, b3, b4⟩ := wrote_ok (s := zeros64) HE0.out
            obtain ⟨d1, hd1⟩ : ∃ d1, d.write ((0 : Nat) : Int) zeros64 = d1 := ⟨_, rfl⟩
            rw [hd1] at HFo b2 b3 b4
            have hl1 : d1.ss.length = 60 := by rw [b3, List.length_set]; exact hd60
            have hgz : d1.ss.getD 0 [] = zeros64 := by rw [b3, List.getD_eq_getElem?_getD, List.getElem?_set_self (by omega), Option.getD_some]
            have hg0 : (d1.ss.getD 0 []).getD 63 0 ≠ 165 := by
              rw [hgz]
              decide
            have HOp : Hid (∀ W, DiskAt [p, g] W p g d1 → Calls Try.prog 12 #[.pointer (some ⟨p, 0, none⟩), .int .i64 0, .int .i64 60, .int .u32 (gen : Nat)] W fun e w' => ∃ L v, e = .returned (.tuple #[.pointer (some ⟨L, 0, none⟩), .int .i64 0]) ∧ W.heap.size ≤ L ∧ (∀ k, v.ownBlock = some k → W.heap.size ≤ k) ∧ Below W.heap.size W w' ∧ MSt [p, g] W.heap.size w' L p g v d1 ⟨0, 60, gen, 0, [], false⟩) := fun W h => by
              have := open_live h (crLow_w h) h.lt (Nat.le_refl _) 0 60 gen (by omega) (by omega) hgen b2 (by omega)
              rw [scan_fresh hg0] at this
              exact this
            clear hd1
            go_wp2_with (first
              | (go_at_call 19; refine HFo.out.mono ?_; rintro e w8 ⟨rfl, hD8, hb8⟩; have HD8 : Hid (DiskAt [p, g] w8 p g d1) := hD8; clear hD8)
              | (go_at_call 12; refine (HOp.out _ HD8.out).mono ?_; rintro e w9 ⟨L, v, rfl, hL, hv9, hb9, hM9⟩; have HM9 : Hid (MSt [p, g] w8.heap.size w9 L p g v d1 ⟨0, 60, gen, 0, [], false⟩) := hM9; clear hM9))
            have HInv : Hid (Run.Inv 0 60 gen ⟨d1, ⟨0, 60, gen, 0, [], false⟩, [], none⟩) := ⟨HD8.out.1, ⟨rfl, rfl, rfl⟩, by show 0 + 60 ≤ d1.ss.length; omega, .inl ⟨rfl, b2, rfl, rfl, ⟨rfl, fun _ => hg0⟩⟩⟩
            have hB8 : Below w.heap.size w w8 := HBl.out.trans (hb8.below HBl.out.size (by simp; omega))
            have HB9 : Hid (Below w.heap.size w w9) := hB8.trans (hb9.mono hB8.size)
            have hs8 := hB8.size
            clear hgz hg0 hb8 hb9 hB8 HOp HFo HE0
            go_loopw [14, 15, 16, 71] (fun dv nv bv iv wy => ∃ (j : Nat) (r : Run) (v : Value) (xs : List Sl) (x : Sl) (dq : Option Addr) (dc : Nat), j ≤ ll ∧ iv = .int .i64 j ∧ nv = slV x ∧ bv = .bool r.next.isSome ∧ dv = .slice dq xs.length dc ∧ r.Inv 0 60 gen ∧ MSt [p, g] w8.heap.size wy L p g v r.d r.l ∧ r.l.pos ≤ r.l.n ∧ r.l.recs.length ≤ j ∧ r.d.wr ≤ 61 + 20 * j ∧ SlAt w8.heap.size wy (.slice dq xs.length dc) xs ∧ xs.length = r.done.length ∧ xs.length ≤ j ∧
              (∀ i, i < xs.length → IsBytes w.heap.size w (xs.getD i (none, 0, 0)).1 (xs.getD i (none, 0, 0)).2.1 (xs.getD i (none, 0, 0)).2.2 (r.done.getD i [])) ∧ (∀ y, r.next = some y → IsBytes w.heap.size w x.1 x.2.1 x.2.2 y) ∧ (∀ k, (Value.slice dq xs.length dc).ownBlock = some k → v.ownBlock ≠ some k) ∧ (∀ k, v.ownBlock = some k → w.heap.size ≤ k) ∧ Below w.heap.size w wy) (fun _ _ _ iv _ => ll - (intOf iv).toNat)
            case atStart => exact ⟨0, _, v, [], (none, 0, 0), none, 0, Nat.zero_le _, rfl, rfl, rfl, rfl, HInv.out, HM9.out, by show 0 ≤ 60; omega, Nat.le_refl _, by show d1.wr ≤ _; omega, SlAt.nil _ _, rfl, Nat.le_refl _, fun i hi => by simp at hi, fun y hy => by simp at hy, fun k hk => by simp [Value.ownBlock] at hk, fun k hk => Nat.le_trans hs8 (hv9 k hk), HB9.out⟩
            case round =>
              obtain ⟨j, r, v, xs, x, dq, dc, hj, rfl, rfl, rfl, rfl, hinv, hM, hpos, hrc, hwr2, hsl, hxl, hxj, hxb, hnx, hov, hvw, hbl⟩ := hrel
              have HXl : Hid (xs.length = r.done.length) := hxl
              clear hxl
              have hln := hM.low
              have hlt3 := hM.lt
              have hsz := hbl.size
              obtain ⟨hal, hl20⟩ : (∀ v ∈ vs, v.2.1 ≤ 400) ∧ vs.length ≤ 20 := by
                have := HFew.out
                simp only [fewL, Bool.and_eq_true, List.all_eq_true, decide_eq_true_eq] at this
                exact this
              have hvl2 : vs.length = ll := HVs.out.1
              by_cases hlt : j < ll
              · have hji : ((j : Nat) : Int) < (ll : Nat) := by omega
                obtain ⟨y, hy⟩ : ∃ y, vs.getD j (none, 0, 0) = y := ⟨_, rfl⟩
                obtain ⟨qx, lx, cx⟩ := y
                obtain ⟨b0, hb0⟩ : ∃ b0, want.getD j [] = b0 := ⟨_, rfl⟩
                have hIx : IsBytes w.heap.size w qx lx cx b0 := by
                  have := HVb.out j hlt
                  rw [hy, hb0] at this
                  exact this
                have hx4 : lx ≤ 400 := by
                  have hm : vs.getD j (none, 0, 0) ∈ vs := by
                    rw [List.getD_eq_getElem?_getD, List.getElem?_eq_getElem (by omega), Option.getD_some]
                    exact List.getElem_mem _
                  rw [hy] at hm
                  exact hal _ hm
                have hzl : b0.length = lx := hIx.1
                obtain ⟨lb, loff, rfl, hlb, hcl⟩ := HVs.out.2.2.2.resolve_left (by omega)
                have hcx : wr.cell? ⟨lb, loff + j, none⟩ = some (.slice qx lx cx) := by
                  have := hcl j hlt
                  rw [hy] at this
                  exact (hbl.cell (p := ⟨lb, loff + j, none⟩) hlb).trans this
                obtain ⟨e0, he0⟩ : ∃ e0, (appL r.d r.l b0).1 = e0 := ⟨_, rfl⟩
                obtain ⟨hr1, hr2, hr3⟩ := hinv.reg
                obtain ⟨n1, n2, n3⟩ := appL_nums (d := r.d) (l := r.l) (b := b0) (by omega) hpos
                have HIn' : Hid ((r.step b0).Inv 0 60 gen) := hinv.step (by omega) hIx.2.2.2.1
                have HAp : Hid (Calls Try.prog 21 #[.pointer (some ⟨L, 0, none⟩), .slice qx lx cx] wr fun e w' => ∃ v', e = .returned (.int .i64 e0) ∧ MSt [p, g] w8.heap.size w' L p g v' (r.step b0).d (r.step b0).l ∧ Buts (L :: p :: g :: ownL v) wr.heap.size wr w' ∧ (∀ k, v'.ownBlock = some k → v.ownBlock = some k ∨ wr.heap.size ≤ k)) := by
                  have := append_any hM ⟨by omega, by omega, hpos, by omega, by omega, by omega⟩ qx lx cx b0 (hIx.below hbl) hsz (fun hp0 b off e => by
                    rcases hIx.2.2.2.2 with h0 | ⟨b', off', e', hb', _⟩
                    · omega
                    · rw [e] at e'; cases e'; omega) (by omega) (by omega) (by omega)
                  exact this.mono fun e w' ⟨v', a1, a2, a3, _, a5⟩ => ⟨v', by rw [he0] at a1; exact a1, a2, a3, a5⟩
                have HFr : Hid (∀ (v' : Value) (W : World), Buts (L :: p :: g :: ownL v) wr.heap.size wr W → (∀ k, v'.ownBlock = some k → v.ownBlock = some k ∨ wr.heap.size ≤ k) → SlAt w8.heap.size W (.slice dq xs.length dc) xs ∧ (∀ k, (Value.slice dq xs.length dc).ownBlock = some k → v'.ownBlock ≠ some k) ∧ (∀ k, v'.ownBlock = some k → w.heap.size ≤ k) ∧ Below w.heap.size w W) := fun v' W hb hv' => by
                  refine ⟨hsl.frame (fun k hk => hb.block k (hsl.own hk).2.1 (fun hx => ?_)), fun k hk hk' => ?_, fun k hk => ?_, hbl.trans (hb.below hsz (fun x hx => ?_))⟩
                  · obtain ⟨c1, c2, c3⟩ := hM.rows
                    obtain ⟨_, _, _, _, eK⟩ := hsl.own hk
                    simp only [List.mem_cons] at hx
                    rcases hx with rfl | rfl | rfl | h
                    · obtain ⟨_, _, e⟩ := c3
                      exact absurd rfl (tag_ne eK e (by decide))
                    · obtain ⟨_, _, e⟩ := c1
                      exact absurd rfl (tag_ne eK e (by decide))
                    · obtain ⟨_, _, e⟩ := c2
                      exact absurd rfl (tag_ne eK e (by decide))
                    · exact hov k hk (mem_ownL.1 h)
                  · have := (hsl.own hk).2.1
                    rcases hv' k hk' with h | h
                    · exact hov k hk h
                    · omega
                  · rcases hv' k hk with h | h
                    · exact hvw k h
                    · omega
                  · simp only [List.mem_cons] at hx
                    rcases hx with rfl | rfl | rfl | h
                    · omega
                    · omega
                    · omega
                    · exact hvw x (mem_ownL.1 h)
                have HRl : Hid ((r.step b0).l.pos ≤ (r.step b0).l.n ∧ (r.step b0).l.recs.length ≤ j + 1 ∧ (r.step b0).d.wr ≤ 61 + 20 * (j + 1)) := ⟨n2, Nat.le_trans n3 (by omega), Nat.le_trans n1 (by omega)⟩
                have HDn : Hid ((r.step b0).done = if e0 = 0 then r.done ++ [b0] else r.done) := by show (if (appL r.d r.l b0).1 = 0 then _ else _) = _; rw [he0]
                have HNt : Hid ((r.step b0).next = if e0 = 131 then some b0 else r.next) := by show (if (appL r.d r.l b0).1 = 131 then _ else _) = _; rw [he0]
                have HRn : Hid (∀ W, SlAt w8.heap.size W (.slice dq xs.length dc) xs → w8.heap.size ≤ W.heap.size → ∃ dq' dc' W', (Builtin.append_ #[39, 39] 39 #[.slice dq xs.length dc, .slice (some ⟨W.heap.size, 0, none⟩) 1 1]).run Try.prog (W.alloc (.cells #[.slice qx lx cx] 25)) = .ok (.slice dq' (xs.length + 1) dc') W' ∧ SlAt w8.heap.size W' (.slice dq' (xs.length + 1) dc') (xs ++ [(qx, lx, cx)]) ∧ Buts (ownL (.slice dq xs.length dc)) W.heap.size W W' ∧ KeepT 5 W W' ∧ (∀ k, (Value.slice dq' (xs.length + 1) dc').ownBlock = some k → (Value.slice dq xs.length dc).ownBlock = some k ∨ W.heap.size ≤ k)) := fun W hs hn => by
                  have hbA : Below W.heap.size W (W.alloc (.cells #[.slice qx lx cx] 25)) := (Below.refl _ _).alloc (Nat.le_refl _) _
                  obtain ⟨v', W', a1, a2, a3, a4, a5⟩ := run_append_sl (W.alloc (.cells #[.slice qx lx cx] 25)) w8.heap.size 39 _ xs (hs.frame (fun k hk => hbA.block k (hs.own hk).2.1)) ⟨W.heap.size, 0, none⟩ 1 [(qx, lx, cx)] (fun i hi => by
                    obtain rfl : i = 0 := by simpa using hi
                    rw [Addr.add_mid]
                    exact (Row.new W 25 #[.slice qx lx cx]).cell (i := 0) rfl) (by simp; omega) (by simp; omega)
                  obtain ⟨dq', dc', e⟩ := a2.slice
                  rw [List.length_append, List.length_singleton] at e
                  subst e
                  refine ⟨dq', dc', W', a1, a2, (Buts.of_below hbA (Nat.le_refl _)).trans (Buts.mono ⟨a3.os, a3.tape, a3.output, a3.size, fun k hk hS => a3.block k hk (fun e => hS (mem_ownL.2 e.symm))⟩ (fun _ h => h) hbA.size), (KeepT.of_below hbA).trans a4, fun k hk => ?_⟩
                  rcases a5 with e | e
                  · rw [e] at hk
                    exact .inl hk
                  · rw [e, World.size_alloc] at hk
                    cases hk
                    exact .inr (by omega)
                have HXb : Hid (∀ i, i < xs.length → IsBytes w.heap.size w (xs.getD i (none, 0, 0)).1 (xs.getD i (none, 0, 0)).2.1 (xs.getD i (none, 0, 0)).2.2 (r.done.getD i [])) := hxb
                have HNx : Hid (∀ y, r.next = some y → IsBytes w.heap.size w x.1 x.2.1 x.2.2 y) := hnx
                have HIx : Hid (IsBytes w.heap.size w qx lx cx b0) := hIx
                clear hinv hM hrc hwr2 hsl hxb hnx hov hvw hbl hal hcl hb0 hy hIx he0 n1 n2 n3
                by_cases hz0 : e0 = 0
                · subst hz0
                  go_wp2_with (first
                    | (go_at_call 21; refine HAp.out.mono ?_; rintro e wa ⟨v', rfl, hMa, hba, hva⟩; obtain ⟨hsla, hova, hvwa, hbla⟩ := HFr.out v' wa hba hva; have HMa : Hid (MSt [p, g] w8.heap.size wa L p g v' (r.step b0).d (r.step b0).l) := hMa; obtain ⟨dq', dc', wb, hrun, hslb, hbb, hk5, howb⟩ := HRn.out wa hsla (by have := hba.size; omega); have HRun : Hid (_ = _) := hrun; clear hrun)
                    | (at_builtin; refine wpList_plain rfl fun K hK => wp_append_of (.tmp 80) (.tmp 82) 39 rfl rfl rfl HRun.out (hK _ _ ?_)))
                  have hsa := hba.size
                  have hsb := hbb.size
                  have HMb : Hid (MSt [p, g] w8.heap.size wb L p g v' (r.step b0).d (r.step b0).l) := by
                    obtain ⟨c1, c2, c3⟩ := HMa.out.rows
                    have hne : ∀ k t c fr, (Value.slice dq xs.length dc).ownBlock = some k → t ≠ 25 → ∀ z, wa.heap[z]? = some (Obj.cells c t fr) → z ∉ ownL (Value.slice dq xs.length dc) := fun k t c fr hk ht z hz hx => by
                      obtain ⟨_, _, _, _, eK⟩ := hsla.own (mem_ownL.1 hx)
                      exact absurd rfl (tag_ne eK hz (fun e => ht e.symm))
                    refine HMa.out.frame hbb (fun hx => ?_) (fun hx => ?_) (fun hx => ?_) (fun k hk hx => hova k (mem_ownL.1 hx) hk) (fun z hz => .inr (hsla.own (mem_ownL.1 hz)).1) hk5
                    · obtain ⟨_, _, e⟩ := c1
                      exact hne _ _ _ _ (mem_ownL.1 hx) (by decide) _ e hx
                    · obtain ⟨_, _, e⟩ := c2
                      exact hne _ _ _ _ (mem_ownL.1 hx) (by decide) _ e hx
                    · obtain ⟨_, _, e⟩ := c3
                      exact hne _ _ _ _ (mem_ownL.1 hx) (by decide) _ e hx
                  refine ⟨⟨j + 1, r.step b0, v', xs ++ [(qx, lx, cx)], x, dq', dc', by omega, by go_num, rfl, by rw [HNt.out, if_neg (by decide)], by rw [List.length_append, List.length_singleton], HIn'.out, HMb.out, HRl.out.1, HRl.out.2.1, HRl.out.2.2, by rw [List.length_append, List.length_singleton]; exact hslb, by rw [HDn.out, if_pos (by simp), List.length_append, List.length_append, HXl.out, List.length_singleton, List.length_singleton], by rw [List.length_append, List.length_singleton]; omega, fun i hi => ?_, fun y hy => by rw [HNt.out, if_neg (by decide)] at hy; exact HNx.out y hy, fun k hk hk' => ?_, hvwa, hbla.trans (hbb.below (by have := hbla.size; omega) (fun z hz => by have := (hsla.own (mem_ownL.1 hz)).1; omega))⟩, by simp [intOf]; omega⟩
                  · rw [HDn.out, if_pos (by simp)]
                    rw [List.length_append, List.length_singleton] at hi
                    by_cases hi2 : i < xs.length
                    · have e1 : (xs ++ [((qx, lx, cx) : Sl)]).getD i (none, 0, 0) = xs.getD i (none, 0, 0) := by rw [List.getD_eq_getElem?_getD, List.getElem?_append_left hi2, List.getD_eq_getElem?_getD]
                      have e2 : (r.done ++ [b0]).getD i [] = r.done.getD i [] := by rw [List.getD_eq_getElem?_getD, List.getElem?_append_left (by have := HXl.out; omega), List.getD_eq_getElem?_getD]
                      rw [e1, e2]
                      exact HXb.out i hi2
                    · obtain rfl : i = xs.length := by omega
                      have e1 : (xs ++ [((qx, lx, cx) : Sl)]).getD xs.length (none, 0, 0) = (qx, lx, cx) := by simp
                      have e2 : (r.done ++ [b0]).getD xs.length [] = b0 := by rw [HXl.out]; simp
                      rw [e1, e2]
                      exact HIx.out
                  · rw [List.length_append, List.length_singleton] at hk
                    rcases howb k hk with h | h
                    · exact hova k h hk'
                    · have := (HMa.out.own hk').2.1
                      omega
                · by_cases hz1 : e0 = 131
                  · subst hz1
                    go_wp2_with (go_at_call 21; refine HAp.out.mono ?_; rintro e wa ⟨v', rfl, hMa, hba, hva⟩; obtain ⟨hsla, hova, hvwa, hbla⟩ := HFr.out v' wa hba hva)
                    refine ⟨⟨j + 1, r.step b0, v', xs, (qx, lx, cx), dq, dc, by omega, by go_num, rfl, by rw [HNt.out]; rfl, rfl, HIn'.out, hMa, HRl.out.1, HRl.out.2.1, HRl.out.2.2, hsla, by rw [HDn.out, if_neg (by decide)]; exact HXl.out, by omega, by rw [HDn.out, if_neg (by decide)]; exact HXb.out, fun y hy => by rw [HNt.out, if_pos (by simp)] at hy; cases hy; exact HIx.out, hova, hvwa, hbla⟩, by simp [intOf]; omega⟩
                  · go_wp2_with (go_at_call 21; refine HAp.out.mono ?_; rintro e wa ⟨v', rfl, hMa, hba, hva⟩; obtain ⟨hsla, hova, hvwa, hbla⟩ := HFr.out v' wa hba hva)
                    refine ⟨⟨j + 1, r.step b0, v', xs, x, dq, dc, by omega, by go_num, rfl, by rw [HNt.out, if_neg hz1], rfl, HIn'.out, hMa, HRl.out.1, HRl.out.2.1, HRl.out.2.2, hsla, by rw [HDn.out, if_neg hz0]; exact HXl.out, by omega, by rw [HDn.out, if_neg hz0]; exact HXb.out, fun y hy => by rw [HNt.out, if_neg hz1] at hy; exact HNx.out y hy, hova, hvwa, hbla⟩, by simp [intOf]; omega⟩
              · have hji : ¬ ((j : Nat) : Int) < (ll : Nat) := by omega
                have HD : Hid (DiskAt [p, g] wr p g r.d) := hM.disk
                have hfit : 60 ≤ r.d.ss.length := by have := hinv.fits; omega
                have HFd : Hid ((scan r.d.ss 0 60 gen (60 + 1) 0 []).2 = r.done ∨ ∃ x, r.next = some x ∧ (scan r.d.ss 0 60 gen (60 + 1) 0 []).2 = r.done ++ [x]) := hinv.found (by omega)
                obtain ⟨k1, k2, k3⟩ := scan_okW r.d.ss 0 60 gen (60 + 1) 0 [] (by omega) (by simp) (by simp)
                have HSta : Hid (Calls Try.prog 23 #[.pointer (some ⟨p, 0, none⟩)] wr fun e w' => (∃ v, e = .returned v) ∧ DiskAt [p, g] w' p g r.d.start ∧ Buts [p, g] wr.heap.size wr w') := start_any hM.disk
                have HOp2 : Hid (∀ W, DiskAt [p, g] W p g r.d.start → Calls Try.prog 12 #[.pointer (some ⟨p, 0, none⟩), .int .i64 0, .int .i64 60, .int .u32 (gen : Nat)] W fun e w' => ∃ L v, e = .returned (.tuple #[.pointer (some ⟨L, 0, none⟩), .int .i64 0]) ∧ Below W.heap.size W w' ∧ MSt [p, g] W.heap.size w' L p g v r.d.start ⟨0, 60, gen, (scan r.d.ss 0 60 gen (60 + 1) 0 []).1, (scan r.d.ss 0 60 gen (60 + 1) 0 []).2, false⟩) := fun W h =>
                  (open_live h (crLow_w h) h.lt (Nat.le_refl _) 0 60 gen (by omega) (by show 0 + 60 ≤ r.d.ss.length; omega) hgen rfl (by show 0 ≤ _; omega)).mono fun e w' ⟨L, v, a1, _, _, a4, a5⟩ => ⟨L, v, a1, a4, a5⟩
                obtain ⟨A, hA⟩ : ∃ A, (scan r.d.ss 0 60 gen (60 + 1) 0 []).1 = A := ⟨_, rfl⟩
                obtain ⟨R, hR⟩ : ∃ R, (scan r.d.ss 0 60 gen (60 + 1) 0 []).2 = R := ⟨_, rfl⟩
                simp only [hA, hR] at HOp2 HFd k1 k2 k3
                have HRb : Hid (R.length ≤ 60 ∧ ∀ z ∈ R, z.length ≤ 300000) := ⟨by omega, fun z hz => Nat.le_trans (k3 z hz) (by omega)⟩
                have HSlF : Hid (∀ W, Buts [p, g] wr.heap.size wr W → SlAt w8.heap.size W (.slice dq xs.length dc) xs ∧ Below w.heap.size w W) := fun W hb => by
                  refine ⟨hsl.frame (fun k hk => hb.block k (hsl.own hk).2.1 (fun hx => ?_)), hbl.trans (hb.below hsz (by simp; omega))⟩
                  obtain ⟨c1, c2, _⟩ := hM.rows
                  obtain ⟨_, _, _, _, eK⟩ := hsl.own hk
                  simp only [List.mem_cons, List.not_mem_nil, or_false] at hx
                  rcases hx with rfl | rfl
                  · obtain ⟨_, _, e⟩ := c1
                    exact absurd rfl (tag_ne eK e (by decide))
                  · obtain ⟨_, _, e⟩ := c2
                    exact absurd rfl (tag_ne eK e (by decide))
                have HXb : Hid (∀ i, i < xs.length → IsBytes w.heap.size w (xs.getD i (none, 0, 0)).1 (xs.getD i (none, 0, 0)).2.1 (xs.getD i (none, 0, 0)).2.2 (r.done.getD i [])) := hxb
                have HNx : Hid (∀ y, r.next = some y → IsBytes w.heap.size w x.1 x.2.1 x.2.2 y) := hnx
                have HWn : Hid (∀ W, SlAt w8.heap.size W (.slice dq xs.length dc) xs → Below w.heap.size w W → WantAt W dq xs.length dc r.done) := fun W hs hb => hs.want HXl.out.symm (fun i hi => ((HXb.out i hi).below hb).mono hb.size)
                have HSm : Hid (∀ (W : World) (L : Nat) (v : Value) (n₀ : Nat) (q : Option Addr) (len c : Nat) (want : List (List Nat)), MSt [p, g] n₀ W L p g v r.d.start ⟨0, 60, gen, A, R, false⟩ → WantAt W q len c want → Calls Try.prog 14 #[.pointer (some ⟨L, 0, none⟩), .slice q len c] W fun e w' => e = .returned (.bool (decide (R = want))) ∧ Below W.heap.size W w') := fun W L v n₀ q len c want h hw => same_any h (by show R.length ≤ _; have := HRb.out.1; omega) HRb.out.2 q len c want hw
                clear hinv hM hrc hwr2 hsl hxb hnx hov hvw hbl hal hA hR k1 k2 k3
                by_cases hRd : R = r.done
                · have HDt : Hid (decide (R = r.done) = true) := decide_eq_true hRd
                  go_wp2_with (first
                    | (go_at_call 23; refine HSta.out.mono ?_; rintro e wa ⟨⟨u, rfl⟩, hDa, hba⟩; obtain ⟨hsla, hbla⟩ := HSlF.out wa hba; have HDa : Hid (DiskAt [p, g] wa p g r.d.start) := hDa; clear hDa)
                    | (go_at_call 12; refine (HOp2.out _ HDa.out).mono ?_; rintro e wb ⟨L2, v2, rfl, hbb, hMb⟩; have HMb : Hid (MSt [p, g] wa.heap.size wb L2 p g v2 r.d.start ⟨0, 60, gen, A, R, false⟩) := hMb; have hblb : Below w.heap.size w wb := hbla.trans (hbb.mono hbla.size); have HWb : Hid (WantAt wb dq xs.length dc r.done) := HWn.out wb (hsla.frame (fun k hk => hbb.block k (hsla.own hk).2.1)) hblb; clear hMb)
                    | (go_at_call 14; refine (HSm.out _ _ _ _ _ _ _ _ HMb.out HWb.out).mono ?_; rw [HDt.out]; rintro e wc ⟨rfl, hbc⟩))
                  (try rw [Exit.noGoto_ret])
                  refine bodyPost_ret (results_tmp rfl _ _ _) rfl ?_
                  exact ⟨rfl, hblb.trans (hbc.mono hblb.size)⟩
                · have HDf : Hid (decide (R = r.done) = false) := decide_eq_false hRd
                  obtain ⟨y, hy, hRy⟩ := HFd.out.resolve_left hRd
                  have hns : r.next.isSome = true := by rw [hy]; rfl
                  obtain ⟨xq, xl, xc⟩ := x
                  have hIy : IsBytes w.heap.size w xq xl xc y := HNx.out y hy
                  have hx20 : xs.length ≤ 1000 := by omega
                  have HAl : Hid (∀ W, SlAt w8.heap.size W (.slice dq xs.length dc) xs → Below w.heap.size w W → ∃ q1 c1 W1 q2 c2 W2, (Builtin.append_ #[39, 39] 39 #[.slice none 0 0, .slice dq xs.length dc]).run Try.prog W = .ok (.slice q1 xs.length c1) W1 ∧ (Builtin.append_ #[39, 39] 39 #[.slice q1 xs.length c1, .slice (some ⟨W1.heap.size, 0, none⟩) 1 1]).run Try.prog (W1.alloc (.cells #[.slice xq xl xc] 25)) = .ok (.slice q2 (xs.length + 1) c2) W2 ∧ WantAt W2 q2 (xs.length + 1) c2 (r.done ++ [y]) ∧ Below W.heap.size W W2) := fun W hs hb => by
                    obtain ⟨q1, c1, W1, q2, c2, W2, a1, a2, a3, a4⟩ := run_both hs hx20 xq xl xc
                    have hb2 : Below w.heap.size w W2 := hb.trans (a4.mono hb.size)
                    refine ⟨q1, c1, W1, q2, c2, W2, a1, a2, a3.want (by rw [List.length_append, List.length_append, HXl.out, List.length_singleton, List.length_singleton]) (fun i hi => ?_), a4⟩
                    rw [List.length_append, List.length_singleton] at hi
                    by_cases hi2 : i < xs.length
                    · have e1 : (xs ++ [((xq, xl, xc) : Sl)]).getD i (none, 0, 0) = xs.getD i (none, 0, 0) := by rw [List.getD_eq_getElem?_getD, List.getElem?_append_left hi2, List.getD_eq_getElem?_getD]
                      have e2 : (r.done ++ [y]).getD i [] = r.done.getD i [] := by rw [List.getD_eq_getElem?_getD, List.getElem?_append_left (by have := HXl.out; omega), List.getD_eq_getElem?_getD]
                      rw [e1, e2]
                      exact ((HXb.out i hi2).below hb2).mono hb2.size
                    · obtain rfl : i = xs.length := by omega
                      have e1 : (xs ++ [((xq, xl, xc) : Sl)]).getD xs.length (none, 0, 0) = (xq, xl, xc) := by simp
                      have e2 : (r.done ++ [y]).getD xs.length [] = y := by rw [HXl.out]; simp
                      rw [e1, e2]
                      exact (hIy.below hb2).mono hb2.size
                  have HDt : Hid (decide (R = r.done ++ [y]) = true) := decide_eq_true hRy
                  clear hy hRy hRd
                  simp only [hns, slV]
                  go_wp2_with (first
                    | (go_at_call 23; refine HSta.out.mono ?_; rintro e wa ⟨⟨u, rfl⟩, hDa, hba⟩; obtain ⟨hsla, hbla⟩ := HSlF.out wa hba; have HDa : Hid (DiskAt [p, g] wa p g r.d.start) := hDa; clear hDa)
                    | (go_at_call 12; refine (HOp2.out _ HDa.out).mono ?_; rintro e wb ⟨L2, v2, rfl, hbb, hMb⟩; have HMb : Hid (MSt [p, g] wa.heap.size wb L2 p g v2 r.d.start ⟨0, 60, gen, A, R, false⟩) := hMb; have hblb : Below w.heap.size w wb := hbla.trans (hbb.mono hbla.size); have hslb := hsla.frame (fun k hk => hbb.block k (hsla.own hk).2.1); have HWb : Hid (WantAt wb dq xs.length dc r.done) := HWn.out wb hslb hblb; clear hMb)
                    | (go_at_call 14; have _ := HRun2; refine (HSm.out _ _ _ _ _ _ _ _ (HMc.out.later hbf) HWf.out).mono ?_; rw [HDt.out]; rintro e wg ⟨rfl, hbg⟩)
                    | (go_at_call 14; refine (HSm.out _ _ _ _ _ _ _ _ HMb.out HWb.out).mono ?_; rw [HDf.out]; rintro e wc ⟨rfl, hbc⟩; have hblc : Below w.heap.size w wc := hblb.trans (hbc.mono hblb.size); have HMc : Hid (MSt [p, g] wa.heap.size wc L2 p g v2 r.d.start ⟨0, 60, gen, A, R, false⟩) := HMb.out.later hbc; obtain ⟨q1, c1, wd, q2, c2, wf, hrun1, hrun2, hWf, hbf⟩ := HAl.out wc (hslb.frame (fun k hk => hbc.block k (hslb.own hk).2.1)) hblc; have HRun1 : Hid (_ = _) := hrun1; have HRun2 : Hid (_ = _) := hrun2; have HWf : Hid (WantAt wf q2 (xs.length + 1) c2 (r.done ++ [y])) := hWf; clear hrun1 hrun2 hWf)
                    | ((with_reducible show wpList _ _ _ (Oper.mk (some 106) _ _ _ _ _ :: _) _ _); refine BigFrame.wpList_want (by rfl) fun K hK => wp_append_of (.const (.slice none 0 0)) (.tmp 105) 39 rfl rfl rfl HRun1.out (hK _ _ ?_); simp only [Act.put, List.setIfInBounds_toArray, List.set_cons_zero, List.set_cons_succ])
                    | ((with_reducible show wpList _ _ _ (Oper.mk (some 109) _ _ _ _ _ :: _) _ _); refine BigFrame.wpList_want (by rfl) fun K hK => wp_append_of (.tmp 106) (.tmp 108) 39 rfl rfl rfl HRun2.out (hK _ _ ?_); simp only [Act.put, List.setIfInBounds_toArray, List.set_cons_zero, List.set_cons_succ]))
                  (try rw [Exit.noGoto_ret])
                  refine bodyPost_ret (results_tmp rfl _ _ _) rfl ?_
                  exact ⟨rfl, (hblc.trans (hbf.mono hblc.size)).trans (hbg.mono (Nat.le_trans hblc.size hbf.size))⟩
          · go_wp2_with (go_at_call 19; refine HFo.out.mono ?_; rintro e w8 ⟨rfl, hD8, hb8⟩)
            (try rw [Exit.noGoto_ret])
            refine bodyPost_ret (results_tmp rfl _ _ _) rfl ?_
            exact ⟨rfl, HBl.out.trans (hb8.below HBl.out.size (by simp; omega))⟩
      · have g1 : decide ((k : Int) < 60) = false := decide_eq_false hlt
        obtain ⟨e0, he0⟩ : ∃ e0, d.wErr ((0 : Nat) : Int) = e0 := ⟨_, rfl⟩
        have HFo : Hid (Calls Try.prog 19 #[.pointer (some ⟨p, 0, none⟩), .int .i64 0, .int .i64 60, .int .u32 (gen : Nat)] wr fun e w' => e = .returned (.int .i64 e0) ∧ DiskAt [p, g] w' p g (d.write ((0 : Nat) : Int) zeros64) ∧ Buts [p, g] wr.heap.size wr w') := by
          have := format_any HD.out ((0 : Nat) : Int) 60 gen (by omega) (by omega) (by omega)
          rw [hd60, show regB 60 ((0 : Nat) : Int) 60 = true by decide, if_pos rfl, if_pos rfl, he0] at this
          exact this
        have HE0 : Hid (d.wErr ((0 : Nat) : Int) = e0) := he0
        clear he0
        by_cases hz0 : e0 = 0
        · subst hz0
          obtain ⟨_, b2, b3, b4⟩ := wrote_ok (s := zeros64) HE0.out
          obtain ⟨d1, hd1⟩ : ∃ d1, d.write ((0 : Nat) : Int) zeros64 = d1 := ⟨_, rfl⟩
          rw [hd1] at HFo b2 b3 b4
          have hl1 : d1.ss.length = 60 := by rw [b3, List.length_set]; exact hd60
          have hgz : d1.ss.getD 0 [] = zeros64 := by rw [b3, List.getD_eq_getElem?_getD, List.getElem?_set_self (by omega), Option.getD_some]
          have hg0 : (d1.ss.getD 0 []).getD 63 0 ≠ 165 := by
            rw [hgz]
            decide
          have HOp : Hid (∀ W, DiskAt [p, g] W p g d1 → Calls Try.prog 12 #[.pointer (some ⟨p, 0, none⟩), .int .i64 0, .int .i64 60, .int .u32 (gen : Nat)] W fun e w' => ∃ L v, e = .returned (.tuple #[.pointer (some ⟨L, 0, none⟩), .int .i64 0]) ∧ W.heap.size ≤ L ∧ (∀ k, v.ownBlock = some k → W.heap.size ≤ k) ∧ Below W.heap.size W w' ∧ MSt [p, g] W.heap.size w' L p g v d1 ⟨0, 60, gen, 0, [], false⟩) := fun W h => by
            have := open_live h (crLow_w h) h.lt (Nat.le_refl _) 0 60 gen (by omega) (by omega) hgen b2 (by omega)
            rw [scan_fresh hg0] at this
            exact this
          clear hd1
          go_wp2_with (first
            | (go_at_call 19; refine HFo.out.mono ?_; rintro e w8 ⟨rfl, hD8, hb8⟩; have HD8 : Hid (DiskAt [p, g] w8 p g d1) := hD8; clear hD8)
            | (go_at_call 12; refine (HOp.out _ HD8.out).mono ?_; rintro e w9 ⟨L, v, rfl, hL, hv9, hb9, hM9⟩; have HM9 : Hid (MSt [p, g] w8.heap.size w9 L p g v d1 ⟨0, 60, gen, 0, [], false⟩) := hM9; clear hM9))
          have HInv : Hid (Run.Inv 0 60 gen ⟨d1, ⟨0, 60, gen, 0, [], false⟩, [], none⟩) := ⟨HD8.out.1, ⟨rfl, rfl, rfl⟩, by show 0 + 60 ≤ d1.ss.length; omega, .inl ⟨rfl, b2, rfl, rfl, ⟨rfl, fun _ => hg0⟩⟩⟩
          have hB8 : Below w.heap.size w w8 := HBl.out.trans (hb8.below HBl.out.size (by simp; omega))
          have HB9 : Hid (Below w.heap.size w w9) := hB8.trans (hb9.mono hB8.size)
          have hs8 := hB8.size
          clear hgz hg0 hb8 hb9 hB8 HOp HFo HE0
          go_loopw [14, 15, 16, 71] (fun dv nv bv iv wy => ∃ (j : Nat) (r : Run) (v : Value) (xs : List Sl) (x : Sl) (dq : Option Addr) (dc : Nat), j ≤ ll ∧ iv = .int .i64 j ∧ nv = slV x ∧ bv = .bool r.next.isSome ∧ dv = .slice dq xs.length dc ∧ r.Inv 0 60 gen ∧ MSt [p, g] w8.heap.size wy L p g v r.d r.l ∧ r.l.pos ≤ r.l.n ∧ r.l.recs.length ≤ j ∧ r.d.wr ≤ 61 + 20 * j ∧ SlAt w8.heap.size wy (.slice dq xs.length dc) xs ∧ xs.length = r.done.length ∧ xs.length ≤ j ∧
            (∀ i, i < xs.length → IsBytes w.heap.size w (xs.getD i (none, 0, 0)).1 (xs.getD i (none, 0, 0)).2.1 (xs.getD i (none, 0, 0)).2.2 (r.done.getD i [])) ∧ (∀ y, r.next = some y → IsBytes w.heap.size w x.1 x.2.1 x.2.2 y) ∧ (∀ k, (Value.slice dq xs.length dc).ownBlock = some k → v.ownBlock ≠ some k) ∧ (∀ k, v.ownBlock = some k → w.heap.size ≤ k) ∧ Below w.heap.size w wy) (fun _ _ _ iv _ => ll - (intOf iv).toNat)
          case atStart => exact ⟨0, _, v, [], (none, 0, 0), none, 0, Nat.zero_le _, rfl, rfl, rfl, rfl, HInv.out, HM9.out, by show 0 ≤ 60; omega, Nat.le_refl _, by show d1.wr ≤ _; omega, SlAt.nil _ _, rfl, Nat.le_refl _, fun i hi => by simp at hi, fun y hy => by simp at hy, fun k hk => by simp [Value.ownBlock] at hk, fun k hk => Nat.le_trans hs8 (hv9 k hk), HB9.out⟩
          case round =>
            obtain ⟨j, r, v, xs, x, dq, dc, hj, rfl, rfl, rfl, rfl, hinv, hM, hpos, hrc, hwr2, hsl, hxl, hxj, hxb, hnx, hov, hvw, hbl⟩ := hrel
            have HXl : Hid (xs.length = r.done.length) := hxl
            clear hxl
            have hln := hM.low
            have hlt3 := hM.lt
            have hsz := hbl.size
            obtain ⟨hal, hl20⟩ : (∀ v ∈ vs, v.2.1 ≤ 400) ∧ vs.length ≤ 20 := by
              have := HFew.out
              simp only [fewL, Bool.and_eq_true, List.all_eq_true, decide_eq_true_eq] at this
              exact this
            have hvl2 : vs.length = ll := HVs.out.1
            by_cases hlt : j < ll
            · have hji : ((j : Nat) : Int) < (ll : Nat) := by omega
              obtain ⟨y, hy⟩ : ∃ y, vs.getD j (none, 0, 0) = y := ⟨_, rfl⟩
              obtain ⟨qx, lx, cx⟩ := y
              obtain ⟨b0, hb0⟩ : ∃ b0, want.getD j [] = b0 := ⟨_, rfl⟩
              have hIx : IsBytes w.heap.size w qx lx cx b0 := by
                have := HVb.out j hlt
                rw [hy, hb0] at this
                exact this
              have hx4 : lx ≤ 400 := by
                have hm : vs.getD j (none, 0, 0) ∈ vs := by
                  rw [List.getD_eq_getElem?_getD, List.getElem?_eq_getElem (by omega), Option.getD_some]
                  exact List.getElem_mem _
                rw [hy] at hm
                exact hal _ hm
              have hzl : b0.length = lx := hIx.1
              obtain ⟨lb, loff, rfl, hlb, hcl⟩ := HVs.out.2.2.2.resolve_left (by omega)
              have hcx : wr.cell? ⟨lb, loff + j, none⟩ = some (.slice qx lx cx) := by
                have := hcl j hlt
                rw [hy] at this
                exact (hbl.cell (p := ⟨lb, loff + j, none⟩) hlb).trans this
              obtain ⟨e0, he0⟩ : ∃ e0, (appL r.d r.l b0).1 = e0 := ⟨_, rfl⟩
              obtain ⟨hr1, hr2, hr3⟩ := hinv.reg
              obtain ⟨n1, n2, n3⟩ := appL_nums (d := r.d) (l := r.l) (b := b0) (by omega) hpos
              have HIn' : Hid ((r.step b0).Inv 0 60 gen) := hinv.step (by omega) hIx.2.2.2.1
              have HAp : Hid (Calls Try.prog 21 #[.pointer (some ⟨L, 0, none⟩), .slice qx lx cx] wr fun e w' => ∃ v', e = .returned (.int .i64 e0) ∧ MSt [p, g] w8.heap.size w' L p g v' (r.step b0).d (r.step b0).l ∧ Buts (L :: p :: g :: ownL v) wr.heap.size wr w' ∧ (∀ k, v'.ownBlock = some k → v.ownBlock = some k ∨ wr.heap.size ≤ k)) := by
                have := append_any hM ⟨by omega, by omega, hpos, by omega, by omega, by omega⟩ qx lx cx b0 (hIx.below hbl) hsz (fun hp0 b off e => by
                  rcases hIx.2.2.2.2 with h0 | ⟨b', off', e', hb', _⟩
                  · omega
                  · rw [e] at e'; cases e'; omega) (by omega) (by omega) (by omega)
                exact this.mono fun e w' ⟨v', a1, a2, a3, _, a5⟩ => ⟨v', by rw [he0] at a1; exact a1, a2, a3, a5⟩
              have HFr : Hid (∀ (v' : Value) (W : World), Buts (L :: p :: g :: ownL v) wr.heap.size wr W → (∀ k, v'.ownBlock = some k → v.ownBlock = some k ∨ wr.heap.size ≤ k) → SlAt w8.heap.size W (.slice dq xs.length dc) xs ∧ (∀ k, (Value.slice dq xs.length dc).ownBlock = some k → v'.ownBlock ≠ some k) ∧ (∀ k, v'.ownBlock = some k → w.heap.size ≤ k) ∧ Below w.heap.size w W) := fun v' W hb hv' => by
                refine ⟨hsl.frame (fun k hk => hb.block k (hsl.own hk).2.1 (fun hx => ?_)), fun k hk hk' => ?_, fun k hk => ?_, hbl.trans (hb.below hsz (fun x hx => ?_))⟩
                · obtain ⟨c1, c2, c3⟩ := hM.rows
                  obtain ⟨_, _, _, _, eK⟩ := hsl.own hk
                  simp only [List.mem_cons] at hx
                  rcases hx with rfl | rfl | rfl | h
                  · obtain ⟨_, _, e⟩ := c3
                    exact absurd rfl (tag_ne eK e (by decide))
                  · obtain ⟨_, _, e⟩ := c1
                    exact absurd rfl (tag_ne eK e (by decide))
                  · obtain ⟨_, _, e⟩ := c2
                    exact absurd rfl (tag_ne eK e (by decide))
                  · exact hov k hk (mem_ownL.1 h)
                · have := (hsl.own hk).2.1
                  rcases hv' k hk' with h | h
                  · exact hov k hk h
                  · omega
                · rcases hv' k hk with h | h
                  · exact hvw k h
                  · omega
                · simp only [List.mem_cons] at hx
                  rcases hx with rfl | rfl | rfl | h
                  · omega
                  · omega
                  · omega
                  · exact hvw x (mem_ownL.1 h)
              have HRl : Hid ((r.step b0).l.pos ≤ (r.step b0).l.n ∧ (r.step b0).l.recs.length ≤ j + 1 ∧ (r.step b0).d.wr ≤ 61 + 20 * (j + 1)) := ⟨n2, Nat.le_trans n3 (by omega), Nat.le_trans n1 (by omega)⟩
              have HDn : Hid ((r.step b0).done = if e0 = 0 then r.done ++ [b0] else r.done) := by show (if (appL r.d r.l b0).1 = 0 then _ else _) = _; rw [he0]
              have HNt : Hid ((r.step b0).next = if e0 = 131 then some b0 else r.next) := by show (if (appL r.d r.l b0).1 = 131 then _ else _) = _; rw [he0]
              have HRn : Hid (∀ W, SlAt w8.heap.size W (.slice dq xs.length dc) xs → w8.heap.size ≤ W.heap.size → ∃ dq' dc' W', (Builtin.append_ #[39, 39] 39 #[.slice dq xs.length dc, .slice (some ⟨W.heap.size, 0, none⟩) 1 1]).run Try.prog (W.alloc (.cells #[.slice qx lx cx] 25)) = .ok (.slice dq' (xs.length + 1) dc') W' ∧ SlAt w8.heap.size W' (.slice dq' (xs.length + 1) dc') (xs ++ [(qx, lx, cx)]) ∧ Buts (ownL (.slice dq xs.length dc)) W.heap.size W W' ∧ KeepT 5 W W' ∧ (∀ k, (Value.slice dq' (xs.length + 1) dc').ownBlock = some k → (Value.slice dq xs.length dc).ownBlock = some k ∨ W.heap.size ≤ k)) := fun W hs hn => by
                have hbA : Below W.heap.size W (W.alloc (.cells #[.slice qx lx cx] 25)) := (Below.refl _ _).alloc (Nat.le_refl _) _
                obtain ⟨v', W', a1, a2, a3, a4, a5⟩ := run_append_sl (W.alloc (.cells #[.slice qx lx cx] 25)) w8.heap.size 39 _ xs (hs.frame (fun k hk => hbA.block k (hs.own hk).2.1)) ⟨W.heap.size, 0, none⟩ 1 [(qx, lx, cx)] (fun i hi => by
                  obtain rfl : i = 0 := by simpa using hi
                  rw [Addr.add_mid]
                  exact (Row.new W 25 #[.slice qx lx cx]).cell (i := 0) rfl) (by simp; omega) (by simp; omega)
                obtain ⟨dq', dc', e⟩ := a2.slice
                rw [List.length_append, List.length_singleton] at e
                subst e
                refine ⟨dq', dc', W', a1, a2, (Buts.of_below hbA (Nat.le_refl _)).trans (Buts.mono ⟨a3.os, a3.tape, a3.output, a3.size, fun k hk hS => a3.block k hk (fun e => hS (mem_ownL.2 e.symm))⟩ (fun _ h => h) hbA.size), (KeepT.of_below hbA).trans a4, fun k hk => ?_⟩
                rcases a5 with e | e
                · rw [e] at hk
                  exact .inl hk
                · rw [e, World.size_alloc] at hk
                  cases hk
                  exact .inr (by omega)
              have HXb : Hid (∀ i, i < xs.length → IsBytes w.heap.size w (xs.getD i (none, 0, 0)).1 (xs.getD i (none, 0, 0)).2.1 (xs.getD i (none, 0, 0)).2.2 (r.done.getD i [])) := hxb
              have HNx : Hid (∀ y, r.next = some y → IsBytes w.heap.size w x.1 x.2.1 x.2.2 y) := hnx
              have HIx : Hid (IsBytes w.heap.size w qx lx cx b0) := hIx
              clear hinv hM hrc hwr2 hsl hxb hnx hov hvw hbl hal hcl hb0 hy hIx he0 n1 n2 n3
              by_cases hz0 : e0 = 0
              · subst hz0
                go_wp2_with (first
                  | (go_at_call 21; refine HAp.out.mono ?_; rintro e wa ⟨v', rfl, hMa, hba, hva⟩; obtain ⟨hsla, hova, hvwa, hbla⟩ := HFr.out v' wa hba hva; have HMa : Hid (MSt [p, g] w8.heap.size wa L p g v' (r.step b0).d (r.step b0).l) := hMa; obtain ⟨dq', dc', wb, hrun, hslb, hbb, hk5, howb⟩ := HRn.out wa hsla (by have := hba.size; omega); have HRun : Hid (_ = _) := hrun; clear hrun)
                  | (at_builtin; refine wpList_plain rfl fun K hK => wp_append_of (.tmp 80) (.tmp 82) 39 rfl rfl rfl HRun.out (hK _ _ ?_)))
                have hsa := hba.size
                have hsb := hbb.size
                have HMb : Hid (MSt [p, g] w8.heap.size wb L p g v' (r.step b0).d (r.step b0).l) := by
                  obtain ⟨c1, c2, c3⟩ := HMa.out.rows
                  have hne : ∀ k t c fr, (Value.slice dq xs.length dc).ownBlock = some k → t ≠ 25 → ∀ z, wa.heap[z]? = some (Obj.cells c t fr) → z ∉ ownL (Value.slice dq xs.length dc) := fun k t c fr hk ht z hz hx => by
                    obtain ⟨_, _, _, _, eK⟩ := hsla.own (mem_ownL.1 hx)
                    exact absurd rfl (tag_ne eK hz (fun e => ht e.symm))
                  refine HMa.out.frame hbb (fun hx => ?_) (fun hx => ?_) (fun hx => ?_) (fun k hk hx => hova k (mem_ownL.1 hx) hk) (fun z hz => .inr (hsla.own (mem_ownL.1 hz)).1) hk5
                  · obtain ⟨_, _, e⟩ := c1
                    exact hne _ _ _ _ (mem_ownL.1 hx) (by decide) _ e hx
                  · obtain ⟨_, _, e⟩ := c2
                    exact hne _ _ _ _ (mem_ownL.1 hx) (by decide) _ e hx
                  · obtain ⟨_, _, e⟩ := c3
                    exact hne _ _ _ _ (mem_ownL.1 hx) (by decide) _ e hx
                refine ⟨⟨j + 1, r.step b0, v', xs ++ [(qx, lx, cx)], x, dq', dc', by omega, by go_num, rfl, by rw [HNt.out, if_neg (by decide)], by rw [List.length_append, List.length_singleton], HIn'.out, HMb.out, HRl.out.1, HRl.out.2.1, HRl.out.2.2, by rw [List.length_append, List.length_singleton]; exact hslb, by rw [HDn.out, if_pos (by simp), List.length_append, List.length_append, HXl.out, List.length_singleton, List.length_singleton], by rw [List.length_append, List.length_singleton]; omega, fun i hi => ?_, fun y hy => by rw [HNt.out, if_neg (by decide)] at hy; exact HNx.out y hy, fun k hk hk' => ?_, hvwa, hbla.trans (hbb.below (by have := hbla.size; omega) (fun z hz => by have := (hsla.own (mem_ownL.1 hz)).1; omega))⟩, by simp [intOf]; omega⟩
                · rw [HDn.out, if_pos (by simp)]
                  rw [List.length_append, List.length_singleton] at hi
                  by_cases hi2 : i < xs.length
                  · have e1 : (xs ++ [((qx, lx, cx) : Sl)]).getD i (none, 0, 0) = xs.getD i (none, 0, 0) := by rw [List.getD_eq_getElem?_getD, List.getElem?_append_left hi2, List.getD_eq_getElem?_getD]
                    have e2 : (r.done ++ [b0]).getD i [] = r.done.getD i [] := by rw [List.getD_eq_getElem?_getD, List.getElem?_append_left (by have := HXl.out; omega), List.getD_eq_getElem?_getD]
                    rw [e1, e2]
                    exact HXb.out i hi2
                  · obtain rfl : i = xs.length := by omega
                    have e1 : (xs ++ [((qx, lx, cx) : Sl)]).getD xs.length (none, 0, 0) = (qx, lx, cx) := by simp
                    have e2 : (r.done ++ [b0]).getD xs.length [] = b0 := by rw [HXl.out]; simp
                    rw [e1, e2]
                    exact HIx.out
                · rw [List.length_append, List.length_singleton] at hk
                  rcases howb k hk with h | h
                  · exact hova k h hk'
                  · have := (HMa.out.own hk').2.1
                    omega
              · by_cases hz1 : e0 = 131
                · subst hz1
                  go_wp2_with (go_at_call 21; refine HAp.out.mono ?_; rintro e wa ⟨v', rfl, hMa, hba, hva⟩; obtain ⟨hsla, hova, hvwa, hbla⟩ := HFr.out v' wa hba hva)
                  refine ⟨⟨j + 1, r.step b0, v', xs, (qx, lx, cx), dq, dc, by omega, by go_num, rfl, by rw [HNt.out]; rfl, rfl, HIn'.out, hMa, HRl.out.1, HRl.out.2.1, HRl.out.2.2, hsla, by rw [HDn.out, if_neg (by decide)]; exact HXl.out, by omega, by rw [HDn.out, if_neg (by decide)]; exact HXb.out, fun y hy => by rw [HNt.out, if_pos (by simp)] at hy; cases hy; exact HIx.out, hova, hvwa, hbla⟩, by simp [intOf]; omega⟩
                · go_wp2_with (go_at_call 21; refine HAp.out.mono ?_; rintro e wa ⟨v', rfl, hMa, hba, hva⟩; obtain ⟨hsla, hova, hvwa, hbla⟩ := HFr.out v' wa hba hva)
                  refine ⟨⟨j + 1, r.step b0, v', xs, x, dq, dc, by omega, by go_num, rfl, by rw [HNt.out, if_neg hz1], rfl, HIn'.out, hMa, HRl.out.1, HRl.out.2.1, HRl.out.2.2, hsla, by rw [HDn.out, if_neg hz0]; exact HXl.out, by omega, by rw [HDn.out, if_neg hz0]; exact HXb.out, fun y hy => by rw [HNt.out, if_neg hz1] at hy; exact HNx.out y hy, hova, hvwa, hbla⟩, by simp [intOf]; omega⟩
            · have hji : ¬ ((j : Nat) : Int) < (ll : Nat) := by omega
              have HD : Hid (DiskAt [p, g] wr p g r.d) := hM.disk
              have hfit : 60 ≤ r.d.ss.length := by have := hinv.fits; omega
              have HFd : Hid ((scan r.d.ss 0 60 gen (60 + 1) 0 []).2 = r.done ∨ ∃ x, r.next = some x ∧ (scan r.d.ss 0 60 gen (60 + 1) 0 []).2 = r.done ++ [x]) := hinv.found (by omega)
              obtain ⟨k1, k2, k3⟩ := scan_okW r.d.ss 0 60 gen (60 + 1) 0 [] (by omega) (by simp) (by simp)
              have HSta : Hid (Calls Try.prog 23 #[.pointer (some ⟨p, 0, none⟩)] wr fun e w' => (∃ v, e = .returned v) ∧ DiskAt [p, g] w' p g r.d.start ∧ Buts [p, g] wr.heap.size wr w') := start_any hM.disk
              have HOp2 : Hid (∀ W, DiskAt [p, g] W p g r.d.start → Calls Try.prog 12 #[.pointer (some ⟨p, 0, none⟩), .int .i64 0, .int .i64 60, .int .u32 (gen : Nat)] W fun e w' => ∃ L v, e = .returned (.tuple #[.pointer (some ⟨L, 0, none⟩), .int .i64 0]) ∧ Below W.heap.size W w' ∧ MSt [p, g] W.heap.size w' L p g v r.d.start ⟨0, 60, gen, (scan r.d.ss 0 60 gen (60 + 1) 0 []).1, (scan r.d.ss 0 60 gen (60 + 1) 0 []).2, false⟩) := fun W h =>
                (open_live h (crLow_w h) h.lt (Nat.le_refl _) 0 60 gen (by omega) (by show 0 + 60 ≤ r.d.ss.length; omega) hgen rfl (by show 0 ≤ _; omega)).mono fun e w' ⟨L, v, a1, _, _, a4, a5⟩ => ⟨L, v, a1, a4, a5⟩
              obtain ⟨A, hA⟩ : ∃ A, (scan r.d.ss 0 60 gen (60 + 1) 0 []).1 = A := ⟨_, rfl⟩
              obtain ⟨R, hR⟩ : ∃ R, (scan r.d.ss 0 60 gen (60 + 1) 0 []).2 = R := ⟨_, rfl⟩
              simp only [hA, hR] at HOp2 HFd k1 k2 k3
              have HRb : Hid (R.length ≤ 60 ∧ ∀ z ∈ R, z.length ≤ 300000) := ⟨by omega, fun z hz => Nat.le_trans (k3 z hz) (by omega)⟩
              have HSlF : Hid (∀ W, Buts [p, g] wr.heap.size wr W → SlAt w8.heap.size W (.slice dq xs.length dc) xs ∧ Below w.heap.size w W) := fun W hb => by
                refine ⟨hsl.frame (fun k hk => hb.block k (hsl.own hk).2.1 (fun hx => ?_)), hbl.trans (hb.below hsz (by simp; omega))⟩
                obtain ⟨c1, c2, _⟩ := hM.rows
                obtain ⟨_, _, _, _, eK⟩ := hsl.own hk
                simp only [List.mem_cons, List.not_mem_nil, or_false] at hx
                rcases hx with rfl | rfl
                · obtain ⟨_, _, e⟩ := c1
                  exact absurd rfl (tag_ne eK e (by decide))
                · obtain ⟨_, _, e⟩ := c2
                  exact absurd rfl (tag_ne eK e (by decide))
              have HXb : Hid (∀ i, i < xs.length → IsBytes w.heap.size w (xs.getD i (none, 0, 0)).1 (xs.getD i (none, 0, 0)).2.1 (xs.getD i (none, 0, 0)).2.2 (r.done.getD i [])) := hxb
              have HNx : Hid (∀ y, r.next = some y → IsBytes w.heap.size w x.1 x.2.1 x.2.2 y) := hnx
              have HWn : Hid (∀ W, SlAt w8.heap.size W (.slice dq xs.length dc) xs → Below w.heap.size w W → WantAt W dq xs.length dc r.done) := fun W hs hb => hs.want HXl.out.symm (fun i hi => ((HXb.out i hi).below hb).mono hb.size)
              have HSm : Hid (∀ (W : World) (L : Nat) (v : Value) (n₀ : Nat) (q : Option Addr) (len c : Nat) (want : List (List Nat)), MSt [p, g] n₀ W L p g v r.d.start ⟨0, 60, gen, A, R, false⟩ → WantAt W q len c want → Calls Try.prog 14 #[.pointer (some ⟨L, 0, none⟩), .slice q len c] W fun e w' => e = .returned (.bool (decide (R = want))) ∧ Below W.heap.size W w') := fun W L v n₀ q len c want h hw => same_any h (by show R.length ≤ _; have := HRb.out.1; omega) HRb.out.2 q len c want hw
              clear hinv hM hrc hwr2 hsl hxb hnx hov hvw hbl hal hA hR k1 k2 k3
              by_cases hRd : R = r.done
              · have HDt : Hid (decide (R = r.done) = true) := decide_eq_true hRd
                go_wp2_with (first
                  | (go_at_call 23; refine HSta.out.mono ?_; rintro e wa ⟨⟨u, rfl⟩, hDa, hba⟩; obtain ⟨hsla, hbla⟩ := HSlF.out wa hba; have HDa : Hid (DiskAt [p, g] wa p g r.d.start) := hDa; clear hDa)
                  | (go_at_call 12; refine (HOp2.out _ HDa.out).mono ?_; rintro e wb ⟨L2, v2, rfl, hbb, hMb⟩; have HMb : Hid (MSt [p, g] wa.heap.size wb L2 p g v2 r.d.start ⟨0, 60, gen, A, R, false⟩) := hMb; have hblb : Below w.heap.size w wb := hbla.trans (hbb.mono hbla.size); have HWb : Hid (WantAt wb dq xs.length dc r.done) := HWn.out wb (hsla.frame (fun k hk => hbb.block k (hsla.own hk).2.1)) hblb; clear hMb)
                  | (go_at_call 14; refine (HSm.out _ _ _ _ _ _ _ _ HMb.out HWb.out).mono ?_; rw [HDt.out]; rintro e wc ⟨rfl, hbc⟩))
                (try rw [Exit.noGoto_ret])
                refine bodyPost_ret (results_tmp rfl _ _ _) rfl ?_
                exact ⟨rfl, hblb.trans (hbc.mono hblb.size)⟩
              · have HDf : Hid (decide (R = r.done) = false) := decide_eq_false hRd
                obtain ⟨y, hy, hRy⟩ := HFd.out.resolve_left hRd
                have hns : r.next.isSome = true := by rw [hy]; rfl
                obtain ⟨xq, xl, xc⟩ := x
                have hIy : IsBytes w.heap.size w xq xl xc y := HNx.out y hy
                have hx20 : xs.length ≤ 1000 := by omega
                have HAl : Hid (∀ W, SlAt w8.heap.size W (.slice dq xs.length dc) xs → Below w.heap.size w W → ∃ q1 c1 W1 q2 c2 W2, (Builtin.append_ #[39, 39] 39 #[.slice none 0 0, .slice dq xs.length dc]).run Try.prog W = .ok (.slice q1 xs.length c1) W1 ∧ (Builtin.append_ #[39, 39] 39 #[.slice q1 xs.length c1, .slice (some ⟨W1.heap.size, 0, none⟩) 1 1]).run Try.prog (W1.alloc (.cells #[.slice xq xl xc] 25)) = .ok (.slice q2 (xs.length + 1) c2) W2 ∧ WantAt W2 q2 (xs.length + 1) c2 (r.done ++ [y]) ∧ Below W.heap.size W W2) := fun W hs hb => by
                  obtain ⟨q1, c1, W1, q2, c2, W2, a1, a2, a3, a4⟩ := run_both hs hx20 xq xl xc
                  have hb2 : Below w.heap.size w W2 := hb.trans (a4.mono hb.size)
                  refine ⟨q1, c1, W1, q2, c2, W2, a1, a2, a3.want (by rw [List.length_append, List.length_append, HXl.out, List.length_singleton, List.length_singleton]) (fun i hi => ?_), a4⟩
                  rw [List.length_append, List.length_singleton] at hi
                  by_cases hi2 : i < xs.length
                  · have e1 : (xs ++ [((xq, xl, xc) : Sl)]).getD i (none, 0, 0) = xs.getD i (none, 0, 0) := by rw [List.getD_eq_getElem?_getD, List.getElem?_append_left hi2, List.getD_eq_getElem?_getD]
                    have e2 : (r.done ++ [y]).getD i [] = r.done.getD i [] := by rw [List.getD_eq_getElem?_getD, List.getElem?_append_left (by have := HXl.out; omega), List.getD_eq_getElem?_getD]
                    rw [e1, e2]
                    exact ((HXb.out i hi2).below hb2).mono hb2.size
                  · obtain rfl : i = xs.length := by omega
                    have e1 : (xs ++ [((xq, xl, xc) : Sl)]).getD xs.length (none, 0, 0) = (xq, xl, xc) := by simp
                    have e2 : (r.done ++ [y]).getD xs.length [] = y := by rw [HXl.out]; simp
                    rw [e1, e2]
                    exact (hIy.below hb2).mono hb2.size
                have HDt : Hid (decide (R = r.done ++ [y]) = true) := decide_eq_true hRy
                clear hy hRy hRd
                simp only [hns, slV]
                go_wp2_with (first
                  | (go_at_call 23; refine HSta.out.mono ?_; rintro e wa ⟨⟨u, rfl⟩, hDa, hba⟩; obtain ⟨hsla, hbla⟩ := HSlF.out wa hba; have HDa : Hid (DiskAt [p, g] wa p g r.d.start) := hDa; clear hDa)
                  | (go_at_call 12; refine (HOp2.out _ HDa.out).mono ?_; rintro e wb ⟨L2, v2, rfl, hbb, hMb⟩; have HMb : Hid (MSt [p, g] wa.heap.size wb L2 p g v2 r.d.start ⟨0, 60, gen, A, R, false⟩) := hMb; have hblb : Below w.heap.size w wb := hbla.trans (hbb.mono hbla.size); have hslb := hsla.frame (fun k hk => hbb.block k (hsla.own hk).2.1); have HWb : Hid (WantAt wb dq xs.length dc r.done) := HWn.out wb hslb hblb; clear hMb)
                  | (go_at_call 14; have _ := HRun2; refine (HSm.out _ _ _ _ _ _ _ _ (HMc.out.later hbf) HWf.out).mono ?_; rw [HDt.out]; rintro e wg ⟨rfl, hbg⟩)
                  | (go_at_call 14; refine (HSm.out _ _ _ _ _ _ _ _ HMb.out HWb.out).mono ?_; rw [HDf.out]; rintro e wc ⟨rfl, hbc⟩; have hblc : Below w.heap.size w wc := hblb.trans (hbc.mono hblb.size); have HMc : Hid (MSt [p, g] wa.heap.size wc L2 p g v2 r.d.start ⟨0, 60, gen, A, R, false⟩) := HMb.out.later hbc; obtain ⟨q1, c1, wd, q2, c2, wf, hrun1, hrun2, hWf, hbf⟩ := HAl.out wc (hslb.frame (fun k hk => hbc.block k (hslb.own hk).2.1)) hblc; have HRun1 : Hid (_ = _) := hrun1; have HRun2 : Hid (_ = _) := hrun2; have HWf : Hid (WantAt wf q2 (xs.length + 1) c2 (r.done ++ [y])) := hWf; clear hrun1 hrun2 hWf)
                  | ((with_reducible show wpList _ _ _ (Oper.mk (some 106) _ _ _ _ _ :: _) _ _); refine BigFrame.wpList_want (by rfl) fun K hK => wp_append_of (.const (.slice none 0 0)) (.tmp 105) 39 rfl rfl rfl HRun1.out (hK _ _ ?_); simp only [Act.put, List.setIfInBounds_toArray, List.set_cons_zero, List.set_cons_succ])
                  | ((with_reducible show wpList _ _ _ (Oper.mk (some 109) _ _ _ _ _ :: _) _ _); refine BigFrame.wpList_want (by rfl) fun K hK => wp_append_of (.tmp 106) (.tmp 108) 39 rfl rfl rfl HRun2.out (hK _ _ ?_); simp only [Act.put, List.setIfInBounds_toArray, List.set_cons_zero, List.set_cons_succ]))
                (try rw [Exit.noGoto_ret])
                refine bodyPost_ret (results_tmp rfl _ _ _) rfl ?_
                exact ⟨rfl, (hblc.trans (hbf.mono hblc.size)).trans (hbg.mono (Nat.le_trans hblc.size hbf.size))⟩
        · go_wp2_with (go_at_call 19; refine HFo.out.mono ?_; rintro e w8 ⟨rfl, hD8, hb8⟩)
          (try rw [Exit.noGoto_ret])
          refine bodyPost_ret (results_tmp rfl _ _ _) rfl ?_
          exact ⟨rfl, HBl.out.trans (hb8.below HBl.out.size (by simp; omega))⟩
  · have hfew' : fewL vs = false := by simpa using hfew
    rw [hfew'] at HFw
    go_enter Try.func6, Try.ntmps6
    go_wp2_with (first
      | (rw [HW1.out])
      | (go_at_call 8; refine HA.out.mono ?_; rintro e w2 ⟨rfl, hb2⟩; have hb02 : Below w.heap.size w w2 := hb1.trans (hb2.mono hb1.size))
      | (go_at_call 16; refine (HFw.out _ hb02).mono ?_; rintro e wq ⟨rfl, hwq⟩; obtain rfl := hwq.symm; clear hwq))
    go_ret
    exact ⟨rfl, hb02⟩
end Go.Proofs.Ytifjkkfienmdjaa
