/-
  Several texts in one: Sme, Nxp, Sme2, ROpn, OpensW.
-/
import Derived.Test.YtifjkkfienmdjaaAwS
import Derived.Test.YtifjkkfienmdjaaNx
import Derived.Test.YtifjkkfienmdjaaOpn
import Derived.Test.YtifjkkfienmdjaaLaid
/-
  Records, told one behind the other; the law's same.
-/
namespace Go.Proofs.Ytifjkkfienmdjaa
open Go.RowKit Go.Shelf
attribute [local go_sem] Oper.semAt_some

set_option maxHeartbeats 1000000 in
theorem records_any {L : Nat} {v : Value} {w : World} (q : Option Addr) (len c : Nat) (hv : v = .slice q len c) (h : w.cell? ⟨L, 5, none⟩ = some v) : Calls Try.prog 37 #[.pointer (some ⟨L, 0, none⟩)] w fun e w' => e = .returned (.func (.func 48) #[] #[.pointer (some ⟨w.heap.size, 0, none⟩)]) ∧ w' = w.alloc (.cells #[v] 39) := by
  subst hv
  have hlt := World.block_lt_of_cell? w _ h
  have hc : (w.alloc (.cells #[.slice none 0 0] 39)).cell? ⟨L, 5, none⟩ = some (.slice q len c) := (((Below.refl _ w).alloc (Nat.le_refl _) _).cell (p := ⟨L, 5, none⟩) hlt).trans h
  clear h
  go_enter Try.func37, Try.ntmps37
  go_wp2
  go_ret
  exact ⟨rfl, rfl⟩

set_option maxRecDepth 100000 in
set_option maxHeartbeats 2000000 in
theorem records1_iter (n : Nat) (hn : 4 ≤ n) (l B n₀ : Nat) (q : Option Addr) (len c : Nat) (recs : List (List Nat)) (M : List Nat) (W : World) (hbx : Boxed W B 39 (.slice q len c)) (hR : RecsAt n₀ W (.slice q len c) recs) (hM : ∀ x ∈ M, ∃ c t fr, W.heap[x]? = some (Obj.cells c t fr) ∧ t ≠ 5 ∧ t ≠ 25) (hlen : len ≤ 100000) (hl4 : ∀ z ∈ recs, z.length ≤ 300000) :
    IterNx Fence.wide n Try.prog 48 #[.pointer (some ⟨B, 0, none⟩)] (fun x : Value × List Nat => #[x.1]) (fun x X => Bytes5 X x.1 x.2) (KpC M W.heap.size) (KpC M W.heap.size) (fun pre x => ∃ post, recs = pre.map (·.2) ++ x.2 :: post) (fun xs => xs.map (·.2) = recs) (fun _ => True) l W := by
  intro J Jx hJ hJx hY h0
  have h1 : 1 ≤ n := by omega
  have hfn : ∀ f, Fence.wide.fn f := fun _ => trivial
  have hc := hbx.cell
  have HR : Hid (RecsAt n₀ W (.slice q len c) recs) := hR
  obtain ⟨hrl, hlc, hcc⟩ := hR.cap
  have HRl : Hid (recs.length = len) := hrl
  have HK5 : Hid (∀ X, CK M W X → KeepT 5 W X) := fun X hk k c fr hc => hk k c 5 fr (fun hx => by
    obtain ⟨c', t', fr', e, h5, _⟩ := hM k hx
    rw [hc] at e
    cases e
    exact h5 rfl) hc
  have HRX : Hid (∀ X, CK M W X → RecsAt n₀ X (.slice q len c) recs) := fun X hk => HR.out.frame (fun k hk' => by
    obtain ⟨_, _, c', fr', e⟩ := HR.out.own hk'
    rw [e]
    exact hk k c' 25 fr' (fun hx => by
      obtain ⟨c2, t2, fr2, e2, _, h25⟩ := hM k hx
      rw [e] at e2
      cases e2
      exact h25 rfl) e) (HK5.out X hk)
  refine callsIn_of_wp Try.func48 rfl trivial ?_ rfl
  simp only [Try.ntmps48, List.size_toArray, List.length_cons, List.length_nil, Nat.reduceAdd, Nat.reduceSub, Array.replicate_succ, Array.replicate_zero, List.push_toArray, List.append_toArray, List.nil_append, List.cons_append]
  clear hbx hR hrl hM
  gi_wp2
  gi_loopw [7] (fun i wr => ∃ (k : Nat) (pre : List (Value × List Nat)), k ≤ len ∧ i = .int .i64 k ∧ pre.map (·.2) = recs.take k ∧ J pre wr ∧ CK M W wr ∧ W.heap.size ≤ wr.heap.size) (fun i _ => len - (intOf i).toNat)
  case atStart => exact ⟨0, [], Nat.zero_le _, rfl, by simp, h0, fun _ _ _ _ _ h => h, Nat.le_refl _⟩
  case round =>
    obtain ⟨k, pre, hk, rfl, hpre, hj, hck, hsz⟩ := hrel
    have HCk : Hid (CK M W wr) := hck
    by_cases hlt : k < len
    · have hki : (k : Int) < (len : Int) := by omega
      obtain ⟨G, x, rfl, hcx, hbx⟩ := (HRX.out wr hck).at hlt
      obtain ⟨zs, hzs⟩ : ∃ zs, recs.getD k [] = zs := ⟨_, rfl⟩
      rw [hzs] at hbx
      have hkl : k < recs.length := by rw [HRl.out]; exact hlt
      have hmem : zs ∈ recs := by rw [← hzs, List.getD_eq_getElem?_getD, List.getElem?_eq_getElem hkl, Option.getD_some]; exact List.getElem_mem hkl
      have hzl := hl4 zs hmem
      have HT : Hid (recs.take (k + 1) = recs.take k ++ [zs]) := by show _ = _; rw [List.take_succ_eq_append_getElem hkl, ← hzs, List.getD_eq_getElem?_getD, List.getElem?_eq_getElem hkl, Option.getD_some]
      have HNx : Hid (∃ post, recs = pre.map (·.2) ++ zs :: post) := ⟨recs.drop (k + 1), by
        have : recs = recs.take (k + 1) ++ recs.drop (k + 1) := (List.take_append_drop _ _).symm
        rw [HT.out, ← hpre, List.append_assoc, List.singleton_append] at this
        exact this⟩
      have hz256 : ∀ z ∈ zs, z < 256 := by obtain ⟨_, _, _, _, _, _, _, h5, _⟩ := hbx; exact h5
      obtain ⟨qx, lx, cx, rfl, hlx⟩ : ∃ qx lx cx, x = .slice qx lx cx ∧ zs.length = lx := by obtain ⟨a, b, c, e, e2, _⟩ := hbx; exact ⟨a, b, c, e, e2⟩
      have HCl : Hid (Calls Try.prog 41 #[.slice qx lx cx] wr fun e w' => ∃ u, e = .returned u ∧ Bytes5 w' u zs ∧ Below wr.heap.size wr w') := (clone41_any hbx.bytes (by omega)).mono fun e w' ⟨u, b1, b2, b3⟩ => ⟨u, b1, Bytes5.of_own b2 hz256, b3⟩
      have HY : Hid (∀ Y u, Below wr.heap.size wr Y → Bytes5 Y u zs → YieldAt Fence.wide (n - 1) Try.prog l #[u] Y fun e W' => (e = .returned (.bool true) ∧ J (pre ++ [(u, zs)]) W' ∧ KpC M W.heap.size Y W') ∨ (e = .returned (.bool false) ∧ Jx (pre ++ [(u, zs)]) W' ∧ KpC M W.heap.size Y W')) := fun Y u hb hx => hY pre (u, zs) Y (hJ _ _ _ hj (hb.mono hsz)) hx HNx.out
      have HPr : Hid (∀ u : Value, (pre ++ [(u, zs)]).map (·.2) = recs.take (k + 1)) := fun u => by rw [List.map_append, hpre, HT.out]; rfl
      clear hY hj hbx hck hpre hmem hzs hl4
      gi_wp2_with (first
        | (gi_at_call 41; refine (callsIn_wide.2 HCl.out).mono ?_; rintro e Y2 ⟨u, rfl, hx2, hb2⟩; obtain ⟨fn, tmps, assign, body, hy, hR⟩ := HY.out Y2 u hb2 hx2))
      refine RoundIn.mono hR ?_
      rintro e W3 (⟨rfl, hJ3, hk3⟩ | ⟨rfl, hJ3, hk3⟩)
      · gi_wp2
        go_roundw
        case rel => exact ⟨k + 1, _, by omega, by go_num, HPr.out u, hJ3, (HCk.out.trans (CK.of_below hb2)).trans hk3.1, Nat.le_trans hsz (Nat.le_trans hb2.size hk3.2.size)⟩
        case measure => simp [intOf]; omega
      · gi_wp2
        refine bodyPost_ret (results_none rfl _ _ _) rfl ?_
        exact ⟨⟨_, rfl⟩, .inr ⟨_, trivial, hJ3⟩⟩
    · obtain rfl : k = len := by omega
      gi_wp2
      refine ⟨rfl, _, results_none rfl _ _ _, ?_⟩
      exact ⟨⟨_, rfl⟩, .inl ⟨_, by rw [hpre, List.take_of_length_le (by rw [HRl.out]; exact Nat.le_refl _)], hj⟩⟩
end Go.Proofs.Ytifjkkfienmdjaa
/-
  A law of the walk that names no program: a range over a function that tells a given list, the loop's variable in a slot.
-/
namespace Go.Proofs.Ytifjkkfienmdjaa
open Go Go.RowKit

section
variable {F : Fence} {n : Nat} {P : Program}
theorem wpIn_rangeFunc_nxp {α : Type} {g : Operand} {ps : Array Tmp} {assign body : Code} {Q : Exit → Act → World → Prop} {a : Act} {w : World}
    (hro : F.round = none) (h1 : 1 ≤ n) {gf : Nat} {lb : Array Value} (hg : a.eval g = .func (.func gf) #[] lb) (hFg : F.fn gf) (eg : ∀ args w, (callFunc gf args).run P w = .ok (.enter gf args) w)
    {encs : α → Array Value} {Ok : α → World → Prop} {Kp : World → World → Prop} {Kx : World → World → Prop} {Nx : List α → α → Prop} {S Sp : List α → Prop}
    (hit : ∀ W, W.heap.size = w.heap.size + 2 → Below w.heap.size w W → IterNx F (n - 1) P gf lb encs Ok Kp Kx Nx S Sp (w.heap.size + 1) W)
    (hKt : ∀ {A B C : World}, Kp A B → Kp B C → Kp A C) (hKb : ∀ (W : World) (o o' : Obj), W.heap[w.heap.size + 1]? = some o → o.isCells = false → Kp W (W.putObj (w.heap.size + 1) o'))
    (hKx1 : ∀ {A B C : World}, Kp A B → Kx B C → Kx A C) (hKx2 : ∀ {A B C : World}, Kx A B → Kp B C → Kx A C) (hps : ∀ x, (encs x).size = ps.size)
    (I : List α → World → Prop) (Ix : Code → List α → World → Prop) (hI : Low w.heap.size I) (hIx : ∀ c, Low w.heap.size (Ix c)) (hOk : ∀ (x : α) (W : World) (o o' : Obj), Ok x W → W.heap[w.heap.size + 1]? = some o → o.isCells = false → Ok x (W.putObj (w.heap.size + 1) o')) (h0 : I [] w) (a₁ : α → Act)
    (hassign : ∀ (l : Nat) (x : α) (W : World) (K : Act → World → Prop), K (a₁ x) W →
      assign.wpIn (F.inRound l) (n - 1 - 1) P (Exit.then K (fun _ _ _ => False)) { tmps := (ps.zip (encs x)).foldl (fun t (p, v) => t.setIfInBounds p v) a.tmps, defers := [] } W)
    (hbody : ∀ (l : Nat) (pre : List α) (x : α) (W : World), I pre W → Ok x W → Nx pre x → body.wpIn (F.inRound l) (n - 1 - 1) P (roundWord2 w.heap.size Kp Kx I Ix (pre ++ [x]) W) (a₁ x) W)
    (hdone : ∀ (D : Nat) (xs : List α) (W : World), w.heap.size ≤ D → S xs → I xs W → W.heap[D]? = some (.deferred (some [])) → Q .normal { a with defers := { target := .collected D, args := #[] } :: a.defers } W)
    (hstop : ∀ (D : Nat) (c : Code) (pre : List α) (W : World), w.heap.size ≤ D → Sp pre → Ix c pre W → W.heap[D]? = some (.deferred (some [])) → c.wpIn F n P Q { a with defers := { target := .collected D, args := #[] } :: a.defers } W) :
    (Code.rangeFunc g ps assign body).wpIn F n P Q a w := by
  refine wpIn_rangeFunc fun fn hfn => ?_
  rw [hro]
  -- the loop's record, by its state and its pending jump
  obtain ⟨rec, hrec⟩ : ∃ rec : LoopState → Option Code → Loop, rec = fun st pe => { state := st, pending := pe, fn, tmps := a.tmps, params := ps, assign, body, defers := w.heap.size } := ⟨_, rfl⟩
  obtain ⟨W1, hW1⟩ : ∃ W1, (w.alloc (.deferred (some []))).alloc (.loop (rec .ready none)) = W1 := ⟨_, rfl⟩
  have hs1 : W1.heap.size = w.heap.size + 2 := by rw [← hW1]; simp
  have hb1 : Below w.heap.size w W1 := by rw [← hW1]; exact ((Below.refl _ w).alloc (Nat.le_refl _) _).alloc (by simp) _
  have hL1 : W1.heap[w.heap.size + 1]? = some (.loop (rec .ready none)) := by
    rw [← hW1]; have := World.alloc_heap_new (w.alloc (.deferred (some []))) (.loop (rec .ready none)); rwa [World.size_alloc] at this
  have hD1 : W1.heap[w.heap.size]? = some (.deferred (some [])) := by
    rw [← hW1]; exact (Below.heap_alloc _ _ _ (by simp)).trans (World.alloc_heap_new w _)
  have hI1 : I [] W1 := hI _ _ _ h0 hb1
  -- what is said of a world between two rounds, of a world behind the last one
  obtain ⟨T, hT⟩ : ∃ T : LoopState → Option Code → World → Prop, T = fun st pe W => W.heap[w.heap.size + 1]? = some (.loop (rec st pe)) ∧ W.heap[w.heap.size]? = some (.deferred (some [])) := ⟨_, rfl⟩
  have hTlow : ∀ st pe, Low W1.heap.size (fun (_ : List α) W => T st pe W) := by
    intro st pe s A B hs hg'
    rw [hT] at hs ⊢
    exact ⟨(hg'.block _ (by omega)).trans hs.1, (hg'.block _ (by omega)).trans hs.2⟩
  refine ⟨w.heap.size + 1, [{ target := .collected w.heap.size, args := #[] }], W1, { target := .fn (.func gf) lb, args := #[.func (.yield (w.heap.size + 1)) #[] #[]] }, W1, gf,
    #[.func (.yield (w.heap.size + 1)) #[] #[]] ++ lb, W1, ?_, ?_, ?_, ?_, fun _ => h1, ?_⟩
  · rw [← hW1, hrec]; exact run_enterLoop_outer _ _ _ _ _
  · simp only [resolve, hg]
    simp [go_sem]
  · intro f' hf'
    simp [Target.leads] at hf'
    subst hf'
    exact hFg
  · simp [invoke, go_sem, eg]
  · refine (hit W1 hs1 hb1 (fun pre W => I pre W ∧ T .ready none W) (fun pre W => ∃ c, Ix c pre W ∧ T .done (some c) W)
      (Low.and (hI.mono (by omega)) (hTlow _ _))
      (fun s A B ⟨c, hc, ht⟩ hg' => ⟨c, (hIx c).mono (by omega) s A B hc hg', hTlow _ _ s A B ht hg'⟩) ?_ ⟨hI1, by rw [hT]; exact ⟨hL1, hD1⟩⟩).mono ?_
    · rintro pre x W ⟨hi, ht⟩ hok hN
      rw [hT] at ht
      obtain ⟨hl, hd⟩ := ht
      have hlt : w.heap.size + 1 < W.heap.size := (Array.getElem?_eq_some_iff.1 hl).1
      have hy := run_yield (P := P) (args := encs x) hl (by rw [hrec]; exact hps x)
      rw [hrec] at hy
      refine ⟨fn, _, assign, body, hy, roundIn_of_wpIn hfn (hassign _ x W _ ⟨_, run_beginRound hl (by rw [hrec]), ?_⟩)⟩
      -- the world in which the body begins
      obtain ⟨W2, hW2⟩ : ∃ W2, W.putObj (w.heap.size + 1) (.loop { rec .ready none with state := .busy }) = W2 := ⟨_, rfl⟩
      rw [hW2]
      have hl2 : W2.heap[w.heap.size + 1]? = some (.loop { rec .ready none with state := .busy }) := by rw [← hW2]; exact World.putObj_heap_same hlt
      have hd2 : W2.heap[w.heap.size]? = some (.deferred (some [])) := by rw [← hW2]; exact (World.putObj_heap_other (by omega)).trans hd
      have hk2 : Kp W W2 := by rw [← hW2]; exact hKb _ _ _ hl rfl
      have hi2 : I pre W2 := by rw [← hW2]; exact low_putObj hI _ hi (by omega)
      have ho2 : Ok x W2 := by rw [← hW2]; exact hOk _ _ _ _ hok hl rfl
      -- whatever way the body is left
      have fin : ∀ (jump : Option Code) (W3 : World), KeepsFrom w.heap.size W2 W3 → Kp W2 W3 →
          ∃ W4, (Instr.endRound (w.heap.size + 1) jump).run P W3 = .ok (.bool jump.isNone) W4 ∧ T (if jump.isNone then .ready else .done) jump W4 ∧ Kp W W4 ∧ (I (pre ++ [x]) W3 → I (pre ++ [x]) W4) ∧ (∀ c, Ix c (pre ++ [x]) W3 → Ix c (pre ++ [x]) W4) := by
        intro jump W3 hk3 hkp
        have hl3 := hk3.same _ _ (by omega) hl2 rfl
        have hd3 := hk3.same _ _ (Nat.le_refl _) hd2 rfl
        refine ⟨_, run_endRound (P := P) jump hl3, ?_, hKt (hKt hk2 hkp) (hKb _ _ _ hl3 rfl), fun h => low_putObj hI _ h (by omega), fun c h => low_putObj (hIx c) _ h (by omega)⟩
        rw [hT, hrec]
        exact ⟨World.putObj_heap_same (Array.getElem?_eq_some_iff.1 hl3).1, (World.putObj_heap_other (by omega)).trans hd3⟩
      have finx : ∀ (jump : Option Code) (W3 : World), KeepsFrom w.heap.size W2 W3 → Kx W2 W3 →
          ∃ W4, (Instr.endRound (w.heap.size + 1) jump).run P W3 = .ok (.bool jump.isNone) W4 ∧ T (if jump.isNone then .ready else .done) jump W4 ∧ Kx W W4 ∧ (I (pre ++ [x]) W3 → I (pre ++ [x]) W4) ∧ (∀ c, Ix c (pre ++ [x]) W3 → Ix c (pre ++ [x]) W4) := by
        intro jump W3 hk3 hkp
        have hl3 := hk3.same _ _ (by omega) hl2 rfl
        have hd3 := hk3.same _ _ (Nat.le_refl _) hd2 rfl
        refine ⟨_, run_endRound (P := P) jump hl3, ?_, hKx2 (hKx1 hk2 hkp) (hKb _ _ _ hl3 rfl), fun h => low_putObj hI _ h (by omega), fun c h => low_putObj (hIx c) _ h (by omega)⟩
        rw [hT, hrec]
        exact ⟨World.putObj_heap_same (Array.getElem?_eq_some_iff.1 hl3).1, (World.putObj_heap_other (by omega)).trans hd3⟩
      refine wpIn_mono (hbody _ pre x W2 hi2 ho2 hN) ?_
      rintro e a3 W3 hp
      cases e with
      | normal =>
        obtain ⟨W4, hr, ht, hk, hi4, _⟩ := fin none W3 hp.1 hp.2.1
        exact ⟨_, _, hr, .inl ⟨rfl, ⟨hi4 hp.2.2, ht⟩, hk⟩⟩
      | ret =>
        obtain ⟨W4, hr, ht, hk, _, hx4⟩ := finx (some .ret) W3 hp.1 hp.2.1
        exact ⟨_, _, hr, .inr ⟨rfl, ⟨_, hx4 _ hp.2.2, ht⟩, hk⟩⟩
      | exit id =>
        obtain ⟨W4, hr, ht, hk, _, hx4⟩ := finx (some (.exit id)) W3 hp.1 hp.2.1
        exact ⟨_, _, hr, .inr ⟨rfl, ⟨_, hx4 _ hp.2.2, ht⟩, hk⟩⟩
      | goto t =>
        obtain ⟨W4, hr, ht, hk, _, hx4⟩ := finx (some (.goto t)) W3 hp.1 hp.2.1
        exact ⟨_, _, hr, .inr ⟨rfl, ⟨_, hx4 _ hp.2.2, ht⟩, hk⟩⟩
      | panic ch => exact hp.elim
      | outgrown => exact hp.elim
    · rintro e W2 ⟨⟨v, rfl⟩, (⟨xs, hS, hi, ht⟩ | ⟨pre, hSp, c, hi, ht⟩)⟩
      · rw [hT] at ht
        have hr := run_endLoop (P := P) ht.1 (by rw [hrec]; simp)
        rw [hrec] at hr
        exact ⟨none, _, hr, hdone _ xs _ (Nat.le_refl _) hS (low_putObj hI _ hi (by omega)) ((World.putObj_heap_other (by omega)).trans ht.2)⟩
      · rw [hT] at ht
        have hr := run_endLoop (P := P) ht.1 (by rw [hrec]; simp)
        rw [hrec] at hr
        exact ⟨some c, _, hr, hstop _ c pre _ (Nat.le_refl _) hSp (low_putObj (hIx c) _ hi (by omega)) ((World.putObj_heap_other (by omega)).trans ht.2)⟩


end
end Go.Proofs.Ytifjkkfienmdjaa
/-
  The law's same: whether a log has just these records.
-/
namespace Go.Proofs.Ytifjkkfienmdjaa
open Go.RowKit Go.Shelf
attribute [local go_sem] Oper.semAt_some

/-- A list of bytes, as it is read. -/
def WantAt (W : World) (q : Option Addr) (len cap : Nat) (want : List (List Nat)) : Prop :=
  want.length = len ∧ len ≤ cap ∧ cap ≤ 9223372036854775807 ∧ (∀ z ∈ want, ∀ y ∈ z, y < 256) ∧ (len = 0 ∨ ∃ b off, q = some ⟨b, off, none⟩ ∧ b < W.heap.size ∧ ∀ i, i < len → ∃ qx lx cx, W.cell? ⟨b, off + i, none⟩ = some (.slice qx lx cx) ∧ IsBytes W.heap.size W qx lx cx (want.getD i []))
theorem WantAt.later {W W' : World} {q : Option Addr} {len cap : Nat} {want : List (List Nat)} (h : WantAt W q len cap want) (hb : Below W.heap.size W W') : WantAt W' q len cap want := by
  obtain ⟨h1, h2, h3, h3', h4⟩ := h
  refine ⟨h1, h2, h3, h3', ?_⟩
  rcases h4 with h | ⟨b, off, e, hlt, hc⟩
  · exact .inl h
  · refine .inr ⟨b, off, e, Nat.lt_of_lt_of_le hlt hb.size, fun i hi => ?_⟩
    obtain ⟨qx, lx, cx, e1, e2⟩ := hc i hi
    exact ⟨qx, lx, cx, (hb.cell (p := ⟨b, off + i, none⟩) hlt).trans e1, e2.later hb⟩
theorem take_ne {recs want pre : List (List Nat)} {z : List Nat} {post : List (List Nat)} (h : recs = pre ++ z :: post) (hb : want.length ≤ pre.length ∨ z ≠ want.getD pre.length []) : recs ≠ want := fun e => by
  subst e
  rcases hb with hb | hb
  · rw [h, List.length_append, List.length_cons] at hb
    omega
  · apply hb
    rw [h, List.getD_eq_getElem?_getD, List.getElem?_append_right (Nat.le_refl _), Nat.sub_self]
    rfl

set_option maxRecDepth 100000 in
set_option maxHeartbeats 4000000 in
theorem same_in (n : Nat) (hn : 8 ≤ n) {F : List Nat} {n₀ : Nat} {w : World} {L p g : Nat} {v : Value} {d : St} {l : Lg} (h : MSt F n₀ w L p g v d l) (hrl : l.recs.length ≤ 100000) (hl4 : ∀ z ∈ l.recs, z.length ≤ 300000) (wq : Option Addr) (wl wc : Nat) (want : List (List Nat)) (hW : WantAt w wq wl wc want) :
    CallsIn Fence.wide n Try.prog 14 #[.pointer (some ⟨L, 0, none⟩), .slice wq wl wc] w fun e w' => e = .returned (.bool (decide (l.recs = want))) ∧ Below w.heap.size w w' := by
  have h1n : 1 ≤ n := by omega
  have hfn : ∀ f, Fence.wide.fn f := fun _ => trivial
  obtain ⟨vq, vc, rfl⟩ := h.log.2.slice
  have HSt : Hid (MSt F n₀ w L p g _ d l) := h
  have HW : Hid (WantAt w wq wl wc want) := hW
  have hwl := hW.1
  have hwc := hW.2.1
  have hwcc := hW.2.2.1
  obtain ⟨recs, hrecs⟩ : ∃ recs, l.recs = recs := ⟨_, rfl⟩
  rw [hrecs] at hrl hl4 ⊢
  obtain ⟨w3, hw3⟩ : ∃ w3, ((w.alloc (.cells #[.slice wq wl wc] 39)).alloc (.cells #[.bool false] 4)).alloc (.cells #[.int .i64 0] 3) = w3 := ⟨_, rfl⟩
  have hb3 : Below w.heap.size w w3 := by rw [← hw3]; exact two_below.alloc (by simp; omega) _
  have hs3 : w3.heap.size = w.heap.size + 3 := by rw [← hw3]; simp
  have HW3 : Hid (((w.alloc (.cells #[.slice wq wl wc] 39)).alloc (.cells #[.bool false] 4)).alloc (.cells #[.int .i64 0] 3) = w3) := hw3
  have bW3 : Boxed w3 w.heap.size 39 (.slice wq wl wc) := by rw [← hw3]; exact ((Boxed.new w 39 _).alloc _).alloc _
  have bR3 : Row w3 (w.heap.size + 1) 4 [.bool false] := by rw [← hw3]; exact (two_row w _ 4 _).later ((Below.refl _ _).alloc (Nat.le_refl _) _)
  have bN3 : Boxed w3 (w.heap.size + 2) 3 (.int .i64 0) := by
    rw [← hw3]
    have := Boxed.new ((w.alloc (.cells #[.slice wq wl wc] 39)).alloc (.cells #[.bool false] 4)) 3 (.int .i64 0)
    rwa [World.size_alloc, World.size_alloc] at this
  have hS3 := h.later hb3
  have hc5 := hS3.log.1.cell (i := 5) rfl
  obtain ⟨w4, hw4⟩ : ∃ w4, w3.alloc (.cells #[.slice vq l.recs.length vc] 39) = w4 := ⟨_, rfl⟩
  have hb34 : Below w3.heap.size w3 w4 := by rw [← hw4]; exact (Below.refl _ _).alloc (Nat.le_refl _) _
  have HRc : Hid (Calls Try.prog 37 #[.pointer (some ⟨L, 0, none⟩)] w3 fun e w' => e = .returned (.func (.func 48) #[] #[.pointer (some ⟨w3.heap.size, 0, none⟩)]) ∧ w' = w4) := (records_any vq l.recs.length vc rfl hc5).mono fun e w' ⟨a, b⟩ => ⟨a, b.trans hw4⟩
  have bA4 : Boxed w4 w3.heap.size 39 (.slice vq l.recs.length vc) := by rw [← hw4]; exact Boxed.new w3 39 _
  have hs4 : w4.heap.size = w.heap.size + 4 := by rw [← hw4]; simp [hs3]
  rw [hs3] at HRc bA4
  rw [hrecs] at bA4
  have HS4 : Hid (MSt F n₀ w4 L p g _ d l) := hS3.later hb34
  have HBe4 : Hid (Below w.heap.size w w4) := hb3.trans (hb34.mono hb3.size)
  have HbW4 : Hid (Boxed w4 w.heap.size 39 (.slice wq wl wc)) := boxed_below bW3 hb34
  have HbR4 : Hid (Row w4 (w.heap.size + 1) 4 [.bool false]) := bR3.later hb34
  have HbN4 : Hid (Boxed w4 (w.heap.size + 2) 3 (.int .i64 0)) := boxed_below bN3 hb34
  have HbA4 : Hid (Boxed w4 (w.heap.size + 3) 39 (.slice vq recs.length vc)) := bA4
  have HRe4 : Hid (RecsAt n₀ w4 (.slice vq recs.length vc) recs) := by rw [← hrecs]; exact HS4.out.log.2
  have hLw := HSt.out.lt.2.2
  have HLow : Hid (Low w4.heap.size (fun (pre : List (Value × List Nat)) A => Boxed A (w.heap.size + 2) 3 (.int .i64 (pre.length : Nat)) ∧ Row A (w.heap.size + 1) 4 [.bool false] ∧ pre.map (·.2) = want.take pre.length ∧ pre.length ≤ wl ∧ CK [w.heap.size + 1, w.heap.size + 2] w4 A ∧ Below w.heap.size w A ∧ w4.heap.size ≤ A.heap.size)) := fun pre A A' ⟨a1, a2, a3, a4, a5, a6, a7⟩ hb => ⟨(hb.block _ (by omega)).trans a1, a2.below hb (by omega), a3, a4, fun k c t fr hk hc => (hb.block k (Array.getElem?_eq_some_iff.1 hc).1).trans (a5 k c t fr hk hc), a6.trans (hb.mono (by omega)), Nat.le_trans a7 hb.size⟩
  have HLowx : Hid (∀ c : Code, Low w4.heap.size (fun (_ : List (Value × List Nat)) A => c = .ret ∧ Row A (w.heap.size + 1) 4 [.bool false] ∧ recs ≠ want ∧ Below w.heap.size w A)) := fun c _ A A' ⟨a1, a2, a3, a4⟩ hb => ⟨a1, a2.below hb (by omega), a3, a4.trans (hb.mono (by omega))⟩
  obtain ⟨bE, hbE⟩ : ∃ b, decide (recs = want) = b := ⟨_, rfl⟩
  rw [hbE]
  have HBE : Hid (decide (recs = want) = bE) := hbE
  clear hbE
  clear hw3 hw4 bW3 bR3 bN3 bA4 h hS3 hc5 hb3 hb34 hW
  refine callsIn_of_wp_marks Try.func14 rfl trivial ?_ rfl
  simp only [Try.ntmps14, List.size_toArray, List.length_cons, List.length_nil, Nat.reduceAdd, Nat.reduceSub, Array.replicate_succ, Array.replicate_zero, List.push_toArray, List.append_toArray, List.nil_append, List.cons_append]
  gi_wp2_with (first
    | (gi_at_call 37; rw [HW3.out]; refine (callsIn_wide.2 HRc.out).mono ?_; rintro e w' ⟨rfl, hw'⟩; obtain rfl := hw'.symm; clear hw'))
  refine wpIn_rangeFunc_nxp rfl h1n (gf := 48) (lb := #[.pointer (some ⟨w.heap.size + 3, 0, none⟩)]) rfl trivial (enters_of Try.func48 (by kernel_rfl) rfl)
    (encs := fun x : Value × List Nat => #[x.1]) (Ok := fun x X => Bytes5 X x.1 x.2) (Kp := KpC [w.heap.size + 1, w.heap.size + 2] (w4.heap.size + 2)) (Kx := KpC [w.heap.size + 1, w.heap.size + 2] (w4.heap.size + 2)) (Nx := fun pre x => ∃ post, recs = pre.map (·.2) ++ x.2 :: post) (S := fun xs => xs.map (·.2) = recs) (Sp := fun _ => True)
    (fun W hsz hb => by
      have := records1_iter (n - 1) (by omega) (w4.heap.size + 1) (w.heap.size + 3) n₀ vq recs.length vc recs [w.heap.size + 1, w.heap.size + 2] W (boxed_below HbA4.out hb) (HRe4.out.kept (KeepT.of_below hb) (KeepT.of_below hb)) (fun x hx => by
        simp only [List.mem_cons, List.not_mem_nil, or_false] at hx
        rcases hx with rfl | rfl
        · exact ⟨_, _, _, HbR4.out.later hb, by decide, by decide⟩
        · exact ⟨_, _, _, boxed_below HbN4.out hb, by decide, by decide⟩) hrl hl4
      rw [hsz] at this
      exact this)
    KpC.trans (fun A o o' ho hc => KpC.record (by omega) o' ho hc) (fun h k => h.trans k) (fun h k => h.trans k) (fun _ => rfl)
    (fun pre A => Boxed A (w.heap.size + 2) 3 (.int .i64 (pre.length : Nat)) ∧ Row A (w.heap.size + 1) 4 [.bool false] ∧ pre.map (·.2) = want.take pre.length ∧ pre.length ≤ wl ∧ CK [w.heap.size + 1, w.heap.size + 2] w4 A ∧ Below w.heap.size w A ∧ w4.heap.size ≤ A.heap.size)
    (fun c _ A => c = .ret ∧ Row A (w.heap.size + 1) 4 [.bool false] ∧ recs ≠ want ∧ Below w.heap.size w A)
    HLow.out HLowx.out (fun x W o o' hx ho hc => hx.kept (fun k c fr hk => by rw [World.putObj_heap_other (fun e => by subst e; rw [hk] at ho; cases ho; cases hc)]; exact hk)) ⟨HbN4.out, HbR4.out, by simp, Nat.zero_le _, fun _ _ _ _ _ h => h, HBe4.out, Nat.le_refl _⟩
    (fun x => { tmps := #[.pointer (some ⟨L, 0, none⟩), .slice wq wl wc, undef, .pointer (some ⟨w.heap.size, 0, none⟩), .pointer (some ⟨w.heap.size + 1, 0, none⟩), .pointer (some ⟨w.heap.size + 1 + 1, 0, none⟩), x.1, .pointer (some ⟨L, 0, none⟩), .func (.func 48) #[] #[.pointer (some ⟨w.heap.size + 3, 0, none⟩)], x.1, undef, undef, undef, undef, undef, undef, undef, undef, undef, undef, undef, undef, undef, undef, undef, undef, undef, undef, undef, undef, undef, undef, undef, undef, undef, undef], defers := [] }) ?assign ?body ?done ?stop
  case assign =>
    intro li x A K hK
    gi_wp2
    exact hK
  case body =>
    rintro li pre x A ⟨a1, a2, a3, a4, a5, a6, a7⟩ hok ⟨post, hpost⟩
    obtain ⟨k, hk⟩ : ∃ k, pre.length = k := ⟨_, rfl⟩
    rw [hk] at a1 a3 a4
    obtain ⟨xv, zs⟩ := x
    obtain ⟨qx, lx, cx, rfl, hlx⟩ : ∃ qx lx cx, xv = .slice qx lx cx ∧ zs.length = lx := by obtain ⟨a, b, c, e, e2, _⟩ := hok; exact ⟨a, b, c, e, e2⟩
    have bWA : Boxed A w.heap.size 39 (.slice wq wl wc) := a5.boxed (by simp) HbW4.out
    have hz256 : ∀ z ∈ zs, z < 256 := by obtain ⟨_, _, _, _, _, _, _, h5, _⟩ := hok; exact h5
    have HSx : Hid (Str A (.slice qx lx cx) (strOf zs)) := str_of_bytes hok.bytes
    have HWA : Hid (WantAt A wq wl wc want) := HW.out.later a6
    have hcR := a2.cell (i := 0) rfl
    have hfR := a2.frozen
    have hsA : w.heap.size + 4 ≤ A.heap.size := by omega
    have HStop : Hid (recs ≠ want → ∀ A', (A.setCell ⟨w.heap.size + 1, 0, none⟩ (.bool false)).drew = A' → KeepsFrom w4.heap.size A A' ∧ KpC [w.heap.size + 1, w.heap.size + 2] (w4.heap.size + 2) A A' ∧ Row A' (w.heap.size + 1) 4 [.bool false] ∧ recs ≠ want ∧ Below w.heap.size w A') := fun hne A' e => by
      have hbA : Buts [w.heap.size + 1] A.heap.size A A' := by rw [← e]; exact ((Buts.refl _ _ A).set (by simp) 0 _).drew
      have hKF : ∀ n', w4.heap.size ≤ n' → KeepsFrom n' A A' := fun n' hn' => ⟨hbA.size, fun i o hi ho hc => (hbA.block i (Array.getElem?_eq_some_iff.1 ho).1 (by simp; omega)).trans ho⟩
      have hr' := (a2.set 0 (.bool false)).drew
      rw [e] at hr'
      exact ⟨hKF _ (Nat.le_refl _), ⟨(CK.of_buts hbA).mono (by simp), hKF _ (by omega)⟩, hr', hne, a6.trans (hbA.below (by omega) (by simp))⟩
    by_cases hge : wl ≤ k
    · have hgi : ((wl : Nat) : Int) ≤ (k : Nat) := by omega
      have hgi2 : decide (((wl : Nat) : Int) ≤ (k : Nat)) = true := decide_eq_true hgi
      have hne : recs ≠ want := take_ne hpost (.inl (by rw [List.length_map, hk, hwl]; exact hge))
      have HF : Hid (∀ X, Below A.heap.size A X → X.cell? ⟨w.heap.size + 1 + 1, 0, none⟩ = some (.int .i64 (k : Nat)) ∧ X.cell? ⟨w.heap.size, 0, none⟩ = some (.slice wq wl wc)) := fun X hb => ⟨(boxed_below a1 hb).cell, (boxed_below bWA hb).cell⟩
      have HEnd := HStop.out hne
      have HE : Hid _ := HEnd
      clear HEnd HStop a1 a2 a3 a4 a5 a6 hok hpost bWA hne
      gi_wp2
      refine wpIn_region_on_round (S := fun W' => Below A.heap.size A W') (by kernel_rfl) (by kernel_rfl) (Below.refl _ _).drew (fun hHeld => ?_)
      refine wpAnyH_takesAt 0 5 9 (of_decide_eq_true (by kernel_rfl)) rfl (fun _ _ _ d _ h => by cases d <;> exact h) (by kernel_rfl) (by kernel_rfl) hHeld ?_
      simp only [List.drop_zero, List.take_succ_cons, List.take_zero]
      iterate 5 (refine wpHeld_step (v := ?_) (by rfl) (fun wz hSw => ?_) ?_; rotate_left; (focus ((obtain ⟨hf1, hf2⟩ := HF.out wz hSw; clear hSw); go_simp; try with_reducible rfl)); (simp only [Act.put, List.setIfInBounds_toArray, List.set_cons_zero, List.set_cons_succ]))
      refine wpHeld_nil ?_
      refine wpAnyH_takesAt 5 8 1 (of_decide_eq_true (by kernel_rfl)) rfl (fun _ _ _ d _ h => by cases d <;> exact h) (by kernel_rfl) (by kernel_rfl) hHeld ?_
      simp only [List.drop_succ_cons, List.drop_zero, List.take_succ_cons, List.take_zero]
      iterate 8 (refine wpHeld_skip (by rfl) ?_; (simp only [Act.put]; (try simp only [List.setIfInBounds_toArray]); (try simp only [List.set_cons_succ]); (try simp only [List.set_cons_zero])))
      refine wpHeld_nil ?_
      refine wpAnyH_takesAt 13 1 0 (of_decide_eq_true (by kernel_rfl)) rfl (fun _ _ _ d _ h => by cases d <;> exact h) (by kernel_rfl) (by kernel_rfl) hHeld ?_
      simp only [List.drop_succ_cons, List.drop_zero, List.take_succ_cons, List.take_zero]
      iterate 1 (refine wpHeld_step (v := ?_) (by rfl) (fun wz hSw => ?_) ?_; rotate_left; (focus ((try dsimp only at hSw); go_simp; try with_reducible rfl)); ((simp only [Act.put]; (try simp only [List.setIfInBounds_toArray]); (try simp only [List.set_cons_succ]); (try simp only [List.set_cons_zero]))))
      refine wpHeld_nil ?_
      refine wpAnyH_done (by kernel_rfl) ?_ _
      refine OnOnly.on ?_
      gi_wp2
      obtain ⟨e1, e2, e3, e4, e5⟩ := HE.out _ rfl
      exact ⟨e1, e2, rfl, e3, e4, e5⟩
    · have hgi : ¬ ((wl : Nat) : Int) ≤ (k : Nat) := by omega
      have hgi2 : decide (((wl : Nat) : Int) ≤ (k : Nat)) = false := decide_eq_false hgi
      have hkl : ((k : Nat) : Int) < (wl : Nat) := by omega
      have hklt : k < 9223372036854775807 := by omega
      obtain ⟨_, _, _, hw256, hel⟩ := HWA.out
      obtain ⟨wb, woff, hwq, hwb, hel⟩ := hel.resolve_left (by omega)
      obtain ⟨qy, ly, cy, hcy, hIy⟩ := hel k (by omega)
      obtain ⟨ys, hys⟩ : ∃ ys, want.getD k [] = ys := ⟨_, rfl⟩
      rw [hys] at hIy
      have hy256 : ∀ z ∈ ys, z < 256 := by
        have hkw : k < want.length := by omega
        rw [← hys, List.getD_eq_getElem?_getD, List.getElem?_eq_getElem hkw, Option.getD_some]
        exact hw256 _ (List.getElem_mem hkw)
      have HSy : Hid (Str A (.slice qy ly cy) (strOf ys)) := str_of_bytes hIy
      subst hwq
      have HF : Hid (∀ X, Below A.heap.size A X → X.cell? ⟨w.heap.size + 1 + 1, 0, none⟩ = some (.int .i64 (k : Nat)) ∧ X.cell? ⟨w.heap.size, 0, none⟩ = some (.slice (some ⟨wb, woff, none⟩) wl wc) ∧ X.cell? ⟨wb, woff + k, none⟩ = some (.slice qy ly cy) ∧ (convert 25 9 (.slice qx lx cx)).run Try.prog X = .ok (.string (strOf zs)) X ∧ (convert 25 9 (.slice qy ly cy)).run Try.prog X = .ok (.string (strOf ys)) X) := fun X hb => ⟨(boxed_below a1 hb).cell, (boxed_below bWA hb).cell, (hb.cell (p := ⟨wb, woff + k, none⟩) hwb).trans hcy, HSx.out X hb, HSy.out X hb⟩
      have HSe := strOf_eq zs ys hz256 hy256
      by_cases hzy : zs = ys
      · have hSe : ((strOf zs).toList == (strOf ys).toList) = true := by rw [HSe]; exact decide_eq_true hzy
        have hcN := a1.cell
        have hfN := a1.frozen
        have HGo : Hid (∀ A', (A.setCell ⟨w.heap.size + 1 + 1, 0, none⟩ (.int .i64 ((k : Nat) + 1))).drew = A' → KeepsFrom w4.heap.size A A' ∧ KpC [w.heap.size + 1, w.heap.size + 2] (w4.heap.size + 2) A A' ∧ Boxed A' (w.heap.size + 2) 3 (.int .i64 ((pre ++ [((.slice qx lx cx : Value), zs)]).length : Nat)) ∧ Row A' (w.heap.size + 1) 4 [.bool false] ∧ (pre ++ [((.slice qx lx cx : Value), zs)]).map (·.2) = want.take (pre ++ [((.slice qx lx cx : Value), zs)]).length ∧ (pre ++ [((.slice qx lx cx : Value), zs)]).length ≤ wl ∧ CK [w.heap.size + 1, w.heap.size + 2] w4 A' ∧ Below w.heap.size w A' ∧ w4.heap.size ≤ A'.heap.size) := fun A' e => by
          have hbA : Buts [w.heap.size + 2] A.heap.size A A' := by rw [← e]; exact ((Buts.refl _ _ A).set (by simp) 0 _).drew
          have hKF : ∀ n', w4.heap.size ≤ n' → KeepsFrom n' A A' := fun n' hn' => ⟨hbA.size, fun i o hi ho hc => (hbA.block i (Array.getElem?_eq_some_iff.1 ho).1 (by simp; omega)).trans ho⟩
          have hCK : CK [w.heap.size + 1, w.heap.size + 2] A A' := (CK.of_buts hbA).mono (by simp)
          rw [List.length_append, hk]
          refine ⟨hKF _ (Nat.le_refl _), ⟨hCK, hKF _ (by omega)⟩, ?_, (hbA.block _ a2.lt (by simp)).trans a2, ?_, by simp; omega, a5.trans hCK, a6.trans (hbA.below (by omega) (by simp)), Nat.le_trans a7 hbA.size⟩
          · have r1 : Row A (w.heap.size + 2) 3 [.int .i64 (k : Nat)] := a1
            have r2 := (r1.set 0 (.int .i64 ((k : Nat) + 1))).drew
            rw [← e]
            exact r2
          · have hkw : k < want.length := by omega
            rw [List.map_append, a3, show k + [((.slice qx lx cx : Value), zs)].length = k + 1 from rfl, List.take_succ_eq_append_getElem hkw]
            rw [List.getD_eq_getElem?_getD, List.getElem?_eq_getElem hkw, Option.getD_some] at hys
            rw [hys, hzy]
            rfl
        clear HStop a1 a2 a3 a4 a5 a6 hok hpost bWA hel hys HSe hIy hcy
        gi_wp2
        refine wpIn_region_on_round (S := fun W' => Below A.heap.size A W') (by kernel_rfl) (by kernel_rfl) (Below.refl _ _).drew (fun hHeld => ?_)
        refine wpAnyH_takesAt 0 14 0 (of_decide_eq_true (by kernel_rfl)) rfl (fun _ _ _ d _ h => by cases d <;> exact h) (by kernel_rfl) (by kernel_rfl) hHeld ?_
        simp only [List.drop_zero, List.take_succ_cons, List.take_zero]
        iterate 14 (refine wpHeld_step (v := ?_) (by rfl) (fun wz hSw => ?_) ?_; rotate_left; (focus ((obtain ⟨hf1, hf2, hf3, hf4, hf5⟩ := HF.out wz hSw; clear hSw); go_simp; try with_reducible rfl)); (simp only [Act.put, List.setIfInBounds_toArray, List.set_cons_zero, List.set_cons_succ]))
        refine wpHeld_nil ?_
        refine wpAnyH_done (by kernel_rfl) ?_ _
        refine OnOnly.on ?_
        gi_wp2
        obtain ⟨e1, e2, e3⟩ := HGo.out _ rfl
        exact ⟨e1, e2, e3⟩
      · have hSe : ((strOf zs).toList == (strOf ys).toList) = false := by rw [HSe]; exact decide_eq_false hzy
        have hne : recs ≠ want := take_ne hpost (.inr (by rw [List.length_map, hk, hys]; exact hzy))
        have HEnd := HStop.out hne
        have HE : Hid _ := HEnd
        clear HEnd HStop a1 a2 a3 a4 a5 a6 hok hpost bWA hne hel hys HSe hIy hcy
        gi_wp2
        refine wpIn_region_on_round (S := fun W' => Below A.heap.size A W') (by kernel_rfl) (by kernel_rfl) (Below.refl _ _).drew (fun hHeld => ?_)
        refine wpAnyH_takesAt 0 14 0 (of_decide_eq_true (by kernel_rfl)) rfl (fun _ _ _ d _ h => by cases d <;> exact h) (by kernel_rfl) (by kernel_rfl) hHeld ?_
        simp only [List.drop_zero, List.take_succ_cons, List.take_zero]
        iterate 14 (refine wpHeld_step (v := ?_) (by rfl) (fun wz hSw => ?_) ?_; rotate_left; (focus ((obtain ⟨hf1, hf2, hf3, hf4, hf5⟩ := HF.out wz hSw; clear hSw); go_simp; try with_reducible rfl)); (simp only [Act.put, List.setIfInBounds_toArray, List.set_cons_zero, List.set_cons_succ]))
        refine wpHeld_nil ?_
        refine wpAnyH_done (by kernel_rfl) ?_ _
        refine OnOnly.on ?_
        gi_wp2
        obtain ⟨e1, e2, e3, e4, e5⟩ := HE.out _ rfl
        exact ⟨e1, e2, rfl, e3, e4, e5⟩
  case done =>
    rintro D xs A hD hxs ⟨a1, a2, a3, a4, a5, a6, a7⟩ hKD
    have hm : xs.length = recs.length := by rw [← hxs, List.length_map]
    obtain ⟨m, hmm⟩ : ∃ m, recs.length = m := ⟨_, rfl⟩
    rw [hxs] at a3
    rw [hm, hmm] at a1 a3 a4
    have bWA : Boxed A w.heap.size 39 (.slice wq wl wc) := a5.boxed (by simp) HbW4.out
    have hc4 := a2.cell (i := 0) rfl
    have hf4 := a2.frozen
    have HF : Hid (∀ X, Buts [w.heap.size + 1] A.heap.size A X → X.cell? ⟨w.heap.size + 1 + 1, 0, none⟩ = some (.int .i64 (m : Nat)) ∧ X.cell? ⟨w.heap.size, 0, none⟩ = some (.slice wq wl wc)) := fun X hb => by
      have r1 : Boxed X (w.heap.size + 2) 3 (.int .i64 (m : Nat)) := (hb.block _ a1.lt (by simp)).trans a1
      have r2 : Boxed X w.heap.size 39 (.slice wq wl wc) := (hb.block _ bWA.lt (by simp)).trans bWA
      exact ⟨r1.cell, r2.cell⟩
    have HCt : Hid (Calls Try.prog 26 #[.pointer (some ⟨L, 0, none⟩)] A.drew fun e w' => e = .returned (.int .i64 (m : Nat)) ∧ w' = A.drew) := by
      have hA := HSt.out.later a6
      have := (hA.log.1.cell (i := 5) rfl)
      rw [hrecs, hmm] at this
      exact count_at this
    have HEnd : Hid (∀ (b : Bool) A' o, (A.setCell ⟨w.heap.size + 1, 0, none⟩ (.bool b)).drew = A' → A'.heap[D]? = some (.deferred (some [])) ∧ Row (A'.putObj D o) (w.heap.size + 1) 4 [.bool b] ∧ Below w.heap.size w (A'.putObj D o)) := fun b A' o e => by
      have hbA : Buts [w.heap.size + 1] A.heap.size A A' := by rw [← e]; exact ((Buts.refl _ _ A).set (by simp) 0 _).drew
      have hDl := (Array.getElem?_eq_some_iff.1 hKD).1
      have hr' := (a2.set 0 (.bool b)).drew
      rw [e] at hr'
      refine ⟨(hbA.block D hDl (by simp; omega)).trans hKD, (World.putObj_heap_other (by omega)).trans hr', ?_⟩
      exact (a6.trans (hbA.below (by omega) (by simp))).trans (below_putObj _ _ (by omega))
    by_cases hmw : m = wl
    · obtain rfl : bE = true := by rw [← HBE.out]; exact decide_eq_true (by rw [a3, List.take_of_length_le (by omega)])
      subst hmw
      clear a1 a2 a3 a4 a5 a6 hKD bWA
      gi_wp2
      refine wpIn_region_on_wide (S := fun W' => Buts [w.heap.size + 1] A.heap.size A W') (by kernel_rfl) (by kernel_rfl) (Buts.refl _ _ _).drew (fun hHeld => ?_)
      refine wpAnyH_takesAt 0 6 5 (of_decide_eq_true (by kernel_rfl)) rfl (fun _ _ _ d _ h => by cases d <;> exact h) (by kernel_rfl) (by kernel_rfl) hHeld ?_
      simp only [List.drop_zero, List.take_succ_cons, List.take_zero]
      iterate 6 (refine wpHeld_step (v := ?_) (by rfl) (fun wz hSw => ?_) ?_; rotate_left; (focus ((obtain ⟨hf1, hf2⟩ := HF.out wz hSw; clear hSw); go_simp; try with_reducible rfl)); (simp only [Act.put, List.setIfInBounds_toArray, List.set_cons_zero, List.set_cons_succ]))
      refine wpHeld_nil ?_
      refine wpAnyH_takesAt 7 1 4 (of_decide_eq_true (by kernel_rfl)) rfl (fun _ _ _ d _ h => by cases d <;> exact h) (by kernel_rfl) (by kernel_rfl) hHeld ?_
      simp only [List.drop_succ_cons, List.drop_zero, List.take_succ_cons, List.take_zero]
      iterate 1 (refine wpHeld_step (v := ?_) (by rfl) (fun wz hSw => ?_) ?_; rotate_left; (focus ((obtain ⟨hf1, hf2⟩ := HF.out wz hSw; clear hSw); go_simp; try with_reducible rfl)); ((simp only [Act.put]; (try simp only [List.setIfInBounds_toArray]); (try simp only [List.set_cons_succ]); (try simp only [List.set_cons_zero]))))
      refine wpHeld_nil ?_
      refine wpAnyH_only (i := 6) (by kernel_rfl) rfl (fun K hK => ?_)
      rw [if_pos (by rfl)]
      go_simp
      refine HCt.out.mono ?_
      rintro e wq' ⟨rfl, hwq'⟩
      obtain rfl := hwq'.symm
      clear hwq'
      refine hK.out _ _ hHeld ?_
      clear hK K
      refine wpAnyH_takesAt 8 2 1 (of_decide_eq_true (by kernel_rfl)) rfl (fun _ _ _ d _ h => by cases d <;> exact h) (by kernel_rfl) (by kernel_rfl) hHeld ?_
      simp only [List.drop_succ_cons, List.drop_zero, List.take_succ_cons, List.take_zero]
      iterate 2 (refine wpHeld_step (v := ?_) (by rfl) (fun wz hSw => ?_) ?_; rotate_left; (focus ((try dsimp only at hSw); go_simp; try with_reducible rfl)); (simp only [Act.put, List.setIfInBounds_toArray, List.set_cons_zero, List.set_cons_succ]))
      refine wpHeld_nil ?_
      refine wpAnyH_only (i := 10) (by kernel_rfl) rfl (fun K hK => ?_)
      rw [if_pos (by rfl)]
      go_simp
      refine hK.out _ _ ((Buts.refl _ _ A).set (by simp) 0 _).drew ?_
      clear hK K
      refine wpAnyH_done (by kernel_rfl) ?_ _
      refine OnOnly.on ?_
      obtain ⟨A', hA'⟩ : ∃ A', (A.setCell ⟨w.heap.size + 1, 0, none⟩ (.bool true)).drew = A' := ⟨_, rfl⟩
      rw [hA']
      have HE : Hid (∀ o, _) := fun o => HEnd.out true A' o hA'
      have hKF := (HE.out (.deferred none)).1
      clear hA' hHeld hc4 hf4
      gi_wp2
      refine ⟨by simp, .inl ⟨_, _, rfl, run_takeDeferred hKF, ?_⟩⟩
      obtain ⟨_, e2, e3⟩ := HE.out (.deferred none)
      exact ⟨_, results_bool rfl rfl e2, rfl, e3⟩
    · obtain rfl : bE = false := by rw [← HBE.out]; exact decide_eq_false (fun e => hmw (by rw [← hmm, e, hwl]))
      have hmi : ¬ ((m : Nat) : Int) = (wl : Nat) := by omega
      have hmi2 : (((m : Nat) : Int) == (wl : Nat)) = false := by simpa using hmi
      clear a1 a2 a3 a4 a5 a6 hKD bWA
      gi_wp2
      refine wpIn_region_on_wide (S := fun W' => Buts [w.heap.size + 1] A.heap.size A W') (by kernel_rfl) (by kernel_rfl) (Buts.refl _ _ _).drew (fun hHeld => ?_)
      refine wpAnyH_takesAt 0 5 6 (of_decide_eq_true (by kernel_rfl)) rfl (fun _ _ _ d _ h => by cases d <;> exact h) (by kernel_rfl) (by kernel_rfl) hHeld ?_
      simp only [List.drop_zero, List.take_succ_cons, List.take_zero]
      iterate 5 (refine wpHeld_step (v := ?_) (by rfl) (fun wz hSw => ?_) ?_; rotate_left; (focus ((obtain ⟨hf1, hf2⟩ := HF.out wz hSw; clear hSw); go_simp; try with_reducible rfl)); (simp only [Act.put, List.setIfInBounds_toArray, List.set_cons_zero, List.set_cons_succ]))
      refine wpHeld_nil ?_
      refine wpAnyH_takesAt 5 4 2 (of_decide_eq_true (by kernel_rfl)) rfl (fun _ _ _ d _ h => by cases d <;> exact h) (by kernel_rfl) (by kernel_rfl) hHeld ?_
      simp only [List.drop_succ_cons, List.drop_zero, List.take_succ_cons, List.take_zero]
      iterate 4 (refine wpHeld_skip (by rfl) ?_; (simp only [Act.put]; (try simp only [List.setIfInBounds_toArray]); (try simp only [List.set_cons_succ]); (try simp only [List.set_cons_zero])))
      refine wpHeld_nil ?_
      refine wpAnyH_takesAt 9 1 1 (of_decide_eq_true (by kernel_rfl)) rfl (fun _ _ _ d _ h => by cases d <;> exact h) (by kernel_rfl) (by kernel_rfl) hHeld ?_
      simp only [List.drop_succ_cons, List.drop_zero, List.take_succ_cons, List.take_zero]
      iterate 1 (refine wpHeld_step (v := ?_) (by rfl) (fun wz hSw => ?_) ?_; rotate_left; (focus ((try dsimp only at hSw); go_simp; try with_reducible rfl)); ((simp only [Act.put]; (try simp only [List.setIfInBounds_toArray]); (try simp only [List.set_cons_succ]); (try simp only [List.set_cons_zero]))))
      refine wpHeld_nil ?_
      refine wpAnyH_only (i := 10) (by kernel_rfl) rfl (fun K hK => ?_)
      rw [if_pos (by rfl)]
      go_simp
      refine hK.out _ _ ((Buts.refl _ _ A).set (by simp) 0 _).drew ?_
      clear hK K
      refine wpAnyH_done (by kernel_rfl) ?_ _
      refine OnOnly.on ?_
      obtain ⟨A', hA'⟩ : ∃ A', (A.setCell ⟨w.heap.size + 1, 0, none⟩ (.bool false)).drew = A' := ⟨_, rfl⟩
      rw [hA']
      have HE : Hid (∀ o, _) := fun o => HEnd.out false A' o hA'
      have hKF := (HE.out (.deferred none)).1
      clear hA' hHeld hc4 hf4
      gi_wp2
      refine ⟨by simp, .inl ⟨_, _, rfl, run_takeDeferred hKF, ?_⟩⟩
      obtain ⟨_, e2, e3⟩ := HE.out (.deferred none)
      exact ⟨_, results_bool rfl rfl e2, rfl, e3⟩
  case stop =>
    rintro D c pre A hD _ ⟨rfl, a2, a3, a4⟩ hKD
    gi_wp2
    refine ⟨by simp, .inl ⟨_, _, rfl, run_takeDeferred hKD, ?_⟩⟩
    have hrE : Row (A.putObj D (.deferred none)) (w.heap.size + 1) 4 [.bool false] := (World.putObj_heap_other (by omega)).trans a2
    refine ⟨_, results_bool rfl rfl hrE, ?_⟩
    obtain rfl : bE = false := by rw [← HBE.out]; exact decide_eq_false a3
    exact ⟨rfl, a4.trans (below_putObj A _ (by omega))⟩
theorem same_any {F : List Nat} {n₀ : Nat} {w : World} {L p g : Nat} {v : Value} {d : St} {l : Lg} (h : MSt F n₀ w L p g v d l) (hrl : l.recs.length ≤ 100000) (hl4 : ∀ z ∈ l.recs, z.length ≤ 300000) (wq : Option Addr) (wl wc : Nat) (want : List (List Nat)) (hW : WantAt w wq wl wc want) :
    Calls Try.prog 14 #[.pointer (some ⟨L, 0, none⟩), .slice wq wl wc] w fun e w' => e = .returned (.bool (decide (l.recs = want))) ∧ Below w.heap.size w w' :=
  callsIn_wide.1 (same_in 8 (Nat.le_refl _) h hrl hl4 wq wl wc want hW)
end Go.Proofs.Ytifjkkfienmdjaa
/-
  The reference's Open: the log of the records that stand in a region.
-/
namespace Go.Proofs.Ytifjkkfienmdjaa
open Go.RowKit Go.Shelf

theorem scan_no {ss : List (List Nat)} {f n gen fuel at_ : Nat} {recs : List (List Nat)} (h : (ss.getD (f + at_) []).drop 55 ≠ markL gen recs.length ∨ 262144 < numFrom (ss.getD (f + at_) []) 0 4 ∨ n - at_ < spanN (numFrom (ss.getD (f + at_) []) 0 4 : Nat)) : scan ss f n gen (fuel + 1) at_ recs = (at_, recs) := by
  rw [scan]
  by_cases hn : n ≤ at_
  · rw [if_pos hn]
  · rw [if_neg hn, if_pos h]
theorem scan_yes {ss : List (List Nat)} {f n gen fuel at_ : Nat} {recs : List (List Nat)} (hn : at_ < n) (h1 : (ss.getD (f + at_) []).drop 55 = markL gen recs.length) (h2 : numFrom (ss.getD (f + at_) []) 0 4 ≤ 262144) (h3 : spanN (numFrom (ss.getD (f + at_) []) 0 4 : Nat) ≤ n - at_) :
    scan ss f n gen (fuel + 1) at_ recs = scan ss f n gen fuel (at_ + spanN (numFrom (ss.getD (f + at_) []) 0 4 : Nat)) (recs ++ [recB ss f at_ (numFrom (ss.getD (f + at_) []) 0 4)]) := by
  rw [scan, if_neg (by omega), if_neg]
  rintro (h | h | h)
  · exact h h1
  · omega
  · omega
/-- How many sectors are left, by memory. -/
def roomR (L : Nat) (W : World) (e : Nat) : Nat := match W.cell? ⟨L, 4, none⟩ with | some (.int _ x) => e - x.toNat | _ => 0
/-- What Open answers. -/
def ROpnPost (F : List Nat) (n₀ : Nat) (w : World) (p g : Nat) (d : St) (f n gen : Nat) (e : Ending) (w' : World) : Prop :=
  ∃ L v, e = .returned (.tuple #[.pointer (some ⟨L, 0, none⟩), .int .i64 0]) ∧ w.heap.size ≤ L ∧ (∀ k, v.ownBlock = some k → w.heap.size ≤ k) ∧ Below w.heap.size w w' ∧
      RSt F n₀ w' L p g v d ⟨f, n, gen, (scan d.ss f n gen (n + 1) 0 []).1, (scan d.ss f n gen (n + 1) 0 []).2, false⟩
set_option maxRecDepth 100000 in
set_option maxHeartbeats 4000000 in
theorem refOpen_live {F : List Nat} {n₀ : Nat} {w : World} {p g : Nat} {d : St} (h : RefAt F w p g d) (hc : CrLow n₀ w p 1) (hpg : p < n₀ ∧ g < n₀) (hn₀ : n₀ ≤ w.heap.size) (f n gen : Nat) (hn2 : 2 ≤ n) (hfn : f + n ≤ d.ss.length) (hgen : gen < 4294967296) (hd : d.dead = false) :
    Calls Try.prog 13 #[.pointer (some ⟨p, 0, none⟩), .int .i64 (f : Nat), .int .i64 (n : Nat), .int .u32 (gen : Nat)] w (ROpnPost F n₀ w p g d f n gen) := by
  have hfew := h.1.few
  have hrb : regB d.ss.length (f : Nat) (n : Nat) = true := by
    simp only [regB, Bool.and_eq_true, decide_eq_true_eq]
    omega
  have HR : Hid (Calls Try.prog 33 #[.pointer (some ⟨p, 0, none⟩), .int .i64 (f : Nat), .int .i64 (n : Nat)] w fun e w' => e = .returned (.bool true) ∧ w' = w) := by
    have := refRegion_any h (f : Nat) (n : Nat) (by omega) (by omega)
    rw [hrb] at this
    exact this
  have HSecs : Hid (∀ s ∈ d.ss, IsSec s) := h.1.secs
  obtain ⟨w1, hw1⟩ : ∃ w1, w.alloc (.cells #[.pointer (some ⟨p, 0, none⟩), .int .i64 (f : Nat), .int .i64 (n : Nat), .int .u32 (gen : Nat), .int .i64 0, .slice none 0 0, .bool false] 41) = w1 := ⟨_, rfl⟩
  have hb1 : Below w.heap.size w w1 := by rw [← hw1]; exact (Below.refl _ w).alloc (Nat.le_refl _) _
  have hr1 := Row.new w 41 #[.pointer (some ⟨p, 0, none⟩), .int .i64 (f : Nat), .int .i64 (n : Nat), .int .u32 (gen : Nat), .int .i64 0, .slice none 0 0, .bool false]
  rw [hw1] at hr1
  have HW1 : Hid (w.alloc (.cells #[.pointer (some ⟨p, 0, none⟩), .int .i64 (f : Nat), .int .i64 (n : Nat), .int .u32 (gen : Nat), .int .i64 0, .slice none 0 0, .bool false] 41) = w1) := hw1
  have HS1 : Hid (RSt F n₀ w1 w.heap.size p g (.slice none 0 0) d ⟨f, n, gen, 0, [], false⟩) := by
    obtain ⟨f1, f2⟩ := h.frame (n₀ := n₀) (S := []) hc (Buts.of_below hb1 (Nat.le_refl _)) (by simp) (by simp) (by simp)
    exact ⟨f1, f2, ⟨hr1, RecsAt.nil _ _⟩, hn₀, hpg⟩
  clear hw1 hr1 h hc hrb
  go_enter Try.func13, Try.ntmps13
  go_wp2_with (first
    | (go_at_call 33; refine HR.out.mono ?_; rintro e w2 ⟨rfl, hw2⟩; obtain rfl : w = w2 := hw2.symm; clear hw2)
    | (rw [HW1.out]))
  go_loopw [33] (fun _ wr => ∃ (at_ fuel : Nat) (recs : List (List Nat)) (v : Value), at_ ≤ n ∧ recs.length ≤ at_ ∧ n - at_ < fuel ∧ scan d.ss f n gen fuel at_ recs = scan d.ss f n gen (n + 1) 0 [] ∧ RSt F n₀ wr w.heap.size p g v d ⟨f, n, gen, at_, recs, false⟩ ∧ Below w.heap.size w wr ∧ ∀ k, v.ownBlock = some k → w.heap.size ≤ k) (fun _ wr => roomR w.heap.size wr n)
  case atStart => exact ⟨0, n + 1, [], _, by omega, by simp, by omega, rfl, HS1.out, hb1, by simp [Value.ownBlock]⟩
  case round =>
    obtain ⟨at_, fuel, recs, v, hat, hrl, hfu, hsc, hst, hbl, hov⟩ := hrel
    have HSt : Hid (RSt F n₀ wr w.heap.size p g v d ⟨f, n, gen, at_, recs, false⟩) := hst
    have HBl : Hid (Below w.heap.size w wr) := hbl
    have HOv : Hid (∀ k, v.ownBlock = some k → w.heap.size ≤ k) := hov
    have HSc : Hid (scan d.ss f n gen fuel at_ recs = scan d.ss f n gen (n + 1) 0 []) := hsc
    obtain ⟨vq, vc, rfl⟩ := hst.log.2.slice
    have HC : Hid (∀ W, Below wr.heap.size wr W → W.cell? ⟨w.heap.size, 4, none⟩ = some (.int .i64 (at_ : Nat)) ∧ W.cell? ⟨w.heap.size, 5, none⟩ = some (.slice vq recs.length vc)) := fun W hb => ⟨(hst.later hb).log.1.cell (i := 4) rfl, (hst.later hb).log.1.cell (i := 5) rfl⟩
    obtain ⟨fu, rfl⟩ : ∃ fu, fuel = fu + 1 := ⟨fuel - 1, by omega⟩
    have hszr := hbl.size
    obtain ⟨hc4, hc5⟩ := HC.out wr (Below.refl _ _)
    have HC4o : Hid (wr.cell? ⟨w.heap.size, 4, none⟩ = some (.int .i64 (at_ : Nat))) := hc4
    clear hst hbl hov hsc
    by_cases hlt : at_ < n
    · have hlti : ((at_ : Nat) : Int) < (n : Nat) := by omega
      have hA : f + at_ < d.ss.length := by omega
      obtain ⟨s, hs⟩ : ∃ s, d.ss.getD (f + at_) [] = s := ⟨_, rfl⟩
      have HXs : Hid (IsSec s) := by rw [← hs]; exact sec_at HSecs.out hA
      have HRd : Hid (∀ W, Below wr.heap.size wr W → Calls Try.prog 34 #[.pointer (some ⟨p, 0, none⟩), .int .i64 (((f : Nat) : Int) + ((at_ : Nat) : Int))] W fun e w' => e = .returned (.tuple #[.agg (u8s s).toArray, .int .i64 0]) ∧ Below W.heap.size W w') := fun W hb => by
        have := refRead_any (HSt.out.later hb).disk ((f + at_ : Nat) : Int)
        rw [read_live hd hA, wErr_live hd hA, hs, Int.natCast_add] at this
        exact this
      have HL : Hid ((u8s s).length = 64) := by show _ = _; rw [u8s_length]; exact HXs.out.1
      have HO : Hid (∀ u ∈ u8s s, u.oneCell' = true) := u8s_one _
      have HNu : Hid (∀ (W : World) (b : Nat), Row W b 55 (u8s s) → Calls Try.prog 35 #[.slice (some ⟨b, 0, none⟩) 4 64] W fun e w' => e = .returned (.int .u64 (numFrom s 0 4 : Nat)) ∧ w' = W) := fun W b hr => number_some b 0 4 64 s W (by omega) HXs.out.2 (fun i hi => by rw [Nat.zero_add]; exact hr.cell (i := i) (u8s_at (by rw [HXs.out.1]; omega)))
      obtain ⟨H, hH⟩ : ∃ H, headL [] gen recs.length = H := ⟨_, rfl⟩
      have HFi : Hid (∀ W, Calls Try.prog 36 #[.slice none 0 0, .int .u32 (gen : Nat), .int .i64 (recs.length : Nat)] W fun e w' => e = .returned (.agg (u8s H).toArray) ∧ Below W.heap.size W w') := fun W => by
        have := first_any none 0 0 [] gen recs.length W ⟨rfl, Nat.le_refl _, by omega, by simp, .inl rfl⟩ (by omega) hgen (by omega)
        rw [hH] at this
        exact this
      have HHs : Hid (IsSec H) := by rw [← hH]; exact headL_sec (by simp) _ _
      have HMk : Hid (H.drop 55 = markL gen recs.length) := by show _ = _; rw [← hH, markL]
      have HLH : Hid ((u8s H).length = 64) := by show _ = _; rw [u8s_length]; exact HHs.out.1
      have HOH : Hid (∀ u ∈ u8s H, u.oneCell' = true) := u8s_one _
      obtain ⟨V, hV⟩ : ∃ V, u8s s = V := ⟨_, rfl⟩
      obtain ⟨VH, hVH⟩ : ∃ V, u8s H = V := ⟨_, rfl⟩
      have HVs : Hid (u8s s = V) := hV
      have HVh : Hid (u8s H = VH) := hVH
      rw [hV] at HRd HL HO HNu
      rw [hVH] at HFi HLH HOH
      obtain ⟨m, hm⟩ : ∃ m, numFrom s 0 4 = m := ⟨_, rfl⟩
      rw [hm] at HNu
      have HM : Hid (numFrom s 0 4 = m) := hm
      have HS0 : Hid (d.ss.getD (f + at_) [] = s) := hs
      clear hV hVH hs hH hm
      have hfa : -9223372036854775808 ≤ ((f : Nat) : Int) + ((at_ : Nat) : Int) ∧ ((f : Nat) : Int) + ((at_ : Nat) : Int) ≤ 9223372036854775807 := by omega
      go_upto_region 10 with (first
        | (go_at_call 34; refine (HRd.out _ (Below.refl _ _)).mono ?_; rintro e w5 ⟨rfl, hb5⟩)
        | ((with_reducible show wpList _ _ _ (Oper.mk _ (Op.store 55 (.tmp 11) (.tmp 45)) _ _ _ _ :: _) _ _); rw [z64u8]; refine wpList_store_new rfl (.tmp 11) (.tmp 45) rfl V HL.out HO.out rfl rfl (fun w6 hb6 hR6 hs6 => ?_); have hbq : Below wr.heap.size wr w6 := hb5.trans (hb6.mono hb5.size); have HR6 : Hid (Row w6 w5.heap.size 55 V) := hR6; obtain ⟨hc46, hc56⟩ := HC.out w6 hbq; clear hR6; simp only [Act.put])
        | (go_at_call 35; refine (HNu.out _ _ HR6.out).mono ?_; rintro e w7 ⟨rfl, hw7⟩; obtain rfl := hw7.symm; clear hw7)
        | (go_at_call 36; refine (HFi.out _).mono ?_; rintro e w8 ⟨rfl, hb8⟩)
        | ((with_reducible show wpList _ _ _ (Oper.mk _ (Op.store 55 (.tmp 14) (.tmp 58)) _ _ _ _ :: _) _ _); rw [z64u8]; refine wpList_store_new rfl (.tmp 14) (.tmp 58) rfl VH HLH.out HOH.out rfl rfl (fun w9 hb9 hR9 hs9 => ?_); have hbr : Below wr.heap.size wr w9 := (hbq.trans (hb8.mono hbq.size)).trans (hb9.mono (Nat.le_trans hbq.size hb8.size)); have HR9 : Hid (Row w9 w8.heap.size 55 VH) := hR9; have HR69 : Hid (Row w9 w5.heap.size 55 V) := (HR6.out.later hb8).later hb9; clear hR9; simp only [Act.put]))
      have HB9 : Hid (Below w.heap.size w w9) := HBl.out.trans (hbr.mono hszr)
      have HSt9 : Hid (RSt F n₀ w9 w.heap.size p g (.slice vq recs.length vc) d ⟨f, n, gen, at_, recs, false⟩) := HSt.out.later hbr
      have HStr : Hid (Str w9 (.slice (some ⟨w5.heap.size, 55, none⟩) 9 9) (strOf (s.drop 55)) ∧ Str w9 (.slice (some ⟨w8.heap.size, 55, none⟩) 9 9) (strOf (H.drop 55))) := by
        have e1 := str_of_bytes (row_bytes (HVs.out ▸ HR69.out) HXs.out.2 (k := 9) (off := 55) (c := 9) (by rw [HXs.out.1]; omega) (by omega) (by omega))
        have e2 := str_of_bytes (row_bytes (HVh.out ▸ HR9.out) HHs.out.2 (k := 9) (off := 55) (c := 9) (by rw [HHs.out.1]; omega) (by omega) (by omega))
        rw [List.take_of_length_le (by rw [List.length_drop, HXs.out.1]; omega)] at e1
        rw [List.take_of_length_le (by rw [List.length_drop, HHs.out.1]; omega)] at e2
        exact ⟨e1, e2⟩
      have HSe : Hid (((strOf (s.drop 55)).toList == (strOf (H.drop 55)).toList) = decide (s.drop 55 = H.drop 55)) := strOf_eq _ _ (fun z hz => HXs.out.2 z (List.mem_of_mem_drop hz)) (fun z hz => HHs.out.2 z (List.mem_of_mem_drop hz))
      have HF : Hid (∀ W, Below w9.heap.size w9 W → (convert 25 9 (.slice (some ⟨w5.heap.size, 55, none⟩) 9 9)).run Try.prog W = .ok (.string (strOf (s.drop 55))) W ∧ (convert 25 9 (.slice (some ⟨w8.heap.size, 55, none⟩) 9 9)).run Try.prog W = .ok (.string (strOf (H.drop 55))) W ∧ W.cell? ⟨w.heap.size, 4, none⟩ = some (.int .i64 (at_ : Nat))) := fun W hb => ⟨HStr.out.1 W hb, HStr.out.2 W hb, (HC.out W (hbr.trans (hb.mono hbr.size))).1⟩
      obtain ⟨S1, hS1⟩ : ∃ S1, strOf (s.drop 55) = S1 := ⟨_, rfl⟩
      obtain ⟨S2, hS2⟩ : ∃ S2, strOf (H.drop 55) = S2 := ⟨_, rfl⟩
      rw [hS1, hS2] at HF HSe
      clear hS1 hS2 HStr hc4 hc5 hc46 hc56 hb5 hb6 hbq hb8 hb9
      by_cases h1 : s.drop 55 = H.drop 55
      · have hSe : (S1.toList == S2.toList) = true := by rw [HSe.out]; exact decide_eq_true h1
        by_cases h2 : m ≤ 262144
        · have hmi : ¬ (262144 : Int) < (m : Nat) := by omega
          have hmd : decide ((262144 : Int) < (m : Nat)) = false := decide_eq_false hmi
          have hmw : IntKind.i64.wrap ((m : Nat) : Int) = ((m : Nat) : Int) := by rw [IntKind.wrap_i64]; omega
          obtain ⟨k, hk⟩ : ∃ k, spanN (m : Nat) = k := ⟨_, rfl⟩
          have HSp : Hid (∀ W, Calls Try.prog 10 #[.int .i64 (m : Nat)] W fun e w' => e = .returned (.int .i64 (k : Nat)) ∧ w' = W) := fun W => by have := refSpan_any (m : Nat) W; rw [hk] at this; exact this
          have hsp := spanN_nat h2
          rw [hk] at hsp
          have hk1 : 1 ≤ k := by omega
          have hk2 : k ≤ 5000 := by omega
          have hmk : m ≤ 51 + 64 * (k - 1) := by omega
          have hnw : IntKind.i64.wrap (((n : Nat) : Int) - (at_ : Nat)) = ((n : Nat) : Int) - (at_ : Nat) := by rw [IntKind.wrap_i64]; omega
          clear hsp
          by_cases h3 : k ≤ n - at_
          · have hki : ¬ ((n : Nat) : Int) - (at_ : Nat) < (k : Nat) := by omega
            have hkd : decide (((n : Nat) : Int) - (at_ : Nat) < (k : Nat)) = false := decide_eq_false hki
            have HGo : Hid (scan d.ss f n gen (fu + 1) at_ recs = scan d.ss f n gen fu (at_ + k) (recs ++ [recB d.ss f at_ m])) := by
              have := scan_yes (fuel := fu) (at_ := at_) (recs := recs) (ss := d.ss) (f := f) (n := n) (gen := gen) hlt (by rw [HS0.out, h1]; exact HMk.out) (by rw [HS0.out, HM.out]; exact h2) (by rw [HS0.out, HM.out, hk]; exact h3)
              rw [HS0.out, HM.out, hk] at this
              exact this
            refine wp_region_held_drew (S := fun W => Below w9.heap.size w9 W) (by kernel_rfl) (Below.refl _ _).drew (fun hHeld => ?_)
            refine wpAnyH_takesAt 0 12 9 (of_decide_eq_true (by kernel_rfl)) rfl (fun _ _ _ d _ h => by cases d <;> exact h) (by kernel_rfl) (by kernel_rfl) hHeld ?_
            simp only [List.drop_zero, List.take_succ_cons, List.take_zero]
            iterate 12 (refine wpHeld_step (v := ?_) (by rfl) (fun wz hSw => ?_) ?_; rotate_left; (focus ((obtain ⟨hf1, hf2, hf3⟩ := HF.out wz hSw; clear hSw); go_simp; try with_reducible rfl)); (simp only [Act.put, List.setIfInBounds_toArray, List.set_cons_zero, List.set_cons_succ]))
            refine wpHeld_nil ?_
            refine wpAnyH_takesAt 13 6 3 (of_decide_eq_true (by kernel_rfl)) rfl (fun _ _ _ d _ h => by cases d <;> exact h) (by kernel_rfl) (by kernel_rfl) hHeld ?_
            simp only [List.drop_succ_cons, List.drop_zero, List.take_succ_cons, List.take_zero]
            iterate 6 (refine wpHeld_step (v := ?_) (by rfl) (fun wz hSw => ?_) ?_; rotate_left; (focus ((obtain ⟨hf1, hf2, hf3⟩ := HF.out wz hSw; clear hSw); go_simp; try with_reducible rfl)); (simp only [Act.put, List.setIfInBounds_toArray, List.set_cons_zero, List.set_cons_succ]))
            refine wpHeld_nil ?_
            refine wpAnyH_only (i := 12) (by kernel_rfl) rfl (fun K hK => ?_)
            rw [if_pos (by rfl)]
            go_simp
            refine (HSp.out _).mono ?_
            rintro e wq ⟨rfl, hwq⟩
            obtain rfl := hwq.symm
            clear hwq
            refine hK.out _ _ hHeld ?_
            clear hK K
            refine wpAnyH_takesAt 19 2 0 (of_decide_eq_true (by kernel_rfl)) rfl (fun _ _ _ d _ h => by cases d <;> exact h) (by kernel_rfl) (by kernel_rfl) hHeld ?_
            simp only [List.drop_succ_cons, List.drop_zero, List.take_succ_cons, List.take_zero]
            iterate 2 (refine wpHeld_step (v := ?_) (by rfl) (fun wz hSw => ?_) ?_; rotate_left; (focus ((try dsimp only at hSw); go_simp; try with_reducible rfl)); (simp only [Act.put, List.setIfInBounds_toArray, List.set_cons_zero, List.set_cons_succ]))
            refine wpHeld_nil ?_
            refine wpAnyH_done (by kernel_rfl) ?_ _
            have hb10 := hHeld
            clear hHeld
            have HC9 : Hid (∀ W, Below w9.heap.size w9 W → W.cell? ⟨w.heap.size, 4, none⟩ = some (.int .i64 (at_ : Nat)) ∧ W.cell? ⟨w.heap.size, 5, none⟩ = some (.slice vq recs.length vc)) := fun W hb => HC.out W (hbr.trans (hb.mono hbr.size))
            have HRd9 : Hid (∀ (W : World) (j : Nat), Below w9.heap.size w9 W → f + at_ + j < d.ss.length → Calls Try.prog 34 #[.pointer (some ⟨p, 0, none⟩), .int .i64 (((f : Nat) : Int) + ((at_ : Nat) : Int) + ((j : Nat) : Int))] W fun e w' => e = .returned (.tuple #[.agg (u8s (d.ss.getD (f + at_ + j) [])).toArray, .int .i64 0]) ∧ Below W.heap.size W w') := fun W j hb hj => by
              have := refRead_any (HSt9.out.later hb).disk ((f + at_ + j : Nat) : Int)
              rw [read_live hd hj, wErr_live hd hj, Int.natCast_add, Int.natCast_add] at this
              exact this
            have HIb : Hid (∀ W, Below w9.heap.size w9 W → IsBytes W.heap.size W (some ⟨w5.heap.size, 4, none⟩) 51 60 (gotB d.ss (f + at_) 0)) := fun W hb => by
              have := row_bytes (HVs.out ▸ HR69.out.later hb) HXs.out.2 (k := 51) (off := 4) (c := 60) (by rw [HXs.out.1]; omega) (by omega) (by omega)
              simp only [gotB, List.range_zero, List.map_nil, List.flatten_nil, List.append_nil]
              rw [HS0.out]
              exact this
            have HLb : Hid (∀ j, j + 1 ≤ k → (gotB d.ss (f + at_) j).length = 51 + 64 * j) := fun j hj => gotB_len HSecs.out (by omega)
            have HEnd : Hid (recB d.ss f at_ m = (gotB d.ss (f + at_) (k - 1)).take m) := by show _ = _; rw [recB_got, hk]
            have HHk : Hid (spanN (m : Nat) = k) := hk
            have HSz9 : Hid (w.heap.size ≤ w9.heap.size) := HB9.out.size
            clear hk hSe hki hkd hmd hmi hnw h1 HF
            go_wp2_with ((with_reducible show wpList _ _ _ (Oper.mk (some 82) _ _ _ _ _ :: _) _ _); refine wpList_append_bytes rfl (.const (.slice none 0 0)) (.tmp 81) rfl w9.heap.size _ [] rfl (Own.nil _ _) rfl (HIb.out _ hb10) (by simp) hb10.size (fun v11 w11 ho11 hg11 => ?_); simp only [Act.put, List.setIfInBounds_toArray, List.set_cons_zero, List.set_cons_succ])
            have HB11 : Hid (Below w9.heap.size w9 w11) := hb10.grown hg11 hb10.size (fun k hk => by cases hk)
            have HO11 : Hid (Own w9.heap.size w11 v11 (gotB d.ss (f + at_) 0)) := by rw [List.nil_append] at ho11; exact ho11
            obtain ⟨q11, c11, rfl⟩ : ∃ q c, v11 = .slice q 51 c := by
              obtain ⟨q, c, e⟩ := slice_of_row HO11.out
              rw [HLb.out 0 (by omega)] at e
              exact ⟨q, c, e⟩
            clear ho11 hg11 hb10
            go_loopw [15, 16] (fun bv iv wy => ∃ (j : Nat) (q : Option Addr) (c : Nat), j + 1 ≤ k ∧ iv = .int .i64 ((j + 1 : Nat) : Int) ∧ bv = .slice q (51 + 64 * j) c ∧ Own w9.heap.size wy (.slice q (51 + 64 * j) c) (gotB d.ss (f + at_) j) ∧ Below w9.heap.size w9 wy) (fun _ iv _ => k - (intOf iv).toNat)
            case atStart => exact ⟨0, q11, c11, by omega, by go_num, rfl, HO11.out, HB11.out⟩
            case round =>
              obtain ⟨j, qb, cb, hjk, rfl, rfl, hown, hbw⟩ := hrel
              have HOw : Hid (Own w9.heap.size wr (.slice qb (51 + 64 * j) cb) (gotB d.ss (f + at_) j)) := hown
              have HBw : Hid (Below w9.heap.size w9 wr) := hbw
              obtain ⟨hc4y, hc5y⟩ := HC9.out wr hbw
              have hcap : 51 + 64 * j ≤ cb ∧ cb ≤ 9223372036854775807 := own_cap hown
              have hszy := hbw.size
              clear hown hbw
              by_cases hlt2 : j + 1 < k
              · have hlt2i : ((j : Int) + 1) < (k : Int) := by omega
                have hfj : -9223372036854775808 ≤ ((f : Nat) : Int) + ((at_ : Nat) : Int) + ((j : Int) + 1) ∧ ((f : Nat) : Int) + ((at_ : Nat) : Int) + ((j : Int) + 1) ≤ 9223372036854775807 := by omega
                obtain ⟨s', hs'⟩ : ∃ s', d.ss.getD (f + at_ + (j + 1)) [] = s' := ⟨_, rfl⟩
                have hxs : IsSec s' := by rw [← hs']; exact sec_at HSecs.out (by omega)
                have HR1 : Hid (Calls Try.prog 34 #[.pointer (some ⟨p, 0, none⟩), .int .i64 (((f : Nat) : Int) + ((at_ : Nat) : Int) + ((j : Int) + 1))] wr fun e w' => e = .returned (.tuple #[.agg (u8s s').toArray, .int .i64 0]) ∧ Below wr.heap.size wr w') := by
                  have := HRd9.out wr (j + 1) HBw.out (by omega)
                  rw [hs', Int.natCast_add] at this
                  exact this
                have HG : Hid (gotB d.ss (f + at_) (j + 1) = gotB d.ss (f + at_) j ++ s') := by show _ = _; rw [gotB_succ, hs']
                have HLy : Hid ((u8s s').length = 64) := by show _ = _; rw [u8s_length]; exact hxs.1
                have HOy : Hid (∀ u ∈ u8s s', u.oneCell' = true) := u8s_one _
                have HZs : Hid (IsSec s') := hxs
                obtain ⟨Vy, hVy⟩ : ∃ V, u8s s' = V := ⟨_, rfl⟩
                have HVy : Hid (u8s s' = Vy) := hVy
                rw [hVy] at HR1 HLy HOy
                clear hs' hxs hVy
                go_wp2_with (first
                  | (go_at_call 10; refine (HSp.out _).mono ?_; rintro e wq ⟨rfl, hwq⟩; obtain rfl := hwq.symm; clear hwq)
                  | (go_at_call 34; refine HR1.out.mono ?_; rintro e wa ⟨rfl, hba⟩)
                  | ((with_reducible show wpList _ _ _ (Oper.mk _ (Op.store 55 (.tmp 17) (.tmp 101)) _ _ _ _ :: _) _ _); rw [z64u8]; refine wpList_store_new rfl (.tmp 17) (.tmp 101) rfl Vy HLy.out HOy.out rfl rfl (fun wb hbb hRb hsb => ?_); have hbq2 : Below wr.heap.size wr wb := hba.trans (hbb.mono hba.size); have HOb : Hid (Own w9.heap.size wb (.slice qb (51 + 64 * j) cb) (gotB d.ss (f + at_) j)) := KeepT.own (KeepT.of_below hbq2) HOw.out; have HIy : Hid (IsBytes wb.heap.size wb (some ⟨wa.heap.size, 0, none⟩) 64 64 s') := (by have := row_bytes (HVy.out ▸ hRb) HZs.out.2 (k := 64) (off := 0) (c := 64) (by rw [HZs.out.1]; omega) (by omega) (by omega); rw [List.drop_zero, List.take_of_length_le (by rw [HZs.out.1]; omega)] at this; exact this); have HBb : Hid (Below w9.heap.size w9 wb) := HBw.out.trans (hbq2.mono hszy); clear hRb; simp only [Act.put])
                  | ((with_reducible show wpList _ _ _ (Oper.mk (some 108) _ _ _ _ _ :: _) _ _); refine wpList_append_bytes rfl (.tmp 106) (.tmp 107) rfl w9.heap.size _ (gotB d.ss (f + at_) j) rfl HOb.out rfl HIy.out (by rw [HLb.out j (by omega)]; omega) (by have := HBb.out.size; omega) (fun vz wz hoz hgz => ?_); simp only [Act.put, List.setIfInBounds_toArray, List.set_cons_zero, List.set_cons_succ]))
                have HOz : Hid (Own w9.heap.size wz vz (gotB d.ss (f + at_) (j + 1))) := by rw [HG.out]; exact hoz
                have HBz : Hid (Below w9.heap.size w9 wz) := HBb.out.grown hgz HBb.out.size (fun k hk => (World.ownsRow.lt HOb.out k hk).1)
                obtain ⟨qz, cz, rfl⟩ : ∃ q c, vz = .slice q (51 + 64 * (j + 1)) c := by
                  obtain ⟨q, c, e⟩ := slice_of_row HOz.out
                  rw [HLb.out (j + 1) (by omega)] at e
                  exact ⟨q, c, e⟩
                exact ⟨⟨j + 1, qz, cz, by omega, by go_num, rfl, HOz.out, HBz.out⟩, by simp [intOf]; omega⟩
              · have HJ : Hid (j = k - 1) := by show _ = _; omega
                have hlt2i : ¬ ((j : Int) + 1) < (k : Int) := by omega
                have hmc : m ≤ cb := by have := HJ.out; omega
                have hmci : (m : Int) ≤ (cb : Int) := by omega
                have HX : Hid (Bytes5 wr (.slice qb m cb) (recB d.ss f at_ m)) := by
                  have h5 := (Bytes5.of_own HOw.out (gotB_lt HSecs.out (f + at_) (by have := HJ.out; omega))).head (k := m) (by have := HJ.out; omega)
                  rw [HEnd.out, ← HJ.out]
                  exact h5
                have HSy : Hid (RSt F n₀ wr w.heap.size p g (.slice vq recs.length vc) d ⟨f, n, gen, at_, recs, false⟩) := HSt9.out.later HBw.out
                have hfr5 := HSy.out.log.1.frozen 5
                go_upto_region 20 with (go_at_call 10; refine (HSp.out _).mono ?_; rintro e wq ⟨rfl, hwq⟩; obtain rfl := hwq.symm; clear hwq)
                refine wp_region_gate' 9 (fun W => Below wr.heap.size wr W) (by kernel_rfl) ?_
                have hHeld : Below wr.heap.size wr wr.drew := (Below.refl _ _).drew
                refine wpAnyG_takesAt 0 1 12 (of_decide_eq_true (by kernel_rfl)) rfl (fun _ _ _ d _ h => by cases d <;> exact h) (by kernel_rfl) (by kernel_rfl) (fun _ => hHeld) ?_
                simp only [List.drop_zero, List.take_succ_cons, List.take_zero]
                refine wpHeldG_free (v := .pointer (some ⟨w.heap.size, 0, none⟩)) (by rfl) (fun wz => by go_simp) ?_
                (simp only [Act.put]; (try simp only [List.setIfInBounds_toArray]); (try simp only [List.set_cons_succ]); (try simp only [List.set_cons_zero]))
                refine wpHeldG_nil ?_
                refine wpAnyG_takesAt 1 1 11 (of_decide_eq_true (by kernel_rfl)) rfl (fun _ _ _ d _ h => by cases d <;> exact h) (by kernel_rfl) (by kernel_rfl) (fun _ => hHeld) ?_
                simp only [List.drop_succ_cons, List.drop_zero, List.take_succ_cons, List.take_zero]
                refine wpHeldG_free (v := .pointer (some ⟨w.heap.size, 0, none⟩)) (by rfl) (fun wz => by go_simp) ?_
                (simp only [Act.put]; (try simp only [List.setIfInBounds_toArray]); (try simp only [List.set_cons_succ]); (try simp only [List.set_cons_zero]))
                refine wpHeldG_nil ?_
                refine wpAnyG_takesAt 2 1 10 (of_decide_eq_true (by kernel_rfl)) rfl (fun _ _ _ d _ h => by cases d <;> exact h) (by kernel_rfl) (by kernel_rfl) (fun _ => hHeld) ?_
                simp only [List.drop_succ_cons, List.drop_zero, List.take_succ_cons, List.take_zero]
                refine wpHeldG_free (v := .pointer (some ⟨w.heap.size, 0, none⟩)) (by rfl) (fun wz => by go_simp) ?_
                (simp only [Act.put]; (try simp only [List.setIfInBounds_toArray]); (try simp only [List.set_cons_succ]); (try simp only [List.set_cons_zero]))
                refine wpHeldG_nil ?_
                refine wpAnyG_takesAt 3 1 9 (of_decide_eq_true (by kernel_rfl)) rfl (fun _ _ _ d _ h => by cases d <;> exact h) (by kernel_rfl) (by kernel_rfl) (fun _ => hHeld) ?_
                simp only [List.drop_succ_cons, List.drop_zero, List.take_succ_cons, List.take_zero]
                refine wpHeldG_free (v := .pointer (some ⟨w.heap.size, 5, none⟩)) (by rfl) (fun wz => by go_simp) ?_
                (simp only [Act.put]; (try simp only [List.setIfInBounds_toArray]); (try simp only [List.set_cons_succ]); (try simp only [List.set_cons_zero]))
                refine wpHeldG_nil ?_
                refine wpAnyG_takesAt 4 1 8 (of_decide_eq_true (by kernel_rfl)) rfl (fun _ _ _ d _ h => by cases d <;> exact h) (by kernel_rfl) (by kernel_rfl) (fun _ => hHeld) ?_
                simp only [List.drop_succ_cons, List.drop_zero, List.take_succ_cons, List.take_zero]
                iterate 1 (refine wpHeldG_step (v := ?_) (by rfl) (by kernel_rfl) (fun wz hSw => ?_) ?_; rotate_left; (focus (have hc := (HC9.out wz (HBw.out.trans (hSw.mono hszy))).2; clear hSw; go_simp; try with_reducible rfl)); ((simp only [Act.put]; (try simp only [List.setIfInBounds_toArray]); (try simp only [List.set_cons_succ]); (try simp only [List.set_cons_zero]))))
                refine wpHeldG_nil ?_
                refine wpAnyG_takesAt 5 1 7 (of_decide_eq_true (by kernel_rfl)) rfl (fun _ _ _ d _ h => by cases d <;> exact h) (by kernel_rfl) (by kernel_rfl) (fun _ => hHeld) ?_
                simp only [List.drop_succ_cons, List.drop_zero, List.take_succ_cons, List.take_zero]
                refine wpHeldG_free (v := .slice qb (51 + 64 * j) cb) (by rfl) (fun wz => by go_simp) ?_
                (simp only [Act.put]; (try simp only [List.setIfInBounds_toArray]); (try simp only [List.set_cons_succ]); (try simp only [List.set_cons_zero]))
                refine wpHeldG_nil ?_
                refine wpAnyG_takesAt 6 1 6 (of_decide_eq_true (by kernel_rfl)) rfl (fun _ _ _ d _ h => by cases d <;> exact h) (by kernel_rfl) (by kernel_rfl) (fun _ => hHeld) ?_
                simp only [List.drop_succ_cons, List.drop_zero, List.take_succ_cons, List.take_zero]
                refine wpHeldG_free (v := .int .u64 (m : Nat)) (by rfl) (fun wz => by go_simp) ?_
                (simp only [Act.put]; (try simp only [List.setIfInBounds_toArray]); (try simp only [List.set_cons_succ]); (try simp only [List.set_cons_zero]))
                refine wpHeldG_nil ?_
                refine wpAnyG_takesAt 7 1 5 (of_decide_eq_true (by kernel_rfl)) rfl (fun _ _ _ d _ h => by cases d <;> exact h) (by kernel_rfl) (by kernel_rfl) (fun _ => hHeld) ?_
                simp only [List.drop_succ_cons, List.drop_zero, List.take_succ_cons, List.take_zero]
                refine wpHeldG_free (v := .slice qb m cb) (by rfl) (fun wz => by go_simp) ?_
                (simp only [Act.put]; (try simp only [List.setIfInBounds_toArray]); (try simp only [List.set_cons_succ]); (try simp only [List.set_cons_zero]))
                refine wpHeldG_nil ?_
                refine wpAnyG_only (i := 8) (by kernel_rfl) rfl (by rfl) (fun K hK => ?_)
                go_simp
                obtain ⟨w3, hw3⟩ : ∃ w3, (wr.alloc (Obj.cells #[Value.slice qb m cb] 25)).drew = w3 := ⟨_, rfl⟩
                have hb3 : Below wr.heap.size wr w3 := by rw [← hw3]; exact ((Below.refl _ _).alloc (Nat.le_refl _) _).drew
                have hr3 : Row w3 wr.heap.size 25 [.slice qb m cb] := by rw [← hw3]; exact (Row.new wr 25 #[.slice qb m cb]).drew
                have hs3 : w3.heap.size = wr.heap.size + 1 := by rw [← hw3]; simp
                rw [hw3]
                clear hw3
                refine hK.out _ _ (fun _ => hb3) ?_
                clear hK K
                have hln : n₀ ≤ w.heap.size := HSy.out.low
                obtain ⟨v', w4, hrun, ha1, ha2, ha3, ha4⟩ := run_append_rec2 w3 n₀ 39 (.slice vq recs.length vc) recs (HSy.out.later hb3).log.2 wr.heap.size (.slice qb m cb) (recB d.ss f at_ m) (HX.out.kept (KeepT.of_below hb3)) (hr3.cell (i := 0) rfl) (by omega) (by have := hb3.size; have := HSz9.out; omega)
                obtain ⟨g1, g2, g3, g4⟩ := (HSy.out.later hb3).app (l' := ⟨f, n, gen, at_, recs ++ [recB d.ss f at_ m], false⟩) ha2 ha3 ha1 rfl
                have HRun : Hid ((Builtin.append_ #[39, 39] 39 #[.slice vq recs.length vc, .slice (some ⟨wr.heap.size, 0, none⟩) 1 1]).run Try.prog w3 = .ok v' w4) := hrun
                have c54 : w4.cell? ⟨w.heap.size, 5, none⟩ = some (.slice vq recs.length vc) := g2.cell (i := 5) rfl
                have f54 := g2.frozen 5
                have HG1 : Hid (RSt F n₀ _ w.heap.size p g v' d _) := g1
                have HG3 : Hid (Buts (w.heap.size :: ownL (.slice vq recs.length vc)) _ _ _) := g3
                have HA4 : Hid (∀ k, v'.ownBlock = some k → w.heap.size ≤ k) := fun k hk => by
                  rcases ha4 k hk with h | h
                  · exact HOv.out k h
                  · have := HSz9.out
                    omega
                obtain ⟨vq', vl', vc', hv'⟩ : ∃ vq vl vc, v' = .slice vq vl vc := by obtain ⟨a, b, e⟩ := ha1.slice; exact ⟨_, _, _, e⟩
                have HV' : Hid (v' = .slice vq' vl' vc') := hv'
                rw [hv'] at HRun
                clear hrun ha1 ha2 ha3 ha4 g1 g2 g3 g4 hr3 hv' hHeld
                refine wpAnyG_only (i := 9) (by kernel_rfl) rfl (by rfl) (fun K hK => ?_)
                refine wp_append_of (.tmp 113) (.tmp 117) 39 rfl rfl rfl HRun.out ?_
                refine hK.out _ _ (gone (by kernel_rfl)) ?_
                clear hK K
                refine wpAnyG_takesAt 10 1 2 (of_decide_eq_true (by kernel_rfl)) rfl (fun _ _ _ d _ h => by cases d <;> exact h) (by kernel_rfl) (by kernel_rfl) (gone (by kernel_rfl)) ?_
                simp only [List.drop_succ_cons, List.drop_zero, List.take_succ_cons, List.take_zero]
                refine wpHeldG_free (v := .pointer (some ⟨w.heap.size, 0, none⟩)) (by rfl) (fun wz => by go_simp) ?_
                (simp only [Act.put]; (try simp only [List.setIfInBounds_toArray]); (try simp only [List.set_cons_succ]); (try simp only [List.set_cons_zero]))
                refine wpHeldG_nil ?_
                refine wpAnyG_takesAt 11 1 1 (of_decide_eq_true (by kernel_rfl)) rfl (fun _ _ _ d _ h => by cases d <;> exact h) (by kernel_rfl) (by kernel_rfl) (gone (by kernel_rfl)) ?_
                simp only [List.drop_succ_cons, List.drop_zero, List.take_succ_cons, List.take_zero]
                refine wpHeldG_free (v := .pointer (some ⟨w.heap.size, 5, none⟩)) (by rfl) (fun wz => by go_simp) ?_
                (simp only [Act.put]; (try simp only [List.setIfInBounds_toArray]); (try simp only [List.set_cons_succ]); (try simp only [List.set_cons_zero]))
                refine wpHeldG_nil ?_
                refine wpAnyG_only (i := 12) (by kernel_rfl) rfl (by rfl) (fun K hK => ?_)
                go_simp
                refine hK.out _ _ (gone (by kernel_rfl)) ?_
                clear hK K
                refine wpAnyG_done (by kernel_rfl) ?_ _
                obtain ⟨wk, hwk⟩ : ∃ wk, w4.setCell ⟨w.heap.size, 5, none⟩ (.slice vq' vl' vc') = wk := ⟨_, rfl⟩
                have HSk : Hid (RSt F n₀ wk w.heap.size p g v' d ⟨f, n, gen, at_, recs ++ [recB d.ss f at_ m], false⟩) := by rw [← hwk, ← HV'.out]; exact HG1.out
                have HBk : Hid (Buts (w.heap.size :: ownL (.slice vq recs.length vc)) w3.heap.size w3 wk) := by rw [← hwk, ← HV'.out]; exact HG3.out
                have HB3 : Hid (Below wr.heap.size wr w3) := hb3
                rw [hwk]
                clear hwk c54 f54 hb3 hs3
                have HCk : Hid (∀ W, Below wk.heap.size wk W → W.cell? ⟨w.heap.size, 4, none⟩ = some (.int .i64 (at_ : Nat))) := fun W hb => (HSk.out.later hb).log.1.cell (i := 4) rfl
                have hck4 := HCk.out wk (Below.refl _ _)
                have hfk4 := HSk.out.log.1.frozen 4
                have hsm : IntKind.i64.wrap (((at_ : Nat) : Int) + (k : Nat)) = ((at_ : Nat) : Int) + (k : Nat) := by rw [IntKind.wrap_i64]; omega
                go_upto_region 21 with fail
                refine wp_region_gate' 10 (fun W => Below wk.heap.size wk W) (by kernel_rfl) ?_
                have hHeld : Below wk.heap.size wk wk.drew := (Below.refl _ _).drew
                refine wpAnyG_takesAt 0 1 10 (of_decide_eq_true (by kernel_rfl)) rfl (fun _ _ _ d _ h => by cases d <;> exact h) (by kernel_rfl) (by kernel_rfl) (fun _ => hHeld) ?_
                simp only [List.drop_zero, List.take_succ_cons, List.take_zero]
                iterate 1 (refine wpHeldG_step (v := ?_) (by rfl) (by kernel_rfl) (fun wz hSw => ?_) ?_; rotate_left; (focus ((try dsimp only at hSw); go_simp; try with_reducible rfl)); ((simp only [Act.put]; (try simp only [List.setIfInBounds_toArray]); (try simp only [List.set_cons_succ]); (try simp only [List.set_cons_zero]))))
                refine wpHeldG_nil ?_
                refine wpAnyG_takesAt 1 1 9 (of_decide_eq_true (by kernel_rfl)) rfl (fun _ _ _ d _ h => by cases d <;> exact h) (by kernel_rfl) (by kernel_rfl) (fun _ => hHeld) ?_
                simp only [List.drop_succ_cons, List.drop_zero, List.take_succ_cons, List.take_zero]
                iterate 1 (refine wpHeldG_step (v := ?_) (by rfl) (by kernel_rfl) (fun wz hSw => ?_) ?_; rotate_left; (focus ((try dsimp only at hSw); go_simp; try with_reducible rfl)); ((simp only [Act.put]; (try simp only [List.setIfInBounds_toArray]); (try simp only [List.set_cons_succ]); (try simp only [List.set_cons_zero]))))
                refine wpHeldG_nil ?_
                refine wpAnyG_takesAt 2 1 8 (of_decide_eq_true (by kernel_rfl)) rfl (fun _ _ _ d _ h => by cases d <;> exact h) (by kernel_rfl) (by kernel_rfl) (fun _ => hHeld) ?_
                simp only [List.drop_succ_cons, List.drop_zero, List.take_succ_cons, List.take_zero]
                iterate 1 (refine wpHeldG_step (v := ?_) (by rfl) (by kernel_rfl) (fun wz hSw => ?_) ?_; rotate_left; (focus ((try dsimp only at hSw); go_simp; try with_reducible rfl)); ((simp only [Act.put]; (try simp only [List.setIfInBounds_toArray]); (try simp only [List.set_cons_succ]); (try simp only [List.set_cons_zero]))))
                refine wpHeldG_nil ?_
                refine wpAnyG_takesAt 3 1 7 (of_decide_eq_true (by kernel_rfl)) rfl (fun _ _ _ d _ h => by cases d <;> exact h) (by kernel_rfl) (by kernel_rfl) (fun _ => hHeld) ?_
                simp only [List.drop_succ_cons, List.drop_zero, List.take_succ_cons, List.take_zero]
                iterate 1 (refine wpHeldG_step (v := ?_) (by rfl) (by kernel_rfl) (fun wz hSw => ?_) ?_; rotate_left; (focus (have hc := HCk.out wz hSw; clear hSw; go_simp; try with_reducible rfl)); ((simp only [Act.put]; (try simp only [List.setIfInBounds_toArray]); (try simp only [List.set_cons_succ]); (try simp only [List.set_cons_zero]))))
                refine wpHeldG_nil ?_
                refine wpAnyG_takesAt 4 1 6 (of_decide_eq_true (by kernel_rfl)) rfl (fun _ _ _ d _ h => by cases d <;> exact h) (by kernel_rfl) (by kernel_rfl) (fun _ => hHeld) ?_
                simp only [List.drop_succ_cons, List.drop_zero, List.take_succ_cons, List.take_zero]
                iterate 1 (refine wpHeldG_step (v := ?_) (by rfl) (by kernel_rfl) (fun wz hSw => ?_) ?_; rotate_left; (focus ((try dsimp only at hSw); go_simp; try with_reducible rfl)); ((simp only [Act.put]; (try simp only [List.setIfInBounds_toArray]); (try simp only [List.set_cons_succ]); (try simp only [List.set_cons_zero]))))
                refine wpHeldG_nil ?_
                refine wpAnyG_takesAt 5 1 5 (of_decide_eq_true (by kernel_rfl)) rfl (fun _ _ _ d _ h => by cases d <;> exact h) (by kernel_rfl) (by kernel_rfl) (fun _ => hHeld) ?_
                simp only [List.drop_succ_cons, List.drop_zero, List.take_succ_cons, List.take_zero]
                iterate 1 (refine wpHeldG_step (v := ?_) (by rfl) (by kernel_rfl) (fun wz hSw => ?_) ?_; rotate_left; (focus ((try dsimp only at hSw); go_simp; try with_reducible rfl)); ((simp only [Act.put]; (try simp only [List.setIfInBounds_toArray]); (try simp only [List.set_cons_succ]); (try simp only [List.set_cons_zero]))))
                refine wpHeldG_nil ?_
                refine wpAnyG_only (i := 6) (by kernel_rfl) rfl (by rfl) (fun K hK => ?_)
                go_simp
                refine (HSp.out _).mono ?_
                rintro e wq ⟨rfl, hwq⟩
                obtain rfl := hwq.symm
                clear hwq
                refine hK.out _ _ (fun _ => hHeld) ?_
                clear hK K
                refine wpAnyG_takesAt 7 1 3 (of_decide_eq_true (by kernel_rfl)) rfl (fun _ _ _ d _ h => by cases d <;> exact h) (by kernel_rfl) (by kernel_rfl) (fun _ => hHeld) ?_
                simp only [List.drop_succ_cons, List.drop_zero, List.take_succ_cons, List.take_zero]
                iterate 1 (refine wpHeldG_step (v := ?_) (by rfl) (by kernel_rfl) (fun wz hSw => ?_) ?_; rotate_left; (focus ((try dsimp only at hSw); go_simp; try with_reducible rfl)); ((simp only [Act.put]; (try simp only [List.setIfInBounds_toArray]); (try simp only [List.set_cons_succ]); (try simp only [List.set_cons_zero]))))
                refine wpHeldG_nil ?_
                refine wpAnyG_takesAt 8 1 2 (of_decide_eq_true (by kernel_rfl)) rfl (fun _ _ _ d _ h => by cases d <;> exact h) (by kernel_rfl) (by kernel_rfl) (fun _ => hHeld) ?_
                simp only [List.drop_succ_cons, List.drop_zero, List.take_succ_cons, List.take_zero]
                refine wpHeldG_free (v := .pointer (some ⟨w.heap.size, 0, none⟩)) (by rfl) (fun wz => by go_simp) ?_
                (simp only [Act.put]; (try simp only [List.setIfInBounds_toArray]); (try simp only [List.set_cons_succ]); (try simp only [List.set_cons_zero]))
                refine wpHeldG_nil ?_
                refine wpAnyG_takesAt 9 1 1 (of_decide_eq_true (by kernel_rfl)) rfl (fun _ _ _ d _ h => by cases d <;> exact h) (by kernel_rfl) (by kernel_rfl) (fun _ => hHeld) ?_
                simp only [List.drop_succ_cons, List.drop_zero, List.take_succ_cons, List.take_zero]
                iterate 1 (refine wpHeldG_step (v := ?_) (by rfl) (by kernel_rfl) (fun wz hSw => ?_) ?_; rotate_left; (focus ((try dsimp only at hSw); go_simp; try with_reducible rfl)); ((simp only [Act.put]; (try simp only [List.setIfInBounds_toArray]); (try simp only [List.set_cons_succ]); (try simp only [List.set_cons_zero]))))
                refine wpHeldG_nil ?_
                refine wpAnyG_only (i := 10) (by kernel_rfl) rfl (by rfl) (fun K hK => ?_)
                go_simp
                refine hK.out _ _ (gone (by kernel_rfl)) ?_
                clear hK K hHeld
                refine wpAnyG_done (by kernel_rfl) ?_ _
                have ecast : ((at_ : Nat) : Int) + ((k : Nat) : Int) = ((at_ + k : Nat) : Int) := by omega
                obtain ⟨wl, hwl⟩ : ∃ wl, (wk.setCell ⟨w.heap.size, 4, none⟩ (.int .i64 (((at_ : Nat) : Int) + ((k : Nat) : Int)))).drew = wl := ⟨_, rfl⟩
                have HSl : Hid (RSt F n₀ wl w.heap.size p g v' d ⟨f, n, gen, at_ + k, recs ++ [recB d.ss f at_ m], false⟩) := by
                  rw [← hwl, ecast]
                  exact (HSk.out.setL (i := 4) (l' := ⟨f, n, gen, at_ + k, recs ++ [recB d.ss f at_ m], false⟩) rfl rfl).later (Below.refl _ _).drew
                have HBl2 : Hid (Buts [w.heap.size] wk.heap.size wk wl) := by rw [← hwl]; exact ((Buts.refl _ _ wk).set (by simp) 4 _).drew
                rw [hwl]
                clear hwl ecast hck4 hfk4 hsm
                go_wp2
                have hz3 : w.heap.size ≤ w3.heap.size := by have := HB3.out.size; have := HSz9.out; omega
                have hbA : Below w.heap.size w3 wk := HBk.out.below hz3 (fun x hx => by
                  rcases List.mem_cons.1 hx with h | h
                  · omega
                  · exact HOv.out x (mem_ownL.1 h))
                have hbB : Below w.heap.size wk wl := HBl2.out.below (by have := HBk.out.size; omega) (by simp)
                have hbC : Below w.heap.size w w3 := (HB9.out.trans (HBw.out.mono HSz9.out)).trans (HB3.out.mono (by have := HSz9.out; omega))
                refine ⟨⟨at_ + k, fu, recs ++ [recB d.ss f at_ m], v', by omega, by rw [List.length_append, List.length_singleton]; omega, by omega, HGo.out.symm.trans HSc.out, HSl.out, (hbC.trans hbA).trans hbB, HA4.out⟩, ?_⟩
                have e9 : wl.cell? ⟨w.heap.size, 4, none⟩ = some (.int .i64 ((at_ + k : Nat) : Int)) := HSl.out.log.1.cell (i := 4) rfl
                simp only [roomR, e9, HC4o.out, Int.toNat_natCast]
                omega
          · have hki : ((n : Nat) : Int) - (at_ : Nat) < (k : Nat) := by omega
            have hkd : decide (((n : Nat) : Int) - (at_ : Nat) < (k : Nat)) = true := decide_eq_true hki
            have HFin : Hid (scan d.ss f n gen (n + 1) 0 [] = (at_, recs)) := HSc.out.symm.trans (scan_no (.inr (.inr (by rw [HS0.out, HM.out, hk]; omega))))
            clear hk
            refine wp_region_held_drew (S := fun W => Below w9.heap.size w9 W) (by kernel_rfl) (Below.refl _ _).drew (fun hHeld => ?_)
            refine wpAnyH_takesAt 0 12 9 (of_decide_eq_true (by kernel_rfl)) rfl (fun _ _ _ d _ h => by cases d <;> exact h) (by kernel_rfl) (by kernel_rfl) hHeld ?_
            simp only [List.drop_zero, List.take_succ_cons, List.take_zero]
            iterate 12 (refine wpHeld_step (v := ?_) (by rfl) (fun wz hSw => ?_) ?_; rotate_left; (focus ((obtain ⟨hf1, hf2, hf3⟩ := HF.out wz hSw; clear hSw); go_simp; try with_reducible rfl)); (simp only [Act.put, List.setIfInBounds_toArray, List.set_cons_zero, List.set_cons_succ]))
            refine wpHeld_nil ?_
            refine wpAnyH_takesAt 13 6 3 (of_decide_eq_true (by kernel_rfl)) rfl (fun _ _ _ d _ h => by cases d <;> exact h) (by kernel_rfl) (by kernel_rfl) hHeld ?_
            simp only [List.drop_succ_cons, List.drop_zero, List.take_succ_cons, List.take_zero]
            iterate 6 (refine wpHeld_step (v := ?_) (by rfl) (fun wz hSw => ?_) ?_; rotate_left; (focus ((obtain ⟨hf1, hf2, hf3⟩ := HF.out wz hSw; clear hSw); go_simp; try with_reducible rfl)); (simp only [Act.put, List.setIfInBounds_toArray, List.set_cons_zero, List.set_cons_succ]))
            refine wpHeld_nil ?_
            refine wpAnyH_only (i := 12) (by kernel_rfl) rfl (fun K hK => ?_)
            rw [if_pos (by rfl)]
            go_simp
            refine (HSp.out _).mono ?_
            rintro e wq ⟨rfl, hwq⟩
            obtain rfl := hwq.symm
            clear hwq
            refine hK.out _ _ hHeld ?_
            clear hK K
            refine wpAnyH_takesAt 19 2 0 (of_decide_eq_true (by kernel_rfl)) rfl (fun _ _ _ d _ h => by cases d <;> exact h) (by kernel_rfl) (by kernel_rfl) hHeld ?_
            simp only [List.drop_succ_cons, List.drop_zero, List.take_succ_cons, List.take_zero]
            iterate 2 (refine wpHeld_step (v := ?_) (by rfl) (fun wz hSw => ?_) ?_; rotate_left; (focus ((try dsimp only at hSw); go_simp; try with_reducible rfl)); (simp only [Act.put, List.setIfInBounds_toArray, List.set_cons_zero, List.set_cons_succ]))
            refine wpHeld_nil ?_
            refine wpAnyH_done (by kernel_rfl) ?_ _
            have hb10 := hHeld
            clear hHeld
            go_wp2
            (try rw [Exit.noGoto_ret])
            refine bodyPost_ret (results_tmp2 rfl _ _ _) rfl ?_
            exact ⟨w.heap.size, _, rfl, Nat.le_refl _, HOv.out, HB9.out.trans (hb10.mono HB9.out.size), by rw [HFin.out]; exact HSt9.out.later hb10⟩
        · have hmi : (262144 : Int) < (m : Nat) := by omega
          have hmd : decide ((262144 : Int) < (m : Nat)) = true := decide_eq_true hmi
          have HFin : Hid (scan d.ss f n gen (n + 1) 0 [] = (at_, recs)) := HSc.out.symm.trans (scan_no (.inr (.inl (by rw [HS0.out, HM.out]; omega))))
          refine wp_region_held_drew (S := fun W => Below w9.heap.size w9 W) (by kernel_rfl) (Below.refl _ _).drew (fun hHeld => ?_)
          refine wpAnyH_takesAt 0 10 11 (of_decide_eq_true (by kernel_rfl)) rfl (fun _ _ _ d _ h => by cases d <;> exact h) (by kernel_rfl) (by kernel_rfl) hHeld ?_
          simp only [List.drop_zero, List.take_succ_cons, List.take_zero]
          iterate 10 (refine wpHeld_step (v := ?_) (by rfl) (fun wz hSw => ?_) ?_; rotate_left; (focus ((obtain ⟨hf1, hf2, hf3⟩ := HF.out wz hSw; clear hSw); go_simp; try with_reducible rfl)); (simp only [Act.put, List.setIfInBounds_toArray, List.set_cons_zero, List.set_cons_succ]))
          refine wpHeld_nil ?_
          refine wpAnyH_takesAt 10 10 1 (of_decide_eq_true (by kernel_rfl)) rfl (fun _ _ _ d _ h => by cases d <;> exact h) (by kernel_rfl) (by kernel_rfl) hHeld ?_
          simp only [List.drop_succ_cons, List.drop_zero, List.take_succ_cons, List.take_zero]
          iterate 10 (refine wpHeld_skip (by rfl) ?_; (simp only [Act.put]; (try simp only [List.setIfInBounds_toArray]); (try simp only [List.set_cons_succ]); (try simp only [List.set_cons_zero])))
          refine wpHeld_nil ?_
          refine wpAnyH_takesAt 20 1 0 (of_decide_eq_true (by kernel_rfl)) rfl (fun _ _ _ d _ h => by cases d <;> exact h) (by kernel_rfl) (by kernel_rfl) hHeld ?_
          simp only [List.drop_succ_cons, List.drop_zero, List.take_succ_cons, List.take_zero]
          iterate 1 (refine wpHeld_step (v := ?_) (by rfl) (fun wz hSw => ?_) ?_; rotate_left; (focus ((try dsimp only at hSw); go_simp; try with_reducible rfl)); ((simp only [Act.put]; (try simp only [List.setIfInBounds_toArray]); (try simp only [List.set_cons_succ]); (try simp only [List.set_cons_zero]))))
          refine wpHeld_nil ?_
          refine wpAnyH_done (by kernel_rfl) ?_ _
          have hb10 := hHeld
          clear hHeld
          go_wp2
          (try rw [Exit.noGoto_ret])
          refine bodyPost_ret (results_tmp2 rfl _ _ _) rfl ?_
          exact ⟨w.heap.size, _, rfl, Nat.le_refl _, HOv.out, HB9.out.trans (hb10.mono HB9.out.size), by rw [HFin.out]; exact HSt9.out.later hb10⟩
      · have hSe : (S1.toList == S2.toList) = false := by rw [HSe.out]; exact decide_eq_false h1
        have HFin : Hid (scan d.ss f n gen (n + 1) 0 [] = (at_, recs)) := HSc.out.symm.trans (scan_no (.inl (by rw [HS0.out, ← HMk.out]; exact h1)))
        refine wp_region_held_drew (S := fun W => Below w9.heap.size w9 W) (by kernel_rfl) (Below.refl _ _).drew (fun hHeld => ?_)
        refine wpAnyH_takesAt 0 6 15 (of_decide_eq_true (by kernel_rfl)) rfl (fun _ _ _ d _ h => by cases d <;> exact h) (by kernel_rfl) (by kernel_rfl) hHeld ?_
        simp only [List.drop_zero, List.take_succ_cons, List.take_zero]
        iterate 6 (refine wpHeld_step (v := ?_) (by rfl) (fun wz hSw => ?_) ?_; rotate_left; (focus ((obtain ⟨hf1, hf2, hf3⟩ := HF.out wz hSw; clear hSw); go_simp; try with_reducible rfl)); (simp only [Act.put, List.setIfInBounds_toArray, List.set_cons_zero, List.set_cons_succ]))
        refine wpHeld_nil ?_
        refine wpAnyH_takesAt 6 2 13 (of_decide_eq_true (by kernel_rfl)) rfl (fun _ _ _ d _ h => by cases d <;> exact h) (by kernel_rfl) (by kernel_rfl) hHeld ?_
        simp only [List.drop_succ_cons, List.drop_zero, List.take_succ_cons, List.take_zero]
        iterate 2 (refine wpHeld_skip (by rfl) ?_; (simp only [Act.put]; (try simp only [List.setIfInBounds_toArray]); (try simp only [List.set_cons_succ]); (try simp only [List.set_cons_zero])))
        refine wpHeld_nil ?_
        refine wpAnyH_takesAt 8 2 11 (of_decide_eq_true (by kernel_rfl)) rfl (fun _ _ _ d _ h => by cases d <;> exact h) (by kernel_rfl) (by kernel_rfl) hHeld ?_
        simp only [List.drop_succ_cons, List.drop_zero, List.take_succ_cons, List.take_zero]
        iterate 2 (refine wpHeld_step (v := ?_) (by rfl) (fun wz hSw => ?_) ?_; rotate_left; (focus ((try dsimp only at hSw); go_simp; try with_reducible rfl)); (simp only [Act.put, List.setIfInBounds_toArray, List.set_cons_zero, List.set_cons_succ]))
        refine wpHeld_nil ?_
        refine wpAnyH_takesAt 10 10 1 (of_decide_eq_true (by kernel_rfl)) rfl (fun _ _ _ d _ h => by cases d <;> exact h) (by kernel_rfl) (by kernel_rfl) hHeld ?_
        simp only [List.drop_succ_cons, List.drop_zero, List.take_succ_cons, List.take_zero]
        iterate 10 (refine wpHeld_skip (by rfl) ?_; (simp only [Act.put]; (try simp only [List.setIfInBounds_toArray]); (try simp only [List.set_cons_succ]); (try simp only [List.set_cons_zero])))
        refine wpHeld_nil ?_
        refine wpAnyH_takesAt 20 1 0 (of_decide_eq_true (by kernel_rfl)) rfl (fun _ _ _ d _ h => by cases d <;> exact h) (by kernel_rfl) (by kernel_rfl) hHeld ?_
        simp only [List.drop_succ_cons, List.drop_zero, List.take_succ_cons, List.take_zero]
        iterate 1 (refine wpHeld_step (v := ?_) (by rfl) (fun wz hSw => ?_) ?_; rotate_left; (focus ((try dsimp only at hSw); go_simp; try with_reducible rfl)); ((simp only [Act.put]; (try simp only [List.setIfInBounds_toArray]); (try simp only [List.set_cons_succ]); (try simp only [List.set_cons_zero]))))
        refine wpHeld_nil ?_
        refine wpAnyH_done (by kernel_rfl) ?_ _
        have hb10 := hHeld
        clear hHeld
        go_wp2
        (try rw [Exit.noGoto_ret])
        refine bodyPost_ret (results_tmp2 rfl _ _ _) rfl ?_
        exact ⟨w.heap.size, _, rfl, Nat.le_refl _, HOv.out, HB9.out.trans (hb10.mono HB9.out.size), by rw [HFin.out]; exact HSt9.out.later hb10⟩
    · obtain rfl : at_ = n := by omega
      have HF : Hid (scan d.ss f at_ gen (at_ + 1) 0 [] = (at_, recs)) := by
        show _ = _
        rw [← HSc.out]
        exact scan_end (Nat.le_refl _)
      go_wp2
      refine bodyPost_ret (results_tmp2 rfl _ _ _) rfl ?_
      exact ⟨w.heap.size, _, rfl, Nat.le_refl _, HOv.out, HBl.out, by rw [HF.out]; exact HSt.out⟩
end Go.Proofs.Ytifjkkfienmdjaa
/-
  The records that any sectors are: the law's walk.
-/
namespace Go.Proofs.Ytifjkkfienmdjaa
open Go.RowKit Go.Shelf

theorem laidD_calm (n : Int) (zs : List Nat) : ∀ k, (laidD n zs k).cr = [] ∧ (laidD n zs k).dead = false
  | 0 => ⟨rfl, rfl⟩
  | k + 1 => by
    obtain ⟨h1, h2⟩ := laidD_calm n zs k
    have hst : (laidD n zs k).strikes = false := by unfold St.strikes; rw [h1]
    show ((laidD n zs k).write (k : Nat) (secZ zs k)).cr = [] ∧ ((laidD n zs k).write (k : Nat) (secZ zs k)).dead = false
    unfold St.write
    split
    · exact ⟨h1, h2⟩
    · rw [if_neg (by rw [hst]; simp)]
      exact ⟨h1, h2⟩
theorem scan_ok (ss : List (List Nat)) (f n gen : Nat) : ∀ (fuel at_ : Nat) (recs : List (List Nat)), at_ ≤ n → recs.length ≤ at_ → (∀ z ∈ recs, z.length ≤ 262144) →
    (scan ss f n gen fuel at_ recs).1 ≤ n ∧ (scan ss f n gen fuel at_ recs).2.length ≤ (scan ss f n gen fuel at_ recs).1 ∧ ∀ z ∈ (scan ss f n gen fuel at_ recs).2, z.length ≤ 262144
  | 0, at_, recs, h1, h2, h3 => ⟨h1, h2, h3⟩
  | fuel + 1, at_, recs, h1, h2, h3 => by
    rw [scan]
    by_cases hn : n ≤ at_
    · rw [if_pos hn]
      exact ⟨h1, h2, h3⟩
    · rw [if_neg hn]
      by_cases hc : (ss.getD (f + at_) []).drop 55 ≠ markL gen recs.length ∨ 262144 < numFrom (ss.getD (f + at_) []) 0 4 ∨ n - at_ < spanN (numFrom (ss.getD (f + at_) []) 0 4)
      · rw [if_pos hc]
        exact ⟨h1, h2, h3⟩
      · rw [if_neg hc]
        have c2 : numFrom (ss.getD (f + at_) []) 0 4 ≤ 262144 := Nat.not_lt.1 (fun h => hc (.inr (.inl h)))
        have c3 : spanN (numFrom (ss.getD (f + at_) []) 0 4) ≤ n - at_ := Nat.not_lt.1 (fun h => hc (.inr (.inr h)))
        have c4 := spanN_nat c2
        refine scan_ok ss f n gen fuel _ _ (by omega) (by rw [List.length_append, List.length_singleton]; omega) (fun z hz => ?_)
        rcases List.mem_append.1 hz with h | h
        · exact h3 z h
        · rw [List.mem_singleton] at h
          subst h
          rw [recB, List.length_take]
          omega
theorem wantAt_of {n₀ : Nat} {W : World} {q : Option Addr} {len c : Nat} {recs : List (List Nat)} (h : RecsAt n₀ W (.slice q len c) recs) : WantAt W q len c recs := by
  obtain ⟨h1, h2, h3⟩ := h.cap
  refine ⟨h1, h2, h3, fun z hz => ?_, ?_⟩
  · obtain ⟨i, hi, e⟩ := List.getElem_of_mem hz
    obtain ⟨_, x, _, _, hx⟩ := h.at (i := i) (by omega)
    rw [List.getD_eq_getElem?_getD, List.getElem?_eq_getElem hi, Option.getD_some, e] at hx
    obtain ⟨_, _, _, _, _, _, _, h5, _⟩ := hx
    exact h5
  · by_cases h0 : len = 0
    · exact .inl h0
    · obtain ⟨G, x, rfl, hx, _⟩ := h.at (i := 0) (by omega)
      refine .inr ⟨G, 0, rfl, ?_, fun i hi => ?_⟩
      · obtain ⟨_, hl, _⟩ := h.own (k := G) rfl
        exact hl
      · obtain ⟨G', x, e, hx, hb⟩ := h.at (i := i) hi
        cases e
        obtain ⟨qx, lx, cx, rfl, hlx⟩ : ∃ qx lx cx, x = .slice qx lx cx ∧ (recs.getD i []).length = lx := by obtain ⟨a, b, c, e, e2, _⟩ := hb; exact ⟨a, b, c, e, e2⟩
        rw [Nat.zero_add]
        exact ⟨qx, lx, cx, hx, hb.bytes⟩
theorem crLow_mine {F : List Nat} {W : World} {p g : Nat} {d : St} (h : DiskAt F W p g d) : CrLow W.heap.size W p 4 := by
  intro q len cap hc
  obtain ⟨h1, h2, h3, h4, h5, q', len', cap', h6, h7⟩ := h
  rw [h6.cell (i := 4) rfl] at hc
  cases hc
  rcases h7.2.2.2 with h | ⟨b, off, e, hl, _⟩
  · exact .inl h
  · exact .inr ⟨b, off, e, hl⟩
theorem crLow_ref {F : List Nat} {W : World} {p g : Nat} {d : St} (h : RefAt F W p g d) : CrLow W.heap.size W p 1 := by
  intro q len cap hc
  obtain ⟨h1, h2, h3, h4, h5, q', len', cap', h6, h7⟩ := h
  rw [h6.cell (i := 1) rfl] at hc
  cases hc
  rcases h7.2.2.2 with h | ⟨b, off, e, hl, _⟩
  · exact .inl h
  · exact .inr ⟨b, off, e, hl⟩

set_option maxRecDepth 100000 in
set_option maxHeartbeats 2000000 in
theorem refOpen_not {F : List Nat} {w : World} {p g : Nat} {d : St} (h : RefAt F w p g d) (f n : Int) (gen : Nat) (hn : -9223372036854775808 ≤ n ∧ n ≤ 9223372036854775807) (hf : -9223372036854775808 ≤ f ∧ f ≤ 9223372036854775807) (hr : regB d.ss.length f n = false) :
    Calls Try.prog 13 #[.pointer (some ⟨p, 0, none⟩), .int .i64 f, .int .i64 n, .int .u32 (gen : Nat)] w fun e w' => e = .returned (.tuple #[.pointer none, .int .i64 1]) ∧ w' = w := by
  have HR : Hid (Calls Try.prog 33 #[.pointer (some ⟨p, 0, none⟩), .int .i64 f, .int .i64 n] w fun e w' => e = .returned (.bool false) ∧ w' = w) := by
    have := refRegion_any h f n hn hf
    rw [hr] at this
    exact this
  clear h hr
  go_enter Try.func13, Try.ntmps13
  go_wp2_with (go_at_call 33; refine HR.out.mono ?_; rintro e w2 ⟨rfl, hw2⟩; obtain rfl : w = w2 := hw2.symm; clear hw2)
  (try rw [Exit.noGoto_ret])
  refine bodyPost_ret (results_tmp2 rfl _ _ _) rfl ?_
  exact ⟨rfl, rfl⟩

set_option maxRecDepth 100000 in
set_option maxHeartbeats 4000000 in
theorem slogOpens_walk (n : Int) (q : Option Addr) (len cap : Nat) (zs : List Nat) (f s : Int) (gen : Nat) (w : World) (hn : -9223372036854775808 ≤ n ∧ n ≤ 9223372036854775807) (hI : IsBytes w.heap.size w q len cap zs) (hf : -9223372036854775808 ≤ f ∧ f ≤ 9223372036854775807) (hs : -9223372036854775808 ≤ s ∧ s ≤ 9223372036854775807) (hgen : gen < 4294967296) :
    Calls Try.prog 4 #[.int .i64 n, .slice q len cap, .int .i64 f, .int .i64 s, .int .u32 (gen : Nat)] w fun e w' => e = .returned (.bool true) ∧ Below w.heap.size w w' := by
  have HA : Hid (Calls Try.prog 8 #[] w fun e w' => e = .returned (.bool true) ∧ Below w.heap.size w w') := awake_any w
  have HI : Hid (IsBytes w.heap.size w q len cap zs) := hI
  clear hI
  by_cases h1 : (60 : Int) < n
  · have g1 : decide ((60 : Int) < n) = true := decide_eq_true h1
    go_enter Try.func4, Try.ntmps4
    go_wp2_with (go_at_call 8; refine HA.out.mono ?_; rintro e w1 ⟨rfl, hb1⟩)
    go_ret
    exact ⟨rfl, hb1⟩
  have g1 : decide ((60 : Int) < n) = false := decide_eq_false h1
  by_cases h2 : n < 0
  · have g2 : decide (n < (0 : Int)) = true := decide_eq_true h2
    go_enter Try.func4, Try.ntmps4
    go_wp2_with (go_at_call 8; refine HA.out.mono ?_; rintro e w1 ⟨rfl, hb1⟩)
    go_ret
    exact ⟨rfl, hb1⟩
  have g2 : decide (n < (0 : Int)) = false := decide_eq_false h2
  by_cases h3 : (4000 : Int) < (len : Int)
  · have g3 : decide ((4000 : Int) < (len : Int)) = true := decide_eq_true h3
    go_enter Try.func4, Try.ntmps4
    go_wp2_with (go_at_call 8; refine HA.out.mono ?_; rintro e w1 ⟨rfl, hb1⟩)
    go_ret
    exact ⟨rfl, hb1⟩
  have g3 : decide ((4000 : Int) < (len : Int)) = false := decide_eq_false h3
  have HLa : Hid (∀ W, Below w.heap.size w W → Calls Try.prog 11 #[.int .i64 n, .slice q len cap] W (LaidPost n len zs W)) := fun W hb => laid_any n (by omega) q len cap zs W ((HI.out.below hb).mono hb.size)
  go_enter Try.func4, Try.ntmps4
  go_upto_region 6 with (first
    | (go_at_call 8; refine HA.out.mono ?_; rintro e w1 ⟨rfl, hb1⟩)
    | (go_at_call 11; refine (HLa.out _ hb1).mono ?_; rintro e w2 ⟨p, g, p', g', k, rfl, hk, hBo, hb2, _⟩; have HBo : Hid (Both w1.heap.size p g p' g' w2 (laidD n zs k)) := hBo; clear hBo))
  have HB2 : Hid (Below w.heap.size w w2) := hb1.trans (hb2.mono hb1.size)
  obtain ⟨hcr, hdead⟩ := laidD_calm n zs k
  have hwr := laidD_wr n zs k
  obtain ⟨d, hd⟩ : ∃ d, laidD n zs k = d := ⟨_, rfl⟩
  rw [hd] at HBo hcr hdead hwr
  have hfew := HBo.out.mine.1.few
  clear hd hb1 hb2
  by_cases hreg : regB d.ss.length f s = true
  · obtain ⟨f, rfl⟩ : ∃ f' : Nat, f = (f' : Nat) := ⟨f.toNat, by simp only [regB, Bool.and_eq_true, decide_eq_true_eq] at hreg; omega⟩
    obtain ⟨s, rfl⟩ : ∃ s' : Nat, s = (s' : Nat) := ⟨s.toNat, by simp only [regB, Bool.and_eq_true, decide_eq_true_eq] at hreg; omega⟩
    obtain ⟨hs2, hfs⟩ : 2 ≤ s ∧ f + s ≤ d.ss.length := by simp only [regB, Bool.and_eq_true, decide_eq_true_eq] at hreg; omega
    obtain ⟨k1, k2, k3⟩ := scan_ok d.ss f s gen (s + 1) 0 [] (by omega) (by simp) (by simp)
    have HOp : Hid (Calls Try.prog 12 #[.pointer (some ⟨p, 0, none⟩), .int .i64 (f : Nat), .int .i64 (s : Nat), .int .u32 (gen : Nat)] w2 fun e w' => ∃ L v, e = .returned (.tuple #[.pointer (some ⟨L, 0, none⟩), .int .i64 0]) ∧ Below w2.heap.size w2 w' ∧ MSt [p, g, p', g'] w2.heap.size w' L p g v d ⟨f, s, gen, (scan d.ss f s gen (s + 1) 0 []).1, (scan d.ss f s gen (s + 1) 0 []).2, false⟩) :=
      (open_live HBo.out.mine (crLow_mine HBo.out.mine) HBo.out.mine.lt (Nat.le_refl _) f s gen hs2 hfs hgen hdead (by omega)).mono fun e w' ⟨L, v, a1, _, _, a4, a5⟩ => ⟨L, v, a1, a4, a5⟩
    have HRo : Hid (∀ W, Below w2.heap.size w2 W → Calls Try.prog 13 #[.pointer (some ⟨p', 0, none⟩), .int .i64 (f : Nat), .int .i64 (s : Nat), .int .u32 (gen : Nat)] W (ROpnPost [p, g, p', g'] W.heap.size W p' g' d f s gen)) := fun W hb =>
      refOpen_live (HBo.out.later hb).other (crLow_ref (HBo.out.later hb).other) (HBo.out.later hb).other.lt (Nat.le_refl _) f s gen hs2 hfs hgen hdead
    obtain ⟨A, hA⟩ : ∃ A, (scan d.ss f s gen (s + 1) 0 []).1 = A := ⟨_, rfl⟩
    obtain ⟨R, hR⟩ : ∃ R, (scan d.ss f s gen (s + 1) 0 []).2 = R := ⟨_, rfl⟩
    simp only [hA, hR] at HOp k1 k2 k3
    have HRo' : Hid (∀ W, Below w2.heap.size w2 W → Calls Try.prog 13 #[.pointer (some ⟨p', 0, none⟩), .int .i64 (f : Nat), .int .i64 (s : Nat), .int .u32 (gen : Nat)] W fun e w' => ∃ L vq vc, e = .returned (.tuple #[.pointer (some ⟨L, 0, none⟩), .int .i64 0]) ∧ Below W.heap.size W w' ∧ RSt [p, g, p', g'] W.heap.size w' L p' g' (.slice vq R.length vc) d ⟨f, s, gen, A, R, false⟩) := fun W hb => (HRo.out W hb).mono fun e w' ⟨L, v, a1, _, _, a4, a5⟩ => by
      rw [hA, hR] at a5
      obtain ⟨vq, vc, rfl⟩ := a5.log.2.slice
      exact ⟨L, vq, vc, a1, a4, a5⟩
    clear hA hR HRo hreg
    go_upto_region 10 with (first
      | (go_at_call 12; refine HOp.out.mono ?_; rintro e w3 ⟨L, v, rfl, hb3, hM3⟩; have HM3 : Hid (MSt [p, g, p', g'] w2.heap.size w3 L p g v d ⟨f, s, gen, A, R, false⟩) := hM3; clear hM3)
      | (go_at_call 13; refine (HRo'.out _ hb3).mono ?_; rintro e w4 ⟨L', vq, vc, rfl, hb4, hR4⟩; have HR4 : Hid (RSt [p, g, p', g'] w3.heap.size w4 L' p' g' (.slice vq R.length vc) d ⟨f, s, gen, A, R, false⟩) := hR4; have HM4 : Hid (MSt [p, g, p', g'] w2.heap.size w4 L p g v d ⟨f, s, gen, A, R, false⟩) := HM3.out.later hb4; clear hR4))
    have HB4 : Hid (Below w.heap.size w w4) := (HB2.out.trans (hb3.mono HB2.out.size)).trans (hb4.mono (Nat.le_trans HB2.out.size hb3.size))
    have HSm : Hid (∀ W, Below w4.heap.size w4 W → Calls Try.prog 14 #[.pointer (some ⟨L, 0, none⟩), .slice vq R.length vc] W fun e w' => e = .returned (.bool true) ∧ Below W.heap.size W w') := fun W hb => by
      have := same_any (HM4.out.later hb) (by show R.length ≤ _; omega) (fun z hz => Nat.le_trans (k3 z hz) (by omega)) vq R.length vc R (wantAt_of (HR4.out.later hb).log.2)
      rw [show decide (R = R) = true from decide_eq_true rfl] at this
      exact this
    have HRm : Hid (∀ W, Below w4.heap.size w4 W → Calls Try.prog 15 #[.pointer (some ⟨L, 0, none⟩)] W fun e w' => e = .returned (.int .i64 (((s : Nat) : Int) - ((A : Nat) : Int))) ∧ Below W.heap.size W w') := fun W hb => by
      have := (HM4.out.later hb).room ⟨by show f ≤ _; omega, by show s ≤ _; omega, k1, hgen, by show R.length ≤ _; omega, by omega⟩
      rw [show ((((⟨f, s, gen, A, R, false⟩ : Lg).n - (⟨f, s, gen, A, R, false⟩ : Lg).pos : Nat)) : Int) = ((s : Nat) : Int) - ((A : Nat) : Int) from Int.ofNat_sub k1] at this
      exact this
    have HF : Hid (∀ W, Below w4.heap.size w4 W → W.cell? ⟨L', 5, none⟩ = some (.slice vq R.length vc) ∧ W.cell? ⟨L', 4, none⟩ = some (.int .i64 (A : Nat))) := fun W hb => ⟨(HR4.out.later hb).log.1.cell (i := 5) rfl, (HR4.out.later hb).log.1.cell (i := 4) rfl⟩
    have hsw : IntKind.i64.wrap (((s : Nat) : Int) - ((A : Nat) : Int)) = ((s : Nat) : Int) - ((A : Nat) : Int) := by rw [IntKind.wrap_i64]; omega
    clear hb3 hb4 k3
    refine wp_region_held_drew (S := fun W => Below w4.heap.size w4 W) (by kernel_rfl) (Below.refl _ _).drew (fun hHeld => ?_)
    refine wpAnyH_takesAt 0 5 13 (of_decide_eq_true (by kernel_rfl)) rfl (fun _ _ _ d _ h => by cases d <;> exact h) (by kernel_rfl) (by kernel_rfl) hHeld ?_
    simp only [List.drop_zero, List.take_succ_cons, List.take_zero]
    iterate 5 (refine wpHeld_step (v := ?_) (by rfl) (fun wz hSw => ?_) ?_; rotate_left; (focus ((obtain ⟨hf1, hf2⟩ := HF.out wz hSw; clear hSw); go_simp; try with_reducible rfl)); (simp only [Act.put, List.setIfInBounds_toArray, List.set_cons_zero, List.set_cons_succ]))
    refine wpHeld_nil ?_
    refine wpAnyH_only (i := 5) (by kernel_rfl) rfl (fun K hK => ?_)
    rw [if_pos (by rfl)]
    go_simp
    refine (HSm.out _ hHeld).mono ?_
    rintro e w5 ⟨rfl, hb5⟩
    have hHeld5 : Below w4.heap.size w4 w5 := hHeld.trans (hb5.mono hHeld.size)
    refine hK.out _ _ hHeld5 ?_
    clear hK K hHeld
    have hHeld := hHeld5
    refine wpAnyH_takesAt 6 2 10 (of_decide_eq_true (by kernel_rfl)) rfl (fun _ _ _ d _ h => by cases d <;> exact h) (by kernel_rfl) (by kernel_rfl) hHeld ?_
    simp only [List.drop_succ_cons, List.drop_zero, List.take_succ_cons, List.take_zero]
    iterate 2 (refine wpHeld_step (v := ?_) (by rfl) (fun wz hSw => ?_) ?_; rotate_left; (focus ((try dsimp only at hSw); go_simp; try with_reducible rfl)); (simp only [Act.put, List.setIfInBounds_toArray, List.set_cons_zero, List.set_cons_succ]))
    refine wpHeld_nil ?_
    refine wpAnyH_takesAt 9 6 4 (of_decide_eq_true (by kernel_rfl)) rfl (fun _ _ _ d _ h => by cases d <;> exact h) (by kernel_rfl) (by kernel_rfl) hHeld ?_
    simp only [List.drop_succ_cons, List.drop_zero, List.take_succ_cons, List.take_zero]
    iterate 6 (refine wpHeld_step (v := ?_) (by rfl) (fun wz hSw => ?_) ?_; rotate_left; (focus ((obtain ⟨hf1, hf2⟩ := HF.out wz hSw; clear hSw); go_simp; try with_reducible rfl)); (simp only [Act.put, List.setIfInBounds_toArray, List.set_cons_zero, List.set_cons_succ]))
    refine wpHeld_nil ?_
    refine wpAnyH_only (i := 8) (by kernel_rfl) rfl (fun K hK => ?_)
    rw [if_pos (by rfl)]
    go_simp
    refine (HRm.out _ hHeld).mono ?_
    rintro e w6 ⟨rfl, hb6⟩
    have hHeld6 : Below w4.heap.size w4 w6 := hHeld.trans (hb6.mono hHeld.size)
    refine hK.out _ _ hHeld6 ?_
    clear hK K hHeld
    have hHeld := hHeld6
    refine wpAnyH_takesAt 15 3 0 (of_decide_eq_true (by kernel_rfl)) rfl (fun _ _ _ d _ h => by cases d <;> exact h) (by kernel_rfl) (by kernel_rfl) hHeld ?_
    simp only [List.drop_succ_cons, List.drop_zero, List.take_succ_cons, List.take_zero]
    iterate 3 (refine wpHeld_step (v := ?_) (by rfl) (fun wz hSw => ?_) ?_; rotate_left; (focus ((try dsimp only at hSw); go_simp; try with_reducible rfl)); (simp only [Act.put, List.setIfInBounds_toArray, List.set_cons_zero, List.set_cons_succ]))
    refine wpHeld_nil ?_
    refine wpAnyH_done (by kernel_rfl) ?_ _
    go_wp2
    go_ret
    exact ⟨rfl, HB4.out.trans (hHeld6.mono HB4.out.size)⟩
  · have hreg' : regB d.ss.length f s = false := by simpa using hreg
    have HOp : Hid (Calls Try.prog 12 #[.pointer (some ⟨p, 0, none⟩), .int .i64 f, .int .i64 s, .int .u32 (gen : Nat)] w2 fun e w' => e = .returned (.tuple #[.pointer none, .int .i64 1]) ∧ w' = w2) := open_not HBo.out.mine f s gen hs hf hreg'
    have HRo : Hid (Calls Try.prog 13 #[.pointer (some ⟨p', 0, none⟩), .int .i64 f, .int .i64 s, .int .u32 (gen : Nat)] w2 fun e w' => e = .returned (.tuple #[.pointer none, .int .i64 1]) ∧ w' = w2) := refOpen_not HBo.out.other f s gen hs hf hreg'
    clear hreg hreg'
    go_wp2_with (first
      | (go_at_call 12; refine HOp.out.mono ?_; rintro e w3 ⟨rfl, hw3⟩; obtain rfl := hw3.symm; clear hw3)
      | (go_at_call 13; refine HRo.out.mono ?_; rintro e w4 ⟨rfl, hw4⟩; obtain rfl := hw4.symm; clear hw4))
    go_ret
    exact ⟨rfl, HB2.out⟩
end Go.Proofs.Ytifjkkfienmdjaa
