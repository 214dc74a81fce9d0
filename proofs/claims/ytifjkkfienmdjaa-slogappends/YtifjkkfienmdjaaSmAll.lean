/-
  Several texts in one: Sme, Nxp, Sme2, ArgsS.
-/
import Derived.Test.YtifjkkfienmdjaaAwS
import Derived.Test.YtifjkkfienmdjaaNx
import Derived.Test.YtifjkkfienmdjaaArgs
/-
  Records, told one behind the other; the law's same.
-/
namespace Go.Proofs.Ytifjkkfienmdjaa
open Go.RowKit Go.Shelf
attribute [local go_sem] Oper.semAt_some

set_option maxHeartbeats 1000000 in
theorem records_any {L : Nat} {v : Value} {w : World} (q : Option Addr) (len c : Nat) (hv : v = .slice q len c) (h : w.cell? ⟨L, 5, none⟩ = some v) : Calls Try.prog 37 #[.pointer (some ⟨L, 0, none⟩)] w fun e w' => e = .returned (.func (.func 48) #[] #[.pointer (some ⟨w.heap.size, 0, none⟩)]) ∧ w' = w.alloc (.cells #[v] 39) := by
  subst hv
  have hlt := World.block_lt_of_cell? w _ h
  have hc : (w.alloc (.cells #[.slice none 0 0] 39)).cell? ⟨L, 5, none⟩ = some (.slice q len c) := (((Below.refl _ w).alloc (Nat.le_refl _) _).cell (p := ⟨L, 5, none⟩) hlt).trans h
  clear h
  go_enter Try.func37, Try.ntmps37
  go_wp2
  go_ret
  exact ⟨rfl, rfl⟩

set_option maxRecDepth 100000 in
set_option maxHeartbeats 2000000 in
theorem records1_iter (n : Nat) (hn : 4 ≤ n) (l B n₀ : Nat) (q : Option Addr) (len c : Nat) (recs : List (List Nat)) (M : List Nat) (W : World) (hbx : Boxed W B 39 (.slice q len c)) (hR : RecsAt n₀ W (.slice q len c) recs) (hM : ∀ x ∈ M, ∃ c t fr, W.heap[x]? = some (Obj.cells c t fr) ∧ t ≠ 5 ∧ t ≠ 25) (hlen : len ≤ 100000) (hl4 : ∀ z ∈ recs, z.length ≤ 300000) :
    IterNx Fence.wide n Try.prog 48 #[.pointer (some ⟨B, 0, none⟩)] (fun x : Value × List Nat => #[x.1]) (fun x X => Bytes5 X x.1 x.2) (KpC M W.heap.size) (KpC M W.heap.size) (fun pre x => ∃ post, recs = pre.map (·.2) ++ x.2 :: post) (fun xs => xs.map (·.2) = recs) (fun _ => True) l W := by
  intro J Jx hJ hJx hY h0
  have h1 : 1 ≤ n := by omega
  have hfn : ∀ f, Fence.wide.fn f := fun _ => trivial
  have hc := hbx.cell
  have HR : Hid (RecsAt n₀ W (.slice q len c) recs) := hR
  obtain ⟨hrl, hlc, hcc⟩ := hR.cap
  have HRl : Hid (recs.length = len) := hrl
  have HK5 : Hid (∀ X, CK M W X → KeepT 5 W X) := fun X hk k c fr hc => hk k c 5 fr (fun hx => by
    obtain ⟨c', t', fr', e, h5, _⟩ := hM k hx
    rw [hc] at e
    cases e
    exact h5 rfl) hc
  have HRX : Hid (∀ X, CK M W X → RecsAt n₀ X (.slice q len c) recs) := fun X hk => HR.out.frame (fun k hk' => by
    obtain ⟨_, _, c', fr', e⟩ := HR.out.own hk'
    rw [e]
    exact hk k c' 25 fr' (fun hx => by
      obtain ⟨c2, t2, fr2, e2, _, h25⟩ := hM k hx
      rw [e] at e2
      cases e2
      exact h25 rfl) e) (HK5.out X hk)
  refine callsIn_of_wp Try.func48 rfl trivial ?_ rfl
  simp only [Try.ntmps48, List.size_toArray, List.length_cons, List.length_nil, Nat.reduceAdd, Nat.reduceSub, Array.replicate_succ, Array.replicate_zero, List.push_toArray, List.append_toArray, List.nil_append, List.cons_append]
  clear hbx hR hrl hM
  gi_wp2
  gi_loopw [7] (fun i wr => ∃ (k : Nat) (pre : List (Value × List Nat)), k ≤ len ∧ i = .int .i64 k ∧ pre.map (·.2) = recs.take k ∧ J pre wr ∧ CK M W wr ∧ W.heap.size ≤ wr.heap.size) (fun i _ => len - (intOf i).toNat)
  case atStart => exact ⟨0, [], Nat.zero_le _, rfl, by simp, h0, fun _ _ _ _ _ h => h, Nat.le_refl _⟩
  case round =>
    obtain ⟨k, pre, hk, rfl, hpre, hj, hck, hsz⟩ := hrel
    have HCk : Hid (CK M W wr) := hck
    by_cases hlt : k < len
    · have hki : (k : Int) < (len : Int) := by omega
      obtain ⟨G, x, rfl, hcx, hbx⟩ := (HRX.out wr hck).at hlt
      obtain ⟨zs, hzs⟩ : ∃ zs, recs.getD k [] = zs := ⟨_, rfl⟩
      rw [hzs] at hbx
      have hkl : k < recs.length := by rw [HRl.out]; exact hlt
      have hmem : zs ∈ recs := by rw [← hzs, List.getD_eq_getElem?_getD, List.getElem?_eq_getElem hkl, Option.getD_some]; exact List.getElem_mem hkl
      have hzl := hl4 zs hmem
      have HT : Hid (recs.take (k + 1) = recs.take k ++ [zs]) := by show _ = _; rw [List.take_succ_eq_append_getElem hkl, ← hzs, List.getD_eq_getElem?_getD, List.getElem?_eq_getElem hkl, Option.getD_some]
      have HNx : Hid (∃ post, recs = pre.map (·.2) ++ zs :: post) := ⟨recs.drop (k + 1), by
        have : recs = recs.take (k + 1) ++ recs.drop (k + 1) := (List.take_append_drop _ _).symm
        rw [HT.out, ← hpre, List.append_assoc, List.singleton_append] at this
        exact this⟩
      have hz256 : ∀ z ∈ zs, z < 256 := by obtain ⟨_, _, _, _, _, _, _, h5, _⟩ := hbx; exact h5
      obtain ⟨qx, lx, cx, rfl, hlx⟩ : ∃ qx lx cx, x = .slice qx lx cx ∧ zs.length = lx := by obtain ⟨a, b, c, e, e2, _⟩ := hbx; exact ⟨a, b, c, e, e2⟩
      have HCl : Hid (Calls Try.prog 41 #[.slice qx lx cx] wr fun e w' => ∃ u, e = .returned u ∧ Bytes5 w' u zs ∧ Below wr.heap.size wr w') := (clone41_any hbx.bytes (by omega)).mono fun e w' ⟨u, b1, b2, b3⟩ => ⟨u, b1, Bytes5.of_own b2 hz256, b3⟩
      have HY : Hid (∀ Y u, Below wr.heap.size wr Y → Bytes5 Y u zs → YieldAt Fence.wide (n - 1) Try.prog l #[u] Y fun e W' => (e = .returned (.bool true) ∧ J (pre ++ [(u, zs)]) W' ∧ KpC M W.heap.size Y W') ∨ (e = .returned (.bool false) ∧ Jx (pre ++ [(u, zs)]) W' ∧ KpC M W.heap.size Y W')) := fun Y u hb hx => hY pre (u, zs) Y (hJ _ _ _ hj (hb.mono hsz)) hx HNx.out
      have HPr : Hid (∀ u : Value, (pre ++ [(u, zs)]).map (·.2) = recs.take (k + 1)) := fun u => by rw [List.map_append, hpre, HT.out]; rfl
      clear hY hj hbx hck hpre hmem hzs hl4
      gi_wp2_with (first
        | (gi_at_call 41; refine (callsIn_wide.2 HCl.out).mono ?_; rintro e Y2 ⟨u, rfl, hx2, hb2⟩; obtain ⟨fn, tmps, assign, body, hy, hR⟩ := HY.out Y2 u hb2 hx2))
      refine RoundIn.mono hR ?_
      rintro e W3 (⟨rfl, hJ3, hk3⟩ | ⟨rfl, hJ3, hk3⟩)
      · gi_wp2
        go_roundw
        case rel => exact ⟨k + 1, _, by omega, by go_num, HPr.out u, hJ3, (HCk.out.trans (CK.of_below hb2)).trans hk3.1, Nat.le_trans hsz (Nat.le_trans hb2.size hk3.2.size)⟩
        case measure => simp [intOf]; omega
      · gi_wp2
        refine bodyPost_ret (results_none rfl _ _ _) rfl ?_
        exact ⟨⟨_, rfl⟩, .inr ⟨_, trivial, hJ3⟩⟩
    · obtain rfl : k = len := by omega
      gi_wp2
      refine ⟨rfl, _, results_none rfl _ _ _, ?_⟩
      exact ⟨⟨_, rfl⟩, .inl ⟨_, by rw [hpre, List.take_of_length_le (by rw [HRl.out]; exact Nat.le_refl _)], hj⟩⟩
end Go.Proofs.Ytifjkkfienmdjaa
/-
  A law of the walk that names no program: a range over a function that tells a given list, the loop's variable in a slot.
-/
namespace Go.Proofs.Ytifjkkfienmdjaa
open Go Go.RowKit

section
variable {F : Fence} {n : Nat} {P : Program}
theorem wpIn_rangeFunc_nxp {α : Type} {g : Operand} {ps : Array Tmp} {assign body : Code} {Q : Exit → Act → World → Prop} {a : Act} {w : World}
    (hro : F.round = none) (h1 : 1 ≤ n) {gf : Nat} {lb : Array Value} (hg : a.eval g = .func (.func gf) #[] lb) (hFg : F.fn gf) (eg : ∀ args w, (callFunc gf args).run P w = .ok (.enter gf args) w)
    {encs : α → Array Value} {Ok : α → World → Prop} {Kp : World → World → Prop} {Kx : World → World → Prop} {Nx : List α → α → Prop} {S Sp : List α → Prop}
    (hit : ∀ W, W.heap.size = w.heap.size + 2 → Below w.heap.size w W → IterNx F (n - 1) P gf lb encs Ok Kp Kx Nx S Sp (w.heap.size + 1) W)
    (hKt : ∀ {A B C : World}, Kp A B → Kp B C → Kp A C) (hKb : ∀ (W : World) (o o' : Obj), W.heap[w.heap.size + 1]? = some o → o.isCells = false → Kp W (W.putObj (w.heap.size + 1) o'))
    (hKx1 : ∀ {A B C : World}, Kp A B → Kx B C → Kx A C) (hKx2 : ∀ {A B C : World}, Kx A B → Kp B C → Kx A C) (hps : ∀ x, (encs x).size = ps.size)
    (I : List α → World → Prop) (Ix : Code → List α → World → Prop) (hI : Low w.heap.size I) (hIx : ∀ c, Low w.heap.size (Ix c)) (hOk : ∀ (x : α) (W : World) (o o' : Obj), Ok x W → W.heap[w.heap.size + 1]? = some o → o.isCells = false → Ok x (W.putObj (w.heap.size + 1) o')) (h0 : I [] w) (a₁ : α → Act)
    (hassign : ∀ (l : Nat) (x : α) (W : World) (K : Act → World → Prop), K (a₁ x) W →
      assign.wpIn (F.inRound l) (n - 1 - 1) P (Exit.then K (fun _ _ _ => False)) { tmps := (ps.zip (encs x)).foldl (fun t (p, v) => t.setIfInBounds p v) a.tmps, defers := [] } W)
    (hbody : ∀ (l : Nat) (pre : List α) (x : α) (W : World), I pre W → Ok x W → Nx pre x → body.wpIn (F.inRound l) (n - 1 - 1) P (roundWord2 w.heap.size Kp Kx I Ix (pre ++ [x]) W) (a₁ x) W)
    (hdone : ∀ (D : Nat) (xs : List α) (W : World), w.heap.size ≤ D → S xs → I xs W → W.heap[D]? = some (.deferred (some [])) → Q .normal { a with defers := { target := .collected D, args := #[] } :: a.defers } W)
    (hstop : ∀ (D : Nat) (c : Code) (pre : List α) (W : World), w.heap.size ≤ D → Sp pre → Ix c pre W → W.heap[D]? = some (.deferred (some [])) → c.wpIn F n P Q { a with defers := { target := .collected D, args := #[] } :: a.defers } W) :
    (Code.rangeFunc g ps assign body).wpIn F n P Q a w := by
  refine wpIn_rangeFunc fun fn hfn => ?_
  rw [hro]
  -- the loop's record, by its state and its pending jump
  obtain ⟨rec, hrec⟩ : ∃ rec : LoopState → Option Code → Loop, rec = fun st pe => { state := st, pending := pe, fn, tmps := a.tmps, params := ps, assign, body, defers := w.heap.size } := ⟨_, rfl⟩
  obtain ⟨W1, hW1⟩ : ∃ W1, (w.alloc (.deferred (some []))).alloc (.loop (rec .ready none)) = W1 := ⟨_, rfl⟩
  have hs1 : W1.heap.size = w.heap.size + 2 := by rw [← hW1]; simp
  have hb1 : Below w.heap.size w W1 := by rw [← hW1]; exact ((Below.refl _ w).alloc (Nat.le_refl _) _).alloc (by simp) _
  have hL1 : W1.heap[w.heap.size + 1]? = some (.loop (rec .ready none)) := by
    rw [← hW1]; have := World.alloc_heap_new (w.alloc (.deferred (some []))) (.loop (rec .ready none)); rwa [World.size_alloc] at this
  have hD1 : W1.heap[w.heap.size]? = some (.deferred (some [])) := by
    rw [← hW1]; exact (Below.heap_alloc _ _ _ (by simp)).trans (World.alloc_heap_new w _)
  have hI1 : I [] W1 := hI _ _ _ h0 hb1
  -- what is said of a world between two rounds, of a world behind the last one
  obtain ⟨T, hT⟩ : ∃ T : LoopState → Option Code → World → Prop, T = fun st pe W => W.heap[w.heap.size + 1]? = some (.loop (rec st pe)) ∧ W.heap[w.heap.size]? = some (.deferred (some [])) := ⟨_, rfl⟩
  have hTlow : ∀ st pe, Low W1.heap.size (fun (_ : List α) W => T st pe W) := by
    intro st pe s A B hs hg'
    rw [hT] at hs ⊢
    exact ⟨(hg'.block _ (by omega)).trans hs.1, (hg'.block _ (by omega)).trans hs.2⟩
  refine ⟨w.heap.size + 1, [{ target := .collected w.heap.size, args := #[] }], W1, { target := .fn (.func gf) lb, args := #[.func (.yield (w.heap.size + 1)) #[] #[]] }, W1, gf,
    #[.func (.yield (w.heap.size + 1)) #[] #[]] ++ lb, W1, ?_, ?_, ?_, ?_, fun _ => h1, ?_⟩
  · rw [← hW1, hrec]; exact run_enterLoop_outer _ _ _ _ _
  · simp only [resolve, hg]
    simp [go_sem]
  · intro f' hf'
    simp [Target.leads] at hf'
    subst hf'
    exact hFg
  · simp [invoke, go_sem, eg]
  · refine (hit W1 hs1 hb1 (fun pre W => I pre W ∧ T .ready none W) (fun pre W => ∃ c, Ix c pre W ∧ T .done (some c) W)
      (Low.and (hI.mono (by omega)) (hTlow _ _))
      (fun s A B ⟨c, hc, ht⟩ hg' => ⟨c, (hIx c).mono (by omega) s A B hc hg', hTlow _ _ s A B ht hg'⟩) ?_ ⟨hI1, by rw [hT]; exact ⟨hL1, hD1⟩⟩).mono ?_
    · rintro pre x W ⟨hi, ht⟩ hok hN
      rw [hT] at ht
      obtain ⟨hl, hd⟩ := ht
      have hlt : w.heap.size + 1 < W.heap.size := (Array.getElem?_eq_some_iff.1 hl).1
      have hy := run_yield (P := P) (args := encs x) hl (by rw [hrec]; exact hps x)
      rw [hrec] at hy
      refine ⟨fn, _, assign, body, hy, roundIn_of_wpIn hfn (hassign _ x W _ ⟨_, run_beginRound hl (by rw [hrec]), ?_⟩)⟩
      -- the world in which the body begins
      obtain ⟨W2, hW2⟩ : ∃ W2, W.putObj (w.heap.size + 1) (.loop { rec .ready none with state := .busy }) = W2 := ⟨_, rfl⟩
      rw [hW2]
      have hl2 : W2.heap[w.heap.size + 1]? = some (.loop { rec .ready none with state := .busy }) := by rw [← hW2]; exact World.putObj_heap_same hlt
      have hd2 : W2.heap[w.heap.size]? = some (.deferred (some [])) := by rw [← hW2]; exact (World.putObj_heap_other (by omega)).trans hd
      have hk2 : Kp W W2 := by rw [← hW2]; exact hKb _ _ _ hl rfl
      have hi2 : I pre W2 := by rw [← hW2]; exact low_putObj hI _ hi (by omega)
      have ho2 : Ok x W2 := by rw [← hW2]; exact hOk _ _ _ _ hok hl rfl
      -- whatever way the body is left
      have fin : ∀ (jump : Option Code) (W3 : World), KeepsFrom w.heap.size W2 W3 → Kp W2 W3 →
          ∃ W4, (Instr.endRound (w.heap.size + 1) jump).run P W3 = .ok (.bool jump.isNone) W4 ∧ T (if jump.isNone then .ready else .done) jump W4 ∧ Kp W W4 ∧ (I (pre ++ [x]) W3 → I (pre ++ [x]) W4) ∧ (∀ c, Ix c (pre ++ [x]) W3 → Ix c (pre ++ [x]) W4) := by
        intro jump W3 hk3 hkp
        have hl3 := hk3.same _ _ (by omega) hl2 rfl
        have hd3 := hk3.same _ _ (Nat.le_refl _) hd2 rfl
        refine ⟨_, run_endRound (P := P) jump hl3, ?_, hKt (hKt hk2 hkp) (hKb _ _ _ hl3 rfl), fun h => low_putObj hI _ h (by omega), fun c h => low_putObj (hIx c) _ h (by omega)⟩
        rw [hT, hrec]
        exact ⟨World.putObj_heap_same (Array.getElem?_eq_some_iff.1 hl3).1, (World.putObj_heap_other (by omega)).trans hd3⟩
      have finx : ∀ (jump : Option Code) (W3 : World), KeepsFrom w.heap.size W2 W3 → Kx W2 W3 →
          ∃ W4, (Instr.endRound (w.heap.size + 1) jump).run P W3 = .ok (.bool jump.isNone) W4 ∧ T (if jump.isNone then .ready else .done) jump W4 ∧ Kx W W4 ∧ (I (pre ++ [x]) W3 → I (pre ++ [x]) W4) ∧ (∀ c, Ix c (pre ++ [x]) W3 → Ix c (pre ++ [x]) W4) := by
        intro jump W3 hk3 hkp
        have hl3 := hk3.same _ _ (by omega) hl2 rfl
        have hd3 := hk3.same _ _ (Nat.le_refl _) hd2 rfl
        refine ⟨_, run_endRound (P := P) jump hl3, ?_, hKx2 (hKx1 hk2 hkp) (hKb _ _ _ hl3 rfl), fun h => low_putObj hI _ h (by omega), fun c h => low_putObj (hIx c) _ h (by omega)⟩
        rw [hT, hrec]
        exact ⟨World.putObj_heap_same (Array.getElem?_eq_some_iff.1 hl3).1, (World.putObj_heap_other (by omega)).trans hd3⟩
      refine wpIn_mono (hbody _ pre x W2 hi2 ho2 hN) ?_
      rintro e a3 W3 hp
      cases e with
      | normal =>
        obtain ⟨W4, hr, ht, hk, hi4, _⟩ := fin none W3 hp.1 hp.2.1
        exact ⟨_, _, hr, .inl ⟨rfl, ⟨hi4 hp.2.2, ht⟩, hk⟩⟩
      | ret =>
        obtain ⟨W4, hr, ht, hk, _, hx4⟩ := finx (some .ret) W3 hp.1 hp.2.1
        exact ⟨_, _, hr, .inr ⟨rfl, ⟨_, hx4 _ hp.2.2, ht⟩, hk⟩⟩
      | exit id =>
        obtain ⟨W4, hr, ht, hk, _, hx4⟩ := finx (some (.exit id)) W3 hp.1 hp.2.1
        exact ⟨_, _, hr, .inr ⟨rfl, ⟨_, hx4 _ hp.2.2, ht⟩, hk⟩⟩
      | goto t =>
        obtain ⟨W4, hr, ht, hk, _, hx4⟩ := finx (some (.goto t)) W3 hp.1 hp.2.1
        exact ⟨_, _, hr, .inr ⟨rfl, ⟨_, hx4 _ hp.2.2, ht⟩, hk⟩⟩
      | panic ch => exact hp.elim
      | outgrown => exact hp.elim
    · rintro e W2 ⟨⟨v, rfl⟩, (⟨xs, hS, hi, ht⟩ | ⟨pre, hSp, c, hi, ht⟩)⟩
      · rw [hT] at ht
        have hr := run_endLoop (P := P) ht.1 (by rw [hrec]; simp)
        rw [hrec] at hr
        exact ⟨none, _, hr, hdone _ xs _ (Nat.le_refl _) hS (low_putObj hI _ hi (by omega)) ((World.putObj_heap_other (by omega)).trans ht.2)⟩
      · rw [hT] at ht
        have hr := run_endLoop (P := P) ht.1 (by rw [hrec]; simp)
        rw [hrec] at hr
        exact ⟨some c, _, hr, hstop _ c pre _ (Nat.le_refl _) hSp (low_putObj (hIx c) _ hi (by omega)) ((World.putObj_heap_other (by omega)).trans ht.2)⟩


end
end Go.Proofs.Ytifjkkfienmdjaa
/-
  The law's same: whether a log has just these records.
-/
namespace Go.Proofs.Ytifjkkfienmdjaa
open Go.RowKit Go.Shelf
attribute [local go_sem] Oper.semAt_some

/-- A list of bytes, as it is read. -/
def WantAt (W : World) (q : Option Addr) (len cap : Nat) (want : List (List Nat)) : Prop :=
  want.length = len ∧ len ≤ cap ∧ cap ≤ 9223372036854775807 ∧ (∀ z ∈ want, ∀ y ∈ z, y < 256) ∧ (len = 0 ∨ ∃ b off, q = some ⟨b, off, none⟩ ∧ b < W.heap.size ∧ ∀ i, i < len → ∃ qx lx cx, W.cell? ⟨b, off + i, none⟩ = some (.slice qx lx cx) ∧ IsBytes W.heap.size W qx lx cx (want.getD i []))
theorem WantAt.later {W W' : World} {q : Option Addr} {len cap : Nat} {want : List (List Nat)} (h : WantAt W q len cap want) (hb : Below W.heap.size W W') : WantAt W' q len cap want := by
  obtain ⟨h1, h2, h3, h3', h4⟩ := h
  refine ⟨h1, h2, h3, h3', ?_⟩
  rcases h4 with h | ⟨b, off, e, hlt, hc⟩
  · exact .inl h
  · refine .inr ⟨b, off, e, Nat.lt_of_lt_of_le hlt hb.size, fun i hi => ?_⟩
    obtain ⟨qx, lx, cx, e1, e2⟩ := hc i hi
    exact ⟨qx, lx, cx, (hb.cell (p := ⟨b, off + i, none⟩) hlt).trans e1, e2.later hb⟩
theorem take_ne {recs want pre : List (List Nat)} {z : List Nat} {post : List (List Nat)} (h : recs = pre ++ z :: post) (hb : want.length ≤ pre.length ∨ z ≠ want.getD pre.length []) : recs ≠ want := fun e => by
  subst e
  rcases hb with hb | hb
  · rw [h, List.length_append, List.length_cons] at hb
    omega
  · apply hb
    rw [h, List.getD_eq_getElem?_getD, List.getElem?_append_right (Nat.le_refl _), Nat.sub_self]
    rfl

set_option maxRecDepth 100000 in
set_option maxHeartbeats 4000000 in
theorem same_in (n : Nat) (hn : 8 ≤ n) {F : List Nat} {n₀ : Nat} {w : World} {L p g : Nat} {v : Value} {d : St} {l : Lg} (h : MSt F n₀ w L p g v d l) (hrl : l.recs.length ≤ 100000) (hl4 : ∀ z ∈ l.recs, z.length ≤ 300000) (wq : Option Addr) (wl wc : Nat) (want : List (List Nat)) (hW : WantAt w wq wl wc want) :
    CallsIn Fence.wide n Try.prog 14 #[.pointer (some ⟨L, 0, none⟩), .slice wq wl wc] w fun e w' => e = .returned (.bool (decide (l.recs = want))) ∧ Below w.heap.size w w' := by
  have h1n : 1 ≤ n := by omega
  have hfn : ∀ f, Fence.wide.fn f := fun _ => trivial
  obtain ⟨vq, vc, rfl⟩ := h.log.2.slice
  have HSt : Hid (MSt F n₀ w L p g _ d l) := h
  have HW : Hid (WantAt w wq wl wc want) := hW
  have hwl := hW.1
  have hwc := hW.2.1
  have hwcc := hW.2.2.1
  obtain ⟨recs, hrecs⟩ : ∃ recs, l.recs = recs := ⟨_, rfl⟩
  rw [hrecs] at hrl hl4 ⊢
  obtain ⟨w3, hw3⟩ : ∃ w3, ((w.alloc (.cells #[.slice wq wl wc] 39)).alloc (.cells #[.bool false] 4)).alloc (.cells #[.int .i64 0] 3) = w3 := ⟨_, rfl⟩
  have hb3 : Below w.heap.size w w3 := by rw [← hw3]; exact two_below.alloc (by simp; omega) _
  have hs3 : w3.heap.size = w.heap.size + 3 := by rw [← hw3]; simp
  have HW3 : Hid (((w.alloc (.cells #[.slice wq wl wc] 39)).alloc (.cells #[.bool false] 4)).alloc (.cells #[.int .i64 0] 3) = w3) := hw3
  have bW3 : Boxed w3 w.heap.size 39 (.slice wq wl wc) := by rw [← hw3]; exact ((Boxed.new w 39 _).alloc _).alloc _
  have bR3 : Row w3 (w.heap.size + 1) 4 [.bool false] := by rw [← hw3]; exact (two_row w _ 4 _).later ((Below.refl _ _).alloc (Nat.le_refl _) _)
  have bN3 : Boxed w3 (w.heap.size + 2) 3 (.int .i64 0) := by
    rw [← hw3]
    have := Boxed.new ((w.alloc (.cells #[.slice wq wl wc] 39)).alloc (.cells #[.bool false] 4)) 3 (.int .i64 0)
    rwa [World.size_alloc, World.size_alloc] at this
  have hS3 := h.later hb3
  have hc5 := hS3.log.1.cell (i := 5) rfl
  obtain ⟨w4, hw4⟩ : ∃ w4, w3.alloc (.cells #[.slice vq l.recs.length vc] 39) = w4 := ⟨_, rfl⟩
  have hb34 : Below w3.heap.size w3 w4 := by rw [← hw4]; exact (Below.refl _ _).alloc (Nat.le_refl _) _
  have HRc : Hid (Calls Try.prog 37 #[.pointer (some ⟨L, 0, none⟩)] w3 fun e w' => e = .returned (.func (.func 48) #[] #[.pointer (some ⟨w3.heap.size, 0, none⟩)]) ∧ w' = w4) := (records_any vq l.recs.length vc rfl hc5).mono fun e w' ⟨a, b⟩ => ⟨a, b.trans hw4⟩
  have bA4 : Boxed w4 w3.heap.size 39 (.slice vq l.recs.length vc) := by rw [← hw4]; exact Boxed.new w3 39 _
  have hs4 : w4.heap.size = w.heap.size + 4 := by rw [← hw4]; simp [hs3]
  rw [hs3] at HRc bA4
  rw [hrecs] at bA4
  have HS4 : Hid (MSt F n₀ w4 L p g _ d l) := hS3.later hb34
  have HBe4 : Hid (Below w.heap.size w w4) := hb3.trans (hb34.mono hb3.size)
  have HbW4 : Hid (Boxed w4 w.heap.size 39 (.slice wq wl wc)) := boxed_below bW3 hb34
  have HbR4 : Hid (Row w4 (w.heap.size + 1) 4 [.bool false]) := bR3.later hb34
  have HbN4 : Hid (Boxed w4 (w.heap.size + 2) 3 (.int .i64 0)) := boxed_below bN3 hb34
  have HbA4 : Hid (Boxed w4 (w.heap.size + 3) 39 (.slice vq recs.length vc)) := bA4
  have HRe4 : Hid (RecsAt n₀ w4 (.slice vq recs.length vc) recs) := by rw [← hrecs]; exact HS4.out.log.2
  have hLw := HSt.out.lt.2.2
  have HLow : Hid (Low w4.heap.size (fun (pre : List (Value × List Nat)) A => Boxed A (w.heap.size + 2) 3 (.int .i64 (pre.length : Nat)) ∧ Row A (w.heap.size + 1) 4 [.bool false] ∧ pre.map (·.2) = want.take pre.length ∧ pre.length ≤ wl ∧ CK [w.heap.size + 1, w.heap.size + 2] w4 A ∧ Below w.heap.size w A ∧ w4.heap.size ≤ A.heap.size)) := fun pre A A' ⟨a1, a2, a3, a4, a5, a6, a7⟩ hb => ⟨(hb.block _ (by omega)).trans a1, a2.below hb (by omega), a3, a4, fun k c t fr hk hc => (hb.block k (Array.getElem?_eq_some_iff.1 hc).1).trans (a5 k c t fr hk hc), a6.trans (hb.mono (by omega)), Nat.le_trans a7 hb.size⟩
  have HLowx : Hid (∀ c : Code, Low w4.heap.size (fun (_ : List (Value × List Nat)) A => c = .ret ∧ Row A (w.heap.size + 1) 4 [.bool false] ∧ recs ≠ want ∧ Below w.heap.size w A)) := fun c _ A A' ⟨a1, a2, a3, a4⟩ hb => ⟨a1, a2.below hb (by omega), a3, a4.trans (hb.mono (by omega))⟩
  obtain ⟨bE, hbE⟩ : ∃ b, decide (recs = want) = b := ⟨_, rfl⟩
  rw [hbE]
  have HBE : Hid (decide (recs = want) = bE) := hbE
  clear hbE
  clear hw3 hw4 bW3 bR3 bN3 bA4 h hS3 hc5 hb3 hb34 hW
  refine callsIn_of_wp_marks Try.func14 rfl trivial ?_ rfl
  simp only [Try.ntmps14, List.size_toArray, List.length_cons, List.length_nil, Nat.reduceAdd, Nat.reduceSub, Array.replicate_succ, Array.replicate_zero, List.push_toArray, List.append_toArray, List.nil_append, List.cons_append]
  gi_wp2_with (first
    | (gi_at_call 37; rw [HW3.out]; refine (callsIn_wide.2 HRc.out).mono ?_; rintro e w' ⟨rfl, hw'⟩; obtain rfl := hw'.symm; clear hw'))
  refine wpIn_rangeFunc_nxp rfl h1n (gf := 48) (lb := #[.pointer (some ⟨w.heap.size + 3, 0, none⟩)]) rfl trivial (enters_of Try.func48 (by kernel_rfl) rfl)
    (encs := fun x : Value × List Nat => #[x.1]) (Ok := fun x X => Bytes5 X x.1 x.2) (Kp := KpC [w.heap.size + 1, w.heap.size + 2] (w4.heap.size + 2)) (Kx := KpC [w.heap.size + 1, w.heap.size + 2] (w4.heap.size + 2)) (Nx := fun pre x => ∃ post, recs = pre.map (·.2) ++ x.2 :: post) (S := fun xs => xs.map (·.2) = recs) (Sp := fun _ => True)
    (fun W hsz hb => by
      have := records1_iter (n - 1) (by omega) (w4.heap.size + 1) (w.heap.size + 3) n₀ vq recs.length vc recs [w.heap.size + 1, w.heap.size + 2] W (boxed_below HbA4.out hb) (HRe4.out.kept (KeepT.of_below hb) (KeepT.of_below hb)) (fun x hx => by
        simp only [List.mem_cons, List.not_mem_nil, or_false] at hx
        rcases hx with rfl | rfl
        · exact ⟨_, _, _, HbR4.out.later hb, by decide, by decide⟩
        · exact ⟨_, _, _, boxed_below HbN4.out hb, by decide, by decide⟩) hrl hl4
      rw [hsz] at this
      exact this)
    KpC.trans (fun A o o' ho hc => KpC.record (by omega) o' ho hc) (fun h k => h.trans k) (fun h k => h.trans k) (fun _ => rfl)
    (fun pre A => Boxed A (w.heap.size + 2) 3 (.int .i64 (pre.length : Nat)) ∧ Row A (w.heap.size + 1) 4 [.bool false] ∧ pre.map (·.2) = want.take pre.length ∧ pre.length ≤ wl ∧ CK [w.heap.size + 1, w.heap.size + 2] w4 A ∧ Below w.heap.size w A ∧ w4.heap.size ≤ A.heap.size)
    (fun c _ A => c = .ret ∧ Row A (w.heap.size + 1) 4 [.bool false] ∧ recs ≠ want ∧ Below w.heap.size w A)
    HLow.out HLowx.out (fun x W o o' hx ho hc => hx.kept (fun k c fr hk => by rw [World.putObj_heap_other (fun e => by subst e; rw [hk] at ho; cases ho; cases hc)]; exact hk)) ⟨HbN4.out, HbR4.out, by simp, Nat.zero_le _, fun _ _ _ _ _ h => h, HBe4.out, Nat.le_refl _⟩
    (fun x => { tmps := #[.pointer (some ⟨L, 0, none⟩), .slice wq wl wc, undef, .pointer (some ⟨w.heap.size, 0, none⟩), .pointer (some ⟨w.heap.size + 1, 0, none⟩), .pointer (some ⟨w.heap.size + 1 + 1, 0, none⟩), x.1, .pointer (some ⟨L, 0, none⟩), .func (.func 48) #[] #[.pointer (some ⟨w.heap.size + 3, 0, none⟩)], x.1, undef, undef, undef, undef, undef, undef, undef, undef, undef, undef, undef, undef, undef, undef, undef, undef, undef, undef, undef, undef, undef, undef, undef, undef, undef, undef], defers := [] }) ?assign ?body ?done ?stop
  case assign =>
    intro li x A K hK
    gi_wp2
    exact hK
  case body =>
    rintro li pre x A ⟨a1, a2, a3, a4, a5, a6, a7⟩ hok ⟨post, hpost⟩
    obtain ⟨k, hk⟩ : ∃ k, pre.length = k := ⟨_, rfl⟩
    rw [hk] at a1 a3 a4
    obtain ⟨xv, zs⟩ := x
    obtain ⟨qx, lx, cx, rfl, hlx⟩ : ∃ qx lx cx, xv = .slice qx lx cx ∧ zs.length = lx := by obtain ⟨a, b, c, e, e2, _⟩ := hok; exact ⟨a, b, c, e, e2⟩
    have bWA : Boxed A w.heap.size 39 (.slice wq wl wc) := a5.boxed (by simp) HbW4.out
    have hz256 : ∀ z ∈ zs, z < 256 := by obtain ⟨_, _, _, _, _, _, _, h5, _⟩ := hok; exact h5
    have HSx : Hid (Str A (.slice qx lx cx) (strOf zs)) := str_of_bytes hok.bytes
    have HWA : Hid (WantAt A wq wl wc want) := HW.out.later a6
    have hcR := a2.cell (i := 0) rfl
    have hfR := a2.frozen
    have hsA : w.heap.size + 4 ≤ A.heap.size := by omega
    have HStop : Hid (recs ≠ want → ∀ A', (A.setCell ⟨w.heap.size + 1, 0, none⟩ (.bool false)).drew = A' → KeepsFrom w4.heap.size A A' ∧ KpC [w.heap.size + 1, w.heap.size + 2] (w4.heap.size + 2) A A' ∧ Row A' (w.heap.size + 1) 4 [.bool false] ∧ recs ≠ want ∧ Below w.heap.size w A') := fun hne A' e => by
      have hbA : Buts [w.heap.size + 1] A.heap.size A A' := by rw [← e]; exact ((Buts.refl _ _ A).set (by simp) 0 _).drew
      have hKF : ∀ n', w4.heap.size ≤ n' → KeepsFrom n' A A' := fun n' hn' => ⟨hbA.size, fun i o hi ho hc => (hbA.block i (Array.getElem?_eq_some_iff.1 ho).1 (by simp; omega)).trans ho⟩
      have hr' := (a2.set 0 (.bool false)).drew
      rw [e] at hr'
      exact ⟨hKF _ (Nat.le_refl _), ⟨(CK.of_buts hbA).mono (by simp), hKF _ (by omega)⟩, hr', hne, a6.trans (hbA.below (by omega) (by simp))⟩
    by_cases hge : wl ≤ k
    · have hgi : ((wl : Nat) : Int) ≤ (k : Nat) := by omega
      have hgi2 : decide (((wl : Nat) : Int) ≤ (k : Nat)) = true := decide_eq_true hgi
      have hne : recs ≠ want := take_ne hpost (.inl (by rw [List.length_map, hk, hwl]; exact hge))
      have HF : Hid (∀ X, Below A.heap.size A X → X.cell? ⟨w.heap.size + 1 + 1, 0, none⟩ = some (.int .i64 (k : Nat)) ∧ X.cell? ⟨w.heap.size, 0, none⟩ = some (.slice wq wl wc)) := fun X hb => ⟨(boxed_below a1 hb).cell, (boxed_below bWA hb).cell⟩
      have HEnd := HStop.out hne
      have HE : Hid _ := HEnd
      clear HEnd HStop a1 a2 a3 a4 a5 a6 hok hpost bWA hne
      gi_wp2
      refine wpIn_region_on_round (S := fun W' => Below A.heap.size A W') (by kernel_rfl) (by kernel_rfl) (Below.refl _ _).drew (fun hHeld => ?_)
      refine wpAnyH_takesAt 0 5 9 (of_decide_eq_true (by kernel_rfl)) rfl (fun _ _ _ d _ h => by cases d <;> exact h) (by kernel_rfl) (by kernel_rfl) hHeld ?_
      simp only [List.drop_zero, List.take_succ_cons, List.take_zero]
      iterate 5 (refine wpHeld_step (v := ?_) (by rfl) (fun wz hSw => ?_) ?_; rotate_left; (focus ((obtain ⟨hf1, hf2⟩ := HF.out wz hSw; clear hSw); go_simp; try with_reducible rfl)); (simp only [Act.put, List.setIfInBounds_toArray, List.set_cons_zero, List.set_cons_succ]))
      refine wpHeld_nil ?_
      refine wpAnyH_takesAt 5 8 1 (of_decide_eq_true (by kernel_rfl)) rfl (fun _ _ _ d _ h => by cases d <;> exact h) (by kernel_rfl) (by kernel_rfl) hHeld ?_
      simp only [List.drop_succ_cons, List.drop_zero, List.take_succ_cons, List.take_zero]
      iterate 8 (refine wpHeld_skip (by rfl) ?_; (simp only [Act.put]; (try simp only [List.setIfInBounds_toArray]); (try simp only [List.set_cons_succ]); (try simp only [List.set_cons_zero])))
      refine wpHeld_nil ?_
      refine wpAnyH_takesAt 13 1 0 (of_decide_eq_true (by kernel_rfl)) rfl (fun _ _ _ d _ h => by cases d <;> exact h) (by kernel_rfl) (by kernel_rfl) hHeld ?_
      simp only [List.drop_succ_cons, List.drop_zero, List.take_succ_cons, List.take_zero]
      iterate 1 (refine wpHeld_step (v := ?_) (by rfl) (fun wz hSw => ?_) ?_; rotate_left; (focus ((try dsimp only at hSw); go_simp; try with_reducible rfl)); ((simp only [Act.put]; (try simp only [List.setIfInBounds_toArray]); (try simp only [List.set_cons_succ]); (try simp only [List.set_cons_zero]))))
      refine wpHeld_nil ?_
      refine wpAnyH_done (by kernel_rfl) ?_ _
      refine OnOnly.on ?_
      gi_wp2
      obtain ⟨e1, e2, e3, e4, e5⟩ := HE.out _ rfl
      exact ⟨e1, e2, rfl, e3, e4, e5⟩
    · have hgi : ¬ ((wl : Nat) : Int) ≤ (k : Nat) := by omega
      have hgi2 : decide (((wl : Nat) : Int) ≤ (k : Nat)) = false := decide_eq_false hgi
      have hkl : ((k : Nat) : Int) < (wl : Nat) := by omega
      have hklt : k < 9223372036854775807 := by omega
      obtain ⟨_, _, _, hw256, hel⟩ := HWA.out
      obtain ⟨wb, woff, hwq, hwb, hel⟩ := hel.resolve_left (by omega)
      obtain ⟨qy, ly, cy, hcy, hIy⟩ := hel k (by omega)
      obtain ⟨ys, hys⟩ : ∃ ys, want.getD k [] = ys := ⟨_, rfl⟩
      rw [hys] at hIy
      have hy256 : ∀ z ∈ ys, z < 256 := by
        have hkw : k < want.length := by omega
        rw [← hys, List.getD_eq_getElem?_getD, List.getElem?_eq_getElem hkw, Option.getD_some]
        exact hw256 _ (List.getElem_mem hkw)
      have HSy : Hid (Str A (.slice qy ly cy) (strOf ys)) := str_of_bytes hIy
      subst hwq
      have HF : Hid (∀ X, Below A.heap.size A X → X.cell? ⟨w.heap.size + 1 + 1, 0, none⟩ = some (.int .i64 (k : Nat)) ∧ X.cell? ⟨w.heap.size, 0, none⟩ = some (.slice (some ⟨wb, woff, none⟩) wl wc) ∧ X.cell? ⟨wb, woff + k, none⟩ = some (.slice qy ly cy) ∧ (convert 25 9 (.slice qx lx cx)).run Try.prog X = .ok (.string (strOf zs)) X ∧ (convert 25 9 (.slice qy ly cy)).run Try.prog X = .ok (.string (strOf ys)) X) := fun X hb => ⟨(boxed_below a1 hb).cell, (boxed_below bWA hb).cell, (hb.cell (p := ⟨wb, woff + k, none⟩) hwb).trans hcy, HSx.out X hb, HSy.out X hb⟩
      have HSe := strOf_eq zs ys hz256 hy256
      by_cases hzy : zs = ys
      · have hSe : ((strOf zs).toList == (strOf ys).toList) = true := by rw [HSe]; exact decide_eq_true hzy
        have hcN := a1.cell
        have hfN := a1.frozen
        have HGo : Hid (∀ A', (A.setCell ⟨w.heap.size + 1 + 1, 0, none⟩ (.int .i64 ((k : Nat) + 1))).drew = A' → KeepsFrom w4.heap.size A A' ∧ KpC [w.heap.size + 1, w.heap.size + 2] (w4.heap.size + 2) A A' ∧ Boxed A' (w.heap.size + 2) 3 (.int .i64 ((pre ++ [((.slice qx lx cx : Value), zs)]).length : Nat)) ∧ Row A' (w.heap.size + 1) 4 [.bool false] ∧ (pre ++ [((.slice qx lx cx : Value), zs)]).map (·.2) = want.take (pre ++ [((.slice qx lx cx : Value), zs)]).length ∧ (pre ++ [((.slice qx lx cx : Value), zs)]).length ≤ wl ∧ CK [w.heap.size + 1, w.heap.size + 2] w4 A' ∧ Below w.heap.size w A' ∧ w4.heap.size ≤ A'.heap.size) := fun A' e => by
          have hbA : Buts [w.heap.size + 2] A.heap.size A A' := by rw [← e]; exact ((Buts.refl _ _ A).set (by simp) 0 _).drew
          have hKF : ∀ n', w4.heap.size ≤ n' → KeepsFrom n' A A' := fun n' hn' => ⟨hbA.size, fun i o hi ho hc => (hbA.block i (Array.getElem?_eq_some_iff.1 ho).1 (by simp; omega)).trans ho⟩
          have hCK : CK [w.heap.size + 1, w.heap.size + 2] A A' := (CK.of_buts hbA).mono (by simp)
          rw [List.length_append, hk]
          refine ⟨hKF _ (Nat.le_refl _), ⟨hCK, hKF _ (by omega)⟩, ?_, (hbA.block _ a2.lt (by simp)).trans a2, ?_, by simp; omega, a5.trans hCK, a6.trans (hbA.below (by omega) (by simp)), Nat.le_trans a7 hbA.size⟩
          · have r1 : Row A (w.heap.size + 2) 3 [.int .i64 (k : Nat)] := a1
            have r2 := (r1.set 0 (.int .i64 ((k : Nat) + 1))).drew
            rw [← e]
            exact r2
          · have hkw : k < want.length := by omega
            rw [List.map_append, a3, show k + [((.slice qx lx cx : Value), zs)].length = k + 1 from rfl, List.take_succ_eq_append_getElem hkw]
            rw [List.getD_eq_getElem?_getD, List.getElem?_eq_getElem hkw, Option.getD_some] at hys
            rw [hys, hzy]
            rfl
        clear HStop a1 a2 a3 a4 a5 a6 hok hpost bWA hel hys HSe hIy hcy
        gi_wp2
        refine wpIn_region_on_round (S := fun W' => Below A.heap.size A W') (by kernel_rfl) (by kernel_rfl) (Below.refl _ _).drew (fun hHeld => ?_)
        refine wpAnyH_takesAt 0 14 0 (of_decide_eq_true (by kernel_rfl)) rfl (fun _ _ _ d _ h => by cases d <;> exact h) (by kernel_rfl) (by kernel_rfl) hHeld ?_
        simp only [List.drop_zero, List.take_succ_cons, List.take_zero]
        iterate 14 (refine wpHeld_step (v := ?_) (by rfl) (fun wz hSw => ?_) ?_; rotate_left; (focus ((obtain ⟨hf1, hf2, hf3, hf4, hf5⟩ := HF.out wz hSw; clear hSw); go_simp; try with_reducible rfl)); (simp only [Act.put, List.setIfInBounds_toArray, List.set_cons_zero, List.set_cons_succ]))
        refine wpHeld_nil ?_
        refine wpAnyH_done (by kernel_rfl) ?_ _
        refine OnOnly.on ?_
        gi_wp2
        obtain ⟨e1, e2, e3⟩ := HGo.out _ rfl
        exact ⟨e1, e2, e3⟩
      · have hSe : ((strOf zs).toList == (strOf ys).toList) = false := by rw [HSe]; exact decide_eq_false hzy
        have hne : recs ≠ want := take_ne hpost (.inr (by rw [List.length_map, hk, hys]; exact hzy))
        have HEnd := HStop.out hne
        have HE : Hid _ := HEnd
        clear HEnd HStop a1 a2 a3 a4 a5 a6 hok hpost bWA hne hel hys HSe hIy hcy
        gi_wp2
        refine wpIn_region_on_round (S := fun W' => Below A.heap.size A W') (by kernel_rfl) (by kernel_rfl) (Below.refl _ _).drew (fun hHeld => ?_)
        refine wpAnyH_takesAt 0 14 0 (of_decide_eq_true (by kernel_rfl)) rfl (fun _ _ _ d _ h => by cases d <;> exact h) (by kernel_rfl) (by kernel_rfl) hHeld ?_
        simp only [List.drop_zero, List.take_succ_cons, List.take_zero]
        iterate 14 (refine wpHeld_step (v := ?_) (by rfl) (fun wz hSw => ?_) ?_; rotate_left; (focus ((obtain ⟨hf1, hf2, hf3, hf4, hf5⟩ := HF.out wz hSw; clear hSw); go_simp; try with_reducible rfl)); (simp only [Act.put, List.setIfInBounds_toArray, List.set_cons_zero, List.set_cons_succ]))
        refine wpHeld_nil ?_
        refine wpAnyH_done (by kernel_rfl) ?_ _
        refine OnOnly.on ?_
        gi_wp2
        obtain ⟨e1, e2, e3, e4, e5⟩ := HE.out _ rfl
        exact ⟨e1, e2, rfl, e3, e4, e5⟩
  case done =>
    rintro D xs A hD hxs ⟨a1, a2, a3, a4, a5, a6, a7⟩ hKD
    have hm : xs.length = recs.length := by rw [← hxs, List.length_map]
    obtain ⟨m, hmm⟩ : ∃ m, recs.length = m := ⟨_, rfl⟩
    rw [hxs] at a3
    rw [hm, hmm] at a1 a3 a4
    have bWA : Boxed A w.heap.size 39 (.slice wq wl wc) := a5.boxed (by simp) HbW4.out
    have hc4 := a2.cell (i := 0) rfl
    have hf4 := a2.frozen
    have HF : Hid (∀ X, Buts [w.heap.size + 1] A.heap.size A X → X.cell? ⟨w.heap.size + 1 + 1, 0, none⟩ = some (.int .i64 (m : Nat)) ∧ X.cell? ⟨w.heap.size, 0, none⟩ = some (.slice wq wl wc)) := fun X hb => by
      have r1 : Boxed X (w.heap.size + 2) 3 (.int .i64 (m : Nat)) := (hb.block _ a1.lt (by simp)).trans a1
      have r2 : Boxed X w.heap.size 39 (.slice wq wl wc) := (hb.block _ bWA.lt (by simp)).trans bWA
      exact ⟨r1.cell, r2.cell⟩
    have HCt : Hid (Calls Try.prog 26 #[.pointer (some ⟨L, 0, none⟩)] A.drew fun e w' => e = .returned (.int .i64 (m : Nat)) ∧ w' = A.drew) := by
      have hA := HSt.out.later a6
      have := (hA.log.1.cell (i := 5) rfl)
      rw [hrecs, hmm] at this
      exact count_at this
    have HEnd : Hid (∀ (b : Bool) A' o, (A.setCell ⟨w.heap.size + 1, 0, none⟩ (.bool b)).drew = A' → A'.heap[D]? = some (.deferred (some [])) ∧ Row (A'.putObj D o) (w.heap.size + 1) 4 [.bool b] ∧ Below w.heap.size w (A'.putObj D o)) := fun b A' o e => by
      have hbA : Buts [w.heap.size + 1] A.heap.size A A' := by rw [← e]; exact ((Buts.refl _ _ A).set (by simp) 0 _).drew
      have hDl := (Array.getElem?_eq_some_iff.1 hKD).1
      have hr' := (a2.set 0 (.bool b)).drew
      rw [e] at hr'
      refine ⟨(hbA.block D hDl (by simp; omega)).trans hKD, (World.putObj_heap_other (by omega)).trans hr', ?_⟩
      exact (a6.trans (hbA.below (by omega) (by simp))).trans (below_putObj _ _ (by omega))
    by_cases hmw : m = wl
    · obtain rfl : bE = true := by rw [← HBE.out]; exact decide_eq_true (by rw [a3, List.take_of_length_le (by omega)])
      subst hmw
      clear a1 a2 a3 a4 a5 a6 hKD bWA
      gi_wp2
      refine wpIn_region_on_wide (S := fun W' => Buts [w.heap.size + 1] A.heap.size A W') (by kernel_rfl) (by kernel_rfl) (Buts.refl _ _ _).drew (fun hHeld => ?_)
      refine wpAnyH_takesAt 0 6 5 (of_decide_eq_true (by kernel_rfl)) rfl (fun _ _ _ d _ h => by cases d <;> exact h) (by kernel_rfl) (by kernel_rfl) hHeld ?_
      simp only [List.drop_zero, List.take_succ_cons, List.take_zero]
      iterate 6 (refine wpHeld_step (v := ?_) (by rfl) (fun wz hSw => ?_) ?_; rotate_left; (focus ((obtain ⟨hf1, hf2⟩ := HF.out wz hSw; clear hSw); go_simp; try with_reducible rfl)); (simp only [Act.put, List.setIfInBounds_toArray, List.set_cons_zero, List.set_cons_succ]))
      refine wpHeld_nil ?_
      refine wpAnyH_takesAt 7 1 4 (of_decide_eq_true (by kernel_rfl)) rfl (fun _ _ _ d _ h => by cases d <;> exact h) (by kernel_rfl) (by kernel_rfl) hHeld ?_
      simp only [List.drop_succ_cons, List.drop_zero, List.take_succ_cons, List.take_zero]
      iterate 1 (refine wpHeld_step (v := ?_) (by rfl) (fun wz hSw => ?_) ?_; rotate_left; (focus ((obtain ⟨hf1, hf2⟩ := HF.out wz hSw; clear hSw); go_simp; try with_reducible rfl)); ((simp only [Act.put]; (try simp only [List.setIfInBounds_toArray]); (try simp only [List.set_cons_succ]); (try simp only [List.set_cons_zero]))))
      refine wpHeld_nil ?_
      refine wpAnyH_only (i := 6) (by kernel_rfl) rfl (fun K hK => ?_)
      rw [if_pos (by rfl)]
      go_simp
      refine HCt.out.mono ?_
      rintro e wq' ⟨rfl, hwq'⟩
      obtain rfl := hwq'.symm
      clear hwq'
      refine hK.out _ _ hHeld ?_
      clear hK K
      refine wpAnyH_takesAt 8 2 1 (of_decide_eq_true (by kernel_rfl)) rfl (fun _ _ _ d _ h => by cases d <;> exact h) (by kernel_rfl) (by kernel_rfl) hHeld ?_
      simp only [List.drop_succ_cons, List.drop_zero, List.take_succ_cons, List.take_zero]
      iterate 2 (refine wpHeld_step (v := ?_) (by rfl) (fun wz hSw => ?_) ?_; rotate_left; (focus ((try dsimp only at hSw); go_simp; try with_reducible rfl)); (simp only [Act.put, List.setIfInBounds_toArray, List.set_cons_zero, List.set_cons_succ]))
      refine wpHeld_nil ?_
      refine wpAnyH_only (i := 10) (by kernel_rfl) rfl (fun K hK => ?_)
      rw [if_pos (by rfl)]
      go_simp
      refine hK.out _ _ ((Buts.refl _ _ A).set (by simp) 0 _).drew ?_
      clear hK K
      refine wpAnyH_done (by kernel_rfl) ?_ _
      refine OnOnly.on ?_
      obtain ⟨A', hA'⟩ : ∃ A', (A.setCell ⟨w.heap.size + 1, 0, none⟩ (.bool true)).drew = A' := ⟨_, rfl⟩
      rw [hA']
      have HE : Hid (∀ o, _) := fun o => HEnd.out true A' o hA'
      have hKF := (HE.out (.deferred none)).1
      clear hA' hHeld hc4 hf4
      gi_wp2
      refine ⟨by simp, .inl ⟨_, _, rfl, run_takeDeferred hKF, ?_⟩⟩
      obtain ⟨_, e2, e3⟩ := HE.out (.deferred none)
      exact ⟨_, results_bool rfl rfl e2, rfl, e3⟩
    · obtain rfl : bE = false := by rw [← HBE.out]; exact decide_eq_false (fun e => hmw (by rw [← hmm, e, hwl]))
      have hmi : ¬ ((m : Nat) : Int) = (wl : Nat) := by omega
      have hmi2 : (((m : Nat) : Int) == (wl : Nat)) = false := by simpa using hmi
      clear a1 a2 a3 a4 a5 a6 hKD bWA
      gi_wp2
      refine wpIn_region_on_wide (S := fun W' => Buts [w.heap.size + 1] A.heap.size A W') (by kernel_rfl) (by kernel_rfl) (Buts.refl _ _ _).drew (fun hHeld => ?_)
      refine wpAnyH_takesAt 0 5 6 (of_decide_eq_true (by kernel_rfl)) rfl (fun _ _ _ d _ h => by cases d <;> exact h) (by kernel_rfl) (by kernel_rfl) hHeld ?_
      simp only [List.drop_zero, List.take_succ_cons, List.take_zero]
      iterate 5 (refine wpHeld_step (v := ?_) (by rfl) (fun wz hSw => ?_) ?_; rotate_left; (focus ((obtain ⟨hf1, hf2⟩ := HF.out wz hSw; clear hSw); go_simp; try with_reducible rfl)); (simp only [Act.put, List.setIfInBounds_toArray, List.set_cons_zero, List.set_cons_succ]))
      refine wpHeld_nil ?_
      refine wpAnyH_takesAt 5 4 2 (of_decide_eq_true (by kernel_rfl)) rfl (fun _ _ _ d _ h => by cases d <;> exact h) (by kernel_rfl) (by kernel_rfl) hHeld ?_
      simp only [List.drop_succ_cons, List.drop_zero, List.take_succ_cons, List.take_zero]
      iterate 4 (refine wpHeld_skip (by rfl) ?_; (simp only [Act.put]; (try simp only [List.setIfInBounds_toArray]); (try simp only [List.set_cons_succ]); (try simp only [List.set_cons_zero])))
      refine wpHeld_nil ?_
      refine wpAnyH_takesAt 9 1 1 (of_decide_eq_true (by kernel_rfl)) rfl (fun _ _ _ d _ h => by cases d <;> exact h) (by kernel_rfl) (by kernel_rfl) hHeld ?_
      simp only [List.drop_succ_cons, List.drop_zero, List.take_succ_cons, List.take_zero]
      iterate 1 (refine wpHeld_step (v := ?_) (by rfl) (fun wz hSw => ?_) ?_; rotate_left; (focus ((try dsimp only at hSw); go_simp; try with_reducible rfl)); ((simp only [Act.put]; (try simp only [List.setIfInBounds_toArray]); (try simp only [List.set_cons_succ]); (try simp only [List.set_cons_zero]))))
      refine wpHeld_nil ?_
      refine wpAnyH_only (i := 10) (by kernel_rfl) rfl (fun K hK => ?_)
      rw [if_pos (by rfl)]
      go_simp
      refine hK.out _ _ ((Buts.refl _ _ A).set (by simp) 0 _).drew ?_
      clear hK K
      refine wpAnyH_done (by kernel_rfl) ?_ _
      refine OnOnly.on ?_
      obtain ⟨A', hA'⟩ : ∃ A', (A.setCell ⟨w.heap.size + 1, 0, none⟩ (.bool false)).drew = A' := ⟨_, rfl⟩
      rw [hA']
      have HE : Hid (∀ o, _) := fun o => HEnd.out false A' o hA'
      have hKF := (HE.out (.deferred none)).1
      clear hA' hHeld hc4 hf4
      gi_wp2
      refine ⟨by simp, .inl ⟨_, _, rfl, run_takeDeferred hKF, ?_⟩⟩
      obtain ⟨_, e2, e3⟩ := HE.out (.deferred none)
      exact ⟨_, results_bool rfl rfl e2, rfl, e3⟩
  case stop =>
    rintro D c pre A hD _ ⟨rfl, a2, a3, a4⟩ hKD
    gi_wp2
    refine ⟨by simp, .inl ⟨_, _, rfl, run_takeDeferred hKD, ?_⟩⟩
    have hrE : Row (A.putObj D (.deferred none)) (w.heap.size + 1) 4 [.bool false] := (World.putObj_heap_other (by omega)).trans a2
    refine ⟨_, results_bool rfl rfl hrE, ?_⟩
    obtain rfl : bE = false := by rw [← HBE.out]; exact decide_eq_false a3
    exact ⟨rfl, a4.trans (below_putObj A _ (by omega))⟩
theorem same_any {F : List Nat} {n₀ : Nat} {w : World} {L p g : Nat} {v : Value} {d : St} {l : Lg} (h : MSt F n₀ w L p g v d l) (hrl : l.recs.length ≤ 100000) (hl4 : ∀ z ∈ l.recs, z.length ≤ 300000) (wq : Option Addr) (wl wc : Nat) (want : List (List Nat)) (hW : WantAt w wq wl wc want) :
    Calls Try.prog 14 #[.pointer (some ⟨L, 0, none⟩), .slice wq wl wc] w fun e w' => e = .returned (.bool (decide (l.recs = want))) ∧ Below w.heap.size w w' :=
  callsIn_wide.1 (same_in 8 (Nat.le_refl _) h hrl hl4 wq wl wc want hW)
end Go.Proofs.Ytifjkkfienmdjaa
/-
  What came in as an argument: a list of records, a crash.
-/
namespace Go.Proofs.Ytifjkkfienmdjaa
open Go.ChangeShapes Go.WideShapes Go.ChangeAt Go.RowKit

set_option maxRecDepth 100000 in
theorem listS_of {α : Type} {d : α} {Q : Nat → α → Prop} : ∀ (n : Nat), (∀ i, i < n → ∃ t, Q i t) → ∃ ts : List α, ts.length = n ∧ ∀ i, i < n → Q i (ts.getD i d)
  | 0, _ => ⟨[], rfl, fun i hi => by omega⟩
  | n + 1, h => by
    obtain ⟨ts, hl, ht⟩ := listS_of n (fun i hi => h i (by omega))
    obtain ⟨t, hq⟩ := h n (by omega)
    refine ⟨ts ++ [t], by simp [hl], fun i hi => ?_⟩
    by_cases h1 : i < n
    · rw [show (ts ++ [t]).getD i d = ts.getD i d by simp [List.getElem?_append_left (show i < ts.length by omega)]]
      exact ht i h1
    · obtain rfl : i = n := by omega
      rw [show (ts ++ [t]).getD i d = t by simp [← hl]]
      exact hq
set_option maxRecDepth 100000 in
theorem crS_of_trod {H : Type} {enc : TypeId × Value → H} {W : World} {fuel : Nat} {cs : List Value} {x : DataW H × List MemPlace} (hf : DataW.trod enc Try.prog W 0 (fun _ => true) true fuel 45 cs = some x) :
    ∃ c : Int × Int, cs = [.int .i64 c.1, .int .i64 c.2] := by
  have c3 : Try.prog.cellsOf 3 = 1 := by kernel_rfl
  have c45 : Try.prog.cellsOf 45 = 2 := by kernel_rfl
  obtain ⟨xs, n, _, _, hlen, hn, hel⟩ := DataW.trod_struct Try.underlying45 hf
  have hn : xs.length = 2 := hn
  rw [c45] at hlen
  have h0 : DataW.trod enc Try.prog W 0 (fun _ => true) true n 3 ((cs.drop 0).take (Try.prog.cellsOf 3)) = xs[0]? := hel 0 _ rfl
  rw [c3, List.getElem?_eq_getElem (by omega)] at h0
  have h1 : DataW.trod enc Try.prog W 0 (fun _ => true) true n 3 ((cs.drop 1).take (Try.prog.cellsOf 3)) = xs[1]? := hel 1 _ rfl
  rw [c3, List.getElem?_eq_getElem (by omega)] at h1
  obtain ⟨z0, e0, _, w0⟩ := DataW.trod_int Try.underlying3 h0
  obtain ⟨z1, e1, _, w1⟩ := DataW.trod_int Try.underlying3 h1
  have cut : ∀ k m, cs.drop k = (cs.drop k).take m ++ cs.drop (k + m) := fun k m => by
    rw [← List.drop_drop, List.take_append_drop]
  refine ⟨(z0, z1), ?_⟩
  have f : cs = cs.drop 0 := rfl
  rw [f, cut 0 1, e0, cut (0 + 1) 1, e1, List.drop_of_length_le (by omega)]
  rfl
theorem open_crash {H : Type} {enc : TypeId × Value → H} {W : World} {base : Nat} {v : Value} {x : DataW H} {p : List MemPlace} (hv : Value.okWide Try.prog W .any base 45 v) (h : ∃ fuel, DataW.trod enc Try.prog W 0 (fun _ => true) true fuel 45 v.cells.toList = some (x, p)) :
    ∃ ca ck : Int, v = .agg #[.int .i64 ca, .int .i64 ck] := by
  obtain ⟨cs, rfl, hs⟩ : ∃ cs, v = .agg cs ∧ cs.size = Try.prog.cellsOf 45 := by
    simp only [Value.okWide, Try.underlying45] at hv
    obtain ⟨cs, e1, e2, _⟩ := hv
    exact ⟨cs, e1, e2⟩
  obtain ⟨fuel, hf⟩ := h
  obtain ⟨l, he⟩ := crS_of_trod hf
  refine ⟨l.1, l.2, ?_⟩
  cases cs
  simp only [Value.cells] at he
  rw [← he]
theorem bytesS_of_trod {H : Type} {enc : TypeId × Value → H} {W : World} {fuel : Nat} {cs : List Value} {x : DataW H × List MemPlace} (hf : DataW.trod enc Try.prog W 0 (fun _ => true) true fuel 25 cs = some x) :
    ∃ a len cap zs, cs = [.slice a len cap] ∧ IsBytes W.heap.size W a len cap zs := by
  rcases open_ints Try.underlying25 Try.underlying5 (by kernel_rfl) hf with ⟨hcs, _⟩ | ⟨y, len, cap, zs, hcs, _, hl, hm, hz, _, hcell, hwz⟩
  · exact ⟨_, _, _, [], hcs, rfl, Nat.le_refl _, by omega, by simp, .inl rfl⟩
  · have hz' : zs.length = cap := by simpa using hz
    refine ⟨_, _, _, (zs.take len).map Int.toNat, hcs, by simp; omega, hl, by simpa only [maxLen] using hm, ?_, ?_⟩
    · intro z hz'
      obtain ⟨n, hn, rfl⟩ := List.mem_map.1 hz'
      have := bounds_u8 (hwz n (List.mem_of_mem_take hn))
      omega
    · by_cases h0 : len = 0
      · exact .inl h0
      · obtain ⟨b, off, spot⟩ := y
        have hc0 := hcell 0 (by omega)
        have hspot : spot = none := by simpa [Addr.add] using World.cell?_spot hc0
        subst hspot
        refine .inr ⟨b, off, rfl, ?_, fun i hi => ?_⟩
        · rw [Addr.add_mid] at hc0
          exact World.block_lt_of_cell? W _ hc0
        · have hi' : i < zs.length := by omega
          have h1 := hcell i hi'
          rw [Addr.add_mid] at h1
          rw [h1]
          have hb := bounds_u8 (hwz zs[i] (List.getElem_mem hi'))
          simp [List.getElem?_eq_getElem hi', hi]
          omega

theorem cells25 : Try.prog.cellsOf 25 = 1 := by kernel_rfl
/-- A list of records that came in. -/
theorem open_recs {H : Type} {enc : TypeId × Value → H} {W : World} {base : Nat} {v : Value} {x : DataW H} {p : List MemPlace} (hv : Value.okWide Try.prog W .any base 39 v) (h : ∃ fuel, DataW.trod enc Try.prog W 0 (fun _ => true) true fuel 39 v.cells.toList = some (x, p)) :
    ∃ a len cap ts, v = .slice a len cap ∧ WantAt W a len cap ts := by
  obtain ⟨a, len, cap, rfl⟩ := okWide_slice Try.underlying39 hv
  obtain ⟨fuel, hf⟩ := h
  rcases DataW.trod_slice Try.underlying39 hf with ⟨hcs, _⟩ | ⟨y, l, c, elems, rest, n, _, hcs, _, _, hl, hm, hlen, hel, _, _⟩
  · simp [Value.cells] at hcs
    obtain ⟨rfl, rfl, rfl⟩ := hcs
    exact ⟨_, _, _, [], rfl, rfl, Nat.le_refl _, by omega, by simp, .inl rfl⟩
  · simp [Value.cells] at hcs
    obtain ⟨rfl, rfl, rfl⟩ := hcs
    have hm' : cap ≤ 9223372036854775807 := by simpa only [maxLen] using hm
    have key : ∀ i, i < len → ∃ t q l c, W.cell? (y.add i) = some (.slice q l c) ∧ IsBytes W.heap.size W q l c t := by
      intro i hi
      have h0 := hel i hi
      rw [cells25, Nat.mul_one, List.getElem?_eq_getElem (by omega : i < elems.length)] at h0
      obtain ⟨cs, hc, ht⟩ := Option.bind_eq_some_iff.1 h0
      obtain ⟨a', l', c', zs, rfl, hI⟩ := bytesS_of_trod ht
      exact ⟨zs, a', l', c', cell_of_cells?_one hc, hI⟩
    by_cases h0 : len = 0
    · subst h0
      exact ⟨_, _, _, [], rfl, rfl, hl, hm', by simp, .inl rfl⟩
    · obtain ⟨b, off, spot⟩ := y
      obtain ⟨_, _, _, _, hc0, _⟩ := key 0 (by omega)
      have hspot : spot = none := by simpa [Addr.add] using World.cell?_spot hc0
      subst hspot
      rw [Addr.add_mid] at hc0
      obtain ⟨ts, htl, hts⟩ := listS_of (d := []) (Q := fun i t => ∃ q l c, W.cell? ⟨b, off + i, none⟩ = some (.slice q l c) ∧ IsBytes W.heap.size W q l c t) len (fun i hi => by
        obtain ⟨t, q, l, c, h1, h2⟩ := key i hi
        rw [Addr.add_mid] at h1
        exact ⟨t, q, l, c, h1, h2⟩)
      refine ⟨_, _, _, ts, rfl, htl, hl, hm', fun z hz => ?_, .inr ⟨b, off, rfl, World.block_lt_of_cell? W _ hc0, hts⟩⟩
      obtain ⟨i, hi, e⟩ := List.getElem_of_mem hz
      obtain ⟨_, _, _, _, hI⟩ := hts i (by omega)
      rw [List.getD_eq_getElem?_getD, List.getElem?_eq_getElem hi, Option.getD_some, e] at hI
      exact hI.2.2.2.1
end Go.Proofs.Ytifjkkfienmdjaa
