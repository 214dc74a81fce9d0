/-
  Pieces and chunks, once more: what is told is told in its order, and each round knows it.
-/
import Derived.Test.YtifjkkfienmdjaaChChunk
namespace Go.Proofs.Ytifjkkfienmdjaa
open Go Go.RowKit
section
variable {F : Fence} {n : Nat} {P : Program}
/-- The iterator, called in world W with the yield of loop l: it hands over, one behind the other, what is next. -/
def IterAtX {α : Type} (F : Fence) (n : Nat) (P : Program) (g : Nat) (lb : Array Value) (encs : α → Array Value) (Ok : α → World → Prop) (Kp : World → World → Prop) (Nx : List α → α → Prop) (S Sp : List α → Prop) (l : Nat) (W : World) : Prop :=
  ∀ (J Jx : List α → World → Prop), OwnFrom W.heap.size J → OwnFrom W.heap.size Jx →
    (∀ pre x W1, J pre W1 → Ok x W1 → Nx pre x → YieldAt F (n - 1) P l (encs x) W1 fun e W' =>
      (e = .returned (.bool true) ∧ J (pre ++ [x]) W' ∧ Kp W1 W') ∨ (e = .returned (.bool false) ∧ Jx (pre ++ [x]) W' ∧ Kp W1 W')) →
    J [] W →
    CallsIn F n P g (#[.func (.yield l) #[] #[]] ++ lb) W fun e W' => (∃ v, e = .returned v) ∧ ((∃ xs, S xs ∧ J xs W') ∨ (∃ pre, Sp pre ∧ Jx pre W'))

theorem wpIn_rangeFunc_okx {α : Type} {g : Operand} {ps : Array Tmp} {assign body : Code} {Q : Exit → Act → World → Prop} {a : Act} {w : World}
    (hro : F.round = none) (h1 : 1 ≤ n) {gf : Nat} {lb : Array Value} (hg : a.eval g = .func (.func gf) #[] lb) (hFg : F.fn gf) (eg : ∀ args w, (callFunc gf args).run P w = .ok (.enter gf args) w)
    {encs : α → Array Value} {Ok : α → World → Prop} {Kp : World → World → Prop} {Nx : List α → α → Prop} {S Sp : List α → Prop}
    (hit : ∀ W, W.heap.size = w.heap.size + 2 → Below w.heap.size w W → IterAtX F (n - 1) P gf lb encs Ok Kp Nx S Sp (w.heap.size + 1) W)
    (hKt : ∀ {A B C : World}, Kp A B → Kp B C → Kp A C) (hKb : ∀ (W : World) (o o' : Obj), W.heap[w.heap.size + 1]? = some o → o.isCells = false → Kp W (W.putObj (w.heap.size + 1) o'))
    (hps : ∀ x, (encs x).size = ps.size)
    (I : List α → World → Prop) (Ix : Code → List α → World → Prop) (hI : OwnFrom w.heap.size I) (hIx : ∀ c, OwnFrom w.heap.size (Ix c)) (hOk : OwnFrom w.heap.size Ok) (h0 : I [] w) (a₁ : α → Act)
    (hassign : ∀ (l : Nat) (x : α) (W : World) (K : Act → World → Prop), K (a₁ x) W →
      assign.wpIn (F.inRound l) (n - 1 - 1) P (Exit.then K (fun _ _ _ => False)) { tmps := (ps.zip (encs x)).foldl (fun t (p, v) => t.setIfInBounds p v) a.tmps, defers := [] } W)
    (hbody : ∀ (l : Nat) (pre : List α) (x : α) (W : World), I pre W → Ok x W → Nx pre x → body.wpIn (F.inRound l) (n - 1 - 1) P (roundWord w.heap.size Kp I Ix (pre ++ [x]) W) (a₁ x) W)
    (hdone : ∀ (D : Nat) (xs : List α) (W : World), w.heap.size ≤ D → S xs → I xs W → W.heap[D]? = some (.deferred (some [])) → Q .normal { a with defers := { target := .collected D, args := #[] } :: a.defers } W)
    (hstop : ∀ (D : Nat) (c : Code) (pre : List α) (W : World), w.heap.size ≤ D → Sp pre → Ix c pre W → W.heap[D]? = some (.deferred (some [])) → c.wpIn F n P Q { a with defers := { target := .collected D, args := #[] } :: a.defers } W) :
    (Code.rangeFunc g ps assign body).wpIn F n P Q a w := by
  refine wpIn_rangeFunc fun fn hfn => ?_
  rw [hro]
  -- the loop's record, by its state and its pending jump
  obtain ⟨rec, hrec⟩ : ∃ rec : LoopState → Option Code → Loop, rec = fun st pe => { state := st, pending := pe, fn, tmps := a.tmps, params := ps, assign, body, defers := w.heap.size } := ⟨_, rfl⟩
  obtain ⟨W1, hW1⟩ : ∃ W1, (w.alloc (.deferred (some []))).alloc (.loop (rec .ready none)) = W1 := ⟨_, rfl⟩
  have hs1 : W1.heap.size = w.heap.size + 2 := by rw [← hW1]; simp
  have hb1 : Below w.heap.size w W1 := by rw [← hW1]; exact ((Below.refl _ w).alloc (Nat.le_refl _) _).alloc (by simp) _
  have hL1 : W1.heap[w.heap.size + 1]? = some (.loop (rec .ready none)) := by
    rw [← hW1]; have := World.alloc_heap_new (w.alloc (.deferred (some []))) (.loop (rec .ready none)); rwa [World.size_alloc] at this
  have hD1 : W1.heap[w.heap.size]? = some (.deferred (some [])) := by
    rw [← hW1]; exact (Below.heap_alloc _ _ _ (by simp)).trans (World.alloc_heap_new w _)
  have hI1 : I [] W1 := OwnFrom.grow hI h0 hb1
  -- what is said of a world between two rounds, of a world behind the last one
  obtain ⟨T, hT⟩ : ∃ T : LoopState → Option Code → World → Prop, T = fun st pe W => W.heap[w.heap.size + 1]? = some (.loop (rec st pe)) ∧ W.heap[w.heap.size]? = some (.deferred (some [])) := ⟨_, rfl⟩
  have hTown : ∀ st pe, OwnFrom W1.heap.size (fun (_ : List α) W => T st pe W) := by
    intro st pe s A B row hs hg' hr
    rw [hT] at hs ⊢
    have hl := (Array.getElem?_eq_some_iff.1 hs.1).1
    have hd := (Array.getElem?_eq_some_iff.1 hs.2).1
    exact ⟨(hg'.block _ hl (fun e => by have := (hr _ e.symm).1; omega)).trans hs.1, (hg'.block _ hd (fun e => by have := (hr _ e.symm).1; omega)).trans hs.2⟩
  refine ⟨w.heap.size + 1, [{ target := .collected w.heap.size, args := #[] }], W1, { target := .fn (.func gf) lb, args := #[.func (.yield (w.heap.size + 1)) #[] #[]] }, W1, gf,
    #[.func (.yield (w.heap.size + 1)) #[] #[]] ++ lb, W1, ?_, ?_, ?_, ?_, fun _ => h1, ?_⟩
  · rw [← hW1, hrec]; exact run_enterLoop_outer _ _ _ _ _
  · simp only [resolve, hg]
    simp [go_sem]
  · intro f' hf'
    simp [Target.leads] at hf'
    subst hf'
    exact hFg
  · simp [invoke, go_sem, eg]
  · refine (hit W1 hs1 hb1 (fun pre W => I pre W ∧ T .ready none W) (fun pre W => ∃ c, Ix c pre W ∧ T .done (some c) W)
      (OwnFrom.and (OwnFrom.mono hI (by omega)) (hTown _ _))
      (fun s A B row ⟨c, hc, ht⟩ hg' hr => ⟨c, OwnFrom.mono (hIx c) (by omega) s A B row hc hg' hr, hTown _ _ s A B row ht hg' hr⟩) ?_ ⟨hI1, by rw [hT]; exact ⟨hL1, hD1⟩⟩).mono ?_
    · rintro pre x W ⟨hi, ht⟩ hok hN
      rw [hT] at ht
      obtain ⟨hl, hd⟩ := ht
      have hlt : w.heap.size + 1 < W.heap.size := (Array.getElem?_eq_some_iff.1 hl).1
      have hy := run_yield (P := P) (args := encs x) hl (by rw [hrec]; exact hps x)
      rw [hrec] at hy
      refine ⟨fn, _, assign, body, hy, roundIn_of_wpIn hfn (hassign _ x W _ ⟨_, run_beginRound hl (by rw [hrec]), ?_⟩)⟩
      -- the world in which the body begins
      obtain ⟨W2, hW2⟩ : ∃ W2, W.putObj (w.heap.size + 1) (.loop { rec .ready none with state := .busy }) = W2 := ⟨_, rfl⟩
      rw [hW2]
      have hl2 : W2.heap[w.heap.size + 1]? = some (.loop { rec .ready none with state := .busy }) := by rw [← hW2]; exact World.putObj_heap_same hlt
      have hd2 : W2.heap[w.heap.size]? = some (.deferred (some [])) := by rw [← hW2]; exact (World.putObj_heap_other (by omega)).trans hd
      have hk2 : Kp W W2 := by rw [← hW2]; exact hKb _ _ _ hl rfl
      have hi2 : I pre W2 := by rw [← hW2]; exact hI.putObj _ hi (by omega) hl rfl
      have ho2 : Ok x W2 := by rw [← hW2]; exact OwnFrom.putObj hOk _ hok (by omega) hl rfl
      -- whatever way the body is left
      have fin : ∀ (jump : Option Code) (W3 : World), KeepsFrom w.heap.size W2 W3 → Kp W2 W3 →
          ∃ W4, (Instr.endRound (w.heap.size + 1) jump).run P W3 = .ok (.bool jump.isNone) W4 ∧ T (if jump.isNone then .ready else .done) jump W4 ∧ Kp W W4 ∧ (I (pre ++ [x]) W3 → I (pre ++ [x]) W4) ∧ (∀ c, Ix c (pre ++ [x]) W3 → Ix c (pre ++ [x]) W4) := by
        intro jump W3 hk3 hkp
        have hl3 := hk3.same _ _ (by omega) hl2 rfl
        have hd3 := hk3.same _ _ (Nat.le_refl _) hd2 rfl
        refine ⟨_, run_endRound (P := P) jump hl3, ?_, hKt (hKt hk2 hkp) (hKb _ _ _ hl3 rfl), fun h => hI.putObj _ h (by omega) hl3 rfl, fun c h => (hIx c).putObj _ h (by omega) hl3 rfl⟩
        rw [hT, hrec]
        exact ⟨World.putObj_heap_same (Array.getElem?_eq_some_iff.1 hl3).1, (World.putObj_heap_other (by omega)).trans hd3⟩
      refine wpIn_mono (hbody _ pre x W2 hi2 ho2 hN) ?_
      rintro e a3 W3 hp
      cases e with
      | normal =>
        obtain ⟨W4, hr, ht, hk, hi4, _⟩ := fin none W3 hp.1 hp.2.1
        exact ⟨_, _, hr, .inl ⟨rfl, ⟨hi4 hp.2.2, ht⟩, hk⟩⟩
      | ret =>
        obtain ⟨W4, hr, ht, hk, _, hx4⟩ := fin (some .ret) W3 hp.1 hp.2.1
        exact ⟨_, _, hr, .inr ⟨rfl, ⟨_, hx4 _ hp.2.2, ht⟩, hk⟩⟩
      | exit id =>
        obtain ⟨W4, hr, ht, hk, _, hx4⟩ := fin (some (.exit id)) W3 hp.1 hp.2.1
        exact ⟨_, _, hr, .inr ⟨rfl, ⟨_, hx4 _ hp.2.2, ht⟩, hk⟩⟩
      | goto t =>
        obtain ⟨W4, hr, ht, hk, _, hx4⟩ := fin (some (.goto t)) W3 hp.1 hp.2.1
        exact ⟨_, _, hr, .inr ⟨rfl, ⟨_, hx4 _ hp.2.2, ht⟩, hk⟩⟩
      | panic ch => exact hp.elim
      | outgrown => exact hp.elim
    · rintro e W2 ⟨⟨v, rfl⟩, (⟨xs, hS, hi, ht⟩ | ⟨pre, hSp, c, hi, ht⟩)⟩
      · rw [hT] at ht
        have hr := run_endLoop (P := P) ht.1 (by rw [hrec]; simp)
        rw [hrec] at hr
        exact ⟨none, _, hr, hdone _ xs _ (Nat.le_refl _) hS (hI.putObj _ hi (by omega) ht.1 rfl) ((World.putObj_heap_other (by omega)).trans ht.2)⟩
      · rw [hT] at ht
        have hr := run_endLoop (P := P) ht.1 (by rw [hrec]; simp)
        rw [hrec] at hr
        exact ⟨some c, _, hr, hstop _ c pre _ (Nat.le_refl _) hSp ((hIx c).putObj _ hi (by omega) ht.1 rfl) ((World.putObj_heap_other (by omega)).trans ht.2)⟩

end
end Go.Proofs.Ytifjkkfienmdjaa
namespace Go.Proofs.Ytifjkkfienmdjaa.Ch
open Go.RowKit Go.Shelf
attribute [local go_sem] Oper.semAt_some
set_option maxRecDepth 100000 in
set_option maxHeartbeats 2000000 in
theorem pieces1_inx (F : Fence) (n : Nat) (h24 : F.fn 59) (hro : F.round = none) (hn : 1 ≤ n) (l Bn Bb bb off len cap m : Nat) (Kp : World → World → Prop) (hKp : ∀ A B v, Kp A B → A.cell? ⟨Bn, 0, none⟩ = some v → B.cell? ⟨Bn, 0, none⟩ = some v) (hm1 : 1 ≤ m) (hm2 : (m : Int) ≤ 9223372036854775807)
    (hlc : len ≤ cap) (hcap : cap ≤ 9223372036854775807) (J Jx : List (Pc m len) → World → Prop)
    (hY : ∀ pre x W, J pre W → (pre.map (·.1) = List.range x.1 ∧ pre.length < len) → YieldAt F (n - 1) Try.prog l #[pcVal bb off m len cap x.1] W fun e W' =>
      (e = .returned (.bool true) ∧ J (pre ++ [x]) W' ∧ Kp W W') ∨ (e = .returned (.bool false) ∧ Jx (pre ++ [x]) W'))
    (W : World) (hBn : W.cell? ⟨Bn, 0, none⟩ = some (.int .i64 m)) (hBb : W.cell? ⟨Bb, 0, none⟩ = some (.slice (some ⟨bb, off, none⟩) len cap)) (h0 : J [] W) :
    CallsIn F n Try.prog 59 #[.func (.yield l) #[] #[], .pointer (some ⟨Bn, 0, none⟩), .pointer (some ⟨Bb, 0, none⟩)] W fun e W' => (∃ v, e = .returned v) ∧
      ((∃ ys : List (Pc m len), (∃ k, len ≤ m * k ∧ ys.map (·.1) = List.range k) ∧ J ys W') ∨ (∃ pre : List (Pc m len), (∃ k, pre.map (·.1) = List.range k) ∧ Jx pre W')) := by
  refine callsIn_of_wp Try.func59 rfl h24 ?_ hro
  simp only [Try.ntmps59, List.size_toArray, List.length_cons, List.length_nil, Nat.reduceAdd, Nat.reduceSub, Array.replicate_succ, Array.replicate_zero, List.push_toArray, List.append_toArray, List.nil_append, List.cons_append]
  have hm1' : (1 : Int) ≤ (m : Int) := by omega
  have HKp : Hid (∀ A B v, Kp A B → A.cell? ⟨Bn, 0, none⟩ = some v → B.cell? ⟨Bn, 0, none⟩ = some v) := hKp
  clear hKp
  gi_wp2
  gi_loopw [4] (fun r wr => ∃ (k o L C : Nat) (p : Option Addr) (pre : List (Pc m len)), r = .slice p L C ∧ (0 < L → p = some ⟨bb, off + o, none⟩) ∧ o = min (m * k) len ∧ L + o = len ∧ C + o = cap ∧ pre.map (·.1) = List.range k ∧ J pre wr ∧ wr.cell? ⟨Bn, 0, none⟩ = some (.int .i64 m))
    (fun r _ => sliceLen r)
  case atStart => exact ⟨0, 0, len, cap, _, [], rfl, fun _ => rfl, by simp, rfl, rfl, rfl, h0, hBn⟩
  case round =>
    obtain ⟨k, o, L, C, p, pre, rfl, hp, ho, hL, hC, hpre, hJs, hcn⟩ := hrel
    have HO : Hid (o = min (m * k) len ∧ L + o = len ∧ C + o = cap) := ⟨ho, hL, hC⟩
    have HP : Hid (pre.map (·.1) = List.range k) := hpre
    have hLC : L ≤ C := by omega
    have hCc : C ≤ 9223372036854775807 := by omega
    clear ho hpre hL hC
    by_cases hLz : 0 < L
    · obtain rfl := hp hLz
      have hok : m * k < len := by have := HO.out; omega
      have hpl : pre.length = k := by have := congrArg List.length HP.out; simpa using this
      have hkl : k < len := by have := Nat.le_mul_of_pos_left k (show 0 < m by omega); omega
      have hLi : (0 : Int) < (L : Int) := by omega
      obtain ⟨x, hx⟩ : ∃ x : Pc m len, x.1 = k := ⟨⟨k, hok⟩, rfl⟩
      obtain ⟨fn, tmps, assign, body, hy, hR⟩ := hY pre x wr hJs ⟨by rw [HP.out, hx], by omega⟩
      have HP2 : Hid ((pre ++ [x]).map (·.1) = List.range (k + 1)) := by
        show _ = _
        rw [List.map_append, HP.out, List.range_succ]; simp [hx]
      rw [hx] at hy
      have HOK : Hid (m * k < len) := hok
      clear hok hpl hx hkl HP hY hp
      by_cases hmL : m ≤ L
      · have hmLi : (m : Int) ≤ (L : Int) := by omega
        have e : pcVal bb off m len cap k = .slice (some ⟨bb, off + o, none⟩) m C := by
          have := HO.out; have := HOK.out; unfold pcVal; rw [show m * k = o by omega, show min m (len - o) = m by omega, show cap - o = C by omega]
        rw [e] at hy
        clear e
        gi_wp2
        refine hR.mono ?_
        rintro e W3 (⟨rfl, hJ3, hk3⟩ | ⟨rfl, hJx3⟩)
        · have hcn3 := HKp.out _ _ _ hk3 hcn
          gi_wp2
          go_roundw
          case rel =>
            have h1 := HO.out
            have h2 := HOK.out
            have h3 : m * (k + 1) = m * k + m := Nat.mul_succ m k
            exact ⟨k + 1, o + m, L - m, C - m, _, pre ++ [x], rfl, fun hh => by rw [if_neg (by omega), Nat.add_assoc], by omega, by omega, by omega, HP2.out, hJ3, hcn3⟩
          case measure => simp only [sliceLen]; omega
        · gi_wp2
          refine bodyPost_ret (results_none rfl _ _ _) rfl ?_
          exact ⟨⟨_, rfl⟩, .inr ⟨pre ++ [x], ⟨_, HP2.out⟩, hJx3⟩⟩
      · have hmLi : ¬ (m : Int) ≤ (L : Int) := by omega
        have hmLj : (L : Int) < (m : Int) := by omega
        have e : pcVal bb off m len cap k = .slice (some ⟨bb, off + o, none⟩) L C := by
          have := HO.out; have := HOK.out; unfold pcVal; rw [show m * k = o by omega, show min m (len - o) = L by omega, show cap - o = C by omega]
        rw [e] at hy
        clear e
        gi_wp2
        refine hR.mono ?_
        rintro e W3 (⟨rfl, hJ3, hk3⟩ | ⟨rfl, hJx3⟩)
        · have hcn3 := HKp.out _ _ _ hk3 hcn
          gi_wp2
          go_roundw
          case rel =>
            have h1 := HO.out
            have h2 := HOK.out
            have h3 : m * (k + 1) = m * k + m := Nat.mul_succ m k
            exact ⟨k + 1, len, 0, C - L, _, pre ++ [x], rfl, fun hh => by omega, by omega, by omega, by omega, HP2.out, hJ3, hcn3⟩
          case measure => simp only [sliceLen]; omega
        · gi_wp2
          refine bodyPost_ret (results_none rfl _ _ _) rfl ?_
          exact ⟨⟨_, rfl⟩, .inr ⟨pre ++ [x], ⟨_, HP2.out⟩, hJx3⟩⟩
    · obtain rfl : L = 0 := by omega
      gi_wp2
      go_end0
      exact ⟨⟨_, rfl⟩, .inl ⟨pre, ⟨k, by have := HO.out; omega, HP.out⟩, hJs⟩⟩

/-- The same, told to a loop whose iterator may itself be within another one: nothing is asked of a round but that it keeps the cell that holds m. -/
theorem pieces_iterx (F : Fence) (n : Nat) (h24 : F.fn 59) (hro : F.round = none) (hn : 1 ≤ n) (l Bn Bb : Nat) (p : Option Addr) (len cap : Nat) (m : Nat) (hm1 : 1 ≤ m) (hm2 : (m : Int) ≤ 9223372036854775807)
    (Kp : World → World → Prop) (hKp : ∀ A B v, Kp A B → A.cell? ⟨Bn, 0, none⟩ = some v → B.cell? ⟨Bn, 0, none⟩ = some v) (W : World)
    (hcn : W.cell? ⟨Bn, 0, none⟩ = some (.int .i64 m)) (hcb : W.cell? ⟨Bb, 0, none⟩ = some (.slice p len cap)) (hlc : len ≤ cap) (hcap : cap ≤ 9223372036854775807) (hp : len = 0 ∨ ∃ b off, p = some ⟨b, off, none⟩) :
    IterAtX F n Try.prog 59 #[.pointer (some ⟨Bn, 0, none⟩), .pointer (some ⟨Bb, 0, none⟩)] (fun x : Pc m len => #[pcVal (blk p) (offs p) m len cap x.1]) (fun _ _ => True) Kp (fun pre x => pre.map (·.1) = List.range x.1 ∧ pre.length < len)
      (fun ys => ∃ k, len ≤ m * k ∧ ys.map (·.1) = List.range k) (fun pre => ∃ k, pre.map (·.1) = List.range k) l W := fun J Jx _ _ hY h0 => by
  rcases hp with rfl | ⟨b, off, rfl⟩
  · exact (pieces1_none_in F n h24 hro l Bn Bb m hm1 hm2 p cap (J []) W hcn hcb h0).mono fun e W' ⟨he, hj⟩ => ⟨he, .inl ⟨[], ⟨0, by simp, rfl⟩, hj⟩⟩
  · exact pieces1_inx F n h24 hro hn l Bn Bb b off len cap m Kp hKp hm1 hm2 hlc hcap J Jx (fun pre x W1 hj hlt => by
      obtain ⟨fn, tmps, assign, body, hy, hR⟩ := hY pre x W1 hj trivial hlt
      exact ⟨fn, tmps, assign, body, hy, hR.mono fun e W' h => by
        rcases h with h | h
        · exact .inl h
        · exact .inr ⟨h.1, h.2.1⟩⟩) W hcn hcb h0

set_option maxRecDepth 100000 in
set_option maxHeartbeats 2000000 in
theorem chunks1_iterx (n : Nat) (hn : 4 ≤ n) (l Bo Bn bo len : Nat) (zs : List Nat) (hz : ∀ z ∈ zs, z < 256) (hl : zs.length = len) (hlen : len ≤ 60000) (m : Nat) (hm1 : 1 ≤ m) (hm2 : (m : Int) ≤ 9223372036854775807) (W : World)
    (Kd : Nat → Prop) (hKd1 : Kd bo) (hKd2 : ∀ k, W.heap.size ≤ k → Kd k) (Kp : World → World → Prop) (hK1 : ∀ A B, Kp A B → ∀ (k : Nat) (c : Array Value) (t : TypeId) (fr : Nat × Nat), A.heap[k]? = some (Obj.cells c t fr) → Kd k → B.heap[k]? = some (Obj.cells c t fr)) (hK2 : ∀ A B, Kp A B → KeepsFrom W.heap.size A B)
    (hco : W.cell? ⟨Bo, 0, none⟩ = some (.slice (some ⟨bo, 0, none⟩) len len)) (hcn : W.cell? ⟨Bn, 0, none⟩ = some (.int .i64 m)) (hT : Text W bo zs) :
    IterAtX Fence.wide n Try.prog 57 #[.pointer (some ⟨Bo, 0, none⟩), .pointer (some ⟨Bn, 0, none⟩)] (fun x => #[chVal zs m x]) (ChOk zs m) Kp (fun pre x => pre.map (·.2) = List.range x.2 ∧ pre.length < len)
      (fun xs => ∃ k, len ≤ m * k ∧ xs.map (·.2) = List.range k) (fun pre => ∃ k, pre.map (·.2) = List.range k) l W := by
  intro J Jx hJ hJx hY h0
  have h1 : 1 ≤ n := by omega
  have hfn : ∀ f, Fence.wide.fn f := fun _ => trivial
  have hco1 := (World.cell?_alloc_lt W (.cells #[.func (.yield l) #[] #[]] 97) ⟨Bo, 0, none⟩ (World.block_lt_of_cell? W _ hco)).trans hco
  have hcn1 := (World.cell?_alloc_lt W (.cells #[.func (.yield l) #[] #[]] 97) ⟨Bn, 0, none⟩ (World.block_lt_of_cell? W _ hcn)).trans hcn
  refine callsIn_of_wp_marks Try.func57 rfl trivial ?_ rfl
  simp only [Try.ntmps57, List.size_toArray, List.length_cons, List.length_nil, Nat.reduceAdd, Nat.reduceSub, Array.replicate_succ, Array.replicate_zero, List.push_toArray, List.append_toArray, List.nil_append, List.cons_append]
  gi_wp2_with (gi_at_call 58; refine (pieces_in Fence.wide _ trivial rfl _ _ _ _ _).mono ?_; rintro e w' ⟨rfl, rfl⟩)
  obtain ⟨By, hBy⟩ : ∃ By, By = W.heap.size := ⟨_, rfl⟩
  have bY := Boxed.new W 97 (.func (.yield l) #[] #[])
  have bB := Boxed.new (W.alloc (.cells #[.func (.yield l) #[] #[]] 97)) 25 (.slice (some ⟨bo, 0, none⟩) len len)
  have bN := Boxed.new ((W.alloc (.cells #[.func (.yield l) #[] #[]] 97)).alloc (.cells #[.slice (some ⟨bo, 0, none⟩) len len] 25)) 3 (.int .i64 m)
  simp only [World.size_alloc] at bB bN
  have hB3 : Below W.heap.size W (((W.alloc (.cells #[.func (.yield l) #[] #[]] 97)).alloc (.cells #[.slice (some ⟨bo, 0, none⟩) len len] 25)).alloc (.cells #[.int .i64 m] 3)) :=
    (((Below.refl _ W).alloc (Nat.le_refl _) _).alloc (by simp) _).alloc (by simp; omega) _
  have bY3 := (bY.alloc (.cells #[.slice (some ⟨bo, 0, none⟩) len len] 25)).alloc (.cells #[.int .i64 m] 3)
  have bB3 := bB.alloc (.cells #[.int .i64 m] 3)
  clear hco1 hcn1 bY bB
  generalize hw3 : (((W.alloc (.cells #[.func (.yield l) #[] #[]] 97)).alloc (.cells #[.slice (some ⟨bo, 0, none⟩) len len] 25)).alloc (.cells #[.int .i64 m] 3)) = w3 at *
  have hs3 : w3.heap.size = W.heap.size + 3 := by rw [← hw3]; simp
  clear hw3
  refine wpIn_rangeFunc_okx rfl h1 (gf := 59) (lb := #[.pointer (some ⟨W.heap.size + 1 + 1, 0, none⟩), .pointer (some ⟨W.heap.size + 1, 0, none⟩)]) rfl trivial (enters_of Try.func59 (by kernel_rfl) rfl)
    (Kp := fun A B => ∀ v, A.cell? ⟨W.heap.size + 1 + 1, 0, none⟩ = some v → B.cell? ⟨W.heap.size + 1 + 1, 0, none⟩ = some v)
    (fun W' _ hb => pieces_iterx Fence.wide (n - 1) trivial rfl (by omega) _ (W.heap.size + 1 + 1) (W.heap.size + 1) (some ⟨bo, 0, none⟩) len len m hm1 hm2 _ (fun _ _ v h => h v) W' (boxed_below bN hb).cell (boxed_below bB3 hb).cell (Nat.le_refl _) (by omega) (.inr ⟨bo, 0, rfl⟩))
    (fun h k v hv => k v (h v hv)) (fun A o o' ho hc v hv => cell_kept hv (grownBy_putObj' _ _ o') (fun r e => by cases e; exact ⟨_, ho, hc⟩)) (fun _ => rfl)
    (fun pre A => (∃ xs : List (Nat × Nat), xs.map (·.2) = pre.map (·.1) ∧ J xs A) ∧ Boxed A W.heap.size 97 (.func (.yield l) #[] #[]) ∧ Boxed A (W.heap.size + 1 + 1) 3 (.int .i64 m) ∧ Text A bo zs)
    (fun c pre A => c = .ret ∧ ∃ xs : List (Nat × Nat), xs.map (·.2) = pre.map (·.1) ∧ Jx xs A)
    (OwnFrom.and (fun s A B row ⟨xs, hx, hj⟩ hg hr => ⟨xs, hx, OwnFrom.mono hJ (by omega) xs A B row hj hg hr⟩) (OwnFrom.and (Own.from (boxed_own _ _ _) _) (OwnFrom.and (Own.from (boxed_own _ _ _) _) (text_own _ (fun _ => bo) (fun _ => zs)))))
    (fun c s A B row ⟨hc, xs, hx, hj⟩ hg hr => ⟨hc, xs, hx, OwnFrom.mono hJx (by omega) xs A B row hj hg hr⟩)
    (fun _ _ _ _ h _ _ => h)
    ⟨⟨[], rfl, OwnFrom.grow hJ h0 hB3⟩, bY3, bN, hT.below hB3⟩
    (fun x => { tmps := #[.func (.yield l) #[] #[], .pointer (some ⟨Bo, 0, none⟩), .pointer (some ⟨Bn, 0, none⟩), .pointer (some ⟨W.heap.size, 0, none⟩), pcVal bo 0 m len len x.1, .slice (some ⟨bo, 0, none⟩) len len, .int .i64 m,
      .func (.func 59) #[] #[.pointer (some ⟨W.heap.size + 1 + 1, 0, none⟩), .pointer (some ⟨W.heap.size + 1, 0, none⟩)], pcVal bo 0 m len len x.1, undef, undef, undef, undef, undef], defers := [] }) ?assign ?body ?done ?stop
  case assign =>
    intro l x W K hK
    gi_wp2
    exact hK
  case body =>
    rintro li pre x A ⟨⟨xs, hxs, hj⟩, hbY, hbN, hTA⟩ _ ⟨hnx, hlt⟩
    obtain ⟨j, hjx⟩ : ∃ j, j = x.1 := ⟨_, rfl⟩
    have hjl : m * j < len := by rw [hjx]; exact x.2
    have hIB : IsBytes A.heap.size A (some ⟨bo, m * j, none⟩) (pieceL zs m j).length (len - m * j) (pieceL zs m j) := piece_bytes hz hl hlen hjl hTA
    obtain ⟨L, hL⟩ : ∃ L, L = (pieceL zs m j).length := ⟨_, rfl⟩
    have hLl : L ≤ 60000 := by rw [hL, pieceL_length]; omega
    have e1 : pcVal bo 0 m len len j = .slice (some ⟨bo, m * j, none⟩) L (len - m * j) := by
      unfold pcVal; rw [hL, pieceL_length, hl, Nat.zero_add]
    have e2 : ∀ g, chVal zs m (g, j) = .slice (some ⟨g, 0, none⟩) L L := fun g => by unfold chVal; rw [hL]
    have HCl : Hid (Calls Try.prog 56 #[.slice (some ⟨bo, m * j, none⟩) L (len - m * j)] A.drew fun e w' => e = .returned (.slice (some ⟨A.heap.size, 0, none⟩) L L) ∧ Text w' A.heap.size (pieceL zs m j) ∧ Below A.heap.size A w') := by
      rw [← hL] at hIB
      exact (clone_any _ L _ _ hLl A.drew hIB).mono fun e w' ⟨he, ht, hb⟩ => ⟨he, ht, (Below.refl _ A).drew.trans hb⟩
    have HYd : Hid (∀ A2, Below A.heap.size A A2 → Text A2 A.heap.size (pieceL zs m j) → YieldAt Fence.wide (n - 1 - 1 - 1) Try.prog l #[.slice (some ⟨A.heap.size, 0, none⟩) L L] A2 fun e W' =>
        (e = .returned (.bool true) ∧ J (xs ++ [(A.heap.size, j)]) W' ∧ Kp A2 W') ∨ (e = .returned (.bool false) ∧ Jx (xs ++ [(A.heap.size, j)]) W' ∧ Kp A2 W')) := fun A2 hb ht => by
      have h := hY xs (A.heap.size, j) A2 (OwnFrom.grow hJ hj hb) ⟨by rw [hl]; exact hjl, ht⟩ ⟨by rw [hxs, hnx, hjx], by have := congrArg List.length hxs; simp at this; omega⟩
      rw [e2] at h
      exact room_none h
    have hxs2 : Hid (∀ g : Nat, (xs ++ [(g, j)]).map (·.2) = (pre ++ [x]).map (·.1)) := fun g => by simp [hxs, hjx]
    have HbY : Hid (Boxed A W.heap.size 97 (.func (.yield l) #[] #[])) := hbY
    have HbN : Hid (Boxed A (W.heap.size + 1 + 1) 3 (.int .i64 m)) := hbN
    have HTA : Hid (Text A bo zs) := hTA
    have hcY := hbY.cell
    rw [← hjx, e1]
    clear hjx
    generalize m * j = O at *
    generalize len - O = C at *
    clear hnx hIB hY hj hxs hL e1 e2 hbY hbN hTA hjl
    gi_wp2
    refine wpIn_region_any (by kernel_rfl) ?_
    change wpAnyIn _ _ _ _ _ _ _ _ _ A.drew
    refine wpAnyIn_either (i := 0) (j := 1) (by kernel_rfl) rfl rfl (by rfl) (by rfl) (fun K hK => ?_) (fun K hK => ?_)
    · go_simp
      refine hK.out _ _ ?_
      clear hK K
      refine wpAnyIn_only (i := 1) (by kernel_rfl) rfl (by rfl) (fun K hK => ?_)
      go_simp
      refine hK.out _ _ ?_
      clear hK K
      refine wpAnyIn_only (i := 2) (by kernel_rfl) rfl (by rfl) (fun K hK => ?_)
      go_simp
      refine ⟨fun _ => by omega, (CallsIn.inRound li (callsIn_wide.2 HCl.out)).mono ?_⟩
      rintro e A2 ⟨rfl, ht2, hb2⟩
      refine hK.out _ _ ?_
      clear hK K
      obtain ⟨fn, tmps, assign, body, hy, hR⟩ := HYd.out A2 hb2 ht2
      refine wpAnyIn_only (i := 3) (by kernel_rfl) rfl (by rfl) (fun K hK => ?_)
      go_simp
      refine ⟨fun _ => by omega, RoundIn.mono (show RoundIn (Fence.wide.inRound li) _ _ _ _ _ _ _ _ _ from hR) ?_⟩
      rintro e A3 (⟨rfl, hJ3, hk3⟩ | ⟨rfl, hJ3, hk3⟩)
      · refine hK.out _ _ ?_
        clear hK K
        refine wpAnyIn_only (i := 4) (by kernel_rfl) rfl (by rfl) (fun K hK => ?_)
        go_simp
        refine hK.out _ _ ⟨by kernel_rfl, ?_⟩
        clear hK K
        gi_wp2
        exact ⟨(keepsFrom_of_below hb2).trans (keepsFrom_ge (hK2 _ _ hk3) (by omega)), fun v hv => by rw [HbN.out.cell] at hv; cases hv; exact (boxed_kept hK1 hk3 (boxed_below HbN.out hb2) (hKd2 _ (by omega))).cell,
          ⟨⟨_, hxs2.out _, hJ3⟩, boxed_kept hK1 hk3 (boxed_below HbY.out hb2) (hKd2 _ (by omega)), boxed_kept hK1 hk3 (boxed_below HbN.out hb2) (hKd2 _ (by omega)), hK1 _ _ hk3 _ _ _ _ (HTA.out.below hb2) hKd1⟩⟩
      · refine hK.out _ _ ?_
        clear hK K
        refine wpAnyIn_only (i := 4) (by kernel_rfl) rfl (by rfl) (fun K hK => ?_)
        go_simp
        refine hK.out _ _ ⟨by kernel_rfl, ?_⟩
        clear hK K
        gi_wp2
        exact ⟨(keepsFrom_of_below hb2).trans (keepsFrom_ge (hK2 _ _ hk3) (by omega)), fun v hv => by rw [HbN.out.cell] at hv; cases hv; exact (boxed_kept hK1 hk3 (boxed_below HbN.out hb2) (hKd2 _ (by omega))).cell, rfl, _, hxs2.out _, hJ3⟩
    · go_simp
      refine hK.out _ _ ?_
      clear hK K
      refine wpAnyIn_either (i := 0) (j := 2) (by kernel_rfl) rfl rfl (by rfl) (by rfl) (fun K hK => ?_) (fun K hK => ?_)
      · go_simp
        refine hK.out _ _ ?_
        clear hK K
        refine wpAnyIn_only (i := 2) (by kernel_rfl) rfl (by rfl) (fun K hK => ?_)
        go_simp
        refine ⟨fun _ => by omega, (CallsIn.inRound li (callsIn_wide.2 HCl.out)).mono ?_⟩
        rintro e A2 ⟨rfl, ht2, hb2⟩
        refine hK.out _ _ ?_
        clear hK K
        obtain ⟨fn, tmps, assign, body, hy, hR⟩ := HYd.out A2 hb2 ht2
        refine wpAnyIn_only (i := 3) (by kernel_rfl) rfl (by rfl) (fun K hK => ?_)
        go_simp
        refine ⟨fun _ => by omega, RoundIn.mono (show RoundIn (Fence.wide.inRound li) _ _ _ _ _ _ _ _ _ from hR) ?_⟩
        rintro e A3 (⟨rfl, hJ3, hk3⟩ | ⟨rfl, hJ3, hk3⟩)
        · refine hK.out _ _ ?_
          clear hK K
          refine wpAnyIn_only (i := 4) (by kernel_rfl) rfl (by rfl) (fun K hK => ?_)
          go_simp
          refine hK.out _ _ ⟨by kernel_rfl, ?_⟩
          clear hK K
          gi_wp2
          exact ⟨(keepsFrom_of_below hb2).trans (keepsFrom_ge (hK2 _ _ hk3) (by omega)), fun v hv => by rw [HbN.out.cell] at hv; cases hv; exact (boxed_kept hK1 hk3 (boxed_below HbN.out hb2) (hKd2 _ (by omega))).cell,
            ⟨⟨_, hxs2.out _, hJ3⟩, boxed_kept hK1 hk3 (boxed_below HbY.out hb2) (hKd2 _ (by omega)), boxed_kept hK1 hk3 (boxed_below HbN.out hb2) (hKd2 _ (by omega)), hK1 _ _ hk3 _ _ _ _ (HTA.out.below hb2) hKd1⟩⟩
        · refine hK.out _ _ ?_
          clear hK K
          refine wpAnyIn_only (i := 4) (by kernel_rfl) rfl (by rfl) (fun K hK => ?_)
          go_simp
          refine hK.out _ _ ⟨by kernel_rfl, ?_⟩
          clear hK K
          gi_wp2
          exact ⟨(keepsFrom_of_below hb2).trans (keepsFrom_ge (hK2 _ _ hk3) (by omega)), fun v hv => by rw [HbN.out.cell] at hv; cases hv; exact (boxed_kept hK1 hk3 (boxed_below HbN.out hb2) (hKd2 _ (by omega))).cell, rfl, _, hxs2.out _, hJ3⟩
      · go_simp
        refine ⟨fun _ => by omega, (CallsIn.inRound li (callsIn_wide.2 HCl.out)).mono ?_⟩
        rintro e A2 ⟨rfl, ht2, hb2⟩
        refine hK.out _ _ ?_
        clear hK K
        have hcY2 := (boxed_below HbY.out hb2).cell
        refine wpAnyIn_only (i := 0) (by kernel_rfl) rfl (by rfl) (fun K hK => ?_)
        go_simp
        refine hK.out _ _ ?_
        clear hK K
        obtain ⟨fn, tmps, assign, body, hy, hR⟩ := HYd.out A2 hb2 ht2
        refine wpAnyIn_only (i := 3) (by kernel_rfl) rfl (by rfl) (fun K hK => ?_)
        go_simp
        refine ⟨fun _ => by omega, RoundIn.mono (show RoundIn (Fence.wide.inRound li) _ _ _ _ _ _ _ _ _ from hR) ?_⟩
        rintro e A3 (⟨rfl, hJ3, hk3⟩ | ⟨rfl, hJ3, hk3⟩)
        · refine hK.out _ _ ?_
          clear hK K
          refine wpAnyIn_only (i := 4) (by kernel_rfl) rfl (by rfl) (fun K hK => ?_)
          go_simp
          refine hK.out _ _ ⟨by kernel_rfl, ?_⟩
          clear hK K
          gi_wp2
          exact ⟨(keepsFrom_of_below hb2).trans (keepsFrom_ge (hK2 _ _ hk3) (by omega)), fun v hv => by rw [HbN.out.cell] at hv; cases hv; exact (boxed_kept hK1 hk3 (boxed_below HbN.out hb2) (hKd2 _ (by omega))).cell,
            ⟨⟨_, hxs2.out _, hJ3⟩, boxed_kept hK1 hk3 (boxed_below HbY.out hb2) (hKd2 _ (by omega)), boxed_kept hK1 hk3 (boxed_below HbN.out hb2) (hKd2 _ (by omega)), hK1 _ _ hk3 _ _ _ _ (HTA.out.below hb2) hKd1⟩⟩
        · refine hK.out _ _ ?_
          clear hK K
          refine wpAnyIn_only (i := 4) (by kernel_rfl) rfl (by rfl) (fun K hK => ?_)
          go_simp
          refine hK.out _ _ ⟨by kernel_rfl, ?_⟩
          clear hK K
          gi_wp2
          exact ⟨(keepsFrom_of_below hb2).trans (keepsFrom_ge (hK2 _ _ hk3) (by omega)), fun v hv => by rw [HbN.out.cell] at hv; cases hv; exact (boxed_kept hK1 hk3 (boxed_below HbN.out hb2) (hKd2 _ (by omega))).cell, rfl, _, hxs2.out _, hJ3⟩
  case done =>
    rintro D ys A hD ⟨k, hk, hys⟩ ⟨⟨xs, hxs, hj⟩, _, _, _⟩ hKD
    gi_wp2
    refine ⟨by simp, .inl ⟨_, _, rfl, run_takeDeferred hKD, ?_⟩⟩
    exact ⟨_, results_none rfl _ _ _, ⟨_, rfl⟩, .inl ⟨xs, ⟨k, hk, hxs.trans hys⟩, OwnFrom.putObj (OwnFrom.mono hJ (by omega : W.heap.size ≤ w3.heap.size)) _ hj hD hKD rfl⟩⟩
  case stop =>
    rintro D c pre A hD ⟨k, hk⟩ ⟨rfl, xs, hxs, hj⟩ hKD
    gi_wp2
    refine ⟨by simp, .inl ⟨_, _, rfl, run_takeDeferred hKD, ?_⟩⟩
    exact ⟨_, results_none rfl _ _ _, ⟨_, rfl⟩, .inr ⟨xs, ⟨k, hxs.trans hk⟩, OwnFrom.putObj (OwnFrom.mono hJx (by omega : W.heap.size ≤ w3.heap.size)) _ hj hD hKD rfl⟩⟩

end Go.Proofs.Ytifjkkfienmdjaa.Ch
