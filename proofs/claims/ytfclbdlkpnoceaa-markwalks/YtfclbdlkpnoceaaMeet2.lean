/-
  What is met of the ids that an iterator tells.
-/
import Derived.Test.YtfclbdlkpnoceaaMeet
namespace Go.Proofs.Ytfclbdlkpnoceaa
open Go.RowKit Go.Shelf Go.Maps
attribute [local go_sem] Oper.semAt_some

theorem wpIn_scope_wide {P : Program} {Q : Exit → Act → World → Prop} {m : Nat} {c : Code} {a : Act} {w : World} (h : c.wpIn Fence.wide m P (Exit.noGoto Q) a w) : (Code.scope c).wpIn Fence.wide m P Q a w := wpIn_wide.2 (wp_scope_straight (wpIn_wide.1 h))
theorem metF_look (met : List (List Nat)) (x : List Nat) : (Value.tuple #[(metF met (idV x)).getD (.agg #[]), .bool (metF met (idV x)).isSome]) = .tuple #[.agg #[], .bool (decide (x ∈ met))] := by
  rw [metF_isSome]
  have : (metF met (idV x)).getD (.agg #[]) = .agg #[] := by rw [metF_at]; split <;> rfl
  rw [this]
def MeetPost (w : World) (Mm : Nat) (l : List O) (met xs : List (List Nat)) (e : Ending) (w' : World) : Prop :=
  ∃ v, e = .returned v ∧ OwnIds w.heap.size w' v (meetL l met xs) ∧ MapAt Try.prog 33 w' Mm (metF (met ++ meetL l met xs)) ∧ Buts [Mm] w.heap.size w w'
/-- What the rounds of meet keep. -/
def MtP (Z Mm : Nat) (k : Nat) (o : Obj) : Prop := k < Z ∧ (o.isCells = true ∨ k ≠ Mm)
/-- A meeting under way. -/
def MtI (Z Lm Mm S : Nat) (w : World) (l : List O) (met : List (List Nat)) (pre : List (List Nat)) (A : World) : Prop :=
  (∃ v, Boxed A (Z + 1) 23 v ∧ A.ownsRow Z 33 32 v (meetL l met pre).length (u8s (meetL l met pre).flatten) ∧ True) ∧ (MapAt Try.prog 33 A Mm (metF (met ++ meetL l met pre)) ∧ MapAt Try.prog 33 A Lm (linkF l) ∧ Row A Z 75 [.map (some Lm), .map (some Mm)] ∧ Buts [Mm] Z w A ∧ S ≤ A.heap.size)

open Classical in
set_option maxRecDepth 100000 in
set_option maxHeartbeats 4000000 in
theorem meet_in (N : Nat) (hN : 6 ≤ N) (Lm Mm : Nat) (hne : Lm ≠ Mm) (l : List O) (met xs : List (List Nat)) (hxl : xs.length ≤ 100000) (gf : Nat) (lb : Array Value) (w : World)
    (hM : MapAt Try.prog 33 w Mm (metF met)) (hL : MapAt Try.prog 33 w Lm (linkF l)) (eg : ∀ args w, (callFunc gf args).run Try.prog w = .ok (.enter gf args) w)
    (hit : ∀ (lp : Nat) (W : World), W.heap.size = w.heap.size + 4 → Below w.heap.size w W → IterX Fence.wide (N - 1) Try.prog gf lb (fun x : List Nat => #[idV x]) (fun x _ => IsId x) (KpP (MtP w.heap.size Mm)) (fun pre x => ∃ post, xs = pre ++ x :: post) (fun ys => ys = xs) (fun _ => True) lp W) :
    CallsIn Fence.wide N Try.prog 36 #[.agg #[.map (some Lm), .map (some Mm)], .func (.func gf) #[] lb] w (MeetPost w Mm l met xs) := by
  obtain ⟨i0, hi0, hz0, hz1, hz2⟩ := info_parts info33
  have h1 : 1 ≤ N := by omega
  have hfn : ∀ f, Fence.wide.fn f := fun _ => trivial
  refine callsIn_of_wp_marks Try.func36 rfl trivial ?_ rfl
  simp only [Try.ntmps36, List.size_toArray, List.length_cons, List.length_nil, Nat.reduceAdd, Nat.reduceSub, Array.replicate_succ, Array.replicate_zero, List.push_toArray, List.append_toArray, List.nil_append, List.cons_append]
  gi_wp2
  refine wpIn_scope_wide ?_
  gi_wp2
  refine wpIn_label ?_
  gi_wp2
  have hMl := hM.lt
  have hLl := hL.lt
  obtain ⟨w1, hw1⟩ : ∃ w1, w1 = w.alloc (.cells #[.map (some Lm), .map (some Mm)] 75) := ⟨_, rfl⟩
  rw [← hw1]
  have s1 : w1.heap.size = w.heap.size + 1 := by rw [hw1]; simp
  have b1 : Below w.heap.size w w1 := by rw [hw1]; exact (Below.refl _ w).alloc (Nat.le_refl _) _
  have r0 : Row w1 w.heap.size 75 [.map (some Lm), .map (some Mm)] := by rw [hw1]; exact Row.new' w 75 _
  have b2 : Below w1.heap.size w1 (w1.alloc (.cells #[.slice none 0 0] 23)) := (Below.refl _ w1).alloc (Nat.le_refl _) _
  have s2 : (w1.alloc (.cells #[.slice none 0 0] 23)).heap.size = w.heap.size + 2 := by rw [World.size_alloc, s1]
  have bx : Boxed (w1.alloc (.cells #[.slice none 0 0] 23)) (w.heap.size + 1) 23 (.slice none 0 0) := by rw [← s1]; exact Boxed.new w1 23 _
  generalize w1.alloc (.cells #[.slice none 0 0] 23) = w2 at *
  have c02 : Below w.heap.size w w2 := b1.trans (b2.mono (by omega))
  have R0 : Row w2 w.heap.size 75 [.map (some Lm), .map (some Mm)] := r0.below b2 (by omega)
  have M1 : MapAt Try.prog 33 w2 Mm (metF met) := hM.below c02 hMl
  have M2 : MapAt Try.prog 33 w2 Lm (linkF l) := hL.below c02 hLl
  clear hw1 b1 b2 r0 s1 w1 hM hL
  generalize hZ : w.heap.size = Z at *
  have hOwn : OwnFrom w2.heap.size (MtI Z Lm Mm w2.heap.size w l met) := OwnFrom.and (Own.from (holdsRow_own Z (Z + 1) 23 33 32 (fun pre : List (List Nat) => (meetL l met pre).length) (fun pre => u8s (meetL l met pre).flatten) (fun _ _ => True)) _)
      (low_own (fun s A B h hb => ⟨h.1.below hb (by omega), h.2.1.below hb (by omega), h.2.2.1.below hb (by omega), h.2.2.2.1.trans (Buts.of_below hb (by omega)), Nat.le_trans h.2.2.2.2 hb.size⟩) (fun s A h => h.2.2.2.2))
  have HSkip : Hid (∀ pre x A, MtI Z Lm Mm w2.heap.size w l met pre A → ¬ (hasO l x = true ∧ x ∉ met ++ meetL l met pre) → KeepsFrom w2.heap.size A (A.alloc (.cells #[] 58)) ∧ KpP (MtP Z Mm) A (A.alloc (.cells #[] 58)) ∧ MtI Z Lm Mm w2.heap.size w l met (pre ++ [x]) (A.alloc (.cells #[] 58))) := by
    intro pre x A hA hx
    have hb : Below A.heap.size A (A.alloc (.cells #[] 58)) := (Below.refl _ A).alloc (Nat.le_refl _) _
    refine ⟨keepsFrom_of_below hb, KpP.of_below hb, ?_⟩
    have e : meetL l met (pre ++ [x]) = meetL l met pre := by rw [meetL_snoc, meetS, if_neg hx]
    have h := OwnFrom.grow hOwn hA hb
    unfold MtI at h ⊢
    rw [e]
    exact h
  refine wpIn_rangeFunc_okx rfl h1 (gf := gf) (lb := lb) rfl trivial eg
    (encs := fun x : List Nat => #[idV x]) (Ok := fun x _ => IsId x) (Kp := KpP (MtP Z Mm)) (Nx := fun pre x => ∃ post, xs = pre ++ x :: post) (S := fun ys => ys = xs) (Sp := fun _ => True)
    (fun W' hs hb => hit _ W' (by omega) (c02.trans (hb.mono (by omega))))
    KpP.trans (fun A o o' ho hc => KpP.record o' (fun _ h => by have := h.1; omega)) KpP.of_below (fun _ => rfl)
    (fun x A B => Row B A.heap.size 33 (u8s x)) (fun x A B o h hl => TwoRow.put o h hl)
    (MtI Z Lm Mm w2.heap.size w l met)
    (fun _ _ _ => False)
    hOwn
    (fun _ _ _ _ _ h _ _ => h.elim)
    (fun _ _ _ _ h _ _ => h)
    ⟨⟨_, bx, World.ownsRow_nil _ _ _ _, trivial⟩, by rw [meetL_nil, List.append_nil]; exact M1, M2, R0, Buts.of_below c02 (Nat.le_refl _), Nat.le_refl _⟩
    (fun x A => { tmps := #[.agg #[.map (some Lm), .map (some Mm)], .func (.func gf) #[] lb, .pointer (some ⟨Z, 0, none⟩), undef, .slice none 0 0, .pointer (some ⟨Z + 1, 0, none⟩), .pointer (some ⟨A.heap.size, 0, none⟩), undef, undef, undef, undef, .func (.func gf) #[] lb, idV x, undef, undef, undef, undef, undef, undef, undef, undef, undef, undef, undef, undef, undef, undef, undef, undef, undef, undef, undef, undef, undef, undef, undef, undef, undef, undef, undef, undef], defers := [] }) ?assign ?body ?done ?stop
  case assign =>
    intro li x A K hok hK
    have HK : Hid (∀ W', Below A.heap.size A W' → Row W' A.heap.size 33 (u8s x) → K _ W') := hK
    clear hK
    gi_wp2_with ((with_reducible show wpListIn _ _ _ _ _ (Oper.mk _ (Op.store 33 (.tmp 6) (.tmp 12)) _ _ _ _ :: _) _ _); rw [z32u8]; refine wpListIn_storeId rfl (.tmp 6) (.tmp 12) rfl hok rfl rfl (fun A2 hb2 hR2 => ?_); have HR2 : Hid (Row A2 A.heap.size 33 (u8s x)) := hR2; clear hR2; simp only [Act.put])
    exact HK.out A2 hb2 HR2.out
  case body =>
    rintro li pre x A₀ A hA hid hnx hle hr1
    have HR1 : Hid (Row A A₀.heap.size 33 (u8s x)) := hr1
    obtain ⟨⟨v, hv, hrow, _⟩, hMm, hLm, hR0, hB, hsz⟩ := id hA
    have HL : Hid (MapAt Try.prog 33 A Lm (linkF l)) := hLm
    have HM : Hid (MapAt Try.prog 33 A Mm (metF (met ++ meetL l met pre))) := hMm
    have hc0 := hR0.cell (i := 0) rfl
    have hc1 := hR0.cell (i := 1) rfl
    by_cases hh : hasO l x = true
    · obtain ⟨ob, _, _, hlk, _⟩ := linkF_has hh
      have HLk : Hid ((if true = true then Value.tuple #[(linkF l (idV x)).getD (.slice none 0 0), .bool (linkF l (idV x)).isSome] else (linkF l (idV x)).getD (.slice none 0 0)) = .tuple #[.slice ob.q ob.n ob.c, .bool true]) := by show _ = _; rw [hlk]; rfl
      by_cases hn : x ∈ met ++ meetL l met pre
      · have HMk : Hid ((if true = true then Value.tuple #[(metF (met ++ meetL l met pre) (idV x)).getD (.agg #[]), .bool (metF (met ++ meetL l met pre) (idV x)).isSome] else (metF (met ++ meetL l met pre) (idV x)).getD (.agg #[])) = .tuple #[.agg #[], .bool true]) := by show _ = _; rw [if_pos rfl, metF_look]; simp only [hn, decide_true]
        have HS := HSkip.out pre x A hA (fun h => h.2 hn)
        clear hlk hv hrow hMm hLm hR0 hB hr1 hA hnx hn
        gi_wp2_with (first
          | ((with_reducible show wpListIn _ _ _ _ _ (Oper.mk _ (Op.load 33 (.tmp 6)) _ _ _ _ :: _) _ _); refine wpListIn_loadId rfl (.tmp 6) rfl rfl hid HR1.out.range ?_; simp only [Act.put, List.setIfInBounds_toArray, List.set_cons_zero, List.set_cons_succ])
          | ((with_reducible show wpListIn _ _ _ _ _ (Oper.mk _ (Op.lookup 73 _ _ _) _ _ _ _ :: _) _ _); refine wpListIn_look true rfl (.tmp 15) (.tmp 16) 73 23 rfl Try.underlying73 (zero23 _) rfl HL.out rfl hid _ HLk.out ?_; simp only [Act.put, List.setIfInBounds_toArray, List.set_cons_zero, List.set_cons_succ])
          | ((with_reducible show wpListIn _ _ _ _ _ (Oper.mk _ (Op.lookup 57 _ _ _) _ _ _ _ :: _) _ _); refine wpListIn_look true rfl (.tmp 22) (.tmp 23) 57 58 rfl Try.underlying57 (zero58 _) rfl HM.out rfl hid _ HMk.out ?_; simp only [Act.put, List.setIfInBounds_toArray, List.set_cons_zero, List.set_cons_succ]))
        rw [s2] at HS
        exact HS
      · have HMk : Hid ((if true = true then Value.tuple #[(metF (met ++ meetL l met pre) (idV x)).getD (.agg #[]), .bool (metF (met ++ meetL l met pre) (idV x)).isSome] else (metF (met ++ meetL l met pre) (idV x)).getD (.agg #[])) = .tuple #[.agg #[], .bool false]) := by show _ = _; rw [if_pos rfl, metF_look]; simp only [hn, decide_false]
        have HE : Hid (meetL l met (pre ++ [x]) = meetL l met pre ++ [x]) := by show _ = _; rw [meetL_snoc, meetS, if_pos ⟨hh, hn⟩]
        obtain ⟨A1, hA1⟩ : ∃ A1, A.alloc (.cells #[] 58) = A1 := ⟨_, rfl⟩
        have hb1 : Below A.heap.size A A1 := by rw [← hA1]; exact (Below.refl _ A).alloc (Nat.le_refl _) _
        have HA1 : Hid (A.alloc (.cells #[] 58) = A1) := hA1
        have hlr := hr1.lt
        have hc1' : A1.cell? ⟨Z, 1, none⟩ = some (.map (some Mm)) := (hR0.below hb1 hR0.lt).cell (i := 1) rfl
        have HR1' : Hid (Row A1 A₀.heap.size 33 (u8s x)) := hr1.below hb1 hlr
        have HM1 : Hid (MapAt Try.prog 33 A1 Mm (metF (met ++ meetL l met pre))) := hMm.below hb1 hMm.lt
        have hlen : (meetL l met pre).length ≤ 100000 := by
          obtain ⟨post, hpost⟩ := hnx
          have h2 := nodup_le (meetL l met pre) pre (meetL_nodup _ _ _) (fun y hy => (meetL_mem.1 hy).1)
          have h3 := congrArg List.length hpost
          simp at h3
          omega
        have HFin : Hid (∀ A2, MapAt Try.prog 33 A2 Mm (fnPut (metF (met ++ meetL l met pre)) (idV x) (.agg #[])) → But Mm A1.heap.size A1 A2 →
            ∃ q c W5 q5 l5 c5, A2.cell? ⟨Z + 1, 0, none⟩ = some (.slice q (meetL l met pre).length c) ∧ Row A2 A₀.heap.size 33 (u8s x) ∧
              (Builtin.append_ #[23, 23] 23 #[.slice q (meetL l met pre).length c, .slice (some ⟨A2.heap.size, 0, none⟩) 1 1]).run Try.prog (A2.alloc (.cells (u8s x).toArray 33)) = .ok (.slice q5 l5 c5) W5 ∧ Boxed W5 (Z + 1) 23 (.slice q (meetL l met pre).length c) ∧
              KeepsFrom w2.heap.size A (W5.setCell ⟨Z + 1, 0, none⟩ (.slice q5 l5 c5)) ∧ KpP (MtP Z Mm) A (W5.setCell ⟨Z + 1, 0, none⟩ (.slice q5 l5 c5)) ∧ MtI Z Lm Mm w2.heap.size w l met (pre ++ [x]) (W5.setCell ⟨Z + 1, 0, none⟩ (.slice q5 l5 c5))) := by
          intro A2 hm2 hbt
          obtain ⟨q, c, rfl⟩ := slice_of_row hrow
          have hv1 : Boxed A1 (Z + 1) 23 (.slice q (meetL l met pre).length c) := boxed_below hv hb1
          have hv2 : Boxed A2 (Z + 1) 23 (.slice q (meetL l met pre).length c) := (hbt.block _ (hv1.lt) (by omega)).trans hv1
          have hrow1 : OwnIds Z A1 (.slice q (meetL l met pre).length c) (meetL l met pre) := OwnIds.later hb1 hrow
          have hrow2 : OwnIds Z A2 (.slice q (meetL l met pre).length c) (meetL l met pre) := hrow1.but hbt hMl
          have hr2 : Row A2 A₀.heap.size 33 (u8s x) := hbt.row (by have := hb1.size; omega) (by omega) HR1'.out
          have hs2 : w2.heap.size ≤ A2.heap.size := Nat.le_trans hsz (Nat.le_trans hb1.size hbt.size)
          obtain ⟨W4, hW4⟩ : ∃ W4, A2.alloc (.cells (u8s x).toArray 33) = W4 := ⟨_, rfl⟩
          have hr4 : W4.ownsRow Z 33 32 (.slice q (meetL l met pre).length c) (meetL l met pre).length (u8s (meetL l met pre).flatten) := by rw [← hW4]; exact World.ownsRow.alloc hrow2 _
          have hrg4 : W4.rangeAt A2.heap.size 0 (u8s x) := by rw [← hW4]; exact (Row.new' A2 33 (u8s x)).range
          have hs4 : W4.heap.size = A2.heap.size + 1 := by rw [← hW4]; exact World.size_alloc _ _
          obtain ⟨u5, W5, hrun, ho5, hg5, _, _⟩ := run_append_own_at (P := Try.prog) W4 Z 23 23 33 i0 _ 32 32 Try.underlying23 hi0 hz0 hz1 hz2 (by simp [Value.cells]) (by omega) (.slice q (meetL l met pre).length c) (meetL l met pre).length (u8s (meetL l met pre).flatten) hr4 ⟨A2.heap.size, 0, none⟩ 1 1 (u8s x) (by simp [hid.1]) (fun j u hu => by rw [Addr.add_mid]; exact hrg4 j u hu) (u8s_one _) (by simp only [maxLen]; omega) (by omega) (by omega)
          obtain ⟨q5, l5, c5, rfl⟩ : ∃ q l c, u5 = Value.slice q l c := by obtain ⟨q, c, e⟩ := slice_of_row ho5; exact ⟨q, _, c, e⟩
          have hg5' : (A2.alloc (.cells (u8s x).toArray 33)).grownBy W5 (Value.slice q (meetL l met pre).length c).ownBlock := by rw [hW4]; exact hg5
          obtain ⟨hv5, hv6, hr6, hk6, hb6⟩ := hv2.appended (by decide) hrow2 (by omega) (Nat.le_succ _) ho5 hg5'
          refine ⟨q, c, W5, q5, l5, c5, hv2.cell, hr2, by rw [hW4]; exact hrun, hv5, ?_, ?_, ?_⟩
          · exact ((keepsFrom_of_below hb1).trans (keepsFrom_but hbt (by omega) (Nat.le_refl _))).trans ⟨hk6.size, fun k o _ h1 h2 => hk6.same k o h1 h2⟩
          · refine ((KpP.of_below hb1).trans (kpp_but hbt (fun k o hp ho => ?_) (Nat.le_refl _))).trans (fun k o hp ho => (hb6.block k hp.1).trans ho)
            rcases hp.2 with h | h
            · rintro rfl
              obtain ⟨es, cl, hes, _⟩ := HM1.out
              rw [ho] at hes
              cases hes
              cases h
            · exact h
          · have em : metF (met ++ meetL l met (pre ++ [x])) = fnPut (metF (met ++ meetL l met pre)) (idV x) (.agg #[]) := by rw [HE.out, metF_snoc, List.append_assoc]
            unfold MtI
            rw [em, HE.out]
            refine ⟨⟨_, hv6, ?_, trivial⟩, hm2.below hb6 hMl, ?_, ?_, ?_, Nat.le_trans hs2 hb6.size⟩
            · rw [List.flatten_append, List.length_append, ← u8s_append]
              simpa using hr6
            · exact ((hLm.below hb1 hLm.lt).but hbt (by have := hb1.size; have := hLm.lt; omega) hne).below hb6 hLl
            · have hz2 : Row A2 Z 75 [.map (some Lm), .map (some Mm)] := hbt.row (by have := hb1.size; omega) (by omega) (hR0.below hb1 hR0.lt)
              have hz4 : Row W4 Z 75 [.map (some Lm), .map (some Mm)] := by rw [← hW4]; exact hz2.alloc _
              have hz5 : Row W5 Z 75 [.map (some Lm), .map (some Mm)] := (hg5.block Z hz4.lt (fun e => by
                obtain ⟨c', fr', h'⟩ := row_tag hr4 Z e.symm
                have h4 : W4.heap[Z]? = some (.cells _ 75 _) := hz4
                rw [h'] at h4
                cases h4)).trans hz4
              exact Row.others (by omega) [.slice q5 l5 c5] 0 hz5
            · exact ((hB.trans (Buts.of_below hb1 (by omega))).trans (Buts.of_but hbt (by simp) (by have := hb1.size; omega))).trans (Buts.of_below hb6 (Nat.le_refl _))
        clear hlk hv hrow hMm hLm hR0 hB hr1 hA hnx hn HE
        generalize (meetL l met pre).length = mlen at *
        gi_wp2_with (first
          | ((with_reducible show wpListIn _ _ _ _ _ (Oper.mk (some 16) (Op.load 33 (.tmp 6)) _ _ _ _ :: _) _ _); refine wpListIn_loadId rfl (.tmp 6) rfl rfl hid HR1.out.range ?_; simp only [Act.put, List.setIfInBounds_toArray, List.set_cons_zero, List.set_cons_succ])
          | ((with_reducible show wpListIn _ _ _ _ _ (Oper.mk (some 23) (Op.load 33 (.tmp 6)) _ _ _ _ :: _) _ _); refine wpListIn_loadId rfl (.tmp 6) rfl rfl hid HR1.out.range ?_; simp only [Act.put, List.setIfInBounds_toArray, List.set_cons_zero, List.set_cons_succ])
          | ((with_reducible show wpListIn _ _ _ _ _ (Oper.mk _ (Op.lookup 73 _ _ _) _ _ _ _ :: _) _ _); refine wpListIn_look true rfl (.tmp 15) (.tmp 16) 73 23 rfl Try.underlying73 (zero23 _) rfl HL.out rfl hid _ HLk.out ?_; simp only [Act.put, List.setIfInBounds_toArray, List.set_cons_zero, List.set_cons_succ])
          | ((with_reducible show wpListIn _ _ _ _ _ (Oper.mk _ (Op.lookup 57 _ _ _) _ _ _ _ :: _) _ _); refine wpListIn_look true rfl (.tmp 22) (.tmp 23) 57 58 rfl Try.underlying57 (zero58 _) rfl HM.out rfl hid _ HMk.out ?_; simp only [Act.put, List.setIfInBounds_toArray, List.set_cons_zero, List.set_cons_succ])
          | ((with_reducible show wpListIn _ _ _ _ _ (Oper.mk (some 34) (Op.load 33 (.tmp 6)) _ _ _ _ :: _) _ _); refine wpListIn_loadId rfl (.tmp 6) rfl rfl hid HR1'.out.range ?_; simp only [Act.put, List.setIfInBounds_toArray, List.set_cons_zero, List.set_cons_succ])
          | ((with_reducible show wpListIn _ _ _ _ _ (Oper.mk _ (Op.mapUpdate 57 _ _ _) _ _ _ _ :: _) _ _); refine wpListIn_mapStore A1.heap.size rfl (.tmp 33) (.tmp 34) (.tmp 35) 57 58 rfl Try.underlying57 rfl HM1.out rfl rfl hid (fun A2 hm2 hbt => ?_); obtain ⟨q, c, W5, q5, l5, c5, hcq, hrq, hrun, hbx5, hF⟩ := HFin.out A2 hm2 hbt; have HR2 : Hid (Row A2 A₀.heap.size 33 (u8s x)) := hrq; have HRun : Hid ((Builtin.append_ #[23, 23] 23 #[.slice q mlen c, .slice (some ⟨A2.heap.size, 0, none⟩) 1 1]).run Try.prog (A2.alloc (.cells (u8s x).toArray 33)) = .ok (.slice q5 l5 c5) W5) := hrun; have HF := (show Hid _ from hF); have hcv5 := hbx5.cell; have hfv5 := hbx5.frozen; clear hrq hrun hF hbx5 hm2 hbt; simp only [Act.put])
          | ((with_reducible show wpListIn _ _ _ _ _ (Oper.mk (some 37) (Op.load 33 (.tmp 6)) _ _ _ _ :: _) _ _); refine wpListIn_loadId rfl (.tmp 6) rfl rfl hid HR2.out.range ?_; simp only [Act.put, List.setIfInBounds_toArray, List.set_cons_zero, List.set_cons_succ])
          | ((with_reducible show wpListIn _ _ _ _ _ (Oper.mk (some 38) _ _ _ _ _ :: _) _ _); refine wpListIn_oper rfl (by intro c hc; cases hc) (fun K hK => wp_buildOne 23 33 (.tmp 37) rfl (u8s x) rfl i0 _ Try.underlying23 hi0 hz0 (by rw [hz1, id_len hid]) (by rw [id_len hid]; omega) (by rw [id_len hid]; omega) (hK _ _ ?_)); simp only [Act.put, List.setIfInBounds_toArray, List.set_cons_zero, List.set_cons_succ])
          | ((with_reducible show wpListIn _ _ _ _ _ (Oper.mk (some 39) _ _ _ _ _ :: _) _ _); refine wpListIn_oper rfl (by intro c hc; cases hc) (fun K hK => wp_append_of (.tmp 36) (.tmp 38) 23 rfl rfl rfl HRun.out (hK _ _ ?_)); simp only [Act.put, List.setIfInBounds_toArray, List.set_cons_zero, List.set_cons_succ]))
        have HF2 := HF.out
        rw [s2] at HF2
        exact HF2
    · have hf : hasO l x = false := by simpa using hh
      have HS := HSkip.out pre x A hA (fun h => hh h.1)
      have HLk : Hid ((if true = true then Value.tuple #[(linkF l (idV x)).getD (.slice none 0 0), .bool (linkF l (idV x)).isSome] else (linkF l (idV x)).getD (.slice none 0 0)) = .tuple #[.slice none 0 0, .bool false]) := by show _ = _; rw [linkF_none hf]; rfl
      clear hv hrow hMm hLm hR0 hB hr1 hA hnx
      gi_wp2_with (first
        | ((with_reducible show wpListIn _ _ _ _ _ (Oper.mk _ (Op.load 33 (.tmp 6)) _ _ _ _ :: _) _ _); refine wpListIn_loadId rfl (.tmp 6) rfl rfl hid HR1.out.range ?_; simp only [Act.put, List.setIfInBounds_toArray, List.set_cons_zero, List.set_cons_succ])
        | ((with_reducible show wpListIn _ _ _ _ _ (Oper.mk _ (Op.lookup 73 _ _ _) _ _ _ _ :: _) _ _); refine wpListIn_look true rfl (.tmp 15) (.tmp 16) 73 23 rfl Try.underlying73 (zero23 _) rfl HL.out rfl hid _ HLk.out ?_; simp only [Act.put, List.setIfInBounds_toArray, List.set_cons_zero, List.set_cons_succ])
        | ((with_reducible show wpListIn _ _ _ _ _ (Oper.mk _ (Op.lookup 57 _ _ _) _ _ _ _ :: _) _ _); refine wpListIn_look true rfl (.tmp 22) (.tmp 23) 57 58 rfl Try.underlying57 (zero58 _) rfl HM.out rfl hid _ (metF_look _ _) ?_; simp only [Act.put, List.setIfInBounds_toArray, List.set_cons_zero, List.set_cons_succ]))
      rw [s2] at HS
      exact HS
  case done =>
    rintro D ys A hD rfl ⟨⟨v, hv, hrow, _⟩, hMm, hLm, hR0, hB, hsz⟩ hKD
    obtain ⟨q, c, rfl⟩ := slice_of_row hrow
    have hcU := hv.cell
    have HRow : Hid (OwnIds Z A (.slice q (meetL l met ys).length c) (meetL l met ys)) := hrow
    clear hrow
    gi_wp2
    rw [Exit.noGoto_ret]
    refine ⟨by simp, .inl ⟨_, _, rfl, run_takeDeferred hKD, ?_⟩⟩
    refine ⟨_, results_tmp rfl _ _ _, _, rfl, ?_, hMm.kept (World.putObj_heap_other (by omega)), ?_⟩
    · rw [hZ]; exact ownsRow_putObj HRow.out (.deferred none) hKD rfl
    · rw [hZ]; exact hB.trans (Buts.of_below (below_putObj _ _ (by omega : Z ≤ D)) (Nat.le_refl _))
  case stop => exact fun _ _ _ _ _ _ h => h.elim
end Go.Proofs.Ytfclbdlkpnoceaa
