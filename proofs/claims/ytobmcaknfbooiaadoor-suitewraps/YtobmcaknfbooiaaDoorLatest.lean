/-
  latest: all for which these bytes were answered, the last one first.
-/
import Derived.Test.YtobmcaknfbooiaaDoorBack
import Derived.Test.YtobmcaknfbooiaaDoorIdeal
namespace Go.Proofs.YtobmcaknfbooiaaDoor
open Go.RowKit Go.Shelf
attribute [local go_sem] Oper.semAt_some

set_option maxRecDepth 100000 in
set_option maxHeartbeats 2000000 in
/-- The function value that latest hands back. -/
theorem latest1_iter (nn : Nat) (hnn : 4 ≤ nn) (l bd bc D m4 : Nat) (x0 x1 x2 x3 : Value) (pc : Option Addr) (lc cc : Nat) (zc : List Nat) (g : Value → Option Value) (L : ByteArray → List (List Value)) (F : List Nat) (K : Nat) (hz : (strOf zc).size ≤ maxLen) (hKb : K ≤ 1000) (W : World)
    (hbd : Row W bd 51 [.pointer (some ⟨D, 0, none⟩)]) (hbc : Row W bc 25 [.slice pc lc cc]) (hD : Row W D 70 [x0, x1, x2, x3, .map (some m4)]) (hI : IsBytes W.heap.size W pc lc cc zc) (hA : AskedRel W F m4 g L K) (hF : ∀ b ∈ F, b < W.heap.size)
    (M : Nat → Prop) (Kp : World → World → Prop) (hK1 : ∀ A B, Kp A B → ∀ (k : Nat) (c : Array Value) (t : TypeId) (fr : Nat × Nat), ¬ M k → A.heap[k]? = some (Obj.cells c t fr) → B.heap[k]? = some (Obj.cells c t fr)) (hK2 : ∀ A B, Kp A B → KeepsFrom W.heap.size A B)
    (hM : ∀ k, W.heap.size ≤ k → ¬ M k) (hMF : ∀ b ∈ F, ¬ M b) :
    IterSoft Fence.wide nn Tryd.prog 62 #[.pointer (some ⟨bd, 0, none⟩), .pointer (some ⟨bc, 0, none⟩)] (fun i : Nat => #[.agg ((L (strOf zc)).getD i []).toArray]) (fun i _ => i < (L (strOf zc)).length) Kp (fun ys => ys = (List.range (L (strOf zc)).length).reverse) (fun pre => ∃ r, pre ++ r = (List.range (L (strOf zc)).length).reverse) (L (strOf zc)).length l W := by
  intro J Jx hJ hJx hY h0
  have hfn : ∀ f, Fence.wide.fn f := fun _ => trivial
  obtain ⟨q, cap, hv, hown, hob⟩ := hA.list (strOf zc)
  obtain ⟨hxa, hxl⟩ := hA.all (strOf zc)
  obtain ⟨xs, hxs⟩ : ∃ xs, L (strOf zc) = xs := ⟨_, rfl⟩
  rw [hxs] at hv hown hob hxa hxl hY ⊢
  obtain ⟨s, hs⟩ : ∃ s, strOf zc = s := ⟨_, rfl⟩
  rw [hs] at hv hz hob
  obtain ⟨w1, hw1⟩ : ∃ w1, W.alloc (.cells #[.func (.yield l) #[] #[]] 109) = w1 := ⟨_, rfl⟩
  have hb1 : Below W.heap.size W w1 := by rw [← hw1]; exact (Below.refl _ W).alloc (Nat.le_refl _) _
  have hs1 : w1.heap.size = W.heap.size + 1 := by rw [← hw1]; simp
  have HY1 : Hid (Row w1 W.heap.size 109 [.func (.yield l) #[] #[]]) := by rw [← hw1]; exact Row.new W 109 #[.func (.yield l) #[] #[]]
  have HW1 : Hid (W.alloc (.cells #[.func (.yield l) #[] #[]] 109) = w1) := hw1
  obtain ⟨kl, hkey⟩ : ∃ kl, keyOf Tryd.prog 9 (.string s) = some kl := ⟨_, WideMaps.keyOf_string_mk Tryd.underlying9 hz⟩
  have HS : ∀ w, Below W.heap.size W w → w.cell? ⟨bd, 0, none⟩ = some (.pointer (some ⟨D, 0, none⟩)) ∧ w.cell? ⟨bc, 0, none⟩ = some (.slice pc lc cc) ∧ w.cell? ⟨D, 4, none⟩ = some (.map (some m4)) ∧ (convert 25 9 (.slice pc lc cc)).run Tryd.prog w = .ok (.string s) w ∧ (Instr.lookup 68 (.map (some m4)) (.string s) false).run Tryd.prog w = .ok (.slice q xs.length cap) w := fun w hw => by
    refine ⟨(hbd.later hw).cell (i := 0) rfl, (hbc.later hw).cell (i := 0) rfl, (hD.later hw).cell (i := 4) rfl, ?_, ?_⟩
    · have h := str_of_bytes hI w hw
      rw [hs] at h
      exact h
    · have hlook := (hA.map.below hw (hF _ hA.mem)).look false keyedStr Tryd.underlying68 (zero101 _) hkey
      simp only [Bool.false_eq_true, if_false] at hlook
      rw [hv] at hlook
      exact hlook
  obtain ⟨n, hn⟩ : ∃ n, xs.length = n := ⟨_, rfl⟩
  have HN : Hid (xs.length = n) := hn
  have HOWN : Hid (∀ w, Below W.heap.size W w → AskOwn w (.slice q n cap) xs) := fun w hw => by rw [← hn]; exact hown.keep (fun b hb => hw.block b (hF b (hob b hb).1))
  have HMQ : Hid (∀ b, (Value.slice q n cap).ownBlock = some b → ¬ M b) := fun b hb => hMF b (hob b (by rw [hn]; exact hb)).1
  have HXA : Hid (AskedAll xs) := hxa
  have HJ : Hid (Soft W.heap.size J) := hJ
  have HJx : Hid (Soft W.heap.size Jx) := hJx
  have HJ0 : Hid (J [] w1) := hJ.1 _ _ _ h0 hb1
  rw [hn] at HS hxl hY ⊢
  have HSS : Hid (∀ w, Below W.heap.size W w → w.cell? ⟨bd, 0, none⟩ = some (.pointer (some ⟨D, 0, none⟩)) ∧ w.cell? ⟨bc, 0, none⟩ = some (.slice pc lc cc) ∧ w.cell? ⟨D, 4, none⟩ = some (.map (some m4)) ∧ (convert 25 9 (.slice pc lc cc)).run Tryd.prog w = .ok (.string s) w ∧ (Instr.lookup 68 (.map (some m4)) (.string s) false).run Tryd.prog w = .ok (.slice q n cap) w) := HS
  clear HS
  clear hw1 hown hob hxa hJ hJx h0 hbd hbc hD hI hA hv
  refine callsIn_of_wp_marks Tryd.func62 rfl trivial ?_ rfl
  simp only [Tryd.ntmps62, List.size_toArray, List.length_cons, List.length_nil, Nat.reduceAdd, Nat.reduceSub, Array.replicate_succ, Array.replicate_zero, List.push_toArray, List.append_toArray, List.nil_append, List.cons_append]
  gi_wp2
  rw [HW1.out]
  refine wpIn_region_on_wide (S := fun W' => W'.cell? ⟨bd, 0, none⟩ = some (.pointer (some ⟨D, 0, none⟩)) ∧ W'.cell? ⟨bc, 0, none⟩ = some (.slice pc lc cc) ∧ W'.cell? ⟨D, 4, none⟩ = some (.map (some m4)) ∧ (convert 25 9 (.slice pc lc cc)).run Tryd.prog W' = .ok (.string s) W' ∧ (Instr.lookup 68 (.map (some m4)) (.string s) false).run Tryd.prog W' = .ok (.slice q n cap) W') (by kernel_rfl) (by kernel_rfl) (HSS.out _ (below_drewN hb1 1)) (fun hHeld => ?_)
  refine wpAnyH_takesAt 0 7 1 (of_decide_eq_true (by kernel_rfl)) rfl (fun _ _ _ _ _ h => h) (by kernel_rfl) (by kernel_rfl) hHeld ?_
  simp only [List.drop_zero, List.take_succ_cons, List.take_zero]
  iterate 7 (refine wpHeld_step (v := ?_) (by rfl) (fun wz hSw => ?_) ?_; rotate_left; (focus ((try dsimp only at hSw); go_simp; try with_reducible rfl)); (simp only [Act.put, List.setIfInBounds_toArray, List.set_cons_zero, List.set_cons_succ]))
  refine wpHeld_nil ?_
  refine wpAnyH_only (i := 7) (by kernel_rfl) rfl (fun K hK => ?_)
  rw [if_pos (by rfl)]
  go_simp
  refine (back_any q n cap _).mono ?_
  rintro e w2 ⟨rfl, hw2⟩
  have hb2 : Below W.heap.size W w2 := by rw [hw2]; exact (below_drewN hb1 1).alloc (by show _ ≤ w1.heap.size; omega) _
  have hs2 : w2.heap.size = W.heap.size + 1 + 1 := by rw [hw2, World.size_alloc]; show w1.heap.size + 1 = _; omega
  have HB2 : Hid (Row w2 (W.heap.size + 1) 101 [.slice q n cap]) := by rw [hw2]; exact Row.newAt _ 101 #[.slice q n cap] (show w1.heap.size = _ from hs1)
  have HY2 : Hid (Row w2 W.heap.size 109 [.func (.yield l) #[] #[]]) := by rw [hw2]; exact Row.alloc (Row.drew HY1.out) _
  have HJ2 : Hid (J [] w2) := HJ.out.1 _ _ _ HJ0.out (by rw [hw2]; exact (below_drewN (Below.refl _ w1) 1).alloc (Nat.le_refl _) _)
  have hsd : w1.drew.heap.size = W.heap.size + 1 := hs1
  rw [hsd]
  refine hK.out _ _ (HSS.out _ hb2) ?_
  clear hK K hw2 hHeld
  refine wpAnyH_done (by kernel_rfl) ?_ _
  refine OnOnly.on ?_
  have h1 : 1 ≤ nn := by omega
  gi_wp2
  have HBK : Hid (∀ W', W'.heap.size = w2.heap.size + 2 → Below w2.heap.size w2 W' → IterSoft Fence.wide (nn - 1) Tryd.prog 75 #[.pointer (some ⟨W.heap.size + 1, 0, none⟩)] (fun i : Nat => #[.int .i64 (i : Nat), .agg (xs.getD i []).toArray]) (fun i _ => i < n) (KpM M (w2.heap.size + 2)) (fun ys => ys = (List.range n).reverse) (fun pre => ∃ r, pre ++ r = (List.range n).reverse) n (w2.heap.size + 1) W') := fun W' hs hb => by
    rw [← HN.out]
    exact back1_iter (nn - 1) (by omega) _ (W.heap.size + 1) q cap xs HXA.out (by rw [HN.out]; omega) W' (by rw [HN.out]; exact Row.later HB2.out hb) (by rw [HN.out]; exact HOWN.out _ (hb2.trans (hb.mono hb2.size))) M _ (fun _ _ h => h.1) (hM _ (by omega)) (by rw [HN.out]; exact HMQ.out)
  have HL34 : Hid (∀ j, j < n → (xs.getD j []).length = 34 ∧ ∀ v ∈ xs.getD j [], v.oneCell' = true) := fun j hj => by
    have hjl : j < xs.length := by rw [HN.out]; exact hj
    have hm : xs.getD j [] ∈ xs := by
      have : xs.getD j [] = xs[j] := by simp [List.getElem?_eq_getElem hjl]
      rw [this]; exact List.getElem_mem _
    obtain ⟨k, ad, p, hk⟩ := HXA.out _ hm
    exact ⟨hk.len, asked_one hk⟩
  refine wpIn_rangeFunc_soft rfl h1 (gf := 75) (lb := #[.pointer (some ⟨W.heap.size + 1, 0, none⟩)]) rfl trivial (enters_of Tryd.func75 (by kernel_rfl) rfl)
    (encs := fun i : Nat => #[.int .i64 (i : Nat), .agg (xs.getD i []).toArray]) (Ok := fun i _ => i < n) (Kp := KpM M (w2.heap.size + 2)) (S := fun ys => ys = (List.range n).reverse) (Sp := fun pre => ∃ r, pre ++ r = (List.range n).reverse) (N := n)
    HBK.out KpM.trans (fun A o o' ho hc => KpM.record (by omega) o' ho hc) KpM.of_below (fun _ => rfl) 72 (fun i => xs.getD i [])
    (fun pre A => J pre A ∧ Row A W.heap.size 109 [.func (.yield l) #[] #[]])
    (fun c pre A => c = .ret ∧ Jx pre A)
    (Soft.and (HJ.out.mono (by omega)) (soft_row _ _ _))
    (fun c => ⟨fun s A B h hb => ⟨h.1, HJx.out.1 _ _ _ h.2 hb⟩, fun s A l o o' h hl ho hc => ⟨h.1, HJx.out.2 _ _ _ _ _ h.2 (by omega) ho hc⟩⟩)
    (fun _ _ _ h _ => h)
    ⟨HJ2.out, HY2.out⟩
    (fun x A => { tmps := #[.func (.yield l) #[] #[], .pointer (some ⟨bd, 0, none⟩), .pointer (some ⟨bc, 0, none⟩), .pointer (some ⟨W.heap.size, 0, none⟩), undef, .pointer (some ⟨A.heap.size, 0, none⟩), .pointer (some ⟨D, 0, none⟩), .pointer (some ⟨D, 0, none⟩), .pointer (some ⟨D, 4, none⟩), .map (some m4), .slice pc lc cc, .string s, .slice q n cap,
      .func (.func 75) #[] #[.pointer (some ⟨W.heap.size + 1, 0, none⟩)], .int .i64 (x : Nat), .agg (xs.getD x []).toArray, undef, undef, undef, undef], defers := [] }) ?assign ?body ?done ?stop
  case assign =>
    intro li x A K hok hK
    have HXL : Hid ((xs.getD x []).length = 34) := (HL34.out x hok).1
    have HX1 : Hid (∀ v ∈ xs.getD x [], v.oneCell' = true) := (HL34.out x hok).2
    have HK : Hid (∀ W', Below A.heap.size A W' → Row W' A.heap.size 72 (xs.getD x []) → K _ W') := hK
    clear hK
    generalize xs.getD x [] = V at *
    gi_wp2_with ((with_reducible show wpListIn _ _ _ _ _ (Oper.mk _ (Op.store 72 (.tmp 5) (.tmp 15)) _ _ _ _ :: _) _ _); change wpListIn _ _ _ _ _ _ _ (A.alloc (.cells noAsked.toArray 72)); refine wpListIn_store_Row rfl 72 (.tmp 5) (.tmp 15) rfl V rfl rfl (Row.new _ _ _) (by rw [HXL.out]; exact size72) (by rw [HXL.out]; rfl) HX1.out ?_; simp only [Act.put])
    exact HK.out _ (below_setCells (Nat.le_refl _) _ _ ((Below.refl _ A).alloc (Nat.le_refl _) _)) (Row.sets_all (Row.new _ _ _) (by rw [HXL.out]; rfl))
  case body =>
    rintro li pre x A₀ A ⟨hJA, hrY⟩ hok hN hle hrow
    have hyc := hrY.cell (i := 0) rfl
    obtain ⟨fn, tmps, assign, body, hy, hR⟩ := hY pre x A hJA hok hN
    have HXL : Hid ((Tryd.prog.info? 72).map (·.size) = some (xs.getD x []).length) := by show _ = _; rw [(HL34.out x hok).1]; exact size72
    have HRow : Hid (Row A A₀.heap.size 72 (xs.getD x [])) := hrow
    have HRY : Hid (Row A W.heap.size 109 [.func (.yield l) #[] #[]]) := hrY
    clear hrow hrY
    generalize xs.getD x [] = V at *
    gi_wp2_with ((with_reducible show wpListIn _ _ _ _ _ (Oper.mk _ (Op.load 72 (.tmp 5)) _ _ _ _ :: _) _ _); refine wpListIn_load_midS rfl 72 (.tmp 5) rfl rfl HRow.out.range Tryd.underlying72 rfl HXL.out ?_; simp only [Act.put, List.setIfInBounds_toArray, List.set_cons_zero, List.set_cons_succ])
    refine ⟨fun _ => by omega, RoundIn.mono (show RoundIn (Fence.wide.inRound li) _ _ _ _ _ _ _ _ _ from ⟨hR.1, fun c cs _ => hR.2 c cs (room_wide _)⟩) ?_⟩
    rintro e A3 (⟨rfl, hJ3, hk3⟩ | ⟨rfl, hJ3, hk3⟩)
    · have kY : Hid (Row A3 W.heap.size 109 [.func (.yield l) #[] #[]]) := hK1 _ _ hk3 _ _ _ _ (hM _ (Nat.le_refl _)) HRY.out
      gi_wp2
      exact ⟨keepsFrom_ge (hK2 _ _ hk3) (by omega), ⟨hK1 _ _ hk3, keepsFrom_ge (hK2 _ _ hk3) (by omega)⟩, hJ3, kY.out⟩
    · gi_wp2
      exact ⟨keepsFrom_ge (hK2 _ _ hk3) (by omega), ⟨hK1 _ _ hk3, keepsFrom_ge (hK2 _ _ hk3) (by omega)⟩, rfl, hJ3⟩
  case done =>
    rintro E xs' A hE hS ⟨hJA, hrY⟩ hKD
    gi_wp2
    refine ⟨by simp, .inl ⟨_, _, rfl, run_takeDeferred hKD, ?_⟩⟩
    exact ⟨_, results_none rfl _ _ _, ⟨_, rfl⟩, .inl ⟨_, hS, HJ.out.2 _ _ _ _ _ hJA (by omega) hKD rfl⟩⟩
  case stop =>
    rintro E c pre A hE hr ⟨rfl, hJA⟩ hKD
    gi_wp2
    refine ⟨by simp, .inl ⟨_, _, rfl, run_takeDeferred hKD, ?_⟩⟩
    exact ⟨_, results_none rfl _ _ _, ⟨_, rfl⟩, .inr ⟨_, hr, HJx.out.2 _ _ _ _ _ hJA (by omega) hKD rfl⟩⟩

end Go.Proofs.YtobmcaknfbooiaaDoor
