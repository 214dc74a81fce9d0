/-
  MarkWalks, walked.
-/
import Derived.Test.YtfclbdlkpnoceaaSmO
import Derived.Test.YtfclbdlkpnoceaaHeldRd
namespace Go.Proofs.Ytfclbdlkpnoceaa
open Go.RowKit Go.Shelf Go.Maps
attribute [local go_sem] Oper.semAt_some

theorem own_num {m n : Nat} {W : World} {v : Value} {ds : List Nat} (h : W.ownsRow m 3 1 v n (nums ds)) (hc : ds.length = n) {i : Nat} (hi : i < n) : ∃ b c, v = .slice (some ⟨b, 0, none⟩) n c ∧ b < W.heap.size ∧ n ≤ c ∧ c ≤ 9223372036854775807 ∧ W.cell? ⟨b, i, none⟩ = some (.int .i64 (ds.getD i 0 : Nat)) := by
  rcases h.2 with ⟨_, hz⟩ | ⟨g, c, cur, e, hg, hgg, hnc, hm, hs, ht⟩
  · omega
  · refine ⟨g, c, e, (Array.getElem?_eq_some_iff.1 hgg).1, hnc, by simpa only [maxLen] using hm, ?_⟩
    have hrow : Row W g 3 cur.toList := by unfold Row; rw [Array.toArray_toList]; exact hgg
    have h1 := hrow.mid ht i 1 (by omega)
    have hil : i < ds.length := by omega
    have h2 : (((nums ds).drop i).take 1)[0]? = some (.int .i64 (ds.getD i 0 : Nat)) := by simp [nums, List.getElem?_eq_getElem hil]
    have h3 := h1 0 _ h2
    rwa [Nat.add_zero] at h3

/-- MarkWalks' loop under way. -/
structure WlI (Z B7 M Zs : Nat) (w : World) (most : Int) (q1 : Option Addr) (n1 c1 : Nat) (q2 : Option Addr) (n2 c2 : Nat) (ids : List (List Nat)) (ds : List Nat) (pre : List (Nat × List Nat)) (A : World) : Prop where
  most : Row A Z 3 [.int .i64 most]
  res : Row A (Z + 1) 4 [.bool false]
  want : Boxed A B7 23 (.slice q1 n1 c1)
  far : Boxed A (B7 + 1) 26 (.slice q2 n2 c2)
  n : Row A (B7 + 2) 3 [.int .i64 (pre.length : Nat)]
  ids : OwnIds Zs A (.slice q1 n1 c1) ids
  ds : OwnNums Zs A (.slice q2 n2 c2) ds
  below : Below Z w A
  size : M ≤ A.heap.size
theorem row_low {M b : Nat} {A B : World} {t : TypeId} {cs : List Value} (h : Row A b t cs) (hb : Below M A B) (hm : b < M) : Row B b t cs := h.below hb hm
theorem own_low {Z M t sz n : Nat} {A B : World} {v : Value} {cs : List Value} (h : A.ownsRow Z t sz v n cs) (hb : Below M A B) (hv : ∀ k, v.ownBlock = some k → k < M) : B.ownsRow Z t sz v n cs := by
  refine ⟨h.1, ?_⟩
  rcases h.2 with h | ⟨g, c, cur, e, hg, hgg, hnc, hm, hsz, ht⟩
  · exact .inl h
  · exact .inr ⟨g, c, cur, e, hg, (hb.block g (hv g (by rw [e]; rfl))).trans hgg, hnc, hm, hsz, ht⟩
theorem own_but {Z t sz n b m : Nat} {A B : World} {v : Value} {cs : List Value} (h : A.ownsRow Z t sz v n cs) (hb : But b m A B) (hm : A.heap.size ≤ m) (hv : ∀ k, v.ownBlock = some k → k ≠ b) : B.ownsRow Z t sz v n cs := by
  refine ⟨h.1, ?_⟩
  rcases h.2 with h | ⟨g, c, cur, e, hg, hgg, hnc, hm2, hsz, ht⟩
  · exact .inl h
  · exact .inr ⟨g, c, cur, e, hg, (hb.block g (by have := (Array.getElem?_eq_some_iff.1 hgg).1; omega) (hv g (by rw [e]; rfl))).trans hgg, hnc, hm2, hsz, ht⟩

set_option maxRecDepth 100000 in
set_option maxHeartbeats 2000000 in
theorem markWalks_walk (p : Option Addr) (len cap : Nat) (l : List O) (q : Option Addr) (rl rc : Nat) (roots : List (List Nat)) (most : Int) (w : World) (hI : IsObjs w.heap.size w p len cap l) (hR : IsIds w.heap.size w q rl rc roots) (hmost : -9223372036854775808 ≤ most ∧ most ≤ 9223372036854775807) :
    Calls Try.prog 3 #[.slice p len cap, .slice q rl rc, .int .i64 most] w fun e w' => e = .returned (.bool true) ∧ Below w.heap.size w w' := by
  have HI : Hid (IsObjs w.heap.size w p len cap l) := hI
  have HR : Hid (IsIds w.heap.size w q rl rc roots) := hR
  clear hI hR
  obtain ⟨N, hN⟩ : ∃ N, 20 ≤ N := ⟨20, Nat.le_refl _⟩
  refine (callsIn_wide (n := N)).1 ?_
  have h1 : 1 ≤ N := by omega
  have hfn : ∀ f, Fence.wide.fn f := fun _ => trivial
  refine callsIn_of_wp_marks Try.func3 rfl trivial ?_ rfl
  simp only [Try.ntmps3, List.size_toArray, List.length_cons, List.length_nil, Nat.reduceAdd, Nat.reduceSub, Array.replicate_succ, Array.replicate_zero, List.push_toArray, List.append_toArray, List.nil_append, List.cons_append]
  obtain ⟨w0, hw0⟩ : ∃ w0, (w.alloc (.cells #[.int .i64 most] 3)).alloc (.cells #[.bool false] 4) = w0 := ⟨_, rfl⟩
  have hb0 : Below w.heap.size w w0 := by rw [← hw0]; exact ((Below.refl _ w).alloc (Nat.le_refl _) _).alloc (by simp) _
  have HS0 : Hid (w0.heap.size = w.heap.size + 2) := by show _ = _; rw [← hw0]; simp
  have hr5 : Row w0 w.heap.size 3 [.int .i64 most] := by rw [← hw0]; exact (Row.new' w 3 [.int .i64 most]).alloc _
  have hr6 : Row w0 (w.heap.size + 1) 4 [.bool false] := by rw [← hw0]; have h := Row.new' (w.alloc (.cells #[.int .i64 most] 3)) 4 [.bool false]; rw [World.size_alloc] at h; exact h
  have HR5 := (show Hid (Row _ _ _ _) from hr5)
  have HR6 := (show Hid (Row _ _ _ _) from hr6)
  clear hr5 hr6
  by_cases hr20 : 20 < rl
  · have hri : (20 : Int) < (rl : Int) := by omega
    gi_wp2_with (first
      | (gi_at_call 7; refine (callsIn_wide.2 (awake_any w0)).mono ?_; rintro e w1 ⟨rfl, b1⟩; have HF : Hid (Calls Try.prog 8 #[.slice p len cap] w1 fun e w' => ∃ b, e = .returned (.bool b) ∧ (b = true → (∀ o ∈ l, o.links.length ≤ 20) ∧ len ≤ 30) ∧ Below w1.heap.size w1 w') := few_any p len cap l w1 ((HI.out.below (hb0.trans (b1.mono hb0.size))).mono (Nat.le_trans hb0.size b1.size)))
      | (gi_at_call 8; refine (callsIn_wide.2 HF.out).mono ?_; rintro e w2 ⟨b, rfl, hfew, b2⟩; have HFew := (show Hid (b = true → _) from hfew); clear hfew; have hR52 := (HR5.out.below b1 HR5.out.lt).below b2 (HR5.out.below b1 HR5.out.lt).lt; have hR62 := (HR6.out.below b1 HR6.out.lt).below b2 (HR6.out.below b1 HR6.out.lt).lt; have hc5 := hR52.cell (i := 0) rfl; have hc6 := hR62.cell (i := 0) rfl; have hf6 := hR62.frozen 0; cases b))
    all_goals (
      exact ⟨_, results_bool rfl rfl (hR62.set 0 (.bool true)), rfl, hb0.trans (((b1.mono hb0.size).trans (b2.mono (Nat.le_trans hb0.size b1.size))).trans (below_setCells (vs := [.bool true]) (o := 0) (Nat.le_succ _) (Below.refl _ w2)))⟩)
  have hri : ¬ (20 : Int) < (rl : Int) := by omega
  by_cases hm0 : most < 0
  · gi_wp2_with (first
      | (gi_at_call 7; refine (callsIn_wide.2 (awake_any w0)).mono ?_; rintro e w1 ⟨rfl, b1⟩; have HF : Hid (Calls Try.prog 8 #[.slice p len cap] w1 fun e w' => ∃ b, e = .returned (.bool b) ∧ (b = true → (∀ o ∈ l, o.links.length ≤ 20) ∧ len ≤ 30) ∧ Below w1.heap.size w1 w') := few_any p len cap l w1 ((HI.out.below (hb0.trans (b1.mono hb0.size))).mono (Nat.le_trans hb0.size b1.size)))
      | (gi_at_call 8; refine (callsIn_wide.2 HF.out).mono ?_; rintro e w2 ⟨b, rfl, hfew, b2⟩; have HFew := (show Hid (b = true → _) from hfew); clear hfew; have hR52 := (HR5.out.below b1 HR5.out.lt).below b2 (HR5.out.below b1 HR5.out.lt).lt; have hR62 := (HR6.out.below b1 HR6.out.lt).below b2 (HR6.out.below b1 HR6.out.lt).lt; have hc5 := hR52.cell (i := 0) rfl; have hc6 := hR62.cell (i := 0) rfl; have hf6 := hR62.frozen 0; cases b))
    all_goals (
      exact ⟨_, results_bool rfl rfl (hR62.set 0 (.bool true)), rfl, hb0.trans (((b1.mono hb0.size).trans (b2.mono (Nat.le_trans hb0.size b1.size))).trans (below_setCells (vs := [.bool true]) (o := 0) (Nat.le_succ _) (Below.refl _ w2)))⟩)
  gi_wp2_with (first
    | (gi_at_call 7; refine (callsIn_wide.2 (awake_any w0)).mono ?_; rintro e w1 ⟨rfl, b1⟩; have HF : Hid (Calls Try.prog 8 #[.slice p len cap] w1 fun e w' => ∃ b, e = .returned (.bool b) ∧ (b = true → (∀ o ∈ l, o.links.length ≤ 20) ∧ len ≤ 30) ∧ Below w1.heap.size w1 w') := few_any p len cap l w1 ((HI.out.below (hb0.trans (b1.mono hb0.size))).mono (Nat.le_trans hb0.size b1.size)))
    | (gi_at_call 8; refine (callsIn_wide.2 HF.out).mono ?_; rintro e w2 ⟨b, rfl, hfew, b2⟩; have HFew := (show Hid (b = true → _) from hfew); clear hfew; have hR52 := (HR5.out.below b1 HR5.out.lt).below b2 (HR5.out.below b1 HR5.out.lt).lt; have hR62 := (HR6.out.below b1 HR6.out.lt).below b2 (HR6.out.below b1 HR6.out.lt).lt; have hc5 := hR52.cell (i := 0) rfl; have hc6 := hR62.cell (i := 0) rfl; have hf6 := hR62.frozen 0; cases b))
  · exact ⟨_, results_bool rfl rfl (hR62.set 0 (.bool true)), rfl, hb0.trans (((b1.mono hb0.size).trans (b2.mono (Nat.le_trans hb0.size b1.size))).trans (below_setCells (vs := [.bool true]) (o := 0) (Nat.le_succ _) (Below.refl _ w2)))⟩
  obtain ⟨hln, hlen⟩ := HFew.out (by first | rfl | trivial)
  have b02 : Below w.heap.size w w2 := hb0.trans ((b1.mono hb0.size).trans (b2.mono (Nat.le_trans hb0.size b1.size)))
  have HI2 : Hid (IsObjs w2.heap.size w2 p len cap l) := (HI.out.below b02).mono b02.size
  have HRo2 : Hid (IsIds w2.heap.size w2 q rl rc roots) := (HR.out.below b02).mono b02.size
  have HLn : Hid (∀ o ∈ l, o.links.length ≤ 100) := fun o ho => by have := hln o ho; omega
  have HW := (show Hid (Calls Try.prog 9 _ _ _) from refWalk_any p len cap q rl rc l roots (by omega) HLn.out w2 HI2.out HRo2.out)
  have H52 := (show Hid (Row _ _ _ _) from hR52)
  have H62 := (show Hid (Row _ _ _ _) from hR62)
  clear hR52 hR62 hc5 hc6 hf6 HFew HF hln HR5 HR6 hw0
  gi_wp2_with (first
    | (gi_at_call 9; refine (callsIn_wide.2 HW.out).mono ?_; rintro e w3 ⟨q1, n1, c1, q2, n2, c2, rfl, hoi, hidd, hon, b3⟩; have HOi := (show Hid (OwnIds _ _ _ _) from hoi); have HOn := (show Hid (OwnNums _ _ _ _) from hon); have HIdd := (show Hid (∀ y ∈ _, _) from hidd); clear hoi hon hidd; obtain ⟨w4, hw4⟩ : ∃ w4, ((w3.alloc (.cells #[.slice q1 n1 c1] 23)).alloc (.cells #[.slice q2 n2 c2] 26)).alloc (.cells #[.int .i64 0] 3) = w4 := ⟨_, rfl⟩; have b34 : Below w3.heap.size w3 w4 := (by rw [← hw4]; exact (((Below.refl _ w3).alloc (Nat.le_refl _) _).alloc (by simp) _).alloc (by simp; omega) _); have HW4 := (show Hid (_ = _) from hw4); clear hw4; have HWk := (show Hid (Calls Try.prog 10 _ _ _) from walk_any p len cap q rl rc l roots (by omega) (by omega) HLn.out w4 ((HI2.out.later b3).later b34) (((HRo2.out.below b3).mono b3.size |>.below b34).mono b34.size)))
    | (gi_at_call 10; rw [HW4.out]; refine (callsIn_wide.2 HWk.out).mono ?_; rintro e w5 ⟨Bf, rfl, hF, b5⟩))
  generalize decide ((20 : Int) < (rl : Int)) = d1
  generalize decide (most < 0) = d2
  have hw4 := HW4.out
  clear HW4
  have hs4 : w4.heap.size = w3.heap.size + 3 := by rw [← hw4]; simp
  have hx7 : Boxed w4 w3.heap.size 23 (.slice q1 n1 c1) := by rw [← hw4]; exact ((Boxed.new w3 23 _).alloc _).alloc _
  have hx8 : Boxed w4 (w3.heap.size + 1) 26 (.slice q2 n2 c2) := by rw [← hw4]; have h := Boxed.new (w3.alloc (.cells #[.slice q1 n1 c1] 23)) 26 (.slice q2 n2 c2); rw [World.size_alloc] at h; exact h.alloc _
  have hx9 : Row w4 (w3.heap.size + 1 + 1) 3 [.int .i64 ((0 : Nat) : Int)] := by rw [← hw4]; have h := Row.new' ((w3.alloc (.cells #[.slice q1 n1 c1] 23)).alloc (.cells #[.slice q2 n2 c2] 26)) 3 [.int .i64 0]; rw [World.size_alloc, World.size_alloc] at h; exact h
  clear hw4
  have hs2 := b02.size
  have hs3 := b3.size
  have hs5 := b5.size
  have hs0 := HS0.out
  have hlt6 := H62.out.lt
  have hv1 : ∀ k, (Value.slice q1 n1 c1).ownBlock = some k → k < w3.heap.size := fun k e => (own_block HOi.out e).2.1
  have hv2 : ∀ k, (Value.slice q2 n2 c2).ownBlock = some k → k < w3.heap.size := fun k e => (own_block HOn.out e).2.1
  have b25 : Below w2.heap.size w2 w5 := (b3.trans (b34.mono hs3)).trans (b5.mono (by omega))
  have b35 : Below w3.heap.size w3 w5 := b34.trans (b5.mono (by omega))
  have hn1 : (reachL l roots).length = n1 := by obtain ⟨_, _, e⟩ := HOi.out.slice; cases e; rfl
  have hn2 : (farL (levels l roots)).length = n2 := by obtain ⟨_, _, e⟩ := slice_of_row HOn.out; cases e; rfl
  have hn12 : n2 = n1 := by rw [← hn1, ← hn2, farL_length]; rfl
  subst hn12
  have hfew := reach_few l roots
  have hll := HI.out.1
  generalize hZ : w.heap.size = Z at *
  generalize hB7 : w3.heap.size = B7 at *
  generalize hM : w5.heap.size = M at *
  have hlowI : OwnFrom M (WlI Z B7 M w2.heap.size w most q1 n2 c1 q2 n2 c2 (reachL l roots) (farL (levels l roots))) :=
    low_own (fun s A B h hb => ⟨h.most.below hb (by omega), h.res.below hb (by omega), (hb.block _ (by omega)).trans h.want, (hb.block _ (by omega)).trans h.far, h.n.below hb (by omega), own_low h.ids hb (fun k e => by have := hv1 k e; omega), own_low h.ds hb (fun k e => by have := hv2 k e; omega), h.below.trans (hb.mono (by omega)), Nat.le_trans h.size hb.size⟩) (fun s A h => h.size)
  have hlowX : ∀ c : Code, OwnFrom M (fun (_ : List (Nat × List Nat)) (A : World) => c = .ret ∧ Row A (Z + 1) 4 [.bool true] ∧ Below Z w A ∧ M ≤ A.heap.size) := fun c =>
    low_own (fun s A B h hb => ⟨h.1, h.2.1.below hb (by omega), h.2.2.1.trans (hb.mono (by omega)), Nat.le_trans h.2.2.2 hb.size⟩) (fun s A h => h.2.2.2)
  refine wpIn_rangeFunc_okx rfl h1 (gf := 23) (lb := #[.pointer (some ⟨Bf, 0, none⟩)]) rfl trivial (enters_of Try.func23 (by kernel_rfl) rfl)
    (encs := tlV) (Ok := fun x _ => IsId x.2) (Kp := KpP (fun k _ => w4.heap.size ≤ k ∧ k < M)) (Nx := fun pre x => ∃ post, tellL (levels l roots) = pre ++ x :: post) (S := fun ys => ys = tellL (levels l roots)) (Sp := fun _ => True)
    (fun W' hs hb => walk1_iter (N - 1) (by omega) _ Bf w4.heap.size (levels l roots) (by unfold reachL at hfew; omega) _ w5 W' hF hb (fun k c t fr h1 h2 => ⟨h1, by omega⟩))
    KpP.trans (fun A o o' ho hc => KpP.record o' (fun _ h => by have := h.2; omega)) KpP.of_below (fun _ => rfl)
    (fun x A B => Row B A.heap.size 33 (u8s x.2)) (fun x A B o h hl => TwoRow.put o h hl)
    (WlI Z B7 M w2.heap.size w most q1 n2 c1 q2 n2 c2 (reachL l roots) (farL (levels l roots))) (fun c pre A => c = .ret ∧ Row A (Z + 1) 4 [.bool true] ∧ Below Z w A ∧ M ≤ A.heap.size)
    (by rw [hM]; exact hlowI) (fun c => by rw [hM]; exact hlowX c) (fun _ _ _ _ h _ _ => h)
    ⟨H52.out.below b25 (by omega), H62.out.below b25 (by omega), boxed_below hx7 b5, boxed_below hx8 b5, hx9.below b5 (by omega), HOi.out.later (by rw [hB7]; exact b35), ownsRow_later (by rw [hB7]; exact b35) HOn.out, b02.trans (b25.mono (by omega)), by omega⟩
    (fun x A => { tmps := #[.slice p len cap, .slice q rl rc, .int .i64 most, undef, undef, .pointer (some ⟨Z, 0, none⟩), .pointer (some ⟨Z + 1, 0, none⟩), .pointer (some ⟨B7, 0, none⟩), .pointer (some ⟨B7 + 1, 0, none⟩), .pointer (some ⟨B7 + 1 + 1, 0, none⟩), .int .i64 (x.1 : Nat), .pointer (some ⟨A.heap.size, 0, none⟩), .bool true, .bool false, .slice p len cap, .bool true, .bool false, .bool false, .slice q rl rc, .int .i64 rl, .bool d1, .bool d1, .bool d1, .int .i64 most, .bool d2, .bool (d1 || d2), .tuple #[.slice q1 n2 c1, .slice q2 n2 c2], .slice p len cap, .slice q rl rc, .tuple #[.slice q1 n2 c1, .slice q2 n2 c2], .slice q1 n2 c1, .slice q2 n2 c2, .slice p len cap, .slice q rl rc, .func (.func 23) #[] #[.pointer (some ⟨Bf, 0, none⟩)], .int .i64 (x.1 : Nat), idV x.2, undef, undef, undef, undef, undef, undef, undef, undef, undef, undef, undef, undef, undef, undef, undef, undef, undef, undef, undef, undef, undef, undef, undef, undef, undef, undef, undef, undef, undef, undef, undef, undef, undef, undef, undef, undef, undef, undef], defers := [] }) ?assign ?body ?done ?stop
  case assign =>
    intro li x A K hok hK
    have HK : Hid (∀ W', Below A.heap.size A W' → Row W' A.heap.size 33 (u8s x.2) → K _ W') := hK
    clear hK
    unfold tlV
    generalize x.2 = y at *
    gi_wp2_with ((with_reducible show wpListIn _ _ _ _ _ (Oper.mk _ (Op.store 33 (.tmp 11) (.tmp 36)) _ _ _ _ :: _) _ _); rw [z32u8]; refine wpListIn_storeId rfl (.tmp 11) (.tmp 36) rfl hok rfl rfl (fun A2 hb2 hR2 => ?_); have HR2 : Hid (Row A2 A.heap.size 33 (u8s y)) := hR2; clear hR2; simp only [Act.put])
    exact HK.out A2 hb2 HR2.out
  case body =>
    rintro li pre x A₀ A hA hid ⟨post, hpost⟩ hle hr1
    have HR1 : Hid (Row A A₀.heap.size 33 (u8s x.2)) := hr1
    have hcn := hA.n.cell (i := 0) rfl
    have hcm := hA.most.cell (i := 0) rfl
    have hcmm := hcm
    have HA := (show Hid (WlI _ _ _ _ _ _ _ _ _ _ _ _ _ _ _ _) from hA)
    have hplt : pre.length < n2 := by
      have h5 : (levels l roots).flatten = pre.map (·.2) ++ x.2 :: post.map (·.2) := by rw [← tellL_ids, hpost, List.map_append, List.map_cons]
      have h6 := congrArg List.length h5
      rw [List.length_append, List.length_cons, List.length_map] at h6
      unfold reachL at hn1
      omega
    by_cases hmo : (pre.length : Int) = most
    · have hc6 := hA.res.cell (i := 0) rfl
      have hf6 := hA.res.frozen 0
      have hs6 : But (Z + 1) A.heap.size A (A.setCell ⟨Z + 1, 0, none⟩ (.bool true)) := But.sets [.bool true] 0 A
      have HFin : Hid (KeepsFrom M A (A.setCell ⟨Z + 1, 0, none⟩ (.bool true)) ∧ KpP (fun k _ => B7 + 3 ≤ k ∧ k < M) A (A.setCell ⟨Z + 1, 0, none⟩ (.bool true)) ∧ Row (A.setCell ⟨Z + 1, 0, none⟩ (.bool true)) (Z + 1) 4 [.bool true] ∧ Below Z w (A.setCell ⟨Z + 1, 0, none⟩ (.bool true)) ∧ M ≤ (A.setCell ⟨Z + 1, 0, none⟩ (.bool true)).heap.size) :=
        ⟨keepsFrom_but hs6 (by omega) (Nat.le_refl _), kpp_but hs6 (fun k o hp _ => by omega) (Nat.le_refl _), hA.res.set 0 _, hA.below.trans (below_setCells (vs := [.bool true]) (o := 0) (Nat.le_succ _) (Below.refl _ A)), Nat.le_trans hA.size hs6.size⟩
      rw [hmo] at hcn
      clear hA hr1 hpost HA
      gi_wp2
      exact ⟨by first | exact HFin.out.1 | (rw [hM]; exact HFin.out.1), by first | exact HFin.out.2.1 | (rw [hs4]; exact HFin.out.2.1), rfl, HFin.out.2.2⟩
    · have hfl : (levels l roots).flatten = pre.map (·.2) ++ x.2 :: post.map (·.2) := by rw [← tellL_ids, hpost, List.map_append, List.map_cons]
      have hfr : farL (levels l roots) = pre.map (·.1) ++ x.1 :: post.map (·.1) := by unfold farL; rw [hpost, List.map_append, List.map_cons]
      have hgi : (reachL l roots).getD pre.length [] = x.2 := by unfold reachL; rw [hfl]; simp
      have hgd : (farL (levels l roots)).getD pre.length 0 = x.1 := by rw [hfr]; simp
      have hds : A.ownsRow w2.heap.size 3 1 (.slice q2 n2 c2) n2 (nums (farL (levels l roots))) := by have h := hA.ds; unfold OwnNums at h; rw [hn2] at h; exact h
      obtain ⟨fb, fc, e2, hfb, hfc1, hfc2, hfcell⟩ := own_num hds hn2 hplt
      cases e2
      rw [hgd] at hfcell
      obtain ⟨ib, hie, hib, hic1, hic2, hir⟩ : ∃ ib, q1 = some ⟨ib, 0, none⟩ ∧ ib < A.heap.size ∧ n2 ≤ c1 ∧ c1 ≤ 9223372036854775807 ∧ A.rangeAt ib (pre.length * 32) (u8s x.2) := by
        obtain ⟨q9, n9, c9, e9, hn9, hi9, _⟩ := own_ids_slice hA.ids HIdd.out
        cases e9
        obtain ⟨b, off, e, hb, hr, _⟩ := hi9.at hplt
        have hoff : off = 0 := by
          rcases hA.ids.2 with ⟨e', _⟩ | ⟨g, c', cur, e', _⟩
          · cases e'; cases e
          · cases e'; cases e; rfl
        subst hoff
        rw [hgi, Nat.zero_add] at hr
        exact ⟨b, e, hb, hi9.2.1, hi9.2.2.1, hr⟩
      subst hie
      have hcw := hA.want.cell
      have hcf := hA.far.cell
      have hfn9 := hA.n.frozen 0
      have hrl1 := hr1.lt
      have HSd : Hid (∀ B, Below A.heap.size A B → (B.cell? ⟨B7 + 1 + 1, 0, none⟩ = some (.int .i64 (pre.length : Nat)) ∧ B.cell? ⟨B7, 0, none⟩ = some (.slice (some ⟨ib, 0, none⟩) n2 c1) ∧ B.cell? ⟨B7 + 1, 0, none⟩ = some (.slice (some ⟨fb, 0, none⟩) n2 c2) ∧ B.cell? ⟨fb, pre.length, none⟩ = some (.int .i64 (x.1 : Nat))) ∧ B.rangeAt A₀.heap.size 0 (u8s x.2) ∧ B.rangeAt ib (pre.length * 32) (u8s x.2)) := fun B hB =>
        ⟨⟨(hA.n.below hB hA.n.lt).cell (i := 0) rfl, (boxed_below hA.want hB).cell, (boxed_below hA.far hB).cell, (hB.cell (p := ⟨fb, _, none⟩) hfb).trans hfcell⟩, (hr1.below hB hrl1).range, rangeAt_below hB hib hir⟩
      have HFin : Hid (∀ B, Below A.heap.size A B → B.cell? ⟨B7 + 1 + 1, 0, none⟩ = some (.int .i64 (pre.length : Nat)) ∧ B.frozen? ⟨B7 + 1 + 1, 0, none⟩ = false ∧ KeepsFrom M A (B.setCell ⟨B7 + 1 + 1, 0, none⟩ (.int .i64 ((pre.length : Int) + 1))) ∧ KpP (fun k _ => B7 + 3 ≤ k ∧ k < M) A (B.setCell ⟨B7 + 1 + 1, 0, none⟩ (.int .i64 ((pre.length : Int) + 1))) ∧ WlI Z B7 M w2.heap.size w most (some ⟨ib, 0, none⟩) n2 c1 (some ⟨fb, 0, none⟩) n2 c2 (reachL l roots) (farL (levels l roots)) (pre ++ [x]) (B.setCell ⟨B7 + 1 + 1, 0, none⟩ (.int .i64 ((pre.length : Int) + 1)))) := by
        intro B hB
        have hAs := hA.size
        have hBs := hB.size
        have hs9 : But (B7 + 1 + 1) B.heap.size B (B.setCell ⟨B7 + 1 + 1, 0, none⟩ (.int .i64 ((pre.length : Int) + 1))) := But.sets [.int .i64 ((pre.length : Int) + 1)] 0 B
        have hnB := hA.n.below hB hA.n.lt
        refine ⟨hnB.cell (i := 0) rfl, hnB.frozen 0, (keepsFrom_of_below hB).trans (keepsFrom_but hs9 (by omega) (Nat.le_refl _)), (KpP.of_below hB).trans (kpp_but hs9 (fun k o hp _ => by omega) (Nat.le_refl _)), ?_⟩
        refine ⟨hs9.row (by omega) (by omega) (hA.most.below hB (by omega)), hs9.row (by omega) (by omega) (hA.res.below hB (by omega)), (hs9.block _ (by omega) (by omega)).trans (boxed_below hA.want hB), (hs9.block _ (by omega) (by omega)).trans (boxed_below hA.far hB), ?_, own_but (hA.ids.later hB) hs9 (Nat.le_refl _) (fun k e => by have := hv1 k e; omega), own_but (ownsRow_later hB hA.ds) hs9 (Nat.le_refl _) (fun k e => by have := hv2 k e; omega), ?_, ?_⟩
        · have h := hnB.set 0 (.int .i64 ((pre.length : Int) + 1))
          rw [List.length_append, List.length_singleton, Int.natCast_add]
          exact h
        · exact (hA.below.trans (hB.mono (by omega))).trans (below_setCells (vs := [.int .i64 ((pre.length : Int) + 1)]) (o := 0) (by omega) (Below.refl _ B))
        · rw [show (B.setCell ⟨B7 + 1 + 1, 0, none⟩ (.int .i64 ((pre.length : Int) + 1))).heap.size = B.heap.size from size_setCells [.int .i64 ((pre.length : Int) + 1)] 0 B]; omega
      have hlen9 : (pre.length : Int) < (n2 : Int) := by omega
      have hlen0 : (0 : Int) ≤ (pre.length : Int) := by omega
      have hbig : (pre.length : Int) + 1 ≤ 9223372036854775807 := by omega
      clear hA hr1 hpost HA hfl hfr hgi hgd hds hir hfcell hcw hcf hfn9 hlowI hlowX hcm
      have hcm : A.cell? ⟨Z, 0, none⟩ = some (.int .i64 most) := hcmm
      generalize x.2 = y at *
      generalize x.1 = xd at *
      generalize pre.length = np at *
      have HP1 := (show Hid (_ ∧ _) from (⟨hlen9, hlen0⟩ : (np : Int) < (n2 : Int) ∧ (0 : Int) ≤ (np : Int)))
      clear hlen9 hlen0 hbig hcmm hib hfb hrl1 hv1 hv2
      gi_wp2
      obtain ⟨hlen9, hlen0⟩ := HP1.out
      refine wpIn_region_V (S := fun A => (A.cell? ⟨B7 + 1 + 1, 0, none⟩ = some (.int .i64 (np : Nat)) ∧ A.cell? ⟨B7, 0, none⟩ = some (.slice (some ⟨ib, 0, none⟩) n2 c1) ∧ A.cell? ⟨B7 + 1, 0, none⟩ = some (.slice (some ⟨fb, 0, none⟩) n2 c2) ∧ A.cell? ⟨fb, np, none⟩ = some (.int .i64 (xd : Nat))) ∧ A.rangeAt A₀.heap.size 0 (u8s y) ∧ A.rangeAt ib (np * 32) (u8s y)) (by kernel_rfl) (HSd.out _ (Below.refl _ _).drew) (fun hHeld => ?_)
      refine wpAnyV_takesAt 0 5 15 (of_decide_eq_true (by kernel_rfl)) rfl (fun _ _ _ d _ h => by cases d <;> exact h) (by kernel_rfl) (by kernel_rfl) hHeld ?_
      simp only [List.drop_zero, List.take_succ_cons, List.take_zero]
      iterate 5 (refine wpHeld_step (v := ?_) (by rfl) (fun wz hSw => ?_) ?_; rotate_left; (focus ((obtain ⟨⟨g1, g2, _, _⟩, _⟩ := hSw); go_simp; try with_reducible rfl)); (simp only [Act.put, List.setIfInBounds_toArray, List.set_cons_zero, List.set_cons_succ]))
      refine wpHeld_nil ?_
      first
        | rw [show decide (n2 ≤ np) = false from decide_eq_false (by omega)]
        | rw [show decide ((n2 : Int) ≤ (np : Int)) = false from decide_eq_false (by omega)]
      refine wpAnyV_takesAt 5 1 14 (of_decide_eq_true (by kernel_rfl)) rfl (fun _ _ _ d _ h => by cases d <;> exact h) (by kernel_rfl) (by kernel_rfl) hHeld ?_
      simp only [List.drop_succ_cons, List.drop_zero, List.take_succ_cons, List.take_zero]
      refine wpHeld_load (by rfl) 33 (.tmp 11) rfl A₀.heap.size (0) rfl (u8s y) (fun W hW => hW.2.1) Try.underlying33 (size33' hid) ?_
      (simp only [Act.put]; (try simp only [List.setIfInBounds_toArray]); (try simp only [List.set_cons_succ]); (try simp only [List.set_cons_zero]))
      refine wpHeld_nil ?_
      refine wpAnyV_takesAt 6 3 11 (of_decide_eq_true (by kernel_rfl)) rfl (fun _ _ _ d _ h => by cases d <;> exact h) (by kernel_rfl) (by kernel_rfl) hHeld ?_
      simp only [List.drop_succ_cons, List.drop_zero, List.take_succ_cons, List.take_zero]
      iterate 3 (refine wpHeld_step (v := ?_) (by rfl) (fun wz hSw => ?_) ?_; rotate_left; (focus ((obtain ⟨⟨g1, g2, _, _⟩, _⟩ := hSw); go_simp; try with_reducible rfl)); (simp only [Act.put, List.setIfInBounds_toArray, List.set_cons_zero, List.set_cons_succ]))
      refine wpHeld_nil ?_
      refine wpAnyV_takesAt 9 1 10 (of_decide_eq_true (by kernel_rfl)) rfl (fun _ _ _ d _ h => by cases d <;> exact h) (by kernel_rfl) (by kernel_rfl) hHeld ?_
      simp only [List.drop_succ_cons, List.drop_zero, List.take_succ_cons, List.take_zero]
      refine wpHeld_load (by rfl) 33 (.tmp 48) rfl ib (np * 32) rfl (u8s y) (fun W hW => hW.2.2) Try.underlying33 (size33' hid) ?_
      (simp only [Act.put]; (try simp only [List.setIfInBounds_toArray]); (try simp only [List.set_cons_succ]); (try simp only [List.set_cons_zero]))
      refine wpHeld_nil ?_
      refine wpAnyV_takesAt 10 1 9 (of_decide_eq_true (by kernel_rfl)) rfl (fun _ _ _ d _ h => by cases d <;> exact h) (by kernel_rfl) (by kernel_rfl) hHeld ?_
      simp only [List.drop_succ_cons, List.drop_zero, List.take_succ_cons, List.take_zero]
      refine wpHeld_step (v := .bool false) (by rfl) (fun wz _ => exec_neSame (.tmp 45) (.tmp 49) rfl (i := y) rfl rfl hid) ?_
      (simp only [Act.put]; (try simp only [List.setIfInBounds_toArray]); (try simp only [List.set_cons_succ]); (try simp only [List.set_cons_zero]))
      refine wpHeld_nil ?_
      refine wpAnyV_takesAt 11 2 7 (of_decide_eq_true (by kernel_rfl)) rfl (fun _ _ _ d _ h => by cases d <;> exact h) (by kernel_rfl) (by kernel_rfl) hHeld ?_
      simp only [List.drop_succ_cons, List.drop_zero, List.take_succ_cons, List.take_zero]
      iterate 2 (refine wpHeld_step (v := ?_) (by rfl) (fun wz hSw => ?_) ?_; rotate_left; (focus ((try dsimp only at hSw); go_simp; try with_reducible rfl)); (simp only [Act.put, List.setIfInBounds_toArray, List.set_cons_zero, List.set_cons_succ]))
      refine wpHeld_nil ?_
      refine wpAnyV_takesAt 13 7 0 (of_decide_eq_true (by kernel_rfl)) rfl (fun _ _ _ d _ h => by cases d <;> exact h) (by kernel_rfl) (by kernel_rfl) hHeld ?_
      simp only [List.drop_succ_cons, List.drop_zero, List.take_succ_cons, List.take_zero]
      iterate 7 (refine wpHeld_step (v := ?_) (by rfl) (fun wz hSw => ?_) ?_; rotate_left; (focus ((obtain ⟨⟨g1, _, g3, g4⟩, _⟩ := hSw); go_simp; try with_reducible rfl)); (simp only [Act.put, List.setIfInBounds_toArray, List.set_cons_zero, List.set_cons_succ]))
      refine wpHeld_nil ?_
      refine wpAnyV_done (by kernel_rfl) ?_ _
      obtain ⟨hcn9, hfn9, hk9, hkp9, hw9⟩ := HFin.out A.drew (Below.refl _ _).drew
      have HK9 := (show Hid (KeepsFrom _ _ _) from hk9)
      have HKp9 := (show Hid (KpP _ _ _) from hkp9)
      have HW9 := (show Hid (WlI _ _ _ _ _ _ _ _ _ _ _ _ _ _ _ _) from hw9)
      clear hk9 hkp9 hw9 hHeld hcn hlen9 hlen0
      gi_wp2
      exact ⟨by first | exact HK9.out | (rw [hM]; exact HK9.out), by first | exact HKp9.out | (rw [hs4]; exact HKp9.out), HW9.out⟩
  case done =>
    rintro D xs A hD rfl hA hKD
    have hnl : (tellL (levels l roots)).length = n2 := by
      have h5 := congrArg List.length (tellL_ids (levels l roots))
      rw [List.length_map] at h5
      rw [h5]; exact hn1
    have hAn := hA.n
    rw [hnl] at hAn
    have hcn := hAn.cell (i := 0) rfl
    have hcw := hA.want.cell
    have hIA : IsObjs A.heap.size A p len cap l := (HI.out.below hA.below).mono (by have := hA.size; omega)
    have hRA : IsIds A.heap.size A q rl rc roots := (HR.out.below hA.below).mono (by have := hA.size; omega)
    have HRch : Hid (Calls Try.prog 12 #[.slice p len cap, .slice q rl rc] A (LinksPost A (reachL l roots))) := reach_any p len cap q rl rc l roots (by omega) (by omega) HLn.out A hIA hRA
    have HIA := (show Hid (IsObjs _ _ _ _ _ _) from hIA)
    have HRA := (show Hid (IsIds _ _ _ _ _ _) from hRA)
    have HRes := (show Hid (Row _ _ _ _) from hA.res)
    have HBl := (show Hid (Below _ _ _) from hA.below)
    have hDl := (Array.getElem?_eq_some_iff.1 hKD).1
    have hAs := hA.size
    have HKD := (show Hid (_ = _) from hKD)
    clear hA hIA hRA hlowI hlowX hKD hAn hv1 hv2
    gi_wp2_with (first
      | (gi_at_call 12; refine (callsIn_wide.2 HRch.out).mono ?_; rintro e A2 ⟨q4, n4, rfl, hi4, a2⟩; have HI4 := (show Hid (IsIds _ _ _ _ _ _) from hi4); clear hi4; have HRr := (show Hid (Calls Try.prog 13 _ _ _) from refReach_any p len cap q rl rc l roots (by omega) HLn.out A2 (HIA.out.later a2) ((HRA.out.below a2).mono a2.size)))
      | (gi_at_call 13; refine (callsIn_wide.2 HRr.out).mono ?_; rintro e A3 ⟨q5, n5, c5, rfl, hi5, a3⟩; obtain rfl : n5 = n4 := (by have h1 := hi5.1; have h2 := HI4.out.1; omega); have HSi : Hid (Calls Try.prog 11 #[.slice q4 n5 n5, .slice q5 n5 c5] A3 fun e w' => e = .returned (.bool true) ∧ Below A3.heap.size A3 w') := sameIds_any q4 n5 n5 q5 c5 _ A3 ((HI4.out.below a3).mono a3.size) hi5; clear hi5)
      | (gi_at_call 11; refine (callsIn_wide.2 HSi.out).mono ?_; rintro e A4 ⟨rfl, a4⟩; have hR4 : Row A4 (Z + 1) 4 [.bool false] := ((HRes.out.below a2 HRes.out.lt).below a3 (HRes.out.below a2 HRes.out.lt).lt).below a4 ((HRes.out.below a2 HRes.out.lt).below a3 (HRes.out.below a2 HRes.out.lt).lt).lt; have hc4 := hR4.cell (i := 0) rfl; have hf4 := hR4.frozen 0))
    have t2 := a2.size
    have t3 := a3.size
    have t4 := a4.size
    have hKD4 : A4.heap[D]? = some (.deferred (some [])) := (a4.block D (by omega)).trans ((a3.block D (by omega)).trans ((a2.block D hDl).trans HKD.out))
    have hst : But (Z + 1) A4.heap.size A4 (A4.setCell ⟨Z + 1, 0, none⟩ (.bool true)) := But.sets [.bool true] 0 A4
    have hKD5 := (hst.block D (by omega) (by omega)).trans hKD4
    refine ⟨by simp, .inl ⟨_, _, rfl, run_takeDeferred hKD5, ?_⟩⟩
    refine ⟨_, results_bool rfl rfl ((World.putObj_heap_other (by omega)).trans (hR4.set 0 (.bool true))), rfl, ?_⟩
    rw [hZ]
    exact ((((HBl.out.trans (a2.mono (by omega))).trans (a3.mono (by omega))).trans (a4.mono (by omega))).trans (below_setCells (vs := [.bool true]) (o := 0) (Nat.le_succ _) (Below.refl _ A4))).trans (below_putObj _ _ (by omega))
  case stop =>
    rintro D c pre A hD _ ⟨rfl, hr, hB, hsz⟩ hKD
    gi_wp2
    refine ⟨by simp, .inl ⟨_, _, rfl, run_takeDeferred hKD, ?_⟩⟩
    exact ⟨_, results_bool rfl rfl ((World.putObj_heap_other (by omega)).trans hr), rfl, by rw [hZ]; exact hB.trans (below_putObj _ _ (by omega))⟩
end Go.Proofs.Ytfclbdlkpnoceaa
