/-
  Append where there is room: each write, the first error, the record counted in.
-/
import Derived.Test.YtifjkkfienmdjaaApp2
namespace Go.Proofs.Ytifjkkfienmdjaa
open Go.RowKit Go.Shelf
attribute [local go_sem] Oper.semAt_some

theorem keepsFrom_buts {S : List Nat} {n : Nat} {A B : World} (h : Buts S A.heap.size A B) (hS : ∀ x ∈ S, ∃ c t fr, A.heap[x]? = some (Obj.cells c t fr)) : KeepsFrom n A B :=
  ⟨h.size, fun k o _ ho hc => (h.block k (Array.getElem?_eq_some_iff.1 ho).1 (fun hx => by
    obtain ⟨c, t, fr, e⟩ := hS k hx
    rw [e] at ho
    cases ho
    cases hc)).trans ho⟩

theorem buts_put {D : Nat} {A : World} (o : Obj) : Buts [D] A.heap.size A (A.putObj D o) := ⟨rfl, rfl, rfl, by simp [World.putObj], fun k _ hk => World.putObj_heap_other (by simpa using hk)⟩
theorem keepT_put {D : Nat} {A : World} {o : Obj} (o' : Obj) {t : TypeId} (ho : A.heap[D]? = some o) (hc : o.isCells = false) : KeepT t A (A.putObj D o') := fun k c fr hk => by
  rw [World.putObj_heap_other (fun e => by subst e; rw [hk] at ho; cases ho; cases hc)]
  exact hk
theorem MSt.put {F : List Nat} {n₀ : Nat} {W : World} {L p g D : Nat} {v : Value} {d : St} {l : Lg} (h : MSt F n₀ W L p g v d l) {o : Obj} (o' : Obj) (ho : W.heap[D]? = some o) (hc : o.isCells = false) (hD : n₀ ≤ D) : MSt F n₀ (W.putObj D o') L p g v d l := by
  have hp := h.pg
  refine h.frame (buts_put o') (by simp; omega) (by simp; omega) (fun hx => ?_) (fun k hk hx => ?_) (fun x hx => by rw [List.mem_singleton] at hx; exact .inr (by omega)) (keepT_put o' ho hc)
  · rw [List.mem_singleton] at hx
    rw [← hx, show W.heap[L]? = _ from h.log.1] at ho
    cases ho
    cases hc
  · rw [List.mem_singleton] at hx
    obtain ⟨_, _, c, fr, e⟩ := h.log.2.own hk
    rw [← hx, e] at ho
    cases ho
    cases hc

set_option maxRecDepth 100000 in
set_option maxHeartbeats 4000000 in
theorem append_in (n : Nat) (hn : 12 ≤ n) {F : List Nat} {n₀ m : Nat} {w : World} {L p g : Nat} {v : Value} {d : St} {l : Lg} (h : MSt F n₀ w L p g v d l) (hok : LgOk l d) (hbr : l.broken = false) (q : Option Addr) (len cap : Nat) (zs : List Nat) (hI : IsBytes m w q len cap zs) (hm : m ≤ w.heap.size) (hqn : 0 < len → ∀ b off, q = some ⟨b, off, none⟩ → b ≠ p ∧ b ≠ g) (hlen : len ≤ 60000) (hfit : ¬ l.n < l.pos + spanN (len : Nat)) (hn₀ : n₀ ≤ w.heap.size) (hwr5 : d.wr ≤ 50000) :
    CallsIn Fence.wide n Try.prog 21 #[.pointer (some ⟨L, 0, none⟩), .slice q len cap] w (MAppPost F n₀ w L p g v (appL d l zs)) := by
  have h1n : 1 ≤ n := by omega
  have hfn : ∀ f, Fence.wide.fn f := fun _ => trivial
  obtain ⟨w1, hw1⟩ : ∃ w1, (w.alloc (.cells #[.pointer (some ⟨L, 0, none⟩)] 31)).alloc (.cells #[.int .i64 0] 32) = w1 := ⟨_, rfl⟩
  have hb1 : Below w.heap.size w w1 := by rw [← hw1]; exact two_below
  have hs1 : w1.heap.size = w.heap.size + 2 := by rw [← hw1]; simp
  have HW1 : Hid ((w.alloc (.cells #[.pointer (some ⟨L, 0, none⟩)] 31)).alloc (.cells #[.int .i64 0] 32) = w1) := hw1
  have hrR : Row w1 (w.heap.size + 1) 32 [.int .i64 0] := by rw [← hw1]; exact two_row w _ 32 _
  have hrB : Row w1 w.heap.size 31 [.pointer (some ⟨L, 0, none⟩)] := by
    rw [← hw1]
    exact (Row.new w 31 #[.pointer (some ⟨L, 0, none⟩)]).later ((Below.refl _ _).alloc (Nat.le_refl _) _)
  have h1 := h.later hb1
  have hc0 : w1.cell? ⟨L, 0, none⟩ = some (.bool true) := by have := h1.log.1.cell (i := 0) rfl; rw [hbr] at this; exact this
  have hcB := hrB.cell (i := 0) rfl
  have hcR := hrR.cell (i := 0) rfl
  have HRR : Hid (Row w1 (w.heap.size + 1) 32 [.int .i64 0]) := hrR
  have HRB : Hid (Row w1 w.heap.size 31 [.pointer (some ⟨L, 0, none⟩)]) := hrB
  have HSp : Hid (∀ W, Calls Try.prog 9 #[.int .i64 (len : Nat)] W fun e w' => e = .returned (.int .i64 (spanN (len : Nat) : Nat)) ∧ w' = W) := fun W => span_any _ W
  have HRm : Hid (∀ W, Below w1.heap.size w1 W → Calls Try.prog 15 #[.pointer (some ⟨L, 0, none⟩)] W fun e w' => e = .returned (.int .i64 ((l.n - l.pos : Nat) : Int)) ∧ Below W.heap.size W w') := fun W hb => (h1.later hb).room hok
  have HSt : Hid (MSt F n₀ w L p g v d l) := h
  have HOk : Hid (LgOk l d) := hok
  have HI : Hid (IsBytes m w q len cap zs) := hI
  have HLn : Hid (zs.length = len) := hI.1
  have HZ : Hid (∀ z ∈ zs, z < 256) := hI.2.2.2.1
  have Hbr : Hid (l.broken = false) := hbr
  have hop := hok.pos
  have hof := hok.f
  have hon := hok.n
  obtain ⟨k, hk⟩ : ∃ k, spanN (len : Nat) = k := ⟨_, rfl⟩
  have hspn := spanN_nat (n := len) (by omega)
  have hk1 : 1 ≤ k := by omega
  have hk2 : k ≤ 2000 := by omega
  clear hspn
  have HKz : Hid (spanN (zs.length : Nat) = k) := by show _ = _; rw [HLn.out]; exact hk
  obtain ⟨rm, hrm⟩ : ∃ rm, l.n - l.pos = rm := ⟨_, rfl⟩
  rw [hk] at HSp hfit
  rw [hrm] at HRm
  have hgt : ¬ (rm : Int) < (k : Int) := by omega
  have hgd : decide ((rm : Int) < (k : Int)) = false := decide_eq_false hgt
  have hl26 : decide ((262144 : Int) < (len : Int)) = false := decide_eq_false (by omega)
  have HFit : Hid (¬ l.n < l.pos + k) := hfit
  have HRmE : Hid (l.n - l.pos = rm) := hrm
  clear hw1 hrR hrB h h1 hok hk hrm hbr hI hfit
  refine callsIn_of_wp_marks Try.func21 rfl trivial ?_ rfl
  simp only [Try.ntmps21, List.size_toArray, List.length_cons, List.length_nil, Nat.reduceAdd, Nat.reduceSub, Array.replicate_succ, Array.replicate_zero, List.push_toArray, List.append_toArray, List.nil_append, List.cons_append]
  gi_wp2_with (rw [HW1.out])
  refine wpIn_region_on_wide (S := fun W => Below w1.heap.size w1 W) (by kernel_rfl) (by kernel_rfl) (Below.refl _ _).drew (fun hHeld => ?_)
  refine wpAnyH_takesAt 0 2 5 (of_decide_eq_true (by kernel_rfl)) rfl (fun _ _ _ d _ h => by cases d <;> exact h) (by kernel_rfl) (by kernel_rfl) hHeld ?_
  simp only [List.drop_zero, List.take_succ_cons, List.take_zero]
  iterate 2 (refine wpHeld_step (v := ?_) (by rfl) (fun wz hSw => ?_) ?_; rotate_left; (focus ((try dsimp only at hSw); go_simp; try with_reducible rfl)); (simp only [Act.put, List.setIfInBounds_toArray, List.set_cons_zero, List.set_cons_succ]))
  refine wpHeld_nil ?_
  refine wpAnyH_takesAt 3 1 4 (of_decide_eq_true (by kernel_rfl)) rfl (fun _ _ _ d _ h => by cases d <;> exact h) (by kernel_rfl) (by kernel_rfl) hHeld ?_
  simp only [List.drop_succ_cons, List.drop_zero, List.take_succ_cons, List.take_zero]
  iterate 1 (refine wpHeld_step (v := ?_) (by rfl) (fun wz hSw => ?_) ?_; rotate_left; (focus (have hc := (HRB.out.later hSw).cell (i := 0) rfl; clear hSw; go_simp; try with_reducible rfl)); ((simp only [Act.put]; (try simp only [List.setIfInBounds_toArray]); (try simp only [List.set_cons_succ]); (try simp only [List.set_cons_zero]))))
  refine wpHeld_nil ?_
  refine wpAnyH_only (i := 2) (by kernel_rfl) rfl (fun K hK => ?_)
  rw [if_pos (by rfl)]
  go_simp
  refine (HSp.out _).mono ?_
  rintro e wq ⟨rfl, hwq⟩
  obtain rfl := hwq.symm
  clear hwq
  refine hK.out _ _ hHeld ?_
  clear hK K
  refine wpAnyH_only (i := 4) (by kernel_rfl) rfl (fun K hK => ?_)
  rw [if_pos (by rfl)]
  go_simp
  refine (HRm.out _ hHeld).mono ?_
  rintro e w2 ⟨rfl, hb2⟩
  have hHeld : Below w1.heap.size w1 w2 := hHeld.trans (hb2.mono hHeld.size)
  refine hK.out _ _ hHeld ?_
  clear hK K hb2
  refine wpAnyH_takesAt 5 1 1 (of_decide_eq_true (by kernel_rfl)) rfl (fun _ _ _ d _ h => by cases d <;> exact h) (by kernel_rfl) (by kernel_rfl) hHeld ?_
  simp only [List.drop_succ_cons, List.drop_zero, List.take_succ_cons, List.take_zero]
  iterate 1 (refine wpHeld_step (v := ?_) (by rfl) (fun wz hSw => ?_) ?_; rotate_left; (focus ((try dsimp only at hSw); go_simp; try with_reducible rfl)); ((simp only [Act.put]; (try simp only [List.setIfInBounds_toArray]); (try simp only [List.set_cons_succ]); (try simp only [List.set_cons_zero]))))
  refine wpHeld_nil ?_
  refine wpAnyH_takesAt 6 1 0 (of_decide_eq_true (by kernel_rfl)) rfl (fun _ _ _ d _ h => by cases d <;> exact h) (by kernel_rfl) (by kernel_rfl) hHeld ?_
  simp only [List.drop_succ_cons, List.drop_zero, List.take_succ_cons, List.take_zero]
  iterate 1 (refine wpHeld_step (v := ?_) (by rfl) (fun wz hSw => ?_) ?_; rotate_left; (focus ((try dsimp only at hSw); go_simp; try with_reducible rfl)); ((simp only [Act.put]; (try simp only [List.setIfInBounds_toArray]); (try simp only [List.set_cons_succ]); (try simp only [List.set_cons_zero]))))
  refine wpHeld_nil ?_
  refine wpAnyH_done (by kernel_rfl) ?_ _
  refine OnOnly.on ?_
  have hcB2 := (HRB.out.later hHeld).cell (i := 0) rfl
  have HB2 : Hid (Below w.heap.size w w2) := hb1.trans (hHeld.mono hb1.size)
  have HRR2 : Hid (Row w2 (w.heap.size + 1) 32 [.int .i64 0]) := HRR.out.later hHeld
  have HRB2 : Hid (Row w2 w.heap.size 31 [.pointer (some ⟨L, 0, none⟩)]) := HRB.out.later hHeld
  clear hHeld hcB hcR hc0
  gi_wp2_with (gi_at_call 40; refine (callsIn_wide.2 (writes_any _ _ _ _ _)).mono ?_; rintro e w' ⟨rfl, rfl⟩)
  have hs2 := HB2.out.size
  have hsR := HRR2.out.lt
  obtain ⟨w4, hw4⟩ : ∃ w4, (w2.alloc (.cells #[.pointer (some ⟨L, 0, none⟩)] 31)).alloc (.cells #[.slice q len cap] 25) = w4 := ⟨_, rfl⟩
  have hb24 : Below w2.heap.size w2 w4 := by rw [← hw4]; exact two_below
  have hs4 : w4.heap.size = w2.heap.size + 2 := by rw [← hw4]; simp
  have bX1 : Boxed w4 w2.heap.size 31 (.pointer (some ⟨L, 0, none⟩)) := by rw [← hw4]; exact (Boxed.new w2 31 _).alloc _
  have bX2 : Boxed w4 (w2.heap.size + 1) 25 (.slice q len cap) := by rw [← hw4]; have := Boxed.new (w2.alloc (.cells #[.pointer (some ⟨L, 0, none⟩)] 31)) 25 (.slice q len cap); rwa [World.size_alloc] at this
  have HBe4 : Hid (Below w.heap.size w w4) := HB2.out.trans (hb24.mono hs2)
  have hS4 := HSt.out.later HBe4.out
  have HS4 : Hid (MSt F n₀ w4 L p g v d l) := hS4
  have HRR4 : Hid (Row w4 (w.heap.size + 1) 32 [.int .i64 0]) := HRR2.out.later hb24
  have HRB4 : Hid (Row w4 w.heap.size 31 [.pointer (some ⟨L, 0, none⟩)]) := HRB2.out.later hb24
  obtain ⟨hpw, hgw, hLw⟩ := HSt.out.lt
  have hpn := HSt.out.pg
  have hnL := HSt.out.low
  obtain ⟨vq, vc, hv⟩ := HSt.out.log.2.slice
  have HV : Hid (v = .slice vq l.recs.length vc) := hv
  have HL4 : Hid (Row w4 L 59 [.bool true, .pointer (some ⟨p, 0, none⟩), .int .u32 (l.gen : Nat), .int .i64 ((l.f + l.pos : Nat) : Int), .int .i64 ((l.f + l.n : Nat) : Int), .slice vq l.recs.length vc]) := by
    have := hS4.log.1
    rw [Hbr.out, hv] at this
    exact this
  obtain ⟨cv, hcv⟩ : ∃ cv, w4.cell? ⟨p, 4, none⟩ = some cv := by
    obtain ⟨_, _, _, _, _, cq, cl, cc, h6, _⟩ := hS4.disk
    exact ⟨_, h6.cell (i := 4) rfl⟩
  have HCv : Hid (w4.cell? ⟨p, 4, none⟩ = some cv) := hcv
  have HDR4 : Hid (DR w4 p g cv d) := DR.of hS4.disk hcv
  have hpg : p ≠ g := hS4.disk.2.1
  obtain ⟨ws, hws⟩ : ∃ ws, wsOf (l.f + l.pos) (l.f + l.n) l.gen l.recs.length zs = ws := ⟨_, rfl⟩
  have HWs : Hid (writesOf l.f l.n l.pos l.gen l.recs.length zs = ws) := by show _ = _; rw [wsOf_eq]; exact hws
  have HApp : Hid (appL d l zs = if (doW d ws).1 ≠ 0 then ((doW d ws).1, (doW d ws).2, { l with broken := true }) else (0, (doW d ws).2, { l with recs := l.recs ++ [zs], pos := l.pos + k })) := by
    show _ = _
    rw [appL, if_neg (by rw [Hbr.out]; simp), HKz.out, if_neg (by omega), if_neg HFit.out, HWs.out]
  have HSec : Hid (∀ x ∈ ws, IsSec x.2) := by rw [← HWs.out]; exact writesOf_sec HZ.out _ _ _ _ _
  have HWl : Hid (ws.length ≤ 2100) := by
    have := writesOf_len l.f l.n l.pos l.gen l.recs.length zs
    rw [HWs.out, HKz.out] at this
    show _ ≤ _
    omega
  have hwr := HOk.out.wr
  have hrl := HOk.out.recs
  have hS4x : ∀ x ∈ [p, g], x ∈ F ∨ n₀ ≤ x := fun x hx => by
    obtain ⟨_, _, h3, h4, _⟩ := HS4.out.disk
    simp only [List.mem_cons, List.not_mem_nil, or_false] at hx
    rcases hx with rfl | rfl
    · exact .inl h3
    · exact .inl h4
  have HLow : Hid (Low w4.heap.size (fun (pre : List (Nat × List Nat)) A => (doW d pre).1 = 0 ∧ DR A p g cv (doW d pre).2 ∧ Buts [p, g] w4.heap.size w4 A)) := fun pre A A' ⟨a1, a2, a3⟩ hb => ⟨a1, a2.low hb (by omega) (by omega), a3.trans (Buts.of_below hb (Nat.le_refl _))⟩
  have HLowx : Hid (∀ c : Code, Low w4.heap.size (fun (_ : List (Nat × List Nat)) A => c = .ret ∧ (doW d ws).1 ≠ 0 ∧ DR A p g cv (doW d ws).2 ∧ Row A (w.heap.size + 1) 32 [.int .i64 (doW d ws).1] ∧ Row A L 59 [.bool false, .pointer (some ⟨p, 0, none⟩), .int .u32 (l.gen : Nat), .int .i64 ((l.f + l.pos : Nat) : Int), .int .i64 ((l.f + l.n : Nat) : Int), .slice vq l.recs.length vc] ∧ Buts [p, g, L, w.heap.size + 1] w4.heap.size w4 A)) := fun c _ A A' ⟨a1, a2, a3, a4, a5, a6⟩ hb => ⟨a1, a2, a3.low hb (by omega) (by omega), a4.below hb (by omega), a5.below hb (by omega), a6.trans (Buts.of_below hb (Nat.le_refl _))⟩
  rw [hw4]
  clear hw4 hcv hS4
  refine wpIn_rangeFunc_nx rfl h1n (gf := 49) (lb := #[.pointer (some ⟨w2.heap.size, 0, none⟩), .pointer (some ⟨w2.heap.size + 1, 0, none⟩)]) rfl trivial (enters_of Try.func49 (by kernel_rfl) rfl)
    (encs := fun x : Nat × List Nat => #[.int .i64 (x.1 : Nat), .agg (u8s x.2).toArray]) (Ok := fun x _ => IsSec x.2) (Kp := KpC [p, g] (w4.heap.size + 2)) (Kx := KxL L [p, g, L, w.heap.size + 1] (w4.heap.size + 2)) (Nx := fun pre x => ∃ post, ws = pre ++ x :: post) (S := fun xs => xs = ws) (Sp := fun _ => True)
    (fun W hsz hb => by
      have := writes1_iter (n - 1) (by omega) (w4.heap.size + 1) w2.heap.size (w2.heap.size + 1) L p g (w.heap.size + 1) (l.f + l.pos) (l.f + l.n) l.gen l.recs.length vq vc q len cap zs m W (boxed_below bX1 hb) (boxed_below bX2 hb) (HL4.out.later hb) ((HI.out.below (HBe4.out.mono hm)).below (hb.mono (by omega))) (by omega) hqn hlen (by omega) (by omega) (by simp; omega) (by simp; omega) (by simp; omega) (fun x hx => by simp only [List.mem_cons, List.not_mem_nil, or_false] at hx; omega)
      rw [hws, hsz] at this
      exact this)
    KpC.trans (fun A o o' ho hc => KpC.record (by omega) o' ho hc) KpC.of_below
    (fun h k => ⟨(h.mono (by simp) (Nat.le_refl _)).trans k.1, fun i u hi hc => k.2 i u hi (by
      obtain ⟨c, t, fr, e1, e2⟩ := cells_of_cell hc
      have e3 := h.1 L c t fr (by simp; omega) e1
      simp [World.cell?, e3, e2])⟩)
    (fun h k => ⟨h.1.trans (k.mono (by simp) (Nat.le_refl _)), fun i u hi hc => by
      obtain ⟨c, t, fr, e1, e2⟩ := cells_of_cell (h.2 i u hi hc)
      have e3 := k.1 L c t fr (by simp; omega) e1
      simp [World.cell?, e3, e2]⟩)
    (fun _ => rfl) 55 (fun x => u8s x.2)
    (fun pre A => (doW d pre).1 = 0 ∧ DR A p g cv (doW d pre).2 ∧ Buts [p, g] w4.heap.size w4 A)
    (fun c _ A => c = .ret ∧ (doW d ws).1 ≠ 0 ∧ DR A p g cv (doW d ws).2 ∧ Row A (w.heap.size + 1) 32 [.int .i64 (doW d ws).1] ∧ Row A L 59 [.bool false, .pointer (some ⟨p, 0, none⟩), .int .u32 (l.gen : Nat), .int .i64 ((l.f + l.pos : Nat) : Int), .int .i64 ((l.f + l.n : Nat) : Int), .slice vq l.recs.length vc] ∧ Buts [p, g, L, w.heap.size + 1] w4.heap.size w4 A)
    HLow.out HLowx.out (fun _ _ _ h _ => h) ⟨rfl, HDR4.out, Buts.refl _ _ _⟩
    (fun x A => { tmps := #[.pointer (some ⟨L, 0, none⟩), .slice q len cap, .pointer (some ⟨w.heap.size, 0, none⟩), undef, .pointer (some ⟨w.heap.size + 1, 0, none⟩), .int .i64 (x.1 : Nat), .pointer (some ⟨A.heap.size, 0, none⟩), undef, .bool false, .pointer (some ⟨L, 0, none⟩), .bool false, .bool false, .pointer (some ⟨L, 0, none⟩), .pointer (some ⟨L, 0, none⟩), .pointer (some ⟨L, 0, none⟩), .bool true, .bool false, .bool false, .bool false, .slice q len cap, .int .i64 (len : Nat), .bool false, .bool false, .slice q len cap, .int .i64 (len : Nat), .int .i64 (k : Nat), .pointer (some ⟨L, 0, none⟩), .int .i64 (rm : Nat), .bool false, .pointer (some ⟨L, 0, none⟩), .slice q len cap, .func (.func 49) #[] #[.pointer (some ⟨w2.heap.size, 0, none⟩), .pointer (some ⟨w2.heap.size + 1, 0, none⟩)], .int .i64 (x.1 : Nat), .agg (u8s x.2).toArray, undef, undef, undef, undef, undef, undef, undef, undef, undef, undef, undef, undef, undef, undef, undef, undef, undef], defers := [] }) ?assign ?body ?done ?stop
  case assign =>
    intro li x A K hok hK
    have HXL : Hid ((u8s x.2).length = 64) := by show _ = _; rw [u8s_length]; exact hok.1
    have HX1 : Hid (∀ u ∈ u8s x.2, u.oneCell' = true) := u8s_one x.2
    have HK : Hid (∀ W', Below A.heap.size A W' → Row W' A.heap.size 55 (u8s x.2) → K _ W') := hK
    clear hK
    generalize u8s x.2 = V at *
    gi_wp2_with ((with_reducible show wpListIn _ _ _ _ _ (Oper.mk _ (Op.store 55 (.tmp 6) (.tmp 33)) _ _ _ _ :: _) _ _); rw [z64u8]; refine wpListIn_store_new rfl (.tmp 6) (.tmp 33) rfl V HXL.out HX1.out rfl rfl (fun w5 hb5 hR5 hs5 => ?_); simp only [Act.put])
    exact HK.out _ hb5 hR5
  case body =>
    rintro li pre x A₀ A ⟨a1, a2, a3⟩ hok ⟨post, hpost⟩ hle hrow
    have hDA : DiskAt F A p g (doW d pre).2 := DR.disk HS4.out HCv.out a2 (doW_cr pre d) a3 hS4x
    have hSA : MSt F n₀ A L p g v (doW d pre).2 l := HS4.out.wrote hDA a3 (fun u hu => by rw [HCv.out] at hu; cases hu; exact a2.2.2.cell (i := 4) rfl)
    have hwrA : (doW d pre).2.wr < 1000000 := by
      have := doW_wr pre d
      have h2 : pre.length ≤ ws.length := by rw [hpost, List.length_append]; omega
      have := HWl.out
      omega
    have HSA : Hid (MSt F n₀ A L p g v (doW d pre).2 l) := hSA
    have HWr : Hid (Calls Try.prog 25 #[.pointer (some ⟨p, 0, none⟩), .int .i64 (x.1 : Nat), .agg (u8s x.2).toArray] A.drew fun e w' => e = .returned (.int .i64 ((doW d pre).2.wErr (x.1 : Nat))) ∧ DiskAt F w' p g ((doW d pre).2.write (x.1 : Nat) x.2) ∧ Buts [p, g] A.heap.size A w' ∧ ∀ u, A.cell? ⟨p, 4, none⟩ = some u → w'.cell? ⟨p, 4, none⟩ = some u) :=
      (write_keep (hDA.later (Below.refl _ _).drew) (x.1 : Nat) hok hwrA).mono fun e w' ⟨b1, b2, b3, b4⟩ => ⟨b1, b2, ⟨b3.os, b3.tape, b3.output, b3.size, b3.block⟩, b4⟩
    have hszA := a3.size
    have hrBA : Row A w.heap.size 31 [.pointer (some ⟨L, 0, none⟩)] := a3.row HRB4.out.lt (by simp; omega) HRB4.out
    have hrRA : Row A (w.heap.size + 1) 32 [.int .i64 0] := a3.row HRR4.out.lt (by simp; omega) HRR4.out
    have hrLA : Row A L 59 [.bool true, .pointer (some ⟨p, 0, none⟩), .int .u32 (l.gen : Nat), .int .i64 ((l.f + l.pos : Nat) : Int), .int .i64 ((l.f + l.n : Nat) : Int), .slice vq l.recs.length vc] := a3.row HL4.out.lt (by simp; omega) HL4.out
    have HC : Hid (∀ Y, Buts [p, g] A.heap.size A Y → Y.cell? ⟨w.heap.size, 0, none⟩ = some (.pointer (some ⟨L, 0, none⟩)) ∧ Y.cell? ⟨L, 1, none⟩ = some (.pointer (some ⟨p, 0, none⟩))) := fun Y hb => ⟨(hb.row hrBA.lt (by simp; omega) hrBA).cell (i := 0) rfl, (hb.row hrLA.lt (by simp; omega) hrLA).cell (i := 1) rfl⟩
    have HXR : Hid (∀ Y, Buts [p, g] A.heap.size A Y → Y.rangeAt A₀.heap.size 0 (u8s x.2)) := fun Y hb => (hb.row hrow.lt (by simp; omega) hrow).range
    have HXL : Hid ((u8s x.2).length = 64) := by show _ = _; rw [u8s_length]; exact hok.1
    have HRLA : Hid (Row A L 59 [.bool true, .pointer (some ⟨p, 0, none⟩), .int .u32 (l.gen : Nat), .int .i64 ((l.f + l.pos : Nat) : Int), .int .i64 ((l.f + l.n : Nat) : Int), .slice vq l.recs.length vc]) := hrLA
    have HRRA : Hid (Row A (w.heap.size + 1) 32 [.int .i64 0]) := hrRA
    have HRBA : Hid (Row A w.heap.size 31 [.pointer (some ⟨L, 0, none⟩)]) := hrBA
    have HA3 : Hid (Buts [p, g] w4.heap.size w4 A) := a3
    have HCvA : Hid (A.cell? ⟨p, 4, none⟩ = some cv) := a2.2.2.cell (i := 4) rfl
    have HOkN : Hid ((doW d pre).2.wErr (x.1 : Nat) = 0 → doW d (pre ++ [x]) = (0, (doW d pre).2.write (x.1 : Nat) x.2)) := fun he => doW_snoc (j := x.1) (s := x.2) a1 he
    have HBad : Hid ((doW d pre).2.wErr (x.1 : Nat) ≠ 0 → doW d ws = ((doW d pre).2.wErr (x.1 : Nat), (doW d pre).2.write (x.1 : Nat) x.2)) := fun he => by rw [hpost]; exact doW_fail (j := x.1) (s := x.2) a1 he
    have HCells : Hid (∀ y ∈ [p, g], ∃ c t fr, A.heap[y]? = some (Obj.cells c t fr)) := fun y hy => by
      obtain ⟨⟨c1, f1, e1⟩, ⟨c2, f2, e2⟩, _⟩ := hSA.rows
      simp only [List.mem_cons, List.not_mem_nil, or_false] at hy
      rcases hy with rfl | rfl
      · exact ⟨_, _, _, e1⟩
      · exact ⟨_, _, _, e2⟩
    obtain ⟨e0, hE0⟩ : ∃ e0, (doW d pre).2.wErr (x.1 : Nat) = e0 := ⟨_, rfl⟩
    rw [hE0] at HWr HOkN HBad
    obtain ⟨d', hd'⟩ : ∃ d', (doW d pre).2.write (x.1 : Nat) x.2 = d' := ⟨_, rfl⟩
    rw [hd'] at HWr HOkN HBad
    obtain ⟨V, hV⟩ : ∃ V, u8s x.2 = V := ⟨_, rfl⟩
    rw [hV] at HWr HXR HXL ⊢
    clear hDA hSA hrow hok a1 a2 a3 hV hE0 hd' hrBA hrRA hrLA hwrA
    gi_wp2
    refine wpIn_region_on_round (S := fun Y => Buts [p, g] A.heap.size A Y) (by kernel_rfl) (by kernel_rfl) (Buts.refl _ _ _).drew (fun hHeld => ?_)
    refine wpAnyH_takesAt 0 4 4 (of_decide_eq_true (by kernel_rfl)) rfl (fun _ _ _ d _ h => by cases d <;> exact h) (by kernel_rfl) (by kernel_rfl) hHeld ?_
    simp only [List.drop_zero, List.take_succ_cons, List.take_zero]
    iterate 4 (refine wpHeld_step (v := ?_) (by rfl) (fun wz hSw => ?_) ?_; rotate_left; (focus (obtain ⟨hc1, hc2⟩ := HC.out wz hSw; clear hSw; go_simp; try with_reducible rfl)); (simp only [Act.put, List.setIfInBounds_toArray, List.set_cons_zero, List.set_cons_succ]))
    refine wpHeld_nil ?_
    refine wpAnyH_takesAt 4 1 3 (of_decide_eq_true (by kernel_rfl)) rfl (fun _ _ _ d _ h => by cases d <;> exact h) (by kernel_rfl) (by kernel_rfl) hHeld ?_
    simp only [List.drop_succ_cons, List.drop_zero, List.take_succ_cons, List.take_zero]
    iterate 1 (refine wpHeld_step (v := ?_) (by rfl) (fun wz hSw => ?_) ?_; rotate_left; (focus ((try dsimp only at hSw); go_simp; try with_reducible rfl)); ((simp only [Act.put]; (try simp only [List.setIfInBounds_toArray]); (try simp only [List.set_cons_succ]); (try simp only [List.set_cons_zero]))))
    refine wpHeld_nil ?_
    refine wpAnyH_takesAt 5 1 2 (of_decide_eq_true (by kernel_rfl)) rfl (fun _ _ _ d _ h => by cases d <;> exact h) (by kernel_rfl) (by kernel_rfl) hHeld ?_
    simp only [List.drop_succ_cons, List.drop_zero, List.take_succ_cons, List.take_zero]
    refine wpHeld_load (by rfl) 55 (.tmp 6) rfl A₀.heap.size (0) rfl V (fun W hW => HXR.out W hW) Try.underlying55 (by rw [HXL.out]; exact size55) ?_
    (simp only [Act.put]; (try simp only [List.setIfInBounds_toArray]); (try simp only [List.set_cons_succ]); (try simp only [List.set_cons_zero]))
    refine wpHeld_nil ?_
    refine wpAnyH_only (i := 6) (by kernel_rfl) rfl (fun K hK => ?_)
    rw [if_pos (by rfl)]
    go_simp
    refine HWr.out.mono ?_
    rintro e A7 ⟨rfl, hD7, hb7, hc7⟩
    refine hK.out _ _ hb7 ?_
    clear hK K hHeld
    have hHeld := hb7
    refine wpAnyH_takesAt 7 1 0 (of_decide_eq_true (by kernel_rfl)) rfl (fun _ _ _ d _ h => by cases d <;> exact h) (by kernel_rfl) (by kernel_rfl) hHeld ?_
    simp only [List.drop_succ_cons, List.drop_zero, List.take_succ_cons, List.take_zero]
    iterate 1 (refine wpHeld_step (v := ?_) (by rfl) (fun wz hSw => ?_) ?_; rotate_left; (focus ((try dsimp only at hSw); go_simp; try with_reducible rfl)); ((simp only [Act.put]; (try simp only [List.setIfInBounds_toArray]); (try simp only [List.set_cons_succ]); (try simp only [List.set_cons_zero]))))
    refine wpHeld_nil ?_
    refine wpAnyH_done (by kernel_rfl) ?_ _
    refine OnOnly.on ?_
    have HD7 : Hid (DiskAt F A7 p g d') := hD7
    have HC7 : Hid (A7.cell? ⟨p, 4, none⟩ = some cv) := hc7 _ HCvA.out
    have HB7 : Hid (Buts [p, g] A.heap.size A A7) := hb7
    have HDR7 : Hid (DR A7 p g cv d') := DR.of hD7 HC7.out
    have HBe7 : Hid (Buts [p, g] w4.heap.size w4 A7) := HA3.out.trans (hb7.mono (fun _ h => h) hszA)
    have HKf : Hid (KeepsFrom w4.heap.size A A7) := keepsFrom_buts hb7 HCells.out
    have HRL7 : Hid (Row A7 L 59 [.bool true, .pointer (some ⟨p, 0, none⟩), .int .u32 (l.gen : Nat), .int .i64 ((l.f + l.pos : Nat) : Int), .int .i64 ((l.f + l.n : Nat) : Int), .slice vq l.recs.length vc]) := hb7.row HRLA.out.lt (by simp; omega) HRLA.out
    have HRR7 : Hid (Row A7 (w.heap.size + 1) 32 [.int .i64 0]) := hb7.row HRRA.out.lt (by simp; omega) HRRA.out
    have HRB7 : Hid (Row A7 w.heap.size 31 [.pointer (some ⟨L, 0, none⟩)]) := hb7.row HRBA.out.lt (by simp; omega) HRBA.out
    clear hD7 hc7 hHeld hb7
    by_cases he : e0 = 0
    · have g1 : (e0 == 0) = true := by rw [he]; rfl
      have HN := HOkN.out he
      have HNx : Hid (doW d (pre ++ [x]) = (0, d')) := HN
      clear HN
      gi_wp2
      refine ⟨HKf.out, ⟨CK.of_buts HB7.out, Ch.keepsFrom_ge HKf.out (by omega)⟩, ?_⟩
      dsimp only
      rw [HNx.out]
      exact ⟨rfl, HDR7.out, HBe7.out⟩
    · have g1 : (e0 == 0) = false := by simp [he]
      have HNx : Hid (doW d ws = (e0, d')) := HBad.out he
      have hcB7 := HRB7.out.cell (i := 0) rfl
      have hcL7 := HRL7.out.cell (i := 0) rfl
      have hfL7 := HRL7.out.frozen 0
      have HR8 : Hid (Row (A7.setCell ⟨L, 0, none⟩ (.bool false)) (w.heap.size + 1) 32 [.int .i64 0]) := HRR7.out.other (a := ⟨L, 0, none⟩) (by show w.heap.size + 1 ≠ L; omega) _
      have hcR8 := HR8.out.cell (i := 0) rfl
      have hfR8 := HR8.out.frozen 0
      clear HBad HOkN
      gi_wp2
      have hbA9 : Buts [p, g, L, w.heap.size + 1] A.heap.size A ((A7.setCell ⟨L, 0, none⟩ (.bool false)).setCell ⟨w.heap.size + 1, 0, none⟩ (.int .i64 e0)) := ((HB7.out.mono (by simp) (Nat.le_refl _)).set (by simp) 0 _).set (by simp) 0 _
      have hkA9 : KeepsFrom w4.heap.size A ((A7.setCell ⟨L, 0, none⟩ (.bool false)).setCell ⟨w.heap.size + 1, 0, none⟩ (.int .i64 e0)) := keepsFrom_buts hbA9 (fun y hy => by
        simp only [List.mem_cons, List.not_mem_nil, or_false] at hy
        rcases hy with rfl | rfl | rfl | rfl
        · exact HCells.out _ (by simp)
        · exact HCells.out _ (by simp)
        · exact ⟨_, _, _, HRLA.out⟩
        · exact ⟨_, _, _, HRRA.out⟩)
      have hrL9 := (HRL7.out.set 0 (.bool false)).other (a := ⟨w.heap.size + 1, 0, none⟩) (by show L ≠ w.heap.size + 1; omega) (.int .i64 e0)
      have hrR9 := HR8.out.set 0 (.int .i64 e0)
      refine ⟨hkA9, ⟨⟨CK.of_buts hbA9, Ch.keepsFrom_ge hkA9 (by omega)⟩, fun i u hi hc => ?_⟩, rfl, by rw [HNx.out]; exact he, ?_, by rw [HNx.out]; exact hrR9, hrL9, (HA3.out.mono (by simp) (Nat.le_refl _)).trans (hbA9.mono (fun _ h => h) hszA)⟩
      · match i, hi, hc with
        | 0, hi, _ => exact absurd rfl hi
        | 1, _, hc => rw [HRLA.out.cell (i := 1) rfl] at hc; cases hc; exact hrL9.cell (i := 1) rfl
        | 2, _, hc => rw [HRLA.out.cell (i := 2) rfl] at hc; cases hc; exact hrL9.cell (i := 2) rfl
        | 3, _, hc => rw [HRLA.out.cell (i := 3) rfl] at hc; cases hc; exact hrL9.cell (i := 3) rfl
        | 4, _, hc => rw [HRLA.out.cell (i := 4) rfl] at hc; cases hc; exact hrL9.cell (i := 4) rfl
        | 5, _, hc => rw [HRLA.out.cell (i := 5) rfl] at hc; cases hc; exact hrL9.cell (i := 5) rfl
        | i + 6, _, hc => simp [World.cell?, show A.heap[L]? = _ from HRLA.out] at hc
      · rw [HNx.out]
        exact ⟨HDR7.out.1, (HDR7.out.2.1.other (a := ⟨L, 0, none⟩) (by show g ≠ L; omega) _).other (a := ⟨w.heap.size + 1, 0, none⟩) (by show g ≠ w.heap.size + 1; omega) _, (HDR7.out.2.2.other (a := ⟨L, 0, none⟩) (by show p ≠ L; omega) _).other (a := ⟨w.heap.size + 1, 0, none⟩) (by show p ≠ w.heap.size + 1; omega) _⟩
  case done =>
    rintro D xs A hD hxs ⟨a1, a2, a3⟩ hKD
    rw [hxs] at a1 a2
    have hszA := a3.size
    have hDA : DiskAt F A p g (doW d ws).2 := DR.disk HS4.out HCv.out a2 (doW_cr ws d) a3 hS4x
    have hSA : MSt F n₀ A L p g v (doW d ws).2 l := HS4.out.wrote hDA a3 (fun u hu => by rw [HCv.out] at hu; cases hu; exact a2.2.2.cell (i := 4) rfl)
    have hIA : IsBytes m A q len cap zs := (CK.of_buts (A := w4) a3).bytes (fun hp0 b off e hb hx => by have := hqn hp0 b off e; simp only [List.mem_cons, List.not_mem_nil, or_false] at hx; omega) (HI.out.below (HBe4.out.mono hm))
    have hokA : LgOk l (doW d ws).2 := ⟨HOk.out.f, HOk.out.n, HOk.out.pos, HOk.out.gen, HOk.out.recs, by have := doW_wr ws d; have := HWl.out; omega⟩
    have HCl : Hid (Calls Try.prog 41 #[.slice q len cap] A.drew fun e w' => ∃ u, e = .returned u ∧ Own A.heap.size w' u zs ∧ Below A.heap.size A w') := (clone41_any (hIA.below (Below.refl _ _).drew) (by omega)).mono fun e w' ⟨u, b1, b2, b3⟩ => ⟨u, b1, b2, (Below.refl _ A).drew.trans b3⟩
    have HTk : Hid (∀ (Y : World) (q2 : Option Addr) (c2 : Nat), Below A.heap.size A Y → Bytes5 Y (.slice q2 len c2) zs → Calls Try.prog 32 #[.pointer (some ⟨L, 0, none⟩), .slice q2 len c2] Y (TakePost F n₀ Y L p g v (doW d ws).2 { l with pos := l.pos + k, recs := l.recs ++ [zs] })) := fun Y q2 c2 hb hx => by
      have hk' : spanN (len : Nat) = k := by have := HKz.out; rw [HLn.out] at this; exact this
      have := take_any (hSA.later hb) hokA hx (by rw [hk']; omega) (by have := hb.size; omega)
      rw [hk'] at this
      exact this
    have hrBA : Row A w.heap.size 31 [.pointer (some ⟨L, 0, none⟩)] := a3.row HRB4.out.lt (by simp; omega) HRB4.out
    have HRRA : Hid (Row A (w.heap.size + 1) 32 [.int .i64 0]) := a3.row HRR4.out.lt (by simp; omega) HRR4.out
    have HRBA : Hid (Row A w.heap.size 31 [.pointer (some ⟨L, 0, none⟩)]) := hrBA
    have HAp : Hid (appL d l zs = (0, (doW d ws).2, { l with recs := l.recs ++ [zs], pos := l.pos + k })) := by
      show _ = _
      rw [HApp.out, if_neg (by rw [a1]; simp)]
    have HKDA : Hid (A.heap[D]? = some (.deferred (some []))) := hKD
    have HDl : Hid (D < A.heap.size) := (Array.getElem?_eq_some_iff.1 hKD).1
    have HA3 : Hid (Buts [p, g] w4.heap.size w4 A) := a3
    have HK5 : Hid (KeepT 5 w A) := (KeepT.of_below HBe4.out).trans (HS4.out.keep5 a3)
    have HOwl : Hid (∀ k, v.ownBlock = some k → n₀ ≤ k ∧ k < w.heap.size ∧ k ≠ p ∧ k ≠ g ∧ k ≠ L) := fun k hk => HSt.out.own hk
    clear hDA hSA hIA hokA hrBA a1 a2 a3 hKD
    gi_wp2
    refine wpIn_region_on_wide (S := fun Y => Row Y w.heap.size 31 [.pointer (some ⟨L, 0, none⟩)]) (by kernel_rfl) (by kernel_rfl) HRBA.out.drew (fun hHeld => ?_)
    refine wpAnyH_takesAt 0 1 3 (of_decide_eq_true (by kernel_rfl)) rfl (fun _ _ _ d _ h => by cases d <;> exact h) (by kernel_rfl) (by kernel_rfl) hHeld ?_
    simp only [List.drop_zero, List.take_succ_cons, List.take_zero]
    iterate 1 (refine wpHeld_step (v := ?_) (by rfl) (fun wz hSw => ?_) ?_; rotate_left; (focus (have hc := hSw.cell (i := 0) rfl; clear hSw; go_simp; try with_reducible rfl)); ((simp only [Act.put]; (try simp only [List.setIfInBounds_toArray]); (try simp only [List.set_cons_succ]); (try simp only [List.set_cons_zero]))))
    refine wpHeld_nil ?_
    refine wpAnyH_takesAt 1 1 2 (of_decide_eq_true (by kernel_rfl)) rfl (fun _ _ _ d _ h => by cases d <;> exact h) (by kernel_rfl) (by kernel_rfl) hHeld ?_
    simp only [List.drop_succ_cons, List.drop_zero, List.take_succ_cons, List.take_zero]
    iterate 1 (refine wpHeld_step (v := ?_) (by rfl) (fun wz hSw => ?_) ?_; rotate_left; (focus ((try dsimp only at hSw); go_simp; try with_reducible rfl)); ((simp only [Act.put]; (try simp only [List.setIfInBounds_toArray]); (try simp only [List.set_cons_succ]); (try simp only [List.set_cons_zero]))))
    refine wpHeld_nil ?_
    refine wpAnyH_only (i := 2) (by kernel_rfl) rfl (fun K hK => ?_)
    rw [if_pos (by rfl)]
    go_simp
    refine HCl.out.mono ?_
    rintro e Y2 ⟨u2, rfl, ho2, hb2⟩
    obtain ⟨q2, c2, rfl⟩ : ∃ q c, u2 = .slice q len c := by
      obtain ⟨a, b, e⟩ := ho2.slice
      rw [HLn.out] at e
      exact ⟨a, b, e⟩
    refine hK.out _ _ (HRBA.out.later hb2) ?_
    clear hK K hHeld
    refine wpAnyH_only (i := 3) (by kernel_rfl) rfl (fun K hK => ?_)
    rw [if_pos (by rfl)]
    go_simp
    refine (HTk.out Y2 q2 c2 hb2 (Bytes5.of_own ho2 HZ.out)).mono ?_
    rintro e Y3 ⟨⟨u3, rfl⟩, v3, hs3, hb3, hk3, hv3⟩
    have hnB : w.heap.size ∉ L :: ownL v := fun hx => by
      rcases List.mem_cons.1 hx with h | h
      · omega
      · have := HOwl.out _ (mem_ownL.1 h); omega
    have hnR : w.heap.size + 1 ∉ L :: ownL v := fun hx => by
      rcases List.mem_cons.1 hx with h | h
      · omega
      · have := HOwl.out _ (mem_ownL.1 h); omega
    have hnD : D ∉ L :: ownL v := fun hx => by
      rcases List.mem_cons.1 hx with h | h
      · omega
      · have := HOwl.out _ (mem_ownL.1 h); omega
    have hs2' := hb2.size
    refine hK.out _ _ (hb3.row (by omega) hnB (HRBA.out.later hb2)) ?_
    clear hK K
    have HR3 : Hid (Row Y3 (w.heap.size + 1) 32 [.int .i64 0]) := hb3.row (by omega) hnR (HRRA.out.later hb2)
    have HKD3 : Hid (Y3.heap[D]? = some (.deferred (some []))) := (hb3.block D (by have := HDl.out; omega) hnD).trans ((hb2.block D HDl.out).trans HKDA.out)
    have HS3 : Hid (MSt F n₀ Y3 L p g v3 (doW d ws).2 { l with pos := l.pos + k, recs := l.recs ++ [zs] }) := hs3
    have HB3 : Hid (Buts (L :: ownL v) Y2.heap.size Y2 Y3) := hb3
    have HK3 : Hid (KeepT 5 w Y3) := (HK5.out.trans (KeepT.of_below hb2)).trans hk3
    have HV3 : Hid (∀ k, v3.ownBlock = some k → v.ownBlock = some k ∨ Y2.heap.size ≤ k) := hv3
    clear hs3 hb3 hk3 hv3 ho2
    (try simp only [Act.put, List.getElem_toArray, List.getElem_cons_succ, List.getElem_cons_zero, List.setIfInBounds_toArray, List.set_cons_succ, List.set_cons_zero])
    refine wpAnyH_done (by kernel_rfl) ?_ _
    refine OnOnly.on ?_
    have hcR := HR3.out.cell (i := 0) rfl
    have hfR := HR3.out.frozen 0
    gi_wp2
    have hset : Buts [w.heap.size + 1] Y3.heap.size Y3 (Y3.setCell ⟨w.heap.size + 1, 0, none⟩ (.int .i64 0)) := (Buts.refl _ _ _).set (by simp) 0 _
    have hD3 := (Array.getElem?_eq_some_iff.1 HKD3.out).1
    have hKD4 : (Y3.setCell ⟨w.heap.size + 1, 0, none⟩ (.int .i64 0)).heap[D]? = some (.deferred (some [])) := (hset.block D hD3 (by simp; omega)).trans HKD3.out
    have hS4' : MSt F n₀ (Y3.setCell ⟨w.heap.size + 1, 0, none⟩ (.int .i64 0)) L p g v3 (doW d ws).2 { l with pos := l.pos + k, recs := l.recs ++ [zs] } := by
      refine HS3.out.frame hset (by simp; omega) (by simp; omega) (by simp; omega) (fun k hk hx => ?_) (fun x hx => by rw [List.mem_singleton] at hx; exact .inr (by omega)) (keepT_of_buts hset (fun x hx => by rw [List.mem_singleton] at hx; subst hx; exact ⟨_, _, _, HR3.out, by decide⟩))
      rw [List.mem_singleton] at hx
      obtain ⟨_, _, c, fr, e⟩ := HS3.out.log.2.own hk
      exact tag_ne e HR3.out (by decide) hx
    have hK4 : KeepT 5 Y3 (Y3.setCell ⟨w.heap.size + 1, 0, none⟩ (.int .i64 0)) := keepT_of_buts hset (fun x hx => by rw [List.mem_singleton] at hx; subst hx; exact ⟨_, _, _, HR3.out, by decide⟩)
    refine ⟨by simp, .inl ⟨_, _, rfl, run_takeDeferred hKD4, ?_⟩⟩
    have hrE : Row ((Y3.setCell ⟨w.heap.size + 1, 0, none⟩ (.int .i64 0)).putObj D (.deferred none)) (w.heap.size + 1) 32 [.int .i64 0] := (World.putObj_heap_other (by omega)).trans (HR3.out.set 0 (.int .i64 0))
    refine ⟨_, results_err rfl rfl hrE, ?_⟩
    rw [HAp.out]
    refine ⟨v3, rfl, hS4'.put _ hKD4 rfl (by omega), ?_, (HK3.out.trans hK4).trans (keepT_put _ hKD4 rfl), fun k hk => ?_⟩
    · have b1 : Buts (L :: p :: g :: ownL v) w.heap.size w A := (Buts.of_below HBe4.out (Nat.le_refl _)).trans (HA3.out.mono (by simp) (by omega))
      have b2 : Buts (L :: p :: g :: ownL v) w.heap.size w Y2 := b1.trans (Buts.of_below hb2 (by omega))
      have b3 : Buts (L :: p :: g :: ownL v) w.heap.size w Y3 := b2.trans (HB3.out.mono (fun x hx => by rcases List.mem_cons.1 hx with h | h; exact h ▸ List.mem_cons_self ..; exact List.mem_cons_of_mem _ (List.mem_cons_of_mem _ (List.mem_cons_of_mem _ h))) (by omega))
      exact (b3.trans (Buts.of_below (below_set (B := w.heap.size) (by omega) _) (Nat.le_refl _))).trans (Buts.of_below (below_putObj (B := w.heap.size) _ _ (by omega)) (Nat.le_refl _))
    · rcases HV3.out k hk with h | h
      · exact .inl h
      · exact .inr (by omega)
  case stop =>
    rintro D c pre A hD _ ⟨rfl, a2, a3, a4, a5, a6⟩ hKD
    have hszA := a6.size
    have HAp : Hid (appL d l zs = ((doW d ws).1, (doW d ws).2, { l with broken := true })) := by
      show _ = _
      rw [HApp.out, if_pos a2]
    have hS4y : ∀ x ∈ [p, g, L, w.heap.size + 1], x ∈ F ∨ n₀ ≤ x := fun x hx => by
      simp only [List.mem_cons, List.not_mem_nil, or_false] at hx
      rcases hx with rfl | rfl | rfl | rfl
      · exact hS4x _ (by simp)
      · exact hS4x _ (by simp)
      · exact .inr hnL
      · exact .inr (by omega)
    have hDA : DiskAt F A p g (doW d ws).2 := DR.disk HS4.out HCv.out a3 (doW_cr ws d) a6 hS4y
    have hK5 : KeepT 5 w4 A := keepT_of_buts a6 (fun x hx => by
      obtain ⟨⟨c1, f1, e1⟩, ⟨c2, f2, e2⟩, ⟨c3, f3, e3⟩⟩ := HS4.out.rows
      simp only [List.mem_cons, List.not_mem_nil, or_false] at hx
      rcases hx with rfl | rfl | rfl | rfl
      · exact ⟨_, _, _, e1, by decide⟩
      · exact ⟨_, _, _, e2, by decide⟩
      · exact ⟨_, _, _, e3, by decide⟩
      · exact ⟨_, _, _, HRR4.out, by decide⟩)
    have HSA : Hid (MSt F n₀ A L p g v (doW d ws).2 { l with broken := true }) := by
      refine ⟨hDA, HS4.out.cr.same HCv.out (a3.2.2.cell (i := 4) rfl), ⟨by rw [HV.out]; exact a5, HS4.out.log.2.frame (fun k hk => a6.block k (by have := (HS4.out.own hk).2.1; omega) (fun hx => ?_)) hK5⟩, hnL, hpn⟩
      have h1 := HS4.out.own hk
      have h2 := HSt.out.own hk
      simp only [List.mem_cons, List.not_mem_nil, or_false] at hx
      omega
    have HRA : Hid (Row A (w.heap.size + 1) 32 [.int .i64 (doW d ws).1]) := a4
    have HKDA : Hid (A.heap[D]? = some (.deferred (some []))) := hKD
    have HA6 : Hid (Buts [p, g, L, w.heap.size + 1] w4.heap.size w4 A) := a6
    have HK5 : Hid (KeepT 5 w A) := (KeepT.of_below HBe4.out).trans hK5
    gi_wp2
    refine ⟨by simp, .inl ⟨_, _, rfl, run_takeDeferred HKDA.out, ?_⟩⟩
    have hrE : Row (A.putObj D (.deferred none)) (w.heap.size + 1) 32 [.int .i64 (doW d ws).1] := (World.putObj_heap_other (by omega)).trans HRA.out
    refine ⟨_, results_err rfl rfl hrE, ?_⟩
    rw [HAp.out]
    refine ⟨v, rfl, HSA.out.put _ HKDA.out rfl (by omega), ?_, HK5.out.trans (keepT_put _ HKDA.out rfl), fun k hk => .inl hk⟩
    have b1 : Buts (L :: p :: g :: ownL v) w.heap.size w A := by
      refine ⟨HA6.out.os.trans HBe4.out.os, HA6.out.tape.trans HBe4.out.tape, HA6.out.output.trans HBe4.out.output, Nat.le_trans HBe4.out.size HA6.out.size, fun k hk hS => (HA6.out.block k (by omega) (fun hx => ?_)).trans (HBe4.out.block k hk)⟩
      simp only [List.mem_cons, List.not_mem_nil, or_false, not_or] at hx hS
      omega
    exact b1.trans (Buts.of_below (below_putObj (B := w.heap.size) _ _ (by omega)) (Nat.le_refl _))
end Go.Proofs.Ytifjkkfienmdjaa
