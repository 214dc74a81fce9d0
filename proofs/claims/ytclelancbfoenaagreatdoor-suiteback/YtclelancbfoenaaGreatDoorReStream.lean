/-
  What chacha.Stream answers: any bytes (up to 50,000), turned, in memory of their own. Nothing that lay before the call has turned.
-/
import Derived.Test.YtclelancbfoenaaGreatDoorBaseAll
import Derived.Test.YtclelancbfoenaaGreatDoorReB
import Derived.ArgAppend
import Derived.Scope
namespace Go.Proofs.YtclelancbfoenaaGreatDoor.Re
open Go.RowKit Go.Shelf
attribute [local go_sem] Oper.semAt_some

theorem run_index86 (cs : List Value) (k : Nat) (v : Value) (hk : k < 64) (hv : cs[k]? = some v) (w : World) : (Instr.index 86 (.agg cs.toArray) (.int .i64 (k : Int))).run Tryz.prog w = .ok v w := by
  simp [Instr.index, run_underlying Tryz.underlying86, asIntOf, go_sem, hv]
  omega

/-- A region that draws its order, in a round, under the gate law. -/
theorem wpIn_region_gate_on {P : Program} {ops : Array Oper} {Q : Exit → Act → World → Prop} {l m id : Nat} {a : Act} {w : World} (c : Nat) (T : World → Prop) (hm : P.follows .mixedOrders = true) (hd : noDefer ops = true)
    (h : wpAnyG P .any ops (OnOnly Q) c T ops.size (Array.replicate ops.size false) a w.drew) : (Code.region id ops true).wpIn (Fence.wide.inRound l) m P Q a w :=
  wpIn_mono (wpIn_region_any hm (wpAnyIn_of_wpAny l m hd OnOnly.not_out _ _ _ _ (wpAny_of_G _ _ _ _ h))) OnOnly.imp

/-- A scope without a goto, under the widest fence. -/
theorem wpIn_scope_wide {P : Program} {Q : Exit → Act → World → Prop} {m : Nat} {c : Code} {a : Act} {w : World} (h : c.wpIn Fence.wide m P (Exit.noGoto Q) a w) : (Code.scope c).wpIn Fence.wide m P Q a w := wpIn_wide.2 (wp_scope_straight (wpIn_wide.1 h))

/-- append of one byte where there is room. -/
theorem wp_append_in {o : Oper} {a : Act} {w : World} {K : Act → World → Prop} {Q : Exit → Act → World → Prop} (s x : Operand) (ho : o.op = .call { callee := .builtin .append, args := #[s, x], argTypes := #[24, 24] })
    (g n cap : Nat) (hs : a.eval s = .slice (some ⟨g, 0, none⟩) n cap) (ad : Addr) (c : Nat) (hx : a.eval x = .slice (some ad) 1 c) (u : Value) (hu : w.cell? (ad.add 0) = some u) (h1 : u.oneCell' = true) (hroom : n + 1 ≤ cap)
    {cur : List Value} (hr : Row w g 5 cur) (hl : n < cur.length) (h : K (a.put o.dst (.slice (some ⟨g, 0, none⟩) (n + 1) cap)) (w.setCell ⟨g, n, none⟩ u)) : o.wp Tryz.prog a w K Q := by
  obtain ⟨i0, hi, hz0, hz1, hz2⟩ := info_parts info5
  have hrun := run_append_room_cells (P := Tryz.prog) w 24 o.type 5 i0 Tryz.underlying24 hi g 0 n cap ad 1 c [u] (by rw [hz1]; rfl) (fun j v hv => by
      have hj : j = 0 := by
        rcases j with _ | j
        · rfl
        · simp at hv
      subst hj
      simp at hv
      rw [← hv]
      exact hu) (by simpa using h1) hroom (fun j hj => by
      have hj : j = 0 := by simp at hj; omega
      subst hj
      rw [hz1, show 0 + n * 1 + 0 = n by omega, hr.cell (List.getElem?_eq_getElem hl)]
      rfl) (fun j _ => hr.frozen _)
  rw [hz1, show 0 + n * 1 = n by omega] at hrun
  unfold Oper.wp execOp
  simp only [ho, resolve, invoke, builtin, Sem.run_bind, Sem.run_pure, Result.andThen_ok, List.map_toArray, List.map_cons, List.map_nil, hs, hx, hrun]
  exact h

theorem take_set_one (cur : List Value) (ts : List Nat) (j : Nat) (hj : j < cur.length) (hl : ts.length = cur.length) (h : cur.take j = u8s (ts.take j)) : (cur.set j (.int .u8 (ts.getD j 0 : Nat))).take (j + 1) = u8s (ts.take (j + 1)) := by
  have e : ts.take (j + 1) = ts.take j ++ [ts.getD j 0] := by
    rw [List.take_add_one, List.getElem?_eq_getElem (show j < ts.length by omega)]
    simp [List.getElem?_eq_getElem (show j < ts.length by omega)]
  rw [e, ← u8s_snoc, ← h, List.take_add_one, List.getElem?_set]
  rw [List.take_set_of_le (by omega)]
  simp [hj]

set_option maxRecDepth 100000 in
set_option maxHeartbeats 4000000 in
theorem stream_in (n : Nat) (hn : 12 ≤ n) (c : Nat) (KV NV : List Value) (bs : Nat → List Nat) (HKl : Hid (KV.length = 32)) (HNl : Hid (NV.length = 12)) (HBl : Hid (∀ k, (bs k).length = 64)) (hc : c < 4294967296)
    (HBk : Hid (∀ k w, Tab w → Calls Tryz.prog 77 #[.agg KV.toArray, .int .u32 ((c + k) % 4294967296 : Nat), .agg NV.toArray] w fun e w' => e = .returned (.agg (u8s (bs k)).toArray) ∧ Below w.heap.size w w'))
    (p : Option Addr) (len cap : Nat) (zs ts : List Nat) (HX : Hid (∀ k i, i < 64 → 64 * k + i < len → bits .xor .u8 ((zs.getD (64 * k + i) 0 : Nat) : Int) (((bs k).getD i 0 : Nat) : Int) = ((ts.getD (64 * k + i) 0 : Nat) : Int))) (htl : ts.length = len) (hlen : len ≤ 50000)
    (w : World) (hT : Tab w) (hI : IsBytes w.heap.size w p len cap zs) :
    CallsIn Fence.wide n Tryz.prog 33 #[.agg KV.toArray, .int .u32 c, .agg NV.toArray, .slice p len cap] w fun e w' => ∃ g, e = .returned (.slice (some ⟨g, 0, none⟩) len len) ∧ w.heap.size ≤ g ∧ Row w' g 5 (u8s ts) ∧ Below w.heap.size w w' := by
  obtain ⟨i0, hi, hz0, hz1, hz2⟩ := info_parts info5
  have h1 : 1 ≤ n := by omega
  have hfn : ∀ f, Fence.wide.fn f := fun _ => trivial
  have HT : Hid (Tab w) := hT
  have HTp : Hid (1 < w.heap.size) := hT.pos
  have HI : Hid (IsBytes w.heap.size w p len cap zs) := hI
  have HTl : Hid (ts.length = len) := htl
  have hlc := hI.2.1
  have hcc := hI.2.2.1
  clear hT hI htl
  obtain ⟨w0, hw0⟩ : ∃ w0, w0 = ((w.alloc (.cells KV.toArray 23)).alloc (.cells NV.toArray 54)).alloc (.cells #[.slice p len cap] 24) := ⟨_, rfl⟩
  have HW0 : Hid (((w.alloc (.cells KV.toArray 23)).alloc (.cells NV.toArray 54)).alloc (.cells #[.slice p len cap] 24) = w0) := hw0.symm
  have hb0 : Below w.heap.size w w0 := by rw [hw0]; exact (((Below.refl _ w).alloc (Nat.le_refl _) _).alloc (by simp) _).alloc (by simp; omega) _
  have HrK : Hid (Row w0 w.heap.size 23 KV) := by rw [hw0]; exact ((Row.new' w 23 _).alloc _).alloc _
  have HrN : Hid (Row w0 (w.heap.size + 1) 54 NV) := by
    have h := Row.new' (w.alloc (.cells KV.toArray 23)) 54 NV
    rw [World.size_alloc] at h
    rw [hw0]
    exact h.alloc _
  have HrB : Hid (Row w0 (w.heap.size + 1 + 1) 24 [.slice p len cap]) := by
    have h := Row.new ((w.alloc (.cells KV.toArray 23)).alloc (.cells NV.toArray 54)) 24 #[.slice p len cap]
    rw [World.size_alloc, World.size_alloc] at h
    rw [hw0]
    exact h
  have hs0 : w0.heap.size = w.heap.size + 1 + 1 + 1 := by rw [hw0]; simp
  have cb := HrB.out.cell (i := 0) rfl
  clear hw0
  refine callsIn_of_wp_marks Tryz.func33 rfl trivial ?_ rfl
  simp only [Tryz.ntmps33, List.size_toArray, List.length_cons, List.length_nil, Nat.reduceAdd, Nat.reduceSub, Array.replicate_succ, Array.replicate_zero, List.push_toArray, List.append_toArray, List.nil_append, List.cons_append]
  gi_wp2
  refine wpIn_scope_wide ?_
  rw [HW0.out]
  gi_wp2_with (gi_at_make; refine wpListIn_make_own _ rfl _ _ 24 rfl w0.heap.size 5 i0 (.int .u8 0) 1 Tryz.underlying24 hi hz0 hz1 _ _ _ len rfl rfl (by omega) (by rw [hz2]; omega) (by simp only [maxLen]; omega) (Nat.le_refl _) ?_; intro w1 hown1 hgrow1)
  rw [hs0] at hown1
  have hb1 : Below w0.heap.size w0 w1 := (Below.refl _ w0).grown hgrow1 (Nat.le_refl _) (fun k e => by cases e)
  obtain ⟨cur0, hr0, hl0⟩ : ∃ cur, Row w1 (w.heap.size + 1 + 1 + 1) 5 cur ∧ cur.length = len := by
    rcases hown1.2 with ⟨e, _⟩ | ⟨g, cp, cur, e, _, hgg, _, _, hsz, _⟩
    · cases e
    · cases e
      exact ⟨cur.toList, by unfold Row; rw [Array.toArray_toList]; exact hgg, by simpa using hsz⟩
  have HR1 : Hid (Row (w1.alloc (.cells #[.slice (some ⟨w.heap.size + 1 + 1 + 1, 0, none⟩) 0 len] 24)) (w.heap.size + 1 + 1 + 1) 5 cur0) := hr0.alloc _
  have HK1 : Hid (Row (w1.alloc (.cells #[.slice (some ⟨w.heap.size + 1 + 1 + 1, 0, none⟩) 0 len] 24)) w.heap.size 23 KV) := (HrK.out.later hb1).alloc _
  have HN1 : Hid (Row (w1.alloc (.cells #[.slice (some ⟨w.heap.size + 1 + 1 + 1, 0, none⟩) 0 len] 24)) (w.heap.size + 1) 54 NV) := (HrN.out.later hb1).alloc _
  have HB1 : Hid (Row (w1.alloc (.cells #[.slice (some ⟨w.heap.size + 1 + 1 + 1, 0, none⟩) 0 len] 24)) (w.heap.size + 1 + 1) 24 [.slice p len cap]) := (HrB.out.later hb1).alloc _
  have HO1 : Hid (Row (w1.alloc (.cells #[.slice (some ⟨w.heap.size + 1 + 1 + 1, 0, none⟩) 0 len] 24)) w1.heap.size 24 [.slice (some ⟨w.heap.size + 1 + 1 + 1, 0, none⟩) 0 len]) := Row.new w1 24 _
  have hs1 : w.heap.size + 4 ≤ w1.heap.size := hr0.lt
  have Hb1 : Hid (Below w.heap.size w (w1.alloc (.cells #[.slice (some ⟨w.heap.size + 1 + 1 + 1, 0, none⟩) 0 len] 24))) := (hb0.trans (hb1.mono (by omega))).alloc (by omega) _
  have Hs2 : Hid ((w1.alloc (.cells #[.slice (some ⟨w.heap.size + 1 + 1 + 1, 0, none⟩) 0 len] 24)).heap.size = w1.heap.size + 1) := by show _ = _; simp
  clear hown1 hgrow1 hb1 hr0 HrK HrN HrB hb0 cb HW0 hs0
  refine wpIn_label ?_
  generalize hBo : w1.heap.size = Bo at *
  clear hBo
  generalize (w1.alloc (.cells #[.slice (some ⟨w.heap.size + 1 + 1 + 1, 0, none⟩) 0 len] 24)) = w2 at *
  gi_wp2_with (first
    | ((with_reducible show wpListIn _ _ _ _ _ (Oper.mk _ (Op.load 23 (.tmp 4)) _ _ _ _ :: _) _ _); refine wpListIn_load_Row rfl 23 (.tmp 4) rfl rfl HK1.out Tryz.underlying23 (by rw [HKl.out]; exact size23) ?_; simp only [Act.put, List.setIfInBounds_toArray, List.set_cons_zero, List.set_cons_succ])
    | ((with_reducible show wpListIn _ _ _ _ _ (Oper.mk _ (Op.load 54 (.tmp 6)) _ _ _ _ :: _) _ _); refine wpListIn_load_Row rfl 54 (.tmp 6) rfl rfl HN1.out Tryz.underlying54 (by rw [HNl.out]; exact size54) ?_; simp only [Act.put, List.setIfInBounds_toArray, List.set_cons_zero, List.set_cons_succ])
    | (gi_at_call 59; refine (callsIn_wide.2 (keystream_any c KV NV _)).mono ?_; rintro e w4 ⟨rfl, hk4, hc4, hn4, hb4⟩; rw [Hs2.out] at hk4 hc4 hn4 hb4 ⊢; have Hk4 : Hid (Row w4 (Bo + 1) 23 KV) := hk4; have Hc4 : Hid (Row w4 (Bo + 1 + 1) 53 [.int .u32 c]) := hc4; have Hn4 : Hid (Row w4 (Bo + 1 + 1 + 1) 54 NV) := hn4; have Hb4 : Hid (Below (Bo + 1) w2 w4) := hb4; clear hk4 hc4 hn4 hb4))
  have hs4 : Bo + 4 ≤ w4.heap.size := Hn4.out.lt
  have HR4 : Hid (Row w4 (w.heap.size + 1 + 1 + 1) 5 cur0) := HR1.out.below Hb4.out (by omega)
  have HB4 : Hid (Row w4 (w.heap.size + 1 + 1) 24 [.slice p len cap]) := HB1.out.below Hb4.out (by omega)
  have HO4 : Hid (Row w4 Bo 24 [.slice (some ⟨w.heap.size + 1 + 1 + 1, 0, none⟩) 0 len]) := HO1.out.below Hb4.out (by omega)
  have Hbe4 : Hid (Below w.heap.size w w4) := Hb1.out.trans (Hb4.out.mono (by omega))
  have HT4 : Hid (Tab w4) := HT.out.later Hbe4.out
  have HL0 : Hid (cur0.length = len) := hl0
  clear HR1 HB1 HO1 HK1 HN1 Hb1 Hb4 Hs2 hl0
  refine wpIn_rangeFunc_ever rfl h1 (gf := 76) (lb := #[.pointer (some ⟨Bo + 1 + 1, 0, none⟩), .pointer (some ⟨Bo + 1, 0, none⟩), .pointer (some ⟨Bo + 1 + 1 + 1, 0, none⟩)]) rfl trivial (enters_of Tryz.func76 (by kernel_rfl) rfl)
    (encs := fun k => #[.agg (u8s (bs k)).toArray]) (Kp := KpM (fun k => k = w.heap.size + 1 + 1 + 1 ∨ k = Bo) (w4.heap.size + 2)) (N := len / 64 + 1)
    (fun W' hs hb => key1_iter (n - 1) (by omega) _ _ _ _ c (len / 64 + 1) KV NV (fun k => u8s (bs k)) HKl HNl HBk W' hc (by omega) (HT4.out.later hb) (Hc4.out.later hb) (Hk4.out.later hb) (Hn4.out.later hb) (fun k => k = w.heap.size + 1 + 1 + 1 ∨ k = Bo) _ (fun _ _ h => h.1) (fun _ _ h => h.2.size) (by have := HTp.out; omega) (by have := HTp.out; omega) (by omega) (by omega))
    KpM.trans (fun A o o' ho hc => KpM.record (by omega) o' ho hc) KpM.of_below (fun _ => rfl) 86 (fun k => u8s (bs k))
    (fun k A => (Row A Bo 24 [.slice (some ⟨w.heap.size + 1 + 1 + 1, 0, none⟩) (64 * k) len] ∧ (∃ cur, Row A (w.heap.size + 1 + 1 + 1) 5 cur ∧ cur.length = len ∧ cur.take (64 * k) = u8s (ts.take (64 * k))) ∧ Row A (w.heap.size + 1 + 1) 24 [.slice p len cap] ∧ 64 * k ≤ len) ∧ Below w.heap.size w A)
    (fun c _ A => (c = .exit 0 ∧ Row A Bo 24 [.slice (some ⟨w.heap.size + 1 + 1 + 1, 0, none⟩) len len] ∧ (∃ cur, Row A (w.heap.size + 1 + 1 + 1) 5 cur ∧ cur.length = len ∧ cur.take len = u8s (ts.take len)) ∧ Row A (w.heap.size + 1 + 1) 24 [.slice p len cap]) ∧ Below w.heap.size w A)
    (fun k A A' ⟨⟨h1, ⟨cur, h2, h3, h4⟩, h5, h6⟩, h8⟩ hb => ⟨⟨h1.below hb (by omega), ⟨cur, h2.below hb (by omega), h3, h4⟩, h5.below hb (by omega), h6⟩, h8.trans (hb.mono (by omega))⟩)
    (fun _ k A A' ⟨⟨h0, h1, ⟨cur, h2, h3, h4⟩, h5⟩, h8⟩ hb => ⟨⟨h0, h1.below hb (by omega), ⟨cur, h2.below hb (by omega), h3, h4⟩, h5.below hb (by omega)⟩, h8.trans (hb.mono (by omega))⟩)
    (fun k A h => by have := h.1.2.2.2; omega)
    ⟨⟨HO4.out, ⟨cur0, HR4.out, HL0.out, rfl⟩, HB4.out, by omega⟩, Hbe4.out⟩
    (fun k A => { tmps := #[.agg KV.toArray, .int .u32 c, .agg NV.toArray, .slice p len cap, .pointer (some ⟨w.heap.size, 0, none⟩), undef, .pointer (some ⟨w.heap.size + 1, 0, none⟩), .pointer (some ⟨w.heap.size + 1 + 1, 0, none⟩), .slice none 0 0, .pointer (some ⟨Bo, 0, none⟩), .pointer (some ⟨A.heap.size, 0, none⟩), undef, undef, .slice p len cap, .int .i64 len, .slice (some ⟨w.heap.size + 1 + 1 + 1, 0, none⟩) 0 len, .agg KV.toArray, .int .u32 c, .agg NV.toArray, .func (.func 76) #[] #[.pointer (some ⟨Bo + 1 + 1, 0, none⟩), .pointer (some ⟨Bo + 1, 0, none⟩), .pointer (some ⟨Bo + 1 + 1 + 1, 0, none⟩)], .agg (u8s (bs k)).toArray, undef, undef, undef, undef, undef, undef, undef, undef, undef, undef, undef, undef, undef, undef, undef, undef, undef, undef, undef, undef, undef], defers := [] }) ?assign ?body ?stop
  case assign =>
    intro li k A K' hK'
    have HXL : Hid ((u8s (bs k)).length = 64) := by show _ = _; rw [u8s_length]; exact HBl.out k
    have HX1 : Hid (∀ v ∈ u8s (bs k), v.oneCell' = true) := u8s_one _
    have HK' : Hid (∀ W', Below A.heap.size A W' → Row W' A.heap.size 86 (u8s (bs k)) → K' _ W') := hK'
    clear hK'
    generalize u8s (bs k) = V at *
    gi_wp2_with ((with_reducible show wpListIn _ _ _ _ _ (Oper.mk _ (Op.store 86 (.tmp 10) (.tmp 20)) _ _ _ _ :: _) _ _); refine wpListIn_store_Row rfl 86 (.tmp 10) (.tmp 20) rfl V rfl rfl (Row.new _ _ _) (by rw [HXL.out]; exact size86) (by rw [HXL.out]; rfl) HX1.out ?_; simp only [Act.put])
    exact HK'.out _ (below_setCells (Nat.le_refl _) _ _ ((Below.refl _ A).alloc (Nat.le_refl _) _)) (Row.sets_all (Row.new _ _ _) (by rw [HXL.out]; rfl))
  case body =>
    rintro li k A₀ A ⟨⟨hrO, ⟨cur, hrR, hcl, hct⟩, hrB, hkl⟩, hB⟩ hle hrow
    have HXL : Hid ((u8s (bs k)).length = 64) := by show _ = _; rw [u8s_length]; exact HBl.out k
    have HXi : Hid (∀ i, i < 64 → (u8s (bs k))[i]? = some (.int .u8 ((bs k).getD i 0 : Nat))) := fun i hi => u8s_at (by rw [HBl.out]; exact hi)
    have Hrow : Hid (Row A A₀.heap.size 86 (u8s (bs k))) := hrow
    have HXk : Hid (∀ i, i < 64 → 64 * k + i < len → bits .xor .u8 ((zs.getD (64 * k + i) 0 : Nat) : Int) (((bs k).getD i 0 : Nat) : Int) = ((ts.getD (64 * k + i) 0 : Nat) : Int)) := fun i hi hl => HX.out k i hi hl
    have HrO : Hid (Row A Bo 24 [.slice (some ⟨w.heap.size + 1 + 1 + 1, 0, none⟩) (64 * k) len]) := hrO
    have HrR : Hid (∃ cur, Row A (w.heap.size + 1 + 1 + 1) 5 cur ∧ cur.length = len ∧ cur.take (64 * k) = u8s (ts.take (64 * k))) := ⟨cur, hrR, hcl, hct⟩
    have HrB : Hid (Row A (w.heap.size + 1 + 1) 24 [.slice p len cap]) := hrB
    have HB : Hid (Below w.heap.size w A) := hB
    clear hrow hrO hrR hcl hct hrB hB
    generalize u8s (bs k) = V at *
    gi_wp2_with ((with_reducible show wpListIn _ _ _ _ _ (Oper.mk _ (Op.load 86 (.tmp 10)) _ _ _ _ :: _) _ _); refine wpListIn_load_Row rfl 86 (.tmp 10) rfl rfl Hrow.out Tryz.underlying86 (by rw [HXL.out]; exact size86) ?_; simp only [Act.put, List.setIfInBounds_toArray, List.set_cons_zero, List.set_cons_succ])
    gi_loopw [22] (fun i wr => ∃ q : Nat, q ≤ 64 ∧ i = .int .i64 q ∧ 64 * k + q ≤ len ∧ (Row wr Bo 24 [.slice (some ⟨w.heap.size + 1 + 1 + 1, 0, none⟩) (64 * k + q) len] ∧ (∃ cur, Row wr (w.heap.size + 1 + 1 + 1) 5 cur ∧ cur.length = len ∧ cur.take (64 * k + q) = u8s (ts.take (64 * k + q))) ∧ Row wr (w.heap.size + 1 + 1) 24 [.slice p len cap]) ∧ Below w.heap.size w wr ∧ KeepsFrom w4.heap.size A wr ∧ KpM (fun k => k = w.heap.size + 1 + 1 + 1 ∨ k = Bo) (w4.heap.size + 2) A wr ∧ A.heap.size ≤ wr.heap.size)
      (fun i _ => 64 - (intOf i).toNat)
    case atStart => exact ⟨0, by omega, rfl, by omega, ⟨HrO.out, HrR.out, HrB.out⟩, HB.out, KeepsFrom.refl _ _, KpM.refl _, Nat.le_refl _⟩
    case round =>
      clear HrO HrR HrB HB
      obtain ⟨q, hq, rfl, hql, ⟨hrO, ⟨cur, hrR, hcl, hct⟩, hrB⟩, hB, hKF, hKP, hsz⟩ := hrel
      have HB : Hid (Below w.heap.size w wr) := hB
      have HKF : Hid (KeepsFrom w4.heap.size A wr) := hKF
      have HKP : Hid (KpM (fun k => k = w.heap.size + 1 + 1 + 1 ∨ k = Bo) (w4.heap.size + 2) A wr) := hKP
      have HrO : Hid (Row wr Bo 24 [.slice (some ⟨w.heap.size + 1 + 1 + 1, 0, none⟩) (64 * k + q) len]) := hrO
      have HrR : Hid (Row wr (w.heap.size + 1 + 1 + 1) 5 cur) := hrR
      have HrB : Hid (Row wr (w.heap.size + 1 + 1) 24 [.slice p len cap]) := hrB
      have Hcl : Hid (cur.length = len) := hcl
      have Hct : Hid (cur.take (64 * k + q) = u8s (ts.take (64 * k + q))) := hct
      have co := hrO.cell (i := 0) rfl
      have fo := hrO.frozen 0
      have cb := hrB.cell (i := 0) rfl
      clear hrO hrR hrB hcl hct hB hKF hKP
      by_cases hq64 : q < 64
      · have hqi : (q : Int) < 64 := by omega
        have cI : ∀ w : World, (Instr.index 86 (.agg V.toArray) (.int .i64 (q : Int))).run Tryz.prog w = .ok (.int .u8 ((bs k).getD q 0 : Nat)) w := fun w => run_index86 _ q _ hq64 (HXi.out q hq64) w
        by_cases hend : 64 * k + q = len
        · rw [hend] at co HrO Hct
          gi_wp2
          exact ⟨HKF.out, HKP.out, ⟨rfl, HrO.out, ⟨cur, HrR.out, Hcl.out, Hct.out⟩, HrB.out⟩, HB.out⟩
        · have hlt : 64 * k + q < len := by omega
          have hx := HXk.out q hq64 hlt
          obtain ⟨bb, off, rfl, hbb, hcs⟩ : ∃ b off, p = some ⟨b, off, none⟩ ∧ b < w.heap.size ∧ ∀ i, i < len → wr.cell? ⟨b, off + i, none⟩ = some (.int .u8 (zs.getD i 0 : Nat)) := by
            rcases (HI.out.below HB.out).2.2.2.2 with h | h
            · omega
            · exact h
          have cz := hcs (64 * k + q) hlt
          have HTs : Hid ((cur.set (64 * k + q) (.int .u8 (ts.getD (64 * k + q) 0 : Nat))).take (64 * k + q + 1) = u8s (ts.take (64 * k + q + 1))) := take_set_one cur ts (64 * k + q) (by rw [Hcl.out]; exact hlt) (by rw [Hcl.out, HTl.out]) Hct.out
          have Hj : Hid (64 * k + q + 1 ≤ len) := hlt
          clear hcs
          generalize zs.getD (64 * k + q) 0 = z at *
          generalize (bs k).getD q 0 = y at *
          generalize hu : ts.getD (64 * k + q) 0 = u at *
          generalize hj : 64 * k + q = j at *
          have HJ : Hid (64 * k + q = j) := hj
          clear hj hu
          have hji : (j : Int) < (len : Int) := by omega
          have hne : ((j : Int) == (len : Int)) = false := by simp; omega
          gi_wp2
          refine wpIn_region_gate_on 10 (fun W' => W'.cell? ⟨Bo, 0, none⟩ = some (.slice (some ⟨w.heap.size + 1 + 1 + 1, 0, none⟩) j len) ∧ W'.cell? ⟨w.heap.size + 1 + 1, 0, none⟩ = some (.slice (some ⟨bb, off, none⟩) len cap) ∧ W'.cell? ⟨bb, off + j, none⟩ = some (.int .u8 z)) (by kernel_rfl) (by kernel_rfl) ?_
          refine wpAnyG_takesAt 0 8 3 (of_decide_eq_true (by kernel_rfl)) rfl (fun _ _ _ _ _ h => h) (by kernel_rfl) (by kernel_rfl) (fun _ => ⟨by simpa using co, by simpa using cb, by simpa using cz⟩) ?_
          simp only [List.drop_zero, List.take_succ_cons, List.take_zero]
          iterate 3 (refine wpHeldG_step (v := ?_) (by rfl) (by kernel_rfl) (fun wz hSw => ?_) ?_; rotate_left; (focus ((try dsimp only at hSw); go_simp; try with_reducible rfl)); (simp only [Act.put, List.setIfInBounds_toArray, List.set_cons_zero, List.set_cons_succ]))
          iterate 2 (refine wpHeldG_free (v := ?_) (by rfl) (fun wz => ?_) ?_; rotate_left; (focus (go_simp; try with_reducible rfl)); (simp only [Act.put, List.setIfInBounds_toArray, List.set_cons_zero, List.set_cons_succ]))
          iterate 1 (refine wpHeldG_step (v := ?_) (by rfl) (by kernel_rfl) (fun wz hSw => ?_) ?_; rotate_left; (focus ((try dsimp only at hSw); go_simp; try with_reducible rfl)); (simp only [Act.put, List.setIfInBounds_toArray, List.set_cons_zero, List.set_cons_succ]))
          iterate 2 (refine wpHeldG_free (v := ?_) (by rfl) (fun wz => ?_) ?_; rotate_left; (focus (go_simp; try with_reducible rfl)); (simp only [Act.put, List.setIfInBounds_toArray, List.set_cons_zero, List.set_cons_succ]))
          refine wpHeldG_nil ?_
          refine wpAnyG_only (i := 8) (by kernel_rfl) rfl (by rfl) (fun K hK => ?_)
          go_simp
          have hbA : Below wr.heap.size wr ((wr.alloc (.cells #[.int .u8 (u : Nat)] 5)).drew) := ((Below.refl _ wr).alloc (Nat.le_refl _) _).drew
          have HbA : Hid (Below wr.heap.size wr ((wr.alloc (.cells #[.int .u8 (u : Nat)] 5)).drew)) := hbA
          refine hK.out _ _ (fun _ => ⟨(hbA.cell (p := ⟨Bo, 0, none⟩) HrO.out.lt).trans co, (hbA.cell (p := ⟨w.heap.size + 1 + 1, 0, none⟩) HrB.out.lt).trans cb, (hbA.cell (p := ⟨bb, off + j, none⟩) (show bb < wr.heap.size from Nat.lt_of_lt_of_le hbb HB.out.size)).trans cz⟩) ?_
          clear hK K
          have HN : Hid (Row ((wr.alloc (.cells #[.int .u8 (u : Nat)] 5)).drew) wr.heap.size 5 [.int .u8 (u : Nat)]) := (Row.new wr 5 _).drew
          have Hs : Hid (((wr.alloc (.cells #[.int .u8 (u : Nat)] 5)).drew).heap.size = wr.heap.size + 1) := World.size_alloc wr _
          clear hbA
          generalize ((wr.alloc (.cells #[.int .u8 (u : Nat)] 5)).drew) = W2 at *
          refine wpAnyG_only (i := 9) (by kernel_rfl) rfl (by rfl) (fun K hK => ?_)
          refine wp_append_in (.tmp 30) (.tmp 38) (by rfl) (w.heap.size + 1 + 1 + 1) j len (by rfl) ⟨wr.heap.size, 0, none⟩ 1 (by rfl) (.int .u8 (u : Nat)) (HN.out.cell (i := 0) rfl) rfl Hj.out (HrR.out.later HbA.out) (by rw [Hcl.out]; have := Hj.out; omega) ?_
          have HO3 : Hid (Row (W2.setCell ⟨w.heap.size + 1 + 1 + 1, j, none⟩ (.int .u8 (u : Nat))) Bo 24 [.slice (some ⟨w.heap.size + 1 + 1 + 1, 0, none⟩) j len]) := (HrO.out.later HbA.out).other (by simp; omega) _
          have HB3 : Hid (Row (W2.setCell ⟨w.heap.size + 1 + 1 + 1, j, none⟩ (.int .u8 (u : Nat))) (w.heap.size + 1 + 1) 24 [.slice (some ⟨bb, off, none⟩) len cap]) := (HrB.out.later HbA.out).other (by simp) _
          have HR3 : Hid (Row (W2.setCell ⟨w.heap.size + 1 + 1 + 1, j, none⟩ (.int .u8 (u : Nat))) (w.heap.size + 1 + 1 + 1) 5 (cur.set j (.int .u8 (u : Nat)))) := (HrR.out.later HbA.out).set _ _
          have HL3 : Hid (Below w.heap.size w (W2.setCell ⟨w.heap.size + 1 + 1 + 1, j, none⟩ (.int .u8 (u : Nat)))) := (HB.out.trans (HbA.out.mono HB.out.size)).setCell (p := ⟨w.heap.size + 1 + 1 + 1, j, none⟩) (by show _ ≤ w.heap.size + 1 + 1 + 1; omega) _
          have HF3 : Hid (KeepsFrom w4.heap.size A (W2.setCell ⟨w.heap.size + 1 + 1 + 1, j, none⟩ (.int .u8 (u : Nat)))) := (HKF.out.trans (keepsFrom_of_below HbA.out)).trans ((KeepsOthers.setCell W2 _ _).from _)
          have HP3 : Hid (KpM (fun k => k = w.heap.size + 1 + 1 + 1 ∨ k = Bo) (w4.heap.size + 2) A (W2.setCell ⟨w.heap.size + 1 + 1 + 1, j, none⟩ (.int .u8 (u : Nat)))) := (HKP.out.trans (KpM.of_below HbA.out)).trans (KpM.set (a := ⟨w.heap.size + 1 + 1 + 1, j, none⟩) (.inl rfl) _)
          have Hs3 : Hid ((W2.setCell ⟨w.heap.size + 1 + 1 + 1, j, none⟩ (.int .u8 (u : Nat))).heap.size = wr.heap.size + 1) := by show _ = _; rw [World.size_setCell]; exact Hs.out
          have Hc3 : Hid ((W2.setCell ⟨w.heap.size + 1 + 1 + 1, j, none⟩ (.int .u8 (u : Nat))).cell? ⟨bb, off + j, none⟩ = some (.int .u8 z)) := (World.cell?_setCell_far _ _ _ _ (by simp; omega)).trans ((HbA.out.cell (p := ⟨bb, off + j, none⟩) (show bb < wr.heap.size from Nat.lt_of_lt_of_le hbb HB.out.size)).trans cz)
          generalize (W2.setCell ⟨w.heap.size + 1 + 1 + 1, j, none⟩ (.int .u8 (u : Nat))) = W3 at *
          refine hK.out _ _ (fun _ => ⟨HO3.out.cell (i := 0) rfl, HB3.out.cell (i := 0) rfl, Hc3.out⟩) ?_
          clear hK K
          have co3 := HO3.out.cell (i := 0) rfl
          have fo3 := HO3.out.frozen 0
          refine wpAnyG_only (i := 10) (by kernel_rfl) rfl (by rfl) (fun K hK => ?_)
          go_simp
          refine hK.out _ _ (gone (by kernel_rfl)) ?_
          clear hK K
          refine wpAnyG_done (by kernel_rfl) ?_ _
          refine OnOnly.on ?_
          have HV5 : Hid (Row (W3.setCell ⟨Bo, 0, none⟩ (.slice (some ⟨w.heap.size + 1 + 1 + 1, 0, none⟩) (j + 1) len)) Bo 24 [.slice (some ⟨w.heap.size + 1 + 1 + 1, 0, none⟩) (j + 1) len] ∧ Row (W3.setCell ⟨Bo, 0, none⟩ (.slice (some ⟨w.heap.size + 1 + 1 + 1, 0, none⟩) (j + 1) len)) (w.heap.size + 1 + 1 + 1) 5 (cur.set j (.int .u8 (u : Nat))) ∧ Row (W3.setCell ⟨Bo, 0, none⟩ (.slice (some ⟨w.heap.size + 1 + 1 + 1, 0, none⟩) (j + 1) len)) (w.heap.size + 1 + 1) 24 [.slice (some ⟨bb, off, none⟩) len cap] ∧ Below w.heap.size w (W3.setCell ⟨Bo, 0, none⟩ (.slice (some ⟨w.heap.size + 1 + 1 + 1, 0, none⟩) (j + 1) len)) ∧ KeepsFrom w4.heap.size A (W3.setCell ⟨Bo, 0, none⟩ (.slice (some ⟨w.heap.size + 1 + 1 + 1, 0, none⟩) (j + 1) len)) ∧ KpM (fun k => k = w.heap.size + 1 + 1 + 1 ∨ k = Bo) (w4.heap.size + 2) A (W3.setCell ⟨Bo, 0, none⟩ (.slice (some ⟨w.heap.size + 1 + 1 + 1, 0, none⟩) (j + 1) len)) ∧ A.heap.size ≤ (W3.setCell ⟨Bo, 0, none⟩ (.slice (some ⟨w.heap.size + 1 + 1 + 1, 0, none⟩) (j + 1) len)).heap.size) :=
            ⟨HO3.out.set 0 _, HR3.out.other (by simp; omega) _, HB3.out.other (by simp; omega) _, HL3.out.setCell (p := ⟨Bo, 0, none⟩) (by show _ ≤ Bo; omega) _, HF3.out.trans ((KeepsOthers.setCell W3 _ _).from _), HP3.out.trans (KpM.set (a := ⟨Bo, 0, none⟩) (.inr rfl) _), by rw [World.size_setCell, Hs3.out]; omega⟩
          generalize (W3.setCell ⟨Bo, 0, none⟩ (.slice (some ⟨w.heap.size + 1 + 1 + 1, 0, none⟩) (j + 1) len)) = V5 at *
          clear HO3 HB3 HR3 HL3 HF3 HP3 Hs3 Hc3 co3 fo3 HN Hs HbA
          have H5 : Hid (Row V5 Bo 24 [.slice (some ⟨w.heap.size + 1 + 1 + 1, 0, none⟩) (j + 1) len] ∧ Row V5 (w.heap.size + 1 + 1 + 1) 5 (cur.set j (.int .u8 (u : Nat))) ∧ Row V5 (w.heap.size + 1 + 1) 24 [.slice (some ⟨bb, off, none⟩) len cap] ∧ Below w.heap.size w V5 ∧ KeepsFrom w4.heap.size A V5 ∧ KpM (fun k => k = w.heap.size + 1 + 1 + 1 ∨ k = Bo) (w4.heap.size + 2) A V5 ∧ A.heap.size ≤ V5.heap.size) := HV5.out
          clear HV5 co fo cb cz
          gi_wp2
          go_roundw
          case rel => exact ⟨q + 1, by omega, by go_num, by have := Hj.out; have := HJ.out; omega, by rw [show 64 * k + (q + 1) = j + 1 by have := HJ.out; omega]; exact ⟨H5.out.1, ⟨_, H5.out.2.1, by rw [List.length_set]; exact Hcl.out, HTs.out⟩, H5.out.2.2.1⟩, H5.out.2.2.2.1, H5.out.2.2.2.2.1, H5.out.2.2.2.2.2.1, H5.out.2.2.2.2.2.2⟩
          case measure => simp [intOf]; omega
      · obtain rfl : q = 64 := by omega
        gi_wp2
        exact ⟨HKF.out, HKP.out, ⟨by rw [show 64 * (k + 1) = 64 * k + 64 by omega]; exact HrO.out, ⟨cur, HrR.out, Hcl.out, by rw [show 64 * (k + 1) = 64 * k + 64 by omega]; exact Hct.out⟩, HrB.out, by omega⟩, HB.out⟩
  case stop =>
    rintro D c' k A hD ⟨⟨rfl, hrO, ⟨cur, hrR, hcl, hct⟩, hrB⟩, hB⟩ hKD
    have co := hrO.cell (i := 0) rfl
    gi_wp2
    rw [List.take_of_length_le (by omega), List.take_of_length_le (by have := HTl.out; omega)] at hct
    subst hct
    refine ⟨by simp, .inl ⟨_, _, rfl, run_takeDeferred hKD, ?_⟩⟩
    exact ⟨_, results_tmp rfl _ _ _, _, rfl, by omega, (World.putObj_heap_other (by omega)).trans hrR, hB.trans (below_putObj _ _ (by omega))⟩
end Go.Proofs.YtclelancbfoenaaGreatDoor.Re
