/-
  What sha.Blocks answers; the law ShaBlocks, walked: for every slice of bytes and every number it returns true.
-/
import Derived.Test.YtokjbldelpiejaaDoorAwake
import Derived.Test.YtokjbldelpiejaaDoorEq
import Derived.Test.YtokjbldelpiejaaDoorRefSum
import Derived.Test.YtokjbldelpiejaaDoorExpand
namespace Go.Proofs.YtokjbldelpiejaaDoor
open Go.RowKit Go.Shelf
attribute [local go_sem] Oper.semAt_some

theorem row_of_made {W : World} {n₀ g n : Nat} {e : TypeId} {xs : List Value} (h : W.ownsRow n₀ e 1 (.slice (some ⟨g, 0, none⟩) n n) n xs) : Row W g e xs := by
  rcases h.2 with ⟨h', _⟩ | ⟨g', cap', cur, h', _, hg, _, _, hcs, htake⟩
  · simp at h'
  · simp only [Value.slice.injEq, Option.some.injEq, Addr.mk.injEq, and_true, true_and] at h'
    obtain ⟨rfl, rfl⟩ := h'
    unfold Row
    rw [hg]
    have : cur.toList = xs := by rw [← htake, List.take_of_length_le (by simp; omega)]
    rw [← this]

set_option maxRecDepth 100000 in
set_option maxHeartbeats 1000000 in
/-- sha.Blocks: a copy of the bytes is boxed; the function value captures the box. -/
theorem blocks_any (p : Option Addr) (len cap : Nat) (zs : List Nat) (hlen : len ≤ 60000) (w : World) (hI : IsBytes w.heap.size w p len cap zs) :
    Calls Tryd.prog 14 #[.slice p len cap] w fun e w' => ∃ B, e = .returned (.func (.func 38) #[] #[.pointer (some ⟨B, 0, none⟩)]) ∧ w.heap.size ≤ B ∧ Row w' B 22 [.slice (some ⟨w.heap.size, 0, none⟩) len len] ∧ IsBytes w'.heap.size w' (some ⟨w.heap.size, 0, none⟩) len len zs ∧ Below w.heap.size w w' := by
  obtain ⟨i0, hi, hz0, hz1, hz2⟩ := info_parts info5
  have HI : Hid (IsBytes w.heap.size w p len cap zs) := hI
  have HL : Hid ((u8s zs).length = len) := by show _ = _; rw [u8s_length]; exact hI.1
  have H1 : Hid (∀ v ∈ u8s zs, v.oneCell' = true) := u8s_one _
  have HSrc : Hid (∀ W, Below w.heap.size w W → 0 < (u8s zs).length → ∃ ad, p = some ad ∧ ∀ j v, (u8s zs)[j]? = some v → W.cell? (ad.add j) = some v) := fun W hb h0 => by
    rcases HI.out.2.2.2.2 with h | ⟨b, off, rfl, hbb, hc⟩
    · rw [HL.out] at h0; omega
    · exact ⟨_, rfl, src_bytes HI.out.1 hc hbb hb⟩
  clear hI
  generalize hV : u8s zs = V at *
  have HV : Hid (u8s zs = V) := hV
  clear hV
  go_enter Tryd.func14, Tryd.ntmps14
  go_wp2_with (first
    | (at_make; refine wpList_make_full _ rfl _ _ 22 rfl w.heap.size 5 i0 (.int .u8 0) 1 Tryd.underlying22 hi hz0 hz1 _ _ _ _ len rfl rfl (by omega) (by omega) (by rw [hz2]; omega) (by simp only [maxLen]; omega) (Nat.le_refl _) ?_; intro w1 hown1 hgrow1; have HR1 : Hid (Row w1 w.heap.size 5 (madeCells (Value.int IntKind.u8 0).cells (len * 1)).toList) := row_of_made hown1; have hb1 : Below w.heap.size w w1 := ((Below.refl _ w).grown hgrow1 (Nat.le_refl _) (fun k e => by cases e)); clear hown1 hgrow1)
    | ((with_reducible show wpList _ _ _ (Oper.mk (some 9) _ _ _ _ _ :: _) _ _); refine wpList_copy_splice rfl (.tmp 7) (.tmp 8) 22 22 rfl 5 Tryd.underlying22 size5 _ _ _ _ _ _ rfl rfl w.heap.size 0 (madeCells (Value.int IntKind.u8 0).cells (len * 1)).toList 5 HR1.out V (by rw [HL.out]; exact (Nat.min_self _).symm) (fun h0 => ⟨rfl, HSrc.out _ hb1 h0⟩) (by rw [HL.out]; simp [madeCells]) H1.out w.heap.size w hb1 (Nat.le_refl _) ?_; intro w2 HG2 hb2)
    | (go_at_call 27; refine (callsIn_wide.1 (blk_in 8 _ _ _ _)).mono ?_; rintro e w' ⟨rfl, rfl⟩))
  go_ret
  have hr2 : Row w2 w.heap.size 5 (u8s zs) := by
    have h := HG2.out
    have e : splice (madeCells (Value.int IntKind.u8 0).cells (len * 1)).toList 0 V = V := by
      unfold splice
      rw [List.drop_eq_nil_of_le (by rw [HL.out]; simp [madeCells])]
      simp
    rw [e, ← HV.out] at h
    exact h
  have hr3 := hr2.alloc (.cells #[.slice (some ⟨w.heap.size, 0, none⟩) len len] 22)
  refine ⟨w2.heap.size, rfl, hb2.size, Row.new w2 22 _, ⟨HI.out.1, Nat.le_refl _, by omega, HI.out.2.2.2.1, .inr ⟨w.heap.size, 0, rfl, hr3.lt, fun i hi => ?_⟩⟩, hb2.alloc hb2.size _⟩
  rw [Nat.zero_add]
  exact hr3.cell (u8s_at (by rw [HI.out.1]; exact hi))

theorem eqItems_dec (A B : List Nat) (w : World) : ∀ (is : List Nat), (∀ i ∈ is, i < A.length ∧ i < B.length) →
    (Op.eqItems 9999 5 1 (u8s A).toArray (u8s B).toArray is).run Tryd.prog w = .ok (is.all fun i => A.getD i 0 == B.getD i 0) w
  | [], _ => by simp [Op.eqItems]
  | i :: is, h => by
    obtain ⟨ha, hb⟩ := h i (by simp)
    have he : Tryd.prog.plainKey 5 = true := by kernel_rfl
    have hp : (part 5 (u8s A).toArray (i * 1)).run Tryd.prog w = .ok (.int .u8 (A.getD i 0 : Nat)) w := run_part_plain w he (by simpa using u8s_at ha)
    have hq : (part 5 (u8s B).toArray (i * 1)).run Tryd.prog w = .ok (.int .u8 (B.getD i 0 : Nat)) w := run_part_plain w he (by simpa using u8s_at hb)
    have hr := run_equalIn_int (P := Tryd.prog) w 9998 5 .u8 .u8 (A.getD i 0 : Nat) (B.getD i 0 : Nat) Tryd.underlying5
    have ih := eqItems_dec A B w is (fun j hj => h j (by simp [hj]))
    have hc : (((A.getD i 0 : Nat) : Int) == ((B.getD i 0 : Nat) : Int)) = (A.getD i 0 == B.getD i 0) := by
      rw [Bool.eq_iff_iff]; simp only [beq_iff_eq]; omega
    simp only [Op.eqItems, Sem.run_bind, hp, hq, Result.andThen_ok, hr, hc, List.all_cons]
    by_cases hx : (A.getD i 0 == B.getD i 0) = true
    · rw [hx]; simpa using ih
    · rw [Bool.not_eq_true] at hx; rw [hx]; simp
theorem equal33_dec (A B : List Nat) (hA : A.length = 64) (hB : B.length = 64) (w : World) : (Op.equalIn 10000 33 (.agg (u8s A).toArray) (.agg (u8s B).toArray)).run Tryd.prog w = .ok (decide (A = B)) w := by
  have hc : Tryd.prog.cellsOf 5 = 1 := by kernel_rfl
  cases hq : Tryd.prog.info? 5 with
  | none => have := size5; simp [hq] at this
  | some i =>
    rw [run_equalIn_array w 9999 _ _ Tryd.underlying33 hq, hc, eqItems_dec A B w _ (fun i hi => by have := List.mem_range.1 hi; omega)]
    congr 1
    rw [Bool.eq_iff_iff]
    simp only [List.all_eq_true, List.mem_range, beq_iff_eq, decide_eq_true_eq]
    constructor
    · intro h
      apply List.ext_getElem (by omega)
      intro j h1 h2
      have := h j (by omega)
      simpa [List.getElem?_eq_getElem h1, List.getElem?_eq_getElem h2] using this
    · rintro rfl j _; rfl

theorem wpHeld_skip {P : Program} {ops : Array Oper} {S : World → Prop} {K : Act → Prop} {a : Act} {o : Oper} {rest : List Oper} (hw : Region.wanted o (yielded ops a.tmps) = false) (h : wpHeld P ops S K rest (a.put o.dst undef)) : wpHeld P ops S K (o :: rest) a := ⟨undef, .inr ⟨hw, rfl⟩, h⟩
theorem wpHeld_load {P : Program} {ops : Array Oper} {S : World → Prop} {K : Act → Prop} {a : Act} {o : Oper} {rest : List Oper} (hw : Region.wanted o (yielded ops a.tmps) = true) (ty : TypeId) (x : Operand) (ho : o.op = .load ty x)
    (b off : Nat) (hx : a.eval x = .pointer (some ⟨b, off, none⟩)) (cs : List Value) {m : Nat} {e : TypeId} (hS : ∀ w, S w → w.rangeAt b off cs) (hu : P.underlying ty = some (.array m e)) (hi : (P.info? ty).map (·.size) = some cs.length)
    (h : wpHeld P ops S K rest (a.put o.dst (.agg cs.toArray))) : wpHeld P ops S K (o :: rest) a := ⟨_, yieldsIf_load_mid hw ty x ho b off hx cs _ hS hu rfl hi, h⟩

theorem results_bool {fn : Func} {p : Tmp} (h : fn.results = #[.cell p 4]) {tmps : Array Value} {w : World} {g : Nat} (hp : tmps.getD p undef = .pointer (some ⟨g, 0, none⟩)) {v : Value} (hg : Row w g 4 [v]) : (results fn tmps).run Tryd.prog w = .ok v w := by
  have hp' : tmps[p]?.getD undef = .pointer (some ⟨g, 0, none⟩) := by simpa using hp
  have hc := hg.cell (i := 0) rfl
  simp [results, h, hp', asAddr, loadVar, isAgg, run_underlying Tryd.underlying4, go_sem, hc]

theorem pre_at {bl pre r : List (List Nat)} {x : List Nat} (h : (pre ++ [x]) ++ r = bl) : pre.length < bl.length ∧ bl.getD pre.length [] = x := by
  subst h
  refine ⟨by simp, ?_⟩
  rw [List.append_assoc, List.getD_eq_getElem?_getD, List.getElem?_append_right (Nat.le_refl _)]
  simp
theorem pre_next {bl pre r : List (List Nat)} {x : List Nat} (h : pre ++ r = bl) (hl : pre.length < bl.length) (hx : bl.getD pre.length [] = x) : ∃ r', (pre ++ [x]) ++ r' = bl := by
  subst h
  cases r with
  | nil => simp at hl
  | cons y r =>
    refine ⟨r, ?_⟩
    rw [List.getD_eq_getElem?_getD, List.getElem?_append_right (Nat.le_refl _)] at hx
    simp at hx
    rw [hx, List.append_assoc]
    rfl

set_option maxRecDepth 100000 in
set_option maxHeartbeats 2000000 in
theorem shaBlocks_in (n : Nat) (hn : 12 ≤ n) (p : Option Addr) (len cap : Nat) (zs : List Nat) (mz : Int) (w : World) (hT : Tab w) (hI : IsBytes w.heap.size w p len cap zs) :
    CallsIn Fence.wide n Tryd.prog 4 #[.slice p len cap, .int .i64 mz] w fun e w' => e = .returned (.bool true) ∧ Below w.heap.size w w' := by
  have h1 : 1 ≤ n := by omega
  have hfn : ∀ f, Fence.wide.fn f := fun _ => trivial
  have HT : Hid (Tab w) := hT
  have HI : Hid (IsBytes w.heap.size w p len cap zs) := hI
  clear hT hI
  obtain ⟨w0, hw0⟩ : ∃ w0, w0 = (w.alloc (.cells #[.int .i64 mz] 3)).alloc (.cells #[.bool false] 4) := ⟨_, rfl⟩
  have hb0 : Below w.heap.size w w0 := by rw [hw0]; exact ((Below.refl _ w).alloc (Nat.le_refl _) _).alloc (by simp) _
  have HRm0 : Hid (Row w0 w.heap.size 3 [.int .i64 mz]) := by rw [hw0]; exact (Row.new w 3 _).alloc _
  have HRr0 : Hid (Row w0 (w.heap.size + 1) 4 [.bool false]) := by rw [hw0]; exact Row.newB w _ 4 _
  by_cases hlen : len ≤ 1000
  · have hli : ¬ (1000 : Int) < (len : Int) := by omega
    by_cases hm0 : mz < 0
    · refine callsIn_of_wp_marks Tryd.func4 rfl trivial ?_ rfl
      simp only [Tryd.ntmps4, List.size_toArray, List.length_cons, List.length_nil, Nat.reduceAdd, Nat.reduceSub, Array.replicate_succ, Array.replicate_zero, List.push_toArray, List.append_toArray, List.nil_append, List.cons_append]
      gi_wp2_with (gi_at_call 10; rw [← hw0]; refine (callsIn_wide.2 (awake_any _ (HT.out.later hb0))).mono ?_; rintro e w1 ⟨rfl, hb1⟩; have hbA := hb0.trans (hb1.mono hb0.size); have HRr1 : Hid (Row w1 (w.heap.size + 1) 4 [.bool false]) := HRr0.out.later hb1; have cm1 := (HRm0.out.later hb1).cell (i := 0) rfl; have cr1 := HRr1.out.cell (i := 0) rfl; have fr1 := HRr1.out.frozen 0; clear hb1)
      exact ⟨_, results_bool rfl rfl (HRr1.out.set 0 _), rfl, hbA.setCell (p := ⟨w.heap.size + 1, 0, none⟩) (by show _ ≤ w.heap.size + 1; omega) _⟩
    · obtain ⟨M, hM⟩ : ∃ M, M = padL zs := ⟨_, rfl⟩
      obtain ⟨K, hK⟩ : ∃ K, K = M.length / 64 := ⟨_, rfl⟩
      have HK : Hid (64 * K = M.length ∧ 0 < K ∧ K ≤ 100) := by
        have h1 := padL_mod zs
        have h2 := padL_length zs
        have h3 := HI.out.1
        have h4 : gapN zs.length < 64 := by unfold gapN; omega
        rw [← hM] at h1 h2
        exact ⟨by omega, by omega, by omega⟩
      have HB : Hid (∀ W, Below w.heap.size w W → Calls Tryd.prog 13 #[.slice p len cap] W fun e w' => ∃ q c, e = .returned (.slice q K c) ∧ w'.ownsRow W.heap.size 33 64 (.slice q K c) K (u8s M) ∧ Below W.heap.size W w') := fun W hb => by
        rw [hK, hM]; exact refBlocks_any p len cap zs W (by omega) (HI.out.later hb)
      have HKb : Hid (fullL M K = blocksL zs) := by show _ = _; rw [hK, hM]; exact padL_blocks zs
      have HMz : Hid (∀ z ∈ M, z < 256) := by rw [hM]; exact padL_lt zs HI.out.2.2.2.1
      clear hM hK
      refine callsIn_of_wp_marks Tryd.func4 rfl trivial ?_ rfl
      simp only [Tryd.ntmps4, List.size_toArray, List.length_cons, List.length_nil, Nat.reduceAdd, Nat.reduceSub, Array.replicate_succ, Array.replicate_zero, List.push_toArray, List.append_toArray, List.nil_append, List.cons_append]
      gi_wp2_with (first
        | (gi_at_call 10; rw [← hw0]; refine (callsIn_wide.2 (awake_any _ (HT.out.later hb0))).mono ?_; rintro e w1 ⟨rfl, hb1⟩; have hbA := hb0.trans (hb1.mono hb0.size); have HRm1 : Hid (Row w1 w.heap.size 3 [.int .i64 mz]) := HRm0.out.later hb1; have HRr1 : Hid (Row w1 (w.heap.size + 1) 4 [.bool false]) := HRr0.out.later hb1; have cm1 := HRm1.out.cell (i := 0) rfl; clear hb1)
        | (gi_at_call 13; refine (callsIn_wide.2 (HB.out _ hbA)).mono ?_; rintro e w2 ⟨q2, c2, rfl, hrow2, hb2⟩; have hbB := hbA.trans (hb2.mono hbA.size); have HRm2 : Hid (Row w2 w.heap.size 3 [.int .i64 mz]) := HRm1.out.later hb2; have HRr2 : Hid (Row w2 (w.heap.size + 1) 4 [.bool false]) := HRr1.out.later hb2; have HO2 : Hid (w2.ownsRow w1.heap.size 33 64 (.slice q2 K c2) K (u8s M)) := hrow2; clear hb2 hrow2)
        | (gi_at_call 14; refine (callsIn_wide.2 (blocks_any p len cap zs (by omega) _ (HI.out.later ((hbB.alloc hbB.size _).alloc (by simp; have := hbB.size; omega) _)))).mono ?_; rintro e w4 ⟨B, rfl, hBs, hrB, hIB, hb4⟩; have Hb4 : Hid (Below _ _ w4) := hb4; have HIB : Hid (IsBytes _ w4 _ len len zs) := hIB; have HrB : Hid (Row w4 B 22 _) := hrB; clear hb4 hIB hrB))
      have hK0 := HK.out.2.1
      obtain ⟨g, cur, rfl, hgn, hrg, htk⟩ := row_of_own HO2.out hK0
      have hgl := hrg.lt
      have hb4 := Hb4.out
      rw [World.size_alloc, World.size_alloc] at hBs
      have hIB := HIB.out
      have hrB := HrB.out
      rw [World.size_alloc, World.size_alloc] at hIB hrB
      have hs4 : w2.heap.size + 2 ≤ w4.heap.size := by have h := hb4.size; rw [World.size_alloc, World.size_alloc] at h; omega
      have HRw : Hid (Row w4 w2.heap.size 28 [.slice (some ⟨g, 0, none⟩) K c2]) := ((Row.new w2 28 _).alloc _).later hb4
      have HRi : Hid (Row w4 (w2.heap.size + 1) 3 [.int .i64 0]) := (Row.newB w2 _ 3 _).later hb4
      have HRg : Hid (Row w4 g 33 cur) := ((hrg.alloc _).alloc _).later hb4
      have HRm : Hid (Row w4 w.heap.size 3 [.int .i64 mz]) := ((HRm2.out.alloc _).alloc _).later hb4
      have HRr : Hid (Row w4 (w.heap.size + 1) 4 [.bool false]) := ((HRr2.out.alloc _).alloc _).later hb4
      have HB4 : Hid (Below w.heap.size w w4) := (((hbB.alloc hbB.size _).alloc (by simp; have := hbB.size; omega) _)).trans (hb4.mono (by rw [World.size_alloc, World.size_alloc]; have := hbB.size; omega))
      have HTk : Hid (cur.take (K * 64) = u8s M) := htk
      have HsA : Hid (w.heap.size + 2 ≤ w1.heap.size) := by have h := HRr1.out.lt; show _ ≤ _; omega
      have HIB2 : Hid (IsBytes w4.heap.size w4 (some ⟨w2.heap.size + 1 + 1, 0, none⟩) len len zs) := hIB
      have HrB2 : Hid (Row w4 B 22 [.slice (some ⟨w2.heap.size + 1 + 1, 0, none⟩) len len]) := hrB
      have Hgn : Hid (w1.heap.size ≤ g ∧ g < w2.heap.size) := ⟨hgn, hgl⟩
      clear hb4 Hb4 HO2 hrg htk hIB HIB hrB HrB HRm2 HRr2 HRm1 HRr1 cm1 HRm0 HRr0 hw0 hgn hgl
      obtain ⟨BL, hBL⟩ : ∃ BL, BL = blocksL zs := ⟨_, rfl⟩
      have HBL : Hid (fullL M K = BL) := by show _ = _; rw [hBL]; exact HKb.out
      have HBl : Hid (BL.length = K) := by show _ = _; rw [← HBL.out]; simp
      have HBg : Hid (∀ i, i < K → BL.getD i [] = (M.drop (64 * i)).take 64) := fun i hi => by rw [← HBL.out]; simp [fullL, hi]
      have HBe : Hid (BL = blocksL zs) := hBL
      clear hBL HKb HB
      refine wpIn_rangeFunc_arr rfl h1 (gf := 38) (lb := #[.pointer (some ⟨B, 0, none⟩)]) rfl trivial (enters_of Tryd.func38 (by kernel_rfl) rfl)
        (encs := fun x : List Nat => #[.agg (u8s x).toArray]) (Ok := fun x _ => BlockOk x) (Kp := KpM (fun k => k = w2.heap.size + 1 ∨ k = w.heap.size + 1) (w4.heap.size + 2)) (S := fun xs => xs = blocksL zs) (Sp := fun pre => ∃ r, pre ++ r = blocksL zs) (N := len + 3)
        (fun W' hs hb => blk1_iter (n - 1) (by omega) _ B (some ⟨w2.heap.size + 1 + 1, 0, none⟩) len len zs (by omega) W' (HIB2.out.later hb) (HrB2.out.later hb) (fun k => k = w2.heap.size + 1 ∨ k = w.heap.size + 1) _ (fun _ _ h => h.1) (fun _ _ h => by rw [hs]; exact h.2) (fun j hj => by have := HsA.out; have := Hgn.out; omega) (by have := HsA.out; have := Hgn.out; omega) (.inr (fun a ha e => by cases ha; simp at e; have := HsA.out; have := Hgn.out; omega)))
        KpM.trans (fun A o o' ho hc => KpM.record (by omega) o' ho hc) KpM.of_below (fun _ => rfl) 33 (fun x => u8s x)
        (fun pre A => (Row A w.heap.size 3 [.int .i64 mz] ∧ Row A (w.heap.size + 1) 4 [.bool false] ∧ Row A w2.heap.size 28 [.slice (some ⟨g, 0, none⟩) K c2] ∧ Row A (w2.heap.size + 1) 3 [.int .i64 pre.length] ∧ Row A g 33 cur ∧ ∃ r, pre ++ r = BL) ∧ Below w.heap.size w A)
        (fun c pre A => (c = .ret ∧ (Row A (w.heap.size + 1) 4 [.bool true] ∨ ¬ ∃ r, pre ++ r = BL)) ∧ Below w.heap.size w A)
        (fun pre A A' ⟨⟨h1, h2, h3, h4, h5, h6⟩, h7⟩ hb => ⟨⟨h1.below hb (by have := HsA.out; have := Hgn.out; omega), h2.below hb (by have := HsA.out; have := Hgn.out; omega), h3.below hb (by have := HsA.out; have := Hgn.out; omega), h4.below hb (by have := HsA.out; have := Hgn.out; omega), h5.below hb (by have := HsA.out; have := Hgn.out; omega), h6⟩, h7.trans (hb.mono (by have := HsA.out; have := Hgn.out; omega))⟩)
        (fun _ pre A A' ⟨⟨h0, h1⟩, h7⟩ hb => ⟨⟨h0, h1.imp (fun h => h.below hb (by have := HsA.out; have := Hgn.out; omega)) id⟩, h7.trans (hb.mono (by have := HsA.out; have := Hgn.out; omega))⟩)
        (fun _ _ _ h _ => h)
        ⟨⟨HRm.out, HRr.out, HRw.out, HRi.out, HRg.out, BL, rfl⟩, HB4.out⟩
        (fun x A => { tmps := #[.slice p len cap, .int .i64 mz, undef, .pointer (some ⟨w.heap.size, 0, none⟩), .pointer (some ⟨w.heap.size + 1, 0, none⟩), .pointer (some ⟨w2.heap.size, 0, none⟩), .pointer (some ⟨w2.heap.size + 1, 0, none⟩), .pointer (some ⟨A.heap.size, 0, none⟩), .bool true, .bool false, .slice p len cap, .int .i64 len, .bool (decide (1000 < (len : Int))), .bool (decide (1000 < (len : Int))), .int .i64 mz, .bool (decide (mz < 0)), .bool (decide (1000 < (len : Int)) || decide (mz < 0)), .slice p len cap, .slice (some ⟨g, 0, none⟩) K c2, .slice p len cap, .func (.func 38) #[] #[.pointer (some ⟨B, 0, none⟩)], .agg (u8s x).toArray, undef, undef, undef, undef, undef, undef, undef, undef, undef, undef, undef, undef, undef, undef, undef, undef, undef, undef, undef, undef, undef], defers := [] }) ?assign ?body ?done ?stop
      case assign =>
        intro li x A K' hok hK'
        have HXL : Hid ((u8s x).length = 64) := by show _ = _; rw [u8s_length]; exact hok.1
        have HX1 : Hid (∀ v ∈ u8s x, v.oneCell' = true) := u8s_one x
        have HK' : Hid (∀ W', Below A.heap.size A W' → Row W' A.heap.size 33 (u8s x) → K' _ W') := hK'
        clear hK'
        generalize u8s x = V at *
        gi_wp2_with ((with_reducible show wpListIn _ _ _ _ _ (Oper.mk _ (Op.store 33 (.tmp 7) (.tmp 21)) _ _ _ _ :: _) _ _); refine wpListIn_store_Row rfl 33 (.tmp 7) (.tmp 21) rfl V rfl rfl (Row.new _ _ _) (by rw [HXL.out]; exact size33') (by rw [HXL.out]; rfl) HX1.out ?_; simp only [Act.put])
        exact HK'.out _ (below_setCells (Nat.le_refl _) _ _ ((Below.refl _ A).alloc (Nat.le_refl _) _)) (Row.sets_all (Row.new _ _ _) (by rw [HXL.out]; rfl))
      case body =>
        rintro li pre x A₀ A ⟨⟨hrm, hrr, hrw, hri, hrg, r, hr⟩, hB⟩ hok hpre hle hrow
        obtain ⟨i, hi⟩ : ∃ i, i = pre.length := ⟨_, rfl⟩
        rw [← hi] at hri
        have HPi : Hid (i = pre.length) := hi
        have HX : Hid (BlockOk x) := hok
        have Hr : Hid (pre ++ r = BL) := hr
        have hrg64 : Hid (i < K → A.rangeAt g (64 * i) (u8s (BL.getD i []))) := fun hiK => by
          have h := hrg.mid HTk.out (64 * i) 64 (by omega)
          rw [HBg.out i hiK]
          rw [show u8s ((M.drop (64 * i)).take 64) = ((u8s M).drop (64 * i)).take 64 by simp [u8s, List.map_take, List.map_drop]]
          exact h
        have HWl : Hid (i < K → (BL.getD i []).length = 64) := fun hiK => by
          have := HK.out.1
          rw [HBg.out i hiK]; simp; omega
        have Hxr : Hid (A.rangeAt A₀.heap.size 0 (u8s x)) := hrow.range
        have ci := hri.cell (i := 0) rfl
        have cw := hrw.cell (i := 0) rfl
        have cm := hrm.cell (i := 0) rfl
        have fr := hrr.frozen 0
        have cr := hrr.cell (i := 0) rfl
        have fi := hri.frozen 0
        have HrI : Hid (Row A (w2.heap.size + 1) 3 [.int .i64 i]) := hri
        have HrR : Hid (Row A (w.heap.size + 1) 4 [.bool false]) := hrr
        have HrM : Hid (Row A w.heap.size 3 [.int .i64 mz]) := hrm
        have HrW : Hid (Row A w2.heap.size 28 [.slice (some ⟨g, 0, none⟩) K c2]) := hrw
        have HrG : Hid (Row A g 33 cur) := hrg
        clear hri hrr hrm hrw hrg hrow hr hok hi
        have KF : ∀ v, KeepsFrom w4.heap.size A (A.setCell ⟨w.heap.size + 1, 0, none⟩ v) := fun v => (KeepsOthers.setCell A _ v).from _
        have KP : ∀ v, KpM (fun k => k = w2.heap.size + 1 ∨ k = w.heap.size + 1) (w4.heap.size + 2) A (A.setCell ⟨w.heap.size + 1, 0, none⟩ v) := fun v => KpM.set (a := ⟨w.heap.size + 1, 0, none⟩) (.inr rfl) v
        have HKF : Hid (∀ v, KeepsFrom w4.heap.size A (A.setCell ⟨w.heap.size + 1, 0, none⟩ v)) := KF
        have HKP : Hid (∀ v, KpM (fun k => k = w2.heap.size + 1 ∨ k = w.heap.size + 1) (w4.heap.size + 2) A (A.setCell ⟨w.heap.size + 1, 0, none⟩ v)) := KP
        clear KF KP
        by_cases hm : (i : Int) = mz
        · have hmi : ((i : Int) == mz) = true := by simpa using hm
          gi_wp2
          exact ⟨HKF.out _, HKP.out _, ⟨rfl, .inl (HrR.out.set 0 _)⟩, hB.setCell (p := ⟨w.heap.size + 1, 0, none⟩) (by show _ ≤ w.heap.size + 1; omega) _⟩
        · have hmi : ((i : Int) == mz) = false := by simpa using hm
          by_cases hiK : i < K
          · have hge : ¬ ((K : Int) ≤ (i : Int)) := by omega
            have hxr := Hxr.out
            have hgr := hrg64.out hiK
            have HE := equal33_dec x (BL.getD i []) HX.out.1 (HWl.out hiK)
            have HWl' := HWl.out hiK
            generalize hw0 : BL.getD i [] = wt at *
            have Hw0 : Hid (BL.getD i [] = wt) := hw0
            clear hw0
            have hxl : (u8s x).length = 64 := by rw [u8s_length]; exact HX.out.1
            have hwl : (u8s wt).length = 64 := by rw [u8s_length]; exact HWl'
            gi_wp2
            refine wpIn_region_cutR (fun a' V => ∃ (v22 v23 v24 v25 v26 v27 v28 v29 v30 v31 v32 v33 v34 v35 : Value) (d : Bool), a' = { tmps := #[.slice p len cap, .int .i64 mz, undef, .pointer (some ⟨w.heap.size, 0, none⟩), .pointer (some ⟨w.heap.size + 1, 0, none⟩), .pointer (some ⟨w2.heap.size, 0, none⟩), .pointer (some ⟨w2.heap.size + 1, 0, none⟩), .pointer (some ⟨A₀.heap.size, 0, none⟩), .bool true, .bool false, .slice p len cap, .int .i64 len, .bool (decide (1000 < (len : Int))), .bool (decide (1000 < (len : Int))), .int .i64 mz, .bool (decide (mz < 0)), .bool (decide (1000 < (len : Int)) || decide (mz < 0)), .slice p len cap, .slice (some ⟨g, 0, none⟩) K c2, .slice p len cap, .func (.func 38) #[] #[.pointer (some ⟨B, 0, none⟩)], .agg (u8s x).toArray, v22, v23, v24, v25, v26, v27, v28, v29, v30, v31, v32, v33, v34, v35, .bool d, undef, undef, undef, undef, undef, undef], defers := [] } ∧ d = (!decide (x = wt)) ∧ Below A.heap.size A V) (S := fun W' => W'.cell? ⟨w2.heap.size + 1, 0, none⟩ = some (.int .i64 i) ∧ W'.cell? ⟨w2.heap.size, 0, none⟩ = some (.slice (some ⟨g, 0, none⟩) K c2) ∧ W'.rangeAt A₀.heap.size 0 (u8s x) ∧ W'.rangeAt g (64 * i) (u8s wt)) (by kernel_rfl) (by kernel_rfl) ⟨ci, cw, hxr, hgr⟩ (fun hHeld => ?_) ?_
            · refine wpAnyH_takesAt 0 12 0 (of_decide_eq_true (by kernel_rfl)) rfl (fun _ _ _ _ _ h => h) (by kernel_rfl) (by kernel_rfl) hHeld ?_
              simp only [List.drop_zero, List.take_succ_cons, List.take_zero]
              iterate 3 (refine wpHeld_step (v := ?_) (by rfl) (fun wz hSw => ?_) ?_; rotate_left; (focus (obtain ⟨c1, c2', c3, c4⟩ := hSw; go_simp; try with_reducible rfl)); (simp only [Act.put, List.setIfInBounds_toArray, List.set_cons_zero, List.set_cons_succ]))
              refine wpHeld_step (v := .bool false) (by rfl) (fun wz hSw => ?_) ?_
              · go_simp
              simp only [Act.put, List.setIfInBounds_toArray, List.set_cons_zero, List.set_cons_succ]
              iterate 1 (refine wpHeld_step (v := ?_) (by rfl) (fun wz hSw => ?_) ?_; rotate_left; (focus (obtain ⟨c1, c2', c3, c4⟩ := hSw; go_simp; try with_reducible rfl)); (simp only [Act.put, List.setIfInBounds_toArray, List.set_cons_zero, List.set_cons_succ]))
              refine wpHeld_load (by rfl) 33 (.tmp 7) rfl A₀.heap.size 0 rfl (u8s x) (fun wz h => h.2.2.1) Tryd.underlying33 (by rw [hxl]; exact size33') ?_
              simp only [Act.put, List.setIfInBounds_toArray, List.set_cons_zero, List.set_cons_succ]
              iterate 2 (refine wpHeld_step (v := ?_) (by rfl) (fun wz hSw => ?_) ?_; rotate_left; (focus (obtain ⟨c1, c2', c3, c4⟩ := hSw; go_simp; try with_reducible rfl)); (simp only [Act.put, List.setIfInBounds_toArray, List.set_cons_zero, List.set_cons_succ]))
              refine wpHeld_step (v := .pointer (some ⟨g, 64 * i, none⟩)) (by rfl) (fun wz hSw => ?_) ?_
              · go_simp
              simp only [Act.put, List.setIfInBounds_toArray, List.set_cons_zero, List.set_cons_succ]
              refine wpHeld_load (by rfl) 33 (.tmp 33) rfl g (64 * i) rfl (u8s wt) (fun wz h => h.2.2.2) Tryd.underlying33 (by rw [hwl]; exact size33') ?_
              simp only [Act.put, List.setIfInBounds_toArray, List.set_cons_zero, List.set_cons_succ]
              refine wpHeld_step (v := .bool (!decide (x = wt))) (by rfl) (fun wz hSw => ?_) ?_
              · go_simp
              simp only [Act.put, List.setIfInBounds_toArray, List.set_cons_zero, List.set_cons_succ]
              iterate 1 (refine wpHeld_step (v := ?_) (by rfl) (fun wz hSw => ?_) ?_; rotate_left; (focus (obtain ⟨c1, c2', c3, c4⟩ := hSw; go_simp; try with_reducible rfl)); (simp only [Act.put, List.setIfInBounds_toArray, List.set_cons_zero, List.set_cons_succ]))
              refine wpHeld_nil ?_
              refine wpAnyH_done (by kernel_rfl) ?_ _
              refine OnOnly.on ?_
              exact ⟨_, _, _, _, _, _, _, _, _, _, _, _, _, _, _, rfl, rfl, (Below.refl _ A).drew⟩
            · rintro a' V ⟨v22, v23, v24, v25, v26, v27, v28, v29, v30, v31, v32, v33, v34, v35, d, rfl, hd, hBV⟩
              have ciV := (HrI.out.later hBV).cell (i := 0) rfl
              have fiV := (HrI.out.later hBV).frozen 0
              have crV := (HrR.out.later hBV).cell (i := 0) rfl
              have frV := (HrR.out.later hBV).frozen 0
              have HV : Hid (Below A.heap.size A V) := hBV
              have HBV : Hid (Below w.heap.size w V) := hB.trans (hBV.mono hB.size)
              clear hBV
              by_cases hxw : x = wt
              · have hd' : d = false := by rw [hd]; simp [hxw]
                subst hd'
                have eA : IntKind.i64.wrap ((i : Int) + 1) = ((i + 1 : Nat) : Int) := by rw [IntKind.wrap_i64]; have := HK.out.2.2; omega
                clear hd
                gi_wp2
                refine ⟨(keepsFrom_of_below HV.out).trans ((KeepsOthers.setCell V _ _).from _), (KpM.of_below HV.out).trans (KpM.set (a := ⟨w2.heap.size + 1, 0, none⟩) (.inl rfl) _), ⟨(HrM.out.later HV.out).other (a := ⟨w2.heap.size + 1, 0, none⟩) (by have := HsA.out; have := Hgn.out; simp; omega) _, (HrR.out.later HV.out).other (a := ⟨w2.heap.size + 1, 0, none⟩) (by have := HsA.out; have := Hgn.out; simp; omega) _, (HrW.out.later HV.out).other (a := ⟨w2.heap.size + 1, 0, none⟩) (by simp) _, ?_, (HrG.out.later HV.out).other (a := ⟨w2.heap.size + 1, 0, none⟩) (by have := HsA.out; have := Hgn.out; simp; omega) _, ?_⟩, HBV.out.setCell (p := ⟨w2.heap.size + 1, 0, none⟩) (by have := HsA.out; have := Hgn.out; show _ ≤ w2.heap.size + 1; omega) _⟩
                · rw [List.length_append, List.length_singleton, ← HPi.out]
                  exact (HrI.out.later HV.out).set 0 _
                · exact pre_next Hr.out (by rw [HBl.out, ← HPi.out]; exact hiK) (by rw [← HPi.out, Hw0.out, hxw])
              · have hd' : d = true := by rw [hd]; simp [hxw]
                subst hd'
                clear hd
                gi_wp2
                refine ⟨(keepsFrom_of_below HV.out).trans ((KeepsOthers.setCell V _ _).from _), (KpM.of_below HV.out).trans (KpM.set (a := ⟨w.heap.size + 1, 0, none⟩) (.inr rfl) _), ⟨rfl, .inr ?_⟩, HBV.out.setCell (p := ⟨w.heap.size + 1, 0, none⟩) (by show _ ≤ w.heap.size + 1; omega) _⟩
                rintro ⟨r', hr'⟩
                have := (pre_at hr').2
                rw [← HPi.out, Hw0.out] at this
                exact hxw this.symm
          · have hge : ((K : Int) ≤ (i : Int)) := by omega
            gi_wp2
            refine wpIn_region_cutR (fun a' V => ∃ (v22 v23 v24 v25 v26 v27 v28 v29 v30 v31 v32 v33 v34 v35 : Value) (d : Bool), a' = { tmps := #[.slice p len cap, .int .i64 mz, undef, .pointer (some ⟨w.heap.size, 0, none⟩), .pointer (some ⟨w.heap.size + 1, 0, none⟩), .pointer (some ⟨w2.heap.size, 0, none⟩), .pointer (some ⟨w2.heap.size + 1, 0, none⟩), .pointer (some ⟨A₀.heap.size, 0, none⟩), .bool true, .bool false, .slice p len cap, .int .i64 len, .bool (decide (1000 < (len : Int))), .bool (decide (1000 < (len : Int))), .int .i64 mz, .bool (decide (mz < 0)), .bool (decide (1000 < (len : Int)) || decide (mz < 0)), .slice p len cap, .slice (some ⟨g, 0, none⟩) K c2, .slice p len cap, .func (.func 38) #[] #[.pointer (some ⟨B, 0, none⟩)], .agg (u8s x).toArray, v22, v23, v24, v25, v26, v27, v28, v29, v30, v31, v32, v33, v34, v35, .bool d, undef, undef, undef, undef, undef, undef], defers := [] } ∧ d = true ∧ Below A.heap.size A V) (S := fun W' => W'.cell? ⟨w2.heap.size + 1, 0, none⟩ = some (.int .i64 i) ∧ W'.cell? ⟨w2.heap.size, 0, none⟩ = some (.slice (some ⟨g, 0, none⟩) K c2) ∧ True ∧ True) (by kernel_rfl) (by kernel_rfl) ⟨ci, cw, trivial, trivial⟩ (fun hHeld => ?_) ?_
            · refine wpAnyH_takesAt 0 12 0 (of_decide_eq_true (by kernel_rfl)) rfl (fun _ _ _ _ _ h => h) (by kernel_rfl) (by kernel_rfl) hHeld ?_
              simp only [List.drop_zero, List.take_succ_cons, List.take_zero]
              iterate 3 (refine wpHeld_step (v := ?_) (by rfl) (fun wz hSw => ?_) ?_; rotate_left; (focus (obtain ⟨c1, c2', c3, c4⟩ := hSw; go_simp; try with_reducible rfl)); (simp only [Act.put, List.setIfInBounds_toArray, List.set_cons_zero, List.set_cons_succ]))
              refine wpHeld_step (v := .bool true) (by rfl) (fun wz hSw => ?_) ?_
              · go_simp
              simp only [Act.put, List.setIfInBounds_toArray, List.set_cons_zero, List.set_cons_succ]
              iterate 1 (refine wpHeld_step (v := ?_) (by rfl) (fun wz hSw => ?_) ?_; rotate_left; (focus (obtain ⟨c1, c2', c3, c4⟩ := hSw; go_simp; try with_reducible rfl)); (simp only [Act.put, List.setIfInBounds_toArray, List.set_cons_zero, List.set_cons_succ]))
              iterate 6 (refine wpHeld_skip (by rfl) ?_; simp only [Act.put, List.setIfInBounds_toArray, List.set_cons_zero, List.set_cons_succ])
              iterate 1 (refine wpHeld_step (v := ?_) (by rfl) (fun wz hSw => ?_) ?_; rotate_left; (focus (obtain ⟨c1, c2', c3, c4⟩ := hSw; go_simp; try with_reducible rfl)); (simp only [Act.put, List.setIfInBounds_toArray, List.set_cons_zero, List.set_cons_succ]))
              refine wpHeld_nil ?_
              refine wpAnyH_done (by kernel_rfl) ?_ _
              refine OnOnly.on ?_
              exact ⟨_, _, _, _, _, _, _, _, _, _, _, _, _, _, _, rfl, rfl, (Below.refl _ A).drew⟩
            · rintro a' V ⟨v22, v23, v24, v25, v26, v27, v28, v29, v30, v31, v32, v33, v34, v35, d, rfl, rfl, hBV⟩
              have ciV := (HrI.out.later hBV).cell (i := 0) rfl
              have fiV := (HrI.out.later hBV).frozen 0
              have crV := (HrR.out.later hBV).cell (i := 0) rfl
              have frV := (HrR.out.later hBV).frozen 0
              have HV : Hid (Below A.heap.size A V) := hBV
              have HBV : Hid (Below w.heap.size w V) := hB.trans (hBV.mono hB.size)
              clear hBV
              gi_wp2
              refine ⟨(keepsFrom_of_below HV.out).trans ((KeepsOthers.setCell V _ _).from _), (KpM.of_below HV.out).trans (KpM.set (a := ⟨w.heap.size + 1, 0, none⟩) (.inr rfl) _), ⟨rfl, .inr ?_⟩, HBV.out.setCell (p := ⟨w.heap.size + 1, 0, none⟩) (by show _ ≤ w.heap.size + 1; omega) _⟩
              rintro ⟨r', hr'⟩
              have := (pre_at hr').1
              rw [← HPi.out, HBl.out] at this
              omega
      case done =>
        rintro D xs A hD rfl ⟨⟨hrm, hrr, hrw, hri, hrg, _⟩, hB⟩ hKD
        rw [← HBe.out, HBl.out] at hri
        have cw := hrw.cell (i := 0) rfl
        have ci := hri.cell (i := 0) rfl
        have cr := hrr.cell (i := 0) rfl
        have fr := hrr.frozen 0
        have HrR : Hid (Row A (w.heap.size + 1) 4 [.bool false]) := hrr
        clear hrm hrr hrw hri hrg
        gi_wp2
        have hKF : (A.setCell ⟨w.heap.size + 1, 0, none⟩ (.bool true)).heap[D]? = some (.deferred (some [])) := (heap_setCell_other A ⟨w.heap.size + 1, 0, none⟩ D _ (by show D ≠ w.heap.size + 1; have := HsA.out; have := Hgn.out; omega)).trans hKD
        refine ⟨by simp, .inl ⟨_, _, rfl, run_takeDeferred hKF, ?_⟩⟩
        have hR3 : Row (A.setCell ⟨w.heap.size + 1, 0, none⟩ (.bool true)) (w.heap.size + 1) 4 [.bool true] := HrR.out.set 0 _
        refine ⟨_, results_bool rfl rfl ((World.putObj_heap_other (by have := HsA.out; have := Hgn.out; omega)).trans hR3), rfl, ?_⟩
        exact (hB.setCell (p := ⟨w.heap.size + 1, 0, none⟩) (by show _ ≤ w.heap.size + 1; omega) _).trans (below_putObj _ _ (by have := HsA.out; have := Hgn.out; omega))
      case stop =>
        rintro D c pre A hD ⟨r, hr⟩ ⟨⟨rfl, h⟩, hB⟩ hKD
        have hrr : Row A (w.heap.size + 1) 4 [.bool true] := by
          rcases h with h | h
          · exact h
          · exact absurd ⟨r, by rw [HBe.out]; exact hr⟩ h
        gi_wp2
        refine ⟨by simp, .inl ⟨_, _, rfl, run_takeDeferred hKD, ?_⟩⟩
        refine ⟨_, results_bool rfl rfl ((World.putObj_heap_other (by have := HsA.out; have := Hgn.out; omega)).trans hrr), rfl, ?_⟩
        exact hB.trans (below_putObj _ _ (by have := HsA.out; have := Hgn.out; omega))
  · have hli : (1000 : Int) < (len : Int) := by omega
    refine callsIn_of_wp_marks Tryd.func4 rfl trivial ?_ rfl
    simp only [Tryd.ntmps4, List.size_toArray, List.length_cons, List.length_nil, Nat.reduceAdd, Nat.reduceSub, Array.replicate_succ, Array.replicate_zero, List.push_toArray, List.append_toArray, List.nil_append, List.cons_append]
    gi_wp2_with (gi_at_call 10; rw [← hw0]; refine (callsIn_wide.2 (awake_any _ (HT.out.later hb0))).mono ?_; rintro e w1 ⟨rfl, hb1⟩; have hbA := hb0.trans (hb1.mono hb0.size); have HRr1 : Hid (Row w1 (w.heap.size + 1) 4 [.bool false]) := HRr0.out.later hb1; have cm1 := (HRm0.out.later hb1).cell (i := 0) rfl; have cr1 := HRr1.out.cell (i := 0) rfl; have fr1 := HRr1.out.frozen 0; clear hb1)
    exact ⟨_, results_bool rfl rfl (HRr1.out.set 0 _), rfl, hbA.setCell (p := ⟨w.heap.size + 1, 0, none⟩) (by show _ ≤ w.heap.size + 1; omega) _⟩

theorem shaBlocks_walk (p : Option Addr) (len cap : Nat) (zs : List Nat) (mz : Int) (w : World) (hT : Tab w) (hI : IsBytes w.heap.size w p len cap zs) (_ : -9223372036854775808 ≤ mz ∧ mz ≤ 9223372036854775807) :
    Calls Tryd.prog 4 #[.slice p len cap, .int .i64 mz] w fun e w' => e = .returned (.bool true) ∧ Below w.heap.size w w' :=
  callsIn_wide.1 (shaBlocks_in 12 (by omega) p len cap zs mz w hT hI)
end Go.Proofs.YtokjbldelpiejaaDoor
