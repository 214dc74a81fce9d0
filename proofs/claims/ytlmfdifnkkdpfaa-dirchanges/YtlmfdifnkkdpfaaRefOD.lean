/-
  The reference's DirOf.
-/
import Derived.Test.YtlmfdifnkkdpfaaOfD
import Derived.Test.YtlmfdifnkkdpfaaRefPD
namespace Go.Proofs.Ytlmfdifnkkdpfaa
open Go.RowKit

/-! Parts of an entry, written -/
theorem put_name {x : Ent} (h : x.ok) (s : ByteArray) : putAt (entC x) 32 [.string s] = entC { x with name := s } := by
  have l1 : (u8s x.blind).length = 32 := by rw [u8s_length, h.1.1]
  simp [putAt, entC, l1]
theorem put_kind {x : Ent} (h : x.ok) (k : Int) : putAt (entC x) 33 [.int .i64 k] = entC { x with kind := k } := by
  have l1 : (u8s x.blind).length = 32 := by rw [u8s_length, h.1.1]
  simp [putAt, entC, l1]
theorem entC_take34 {x : Ent} (h : x.ok) : (entC x).take 34 = u8s x.blind ++ [.string x.name, .int .i64 x.kind] := by
  have l1 : (u8s x.blind).length = 32 := by rw [u8s_length, h.1.1]
  rw [entC, List.take_append, l1, List.take_of_length_le (by omega)]
  rfl
theorem entC_drop66 {x : Ent} (h : x.ok) : (entC x).drop 66 = u8s x.key ++ [.int .u32 (x.realm : Nat), .int .u32 (x.epoch : Nat)] := by
  have l1 : (u8s x.blind).length = 32 := by rw [u8s_length, h.1.1]
  have l2 : (u8s x.id).length = 32 := by rw [u8s_length, h.2.1.1]
  rw [entC, drop_app l1 (by omega)]
  show (u8s x.id ++ _).drop 32 = _
  rw [drop_app l2 (by omega)]
  rfl
theorem put_id {x : Ent} (h : x.ok) {i : List Nat} (hi : i.length = 32) : putAt (entC x) 34 (u8s i) = entC { x with id := i } := by
  rw [putAt_eq _ _ _ (by rw [entC_length h, u8s_length, hi]; omega), u8s_length, hi, entC_take34 h, entC_drop66 h]
  simp [entC]
theorem put_key {x : Ent} (h : x.ok) {i : List Nat} (hi : i.length = 32) : putAt (entC x) 66 (u8s i) = entC { x with key := i } := by
  have l1 : (u8s x.blind).length = 32 := by rw [u8s_length, h.1.1]
  have l2 : (u8s x.id).length = 32 := by rw [u8s_length, h.2.1.1]
  have l3 : (u8s x.key).length = 32 := by rw [u8s_length, h.2.2.1.1]
  have e1 : (entC x).take 66 = u8s x.blind ++ [.string x.name, .int .i64 x.kind] ++ u8s x.id := by
    rw [show 66 = 34 + 32 from rfl, List.take_add, entC_take34 h, entC_id h]
  have e2 : (entC x).drop (66 + 32) = [.int .u32 (x.realm : Nat), .int .u32 (x.epoch : Nat)] := by
    rw [← List.drop_drop, entC_drop66 h, List.drop_left' l3]
  rw [putAt_eq _ _ _ (by rw [entC_length h, u8s_length, hi]; omega), u8s_length, hi, e1, e2]
  simp [entC]
theorem put_realm {x : Ent} (h : x.ok) (r : Nat) : putAt (entC x) 98 [.int .u32 (r : Nat)] = entC { x with realm := r } := by
  have l1 : (u8s x.blind).length = 32 := by rw [u8s_length, h.1.1]
  have l2 : (u8s x.id).length = 32 := by rw [u8s_length, h.2.1.1]
  have l3 : (u8s x.key).length = 32 := by rw [u8s_length, h.2.2.1.1]
  simp [putAt, entC, l1, l2, l3]
theorem put_epoch {x : Ent} (h : x.ok) (r : Nat) : putAt (entC x) 99 [.int .u32 (r : Nat)] = entC { x with epoch := r } := by
  have l1 : (u8s x.blind).length = 32 := by rw [u8s_length, h.1.1]
  have l2 : (u8s x.id).length = 32 := by rw [u8s_length, h.2.1.1]
  have l3 : (u8s x.key).length = 32 := by rw [u8s_length, h.2.2.1.1]
  simp [putAt, entC, l1, l2, l3]

/-- Where the reading stands. -/
structure StR (w W : World) (G : Nat) (st : Option (List Nat)) (x : Ent) (v : Value) (es : List Ent) : Prop where
  rf : RfAt w.heap.size W w.heap.size st
  ent : EntAt W G x
  own : OwnE (w.heap.size + 1) W v es
  low : ∀ k, v.ownBlock = some k → k < G
  bel : Below w.heap.size w W
  gt : w.heap.size < G
theorem OwnE.but {A A' : World} {n₀ B : Nat} {v : Value} {es : List Ent} (h : OwnE n₀ A v es) (hb : But B A.heap.size A A') (hB : ∀ k, v.ownBlock = some k → k ≠ B) : OwnE n₀ A' v es := by
  refine ⟨h.1, ?_⟩
  rcases h.2 with hn | ⟨g, cap, cur, rfl, hg, hgg, rest⟩
  · exact .inl hn
  · exact .inr ⟨g, cap, cur, rfl, hg, (hb.block g (Array.getElem?_eq_some_iff.1 hgg).1 (hB g rfl)).trans hgg, rest⟩
theorem OwnE.low {W : World} {n₀ : Nat} {v : Value} {es : List Ent} (h : OwnE n₀ W v es) : ∀ k, v.ownBlock = some k → n₀ ≤ k ∧ k < W.heap.size := fun k hk => World.ownsRow.lt h k hk
theorem StR.call {w W W' : World} {G : Nat} {st st' : Option (List Nat)} {x : Ent} {v : Value} {es : List Ent} (h : StR w W G st x v es) (hb : But w.heap.size W.heap.size W W') (hr : RfAt w.heap.size W' w.heap.size st') : StR w W' G st' x v es := by
  have hg := h.gt
  exact ⟨hr, ⟨h.ent.ok, hb.row h.ent.row.lt (by omega) h.ent.row⟩, h.own.but hb (fun k hk => by have := (h.own.low k hk).1; omega), h.low, h.bel.trans (hb.below h.bel.size (Nat.le_refl _)), h.gt⟩
theorem StR.put {w W : World} {G : Nat} {st : Option (List Nat)} {x x' : Ent} {v : Value} {es : List Ent} (h : StR w W G st x v es) {o : Nat} {vs : List Value} (hx : x'.ok) (he : putAt (entC x) o vs = entC x') : StR w (W.setCells G o vs) G st x' v es := by
  have hg := h.gt
  have hb : But G W.heap.size W (W.setCells G o vs) := But.sets _ _ _
  refine ⟨h.rf.but hb (by omega) (by omega) h.bel.size, ⟨hx, ?_⟩, h.own.but hb (fun k hk => by have := h.low k hk; omega), h.low, below_setCells (by omega) _ _ h.bel, h.gt⟩
  have := Row.sets vs o h.ent.row
  rwa [he] at this

set_option maxRecDepth 100000 in
theorem built43b (f1 : Nat → Value) :
    Try.prog.built 43 [(0, .agg ((List.range 32).map f1).toArray)]
      = some ((List.range 32).map f1 ++ (Value.string ⟨#[]⟩ :: Value.int .i64 0 :: (noId ++ (noId ++ [Value.int .u32 0, Value.int .u32 0])))).toArray := by kernel_rfl
def blindOnly (b : List Nat) : Ent := ⟨b, ⟨#[]⟩, 0, zeros32, zeros32, 0, 0⟩
theorem blindOnly_ok {b : List Nat} (h : IsId b) : (blindOnly b).ok := ⟨h, isId_zeros, isId_zeros, by simp [blindOnly], by simp [blindOnly], by simp [blindOnly]⟩
theorem run_build43b {b : List Nat} (h : IsId b) (w : World) : (Instr.build 43 #[(0, .agg (u8s b).toArray)]).run Try.prog w = .ok (.agg (entC (blindOnly b)).toArray) w := by
  refine run_build w 43 _ _ ?_
  have h1 := range32 (V := u8s b) (by rw [u8s_length, h.1])
  have hb := built43b (fun i => (u8s b).getD i undef)
  rw [← h1] at hb
  exact hb

theorem wpList_build43 {ops : Array Oper} {rest : List Oper} {o : Oper} {a : Act} {w : World} {Q : Exit → Act → World → Prop} (hgd : o.guard = none) (x : Operand) (ho : o.op = .build 43 #[(0, x)]) {b : List Nat} (hb : IsId b) (hx : a.eval x = .agg (u8s b).toArray)
    (h : wpList Try.prog ops Q rest (a.put o.dst (.agg (entC (blindOnly b)).toArray)) w) : wpList Try.prog ops Q (o :: rest) a w := by
  refine wpList_plain hgd fun K hK => ?_
  unfold Oper.wp
  simp [execOp, ho, hx, run_build43b hb, Result.andThen]
  exact hK _ _ h
theorem EntAt.there {W : World} {G : Nat} {x : Ent} (h : EntAt W G x) {o n : Nat} (hn : o + n ≤ 100) : W.there G o n := by
  intro j hj
  have hlt : o + j < (entC x).length := by rw [entC_length h.ok]; omega
  exact ⟨by rw [h.row.cell (List.getElem?_eq_getElem hlt)]; rfl, h.row.frozen _⟩
theorem size40 : (Try.prog.info? 40).map (·.size) = some 32 := by kernel_rfl
theorem mk_ok {b i y : List Nat} {s : ByteArray} {k r e : Nat} (hb : IsId b) (hi : IsId i) (hy : IsId y) (hk : k ≤ 4) (hr : r ≤ 4294967295) (he : e ≤ 4294967295) : Ent.ok ⟨b, s, (k : Int), i, y, r, e⟩ := by
  refine ⟨hb, hi, hy, ?_, ?_, ?_⟩
  · show -9223372036854775808 ≤ (k : Int) ∧ (k : Int) ≤ 9223372036854775807; omega
  · show r < 4294967296; omega
  · show e < 4294967296; omega
def RfW (w W : World) (st : Option (List Nat)) (v : Value) (es : List Ent) : Prop := RfAt w.heap.size W w.heap.size st ∧ OwnE (w.heap.size + 1) W v es ∧ Below w.heap.size w W

set_option maxRecDepth 100000 in
set_option maxHeartbeats 2000000 in
/-- One round of the reference's loop. -/
theorem refDirOf_any (p : Option Addr) (len cap : Nat) (zs : List Nat) (w : World) (hI : IsBytes w.heap.size w p len cap zs) (hlen : len ≤ 60000) :
    Calls Try.prog 15 #[.slice p len cap] w fun e w' => ∃ q l c, e = .returned (.tuple #[.slice q l c, .int .i64 (if isDir zs then 0 else 110)]) ∧ IsEnts w'.heap.size w' q l c (if isDir zs then dirL zs else []) ∧ Below w.heap.size w w' := by
  have HI : Hid (IsBytes w.heap.size w p len cap zs) := hI
  have HZ : Hid (∀ z ∈ zs, z < 256) := hI.2.2.2.1
  have hn5 := nK_le zs
  obtain ⟨w1, hw1⟩ : ∃ w1, w.alloc (.cells #[.slice p len cap, .bool false] 79) = w1 := ⟨_, rfl⟩
  have hb1 : Below w.heap.size w w1 := by rw [← hw1]; exact (Below.refl _ w).alloc (Nat.le_refl _) _
  have HR1 : Hid (RfAt w.heap.size w1 w.heap.size (some zs)) := ⟨p, len, cap, by rw [← hw1]; exact Row.new w 79 _, HI.out.below hb1, by omega⟩
  have HW1 : Hid (w.alloc (.cells #[.slice p len cap, .bool false] 79) = w1) := hw1
  have HN : Hid (Calls Try.prog 45 #[.pointer (some ⟨w.heap.size, 0, none⟩), .int .u64 ((500 : Nat) : Int)] w1 fun e w' => e = .returned (.int .u64 (nK zs : Nat)) ∧ RfAt w.heap.size w' w.heap.size (sK zs) ∧ But w.heap.size w1.heap.size w1 w') := refRN_any w.heap.size w.heap.size 500 (Nat.le_refl _) (some zs) w1 HR1.out
  have HAh : Hid (Ahead (sK zs)) := sK_ahead HZ.out
  obtain ⟨n, hn⟩ : ∃ n, nK zs = n := ⟨_, rfl⟩
  obtain ⟨S0, hS0⟩ : ∃ S0, sK zs = S0 := ⟨_, rfl⟩
  rw [hn, hS0] at HN
  rw [hn] at hn5
  rw [hS0] at HAh
  have HNn : Hid (nK zs = n) := hn
  have HS0 : Hid (sK zs = S0) := hS0
  clear hI hn hS0 hw1 HR1
  go_enter Try.func15, Try.ntmps15
  go_wp2_with (go_at_call 45; rw [HW1.out]; refine HN.out.mono ?_; rintro e w2 ⟨rfl, hR2, hbu2⟩; have HR2 : Hid (RfW w w2 S0 (.slice none 0 0) []) := ⟨hR2, OwnE.nil _ _, hb1.trans (hbu2.below hb1.size (Nat.le_refl _))⟩; clear hR2 hbu2 hb1 HW1 HN)
  go_loopw [6, 7] (fun a i wr => ∃ (k : Nat) (q : Option Addr) (l c : Nat), k ≤ n ∧ i = .int .u64 k ∧ a = .slice q l c ∧ RfW w wr (stK k S0) (.slice q l c) (esK k S0)) (fun _ i _ => n - (intOf i).toNat)
  case atStart => exact ⟨0, none, 0, 0, Nat.zero_le _, rfl, rfl, HR2.out⟩
  case round =>
    clear HR2
    obtain ⟨k, q, l, c, hk, rfl, rfl, hrel⟩ := hrel
    have HRf : Hid (RfW w wr (stK k S0) (.slice q l c) (esK k S0)) := hrel
    have hBl := hrel.1.lt
    clear hrel
    have HStAh : Hid (Ahead (stK k S0)) := stK_ahead HAh.out k
    by_cases hgo : k < n ∧ ∃ ys, stK k S0 = some ys
    · obtain ⟨hlt, ys, hys⟩ := hgo
      have hki : (k : Int) < (n : Int) := by omega
      have hbad : wr.cell? ⟨w.heap.size, 1, none⟩ = some (.bool false) := by
        have := HRf.out.1
        rw [hys] at this
        obtain ⟨_, _, _, hr, _⟩ := this
        exact hr.cell (i := 1) rfl
      have hke := esK_succ k S0
      have HKe : Hid (esK (k + 1) S0 = esK k S0 ++ [rdE (stK k S0)]) := hke
      have HSt : Hid (stK (k + 1) S0 = e7 (stK k S0)) := rfl
      have HEl : Hid ((esK k S0).length ≤ 500) := by show _ ≤ _; rw [esK_length]; omega
      clear hke hys
      generalize stK k S0 = st at *
      generalize esK k S0 = es at *
      have k4 := readN_le 4 (e2 st)
      have k5 := readN_le 4294967295 (e5 st)
      have k6 := readN_le 4294967295 (e6 st)
      have HX : Hid (rdE st = ⟨idR st, strOf (readText 64 (e1 st)).1, ((readN 4 (e2 st)).1 : Nat), idR (e3 st), idR (e4 st), (readN 4294967295 (e5 st)).1, (readN 4294967295 (e6 st)).1⟩) := rfl
      have HN4 : Hid (∀ W, RfAt w.heap.size W w.heap.size (e2 st) → Calls Try.prog 45 #[.pointer (some ⟨w.heap.size, 0, none⟩), .int .u64 4] W fun e w' => e = .returned (.int .u64 ((readN 4 (e2 st)).1 : Nat)) ∧ RfAt w.heap.size w' w.heap.size (e3 st) ∧ But w.heap.size W.heap.size W w') := fun W h => refRN_any w.heap.size w.heap.size 4 (Nat.le_refl _) (e2 st) W h
      have HN5 : Hid (∀ W, RfAt w.heap.size W w.heap.size (e5 st) → Calls Try.prog 45 #[.pointer (some ⟨w.heap.size, 0, none⟩), .int .u64 4294967295] W fun e w' => e = .returned (.int .u64 ((readN 4294967295 (e5 st)).1 : Nat)) ∧ RfAt w.heap.size w' w.heap.size (e6 st) ∧ But w.heap.size W.heap.size W w') := fun W h => refRN_any w.heap.size w.heap.size 4294967295 (Nat.le_refl _) (e5 st) W h
      have HN6 : Hid (∀ W, RfAt w.heap.size W w.heap.size (e6 st) → Calls Try.prog 45 #[.pointer (some ⟨w.heap.size, 0, none⟩), .int .u64 4294967295] W fun e w' => e = .returned (.int .u64 ((readN 4294967295 (e6 st)).1 : Nat)) ∧ RfAt w.heap.size w' w.heap.size (e7 st) ∧ But w.heap.size W.heap.size W w') := fun W h => refRN_any w.heap.size w.heap.size 4294967295 (Nat.le_refl _) (e6 st) W h
      generalize (readN 4 (e2 st)).1 = n4 at *
      generalize (readN 4294967295 (e5 st)).1 = n5 at *
      generalize (readN 4294967295 (e6 st)).1 = n6 at *
      have u4 : IntKind.i64.wrap (n4 : Int) = (n4 : Int) := by rw [IntKind.wrap_i64]; omega
      have u5 : IntKind.u32.wrap (n5 : Int) = (n5 : Int) := by rw [IntKind.wrap_u32]; omega
      have u6 : IntKind.u32.wrap (n6 : Int) = (n6 : Int) := by rw [IntKind.wrap_u32]; omega
      have v4 : wrap64 (n4 : Int) = (n4 : Int) := by unfold wrap64; omega
      have v5 : (n5 : Int) % 4294967296 = (n5 : Int) := by omega
      have v6 : (n6 : Int) % 4294967296 = (n6 : Int) := by omega
      have HI0 : Hid (IsId (idR st)) := idR_ok HStAh.out
      have HI3 : Hid (IsId (idR (e3 st))) := idR_ok HStAh.out.e3
      have HI4 : Hid (IsId (idR (e4 st))) := idR_ok HStAh.out.e4
      have HTx : Hid (∀ z ∈ (readText 64 (e1 st)).1, z < 256) := (readText_all (z := 64) HStAh.out.e1).1
      obtain ⟨t, ht⟩ : ∃ t, (readText 64 (e1 st)).1 = t := ⟨_, rfl⟩
      have HTt : Hid ((readText 64 (e1 st)).1 = t) := ht
      rw [ht] at HX HTx
      clear ht
      have hq1 : Hid (Ent.ok ⟨idR st, strOf t, 0, zeros32, zeros32, 0, 0⟩) := mk_ok (k := 0) HI0.out isId_zeros isId_zeros (Nat.zero_le _) (Nat.zero_le _) (Nat.zero_le _)
      have hq2 : Hid (Ent.ok ⟨idR st, strOf t, (n4 : Int), zeros32, zeros32, 0, 0⟩) := mk_ok HI0.out isId_zeros isId_zeros k4 (Nat.zero_le _) (Nat.zero_le _)
      have hq3 : Hid (Ent.ok ⟨idR st, strOf t, (n4 : Int), idR (e3 st), zeros32, 0, 0⟩) := mk_ok HI0.out HI3.out isId_zeros k4 (Nat.zero_le _) (Nat.zero_le _)
      have hq4 : Hid (Ent.ok ⟨idR st, strOf t, (n4 : Int), idR (e3 st), idR (e4 st), 0, 0⟩) := mk_ok HI0.out HI3.out HI4.out k4 (Nat.zero_le _) (Nat.zero_le _)
      have hq5 : Hid (Ent.ok ⟨idR st, strOf t, (n4 : Int), idR (e3 st), idR (e4 st), n5, 0⟩) := mk_ok HI0.out HI3.out HI4.out k4 k5 (Nat.zero_le _)
      have hq6 : Hid (Ent.ok ⟨idR st, strOf t, (n4 : Int), idR (e3 st), idR (e4 st), n5, n6⟩) := mk_ok HI0.out HI3.out HI4.out k4 k5 k6
      obtain ⟨i0, hi0, hz0, hz1, hz2⟩ := info_parts info43
      go_wp2_with (first
        | (go_at_call 46; have hdone := HRf.out; refine (refId_any w.heap.size w.heap.size st wr (Nat.le_refl _) HRf.out.1).mono ?_; rintro e wA ⟨rfl, hRA, hbA⟩; have hOA := HRf.out.2.1.but hbA (fun k hk => by have := (HRf.out.2.1.low k hk).1; omega); have HRA : Hid (RfW w wA (e1 st) (.slice q l c) es) := ⟨hRA, hOA, HRf.out.2.2.trans (hbA.below HRf.out.2.2.size (Nat.le_refl _))⟩; have hBA := hRA.lt; clear hdone hRA hbA hOA HRf hbad)
        | ((with_reducible show wpList _ _ _ (Oper.mk _ (Op.build 43 _) _ _ _ _ :: _) _ _); refine wpList_build43 rfl (.tmp 29) rfl HI0.out rfl ?_; simp only [Act.put, List.setIfInBounds_toArray, List.set_cons_zero, List.set_cons_succ])
        | ((with_reducible show wpList _ _ _ (Oper.mk _ (Op.store 43 (.tmp 8) (.tmp 30)) _ _ _ _ :: _) _ _); refine wpList_storeNew rfl (.tmp 8) (.tmp 30) rfl (blindOnly (idR st)) (blindOnly_ok HI0.out) rfl rfl (fun W2 hb2 hE => ?_); have HS2 : Hid (StR w W2 wA.heap.size (e1 st) (blindOnly (idR st)) (.slice q l c) es) := ⟨HRA.out.1.later (by omega) hb2, hE, HRA.out.2.1.later hb2, fun k hk => (HRA.out.2.1.low k hk).2, HRA.out.2.2.trans (hb2.mono HRA.out.2.2.size), hBA⟩; clear hb2 hE HRA; simp only [Act.put])
        | (go_at_call 47; refine (refRText_any w.heap.size w.heap.size (e1 st) 64 (by omega) W2 (Nat.le_refl _) HS2.out.rf).mono ?_; rintro e w3 ⟨q3, l3, c3, rfl, hJ3, hR3, hb3⟩; rw [HTt.out] at hJ3; have hst3 : StR w w3 wA.heap.size (e2 st) (blindOnly (idR st)) (.slice q l c) es := HS2.out.call hb3 hR3; have hs3 := (str_of_bytes (hJ3.mono hst3.bel.size)).here; have hc3 := hst3.ent.name; have hf3 := hst3.ent.row.frozen 32; have HS4 : Hid (StR w (w3.setCell ⟨wA.heap.size, 32, none⟩ (.string (strOf t))) wA.heap.size (e2 st) ⟨idR st, strOf t, 0, zeros32, zeros32, 0, 0⟩ (.slice q l c) es) := hst3.put (o := 32) (vs := [.string (strOf t)]) hq1.out (put_name (blindOnly_ok HI0.out) (strOf t)); clear hJ3 hR3 hb3 HS2 hst3)
        | (go_at_call 45; have hdone := HS4.out; refine (HN4.out _ HS4.out.rf).mono ?_; rintro e w5 ⟨rfl, hR5, hb5⟩; have hst5 := HS4.out.call hb5 hR5; have hc5 := hst5.ent.kind; have hf5 := hst5.ent.row.frozen 33; have HS6 : Hid (StR w (w5.setCell ⟨wA.heap.size, 33, none⟩ (.int .i64 (n4 : Int))) wA.heap.size (e3 st) ⟨idR st, strOf t, (n4 : Int), zeros32, zeros32, 0, 0⟩ (.slice q l c) es) := hst5.put (o := 33) (vs := [.int .i64 (n4 : Int)]) hq2.out (put_kind hq1.out (n4 : Int)); clear hdone hR5 hb5 HS4 hst5 hs3 hc3 hf3)
        | (go_at_call 46; have hdone := HS6.out; refine (refId_any w.heap.size w.heap.size (e3 st) _ (Nat.le_refl _) HS6.out.rf).mono ?_; rintro e w7 ⟨rfl, hR7, hb7⟩; have hst7 : StR w w7 wA.heap.size (e4 st) ⟨idR st, strOf t, (n4 : Int), zeros32, zeros32, 0, 0⟩ (.slice q l c) es := HS6.out.call hb7 hR7; have HS7 : Hid (StR w w7 wA.heap.size (e4 st) ⟨idR st, strOf t, (n4 : Int), zeros32, zeros32, 0, 0⟩ (.slice q l c) es) := hst7; clear hdone hR7 hb7 HS6 hst7 hc5 hf5)
        | ((with_reducible show wpList _ _ _ (Oper.mk _ (Op.store 39 (.tmp 41) (.tmp 40)) _ _ _ _ :: _) _ _); refine wpList_store_mid rfl 39 (.tmp 41) (.tmp 40) rfl wA.heap.size 34 (u8s (idR (e3 st))).toArray rfl rfl (by simpa [HI3.out.1] using HS7.out.ent.there (o := 34) (n := 32) (by omega)) (by simpa [HI3.out.1] using size39) (all_oneCell_toArray (u8s_one _)) ?_; have HS8 : Hid (StR w (w7.setCells wA.heap.size 34 (u8s (idR (e3 st)))) wA.heap.size (e4 st) ⟨idR st, strOf t, (n4 : Int), idR (e3 st), zeros32, 0, 0⟩ (.slice q l c) es) := HS7.out.put hq3.out (put_id hq2.out HI3.out.1); clear HS7; simp only [Act.put])
        | (go_at_call 46; have hdone := HS8.out; refine (refId_any w.heap.size w.heap.size (e4 st) _ (Nat.le_refl _) HS8.out.rf).mono ?_; rintro e w9 ⟨rfl, hR9, hb9⟩; have hst9 : StR w w9 wA.heap.size (e5 st) ⟨idR st, strOf t, (n4 : Int), idR (e3 st), zeros32, 0, 0⟩ (.slice q l c) es := HS8.out.call hb9 hR9; have HS9 : Hid (StR w w9 wA.heap.size (e5 st) ⟨idR st, strOf t, (n4 : Int), idR (e3 st), zeros32, 0, 0⟩ (.slice q l c) es) := hst9; clear hdone hR9 hb9 HS8 hst9)
        | ((with_reducible show wpList _ _ _ (Oper.mk _ (Op.store 40 (.tmp 44) (.tmp 43)) _ _ _ _ :: _) _ _); refine wpList_store_mid rfl 40 (.tmp 44) (.tmp 43) rfl wA.heap.size 66 (u8s (idR (e4 st))).toArray rfl rfl (by simpa [HI4.out.1] using HS9.out.ent.there (o := 66) (n := 32) (by omega)) (by simpa [HI4.out.1] using size40) (all_oneCell_toArray (u8s_one _)) ?_; have HSa : Hid (StR w (w9.setCells wA.heap.size 66 (u8s (idR (e4 st)))) wA.heap.size (e5 st) ⟨idR st, strOf t, (n4 : Int), idR (e3 st), idR (e4 st), 0, 0⟩ (.slice q l c) es) := HS9.out.put hq4.out (put_key hq3.out HI4.out.1); clear HS9; simp only [Act.put])
        | (go_at_call 45; have hdone := HSa.out; refine (HN5.out _ HSa.out.rf).mono ?_; rintro e wb ⟨rfl, hRb, hbb⟩; have hstb := HSa.out.call hbb hRb; have hcb := hstb.ent.realm; have hfb := hstb.ent.row.frozen 98; have HSb : Hid (StR w (wb.setCell ⟨wA.heap.size, 98, none⟩ (.int .u32 (n5 : Nat))) wA.heap.size (e6 st) ⟨idR st, strOf t, (n4 : Int), idR (e3 st), idR (e4 st), n5, 0⟩ (.slice q l c) es) := hstb.put (o := 98) (vs := [.int .u32 (n5 : Nat)]) hq5.out (put_realm hq4.out n5); clear hdone hRb hbb HSa hstb)
        | (go_at_call 45; have hdone := HSb.out; refine (HN6.out _ HSb.out.rf).mono ?_; rintro e wc ⟨rfl, hRc, hbc⟩; have hstc := HSb.out.call hbc hRc; have hcc' := hstc.ent.epoch; have hfc := hstc.ent.row.frozen 99; have HSc : Hid (StR w (wc.setCell ⟨wA.heap.size, 99, none⟩ (.int .u32 (n6 : Nat))) wA.heap.size (e7 st) ⟨idR st, strOf t, (n4 : Int), idR (e3 st), idR (e4 st), n5, n6⟩ (.slice q l c) es) := hstc.put (o := 99) (vs := [.int .u32 (n6 : Nat)]) hq6.out (put_epoch hq5.out n6); obtain ⟨wd, hwd⟩ : ∃ wd, wc.setCell ⟨wA.heap.size, 99, none⟩ (.int .u32 (n6 : Nat)) = wd := ⟨_, rfl⟩; have HSd : Hid (StR w wd wA.heap.size (e7 st) (rdE st) (.slice q l c) es) := (by rw [HX.out, ← hwd]; exact HSc.out); have HWd : Hid (wc.setCell ⟨wA.heap.size, 99, none⟩ (.int .u32 (n6 : Nat)) = wd) := hwd; clear hdone hRc hbc HSb hstc hcb hfb HSc hwd)
        | ((with_reducible show wpList _ _ _ (Oper.mk _ (Op.load 43 (.tmp 8)) _ _ _ _ :: _) _ _); rw [HWd.out]; refine wpList_loadEnt rfl (.tmp 8) rfl rfl HSd.out.ent.ok HSd.out.ent.row.range ?_; simp only [Act.put, List.setIfInBounds_toArray, List.set_cons_zero, List.set_cons_succ])
        | ((with_reducible show wpList _ _ _ (Oper.mk _ (Op.buildSlice 22 1 _) _ _ _ _ :: _) _ _); refine wpList_buildOne rfl 22 43 (.tmp 54) rfl (entC (rdE st)) rfl i0 _ Try.underlying22 hi0 hz0 (by rw [hz1, entC_length HSd.out.ent.ok]) (by rw [entC_length HSd.out.ent.ok]; omega) (by rw [entC_length HSd.out.ent.ok]; omega) ?_; obtain ⟨ue, we, hrune, hoe, hge⟩ := run_append_ent (wd.alloc (.cells (entC (rdE st)).toArray 43)) (w.heap.size + 1) 22 (.slice q l c) es (World.ownsRow.alloc HSd.out.own _) wd.heap.size (rdE st) HSd.out.ent.ok (Row.new' wd 43 _).range (by have := HEl.out; omega) (by have := HSd.out.rf.lt; simp; omega); have HRune : Hid ((Builtin.append_ #[22, 22] 22 #[.slice q l c, .slice (some ⟨wd.heap.size, 0, none⟩) 1 1]).run Try.prog (wd.alloc (.cells (entC (rdE st)).toArray 43)) = .ok ue we) := hrune; obtain ⟨qe, ce, hue⟩ := hoe.slice; subst hue; have HOe : Hid (OwnE (w.heap.size + 1) we (.slice qe (es ++ [rdE st]).length ce) (es ++ [rdE st])) := hoe; have HGe : Hid ((wd.alloc (.cells (entC (rdE st)).toArray 43)).grownBy we (Value.slice q l c).ownBlock) := hge; clear hrune hoe hge; simp only [Act.put, List.setIfInBounds_toArray, List.set_cons_zero, List.set_cons_succ])
        | (at_builtin; refine wpList_plain rfl fun K hK => wp_append_of (.tmp 53) (.tmp 55) 22 rfl rfl rfl HRune.out (hK _ _ ?_); clear hK; simp only [Act.put, List.setIfInBounds_toArray, List.set_cons_zero, List.set_cons_succ]))
      have hal : Below wd.heap.size wd (wd.alloc (.cells (entC (rdE st)).toArray 43)) := (Below.refl _ wd).alloc (Nat.le_refl _) _
      have hsd := HSd.out.rf.lt
      have hown : OwnE (w.heap.size + 1) (wd.alloc (.cells (entC (rdE st)).toArray 43)) (.slice q l c) es := World.ownsRow.alloc HSd.out.own _
      have hbe : Below (w.heap.size + 1) wd we := (hal.mono (by omega)).grown HGe.out (by simp; omega) (fun j ej => (World.ownsRow.lt hown j ej).1)
      have hRe : RfW w we (e7 st) (.slice qe (es ++ [rdE st]).length ce) (es ++ [rdE st]) := ⟨HSd.out.rf.below hbe (by omega) (by omega), HOe.out, HSd.out.bel.trans (hbe.mono (by omega))⟩
      have hRe2 : RfW w we (stK (k + 1) S0) (.slice qe (es ++ [rdE st]).length ce) (esK (k + 1) S0) := by rw [HKe.out, HSt.out]; exact hRe
      go_roundw
      case rel => exact ⟨k + 1, qe, _, ce, by omega, by go_num, rfl, hRe2⟩
      case measure => simp [intOf]; omega
    · have HEn : Hid (IsEnts wr.heap.size wr q l c (esK k S0)) := HRf.out.2.1.ents (fun e he => (esK_ok HAh.out k e he).1)
      have HNm : Hid (∀ e ∈ esK k S0, e.name.size ≤ 1000000) := fun e he => by have := (esK_ok HAh.out k e he).2; omega
      by_cases hlt : k < n
      · have hki : (k : Int) < (n : Int) := by omega
        have hnone : stK k S0 = none := by
          cases hs : stK k S0 with
          | none => rfl
          | some ys => exact absurd ⟨hlt, ys, hs⟩ hgo
        have hbad : wr.cell? ⟨w.heap.size, 1, none⟩ = some (.bool true) := by
          have := HRf.out.1
          rw [hnone] at this
          exact Row.cell this (i := 1) rfl
        have HEnd : Hid (endE (stK k S0) = 80) := by show _ = _; rw [hnone]; rfl
        have hd : isDir zs = false := by
          have : stK n S0 = none := by rw [show n = k + (n - k) by omega, stK_add, hnone, stK_none]
          rw [isDir, HNn.out, HS0.out, this]; rfl
        clear hnone hgo
        cases hg : goodE (esK k S0) with
        | true =>
          go_wp2_with (first
            | (go_at_call 11; refine (refPutDir_any q l c (esK k S0) wr HEn.out HNm.out).mono ?_; rintro e w3 ⟨v3, rfl, hO3, hb3⟩; rw [hg] at hO3 ⊢; obtain ⟨q3, l3, c3, hu3⟩ := own_any_slice hO3; subst hu3; have HO3 : Hid (Own wr.heap.size w3 (.slice q3 l3 c3) (if true then encsE (esK k S0) else [])) := hO3; have HB3 : Hid (Below wr.heap.size wr w3) := hb3; have HRf3 : Hid (RfAt w.heap.size w3 w.heap.size (stK k S0)) := HRf.out.1.later (by omega) hb3; clear hO3 hb3)
            | (go_at_call 48; refine (refEnd_any w.heap.size w.heap.size (stK k S0) w3 HRf3.out).mono ?_; rintro e w4 ⟨rfl, hw4⟩; obtain rfl : w3 = w4 := hw4.symm; clear hw4; rw [HEnd.out]))
          all_goals refine bodyPost_ret (results_tmp2 rfl _ _ _) rfl ?_
          all_goals exact ⟨_, _, _, rfl, noE _, HRf.out.2.2.trans (HB3.out.mono HRf.out.2.2.size)⟩
        | false =>
          go_wp2_with (first
            | (go_at_call 11; refine (refPutDir_any q l c (esK k S0) wr HEn.out HNm.out).mono ?_; rintro e w3 ⟨v3, rfl, hO3, hb3⟩; rw [hg] at hO3 ⊢; obtain ⟨q3, l3, c3, hu3⟩ := own_any_slice hO3; subst hu3; have HO3 : Hid (Own wr.heap.size w3 (.slice q3 l3 c3) (if false then encsE (esK k S0) else [])) := hO3; have HB3 : Hid (Below wr.heap.size wr w3) := hb3; have HRf3 : Hid (RfAt w.heap.size w3 w.heap.size (stK k S0)) := HRf.out.1.later (by omega) hb3; clear hO3 hb3)
            | (go_at_call 48; refine (refEnd_any w.heap.size w.heap.size (stK k S0) w3 HRf3.out).mono ?_; rintro e w4 ⟨rfl, hw4⟩; obtain rfl : w3 = w4 := hw4.symm; clear hw4; rw [HEnd.out]))
          all_goals refine bodyPost_ret (results_tmp2 rfl _ _ _) rfl ?_
          all_goals exact ⟨_, _, _, rfl, noE _, HRf.out.2.2.trans (HB3.out.mono HRf.out.2.2.size)⟩
      · obtain rfl : k = n := by omega
        have hki : ¬ (k : Int) < (k : Int) := by omega
        have HDl : Hid (dirL zs = esK k S0) := by show _ = _; rw [dirL, HNn.out, HS0.out]
        have HD : Hid (isDir zs = (decide (endE (stK k S0) = 0) && goodE (esK k S0))) := by show _ = _; rw [isDir, HDl.out, HNn.out, HS0.out]
        obtain ⟨en, hen⟩ : ∃ en, endE (stK k S0) = en := ⟨_, rfl⟩
        have HEnd : Hid (endE (stK k S0) = en) := hen
        have hbc : ∃ bb, wr.cell? ⟨w.heap.size, 1, none⟩ = some (.bool bb) := by
          have := HRf.out.1
          cases hs : stK k S0 with
          | none => rw [hs] at this; exact ⟨true, Row.cell this (i := 1) rfl⟩
          | some ys => rw [hs] at this; obtain ⟨_, _, _, hr, _⟩ := this; exact ⟨false, hr.cell (i := 1) rfl⟩
        clear hgo hbc
        by_cases h0 : en = 0
        · subst h0
          have HOn : Hid (encsE (esK k S0) = zs) := by
            show _ = _
            rw [← HDl.out]
            exact dir_once HZ.out (by rw [HNn.out, HS0.out]; exact hen)
          have HSz : Hid (Str wr (.slice p len cap) (strOf zs)) := str_of_bytes ((HI.out.below HRf.out.2.2).mono HRf.out.2.2.size)
          clear hen
          cases hg : goodE (esK k S0) with
          | true =>
            have hd : isDir zs = true := by rw [HD.out, HEnd.out, hg]; rfl
            go_wp2_with (first
              | (go_at_call 11; refine (refPutDir_any q l c (esK k S0) wr HEn.out HNm.out).mono ?_; rintro e w3 ⟨v3, rfl, hO3, hb3⟩; rw [hg] at hO3 ⊢; obtain ⟨q3, l3, c3, hu3⟩ := own_any_slice hO3; subst hu3; have HO3 : Hid (Own wr.heap.size w3 (.slice q3 l3 c3) (if true then encsE (esK k S0) else [])) := hO3; have HB3 : Hid (Below wr.heap.size wr w3) := hb3; have HRf3 : Hid (RfAt w.heap.size w3 w.heap.size (stK k S0)) := HRf.out.1.later (by omega) hb3; have hsx := (own_str HO3.out).here; rw [if_pos rfl, HOn.out] at hsx; have hsy := (HSz.out.later hb3).here; clear hO3 hb3)
              | (go_at_call 48; refine (refEnd_any w.heap.size w.heap.size (stK k S0) w3 HRf3.out).mono ?_; rintro e w4 ⟨rfl, hw4⟩; obtain rfl : w3 = w4 := hw4.symm; clear hw4; rw [HEnd.out]))
            all_goals refine bodyPost_ret (results_tmp2 rfl _ _ _) rfl ?_
            all_goals refine ⟨_, _, _, rfl, ?_, HRf.out.2.2.trans (HB3.out.mono HRf.out.2.2.size)⟩
            all_goals rw [HDl.out]
            all_goals exact HEn.out.later HB3.out
          | false =>
            have hd : isDir zs = false := by rw [HD.out, HEnd.out, hg]; rfl
            go_wp2_with (first
              | (go_at_call 11; refine (refPutDir_any q l c (esK k S0) wr HEn.out HNm.out).mono ?_; rintro e w3 ⟨v3, rfl, hO3, hb3⟩; rw [hg] at hO3 ⊢; obtain ⟨q3, l3, c3, hu3⟩ := own_any_slice hO3; subst hu3; have HO3 : Hid (Own wr.heap.size w3 (.slice q3 l3 c3) (if false then encsE (esK k S0) else [])) := hO3; have HB3 : Hid (Below wr.heap.size wr w3) := hb3; have HRf3 : Hid (RfAt w.heap.size w3 w.heap.size (stK k S0)) := HRf.out.1.later (by omega) hb3; clear hO3 hb3)
              | (go_at_call 48; refine (refEnd_any w.heap.size w.heap.size (stK k S0) w3 HRf3.out).mono ?_; rintro e w4 ⟨rfl, hw4⟩; obtain rfl : w3 = w4 := hw4.symm; clear hw4; rw [HEnd.out]))
            all_goals refine bodyPost_ret (results_tmp2 rfl _ _ _) rfl ?_
            all_goals exact ⟨_, _, _, rfl, noE _, HRf.out.2.2.trans (HB3.out.mono HRf.out.2.2.size)⟩
        · have hb0 : (en != 0) = true := by simpa using h0
          have hd : isDir zs = false := by rw [HD.out, hen, decide_eq_false h0]; rfl
          clear hen
          cases hg : goodE (esK k S0) with
          | true =>
            go_wp2_with (first
              | (go_at_call 11; refine (refPutDir_any q l c (esK k S0) wr HEn.out HNm.out).mono ?_; rintro e w3 ⟨v3, rfl, hO3, hb3⟩; rw [hg] at hO3 ⊢; obtain ⟨q3, l3, c3, hu3⟩ := own_any_slice hO3; subst hu3; have HO3 : Hid (Own wr.heap.size w3 (.slice q3 l3 c3) (if true then encsE (esK k S0) else [])) := hO3; have HB3 : Hid (Below wr.heap.size wr w3) := hb3; have HRf3 : Hid (RfAt w.heap.size w3 w.heap.size (stK k S0)) := HRf.out.1.later (by omega) hb3; clear hO3 hb3)
              | (go_at_call 48; refine (refEnd_any w.heap.size w.heap.size (stK k S0) w3 HRf3.out).mono ?_; rintro e w4 ⟨rfl, hw4⟩; obtain rfl : w3 = w4 := hw4.symm; clear hw4; rw [HEnd.out]))
            all_goals refine bodyPost_ret (results_tmp2 rfl _ _ _) rfl ?_
            all_goals exact ⟨_, _, _, rfl, noE _, HRf.out.2.2.trans (HB3.out.mono HRf.out.2.2.size)⟩
          | false =>
            go_wp2_with (first
              | (go_at_call 11; refine (refPutDir_any q l c (esK k S0) wr HEn.out HNm.out).mono ?_; rintro e w3 ⟨v3, rfl, hO3, hb3⟩; rw [hg] at hO3 ⊢; obtain ⟨q3, l3, c3, hu3⟩ := own_any_slice hO3; subst hu3; have HO3 : Hid (Own wr.heap.size w3 (.slice q3 l3 c3) (if false then encsE (esK k S0) else [])) := hO3; have HB3 : Hid (Below wr.heap.size wr w3) := hb3; have HRf3 : Hid (RfAt w.heap.size w3 w.heap.size (stK k S0)) := HRf.out.1.later (by omega) hb3; clear hO3 hb3)
              | (go_at_call 48; refine (refEnd_any w.heap.size w.heap.size (stK k S0) w3 HRf3.out).mono ?_; rintro e w4 ⟨rfl, hw4⟩; obtain rfl : w3 = w4 := hw4.symm; clear hw4; rw [HEnd.out]))
            all_goals refine bodyPost_ret (results_tmp2 rfl _ _ _) rfl ?_
            all_goals exact ⟨_, _, _, rfl, noE _, HRf.out.2.2.trans (HB3.out.mono HRf.out.2.2.size)⟩
end Go.Proofs.Ytlmfdifnkkdpfaa
