/-
  OfReply: the reply that bytes are, or that they are none.
-/
import Derived.Test.YtedpgdldekkgdaaNNm
import Derived.Test.YtedpgdldekkgdaaOfQ
namespace Go.Proofs.Ytedpgdldekkgdaa
open Go.RowKit Go.Shelf

set_option maxRecDepth 100000 in
theorem built44' (f1 : Nat → Value) (c s k n : Int) (p q : Option Addr) (l cp l2 c2 : Nat) :
    Try.prog.built 44 [(0, .int .u32 c), (1, .int .u64 s), (2, .int .i64 k), (3, .agg ((List.range 32).map f1).toArray), (4, .int .u64 n), (5, .slice p l cp), (6, .slice q l2 c2)]
      = some (Value.int .u32 c :: Value.int .u64 s :: Value.int .i64 k :: ((List.range 32).map f1 ++ [Value.int .u64 n, Value.slice p l cp, Value.slice q l2 c2])).toArray := by kernel_rfl
theorem built44 (r : Rep) (hok : r.ok) (p q : Option Addr) (l cp l2 c2 : Nat) :
    Try.prog.built 44 [(0, .int .u32 (r.client : Nat)), (1, .int .u64 (r.seq : Nat)), (2, .int .i64 r.err), (3, .agg (u8s r.id).toArray), (4, .int .u64 (r.n : Nat)), (5, .slice p l cp), (6, .slice q l2 c2)] = some (repC (.slice p l cp) (.slice q l2 c2) r).toArray := by
  have h1 := range32 (V := u8s r.id) (by rw [u8s_length, hok.id.1])
  have hb := built44' (fun i => (u8s r.id).getD i undef) r.client r.seq r.err r.n p q l cp l2 c2
  rw [← h1] at hb
  exact hb
theorem built44z : Try.prog.built 44 [] = some (repC (.slice none 0 0) (.slice none 0 0) noRep).toArray := by kernel_rfl
/-- Whether bytes are a reply. -/
def isP (b : List Nat) : Bool := decide (endE (enP (readN 2 (some b)).2) = 0) && decide ((readN 2 (some b)).1 = 2)
/-- What OfReply answers. -/
def OfPPost (w : World) (b : List Nat) (e : Ending) (w' : World) : Prop :=
  (isP b = true ∧ ∃ p len cap q l c, e = .returned (.tuple #[.agg (repC (.slice p len cap) (.slice q l c) (rdP (readN 2 (some b)).2)).toArray, .int .i64 0]) ∧ IsBytes w'.heap.size w' p len cap (bdP (readN 2 (some b)).2) ∧ IsStrs w'.heap.size w' q l c (nmP (readN 2 (some b)).2) ∧ Below w.heap.size w w') ∨
  (isP b = false ∧ e = .returned (.tuple #[.agg (repC (.slice none 0 0) (.slice none 0 0) noRep).toArray, .int .i64 180]) ∧ Below w.heap.size w w')
theorem endE_some {st : Option (List Nat)} (h : endE st = 0) : st ≠ none := fun e => by rw [e] at h; cases h
theorem endE_80 {st : Option (List Nat)} (h : ¬ endE st = 0) : endE st = 80 := by
  cases hs : st with
  | none => rfl
  | some zs =>
    rw [hs] at h
    by_cases h0 : 0 < zs.length
    · show (if 0 < zs.length then (80 : Int) else 0) = 80
      rw [if_pos h0]
    · exact absurd (show (if 0 < zs.length then (80 : Int) else 0) = 0 from if_neg h0) h

set_option maxRecDepth 100000 in
set_option maxHeartbeats 1500000 in
theorem ofP_good (p : Option Addr) (len cap : Nat) (b : List Nat) (st : Option (List Nat)) (hlen : len ≤ 50000) (w : World) (hI : IsBytes w.heap.size w p len cap b) (hst : (readN 2 (some b)).2 = st) (hE : endE (enP st) = 0) (hA : (readN 2 (some b)).1 = 2) :
    Calls Try.prog 18 #[.slice p len cap] w fun e w' => ∃ p len cap q l c, e = .returned (.tuple #[.agg (repC (.slice p len cap) (.slice q l c) (rdP st)).toArray, .int .i64 0]) ∧ IsBytes w'.heap.size w' p len cap (bdP st) ∧ IsStrs w'.heap.size w' q l c (nmP st) ∧ Below w.heap.size w w' := by
  have hzb : ∀ z ∈ b, z < 256 := hI.2.2.2.1
  have HI : Hid (IsBytes w.heap.size w p len cap b) := hI
  have hz : Ahead st := by rw [← hst]; exact fun _ h' => (readN_once (ahead_some hzb) h').2
  have HOk : Hid (rdP st).ok := rdP_ok hz
  have HBd : Hid ((∀ x ∈ bdP st, x < 256) ∧ (bdP st).length ≤ 110000) := bdP_all hz
  have HE : Hid (endE (enP st) = 0) := hE
  have k1 := readN_le 4294967295 st
  have k3 := readN_le 1000 (p2 st)
  have c1 : IntKind.u32.wrap ((readN 4294967295 st).1 : Int) = ((readN 4294967295 st).1 : Int) := by rw [IntKind.wrap_u32]; omega
  have c3 : IntKind.i64.wrap ((readN 1000 (p2 st)).1 : Int) = ((readN 1000 (p2 st)).1 : Int) := by rw [IntKind.wrap_i64]; omega
  obtain ⟨w1, hw1⟩ : ∃ w1, w.alloc (.cells zc44 44) = w1 := ⟨_, rfl⟩
  have HW1 : Hid (w.alloc (.cells zc44 44) = w1) := hw1
  have HS1 : Hid (w1.heap.size = w.heap.size + 1) := by show _ = _; rw [← hw1]; simp
  have HB1 : Hid (Below w.heap.size w w1) := by rw [← hw1]; exact (Below.refl _ w).alloc (Nat.le_refl _) _
  have HR1 : Hid (Row w1 w.heap.size 44 (repC (.slice none 0 0) (.slice none 0 0) noRep)) := by rw [← hw1, zero44]; exact Row.new' w 44 _
  have HBz : Hid (Try.prog.built 44 [] = some (repC (.slice none 0 0) (.slice none 0 0) noRep).toArray) := built44z
  have HSt : Hid ((readN 2 (some b)).2 = st) := hst
  have HAe : Hid ((readN 2 (some b)).1 = 2) := hA
  have Hz : Hid (Ahead st) := hz
  clear hw1 hI hst hA hz hzb k1 k3 hE
  go_enter Try.func18, Try.ntmps18
  go_wp2_with (first
    | (rw [HW1.out])
    | (go_at_call 29; refine (read_any p len cap b (by omega) w1 ((HI.out.below HB1.out).mono HB1.out.size)).mono ?_; rintro e w2 ⟨B, rfl, hBw, hR2, hb2⟩; have HR2 : Hid (RdAt w2 B (some b)) := hR2; have hBl2 : B < w2.heap.size := hR2.lt; have h30a := readerN_any B (some b) 2 (by omega) w2 hR2; rw [HSt.out, HAe.out] at h30a; clear hR2)
    | (go_at_call 30; refine h30a.mono ?_; clear h30a; rintro e w3 ⟨rfl, hR, hu⟩; have HR3 : Hid (RdAt w3 B st) := hR; have HB3 : Hid (Below w1.heap.size w1 w3) := below_but hb2 hu hBw hb2.size; have hBl3 : B < w3.heap.size := hR.lt; have h30b := readerN_any B st 4294967295 (by omega) w3 hR; clear hR hu HR2 hb2)
    | (go_at_call 30; refine h30b.mono ?_; clear h30b; rintro e w4 ⟨rfl, hR, hu⟩; have HR4 : Hid (RdAt w4 B (p1 st)) := hR; have HB4 : Hid (Below w1.heap.size w1 w4) := below_but HB3.out hu hBw HB3.out.size; have hBl4 : B < w4.heap.size := hR.lt; have h30c := readerN_any B (p1 st) 18446744073709551615 (by omega) w4 hR; clear hR hu HR3)
    | (go_at_call 30; refine h30c.mono ?_; clear h30c; rintro e w5 ⟨rfl, hR, hu⟩; have HR5 : Hid (RdAt w5 B (p2 st)) := hR; have HB5 : Hid (Below w1.heap.size w1 w5) := below_but HB4.out hu hBw HB4.out.size; have hBl5 : B < w5.heap.size := hR.lt; have h30d := readerN_any B (p2 st) 1000 (by omega) w5 hR; clear hR hu HR4)
    | (go_at_call 30; refine h30d.mono ?_; clear h30d; rintro e w6 ⟨rfl, hR, hu⟩; have HR6 : Hid (RdAt w6 B (p3 st)) := hR; have HB6 : Hid (Below w1.heap.size w1 w6) := below_but HB5.out hu hBw HB5.out.size; have hBl6 : B < w6.heap.size := hR.lt; have h32 := nextId_any B (p3 st) w6 hR Hz.out.p3; clear hR hu HR5)
    | (go_at_call 32; refine h32.mono ?_; clear h32; rintro e w7 ⟨rfl, hR, hu⟩; have HR7 : Hid (RdAt w7 B (p4 st)) := hR; have HB7 : Hid (Below w1.heap.size w1 w7) := below_but HB6.out hu hBw HB6.out.size; have hBl7 : B < w7.heap.size := hR.lt; have h30e := readerN_any B (p4 st) 18446744073709551615 (by omega) w7 hR; clear hR hu HR6)
    | (go_at_call 30; refine h30e.mono ?_; clear h30e; rintro e w8 ⟨rfl, hR, hu⟩; have HR8 : Hid (RdAt w8 B (p5 st)) := hR; have HB8 : Hid (Below w1.heap.size w1 w8) := below_but HB7.out hu hBw HB7.out.size; have hBl8 : B < w8.heap.size := hR.lt; have h31 := readerText_any B (p5 st) 110000 (by omega) w8 hR; clear hR hu HR7)
    | (go_at_call 31; refine h31.mono ?_; clear h31; rintro e w9 ⟨v9, rfl, hO, hR, hu⟩; have HR9 : Hid (RdAt w9 B (p6 st)) := hR; have HB9 : Hid (Below w1.heap.size w1 w9) := below_but HB8.out hu hBw HB8.out.size; have hBl9 : B < w9.heap.size := hR.lt; obtain ⟨qb, lb, cb, hv⟩ := own_any_slice hO; subst hv; have HO9 : Hid (Own w8.heap.size w9 (.slice qb lb cb) (bdP st)) := hO; clear hO; have h39 := nextNames_any B (p6 st) w9 hR; clear hR hu HR8)
    | (go_at_call 39; refine h39.mono ?_; clear h39; rintro e w10 ⟨qn, ln, cn, xs, rfl, hS, hR, hu, hN⟩; have HR10 : Hid (RdAt w10 B (enP st)) := hR; have HB10 : Hid (Below w1.heap.size w1 w10) := below_but HB9.out hu hBw HB9.out.size; have HO10 : Hid (Own w8.heap.size w10 (.slice qb lb cb) (bdP st)) := HO9.out.but hu hBl8; have HBu : Hid (Try.prog.built 44 [(0, .int .u32 ((readN 4294967295 st).1 : Nat)), (1, .int .u64 ((readN 18446744073709551615 (p1 st)).1 : Nat)), (2, .int .i64 ((readN 1000 (p2 st)).1 : Nat)), (3, .agg (u8s (idR (p3 st))).toArray), (4, .int .u64 ((readN 18446744073709551615 (p4 st)).1 : Nat)), (5, .slice qb lb cb), (6, .slice qn ln cn)] = some (repC (.slice qb lb cb) (.slice qn ln cn) (rdP st)).toArray) := built44 (rdP st) HOk.out qb qn lb cb ln cn; have hxs : xs = nmP st := hN (endE_some HE.out); subst hxs; have HS10 : Hid (StrsFrom w9.heap.size w10 qn ln cn (nmP st)) := hS; clear hR hu HR9 hS hN)
    | ((with_reducible show wpList _ _ _ (Oper.mk (some 27) _ _ _ _ _ :: _) _ _); refine wpList_built_want (by rfl) 44 _ rfl _ _ (by simp only [List.map_toArray, List.map_cons, List.map_nil]; rfl) HBu.out ?_; simp only [Act.put, List.setIfInBounds_toArray, List.set_cons_zero, List.set_cons_succ])
    | ((with_reducible show wpList _ _ _ (Oper.mk _ (Op.store 44 (.tmp 6) (.tmp 27)) _ _ _ _ :: _) _ _); refine wpList_storeRep rfl (.tmp 6) (.tmp 27) rfl (.slice qb lb cb) (.slice qn ln cn) rfl rfl (rdP st) HOk.out rfl rfl (fun w11 hb11 hE11 => ?_); have HE11 : Hid (RepAt w11 w10.heap.size (.slice qb lb cb) (.slice qn ln cn) (rdP st)) := hE11; have HR11 : Hid (RdAt w11 B (enP st)) := HR10.out.later hb11; have HB11 : Hid (Below w1.heap.size w1 w11) := HB10.out.trans (hb11.mono HB10.out.size); have HO11 : Hid (Own w8.heap.size w11 (.slice qb lb cb) (bdP st)) := HO10.out.later hb11; have HS11 : Hid (StrsFrom w9.heap.size w11 qn ln cn (nmP st)) := HS10.out.later hb11; have HRR11 : Hid (Row w11 w.heap.size 44 (repC (.slice none 0 0) (.slice none 0 0) noRep)) := HR1.out.below HB11.out (by have := HS1.out; omega); have HM : Hid (Calls Try.prog 38 #[.agg (repC (.slice qb lb cb) (.slice qn ln cn) (rdP st)).toArray] w11 fun e w' => e = .returned (.bool true) ∧ Below w11.heap.size w11 w') := (by have h := mayAnswer_any qb lb cb (bdP st) qn ln cn (nmP st) (rdP st) HOk.out (HO11.out.bytes HBd.out.1).1 w11 HS11.out.strs; rw [mayP_read Hz.out] at h; exact h); clear hE11 hb11; simp only [Act.put])
    | (go_at_call 33; refine (end_any B (enP st) w11 HR11.out).mono ?_; rintro e w11' ⟨rfl, hw⟩; obtain rfl : w11 = w11' := hw.symm; clear hw; rw [HE.out])
    | ((with_reducible show wpList _ _ _ (Oper.mk (some 36) (Op.load 44 (.tmp 6)) _ _ _ _ :: _) _ _); refine BigFrame.wpList_want (by rfl) fun _ hK => wp_load_mid 44 (.tmp 6) rfl w10.heap.size 0 rfl (repC (.slice qb lb cb) (.slice qn ln cn) (rdP st)) _ HE11.out.row.range Try.underlying44 rfl (size44' HOk.out) (hK _ _ ?_); simp only [Act.put, List.setIfInBounds_toArray, List.set_cons_zero, List.set_cons_succ])
    | (go_at_call 38; refine HM.out.mono ?_; rintro e w12 ⟨rfl, hb12⟩; have HE12 : Hid (RepAt w12 w10.heap.size (.slice qb lb cb) (.slice qn ln cn) (rdP st)) := HE11.out.later hb12; have HRR12 : Hid (Row w12 w.heap.size 44 (repC (.slice none 0 0) (.slice none 0 0) noRep)) := HRR11.out.later hb12; have HB12 : Hid (Below w1.heap.size w1 w12) := HB11.out.trans (hb12.mono HB11.out.size); have HO12 : Hid (Own w8.heap.size w12 (.slice qb lb cb) (bdP st)) := HO11.out.later hb12; have HS12 : Hid (StrsFrom w9.heap.size w12 qn ln cn (nmP st)) := HS11.out.later hb12; clear hb12)
    | ((with_reducible show wpList _ _ _ (Oper.mk (some 41) (Op.load 44 (.tmp 6)) _ _ _ _ :: _) _ _); refine wpList_loadRep rfl (.tmp 6) rfl rfl HOk.out HE12.out.row.range ?_; simp only [Act.put, List.setIfInBounds_toArray, List.set_cons_zero, List.set_cons_succ])
    | ((with_reducible show wpList _ _ _ (Oper.mk _ (Op.store 44 (.tmp 2) (.tmp 41)) _ _ _ _ :: _) _ _); refine wpList_store_Row rfl 44 (.tmp 2) (.tmp 41) rfl (repC (.slice qb lb cb) (.slice qn ln cn) (rdP st)) rfl rfl HRR12.out (size44' HOk.out) (by rw [repC_length HOk.out, repC_length noRep_ok]) (repC_one rfl rfl _) ?_; simp only [Act.put]))
  refine bodyPost_ret (results_RowS_tmp rfl rfl (Row.sets_all (vs := repC (.slice qb lb cb) (.slice qn ln cn) (rdP st)) HRR12.out (by rw [repC_length HOk.out, repC_length noRep_ok])) Try.underlying44 (size44' HOk.out)) rfl ?_
  have hbut : But w.heap.size w12.heap.size w12 (w12.setCells w.heap.size 0 (repC (.slice qb lb cb) (.slice qn ln cn) (rdP st))) := But.sets _ _ _
  have hs1 := HS1.out
  have hs8 := HB8.out.size
  have hs9 := HB9.out.size
  exact ⟨qb, lb, cb, qn, ln, cn, rfl, (HO12.out.but hbut (by omega)).bytes HBd.out.1, (HS12.out.but hbut (by omega)).strs, below_setCells (Nat.le_refl _) _ _ (HB1.out.trans (HB12.out.mono HB1.out.size))⟩

set_option maxRecDepth 100000 in
set_option maxHeartbeats 1500000 in
theorem ofP_bad (p : Option Addr) (len cap : Nat) (b : List Nat) (st : Option (List Nat)) (A : Nat) (hlen : len ≤ 50000) (w : World) (hI : IsBytes w.heap.size w p len cap b) (hst : (readN 2 (some b)).2 = st) (hE : endE (enP st) = 0) (hA : (readN 2 (some b)).1 = A) (hA2 : A < 2) :
    Calls Try.prog 18 #[.slice p len cap] w fun e w' => e = .returned (.tuple #[.agg (repC (.slice none 0 0) (.slice none 0 0) noRep).toArray, .int .i64 180]) ∧ Below w.heap.size w w' := by
  have hzb : ∀ z ∈ b, z < 256 := hI.2.2.2.1
  have HI : Hid (IsBytes w.heap.size w p len cap b) := hI
  have hz : Ahead st := by rw [← hst]; exact fun _ h' => (readN_once (ahead_some hzb) h').2
  have HOk : Hid (rdP st).ok := rdP_ok hz
  have HBd : Hid ((∀ x ∈ bdP st, x < 256) ∧ (bdP st).length ≤ 110000) := bdP_all hz
  have HE : Hid (endE (enP st) = 0) := hE
  have k1 := readN_le 4294967295 st
  have k3 := readN_le 1000 (p2 st)
  have c1 : IntKind.u32.wrap ((readN 4294967295 st).1 : Int) = ((readN 4294967295 st).1 : Int) := by rw [IntKind.wrap_u32]; omega
  have c3 : IntKind.i64.wrap ((readN 1000 (p2 st)).1 : Int) = ((readN 1000 (p2 st)).1 : Int) := by rw [IntKind.wrap_i64]; omega
  have ha : ¬ (A : Int) = 2 := by omega
  have hab : ((A : Int) != 2) = true := by simp [bne, ha]
  obtain ⟨w1, hw1⟩ : ∃ w1, w.alloc (.cells zc44 44) = w1 := ⟨_, rfl⟩
  have HW1 : Hid (w.alloc (.cells zc44 44) = w1) := hw1
  have HS1 : Hid (w1.heap.size = w.heap.size + 1) := by show _ = _; rw [← hw1]; simp
  have HB1 : Hid (Below w.heap.size w w1) := by rw [← hw1]; exact (Below.refl _ w).alloc (Nat.le_refl _) _
  have HR1 : Hid (Row w1 w.heap.size 44 (repC (.slice none 0 0) (.slice none 0 0) noRep)) := by rw [← hw1, zero44]; exact Row.new' w 44 _
  have HBz : Hid (Try.prog.built 44 [] = some (repC (.slice none 0 0) (.slice none 0 0) noRep).toArray) := built44z
  have HSt : Hid ((readN 2 (some b)).2 = st) := hst
  have HAe : Hid ((readN 2 (some b)).1 = A) := hA
  have Hz : Hid (Ahead st) := hz
  clear hw1 hI hst hA hz hzb k1 k3 hE
  go_enter Try.func18, Try.ntmps18
  go_wp2_with (first
    | (rw [HW1.out])
    | (go_at_call 29; refine (read_any p len cap b (by omega) w1 ((HI.out.below HB1.out).mono HB1.out.size)).mono ?_; rintro e w2 ⟨B, rfl, hBw, hR2, hb2⟩; have HR2 : Hid (RdAt w2 B (some b)) := hR2; have hBl2 : B < w2.heap.size := hR2.lt; have h30a := readerN_any B (some b) 2 (by omega) w2 hR2; rw [HSt.out, HAe.out] at h30a; clear hR2)
    | (go_at_call 30; refine h30a.mono ?_; clear h30a; rintro e w3 ⟨rfl, hR, hu⟩; have HR3 : Hid (RdAt w3 B st) := hR; have HB3 : Hid (Below w1.heap.size w1 w3) := below_but hb2 hu hBw hb2.size; have hBl3 : B < w3.heap.size := hR.lt; have h30b := readerN_any B st 4294967295 (by omega) w3 hR; clear hR hu HR2 hb2)
    | (go_at_call 30; refine h30b.mono ?_; clear h30b; rintro e w4 ⟨rfl, hR, hu⟩; have HR4 : Hid (RdAt w4 B (p1 st)) := hR; have HB4 : Hid (Below w1.heap.size w1 w4) := below_but HB3.out hu hBw HB3.out.size; have hBl4 : B < w4.heap.size := hR.lt; have h30c := readerN_any B (p1 st) 18446744073709551615 (by omega) w4 hR; clear hR hu HR3)
    | (go_at_call 30; refine h30c.mono ?_; clear h30c; rintro e w5 ⟨rfl, hR, hu⟩; have HR5 : Hid (RdAt w5 B (p2 st)) := hR; have HB5 : Hid (Below w1.heap.size w1 w5) := below_but HB4.out hu hBw HB4.out.size; have hBl5 : B < w5.heap.size := hR.lt; have h30d := readerN_any B (p2 st) 1000 (by omega) w5 hR; clear hR hu HR4)
    | (go_at_call 30; refine h30d.mono ?_; clear h30d; rintro e w6 ⟨rfl, hR, hu⟩; have HR6 : Hid (RdAt w6 B (p3 st)) := hR; have HB6 : Hid (Below w1.heap.size w1 w6) := below_but HB5.out hu hBw HB5.out.size; have hBl6 : B < w6.heap.size := hR.lt; have h32 := nextId_any B (p3 st) w6 hR Hz.out.p3; clear hR hu HR5)
    | (go_at_call 32; refine h32.mono ?_; clear h32; rintro e w7 ⟨rfl, hR, hu⟩; have HR7 : Hid (RdAt w7 B (p4 st)) := hR; have HB7 : Hid (Below w1.heap.size w1 w7) := below_but HB6.out hu hBw HB6.out.size; have hBl7 : B < w7.heap.size := hR.lt; have h30e := readerN_any B (p4 st) 18446744073709551615 (by omega) w7 hR; clear hR hu HR6)
    | (go_at_call 30; refine h30e.mono ?_; clear h30e; rintro e w8 ⟨rfl, hR, hu⟩; have HR8 : Hid (RdAt w8 B (p5 st)) := hR; have HB8 : Hid (Below w1.heap.size w1 w8) := below_but HB7.out hu hBw HB7.out.size; have hBl8 : B < w8.heap.size := hR.lt; have h31 := readerText_any B (p5 st) 110000 (by omega) w8 hR; clear hR hu HR7)
    | (go_at_call 31; refine h31.mono ?_; clear h31; rintro e w9 ⟨v9, rfl, hO, hR, hu⟩; have HR9 : Hid (RdAt w9 B (p6 st)) := hR; have HB9 : Hid (Below w1.heap.size w1 w9) := below_but HB8.out hu hBw HB8.out.size; have hBl9 : B < w9.heap.size := hR.lt; obtain ⟨qb, lb, cb, hv⟩ := own_any_slice hO; subst hv; have HO9 : Hid (Own w8.heap.size w9 (.slice qb lb cb) (bdP st)) := hO; clear hO; have h39 := nextNames_any B (p6 st) w9 hR; clear hR hu HR8)
    | (go_at_call 39; refine h39.mono ?_; clear h39; rintro e w10 ⟨qn, ln, cn, xs, rfl, hS, hR, hu, hN⟩; have HR10 : Hid (RdAt w10 B (enP st)) := hR; have HB10 : Hid (Below w1.heap.size w1 w10) := below_but HB9.out hu hBw HB9.out.size; have HO10 : Hid (Own w8.heap.size w10 (.slice qb lb cb) (bdP st)) := HO9.out.but hu hBl8; have HBu : Hid (Try.prog.built 44 [(0, .int .u32 ((readN 4294967295 st).1 : Nat)), (1, .int .u64 ((readN 18446744073709551615 (p1 st)).1 : Nat)), (2, .int .i64 ((readN 1000 (p2 st)).1 : Nat)), (3, .agg (u8s (idR (p3 st))).toArray), (4, .int .u64 ((readN 18446744073709551615 (p4 st)).1 : Nat)), (5, .slice qb lb cb), (6, .slice qn ln cn)] = some (repC (.slice qb lb cb) (.slice qn ln cn) (rdP st)).toArray) := built44 (rdP st) HOk.out qb qn lb cb ln cn; have HS10 : Hid (StrsFrom w9.heap.size w10 qn ln cn xs) := hS; clear hR hu HR9 hS hN)
    | ((with_reducible show wpList _ _ _ (Oper.mk (some 27) _ _ _ _ _ :: _) _ _); refine wpList_built_want (by rfl) 44 _ rfl _ _ (by simp only [List.map_toArray, List.map_cons, List.map_nil]; rfl) HBu.out ?_; simp only [Act.put, List.setIfInBounds_toArray, List.set_cons_zero, List.set_cons_succ])
    | ((with_reducible show wpList _ _ _ (Oper.mk _ (Op.store 44 (.tmp 6) (.tmp 27)) _ _ _ _ :: _) _ _); refine wpList_storeRep rfl (.tmp 6) (.tmp 27) rfl (.slice qb lb cb) (.slice qn ln cn) rfl rfl (rdP st) HOk.out rfl rfl (fun w11 hb11 hE11 => ?_); have HE11 : Hid (RepAt w11 w10.heap.size (.slice qb lb cb) (.slice qn ln cn) (rdP st)) := hE11; have HR11 : Hid (RdAt w11 B (enP st)) := HR10.out.later hb11; have HB11 : Hid (Below w1.heap.size w1 w11) := HB10.out.trans (hb11.mono HB10.out.size); have HO11 : Hid (Own w8.heap.size w11 (.slice qb lb cb) (bdP st)) := HO10.out.later hb11; have HS11 : Hid (StrsFrom w9.heap.size w11 qn ln cn xs) := HS10.out.later hb11; have HRR11 : Hid (Row w11 w.heap.size 44 (repC (.slice none 0 0) (.slice none 0 0) noRep)) := HR1.out.below HB11.out (by have := HS1.out; omega); clear hE11 hb11; simp only [Act.put])
    | (go_at_call 33; refine (end_any B (enP st) w11 HR11.out).mono ?_; rintro e w11' ⟨rfl, hw⟩; obtain rfl : w11 = w11' := hw.symm; clear hw; rw [HE.out])
    | ((with_reducible show wpList _ _ _ (Oper.mk (some 40) _ _ _ _ _ :: _) _ _); refine wpList_built_want (by rfl) 44 _ rfl _ _ (by simp only [List.map_toArray, List.map_nil]) HBz.out ?_; simp only [Act.put, List.setIfInBounds_toArray, List.set_cons_zero, List.set_cons_succ])
    | ((with_reducible show wpList _ _ _ (Oper.mk _ (Op.store 44 (.tmp 2) (.tmp 40)) _ _ _ _ :: _) _ _); refine wpList_store_Row rfl 44 (.tmp 2) (.tmp 40) rfl (repC (.slice none 0 0) (.slice none 0 0) noRep) rfl rfl HRR11.out (size44' noRep_ok) rfl (repC_one rfl rfl _) ?_; simp only [Act.put]))
  refine bodyPost_ret (results_RowS_tmp rfl rfl (Row.sets_all (vs := (repC (.slice none 0 0) (.slice none 0 0) noRep)) HRR11.out rfl) Try.underlying44 (size44' noRep_ok)) rfl ?_
  exact ⟨rfl, below_setCells (Nat.le_refl _) _ _ (HB1.out.trans (HB11.out.mono HB1.out.size))⟩

set_option maxRecDepth 100000 in
set_option maxHeartbeats 1500000 in
theorem ofP_end (p : Option Addr) (len cap : Nat) (b : List Nat) (st : Option (List Nat)) (A : Nat) (hlen : len ≤ 50000) (w : World) (hI : IsBytes w.heap.size w p len cap b) (hst : (readN 2 (some b)).2 = st) (hE : endE (enP st) = 80) (hA : (readN 2 (some b)).1 = A) :
    Calls Try.prog 18 #[.slice p len cap] w fun e w' => e = .returned (.tuple #[.agg (repC (.slice none 0 0) (.slice none 0 0) noRep).toArray, .int .i64 180]) ∧ Below w.heap.size w w' := by
  have hzb : ∀ z ∈ b, z < 256 := hI.2.2.2.1
  have HI : Hid (IsBytes w.heap.size w p len cap b) := hI
  have hz : Ahead st := by rw [← hst]; exact fun _ h' => (readN_once (ahead_some hzb) h').2
  have HOk : Hid (rdP st).ok := rdP_ok hz
  have HBd : Hid ((∀ x ∈ bdP st, x < 256) ∧ (bdP st).length ≤ 110000) := bdP_all hz
  have HE : Hid (endE (enP st) = 80) := hE
  have k1 := readN_le 4294967295 st
  have k3 := readN_le 1000 (p2 st)
  have c1 : IntKind.u32.wrap ((readN 4294967295 st).1 : Int) = ((readN 4294967295 st).1 : Int) := by rw [IntKind.wrap_u32]; omega
  have c3 : IntKind.i64.wrap ((readN 1000 (p2 st)).1 : Int) = ((readN 1000 (p2 st)).1 : Int) := by rw [IntKind.wrap_i64]; omega
  obtain ⟨w1, hw1⟩ : ∃ w1, w.alloc (.cells zc44 44) = w1 := ⟨_, rfl⟩
  have HW1 : Hid (w.alloc (.cells zc44 44) = w1) := hw1
  have HS1 : Hid (w1.heap.size = w.heap.size + 1) := by show _ = _; rw [← hw1]; simp
  have HB1 : Hid (Below w.heap.size w w1) := by rw [← hw1]; exact (Below.refl _ w).alloc (Nat.le_refl _) _
  have HR1 : Hid (Row w1 w.heap.size 44 (repC (.slice none 0 0) (.slice none 0 0) noRep)) := by rw [← hw1, zero44]; exact Row.new' w 44 _
  have HBz : Hid (Try.prog.built 44 [] = some (repC (.slice none 0 0) (.slice none 0 0) noRep).toArray) := built44z
  have HSt : Hid ((readN 2 (some b)).2 = st) := hst
  have HAe : Hid ((readN 2 (some b)).1 = A) := hA
  have Hz : Hid (Ahead st) := hz
  clear hw1 hI hst hA hz hzb k1 k3 hE
  go_enter Try.func18, Try.ntmps18
  go_wp2_with (first
    | (rw [HW1.out])
    | (go_at_call 29; refine (read_any p len cap b (by omega) w1 ((HI.out.below HB1.out).mono HB1.out.size)).mono ?_; rintro e w2 ⟨B, rfl, hBw, hR2, hb2⟩; have HR2 : Hid (RdAt w2 B (some b)) := hR2; have hBl2 : B < w2.heap.size := hR2.lt; have h30a := readerN_any B (some b) 2 (by omega) w2 hR2; rw [HSt.out, HAe.out] at h30a; clear hR2)
    | (go_at_call 30; refine h30a.mono ?_; clear h30a; rintro e w3 ⟨rfl, hR, hu⟩; have HR3 : Hid (RdAt w3 B st) := hR; have HB3 : Hid (Below w1.heap.size w1 w3) := below_but hb2 hu hBw hb2.size; have hBl3 : B < w3.heap.size := hR.lt; have h30b := readerN_any B st 4294967295 (by omega) w3 hR; clear hR hu HR2 hb2)
    | (go_at_call 30; refine h30b.mono ?_; clear h30b; rintro e w4 ⟨rfl, hR, hu⟩; have HR4 : Hid (RdAt w4 B (p1 st)) := hR; have HB4 : Hid (Below w1.heap.size w1 w4) := below_but HB3.out hu hBw HB3.out.size; have hBl4 : B < w4.heap.size := hR.lt; have h30c := readerN_any B (p1 st) 18446744073709551615 (by omega) w4 hR; clear hR hu HR3)
    | (go_at_call 30; refine h30c.mono ?_; clear h30c; rintro e w5 ⟨rfl, hR, hu⟩; have HR5 : Hid (RdAt w5 B (p2 st)) := hR; have HB5 : Hid (Below w1.heap.size w1 w5) := below_but HB4.out hu hBw HB4.out.size; have hBl5 : B < w5.heap.size := hR.lt; have h30d := readerN_any B (p2 st) 1000 (by omega) w5 hR; clear hR hu HR4)
    | (go_at_call 30; refine h30d.mono ?_; clear h30d; rintro e w6 ⟨rfl, hR, hu⟩; have HR6 : Hid (RdAt w6 B (p3 st)) := hR; have HB6 : Hid (Below w1.heap.size w1 w6) := below_but HB5.out hu hBw HB5.out.size; have hBl6 : B < w6.heap.size := hR.lt; have h32 := nextId_any B (p3 st) w6 hR Hz.out.p3; clear hR hu HR5)
    | (go_at_call 32; refine h32.mono ?_; clear h32; rintro e w7 ⟨rfl, hR, hu⟩; have HR7 : Hid (RdAt w7 B (p4 st)) := hR; have HB7 : Hid (Below w1.heap.size w1 w7) := below_but HB6.out hu hBw HB6.out.size; have hBl7 : B < w7.heap.size := hR.lt; have h30e := readerN_any B (p4 st) 18446744073709551615 (by omega) w7 hR; clear hR hu HR6)
    | (go_at_call 30; refine h30e.mono ?_; clear h30e; rintro e w8 ⟨rfl, hR, hu⟩; have HR8 : Hid (RdAt w8 B (p5 st)) := hR; have HB8 : Hid (Below w1.heap.size w1 w8) := below_but HB7.out hu hBw HB7.out.size; have hBl8 : B < w8.heap.size := hR.lt; have h31 := readerText_any B (p5 st) 110000 (by omega) w8 hR; clear hR hu HR7)
    | (go_at_call 31; refine h31.mono ?_; clear h31; rintro e w9 ⟨v9, rfl, hO, hR, hu⟩; have HR9 : Hid (RdAt w9 B (p6 st)) := hR; have HB9 : Hid (Below w1.heap.size w1 w9) := below_but HB8.out hu hBw HB8.out.size; have hBl9 : B < w9.heap.size := hR.lt; obtain ⟨qb, lb, cb, hv⟩ := own_any_slice hO; subst hv; have HO9 : Hid (Own w8.heap.size w9 (.slice qb lb cb) (bdP st)) := hO; clear hO; have h39 := nextNames_any B (p6 st) w9 hR; clear hR hu HR8)
    | (go_at_call 39; refine h39.mono ?_; clear h39; rintro e w10 ⟨qn, ln, cn, xs, rfl, hS, hR, hu, hN⟩; have HR10 : Hid (RdAt w10 B (enP st)) := hR; have HB10 : Hid (Below w1.heap.size w1 w10) := below_but HB9.out hu hBw HB9.out.size; have HO10 : Hid (Own w8.heap.size w10 (.slice qb lb cb) (bdP st)) := HO9.out.but hu hBl8; have HBu : Hid (Try.prog.built 44 [(0, .int .u32 ((readN 4294967295 st).1 : Nat)), (1, .int .u64 ((readN 18446744073709551615 (p1 st)).1 : Nat)), (2, .int .i64 ((readN 1000 (p2 st)).1 : Nat)), (3, .agg (u8s (idR (p3 st))).toArray), (4, .int .u64 ((readN 18446744073709551615 (p4 st)).1 : Nat)), (5, .slice qb lb cb), (6, .slice qn ln cn)] = some (repC (.slice qb lb cb) (.slice qn ln cn) (rdP st)).toArray) := built44 (rdP st) HOk.out qb qn lb cb ln cn; have HS10 : Hid (StrsFrom w9.heap.size w10 qn ln cn xs) := hS; clear hR hu HR9 hS hN)
    | ((with_reducible show wpList _ _ _ (Oper.mk (some 27) _ _ _ _ _ :: _) _ _); refine wpList_built_want (by rfl) 44 _ rfl _ _ (by simp only [List.map_toArray, List.map_cons, List.map_nil]; rfl) HBu.out ?_; simp only [Act.put, List.setIfInBounds_toArray, List.set_cons_zero, List.set_cons_succ])
    | ((with_reducible show wpList _ _ _ (Oper.mk _ (Op.store 44 (.tmp 6) (.tmp 27)) _ _ _ _ :: _) _ _); refine wpList_storeRep rfl (.tmp 6) (.tmp 27) rfl (.slice qb lb cb) (.slice qn ln cn) rfl rfl (rdP st) HOk.out rfl rfl (fun w11 hb11 hE11 => ?_); have HE11 : Hid (RepAt w11 w10.heap.size (.slice qb lb cb) (.slice qn ln cn) (rdP st)) := hE11; have HR11 : Hid (RdAt w11 B (enP st)) := HR10.out.later hb11; have HB11 : Hid (Below w1.heap.size w1 w11) := HB10.out.trans (hb11.mono HB10.out.size); have HO11 : Hid (Own w8.heap.size w11 (.slice qb lb cb) (bdP st)) := HO10.out.later hb11; have HS11 : Hid (StrsFrom w9.heap.size w11 qn ln cn xs) := HS10.out.later hb11; have HRR11 : Hid (Row w11 w.heap.size 44 (repC (.slice none 0 0) (.slice none 0 0) noRep)) := HR1.out.below HB11.out (by have := HS1.out; omega); clear hE11 hb11; simp only [Act.put])
    | (go_at_call 33; refine (end_any B (enP st) w11 HR11.out).mono ?_; rintro e w11' ⟨rfl, hw⟩; obtain rfl : w11 = w11' := hw.symm; clear hw; rw [HE.out])
    | ((with_reducible show wpList _ _ _ (Oper.mk (some 40) _ _ _ _ _ :: _) _ _); refine wpList_built_want (by rfl) 44 _ rfl _ _ (by simp only [List.map_toArray, List.map_nil]) HBz.out ?_; simp only [Act.put, List.setIfInBounds_toArray, List.set_cons_zero, List.set_cons_succ])
    | ((with_reducible show wpList _ _ _ (Oper.mk _ (Op.store 44 (.tmp 2) (.tmp 40)) _ _ _ _ :: _) _ _); refine wpList_store_Row rfl 44 (.tmp 2) (.tmp 40) rfl (repC (.slice none 0 0) (.slice none 0 0) noRep) rfl rfl HRR11.out (size44' noRep_ok) rfl (repC_one rfl rfl _) ?_; simp only [Act.put]))
  refine bodyPost_ret (results_RowS_tmp rfl rfl (Row.sets_all (vs := (repC (.slice none 0 0) (.slice none 0 0) noRep)) HRR11.out rfl) Try.underlying44 (size44' noRep_ok)) rfl ?_
  exact ⟨rfl, below_setCells (Nat.le_refl _) _ _ (HB1.out.trans (HB11.out.mono HB1.out.size))⟩

theorem ofP_any (p : Option Addr) (len cap : Nat) (b : List Nat) (hlen : len ≤ 50000) (w : World) (hI : IsBytes w.heap.size w p len cap b) :
    Calls Try.prog 18 #[.slice p len cap] w (OfPPost w b) := by
  have hA2 := readN_le 2 (some b)
  by_cases hE : endE (enP (readN 2 (some b)).2) = 0
  · by_cases hA : (readN 2 (some b)).1 = 2
    · refine (ofP_good p len cap b _ hlen w hI rfl hE hA).mono ?_
      intro e w' h
      exact .inl ⟨by rw [isP, decide_eq_true hE, decide_eq_true hA]; rfl, h⟩
    · refine (ofP_bad p len cap b _ _ hlen w hI rfl hE rfl (by omega)).mono ?_
      intro e w' h
      exact .inr ⟨by rw [isP, decide_eq_true hE, decide_eq_false hA]; rfl, h⟩
  · refine (ofP_end p len cap b _ _ hlen w hI rfl (endE_80 hE) rfl).mono ?_
    intro e w' h
    exact .inr ⟨by rw [isP, decide_eq_false hE]; rfl, h⟩
end Go.Proofs.Ytedpgdldekkgdaa
