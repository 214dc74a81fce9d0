/-
  The reference's ReplyOf.
-/
import Derived.Test.YtedpgdldekkgdaaRefOQ
import Derived.Test.YtedpgdldekkgdaaOfP
import Derived.Test.YtedpgdldekkgdaaRefPP
import Derived.Test.YtedpgdldekkgdaaGate
namespace Go.Proofs.Ytedpgdldekkgdaa
open Go.RowKit Go.Shelf

theorem putP_seq (s t : Value) (r : Rep) (n : Nat) : putAt (repC s t r) 1 [.int .u64 (n : Nat)] = repC s t { r with seq := n } := rfl
theorem putP_err (s t : Value) (r : Rep) (n : Int) : putAt (repC s t r) 2 [.int .i64 n] = repC s t { r with err := n } := rfl
theorem putP_id {s t : Value} {r : Rep} (h : r.ok) {x : List Nat} (hx : IsId x) : putAt (repC s t r) 3 (u8s x) = repC s t { r with id := x } := by
  have l1 : (u8s r.id).length = 32 := by rw [u8s_length, h.id.1]
  have l2 : (u8s x).length = 32 := by rw [u8s_length, hx.1]
  rw [putAt_eq (u8s x) (repC s t r) 3 (by rw [repC_length h, l2]; omega), l2]
  have : (repC s t r).drop (3 + 32) = [.int .u64 (r.n : Nat), s, t] := by
    show (u8s r.id ++ _).drop 32 = _
    rw [drop_app l1 (by omega)]
    rfl
  rw [this]
  simp [repC]
theorem repC_take35 {s t : Value} {r : Rep} (h : r.ok) : (repC s t r).take 35 = .int .u32 (r.client : Nat) :: .int .u64 (r.seq : Nat) :: .int .i64 r.err :: u8s r.id := by
  have l1 : (u8s r.id).length = 32 := by rw [u8s_length, h.id.1]
  show (_ :: _ :: _ :: (u8s r.id ++ _)).take (32 + 1 + 1 + 1) = _
  simp only [List.take_succ_cons]
  rw [List.take_append_of_le_length (by omega), List.take_of_length_le (by omega)]
theorem repC_split {s t : Value} {r : Rep} (h : r.ok) : repC s t r = (repC s t r).take 35 ++ [.int .u64 (r.n : Nat), s, t] := by
  rw [repC_take35 h]
  simp [repC]
theorem take35_len {s t : Value} {r : Rep} (h : r.ok) : ((repC s t r).take 35).length = 35 := by rw [List.length_take, repC_length h]; rfl
theorem putP_n {s t : Value} {r : Rep} (h : r.ok) (n : Nat) : putAt (repC s t r) 35 [.int .u64 (n : Nat)] = repC s t { r with n := n } := by
  rw [putAt_eq _ (repC s t r) 35 (by rw [repC_length h]; simp)]
  have : (repC s t r).drop (35 + 1) = [s, t] := by
    rw [repC_split h, drop_app (take35_len h) (by omega)]
    rfl
  rw [List.length_singleton, this, repC_take35 h]
  simp [repC]
theorem putP_body {s t : Value} {r : Rep} (h : r.ok) (v : Value) : putAt (repC s t r) 36 [v] = repC v t r := by
  rw [putAt_eq _ (repC s t r) 36 (by rw [repC_length h]; simp)]
  have h1 : (repC s t r).take 36 = (repC s t r).take 35 ++ [.int .u64 (r.n : Nat)] := by
    conv => lhs; rw [repC_split h]
    rw [List.take_append, take35_len h, List.take_of_length_le (by rw [take35_len h]; omega)]
    rfl
  have h2 : (repC s t r).drop (36 + 1) = [t] := by
    rw [repC_split h, drop_app (take35_len h) (by omega)]
    rfl
  rw [List.length_singleton, h1, h2, repC_take35 h]
  simp [repC]
theorem putP_names {s t : Value} {r : Rep} (h : r.ok) (v : Value) : putAt (repC s t r) 37 [v] = repC s v r := by
  rw [putAt_eq _ (repC s t r) 37 (by rw [repC_length h]; simp)]
  have h1 : (repC s t r).take 37 = (repC s t r).take 35 ++ [.int .u64 (r.n : Nat), s] := by
    conv => lhs; rw [repC_split h]
    rw [List.take_append, take35_len h, List.take_of_length_le (by rw [take35_len h]; omega)]
    rfl
  have h2 : (repC s t r).drop (37 + 1) = [] := List.drop_of_length_le (by rw [repC_length h]; omega)
  rw [List.length_singleton, h1, h2, repC_take35 h]
  simp [repC]
/-- While a reply is read: the variable, the reader. -/
structure StP (n₀ B E : Nat) (W : World) (S T : Value) (r : Rep) (st : Option (List Nat)) : Prop where
  ok : r.ok
  row : Row W E 44 (repC S T r)
  rd : RfAt n₀ W B st
theorem StP.read {n₀ B E : Nat} {W W' : World} {S T : Value} {r : Rep} {st st' : Option (List Nat)} (h : StP n₀ B E W S T r st) (hB : B < E) (hf : RfAt n₀ W' B st') (hb : But B W.heap.size W W') : StP n₀ B E W' S T r st' :=
  ⟨h.ok, hb.row h.row.lt (by omega) h.row, hf⟩
theorem StP.put {n₀ B E : Nat} {W W' : World} {S T S' T' : Value} {r r' : Rep} {st : Option (List Nat)} (h : StP n₀ B E W S T r st) (hB : B < E) (h0 : n₀ ≤ B) (hok : r'.ok) (hr : Row W' E 44 (repC S' T' r')) (hb : But E W.heap.size W W') : StP n₀ B E W' S' T' r' st :=
  ⟨hok, hr, h.rd.but hb (by omega) (by omega) (by have := h.row.lt; omega)⟩
theorem StP.below {n₀ B E : Nat} {W W' : World} {S T : Value} {r : Rep} {st : Option (List Nat)} (h : StP n₀ B E W S T r st) (hB : B < E) (h0 : n₀ ≤ B) (hb : Below (E + 1) W W') : StP n₀ B E W' S T r st :=
  ⟨h.ok, h.row.below hb (by omega), h.rd.below hb (by omega) (by omega)⟩
theorem built44c (c : Nat) : Try.prog.built 44 [(0, .int .u32 (c : Nat))] = some (repC (.slice none 0 0) (.slice none 0 0) { noRep with client := c }).toArray := by kernel_rfl
theorem mkP_ok {c s n : Nat} {k : Int} {i : List Nat} (hc : c < 4294967296) (hs : s < 18446744073709551616) (hk : -9223372036854775808 ≤ k ∧ k ≤ 9223372036854775807) (hi : IsId i) (hn : n < 18446744073709551616) : Rep.ok ⟨c, s, k, i, n⟩ := ⟨hc, hs, hk, hi, hn⟩
theorem below_ownS {w w' : World} {M : Nat} {v : Value} {xs : List ByteArray} (ho : OwnS M w v xs) (hM : M ≤ w.heap.size) (hg : w.grownBy w' v.ownBlock) : Below M w w' :=
  ⟨hg.os, hg.tape, hg.output, hg.size, fun k hk => hg.block k (by omega) (fun e => by have := (World.ownsRow.lt ho k e.symm).1; omega)⟩
theorem ownS_other {w w' : World} {M E : Nat} {v : Value} {xs : List ByteArray} (ho : OwnS M w v xs) (hE : E < M) (hb : But E w.heap.size w w') : OwnS M w' v xs := ownsRow_frame ho (fun k c fr hk hs hh => (hb.block k hs (by omega)).trans hh)
/-- One cell of a row, written, in any region. -/
theorem wp_putOne {o : Oper} {a : Act} {w : World} {K : Act → World → Prop} {Q : Exit → Act → World → Prop} (ty : TypeId) (x y : Operand) (ho : o.op = .store ty x y) {E f : Nat} (hx : a.eval x = .pointer (some ⟨E, f, none⟩)) (v : Value) (hy : a.eval y = v) (h1 : v.oneCell' = true) (hi : (Try.prog.info? ty).map (·.size) = some 1)
    {t : TypeId} {cs cs' : List Value} (hr : Row w E t cs) (hf : f + 1 ≤ cs.length) (he : putAt cs f [v] = cs') (h : ∀ W2, Row W2 E t cs' → But E w.heap.size w W2 → K (a.put o.dst undef) W2) : o.wp Try.prog a w K Q := by
  unfold Oper.wp execOp
  simp only [ho, hx, hy, Instr.storeAt, Instr.sureAddr, Sem.run_bind, Sem.run_pure, Result.andThen_ok, run_storeVar_one w E f ty v (hr.thereAt hf) hi h1]
  have hr2 := Row.sets [v] f hr
  rw [he] at hr2
  exact h _ hr2 (But.sets _ _ _)
/-- What ReplyOf answers, of what begins with a 2. -/
def RefOP (w : World) (st : Option (List Nat)) (e : Ending) (w' : World) : Prop :=
  (decide (endE (enP st) = 0) = true ∧ ∃ p len cap q l c, e = .returned (.tuple #[.agg (repC (.slice p len cap) (.slice q l c) (rdP st)).toArray, .int .i64 0]) ∧ IsBytes w'.heap.size w' p len cap (bdP st) ∧ IsStrs w'.heap.size w' q l c (nmP st) ∧ Below w.heap.size w w') ∨
  (decide (endE (enP st) = 0) = false ∧ e = .returned (.tuple #[.agg (repC (.slice none 0 0) (.slice none 0 0) noRep).toArray, .int .i64 180]) ∧ Below w.heap.size w w')

set_option maxRecDepth 100000 in
set_option maxHeartbeats 4000000 in
theorem refOfP_two (g o len cap : Nat) (r0 : List Nat) (hlen : len ≤ 50000) (w : World) (hI : IsBytes w.heap.size w (some ⟨g, o, none⟩) len cap (2 :: r0)) :
    Calls Try.prog 19 #[.slice (some ⟨g, o, none⟩) len cap] w (RefOP w (some r0)) := by
  have hzb : ∀ z ∈ r0, z < 256 := fun z hz => hI.2.2.2.1 z (List.mem_cons_of_mem _ hz)
  have Hz : Hid (Ahead (some r0)) := ahead_some hzb
  have HOk : Hid (rdP (some r0)).ok := rdP_ok Hz.out
  obtain ⟨m, hm⟩ : ∃ m, nuP (some r0) = m := ⟨_, rfl⟩
  have hm1 : m ≤ 1000 := by rw [← hm]; exact nuP_le _
  have HNu : Hid ((readN 1000 (p6 (some r0))).1 = m) := hm
  have HEn : Hid (enP (some r0) = nS m (p7 (some r0))) := by show _ = _; rw [enP, hm]
  have HNm : Hid (nmP (some r0) = nL m (p7 (some r0))) := by show _ = _; rw [nmP, hm]
  have k1 := readN_le 4294967295 (some r0)
  have k3 := readN_le 1000 (p2 (some r0))
  have c1 : IntKind.u32.wrap ((readN 4294967295 (some r0)).1 : Int) = ((readN 4294967295 (some r0)).1 : Int) := by rw [IntKind.wrap_u32]; omega
  have c3 : IntKind.i64.wrap ((readN 1000 (p2 (some r0))).1 : Int) = ((readN 1000 (p2 (some r0))).1 : Int) := by rw [IntKind.wrap_i64]; omega
  have hl1 : 1 ≤ len := by have := hI.1; rw [List.length_cons] at this; omega
  have hlc : len ≤ cap := hI.2.1
  have hcc : cap ≤ 9223372036854775807 := hI.2.2.1
  have ht := bytes_tail hI
  have hg : g < w.heap.size ∧ w.cell? ⟨g, o, none⟩ = some (.int .u8 2) := by
    rcases hI.2.2.2.2 with h | ⟨b, off, e, hb, hc⟩
    · omega
    · cases e
      exact ⟨hb, hc 0 (by omega)⟩
  obtain ⟨w1, hw1⟩ : ∃ w1, w.alloc (.cells zc44 44) = w1 := ⟨_, rfl⟩
  have hs1 : w1.heap.size = w.heap.size + 1 := by rw [← hw1]; simp
  have hb1 : Below w.heap.size w w1 := by rw [← hw1]; exact (Below.refl _ w).alloc (Nat.le_refl _) _
  have hr1 : Row w1 w.heap.size 44 (repC (.slice none 0 0) (.slice none 0 0) noRep) := by rw [← hw1, zero44]; exact Row.new' w 44 _
  obtain ⟨w2, hw2⟩ : ∃ w2, w1.alloc (.cells #[.slice (if cap = 1 then some ⟨g, o, none⟩ else some ⟨g, o + 1, none⟩) (len - 1) (cap - 1), .bool false] 73) = w2 := ⟨_, rfl⟩
  have hb2 : Below w1.heap.size w1 w2 := by rw [← hw2]; exact (Below.refl _ w1).alloc (Nat.le_refl _) _
  have HW2 : Hid ((w.alloc (.cells zc44 44)).alloc (.cells #[.slice (if cap = 1 then some ⟨g, o, none⟩ else some ⟨g, o + 1, none⟩) (len - 1) (cap - 1), .bool false] 73) = w2) := by show _ = _; rw [hw1, hw2]
  have HB2 : Hid (Below w.heap.size w w2) := hb1.trans (hb2.mono hb1.size)
  have HR2 : Hid (Row w2 w.heap.size 44 (repC (.slice none 0 0) (.slice none 0 0) noRep)) := hr1.later hb2
  have HS2 : Hid (w2.heap.size = w.heap.size + 2) := by show _ = _; rw [← hw2]; simp [hs1]
  have HF2 : Hid (RfAt w.heap.size w2 (w.heap.size + 1) (some r0)) := ⟨_, _, _, by rw [← hw2, ← hs1]; exact Row.new w1 73 _, ht.below HB2.out, by omega⟩
  have hcell : (w.alloc (.cells zc44 44)).cell? ⟨g, o, none⟩ = some (.int .u8 2) := by rw [hw1]; exact (hb1.cell (p := ⟨g, o, none⟩) hg.1).trans hg.2
  have HBz : Hid (Try.prog.built 44 [] = some (repC (.slice none 0 0) (.slice none 0 0) noRep).toArray) := built44z
  have HBc : Hid (Try.prog.built 44 [(0, .int .u32 ((readN 4294967295 (some r0)).1 : Nat))] = some (repC (.slice none 0 0) (.slice none 0 0) (⟨(readN 4294967295 (some r0)).1, 0, 0, zeros32, 0⟩ : Rep)).toArray) := built44c _
  have h34a := refRN_any w.heap.size (w.heap.size + 1) 4294967295 (Nat.le_succ _) (some r0) w2 HF2.out
  have hl0 : ¬ (len : Int) = 0 := by omega
  obtain ⟨iq, hiq⟩ : ∃ iq, decide (endE (enP (some r0)) = 0) = iq := ⟨_, rfl⟩
  have HQ : Hid (decide (endE (enP (some r0)) = 0) = iq) := hiq
  unfold RefOP
  rw [hiq]
  clear hw1 hw2 hs1 hb1 hr1 hb2 hI ht hg hzb k1 k3 hm hiq
  by_cases hc1 : cap = 1
  · subst hc1
    rw [if_pos rfl] at HW2
    have hl0' : len - 1 = 0 := by omega
    rw [hl0'] at HW2
    have HW2 : Hid ((w.alloc (.cells zc44 44)).alloc (.cells #[.slice (some ⟨g, o, none⟩) 0 0, .bool false] 73) = w2) := HW2
    clear hl0'
    go_enter Try.func19, Try.ntmps19
    go_wp2_with (first
      | (rw [HW2.out])
      | (go_at_call 34; refine h34a.mono ?_; clear h34a; rintro e w3 ⟨rfl, hF3, hb3⟩; have HF3 : Hid (RfAt w.heap.size w3 (w.heap.size + 1) (p1 (some r0))) := hF3; have hB3 : Below (w.heap.size + 1) w2 w3 := hb3.below (by have := HS2.out; omega) (Nat.le_refl _); have hs3 := hb3.size; clear hF3 hb3)
      | ((with_reducible show wpList _ _ _ (Oper.mk (some 25) _ _ _ _ _ :: _) _ _); refine wpList_built_want (by rfl) 44 _ rfl _ _ (by simp only [List.map_toArray, List.map_cons, List.map_nil]; rfl) HBc.out ?_; simp only [Act.put, List.setIfInBounds_toArray, List.set_cons_zero, List.set_cons_succ])
      | ((with_reducible show wpList _ _ _ (Oper.mk _ (Op.store 44 (.tmp 5) (.tmp 25)) _ _ _ _ :: _) _ _); refine wpList_storeRep rfl (.tmp 5) (.tmp 25) rfl (.slice none 0 0) (.slice none 0 0) rfl rfl (⟨(readN 4294967295 (some r0)).1, 0, 0, zeros32, 0⟩ : Rep) (mkP_ok (by have := readN_le 4294967295 (some r0); omega) (by omega) (by omega) isId_zeros (by omega)) rfl rfl (fun w4 hb4 hE4 => ?_); obtain ⟨E, hEe⟩ : ∃ E, w3.heap.size = E := ⟨_, rfl⟩; rw [hEe] at hE4 ⊢; have hBE : (w.heap.size + 1) < E := (by have := HS2.out; omega); have HX4 : Hid (StP w.heap.size (w.heap.size + 1) E w4 (.slice none 0 0) (.slice none 0 0) (⟨(readN 4294967295 (some r0)).1, 0, 0, zeros32, 0⟩ : Rep) (p1 (some r0))) := ⟨hE4.ok, hE4.row, HF3.out.later (by have := HS2.out; omega) hb4⟩; have hB4 : Below (w.heap.size + 1) w2 w4 := hB3.trans (hb4.mono (by have := HS2.out; omega)); have h34b := refRN_any w.heap.size (w.heap.size + 1) 18446744073709551615 (Nat.le_succ _) (p1 (some r0)) w4 HX4.out.rd; clear hE4 hb4 hB3 hEe HF3; simp only [Act.put])
      | (go_at_call 34; refine h34b.mono ?_; clear h34b; rintro e w5 ⟨rfl, hF, hb⟩; have HX5 : Hid (StP w.heap.size (w.heap.size + 1) E w5 (.slice none 0 0) (.slice none 0 0) (⟨(readN 4294967295 (some r0)).1, 0, 0, zeros32, 0⟩ : Rep) (p2 (some r0))) := HX4.out.read hBE hF hb; have hB5 : Below (w.heap.size + 1) w2 w5 := hB4.trans (hb.below (by have := hB4.size; have := HS2.out; omega) (Nat.le_refl _)); clear hF hb hB4 HX4)
      | ((with_reducible show wpList _ _ _ (Oper.mk _ (Op.store 23 (.tmp 28) (.tmp 27)) _ _ _ _ :: _) _ _); refine wpList_putOne rfl 23 (.tmp 28) (.tmp 27) rfl rfl (.int .u64 (((readN 18446744073709551615 (p1 (some r0))).1 : Nat) : Int)) rfl rfl (by kernel_rfl) HX5.out.row (by rw [repC_length HX5.out.ok]; omega) (putP_seq _ _ _ _) (fun w6 hr2 hb2 => ?_); have HX6 : Hid (StP w.heap.size (w.heap.size + 1) E w6 (.slice none 0 0) (.slice none 0 0) (⟨(readN 4294967295 (some r0)).1, (readN 18446744073709551615 (p1 (some r0))).1, 0, zeros32, 0⟩ : Rep) (p2 (some r0))) := HX5.out.put hBE (Nat.le_succ _) (mkP_ok (by have := readN_le 4294967295 (some r0); omega) (by have := readN_le 18446744073709551615 (p1 (some r0)); omega) (by omega) isId_zeros (by omega)) hr2 hb2; have hB6 : Below (w.heap.size + 1) w2 w6 := hB5.trans (hb2.below (by have := hB5.size; have := HS2.out; omega) (Nat.le_of_lt hBE)); have h34c := refRN_any w.heap.size (w.heap.size + 1) 1000 (Nat.le_succ _) (p2 (some r0)) w6 HX6.out.rd; clear hr2 hb2 hB5 HX5; simp only [Act.put])
      | (go_at_call 34; refine h34c.mono ?_; clear h34c; rintro e w7 ⟨rfl, hF, hb⟩; have HX7 : Hid (StP w.heap.size (w.heap.size + 1) E w7 (.slice none 0 0) (.slice none 0 0) (⟨(readN 4294967295 (some r0)).1, (readN 18446744073709551615 (p1 (some r0))).1, 0, zeros32, 0⟩ : Rep) (p3 (some r0))) := HX6.out.read hBE hF hb; have hB7 : Below (w.heap.size + 1) w2 w7 := hB6.trans (hb.below (by have := hB6.size; have := HS2.out; omega) (Nat.le_refl _)); clear hF hb hB6 HX6)
      | ((with_reducible show wpList _ _ _ (Oper.mk _ (Op.store 31 (.tmp 32) (.tmp 31)) _ _ _ _ :: _) _ _); refine wpList_putOne rfl 31 (.tmp 32) (.tmp 31) rfl rfl (.int .i64 ((readN 1000 (p2 (some r0))).1 : Nat)) rfl rfl (by kernel_rfl) HX7.out.row (by rw [repC_length HX7.out.ok]; omega) (putP_err _ _ _ _) (fun w8 hr2 hb2 => ?_); have HX8 : Hid (StP w.heap.size (w.heap.size + 1) E w8 (.slice none 0 0) (.slice none 0 0) (⟨(readN 4294967295 (some r0)).1, (readN 18446744073709551615 (p1 (some r0))).1, ((readN 1000 (p2 (some r0))).1 : Nat), zeros32, 0⟩ : Rep) (p3 (some r0))) := HX7.out.put hBE (Nat.le_succ _) (mkP_ok (by have := readN_le 4294967295 (some r0); omega) (by have := readN_le 18446744073709551615 (p1 (some r0)); omega) (by have := readN_le 1000 (p2 (some r0)); omega) isId_zeros (by omega)) hr2 hb2; have hB8 : Below (w.heap.size + 1) w2 w8 := hB7.trans (hb2.below (by have := hB7.size; have := HS2.out; omega) (Nat.le_of_lt hBE)); have h36d := refId_any w.heap.size (w.heap.size + 1) (p3 (some r0)) w8 (Nat.le_succ _) HX8.out.rd; clear hr2 hb2 hB7 HX7; simp only [Act.put])
      | (go_at_call 36; refine h36d.mono ?_; clear h36d; rintro e w9 ⟨rfl, hF, hb⟩; have HX9 : Hid (StP w.heap.size (w.heap.size + 1) E w9 (.slice none 0 0) (.slice none 0 0) (⟨(readN 4294967295 (some r0)).1, (readN 18446744073709551615 (p1 (some r0))).1, ((readN 1000 (p2 (some r0))).1 : Nat), zeros32, 0⟩ : Rep) (p4 (some r0))) := HX8.out.read hBE hF hb; have hB9 : Below (w.heap.size + 1) w2 w9 := hB8.trans (hb.below (by have := hB8.size; have := HS2.out; omega) (Nat.le_refl _)); clear hF hb hB8 HX8)
      | ((with_reducible show wpList _ _ _ (Oper.mk _ (Op.store 25 (.tmp 35) (.tmp 34)) _ _ _ _ :: _) _ _); refine wpList_putArr rfl 25 (.tmp 35) (.tmp 34) rfl rfl (u8s (idR (p3 (some r0)))) rfl (u8s_one _) (size25' (idR_ok Hz.out.p3)) HX9.out.row (by rw [u8s_length, (idR_ok Hz.out.p3).1, repC_length HX9.out.ok]; omega) (putP_id HX9.out.ok (idR_ok Hz.out.p3)) (fun w10 hr2 hb2 => ?_); have HX10 : Hid (StP w.heap.size (w.heap.size + 1) E w10 (.slice none 0 0) (.slice none 0 0) (⟨(readN 4294967295 (some r0)).1, (readN 18446744073709551615 (p1 (some r0))).1, ((readN 1000 (p2 (some r0))).1 : Nat), idR (p3 (some r0)), 0⟩ : Rep) (p4 (some r0))) := HX9.out.put hBE (Nat.le_succ _) (mkP_ok (by have := readN_le 4294967295 (some r0); omega) (by have := readN_le 18446744073709551615 (p1 (some r0)); omega) (by have := readN_le 1000 (p2 (some r0)); omega) (idR_ok Hz.out.p3) (by omega)) hr2 hb2; have hB10 : Below (w.heap.size + 1) w2 w10 := hB9.trans (hb2.below (by have := hB9.size; have := HS2.out; omega) (Nat.le_of_lt hBE)); have h34e := refRN_any w.heap.size (w.heap.size + 1) 18446744073709551615 (Nat.le_succ _) (p4 (some r0)) w10 HX10.out.rd; clear hr2 hb2 hB9 HX9; simp only [Act.put])
      | (go_at_call 34; refine h34e.mono ?_; clear h34e; rintro e w11 ⟨rfl, hF, hb⟩; have HX11 : Hid (StP w.heap.size (w.heap.size + 1) E w11 (.slice none 0 0) (.slice none 0 0) (⟨(readN 4294967295 (some r0)).1, (readN 18446744073709551615 (p1 (some r0))).1, ((readN 1000 (p2 (some r0))).1 : Nat), idR (p3 (some r0)), 0⟩ : Rep) (p5 (some r0))) := HX10.out.read hBE hF hb; have hB11 : Below (w.heap.size + 1) w2 w11 := hB10.trans (hb.below (by have := hB10.size; have := HS2.out; omega) (Nat.le_refl _)); clear hF hb hB10 HX10)
      | ((with_reducible show wpList _ _ _ (Oper.mk _ (Op.store 23 (.tmp 38) (.tmp 37)) _ _ _ _ :: _) _ _); refine wpList_putOne rfl 23 (.tmp 38) (.tmp 37) rfl rfl (.int .u64 (((readN 18446744073709551615 (p4 (some r0))).1 : Nat) : Int)) rfl rfl (by kernel_rfl) HX11.out.row (by rw [repC_length HX11.out.ok]; omega) (putP_n HX11.out.ok _) (fun w12 hr2 hb2 => ?_); have HX12 : Hid (StP w.heap.size (w.heap.size + 1) E w12 (.slice none 0 0) (.slice none 0 0) (⟨(readN 4294967295 (some r0)).1, (readN 18446744073709551615 (p1 (some r0))).1, ((readN 1000 (p2 (some r0))).1 : Nat), idR (p3 (some r0)), (readN 18446744073709551615 (p4 (some r0))).1⟩ : Rep) (p5 (some r0))) := HX11.out.put hBE (Nat.le_succ _) (mkP_ok (by have := readN_le 4294967295 (some r0); omega) (by have := readN_le 18446744073709551615 (p1 (some r0)); omega) (by have := readN_le 1000 (p2 (some r0)); omega) (idR_ok Hz.out.p3) (by have := readN_le 18446744073709551615 (p4 (some r0)); omega)) hr2 hb2; have hB12 : Below (w.heap.size + 1) w2 w12 := hB11.trans (hb2.below (by have := hB11.size; have := HS2.out; omega) (Nat.le_of_lt hBE)); have h35f := refRText_any w.heap.size (w.heap.size + 1) (p5 (some r0)) 110000 (by omega) w12 (Nat.le_succ _) HX12.out.rd; clear hr2 hb2 hB11 HX11; simp only [Act.put])
      | (go_at_call 35; refine h35f.mono ?_; clear h35f; rintro e w13 ⟨q12, l12, c12, rfl, hJ12, hF, hb⟩; have HJB : Hid (IsBytes w.heap.size w13 q12 l12 c12 (bdP (some r0))) := hJ12; clear hJ12; have HX13 : Hid (StP w.heap.size (w.heap.size + 1) E w13 (.slice none 0 0) (.slice none 0 0) (⟨(readN 4294967295 (some r0)).1, (readN 18446744073709551615 (p1 (some r0))).1, ((readN 1000 (p2 (some r0))).1 : Nat), idR (p3 (some r0)), (readN 18446744073709551615 (p4 (some r0))).1⟩ : Rep) (p6 (some r0))) := HX12.out.read hBE hF hb; have hB13 : Below (w.heap.size + 1) w2 w13 := hB12.trans (hb.below (by have := hB12.size; have := HS2.out; omega) (Nat.le_refl _)); clear hF hb hB12 HX12)
      | ((with_reducible show wpList _ _ _ (Oper.mk _ (Op.store 26 (.tmp 41) (.tmp 40)) _ _ _ _ :: _) _ _); refine wpList_putOne rfl 26 (.tmp 41) (.tmp 40) rfl rfl (.slice q12 l12 c12) rfl rfl (by kernel_rfl) HX13.out.row (by rw [repC_length HX13.out.ok]; omega) (putP_body HX13.out.ok _) (fun w14 hr2 hb2 => ?_); have HX14 : Hid (StP w.heap.size (w.heap.size + 1) E w14 (.slice q12 l12 c12) (.slice none 0 0) (⟨(readN 4294967295 (some r0)).1, (readN 18446744073709551615 (p1 (some r0))).1, ((readN 1000 (p2 (some r0))).1 : Nat), idR (p3 (some r0)), (readN 18446744073709551615 (p4 (some r0))).1⟩ : Rep) (p6 (some r0))) := HX13.out.put hBE (Nat.le_succ _) (mkP_ok (by have := readN_le 4294967295 (some r0); omega) (by have := readN_le 18446744073709551615 (p1 (some r0)); omega) (by have := readN_le 1000 (p2 (some r0)); omega) (idR_ok Hz.out.p3) (by have := readN_le 18446744073709551615 (p4 (some r0)); omega)) hr2 hb2; have hB14 : Below (w.heap.size + 1) w2 w14 := hB13.trans (hb2.below (by have := hB13.size; have := HS2.out; omega) (Nat.le_of_lt hBE)); have HJB2 : Hid (IsBytes w.heap.size w14 q12 l12 c12 (bdP (some r0))) := HJB.out.below (hb2.below (by have := hB13.size; have := HS2.out; omega) (by omega)); have h34g := refRN_any w.heap.size (w.heap.size + 1) 1000 (Nat.le_succ _) (p6 (some r0)) w14 HX14.out.rd; clear hr2 hb2 hB13 HX13 HJB; simp only [Act.put])
      | (go_at_call 34; refine h34g.mono ?_; clear h34g; rintro e w15 ⟨rfl, hF, hb⟩; have HX15 : Hid (StP w.heap.size (w.heap.size + 1) E w15 (.slice q12 l12 c12) (.slice none 0 0) (rdP (some r0)) (p7 (some r0))) := HX14.out.read hBE hF hb; have hB15 : Below (w.heap.size + 1) w2 w15 := hB14.trans (hb.below (by have := hB14.size; have := HS2.out; omega) (Nat.le_refl _)); have HJ15 : Hid (IsBytes w.heap.size w15 q12 l12 c12 (bdP (some r0))) := HJB2.out.below (hb.below (by have := hB14.size; have := HS2.out; omega) (by omega)); have HB15 : Hid (Below (w.heap.size + 1) w2 w15) := hB15; rw [HNu.out]; clear hF hb hB14 HX14 HJB2 hB15))
    go_loopw [7] (fun i wr => ∃ (k : Nat) (qv : Option Addr) (kv cv : Nat), k ≤ m ∧ i = .int .u64 (k : Nat) ∧ StP w.heap.size (w.heap.size + 1) E wr (.slice q12 l12 c12) (.slice qv kv cv) (rdP (some r0)) (nS k (p7 (some r0))) ∧ OwnS (E + 1) wr (.slice qv kv cv) (nL k (p7 (some r0))) ∧ IsBytes w.heap.size wr q12 l12 c12 (bdP (some r0)) ∧ Below (w.heap.size + 1) w2 wr) (fun i _ => m - (intOf i).toNat)
    case atStart => exact ⟨0, none, 0, 0, Nat.zero_le _, rfl, HX15.out, OwnS.nil _ _, HJ15.out, HB15.out⟩
    case round =>
      obtain ⟨k, qv, kv, cv, hk, rfl, hx, hov, hj, hbel⟩ := hrel
      have HX : Hid (StP w.heap.size (w.heap.size + 1) E wr (.slice q12 l12 c12) (.slice qv kv cv) (rdP (some r0)) (nS k (p7 (some r0)))) := hx
      have HOv : Hid (OwnS (E + 1) wr (.slice qv kv cv) (nL k (p7 (some r0)))) := hov
      have HJ : Hid (IsBytes w.heap.size wr q12 l12 c12 (bdP (some r0))) := hj
      have HBe : Hid (Below (w.heap.size + 1) w2 wr) := hbel
      have hEl := hx.row.lt
      clear hov hj hbel
      have HExit : Hid ((k = m ∨ nS k (p7 (some r0)) = none) → endE (nS k (p7 (some r0))) = endE (enP (some r0)) ∧ (endE (enP (some r0)) = 0 → nL k (p7 (some r0)) = nmP (some r0))) := fun h => by
        rcases h with rfl | h
        · exact ⟨by rw [HEn.out], fun _ => HNm.out.symm⟩
        · have h2 : nS m (p7 (some r0)) = none := by
            have := nS_stays h (m - k)
            rwa [show k + (m - k) = m by omega] at this
          exact ⟨by rw [HEn.out, h, h2], fun h3 => by rw [HEn.out, h2] at h3; cases h3⟩
      by_cases hlt : k < m
      · have hki : (k : Int) < (m : Int) := by omega
        cases hs : nS k (p7 (some r0)) with
        | none =>
          obtain ⟨hEE, hNN⟩ := HExit.out (.inr hs)
          have hrd := hx.rd
          rw [hs] at hrd
          have hcB := Row.cell (i := 1) hrd rfl
          have hne := endE_80 (st := nS k (p7 (some r0))) (by rw [hs]; simp [endE])
          have HE80 : Hid (endE (nS k (p7 (some r0))) = 80) := hne
          have HV : Hid (iq = false) := by show _ = _; rw [← HQ.out]; exact decide_eq_false (by rw [← hEE, hne]; omega)
          clear hx hs hrd hEE hNN hne
          have HRR : Hid (Row wr w.heap.size 44 (repC (.slice none 0 0) (.slice none 0 0) noRep)) := HR2.out.below HBe.out (Nat.lt_succ_self _)
          go_wp2_with (first
            | (go_at_call 37; refine (refEnd_any w.heap.size (w.heap.size + 1) _ wr HX.out.rd).mono ?_; rintro e wr' ⟨rfl, hw⟩; obtain rfl : wr = wr' := hw.symm; clear hw; rw [HE80.out])
            | ((with_reducible show wpList _ _ _ (Oper.mk (some 67) _ _ _ _ _ :: _) _ _); refine wpList_built_want (by rfl) 44 _ rfl _ _ (by simp only [List.map_toArray, List.map_nil]) HBz.out ?_; simp only [Act.put, List.setIfInBounds_toArray, List.set_cons_zero, List.set_cons_succ])
            | ((with_reducible show wpList _ _ _ (Oper.mk _ (Op.store 44 (.tmp 2) (.tmp 67)) _ _ _ _ :: _) _ _); refine wpList_store_Row rfl 44 (.tmp 2) (.tmp 67) rfl (repC (.slice none 0 0) (.slice none 0 0) noRep) rfl rfl HRR.out (size44' noRep_ok) rfl (repC_one rfl rfl _) ?_; simp only [Act.put]))
          refine bodyPost_ret (results_RowS_tmp rfl rfl (Row.sets_all (vs := (repC (.slice none 0 0) (.slice none 0 0) noRep)) HRR.out rfl) Try.underlying44 (size44' noRep_ok)) rfl ?_
          exact .inr ⟨HV.out, rfl, below_setCells (Nat.le_refl _) _ _ (HB2.out.trans (HBe.out.mono (Nat.le_succ _)))⟩
        | some zs =>
          have hrd := hx.rd
          rw [hs] at hrd
          obtain ⟨qr, lr, cr, hrr, _, _⟩ := hrd
          have hcB := hrr.cell (i := 1) rfl
          have hcN := hx.row.cell (repC_tail hx.ok 2)
          have hwk : IntKind.u64.wrap ((k : Int) + 1) = ((k + 1 : Nat) : Int) := by rw [IntKind.wrap_u64]; omega
          have HCn : Hid (wr.drew.cell? ⟨E, 37, none⟩ = some (.slice qv kv cv)) := hcN
          have HT : Hid (∀ W, W = wr.drew → Calls Try.prog 35 #[.pointer (some ⟨w.heap.size + 1, 0, none⟩), .int .i64 64] W fun e w' => ∃ q l c, e = .returned (.slice q l c) ∧ IsBytes w.heap.size w' q l c (readText 64 (nS k (p7 (some r0)))).1 ∧ RfAt w.heap.size w' (w.heap.size + 1) (readText 64 (nS k (p7 (some r0)))).2 ∧ But (w.heap.size + 1) W.heap.size W w') := fun W hW => by subst hW; exact refRText_any w.heap.size (w.heap.size + 1) (nS k (p7 (some r0))) 64 (by omega) _ (Nat.le_succ _) (hx.rd.later (by omega) (Below.refl _ _).drew)
          have HNa : Hid (strOf (readText 64 (nS k (p7 (some r0)))).1 = nA k (p7 (some r0))) := rfl
          have HNs : Hid ((readText 64 (nS k (p7 (some r0)))).2 = nS (k + 1) (p7 (some r0))) := rfl
          clear hx hs hrr hcN
          go_wp2
          refine wp_region_gate' 7 (fun W => W.cell? ⟨E, 37, none⟩ = some (.slice qv kv cv)) (by kernel_rfl) ?_
          have hHeld : wr.drew.cell? ⟨E, 37, none⟩ = some (.slice qv kv cv) := HCn.out
          have hX0 : StP w.heap.size (w.heap.size + 1) E wr.drew (.slice q12 l12 c12) (.slice qv kv cv) (rdP (some r0)) (nS k (p7 (some r0))) := HX.out.below hBE (Nat.le_succ _) (Below.refl _ _).drew
          have hO0 : OwnS (E + 1) wr.drew (.slice qv kv cv) (nL k (p7 (some r0))) := OwnS.later (Below.refl _ _).drew HOv.out
          have hJ0 : IsBytes w.heap.size wr.drew q12 l12 c12 (bdP (some r0)) := HJ.out.below (Below.refl _ _).drew
          have hB0 : Below (w.heap.size + 1) w2 wr.drew := HBe.out.drew
          have hT0 := HT.out wr.drew rfl
          have hE0 : E < wr.drew.heap.size := hEl
          clear HT HCn
          generalize wr.drew = x0 at *
          refine wpAnyG_takesAt 0 3 6 (of_decide_eq_true (by kernel_rfl)) rfl (fun _ _ _ d _ h => by cases d <;> exact h) (by kernel_rfl) (by kernel_rfl) (fun _ => hHeld) ?_
          simp only [List.drop_zero, List.take_succ_cons, List.take_zero]
          iterate 3 (refine wpHeldG_step (v := ?_) (by rfl) (by kernel_rfl) (fun wz hSw => ?_) ?_; rotate_left; (focus (have hc37 := hSw; go_simp; try with_reducible rfl)); (simp only [Act.put, List.setIfInBounds_toArray, List.set_cons_zero, List.set_cons_succ]))
          refine wpHeldG_nil ?_
          refine wpAnyG_only (i := 3) (by kernel_rfl) rfl (by rfl) (fun K hK => ?_)
          go_simp
          refine hT0.mono ?_
          clear hT0
          rintro e x1 ⟨qt, lt, ct, rfl, hIt, hF1, hu1⟩
          rw [HNs.out] at hF1
          have hX1 : StP w.heap.size (w.heap.size + 1) E x1 (.slice q12 l12 c12) (.slice qv kv cv) (rdP (some r0)) (nS (k + 1) (p7 (some r0))) := hX0.read hBE hF1 hu1
          have hO1 : OwnS (E + 1) x1 (.slice qv kv cv) (nL k (p7 (some r0))) := ownS_other hO0 (by omega) hu1
          have hJ1 : IsBytes w.heap.size x1 q12 l12 c12 (bdP (some r0)) := hJ0.below (hu1.below (by have := HS2.out; have := hB0.size; omega) (by omega))
          have hB1 : Below (w.heap.size + 1) w2 x1 := hB0.trans (hu1.below (by have := HS2.out; have := hB0.size; omega) (Nat.le_refl _))
          have hE1 : E < x1.heap.size := hX1.row.lt
          have hst := (str_of_bytes (hIt.mono (n₁ := x1.heap.size) (by omega))).here
          rw [HNa.out] at hst
          refine hK.out _ _ (fun _ => hX1.row.cell (repC_tail hX1.ok 2)) ?_
          clear hK K hX0 hO0 hJ0 hB0 hu1 hF1 hIt hHeld
          refine wpAnyG_only (i := 4) (by kernel_rfl) rfl (by rfl) (fun K hK => ?_)
          go_simp
          refine hK.out _ _ (fun _ => hX1.row.cell (repC_tail hX1.ok 2)) ?_
          clear hK K hst
          refine wpAnyG_only (i := 5) (by kernel_rfl) rfl (by rfl) (fun K hK => ?_)
          go_simp
          obtain ⟨x2, hx2⟩ : ∃ x2, x1.alloc (.cells #[.string (nA k (p7 (some r0)))] 9) = x2 := ⟨_, rfl⟩
          have hu2 : Below x1.heap.size x1 x2 := by rw [← hx2]; exact (Below.refl _ x1).alloc (Nat.le_refl _) _
          have hc2 : x2.cell? ⟨x1.heap.size, 0, none⟩ = some (.string (nA k (p7 (some r0)))) := by rw [← hx2]; exact (Row.new x1 9 #[.string (nA k (p7 (some r0)))]).cell (i := 0) rfl
          have hX2 : StP w.heap.size (w.heap.size + 1) E x2 (.slice q12 l12 c12) (.slice qv kv cv) (rdP (some r0)) (nS (k + 1) (p7 (some r0))) := hX1.below hBE (Nat.le_succ _) (hu2.mono hE1)
          have hO2 : OwnS (E + 1) x2 (.slice qv kv cv) (nL k (p7 (some r0))) := OwnS.later hu2 hO1
          have hJ2 : IsBytes w.heap.size x2 q12 l12 c12 (bdP (some r0)) := hJ1.below (hu2.mono (by omega))
          have hB2 : Below (w.heap.size + 1) w2 x2 := hB1.trans (hu2.mono (by omega))
          have hE2 : E < x2.heap.size := hX2.row.lt
          rw [hx2]
          refine hK.out _ _ (fun _ => hX2.row.cell (repC_tail hX2.ok 2)) ?_
          clear hK K hx2 hu2 hX1 hO1 hJ1 hB1
          obtain ⟨v3, x3, hrun, hO3, hg3, _⟩ := run_append_str x2 (E + 1) 42 (.slice qv kv cv) (nL k (p7 (some r0))) hO2 x1.heap.size (nA k (p7 (some r0))) hc2 (by rw [nL_length]; omega) (by omega)
          have hb3 : Below (E + 1) x2 x3 := below_ownS hO2 (by omega) hg3
          obtain ⟨q3, l3, c3', hv3⟩ : ∃ q l c, v3 = Value.slice q l c := by obtain ⟨q, c, e⟩ := OwnS.slice hO3; exact ⟨q, _, c, e⟩
          subst hv3
          have hX3 : StP w.heap.size (w.heap.size + 1) E x3 (.slice q12 l12 c12) (.slice qv kv cv) (rdP (some r0)) (nS (k + 1) (p7 (some r0))) := hX2.below hBE (Nat.le_succ _) hb3
          have hJ3 : IsBytes w.heap.size x3 q12 l12 c12 (bdP (some r0)) := hJ2.below (hb3.mono (by omega))
          have hB3 : Below (w.heap.size + 1) w2 x3 := hB2.trans (hb3.mono (by omega))
          refine wpAnyG_only (i := 6) (by kernel_rfl) rfl (by rfl) (fun K hK => ?_)
          refine wp_append_of (.tmp 57) (.tmp 61) 42 rfl rfl rfl hrun ?_
          refine hK.out _ _ (fun _ => hX3.row.cell (repC_tail hX3.ok 2)) ?_
          clear hK K hrun hg3 hb3 hX2 hO2 hJ2 hB2 hc2
          change wpAnyG _ _ _ _ _ _ _ _ (Act.put _ (some 62) _) _
          (simp only [Act.put]; (try simp only [List.setIfInBounds_toArray]); (try simp only [List.set_cons_succ]); (try simp only [List.set_cons_zero]))
          refine wpAnyG_only (i := 7) (by kernel_rfl) rfl (by rfl) (fun K hK => ?_)
          go_simp
          refine hK.out _ _ (gone (by kernel_rfl)) ?_
          clear hK K
          refine wpAnyG_only (i := 8) (by kernel_rfl) rfl (by rfl) (fun K hK => ?_)
          refine wp_putOne 42 (.tmp 63) (.tmp 62) rfl rfl (.slice q3 l3 c3') rfl rfl (by kernel_rfl) hX3.row (by rw [repC_length hX3.ok]; omega) (putP_names hX3.ok _) (fun x4 hr4 hb4 => ?_)
          have hX4 : StP w.heap.size (w.heap.size + 1) E x4 (.slice q12 l12 c12) (.slice q3 l3 c3') (rdP (some r0)) (nS (k + 1) (p7 (some r0))) := hX3.put hBE (Nat.le_succ _) hX3.ok hr4 hb4
          have hO4 : OwnS (E + 1) x4 (.slice q3 l3 c3') (nL (k + 1) (p7 (some r0))) := by rw [nL_succ]; exact ownS_other hO3 (Nat.lt_succ_self _) hb4
          have hJ4 : IsBytes w.heap.size x4 q12 l12 c12 (bdP (some r0)) := hJ3.below (hb4.below (by have := HS2.out; have := hB3.size; omega) (by omega))
          have hB4 : Below (w.heap.size + 1) w2 x4 := hB3.trans (hb4.below (by have := HS2.out; have := hB3.size; omega) (by omega))
          have HAll : Hid (StP w.heap.size (w.heap.size + 1) E x4 (.slice q12 l12 c12) (.slice q3 l3 c3') (rdP (some r0)) (nS (k + 1) (p7 (some r0))) ∧ OwnS (E + 1) x4 (.slice q3 l3 c3') (nL (k + 1) (p7 (some r0))) ∧ IsBytes w.heap.size x4 q12 l12 c12 (bdP (some r0)) ∧ Below (w.heap.size + 1) w2 x4) := ⟨hX4, hO4, hJ4, hB4⟩
          refine hK.out _ _ (gone (by kernel_rfl)) ?_
          clear hK K hX3 hO3 hJ3 hB3 hX4 hO4 hJ4 hB4 hr4 hb4
          change wpAnyG _ _ _ _ _ _ _ _ (Act.put _ none _) _
          simp only [Act.put]
          refine wpAnyG_done (by kernel_rfl) ?_ _
          go_wp2
          go_roundw
          case rel => exact ⟨k + 1, q3, l3, c3', by omega, by first | go_num | (rw [hwk]), HAll.out.1, HAll.out.2.1, HAll.out.2.2.1, HAll.out.2.2.2⟩
          case measure => simp [intOf]; omega
      · obtain rfl : k = m := by omega
        have hki : ¬ (k : Int) < (k : Int) := by omega
        obtain ⟨hEE, hNN⟩ := HExit.out (.inl rfl)
        by_cases hE : endE (enP (some r0)) = 0
        · have HE0 : Hid (endE (nS k (p7 (some r0))) = 0) := by show _ = _; rw [hEE, hE]
          have HV : Hid (iq = true) := by show _ = _; rw [← HQ.out]; exact decide_eq_true hE
          have HNN : Hid (nL k (p7 (some r0)) = nmP (some r0)) := hNN hE
          clear hx hEE hNN hE
          have HRR : Hid (Row wr w.heap.size 44 (repC (.slice none 0 0) (.slice none 0 0) noRep)) := HR2.out.below HBe.out (Nat.lt_succ_self _)
          go_wp2_with (first
            | (go_at_call 37; refine (refEnd_any w.heap.size (w.heap.size + 1) _ wr HX.out.rd).mono ?_; rintro e wr' ⟨rfl, hw⟩; obtain rfl : wr = wr' := hw.symm; clear hw; rw [HE0.out])
            | ((with_reducible show wpList _ _ _ (Oper.mk (some 68) (Op.load 44 (.tmp 5)) _ _ _ _ :: _) _ _); refine wpList_loadRep rfl (.tmp 5) rfl rfl HOk.out HX.out.row.range ?_; simp only [Act.put, List.setIfInBounds_toArray, List.set_cons_zero, List.set_cons_succ])
            | ((with_reducible show wpList _ _ _ (Oper.mk _ (Op.store 44 (.tmp 2) (.tmp 68)) _ _ _ _ :: _) _ _); refine wpList_store_Row rfl 44 (.tmp 2) (.tmp 68) rfl (repC (.slice q12 l12 c12) (.slice qv kv cv) (rdP (some r0))) rfl rfl HRR.out (size44' HOk.out) (by rw [repC_length HOk.out, repC_length noRep_ok]) (repC_one rfl rfl _) ?_; simp only [Act.put]))
          refine bodyPost_ret (results_RowS_tmp rfl rfl (Row.sets_all (vs := repC (.slice q12 l12 c12) (.slice qv kv cv) (rdP (some r0))) HRR.out (by rw [repC_length HOk.out, repC_length noRep_ok])) Try.underlying44 (size44' HOk.out)) rfl ?_
          have hbs : Below w.heap.size wr (wr.setCells w.heap.size 0 (repC (.slice q12 l12 c12) (.slice qv kv cv) (rdP (some r0)))) := below_setCells (Nat.le_refl _) _ _ (Below.refl _ _)
          have hbt : But w.heap.size wr.heap.size wr (wr.setCells w.heap.size 0 (repC (.slice q12 l12 c12) (.slice qv kv cv) (rdP (some r0)))) := But.sets _ _ _
          have hos := ownS_other HOv.out (by omega) hbt
          rw [HNN.out] at hos
          exact .inl ⟨HV.out, q12, l12, c12, qv, kv, cv, rfl, (HJ.out.below hbs).mono (by rw [size_setCells]; omega), OwnS.strs hos, HB2.out.trans ((HBe.out.mono (Nat.le_succ _)).trans hbs)⟩
        · have HE80 : Hid (endE (nS k (p7 (some r0))) = 80) := by show _ = _; rw [hEE]; exact endE_80 hE
          have HV : Hid (iq = false) := by show _ = _; rw [← HQ.out]; exact decide_eq_false hE
          clear hx hEE hNN hE
          have HRR : Hid (Row wr w.heap.size 44 (repC (.slice none 0 0) (.slice none 0 0) noRep)) := HR2.out.below HBe.out (Nat.lt_succ_self _)
          go_wp2_with (first
            | (go_at_call 37; refine (refEnd_any w.heap.size (w.heap.size + 1) _ wr HX.out.rd).mono ?_; rintro e wr' ⟨rfl, hw⟩; obtain rfl : wr = wr' := hw.symm; clear hw; rw [HE80.out])
            | ((with_reducible show wpList _ _ _ (Oper.mk (some 67) _ _ _ _ _ :: _) _ _); refine wpList_built_want (by rfl) 44 _ rfl _ _ (by simp only [List.map_toArray, List.map_nil]) HBz.out ?_; simp only [Act.put, List.setIfInBounds_toArray, List.set_cons_zero, List.set_cons_succ])
            | ((with_reducible show wpList _ _ _ (Oper.mk _ (Op.store 44 (.tmp 2) (.tmp 67)) _ _ _ _ :: _) _ _); refine wpList_store_Row rfl 44 (.tmp 2) (.tmp 67) rfl (repC (.slice none 0 0) (.slice none 0 0) noRep) rfl rfl HRR.out (size44' noRep_ok) rfl (repC_one rfl rfl _) ?_; simp only [Act.put]))
          refine bodyPost_ret (results_RowS_tmp rfl rfl (Row.sets_all (vs := (repC (.slice none 0 0) (.slice none 0 0) noRep)) HRR.out rfl) Try.underlying44 (size44' noRep_ok)) rfl ?_
          exact .inr ⟨HV.out, rfl, below_setCells (Nat.le_refl _) _ _ (HB2.out.trans (HBe.out.mono (Nat.le_succ _)))⟩
  · rw [if_neg hc1] at HW2
    go_enter Try.func19, Try.ntmps19
    go_wp2_with (first
      | (rw [HW2.out])
      | (go_at_call 34; refine h34a.mono ?_; clear h34a; rintro e w3 ⟨rfl, hF3, hb3⟩; have HF3 : Hid (RfAt w.heap.size w3 (w.heap.size + 1) (p1 (some r0))) := hF3; have hB3 : Below (w.heap.size + 1) w2 w3 := hb3.below (by have := HS2.out; omega) (Nat.le_refl _); have hs3 := hb3.size; clear hF3 hb3)
      | ((with_reducible show wpList _ _ _ (Oper.mk (some 25) _ _ _ _ _ :: _) _ _); refine wpList_built_want (by rfl) 44 _ rfl _ _ (by simp only [List.map_toArray, List.map_cons, List.map_nil]; rfl) HBc.out ?_; simp only [Act.put, List.setIfInBounds_toArray, List.set_cons_zero, List.set_cons_succ])
      | ((with_reducible show wpList _ _ _ (Oper.mk _ (Op.store 44 (.tmp 5) (.tmp 25)) _ _ _ _ :: _) _ _); refine wpList_storeRep rfl (.tmp 5) (.tmp 25) rfl (.slice none 0 0) (.slice none 0 0) rfl rfl (⟨(readN 4294967295 (some r0)).1, 0, 0, zeros32, 0⟩ : Rep) (mkP_ok (by have := readN_le 4294967295 (some r0); omega) (by omega) (by omega) isId_zeros (by omega)) rfl rfl (fun w4 hb4 hE4 => ?_); obtain ⟨E, hEe⟩ : ∃ E, w3.heap.size = E := ⟨_, rfl⟩; rw [hEe] at hE4 ⊢; have hBE : (w.heap.size + 1) < E := (by have := HS2.out; omega); have HX4 : Hid (StP w.heap.size (w.heap.size + 1) E w4 (.slice none 0 0) (.slice none 0 0) (⟨(readN 4294967295 (some r0)).1, 0, 0, zeros32, 0⟩ : Rep) (p1 (some r0))) := ⟨hE4.ok, hE4.row, HF3.out.later (by have := HS2.out; omega) hb4⟩; have hB4 : Below (w.heap.size + 1) w2 w4 := hB3.trans (hb4.mono (by have := HS2.out; omega)); have h34b := refRN_any w.heap.size (w.heap.size + 1) 18446744073709551615 (Nat.le_succ _) (p1 (some r0)) w4 HX4.out.rd; clear hE4 hb4 hB3 hEe HF3; simp only [Act.put])
      | (go_at_call 34; refine h34b.mono ?_; clear h34b; rintro e w5 ⟨rfl, hF, hb⟩; have HX5 : Hid (StP w.heap.size (w.heap.size + 1) E w5 (.slice none 0 0) (.slice none 0 0) (⟨(readN 4294967295 (some r0)).1, 0, 0, zeros32, 0⟩ : Rep) (p2 (some r0))) := HX4.out.read hBE hF hb; have hB5 : Below (w.heap.size + 1) w2 w5 := hB4.trans (hb.below (by have := hB4.size; have := HS2.out; omega) (Nat.le_refl _)); clear hF hb hB4 HX4)
      | ((with_reducible show wpList _ _ _ (Oper.mk _ (Op.store 23 (.tmp 28) (.tmp 27)) _ _ _ _ :: _) _ _); refine wpList_putOne rfl 23 (.tmp 28) (.tmp 27) rfl rfl (.int .u64 (((readN 18446744073709551615 (p1 (some r0))).1 : Nat) : Int)) rfl rfl (by kernel_rfl) HX5.out.row (by rw [repC_length HX5.out.ok]; omega) (putP_seq _ _ _ _) (fun w6 hr2 hb2 => ?_); have HX6 : Hid (StP w.heap.size (w.heap.size + 1) E w6 (.slice none 0 0) (.slice none 0 0) (⟨(readN 4294967295 (some r0)).1, (readN 18446744073709551615 (p1 (some r0))).1, 0, zeros32, 0⟩ : Rep) (p2 (some r0))) := HX5.out.put hBE (Nat.le_succ _) (mkP_ok (by have := readN_le 4294967295 (some r0); omega) (by have := readN_le 18446744073709551615 (p1 (some r0)); omega) (by omega) isId_zeros (by omega)) hr2 hb2; have hB6 : Below (w.heap.size + 1) w2 w6 := hB5.trans (hb2.below (by have := hB5.size; have := HS2.out; omega) (Nat.le_of_lt hBE)); have h34c := refRN_any w.heap.size (w.heap.size + 1) 1000 (Nat.le_succ _) (p2 (some r0)) w6 HX6.out.rd; clear hr2 hb2 hB5 HX5; simp only [Act.put])
      | (go_at_call 34; refine h34c.mono ?_; clear h34c; rintro e w7 ⟨rfl, hF, hb⟩; have HX7 : Hid (StP w.heap.size (w.heap.size + 1) E w7 (.slice none 0 0) (.slice none 0 0) (⟨(readN 4294967295 (some r0)).1, (readN 18446744073709551615 (p1 (some r0))).1, 0, zeros32, 0⟩ : Rep) (p3 (some r0))) := HX6.out.read hBE hF hb; have hB7 : Below (w.heap.size + 1) w2 w7 := hB6.trans (hb.below (by have := hB6.size; have := HS2.out; omega) (Nat.le_refl _)); clear hF hb hB6 HX6)
      | ((with_reducible show wpList _ _ _ (Oper.mk _ (Op.store 31 (.tmp 32) (.tmp 31)) _ _ _ _ :: _) _ _); refine wpList_putOne rfl 31 (.tmp 32) (.tmp 31) rfl rfl (.int .i64 ((readN 1000 (p2 (some r0))).1 : Nat)) rfl rfl (by kernel_rfl) HX7.out.row (by rw [repC_length HX7.out.ok]; omega) (putP_err _ _ _ _) (fun w8 hr2 hb2 => ?_); have HX8 : Hid (StP w.heap.size (w.heap.size + 1) E w8 (.slice none 0 0) (.slice none 0 0) (⟨(readN 4294967295 (some r0)).1, (readN 18446744073709551615 (p1 (some r0))).1, ((readN 1000 (p2 (some r0))).1 : Nat), zeros32, 0⟩ : Rep) (p3 (some r0))) := HX7.out.put hBE (Nat.le_succ _) (mkP_ok (by have := readN_le 4294967295 (some r0); omega) (by have := readN_le 18446744073709551615 (p1 (some r0)); omega) (by have := readN_le 1000 (p2 (some r0)); omega) isId_zeros (by omega)) hr2 hb2; have hB8 : Below (w.heap.size + 1) w2 w8 := hB7.trans (hb2.below (by have := hB7.size; have := HS2.out; omega) (Nat.le_of_lt hBE)); have h36d := refId_any w.heap.size (w.heap.size + 1) (p3 (some r0)) w8 (Nat.le_succ _) HX8.out.rd; clear hr2 hb2 hB7 HX7; simp only [Act.put])
      | (go_at_call 36; refine h36d.mono ?_; clear h36d; rintro e w9 ⟨rfl, hF, hb⟩; have HX9 : Hid (StP w.heap.size (w.heap.size + 1) E w9 (.slice none 0 0) (.slice none 0 0) (⟨(readN 4294967295 (some r0)).1, (readN 18446744073709551615 (p1 (some r0))).1, ((readN 1000 (p2 (some r0))).1 : Nat), zeros32, 0⟩ : Rep) (p4 (some r0))) := HX8.out.read hBE hF hb; have hB9 : Below (w.heap.size + 1) w2 w9 := hB8.trans (hb.below (by have := hB8.size; have := HS2.out; omega) (Nat.le_refl _)); clear hF hb hB8 HX8)
      | ((with_reducible show wpList _ _ _ (Oper.mk _ (Op.store 25 (.tmp 35) (.tmp 34)) _ _ _ _ :: _) _ _); refine wpList_putArr rfl 25 (.tmp 35) (.tmp 34) rfl rfl (u8s (idR (p3 (some r0)))) rfl (u8s_one _) (size25' (idR_ok Hz.out.p3)) HX9.out.row (by rw [u8s_length, (idR_ok Hz.out.p3).1, repC_length HX9.out.ok]; omega) (putP_id HX9.out.ok (idR_ok Hz.out.p3)) (fun w10 hr2 hb2 => ?_); have HX10 : Hid (StP w.heap.size (w.heap.size + 1) E w10 (.slice none 0 0) (.slice none 0 0) (⟨(readN 4294967295 (some r0)).1, (readN 18446744073709551615 (p1 (some r0))).1, ((readN 1000 (p2 (some r0))).1 : Nat), idR (p3 (some r0)), 0⟩ : Rep) (p4 (some r0))) := HX9.out.put hBE (Nat.le_succ _) (mkP_ok (by have := readN_le 4294967295 (some r0); omega) (by have := readN_le 18446744073709551615 (p1 (some r0)); omega) (by have := readN_le 1000 (p2 (some r0)); omega) (idR_ok Hz.out.p3) (by omega)) hr2 hb2; have hB10 : Below (w.heap.size + 1) w2 w10 := hB9.trans (hb2.below (by have := hB9.size; have := HS2.out; omega) (Nat.le_of_lt hBE)); have h34e := refRN_any w.heap.size (w.heap.size + 1) 18446744073709551615 (Nat.le_succ _) (p4 (some r0)) w10 HX10.out.rd; clear hr2 hb2 hB9 HX9; simp only [Act.put])
      | (go_at_call 34; refine h34e.mono ?_; clear h34e; rintro e w11 ⟨rfl, hF, hb⟩; have HX11 : Hid (StP w.heap.size (w.heap.size + 1) E w11 (.slice none 0 0) (.slice none 0 0) (⟨(readN 4294967295 (some r0)).1, (readN 18446744073709551615 (p1 (some r0))).1, ((readN 1000 (p2 (some r0))).1 : Nat), idR (p3 (some r0)), 0⟩ : Rep) (p5 (some r0))) := HX10.out.read hBE hF hb; have hB11 : Below (w.heap.size + 1) w2 w11 := hB10.trans (hb.below (by have := hB10.size; have := HS2.out; omega) (Nat.le_refl _)); clear hF hb hB10 HX10)
      | ((with_reducible show wpList _ _ _ (Oper.mk _ (Op.store 23 (.tmp 38) (.tmp 37)) _ _ _ _ :: _) _ _); refine wpList_putOne rfl 23 (.tmp 38) (.tmp 37) rfl rfl (.int .u64 (((readN 18446744073709551615 (p4 (some r0))).1 : Nat) : Int)) rfl rfl (by kernel_rfl) HX11.out.row (by rw [repC_length HX11.out.ok]; omega) (putP_n HX11.out.ok _) (fun w12 hr2 hb2 => ?_); have HX12 : Hid (StP w.heap.size (w.heap.size + 1) E w12 (.slice none 0 0) (.slice none 0 0) (⟨(readN 4294967295 (some r0)).1, (readN 18446744073709551615 (p1 (some r0))).1, ((readN 1000 (p2 (some r0))).1 : Nat), idR (p3 (some r0)), (readN 18446744073709551615 (p4 (some r0))).1⟩ : Rep) (p5 (some r0))) := HX11.out.put hBE (Nat.le_succ _) (mkP_ok (by have := readN_le 4294967295 (some r0); omega) (by have := readN_le 18446744073709551615 (p1 (some r0)); omega) (by have := readN_le 1000 (p2 (some r0)); omega) (idR_ok Hz.out.p3) (by have := readN_le 18446744073709551615 (p4 (some r0)); omega)) hr2 hb2; have hB12 : Below (w.heap.size + 1) w2 w12 := hB11.trans (hb2.below (by have := hB11.size; have := HS2.out; omega) (Nat.le_of_lt hBE)); have h35f := refRText_any w.heap.size (w.heap.size + 1) (p5 (some r0)) 110000 (by omega) w12 (Nat.le_succ _) HX12.out.rd; clear hr2 hb2 hB11 HX11; simp only [Act.put])
      | (go_at_call 35; refine h35f.mono ?_; clear h35f; rintro e w13 ⟨q12, l12, c12, rfl, hJ12, hF, hb⟩; have HJB : Hid (IsBytes w.heap.size w13 q12 l12 c12 (bdP (some r0))) := hJ12; clear hJ12; have HX13 : Hid (StP w.heap.size (w.heap.size + 1) E w13 (.slice none 0 0) (.slice none 0 0) (⟨(readN 4294967295 (some r0)).1, (readN 18446744073709551615 (p1 (some r0))).1, ((readN 1000 (p2 (some r0))).1 : Nat), idR (p3 (some r0)), (readN 18446744073709551615 (p4 (some r0))).1⟩ : Rep) (p6 (some r0))) := HX12.out.read hBE hF hb; have hB13 : Below (w.heap.size + 1) w2 w13 := hB12.trans (hb.below (by have := hB12.size; have := HS2.out; omega) (Nat.le_refl _)); clear hF hb hB12 HX12)
      | ((with_reducible show wpList _ _ _ (Oper.mk _ (Op.store 26 (.tmp 41) (.tmp 40)) _ _ _ _ :: _) _ _); refine wpList_putOne rfl 26 (.tmp 41) (.tmp 40) rfl rfl (.slice q12 l12 c12) rfl rfl (by kernel_rfl) HX13.out.row (by rw [repC_length HX13.out.ok]; omega) (putP_body HX13.out.ok _) (fun w14 hr2 hb2 => ?_); have HX14 : Hid (StP w.heap.size (w.heap.size + 1) E w14 (.slice q12 l12 c12) (.slice none 0 0) (⟨(readN 4294967295 (some r0)).1, (readN 18446744073709551615 (p1 (some r0))).1, ((readN 1000 (p2 (some r0))).1 : Nat), idR (p3 (some r0)), (readN 18446744073709551615 (p4 (some r0))).1⟩ : Rep) (p6 (some r0))) := HX13.out.put hBE (Nat.le_succ _) (mkP_ok (by have := readN_le 4294967295 (some r0); omega) (by have := readN_le 18446744073709551615 (p1 (some r0)); omega) (by have := readN_le 1000 (p2 (some r0)); omega) (idR_ok Hz.out.p3) (by have := readN_le 18446744073709551615 (p4 (some r0)); omega)) hr2 hb2; have hB14 : Below (w.heap.size + 1) w2 w14 := hB13.trans (hb2.below (by have := hB13.size; have := HS2.out; omega) (Nat.le_of_lt hBE)); have HJB2 : Hid (IsBytes w.heap.size w14 q12 l12 c12 (bdP (some r0))) := HJB.out.below (hb2.below (by have := hB13.size; have := HS2.out; omega) (by omega)); have h34g := refRN_any w.heap.size (w.heap.size + 1) 1000 (Nat.le_succ _) (p6 (some r0)) w14 HX14.out.rd; clear hr2 hb2 hB13 HX13 HJB; simp only [Act.put])
      | (go_at_call 34; refine h34g.mono ?_; clear h34g; rintro e w15 ⟨rfl, hF, hb⟩; have HX15 : Hid (StP w.heap.size (w.heap.size + 1) E w15 (.slice q12 l12 c12) (.slice none 0 0) (rdP (some r0)) (p7 (some r0))) := HX14.out.read hBE hF hb; have hB15 : Below (w.heap.size + 1) w2 w15 := hB14.trans (hb.below (by have := hB14.size; have := HS2.out; omega) (Nat.le_refl _)); have HJ15 : Hid (IsBytes w.heap.size w15 q12 l12 c12 (bdP (some r0))) := HJB2.out.below (hb.below (by have := hB14.size; have := HS2.out; omega) (by omega)); have HB15 : Hid (Below (w.heap.size + 1) w2 w15) := hB15; rw [HNu.out]; clear hF hb hB14 HX14 HJB2 hB15))
    go_loopw [7] (fun i wr => ∃ (k : Nat) (qv : Option Addr) (kv cv : Nat), k ≤ m ∧ i = .int .u64 (k : Nat) ∧ StP w.heap.size (w.heap.size + 1) E wr (.slice q12 l12 c12) (.slice qv kv cv) (rdP (some r0)) (nS k (p7 (some r0))) ∧ OwnS (E + 1) wr (.slice qv kv cv) (nL k (p7 (some r0))) ∧ IsBytes w.heap.size wr q12 l12 c12 (bdP (some r0)) ∧ Below (w.heap.size + 1) w2 wr) (fun i _ => m - (intOf i).toNat)
    case atStart => exact ⟨0, none, 0, 0, Nat.zero_le _, rfl, HX15.out, OwnS.nil _ _, HJ15.out, HB15.out⟩
    case round =>
      obtain ⟨k, qv, kv, cv, hk, rfl, hx, hov, hj, hbel⟩ := hrel
      have HX : Hid (StP w.heap.size (w.heap.size + 1) E wr (.slice q12 l12 c12) (.slice qv kv cv) (rdP (some r0)) (nS k (p7 (some r0)))) := hx
      have HOv : Hid (OwnS (E + 1) wr (.slice qv kv cv) (nL k (p7 (some r0)))) := hov
      have HJ : Hid (IsBytes w.heap.size wr q12 l12 c12 (bdP (some r0))) := hj
      have HBe : Hid (Below (w.heap.size + 1) w2 wr) := hbel
      have hEl := hx.row.lt
      clear hov hj hbel
      have HExit : Hid ((k = m ∨ nS k (p7 (some r0)) = none) → endE (nS k (p7 (some r0))) = endE (enP (some r0)) ∧ (endE (enP (some r0)) = 0 → nL k (p7 (some r0)) = nmP (some r0))) := fun h => by
        rcases h with rfl | h
        · exact ⟨by rw [HEn.out], fun _ => HNm.out.symm⟩
        · have h2 : nS m (p7 (some r0)) = none := by
            have := nS_stays h (m - k)
            rwa [show k + (m - k) = m by omega] at this
          exact ⟨by rw [HEn.out, h, h2], fun h3 => by rw [HEn.out, h2] at h3; cases h3⟩
      by_cases hlt : k < m
      · have hki : (k : Int) < (m : Int) := by omega
        cases hs : nS k (p7 (some r0)) with
        | none =>
          obtain ⟨hEE, hNN⟩ := HExit.out (.inr hs)
          have hrd := hx.rd
          rw [hs] at hrd
          have hcB := Row.cell (i := 1) hrd rfl
          have hne := endE_80 (st := nS k (p7 (some r0))) (by rw [hs]; simp [endE])
          have HE80 : Hid (endE (nS k (p7 (some r0))) = 80) := hne
          have HV : Hid (iq = false) := by show _ = _; rw [← HQ.out]; exact decide_eq_false (by rw [← hEE, hne]; omega)
          clear hx hs hrd hEE hNN hne
          have HRR : Hid (Row wr w.heap.size 44 (repC (.slice none 0 0) (.slice none 0 0) noRep)) := HR2.out.below HBe.out (Nat.lt_succ_self _)
          go_wp2_with (first
            | (go_at_call 37; refine (refEnd_any w.heap.size (w.heap.size + 1) _ wr HX.out.rd).mono ?_; rintro e wr' ⟨rfl, hw⟩; obtain rfl : wr = wr' := hw.symm; clear hw; rw [HE80.out])
            | ((with_reducible show wpList _ _ _ (Oper.mk (some 67) _ _ _ _ _ :: _) _ _); refine wpList_built_want (by rfl) 44 _ rfl _ _ (by simp only [List.map_toArray, List.map_nil]) HBz.out ?_; simp only [Act.put, List.setIfInBounds_toArray, List.set_cons_zero, List.set_cons_succ])
            | ((with_reducible show wpList _ _ _ (Oper.mk _ (Op.store 44 (.tmp 2) (.tmp 67)) _ _ _ _ :: _) _ _); refine wpList_store_Row rfl 44 (.tmp 2) (.tmp 67) rfl (repC (.slice none 0 0) (.slice none 0 0) noRep) rfl rfl HRR.out (size44' noRep_ok) rfl (repC_one rfl rfl _) ?_; simp only [Act.put]))
          refine bodyPost_ret (results_RowS_tmp rfl rfl (Row.sets_all (vs := (repC (.slice none 0 0) (.slice none 0 0) noRep)) HRR.out rfl) Try.underlying44 (size44' noRep_ok)) rfl ?_
          exact .inr ⟨HV.out, rfl, below_setCells (Nat.le_refl _) _ _ (HB2.out.trans (HBe.out.mono (Nat.le_succ _)))⟩
        | some zs =>
          have hrd := hx.rd
          rw [hs] at hrd
          obtain ⟨qr, lr, cr, hrr, _, _⟩ := hrd
          have hcB := hrr.cell (i := 1) rfl
          have hcN := hx.row.cell (repC_tail hx.ok 2)
          have hwk : IntKind.u64.wrap ((k : Int) + 1) = ((k + 1 : Nat) : Int) := by rw [IntKind.wrap_u64]; omega
          have HCn : Hid (wr.drew.cell? ⟨E, 37, none⟩ = some (.slice qv kv cv)) := hcN
          have HT : Hid (∀ W, W = wr.drew → Calls Try.prog 35 #[.pointer (some ⟨w.heap.size + 1, 0, none⟩), .int .i64 64] W fun e w' => ∃ q l c, e = .returned (.slice q l c) ∧ IsBytes w.heap.size w' q l c (readText 64 (nS k (p7 (some r0)))).1 ∧ RfAt w.heap.size w' (w.heap.size + 1) (readText 64 (nS k (p7 (some r0)))).2 ∧ But (w.heap.size + 1) W.heap.size W w') := fun W hW => by subst hW; exact refRText_any w.heap.size (w.heap.size + 1) (nS k (p7 (some r0))) 64 (by omega) _ (Nat.le_succ _) (hx.rd.later (by omega) (Below.refl _ _).drew)
          have HNa : Hid (strOf (readText 64 (nS k (p7 (some r0)))).1 = nA k (p7 (some r0))) := rfl
          have HNs : Hid ((readText 64 (nS k (p7 (some r0)))).2 = nS (k + 1) (p7 (some r0))) := rfl
          clear hx hs hrr hcN
          go_wp2
          refine wp_region_gate' 7 (fun W => W.cell? ⟨E, 37, none⟩ = some (.slice qv kv cv)) (by kernel_rfl) ?_
          have hHeld : wr.drew.cell? ⟨E, 37, none⟩ = some (.slice qv kv cv) := HCn.out
          have hX0 : StP w.heap.size (w.heap.size + 1) E wr.drew (.slice q12 l12 c12) (.slice qv kv cv) (rdP (some r0)) (nS k (p7 (some r0))) := HX.out.below hBE (Nat.le_succ _) (Below.refl _ _).drew
          have hO0 : OwnS (E + 1) wr.drew (.slice qv kv cv) (nL k (p7 (some r0))) := OwnS.later (Below.refl _ _).drew HOv.out
          have hJ0 : IsBytes w.heap.size wr.drew q12 l12 c12 (bdP (some r0)) := HJ.out.below (Below.refl _ _).drew
          have hB0 : Below (w.heap.size + 1) w2 wr.drew := HBe.out.drew
          have hT0 := HT.out wr.drew rfl
          have hE0 : E < wr.drew.heap.size := hEl
          clear HT HCn
          generalize wr.drew = x0 at *
          refine wpAnyG_takesAt 0 3 6 (of_decide_eq_true (by kernel_rfl)) rfl (fun _ _ _ d _ h => by cases d <;> exact h) (by kernel_rfl) (by kernel_rfl) (fun _ => hHeld) ?_
          simp only [List.drop_zero, List.take_succ_cons, List.take_zero]
          iterate 3 (refine wpHeldG_step (v := ?_) (by rfl) (by kernel_rfl) (fun wz hSw => ?_) ?_; rotate_left; (focus (have hc37 := hSw; go_simp; try with_reducible rfl)); (simp only [Act.put, List.setIfInBounds_toArray, List.set_cons_zero, List.set_cons_succ]))
          refine wpHeldG_nil ?_
          refine wpAnyG_only (i := 3) (by kernel_rfl) rfl (by rfl) (fun K hK => ?_)
          go_simp
          refine hT0.mono ?_
          clear hT0
          rintro e x1 ⟨qt, lt, ct, rfl, hIt, hF1, hu1⟩
          rw [HNs.out] at hF1
          have hX1 : StP w.heap.size (w.heap.size + 1) E x1 (.slice q12 l12 c12) (.slice qv kv cv) (rdP (some r0)) (nS (k + 1) (p7 (some r0))) := hX0.read hBE hF1 hu1
          have hO1 : OwnS (E + 1) x1 (.slice qv kv cv) (nL k (p7 (some r0))) := ownS_other hO0 (by omega) hu1
          have hJ1 : IsBytes w.heap.size x1 q12 l12 c12 (bdP (some r0)) := hJ0.below (hu1.below (by have := HS2.out; have := hB0.size; omega) (by omega))
          have hB1 : Below (w.heap.size + 1) w2 x1 := hB0.trans (hu1.below (by have := HS2.out; have := hB0.size; omega) (Nat.le_refl _))
          have hE1 : E < x1.heap.size := hX1.row.lt
          have hst := (str_of_bytes (hIt.mono (n₁ := x1.heap.size) (by omega))).here
          rw [HNa.out] at hst
          refine hK.out _ _ (fun _ => hX1.row.cell (repC_tail hX1.ok 2)) ?_
          clear hK K hX0 hO0 hJ0 hB0 hu1 hF1 hIt hHeld
          refine wpAnyG_only (i := 4) (by kernel_rfl) rfl (by rfl) (fun K hK => ?_)
          go_simp
          refine hK.out _ _ (fun _ => hX1.row.cell (repC_tail hX1.ok 2)) ?_
          clear hK K hst
          refine wpAnyG_only (i := 5) (by kernel_rfl) rfl (by rfl) (fun K hK => ?_)
          go_simp
          obtain ⟨x2, hx2⟩ : ∃ x2, x1.alloc (.cells #[.string (nA k (p7 (some r0)))] 9) = x2 := ⟨_, rfl⟩
          have hu2 : Below x1.heap.size x1 x2 := by rw [← hx2]; exact (Below.refl _ x1).alloc (Nat.le_refl _) _
          have hc2 : x2.cell? ⟨x1.heap.size, 0, none⟩ = some (.string (nA k (p7 (some r0)))) := by rw [← hx2]; exact (Row.new x1 9 #[.string (nA k (p7 (some r0)))]).cell (i := 0) rfl
          have hX2 : StP w.heap.size (w.heap.size + 1) E x2 (.slice q12 l12 c12) (.slice qv kv cv) (rdP (some r0)) (nS (k + 1) (p7 (some r0))) := hX1.below hBE (Nat.le_succ _) (hu2.mono hE1)
          have hO2 : OwnS (E + 1) x2 (.slice qv kv cv) (nL k (p7 (some r0))) := OwnS.later hu2 hO1
          have hJ2 : IsBytes w.heap.size x2 q12 l12 c12 (bdP (some r0)) := hJ1.below (hu2.mono (by omega))
          have hB2 : Below (w.heap.size + 1) w2 x2 := hB1.trans (hu2.mono (by omega))
          have hE2 : E < x2.heap.size := hX2.row.lt
          rw [hx2]
          refine hK.out _ _ (fun _ => hX2.row.cell (repC_tail hX2.ok 2)) ?_
          clear hK K hx2 hu2 hX1 hO1 hJ1 hB1
          obtain ⟨v3, x3, hrun, hO3, hg3, _⟩ := run_append_str x2 (E + 1) 42 (.slice qv kv cv) (nL k (p7 (some r0))) hO2 x1.heap.size (nA k (p7 (some r0))) hc2 (by rw [nL_length]; omega) (by omega)
          have hb3 : Below (E + 1) x2 x3 := below_ownS hO2 (by omega) hg3
          obtain ⟨q3, l3, c3', hv3⟩ : ∃ q l c, v3 = Value.slice q l c := by obtain ⟨q, c, e⟩ := OwnS.slice hO3; exact ⟨q, _, c, e⟩
          subst hv3
          have hX3 : StP w.heap.size (w.heap.size + 1) E x3 (.slice q12 l12 c12) (.slice qv kv cv) (rdP (some r0)) (nS (k + 1) (p7 (some r0))) := hX2.below hBE (Nat.le_succ _) hb3
          have hJ3 : IsBytes w.heap.size x3 q12 l12 c12 (bdP (some r0)) := hJ2.below (hb3.mono (by omega))
          have hB3 : Below (w.heap.size + 1) w2 x3 := hB2.trans (hb3.mono (by omega))
          refine wpAnyG_only (i := 6) (by kernel_rfl) rfl (by rfl) (fun K hK => ?_)
          refine wp_append_of (.tmp 57) (.tmp 61) 42 rfl rfl rfl hrun ?_
          refine hK.out _ _ (fun _ => hX3.row.cell (repC_tail hX3.ok 2)) ?_
          clear hK K hrun hg3 hb3 hX2 hO2 hJ2 hB2 hc2
          change wpAnyG _ _ _ _ _ _ _ _ (Act.put _ (some 62) _) _
          (simp only [Act.put]; (try simp only [List.setIfInBounds_toArray]); (try simp only [List.set_cons_succ]); (try simp only [List.set_cons_zero]))
          refine wpAnyG_only (i := 7) (by kernel_rfl) rfl (by rfl) (fun K hK => ?_)
          go_simp
          refine hK.out _ _ (gone (by kernel_rfl)) ?_
          clear hK K
          refine wpAnyG_only (i := 8) (by kernel_rfl) rfl (by rfl) (fun K hK => ?_)
          refine wp_putOne 42 (.tmp 63) (.tmp 62) rfl rfl (.slice q3 l3 c3') rfl rfl (by kernel_rfl) hX3.row (by rw [repC_length hX3.ok]; omega) (putP_names hX3.ok _) (fun x4 hr4 hb4 => ?_)
          have hX4 : StP w.heap.size (w.heap.size + 1) E x4 (.slice q12 l12 c12) (.slice q3 l3 c3') (rdP (some r0)) (nS (k + 1) (p7 (some r0))) := hX3.put hBE (Nat.le_succ _) hX3.ok hr4 hb4
          have hO4 : OwnS (E + 1) x4 (.slice q3 l3 c3') (nL (k + 1) (p7 (some r0))) := by rw [nL_succ]; exact ownS_other hO3 (Nat.lt_succ_self _) hb4
          have hJ4 : IsBytes w.heap.size x4 q12 l12 c12 (bdP (some r0)) := hJ3.below (hb4.below (by have := HS2.out; have := hB3.size; omega) (by omega))
          have hB4 : Below (w.heap.size + 1) w2 x4 := hB3.trans (hb4.below (by have := HS2.out; have := hB3.size; omega) (by omega))
          have HAll : Hid (StP w.heap.size (w.heap.size + 1) E x4 (.slice q12 l12 c12) (.slice q3 l3 c3') (rdP (some r0)) (nS (k + 1) (p7 (some r0))) ∧ OwnS (E + 1) x4 (.slice q3 l3 c3') (nL (k + 1) (p7 (some r0))) ∧ IsBytes w.heap.size x4 q12 l12 c12 (bdP (some r0)) ∧ Below (w.heap.size + 1) w2 x4) := ⟨hX4, hO4, hJ4, hB4⟩
          refine hK.out _ _ (gone (by kernel_rfl)) ?_
          clear hK K hX3 hO3 hJ3 hB3 hX4 hO4 hJ4 hB4 hr4 hb4
          change wpAnyG _ _ _ _ _ _ _ _ (Act.put _ none _) _
          simp only [Act.put]
          refine wpAnyG_done (by kernel_rfl) ?_ _
          go_wp2
          go_roundw
          case rel => exact ⟨k + 1, q3, l3, c3', by omega, by first | go_num | (rw [hwk]), HAll.out.1, HAll.out.2.1, HAll.out.2.2.1, HAll.out.2.2.2⟩
          case measure => simp [intOf]; omega
      · obtain rfl : k = m := by omega
        have hki : ¬ (k : Int) < (k : Int) := by omega
        obtain ⟨hEE, hNN⟩ := HExit.out (.inl rfl)
        by_cases hE : endE (enP (some r0)) = 0
        · have HE0 : Hid (endE (nS k (p7 (some r0))) = 0) := by show _ = _; rw [hEE, hE]
          have HV : Hid (iq = true) := by show _ = _; rw [← HQ.out]; exact decide_eq_true hE
          have HNN : Hid (nL k (p7 (some r0)) = nmP (some r0)) := hNN hE
          clear hx hEE hNN hE
          have HRR : Hid (Row wr w.heap.size 44 (repC (.slice none 0 0) (.slice none 0 0) noRep)) := HR2.out.below HBe.out (Nat.lt_succ_self _)
          go_wp2_with (first
            | (go_at_call 37; refine (refEnd_any w.heap.size (w.heap.size + 1) _ wr HX.out.rd).mono ?_; rintro e wr' ⟨rfl, hw⟩; obtain rfl : wr = wr' := hw.symm; clear hw; rw [HE0.out])
            | ((with_reducible show wpList _ _ _ (Oper.mk (some 68) (Op.load 44 (.tmp 5)) _ _ _ _ :: _) _ _); refine wpList_loadRep rfl (.tmp 5) rfl rfl HOk.out HX.out.row.range ?_; simp only [Act.put, List.setIfInBounds_toArray, List.set_cons_zero, List.set_cons_succ])
            | ((with_reducible show wpList _ _ _ (Oper.mk _ (Op.store 44 (.tmp 2) (.tmp 68)) _ _ _ _ :: _) _ _); refine wpList_store_Row rfl 44 (.tmp 2) (.tmp 68) rfl (repC (.slice q12 l12 c12) (.slice qv kv cv) (rdP (some r0))) rfl rfl HRR.out (size44' HOk.out) (by rw [repC_length HOk.out, repC_length noRep_ok]) (repC_one rfl rfl _) ?_; simp only [Act.put]))
          refine bodyPost_ret (results_RowS_tmp rfl rfl (Row.sets_all (vs := repC (.slice q12 l12 c12) (.slice qv kv cv) (rdP (some r0))) HRR.out (by rw [repC_length HOk.out, repC_length noRep_ok])) Try.underlying44 (size44' HOk.out)) rfl ?_
          have hbs : Below w.heap.size wr (wr.setCells w.heap.size 0 (repC (.slice q12 l12 c12) (.slice qv kv cv) (rdP (some r0)))) := below_setCells (Nat.le_refl _) _ _ (Below.refl _ _)
          have hbt : But w.heap.size wr.heap.size wr (wr.setCells w.heap.size 0 (repC (.slice q12 l12 c12) (.slice qv kv cv) (rdP (some r0)))) := But.sets _ _ _
          have hos := ownS_other HOv.out (by omega) hbt
          rw [HNN.out] at hos
          exact .inl ⟨HV.out, q12, l12, c12, qv, kv, cv, rfl, (HJ.out.below hbs).mono (by rw [size_setCells]; omega), OwnS.strs hos, HB2.out.trans ((HBe.out.mono (Nat.le_succ _)).trans hbs)⟩
        · have HE80 : Hid (endE (nS k (p7 (some r0))) = 80) := by show _ = _; rw [hEE]; exact endE_80 hE
          have HV : Hid (iq = false) := by show _ = _; rw [← HQ.out]; exact decide_eq_false hE
          clear hx hEE hNN hE
          have HRR : Hid (Row wr w.heap.size 44 (repC (.slice none 0 0) (.slice none 0 0) noRep)) := HR2.out.below HBe.out (Nat.lt_succ_self _)
          go_wp2_with (first
            | (go_at_call 37; refine (refEnd_any w.heap.size (w.heap.size + 1) _ wr HX.out.rd).mono ?_; rintro e wr' ⟨rfl, hw⟩; obtain rfl : wr = wr' := hw.symm; clear hw; rw [HE80.out])
            | ((with_reducible show wpList _ _ _ (Oper.mk (some 67) _ _ _ _ _ :: _) _ _); refine wpList_built_want (by rfl) 44 _ rfl _ _ (by simp only [List.map_toArray, List.map_nil]) HBz.out ?_; simp only [Act.put, List.setIfInBounds_toArray, List.set_cons_zero, List.set_cons_succ])
            | ((with_reducible show wpList _ _ _ (Oper.mk _ (Op.store 44 (.tmp 2) (.tmp 67)) _ _ _ _ :: _) _ _); refine wpList_store_Row rfl 44 (.tmp 2) (.tmp 67) rfl (repC (.slice none 0 0) (.slice none 0 0) noRep) rfl rfl HRR.out (size44' noRep_ok) rfl (repC_one rfl rfl _) ?_; simp only [Act.put]))
          refine bodyPost_ret (results_RowS_tmp rfl rfl (Row.sets_all (vs := (repC (.slice none 0 0) (.slice none 0 0) noRep)) HRR.out rfl) Try.underlying44 (size44' noRep_ok)) rfl ?_
          exact .inr ⟨HV.out, rfl, below_setCells (Nat.le_refl _) _ _ (HB2.out.trans (HBe.out.mono (Nat.le_succ _)))⟩

set_option maxRecDepth 100000 in
set_option maxHeartbeats 1000000 in
/-- What is no reply at its first byte. -/
theorem refOfP_not (p : Option Addr) (len cap : Nat) (b : List Nat) (w : World) (hI : IsBytes w.heap.size w p len cap b) (hb : ∀ r0, b ≠ 2 :: r0) :
    Calls Try.prog 19 #[.slice p len cap] w fun e w' => e = .returned (.tuple #[.agg (repC (.slice none 0 0) (.slice none 0 0) noRep).toArray, .int .i64 180]) ∧ Below w.heap.size w w' := by
  obtain ⟨w1, hw1⟩ : ∃ w1, w.alloc (.cells zc44 44) = w1 := ⟨_, rfl⟩
  have hb1 : Below w.heap.size w w1 := by rw [← hw1]; exact (Below.refl _ w).alloc (Nat.le_refl _) _
  have HW1 : Hid (w.alloc (.cells zc44 44) = w1) := hw1
  have HR1 : Hid (Row w1 w.heap.size 44 (repC (.slice none 0 0) (.slice none 0 0) noRep)) := by rw [← hw1, zero44]; exact Row.new' w 44 _
  have HBz : Hid (Try.prog.built 44 [] = some (repC (.slice none 0 0) (.slice none 0 0) noRep).toArray) := built44z
  have hlc : len ≤ cap := hI.2.1
  have hcc : cap ≤ 9223372036854775807 := hI.2.2.1
  cases b with
  | nil =>
    obtain rfl : len = 0 := hI.1.symm
    clear hI hw1 hb
    go_enter Try.func19, Try.ntmps19
    go_wp2_with (first
      | (rw [HW1.out])
      | ((with_reducible show wpList _ _ _ (Oper.mk (some 17) _ _ _ _ _ :: _) _ _); refine wpList_built_want (by rfl) 44 _ rfl _ _ (by simp only [List.map_toArray, List.map_nil]) HBz.out ?_; simp only [Act.put, List.setIfInBounds_toArray, List.set_cons_zero, List.set_cons_succ])
      | ((with_reducible show wpList _ _ _ (Oper.mk _ (Op.store 44 (.tmp 2) (.tmp 17)) _ _ _ _ :: _) _ _); refine wpList_store_Row rfl 44 (.tmp 2) (.tmp 17) rfl (repC (.slice none 0 0) (.slice none 0 0) noRep) rfl rfl HR1.out (size44' noRep_ok) rfl (repC_one rfl rfl _) ?_; simp only [Act.put]))
    refine bodyPost_ret (results_RowS_tmp rfl rfl (Row.sets_all (vs := (repC (.slice none 0 0) (.slice none 0 0) noRep)) HR1.out rfl) Try.underlying44 (size44' noRep_ok)) rfl ?_
    exact ⟨rfl, below_setCells (Nat.le_refl _) _ _ hb1⟩
  | cons x r0 =>
    have hx : x ≠ 2 := fun h => hb r0 (by rw [h])
    have hx256 : x < 256 := hI.2.2.2.1 x List.mem_cons_self
    have hl1 : 1 ≤ len := by have := hI.1; rw [List.length_cons] at this; omega
    obtain ⟨g, o, rfl, hg, hc⟩ : ∃ g o, p = some ⟨g, o, none⟩ ∧ g < w.heap.size ∧ w.cell? ⟨g, o, none⟩ = some (.int .u8 (x : Nat)) := by
      rcases hI.2.2.2.2 with h | ⟨b, off, e, hb, hc⟩
      · omega
      · exact ⟨b, off, e, hb, hc 0 (by omega)⟩
    have hcell : w1.cell? ⟨g, o, none⟩ = some (.int .u8 (x : Nat)) := (hb1.cell (p := ⟨g, o, none⟩) hg).trans hc
    have hl0 : ¬ (len : Int) = 0 := by omega
    have hxi : ¬ (x : Int) = 2 := by omega
    have hxb : ((x : Int) != 2) = true := by simp [bne, hxi]
    clear hI hw1 hb hg hc hx
    go_enter Try.func19, Try.ntmps19
    go_wp2_with (first
      | (rw [HW1.out])
      | ((with_reducible show wpList _ _ _ (Oper.mk (some 17) _ _ _ _ _ :: _) _ _); refine wpList_built_want (by rfl) 44 _ rfl _ _ (by simp only [List.map_toArray, List.map_nil]) HBz.out ?_; simp only [Act.put, List.setIfInBounds_toArray, List.set_cons_zero, List.set_cons_succ])
      | ((with_reducible show wpList _ _ _ (Oper.mk _ (Op.store 44 (.tmp 2) (.tmp 17)) _ _ _ _ :: _) _ _); refine wpList_store_Row rfl 44 (.tmp 2) (.tmp 17) rfl (repC (.slice none 0 0) (.slice none 0 0) noRep) rfl rfl HR1.out (size44' noRep_ok) rfl (repC_one rfl rfl _) ?_; simp only [Act.put]))
    refine bodyPost_ret (results_RowS_tmp rfl rfl (Row.sets_all (vs := (repC (.slice none 0 0) (.slice none 0 0) noRep)) HR1.out rfl) Try.underlying44 (size44' noRep_ok)) rfl ?_
    exact ⟨rfl, below_setCells (Nat.le_refl _) _ _ hb1⟩

theorem isP_two (r0 : List Nat) : isP (2 :: r0) = decide (endE (enP (some r0)) = 0) := by
  rw [isP, readN2_one]
  simp
theorem isP_not {b : List Nat} (hz : ∀ z ∈ b, z < 256) (h : ∀ r0, b ≠ 2 :: r0) : isP b = false := by
  rw [isP, decide_eq_false (p := (readN 2 (some b)).1 = 2) (fun h1 => by obtain ⟨r0, hr⟩ := readN2_only hz h1; exact h r0 hr)]
  simp
theorem refOfP_any (p : Option Addr) (len cap : Nat) (b : List Nat) (hlen : len ≤ 50000) (w : World) (hI : IsBytes w.heap.size w p len cap b) :
    Calls Try.prog 19 #[.slice p len cap] w (OfPPost w b) := by
  have hz := hI.2.2.2.1
  by_cases h1 : ∃ r0, b = 2 :: r0
  · obtain ⟨r0, rfl⟩ := h1
    have hl1 : 1 ≤ len := by have := hI.1; rw [List.length_cons] at this; omega
    obtain ⟨g, o, rfl⟩ : ∃ g o, p = some ⟨g, o, none⟩ := by
      rcases hI.2.2.2.2 with h | ⟨b, off, e, hb, hc⟩
      · omega
      · exact ⟨b, off, e⟩
    refine (refOfP_two g o len cap r0 hlen w hI).mono ?_
    intro e w' h
    unfold OfPPost
    rw [isP_two, readN2_one]
    exact h
  · have h2 : ∀ r0, b ≠ 2 :: r0 := fun r0 hr => h1 ⟨r0, hr⟩
    refine (refOfP_not p len cap b w hI h2).mono ?_
    rintro e w' h
    exact .inr ⟨isP_not hz h2, h⟩
end Go.Proofs.Ytedpgdldekkgdaa
