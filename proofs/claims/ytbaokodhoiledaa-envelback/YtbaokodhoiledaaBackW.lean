/-
  EnvelBack, walked.
-/
import Derived.Test.YtbaokodhoiledaaReadsW
namespace Go.Proofs.Ytbaokodhoiledaa
open Go.RowKit

theorem putE_length {kd rl ep : Nat} {ids : List (List Nat)} {bs : List Nat} (h : ∀ x ∈ ids, x.length = 32 ∧ ∀ z ∈ x, z < 256) (h1 : kd < 18446744073709551616) (h2 : rl < 18446744073709551616) (h3 : ep < 18446744073709551616) (hn : ids.length ≤ 40) (hb : bs.length ≤ 1000) : (putE kd rl ep ids bs).length ≤ 2500 := by
  have g1 := encN_ten h1
  have g2 := encN_ten h2
  have g3 := encN_ten h3
  have g4 := encN_ten (n := ids.length) (by omega)
  have g5 := flat_ids h ids.length
  have g6 := encN_ten (n := bs.length) (by omega)
  rw [List.take_length] at g5
  unfold putE headL encIds encText
  simp only [List.length_append]
  omega
theorem isEnv_put {kd rl ep : Nat} {ids : List (List Nat)} {bs : List Nat} (hk : okKind kd = true) (hi : riseB ids = true) (hr : rl < 4294967296) (he : ep < 4294967296) (h : ∀ x ∈ ids, x.length = 32 ∧ ∀ z ∈ x, z < 256) (hl : ids.length ≤ 1000) (hb : bs.length ≤ 70000) :
    isEnv (putE kd rl ep ids bs) = true ∧ oKd (putE kd rl ep ids bs) = kd ∧ oRl (putE kd rl ep ids bs) = rl ∧ oEp (putE kd rl ep ids bs) = ep ∧ oIds (putE kd rl ep ids bs) = ids ∧ oBs (putE kd rl ep ids bs) = bs ∧ oErr (putE kd rl ep ids bs) = 0 := by
  have hk3 : kd ≤ 3 := by simp [okKind] at hk; omega
  obtain ⟨g1, g2, g3, g4, g5, g6⟩ := got_back hk3 hr he h hl hb
  have hE : isEnv (putE kd rl ep ids bs) = true := by
    unfold isEnv
    rw [g6, g1, g4, hk, hi]
    rfl
  exact ⟨hE, by rw [oKd, if_pos hE, g1], by rw [oRl, if_pos hE, g2], by rw [oEp, if_pos hE, g3], by rw [oIds, if_pos hE, g4], by rw [oBs, if_pos hE, g5], by rw [oErr, if_pos hE]⟩

/-- What the second half of the law asks: of what Of answered, Put. -/
def Half2 (b : List Nat) (W : World) (e : Ending) (w' : World) : Prop :=
  ∃ v E2, e = .returned (.tuple #[v, .int .i64 E2]) ∧ Below W.heap.size W w' ∧ (oErr b = 0 → E2 = 0 ∧ Str w' v (strOf b)) ∧ (∃ q k c, v = .slice q k c)
theorem half2_any (b : List Nat) (hb : ∀ z ∈ b, z < 256) (p : Option Addr) (len cap : Nat) (q : Option Addr) (lb cb : Nat) (W : World) (hI : IsIds W.heap.size W p len cap (oIds b)) (hJ : IsBytes W.heap.size W q lb cb (oBs b)) :
    Calls Try.prog 12 #[.agg #[.int .i64 (oKd b : Nat), .int .u32 (oRl b : Nat), .int .u32 (oEp b : Nat), .slice p len cap, .slice q lb cb]] W (Half2 b W) := by
  cases hE : isEnv b with
  | true =>
    have e1 : oKd b = gKd b := by rw [oKd, if_pos hE]
    have e2 : oRl b = gRl b := by rw [oRl, if_pos hE]
    have e3 : oEp b = gEp b := by rw [oEp, if_pos hE]
    have e4 : oIds b = gIds b := by rw [oIds, if_pos hE]
    have e5 : oBs b = gBs b := by rw [oBs, if_pos hE]
    rw [e4] at hI
    rw [e5] at hJ
    rw [e1, e2, e3]
    have hE' := hE
    simp only [isEnv, Bool.and_eq_true, decide_eq_true_eq] at hE'
    have hI1 := hI.1
    have hJ1 := hJ.1
    have h1 := (gIds_all hb).2
    have h2 := (gBs_all hb).2
    refine (put_some (gKd b) (gRl b) (gEp b) p len cap (gIds b) q lb cb (gBs b) hE'.2.1 hE'.2.2 (gRl_lt b) (gEp_lt b) (by omega) (by omega) W hI hJ).mono ?_
    rintro e w' ⟨v, rfl, ho, hbl⟩
    refine ⟨v, 0, rfl, hbl, fun _ => ⟨rfl, ?_⟩, own_any_slice ho⟩
    have := str_of_row rfl ho
    rw [got_once hb hE'.1] at this
    exact this
  | false =>
    have hne : ¬ isEnv b = true := by rw [hE]; decide
    have e1 : oKd b = 0 := by rw [oKd, if_neg hne]
    have e4 : oIds b = [] := by rw [oIds, if_neg hne]
    have e5 : oBs b = [] := by rw [oBs, if_neg hne]
    have e6 : oErr b = 90 := by rw [oErr, if_neg hne]
    have hI1 := hI.1
    have hJ1 := hJ.1
    rw [e4] at hI1
    rw [e5] at hJ1
    simp at hI1 hJ1
    rw [e1]
    refine (put_none ((0 : Nat) : Int) (oRl b) (oEp b) p len cap (oIds b) q lb cb (by rfl) (by omega) (by omega) W hI).mono ?_
    rintro e w' ⟨rfl, hbl⟩
    exact ⟨_, 90, rfl, hbl, fun h => (by rw [e6] at h; cases h), _, _, _, rfl⟩

set_option maxRecDepth 100000 in
set_option maxHeartbeats 4000000 in
theorem back_ok0 (kd rl ep : Nat) (p : Option Addr) (len cap : Nat) (ids : List (List Nat)) (q : Option Addr) (lb cb : Nat) (bs : List Nat) (p1 : Option Addr) (len1 cap1 : Nat) (b : List Nat) (hk : okKind kd = true) (hr : riseB ids = true) (hrl : rl < 4294967296) (hep : ep < 4294967296) (hlen : len ≤ 40) (hlb : lb ≤ 1000) (hl1 : len1 ≤ 2000) (w : World)
    (hI : IsIds w.heap.size w p len cap ids) (hJ : IsBytes w.heap.size w q lb cb bs) (hb : IsBytes w.heap.size w p1 len1 cap1 b) (hErr : oErr b = 0) :
    Calls Try.prog 6 #[.agg #[.int .i64 (kd : Nat), .int .u32 (rl : Nat), .int .u32 (ep : Nat), .slice p len cap, .slice q lb cb], .slice p1 len1 cap1] w fun e w' => e = .returned (.bool true) ∧ Below w.heap.size w w' := by
  have hl1i : ¬ (2000 : Int) < (len1 : Int) := by omega
  obtain ⟨wa, hwa⟩ : ∃ wa, w.alloc (.cells #[.int .i64 (kd : Nat), .int .u32 (rl : Nat), .int .u32 (ep : Nat), .slice p len cap, .slice q lb cb] 31) = wa := ⟨_, rfl⟩
  have HBA : Hid (Below w.heap.size w wa) := by rw [← hwa]; exact (Below.refl _ w).alloc (Nat.le_refl _) _
  have HWA : Hid (w.alloc (.cells #[.int .i64 (kd : Nat), .int .u32 (rl : Nat), .int .u32 (ep : Nat), .slice p len cap, .slice q lb cb] 31) = wa) := hwa
  have HRE : Hid (Row wa w.heap.size 31 [Value.int .i64 (kd : Nat), .int .u32 (rl : Nat), .int .u32 (ep : Nat), .slice p len cap, .slice q lb cb]) := by rw [← hwa]; exact Row.new w 31 _
  have HIW : Hid (∀ W, Below wa.heap.size wa W → IsIds W.heap.size W p len cap ids ∧ IsBytes W.heap.size W q lb cb bs ∧ IsBytes W.heap.size W p1 len1 cap1 b) := fun W h => ⟨(((hI.below HBA.out).mono HBA.out.size).below h).mono h.size, (((hJ.below HBA.out).mono HBA.out.size).below h).mono h.size, (((hb.below HBA.out).mono HBA.out.size).below h).mono h.size⟩
  have HS : Hid (∀ W, Below wa.heap.size wa W → Row W w.heap.size 31 [Value.int .i64 (kd : Nat), .int .u32 (rl : Nat), .int .u32 (ep : Nat), .slice p len cap, .slice q lb cb]) := fun W h => HRE.out.later h
  have HF : Hid (∀ W, Calls Try.prog 11 #[.agg #[.int .i64 (kd : Nat), .int .u32 (rl : Nat), .int .u32 (ep : Nat), .slice p len cap, .slice q lb cb]] W fun e w' => e = .returned (.bool true) ∧ Below W.heap.size W w') := fun W => by
    have := few_any kd rl ep p len cap q lb cb W
    rw [decide_eq_true ⟨hlen, hlb⟩] at this
    exact this
  have HX : Hid (isEnv (putE kd rl ep ids bs) = true ∧ oKd (putE kd rl ep ids bs) = kd ∧ oRl (putE kd rl ep ids bs) = rl ∧ oEp (putE kd rl ep ids bs) = ep ∧ oIds (putE kd rl ep ids bs) = ids ∧ oBs (putE kd rl ep ids bs) = bs ∧ oErr (putE kd rl ep ids bs) = 0) := isEnv_put hk hr hrl hep hI.2.2.2.1 (by rw [hI.1]; omega) (by rw [hJ.1]; omega)
  have HXl : Hid ((putE kd rl ep ids bs).length ≤ 2500) := putE_length hI.2.2.2.1 (by simp [okKind] at hk; omega) (by omega) (by omega) (by rw [hI.1]; exact hlen) (by rw [hJ.1]; exact hlb)
  have HXb : Hid (∀ z ∈ (putE kd rl ep ids bs), z < 256) := putE_bytes kd rl ep hI.2.2.2.1 hJ.2.2.2.1
  have HP : Hid (∀ W, Below wa.heap.size wa W → Calls Try.prog 12 #[.agg #[.int .i64 (kd : Nat), .int .u32 (rl : Nat), .int .u32 (ep : Nat), .slice p len cap, .slice q lb cb]] W fun e w' => ∃ v, e = .returned (.tuple #[v, .int .i64 0]) ∧ Own W.heap.size w' v (putE kd rl ep ids bs) ∧ Below W.heap.size W w') := fun W h =>
    put_some kd rl ep p len cap ids q lb cb bs hk hr hrl hep (by omega) (by omega) W (HIW.out W h).1 (HIW.out W h).2.1
  have HO : Hid (∀ W, Below wa.heap.size wa W → Calls Try.prog 16 #[.slice p1 len1 cap1] W (OfAll W b)) := fun W h => (of_env p1 len1 cap1 b (by omega) W (HIW.out W h).2.2).mono fun _ _ h => h.all
  have HSb : Hid (∀ W, Below wa.heap.size wa W → (convert 29 9 (.slice p1 len1 cap1)).run Try.prog W = .ok (.string (strOf b)) W) := fun W h => (str_of_bytes (HIW.out W h).2.2).here
  have Hb256 : Hid (∀ z ∈ b, z < 256) := hb.2.2.2.1
  have HErr : Hid (oErr b = 0) := hErr
  clear hI hJ hb hwa hk hr hErr
  obtain ⟨X, hX⟩ : ∃ X, putE kd rl ep ids bs = X := ⟨_, rfl⟩
  rw [hX] at HX HXl HXb HP
  clear hX
  go_enter Try.func6, Try.ntmps6
  go_wp2_with (first
    | (go_at_call 7; rw [HWA.out]; refine (awake_any wa).mono ?_; rintro e w1 ⟨rfl, hb1⟩; have hr1 := HS.out w1 hb1; have x0 := hr1.cell (i := 0) rfl; have x1 := hr1.cell (i := 1) rfl; have x2 := hr1.cell (i := 2) rfl; have x3 := hr1.cell (i := 3) rfl; have x4 := hr1.cell (i := 4) rfl; clear hr1)
    | (go_at_call 11; refine (HF.out w1).mono ?_; rintro e w2 ⟨rfl, hb2⟩; have hB2 : Below wa.heap.size wa w2 := hb1.trans (hb2.mono hb1.size); clear hb1 hb2 x0 x1 x2 x3 x4; have hr1 := HS.out w2 hB2; have x0 := hr1.cell (i := 0) rfl; have x1 := hr1.cell (i := 1) rfl; have x2 := hr1.cell (i := 2) rfl; have x3 := hr1.cell (i := 3) rfl; have x4 := hr1.cell (i := 4) rfl; clear hr1; have HP2 := HP.out w2 hB2)
    | (go_at_call 12; refine HP2.mono ?_; clear HP2; rintro e w3 ⟨v3, rfl, ho3, hb3⟩; obtain ⟨l3, hl3⟩ : ∃ l, X.length = l := ⟨_, rfl⟩; obtain ⟨q3, c3, hv3⟩ := own_len ho3 hl3; subst hv3; have hB3 : Below wa.heap.size wa w3 := hB2.trans (hb3.mono hB2.size); have HO3 : Hid (Calls Try.prog 16 #[.slice q3 l3 c3] w3 (OfAll w3 X)) := (of_env q3 l3 c3 X (by rw [← hl3]; exact HXl.out) w3 (ho3.bytes HXb.out)).mono (fun _ _ h => h.all); clear hb3 hB2 ho3 hl3 x0 x1 x2 x3 x4)
    | (go_at_call 16; refine HO3.out.mono ?_; clear HO3; rintro e w4 ⟨p4, l4, c4, q4, m4, d4, rfl, hI4, hJ4, hb4⟩; rw [HX.out.2.1, HX.out.2.2.1, HX.out.2.2.2.1, HX.out.2.2.2.2.2.2]; rw [HX.out.2.2.2.2.1] at hI4; rw [HX.out.2.2.2.2.2.1] at hJ4; have HI4 : Hid (IsIds w4.heap.size w4 p4 l4 c4 ids) := hI4; have HJ4 : Hid (IsBytes w4.heap.size w4 q4 m4 d4 bs) := hJ4; have hB4 : Below wa.heap.size wa w4 := hB3.trans (hb4.mono hB3.size); clear hI4 hJ4 hb4 hB3)
    | ((with_reducible show wpList _ _ _ (Oper.mk _ (Op.store 31 (.tmp 7) (.tmp 31)) _ _ _ _ :: _) _ _); refine wpList_store_Row rfl 31 (.tmp 7) (.tmp 31) rfl [Value.int .i64 (kd : Nat), .int .u32 (rl : Nat), .int .u32 (ep : Nat), .slice p4 l4 c4, .slice q4 m4 d4] rfl rfl (Row.new w4 31 #[.int .i64 0, .int .u32 0, .int .u32 0, .slice none 0 0, .slice none 0 0]) size31 rfl (env_one _ _ _ _ _ _ _ _ _) ?_; have hr := (Row.new w4 31 #[.int .i64 0, .int .u32 0, .int .u32 0, .slice none 0 0, .slice none 0 0]).sets_all (vs := [Value.int .i64 (kd : Nat), .int .u32 (rl : Nat), .int .u32 (ep : Nat), .slice p4 l4 c4, .slice q4 m4 d4]) rfl; have hb : Below w4.heap.size w4 ((w4.alloc (.cells #[.int .i64 0, .int .u32 0, .int .u32 0, .slice none 0 0, .slice none 0 0] 31)).setCells w4.heap.size 0 [Value.int .i64 (kd : Nat), .int .u32 (rl : Nat), .int .u32 (ep : Nat), .slice p4 l4 c4, .slice q4 m4 d4]) := below_setCells (Nat.le_refl _) _ _ ((Below.refl _ w4).alloc (Nat.le_refl _) _); generalize (w4.alloc (.cells #[.int .i64 0, .int .u32 0, .int .u32 0, .slice none 0 0, .slice none 0 0] 31)).setCells w4.heap.size 0 [Value.int .i64 (kd : Nat), .int .u32 (rl : Nat), .int .u32 (ep : Nat), .slice p4 l4 c4, .slice q4 m4 d4] = w5 at *; have hB5 : Below wa.heap.size wa w5 := hB4.trans (hb.mono hB4.size); have hIe := HIW.out w5 hB5; have HI5 : Hid (IsIds w5.heap.size w5 p4 l4 c4 ids) := (HI4.out.below hb).mono hb.size; have HJ5 : Hid (IsBytes w5.heap.size w5 q4 m4 d4 bs) := (HJ4.out.below hb).mono hb.size; have hl4 : l4 = len := HI5.out.1.symm.trans hIe.1.1; have hm4 : m4 = lb := HJ5.out.1.symm.trans hIe.2.1.1; have HIe : Hid (IsIds w5.heap.size w5 p len cap ids ∧ IsBytes w5.heap.size w5 q lb cb bs) := ⟨hIe.1, hIe.2.1⟩; rw [hl4, hm4] at hr ⊢; rw [hl4] at HI5; rw [hm4] at HJ5; have y0 := hr.cell (i := 0) rfl; have y1 := hr.cell (i := 1) rfl; have y2 := hr.cell (i := 2) rfl; have y3 := hr.cell (i := 3) rfl; have y4 := hr.cell (i := 4) rfl; have hr1 := HS.out w5 hB5; have x0 := hr1.cell (i := 0) rfl; have x1 := hr1.cell (i := 1) rfl; have x2 := hr1.cell (i := 2) rfl; have x3 := hr1.cell (i := 3) rfl; have x4 := hr1.cell (i := 4) rfl; clear hr1 hIe hl4 hm4; clear hr hb hB4; simp only [Act.put])
    | (go_at_call 18; refine (sameEnv_any (kd : Nat) rl ep p4 len c4 q4 lb d4 p cap q cb ids bs w5 HI5.out HJ5.out HIe.out.1 HIe.out.2).mono ?_; rintro e w6 ⟨rfl, hb6⟩; have hB6 : Below wa.heap.size wa w6 := hB5.trans (hb6.mono hB5.size); have HO5 : Hid (Calls Try.prog 16 #[.slice p1 len1 cap1] w6 (OfAll w6 b)) := HO.out w6 hB6; clear hb6 hB5 x0 x1 x2 x3 x4 y0 y1 y2 y3 y4 HI5 HJ5 HIe)
    | (go_at_call 16; refine HO5.out.mono ?_; clear HO5; rintro e w7 ⟨p7, l7, c7, q7, m7, d7, rfl, hI7, hJ7, hb7⟩; rw [HErr.out]; have HI7 : Hid (IsIds w7.heap.size w7 p7 l7 c7 (oIds b)) := hI7; have HJ7 : Hid (IsBytes w7.heap.size w7 q7 m7 d7 (oBs b)) := hJ7; have hB7 : Below wa.heap.size wa w7 := hB6.trans (hb7.mono hB6.size); clear hI7 hJ7 hb7 hB6)
    | ((with_reducible show wpList _ _ _ (Oper.mk _ (Op.store 31 (.tmp 9) (.tmp 48)) _ _ _ _ :: _) _ _); refine wpList_store_Row rfl 31 (.tmp 9) (.tmp 48) rfl [Value.int .i64 (oKd b : Nat), .int .u32 (oRl b : Nat), .int .u32 (oEp b : Nat), .slice p7 l7 c7, .slice q7 m7 d7] rfl rfl (Row.new w7 31 #[.int .i64 0, .int .u32 0, .int .u32 0, .slice none 0 0, .slice none 0 0]) size31 rfl (env_one _ _ _ _ _ _ _ _ _) ?_; have hr := (Row.new w7 31 #[.int .i64 0, .int .u32 0, .int .u32 0, .slice none 0 0, .slice none 0 0]).sets_all (vs := [Value.int .i64 (oKd b : Nat), .int .u32 (oRl b : Nat), .int .u32 (oEp b : Nat), .slice p7 l7 c7, .slice q7 m7 d7]) rfl; have hb : Below w7.heap.size w7 ((w7.alloc (.cells #[.int .i64 0, .int .u32 0, .int .u32 0, .slice none 0 0, .slice none 0 0] 31)).setCells w7.heap.size 0 [Value.int .i64 (oKd b : Nat), .int .u32 (oRl b : Nat), .int .u32 (oEp b : Nat), .slice p7 l7 c7, .slice q7 m7 d7]) := below_setCells (Nat.le_refl _) _ _ ((Below.refl _ w7).alloc (Nat.le_refl _) _); generalize (w7.alloc (.cells #[.int .i64 0, .int .u32 0, .int .u32 0, .slice none 0 0, .slice none 0 0] 31)).setCells w7.heap.size 0 [Value.int .i64 (oKd b : Nat), .int .u32 (oRl b : Nat), .int .u32 (oEp b : Nat), .slice p7 l7 c7, .slice q7 m7 d7] = w8 at *; have hB8 : Below wa.heap.size wa w8 := hB7.trans (hb.mono hB7.size); have HI8 : Hid (IsIds w8.heap.size w8 p7 l7 c7 (oIds b)) := (HI7.out.below hb).mono hb.size; have HJ8 : Hid (IsBytes w8.heap.size w8 q7 m7 d7 (oBs b)) := (HJ7.out.below hb).mono hb.size; have z0 := hr.cell (i := 0) rfl; have z1 := hr.cell (i := 1) rfl; have z2 := hr.cell (i := 2) rfl; have z3 := hr.cell (i := 3) rfl; have z4 := hr.cell (i := 4) rfl; have HZ8 := half2_any b Hb256.out p7 l7 c7 q7 m7 d7 w8 HI8.out HJ8.out; clear hr hb hB7 HI7 HJ7; simp only [Act.put])
    | (go_at_call 12; refine HZ8.mono ?_; clear HZ8; rintro e w9 ⟨v9, E9, rfl, hb9, h9, ⟨q9, k9, c9, hv9⟩⟩; subst hv9; have hB9 : Below wa.heap.size wa w9 := hB8.trans (hb9.mono hB8.size); obtain ⟨hE9, hS9⟩ := h9 HErr.out; subst hE9; have g9 := hS9.here; have gb := HSb.out w9 hB9; clear hS9; clear hb9 hB8 z0 z1 z2 z3 z4))
  go_ret
  exact ⟨rfl, HBA.out.trans (hB9.mono HBA.out.size)⟩

set_option maxRecDepth 100000 in
set_option maxHeartbeats 4000000 in
theorem back_ok9 (kd rl ep : Nat) (p : Option Addr) (len cap : Nat) (ids : List (List Nat)) (q : Option Addr) (lb cb : Nat) (bs : List Nat) (p1 : Option Addr) (len1 cap1 : Nat) (b : List Nat) (hk : okKind kd = true) (hr : riseB ids = true) (hrl : rl < 4294967296) (hep : ep < 4294967296) (hlen : len ≤ 40) (hlb : lb ≤ 1000) (hl1 : len1 ≤ 2000) (w : World)
    (hI : IsIds w.heap.size w p len cap ids) (hJ : IsBytes w.heap.size w q lb cb bs) (hb : IsBytes w.heap.size w p1 len1 cap1 b) (hErr : oErr b = 90) :
    Calls Try.prog 6 #[.agg #[.int .i64 (kd : Nat), .int .u32 (rl : Nat), .int .u32 (ep : Nat), .slice p len cap, .slice q lb cb], .slice p1 len1 cap1] w fun e w' => e = .returned (.bool true) ∧ Below w.heap.size w w' := by
  have hl1i : ¬ (2000 : Int) < (len1 : Int) := by omega
  obtain ⟨wa, hwa⟩ : ∃ wa, w.alloc (.cells #[.int .i64 (kd : Nat), .int .u32 (rl : Nat), .int .u32 (ep : Nat), .slice p len cap, .slice q lb cb] 31) = wa := ⟨_, rfl⟩
  have HBA : Hid (Below w.heap.size w wa) := by rw [← hwa]; exact (Below.refl _ w).alloc (Nat.le_refl _) _
  have HWA : Hid (w.alloc (.cells #[.int .i64 (kd : Nat), .int .u32 (rl : Nat), .int .u32 (ep : Nat), .slice p len cap, .slice q lb cb] 31) = wa) := hwa
  have HRE : Hid (Row wa w.heap.size 31 [Value.int .i64 (kd : Nat), .int .u32 (rl : Nat), .int .u32 (ep : Nat), .slice p len cap, .slice q lb cb]) := by rw [← hwa]; exact Row.new w 31 _
  have HIW : Hid (∀ W, Below wa.heap.size wa W → IsIds W.heap.size W p len cap ids ∧ IsBytes W.heap.size W q lb cb bs ∧ IsBytes W.heap.size W p1 len1 cap1 b) := fun W h => ⟨(((hI.below HBA.out).mono HBA.out.size).below h).mono h.size, (((hJ.below HBA.out).mono HBA.out.size).below h).mono h.size, (((hb.below HBA.out).mono HBA.out.size).below h).mono h.size⟩
  have HS : Hid (∀ W, Below wa.heap.size wa W → Row W w.heap.size 31 [Value.int .i64 (kd : Nat), .int .u32 (rl : Nat), .int .u32 (ep : Nat), .slice p len cap, .slice q lb cb]) := fun W h => HRE.out.later h
  have HF : Hid (∀ W, Calls Try.prog 11 #[.agg #[.int .i64 (kd : Nat), .int .u32 (rl : Nat), .int .u32 (ep : Nat), .slice p len cap, .slice q lb cb]] W fun e w' => e = .returned (.bool true) ∧ Below W.heap.size W w') := fun W => by
    have := few_any kd rl ep p len cap q lb cb W
    rw [decide_eq_true ⟨hlen, hlb⟩] at this
    exact this
  have HX : Hid (isEnv (putE kd rl ep ids bs) = true ∧ oKd (putE kd rl ep ids bs) = kd ∧ oRl (putE kd rl ep ids bs) = rl ∧ oEp (putE kd rl ep ids bs) = ep ∧ oIds (putE kd rl ep ids bs) = ids ∧ oBs (putE kd rl ep ids bs) = bs ∧ oErr (putE kd rl ep ids bs) = 0) := isEnv_put hk hr hrl hep hI.2.2.2.1 (by rw [hI.1]; omega) (by rw [hJ.1]; omega)
  have HXl : Hid ((putE kd rl ep ids bs).length ≤ 2500) := putE_length hI.2.2.2.1 (by simp [okKind] at hk; omega) (by omega) (by omega) (by rw [hI.1]; exact hlen) (by rw [hJ.1]; exact hlb)
  have HXb : Hid (∀ z ∈ (putE kd rl ep ids bs), z < 256) := putE_bytes kd rl ep hI.2.2.2.1 hJ.2.2.2.1
  have HP : Hid (∀ W, Below wa.heap.size wa W → Calls Try.prog 12 #[.agg #[.int .i64 (kd : Nat), .int .u32 (rl : Nat), .int .u32 (ep : Nat), .slice p len cap, .slice q lb cb]] W fun e w' => ∃ v, e = .returned (.tuple #[v, .int .i64 0]) ∧ Own W.heap.size w' v (putE kd rl ep ids bs) ∧ Below W.heap.size W w') := fun W h =>
    put_some kd rl ep p len cap ids q lb cb bs hk hr hrl hep (by omega) (by omega) W (HIW.out W h).1 (HIW.out W h).2.1
  have HO : Hid (∀ W, Below wa.heap.size wa W → Calls Try.prog 16 #[.slice p1 len1 cap1] W (OfAll W b)) := fun W h => (of_env p1 len1 cap1 b (by omega) W (HIW.out W h).2.2).mono fun _ _ h => h.all
  have HSb : Hid (∀ W, Below wa.heap.size wa W → (convert 29 9 (.slice p1 len1 cap1)).run Try.prog W = .ok (.string (strOf b)) W) := fun W h => (str_of_bytes (HIW.out W h).2.2).here
  have Hb256 : Hid (∀ z ∈ b, z < 256) := hb.2.2.2.1
  have HErr : Hid (oErr b = 90) := hErr
  clear hI hJ hb hwa hk hr hErr
  obtain ⟨X, hX⟩ : ∃ X, putE kd rl ep ids bs = X := ⟨_, rfl⟩
  rw [hX] at HX HXl HXb HP
  clear hX
  go_enter Try.func6, Try.ntmps6
  go_wp2_with (first
    | (go_at_call 7; rw [HWA.out]; refine (awake_any wa).mono ?_; rintro e w1 ⟨rfl, hb1⟩; have hr1 := HS.out w1 hb1; have x0 := hr1.cell (i := 0) rfl; have x1 := hr1.cell (i := 1) rfl; have x2 := hr1.cell (i := 2) rfl; have x3 := hr1.cell (i := 3) rfl; have x4 := hr1.cell (i := 4) rfl; clear hr1)
    | (go_at_call 11; refine (HF.out w1).mono ?_; rintro e w2 ⟨rfl, hb2⟩; have hB2 : Below wa.heap.size wa w2 := hb1.trans (hb2.mono hb1.size); clear hb1 hb2 x0 x1 x2 x3 x4; have hr1 := HS.out w2 hB2; have x0 := hr1.cell (i := 0) rfl; have x1 := hr1.cell (i := 1) rfl; have x2 := hr1.cell (i := 2) rfl; have x3 := hr1.cell (i := 3) rfl; have x4 := hr1.cell (i := 4) rfl; clear hr1; have HP2 := HP.out w2 hB2)
    | (go_at_call 12; refine HP2.mono ?_; clear HP2; rintro e w3 ⟨v3, rfl, ho3, hb3⟩; obtain ⟨l3, hl3⟩ : ∃ l, X.length = l := ⟨_, rfl⟩; obtain ⟨q3, c3, hv3⟩ := own_len ho3 hl3; subst hv3; have hB3 : Below wa.heap.size wa w3 := hB2.trans (hb3.mono hB2.size); have HO3 : Hid (Calls Try.prog 16 #[.slice q3 l3 c3] w3 (OfAll w3 X)) := (of_env q3 l3 c3 X (by rw [← hl3]; exact HXl.out) w3 (ho3.bytes HXb.out)).mono (fun _ _ h => h.all); clear hb3 hB2 ho3 hl3 x0 x1 x2 x3 x4)
    | (go_at_call 16; refine HO3.out.mono ?_; clear HO3; rintro e w4 ⟨p4, l4, c4, q4, m4, d4, rfl, hI4, hJ4, hb4⟩; rw [HX.out.2.1, HX.out.2.2.1, HX.out.2.2.2.1, HX.out.2.2.2.2.2.2]; rw [HX.out.2.2.2.2.1] at hI4; rw [HX.out.2.2.2.2.2.1] at hJ4; have HI4 : Hid (IsIds w4.heap.size w4 p4 l4 c4 ids) := hI4; have HJ4 : Hid (IsBytes w4.heap.size w4 q4 m4 d4 bs) := hJ4; have hB4 : Below wa.heap.size wa w4 := hB3.trans (hb4.mono hB3.size); clear hI4 hJ4 hb4 hB3)
    | ((with_reducible show wpList _ _ _ (Oper.mk _ (Op.store 31 (.tmp 7) (.tmp 31)) _ _ _ _ :: _) _ _); refine wpList_store_Row rfl 31 (.tmp 7) (.tmp 31) rfl [Value.int .i64 (kd : Nat), .int .u32 (rl : Nat), .int .u32 (ep : Nat), .slice p4 l4 c4, .slice q4 m4 d4] rfl rfl (Row.new w4 31 #[.int .i64 0, .int .u32 0, .int .u32 0, .slice none 0 0, .slice none 0 0]) size31 rfl (env_one _ _ _ _ _ _ _ _ _) ?_; have hr := (Row.new w4 31 #[.int .i64 0, .int .u32 0, .int .u32 0, .slice none 0 0, .slice none 0 0]).sets_all (vs := [Value.int .i64 (kd : Nat), .int .u32 (rl : Nat), .int .u32 (ep : Nat), .slice p4 l4 c4, .slice q4 m4 d4]) rfl; have hb : Below w4.heap.size w4 ((w4.alloc (.cells #[.int .i64 0, .int .u32 0, .int .u32 0, .slice none 0 0, .slice none 0 0] 31)).setCells w4.heap.size 0 [Value.int .i64 (kd : Nat), .int .u32 (rl : Nat), .int .u32 (ep : Nat), .slice p4 l4 c4, .slice q4 m4 d4]) := below_setCells (Nat.le_refl _) _ _ ((Below.refl _ w4).alloc (Nat.le_refl _) _); generalize (w4.alloc (.cells #[.int .i64 0, .int .u32 0, .int .u32 0, .slice none 0 0, .slice none 0 0] 31)).setCells w4.heap.size 0 [Value.int .i64 (kd : Nat), .int .u32 (rl : Nat), .int .u32 (ep : Nat), .slice p4 l4 c4, .slice q4 m4 d4] = w5 at *; have hB5 : Below wa.heap.size wa w5 := hB4.trans (hb.mono hB4.size); have hIe := HIW.out w5 hB5; have HI5 : Hid (IsIds w5.heap.size w5 p4 l4 c4 ids) := (HI4.out.below hb).mono hb.size; have HJ5 : Hid (IsBytes w5.heap.size w5 q4 m4 d4 bs) := (HJ4.out.below hb).mono hb.size; have hl4 : l4 = len := HI5.out.1.symm.trans hIe.1.1; have hm4 : m4 = lb := HJ5.out.1.symm.trans hIe.2.1.1; have HIe : Hid (IsIds w5.heap.size w5 p len cap ids ∧ IsBytes w5.heap.size w5 q lb cb bs) := ⟨hIe.1, hIe.2.1⟩; rw [hl4, hm4] at hr ⊢; rw [hl4] at HI5; rw [hm4] at HJ5; have y0 := hr.cell (i := 0) rfl; have y1 := hr.cell (i := 1) rfl; have y2 := hr.cell (i := 2) rfl; have y3 := hr.cell (i := 3) rfl; have y4 := hr.cell (i := 4) rfl; have hr1 := HS.out w5 hB5; have x0 := hr1.cell (i := 0) rfl; have x1 := hr1.cell (i := 1) rfl; have x2 := hr1.cell (i := 2) rfl; have x3 := hr1.cell (i := 3) rfl; have x4 := hr1.cell (i := 4) rfl; clear hr1 hIe hl4 hm4; clear hr hb hB4; simp only [Act.put])
    | (go_at_call 18; refine (sameEnv_any (kd : Nat) rl ep p4 len c4 q4 lb d4 p cap q cb ids bs w5 HI5.out HJ5.out HIe.out.1 HIe.out.2).mono ?_; rintro e w6 ⟨rfl, hb6⟩; have hB6 : Below wa.heap.size wa w6 := hB5.trans (hb6.mono hB5.size); have HO5 : Hid (Calls Try.prog 16 #[.slice p1 len1 cap1] w6 (OfAll w6 b)) := HO.out w6 hB6; clear hb6 hB5 x0 x1 x2 x3 x4 y0 y1 y2 y3 y4 HI5 HJ5 HIe)
    | (go_at_call 16; refine HO5.out.mono ?_; clear HO5; rintro e w7 ⟨p7, l7, c7, q7, m7, d7, rfl, hI7, hJ7, hb7⟩; rw [HErr.out]; have HI7 : Hid (IsIds w7.heap.size w7 p7 l7 c7 (oIds b)) := hI7; have HJ7 : Hid (IsBytes w7.heap.size w7 q7 m7 d7 (oBs b)) := hJ7; have hB7 : Below wa.heap.size wa w7 := hB6.trans (hb7.mono hB6.size); clear hI7 hJ7 hb7 hB6)
    | ((with_reducible show wpList _ _ _ (Oper.mk _ (Op.store 31 (.tmp 9) (.tmp 48)) _ _ _ _ :: _) _ _); refine wpList_store_Row rfl 31 (.tmp 9) (.tmp 48) rfl [Value.int .i64 (oKd b : Nat), .int .u32 (oRl b : Nat), .int .u32 (oEp b : Nat), .slice p7 l7 c7, .slice q7 m7 d7] rfl rfl (Row.new w7 31 #[.int .i64 0, .int .u32 0, .int .u32 0, .slice none 0 0, .slice none 0 0]) size31 rfl (env_one _ _ _ _ _ _ _ _ _) ?_; have hr := (Row.new w7 31 #[.int .i64 0, .int .u32 0, .int .u32 0, .slice none 0 0, .slice none 0 0]).sets_all (vs := [Value.int .i64 (oKd b : Nat), .int .u32 (oRl b : Nat), .int .u32 (oEp b : Nat), .slice p7 l7 c7, .slice q7 m7 d7]) rfl; have hb : Below w7.heap.size w7 ((w7.alloc (.cells #[.int .i64 0, .int .u32 0, .int .u32 0, .slice none 0 0, .slice none 0 0] 31)).setCells w7.heap.size 0 [Value.int .i64 (oKd b : Nat), .int .u32 (oRl b : Nat), .int .u32 (oEp b : Nat), .slice p7 l7 c7, .slice q7 m7 d7]) := below_setCells (Nat.le_refl _) _ _ ((Below.refl _ w7).alloc (Nat.le_refl _) _); generalize (w7.alloc (.cells #[.int .i64 0, .int .u32 0, .int .u32 0, .slice none 0 0, .slice none 0 0] 31)).setCells w7.heap.size 0 [Value.int .i64 (oKd b : Nat), .int .u32 (oRl b : Nat), .int .u32 (oEp b : Nat), .slice p7 l7 c7, .slice q7 m7 d7] = w8 at *; have hB8 : Below wa.heap.size wa w8 := hB7.trans (hb.mono hB7.size); have HI8 : Hid (IsIds w8.heap.size w8 p7 l7 c7 (oIds b)) := (HI7.out.below hb).mono hb.size; have HJ8 : Hid (IsBytes w8.heap.size w8 q7 m7 d7 (oBs b)) := (HJ7.out.below hb).mono hb.size; have z0 := hr.cell (i := 0) rfl; have z1 := hr.cell (i := 1) rfl; have z2 := hr.cell (i := 2) rfl; have z3 := hr.cell (i := 3) rfl; have z4 := hr.cell (i := 4) rfl; have HZ8 := half2_any b Hb256.out p7 l7 c7 q7 m7 d7 w8 HI8.out HJ8.out; clear hr hb hB7 HI7 HJ7; simp only [Act.put])
    | (go_at_call 12; refine HZ8.mono ?_; clear HZ8; rintro e w9 ⟨v9, E9, rfl, hb9, h9, ⟨q9, k9, c9, hv9⟩⟩; subst hv9; have hB9 : Below wa.heap.size wa w9 := hB8.trans (hb9.mono hB8.size); clear hb9 hB8 z0 z1 z2 z3 z4 h9))
  go_ret
  exact ⟨rfl, HBA.out.trans (hB9.mono HBA.out.size)⟩

set_option maxRecDepth 100000 in
set_option maxHeartbeats 4000000 in
theorem back_no0 (kd : Int) (rl ep : Nat) (p : Option Addr) (len cap : Nat) (ids : List (List Nat)) (q : Option Addr) (lb cb : Nat) (bs : List Nat) (p1 : Option Addr) (len1 cap1 : Nat) (b : List Nat) (hk : (okKind kd && riseB ids) = false) (hlen : len ≤ 40) (hlb : lb ≤ 1000) (hl1 : len1 ≤ 2000) (w : World)
    (hI : IsIds w.heap.size w p len cap ids) (hJ : IsBytes w.heap.size w q lb cb bs) (hb : IsBytes w.heap.size w p1 len1 cap1 b) (hErr : oErr b = 0) :
    Calls Try.prog 6 #[.agg #[.int .i64 kd, .int .u32 (rl : Nat), .int .u32 (ep : Nat), .slice p len cap, .slice q lb cb], .slice p1 len1 cap1] w fun e w' => e = .returned (.bool true) ∧ Below w.heap.size w w' := by
  have hl1i : ¬ (2000 : Int) < (len1 : Int) := by omega
  obtain ⟨wa, hwa⟩ : ∃ wa, w.alloc (.cells #[.int .i64 kd, .int .u32 (rl : Nat), .int .u32 (ep : Nat), .slice p len cap, .slice q lb cb] 31) = wa := ⟨_, rfl⟩
  have HBA : Hid (Below w.heap.size w wa) := by rw [← hwa]; exact (Below.refl _ w).alloc (Nat.le_refl _) _
  have HWA : Hid (w.alloc (.cells #[.int .i64 kd, .int .u32 (rl : Nat), .int .u32 (ep : Nat), .slice p len cap, .slice q lb cb] 31) = wa) := hwa
  have HRE : Hid (Row wa w.heap.size 31 [Value.int .i64 kd, .int .u32 (rl : Nat), .int .u32 (ep : Nat), .slice p len cap, .slice q lb cb]) := by rw [← hwa]; exact Row.new w 31 _
  have HIW : Hid (∀ W, Below wa.heap.size wa W → IsIds W.heap.size W p len cap ids ∧ IsBytes W.heap.size W q lb cb bs ∧ IsBytes W.heap.size W p1 len1 cap1 b) := fun W h => ⟨(((hI.below HBA.out).mono HBA.out.size).below h).mono h.size, (((hJ.below HBA.out).mono HBA.out.size).below h).mono h.size, (((hb.below HBA.out).mono HBA.out.size).below h).mono h.size⟩
  have HS : Hid (∀ W, Below wa.heap.size wa W → Row W w.heap.size 31 [Value.int .i64 kd, .int .u32 (rl : Nat), .int .u32 (ep : Nat), .slice p len cap, .slice q lb cb]) := fun W h => HRE.out.later h
  have HF : Hid (∀ W, Calls Try.prog 11 #[.agg #[.int .i64 kd, .int .u32 (rl : Nat), .int .u32 (ep : Nat), .slice p len cap, .slice q lb cb]] W fun e w' => e = .returned (.bool true) ∧ Below W.heap.size W w') := fun W => by
    have := few_any kd rl ep p len cap q lb cb W
    rw [decide_eq_true ⟨hlen, hlb⟩] at this
    exact this
  have HP : Hid (∀ W, Below wa.heap.size wa W → Calls Try.prog 12 #[.agg #[.int .i64 kd, .int .u32 (rl : Nat), .int .u32 (ep : Nat), .slice p len cap, .slice q lb cb]] W fun e w' => e = .returned (.tuple #[.slice none 0 0, .int .i64 90]) ∧ Below W.heap.size W w') := fun W h =>
    put_none kd rl ep p len cap ids q lb cb hk (by omega) (by omega) W (HIW.out W h).1
  have HO : Hid (∀ W, Below wa.heap.size wa W → Calls Try.prog 16 #[.slice p1 len1 cap1] W (OfAll W b)) := fun W h => (of_env p1 len1 cap1 b (by omega) W (HIW.out W h).2.2).mono fun _ _ h => h.all
  have HSb : Hid (∀ W, Below wa.heap.size wa W → (convert 29 9 (.slice p1 len1 cap1)).run Try.prog W = .ok (.string (strOf b)) W) := fun W h => (str_of_bytes (HIW.out W h).2.2).here
  have Hb256 : Hid (∀ z ∈ b, z < 256) := hb.2.2.2.1
  have HErr : Hid (oErr b = 0) := hErr
  clear hI hJ hb hwa hk hErr
  go_enter Try.func6, Try.ntmps6
  go_wp2_with (first
    | (go_at_call 7; rw [HWA.out]; refine (awake_any wa).mono ?_; rintro e w1 ⟨rfl, hb1⟩; have hr1 := HS.out w1 hb1; have x0 := hr1.cell (i := 0) rfl; have x1 := hr1.cell (i := 1) rfl; have x2 := hr1.cell (i := 2) rfl; have x3 := hr1.cell (i := 3) rfl; have x4 := hr1.cell (i := 4) rfl; clear hr1)
    | (go_at_call 11; refine (HF.out w1).mono ?_; rintro e w2 ⟨rfl, hb2⟩; have hB2 : Below wa.heap.size wa w2 := hb1.trans (hb2.mono hb1.size); clear hb1 hb2 x0 x1 x2 x3 x4; have hr1 := HS.out w2 hB2; have x0 := hr1.cell (i := 0) rfl; have x1 := hr1.cell (i := 1) rfl; have x2 := hr1.cell (i := 2) rfl; have x3 := hr1.cell (i := 3) rfl; have x4 := hr1.cell (i := 4) rfl; clear hr1; have HP2 := HP.out w2 hB2)
    | (go_at_call 12; refine HP2.mono ?_; clear HP2; rintro e w3 ⟨rfl, hb3⟩; have hB3 : Below wa.heap.size wa w3 := hB2.trans (hb3.mono hB2.size); have HO3 : Hid (Calls Try.prog 16 #[.slice none 0 0] w3 (OfAll w3 [])) := (of_env none 0 0 [] (by omega) w3 (noBytes w3)).mono (fun _ _ h => h.all); clear hb3 hB2 x0 x1 x2 x3 x4)
    | (go_at_call 16; refine HO3.out.mono ?_; clear HO3; rintro e w4 ⟨p4, l4, c4, q4, m4, d4, rfl, hI4, hJ4, hb4⟩; have hB4 : Below wa.heap.size wa w4 := hB3.trans (hb4.mono hB3.size); clear hI4 hJ4 hb4 hB3)
    | ((with_reducible show wpList _ _ _ (Oper.mk _ (Op.store 31 (.tmp 7) (.tmp 31)) _ _ _ _ :: _) _ _); refine wpList_store_Row rfl 31 (.tmp 7) (.tmp 31) rfl [Value.int .i64 (oKd [] : Nat), .int .u32 (oRl [] : Nat), .int .u32 (oEp [] : Nat), .slice p4 l4 c4, .slice q4 m4 d4] rfl rfl (Row.new w4 31 #[.int .i64 0, .int .u32 0, .int .u32 0, .slice none 0 0, .slice none 0 0]) size31 rfl (env_one _ _ _ _ _ _ _ _ _) ?_; have hr := (Row.new w4 31 #[.int .i64 0, .int .u32 0, .int .u32 0, .slice none 0 0, .slice none 0 0]).sets_all (vs := [Value.int .i64 (oKd [] : Nat), .int .u32 (oRl [] : Nat), .int .u32 (oEp [] : Nat), .slice p4 l4 c4, .slice q4 m4 d4]) rfl; have hb : Below w4.heap.size w4 ((w4.alloc (.cells #[.int .i64 0, .int .u32 0, .int .u32 0, .slice none 0 0, .slice none 0 0] 31)).setCells w4.heap.size 0 [Value.int .i64 (oKd [] : Nat), .int .u32 (oRl [] : Nat), .int .u32 (oEp [] : Nat), .slice p4 l4 c4, .slice q4 m4 d4]) := below_setCells (Nat.le_refl _) _ _ ((Below.refl _ w4).alloc (Nat.le_refl _) _); generalize (w4.alloc (.cells #[.int .i64 0, .int .u32 0, .int .u32 0, .slice none 0 0, .slice none 0 0] 31)).setCells w4.heap.size 0 [Value.int .i64 (oKd [] : Nat), .int .u32 (oRl [] : Nat), .int .u32 (oEp [] : Nat), .slice p4 l4 c4, .slice q4 m4 d4] = w5 at *; have hB5 : Below wa.heap.size wa w5 := hB4.trans (hb.mono hB4.size); have HO5 : Hid (Calls Try.prog 16 #[.slice p1 len1 cap1] w5 (OfAll w5 b)) := HO.out w5 hB5; clear hr hb hB4; simp only [Act.put])
    | (go_at_call 16; refine HO5.out.mono ?_; clear HO5; rintro e w7 ⟨p7, l7, c7, q7, m7, d7, rfl, hI7, hJ7, hb7⟩; rw [HErr.out]; have HI7 : Hid (IsIds w7.heap.size w7 p7 l7 c7 (oIds b)) := hI7; have HJ7 : Hid (IsBytes w7.heap.size w7 q7 m7 d7 (oBs b)) := hJ7; have hB7 : Below wa.heap.size wa w7 := hB5.trans (hb7.mono hB5.size); clear hI7 hJ7 hb7 hB5)
    | ((with_reducible show wpList _ _ _ (Oper.mk _ (Op.store 31 (.tmp 9) (.tmp 48)) _ _ _ _ :: _) _ _); refine wpList_store_Row rfl 31 (.tmp 9) (.tmp 48) rfl [Value.int .i64 (oKd b : Nat), .int .u32 (oRl b : Nat), .int .u32 (oEp b : Nat), .slice p7 l7 c7, .slice q7 m7 d7] rfl rfl (Row.new w7 31 #[.int .i64 0, .int .u32 0, .int .u32 0, .slice none 0 0, .slice none 0 0]) size31 rfl (env_one _ _ _ _ _ _ _ _ _) ?_; have hr := (Row.new w7 31 #[.int .i64 0, .int .u32 0, .int .u32 0, .slice none 0 0, .slice none 0 0]).sets_all (vs := [Value.int .i64 (oKd b : Nat), .int .u32 (oRl b : Nat), .int .u32 (oEp b : Nat), .slice p7 l7 c7, .slice q7 m7 d7]) rfl; have hb : Below w7.heap.size w7 ((w7.alloc (.cells #[.int .i64 0, .int .u32 0, .int .u32 0, .slice none 0 0, .slice none 0 0] 31)).setCells w7.heap.size 0 [Value.int .i64 (oKd b : Nat), .int .u32 (oRl b : Nat), .int .u32 (oEp b : Nat), .slice p7 l7 c7, .slice q7 m7 d7]) := below_setCells (Nat.le_refl _) _ _ ((Below.refl _ w7).alloc (Nat.le_refl _) _); generalize (w7.alloc (.cells #[.int .i64 0, .int .u32 0, .int .u32 0, .slice none 0 0, .slice none 0 0] 31)).setCells w7.heap.size 0 [Value.int .i64 (oKd b : Nat), .int .u32 (oRl b : Nat), .int .u32 (oEp b : Nat), .slice p7 l7 c7, .slice q7 m7 d7] = w8 at *; have hB8 : Below wa.heap.size wa w8 := hB7.trans (hb.mono hB7.size); have HI8 : Hid (IsIds w8.heap.size w8 p7 l7 c7 (oIds b)) := (HI7.out.below hb).mono hb.size; have HJ8 : Hid (IsBytes w8.heap.size w8 q7 m7 d7 (oBs b)) := (HJ7.out.below hb).mono hb.size; have z0 := hr.cell (i := 0) rfl; have z1 := hr.cell (i := 1) rfl; have z2 := hr.cell (i := 2) rfl; have z3 := hr.cell (i := 3) rfl; have z4 := hr.cell (i := 4) rfl; have HZ8 := half2_any b Hb256.out p7 l7 c7 q7 m7 d7 w8 HI8.out HJ8.out; clear hr hb hB7 HI7 HJ7; simp only [Act.put])
    | (go_at_call 12; refine HZ8.mono ?_; clear HZ8; rintro e w9 ⟨v9, E9, rfl, hb9, h9, ⟨q9, k9, c9, hv9⟩⟩; subst hv9; have hB9 : Below wa.heap.size wa w9 := hB8.trans (hb9.mono hB8.size); obtain ⟨hE9, hS9⟩ := h9 HErr.out; subst hE9; have g9 := hS9.here; have gb := HSb.out w9 hB9; clear hS9; clear hb9 hB8 z0 z1 z2 z3 z4))
  go_ret
  exact ⟨rfl, HBA.out.trans (hB9.mono HBA.out.size)⟩

set_option maxRecDepth 100000 in
set_option maxHeartbeats 4000000 in
theorem back_no9 (kd : Int) (rl ep : Nat) (p : Option Addr) (len cap : Nat) (ids : List (List Nat)) (q : Option Addr) (lb cb : Nat) (bs : List Nat) (p1 : Option Addr) (len1 cap1 : Nat) (b : List Nat) (hk : (okKind kd && riseB ids) = false) (hlen : len ≤ 40) (hlb : lb ≤ 1000) (hl1 : len1 ≤ 2000) (w : World)
    (hI : IsIds w.heap.size w p len cap ids) (hJ : IsBytes w.heap.size w q lb cb bs) (hb : IsBytes w.heap.size w p1 len1 cap1 b) (hErr : oErr b = 90) :
    Calls Try.prog 6 #[.agg #[.int .i64 kd, .int .u32 (rl : Nat), .int .u32 (ep : Nat), .slice p len cap, .slice q lb cb], .slice p1 len1 cap1] w fun e w' => e = .returned (.bool true) ∧ Below w.heap.size w w' := by
  have hl1i : ¬ (2000 : Int) < (len1 : Int) := by omega
  obtain ⟨wa, hwa⟩ : ∃ wa, w.alloc (.cells #[.int .i64 kd, .int .u32 (rl : Nat), .int .u32 (ep : Nat), .slice p len cap, .slice q lb cb] 31) = wa := ⟨_, rfl⟩
  have HBA : Hid (Below w.heap.size w wa) := by rw [← hwa]; exact (Below.refl _ w).alloc (Nat.le_refl _) _
  have HWA : Hid (w.alloc (.cells #[.int .i64 kd, .int .u32 (rl : Nat), .int .u32 (ep : Nat), .slice p len cap, .slice q lb cb] 31) = wa) := hwa
  have HRE : Hid (Row wa w.heap.size 31 [Value.int .i64 kd, .int .u32 (rl : Nat), .int .u32 (ep : Nat), .slice p len cap, .slice q lb cb]) := by rw [← hwa]; exact Row.new w 31 _
  have HIW : Hid (∀ W, Below wa.heap.size wa W → IsIds W.heap.size W p len cap ids ∧ IsBytes W.heap.size W q lb cb bs ∧ IsBytes W.heap.size W p1 len1 cap1 b) := fun W h => ⟨(((hI.below HBA.out).mono HBA.out.size).below h).mono h.size, (((hJ.below HBA.out).mono HBA.out.size).below h).mono h.size, (((hb.below HBA.out).mono HBA.out.size).below h).mono h.size⟩
  have HS : Hid (∀ W, Below wa.heap.size wa W → Row W w.heap.size 31 [Value.int .i64 kd, .int .u32 (rl : Nat), .int .u32 (ep : Nat), .slice p len cap, .slice q lb cb]) := fun W h => HRE.out.later h
  have HF : Hid (∀ W, Calls Try.prog 11 #[.agg #[.int .i64 kd, .int .u32 (rl : Nat), .int .u32 (ep : Nat), .slice p len cap, .slice q lb cb]] W fun e w' => e = .returned (.bool true) ∧ Below W.heap.size W w') := fun W => by
    have := few_any kd rl ep p len cap q lb cb W
    rw [decide_eq_true ⟨hlen, hlb⟩] at this
    exact this
  have HP : Hid (∀ W, Below wa.heap.size wa W → Calls Try.prog 12 #[.agg #[.int .i64 kd, .int .u32 (rl : Nat), .int .u32 (ep : Nat), .slice p len cap, .slice q lb cb]] W fun e w' => e = .returned (.tuple #[.slice none 0 0, .int .i64 90]) ∧ Below W.heap.size W w') := fun W h =>
    put_none kd rl ep p len cap ids q lb cb hk (by omega) (by omega) W (HIW.out W h).1
  have HO : Hid (∀ W, Below wa.heap.size wa W → Calls Try.prog 16 #[.slice p1 len1 cap1] W (OfAll W b)) := fun W h => (of_env p1 len1 cap1 b (by omega) W (HIW.out W h).2.2).mono fun _ _ h => h.all
  have HSb : Hid (∀ W, Below wa.heap.size wa W → (convert 29 9 (.slice p1 len1 cap1)).run Try.prog W = .ok (.string (strOf b)) W) := fun W h => (str_of_bytes (HIW.out W h).2.2).here
  have Hb256 : Hid (∀ z ∈ b, z < 256) := hb.2.2.2.1
  have HErr : Hid (oErr b = 90) := hErr
  clear hI hJ hb hwa hk hErr
  go_enter Try.func6, Try.ntmps6
  go_wp2_with (first
    | (go_at_call 7; rw [HWA.out]; refine (awake_any wa).mono ?_; rintro e w1 ⟨rfl, hb1⟩; have hr1 := HS.out w1 hb1; have x0 := hr1.cell (i := 0) rfl; have x1 := hr1.cell (i := 1) rfl; have x2 := hr1.cell (i := 2) rfl; have x3 := hr1.cell (i := 3) rfl; have x4 := hr1.cell (i := 4) rfl; clear hr1)
    | (go_at_call 11; refine (HF.out w1).mono ?_; rintro e w2 ⟨rfl, hb2⟩; have hB2 : Below wa.heap.size wa w2 := hb1.trans (hb2.mono hb1.size); clear hb1 hb2 x0 x1 x2 x3 x4; have hr1 := HS.out w2 hB2; have x0 := hr1.cell (i := 0) rfl; have x1 := hr1.cell (i := 1) rfl; have x2 := hr1.cell (i := 2) rfl; have x3 := hr1.cell (i := 3) rfl; have x4 := hr1.cell (i := 4) rfl; clear hr1; have HP2 := HP.out w2 hB2)
    | (go_at_call 12; refine HP2.mono ?_; clear HP2; rintro e w3 ⟨rfl, hb3⟩; have hB3 : Below wa.heap.size wa w3 := hB2.trans (hb3.mono hB2.size); have HO3 : Hid (Calls Try.prog 16 #[.slice none 0 0] w3 (OfAll w3 [])) := (of_env none 0 0 [] (by omega) w3 (noBytes w3)).mono (fun _ _ h => h.all); clear hb3 hB2 x0 x1 x2 x3 x4)
    | (go_at_call 16; refine HO3.out.mono ?_; clear HO3; rintro e w4 ⟨p4, l4, c4, q4, m4, d4, rfl, hI4, hJ4, hb4⟩; have hB4 : Below wa.heap.size wa w4 := hB3.trans (hb4.mono hB3.size); clear hI4 hJ4 hb4 hB3)
    | ((with_reducible show wpList _ _ _ (Oper.mk _ (Op.store 31 (.tmp 7) (.tmp 31)) _ _ _ _ :: _) _ _); refine wpList_store_Row rfl 31 (.tmp 7) (.tmp 31) rfl [Value.int .i64 (oKd [] : Nat), .int .u32 (oRl [] : Nat), .int .u32 (oEp [] : Nat), .slice p4 l4 c4, .slice q4 m4 d4] rfl rfl (Row.new w4 31 #[.int .i64 0, .int .u32 0, .int .u32 0, .slice none 0 0, .slice none 0 0]) size31 rfl (env_one _ _ _ _ _ _ _ _ _) ?_; have hr := (Row.new w4 31 #[.int .i64 0, .int .u32 0, .int .u32 0, .slice none 0 0, .slice none 0 0]).sets_all (vs := [Value.int .i64 (oKd [] : Nat), .int .u32 (oRl [] : Nat), .int .u32 (oEp [] : Nat), .slice p4 l4 c4, .slice q4 m4 d4]) rfl; have hb : Below w4.heap.size w4 ((w4.alloc (.cells #[.int .i64 0, .int .u32 0, .int .u32 0, .slice none 0 0, .slice none 0 0] 31)).setCells w4.heap.size 0 [Value.int .i64 (oKd [] : Nat), .int .u32 (oRl [] : Nat), .int .u32 (oEp [] : Nat), .slice p4 l4 c4, .slice q4 m4 d4]) := below_setCells (Nat.le_refl _) _ _ ((Below.refl _ w4).alloc (Nat.le_refl _) _); generalize (w4.alloc (.cells #[.int .i64 0, .int .u32 0, .int .u32 0, .slice none 0 0, .slice none 0 0] 31)).setCells w4.heap.size 0 [Value.int .i64 (oKd [] : Nat), .int .u32 (oRl [] : Nat), .int .u32 (oEp [] : Nat), .slice p4 l4 c4, .slice q4 m4 d4] = w5 at *; have hB5 : Below wa.heap.size wa w5 := hB4.trans (hb.mono hB4.size); have HO5 : Hid (Calls Try.prog 16 #[.slice p1 len1 cap1] w5 (OfAll w5 b)) := HO.out w5 hB5; clear hr hb hB4; simp only [Act.put])
    | (go_at_call 16; refine HO5.out.mono ?_; clear HO5; rintro e w7 ⟨p7, l7, c7, q7, m7, d7, rfl, hI7, hJ7, hb7⟩; rw [HErr.out]; have HI7 : Hid (IsIds w7.heap.size w7 p7 l7 c7 (oIds b)) := hI7; have HJ7 : Hid (IsBytes w7.heap.size w7 q7 m7 d7 (oBs b)) := hJ7; have hB7 : Below wa.heap.size wa w7 := hB5.trans (hb7.mono hB5.size); clear hI7 hJ7 hb7 hB5)
    | ((with_reducible show wpList _ _ _ (Oper.mk _ (Op.store 31 (.tmp 9) (.tmp 48)) _ _ _ _ :: _) _ _); refine wpList_store_Row rfl 31 (.tmp 9) (.tmp 48) rfl [Value.int .i64 (oKd b : Nat), .int .u32 (oRl b : Nat), .int .u32 (oEp b : Nat), .slice p7 l7 c7, .slice q7 m7 d7] rfl rfl (Row.new w7 31 #[.int .i64 0, .int .u32 0, .int .u32 0, .slice none 0 0, .slice none 0 0]) size31 rfl (env_one _ _ _ _ _ _ _ _ _) ?_; have hr := (Row.new w7 31 #[.int .i64 0, .int .u32 0, .int .u32 0, .slice none 0 0, .slice none 0 0]).sets_all (vs := [Value.int .i64 (oKd b : Nat), .int .u32 (oRl b : Nat), .int .u32 (oEp b : Nat), .slice p7 l7 c7, .slice q7 m7 d7]) rfl; have hb : Below w7.heap.size w7 ((w7.alloc (.cells #[.int .i64 0, .int .u32 0, .int .u32 0, .slice none 0 0, .slice none 0 0] 31)).setCells w7.heap.size 0 [Value.int .i64 (oKd b : Nat), .int .u32 (oRl b : Nat), .int .u32 (oEp b : Nat), .slice p7 l7 c7, .slice q7 m7 d7]) := below_setCells (Nat.le_refl _) _ _ ((Below.refl _ w7).alloc (Nat.le_refl _) _); generalize (w7.alloc (.cells #[.int .i64 0, .int .u32 0, .int .u32 0, .slice none 0 0, .slice none 0 0] 31)).setCells w7.heap.size 0 [Value.int .i64 (oKd b : Nat), .int .u32 (oRl b : Nat), .int .u32 (oEp b : Nat), .slice p7 l7 c7, .slice q7 m7 d7] = w8 at *; have hB8 : Below wa.heap.size wa w8 := hB7.trans (hb.mono hB7.size); have HI8 : Hid (IsIds w8.heap.size w8 p7 l7 c7 (oIds b)) := (HI7.out.below hb).mono hb.size; have HJ8 : Hid (IsBytes w8.heap.size w8 q7 m7 d7 (oBs b)) := (HJ7.out.below hb).mono hb.size; have z0 := hr.cell (i := 0) rfl; have z1 := hr.cell (i := 1) rfl; have z2 := hr.cell (i := 2) rfl; have z3 := hr.cell (i := 3) rfl; have z4 := hr.cell (i := 4) rfl; have HZ8 := half2_any b Hb256.out p7 l7 c7 q7 m7 d7 w8 HI8.out HJ8.out; clear hr hb hB7 HI7 HJ7; simp only [Act.put])
    | (go_at_call 12; refine HZ8.mono ?_; clear HZ8; rintro e w9 ⟨v9, E9, rfl, hb9, h9, ⟨q9, k9, c9, hv9⟩⟩; subst hv9; have hB9 : Below wa.heap.size wa w9 := hB8.trans (hb9.mono hB8.size); clear hb9 hB8 z0 z1 z2 z3 z4 h9))
  go_ret
  exact ⟨rfl, HBA.out.trans (hB9.mono HBA.out.size)⟩

set_option maxRecDepth 100000 in
set_option maxHeartbeats 1000000 in
/-- Where one of them is not small. -/
theorem back_great (kd : Int) (rl ep : Nat) (p : Option Addr) (len cap : Nat) (q : Option Addr) (lb cb : Nat) (p1 : Option Addr) (len1 cap1 : Nat) (h : ¬ ((len ≤ 40 ∧ lb ≤ 1000) ∧ len1 ≤ 2000)) (w : World) :
    Calls Try.prog 6 #[.agg #[.int .i64 kd, .int .u32 (rl : Nat), .int .u32 (ep : Nat), .slice p len cap, .slice q lb cb], .slice p1 len1 cap1] w fun e w' => e = .returned (.bool true) ∧ Below w.heap.size w w' := by
  obtain ⟨wa, hwa⟩ : ∃ wa, w.alloc (.cells #[.int .i64 kd, .int .u32 (rl : Nat), .int .u32 (ep : Nat), .slice p len cap, .slice q lb cb] 31) = wa := ⟨_, rfl⟩
  have HBA : Hid (Below w.heap.size w wa) := by rw [← hwa]; exact (Below.refl _ w).alloc (Nat.le_refl _) _
  have HWA : Hid (w.alloc (.cells #[.int .i64 kd, .int .u32 (rl : Nat), .int .u32 (ep : Nat), .slice p len cap, .slice q lb cb] 31) = wa) := hwa
  have HRE : Hid (Row wa w.heap.size 31 [.int .i64 kd, .int .u32 (rl : Nat), .int .u32 (ep : Nat), .slice p len cap, .slice q lb cb]) := by rw [← hwa]; exact Row.new w 31 _
  have HF : Hid (∀ W, Calls Try.prog 11 #[.agg #[.int .i64 kd, .int .u32 (rl : Nat), .int .u32 (ep : Nat), .slice p len cap, .slice q lb cb]] W fun e w' => e = .returned (.bool (decide (len ≤ 40 ∧ lb ≤ 1000))) ∧ Below W.heap.size W w') := fun W => few_any kd rl ep p len cap q lb cb W
  clear hwa
  by_cases h1 : len ≤ 40 ∧ lb ≤ 1000
  · have h2 : (2000 : Int) < (len1 : Int) := by omega
    rw [decide_eq_true h1] at HF
    clear h h1
    go_enter Try.func6, Try.ntmps6
    go_wp2_with (first
      | (go_at_call 7; rw [HWA.out]; refine (awake_any wa).mono ?_; rintro e w1 ⟨rfl, hb1⟩; have hr1 := HRE.out.later hb1; have d0 := hr1.cell (i := 0) rfl; have d1 := hr1.cell (i := 1) rfl; have d2 := hr1.cell (i := 2) rfl; have d3 := hr1.cell (i := 3) rfl; have d4 := hr1.cell (i := 4) rfl; clear hr1)
      | (go_at_call 11; refine (HF.out w1).mono ?_; rintro e w2 ⟨rfl, hb2⟩; have hB2 : Below wa.heap.size wa w2 := hb1.trans (hb2.mono hb1.size); clear hb1 hb2 d0 d1 d2 d3 d4))
    go_ret
    exact ⟨rfl, HBA.out.trans (hB2.mono HBA.out.size)⟩
  · rw [decide_eq_false h1] at HF
    clear h h1
    go_enter Try.func6, Try.ntmps6
    go_wp2_with (first
      | (go_at_call 7; rw [HWA.out]; refine (awake_any wa).mono ?_; rintro e w1 ⟨rfl, hb1⟩; have hr1 := HRE.out.later hb1; have d0 := hr1.cell (i := 0) rfl; have d1 := hr1.cell (i := 1) rfl; have d2 := hr1.cell (i := 2) rfl; have d3 := hr1.cell (i := 3) rfl; have d4 := hr1.cell (i := 4) rfl; clear hr1)
      | (go_at_call 11; refine (HF.out w1).mono ?_; rintro e w2 ⟨rfl, hb2⟩; have hB2 : Below wa.heap.size wa w2 := hb1.trans (hb2.mono hb1.size); clear hb1 hb2 d0 d1 d2 d3 d4))
    go_ret
    exact ⟨rfl, HBA.out.trans (hB2.mono HBA.out.size)⟩

/-- EnvelBack -/
theorem envelBack_walk (kd : Int) (rl ep : Nat) (p : Option Addr) (len cap : Nat) (ids : List (List Nat)) (q : Option Addr) (lb cb : Nat) (bs : List Nat) (p1 : Option Addr) (len1 cap1 : Nat) (b : List Nat) (w : World) (hrl : rl < 4294967296) (hep : ep < 4294967296) (hI : IsIds w.heap.size w p len cap ids) (hJ : IsBytes w.heap.size w q lb cb bs) (hb : IsBytes w.heap.size w p1 len1 cap1 b) :
    Calls Try.prog 6 #[.agg #[.int .i64 kd, .int .u32 (rl : Nat), .int .u32 (ep : Nat), .slice p len cap, .slice q lb cb], .slice p1 len1 cap1] w fun e w' => e = .returned (.bool true) ∧ Below w.heap.size w w' := by
  by_cases h : (len ≤ 40 ∧ lb ≤ 1000) ∧ len1 ≤ 2000
  · have hErr : oErr b = 0 ∨ oErr b = 90 := by unfold oErr; split <;> simp
    cases hk : okKind kd && riseB ids with
    | false =>
      rcases hErr with hErr | hErr
      · exact back_no0 kd rl ep p len cap ids q lb cb bs p1 len1 cap1 b hk h.1.1 h.1.2 h.2 w hI hJ hb hErr
      · exact back_no9 kd rl ep p len cap ids q lb cb bs p1 len1 cap1 b hk h.1.1 h.1.2 h.2 w hI hJ hb hErr
    | true =>
      rw [Bool.and_eq_true] at hk
      obtain ⟨k, rfl⟩ : ∃ k : Nat, kd = (k : Int) := ⟨kd.toNat, by have := hk.1; simp [okKind] at this; omega⟩
      rcases hErr with hErr | hErr
      · exact back_ok0 k rl ep p len cap ids q lb cb bs p1 len1 cap1 b hk.1 hk.2 hrl hep h.1.1 h.1.2 h.2 w hI hJ hb hErr
      · exact back_ok9 k rl ep p len cap ids q lb cb bs p1 len1 cap1 b hk.1 hk.2 hrl hep h.1.1 h.1.2 h.2 w hI hJ hb hErr
  · exact back_great kd rl ep p len cap q lb cb p1 len1 cap1 h w
end Go.Proofs.Ytbaokodhoiledaa
