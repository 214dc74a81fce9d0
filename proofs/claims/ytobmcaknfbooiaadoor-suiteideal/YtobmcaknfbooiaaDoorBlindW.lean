/-
  What SuiteBlind answers: true, whatever the draws, the key, the words, the texts and the byte. Nothing that lay before the call has turned.
-/
import Derived.Test.YtobmcaknfbooiaaDoorSuiteSeal
import Derived.Test.YtobmcaknfbooiaaDoorArgs2
import Derived.Laws.BitsAllLaws
namespace Go.Proofs.YtobmcaknfbooiaaDoor
open Classical
open Go.RowKit Go.Shelf

/-- Bytes, each turned by one byte. -/
def turnL (y : Nat) (p : List Nat) : List Nat := p.map (· ^^^ y)
theorem turnL_length (y : Nat) (p : List Nat) : (turnL y p).length = p.length := by simp [turnL]
theorem turnL_inj {y : Nat} {p q : List Nat} (h : turnL y p = turnL y q) : p = q := by
  have : ∀ z, turnL y (turnL y z) = z := fun z => by
    unfold turnL
    rw [List.map_map]
    refine (List.map_congr_left (fun a _ => ?_)).trans (List.map_id z)
    show (a ^^^ y) ^^^ y = a
    rw [Nat.xor_assoc, Nat.xor_self, Nat.xor_zero]
  rw [← this p, h, this q]
theorem turnL_bytes {y : Nat} (hy : y < 256) {p : List Nat} (hp : ∀ z ∈ p, z < 256) : ∀ z ∈ turnL y p, z < 256 := fun z hz => by
  obtain ⟨a, ha, rfl⟩ := List.mem_map.1 hz
  exact Nat.xor_lt_two_pow (n := 8) (hp a ha) hy
theorem strOf_inj {a b : List Nat} (ha : ∀ z ∈ a, z < 256) (hb : ∀ z ∈ b, z < 256) (h : strOf a = strOf b) : a = b := by
  have := strOf_eq a b ha hb
  rw [h] at this
  simp at this
  exact this

/-- Two suites have answered alike, text by text. -/
def Alike (k : List Nat) (ad : ByteArray) (y : Nat) (Ta Tb : List Value → Option (List Nat)) : Prop := ∀ p : List Nat, (∀ z ∈ p, z < 256) → Ta (askedL k ad (strOf p)) = Tb (askedL k ad (strOf (turnL y p)))

theorem Alike.seal {k : List Nat} {ad : ByteArray} {y : Nat} {Ta Tb : List Value → Option (List Nat)} (h : Alike k ad y Ta Tb) (hy : y < 256) (zs : List Nat) (n : Nat) {p : List Nat} (hp : ∀ z ∈ p, z < 256) :
    sealE Ta zs (askedL k ad (strOf p)) n = sealE Tb zs (askedL k ad (strOf (turnL y p))) n ∧ sealC Ta zs (askedL k ad (strOf p)) n = sealC Tb zs (askedL k ad (strOf (turnL y p))) n ∧ sealZ Ta zs (askedL k ad (strOf p)) n = sealZ Tb zs (askedL k ad (strOf (turnL y p))) n ∧
      Alike k ad y (sealT Ta zs (askedL k ad (strOf p)) n) (sealT Tb zs (askedL k ad (strOf (turnL y p))) n) := by
  have hT := h p hp
  cases hb : Tb (askedL k ad (strOf (turnL y p))) with
  | some ct =>
    rw [hb] at hT
    unfold sealE sealC sealZ sealT
    rw [hT, hb]
    exact ⟨rfl, rfl, rfl, h⟩
  | none =>
    rw [hb] at hT
    unfold sealE sealC sealZ sealT
    rw [hT, hb]
    by_cases hle : n ≤ zs.length
    · simp only [hle, if_true, true_and]
      intro q hq
      by_cases e : q = p
      · subst e; simp
      · have e1 : askedL k ad (strOf q) ≠ askedL k ad (strOf p) := fun e' => e (strOf_inj hq hp (askedL_inj rfl e').2.2)
        have e2 : askedL k ad (strOf (turnL y q)) ≠ askedL k ad (strOf (turnL y p)) := fun e' => e (turnL_inj (strOf_inj (turnL_bytes hy hq) (turnL_bytes hy hp) (askedL_inj rfl e').2.2))
        simp only [e1, e2, if_false]
        exact h q hq
    · simp only [hle, if_false, true_and]
      exact h

/-- A new ideal suite. -/
theorem FreshAt.ideal {W : World} {n S t Q : Nat} {zs : List Nat} (h : FreshAt W n S (some ⟨t, 0, none⟩)) (hS : S = n + 7) (hs : n + 8 ≤ W.heap.size) (hT : TapeAt W t Q zs) (hQ : Row W Q 5 (u8s zs)) (hlong : zs.length ≤ 70000) :
    IdealAt W [S, n + 6, t, Q, n + 4, n + 5] S (n + 6) t Q (n + 4) (n + 5) zs (fun _ => none) (fun _ => none) (fun _ => none) (fun _ => []) 0 := by
  refine ⟨fun k hk => ?_, ⟨_, h.suite⟩, ⟨_, _, h.drawn⟩, hT, ⟨_, hQ⟩, hlong, by simp, by omega, h.seals, fun c ct hc => (by cases hc), fun c _ => rfl, ⟨h.asked, by simp, fun s v hv => (by cases hv), fun s _ => rfl, fun s => ⟨fun c hc => (by cases hc), Nat.le_refl _⟩, fun s s' v v' b hv => (by cases hv)⟩⟩
  have := hT.lt
  have := hQ.lt
  simp only [List.mem_cons, List.not_mem_nil, or_false] at hk
  rcases hk with rfl | rfl | rfl | rfl | rfl | rfl <;> omega

/-- One byte of a row that is owned is turned. -/
theorem own_set {W : World} {n₀ : Nat} {q : Option Addr} {n c : Nat} {zs : List Nat} (h : Own n₀ W (.slice q n c) zs) {j : Nat} (hj : j < n) :
    ∃ g, q = some ⟨g, 0, none⟩ ∧ n₀ ≤ g ∧ W.cell? ⟨g, j, none⟩ = some (.int .u8 (zs.getD j 0 : Nat)) ∧ W.frozen? ⟨g, j, none⟩ = false ∧ ∀ z : Nat, Own n₀ (W.setCell ⟨g, j, none⟩ (.int .u8 (z : Nat))) (.slice q n c) (zs.set j z) := by
  obtain ⟨q', c', e⟩ := slice_of_row h
  have hl : zs.length = n := by cases e; rfl
  rcases h.2 with ⟨e', h0⟩ | ⟨g, cap, cur, e', hg, hgg, h1, h2, h3, h4⟩
  · cases e'; omega
  · cases e'
    have hr : Row W g 5 cur.toList := by unfold Row; rw [Array.toArray_toList]; exact hgg
    have hc : cur.toList[j]? = some (.int .u8 (zs.getD j 0 : Nat)) := by
      have : (cur.toList.take (zs.length * 1))[j]? = some (.int .u8 (zs.getD j 0 : Nat)) := by rw [h4]; exact u8s_at (by omega)
      rw [List.getElem?_take, if_pos (by omega)] at this
      exact this
    refine ⟨g, rfl, hg, hr.cell hc, hr.frozen j, fun z => ?_⟩
    have hr' := hr.set j (.int .u8 (z : Nat))
    refine ⟨by simp [u8s], .inr ⟨g, c, (cur.toList.set j (.int .u8 (z : Nat))).toArray, by simp, hg, hr', by simpa using h1, h2, by simpa using h3, ?_⟩⟩
    rw [List.length_set, List.take_set, h4]
    simp [u8s, List.map_set]

theorem own_buts {A B : World} {n₀ : Nat} {F : List Nat} {v : Value} {zs : List Nat} (h : Own n₀ A v zs) (hb : Buts F A.heap.size A B) (hF : ∀ b, v.ownBlock = some b → b ∉ F) : Own n₀ B v zs := by
  refine ⟨h.1, ?_⟩
  rcases h.2 with hn | ⟨g, cap, cur, rfl, hg, hgg, rest⟩
  · exact .inl hn
  · exact .inr ⟨g, cap, cur, rfl, hg, (hb.block g (Array.getElem?_eq_some_iff.1 hgg).1 (hF g rfl)).trans hgg, rest⟩
theorem own_block {A : World} {n₀ : Nat} {v : Value} {zs : List Nat} (h : Own n₀ A v zs) : ∀ b, v.ownBlock = some b → n₀ ≤ b := fun b hb => by
  rcases h.2 with ⟨rfl, _⟩ | ⟨g, cap, cur, rfl, hg, _⟩
  · simp [Value.ownBlock] at hb
  · simp [Value.ownBlock] at hb; omega
theorem sizeN_pos {n : Nat} (h : n ≤ 60000) : 0 < sizeN (n : Int) := by
  have := bucketN_pos (z := (n : Int)) (by omega) (by omega)
  unfold sizeN
  rw [if_neg (by omega)]
  omega

/-- The texts so far turned. -/
def halfL (y : Nat) (p : List Nat) (j : Nat) : List Nat := turnL y (p.take j) ++ p.drop j
theorem halfL_zero (y : Nat) (p : List Nat) : halfL y p 0 = p := by simp [halfL, turnL]
theorem halfL_all (y : Nat) (p : List Nat) : halfL y p p.length = turnL y p := by simp [halfL]
theorem halfL_length (y : Nat) (p : List Nat) (j : Nat) : (halfL y p j).length = p.length := by simp [halfL, turnL]; omega
theorem halfL_at (y : Nat) (p : List Nat) {j : Nat} (hj : j < p.length) : (halfL y p j).getD j 0 = p.getD j 0 := by
  have hl : (turnL y (p.take j)).length = j := by simp [turnL]; omega
  simp only [halfL, List.getD_eq_getElem?_getD]
  rw [List.getElem?_append_right (by omega), hl, Nat.sub_self, List.getElem?_drop, Nat.add_zero]
theorem halfL_set (y : Nat) (p : List Nat) {j : Nat} (hj : j < p.length) : (halfL y p j).set j (p.getD j 0 ^^^ y) = halfL y p (j + 1) := by
  have hl : (turnL y (p.take j)).length = j := by simp [turnL]; omega
  unfold halfL
  rw [List.set_append_right _ _ (by omega), hl, Nat.sub_self, List.drop_eq_getElem_cons hj, List.set_cons_zero, List.take_succ_eq_append_getElem hj]
  simp only [turnL, List.map_append, List.map_cons, List.map_nil, List.getD_eq_getElem?_getD, List.getElem?_eq_getElem hj, Option.getD_some, List.append_assoc, List.cons_append, List.nil_append]

/-- The two suites, round by round. -/
def BlindRel (w : World) (k : List Nat) (ad : ByteArray) (y Sa Da ta Qa ma na Sb Db tb Qb mb nb K : Nat) (wr : World) : Prop :=
  ∃ Fa Fb zs fa ga fb gb Ta Tb La Lb, IdealAt wr Fa Sa Da ta Qa ma na zs fa ga Ta La K ∧ IdealAt wr Fb Sb Db tb Qb mb nb zs fb gb Tb Lb K ∧ (∀ x ∈ Fa, x ∉ Fb) ∧ (∀ x ∈ Fa, w.heap.size < x) ∧ (∀ x ∈ Fb, w.heap.size < x) ∧ Alike k ad y Ta Tb ∧ Row wr w.heap.size 24 (u8s k) ∧ Below w.heap.size w wr

set_option maxRecDepth 100000 in
set_option maxHeartbeats 1000000 in
theorem suiteBlind_some (a0 : Option Addr) (len0 cap0 : Nat) (z0 : List Nat) (k : List Nat) (a2 : Option Addr) (len2 cap2 : Nat) (z2 : List Nat) (a3 : Option Addr) (len3 cap3 : Nat) (ts : List (List Nat)) (y : Nat) (w : World)
    (hI0 : IsBytes w.heap.size w a0 len0 cap0 z0) (hk : IsKey32 k) (hI2 : IsBytes w.heap.size w a2 len2 cap2 z2) (hL : IsLists w.heap.size w a3 len3 cap3 ts) (hy : y < 256) (h0 : len0 ≤ 3000) (h2 : len2 ≤ 100) (h3 : len3 ≤ 10) :
    Calls Tryd.prog 4 #[.slice a0 len0 cap0, .agg (u8s k).toArray, .slice a2 len2 cap2, .slice a3 len3 cap3, .int .u8 (y : Nat)] w fun e w' => e = .returned (.bool true) ∧ Below w.heap.size w w' := by
  have i0 : ¬ (3000 : Int) < (len0 : Int) := by omega
  have i2 : ¬ (100 : Int) < (len2 : Int) := by omega
  have i3 : ¬ (10 : Int) < (len3 : Int) := by omega
  have HT : Hid (∀ W, Below w.heap.size w W → Calls Tryd.prog 9 #[.slice a0 len0 cap0] W fun e w' => ∃ B, e = .returned (.pointer (some ⟨B, 0, none⟩)) ∧ W.heap.size < B ∧ (TapeAt w' B W.heap.size z0 ∧ Row w' W.heap.size 5 (u8s z0)) ∧ Below W.heap.size W w') := fun W hW => new_any a0 len0 cap0 z0 (by omega) W (hI0.later hW)
  have HN : Hid (∀ t W, Calls Tryd.prog 8 #[.int .i64 1, .pointer t] W fun e w' => e = .returned (.pointer (some ⟨W.heap.size + 7, 0, none⟩)) ∧ FreshAt w' W.heap.size (W.heap.size + 7) t ∧ Below W.heap.size W w' ∧ w'.heap.size = W.heap.size + 8) := newIdeal_any
  obtain ⟨wb, hwb⟩ : ∃ wb, w.alloc (.cells (u8s k).toArray 24) = wb := ⟨_, rfl⟩
  have HWB : Hid (w.alloc (.cells (u8s k).toArray 24) = wb) := hwb
  have hbb : Below w.heap.size w wb := by rw [← hwb]; exact (Below.refl _ w).alloc (Nat.le_refl _) _
  have HRB : Hid (Row wb w.heap.size 24 (u8s k)) := by rw [← hwb]; exact Row.new' w 24 (u8s k)
  have c0 := hI0.2.1
  have c0' := hI0.2.2.1
  have c2 := hI2.2.1
  have c2' := hI2.2.2.1
  have hl3 : len3 ≤ 9223372036854775807 := by omega
  have l0 := hI0.1
  have HKl : Hid ((u8s k).length = 32) := by show _ = _; rw [u8s_length, hk.1]
  have HI0 : Hid (IsBytes w.heap.size w a0 len0 cap0 z0) := hI0
  have HI2 : Hid (IsBytes w.heap.size w a2 len2 cap2 z2) := hI2
  have HL : Hid (IsLists w.heap.size w a3 len3 cap3 ts) := hL
  clear hwb hI0 hI2 hL
  go_enter Tryd.func4, Tryd.ntmps4
  go_wp2_with (first
    | (go_at_call 7; rw [HWB.out]; refine (awake_any _).mono ?_; rintro e w1 ⟨rfl, hb1⟩; have hB1 : Below w.heap.size w w1 := hbb.trans (hb1.mono hbb.size); have HR1 : Hid (Row w1 w.heap.size 24 (u8s k)) := Row.later HRB.out hb1; have HC1 : Hid (Calls Tryd.prog 9 #[.slice a0 len0 cap0] w1 fun e w' => ∃ B, e = .returned (.pointer (some ⟨B, 0, none⟩)) ∧ w1.heap.size < B ∧ (TapeAt w' B w1.heap.size z0 ∧ Row w' w1.heap.size 5 (u8s z0)) ∧ Below w1.heap.size w1 w') := HT.out w1 hB1; clear hb1)
    | (go_at_call 9; have h := HC1.out; clear HC1; refine h.mono ?_; clear h; rintro e w2 ⟨ta, rfl, hta, hT2, hb2⟩; have HT2 : Hid (TapeAt w2 ta w1.heap.size z0 ∧ Row w2 w1.heap.size 5 (u8s z0)) := hT2; clear hT2; have hB2 : Below w.heap.size w w2 := hB1.trans (hb2.mono hB1.size); have HC2 : Hid (Calls Tryd.prog 8 #[.int .i64 1, .pointer (some ⟨ta, 0, none⟩)] w2 fun e w' => e = .returned (.pointer (some ⟨w2.heap.size + 7, 0, none⟩)) ∧ FreshAt w' w2.heap.size (w2.heap.size + 7) (some ⟨ta, 0, none⟩) ∧ Below w2.heap.size w2 w' ∧ w'.heap.size = w2.heap.size + 8) := HN.out (some ⟨ta, 0, none⟩) w2)
    | (go_at_call 8; have h := HC2.out; clear HC2; refine h.mono ?_; clear h; rintro e w3 ⟨rfl, hF3, hb3, hs3⟩; have HF3 : Hid (FreshAt w3 w2.heap.size (w2.heap.size + 7) (some ⟨ta, 0, none⟩)) := hF3; clear hF3; have HS3 : Hid (w3.heap.size = w2.heap.size + 8) := hs3; clear hs3; have hB3 : Below w.heap.size w w3 := hB2.trans (hb3.mono hB2.size); have HC3 : Hid (Calls Tryd.prog 9 #[.slice a0 len0 cap0] w3 fun e w' => ∃ B, e = .returned (.pointer (some ⟨B, 0, none⟩)) ∧ w3.heap.size < B ∧ (TapeAt w' B w3.heap.size z0 ∧ Row w' w3.heap.size 5 (u8s z0)) ∧ Below w3.heap.size w3 w') := HT.out w3 hB3)
    | (go_at_call 9; have h := HC3.out; clear HC3; refine h.mono ?_; clear h; rintro e w4 ⟨tb, rfl, htb, hT4, hb4⟩; have HT4 : Hid (TapeAt w4 tb w3.heap.size z0 ∧ Row w4 w3.heap.size 5 (u8s z0)) := hT4; clear hT4; have hB4 : Below w.heap.size w w4 := hB3.trans (hb4.mono hB3.size); have HC4 : Hid (Calls Tryd.prog 8 #[.int .i64 1, .pointer (some ⟨tb, 0, none⟩)] w4 fun e w' => e = .returned (.pointer (some ⟨w4.heap.size + 7, 0, none⟩)) ∧ FreshAt w' w4.heap.size (w4.heap.size + 7) (some ⟨tb, 0, none⟩) ∧ Below w4.heap.size w4 w' ∧ w'.heap.size = w4.heap.size + 8) := HN.out (some ⟨tb, 0, none⟩) w4)
    | (go_at_call 8; have h := HC4.out; clear HC4; refine h.mono ?_; clear h; rintro e w5 ⟨rfl, hF5, hb5, hs5⟩; have HF5 : Hid (FreshAt w5 w4.heap.size (w4.heap.size + 7) (some ⟨tb, 0, none⟩)) := hF5; clear hF5; have HS5 : Hid (w5.heap.size = w4.heap.size + 8) := hs5; clear hs5; have hB5 : Below w.heap.size w w5 := hB4.trans (hb5.mono hB4.size)))
  have hrel0 : BlindRel w k (strOf z2) y (w2.heap.size + 7) (w2.heap.size + 6) ta w1.heap.size (w2.heap.size + 4) (w2.heap.size + 5) (w4.heap.size + 7) (w4.heap.size + 6) tb w3.heap.size (w4.heap.size + 4) (w4.heap.size + 5) 0 w5 := by
    have s3 := HS3.out
    have s5 := HS5.out
    have s1 : w.heap.size < w1.heap.size := Row.lt HR1.out
    have tal : ta < w2.heap.size := HT2.out.1.lt
    have tbl : tb < w4.heap.size := HT4.out.1.lt
    have s2 := hb2.size
    have s4 := hb4.size
    have b35 : Below w3.heap.size w3 w5 := hb4.trans (hb5.mono s4)
    have b25 : Below w2.heap.size w2 w5 := hb3.trans (b35.mono (by omega))
    have ia := FreshAt.ideal HF3.out rfl (by omega) (HT2.out.1.later hb3) (HT2.out.2.later hb3) (by omega)
    have ib := FreshAt.ideal HF5.out rfl (by omega) (HT4.out.1.later hb5) (HT4.out.2.later hb5) (by omega)
    refine ⟨_, _, z0, _, _, _, _, _, _, _, _, ia.later b35, ib, fun x hx hx' => ?_, fun x hx => ?_, fun x hx => ?_, fun p _ => rfl, Row.later HR1.out (hb2.trans (b25.mono s2)), hB5⟩
    · simp only [List.mem_cons, List.not_mem_nil, or_false] at hx hx'; omega
    · simp only [List.mem_cons, List.not_mem_nil, or_false] at hx; omega
    · simp only [List.mem_cons, List.not_mem_nil, or_false] at hx; omega
  have HRel0 := hrel0
  generalize w2.heap.size + 7 = Sa at *
  generalize w2.heap.size + 6 = Da at *
  generalize w2.heap.size + 4 = ma at *
  generalize w2.heap.size + 5 = na at *
  generalize w4.heap.size + 7 = Sb at *
  generalize w4.heap.size + 6 = Db at *
  generalize w4.heap.size + 4 = mb at *
  generalize w4.heap.size + 5 = nb at *
  generalize w1.heap.size = Qa at *
  generalize w3.heap.size = Qb at *
  have HR0 : Hid (BlindRel w k (strOf z2) y Sa Da ta Qa ma na Sb Db tb Qb mb nb 0 w5) := HRel0
  clear hrel0 HRel0 HF3 HF5 HS3 HS5 HT2 HT4 hb2 hb3 hb4 hb5 hta htb hB1 hB2 hB3 hB4 HR1 HT HN HRB HWB hbb
  go_loopw [44] (fun r wr => ∃ j : Nat, j ≤ len3 ∧ r = .int .i64 (j : Nat) ∧ Hid (BlindRel w k (strOf z2) y Sa Da ta Qa ma na Sb Db tb Qb mb nb j wr)) (fun r _ => len3 - (intOf r).toNat)
  case atStart => exact ⟨0, by omega, rfl, HR0.out⟩
  case round =>
    obtain ⟨W0, hW0⟩ : ∃ W0, W0 = wr := ⟨_, rfl⟩
    subst hW0
    obtain ⟨j, hj, rfl, hrel⟩ := hrel
    have hBw : Below w.heap.size w W0 := by obtain ⟨_, _, _, _, _, _, _, _, _, _, _, _, _, _, _, _, _, _, h⟩ := hrel.out; exact h
    by_cases hjn : j < len3
    · have hjz : (j : Int) < (len3 : Int) := by omega
      obtain ⟨b, off, rfl, hbl, pp, lp, cp, hcell, hIp⟩ : ∃ b off, a3 = some ⟨b, off, none⟩ ∧ b < w.heap.size ∧ ∃ q l c, W0.cell? ⟨b, off + j, none⟩ = some (.slice q l c) ∧ IsBytes w.heap.size W0 q l c (ts.getD j []) := by
        obtain ⟨_, _, h0 | ⟨b, off, e, hb, hc⟩⟩ := HL.out.below hBw
        · omega
        · exact ⟨b, off, e, hb, hc j hjn⟩
      obtain ⟨p, hp⟩ : ∃ p, ts.getD j [] = p := ⟨_, rfl⟩
      rw [hp] at hIp
      have lp1 := hIp.1
      have cp1 := hIp.2.1
      have cp2 := hIp.2.2.1
      by_cases hlong : 300 < lp
      · have hlz : (300 : Int) < (lp : Int) := by omega
        clear hIp
        go_wp2
        go_ret
        exact ⟨rfl, hBw⟩
      · have hlz : ¬ (300 : Int) < (lp : Int) := by omega
        have HIp : Hid (IsBytes w.heap.size W0 pp lp cp p) := hIp
        clear hIp
        go_wp2_with ((with_reducible show wpList _ _ _ (Oper.mk (some 52) _ _ _ _ _ :: _) _ _); refine wpList_append_bytes rfl _ _ rfl W0.heap.size _ [] rfl (Own.nil _ _) rfl HIp.out (by simp; omega) (Nat.le_refl _) ?_; intro vq wq hoq hgq; rw [List.nil_append] at hoq; obtain ⟨qq, cq, rfl⟩ := own_len hoq lp1; have HOQ : Hid (Own W0.heap.size wq (.slice qq lp cq) p) := hoq; have hbq : Below W0.heap.size W0 wq := (Below.refl _ W0).grown hgq (Nat.le_refl _) (fun k e => by cases e); clear hoq hgq)
        have hpz : ∀ z ∈ p, z < 256 := HIp.out.2.2.2.1
        have hgd : ∀ i, p.getD i 0 < 256 := getD_of_all hpz
        have hrelO : Hid (BlindRel w k (strOf z2) y Sa Da ta Qa ma na Sb Db tb Qb mb nb j W0) := hrel.out
        clear hrel
        go_loopw [55] (fun r wz => ∃ i : Nat, i ≤ lp ∧ r = .int .i64 (i : Nat) ∧ Hid (Own W0.heap.size wz (.slice qq lp cq) (halfL y p i)) ∧ Hid (Below W0.heap.size W0 wz)) (fun r _ => lp - (intOf r).toNat)
        case atStart => exact ⟨0, by omega, rfl, by rw [halfL_zero]; exact HOQ.out, hbq⟩
        case round =>
          obtain ⟨i, hi, rfl, hoi, hbi⟩ := hrel
          by_cases hil : i < lp
          · have hiz : (i : Int) < (lp : Int) := by omega
            obtain ⟨gq, rfl, hgq, hcq, hfq, hset⟩ := own_set hoi.out hil
            rw [halfL_at y p (by omega)] at hcq
            have hx := u8_xor_nat (p.getD i 0) y (hgd i) hy
            have hs := hset (p.getD i 0 ^^^ y)
            rw [halfL_set y p (by omega)] at hs
            have HSet : Hid (Own W0.heap.size (wr.setCell ⟨gq, i, none⟩ (.int .u8 ((p.getD i 0 ^^^ y : Nat) : Int))) (.slice (some ⟨gq, 0, none⟩) lp cq) (halfL y p (i + 1))) := hs
            clear hset hs
            generalize p.getD i 0 = x0 at *
            go_wp2
            go_roundw
            case rel => exact ⟨i + 1, by omega, by push_cast; rfl, HSet.out, hbi.out.setCell (p := ⟨gq, i, none⟩) hgq _⟩
            case measure => simp only [intOf]; omega
          · have hiz : ¬ (i : Int) < (lp : Int) := by omega
            obtain rfl : i = lp := by omega
            have hoF : Own W0.heap.size wr (.slice qq i cq) (turnL y p) := by
              have h := hoi.out
              rw [← lp1, halfL_all] at h
              rw [← lp1]
              exact h
            have hpq := hpz
            obtain ⟨Fa, Fb, zs, fa, ga, fb, gb, Ta, Tb, La, Lb, hIa, hIb, hdis, hFa, hFb, hal, hrk, _⟩ := hrelO.out
            have hBr : Below w.heap.size w wr := hBw.trans (hbi.out.mono hBw.size)
            have hn0 : 0 < sizeN (i : Int) := sizeN_pos (by omega)
            have hIa1 := hIa.later hbi.out
            have hIb1 := hIb.later hbi.out
            have hrk1 := hrk.later hbi.out
            have hsW := hbi.out.size
            obtain ⟨ea, ec, ez, hal'⟩ := hal.seal hy zs (sizeN (i : Int)) hpz
            have H1 : Hid (Calls Tryd.prog 11 #[.pointer (some ⟨Sa, 0, none⟩), .agg (u8s k).toArray, .slice a2 len2 cap2, .slice pp i cp] wr fun e w' => ∃ v, e = .returned (.tuple #[v, .int .i64 (sealE Ta zs (askedL k (strOf z2) (strOf p)) (sizeN (i : Int)))]) ∧ SealPost wr Fa Sa Da ta Qa ma na zs Ta La j (askedL k (strOf z2) (strOf p)) (sizeN (i : Int)) v w') :=
              seal_ideal Sa Da ta Qa ma na j _ Fa zs fa ga Ta La k hk a2 len2 cap2 z2 pp i cp p (by omega) (by omega) rfl hn0 (by omega) wr ((HI2.out.below hBr).mono hBr.size) ((HIp.out.below (hbi.out.mono hBw.size)).mono hBr.size) hIa1
            have H2 : Hid (∀ v w6, SealPost wr Fa Sa Da ta Qa ma na zs Ta La j (askedL k (strOf z2) (strOf p)) (sizeN (i : Int)) v w6 → Row w6 w.heap.size 24 (u8s k) ∧ Calls Tryd.prog 11 #[.pointer (some ⟨Sb, 0, none⟩), .agg (u8s k).toArray, .slice a2 len2 cap2, .slice qq i cq] w6 fun e w' => ∃ v', e = .returned (.tuple #[v', .int .i64 (sealE Ta zs (askedL k (strOf z2) (strOf p)) (sizeN (i : Int)))]) ∧
                (∃ s, (convert 25 9 v).run Tryd.prog w' = .ok (.string s) w' ∧ (convert 25 9 v').run Tryd.prog w' = .ok (.string s) w') ∧ BlindRel w k (strOf z2) y Sa Da ta Qa ma na Sb Db tb Qb mb nb (j + 1) w') := fun v w6 hp1 => by
              obtain ⟨o1, Fa', fa', ga', La', u1, u2, u3, u4, _⟩ := hp1
              have hIb6 := hIb1.keep (fun x hx => u4.block x (hIb1.lt x hx) (fun hm => hdis x hm hx)) u4.size
              have hoq6 := own_buts hoF u4 (fun x hx hm => by have h1 := own_block hoF x hx; have h2 := hIa.lt x hm; omega)
              have hrk6 := u4.row hrk1.lt (fun hm => Nat.lt_irrefl _ (hFa _ hm)) hrk1
              have hB6 : Below w.heap.size w w6 := hBr.trans (u4.below (by have := hrk1.lt; omega) (fun x hx => Nat.le_of_lt (hFa x hx)))
              refine ⟨hrk6, ?_⟩
              have hc := seal_ideal Sb Db tb Qb mb nb j (sizeN (i : Int)) Fb zs fb gb Tb Lb k hk a2 len2 cap2 z2 qq i cq (turnL y p) (by omega) (by omega) rfl hn0 (by omega) w6 ((HI2.out.below hB6).mono hB6.size) (hoq6.bytes (turnL_bytes hy hpz)) hIb6
              rw [← ea] at hc
              refine hc.mono ?_
              rintro e w7 ⟨v', rfl, hp2⟩
              obtain ⟨o2, Fb', fb', gb', Lb', x1, x2, x3, x4, _⟩ := hp2
              have hFb6 : ∀ x ∈ Fb, x < W0.heap.size := hIb.lt
              have hna : ∀ x ∈ Fa', x ∉ Fb := fun x hx hm => by
                rcases u1 x hx with h | h
                · exact hdis x h hm
                · have := hFb6 x hm; omega
              have hIa7 := u3.keep (fun x hx => x4.block x (u3.lt x hx) (hna x hx)) x4.size
              have o17 := own_buts o1 x4 (fun x hx hm => by have h1 := own_block o1 x hx; have h2 := hFb6 x hm; omega)
              have hrk7 := x4.row hrk6.lt (fun hm => Nat.lt_irrefl _ (hFb _ hm)) hrk6
              have hB7 : Below w.heap.size w w7 := hB6.trans (x4.below (by have := hrk6.lt; omega) (fun x hx => Nat.le_of_lt (hFb x hx)))
              have hs6 := hB6.size
              have hsr := u4.size
              have hsz : w.heap.size < wr.heap.size := hrk1.lt
              refine ⟨v', rfl, ⟨strOf (sealC Ta zs (askedL k (strOf z2) (strOf p)) (sizeN (i : Int))), (own_str o17).here, by rw [ec]; exact (own_str o2).here⟩, Fa', Fb', sealZ Ta zs (askedL k (strOf z2) (strOf p)) (sizeN (i : Int)), fa', ga', fb', gb', _, _, La', Lb', hIa7, by rw [ez]; exact x3, fun x hx hm => ?_, fun x hx => ?_, fun x hx => ?_, hal', hrk7, hB7⟩
              · rcases x1 x hm with h | h
                · exact hna x hx h
                · have := u3.lt x hx; omega
              · rcases u1 x hx with h | h
                · exact hFa x h
                · omega
              · rcases x1 x hx with h | h
                · exact hFb x h
                · omega
            have HRK : Hid (Row wr w.heap.size 24 (u8s k)) := hrk1
            clear hIa hIb hIa1 hIb1 hdis hFa hFb hal hal' hrk hrk1 ea ec ez hoF hoi hrelO hcell hn0
            generalize sealE Ta zs (askedL k (strOf z2) (strOf p)) (sizeN (i : Int)) = er at *
            go_wp2_with (first
              | ((with_reducible show wpList _ _ _ (Oper.mk (some 68) _ _ _ _ _ :: _) _ _); refine wpList_load_Row rfl 24 (.tmp 6) rfl rfl HRK.out Tryd.underlying24 (by rw [HKl.out]; exact size24) ?_; simp only [Act.put, List.setIfInBounds_toArray, List.set_cons_zero, List.set_cons_succ])
              | (go_at_call 11; have h := H1.out; clear H1; refine h.mono ?_; clear h; rintro e w6 ⟨v1, rfl, hp1⟩; have hpp := H2.out v1 w6 hp1; have HRK6 : Hid (Row w6 w.heap.size 24 (u8s k)) := hpp.1; have HC6 : Hid (Calls Tryd.prog 11 #[.pointer (some ⟨Sb, 0, none⟩), .agg (u8s k).toArray, .slice a2 len2 cap2, .slice qq i cq] w6 fun e w' => ∃ v', e = .returned (.tuple #[v', .int .i64 er]) ∧ (∃ s, (convert 25 9 v1).run Tryd.prog w' = .ok (.string s) w' ∧ (convert 25 9 v').run Tryd.prog w' = .ok (.string s) w') ∧ BlindRel w k (strOf z2) y Sa Da ta Qa ma na Sb Db tb Qb mb nb (j + 1) w') := hpp.2; clear hpp hp1 H2)
              | ((with_reducible show wpList _ _ _ (Oper.mk (some 76) _ _ _ _ _ :: _) _ _); refine wpList_load_Row rfl 24 (.tmp 6) rfl rfl HRK6.out Tryd.underlying24 (by rw [HKl.out]; exact size24) ?_; simp only [Act.put, List.setIfInBounds_toArray, List.set_cons_zero, List.set_cons_succ])
              | (go_at_call 11; have h := HC6.out; clear HC6; refine h.mono ?_; clear h; rintro e w7 ⟨v2, rfl, ⟨s, hs1, hs2⟩, hre⟩; have HRE : Hid (BlindRel w k (strOf z2) y Sa Da ta Qa ma na Sb Db tb Qb mb nb (j + 1) w7) := hre; clear hre))
            go_roundw
            case rel => exact ⟨j + 1, by omega, by push_cast; rfl, HRE.out⟩
            case measure => simp only [intOf]; omega
    · have hjz : ¬ (j : Int) < (len3 : Int) := by omega
      go_wp2
      go_ret
      exact ⟨rfl, hBw⟩

set_option maxRecDepth 100000 in
set_option maxHeartbeats 1000000 in
theorem suiteBlind_long (a0 : Option Addr) (len0 cap0 : Nat) (k : List Nat) (a2 : Option Addr) (len2 cap2 : Nat) (a3 : Option Addr) (len3 cap3 : Nat) (y : Nat) (w : World) (h : 3000 < len0 ∨ 100 < len2 ∨ 10 < len3) :
    Calls Tryd.prog 4 #[.slice a0 len0 cap0, .agg (u8s k).toArray, .slice a2 len2 cap2, .slice a3 len3 cap3, .int .u8 (y : Nat)] w fun e w' => e = .returned (.bool true) ∧ Below w.heap.size w w' := by
  have hb : Below w.heap.size w (w.alloc (.cells (u8s k).toArray 24)) := (Below.refl _ w).alloc (Nat.le_refl _) _
  have HA : Hid (Calls Tryd.prog 7 #[] (w.alloc (.cells (u8s k).toArray 24)) fun e w' => e = .returned (.bool true) ∧ Below w.heap.size w w') := (awake_any _).mono fun e w' ⟨h1, h2⟩ => ⟨h1, hb.trans (h2.mono hb.size)⟩
  by_cases h0 : 3000 < len0
  · have i0 : (3000 : Int) < (len0 : Int) := by omega
    clear h
    go_enter Tryd.func4, Tryd.ntmps4
    go_wp2_with (go_at_call 7; refine HA.out.mono ?_; rintro e w1 ⟨rfl, hb1⟩)
    go_ret
    exact ⟨rfl, hb1⟩
  · have i0 : ¬ (3000 : Int) < (len0 : Int) := by omega
    by_cases h2 : 100 < len2
    · have i2 : (100 : Int) < (len2 : Int) := by omega
      clear h
      go_enter Tryd.func4, Tryd.ntmps4
      go_wp2_with (go_at_call 7; refine HA.out.mono ?_; rintro e w1 ⟨rfl, hb1⟩)
      go_ret
      exact ⟨rfl, hb1⟩
    · have i2 : ¬ (100 : Int) < (len2 : Int) := by omega
      have i3 : (10 : Int) < (len3 : Int) := by omega
      clear h
      go_enter Tryd.func4, Tryd.ntmps4
      go_wp2_with (go_at_call 7; refine HA.out.mono ?_; rintro e w1 ⟨rfl, hb1⟩)
      go_ret
      exact ⟨rfl, hb1⟩

theorem suiteBlind_walk (a0 : Option Addr) (len0 cap0 : Nat) (z0 : List Nat) (k : List Nat) (a2 : Option Addr) (len2 cap2 : Nat) (z2 : List Nat) (a3 : Option Addr) (len3 cap3 : Nat) (ts : List (List Nat)) (y : Nat) (w : World)
    (hI0 : IsBytes w.heap.size w a0 len0 cap0 z0) (hk : IsKey32 k) (hI2 : IsBytes w.heap.size w a2 len2 cap2 z2) (hL : IsLists w.heap.size w a3 len3 cap3 ts) (hy : y < 256) :
    Calls Tryd.prog 4 #[.slice a0 len0 cap0, .agg (u8s k).toArray, .slice a2 len2 cap2, .slice a3 len3 cap3, .int .u8 (y : Nat)] w fun e w' => e = .returned (.bool true) ∧ Below w.heap.size w w' := by
  by_cases h : 3000 < len0 ∨ 100 < len2 ∨ 10 < len3
  · exact suiteBlind_long a0 len0 cap0 k a2 len2 cap2 a3 len3 cap3 y w h
  · exact suiteBlind_some a0 len0 cap0 z0 k a2 len2 cap2 z2 a3 len3 cap3 ts y w hI0 hk hI2 hL hy (by omega) (by omega) (by omega)

end Go.Proofs.YtobmcaknfbooiaaDoor
