/-
  A log that nobody made keeps nothing; one that is behind a crash neither: the law's walk.
-/
import Derived.Test.YtifjkkfienmdjaaAwS
namespace Go.Proofs.Ytifjkkfienmdjaa
open Go.RowKit Go.Shelf

theorem doW_struck {d : St} {i : Nat} {s : List Nat} {r : List (Nat × List Nat)} (hd : d.dead = false) (hi : i < d.ss.length) (hst : d.strikes = true) : (doW d ((i, s) :: r)).1 = 131 := by
  have he := wErr_live hd hi
  rw [doW, wErr_tear he hst, if_pos (by simp)]
theorem ws_first {f n at_ gen num : Nat} {b : List Nat} : ∃ x r, writesOf f n at_ gen num b = x :: r ∧ x ∈ writesOf f n at_ gen num b := by
  cases h : writesOf f n at_ gen num b with
  | nil => rw [writesOf_eq] at h; simp at h
  | cons x r => exact ⟨x, r, rfl, by simp⟩
theorem ws_in {f n at_ gen num : Nat} {b : List Nat} (hb : b.length ≤ 262144) (hf : at_ + spanN (b.length : Nat) ≤ n) : ∀ x ∈ writesOf f n at_ gen num b, x.1 < f + n := fun x hx => by
  have hsp := spanN_nat hb
  rw [writesOf_eq] at hx
  rcases List.mem_append.1 hx with h | h
  · exact (bodyW_gt hb x h).2 hf
  · rw [List.mem_singleton] at h; subst h; show f + at_ < f + n; omega
def dN : St := (newS 20 [(1, 0)]).write 0 zeros64
theorem dN_eq : dN = ⟨List.replicate 20 zeros64, [(1, 0)], 1, false⟩ := by
  have he : (newS 20 [(1, 0)]).err 0 = 0 := by decide
  rw [dN, write_eq_ok he (by decide)]
  rfl
theorem appN {gen : Nat} {zs : List Nat} (hz : zs.length ≤ 300) : ∃ d', appL dN ⟨0, 20, gen, 0, [], false⟩ zs = (131, d', ⟨0, 20, gen, 0, [], true⟩) := by
  have hsp := spanN_nat (n := zs.length) (by omega)
  obtain ⟨x, r, hw, hx⟩ := ws_first (f := 0) (n := 20) (at_ := 0) (gen := gen) (num := 0) (b := zs)
  have hin := ws_in (f := 0) (n := 20) (at_ := 0) (gen := gen) (num := 0) (b := zs) (by omega) (by omega) x hx
  have h131 : (doW dN (writesOf 0 20 0 gen 0 zs)).1 = 131 := by
    rw [hw]
    exact doW_struck (i := x.1) (s := x.2) (by rw [dN_eq]) (by rw [dN_eq]; show x.1 < (List.replicate 20 zeros64).length; rw [List.length_replicate]; omega) (by rw [dN_eq]; decide)
  refine ⟨(doW dN (writesOf 0 20 0 gen 0 zs)).2, ?_⟩
  rw [appL, if_neg (by simp), if_neg (by omega), if_neg (by show ¬ 20 < 0 + _; omega), if_pos (by show (doW dN (writesOf 0 20 0 gen 0 zs)).1 ≠ 0; rw [h131]; decide)]
  show ((doW dN (writesOf 0 20 0 gen 0 zs)).1, _, _) = _
  rw [h131]
  rfl
theorem crLow_of {F : List Nat} {W : World} {p g : Nat} {d : St} (h : DiskAt F W p g d) : CrLow W.heap.size W p 4 := by
  intro q len cap hc
  obtain ⟨h1, h2, h3, h4, h5, q', len', cap', h6, h7⟩ := h
  rw [h6.cell (i := 4) rfl] at hc
  cases hc
  rcases h7.2.2.2 with h | ⟨b, off, e, hl, _⟩
  · exact .inl h
  · exact .inr ⟨b, off, e, hl⟩

set_option maxRecDepth 100000 in
set_option maxHeartbeats 4000000 in
theorem slogNone_walk (q : Option Addr) (len cap : Nat) (zs : List Nat) (gen : Nat) (w : World) (hI : IsBytes w.heap.size w q len cap zs) (hgen : gen < 4294967296) : Calls Try.prog 7 #[.slice q len cap, .int .u32 (gen : Nat)] w fun e w' => e = .returned (.bool true) ∧ Below w.heap.size w w' := by
  have HA : Hid (Calls Try.prog 8 #[] w fun e w' => e = .returned (.bool true) ∧ Below w.heap.size w w') := awake_any w
  have HI : Hid (IsBytes w.heap.size w q len cap zs) := hI
  have HLn : Hid (zs.length = len) := hI.1
  by_cases hlong : (300 : Int) < (len : Int)
  · have g1 : decide ((300 : Int) < (len : Int)) = true := decide_eq_true hlong
    go_enter Try.func7, Try.ntmps7
    go_wp2_with (go_at_call 8; refine HA.out.mono ?_; rintro e w1 ⟨rfl, hb1⟩)
    go_ret
    exact ⟨rfl, hb1⟩
  have g1 : decide ((300 : Int) < (len : Int)) = false := decide_eq_false hlong
  have hl3 : len ≤ 300 := by omega
  obtain ⟨d', HApp⟩ : ∃ d', Hid (appL dN ⟨0, 20, gen, 0, [], false⟩ zs = (131, d', ⟨0, 20, gen, 0, [], true⟩)) := appN (by rw [HLn.out]; exact hl3)
  have HN : Hid (∀ (W : World) (b : Nat), Row W b 45 [.int .i64 1, .int .i64 0] → Calls Try.prog 17 #[.int .i64 20, .slice (some ⟨b, 0, none⟩) 1 1] W fun e w' => ∃ p g, e = .returned (.pointer (some ⟨p, 0, none⟩)) ∧ W.heap.size ≤ p ∧ W.heap.size ≤ g ∧ DiskAt [p, g] w' p g (newS 20 [(1, 0)]) ∧ Below W.heap.size W w') := fun W b hr => new_any 20 (cr := [(1, 0)]) ⟨rfl, Nat.le_refl _, by omega, .inr ⟨b, 0, rfl, hr.lt, by simp, hr.range⟩⟩ (by omega)
  have HF : Hid (∀ p g W, DiskAt [p, g] W p g (newS 20 [(1, 0)]) → Calls Try.prog 19 #[.pointer (some ⟨p, 0, none⟩), .int .i64 0, .int .i64 20, .int .u32 (gen : Nat)] W fun e w' => e = .returned (.int .i64 0) ∧ DiskAt [p, g] w' p g dN ∧ Buts [p, g] W.heap.size W w') := fun p g W h => by
    have := format_any h 0 20 gen (by omega) (by omega) (by decide)
    rw [show regB (newS 20 [(1, 0)]).ss.length 0 20 = true by decide, if_pos rfl, if_pos rfl, show (newS 20 [(1, 0)]).wErr 0 = 0 by decide] at this
    exact this
  have HO : Hid (∀ p g W, DiskAt [p, g] W p g dN → Calls Try.prog 12 #[.pointer (some ⟨p, 0, none⟩), .int .i64 0, .int .i64 20, .int .u32 (gen : Nat)] W fun e w' => ∃ L v, e = .returned (.tuple #[.pointer (some ⟨L, 0, none⟩), .int .i64 0]) ∧ W.heap.size ≤ L ∧ Below W.heap.size W w' ∧ MSt [p, g] W.heap.size w' L p g v dN ⟨0, 20, gen, 0, [], false⟩ ∧ (∀ k, v.ownBlock = some k → W.heap.size ≤ k)) := fun p g W h => by
    have := open_live h (crLow_of h) h.lt (Nat.le_refl _) 0 20 gen (by omega) (by rw [dN_eq]; decide) hgen (by rw [dN_eq]) (by rw [dN_eq]; decide)
    rw [scan_fresh (by rw [dN_eq]; decide)] at this
    exact this.mono fun e w' ⟨L, v, a1, a2, a3, a4, a5⟩ => ⟨L, v, a1, a2, a4, a5, a3⟩
  have HA1 : Hid (∀ p g L v (n₀ : Nat) (W : World), MSt [p, g] n₀ W L p g v dN ⟨0, 20, gen, 0, [], false⟩ → n₀ ≤ W.heap.size → Below w.heap.size w W → w.heap.size ≤ p → w.heap.size ≤ g → Calls Try.prog 21 #[.pointer (some ⟨L, 0, none⟩), .slice q len cap] W fun e w' => ∃ vq vc, e = .returned (.int .i64 131) ∧ w'.cell? ⟨L, 0, none⟩ = some (.bool false) ∧ w'.cell? ⟨L, 5, none⟩ = some (.slice vq 0 vc) ∧ L < w'.heap.size ∧ Buts (L :: p :: g :: ownL v) W.heap.size W w') := fun p g L v n₀ W h hn hb hp hg => by
    have hI2 := HI.out.below hb
    have := append_any h ⟨by show 0 ≤ _; omega, by show 20 ≤ _; omega, by show 0 ≤ 20; omega, hgen, by show 0 ≤ _; omega, by rw [dN_eq]; decide⟩ q len cap zs hI2 hb.size (fun hp0 b off e => by
      rcases HI.out.2.2.2.2 with h0 | ⟨b', off', e', hb', _⟩
      · omega
      · rw [e] at e'; cases e'; omega) (by omega) hn (by rw [dN_eq]; decide)
    refine this.mono ?_
    rintro e w' ⟨v', rfl, hs, hbu, _, _⟩
    rw [HApp.out] at hs ⊢
    obtain ⟨vq, vc, e⟩ := hs.log.2.slice
    exact ⟨vq, vc, rfl, hs.log.1.cell (i := 0) rfl, by have := hs.log.1.cell (i := 5) rfl; rw [e] at this; exact this, hs.lt.2.2, hbu⟩
  have HZn : Hid (∀ W : World, Row (W.alloc (.cells #[.bool false, .pointer none, .int .u32 0, .int .i64 0, .int .i64 0, .slice none 0 0] 59)) W.heap.size 59 [.bool false, .pointer none, .int .u32 0, .int .i64 0, .int .i64 0, .slice none 0 0]) := fun W => Row.new W 59 _
  go_enter Try.func7, Try.ntmps7
  go_wp2_with (first
    | (go_at_call 8; refine HA.out.mono ?_; rintro e w1 ⟨rfl, hb1⟩; obtain ⟨w2, hw2⟩ : ∃ w2, w1.alloc (.cells #[.bool false, .pointer none, .int .u32 0, .int .i64 0, .int .i64 0, .slice none 0 0] 59) = w2 := ⟨_, rfl⟩; have HW2 : Hid (w1.alloc (.cells #[.bool false, .pointer none, .int .u32 0, .int .i64 0, .int .i64 0, .slice none 0 0] 59) = w2) := hw2; have HR2 : Hid (Row w2 w1.heap.size 59 [.bool false, .pointer none, .int .u32 0, .int .i64 0, .int .i64 0, .slice none 0 0]) := (by rw [← hw2]; exact HZn.out w1); have hb2 : Below w1.heap.size w1 w2 := (by rw [← hw2]; exact (Below.refl _ _).alloc (Nat.le_refl _) _); clear hw2)
    | (rw [HW2.out])
    | (go_at_call 17; refine (HN.out _ w2.heap.size (Row.new w2 45 #[.int .i64 1, .int .i64 0])).mono ?_; rintro e w4 ⟨p, g, rfl, hp, hg, hD4, hb4⟩; have HD4 : Hid (DiskAt [p, g] w4 p g _) := hD4; clear hD4; rw [World.size_alloc] at hp hg; have hb24 : Below w2.heap.size w2 w4 := ((Below.refl _ w2).alloc (Nat.le_refl _) _).trans (hb4.mono (by simp)))
    | (go_at_call 19; refine (HF.out p g w4 HD4.out).mono ?_; rintro e w5 ⟨rfl, hD5, hb5⟩; have HD5 : Hid (DiskAt [p, g] w5 p g dN) := hD5; clear hD5)
    | (go_at_call 12; refine (HO.out p g w5 HD5.out).mono ?_; rintro e w6 ⟨L, v, rfl, hL, hb6, hM6, hv6⟩; have HM6 : Hid (MSt [p, g] w5.heap.size w6 L p g v dN _) := hM6; clear hM6; have HB5 : Hid (Below w2.heap.size w2 w5) := hb24.trans (hb5.below hb24.size (by simp; omega)); have HB6 : Hid (Below w2.heap.size w2 w6) := HB5.out.trans (hb6.mono HB5.out.size); have s25 := HB5.out.size; have s56 := hb6.size)
    | (go_at_call 21; have _ := hc10; refine (append_unsound L q len cap w10 hc10).mono ?_; rintro e w11 ⟨rfl, hb11⟩; have hc511 : w11.cell? ⟨L, 5, none⟩ = some (.slice vq 0 vc) := (hb11.cell (p := ⟨L, 5, none⟩) hL10).trans hc510)
    | (go_at_call 21; have _ := hb9; refine (HA1.out p g L v w5.heap.size w9 (HM6.out.later hb69) (by have := hb69.size; omega) HBw9.out (by have := hb1.size; have := hb2.size; omega) (by have := hb1.size; have := hb2.size; omega)).mono ?_; rintro e w10 ⟨vq, vc, rfl, hc10, hc510, hL10, hb10⟩)
    | (go_at_call 21; have _ := hb7; refine (append_unsound w1.heap.size q len cap w7 hz7).mono ?_; rintro e w8 ⟨rfl, hb8⟩)
    | (go_at_call 21; refine (append_nil q len cap w6).mono ?_; rintro e w7 ⟨rfl, hb7⟩; have HB7 : Hid (Below w2.heap.size w2 w7) := HB6.out.trans (hb7.mono HB6.out.size); have hz7 : w7.cell? ⟨w1.heap.size, 0, none⟩ = some (.bool false) := (HR2.out.later HB7.out).cell (i := 0) rfl)
    | (go_at_call 26; have _ := hc511; refine (count_at hc511).mono ?_; rintro e wq ⟨rfl, hwq⟩; obtain rfl := hwq.symm; clear hwq)
    | (go_at_call 26; refine (count_none w8).mono ?_; rintro e wq ⟨rfl, hwq⟩; obtain rfl := hwq.symm; clear hwq; have HB8 : Hid (Below w2.heap.size w2 w8) := HB7.out.trans (hb8.mono HB7.out.size))
    | (go_at_call 15; have _ := HNl; refine (room_at (a := 0) (b := 0) hz3 hz4 (by omega) (by omega)).mono ?_; rintro e w9 ⟨rfl, hb9⟩; have hb69 : Below w6.heap.size w6 w9 := (hb7.trans (hb8.mono hb7.size)).trans (hb9.mono (Nat.le_trans hb7.size hb8.size)); have HBw9 : Hid (Below w.heap.size w w9) := (by have s1 := hb1.size; have s2 := hb2.size; exact ((hb1.trans (hb2.mono s1)).trans (HB8.out.mono (by omega))).trans (hb9.mono (by have := HB8.out.size; omega))))
    | (go_at_call 15; refine (room_none w8).mono ?_; rintro e wq ⟨rfl, hwq⟩; obtain rfl := hwq.symm; clear hwq; have HNl : True := trivial; have hz3 : w8.cell? ⟨w1.heap.size, 3, none⟩ = some (.int .i64 ((0 : Nat) : Int)) := (HR2.out.later HB8.out).cell (i := 3) rfl; have hz4 : w8.cell? ⟨w1.heap.size, 4, none⟩ = some (.int .i64 ((0 : Nat) : Int)) := (HR2.out.later HB8.out).cell (i := 4) rfl))
  go_ret
  refine ⟨rfl, ?_⟩
  have s1 := hb1.size
  have s2 := hb2.size
  have s9 := HBw9.out.size
  have s69 := hb69.size
  have b10 : Below w.heap.size w w10 := HBw9.out.trans (hb10.below s9 (fun x hx => by
    simp only [List.mem_cons] at hx
    rcases hx with rfl | rfl | rfl | h
    · omega
    · omega
    · omega
    · have := hv6 x (mem_ownL.1 h)
      omega))
  exact b10.trans (hb11.mono b10.size)
end Go.Proofs.Ytifjkkfienmdjaa
