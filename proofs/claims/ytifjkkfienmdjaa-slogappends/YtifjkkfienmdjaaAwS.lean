/-
  Append of any log; the law's awake.
-/
import Derived.Test.YtifjkkfienmdjaaApp3
import Derived.Test.YtifjkkfienmdjaaNew
import Derived.Lib.SlBytesConst
namespace Go.Proofs.Ytifjkkfienmdjaa
open Go.RowKit Go.Shelf

/-- Append -/
theorem append_any {F : List Nat} {n₀ m : Nat} {w : World} {L p g : Nat} {v : Value} {d : St} {l : Lg} (h : MSt F n₀ w L p g v d l) (hok : LgOk l d) (q : Option Addr) (len cap : Nat) (zs : List Nat) (hI : IsBytes m w q len cap zs) (hm : m ≤ w.heap.size) (hqn : 0 < len → ∀ b off, q = some ⟨b, off, none⟩ → b ≠ p ∧ b ≠ g) (hlen : len ≤ 60000) (hn₀ : n₀ ≤ w.heap.size) (hwr5 : d.wr ≤ 50000) :
    Calls Try.prog 21 #[.pointer (some ⟨L, 0, none⟩), .slice q len cap] w (MAppPost F n₀ w L p g v (appL d l zs)) := by
  have hspn := spanN_nat (n := len) (by omega)
  cases hbr : l.broken with
  | true =>
    have hc : w.cell? ⟨L, 0, none⟩ = some (.bool false) := by have := h.log.1.cell (i := 0) rfl; rw [hbr] at this; exact this
    refine (append_unsound L q len cap w hc).mono ?_
    rintro e w' ⟨rfl, hb⟩
    rw [appL, if_pos hbr]
    exact ⟨v, rfl, h.later hb, Buts.of_below hb (Nat.le_refl _), KeepT.of_below hb, fun k hk => .inl hk⟩
  | false =>
    by_cases hf : l.n < l.pos + spanN (len : Nat)
    · refine (append_full h hok hbr q len cap hlen hf).mono ?_
      rintro e w' ⟨rfl, hb⟩
      rw [appL, if_neg (by simp [hbr]), hI.1, if_neg (by omega), if_pos hf]
      exact ⟨v, rfl, h.later hb, Buts.of_below hb (Nat.le_refl _), KeepT.of_below hb, fun k hk => .inl hk⟩
    · exact callsIn_wide.1 (append_in 12 (Nat.le_refl _) h hok hbr q len cap zs hI hm hqn hlen hf hn₀ hwr5)
/-- Without a crash all is written. -/
theorem doW_calm : ∀ (ws : List (Nat × List Nat)) (d : St), d.cr = [] → d.dead = false → (∀ x ∈ ws, x.1 < d.ss.length) → (doW d ws).1 = 0 ∧ (doW d ws).2.dead = false
  | [], d, _, hd, _ => ⟨rfl, hd⟩
  | (i, s) :: r, d, hc, hd, hi => by
    have he := wErr_live hd (hi (i, s) (List.mem_cons_self ..))
    have hst : d.strikes = false := by unfold St.strikes; rw [hc]
    have e2 := write_eq_ok (s := s) he hst
    rw [Int.toNat_natCast] at e2
    rw [doW, wErr_ok he hst, if_neg (by simp), e2]
    exact doW_calm r _ hc hd (fun x hx => by show x.1 < (d.ss.set i s).length; rw [List.length_set]; exact hi x (List.mem_cons_of_mem _ hx))
/-- A formatted region has no records. -/
theorem scan_fresh {ss : List (List Nat)} {f n gen : Nat} (h : (ss.getD f []).getD 63 0 ≠ 165) : scan ss f n gen (n + 1) 0 [] = (0, []) := good_scan (recs := []) (e := 0) ⟨rfl, fun _ => h⟩ (Nat.lt_succ_self n)
theorem calm_new (n : Int) : (newS n []).strikes = false := rfl
def dA : St := (newS 4 []).write 0 zeros64
theorem dA_eq : dA = ⟨List.replicate 4 zeros64, [], 1, false⟩ := by
  have he : (newS 4 []).err 0 = 0 := by decide
  rw [dA, write_eq_ok he rfl]
  rfl
theorem appA : (appL dA ⟨0, 4, 1, 0, [], false⟩ [97]).1 = 0 ∧ (appL dA ⟨0, 4, 1, 0, [], false⟩ [97]).2.2.recs = [[97]] := by
  have hw := doW_calm (writesOf 0 4 0 1 0 [97]) dA (by rw [dA_eq]) (by rw [dA_eq]) (fun x hx => by
    rw [writesOf_eq] at hx
    rw [dA_eq]
    show x.1 < (List.replicate 4 zeros64).length
    rw [List.length_replicate]
    rcases List.mem_append.1 hx with h | h
    · have := (bodyW_gt (f := 0) (n := 4) (at_ := 0) (b := [97]) (by decide) x h).2 (by decide); omega
    · rw [List.mem_singleton] at h; subst h; decide)
  have e : appL dA ⟨0, 4, 1, 0, [], false⟩ [97] = (0, (doW dA (writesOf 0 4 0 1 0 [97])).2, ⟨0, 4, 1, 0 + spanN (([97] : List Nat).length : Nat), [] ++ [[97]], false⟩) := by
    rw [appL, if_neg (by simp), if_neg (by decide), if_neg (by decide), if_neg (by rw [show (([] : List (List Nat)).length) = 0 from rfl]; simp only [ne_eq, Decidable.not_not]; exact hw.1)]
    rfl
  rw [e]
  exact ⟨rfl, rfl⟩

set_option maxRecDepth 100000 in
set_option maxHeartbeats 4000000 in
/-- awake -/
theorem awake_any (w : World) : Calls Try.prog 8 #[] w fun e w' => e = .returned (.bool true) ∧ Below w.heap.size w w' := by
  have hcv : ∀ w : World, (convert 25 25 (.slice (some ⟨w.heap.size, 0, none⟩) 1 1)).run Try.prog (w.alloc (.cells #[.int .u8 97] 5)) = .ok (.slice (some ⟨w.heap.size, 0, none⟩) 1 1) (w.alloc (.cells #[.int .u8 97] 5 (1, 2))) := fun w => Lib.run_convert_bytes_const (P := Try.prog) w 25 5 #[.int .u8 97] 1 1 Try.underlying25 Try.underlying5
  have HN : Hid (Calls Try.prog 17 #[.int .i64 4, .slice none 0 0] w fun e w' => ∃ p g, e = .returned (.pointer (some ⟨p, 0, none⟩)) ∧ w.heap.size ≤ p ∧ w.heap.size ≤ g ∧ DiskAt [p, g] w' p g (newS 4 []) ∧ Below w.heap.size w w') := new_any 4 (q := none) (len := 0) (cap := 0) (cr := []) ⟨rfl, Nat.le_refl _, by omega, .inl rfl⟩ (by omega)
  have HF : Hid (∀ p g W, DiskAt [p, g] W p g (newS 4 []) → Calls Try.prog 19 #[.pointer (some ⟨p, 0, none⟩), .int .i64 0, .int .i64 4, .int .u32 1] W fun e w' => e = .returned (.int .i64 0) ∧ DiskAt [p, g] w' p g dA ∧ Buts [p, g] W.heap.size W w') := fun p g W h => by
    have := format_any h 0 4 1 (by omega) (by omega) (by decide)
    rw [show regB (newS 4 []).ss.length 0 4 = true by decide, if_pos rfl, if_pos rfl, show (newS 4 []).wErr 0 = 0 by decide] at this
    exact this
  have HO : Hid (∀ p g W, DiskAt [p, g] W p g dA → Calls Try.prog 12 #[.pointer (some ⟨p, 0, none⟩), .int .i64 0, .int .i64 4, .int .u32 1] W fun e w' => ∃ L v, e = .returned (.tuple #[.pointer (some ⟨L, 0, none⟩), .int .i64 0]) ∧ W.heap.size ≤ L ∧ Below W.heap.size W w' ∧ MSt [p, g] W.heap.size w' L p g v dA ⟨0, 4, 1, 0, [], false⟩ ∧ (∀ k, v.ownBlock = some k → W.heap.size ≤ k)) := fun p g W h => by
    have hcl : CrLow W.heap.size W p 4 := by
      intro q len cap hc
      obtain ⟨h1, h2, h3, h4, h5, q', len', cap', h6, h7⟩ := h
      rw [h6.cell (i := 4) rfl] at hc
      cases hc
      rcases h7.2.2.2 with h | ⟨b, off, e, hl, _⟩
      · exact .inl h
      · exact .inr ⟨b, off, e, hl⟩
    have := open_live h hcl h.lt (Nat.le_refl _) 0 4 1 (by omega) (by rw [dA_eq]; decide) (by omega) (by rw [dA_eq]) (by rw [dA_eq]; decide)
    rw [scan_fresh (by rw [dA_eq]; decide)] at this
    exact this.mono fun e w' ⟨L, v, a1, a2, a3, a4, a5⟩ => ⟨L, v, a1, a2, a4, a5, a3⟩
  have HA : Hid (∀ p g L v (n₀ b : Nat) (W W0 : World), MSt [p, g] n₀ W0 L p g v dA ⟨0, 4, 1, 0, [], false⟩ → n₀ ≤ W0.heap.size → W = W0.alloc (.cells #[.int .u8 97] 5 (1, 2)) → b = W0.heap.size → Calls Try.prog 21 #[.pointer (some ⟨L, 0, none⟩), .slice (some ⟨b, 0, none⟩) 1 1] W fun e w' => ∃ v' : Value, e = .returned (.int .i64 0) ∧ w'.cell? ⟨L, 5, none⟩ = some v' ∧ (∃ q c, v' = .slice q 1 c) ∧ Buts (L :: p :: g :: ownL v) W.heap.size W w') := fun p g L v n₀ b W W0 h hn hW hb => by
    have hbl : Below W0.heap.size W0 W := by rw [hW]; exact (Below.refl _ _).alloc (Nat.le_refl _) _
    have hw : W.heap[b]? = some (.cells #[.int .u8 97] 5 (1, 2)) := by rw [hW, hb]; exact World.alloc_heap_new W0 _
    have hlt := h.lt
    have hI : IsBytes W.heap.size W (some ⟨b, 0, none⟩) 1 1 [97] := ⟨rfl, Nat.le_refl _, by omega, by decide, .inr ⟨b, 0, rfl, (Array.getElem?_eq_some_iff.1 hw).1, fun i hi => by
      obtain rfl : i = 0 := by omega
      simp [World.cell?, hw]⟩⟩
    have := append_any (h.later hbl) ⟨by decide, by decide, by decide, by decide, by decide, by rw [dA_eq]; decide⟩ (some ⟨b, 0, none⟩) 1 1 [97] hI (Nat.le_refl _) (fun _ b' off e => by cases e; omega) (by omega) (Nat.le_trans hn hbl.size) (by rw [dA_eq]; decide)
    refine this.mono ?_
    rintro e w' ⟨v', rfl, hs, hbu, _, _⟩
    obtain ⟨q, c, e⟩ := hs.log.2.slice
    rw [appA.2] at e
    exact ⟨v', by rw [appA.1], hs.log.1.cell (i := 5) rfl, ⟨q, c, e⟩, hbu⟩
  have HC : Hid (∀ L (q : Option Addr) (len c : Nat) (W : World), W.cell? ⟨L, 5, none⟩ = some (.slice q len c) → Calls Try.prog 26 #[.pointer (some ⟨L, 0, none⟩)] W fun e w' => e = .returned (.int .i64 (len : Nat)) ∧ w' = W) := fun L q len c W h => count_at h
  have hs51 : ((spanN 51 : Nat) : Int) = 1 := by decide
  have hs52 : ((spanN 52 : Nat) : Int) = 2 := by decide
  go_enter Try.func8, Try.ntmps8
  go_wp2_with (first
    | (go_at_call 17; refine HN.out.mono ?_; rintro e w1 ⟨p, g, rfl, hp, hg, hD1, hb1⟩; have HD1 : Hid (DiskAt [p, g] w1 p g _) := hD1; clear hD1)
    | (go_at_call 19; refine (HF.out p g w1 HD1.out).mono ?_; rintro e w2 ⟨rfl, hD2, hb2⟩; have HD2 : Hid (DiskAt [p, g] w2 p g dA) := hD2; clear hD2)
    | (go_at_call 12; refine (HO.out p g w2 HD2.out).mono ?_; rintro e w3 ⟨L, v, rfl, hL, hb3, hM3, hv3⟩; have HM3 : Hid (MSt [p, g] w2.heap.size w3 L p g v dA _) := hM3; have hc5 := hM3.log.1.cell (i := 5) rfl; obtain ⟨vq, vc, hvv⟩ := hM3.log.2.slice; have HVv : Hid (v = .slice vq 0 vc) := hvv; rw [hvv] at hc5; clear hM3 hvv)
    | (go_at_call 9; refine (span_any _ _).mono ?_; rintro e wq ⟨rfl, hwq⟩; obtain rfl := hwq.symm; clear hwq)
    | (go_at_call 21; refine (HA.out p g L v w2.heap.size w3.heap.size _ w3 HM3.out hb3.size rfl rfl).mono ?_; rintro e w4 ⟨v4, rfl, hc4, ⟨q4, c4, rfl⟩, hb4⟩)
    | (go_at_call 26; have _ := hc4; refine (HC.out L q4 1 c4 w4 hc4).mono ?_; rintro e wq ⟨rfl, hwq⟩; obtain rfl := hwq.symm; clear hwq)
    | (go_at_call 26; refine (HC.out L vq 0 vc w3 hc5).mono ?_; rintro e wq ⟨rfl, hwq⟩; obtain rfl := hwq.symm; clear hwq))
  go_ret
  refine ⟨rfl, ?_⟩
  have s1 := hb1.size
  have s2 := hb2.size
  have s3 := hb3.size
  have b2 : Below w.heap.size w w2 := hb1.trans (hb2.below (by omega) (by simp; omega))
  have b3 : Below w.heap.size w w3 := b2.trans (hb3.mono (by omega))
  have b4 : Below w.heap.size w (w3.alloc (.cells #[.int .u8 97] 5 (1, 2))) := b3.alloc (by omega) _
  refine b4.trans (hb4.below (by simp; omega) (fun x hx => ?_))
  simp only [List.mem_cons] at hx
  rcases hx with rfl | rfl | rfl | h
  · omega
  · exact hp
  · exact hg
  · have := hv3 x (mem_ownL.1 h)
    omega
end Go.Proofs.Ytifjkkfienmdjaa
