/-
  The reference's Append.
-/
import Derived.Test.YtifjkkfienmdjaaMLog
import Derived.Test.YtifjkkfienmdjaaApp2
import Derived.Deep.CutRange
namespace Go.Proofs.Ytifjkkfienmdjaa
open Go.RowKit Go.Shelf

theorem wrap_at {j : Nat} (h : 51 + 64 * j < 9223372036854775808) : IntKind.i64.wrap (51 + IntKind.i64.wrap (64 * IntKind.i64.wrap (j : Int))) = ((51 + 64 * j : Nat) : Int) := by
  have e1 : IntKind.i64.wrap (j : Int) = (j : Int) := by rw [IntKind.wrap_i64]; omega
  have e2 : IntKind.i64.wrap (64 * (j : Int)) = 64 * (j : Int) := by rw [IntKind.wrap_i64]; omega
  have e3 : IntKind.i64.wrap (51 + 64 * (j : Int)) = 51 + 64 * (j : Int) := by rw [IntKind.wrap_i64]; omega
  rw [e1, e2, e3]; omega
/-- What the reference's Append leaves. -/
def RAppPost (F : List Nat) (n₀ : Nat) (w : World) (L p g : Nat) (v : Value) (r : Int × St × Lg) (e : Ending) (w' : World) : Prop :=
  ∃ v', e = .returned (.int .i64 r.1) ∧ RSt F n₀ w' L p g v' r.2.1 r.2.2 ∧ Buts (L :: p :: g :: ownL v) w.heap.size w w' ∧ KeepT 5 w w' ∧ (∀ k, v'.ownBlock = some k → v.ownBlock = some k ∨ w.heap.size ≤ k)
theorem RSt.keepL {F : List Nat} {n₀ : Nat} {W : World} {L p g : Nat} {v : Value} {d : St} {l : Lg} (h : RSt F n₀ W L p g v d l) (i : Nat) (u : Value) : KeepT 5 W (W.setCell ⟨L, i, none⟩ u) :=
  keepT_of_buts (S := [L]) ((Buts.refl _ _ _).set (by simp) i u) (fun x hx => by
    rw [List.mem_singleton] at hx
    subst hx
    exact ⟨_, 41, _, h.log.1, by decide⟩)
theorem rapp_stay {F : List Nat} {n₀ : Nat} {w W : World} {L p g : Nat} {v : Value} {d : St} {l : Lg} {r : Int × St × Lg} {e0 : Int} (h : RSt F n₀ w L p g v d l) (hb : Below w.heap.size w W) (hr : r = (e0, d, l)) : RAppPost F n₀ w L p g v r (.returned (.int .i64 e0)) W := by
  rw [hr]
  exact ⟨v, rfl, h.later hb, Buts.of_below hb (Nat.le_refl _), KeepT.of_below hb, fun k hk => .inl hk⟩
theorem rapp_fail {F : List Nat} {n₀ : Nat} {w W : World} {L p g : Nat} {v : Value} {d d' : St} {l : Lg} {e0 : Int} {r : Int × St × Lg} (h : RSt F n₀ w L p g v d l) (hS : RSt F n₀ W L p g v d' l) (hb : Buts [p, g] w.heap.size w W) (he : r = (e0, d', { l with broken := true })) :
    RAppPost F n₀ w L p g v r (.returned (.int .i64 e0)) (W.setCell ⟨L, 6, none⟩ (.bool true)) := by
  have h2 := hS.setL (i := 6) (u := .bool true) (l' := { l with broken := true }) rfl rfl
  rw [he]
  exact ⟨v, rfl, h2, (hb.mono (by simp) (Nat.le_refl _)).set (by simp) 6 _, (h.keep5 hb).trans (hS.keepL 6 _), fun k hk => .inl hk⟩
theorem app_eq {d : St} {l : Lg} {zs : List Nat} {k : Nat} (hbr : l.broken = false) (hkz : spanN (zs.length : Nat) = k) (hk1 : 1 ≤ k) (hfull : ¬ l.n < l.pos + k) : appL d l zs = if (doW d (writesOf l.f l.n l.pos l.gen l.recs.length zs)).1 ≠ 0 then ((doW d (writesOf l.f l.n l.pos l.gen l.recs.length zs)).1, (doW d (writesOf l.f l.n l.pos l.gen l.recs.length zs)).2, { l with broken := true }) else (0, (doW d (writesOf l.f l.n l.pos l.gen l.recs.length zs)).2, { l with recs := l.recs ++ [zs], pos := l.pos + k }) := by
  rw [appL, if_neg (by simp [hbr]), hkz, if_neg (by omega), if_neg hfull]
theorem app_tail {d : St} {l : Lg} {zs : List Nat} {k j : Nat} (hbr : l.broken = false) (hkz : spanN (zs.length : Nat) = k) (hk1 : 1 ≤ k) (hfull : ¬ l.n < l.pos + k) (hj : j + 1 < k) (h0 : (doW d (tailW (l.f + l.pos) zs (j + 1))).1 = 0) (he : (doW d (tailW (l.f + l.pos) zs (j + 1))).2.wErr ((l.f + l.pos + (j + 1) : Nat) : Int) ≠ 0) :
    appL d l zs = ((doW d (tailW (l.f + l.pos) zs (j + 1))).2.wErr ((l.f + l.pos + (j + 1) : Nat) : Int), (doW d (tailW (l.f + l.pos) zs (j + 1))).2.write ((l.f + l.pos + (j + 1) : Nat) : Int) (secK zs j), { l with broken := true }) := by
  obtain ⟨r, hr⟩ := tailW_split (f := l.f + l.pos) (b := zs) hj
  have hw : doW d (writesOf l.f l.n l.pos l.gen l.recs.length zs) = ((doW d (tailW (l.f + l.pos) zs (j + 1))).2.wErr ((l.f + l.pos + (j + 1) : Nat) : Int), (doW d (tailW (l.f + l.pos) zs (j + 1))).2.write ((l.f + l.pos + (j + 1) : Nat) : Int) (secK zs j)) := by
    rw [writesOf, hkz, hr, List.append_assoc, List.cons_append]
    exact doW_fail h0 he
  rw [app_eq hbr hkz hk1 hfull, hw, if_pos he]
theorem app_mark {d : St} {l : Lg} {zs : List Nat} {k : Nat} (hbr : l.broken = false) (hkz : spanN (zs.length : Nat) = k) (hk1 : 1 ≤ k) (hfull : ¬ l.n < l.pos + k) (hlt : l.pos + k < l.n) (h0 : (doW d (tailW (l.f + l.pos) zs k)).1 = 0) (he : (doW d (tailW (l.f + l.pos) zs k)).2.wErr ((l.f + l.pos + k : Nat) : Int) ≠ 0) :
    appL d l zs = ((doW d (tailW (l.f + l.pos) zs k)).2.wErr ((l.f + l.pos + k : Nat) : Int), (doW d (tailW (l.f + l.pos) zs k)).2.write ((l.f + l.pos + k : Nat) : Int) zeros64, { l with broken := true }) := by
  have hw : doW d (writesOf l.f l.n l.pos l.gen l.recs.length zs) = ((doW d (tailW (l.f + l.pos) zs k)).2.wErr ((l.f + l.pos + k : Nat) : Int), (doW d (tailW (l.f + l.pos) zs k)).2.write ((l.f + l.pos + k : Nat) : Int) zeros64) := by
    rw [writesOf, hkz, if_pos hlt, List.cons_append]
    exact doW_fail h0 he
  rw [app_eq hbr hkz hk1 hfull, hw, if_pos he]
theorem body_no {d : St} {l : Lg} {zs : List Nat} {k : Nat} (hkz : spanN (zs.length : Nat) = k) (hlt : ¬ l.pos + k < l.n) (h0 : (doW d (tailW (l.f + l.pos) zs k)).1 = 0) : doW d (bodyW l.f l.n l.pos zs) = (0, (doW d (tailW (l.f + l.pos) zs k)).2) := by
  rw [bodyW, hkz, if_neg hlt, List.append_nil, ← h0]
theorem body_yes {d : St} {l : Lg} {zs : List Nat} {k : Nat} (hkz : spanN (zs.length : Nat) = k) (hlt : l.pos + k < l.n) (h0 : (doW d (tailW (l.f + l.pos) zs k)).1 = 0) (he : (doW d (tailW (l.f + l.pos) zs k)).2.wErr ((l.f + l.pos + k : Nat) : Int) = 0) : doW d (bodyW l.f l.n l.pos zs) = (0, (doW d (tailW (l.f + l.pos) zs k)).2.write ((l.f + l.pos + k : Nat) : Int) zeros64) := by
  rw [bodyW, hkz, if_pos hlt]
  exact doW_snoc h0 he
theorem app_head {d D : St} {l : Lg} {zs : List Nat} {k : Nat} (hbr : l.broken = false) (hkz : spanN (zs.length : Nat) = k) (hk1 : 1 ≤ k) (hfull : ¬ l.n < l.pos + k) (hB : doW d (bodyW l.f l.n l.pos zs) = (0, D)) (he : D.wErr ((l.f + l.pos : Nat) : Int) ≠ 0) :
    appL d l zs = (D.wErr ((l.f + l.pos : Nat) : Int), D.write ((l.f + l.pos : Nat) : Int) (headL zs l.gen l.recs.length), { l with broken := true }) := by
  have hw : doW d (writesOf l.f l.n l.pos l.gen l.recs.length zs) = (D.wErr ((l.f + l.pos : Nat) : Int), D.write ((l.f + l.pos : Nat) : Int) (headL zs l.gen l.recs.length)) := by
    have := doW_fail (a := bodyW l.f l.n l.pos zs) (b := []) (j := l.f + l.pos) (s := headL zs l.gen l.recs.length) (d := d) (by rw [hB]) (by rw [hB]; exact he)
    rw [hB] at this
    rw [writesOf_eq]
    exact this
  rw [app_eq hbr hkz hk1 hfull, hw, if_pos he]
theorem app_done {d D : St} {l : Lg} {zs : List Nat} {k : Nat} (hbr : l.broken = false) (hkz : spanN (zs.length : Nat) = k) (hk1 : 1 ≤ k) (hfull : ¬ l.n < l.pos + k) (hB : doW d (bodyW l.f l.n l.pos zs) = (0, D)) (he : D.wErr ((l.f + l.pos : Nat) : Int) = 0) :
    appL d l zs = (0, D.write ((l.f + l.pos : Nat) : Int) (headL zs l.gen l.recs.length), { l with recs := l.recs ++ [zs], pos := l.pos + k }) := by
  have hw : doW d (writesOf l.f l.n l.pos l.gen l.recs.length zs) = (0, D.write ((l.f + l.pos : Nat) : Int) (headL zs l.gen l.recs.length)) := by
    have := doW_snoc (a := bodyW l.f l.n l.pos zs) (j := l.f + l.pos) (s := headL zs l.gen l.recs.length) (d := d) (by rw [hB]) (by rw [hB]; exact he)
    rw [hB] at this
    rw [writesOf_eq]
    exact this
  rw [app_eq hbr hkz hk1 hfull, hw, if_neg (by simp)]
theorem bytes_buts {m : Nat} {w W : World} {p g : Nat} {q : Option Addr} {len cap : Nat} {zs : List Nat} (hI : IsBytes m w q len cap zs) (hm : m ≤ w.heap.size) (hqn : 0 < len → ∀ b off, q = some ⟨b, off, none⟩ → b ≠ p ∧ b ≠ g) (hb : Buts [p, g] w.heap.size w W) : IsBytes W.heap.size W q len cap zs := by
  obtain ⟨h1, h2, h3, h4, h5⟩ := hI
  refine ⟨h1, h2, h3, h4, ?_⟩
  by_cases hl : len = 0
  · exact .inl hl
  · rcases h5 with h | ⟨b, off, e, hlt, hc⟩
    · exact .inl h
    · have hne := hqn (by omega) b off e
      refine .inr ⟨b, off, e, by have := hb.size; omega, fun i hi => ?_⟩
      obtain ⟨c, t, fr, e1, e2⟩ := cells_of_cell (hc i hi)
      have e3 := (hb.block b (by omega) (by simp [hne.1, hne.2])).trans e1
      simp [World.cell?, e3, e2]
theorem refWrite_st {F : List Nat} {n₀ : Nat} {W : World} {L p g : Nat} {v : Value} {d : St} {l : Lg} (h : RSt F n₀ W L p g v d l) (i : Int) {s : List Nat} (hs : IsSec s) (hwr : d.wr < 1000000) :
    Calls Try.prog 27 #[.pointer (some ⟨p, 0, none⟩), .int .i64 i, .agg (u8s s).toArray] W fun e w' => e = .returned (.int .i64 (d.wErr i)) ∧ RSt F n₀ w' L p g v (d.write i s) l ∧ Buts [p, g] W.heap.size W w' :=
  (refWrite_keep h.disk i hs hwr).mono fun _ _ ⟨h1, h2, h3, h4⟩ => ⟨h1, h.wrote h2 h3 h4, h3⟩
theorem rapp_ok {F : List Nat} {n₀ : Nat} {w W w3 wk : World} {L p g : Nat} {v v' : Value} {d d' : St} {l : Lg} {zs : List Nat} {k : Nat} {r : Int × St × Lg} (h : RSt F n₀ w L p g v d l) (hb : Buts [p, g] w.heap.size w W) (hb3 : Below W.heap.size W w3) (hS : RSt F n₀ wk L p g v' d' { l with recs := l.recs ++ [zs] }) (hbk : Buts (L :: ownL v) w3.heap.size w3 wk) (h5 : KeepT 5 w3 wk) (hv : ∀ k, v'.ownBlock = some k → v.ownBlock = some k ∨ W.heap.size ≤ k) {x : Int} (hx : x = ((l.pos + k : Nat) : Int)) (he : r = (0, d', { l with recs := l.recs ++ [zs], pos := l.pos + k })) :
    RAppPost F n₀ w L p g v r (.returned (.int .i64 0)) (wk.setCell ⟨L, 4, none⟩ (.int .i64 x)) := by
  rw [hx, he]
  have h2 := hS.setL (i := 4) (u := .int .i64 ((l.pos + k : Nat) : Int)) (l' := { l with recs := l.recs ++ [zs], pos := l.pos + k }) rfl rfl
  have s1 := hb.size
  have s2 := hb3.size
  refine ⟨v', rfl, h2, (((hb.mono (by simp) (Nat.le_refl _)).trans (Buts.of_below hb3 s1)).trans (hbk.mono (fun x hx => ?_) (by omega))).set (by simp) 4 _, (((h.keep5 hb).trans (KeepT.of_below hb3)).trans h5).trans (hS.keepL 4 _), fun k hk => (hv k hk).imp id (fun h => by omega)⟩
  rcases List.mem_cons.1 hx with h | h
  · simp [h]
  · simp [h]
set_option maxRecDepth 100000 in
set_option maxHeartbeats 4000000 in
theorem refAppend_any {F : List Nat} {n₀ m : Nat} {w : World} {L p g : Nat} {v : Value} {d : St} {l : Lg} (h : RSt F n₀ w L p g v d l) (hok : LgOk l d) (q : Option Addr) (len cap : Nat) (zs : List Nat) (hI : IsBytes m w q len cap zs) (hm : m ≤ w.heap.size) (hqn : 0 < len → ∀ b off, q = some ⟨b, off, none⟩ → b ≠ p ∧ b ≠ g) (hlen : len ≤ 60000) (hn₀ : n₀ ≤ w.heap.size) :
    Calls Try.prog 22 #[.pointer (some ⟨L, 0, none⟩), .slice q len cap] w (RAppPost F n₀ w L p g v (appL d l zs)) := by
  have HI : Hid (IsBytes m w q len cap zs) := hI
  have HQn : Hid (0 < len → ∀ b off, q = some ⟨b, off, none⟩ → b ≠ p ∧ b ≠ g) := hqn
  have HLn : Hid (zs.length = len) := hI.1
  have hlc := hI.2.1
  have hcc := hI.2.2.1
  have HZ : Hid (∀ z ∈ zs, z < 256) := hI.2.2.2.1
  have hspn : spanN (len : Nat) = 1 + (len + 12) / 64 := spanN_nat (by omega)
  obtain ⟨k, hk⟩ : ∃ k, spanN (len : Nat) = k := ⟨_, rfl⟩
  have HSp : Hid (Calls Try.prog 10 #[.int .i64 (len : Nat)] w fun e w' => e = .returned (.int .i64 (k : Nat)) ∧ w' = w) := by
    have := refSpan_any (len : Nat) w
    rw [hk] at this
    exact this
  have hkz : spanN (zs.length : Nat) = k := by rw [hI.1]; exact hk
  have HKz : Hid (spanN (zs.length : Nat) = k) := hkz
  rw [hk] at hspn
  have hk1 : 1 ≤ k := by omega
  have hk2 : k ≤ 2000 := by omega
  have hk0 : ((k : Int) == 0) = false := by simp; omega
  have hk0' : ¬ (k : Int) = 0 := by omega
  obtain ⟨vq, vc, rfl⟩ := h.log.2.slice
  have c6 : w.cell? ⟨L, 6, none⟩ = some (.bool l.broken) := h.log.1.cell (i := 6) rfl
  have c2 : w.cell? ⟨L, 2, none⟩ = some (.int .i64 (l.n : Nat)) := h.log.1.cell (i := 2) rfl
  have c4 : w.cell? ⟨L, 4, none⟩ = some (.int .i64 (l.pos : Nat)) := h.log.1.cell (i := 4) rfl
  have c1 : w.cell? ⟨L, 1, none⟩ = some (.int .i64 (l.f : Nat)) := h.log.1.cell (i := 1) rfl
  have HS : Hid (RSt F n₀ w L p g (.slice vq l.recs.length vc) d l) := h
  clear h hI hk hqn hkz
  cases hbr : l.broken with
  | true =>
    rw [hbr] at c6
    have HT : Hid (appL d l zs = (140, d, l)) := by show _ = _; rw [appL, if_pos hbr]
    clear hbr
    go_enter Try.func22, Try.ntmps22
    go_wp2_with (go_at_call 10; refine HSp.out.mono ?_; rintro e w1 ⟨rfl, hw1⟩; obtain rfl : w = w1 := hw1.symm; clear hw1)
    go_ret
    exact rapp_stay HS.out (Below.refl _ _) HT.out
  | false =>
    rw [hbr] at c6
    have Hbr : Hid (l.broken = false) := hbr
    clear hbr
    by_cases hfull : l.n < l.pos + k
    · have HT : Hid (appL d l zs = (141, d, l)) := by show _ = _; rw [appL, if_neg (by simp [Hbr.out]), HKz.out, if_neg (by omega), if_pos hfull]
      have hfi : (l.n : Int) - (l.pos : Int) < (k : Int) := by omega
      have hob := hok.n
      have hop := hok.pos
      clear hok
      go_enter Try.func22, Try.ntmps22
      go_wp2_with (first
        | (go_at_call 10; refine HSp.out.mono ?_; rintro e w1 ⟨rfl, hw1⟩; obtain rfl : w = w1 := hw1.symm; clear hw1)
        | (go_quiet (fail)))
      go_ret
      exact rapp_stay HS.out (below_drewN (Below.refl _ _) _) HT.out
    · have hfi : ¬ (l.n : Int) - (l.pos : Int) < (k : Int) := by omega
      have hof := hok.f
      have hob := hok.n
      have hop := hok.pos
      have hwr := hok.wr
      have hgen := hok.gen
      have hrecs := hok.recs
      clear hok
      go_enter Try.func22, Try.ntmps22
      go_wp2_with (first
        | (go_at_call 10; refine HSp.out.mono ?_; rintro e w1 ⟨rfl, hw1⟩; obtain rfl : w = w1 := hw1.symm; clear hw1)
        | (go_quiet (fail)))
      go_loopw [7] (fun iv wr => ∃ (j : Nat), j + 1 ≤ k ∧ iv = .int .i64 ((j : Int) + 1) ∧ (doW d (tailW (l.f + l.pos) zs (j + 1))).1 = 0 ∧ RSt F n₀ wr L p g (.slice vq l.recs.length vc) (doW d (tailW (l.f + l.pos) zs (j + 1))).2 l ∧ Buts [p, g] w.heap.size w wr) (fun iv _ => k - (intOf iv).toNat)
      case atStart => exact ⟨0, hk1, rfl, rfl, HS.out.later ((below_drewN (below_drewN (Below.refl _ _) _) _)), Buts.of_below (below_drewN (below_drewN (Below.refl _ _) _) _) (Nat.le_refl _)⟩
      case round =>
        obtain ⟨j, hjk, rfl, h0, hst, hbu⟩ := hrel
        have HSt : Hid (RSt F n₀ wr L p g (.slice vq l.recs.length vc) (doW d (tailW (l.f + l.pos) zs (j + 1))).2 l) := hst
        have HBu : Hid (Buts [p, g] w.heap.size w wr) := hbu
        have H0 : Hid ((doW d (tailW (l.f + l.pos) zs (j + 1))).1 = 0) := h0
        have HwrB : Hid ((doW d (tailW (l.f + l.pos) zs (j + 1))).2.wr ≤ 200000) := by
          show _ ≤ _
          have := doW_wr (tailW (l.f + l.pos) zs (j + 1)) d
          have e : (tailW (l.f + l.pos) zs (j + 1)).length = j := by simp [tailW]
          omega
        clear h0 hst hbu
        have hswr := HBu.out.size
        by_cases hlt : j + 1 < k
        · have hlti : (j : Int) + 1 < (k : Int) := by omega
          obtain ⟨bb, off, rfl⟩ : ∃ bb off, q = some ⟨bb, off, none⟩ := by
            rcases HI.out.2.2.2.2 with h | ⟨bb, off, e, _⟩
            · omega
            · exact ⟨bb, off, e⟩
          obtain ⟨w5, HW5, hb5, hs5, hr5⟩ := new29 wr
          have HR5 : Hid (Row w5 wr.heap.size 55 (u8s zeros64)) := hr5
          have HSrc : Hid (∀ W, Buts [p, g] w.heap.size w W → ∀ i u, (u8s ((zs.drop (51 + 64 * j)).take 64))[i]? = some u → W.cell? ((⟨bb, off + (51 + 64 * j), none⟩ : Addr).add i) = some u) := fun W hb i u hi => by
            have hil := (List.getElem?_eq_some_iff.1 hi).1
            rw [u8s_length, List.length_take, List.length_drop, HLn.out] at hil
            have hcell : ∀ i, i < len → W.cell? ⟨bb, off + i, none⟩ = some (.int .u8 (zs.getD i 0 : Nat)) := by
              rcases (bytes_buts HI.out hm HQn.out hb).2.2.2.2 with h | ⟨b', off', e', _, hc⟩
              · omega
              · cases e'
                exact hc
            have e4 := hcell (51 + 64 * j + i) (by omega)
            rw [Addr.add_mid, show off + (51 + 64 * j) + i = off + (51 + 64 * j + i) by omega, e4, ← hi, u8s_at (by rw [List.length_take, List.length_drop, HLn.out]; omega)]
            rw [List.getD_eq_getElem?_getD (l := List.take _ _), List.getElem?_take, if_pos (by omega), List.getElem?_drop, ← List.getD_eq_getElem?_getD]
          have HLs : Hid ((u8s ((zs.drop (51 + 64 * j)).take 64)).length = Nat.min (len - (51 + 64 * j)) 64) := by show _ = _; rw [u8s_length, List.length_take, List.length_drop, HLn.out]; exact Nat.min_comm _ _
          clear hr5
          go_upto_region 13 with (rw [HW5.out])
          refine wp_region_held_drew (S := fun _ => True) (by kernel_rfl) trivial (fun hHeld => ?_)
          refine wpAnyH_takesAt 0 1 7 (of_decide_eq_true (by kernel_rfl)) rfl (fun _ _ _ d _ h => by cases d <;> exact h) (by kernel_rfl) (by kernel_rfl) hHeld ?_
          simp only [List.drop_zero, List.take_succ_cons, List.take_zero]
          iterate 1 (refine wpHeld_step (v := ?_) (by rfl) (fun wz hSw => ?_) ?_; rotate_left; (focus ((try dsimp only at hSw); go_simp; try with_reducible rfl)); ((simp only [Act.put]; (try simp only [List.setIfInBounds_toArray]); (try simp only [List.set_cons_succ]); (try simp only [List.set_cons_zero]))))
          refine wpHeld_nil ?_
          refine wpAnyH_takesAt 1 1 6 (of_decide_eq_true (by kernel_rfl)) rfl (fun _ _ _ d _ h => by cases d <;> exact h) (by kernel_rfl) (by kernel_rfl) hHeld ?_
          simp only [List.drop_succ_cons, List.drop_zero, List.take_succ_cons, List.take_zero]
          iterate 1 (refine wpHeld_step (v := ?_) (by rfl) (fun wz hSw => ?_) ?_; rotate_left; (focus ((try dsimp only at hSw); go_simp; try with_reducible rfl)); ((simp only [Act.put]; (try simp only [List.setIfInBounds_toArray]); (try simp only [List.set_cons_succ]); (try simp only [List.set_cons_zero]))))
          refine wpHeld_nil ?_
          refine wpAnyH_takesAt 2 1 5 (of_decide_eq_true (by kernel_rfl)) rfl (fun _ _ _ d _ h => by cases d <;> exact h) (by kernel_rfl) (by kernel_rfl) hHeld ?_
          simp only [List.drop_succ_cons, List.drop_zero, List.take_succ_cons, List.take_zero]
          iterate 1 (refine wpHeld_step (v := ?_) (by rfl) (fun wz hSw => ?_) ?_; rotate_left; (focus ((try dsimp only at hSw); go_simp; try with_reducible rfl)); ((simp only [Act.put]; (try simp only [List.setIfInBounds_toArray]); (try simp only [List.set_cons_succ]); (try simp only [List.set_cons_zero]))))
          refine wpHeld_nil ?_
          refine wpAnyH_takesAt 3 1 4 (of_decide_eq_true (by kernel_rfl)) rfl (fun _ _ _ d _ h => by cases d <;> exact h) (by kernel_rfl) (by kernel_rfl) hHeld ?_
          simp only [List.drop_succ_cons, List.drop_zero, List.take_succ_cons, List.take_zero]
          iterate 1 (refine wpHeld_step (v := ?_) (by rfl) (fun wz hSw => ?_) ?_; rotate_left; (focus ((try dsimp only at hSw); go_simp; try with_reducible rfl)); ((simp only [Act.put]; (try simp only [List.setIfInBounds_toArray]); (try simp only [List.set_cons_succ]); (try simp only [List.set_cons_zero]))))
          refine wpHeld_nil ?_
          refine wpAnyH_takesAt 4 1 3 (of_decide_eq_true (by kernel_rfl)) rfl (fun _ _ _ d _ h => by cases d <;> exact h) (by kernel_rfl) (by kernel_rfl) hHeld ?_
          simp only [List.drop_succ_cons, List.drop_zero, List.take_succ_cons, List.take_zero]
          iterate 1 (refine wpHeld_step (v := ?_) (by rfl) (fun wz hSw => ?_) ?_; rotate_left; (focus ((try dsimp only at hSw); go_simp; try with_reducible rfl)); ((simp only [Act.put]; (try simp only [List.setIfInBounds_toArray]); (try simp only [List.set_cons_succ]); (try simp only [List.set_cons_zero]))))
          refine wpHeld_nil ?_
          refine wpAnyH_takesAt 5 1 2 (of_decide_eq_true (by kernel_rfl)) rfl (fun _ _ _ d _ h => by cases d <;> exact h) (by kernel_rfl) (by kernel_rfl) hHeld ?_
          simp only [List.drop_succ_cons, List.drop_zero, List.take_succ_cons, List.take_zero]
          iterate 1 (refine wpHeld_step (v := ?_) (by rfl) (fun wz hSw => ?_) ?_; rotate_left; (focus ((try dsimp only at hSw); go_simp; try with_reducible rfl)); ((simp only [Act.put]; (try simp only [List.setIfInBounds_toArray]); (try simp only [List.set_cons_succ]); (try simp only [List.set_cons_zero]))))
          refine wpHeld_nil ?_
          have hne : ¬ cap = 51 + 64 * j := by omega
          refine wpAnyH_takesAt 6 1 1 (of_decide_eq_true (by kernel_rfl)) rfl (fun _ _ _ d _ h => by cases d <;> exact h) (by kernel_rfl) (by kernel_rfl) hHeld ?_
          simp only [List.drop_succ_cons, List.drop_zero, List.take_succ_cons, List.take_zero]
          refine wpHeld_step (v := .slice (some ⟨bb, off + (51 + 64 * j), none⟩) (len - (51 + 64 * j)) (cap - (51 + 64 * j))) (by rfl) (fun wz hSw => ?_) ?_
          · clear hSw
            go_simp
            have hX : IntKind.i64.wrap (51 + IntKind.i64.wrap (64 * IntKind.i64.wrap (j : Int))) = ((51 + 64 * j : Nat) : Int) := wrap_at (by omega)
            rw [hX, if_pos (by omega), Int.toNat_natCast, if_neg hne]
          simp only [Act.put]
          (try simp only [List.setIfInBounds_toArray])
          (try simp only [List.set_cons_succ])
          (try simp only [List.set_cons_zero])
          refine wpHeld_nil ?_
          have hB5 : Buts [p, g] w.heap.size w w5 := HBu.out.trans (Buts.of_below hb5 hswr)
          have HFit : Hid (0 + (u8s ((zs.drop (51 + 64 * j)).take 64)).length ≤ (u8s zeros64).length) := by show _ ≤ _; rw [u8s_length, u8s_length, List.length_take, zeros64, List.length_replicate]; omega
          refine wpAnyH_only (i := 7) (by kernel_rfl) rfl (fun K hK => ?_)
          rw [if_pos (by rfl)]
          refine wp_copy_but (.tmp 49) (.tmp 55) 25 25 rfl 5 Try.underlying25 size5 wr.heap.size 0 64 64 ⟨bb, off + (51 + 64 * j), none⟩ (len - (51 + 64 * j)) (cap - (51 + 64 * j)) rfl rfl _ 55 HR5.out.drew (u8s ((zs.drop (51 + 64 * j)).take 64)) HLs.out (HSrc.out _ hB5.drew) HFit.out (u8s_one _) (fun w6 hrow hbut => ?_)
          refine hK.out _ _ trivial ?_
          clear hK K hHeld
          simp only [Act.put, List.getElem_toArray, List.getElem_cons_succ, List.getElem_cons_zero, List.setIfInBounds_toArray, List.set_cons_succ, List.set_cons_zero]
          refine wpAnyH_done (by kernel_rfl) ?_ _
          rw [splice_u8s] at hrow
          have hb56 : Below wr.heap.size wr w6 := ⟨hbut.os.trans hb5.os, hbut.tape.trans hb5.tape, hbut.output.trans hb5.output, Nat.le_trans hb5.size hbut.size, fun i hi => (hbut.block i (by show i < w5.heap.size; omega) (by omega)).trans (hb5.block i hi)⟩
          have HR6 : Hid (Row w6 wr.heap.size 55 (u8s (secK zs j))) := hrow
          have HS6 : Hid (RSt F n₀ w6 L p g (.slice vq l.recs.length vc) (doW d (tailW (l.f + l.pos) zs (j + 1))).2 l) := HSt.out.later hb56
          have HB6 : Hid (Buts [p, g] w.heap.size w w6) := HBu.out.trans (Buts.of_below hb56 hswr)
          have hxs := secK_sec HZ.out j
          have HWo : Hid (∀ (W' : World) (y : Int), Below w6.heap.size w6 W' → y = ((l.f + l.pos + (j + 1) : Nat) : Int) → Calls Try.prog 27 #[.pointer (some ⟨p, 0, none⟩), .int .i64 y, .agg (u8s (secK zs j)).toArray] W' fun e w' => e = .returned (.int .i64 ((doW d (tailW (l.f + l.pos) zs (j + 1))).2.wErr ((l.f + l.pos + (j + 1) : Nat) : Int))) ∧ RSt F n₀ w' L p g (.slice vq l.recs.length vc) ((doW d (tailW (l.f + l.pos) zs (j + 1))).2.write ((l.f + l.pos + (j + 1) : Nat) : Int) (secK zs j)) l ∧ Buts [p, g] w6.heap.size w6 w') := fun W' y hb hy => by
            rw [hy]
            exact (refWrite_st (HS6.out.later hb) _ hxs (by have := HwrB.out; omega)).mono fun _ _ ⟨a, b, c⟩ => ⟨a, b, (Buts.of_below hb (Nat.le_refl _)).trans (c.mono (fun _ h => h) hb.size)⟩
          have HLx : Hid ((u8s (secK zs j)).length = 64) := by show _ = _; rw [u8s_length]; exact hxs.1
          have HC0 : Hid (∀ W', Buts [p, g] w6.heap.size w6 W' → W'.cell? ⟨L, 0, none⟩ = some (.pointer (some ⟨p, 0, none⟩))) := fun W' hb => (hb.row HS6.out.log.1.lt (by have := HS6.out.pg; have := HS6.out.low; simp; omega) HS6.out.log.1).cell (i := 0) rfl
          have HXr : Hid (∀ W', Buts [p, g] w6.heap.size w6 W' → W'.rangeAt wr.heap.size 0 (u8s (secK zs j))) := fun W' hb => (hb.row HR6.out.lt (by have h1 := HSt.out.lt; simp; omega) HR6.out).range
          clear hrow hbut hb56 hxs hB5 hb5
          obtain ⟨X, hX⟩ : ∃ X, u8s (secK zs j) = X := ⟨_, rfl⟩
          rw [hX] at HR6 HWo HLx HXr
          clear hX
          obtain ⟨e0, hE⟩ : ∃ e0, (doW d (tailW (l.f + l.pos) zs (j + 1))).2.wErr ((l.f + l.pos + (j + 1) : Nat) : Int) = e0 := ⟨_, rfl⟩
          rw [hE] at HWo
          have HE : Hid ((doW d (tailW (l.f + l.pos) zs (j + 1))).2.wErr ((l.f + l.pos + (j + 1) : Nat) : Int) = e0) := hE
          clear hE
          go_upto_region 14 with fail
          refine wp_region_held_drew (S := fun W' => Buts [p, g] w6.heap.size w6 W') (by kernel_rfl) (Buts.refl _ _ _).drew (fun hHeld => ?_)
          refine wpAnyH_takesAt 0 4 6 (of_decide_eq_true (by kernel_rfl)) rfl (fun _ _ _ d _ h => by cases d <;> exact h) (by kernel_rfl) (by kernel_rfl) hHeld ?_
          simp only [List.drop_zero, List.take_succ_cons, List.take_zero]
          iterate 4 (refine wpHeld_step (v := ?_) (by rfl) (fun wz hSw => ?_) ?_; rotate_left; (focus (have hc := HC0.out wz hSw; clear hSw; go_simp; try with_reducible rfl)); (simp only [Act.put, List.setIfInBounds_toArray, List.set_cons_zero, List.set_cons_succ]))
          refine wpHeld_nil ?_
          refine wpAnyH_takesAt 4 1 5 (of_decide_eq_true (by kernel_rfl)) rfl (fun _ _ _ d _ h => by cases d <;> exact h) (by kernel_rfl) (by kernel_rfl) hHeld ?_
          simp only [List.drop_succ_cons, List.drop_zero, List.take_succ_cons, List.take_zero]
          iterate 1 (refine wpHeld_step (v := ?_) (by rfl) (fun wz hSw => ?_) ?_; rotate_left; (focus ((try dsimp only at hSw); go_simp; try with_reducible rfl)); ((simp only [Act.put]; (try simp only [List.setIfInBounds_toArray]); (try simp only [List.set_cons_succ]); (try simp only [List.set_cons_zero]))))
          refine wpHeld_nil ?_
          refine wpAnyH_takesAt 5 1 4 (of_decide_eq_true (by kernel_rfl)) rfl (fun _ _ _ d _ h => by cases d <;> exact h) (by kernel_rfl) (by kernel_rfl) hHeld ?_
          simp only [List.drop_succ_cons, List.drop_zero, List.take_succ_cons, List.take_zero]
          iterate 1 (refine wpHeld_step (v := ?_) (by rfl) (fun wz hSw => ?_) ?_; rotate_left; (focus ((try dsimp only at hSw); go_simp; try with_reducible rfl)); ((simp only [Act.put]; (try simp only [List.setIfInBounds_toArray]); (try simp only [List.set_cons_succ]); (try simp only [List.set_cons_zero]))))
          refine wpHeld_nil ?_
          refine wpAnyH_takesAt 6 1 3 (of_decide_eq_true (by kernel_rfl)) rfl (fun _ _ _ d _ h => by cases d <;> exact h) (by kernel_rfl) (by kernel_rfl) hHeld ?_
          simp only [List.drop_succ_cons, List.drop_zero, List.take_succ_cons, List.take_zero]
          iterate 1 (refine wpHeld_step (v := ?_) (by rfl) (fun wz hSw => ?_) ?_; rotate_left; (focus ((try dsimp only at hSw); go_simp; try with_reducible rfl)); ((simp only [Act.put]; (try simp only [List.setIfInBounds_toArray]); (try simp only [List.set_cons_succ]); (try simp only [List.set_cons_zero]))))
          refine wpHeld_nil ?_
          refine wpAnyH_takesAt 7 1 2 (of_decide_eq_true (by kernel_rfl)) rfl (fun _ _ _ d _ h => by cases d <;> exact h) (by kernel_rfl) (by kernel_rfl) hHeld ?_
          simp only [List.drop_succ_cons, List.drop_zero, List.take_succ_cons, List.take_zero]
          refine wpHeld_load (by rfl) 55 (.tmp 8) rfl wr.heap.size (0) rfl X (fun W hW => HXr.out W hW) Try.underlying55 (by rw [HLx.out]; exact size55) ?_
          (simp only [Act.put]; (try simp only [List.setIfInBounds_toArray]); (try simp only [List.set_cons_succ]); (try simp only [List.set_cons_zero]))
          refine wpHeld_nil ?_
          refine wpAnyH_only (i := 8) (by kernel_rfl) rfl (fun K hK => ?_)
          rw [if_pos (by rfl)]
          go_simp
          refine (HWo.out _ _ (Below.refl _ _).drew (by rw [IntKind.wrap_i64]; omega)).mono ?_
          rintro e w7 ⟨rfl, hS7, hb7⟩
          refine hK.out _ _ hb7 ?_
          clear hK K hHeld
          have hHeld := hb7
          refine wpAnyH_takesAt 9 1 0 (of_decide_eq_true (by kernel_rfl)) rfl (fun _ _ _ d _ h => by cases d <;> exact h) (by kernel_rfl) (by kernel_rfl) hHeld ?_
          simp only [List.drop_succ_cons, List.drop_zero, List.take_succ_cons, List.take_zero]
          iterate 1 (refine wpHeld_step (v := ?_) (by rfl) (fun wz hSw => ?_) ?_; rotate_left; (focus ((try dsimp only at hSw); go_simp; try with_reducible rfl)); ((simp only [Act.put]; (try simp only [List.setIfInBounds_toArray]); (try simp only [List.set_cons_succ]); (try simp only [List.set_cons_zero]))))
          refine wpHeld_nil ?_
          refine wpAnyH_done (by kernel_rfl) ?_ _
          have HS7 : Hid (RSt F n₀ w7 L p g (.slice vq l.recs.length vc) _ l) := hS7
          have HB7 : Hid (Buts [p, g] w.heap.size w w7) := HB6.out.trans (hb7.mono (fun _ h => h) (by have := HB6.out.size; omega))
          clear hb7 hS7
          have hc6 : w7.cell? ⟨L, 6, none⟩ = some (.bool false) := by have := HS7.out.log.1.cell (i := 6) rfl; rw [Hbr.out] at this; exact this
          clear hHeld
          by_cases he : e0 = 0
          · have g1 : (e0 == 0) = true := by rw [he]; rfl
            go_wp2
            exact ⟨⟨j + 1, by omega, by simp, by rw [tailW_succ, doW_snoc H0.out (HE.out.trans he)], by rw [tailW_succ, doW_snoc H0.out (HE.out.trans he)]; exact HS7.out, HB7.out⟩, by simp [intOf]; omega⟩
          · have g1 : (e0 == 0) = false := by simp [he]
            have hfr := HS7.out.log.1.frozen 6
            have HT : Hid (appL d l zs = _) := app_tail Hbr.out HKz.out hk1 hfull (j := j) (by omega) H0.out (by rw [HE.out]; exact he)
            rw [HE.out] at HT
            go_wp2
            go_ret
            exact rapp_fail HS.out HS7.out HB7.out HT.out
        · have hlti : ¬ (j : Int) + 1 < (k : Int) := by omega
          have hjk2 : j + 1 = k := by omega
          rw [hjk2] at HSt H0 HwrB
          clear hjk2
          obtain ⟨D1, hD1⟩ : ∃ D1, (doW d (tailW (l.f + l.pos) zs k)).2 = D1 := ⟨_, rfl⟩
          have d2 : wr.cell? ⟨L, 2, none⟩ = some (.int .i64 (l.n : Nat)) := HSt.out.log.1.cell (i := 2) rfl
          have d4 : wr.cell? ⟨L, 4, none⟩ = some (.int .i64 (l.pos : Nat)) := HSt.out.log.1.cell (i := 4) rfl
          have d0 : wr.cell? ⟨L, 0, none⟩ = some (.pointer (some ⟨p, 0, none⟩)) := HSt.out.log.1.cell (i := 0) rfl
          clear c1 c2 c4 c6
          by_cases hroom : l.pos + k < l.n
          · have hri : (l.pos : Int) + (k : Int) < (l.n : Int) := by omega
            have HBu2 : Hid (Try.prog.built 55 [] = some (u8s zeros64).toArray) := built29
            have HWm : Hid (∀ (W' : World) (y : Int), Below wr.heap.size wr W' → y = ((l.f + l.pos + k : Nat) : Int) → Calls Try.prog 27 #[.pointer (some ⟨p, 0, none⟩), .int .i64 y, .agg (u8s zeros64).toArray] W' fun e w' => e = .returned (.int .i64 (D1.wErr ((l.f + l.pos + k : Nat) : Int))) ∧ RSt F n₀ w' L p g (.slice vq l.recs.length vc) (D1.write ((l.f + l.pos + k : Nat) : Int) zeros64) l ∧ Buts [p, g] wr.heap.size wr w') := fun W' y hb hy => by
              rw [hy, ← hD1]
              exact (refWrite_st (HSt.out.later hb) _ isSec_zeros (by have := HwrB.out; omega)).mono fun _ _ ⟨a, b, c⟩ => ⟨a, b, (Buts.of_below hb (Nat.le_refl _)).trans (c.mono (fun _ h => h) hb.size)⟩
            obtain ⟨Z, hZ⟩ : ∃ Z, u8s zeros64 = Z := ⟨_, rfl⟩
            rw [hZ] at HBu2 HWm
            obtain ⟨e1, hE1⟩ : ∃ e1, D1.wErr ((l.f + l.pos + k : Nat) : Int) = e1 := ⟨_, rfl⟩
            rw [hE1] at HWm
            have HE1 : Hid ((doW d (tailW (l.f + l.pos) zs k)).2.wErr ((l.f + l.pos + k : Nat) : Int) = e1) := by show _ = _; rw [hD1]; exact hE1
            have HD1 : Hid ((doW d (tailW (l.f + l.pos) zs k)).2 = D1) := hD1
            clear hZ hE1 hD1
            by_cases he1 : e1 = 0
            · have g1 : (e1 == 0) = true := by rw [he1]; rfl
              obtain ⟨D2, hD2⟩ : ∃ D2, D1.write ((l.f + l.pos + k : Nat) : Int) zeros64 = D2 := ⟨_, rfl⟩
              have HBody : Hid (doW d (bodyW l.f l.n l.pos zs) = (0, D2)) := by
                have := body_yes HKz.out hroom H0.out (HE1.out.trans he1)
                rw [HD1.out, hD2] at this
                exact this
              have HwM : Hid (D2.wr ≤ 200001) := by
                show _ ≤ _
                have h1 := write_wr' D1 ((l.f + l.pos + k : Nat) : Int) zeros64
                have h2 := HwrB.out
                rw [HD1.out] at h2
                rw [hD2] at h1
                omega
              rw [hD2] at HWm
              clear hD2
              go_upto_region 23 with (first
                | (go_quiet (fail))
                | ((with_reducible show wpList _ _ _ (Oper.mk _ (Op.build 55 _) _ _ _ _ :: _) _ _); refine wpList_built_want (by rfl) 55 _ rfl _ _ (by simp only [List.map_toArray, List.map_nil]) HBu2.out ?_; simp only [Act.put, List.setIfInBounds_toArray, List.set_cons_zero, List.set_cons_succ])
                | (go_at_call 27; refine (HWm.out _ _ (below_drewN (Below.refl _ _) _) (by first | omega | (rw [IntKind.wrap_i64]; omega))).mono ?_; rintro e wM ⟨rfl, hSM, hbM⟩; have HSM : Hid (RSt F n₀ wM L p g (.slice vq l.recs.length vc) D2 l) := hSM; have HBM : Hid (Buts [p, g] w.heap.size w wM) := HBu.out.trans (hbM.mono (fun _ h => h) hswr); clear hSM hbM))
              have HCM : Hid (∀ W', Buts [p, g] wM.heap.size wM W' → W'.cell? ⟨L, 0, none⟩ = some (.pointer (some ⟨p, 0, none⟩)) ∧ W'.cell? ⟨L, 3, none⟩ = some (.int .u32 (l.gen : Nat)) ∧ W'.cell? ⟨L, 5, none⟩ = some (.slice vq l.recs.length vc)) := fun W' hb => by
                have hr := hb.row HSM.out.log.1.lt (by have := HSM.out.pg; have := HSM.out.low; simp; omega) HSM.out.log.1
                exact ⟨hr.cell (i := 0) rfl, hr.cell (i := 3) rfl, hr.cell (i := 5) rfl⟩
              have HFi : Hid (∀ W', Buts [p, g] wM.heap.size wM W' → Calls Try.prog 36 #[.slice q len cap, .int .u32 (l.gen : Nat), .int .i64 (l.recs.length : Nat)] W' fun e w' => e = .returned (.agg (u8s (headL zs l.gen l.recs.length)).toArray) ∧ Below W'.heap.size W' w') := fun W' hb => first_any q len cap zs l.gen l.recs.length W' (bytes_buts HI.out hm HQn.out (HBM.out.trans (hb.mono (fun _ h => h) (by have := HBM.out.size; omega)))) (by omega) hgen (by omega)
              have hxh : IsSec (headL zs l.gen l.recs.length) := headL_sec HZ.out _ _
              have HWh : Hid (∀ (W' : World) (y : Int), Below wM.heap.size wM W' → y = ((l.f + l.pos : Nat) : Int) → Calls Try.prog 27 #[.pointer (some ⟨p, 0, none⟩), .int .i64 y, .agg (u8s (headL zs l.gen l.recs.length)).toArray] W' fun e w' => e = .returned (.int .i64 (D2.wErr ((l.f + l.pos : Nat) : Int))) ∧ RSt F n₀ w' L p g (.slice vq l.recs.length vc) (D2.write ((l.f + l.pos : Nat) : Int) (headL zs l.gen l.recs.length)) l ∧ Buts [p, g] wM.heap.size wM w') := fun W' y hb hy => by
                rw [hy]
                exact (refWrite_st (HSM.out.later hb) _ hxh (by have := HwM.out; omega)).mono fun _ _ ⟨a, b, c⟩ => ⟨a, b, (Buts.of_below hb (Nat.le_refl _)).trans (c.mono (fun _ h => h) hb.size)⟩
              obtain ⟨XH, hXH⟩ : ∃ X, u8s (headL zs l.gen l.recs.length) = X := ⟨_, rfl⟩
              rw [hXH] at HFi HWh
              obtain ⟨e2, hE2⟩ : ∃ e2, D2.wErr ((l.f + l.pos : Nat) : Int) = e2 := ⟨_, rfl⟩
              rw [hE2] at HWh
              have HE2 : Hid (D2.wErr ((l.f + l.pos : Nat) : Int) = e2) := hE2
              clear hXH hE2 hxh
              refine wp_region_held_drew (S := fun W' => Buts [p, g] wM.heap.size wM W') (by kernel_rfl) (Buts.refl _ _ _).drew (fun hHeld => ?_)
              refine wpAnyH_takesAt 0 4 14 (of_decide_eq_true (by kernel_rfl)) rfl (fun _ _ _ d _ h => by cases d <;> exact h) (by kernel_rfl) (by kernel_rfl) hHeld ?_
              simp only [List.drop_zero, List.take_succ_cons, List.take_zero]
              iterate 4 (refine wpHeld_step (v := ?_) (by rfl) (fun wz hSw => ?_) ?_; rotate_left; (focus (obtain ⟨hc0, hc3, hc5⟩ := HCM.out wz hSw; clear hSw; go_simp; try with_reducible rfl)); (simp only [Act.put, List.setIfInBounds_toArray, List.set_cons_zero, List.set_cons_succ]))
              refine wpHeld_nil ?_
              refine wpAnyH_takesAt 4 2 12 (of_decide_eq_true (by kernel_rfl)) rfl (fun _ _ _ d _ h => by cases d <;> exact h) (by kernel_rfl) (by kernel_rfl) hHeld ?_
              simp only [List.drop_succ_cons, List.drop_zero, List.take_succ_cons, List.take_zero]
              iterate 2 (refine wpHeld_step (v := ?_) (by rfl) (fun wz hSw => ?_) ?_; rotate_left; (focus ((try dsimp only at hSw); go_simp; try with_reducible rfl)); (simp only [Act.put, List.setIfInBounds_toArray, List.set_cons_zero, List.set_cons_succ]))
              refine wpHeld_nil ?_
              refine wpAnyH_takesAt 6 4 8 (of_decide_eq_true (by kernel_rfl)) rfl (fun _ _ _ d _ h => by cases d <;> exact h) (by kernel_rfl) (by kernel_rfl) hHeld ?_
              simp only [List.drop_succ_cons, List.drop_zero, List.take_succ_cons, List.take_zero]
              iterate 4 (refine wpHeld_step (v := ?_) (by rfl) (fun wz hSw => ?_) ?_; rotate_left; (focus (obtain ⟨hc0, hc3, hc5⟩ := HCM.out wz hSw; clear hSw; go_simp; try with_reducible rfl)); (simp only [Act.put, List.setIfInBounds_toArray, List.set_cons_zero, List.set_cons_succ]))
              refine wpHeld_nil ?_
              refine wpAnyH_takesAt 10 5 3 (of_decide_eq_true (by kernel_rfl)) rfl (fun _ _ _ d _ h => by cases d <;> exact h) (by kernel_rfl) (by kernel_rfl) hHeld ?_
              simp only [List.drop_succ_cons, List.drop_zero, List.take_succ_cons, List.take_zero]
              iterate 5 (refine wpHeld_step (v := ?_) (by rfl) (fun wz hSw => ?_) ?_; rotate_left; (focus (obtain ⟨hc0, hc3, hc5⟩ := HCM.out wz hSw; clear hSw; go_simp; try with_reducible rfl)); (simp only [Act.put, List.setIfInBounds_toArray, List.set_cons_zero, List.set_cons_succ]))
              refine wpHeld_nil ?_
              refine wpAnyH_only (i := 15) (by kernel_rfl) rfl (fun K hK => ?_)
              rw [if_pos (by rfl)]
              go_simp
              refine (HFi.out _ hHeld).mono ?_
              rintro e w8 ⟨rfl, hb8⟩
              have hb8' : Below wM.heap.size wM w8 := ((Below.refl _ _).drew).trans hb8
              refine hK.out _ _ (Buts.of_below hb8' (Nat.le_refl _)) ?_
              clear hK K hHeld
              have hHeld : Buts [p, g] wM.heap.size wM w8 := Buts.of_below hb8' (Nat.le_refl _)
              refine wpAnyH_only (i := 16) (by kernel_rfl) rfl (fun K hK => ?_)
              rw [if_pos (by rfl)]
              go_simp
              refine (HWh.out _ _ hb8' (by first | omega | (rw [IntKind.wrap_i64]; omega))).mono ?_
              rintro e w9 ⟨rfl, hS9, hb9⟩
              refine hK.out _ _ hb9 ?_
              clear hK K hHeld hb8 hb8'
              have hHeld := hb9
              refine wpAnyH_takesAt 17 1 0 (of_decide_eq_true (by kernel_rfl)) rfl (fun _ _ _ d _ h => by cases d <;> exact h) (by kernel_rfl) (by kernel_rfl) hHeld ?_
              simp only [List.drop_succ_cons, List.drop_zero, List.take_succ_cons, List.take_zero]
              iterate 1 (refine wpHeld_step (v := ?_) (by rfl) (fun wz hSw => ?_) ?_; rotate_left; (focus ((try dsimp only at hSw); go_simp; try with_reducible rfl)); ((simp only [Act.put]; (try simp only [List.setIfInBounds_toArray]); (try simp only [List.set_cons_succ]); (try simp only [List.set_cons_zero]))))
              refine wpHeld_nil ?_
              refine wpAnyH_done (by kernel_rfl) ?_ _
              clear hHeld
              have HS9 : Hid (RSt F n₀ w9 L p g (.slice vq l.recs.length vc) _ l) := hS9
              have HB9 : Hid (Buts [p, g] w.heap.size w w9) := HBM.out.trans (hb9.mono (fun _ h => h) (by have := HBM.out.size; omega))
              clear hS9 hb9
              by_cases he2 : e2 = 0
              · have g2 : (e2 == 0) = true := by rw [he2]; rfl
                have HT : Hid (appL d l zs = _) := app_done Hbr.out HKz.out hk1 hfull HBody.out (HE2.out.trans he2)
                have HI9 : Hid (∀ W, Below w9.heap.size w9 W → IsBytes W.heap.size W q len cap zs) := fun W hb => bytes_buts HI.out hm HQn.out (HB9.out.trans (Buts.of_below hb (by have := HB9.out.size; omega)))
                have HC9 : Hid (∀ W, Below w9.heap.size w9 W → W.cell? ⟨L, 5, none⟩ = some (.slice vq l.recs.length vc)) := fun W hb => (HS9.out.later hb).log.1.cell (i := 5) rfl
                have hfr5 := HS9.out.log.1.frozen 5
                go_upto_region 27 with fail
                refine wp_region_gate' 8 (fun W => Below w9.heap.size w9 W) (by kernel_rfl) ?_
                have hHeld : Below w9.heap.size w9 w9.drew := (Below.refl _ _).drew
                refine wpAnyG_takesAt 0 1 11 (of_decide_eq_true (by kernel_rfl)) rfl (fun _ _ _ d _ h => by cases d <;> exact h) (by kernel_rfl) (by kernel_rfl) (fun _ => hHeld) ?_
                simp only [List.drop_zero, List.take_succ_cons, List.take_zero]
                refine wpHeldG_free (v := .pointer (some ⟨L, 0, none⟩)) (by rfl) (fun wz => by go_simp) ?_
                (simp only [Act.put]; (try simp only [List.setIfInBounds_toArray]); (try simp only [List.set_cons_succ]); (try simp only [List.set_cons_zero]))
                refine wpHeldG_nil ?_
                refine wpAnyG_takesAt 1 1 10 (of_decide_eq_true (by kernel_rfl)) rfl (fun _ _ _ d _ h => by cases d <;> exact h) (by kernel_rfl) (by kernel_rfl) (fun _ => hHeld) ?_
                simp only [List.drop_succ_cons, List.drop_zero, List.take_succ_cons, List.take_zero]
                refine wpHeldG_free (v := .pointer (some ⟨L, 0, none⟩)) (by rfl) (fun wz => by go_simp) ?_
                (simp only [Act.put]; (try simp only [List.setIfInBounds_toArray]); (try simp only [List.set_cons_succ]); (try simp only [List.set_cons_zero]))
                refine wpHeldG_nil ?_
                refine wpAnyG_takesAt 2 1 9 (of_decide_eq_true (by kernel_rfl)) rfl (fun _ _ _ d _ h => by cases d <;> exact h) (by kernel_rfl) (by kernel_rfl) (fun _ => hHeld) ?_
                simp only [List.drop_succ_cons, List.drop_zero, List.take_succ_cons, List.take_zero]
                refine wpHeldG_free (v := .pointer (some ⟨L, 0, none⟩)) (by rfl) (fun wz => by go_simp) ?_
                (simp only [Act.put]; (try simp only [List.setIfInBounds_toArray]); (try simp only [List.set_cons_succ]); (try simp only [List.set_cons_zero]))
                refine wpHeldG_nil ?_
                refine wpAnyG_takesAt 3 1 8 (of_decide_eq_true (by kernel_rfl)) rfl (fun _ _ _ d _ h => by cases d <;> exact h) (by kernel_rfl) (by kernel_rfl) (fun _ => hHeld) ?_
                simp only [List.drop_succ_cons, List.drop_zero, List.take_succ_cons, List.take_zero]
                refine wpHeldG_free (v := .pointer (some ⟨L, 5, none⟩)) (by rfl) (fun wz => by go_simp) ?_
                (simp only [Act.put]; (try simp only [List.setIfInBounds_toArray]); (try simp only [List.set_cons_succ]); (try simp only [List.set_cons_zero]))
                refine wpHeldG_nil ?_
                refine wpAnyG_takesAt 4 1 7 (of_decide_eq_true (by kernel_rfl)) rfl (fun _ _ _ d _ h => by cases d <;> exact h) (by kernel_rfl) (by kernel_rfl) (fun _ => hHeld) ?_
                simp only [List.drop_succ_cons, List.drop_zero, List.take_succ_cons, List.take_zero]
                iterate 1 (refine wpHeldG_step (v := ?_) (by rfl) (by kernel_rfl) (fun wz hSw => ?_) ?_; rotate_left; (focus (have hc := HC9.out wz hSw; clear hSw; go_simp; try with_reducible rfl)); ((simp only [Act.put]; (try simp only [List.setIfInBounds_toArray]); (try simp only [List.set_cons_succ]); (try simp only [List.set_cons_zero]))))
                refine wpHeldG_nil ?_
                refine wpAnyG_takesAt 5 1 6 (of_decide_eq_true (by kernel_rfl)) rfl (fun _ _ _ d _ h => by cases d <;> exact h) (by kernel_rfl) (by kernel_rfl) (fun _ => hHeld) ?_
                simp only [List.drop_succ_cons, List.drop_zero, List.take_succ_cons, List.take_zero]
                refine wpHeldG_free (v := .slice q len cap) (by rfl) (fun wz => by go_simp) ?_
                (simp only [Act.put]; (try simp only [List.setIfInBounds_toArray]); (try simp only [List.set_cons_succ]); (try simp only [List.set_cons_zero]))
                refine wpHeldG_nil ?_
                refine wpAnyG_only (i := 6) (by kernel_rfl) rfl (by rfl) (fun K hK => ?_)
                obtain ⟨v5, w10, hrun5, ho5, hg5⟩ := run_append_bytes (P := Try.prog) Try.underlying25 info5 w9.drew w9.heap.size 25 (.slice none 0 0) [] (Own.nil _ _) (HI9.out _ hHeld) (by simp; omega) (Nat.le_refl _)
                refine wp_append_of (.const (.slice none 0 0)) (.tmp 126) 25 rfl rfl rfl hrun5 ?_
                have hb10 : Below w9.heap.size w9 w10 := hHeld.grown hg5 hHeld.size (fun k hk => by cases hk)
                refine hK.out _ _ (fun _ => hb10) ?_
                clear hK K hrun5 hg5
                rw [List.nil_append] at ho5
                have HX5 : Hid (Bytes5 w10 v5 zs) := Bytes5.of_own ho5 HZ.out
                obtain ⟨q5, c5, rfl⟩ := slice_of_row ho5
                clear ho5
                refine wpAnyG_only (i := 7) (by kernel_rfl) rfl (by rfl) (fun K hK => ?_)
                go_simp
                obtain ⟨w3, hw3⟩ : ∃ w3, w10.alloc (Obj.cells #[Value.slice q5 zs.length c5] 25) = w3 := ⟨_, rfl⟩
                have hb3 : Below w10.heap.size w10 w3 := by rw [← hw3]; exact (Below.refl _ _).alloc (Nat.le_refl _) _
                have hr3 : Row w3 w10.heap.size 25 [.slice q5 zs.length c5] := by rw [← hw3]; exact Row.new w10 25 #[.slice q5 zs.length c5]
                have HB3 : Hid (Below w9.heap.size w9 w3) := hb10.trans (hb3.mono hb10.size)
                rw [hw3]
                clear hw3
                refine hK.out _ _ (fun _ => HB3.out) ?_
                clear hK K
                obtain ⟨v', w4, hrun, ha1, ha2, ha3, ha4⟩ := run_append_rec2 w3 n₀ 39 (.slice vq l.recs.length vc) l.recs (HS9.out.later HB3.out).log.2 w10.heap.size (.slice q5 zs.length c5) zs (HX5.out.kept (KeepT.of_below hb3)) (hr3.cell (i := 0) rfl) (by omega) (by have := HB3.out.size; have := HB9.out.size; omega)
                obtain ⟨g1', g2', g3', g4'⟩ := (HS9.out.later HB3.out).app (l' := { l with recs := l.recs ++ [zs] }) ha2 ha3 ha1 rfl
                have HRun : Hid ((Builtin.append_ #[39, 39] 39 #[.slice vq l.recs.length vc, .slice (some ⟨w10.heap.size, 0, none⟩) 1 1]).run Try.prog w3 = .ok v' w4) := hrun
                have c54 : w4.cell? ⟨L, 5, none⟩ = some (.slice vq l.recs.length vc) := g2'.cell (i := 5) rfl
                have f54 := g2'.frozen 5
                have HG1 : Hid (RSt F n₀ _ L p g v' _ _) := g1'
                have HG3 : Hid (Buts (L :: ownL (.slice vq l.recs.length vc)) _ _ _) := g3'
                have HG4 : Hid (KeepT 5 _ _) := g4'
                have HA4 : Hid (∀ k, v'.ownBlock = some k → (Value.slice vq l.recs.length vc).ownBlock = some k ∨ w9.heap.size ≤ k) := fun k hk => (ha4 k hk).imp id (fun h => by have := HB3.out.size; omega)
                obtain ⟨vq', vl', vc', hv'⟩ : ∃ vq vl vc, v' = .slice vq vl vc := by obtain ⟨a, b, e⟩ := ha1.slice; exact ⟨_, _, _, e⟩
                have HV' : Hid (v' = .slice vq' vl' vc') := hv'
                rw [hv'] at HRun
                clear hrun ha1 ha2 ha3 ha4 g1' g2' g3' g4' hr3 hv' hHeld
                refine wpAnyG_only (i := 8) (by kernel_rfl) rfl (by rfl) (fun K hK => ?_)
                refine wp_append_of (.tmp 125) (.tmp 128) 39 rfl rfl rfl HRun.out ?_
                refine hK.out _ _ (gone (by kernel_rfl)) ?_
                clear hK K
                refine wpAnyG_takesAt 9 1 2 (of_decide_eq_true (by kernel_rfl)) rfl (fun _ _ _ d _ h => by cases d <;> exact h) (by kernel_rfl) (by kernel_rfl) (gone (by kernel_rfl)) ?_
                simp only [List.drop_succ_cons, List.drop_zero, List.take_succ_cons, List.take_zero]
                refine wpHeldG_free (v := .pointer (some ⟨L, 0, none⟩)) (by rfl) (fun wz => by go_simp) ?_
                (simp only [Act.put]; (try simp only [List.setIfInBounds_toArray]); (try simp only [List.set_cons_succ]); (try simp only [List.set_cons_zero]))
                refine wpHeldG_nil ?_
                refine wpAnyG_takesAt 10 1 1 (of_decide_eq_true (by kernel_rfl)) rfl (fun _ _ _ d _ h => by cases d <;> exact h) (by kernel_rfl) (by kernel_rfl) (gone (by kernel_rfl)) ?_
                simp only [List.drop_succ_cons, List.drop_zero, List.take_succ_cons, List.take_zero]
                refine wpHeldG_free (v := .pointer (some ⟨L, 5, none⟩)) (by rfl) (fun wz => by go_simp) ?_
                (simp only [Act.put]; (try simp only [List.setIfInBounds_toArray]); (try simp only [List.set_cons_succ]); (try simp only [List.set_cons_zero]))
                refine wpHeldG_nil ?_
                refine wpAnyG_only (i := 11) (by kernel_rfl) rfl (by rfl) (fun K hK => ?_)
                go_simp
                refine hK.out _ _ (gone (by kernel_rfl)) ?_
                clear hK K
                refine wpAnyG_done (by kernel_rfl) ?_ _
                obtain ⟨wk, hwk⟩ : ∃ wk, w4.setCell ⟨L, 5, none⟩ (.slice vq' vl' vc') = wk := ⟨_, rfl⟩
                have HSk : Hid (RSt F n₀ wk L p g v' (D2.write ((l.f + l.pos : Nat) : Int) (headL zs l.gen l.recs.length)) { l with recs := l.recs ++ [zs] }) := by rw [← hwk, ← HV'.out]; exact HG1.out
                have HBk : Hid (Buts (L :: ownL (.slice vq l.recs.length vc)) w3.heap.size w3 wk) := by rw [← hwk, ← HV'.out]; exact HG3.out
                have H5k : Hid (KeepT 5 w3 wk) := by rw [← hwk, ← HV'.out]; exact HG4.out
                rw [hwk]
                clear hwk c54 f54 hb3 hb10
                have hck4 : wk.cell? ⟨L, 4, none⟩ = some (.int .i64 (l.pos : Nat)) := HSk.out.log.1.cell (i := 4) rfl
                have hfk4 := HSk.out.log.1.frozen 4
                go_wp2
                go_ret
                exact rapp_ok HS.out HB9.out HB3.out HSk.out HBk.out H5k.out HA4.out (by omega) HT.out
              · have g2 : (e2 == 0) = false := by simp [he2]
                have hc6 : w9.cell? ⟨L, 6, none⟩ = some (.bool false) := by have := HS9.out.log.1.cell (i := 6) rfl; rw [Hbr.out] at this; exact this
                have hfr := HS9.out.log.1.frozen 6
                have HT : Hid (appL d l zs = _) := app_head Hbr.out HKz.out hk1 hfull HBody.out (by rw [HE2.out]; exact he2)
                rw [HE2.out] at HT
                go_wp2
                go_ret
                exact rapp_fail HS.out HS9.out HB9.out HT.out
            · have g1 : (e1 == 0) = false := by simp [he1]
              have HT : Hid (appL d l zs = _) := app_mark Hbr.out HKz.out hk1 hfull hroom H0.out (by rw [HE1.out]; exact he1)
              rw [HE1.out, HD1.out] at HT
              go_wp2_with (first
                | (go_quiet (fail))
                | ((with_reducible show wpList _ _ _ (Oper.mk _ (Op.build 55 _) _ _ _ _ :: _) _ _); refine wpList_built_want (by rfl) 55 _ rfl _ _ (by simp only [List.map_toArray, List.map_nil]) HBu2.out ?_; simp only [Act.put, List.setIfInBounds_toArray, List.set_cons_zero, List.set_cons_succ])
                | (go_at_call 27; refine (HWm.out _ _ (below_drewN (Below.refl _ _) _) (by first | omega | (rw [IntKind.wrap_i64]; omega))).mono ?_; rintro e wM ⟨rfl, hSM, hbM⟩; have HSM : Hid (RSt F n₀ wM L p g (.slice vq l.recs.length vc) _ l) := hSM; have HBM : Hid (Buts [p, g] w.heap.size w wM) := HBu.out.trans (hbM.mono (fun _ h => h) hswr); have hc6 : wM.cell? ⟨L, 6, none⟩ = some (.bool false) := (by have := HSM.out.log.1.cell (i := 6) rfl; rw [Hbr.out] at this; exact this); have hfr := HSM.out.log.1.frozen 6; clear hSM hbM))
              go_ret
              exact rapp_fail HS.out HSM.out HBM.out HT.out
          · have hri : ¬ (l.pos : Int) + (k : Int) < (l.n : Int) := by omega
            have HBody : Hid (doW d (bodyW l.f l.n l.pos zs) = (0, D1)) := by
              have := body_no HKz.out hroom H0.out
              rw [hD1] at this
              exact this
            rw [hD1] at HSt HwrB
            clear hD1
            obtain ⟨D2, hD2⟩ : ∃ D2, D1 = D2 := ⟨_, rfl⟩
            rw [hD2] at HSt HwrB HBody
            clear hD2
            have HwM : Hid (D2.wr ≤ 200001) := by show _ ≤ _; have := HwrB.out; omega
            go_upto_region 23 with (go_quiet (fail))
            obtain ⟨wM, hwM⟩ : ∃ wM, wr.drewN nq = wM := ⟨_, rfl⟩
            have HSM : Hid (RSt F n₀ wM L p g (.slice vq l.recs.length vc) D2 l) := by rw [← hwM]; exact HSt.out.later (below_drewN (Below.refl _ _) _)
            have HBM : Hid (Buts [p, g] w.heap.size w wM) := by rw [← hwM]; exact HBu.out.trans (Buts.of_below (below_drewN (Below.refl _ _) _) hswr)
            rw [hwM]
            clear hwM d2 d4 d0
            have HCM : Hid (∀ W', Buts [p, g] wM.heap.size wM W' → W'.cell? ⟨L, 0, none⟩ = some (.pointer (some ⟨p, 0, none⟩)) ∧ W'.cell? ⟨L, 3, none⟩ = some (.int .u32 (l.gen : Nat)) ∧ W'.cell? ⟨L, 5, none⟩ = some (.slice vq l.recs.length vc)) := fun W' hb => by
              have hr := hb.row HSM.out.log.1.lt (by have := HSM.out.pg; have := HSM.out.low; simp; omega) HSM.out.log.1
              exact ⟨hr.cell (i := 0) rfl, hr.cell (i := 3) rfl, hr.cell (i := 5) rfl⟩
            have HFi : Hid (∀ W', Buts [p, g] wM.heap.size wM W' → Calls Try.prog 36 #[.slice q len cap, .int .u32 (l.gen : Nat), .int .i64 (l.recs.length : Nat)] W' fun e w' => e = .returned (.agg (u8s (headL zs l.gen l.recs.length)).toArray) ∧ Below W'.heap.size W' w') := fun W' hb => first_any q len cap zs l.gen l.recs.length W' (bytes_buts HI.out hm HQn.out (HBM.out.trans (hb.mono (fun _ h => h) (by have := HBM.out.size; omega)))) (by omega) hgen (by omega)
            have hxh : IsSec (headL zs l.gen l.recs.length) := headL_sec HZ.out _ _
            have HWh : Hid (∀ (W' : World) (y : Int), Below wM.heap.size wM W' → y = ((l.f + l.pos : Nat) : Int) → Calls Try.prog 27 #[.pointer (some ⟨p, 0, none⟩), .int .i64 y, .agg (u8s (headL zs l.gen l.recs.length)).toArray] W' fun e w' => e = .returned (.int .i64 (D2.wErr ((l.f + l.pos : Nat) : Int))) ∧ RSt F n₀ w' L p g (.slice vq l.recs.length vc) (D2.write ((l.f + l.pos : Nat) : Int) (headL zs l.gen l.recs.length)) l ∧ Buts [p, g] wM.heap.size wM w') := fun W' y hb hy => by
              rw [hy]
              exact (refWrite_st (HSM.out.later hb) _ hxh (by have := HwM.out; omega)).mono fun _ _ ⟨a, b, c⟩ => ⟨a, b, (Buts.of_below hb (Nat.le_refl _)).trans (c.mono (fun _ h => h) hb.size)⟩
            obtain ⟨XH, hXH⟩ : ∃ X, u8s (headL zs l.gen l.recs.length) = X := ⟨_, rfl⟩
            rw [hXH] at HFi HWh
            obtain ⟨e2, hE2⟩ : ∃ e2, D2.wErr ((l.f + l.pos : Nat) : Int) = e2 := ⟨_, rfl⟩
            rw [hE2] at HWh
            have HE2 : Hid (D2.wErr ((l.f + l.pos : Nat) : Int) = e2) := hE2
            clear hXH hE2 hxh
            refine wp_region_held_drew (S := fun W' => Buts [p, g] wM.heap.size wM W') (by kernel_rfl) (Buts.refl _ _ _).drew (fun hHeld => ?_)
            refine wpAnyH_takesAt 0 4 14 (of_decide_eq_true (by kernel_rfl)) rfl (fun _ _ _ d _ h => by cases d <;> exact h) (by kernel_rfl) (by kernel_rfl) hHeld ?_
            simp only [List.drop_zero, List.take_succ_cons, List.take_zero]
            iterate 4 (refine wpHeld_step (v := ?_) (by rfl) (fun wz hSw => ?_) ?_; rotate_left; (focus (obtain ⟨hc0, hc3, hc5⟩ := HCM.out wz hSw; clear hSw; go_simp; try with_reducible rfl)); (simp only [Act.put, List.setIfInBounds_toArray, List.set_cons_zero, List.set_cons_succ]))
            refine wpHeld_nil ?_
            refine wpAnyH_takesAt 4 2 12 (of_decide_eq_true (by kernel_rfl)) rfl (fun _ _ _ d _ h => by cases d <;> exact h) (by kernel_rfl) (by kernel_rfl) hHeld ?_
            simp only [List.drop_succ_cons, List.drop_zero, List.take_succ_cons, List.take_zero]
            iterate 2 (refine wpHeld_step (v := ?_) (by rfl) (fun wz hSw => ?_) ?_; rotate_left; (focus ((try dsimp only at hSw); go_simp; try with_reducible rfl)); (simp only [Act.put, List.setIfInBounds_toArray, List.set_cons_zero, List.set_cons_succ]))
            refine wpHeld_nil ?_
            refine wpAnyH_takesAt 6 4 8 (of_decide_eq_true (by kernel_rfl)) rfl (fun _ _ _ d _ h => by cases d <;> exact h) (by kernel_rfl) (by kernel_rfl) hHeld ?_
            simp only [List.drop_succ_cons, List.drop_zero, List.take_succ_cons, List.take_zero]
            iterate 4 (refine wpHeld_step (v := ?_) (by rfl) (fun wz hSw => ?_) ?_; rotate_left; (focus (obtain ⟨hc0, hc3, hc5⟩ := HCM.out wz hSw; clear hSw; go_simp; try with_reducible rfl)); (simp only [Act.put, List.setIfInBounds_toArray, List.set_cons_zero, List.set_cons_succ]))
            refine wpHeld_nil ?_
            refine wpAnyH_takesAt 10 5 3 (of_decide_eq_true (by kernel_rfl)) rfl (fun _ _ _ d _ h => by cases d <;> exact h) (by kernel_rfl) (by kernel_rfl) hHeld ?_
            simp only [List.drop_succ_cons, List.drop_zero, List.take_succ_cons, List.take_zero]
            iterate 5 (refine wpHeld_step (v := ?_) (by rfl) (fun wz hSw => ?_) ?_; rotate_left; (focus (obtain ⟨hc0, hc3, hc5⟩ := HCM.out wz hSw; clear hSw; go_simp; try with_reducible rfl)); (simp only [Act.put, List.setIfInBounds_toArray, List.set_cons_zero, List.set_cons_succ]))
            refine wpHeld_nil ?_
            refine wpAnyH_only (i := 15) (by kernel_rfl) rfl (fun K hK => ?_)
            rw [if_pos (by rfl)]
            go_simp
            refine (HFi.out _ hHeld).mono ?_
            rintro e w8 ⟨rfl, hb8⟩
            have hb8' : Below wM.heap.size wM w8 := ((Below.refl _ _).drew).trans hb8
            refine hK.out _ _ (Buts.of_below hb8' (Nat.le_refl _)) ?_
            clear hK K hHeld
            have hHeld : Buts [p, g] wM.heap.size wM w8 := Buts.of_below hb8' (Nat.le_refl _)
            refine wpAnyH_only (i := 16) (by kernel_rfl) rfl (fun K hK => ?_)
            rw [if_pos (by rfl)]
            go_simp
            refine (HWh.out _ _ hb8' (by first | omega | (rw [IntKind.wrap_i64]; omega))).mono ?_
            rintro e w9 ⟨rfl, hS9, hb9⟩
            refine hK.out _ _ hb9 ?_
            clear hK K hHeld hb8 hb8'
            have hHeld := hb9
            refine wpAnyH_takesAt 17 1 0 (of_decide_eq_true (by kernel_rfl)) rfl (fun _ _ _ d _ h => by cases d <;> exact h) (by kernel_rfl) (by kernel_rfl) hHeld ?_
            simp only [List.drop_succ_cons, List.drop_zero, List.take_succ_cons, List.take_zero]
            iterate 1 (refine wpHeld_step (v := ?_) (by rfl) (fun wz hSw => ?_) ?_; rotate_left; (focus ((try dsimp only at hSw); go_simp; try with_reducible rfl)); ((simp only [Act.put]; (try simp only [List.setIfInBounds_toArray]); (try simp only [List.set_cons_succ]); (try simp only [List.set_cons_zero]))))
            refine wpHeld_nil ?_
            refine wpAnyH_done (by kernel_rfl) ?_ _
            clear hHeld
            have HS9 : Hid (RSt F n₀ w9 L p g (.slice vq l.recs.length vc) _ l) := hS9
            have HB9 : Hid (Buts [p, g] w.heap.size w w9) := HBM.out.trans (hb9.mono (fun _ h => h) (by have := HBM.out.size; omega))
            clear hS9 hb9
            by_cases he2 : e2 = 0
            · have g2 : (e2 == 0) = true := by rw [he2]; rfl
              have HT : Hid (appL d l zs = _) := app_done Hbr.out HKz.out hk1 hfull HBody.out (HE2.out.trans he2)
              have HI9 : Hid (∀ W, Below w9.heap.size w9 W → IsBytes W.heap.size W q len cap zs) := fun W hb => bytes_buts HI.out hm HQn.out (HB9.out.trans (Buts.of_below hb (by have := HB9.out.size; omega)))
              have HC9 : Hid (∀ W, Below w9.heap.size w9 W → W.cell? ⟨L, 5, none⟩ = some (.slice vq l.recs.length vc)) := fun W hb => (HS9.out.later hb).log.1.cell (i := 5) rfl
              have hfr5 := HS9.out.log.1.frozen 5
              go_upto_region 27 with fail
              refine wp_region_gate' 8 (fun W => Below w9.heap.size w9 W) (by kernel_rfl) ?_
              have hHeld : Below w9.heap.size w9 w9.drew := (Below.refl _ _).drew
              refine wpAnyG_takesAt 0 1 11 (of_decide_eq_true (by kernel_rfl)) rfl (fun _ _ _ d _ h => by cases d <;> exact h) (by kernel_rfl) (by kernel_rfl) (fun _ => hHeld) ?_
              simp only [List.drop_zero, List.take_succ_cons, List.take_zero]
              refine wpHeldG_free (v := .pointer (some ⟨L, 0, none⟩)) (by rfl) (fun wz => by go_simp) ?_
              (simp only [Act.put]; (try simp only [List.setIfInBounds_toArray]); (try simp only [List.set_cons_succ]); (try simp only [List.set_cons_zero]))
              refine wpHeldG_nil ?_
              refine wpAnyG_takesAt 1 1 10 (of_decide_eq_true (by kernel_rfl)) rfl (fun _ _ _ d _ h => by cases d <;> exact h) (by kernel_rfl) (by kernel_rfl) (fun _ => hHeld) ?_
              simp only [List.drop_succ_cons, List.drop_zero, List.take_succ_cons, List.take_zero]
              refine wpHeldG_free (v := .pointer (some ⟨L, 0, none⟩)) (by rfl) (fun wz => by go_simp) ?_
              (simp only [Act.put]; (try simp only [List.setIfInBounds_toArray]); (try simp only [List.set_cons_succ]); (try simp only [List.set_cons_zero]))
              refine wpHeldG_nil ?_
              refine wpAnyG_takesAt 2 1 9 (of_decide_eq_true (by kernel_rfl)) rfl (fun _ _ _ d _ h => by cases d <;> exact h) (by kernel_rfl) (by kernel_rfl) (fun _ => hHeld) ?_
              simp only [List.drop_succ_cons, List.drop_zero, List.take_succ_cons, List.take_zero]
              refine wpHeldG_free (v := .pointer (some ⟨L, 0, none⟩)) (by rfl) (fun wz => by go_simp) ?_
              (simp only [Act.put]; (try simp only [List.setIfInBounds_toArray]); (try simp only [List.set_cons_succ]); (try simp only [List.set_cons_zero]))
              refine wpHeldG_nil ?_
              refine wpAnyG_takesAt 3 1 8 (of_decide_eq_true (by kernel_rfl)) rfl (fun _ _ _ d _ h => by cases d <;> exact h) (by kernel_rfl) (by kernel_rfl) (fun _ => hHeld) ?_
              simp only [List.drop_succ_cons, List.drop_zero, List.take_succ_cons, List.take_zero]
              refine wpHeldG_free (v := .pointer (some ⟨L, 5, none⟩)) (by rfl) (fun wz => by go_simp) ?_
              (simp only [Act.put]; (try simp only [List.setIfInBounds_toArray]); (try simp only [List.set_cons_succ]); (try simp only [List.set_cons_zero]))
              refine wpHeldG_nil ?_
              refine wpAnyG_takesAt 4 1 7 (of_decide_eq_true (by kernel_rfl)) rfl (fun _ _ _ d _ h => by cases d <;> exact h) (by kernel_rfl) (by kernel_rfl) (fun _ => hHeld) ?_
              simp only [List.drop_succ_cons, List.drop_zero, List.take_succ_cons, List.take_zero]
              iterate 1 (refine wpHeldG_step (v := ?_) (by rfl) (by kernel_rfl) (fun wz hSw => ?_) ?_; rotate_left; (focus (have hc := HC9.out wz hSw; clear hSw; go_simp; try with_reducible rfl)); ((simp only [Act.put]; (try simp only [List.setIfInBounds_toArray]); (try simp only [List.set_cons_succ]); (try simp only [List.set_cons_zero]))))
              refine wpHeldG_nil ?_
              refine wpAnyG_takesAt 5 1 6 (of_decide_eq_true (by kernel_rfl)) rfl (fun _ _ _ d _ h => by cases d <;> exact h) (by kernel_rfl) (by kernel_rfl) (fun _ => hHeld) ?_
              simp only [List.drop_succ_cons, List.drop_zero, List.take_succ_cons, List.take_zero]
              refine wpHeldG_free (v := .slice q len cap) (by rfl) (fun wz => by go_simp) ?_
              (simp only [Act.put]; (try simp only [List.setIfInBounds_toArray]); (try simp only [List.set_cons_succ]); (try simp only [List.set_cons_zero]))
              refine wpHeldG_nil ?_
              refine wpAnyG_only (i := 6) (by kernel_rfl) rfl (by rfl) (fun K hK => ?_)
              obtain ⟨v5, w10, hrun5, ho5, hg5⟩ := run_append_bytes (P := Try.prog) Try.underlying25 info5 w9.drew w9.heap.size 25 (.slice none 0 0) [] (Own.nil _ _) (HI9.out _ hHeld) (by simp; omega) (Nat.le_refl _)
              refine wp_append_of (.const (.slice none 0 0)) (.tmp 126) 25 rfl rfl rfl hrun5 ?_
              have hb10 : Below w9.heap.size w9 w10 := hHeld.grown hg5 hHeld.size (fun k hk => by cases hk)
              refine hK.out _ _ (fun _ => hb10) ?_
              clear hK K hrun5 hg5
              rw [List.nil_append] at ho5
              have HX5 : Hid (Bytes5 w10 v5 zs) := Bytes5.of_own ho5 HZ.out
              obtain ⟨q5, c5, rfl⟩ := slice_of_row ho5
              clear ho5
              refine wpAnyG_only (i := 7) (by kernel_rfl) rfl (by rfl) (fun K hK => ?_)
              go_simp
              obtain ⟨w3, hw3⟩ : ∃ w3, w10.alloc (Obj.cells #[Value.slice q5 zs.length c5] 25) = w3 := ⟨_, rfl⟩
              have hb3 : Below w10.heap.size w10 w3 := by rw [← hw3]; exact (Below.refl _ _).alloc (Nat.le_refl _) _
              have hr3 : Row w3 w10.heap.size 25 [.slice q5 zs.length c5] := by rw [← hw3]; exact Row.new w10 25 #[.slice q5 zs.length c5]
              have HB3 : Hid (Below w9.heap.size w9 w3) := hb10.trans (hb3.mono hb10.size)
              rw [hw3]
              clear hw3
              refine hK.out _ _ (fun _ => HB3.out) ?_
              clear hK K
              obtain ⟨v', w4, hrun, ha1, ha2, ha3, ha4⟩ := run_append_rec2 w3 n₀ 39 (.slice vq l.recs.length vc) l.recs (HS9.out.later HB3.out).log.2 w10.heap.size (.slice q5 zs.length c5) zs (HX5.out.kept (KeepT.of_below hb3)) (hr3.cell (i := 0) rfl) (by omega) (by have := HB3.out.size; have := HB9.out.size; omega)
              obtain ⟨g1', g2', g3', g4'⟩ := (HS9.out.later HB3.out).app (l' := { l with recs := l.recs ++ [zs] }) ha2 ha3 ha1 rfl
              have HRun : Hid ((Builtin.append_ #[39, 39] 39 #[.slice vq l.recs.length vc, .slice (some ⟨w10.heap.size, 0, none⟩) 1 1]).run Try.prog w3 = .ok v' w4) := hrun
              have c54 : w4.cell? ⟨L, 5, none⟩ = some (.slice vq l.recs.length vc) := g2'.cell (i := 5) rfl
              have f54 := g2'.frozen 5
              have HG1 : Hid (RSt F n₀ _ L p g v' _ _) := g1'
              have HG3 : Hid (Buts (L :: ownL (.slice vq l.recs.length vc)) _ _ _) := g3'
              have HG4 : Hid (KeepT 5 _ _) := g4'
              have HA4 : Hid (∀ k, v'.ownBlock = some k → (Value.slice vq l.recs.length vc).ownBlock = some k ∨ w9.heap.size ≤ k) := fun k hk => (ha4 k hk).imp id (fun h => by have := HB3.out.size; omega)
              obtain ⟨vq', vl', vc', hv'⟩ : ∃ vq vl vc, v' = .slice vq vl vc := by obtain ⟨a, b, e⟩ := ha1.slice; exact ⟨_, _, _, e⟩
              have HV' : Hid (v' = .slice vq' vl' vc') := hv'
              rw [hv'] at HRun
              clear hrun ha1 ha2 ha3 ha4 g1' g2' g3' g4' hr3 hv' hHeld
              refine wpAnyG_only (i := 8) (by kernel_rfl) rfl (by rfl) (fun K hK => ?_)
              refine wp_append_of (.tmp 125) (.tmp 128) 39 rfl rfl rfl HRun.out ?_
              refine hK.out _ _ (gone (by kernel_rfl)) ?_
              clear hK K
              refine wpAnyG_takesAt 9 1 2 (of_decide_eq_true (by kernel_rfl)) rfl (fun _ _ _ d _ h => by cases d <;> exact h) (by kernel_rfl) (by kernel_rfl) (gone (by kernel_rfl)) ?_
              simp only [List.drop_succ_cons, List.drop_zero, List.take_succ_cons, List.take_zero]
              refine wpHeldG_free (v := .pointer (some ⟨L, 0, none⟩)) (by rfl) (fun wz => by go_simp) ?_
              (simp only [Act.put]; (try simp only [List.setIfInBounds_toArray]); (try simp only [List.set_cons_succ]); (try simp only [List.set_cons_zero]))
              refine wpHeldG_nil ?_
              refine wpAnyG_takesAt 10 1 1 (of_decide_eq_true (by kernel_rfl)) rfl (fun _ _ _ d _ h => by cases d <;> exact h) (by kernel_rfl) (by kernel_rfl) (gone (by kernel_rfl)) ?_
              simp only [List.drop_succ_cons, List.drop_zero, List.take_succ_cons, List.take_zero]
              refine wpHeldG_free (v := .pointer (some ⟨L, 5, none⟩)) (by rfl) (fun wz => by go_simp) ?_
              (simp only [Act.put]; (try simp only [List.setIfInBounds_toArray]); (try simp only [List.set_cons_succ]); (try simp only [List.set_cons_zero]))
              refine wpHeldG_nil ?_
              refine wpAnyG_only (i := 11) (by kernel_rfl) rfl (by rfl) (fun K hK => ?_)
              go_simp
              refine hK.out _ _ (gone (by kernel_rfl)) ?_
              clear hK K
              refine wpAnyG_done (by kernel_rfl) ?_ _
              obtain ⟨wk, hwk⟩ : ∃ wk, w4.setCell ⟨L, 5, none⟩ (.slice vq' vl' vc') = wk := ⟨_, rfl⟩
              have HSk : Hid (RSt F n₀ wk L p g v' (D2.write ((l.f + l.pos : Nat) : Int) (headL zs l.gen l.recs.length)) { l with recs := l.recs ++ [zs] }) := by rw [← hwk, ← HV'.out]; exact HG1.out
              have HBk : Hid (Buts (L :: ownL (.slice vq l.recs.length vc)) w3.heap.size w3 wk) := by rw [← hwk, ← HV'.out]; exact HG3.out
              have H5k : Hid (KeepT 5 w3 wk) := by rw [← hwk, ← HV'.out]; exact HG4.out
              rw [hwk]
              clear hwk c54 f54 hb3 hb10
              have hck4 : wk.cell? ⟨L, 4, none⟩ = some (.int .i64 (l.pos : Nat)) := HSk.out.log.1.cell (i := 4) rfl
              have hfk4 := HSk.out.log.1.frozen 4
              go_wp2
              go_ret
              exact rapp_ok HS.out HB9.out HB3.out HSk.out HBk.out H5k.out HA4.out (by omega) HT.out
            · have g2 : (e2 == 0) = false := by simp [he2]
              have hc6 : w9.cell? ⟨L, 6, none⟩ = some (.bool false) := by have := HS9.out.log.1.cell (i := 6) rfl; rw [Hbr.out] at this; exact this
              have hfr := HS9.out.log.1.frozen 6
              have HT : Hid (appL d l zs = _) := app_head Hbr.out HKz.out hk1 hfull HBody.out (by rw [HE2.out]; exact he2)
              rw [HE2.out] at HT
              go_wp2
              go_ret
              exact rapp_fail HS.out HS9.out HB9.out HT.out

end Go.Proofs.Ytifjkkfienmdjaa
