/-
  Send.
-/
import Derived.Test.YthdfhbbfbohojaaPl
import Derived.Test.YthdfhbbfbohojaaFt
import Derived.Test.YthdfhbbfbohojaaGate
namespace Go.Proofs.Ythdfhbbfbohojaa
open Go.RowKit Go.Shelf

/-- A text that is sent. -/
def BArg (base : Nat) (W : World) (q : Option Addr) (n c : Nat) (zs : List Nat) : Prop :=
  IsBytes W.heap.size W q n c zs ∧ (n = 0 ∨ ∃ b o, q = some ⟨b, o, none⟩ ∧ b < W.heap.size ∧ (b < base ∨ ∃ c fr, W.heap[b]? = some (.cells c 5 fr)))
theorem BArg.same {base : Nat} {w w' : World} {q : Option Addr} {n c : Nat} {zs : List Nat} (h : BArg base w q n c zs) (hs : w.heap.size ≤ w'.heap.size) (hb : ∀ b, b < w.heap.size → (b < base ∨ ∃ c fr, w.heap[b]? = some (.cells c 5 fr) ∨ w.heap[b]? = some (.cells c 47 fr)) → w'.heap[b]? = w.heap[b]?) : BArg base w' q n c zs := by
  obtain ⟨⟨h1, h2, h3, h4, h5⟩, h6⟩ := h
  rcases h6 with h6 | ⟨b, o, rfl, hl, h6⟩
  · exact ⟨⟨h1, h2, h3, h4, .inl h6⟩, .inl h6⟩
  · have e := hb b hl (h6.imp id (fun ⟨c, fr, h⟩ => ⟨c, fr, .inl h⟩))
    refine ⟨⟨h1, h2, h3, h4, h5.imp id ?_⟩, .inr ⟨b, o, rfl, Nat.lt_of_lt_of_le hl hs, h6.imp id (fun ⟨c, fr, h⟩ => ⟨c, fr, e.trans h⟩)⟩⟩
    rintro ⟨b', o', e', hl', hc⟩
    cases e'
    exact ⟨b, o, rfl, Nat.lt_of_lt_of_le hl hs, fun i hi => by have := hc i hi; simpa [World.cell?, e] using this⟩
theorem BArg.buts {base p g : Nat} {w w' : World} {q : Option Addr} {n c : Nat} {zs : List Nat} (h : BArg base w q n c zs) (hb : Buts p g w w') (hp : Nt base w p) (hg : Nt base w g) : BArg base w' q n c zs :=
  h.same hb.size (fun b hl hx => hb.block b hl (hp.ne hx) (hg.ne hx))
theorem BArg.later {base : Nat} {w w' : World} {q : Option Addr} {n c : Nat} {zs : List Nat} (h : BArg base w q n c zs) (hb : Below w.heap.size w w') : BArg base w' q n c zs :=
  h.same hb.size (fun b hl _ => hb.block b hl)
theorem BArg.of_own {base n₀ : Nat} {w : World} {v : Value} {zs : List Nat} (h : Own n₀ w v zs) (hz : ∀ z ∈ zs, z < 256) : ∃ q c, v = .slice q zs.length c ∧ BArg base w q zs.length c zs := by
  obtain ⟨q, c, rfl⟩ := h.slice
  refine ⟨q, c, rfl, h.bytes hz, ?_⟩
  rcases h.2 with ⟨_, h0⟩ | ⟨g, cp, cur, e, hg, hgg, _⟩
  · exact .inl h0
  · cases e
    exact .inr ⟨g, 0, rfl, (Array.getElem?_eq_some_iff.1 hgg).1, .inr ⟨_, _, hgg⟩⟩

def Lk.due (L : Lk) : Int := L.n + clampN L.fate.2 1000
def Lk.times (L : Lk) : Nat := (clampN L.fate.1 3).toNat
theorem Lk.times_le (L : Lk) : L.times ≤ 3 ∧ clampN L.fate.1 3 = ((L.times : Nat) : Int) := by unfold Lk.times clampN; omega
theorem Lk.due_le (L : Lk) : (L.n : Int) ≤ L.due ∧ L.due ≤ (L.n : Int) + 1000 := by unfold Lk.due clampN; omega

/-- Send, under way. -/
def SdAt (base : Nat) (w : World) (p g : Nat) (fv : Value) (L : Lk) (zs : List Nat) (k : Nat) (A : World) : Prop :=
  ∃ gk wv ms, LkAt base A p gk fv wv ⟨L.fs, L.n, ms⟩ ∧ keys ms = insN (L.due, zs) k (keys L.ms) ∧ (gk = g ∨ w.heap.size ≤ gk) ∧ Buts p g w A
/-- Sent. -/
def SdPost (base : Nat) (w : World) (p g : Nat) (fv : Value) (L : Lk) (zs : List Nat) (A : World) : Prop :=
  ∃ g' wv ms, LkAt base A p g' fv wv ⟨L.fs, L.n + 1, ms⟩ ∧ keys ms = insN (L.due, zs) L.times (keys L.ms) ∧ (g' = g ∨ w.heap.size ≤ g') ∧ Buts p g w A

theorem keys_insM (ms : List Msg) (i : Nat) (x : Msg) : keys (insM ms i x) = (keys ms).take i ++ x.key :: (keys ms).drop i := by
  simp [keys, insM, List.map_take, List.map_drop]
theorem key_at {ms : List Msg} {j : Nat} {y : Ky} (h : (keys ms)[j]? = some y) : j < ms.length ∧ dueAt ms j = y.1 := by
  have hl := (List.getElem?_eq_some_iff.1 h).1
  rw [keys_length] at hl
  refine ⟨hl, ?_⟩
  simp only [keys, List.getElem?_map, List.getElem?_eq_getElem hl, Option.map_some, Option.some.injEq] at h
  rw [dueAt, List.getD_eq_getElem?_getD, List.getElem?_eq_getElem hl, Option.getD_some, ← h]
  rfl
theorem sd_next {base p g : Nat} {fv wv : Value} {L : Lk} {w w6 w7 : World} {gk g7 k i : Nat} {ms : List Msg} {v7 : Value} {x : Msg} {zs : List Nat} (hL6 : LkAt base w6 p gk fv wv ⟨L.fs, L.n, ms⟩) (hx : Txt base w6 x) (hkey : x.key = (L.due, zs)) (hi : i ≤ ms.length)
    (h1 : ∀ j, i ≤ j → j < ms.length → L.due < dueAt ms j) (h2 : 0 < i → dueAt ms (i - 1) ≤ L.due) (hW7 : WaitAt 53 Msg.cD w7 p g7 v7 (insM ms i x)) (hg7 : g7 = gk ∨ w6.heap.size ≤ g7) (hB7 : Buts p gk w6 w7) (hp7 : Row w7 p 44 [.bool true, fv, .int .i64 L.n, wv])
    (hks : keys ms = insN (L.due, zs) k (keys L.ms)) (hs : Srt (keys L.ms)) (hgk : gk = g ∨ w.heap.size ≤ gk) (hbk : Buts p g w w6) : SdAt base w p g fv L zs (k + 1) (w7.setCell ⟨p, 3, none⟩ v7) := by
  have hne : g7 ≠ p := by
    obtain ⟨q, c, e, ⟨_, h0, _⟩ | ⟨o, cur, e', hr, _⟩⟩ := hW7
    · have := insM_length x hi; rw [h0] at this; simp at this
    · exact row_ne hr hp7 (by decide)
  have hB8 : Buts p gk w6 (w7.setCell ⟨p, 3, none⟩ v7) := hB7.trans (.inl rfl) (Buts.setP _ _ _)
  have hbase := hL6.ntp.lt
  have hbg := hL6.hg
  have hbp := hL6.hp
  refine ⟨g7, v7, insM ms i x, ⟨hbp, by omega, hp7.set 3 v7, hL6.fates.step hB8 hL6.ntp hL6.ntg, hW7.same (fun _ => Below.heap_setCell _ _ _ _ hne), fun m hm => ?_⟩, ?_, ?_, hbk.trans hgk hB8⟩
  · have : m = x ∨ m ∈ ms := by
      rw [insM, List.mem_append, List.mem_cons] at hm
      rcases hm with hm | hm | hm
      · exact .inr (List.mem_of_mem_take hm)
      · exact .inl hm
      · exact .inr (List.mem_of_mem_drop hm)
    rcases this with rfl | hm
    · exact hx.buts hB8 hL6.ntp hL6.ntg
    · exact (hL6.txt m hm).buts hB8 hL6.ntp hL6.ntg
  · rw [keys_insM, hkey, insN, ← hks]
    refine insK_at (by rw [hks]; exact insN_sorted hs k) (by rw [keys_length]; exact hi) (fun j y hj hy => ?_) (fun y h0 hy => ?_)
    · obtain ⟨hl, e⟩ := key_at hy
      rw [← e]; exact h1 j hj hl
    · obtain ⟨hl, e⟩ := key_at hy
      rw [← e]; exact h2 h0
  · have := hbk.size
    omega

set_option maxRecDepth 100000 in
set_option maxHeartbeats 4000000 in
theorem send_any {base p g : Nat} {fv wv : Value} {L : Lk} {w : World} (h : LkAt base w p g fv wv L) {q : Option Addr} {len cap : Nat} {zs : List Nat} (hI : BArg base w q len cap zs) (hml : L.ms.length ≤ 10000) (hz : len ≤ 10000) (hn : L.n ≤ 10000) (hs : Srt (keys L.ms)) (hbase : base ≤ w.heap.size) :
    Calls Try.prog 8 #[.pointer (some ⟨p, 0, none⟩), .slice q len cap] w fun e w' => (∃ v, e = .returned v) ∧ SdPost base w p g fv L zs w' := by
  obtain rfl : zs.length = len := hI.1.1
  have HF := fate_any h
  have hc0 := h.row.cell (i := 0) rfl
  have hc2 := h.row.cell (i := 2) rfl
  have hpl := h.row.lt
  have HFt : Hid (Calls Try.prog 16 #[.pointer (some ⟨p, 0, none⟩)] w fun e w' => e = .returned (fV L.fate) ∧ Below w.heap.size w w') := HF
  have HH : Hid (LkAt base w p g fv wv L) := h
  have HI : Hid (BArg base w q zs.length cap zs) := hI
  have hT := L.times_le
  have hD := L.due_le
  obtain ⟨f1, hf1⟩ : ∃ f1, L.fate.1 = f1 := ⟨_, rfl⟩
  obtain ⟨f2, hf2⟩ : ∃ f2, L.fate.2 = f2 := ⟨_, rfl⟩
  have hfv : fV L.fate = .agg #[.int .i64 f1, .int .i64 f2] := by rw [fV, hf1, hf2]
  have HFv : Hid (fV L.fate = .agg #[.int .i64 f1, .int .i64 f2]) := hfv
  obtain ⟨D, hDD⟩ : ∃ D, L.due = D := ⟨_, rfl⟩
  obtain ⟨T, hTT⟩ : ∃ T, L.times = T := ⟨_, rfl⟩
  have hcl2 : (L.n : Int) + clampN f2 1000 = D := by rw [← hDD, Lk.due, hf2]
  have hcl1 : clampN f1 3 = (T : Int) := by rw [← hTT, ← hf1]; exact hT.2
  rw [hDD] at hD
  rw [hTT] at hT
  have HDD : Hid (L.due = D) := hDD
  have HTT : Hid (L.times = T) := hTT
  have hT3 := hT.1
  have hwr : IntKind.i64.wrap D = D := by rw [IntKind.wrap_i64]; omega
  clear HF h hI hf1 hf2 hfv hDD hTT hT
  generalize hN : L.n = N at *
  go_enter Try.func8, Try.ntmps8
  go_wp2_with (first
    | (go_at_call 16; refine HFt.out.mono ?_; rw [HFv.out]; rintro e w1 ⟨rfl, hb1⟩; have HB1 : Hid (Below w.heap.size w w1) := hb1; clear hb1)
    | ((with_reducible show wpList _ _ _ (Oper.mk _ (Op.store 47 (.tmp 4) (.tmp 16)) _ _ _ _ :: _) _ _); refine wpList_store_Row rfl 47 (.tmp 4) (.tmp 16) rfl [.int .i64 f1, .int .i64 f2] rfl rfl (Row.new' w1 47 [.int .i64 0, .int .i64 0]) size47 rfl (encF.one (f1, f2)) ?_; simp only [Act.put]))
  obtain ⟨w2, hw2⟩ : ∃ w2, (w1.alloc (.cells #[.int .i64 0, .int .i64 0] 47)).setCells w1.heap.size 0 [.int .i64 f1, .int .i64 f2] = w2 := ⟨_, rfl⟩
  have hb2 : Below w1.heap.size w1 w2 := by rw [← hw2]; exact below_setCells (Nat.le_refl _) _ _ ((Below.refl _ w1).alloc (Nat.le_refl _) _)
  have hR2 : Row w2 w1.heap.size 47 [.int .i64 f1, .int .i64 f2] := by rw [← hw2]; exact (Row.new' w1 47 [.int .i64 0, .int .i64 0]).sets_all rfl
  have hB2 : Below w.heap.size w w2 := HB1.out.trans (hb2.mono HB1.out.size)
  have hf1 := hR2.cell (i := 0) rfl
  have hf2 := hR2.cell (i := 1) rfl
  have hc2' : w2.cell? ⟨p, 2, none⟩ = some (.int .i64 N) := (hB2.cell (p := ⟨p, 2, none⟩) hpl).trans hc2
  have HB2 : Hid (Below w.heap.size w w2) := hB2
  have hfl := hR2.lt
  rw [hw2]
  clear hw2 hb2 hR2 hB2 HB1
  generalize w1.heap.size = fb at *
  have hwi1 := fun W => within_any f2 1000 W
  have hwi2 := fun W => within_any f1 3 W
  rw [hcl1] at hwi2
  have hcl2' : clampN f2 1000 = D - N := by omega
  rw [hcl2'] at hwi1
  have hsum : (N : Int) + (D - N) = D := by omega
  have HW1 : Hid (∀ W, Calls Try.prog 17 #[.int .i64 f2, .int .i64 1000] W fun e w' => e = .returned (.int .i64 (D - N)) ∧ w' = W) := hwi1
  have HW2 : Hid (∀ W, Calls Try.prog 17 #[.int .i64 f1, .int .i64 3] W fun e w' => e = .returned (.int .i64 T) ∧ w' = W) := hwi2
  clear hwi1 hwi2 hcl1 hcl2 hcl2'
  go_quiet ((go_at_call 17; exact Calls.quiet_of_same (HW1.out _)))
  have hb3 : Below w2.heap.size w2 (w2.drewN nq) := below_drewN (Below.refl _ w2) nq
  generalize w2.drewN nq = w3 at *
  have hf13 : w3.cell? ⟨fb, 0, none⟩ = some (.int .i64 f1) := (hb3.cell (p := ⟨fb, 0, none⟩) hfl).trans hf1
  have HB3 : Hid (Below w.heap.size w w3) := HB2.out.trans (hb3.mono HB2.out.size)
  have HH3 : Hid (LkAt base w3 p g fv wv L) := HH.out.later HB3.out
  clear hb3 hf1 hf2 hc2' hfl
  go_wp2_with ((go_at_call 17; refine (HW2.out _).mono ?_; rintro e w4 ⟨rfl, hw4⟩; obtain rfl := hw4.symm; clear hw4))
  go_loopw [28] (fun i wr => ∃ k : Nat, k ≤ T ∧ i = .int .i64 k ∧ SdAt base w p g fv L zs k wr) (fun i _ => T - (intOf i).toNat)
  case atStart => exact ⟨0, Nat.zero_le _, rfl, g, wv, L.ms, HH3.out, rfl, .inl rfl, Buts.of_below HB3.out⟩
  case round =>
    obtain ⟨k, hk, rfl, gk, wvk, ms, hL, hks, hgk, hbk⟩ := hrel
    have hmk : ms.length = L.ms.length + k := by
      have := congrArg List.length hks
      rwa [keys_length, insN_length, keys_length] at this
    obtain ⟨nl, hnl⟩ : ∃ nl, ms.length = nl := ⟨_, rfl⟩
    have hnk : nl ≤ 20000 := by rw [← hnl, hmk]; omega
    have HMK : Hid (ms.length = L.ms.length + k) := hmk
    clear hmk
    by_cases hlt : k < T
    · have hki : (k : Int) < (T : Int) := by omega
      have hkw : IntKind.i64.wrap ((k : Int) + 1) = (k : Int) + 1 := by rw [IntKind.wrap_i64]; omega
      have HL : Hid (LkAt base wr p gk fv wvk ⟨L.fs, L.n, ms⟩) := hL
      obtain ⟨wq, wc, rfl, _⟩ := id hL.wait
      rw [hnl] at hL HL
      have HNL : Hid (ms.length = nl) := hnl
      have HC : Hid (∀ W, Below wr.heap.size wr W → W.cell? ⟨p, 3, none⟩ = some (.slice wq nl wc)) := fun W hb => (hL.later hb).row.cell (i := 3) rfl
      have HX : Hid (keys ms = insN (L.due, zs) k (keys L.ms) ∧ (gk = g ∨ w.heap.size ≤ gk) ∧ Buts p g w wr) := ⟨hks, hgk, hbk⟩
      clear hL hks hgk hbk hnl
      go_wp2_with (fail)
      refine wp_region_gate' 13 (fun W => Below wr.heap.size wr W) (by kernel_rfl) ?_
      have hHeld : Below wr.heap.size wr wr.drew := (Below.refl _ _).drew
      refine wpAnyG_takesAt 0 4 13 (of_decide_eq_true (by kernel_rfl)) rfl (fun _ _ _ d _ h => by cases d <;> exact h) (by kernel_rfl) (by kernel_rfl) (fun _ => hHeld) ?_
      simp only [List.drop_zero, List.take_succ_cons, List.take_zero]
      iterate 4 (refine wpHeldG_free (v := ?_) (by rfl) (fun wz => ?_) ?_; rotate_left; (focus (go_simp; try with_reducible rfl)); (simp only [Act.put, List.setIfInBounds_toArray, List.set_cons_zero, List.set_cons_succ]))
      refine wpHeldG_nil ?_
      refine wpAnyG_takesAt 4 1 12 (of_decide_eq_true (by kernel_rfl)) rfl (fun _ _ _ d _ h => by cases d <;> exact h) (by kernel_rfl) (by kernel_rfl) (fun _ => hHeld) ?_
      simp only [List.drop_succ_cons, List.drop_zero, List.take_succ_cons, List.take_zero]
      iterate 1 (refine wpHeldG_step (v := ?_) (by rfl) (by kernel_rfl) (fun wz hSw => ?_) ?_; rotate_left; (focus (have hc := HC.out wz hSw; clear hSw; go_simp; try with_reducible rfl)); ((simp only [Act.put]; (try simp only [List.setIfInBounds_toArray]); (try simp only [List.set_cons_succ]); (try simp only [List.set_cons_zero]))))
      refine wpHeldG_nil ?_
      refine wpAnyG_takesAt 5 2 10 (of_decide_eq_true (by kernel_rfl)) rfl (fun _ _ _ d _ h => by cases d <;> exact h) (by kernel_rfl) (by kernel_rfl) (fun _ => hHeld) ?_
      simp only [List.drop_succ_cons, List.drop_zero, List.take_succ_cons, List.take_zero]
      iterate 2 (refine wpHeldG_free (v := ?_) (by rfl) (fun wz => ?_) ?_; rotate_left; (focus (go_simp; try with_reducible rfl)); (simp only [Act.put, List.setIfInBounds_toArray, List.set_cons_zero, List.set_cons_succ]))
      refine wpHeldG_nil ?_
      refine wpAnyG_takesAt 8 2 8 (of_decide_eq_true (by kernel_rfl)) rfl (fun _ _ _ d _ h => by cases d <;> exact h) (by kernel_rfl) (by kernel_rfl) (fun _ => hHeld) ?_
      simp only [List.drop_succ_cons, List.drop_zero, List.take_succ_cons, List.take_zero]
      iterate 2 (refine wpHeldG_free (v := ?_) (by rfl) (fun wz => ?_) ?_; rotate_left; (focus (go_simp; try with_reducible rfl)); (simp only [Act.put, List.setIfInBounds_toArray, List.set_cons_zero, List.set_cons_succ]))
      refine wpHeldG_nil ?_
      refine wpAnyG_only (i := 7) (by kernel_rfl) rfl (by rfl) (fun K hK => ?_)
      go_simp
      refine (place_any (HL.out.later hHeld) D (by show ms.length ≤ _; rw [HNL.out]; omega)).mono ?_
      rintro e w4 ⟨i, rfl, hi, hi1, hi2, hb4⟩
      have hb4' : Below wr.heap.size wr w4 := hHeld.trans (hb4.mono hHeld.size)
      have HIx : Hid (i ≤ ms.length ∧ (∀ j, i ≤ j → j < ms.length → D < dueAt ms j) ∧ (0 < i → dueAt ms (i - 1) ≤ D)) := ⟨hi, hi1, hi2⟩
      clear hb4 hi hi1 hi2 hHeld
      refine hK.out _ _ (fun _ => hb4') ?_
      clear hK K
      have hI4 : BArg base w4 q zs.length cap zs := (HI.out.buts HX.out.2.2 HH.out.ntp HH.out.ntg).later hb4'
      refine wpAnyG_only (i := 10) (by kernel_rfl) rfl (by rfl) (fun K hK => ?_)
      go_simp
      refine (cloneB_any hI4.1 (by omega)).mono ?_
      rintro e w5 ⟨v', rfl, hown, hb5⟩
      have hb5' : Below wr.heap.size wr w5 := hb4'.trans (hb5.mono hb4'.size)
      obtain ⟨q', c', rfl⟩ := hown.slice
      have hHeld := hb5'
      refine hK.out _ _ (fun _ => hHeld) ?_
      clear hK K
      refine wpAnyG_takesAt 11 1 5 (of_decide_eq_true (by kernel_rfl)) rfl (fun _ _ _ d _ h => by cases d <;> exact h) (by kernel_rfl) (by kernel_rfl) (fun _ => hHeld) ?_
      simp only [List.drop_succ_cons, List.drop_zero, List.take_succ_cons, List.take_zero]
      iterate 1 (refine wpHeldG_free (v := ?_) (by rfl) (fun wz => ?_) ?_; rotate_left; (focus (go_simp; try with_reducible rfl)); ((simp only [Act.put]; (try simp only [List.setIfInBounds_toArray]); (try simp only [List.set_cons_succ]); (try simp only [List.set_cons_zero]))))
      refine wpHeldG_nil ?_
      refine wpAnyG_only (i := 12) (by kernel_rfl) rfl (by rfl) (fun K hK => ?_)
      go_simp
      obtain ⟨x, hx⟩ : ∃ x : Msg, x = ⟨D, q', zs.length, c', zs⟩ := ⟨_, rfl⟩
      have hxc : x.cD = [.int .i64 D, .slice q' zs.length c'] := by rw [hx]; rfl
      obtain ⟨w6, hw6⟩ : ∃ w6, w5.alloc (.cells #[.int .i64 D, .slice q' zs.length c'] 53) = w6 := ⟨_, rfl⟩
      have hb56 : Below w5.heap.size w5 w6 := by rw [← hw6]; exact (Below.refl _ _).alloc (Nat.le_refl _) _
      have hR6 : Row w6 w5.heap.size 53 x.cD := by rw [← hw6, hxc]; exact Row.new' w5 53 [.int .i64 D, .slice q' zs.length c']
      have hb6 : Below wr.heap.size wr w6 := hb5'.trans (hb56.mono hb5'.size)
      rw [hw6]
      clear hw6 hHeld
      refine hK.out _ _ (fun _ => hb6) ?_
      clear hK K
      have hL6 := HL.out.later hb6
      have hsz1 := HX.out.2.2.size
      have hsz2 := hb4'.size
      have hglt := HL.out.ntg.lt
      have hgl5 := hb5'.size
      have hTx : Txt base w6 x := by rw [hx]; exact ⟨(hown.later hb56).mono (by omega), hI4.1.2.2.2.1⟩
      have hkey : x.key = (L.due, zs) := by rw [hx, HDD.out]; rfl
      refine wpAnyG_only (i := 13) (by kernel_rfl) rfl (by rfl) (fun K hK => ?_)
      go_simp
      refine (insert_any hL6.wait x i w5.heap.size HIx.out.1 hR6 (by omega) (by show ms.length ≤ _; rw [HNL.out]; omega) hL6.row (by decide)).mono ?_
      rintro e w7 ⟨v7, g7, rfl, hW7, hg7, hB7, hp7⟩
      have hNext := sd_next hL6 hTx hkey HIx.out.1 (by rw [HDD.out]; exact HIx.out.2.1) (by rw [HDD.out]; exact HIx.out.2.2) hW7 hg7 hB7 hp7 HX.out.1 hs HX.out.2.1 (HX.out.2.2.trans HX.out.2.1 (Buts.of_below hb6))
      obtain ⟨q7, c7, rfl, _⟩ := id hW7
      have HSd : Hid (SdAt base w p g fv L zs (k + 1) (w7.setCell ⟨p, 3, none⟩ (.slice q7 (insM ms i x).length c7))) := hNext
      have hc37 := hp7.cell (i := 3) rfl
      have hf37 := hp7.frozen 3
      generalize (insM ms i x).length = n7 at *
      refine hK.out _ _ (gone (by kernel_rfl)) ?_
      clear hK K hNext hW7 hB7 hp7 hL6 hTx hkey hR6 hown hb56 hb6 hb5' hb5 hb4' hI4 hx hxc
      refine wpAnyG_takesAt 14 2 1 (of_decide_eq_true (by kernel_rfl)) rfl (fun _ _ _ d _ h => by cases d <;> exact h) (by kernel_rfl) (by kernel_rfl) (gone (by kernel_rfl)) ?_
      simp only [List.drop_succ_cons, List.drop_zero, List.take_succ_cons, List.take_zero]
      iterate 2 (refine wpHeldG_free (v := ?_) (by rfl) (fun wz => ?_) ?_; rotate_left; (focus (go_simp; try with_reducible rfl)); (simp only [Act.put, List.setIfInBounds_toArray, List.set_cons_zero, List.set_cons_succ]))
      refine wpHeldG_nil ?_
      refine wpAnyG_only (i := 16) (by kernel_rfl) rfl (by rfl) (fun K hK => ?_)
      go_simp
      refine hK.out _ _ (gone (by kernel_rfl)) ?_
      clear hK K
      refine wpAnyG_done (by kernel_rfl) ?_ _
      go_wp2
      go_roundw
      case rel => exact ⟨k + 1, by omega, by go_num, HSd.out⟩
      case measure => simp [RowKit.intOf]; omega
    · obtain rfl : k = T := by omega
      have hr2 : wr.cell? ⟨p, 2, none⟩ = some (.int .i64 N) := by rw [← hN]; exact hL.row.cell (i := 2) rfl
      have hf2 := hL.row.frozen 2
      have hnw : IntKind.i64.wrap ((N : Int) + 1) = (N : Int) + 1 := by rw [IntKind.wrap_i64]; omega
      have HFin : Hid (SdPost base w p g fv L zs (wr.setCell ⟨p, 2, none⟩ (.int .i64 ((N : Int) + 1)))) := by
        have hB : Buts p gk wr (wr.setCell ⟨p, 2, none⟩ (.int .i64 ((N : Int) + 1))) := Buts.setP _ _ _
        have hrow := hL.row.set 2 (.int .i64 ((N : Int) + 1))
        refine ⟨gk, wvk, ms, ⟨hL.hp, hL.hg, ?_, hL.fates.step hB hL.ntp hL.ntg, ?_, fun m hm => (hL.txt m hm).buts hB hL.ntp hL.ntg⟩, ?_, hgk, hbk.trans hgk hB⟩
        · rw [hN]
          exact hrow
        · obtain ⟨wq, wc, e, ⟨h1, h2, h3, h4⟩ | ⟨o, cur, e', hr, hrest⟩⟩ := hL.wait
          · exact ⟨wq, wc, e, .inl ⟨h1, h2, h3, h4⟩⟩
          · exact ⟨wq, wc, e, .inr ⟨o, cur, e', Row.other hr (row_ne hr hL.row (by decide)) _, hrest⟩⟩
        · rw [HTT.out]; exact hks
      clear hL hks hgk hbk HMK hnl hnk
      go_wp2
      go_end0
      exact ⟨⟨_, rfl⟩, HFin.out⟩

set_option maxHeartbeats 1000000 in
theorem send_nil (v : Value) (w : World) : Calls Try.prog 8 #[.pointer none, v] w fun e w' => (∃ v, e = .returned v) ∧ w' = w := by
  go_enter Try.func8, Try.ntmps8
  go_wp2
  refine bodyPost_ret (results_none rfl _ _ _) rfl ?_
  exact ⟨⟨_, rfl⟩, rfl⟩
set_option maxHeartbeats 1000000 in
theorem send_zero {p : Nat} (v : Value) (w : World) (hc0 : w.cell? ⟨p, 0, none⟩ = some (.bool false)) : Calls Try.prog 8 #[.pointer (some ⟨p, 0, none⟩), v] w fun e w' => (∃ v, e = .returned v) ∧ w' = w := by
  go_enter Try.func8, Try.ntmps8
  go_wp2
  refine bodyPost_ret (results_none rfl _ _ _) rfl ?_
  exact ⟨⟨_, rfl⟩, rfl⟩
end Go.Proofs.Ythdfhbbfbohojaa
