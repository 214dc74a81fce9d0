/-
  EnvelIds with a real suite.
-/
import Derived.Test.YtbaokodhoiledaaDoorIdsH
import Derived.Test.YtbaokodhoiledaaDoorIdsC
namespace Go.Proofs.YtbaokodhoiledaaDoor
open Classical
open Go.RowKit Go.Shelf

theorem LFr.of_below {N : Nat} {W w' : World} (h : Below W.heap.size W w') (hN : N ≤ W.heap.size) : LFr N W w' := ⟨h.mono hN, KeepT.of_below h⟩
theorem putE_len {k rl ep : Nat} {ids : List (List Nat)} {bs : List Nat} (h : ∀ x ∈ ids, x.length = 32 ∧ ∀ z ∈ x, z < 256) (h1 : k < 9223372036854775808) (h2 : rl < 4294967296) (h3 : ep < 4294967296) (hn : ids.length ≤ 40) (hb : bs.length ≤ 1000) : (putE k rl ep ids bs).length ≤ 40000 := by
  have a := headL_length (kd := k) (rl := rl) (ep := ep) h (by omega) (by omega) (by omega) (by omega)
  have b := encN_ten (n := bs.length) (by omega)
  unfold putE encText
  rw [List.length_append, List.length_append]
  omega
theorem ansV_key {x : Int} {d : List Nat} (h : IsKey32 d) : IsKey32 (ansV x d) := by
  unfold ansV
  split
  · exact h
  · exact ⟨by simp, by simp⟩
theorem resD_id {ok : Bool} {d : List Nat} (h : IsKey32 d) : IsId (resD ok d) := by
  unfold resD
  split
  · exact h
  · exact ⟨by simp, by simp⟩

set_option maxHeartbeats 1000000 in
theorem ids_real (mode : Int) (hm : mode % 2 = 0) (p : Option Addr) (len cap : Nat) (zs : List Nat) (hlen : len ≤ 300) (kd : Int) (rl ep : Nat) (p1 : Option Addr) (l1 c1 : Nat) (ids1 : List (List Nat)) (q1 : Option Addr) (lb1 cb1 : Nat) (bs1 : List Nat) (kd' : Int) (rl' ep' : Nat) (p2 : Option Addr) (l2 c2 : Nat) (ids2 : List (List Nat)) (q2 : Option Addr) (lb2 cb2 : Nat) (bs2 : List Nat)
    (hf1 : l1 ≤ 40 ∧ lb1 ≤ 1000) (hf2 : l2 ≤ 40 ∧ lb2 ≤ 1000) (hkd : kd < 9223372036854775808) (hrl : rl < 4294967296) (hep : ep < 4294967296) (hkd' : kd' < 9223372036854775808) (hrl' : rl' < 4294967296) (hep' : ep' < 4294967296) (w : World)
    (hZ : IsBytes w.heap.size w p len cap zs) (hI1 : IsIds w.heap.size w p1 l1 c1 ids1) (hJ1 : IsBytes w.heap.size w q1 lb1 cb1 bs1) (hI2 : IsIds w.heap.size w p2 l2 c2 ids2) (hJ2 : IsBytes w.heap.size w q2 lb2 cb2 bs2) (hT : Sh.Tab w) :
    Calls Tryd.prog 3 #[.int .i64 mode, .slice p len cap, .agg #[.int .i64 kd, .int .u32 (rl : Nat), .int .u32 (ep : Nat), .slice p1 l1 c1, .slice q1 lb1 cb1], .agg #[.int .i64 kd', .int .u32 (rl' : Nat), .int .u32 (ep' : Nat), .slice p2 l2 c2, .slice q2 lb2 cb2]] w fun e w' => e = .returned (.bool true) ∧ Below w.heap.size w w' := by
  obtain ⟨X1, hX1⟩ : ∃ X, putE kd.toNat rl ep ids1 bs1 = X := ⟨_, rfl⟩
  obtain ⟨X2, hX2⟩ : ∃ X, putE kd'.toNat rl' ep' ids2 bs2 = X := ⟨_, rfl⟩
  have hX1b : ∀ z ∈ X1, z < 256 := by rw [← hX1]; exact putE_bytes _ _ _ hI1.2.2.2.1 hJ1.2.2.2.1
  have hX2b : ∀ z ∈ X2, z < 256 := by rw [← hX2]; exact putE_bytes _ _ _ hI2.2.2.2.1 hJ2.2.2.2.1
  have hX1l : X1.length ≤ 40000 := by rw [← hX1]; exact putE_len hI1.2.2.2.1 (by omega) hrl hep (by have := hI1.1; omega) (by have := hJ1.1; omega)
  have hX2l : X2.length ≤ 40000 := by rw [← hX2]; exact putE_len hI2.2.2.2.1 (by omega) hrl' hep' (by have := hI2.1; omega) (by have := hJ2.1; omega)
  obtain ⟨g1, hg1⟩ : ∃ g, Sh.sumN X1 = g := ⟨_, rfl⟩
  obtain ⟨g2, hg2⟩ : ∃ g, Sh.sumN X2 = g := ⟨_, rfl⟩
  have hk1 : IsKey32 g1 := by rw [← hg1]; exact sumN_key _
  have hk2 : IsKey32 g2 := by rw [← hg2]; exact sumN_key _
  obtain ⟨ent, hent⟩ : ∃ ent : Ent, (if okE kd ids1 = true then some (X1, g1) else none) = ent := ⟨_, rfl⟩
  have hentok : ent.ok := by
    intro L d h
    rw [← hent] at h
    split at h
    · cases h; exact ⟨hk1, hX1b⟩
    · cases h
  have hc0 : ∀ c, c = clashE ent X2 g2 → ¬ c = 0 → ansV c g2 = List.replicate 32 0 := fun c _ h0 => by unfold ansV; rw [if_neg h0]
  have hS27 : ∀ (W : World) (pp : Option Addr) (ll cc : Nat) (X g : List Nat), Sh.sumN X = g → X.length ≤ 40000 → IsBytes W.heap.size W pp ll cc X → Calls Tryd.prog 27 #[.slice pp ll cc] W fun e w' => e = .returned (.agg (u8s g).toArray) ∧ Below W.heap.size W w' := fun W pp ll cc X g hg hl hI => by
    rw [← hg]
    exact Sh.refSum_any pp ll cc X W (by have := hI.1; omega) hI
  let J1 : Nat → Nat → World → Prop := fun S R W => ∃ n t, S = n + 2 ∧ n + 3 ≤ R ∧ w.heap.size + 2 ≤ n ∧ RealSt W n t none ∧ RefSt W R 0 zs [] p len cap none 0 (.slice none 0 0) (.slice none 0 0) ∧ Below w.heap.size w W
  let J2 : Nat → Nat → Value → World → Prop := fun S R v W => ∃ n t, S = n + 2 ∧ n + 3 ≤ R ∧ w.heap.size + 2 ≤ n ∧ RealSt W n t ent ∧ RefSt W R 0 zs [] p len cap none 0 (.slice none 0 0) (.slice none 0 0) ∧ Below w.heap.size w W ∧ Own (R + 1) W v (resB (okE kd ids1) 0 X1)
  let J3 : Nat → Nat → Value → Value → World → Prop := fun S R v u W => ∃ n t es q ql qc rq rc, S = n + 2 ∧ n + 3 ≤ R ∧ w.heap.size + 2 ≤ n ∧ RealSt W n t ent ∧ RefSt W R 0 zs es q ql qc rq rc (.slice none 0 0) (.slice none 0 0) ∧ RowsOf ent es ∧ Below w.heap.size w W ∧ Own (R + 1) W v (resB (okE kd ids1) 0 X1) ∧ Own (R + 1) W u (resB (okE kd ids1) 0 X1)
  let J4 : Nat → Nat → Value → Value → Value → World → Prop := fun S R v u y W => ∃ es q ql qc rq rc, w.heap.size + 2 ≤ R ∧ RefSt W R 0 zs es q ql qc rq rc (.slice none 0 0) (.slice none 0 0) ∧ RowsOf ent es ∧ Below w.heap.size w W ∧ Own (R + 1) W v (resB (okE kd ids1) 0 X1) ∧ Own (R + 1) W u (resB (okE kd ids1) 0 X1) ∧ Own (R + 1) W y (resB (okE kd' ids2) (clashE ent X2 g2) X2)
  let J5 : Value → Value → Value → Value → World → Prop := fun v u y z W => Own 0 W v (resB (okE kd ids1) 0 X1) ∧ Own 0 W u (resB (okE kd ids1) 0 X1) ∧ Own 0 W y (resB (okE kd' ids2) (clashE ent X2 g2) X2) ∧ Own 0 W z (resB (okE kd' ids2) (clashE ent X2 g2) X2)
  have hargs1 : ∀ W, Below w.heap.size w W → IsIds W.heap.size W p1 l1 c1 ids1 ∧ IsBytes W.heap.size W q1 lb1 cb1 bs1 := fun W h => ⟨(hI1.below h).mono h.size, (hJ1.below h).mono h.size⟩
  have hargs2 : ∀ W, Below w.heap.size w W → IsIds W.heap.size W p2 l2 c2 ids2 ∧ IsBytes W.heap.size W q2 lb2 cb2 bs2 := fun W h => ⟨(hI2.below h).mono h.size, (hJ2.below h).mono h.size⟩
  refine ids_core mode 0 hm p len cap hlen kd rl ep p1 l1 c1 q1 lb1 cb1 kd' rl' ep' p2 l2 c2 q2 lb2 cb2 hf1 hf2 w (resD (okE kd ids1) g1) (resD (okE kd' ids2) (ansV (clashE ent X2 g2) g2)) (resD_id hk1) (resD_id (ansV_key hk2)) (resX (okE kd ids1) 0) (resX (okE kd' ids2) (clashE ent X2 g2)) (strOf (resB (okE kd ids1) 0 X1)) (strOf (resB (okE kd' ids2) (clashE ent X2 g2) X2))
    (fun _ W => Below w.heap.size w W ∧ w.heap.size + 2 ≤ W.heap.size) (fun S W => ∃ n t, S = n + 2 ∧ n + 3 ≤ W.heap.size ∧ w.heap.size + 2 ≤ n ∧ RealSt W n t none ∧ Below w.heap.size w W) J1 J2 J3 J4 J5 ?hT ?hS ?hJ ?h1 ?h2 ?h3 ?h4 ?k2 ?k3 ?k4 ?k5
  case hT =>
    intro W hW hs
    refine (tapeNew_any p len cap zs (by omega) W ((hZ.below hW).mono hW.size)).mono ?_
    rintro e w' ⟨B, rfl, _, _, hb⟩
    exact ⟨B, rfl, ⟨hW.trans (hb.mono hW.size), Nat.le_trans hs hb.size⟩, LFr.of_below hb hs⟩
  case hS =>
    rintro B W ⟨hW, hs⟩
    refine (newReal_any (some ⟨B, 0, none⟩) W).mono ?_
    rintro e w' ⟨rfl, h1, h2, h3, hb, hsz⟩
    exact ⟨_, rfl, ⟨W.heap.size, _, rfl, by omega, hs, ⟨h1, ⟨_, _, h2, h3⟩⟩, hW.trans (hb.mono hW.size)⟩, LFr.of_below hb hs⟩
  case hJ =>
    rintro S W ⟨n, t, rfl, hn, hwn, hst, hW⟩
    have hb : Below W.heap.size W (W.alloc (.cells #[.int .i64 0, .slice p len cap, .slice none 0 0, .slice none 0 0, .slice none 0 0, .bool false] 36)) := (Below.refl _ W).alloc (Nat.le_refl _) _
    exact ⟨n, t, rfl, hn, hwn, RealSt.stays n t none _ _ (hb.mono hn) hst, refSt_new W 0 w.heap.size p len cap zs hW.size (hZ.below hW), hW.trans (hb.mono hW.size)⟩
  case h1 =>
    rintro S R W ⟨n, t, rfl, hnR, hwn, hst, hrf, hW⟩
    have hRl := hrf.row.lt
    have hodd : ∀ k ∈ [n, n + 1], Odd W k := by have := odd_dig hst.dig; simp; exact this
    have hFn : ∀ k ∈ [n, n + 1], k < n + 3 := by simp
    refine (myId_any (n + 3) _ kd rl ep p1 l1 c1 ids1 q1 lb1 cb1 bs1 [n, n + 1] g1 hk1 0 (fun h => absurd rfl h) (fun W => RealSt W n t (some (X1, g1))) (RealSt.stays n t _) W (by omega) hFn hkd hrl hep hf1.1 hf1.2 (hargs1 W hW).1 (hargs1 W hW).2 (fun _ W1 pp ll cc hW1 hI hO => ?_)).mono ?_
    · rw [hX1] at hI
      have hd := digest_real n t pp ll cc none X1 (fun L d h => by cases h) (by omega) W1 (by have := hW1.size; omega) ((hT.later hW).later hW1) (RealSt.stays n t none _ _ (hW1.mono (by omega)) hst) hI
      rw [hg1] at hd
      exact hd.mono fun e w' ⟨h1, h2, h3⟩ => ⟨h1, h2 rfl, h3⟩
    · rintro e w' ⟨v, rfl, h1, h2, h3, h4⟩
      rw [hX1] at h1
      have hB : Below (w.heap.size + 2) W w' := h4.below (by omega) (by simp; omega)
      refine ⟨v, rfl, ⟨n, t, rfl, hnR, hwn, ?_, hrf.buts h4 hodd (by simp; omega), hW.trans (hB.mono (by omega)), h1.mono (by omega)⟩, hB, keep38_buts h4 hodd⟩
      rw [← hent]
      cases hok : okE kd ids1 with
      | true => exact h2 hok
      | false => exact RealSt.stays n t none _ _ ((h3 hok).mono (by omega)) hst
  case h2 =>
    rintro S R v W ⟨n, t, rfl, hnR, hwn, hst, hrf, hW, hov⟩
    have hRl := hrf.row.lt
    refine (refEId_any R _ kd rl ep p1 l1 c1 ids1 q1 lb1 cb1 bs1 g1 hk1 0 (fun h => absurd rfl h) (fun W => ∃ es q ql qc rq rc, RefSt W R 0 zs es q ql qc rq rc (.slice none 0 0) (.slice none 0 0) ∧ RowsOf (some (X1, g1)) es) (fun A B hk hb ⟨es, q, ql, qc, rq, rc, h, h'⟩ => ⟨es, q, ql, qc, rq, rc, h.keepTs hk hb, h'⟩) W hRl hkd hrl hep hf1.1 hf1.2 (hargs1 W hW).1 (hargs1 W hW).2 (fun _ W1 pp ll cc hW1 hI hO => ?_)).mono ?_
    · rw [hX1] at hI hO
      refine (refDig_realNew R zs [] (by simp) p len cap none 0 pp ll cc X1 g1 hk1 hX1b (by omega) W1 (hrf.later hW1) (hO.mono (by have := hW1.size; omega)) (fun x hx => by cases hx) (fun W2 hW2 => hS27 W2 pp ll cc X1 g1 hg1 hX1l ((hI.below hW2).mono hW2.size))).mono ?_
      rintro e w' ⟨es', q', ql', qc', rq', rc', ⟨x, rfl, hxL, hxd⟩, h2, h3, h4⟩
      have hcl : clashR ([] ++ [x]) X1 g1 = 0 := clash_more (ent := none) (es := []) rfl X1 g1 x hxL
      rw [hcl] at h2
      exact ⟨h2, ⟨_, _, _, _, _, _, h3 hcl, by simp [RowsOf, hxL, hxd]⟩, h4⟩
    · rintro e w' ⟨u, rfl, h1, h2, h3, h4⟩
      rw [hX1] at h1
      have hRn : n + 3 ≤ R := hnR
      refine ⟨u, rfl, ?_, h4.1.mono (by omega), h4.2 38 (by decide) (by decide)⟩
      have hst' := RealSt.stays n t ent _ _ (h4.1.mono hnR) hst
      have hW' := hW.trans (h4.1.mono (by omega : w.heap.size ≤ R))
      cases hok : okE kd ids1 with
      | true =>
        obtain ⟨es, q, ql, qc, rq, rc, h5, h6⟩ := h2 hok
        exact ⟨n, t, es, q, ql, qc, rq, rc, rfl, hnR, hwn, hst', h5, by rw [← hent, hok]; exact h6, hW', h4.own hov, h1.mono (by omega)⟩
      | false => exact ⟨n, t, [], p, len, cap, none, 0, rfl, hnR, hwn, hst', hrf.later (h3 hok), by rw [← hent, hok]; rfl, hW', h4.own hov, h1.mono (by omega)⟩
  case h3 =>
    rintro S R v u W ⟨n, t, es, q, ql, qc, rq, rc, rfl, hnR, hwn, hst, hrf, hro, hW, hov, hou⟩
    have hRl := hrf.row.lt
    have hodd : ∀ k ∈ [n, n + 1], Odd W k := by have := odd_dig hst.dig; simp; exact this
    have hFn : ∀ k ∈ [n, n + 1], k < n + 3 := by simp
    refine (myId_any (n + 3) _ kd' rl' ep' p2 l2 c2 ids2 q2 lb2 cb2 bs2 [n, n + 1] (ansV (clashE ent X2 g2) g2) (ansV_key hk2) (clashE ent X2 g2) (hc0 _ rfl) (fun _ => True) (fun _ _ _ _ => trivial) W (by omega) hFn hkd' hrl' hep' hf2.1 hf2.2 (hargs2 W hW).1 (hargs2 W hW).2 (fun _ W1 pp ll cc hW1 hI hO => ?_)).mono ?_
    · rw [hX2] at hI
      have hd := digest_real n t pp ll cc ent X2 hentok (by omega) W1 (by have := hW1.size; omega) ((hT.later hW).later hW1) (RealSt.stays n t ent _ _ (hW1.mono (by omega)) hst) hI
      rw [hg2] at hd
      exact hd.mono fun e w' ⟨h1, _, h3⟩ => ⟨h1, trivial, h3⟩
    · rintro e w' ⟨y, rfl, h1, _, _, h4⟩
      rw [hX2] at h1
      have hB : Below (w.heap.size + 2) W w' := h4.below (by omega) (by simp; omega)
      exact ⟨y, rfl, ⟨es, q, ql, qc, rq, rc, by omega, hrf.buts h4 hodd (by simp; omega), hro, hW.trans (hB.mono (by omega)), hov.buts h4 (by simp; omega), hou.buts h4 (by simp; omega), h1.mono (by omega)⟩, hB, keep38_buts h4 hodd⟩
  case h4 =>
    rintro S R v u y W ⟨es, q, ql, qc, rq, rc, hwR, hrf, hro, hW, hov, hou, hoy⟩
    have hRl := hrf.row.lt
    refine (refEId_any R _ kd' rl' ep' p2 l2 c2 ids2 q2 lb2 cb2 bs2 (ansV (clashE ent X2 g2) g2) (ansV_key hk2) (clashE ent X2 g2) (hc0 _ rfl) (fun _ => True) (fun _ _ _ _ _ => trivial) W hRl hkd' hrl' hep' hf2.1 hf2.2 (hargs2 W hW).1 (hargs2 W hW).2 (fun _ W1 pp ll cc hW1 hI hO => ?_)).mono ?_
    · rw [hX2] at hI hO
      have hl1 := rowsOf_len hro
      by_cases hL : ∃ x ∈ es, x.L = X2
      · refine (refDig_realOld R zs es (by omega) q ql qc rq rc pp ll cc X2 g2 hk2 hX2b (by omega) W1 (hrf.later hW1) (hO.mono (by have := hW1.size; omega)) hL (fun W2 hW2 => hS27 W2 pp ll cc X2 g2 hg2 hX2l ((hI.below hW2).mono hW2.size))).mono ?_
        rintro e w' ⟨es', q', ql', qc', rq', rc', rfl, h2, _, h4⟩
        rw [clash_rows hro] at h2
        exact ⟨h2, trivial, h4⟩
      · refine (refDig_realNew R zs es (by omega) q ql qc rq rc pp ll cc X2 g2 hk2 hX2b (by omega) W1 (hrf.later hW1) (hO.mono (by have := hW1.size; omega)) (fun x hx e => hL ⟨x, hx, e⟩) (fun W2 hW2 => hS27 W2 pp ll cc X2 g2 hg2 hX2l ((hI.below hW2).mono hW2.size))).mono ?_
        rintro e w' ⟨es', q', ql', qc', rq', rc', ⟨x, rfl, hxL, hxd⟩, h2, _, h4⟩
        rw [clash_more hro X2 g2 x hxL] at h2
        exact ⟨h2, trivial, h4⟩
    · rintro e w' ⟨z, rfl, h1, _, _, h4⟩
      rw [hX2] at h1
      exact ⟨z, rfl, ⟨(h4.own hov).mono (by omega), (h4.own hou).mono (by omega), (h4.own hoy).mono (by omega), h1.mono (by omega)⟩, h4.1.mono hwR, h4.2 38 (by decide) (by decide)⟩
  case k2 =>
    rintro S R v W W' hb ⟨n, t, h1, h2, h3, h4, h5, h6, h7⟩
    have := h5.row.lt
    exact ⟨n, t, h1, h2, h3, RealSt.stays n t ent _ _ (hb.mono (by omega)) h4, h5.later hb, h6.trans (hb.mono h6.size), h7.later hb⟩
  case k3 =>
    rintro S R v u W W' hb ⟨n, t, es, q, ql, qc, rq, rc, h1, h2, h3, h4, h5, h6, h7, h8, h9⟩
    have := h5.row.lt
    exact ⟨n, t, es, q, ql, qc, rq, rc, h1, h2, h3, RealSt.stays n t ent _ _ (hb.mono (by omega)) h4, h5.later hb, h6, h7.trans (hb.mono h7.size), h8.later hb, h9.later hb⟩
  case k4 =>
    rintro S R v u y W W' hb ⟨es, q, ql, qc, rq, rc, h1, h2, h3, h4, h5, h6, h7⟩
    exact ⟨es, q, ql, qc, rq, rc, h1, h2.later hb, h3, h4.trans (hb.mono h4.size), h5.later hb, h6.later hb, h7.later hb⟩
  case k5 =>
    rintro v u y z W W' hb ⟨h1, h2, h3, h4⟩
    exact ⟨own_str (h1.later hb), own_str (h2.later hb), own_str (h3.later hb), own_str (h4.later hb)⟩

end Go.Proofs.YtbaokodhoiledaaDoor
