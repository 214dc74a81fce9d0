/-
  EnvelIds with an ideal suite.
-/
import Derived.Test.YtbaokodhoiledaaDoorIdsR
import Derived.Test.YtbaokodhoiledaaDoorIdsP
namespace Go.Proofs.YtbaokodhoiledaaDoor
open Classical
open Go.RowKit Go.Shelf

theorem odd_ideal {W : World} {Q T n : Nat} {zs : List Nat} {ent : Ent} (h : IdealSt W Q T n zs ent) : ∀ k ∈ idF T n, Odd W k := by
  have a := odd_dig h.dig
  have b := odd_tape h.tape
  have c := odd_map h.ids
  simp [idF]
  exact ⟨b, a.1, a.2, c⟩

set_option maxHeartbeats 1000000 in
theorem ids_ideal (mode : Int) (hm : mode % 2 = 1) (p : Option Addr) (len cap : Nat) (zs : List Nat) (hlen : len ≤ 300) (kd : Int) (rl ep : Nat) (p1 : Option Addr) (l1 c1 : Nat) (ids1 : List (List Nat)) (q1 : Option Addr) (lb1 cb1 : Nat) (bs1 : List Nat) (kd' : Int) (rl' ep' : Nat) (p2 : Option Addr) (l2 c2 : Nat) (ids2 : List (List Nat)) (q2 : Option Addr) (lb2 cb2 : Nat) (bs2 : List Nat)
    (hf1 : l1 ≤ 40 ∧ lb1 ≤ 1000) (hf2 : l2 ≤ 40 ∧ lb2 ≤ 1000) (hkd : kd < 9223372036854775808) (hrl : rl < 4294967296) (hep : ep < 4294967296) (hkd' : kd' < 9223372036854775808) (hrl' : rl' < 4294967296) (hep' : ep' < 4294967296) (w : World)
    (hZ : IsBytes w.heap.size w p len cap zs) (hI1 : IsIds w.heap.size w p1 l1 c1 ids1) (hJ1 : IsBytes w.heap.size w q1 lb1 cb1 bs1) (hI2 : IsIds w.heap.size w p2 l2 c2 ids2) (hJ2 : IsBytes w.heap.size w q2 lb2 cb2 bs2) :
    Calls Tryd.prog 3 #[.int .i64 mode, .slice p len cap, .agg #[.int .i64 kd, .int .u32 (rl : Nat), .int .u32 (ep : Nat), .slice p1 l1 c1, .slice q1 lb1 cb1], .agg #[.int .i64 kd', .int .u32 (rl' : Nat), .int .u32 (ep' : Nat), .slice p2 l2 c2, .slice q2 lb2 cb2]] w fun e w' => e = .returned (.bool true) ∧ Below w.heap.size w w' := by
  obtain ⟨X1, hX1⟩ : ∃ X, putE kd.toNat rl ep ids1 bs1 = X := ⟨_, rfl⟩
  obtain ⟨X2, hX2⟩ : ∃ X, putE kd'.toNat rl' ep' ids2 bs2 = X := ⟨_, rfl⟩
  have hX1b : ∀ z ∈ X1, z < 256 := by rw [← hX1]; exact putE_bytes _ _ _ hI1.2.2.2.1 hJ1.2.2.2.1
  have hX2b : ∀ z ∈ X2, z < 256 := by rw [← hX2]; exact putE_bytes _ _ _ hI2.2.2.2.1 hJ2.2.2.2.1
  have hX1l : X1.length ≤ 40000 := by rw [← hX1]; exact putE_len hI1.2.2.2.1 (by omega) hrl hep (by have := hI1.1; omega) (by have := hJ1.1; omega)
  have hX2l : X2.length ≤ 40000 := by rw [← hX2]; exact putE_len hI2.2.2.2.1 (by omega) hrl' hep' (by have := hI2.1; omega) (by have := hJ2.1; omega)
  have hzz : zs.length ≤ 300 := by have := hZ.1; omega
  obtain ⟨d1, x1, hk1, hx1, hM1, hR1⟩ := ideal_pair zs hZ.2.2.2.1 hzz none (fun L d h => by cases h) X1 hX1b hX1l
  obtain ⟨ent, hent⟩ : ∃ ent : Ent, (if okE kd ids1 = true then nextE x1 X1 d1 else none) = ent := ⟨_, rfl⟩
  obtain ⟨zs1, hzs1⟩ : ∃ z, (if okE kd ids1 = true then nextZ x1 zs else zs) = z := ⟨_, rfl⟩
  have hentok : ent.ok := by
    intro L d h
    rw [← hent] at h
    split at h
    · unfold nextE at h
      split at h
      · cases h; exact ⟨hk1, hX1b⟩
      · cases h
    · cases h
  have hz1 : (∀ z ∈ zs1, z < 256) ∧ zs1.length ≤ 300 := by
    rw [← hzs1]
    split
    · unfold nextZ
      split
      · exact ⟨fun z h => hZ.2.2.2.1 z (List.mem_of_mem_drop h), by simp; omega⟩
      · exact ⟨hZ.2.2.2.1, hzz⟩
    · exact ⟨hZ.2.2.2.1, hzz⟩
  obtain ⟨d2, x2, hk2, hx2, hM2, hR2⟩ := ideal_pair zs1 hz1.1 hz1.2 ent hentok X2 hX2b hX2l
  let J1 : Nat → Nat → World → Prop := fun S R W => ∃ Q T n, S = n + 7 ∧ n + 8 ≤ R ∧ w.heap.size + 2 ≤ T ∧ IdealSt W Q T n zs none ∧ RefSt W R 1 zs [] p len cap none 0 (.slice none 0 0) (.slice none 0 0) ∧ Below w.heap.size w W
  let J2 : Nat → Nat → Value → World → Prop := fun S R v W => ∃ Q T n, S = n + 7 ∧ n + 8 ≤ R ∧ w.heap.size + 2 ≤ T ∧ IdealSt W Q T n zs1 ent ∧ RefSt W R 1 zs [] p len cap none 0 (.slice none 0 0) (.slice none 0 0) ∧ Below w.heap.size w W ∧ Own (R + 1) W v (resB (okE kd ids1) x1 X1)
  let J3 : Nat → Nat → Value → Value → World → Prop := fun S R v u W => ∃ Q T n es q ql qc rq rc, S = n + 7 ∧ n + 8 ≤ R ∧ w.heap.size + 2 ≤ T ∧ IdealSt W Q T n zs1 ent ∧ RefSt W R 1 zs1 es q ql qc rq rc (.slice none 0 0) (.slice none 0 0) ∧ RowsOf ent es ∧ Below w.heap.size w W ∧ Own (R + 1) W v (resB (okE kd ids1) x1 X1) ∧ Own (R + 1) W u (resB (okE kd ids1) x1 X1)
  let J4 : Nat → Nat → Value → Value → Value → World → Prop := fun S R v u y W => ∃ es q ql qc rq rc, w.heap.size + 2 ≤ R ∧ RefSt W R 1 zs1 es q ql qc rq rc (.slice none 0 0) (.slice none 0 0) ∧ RowsOf ent es ∧ Below w.heap.size w W ∧ Own (R + 1) W v (resB (okE kd ids1) x1 X1) ∧ Own (R + 1) W u (resB (okE kd ids1) x1 X1) ∧ Own (R + 1) W y (resB (okE kd' ids2) x2 X2)
  let J5 : Value → Value → Value → Value → World → Prop := fun v u y z W => Own 0 W v (resB (okE kd ids1) x1 X1) ∧ Own 0 W u (resB (okE kd ids1) x1 X1) ∧ Own 0 W y (resB (okE kd' ids2) x2 X2) ∧ Own 0 W z (resB (okE kd' ids2) x2 X2)
  have hargs1 : ∀ W, Below w.heap.size w W → IsIds W.heap.size W p1 l1 c1 ids1 ∧ IsBytes W.heap.size W q1 lb1 cb1 bs1 := fun W h => ⟨(hI1.below h).mono h.size, (hJ1.below h).mono h.size⟩
  have hargs2 : ∀ W, Below w.heap.size w W → IsIds W.heap.size W p2 l2 c2 ids2 ∧ IsBytes W.heap.size W q2 lb2 cb2 bs2 := fun W h => ⟨(hI2.below h).mono h.size, (hJ2.below h).mono h.size⟩
  refine ids_core mode 1 hm p len cap hlen kd rl ep p1 l1 c1 q1 lb1 cb1 kd' rl' ep' p2 l2 c2 q2 lb2 cb2 hf1 hf2 w (resD (okE kd ids1) d1) (resD (okE kd' ids2) d2) (resD_id hk1) (resD_id hk2) (resX (okE kd ids1) x1) (resX (okE kd' ids2) x2) (strOf (resB (okE kd ids1) x1 X1)) (strOf (resB (okE kd' ids2) x2 X2))
    (fun B W => Below w.heap.size w W ∧ w.heap.size + 2 ≤ W.heap.size ∧ ∃ Q, TapeAt W B Q zs ∧ Q < B ∧ w.heap.size + 2 ≤ B) (fun S W => ∃ Q T n, S = n + 7 ∧ n + 8 ≤ W.heap.size ∧ w.heap.size + 2 ≤ T ∧ IdealSt W Q T n zs none ∧ Below w.heap.size w W) J1 J2 J3 J4 J5 ?hT ?hS ?hJ ?h1 ?h2 ?h3 ?h4 ?k2 ?k3 ?k4 ?k5
  case hT =>
    intro W hW hs
    refine (tapeNew_any p len cap zs (by omega) W ((hZ.below hW).mono hW.size)).mono ?_
    rintro e w' ⟨B, rfl, hBQ, ht, hb⟩
    exact ⟨B, rfl, ⟨hW.trans (hb.mono hW.size), Nat.le_trans hs hb.size, _, ht.1, hBQ, by omega⟩, LFr.of_below hb hs⟩
  case hS =>
    rintro B W ⟨hW, hs, Q, ht, hQ, hBw⟩
    refine (newIdeal_any (some ⟨B, 0, none⟩) W).mono ?_
    rintro e w' ⟨rfl, hf, hb, hsz⟩
    exact ⟨_, rfl, ⟨Q, B, W.heap.size, rfl, by omega, hBw, ⟨hf.suite, ⟨_, _, hf.dig, hf.first⟩, hf.drawn, hf.ids, ht.later hb, hQ, ht.lt⟩, hW.trans (hb.mono hW.size)⟩, LFr.of_below hb hs⟩
  case hJ =>
    rintro S W ⟨Q, T, n, rfl, hn, hwn, hst, hW⟩
    have hb : Below W.heap.size W (W.alloc (.cells #[.int .i64 1, .slice p len cap, .slice none 0 0, .slice none 0 0, .slice none 0 0, .bool false] 36)) := (Below.refl _ W).alloc (Nat.le_refl _) _
    exact ⟨Q, T, n, rfl, hn, hwn, IdealSt.stays Q T n zs none _ _ (hb.mono hn) hst, refSt_new W 1 w.heap.size p len cap zs hW.size (hZ.below hW), hW.trans (hb.mono hW.size)⟩
  case h1 =>
    rintro S R W ⟨Q, T, n, rfl, hnR, hwn, hst, hrf, hW⟩
    have hRl := hrf.row.lt
    have hlt := hst.lt
    have hodd := odd_ideal hst
    have hFn := idF_lt hlt.2
    have hFR : ∀ k ∈ idF T n, k < R := fun k hk => by have := hFn k hk; omega
    refine (myId_any (n + 8) _ kd rl ep p1 l1 c1 ids1 q1 lb1 cb1 bs1 (idF T n) d1 hk1 x1 hx1 (fun W => IdealSt W Q T n (nextZ x1 zs) (nextE x1 X1 d1)) (IdealSt.stays Q T n _ _) W (by omega) hFn hkd hrl hep hf1.1 hf1.2 (hargs1 W hW).1 (hargs1 W hW).2 (fun _ W1 pp ll cc hW1 hI hO => ?_)).mono ?_
    · rw [hX1] at hI
      exact (hM1 Q T n W1 pp ll cc (by have := hW1.size; omega) (IdealSt.stays Q T n zs none _ _ (hW1.mono (by omega)) hst) hI).mono fun e w' ⟨h1, h2, h3⟩ => ⟨h1, h2 rfl, h3⟩
    · rintro e w' ⟨v, rfl, h1, h2, h3, h4⟩
      rw [hX1] at h1
      have hB : Below (w.heap.size + 2) W w' := h4.below (by omega) (by simp [idF]; omega)
      refine ⟨v, rfl, ⟨Q, T, n, rfl, hnR, hwn, ?_, hrf.buts h4 hodd hFR, hW.trans (hB.mono (by omega)), h1.mono (by omega)⟩, hB, keep38_buts h4 hodd⟩
      rw [← hent, ← hzs1]
      cases hok : okE kd ids1 with
      | true => exact h2 hok
      | false => exact IdealSt.stays Q T n zs none _ _ ((h3 hok).mono (by omega)) hst
  case h2 =>
    rintro S R v W ⟨Q, T, n, rfl, hnR, hwn, hst, hrf, hW, hov⟩
    have hRl := hrf.row.lt
    have hlt := hst.lt
    refine (refEId_any R _ kd rl ep p1 l1 c1 ids1 q1 lb1 cb1 bs1 d1 hk1 x1 hx1 (fun W => ∃ es q ql qc rq rc, RefSt W R 1 (nextZ x1 zs) es q ql qc rq rc (.slice none 0 0) (.slice none 0 0) ∧ RowsOf (nextE x1 X1 d1) es) (fun A B hk hb ⟨es, q, ql, qc, rq, rc, h, h'⟩ => ⟨es, q, ql, qc, rq, rc, h.keepTs hk hb, h'⟩) W hRl hkd hrl hep hf1.1 hf1.2 (hargs1 W hW).1 (hargs1 W hW).2 (fun _ W1 pp ll cc hW1 hI hO => ?_)).mono ?_
    · rw [hX1] at hI hO
      exact (hR1 R [] p len cap none 0 W1 pp ll cc (hrf.later hW1) rfl (hO.mono (by have := hW1.size; omega))).mono fun e w' ⟨h1, h2, h3⟩ => ⟨h1, h2 rfl, h3⟩
    · rintro e w' ⟨u, rfl, h1, h2, h3, h4⟩
      rw [hX1] at h1
      refine ⟨u, rfl, ?_, h4.1.mono (by omega), h4.2 38 (by decide) (by decide)⟩
      have hst' := IdealSt.stays Q T n zs1 ent _ _ (h4.1.mono hnR) hst
      have hW' := hW.trans (h4.1.mono (by omega : w.heap.size ≤ R))
      cases hok : okE kd ids1 with
      | true =>
        obtain ⟨es, q, ql, qc, rq, rc, h5, h6⟩ := h2 hok
        exact ⟨Q, T, n, es, q, ql, qc, rq, rc, rfl, hnR, hwn, hst', by rw [← hzs1, hok]; exact h5, by rw [← hent, hok]; exact h6, hW', h4.own hov, h1.mono (by omega)⟩
      | false => exact ⟨Q, T, n, [], p, len, cap, none, 0, rfl, hnR, hwn, hst', by rw [← hzs1, hok]; exact hrf.later (h3 hok), by rw [← hent, hok]; rfl, hW', h4.own hov, h1.mono (by omega)⟩
  case h3 =>
    rintro S R v u W ⟨Q, T, n, es, q, ql, qc, rq, rc, rfl, hnR, hwn, hst, hrf, hro, hW, hov, hou⟩
    have hRl := hrf.row.lt
    have hlt := hst.lt
    have hodd := odd_ideal hst
    have hFn := idF_lt hlt.2
    have hFR : ∀ k ∈ idF T n, k < R := fun k hk => by have := hFn k hk; omega
    refine (myId_any (n + 8) _ kd' rl' ep' p2 l2 c2 ids2 q2 lb2 cb2 bs2 (idF T n) d2 hk2 x2 hx2 (fun _ => True) (fun _ _ _ _ => trivial) W (by omega) hFn hkd' hrl' hep' hf2.1 hf2.2 (hargs2 W hW).1 (hargs2 W hW).2 (fun _ W1 pp ll cc hW1 hI hO => ?_)).mono ?_
    · rw [hX2] at hI
      exact (hM2 Q T n W1 pp ll cc (by have := hW1.size; omega) (IdealSt.stays Q T n zs1 ent _ _ (hW1.mono (by omega)) hst) hI).mono fun e w' ⟨h1, _, h3⟩ => ⟨h1, trivial, h3⟩
    · rintro e w' ⟨y, rfl, h1, _, _, h4⟩
      rw [hX2] at h1
      have hB : Below (w.heap.size + 2) W w' := h4.below (by omega) (by simp [idF]; omega)
      exact ⟨y, rfl, ⟨es, q, ql, qc, rq, rc, by omega, hrf.buts h4 hodd hFR, hro, hW.trans (hB.mono (by omega)), hov.buts h4 (fun k hk => by have := hFR k hk; omega), hou.buts h4 (fun k hk => by have := hFR k hk; omega), h1.mono (by omega)⟩, hB, keep38_buts h4 hodd⟩
  case h4 =>
    rintro S R v u y W ⟨es, q, ql, qc, rq, rc, hwR, hrf, hro, hW, hov, hou, hoy⟩
    have hRl := hrf.row.lt
    refine (refEId_any R _ kd' rl' ep' p2 l2 c2 ids2 q2 lb2 cb2 bs2 d2 hk2 x2 hx2 (fun _ => True) (fun _ _ _ _ _ => trivial) W hRl hkd' hrl' hep' hf2.1 hf2.2 (hargs2 W hW).1 (hargs2 W hW).2 (fun _ W1 pp ll cc hW1 hI hO => ?_)).mono ?_
    · rw [hX2] at hI hO
      exact (hR2 R es q ql qc rq rc W1 pp ll cc (hrf.later hW1) hro (hO.mono (by have := hW1.size; omega))).mono fun e w' ⟨h1, _, h3⟩ => ⟨h1, trivial, h3⟩
    · rintro e w' ⟨z, rfl, h1, _, _, h4⟩
      rw [hX2] at h1
      exact ⟨z, rfl, ⟨(h4.own hov).mono (by omega), (h4.own hou).mono (by omega), (h4.own hoy).mono (by omega), h1.mono (by omega)⟩, h4.1.mono hwR, h4.2 38 (by decide) (by decide)⟩
  case k2 =>
    rintro S R v W W' hb ⟨Q, T, n, h1, h2, h3, h4, h5, h6, h7⟩
    have := h5.row.lt
    exact ⟨Q, T, n, h1, h2, h3, IdealSt.stays Q T n zs1 ent _ _ (hb.mono (by omega)) h4, h5.later hb, h6.trans (hb.mono h6.size), h7.later hb⟩
  case k3 =>
    rintro S R v u W W' hb ⟨Q, T, n, es, q, ql, qc, rq, rc, h1, h2, h3, h4, h5, h6, h7, h8, h9⟩
    have := h5.row.lt
    exact ⟨Q, T, n, es, q, ql, qc, rq, rc, h1, h2, h3, IdealSt.stays Q T n zs1 ent _ _ (hb.mono (by omega)) h4, h5.later hb, h6, h7.trans (hb.mono h7.size), h8.later hb, h9.later hb⟩
  case k4 =>
    rintro S R v u y W W' hb ⟨es, q, ql, qc, rq, rc, h1, h2, h3, h4, h5, h6, h7⟩
    exact ⟨es, q, ql, qc, rq, rc, h1, h2.later hb, h3, h4.trans (hb.mono h4.size), h5.later hb, h6.later hb, h7.later hb⟩
  case k5 =>
    rintro v u y z W W' hb ⟨h1, h2, h3, h4⟩
    exact ⟨own_str (h1.later hb), own_str (h2.later hb), own_str (h3.later hb), own_str (h4.later hb)⟩

end Go.Proofs.YtbaokodhoiledaaDoor
