/-
  What an ideal suite knows, or draws, when it is asked to seal.
-/
import Derived.Test.YtobmcaknfbooiaaDoorIdeal
namespace Go.Proofs.YtobmcaknfbooiaaDoor
open Classical
open Go.RowKit Go.Shelf

/-- What known leaves. -/
def KnownPost (w : World) (F : List Nat) (S D t Q m3 m4 : Nat) (zs : List Nat) (g : Value → Option Value) (T : List Value → Option (List Nat)) (L : ByteArray → List (List Value)) (K : Nat) (c : List Value) (n : Nat) (v : Value) (w' : World) : Prop :=
  ∃ F1 f1, (∀ b ∈ F, b ∈ F1) ∧ (∀ b ∈ F1, b ∈ F ∨ w.heap.size ≤ b) ∧ IdealAt w' F1 S D t Q m3 m4 (sealZ T zs c n) f1 g (sealT T zs c n) L K ∧ Buts F w.heap.size w w' ∧
    (sealE T zs c n = 0 → ∃ b, v = .slice (some ⟨b, 0, none⟩) (sealC T zs c n).length (sealC T zs c n).length ∧ b ∈ F1 ∧ Row w' b 5 (u8s (sealC T zs c n)) ∧ (∀ z ∈ sealC T zs c n, z < 256) ∧ (sealC T zs c n).length ≤ 70000)

theorem row_of_own5 {W : World} {n₀ g n : Nat} {zs : List Nat} (h : Own n₀ W (.slice (some ⟨g, 0, none⟩) n n) zs) (hl : zs.length = n) : Row W g 5 (u8s zs) ∧ n₀ ≤ g := by
  unfold Own at h
  rw [hl] at h
  refine ⟨row_of_made h, ?_⟩
  rcases h.2 with ⟨h', _⟩ | ⟨g', cap', cur, h', hg, _⟩
  · simp at h'
  · cases h'; exact hg

theorem known_any (S D t Q m3 m4 K n b0 b1 : Nat) (F : List Nat) (zs : List Nat) (f g : Value → Option Value) (T : List Value → Option (List Nat)) (L : ByteArray → List (List Value)) (c : List Value) (k : List Nat) (ad pl : ByteArray) (hc : IsAsked c k ad pl)
    (p : Option Addr) (len cap : Nat) (hl : len ≤ 60000) (hn : sizeN (len : Int) = n) (hn0 : 0 < n) (w : World)
    (hb0 : Row w b0 51 [.pointer (some ⟨D, 0, none⟩)]) (hb1 : Row w b1 25 [.slice p len cap]) (h : IdealAt w F S D t Q m3 m4 zs f g T L K) :
    Calls Tryd.prog 36 #[.map (some m3), .agg c.toArray, .func (.func 37) #[] #[.pointer (some ⟨b0, 0, none⟩), .pointer (some ⟨b1, 0, none⟩)]] w fun e w' => ∃ v, e = .returned (.tuple #[v, .int .i64 (sealE T zs c n)]) ∧ KnownPost w F S D t Q m3 m4 zs g T L K c n v w' := by
  obtain ⟨kl, hkey⟩ : ∃ kl, keyOf Tryd.prog 72 (.agg c.toArray) = some kl := by rw [hc.eq]; exact keyOf_asked hc.key hc.ad hc.plain
  obtain ⟨x1, x2, hD⟩ := h.drawn
  cases hT : T c with
  | some ct =>
    obtain ⟨b, hfb, hbF, hbr, hbz, hbl⟩ := h.some c ct hT
    have e1 : sealE T zs c n = 0 := by unfold sealE; rw [hT]
    have e2 : sealC T zs c n = ct := by unfold sealC; rw [hT]
    have e3 : sealT T zs c n = T := by unfold sealT; rw [hT]
    have e4 : sealZ T zs c n = zs := by unfold sealZ; rw [hT]
    refine (known_old m3 c kl hkey hc.len f _ _ w h.seals hfb).mono ?_
    rintro e w' ⟨rfl, hb⟩
    refine ⟨_, by rw [e1], F, f, fun _ h => h, fun _ h => .inl h, ?_, Buts.of_below hb (Nat.le_refl _), fun _ => ?_⟩
    · rw [e3, e4]; exact h.later hb
    · rw [e2]; exact ⟨b, rfl, hbF, hbr.later hb, hbz, hbl⟩
  | none =>
    have hf := h.none c hT
    have HC : ∀ W, Below w.heap.size w W → Calls Tryd.prog 37 #[.pointer (some ⟨b0, 0, none⟩), .pointer (some ⟨b1, 0, none⟩)] W fun e w' => ∃ v, e = .returned (.tuple #[v, .int .i64 (errT n zs)]) ∧ (Own W.heap.size w' v (takenT n zs) ∧ (0 < n → n ≤ zs.length → ∃ g, v = .slice (some ⟨g, 0, none⟩) n n)) ∧ TapeAt w' t Q (restT n zs) ∧ But t W.heap.size W w' := fun W hW =>
      seal1_any b0 b1 D t Q n _ zs p len cap h.long hl hn W (hb0.later hW) (hb1.later hW) (hD.later hW) (h.tape.later hW)
    have htr : ∃ tc, Row w t 57 tc := by obtain ⟨_, _, _, hr, _⟩ := h.tape; exact ⟨_, hr⟩
    obtain ⟨tc, htr⟩ := htr
    have hmt : m3 ≠ t := (row_map htr h.seals).symm
    have hm4t : m4 ≠ t := (row_map htr h.asked.map).symm
    obtain ⟨qc, hQr⟩ := h.bytes
    by_cases hle : n ≤ zs.length
    · have e1 : sealE T zs c n = 0 := by unfold sealE; rw [hT]; simp [hle]
      have e2 : sealC T zs c n = zs.take n := by unfold sealC; rw [hT]; simp [hle]
      have e4 : sealZ T zs c n = zs.drop n := by unfold sealZ; rw [hT]; simp [hle]
      have e5 : errT n zs = 0 := by unfold errT; rw [if_neg (by omega), if_neg (by omega)]
      have e6 : takenT n zs = zs.take n := by unfold takenT; rw [if_neg (by omega), Int.toNat_natCast]
      have e7 : restT n zs = zs.drop n := by unfold restT; rw [if_neg (by omega), Int.toNat_natCast]
      rw [e5, e6, e7] at HC
      refine (known_new m3 t c kl hkey hc.len f _ _ w h.seals hf hmt h.tape.lt (fun W w' v => (Own W.heap.size w' v (zs.take n) ∧ (0 < n → n ≤ zs.length → ∃ g, v = .slice (some ⟨g, 0, none⟩) n n)) ∧ TapeAt w' t Q (zs.drop n)) (fun W hW => (HC W hW).mono fun e w' ⟨v, h1, h2, h3, h4⟩ => ⟨v, h1, ⟨h2, h3⟩, h4⟩)).mono ?_
      rintro e w' ⟨v, W, W', rfl, hbW, ⟨⟨ho, hg⟩, htp⟩, hbt, hM, hbm⟩
      obtain ⟨gb, rfl⟩ := hg hn0 hle
      have hlt : (zs.take n).length = n := by rw [List.length_take]; omega
      obtain ⟨hrow, hgb⟩ := row_of_own5 ho hlt
      have hwg : w.heap.size ≤ gb := Nat.le_trans hbW.size hgb
      have hgl := hrow.lt
      have hnF : gb ∉ F := fun hm => by have := h.lt gb hm; omega
      have hkW : ∀ b, b < w.heap.size → b ≠ t → b ≠ m3 → w'.heap[b]? = w.heap[b]? := fun b hb h1 h2 => (hbm.block b (by have := hbt.size; omega) h2).trans (hbt.block b hb h1)
      have hbuts : Buts F w.heap.size w w' := (Buts.of_but hbt h.mem.2.2.1 (Nat.le_refl _)).trans (Buts.of_but hbm h.mem.2.2.2.2 hbt.size)
      have hrow' : Row w' gb 5 (u8s (zs.take n)) := hbm.row hgl (row_map hrow (by obtain ⟨es, cl, hm, r⟩ := h.seals; exact MapAt.but ⟨es, cl, hm, r⟩ hbt (Array.getElem?_eq_some_iff.1 hm).1 hmt)) hrow
      have hbz : ∀ z ∈ zs.take n, z < 256 := fun z hz => h.tape.bytes z (List.mem_of_mem_take hz)
      refine ⟨_, by rw [e1], gb :: F, fnPut f (.agg c.toArray) (.slice (some ⟨gb, 0, none⟩) n n), fun b hb => by simp [hb], fun b hb => ?_, ?_, hbuts, fun _ => ?_⟩
      · rcases List.mem_cons.1 hb with rfl | hb
        · exact .inr hwg
        · exact .inl hb
      · have hbtW : W'.heap.size ≤ w'.heap.size := hbm.size
        obtain ⟨q1, q2, q3, q4, q5⟩ := h.mem
        have hsz : w.heap.size ≤ w'.heap.size := hbuts.size
        rw [e4]
        refine ⟨fun b hb => ?_, ?_, ?_, ?_, ?_, ?_, ⟨by simp [q1], by simp [q2], by simp [q3], by simp [q4], by simp [q5]⟩, h.ne, hM, ?_, ?_, ?_⟩
        · rcases List.mem_cons.1 hb with rfl | hb
          · omega
          · have := h.lt b hb; omega
        · obtain ⟨gg, hs⟩ := h.suite
          exact ⟨gg, (hkW S (h.lt S q1) (row_apart hs htr (by decide)) (row_map hs h.seals)).trans hs⟩
        · exact ⟨x1, x2, (hkW D (h.lt D q2) (row_apart hD htr (by decide)) (row_map hD h.seals)).trans hD⟩
        · refine htp.keep (hbm.block t (Nat.lt_of_lt_of_le h.tape.lt hbt.size) hmt.symm) (hbm.block Q (Nat.lt_of_lt_of_le (h.lt Q q4) hbt.size) (row_map hQr h.seals))
        · exact ⟨qc, (hkW Q (h.lt Q q4) (row_apart hQr htr (by decide)) (row_map hQr h.seals)).trans hQr⟩
        · rw [List.length_drop]; have := h.long; omega
        · intro d ct hd
          unfold sealT at hd
          rw [hT] at hd
          simp only [hle, if_true] at hd
          by_cases ed : d = c
          · subst ed
            simp at hd
            subst hd
            exact ⟨gb, by rw [fnPut_same, hlt], by simp, hrow', hbz, by rw [hlt]; have := h.long; omega⟩
          · rw [if_neg ed] at hd
            obtain ⟨b, a1, a2, a3, a4, a5⟩ := h.some d ct hd
            have hne : (Value.agg d.toArray) ≠ .agg c.toArray := fun e' => ed (agg_inj e')
            exact ⟨b, by rw [fnPut_other hne]; exact a1, by simp [a2], (hkW b (h.lt b a2) (row_apart a3 htr (by decide)) (row_map a3 h.seals)).trans a3, a4, a5⟩
        · intro d hd
          unfold sealT at hd
          rw [hT] at hd
          simp only [hle, if_true] at hd
          by_cases ed : d = c
          · subst ed; simp at hd
          · rw [if_neg ed] at hd
            have hne : (Value.agg d.toArray) ≠ .agg c.toArray := fun e' => ed (agg_inj e')
            rw [fnPut_other hne]
            exact h.none d hd
        · exact h.asked.keep2 (fun b hb => by simp [hb]) (hkW m4 (h.lt m4 h.asked.mem) hm4t h.ne.symm) (fun b hb ⟨cs, hcs⟩ => hkW b (h.lt b hb) (row_apart hcs htr (by decide)) (row_map hcs h.seals))
      · rw [e2, hlt]; exact ⟨gb, rfl, by simp, hrow', hbz, by have := h.long; omega⟩
    · have e1 : sealE T zs c n = 60 := by unfold sealE; rw [hT]; simp [hle]
      have e3 : sealT T zs c n = T := by unfold sealT; rw [hT]; simp [hle]
      have e4 : sealZ T zs c n = zs := by unfold sealZ; rw [hT]; simp [hle]
      have e5 : errT n zs = 60 := by unfold errT; rw [if_neg (by omega), if_pos (by omega)]
      have e7 : restT n zs = zs := by unfold restT; rw [if_pos (by omega)]
      rw [e5, e7] at HC
      refine (known_err m3 t c kl hkey hc.len f _ _ w h.seals hf (fun W w' v => TapeAt w' t Q zs) (fun W hW => (HC W hW).mono fun e w' ⟨v, h1, h2, h3, h4⟩ => ⟨v, h1, h3, h4⟩)).mono ?_
      rintro e w' ⟨v, W, rfl, hbW, htp, hbt⟩
      have hkW : ∀ b, b < w.heap.size → b ≠ t → w'.heap[b]? = w.heap[b]? := fun b hb h1 => hbt.block b hb h1
      obtain ⟨q1, q2, q3, q4, q5⟩ := h.mem
      have hsz : w.heap.size ≤ w'.heap.size := hbt.size
      refine ⟨_, by rw [e1], F, f, fun _ h => h, fun _ h => .inl h, ?_, Buts.of_but hbt h.mem.2.2.1 (Nat.le_refl _), fun e0 => by rw [e1] at e0; cases e0⟩
      rw [e3, e4]
      refine ⟨fun b hb => Nat.lt_of_lt_of_le (h.lt b hb) hsz, ?_, ⟨x1, x2, (hkW D (h.lt D q2) (row_apart hD htr (by decide))).trans hD⟩, htp, ⟨qc, (hkW Q (h.lt Q q4) (row_apart hQr htr (by decide))).trans hQr⟩, h.long, h.mem, h.ne, h.seals.kept (hkW m3 (h.lt m3 q5) hmt), ?_, h.none, h.asked.keep2 (fun _ h => h) (hkW m4 (h.lt m4 h.asked.mem) hm4t) (fun b hb ⟨cs, hcs⟩ => hkW b (h.lt b hb) (row_apart hcs htr (by decide)))⟩
      · obtain ⟨gg, hs⟩ := h.suite
        exact ⟨gg, (hkW S (h.lt S q1) (row_apart hs htr (by decide))).trans hs⟩
      · intro d ct hd
        obtain ⟨b, a1, a2, a3, a4, a5⟩ := h.some d ct hd
        exact ⟨b, a1, a2, (hkW b (h.lt b a2) (row_apart a3 htr (by decide))).trans a3, a4, a5⟩

end Go.Proofs.YtobmcaknfbooiaaDoor
