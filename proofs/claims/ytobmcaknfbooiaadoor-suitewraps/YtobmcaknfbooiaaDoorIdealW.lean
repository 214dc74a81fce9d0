/-
  What SuiteIdeal answers: true, whatever the word that the draws come from, the keys, the words, the text and the bytes. Nothing that lay before the call has turned.
-/
import Derived.Test.YtobmcaknfbooiaaDoorSuiteOpen
import Derived.Test.YtobmcaknfbooiaaDoorBlindW
import Derived.Test.YtobmcaknfbooiaaDoorLawTape
namespace Go.Proofs.YtobmcaknfbooiaaDoor
open Classical
open Go.RowKit Go.Shelf

theorem sizeN_small {n : Nat} (h : n ≤ 300) : sizeN (n : Int) ≤ 1600 := by
  have hb : bucketN (n : Int) ≤ 512 := by
    by_cases h0 : n ≤ 28
    · rw [bucketN_of (n : Int) 0 (by omega) (by omega) (by simp; omega) (fun i hi => by omega)]; omega
    · by_cases h1 : n ≤ 60
      · rw [bucketN_of (n : Int) 1 (by omega) (by omega) (by simp; omega) (fun i hi => by (obtain rfl : i = 0 := (by omega)); simp; omega)]; omega
      · by_cases h2 : n ≤ 124
        · rw [bucketN_of (n : Int) 2 (by omega) (by omega) (by simp; omega) (fun i hi => by rcases (show i = 0 ∨ i = 1 by omega) with rfl | rfl <;> simp <;> omega)]; omega
        · by_cases h3 : n ≤ 252
          · rw [bucketN_of (n : Int) 3 (by omega) (by omega) (by simp; omega) (fun i hi => by rcases (show i = 0 ∨ i = 1 ∨ i = 2 by omega) with rfl | rfl | rfl <;> simp <;> omega)]; omega
          · rw [bucketN_of (n : Int) 4 (by omega) (by omega) (by simp; omega) (fun i hi => by rcases (show i = 0 ∨ i = 1 ∨ i = 2 ∨ i = 3 by omega) with rfl | rfl | rfl | rfl <;> simp <;> omega)]; omega
  unfold sizeN
  split <;> omega

theorem own_lt {A : World} {n₀ : Nat} {v : Value} {zs : List Nat} (h : Own n₀ A v zs) : ∀ b, v.ownBlock = some b → b < A.heap.size := fun b hb => by
  rcases h.2 with ⟨rfl, _⟩ | ⟨g, cap, cur, rfl, hg, hgg, _⟩
  · simp [Value.ownBlock] at hb
  · simp [Value.ownBlock] at hb; subst hb; exact (Array.getElem?_eq_some_iff.1 hgg).1

/-- An ideal suite, the boxes of two keys, and bytes that were answered. -/
def HeldI (w : World) (k k2 : List Nat) (S D t Q m3 m4 : Nat) (zs : List Nat) (T : List Value → Option (List Nat)) (L : ByteArray → List (List Value)) (K : Nat) (vs : List (Value × List Nat)) (W : World) : Prop :=
  ∃ F f g, IdealAt W F S D t Q m3 m4 zs f g T L K ∧ (∀ b ∈ F, w.heap.size + 1 < b) ∧ (∀ x ∈ vs, Own w.heap.size W x.1 x.2 ∧ ∀ b, x.1.ownBlock = some b → b ∉ F) ∧ Row W w.heap.size 24 (u8s k) ∧ Row W (w.heap.size + 1) 24 (u8s k2) ∧ Below w.heap.size w W

section
variable {w W : World} {k k2 : List Nat} {S D t Q m3 m4 : Nat} {zs : List Nat} {T : List Value → Option (List Nat)} {L : ByteArray → List (List Value)} {K : Nat} {vs : List (Value × List Nat)}

theorem HeldI.below (h : HeldI w k k2 S D t Q m3 m4 zs T L K vs W) : Below w.heap.size w W := by obtain ⟨_, _, _, _, _, _, _, _, h⟩ := h; exact h
theorem HeldI.key1 (h : HeldI w k k2 S D t Q m3 m4 zs T L K vs W) : Row W w.heap.size 24 (u8s k) := by obtain ⟨_, _, _, _, _, _, h, _⟩ := h; exact h
theorem HeldI.key2 (h : HeldI w k k2 S D t Q m3 m4 zs T L K vs W) : Row W (w.heap.size + 1) 24 (u8s k2) := by obtain ⟨_, _, _, _, _, _, _, h, _⟩ := h; exact h
theorem HeldI.own (h : HeldI w k k2 S D t Q m3 m4 zs T L K vs W) {v : Value} {z : List Nat} (hv : (v, z) ∈ vs) : Own w.heap.size W v z := by obtain ⟨_, _, _, _, _, h, _⟩ := h; exact (h _ hv).1

theorem own_later {A B : World} {n₀ : Nat} {v : Value} {zs : List Nat} (h : Own n₀ A v zs) (hb : Below A.heap.size A B) : Own n₀ B v zs := own_buts (F := []) h (Buts.of_below hb (Nat.le_refl _)) (fun b _ => by simp)

theorem HeldI.later (h : HeldI w k k2 S D t Q m3 m4 zs T L K vs W) {W' : World} (hb : Below W.heap.size W W') : HeldI w k k2 S D t Q m3 m4 zs T L K vs W' := by
  obtain ⟨F, f, g, hI, hF, hv, h1, h2, hB⟩ := h
  exact ⟨F, f, g, hI.later hb, hF, fun x hx => ⟨own_later (hv x hx).1 hb, (hv x hx).2⟩, h1.later hb, h2.later hb, hB.trans (hb.mono hB.size)⟩

theorem HeldI.open (h : HeldI w k k2 S D t Q m3 m4 zs T L K vs W) {kk : List Nat} (hk : IsKey32 kk) {pa : Option Addr} {la ca : Nat} {za : List Nat} {pc : Option Addr} {lc cc : Nat} {zc : List Nat} (hla : la ≤ 60000) (hlc : lc ≤ 60000) (hK : K ≤ 1000)
    (hIa : IsBytes w.heap.size w pa la ca za) (hIc : IsBytes W.heap.size W pc lc cc zc) :
    Calls Tryd.prog 12 #[.pointer (some ⟨S, 0, none⟩), .agg (u8s kk).toArray, .slice pa la ca, .slice pc lc cc] W fun e w' => ∃ v er, e = .returned (.tuple #[v, .int .i64 er]) ∧ OpenRes (L (strOf zc)) kk (strOf za) v er w' ∧ HeldI w k k2 S D t Q m3 m4 zs T L K vs w' := by
  have h' := h
  obtain ⟨F, f, g, hI, hF, hv, h1, h2, hB⟩ := h
  refine (open_ideal S D t Q m3 m4 K F zs f g T L kk hk pa la ca za pc lc cc zc hla hlc hK W ((hIa.below hB).mono hB.size) hIc hI).mono ?_
  rintro e w' ⟨v, er, he, hr, hb⟩
  exact ⟨v, er, he, hr, h'.later hb⟩

theorem HeldI.seal (h : HeldI w k k2 S D t Q m3 m4 zs T L K vs W) {kk : List Nat} (hk : IsKey32 kk) {pa : Option Addr} {la ca : Nat} {za : List Nat} {pp : Option Addr} {lp cp : Nat} {zp : List Nat} (hla : la ≤ 60000) (hlp : lp ≤ 60000) (hK : K ≤ 1000)
    (hIa : IsBytes w.heap.size w pa la ca za) (hIp : IsBytes w.heap.size w pp lp cp zp) :
    Calls Tryd.prog 11 #[.pointer (some ⟨S, 0, none⟩), .agg (u8s kk).toArray, .slice pa la ca, .slice pp lp cp] W fun e w' => ∃ v L', e = .returned (.tuple #[v, .int .i64 (sealE T zs (askedL kk (strOf za) (strOf zp)) (sizeN (lp : Int)))]) ∧
      ((sealE T zs (askedL kk (strOf za) (strOf zp)) (sizeN (lp : Int)) = 0 ∧ ∃ ys, Lasts (L (strOf (sealC T zs (askedL kk (strOf za) (strOf zp)) (sizeN (lp : Int))))) (askedL kk (strOf za) (strOf zp)) ys ∧ L' = putL L (strOf (sealC T zs (askedL kk (strOf za) (strOf zp)) (sizeN (lp : Int)))) ys) ∨ (sealE T zs (askedL kk (strOf za) (strOf zp)) (sizeN (lp : Int)) ≠ 0 ∧ L' = L)) ∧
      HeldI w k k2 S D t Q m3 m4 (sealZ T zs (askedL kk (strOf za) (strOf zp)) (sizeN (lp : Int))) (sealT T zs (askedL kk (strOf za) (strOf zp)) (sizeN (lp : Int))) L' (K + 1) ((v, sealC T zs (askedL kk (strOf za) (strOf zp)) (sizeN (lp : Int))) :: vs) w' := by
  obtain ⟨F, f, g, hI, hF, hv, h1, h2, hB⟩ := h
  refine (seal_ideal S D t Q m3 m4 K _ F zs f g T L kk hk pa la ca za pp lp cp zp hla hlp rfl (sizeN_pos hlp) hK W ((hIa.below hB).mono hB.size) ((hIp.below hB).mono hB.size) hI).mono ?_
  rintro e w' ⟨v, he, o1, F', f', g', L', u1, u2, u3, u4, u5⟩
  refine ⟨v, L', he, u5, F', f', g', u3, fun b hb => ?_, fun x hx => ?_, u4.row h1.lt (fun hm => by have := hF _ hm; omega) h1, u4.row h2.lt (fun hm => by have := hF _ hm; omega) h2, hB.trans (u4.below hB.size (fun x hx => by have := hF x hx; omega))⟩
  · rcases u1 b hb with h | h
    · exact hF b h
    · have := h2.lt; omega
  · rcases List.mem_cons.1 hx with rfl | hx
    · exact ⟨o1.mono hB.size, u2⟩
    · refine ⟨own_buts (hv x hx).1 u4 (hv x hx).2, fun b hb hm => ?_⟩
      rcases u1 b hm with h | h
      · exact (hv x hx).2 b hb h
      · have := own_lt (hv x hx).1 b hb; omega
end

theorem Lasts.first {c : List Value} {ys : List (List Value)} (h : Lasts [] c ys) : ys = [c] := by
  rcases h with ⟨_, rfl⟩ | ⟨i, hi, _⟩
  · rfl
  · simp at hi
theorem Lasts.again {c : List Value} {ys : List (List Value)} (h : Lasts [c] c ys) : ys = [c] := by
  rcases h with ⟨h, _⟩ | ⟨i, hi, _, rfl⟩
  · simp at h
  · simp at hi; subst hi; rfl

/-- What Open tells where one text was sealed. -/
theorem OpenRes.one {k kk : List Nat} {sa p : ByteArray} {v : Value} {er : Int} {W : World} (hk : IsKey32 k) (hkk : IsKey32 kk) (h : OpenRes [askedL k sa p] kk sa v er W) :
    (kk = k ∧ er = 0 ∧ (convert 25 9 v).run Tryd.prog W = .ok (.string p) W) ∨ (kk ≠ k ∧ er = 70) := by
  rcases h with ⟨rfl, _, h⟩ | ⟨rfl, p', g, cap, hm, rfl, hc⟩
  · refine .inr ⟨fun e => ?_, rfl⟩
    subst e
    exact h _ (by simp) p rfl
  · simp only [List.mem_cons, List.not_mem_nil, or_false] at hm
    obtain ⟨rfl, _, rfl⟩ := askedL_inj (by rw [hkk.1, hk.1]) hm
    refine .inl ⟨rfl, rfl, ?_⟩
    by_cases h0 : p'.size = 0
    · have e : bytesOf p' = [] := List.eq_nil_of_length_eq_zero (by rw [bytesOf_length, h0])
      have := (str_none W (some ⟨g, 0, none⟩) cap).here
      rw [← e, strOf_bytesOf] at this
      rw [h0]
      exact this
    · have := (str_of_cells (W := W) (b := g) (off := 0) (cap := cap) (zs := bytesOf p') (bytesOf_length p') (World.block_lt_of_cell? W _ (hc 0 (by omega))) (fun i hi => by rw [Nat.zero_add]; exact hc i hi)).here
      rw [strOf_bytesOf] at this
      exact this
theorem OpenRes.none {kk : List Nat} {sa : ByteArray} {v : Value} {er : Int} {W : World} (h : OpenRes [] kk sa v er W) : er = 70 := by
  rcases h with ⟨rfl, _⟩ | ⟨rfl, p', g, cap, hm, _⟩
  · rfl
  · cases hm

theorem toList_beq (a b : ByteArray) : (a.toList == b.toList) = decide (a = b) := by
  rw [ByteArray.toList_eq, ByteArray.toList_eq]
  by_cases h : a = b
  · subst h; simp
  · rw [decide_eq_false h]
    refine beq_eq_false_iff_ne.2 (fun e => h ?_)
    cases a; cases b
    simpa using e
theorem openRes_two {k : List Nat} {sa p s s' : ByteArray} {c : List Value} {L : ByteArray → List (List Value)} {v : Value} {er : Int} {W : World} (hk : IsKey32 k) (hc : askedL k sa p = c) (hL : L s = [c] ∧ ∀ s', s' ≠ s → L s' = []) (h : OpenRes (L s') k sa v er W) :
    (er == 0) = (s'.toList == s.toList) := by
  rw [toList_beq]
  by_cases e : s' = s
  · subst e
    rw [hL.1, ← hc] at h
    rcases h.one hk hk with ⟨_, h2, _⟩ | ⟨h1, _⟩
    · rw [h2]; simp
    · exact absurd rfl h1
  · rw [hL.2 _ e] at h
    rw [h.none]
    simp [e]

theorem held_fresh {w w3 w4 : World} {k k2 : List Nat} {t Q : Nat} {zs : List Nat} (hF : FreshAt w4 w3.heap.size (w3.heap.size + 7) (some ⟨t, 0, none⟩)) (hs : w4.heap.size = w3.heap.size + 8) (hT : TapeAt w3 t Q zs ∧ Row w3 Q 5 (u8s zs)) (hb : Below w3.heap.size w3 w4)
    (hR : Row w4 w.heap.size 24 (u8s k) ∧ Row w4 (w.heap.size + 1) 24 (u8s k2)) (hB : Below w.heap.size w w4) (hQ : w.heap.size + 1 < Q) (ht : Q < t) (hl : zs.length ≤ 70000) :
    HeldI w k k2 (w3.heap.size + 7) (w3.heap.size + 6) t Q (w3.heap.size + 4) (w3.heap.size + 5) zs (fun _ => none) (fun _ => []) 0 [] w4 := by
  have htl := hT.1.lt
  refine ⟨_, _, _, FreshAt.ideal hF rfl (by omega) (hT.1.later hb) (hT.2.later hb) hl, fun b hm => ?_, fun x hx => (by cases hx), hR.1, hR.2, hB⟩
  simp only [List.mem_cons, List.not_mem_nil, or_false] at hm
  omega

section
variable {w W : World} {k k2 : List Nat} {S D t Q m3 m4 : Nat} {zs : List Nat} {T : List Value → Option (List Nat)} {L : ByteArray → List (List Value)} {K : Nat} {vs : List (Value × List Nat)}

theorem HeldI.first (h : HeldI w k k2 S D t Q m3 m4 zs (fun _ => none) (fun _ => []) 0 [] W) {kk : List Nat} (hk : IsKey32 kk) {pa : Option Addr} {la ca : Nat} {za : List Nat} {pp : Option Addr} {lp cp : Nat} {zp : List Nat} (hla : la ≤ 60000) (hlp : lp ≤ 60000)
    (hIa : IsBytes w.heap.size w pa la ca za) (hIp : IsBytes w.heap.size w pp lp cp zp) {n : Nat} (hsz : sizeN (lp : Int) = n) (hn : n ≤ zs.length) {c : List Value} (hc : askedL kk (strOf za) (strOf zp) = c) :
    Calls Tryd.prog 11 #[.pointer (some ⟨S, 0, none⟩), .agg (u8s kk).toArray, .slice pa la ca, .slice pp lp cp] W fun e w' => ∃ v T', e = .returned (.tuple #[v, .int .i64 0]) ∧ T' c = some (zs.take n) ∧ HeldI w k k2 S D t Q m3 m4 (zs.drop n) T' (putL (fun _ => []) (strOf (zs.take n)) [c]) 1 [(v, zs.take n)] w' := by
  refine (h.seal hk hla hlp (by omega) hIa hIp).mono ?_
  rw [hsz, hc]
  rintro e w' ⟨v, L', rfl, hL, hh⟩
  have e1 : sealE (fun _ => none) zs c n = 0 := by simp [sealE, hn]
  have e2 : sealC (fun _ => none) zs c n = zs.take n := by simp [sealC, hn]
  have e3 : sealZ (fun _ => none) zs c n = zs.drop n := by simp [sealZ, hn]
  have e4 : sealT (fun _ => none) zs c n c = some (zs.take n) := by simp [sealT, hn]
  rw [e1, e2] at hL
  rw [e2, e3] at hh
  rw [e1]
  rcases hL with ⟨_, ys, hl, rfl⟩ | ⟨h, _⟩
  · obtain rfl := hl.first
    exact ⟨v, _, rfl, e4, hh⟩
  · exact absurd rfl h

theorem HeldI.again (h : HeldI w k k2 S D t Q m3 m4 zs T L K vs W) {kk : List Nat} (hk : IsKey32 kk) {pa : Option Addr} {la ca : Nat} {za : List Nat} {pp : Option Addr} {lp cp : Nat} {zp : List Nat} (hla : la ≤ 60000) (hlp : lp ≤ 60000) (hK : K ≤ 1000)
    (hIa : IsBytes w.heap.size w pa la ca za) (hIp : IsBytes w.heap.size w pp lp cp zp) {c : List Value} (hc : askedL kk (strOf za) (strOf zp) = c) {ct : List Nat} (hT : T c = some ct) (hL : L (strOf ct) = [c]) :
    Calls Tryd.prog 11 #[.pointer (some ⟨S, 0, none⟩), .agg (u8s kk).toArray, .slice pa la ca, .slice pp lp cp] W fun e w' => ∃ v, e = .returned (.tuple #[v, .int .i64 0]) ∧ HeldI w k k2 S D t Q m3 m4 zs T (putL L (strOf ct) [c]) (K + 1) ((v, ct) :: vs) w' := by
  refine (h.seal hk hla hlp hK hIa hIp).mono ?_
  rw [hc]
  rintro e w' ⟨v, L', rfl, hL', hh⟩
  have e1 : sealE T zs c (sizeN (lp : Int)) = 0 := by simp [sealE, hT]
  have e2 : sealC T zs c (sizeN (lp : Int)) = ct := by simp [sealC, hT]
  have e3 : sealZ T zs c (sizeN (lp : Int)) = zs := by simp [sealZ, hT]
  have e4 : sealT T zs c (sizeN (lp : Int)) = T := by simp [sealT, hT]
  rw [e1, e2] at hL'
  rw [e2, e3, e4] at hh
  rw [e1]
  rcases hL' with ⟨_, ys, hl, rfl⟩ | ⟨h, _⟩
  · rw [hL] at hl
    obtain rfl := hl.again
    exact ⟨v, rfl, hh⟩
  · exact absurd rfl h
end

set_option maxRecDepth 100000 in
set_option maxHeartbeats 2000000 in
theorem suiteIdeal_some (x : Nat) (k : List Nat) (a2 : Option Addr) (len2 cap2 : Nat) (z2 : List Nat) (a3 : Option Addr) (len3 cap3 : Nat) (z3 : List Nat) (k2 : List Nat) (a5 : Option Addr) (len5 cap5 : Nat) (z5 : List Nat) (w : World)
    (hk : IsKey32 k) (hI2 : IsBytes w.heap.size w a2 len2 cap2 z2) (hI3 : IsBytes w.heap.size w a3 len3 cap3 z3) (hk2 : IsKey32 k2) (hI5 : IsBytes w.heap.size w a5 len5 cap5 z5) (h2 : len2 ≤ 100) (h3 : len3 ≤ 300) (h5 : len5 ≤ 600) :
    Calls Tryd.prog 3 #[.int .u32 (x : Nat), .agg (u8s k).toArray, .slice a2 len2 cap2, .slice a3 len3 cap3, .agg (u8s k2).toArray, .slice a5 len5 cap5] w fun e w' => e = .returned (.bool true) ∧ Below w.heap.size w w' := by
  have i2 : ¬ (100 : Int) < (len2 : Int) := by omega
  have i3 : ¬ (300 : Int) < (len3 : Int) := by omega
  have i5 : ¬ (600 : Int) < (len5 : Int) := by omega
  obtain ⟨wb, hwb⟩ : ∃ wb, (w.alloc (.cells (u8s k).toArray 24)).alloc (.cells (u8s k2).toArray 24) = wb := ⟨_, rfl⟩
  have HWB : Hid ((w.alloc (.cells (u8s k).toArray 24)).alloc (.cells (u8s k2).toArray 24) = wb) := hwb
  have hbb : Below w.heap.size w wb := by rw [← hwb]; exact ((Below.refl _ w).alloc (Nat.le_refl _) _).alloc (by simp) _
  have HRB : Hid (Row wb w.heap.size 24 (u8s k) ∧ Row wb (w.heap.size + 1) 24 (u8s k2)) := by rw [← hwb]; exact ⟨(Row.new' w 24 (u8s k)).alloc _, Row.newAt (w.alloc (.cells (u8s k).toArray 24)) 24 (u8s k2).toArray (by simp)⟩
  have c2 := hI2.2.1
  have c2' := hI2.2.2.1
  have c3 := hI3.2.1
  have c3' := hI3.2.2.1
  have c5 := hI5.2.1
  have c5' := hI5.2.2.1
  have HKl : Hid ((u8s k).length = 32) := by show _ = _; rw [u8s_length, hk.1]
  have HKl2 : Hid ((u8s k2).length = 32) := by show _ = _; rw [u8s_length, hk2.1]
  have HI2 : Hid (IsBytes w.heap.size w a2 len2 cap2 z2) := hI2
  have HI3 : Hid (IsBytes w.heap.size w a3 len3 cap3 z3) := hI3
  have HI5 : Hid (IsBytes w.heap.size w a5 len5 cap5 z5) := hI5
  obtain ⟨c, hc⟩ : ∃ c, askedL k (strOf z2) (strOf z3) = c := ⟨_, rfl⟩
  have HC : Hid (askedL k (strOf z2) (strOf z3) = c) := hc
  have HT0 : Hid (∀ W, Calls Tryd.prog 10 #[.int .u32 (x : Nat), .int .i64 400] W fun e w' => ∃ q c zs, e = .returned (.slice q 1600 c) ∧ zs.length = 1600 ∧ IsBytes w'.heap.size w' q 1600 c zs ∧ Below W.heap.size W w') := fun W => lawTape_any x 400 (by omega) W
  have HN : Hid (∀ t W, Calls Tryd.prog 8 #[.int .i64 1, .pointer t] W fun e w' => e = .returned (.pointer (some ⟨W.heap.size + 7, 0, none⟩)) ∧ FreshAt w' W.heap.size (W.heap.size + 7) t ∧ Below W.heap.size W w' ∧ w'.heap.size = W.heap.size + 8) := newIdeal_any
  obtain ⟨n, hn⟩ : ∃ n, sizeN (len3 : Int) = n := ⟨_, rfl⟩
  have HSZ : Hid (sizeN (len3 : Int) = n) := hn
  have HNL : Hid (n ≤ 1600) := by show n ≤ 1600; rw [← hn]; exact sizeN_small h3
  clear hwb hI2 hI3 hI5 hc hn
  go_enter Tryd.func3, Tryd.ntmps3
  go_wp2_with (first
    | (go_at_call 7; rw [HWB.out]; refine (awake_any _).mono ?_; rintro e w1 ⟨rfl, hb1⟩; have hB1 : Below w.heap.size w w1 := hbb.trans (hb1.mono hbb.size); have HR1 : Hid (Row w1 w.heap.size 24 (u8s k) ∧ Row w1 (w.heap.size + 1) 24 (u8s k2)) := ⟨HRB.out.1.later hb1, HRB.out.2.later hb1⟩; clear hb1)
    | (go_at_call 10; refine (HT0.out _).mono ?_; rintro e w2 ⟨qt, ct0, zs, rfl, hzl, hIt, hb2⟩; have HIt : Hid (IsBytes w2.heap.size w2 qt 1600 ct0 zs) := hIt; have hB2 : Below w.heap.size w w2 := hB1.trans (hb2.mono hB1.size); have HR2 : Hid (Row w2 w.heap.size 24 (u8s k) ∧ Row w2 (w.heap.size + 1) 24 (u8s k2)) := ⟨HR1.out.1.later hb2, HR1.out.2.later hb2⟩; clear hIt hb2)
    | (go_at_call 9; refine (new_any qt 1600 ct0 zs (by omega) w2 HIt.out).mono ?_; rintro e w3 ⟨t, rfl, ht, hT3, hb3⟩; have HT3 : Hid (TapeAt w3 t w2.heap.size zs ∧ Row w3 w2.heap.size 5 (u8s zs)) := hT3; clear hT3; have hB3 : Below w.heap.size w w3 := hB2.trans (hb3.mono hB2.size); have HR3 : Hid (Row w3 w.heap.size 24 (u8s k) ∧ Row w3 (w.heap.size + 1) 24 (u8s k2)) := ⟨HR2.out.1.later hb3, HR2.out.2.later hb3⟩)
    | (go_at_call 8; refine (HN.out _ _).mono ?_; rintro e w4 ⟨rfl, hF4, hb4, hs4⟩; have HF4 : Hid (FreshAt w4 w3.heap.size (w3.heap.size + 7) (some ⟨t, 0, none⟩)) := hF4; clear hF4; have HS4 : Hid (w4.heap.size = w3.heap.size + 8) := hs4; clear hs4; have hB4 : Below w.heap.size w w4 := hB3.trans (hb4.mono hB3.size); have HR4 : Hid (Row w4 w.heap.size 24 (u8s k) ∧ Row w4 (w.heap.size + 1) 24 (u8s k2)) := ⟨HR3.out.1.later hb4, HR3.out.2.later hb4⟩; have HH4 : Hid (HeldI w k k2 (w3.heap.size + 7) (w3.heap.size + 6) t w2.heap.size (w3.heap.size + 4) (w3.heap.size + 5) zs (fun _ => none) (fun _ => []) 0 [] w4) := (held_fresh HF4.out HS4.out HT3.out hb4 HR4.out hB4 (Row.lt HR2.out.2) ht (by omega)); have hzb : ∀ z ∈ zs, z < 256 := HT3.out.1.bytes; clear HF4 HS4 HT3 hb4 HR4 hB4 HR3 HR2 HR1 hB1 hB2 hB3 HIt hb3 ht)
    | ((with_reducible show wpList _ _ _ (Oper.mk (some 45) _ _ _ _ _ :: _) _ _); refine wpList_load_Row rfl 24 (.tmp 7) rfl rfl HH4.out.key1 Tryd.underlying24 (by rw [HKl.out]; exact size24) ?_; simp only [Act.put, List.setIfInBounds_toArray, List.set_cons_zero, List.set_cons_succ])
    | (go_at_call 11; have h := HH4.out; clear HH4; refine (h.first hk (by omega) (by omega) HI2.out HI3.out HSZ.out (by rw [hzl]; exact HNL.out) HC.out).mono ?_; clear h; rintro e w5 ⟨v1, T1, rfl, hT1, hh⟩; obtain ⟨q1, c1, rfl⟩ := own_len (hh.own (List.mem_cons_self ..)) (n := n) (by rw [List.length_take, hzl]; have := HNL.out; omega); have HH5 : Hid (HeldI w k k2 (w3.heap.size + 7) (w3.heap.size + 6) t w2.heap.size (w3.heap.size + 4) (w3.heap.size + 5) (zs.drop n) T1 (putL (fun _ => []) (strOf (zs.take n)) [c]) 1 [(.slice q1 n c1, zs.take n)] w5) := hh; have HT1 : Hid (T1 c = some (zs.take n)) := hT1; clear hh hT1)
    | ((with_reducible show wpList _ _ _ (Oper.mk (some 53) _ _ _ _ _ :: _) _ _); refine wpList_load_Row rfl 24 (.tmp 7) rfl rfl HH5.out.key1 Tryd.underlying24 (by rw [HKl.out]; exact size24) ?_; simp only [Act.put, List.setIfInBounds_toArray, List.set_cons_zero, List.set_cons_succ])
    | (go_at_call 11; have h := HH5.out; clear HH5; refine (h.again hk (by omega) (by omega) (by omega) HI2.out HI3.out HC.out HT1.out (by simp [putL])).mono ?_; clear h; rintro e w6 ⟨v2, rfl, hh⟩; obtain ⟨q2, c2, rfl⟩ := own_len (hh.own (List.mem_cons_self ..)) (n := n) (by rw [List.length_take, hzl]; have := HNL.out; omega); obtain ⟨s, hs⟩ : ∃ s, strOf (zs.take n) = s := ⟨_, rfl⟩; obtain ⟨L2, hL2⟩ : ∃ L2, putL (putL (fun _ => []) (strOf (zs.take n)) [c]) (strOf (zs.take n)) [c] = L2 := ⟨_, rfl⟩; have HL2 : Hid (L2 s = [c] ∧ ∀ s', s' ≠ s → L2 s' = []) := (by rw [← hL2, ← hs]; exact ⟨by simp [putL], fun s' h' => by simp [putL, h']⟩); rw [hL2] at hh; have HH6 : Hid (HeldI w k k2 (w3.heap.size + 7) (w3.heap.size + 6) t w2.heap.size (w3.heap.size + 4) (w3.heap.size + 5) (zs.drop n) T1 L2 2 [(.slice q2 n c2, zs.take n), (.slice q1 n c1, zs.take n)] w6) := hh; have HSs : Hid (strOf (zs.take n) = s) := hs; have HZb : Hid (∀ z ∈ zs.take n, z < 256) := (fun z hz => hzb z (List.mem_of_mem_take hz)); clear hh hL2 hs HT1)
    | ((with_reducible show wpList _ _ _ (Oper.mk (some 61) _ _ _ _ _ :: _) _ _); refine wpList_load_Row rfl 24 (.tmp 7) rfl rfl HH6.out.key1 Tryd.underlying24 (by rw [HKl.out]; exact size24) ?_; simp only [Act.put, List.setIfInBounds_toArray, List.set_cons_zero, List.set_cons_succ])
    | (go_at_call 12; have h := HH6.out; clear HH6; refine (h.open hk (by omega) (by have := HNL.out; omega) (by omega) HI2.out ((h.own (List.mem_cons_of_mem _ (List.mem_cons_self ..))).bytes HZb.out)).mono ?_; clear h; rintro e w7 ⟨v3, er3, rfl, hr, hh⟩; rw [HSs.out, HL2.out.1, ← HC.out] at hr; obtain ⟨rfl, hs3⟩ : er3 = 0 ∧ (convert 25 9 v3).run Tryd.prog w7 = .ok (.string (strOf z3)) w7 := (by rcases hr.one hk hk with ⟨_, h1, h2⟩ | ⟨h1, _⟩; exact ⟨h1, h2⟩; exact absurd rfl h1); have HH7 : Hid (HeldI w k k2 (w3.heap.size + 7) (w3.heap.size + 6) t w2.heap.size (w3.heap.size + 4) (w3.heap.size + 5) (zs.drop n) T1 L2 2 [(.slice q2 n c2, zs.take n), (.slice q1 n c1, zs.take n)] w7) := hh; have hs1 : (convert 25 9 (.slice q1 n c1)).run Tryd.prog w7 = .ok (.string s) w7 := (by rw [← HSs.out]; exact (own_str (hh.own (List.mem_cons_of_mem _ (List.mem_cons_self ..)))).here); have hs2 : (convert 25 9 (.slice q2 n c2)).run Tryd.prog w7 = .ok (.string s) w7 := (by rw [← HSs.out]; exact (own_str (hh.own (List.mem_cons_self ..))).here); have hs4 : (convert 25 9 (.slice a3 len3 cap3)).run Tryd.prog w7 = .ok (.string (strOf z3)) w7 := str_of_bytes HI3.out w7 hh.below; clear hr hh)
    | ((with_reducible show wpList _ _ _ (Oper.mk (some 93) _ _ _ _ _ :: _) _ _); refine wpList_load_Row rfl 24 (.tmp 10) rfl rfl HH7.out.key2 Tryd.underlying24 (by rw [HKl2.out]; exact size24) ?_; simp only [Act.put, List.setIfInBounds_toArray, List.set_cons_zero, List.set_cons_succ])
    | (go_at_call 12; have h := HH7.out; clear HH7 hs1 hs2 hs3 hs4; refine (h.open hk2 (by omega) (by have := HNL.out; omega) (by omega) HI2.out ((h.own (List.mem_cons_of_mem _ (List.mem_cons_self ..))).bytes HZb.out)).mono ?_; clear h; rintro e w8 ⟨v4, er4, rfl, hr, hh⟩; rw [HSs.out, HL2.out.1, ← HC.out] at hr; have hz1 : (er4 == 0) = decide (k2 = k) := (by rcases hr.one hk hk2 with ⟨h1, h2, _⟩ | ⟨h1, h2⟩ <;> rw [h2] <;> simp [h1]); have HH8 : Hid (HeldI w k k2 (w3.heap.size + 7) (w3.heap.size + 6) t w2.heap.size (w3.heap.size + 4) (w3.heap.size + 5) (zs.drop n) T1 L2 2 [(.slice q2 n c2, zs.take n), (.slice q1 n c1, zs.take n)] w8) := hh; clear hr hh)
    | ((with_reducible show wpList _ _ _ (Oper.mk (some 101) _ _ _ _ _ :: _) _ _); refine wpList_load_Row rfl 24 (.tmp 7) rfl rfl HH8.out.key1 Tryd.underlying24 (by rw [HKl.out]; exact size24) ?_; simp only [Act.put, List.setIfInBounds_toArray, List.set_cons_zero, List.set_cons_succ])
    | (go_at_call 12; have h := HH8.out; clear HH8; refine (h.open hk (by omega) (by omega) (by omega) HI2.out ((HI5.out.below h.below).mono h.below.size)).mono ?_; clear h; rintro e w9 ⟨v5, er5, rfl, hr, hh⟩; have hz2 : (er5 == 0) = ((strOf z5).toList == s.toList) := (openRes_two hk HC.out HL2.out hr); have HH9 : Hid (HeldI w k k2 (w3.heap.size + 7) (w3.heap.size + 6) t w2.heap.size (w3.heap.size + 4) (w3.heap.size + 5) (zs.drop n) T1 L2 2 [(.slice q2 n c2, zs.take n), (.slice q1 n c1, zs.take n)] w9) := hh; have hs1 : (convert 25 9 (.slice q1 n c1)).run Tryd.prog w9 = .ok (.string s) w9 := (by rw [← HSs.out]; exact (own_str (hh.own (List.mem_cons_of_mem _ (List.mem_cons_self ..)))).here); have hs5 : (convert 25 9 (.slice a5 len5 cap5)).run Tryd.prog w9 = .ok (.string (strOf z5)) w9 := str_of_bytes HI5.out w9 hh.below; have he24 : (Op.equalIn 10000 24 (.agg (u8s k2).toArray) (.agg (u8s k).toArray)).run Tryd.prog w9 = .ok (decide (k2 = k)) w9 := equal24 hk2 hk w9; generalize decide (k2 = k) = b1 at *; generalize strOf z5 = s5 at *; clear hr hh)
    | ((with_reducible show wpList _ _ _ (Oper.mk (some 109) _ _ _ _ _ :: _) _ _); refine wpList_load_Row rfl 24 (.tmp 10) rfl rfl HH9.out.key2 Tryd.underlying24 (by rw [HKl2.out]; exact size24) ?_; simp only [Act.put, List.setIfInBounds_toArray, List.set_cons_zero, List.set_cons_succ])
    | ((with_reducible show wpList _ _ _ (Oper.mk (some 110) _ _ _ _ _ :: _) _ _); refine wpList_load_Row rfl 24 (.tmp 7) rfl rfl HH9.out.key1 Tryd.underlying24 (by rw [HKl.out]; exact size24) ?_; simp only [Act.put, List.setIfInBounds_toArray, List.set_cons_zero, List.set_cons_succ]))
  go_ret
  exact ⟨by simp, HH9.out.below⟩

set_option maxRecDepth 100000 in
set_option maxHeartbeats 1000000 in
theorem suiteIdeal_long (x : Nat) (k : List Nat) (a2 : Option Addr) (len2 cap2 : Nat) (a3 : Option Addr) (len3 cap3 : Nat) (k2 : List Nat) (a5 : Option Addr) (len5 cap5 : Nat) (w : World) (h : 100 < len2 ∨ 300 < len3 ∨ 600 < len5) :
    Calls Tryd.prog 3 #[.int .u32 (x : Nat), .agg (u8s k).toArray, .slice a2 len2 cap2, .slice a3 len3 cap3, .agg (u8s k2).toArray, .slice a5 len5 cap5] w fun e w' => e = .returned (.bool true) ∧ Below w.heap.size w w' := by
  have hb : Below w.heap.size w ((w.alloc (.cells (u8s k).toArray 24)).alloc (.cells (u8s k2).toArray 24)) := ((Below.refl _ w).alloc (Nat.le_refl _) _).alloc (by simp) _
  have HA : Hid (Calls Tryd.prog 7 #[] ((w.alloc (.cells (u8s k).toArray 24)).alloc (.cells (u8s k2).toArray 24)) fun e w' => e = .returned (.bool true) ∧ Below w.heap.size w w') := (awake_any _).mono fun e w' ⟨h1, h2⟩ => ⟨h1, hb.trans (h2.mono hb.size)⟩
  by_cases h0 : 100 < len2
  · have i0 : (100 : Int) < (len2 : Int) := by omega
    clear h
    go_enter Tryd.func3, Tryd.ntmps3
    go_wp2_with (go_at_call 7; refine HA.out.mono ?_; rintro e w1 ⟨rfl, hb1⟩)
    go_ret
    exact ⟨rfl, hb1⟩
  · have i0 : ¬ (100 : Int) < (len2 : Int) := by omega
    by_cases h2 : 300 < len3
    · have i2 : (300 : Int) < (len3 : Int) := by omega
      clear h
      go_enter Tryd.func3, Tryd.ntmps3
      go_wp2_with (go_at_call 7; refine HA.out.mono ?_; rintro e w1 ⟨rfl, hb1⟩)
      go_ret
      exact ⟨rfl, hb1⟩
    · have i2 : ¬ (300 : Int) < (len3 : Int) := by omega
      have i3 : (600 : Int) < (len5 : Int) := by omega
      clear h
      go_enter Tryd.func3, Tryd.ntmps3
      go_wp2_with (go_at_call 7; refine HA.out.mono ?_; rintro e w1 ⟨rfl, hb1⟩)
      go_ret
      exact ⟨rfl, hb1⟩

theorem suiteIdeal_walk (x : Nat) (k : List Nat) (a2 : Option Addr) (len2 cap2 : Nat) (z2 : List Nat) (a3 : Option Addr) (len3 cap3 : Nat) (z3 : List Nat) (k2 : List Nat) (a5 : Option Addr) (len5 cap5 : Nat) (z5 : List Nat) (w : World)
    (_hx : x < 4294967296) (hk : IsKey32 k) (hI2 : IsBytes w.heap.size w a2 len2 cap2 z2) (hI3 : IsBytes w.heap.size w a3 len3 cap3 z3) (hk2 : IsKey32 k2) (hI5 : IsBytes w.heap.size w a5 len5 cap5 z5) :
    Calls Tryd.prog 3 #[.int .u32 (x : Nat), .agg (u8s k).toArray, .slice a2 len2 cap2, .slice a3 len3 cap3, .agg (u8s k2).toArray, .slice a5 len5 cap5] w fun e w' => e = .returned (.bool true) ∧ Below w.heap.size w w' := by
  by_cases h : 100 < len2 ∨ 300 < len3 ∨ 600 < len5
  · exact suiteIdeal_long x k a2 len2 cap2 a3 len3 cap3 k2 a5 len5 cap5 w h
  · exact suiteIdeal_some x k a2 len2 cap2 z2 a3 len3 cap3 z3 k2 a5 len5 cap5 z5 w hk hI2 hI3 hk2 hI5 (by omega) (by omega) (by omega)

end Go.Proofs.YtobmcaknfbooiaaDoor
