/-
  Lists of texts: what the reference's Chunks answers (the pieces of a text, in memory of their own), and that the reference's SameTexts answers true of two lists of the same texts. Nothing that lay before a call has turned.
-/
import Derived.Test.YthhjjijnjfbibaaTold
import Derived.Deep.AppendLies
namespace Go.Proofs.Ythhjjijnjfbibaa
open Go.RowKit

/-- The slice v of slices owns a row of slices whose texts are these. -/
def IsTexts (n₀ : Nat) (W : World) (v : Value) (ts : List (List Nat)) : Prop :=
  ∃ vs : List Value, W.ownsRow n₀ 22 1 v ts.length vs ∧ ∀ i, i < ts.length → Str W (vs.getD i undef) (strOf (ts.getD i []))

theorem ownsRow_later {A B : World} (hb : Below A.heap.size A B) {base : Nat} {e : TypeId} {size : Nat} {v : Value} {n : Nat} {xs : List Value} (h : A.ownsRow base e size v n xs) : B.ownsRow base e size v n xs := by
  refine ⟨h.1, ?_⟩
  rcases h.2 with hn | ⟨g, cap, cur, rfl, hg, hgg, rest⟩
  · exact .inl hn
  · exact .inr ⟨g, cap, cur, rfl, hg, (hb.block g (Array.getElem?_eq_some_iff.1 hgg).1).trans hgg, rest⟩

theorem IsTexts.later {A B : World} (hb : Below A.heap.size A B) {n₀ : Nat} {v : Value} {ts : List (List Nat)} (h : IsTexts n₀ A v ts) : IsTexts n₀ B v ts := by
  obtain ⟨vs, hrow, hs⟩ := h
  exact ⟨vs, ownsRow_later hb hrow, fun i hi => (hs i hi).later hb⟩

theorem ownsRow_zero {W : World} {base : Nat} {e : TypeId} {size : Nat} {v : Value} {n : Nat} {xs : List Value} (h : W.ownsRow base e size v n xs) : W.ownsRow 0 e size v n xs := by
  refine ⟨h.1, ?_⟩
  rcases h.2 with hn | ⟨g, cap, cur, rfl, _, rest⟩
  · exact .inl hn
  · exact .inr ⟨g, cap, cur, rfl, Nat.zero_le _, rest⟩

/-- The pieces of a text. -/
def piecesL (zs : List Nat) (m k : Nat) : List (List Nat) := (List.range k).map (pieceL zs m)

theorem texts_of_told {W : World} {n₀ : Nat} {v : Value} {zs : List Nat} {m k : Nat} {xs : List (Nat × Nat)} (hrow : W.ownsRow n₀ 22 1 v xs.length (xs.map (chVal zs m))) (hok : ∀ x ∈ xs, ChOk zs m x W) (hx : xs.map (·.2) = List.range k) : IsTexts n₀ W v (piecesL zs m k) := by
  have hl : xs.length = k := by have := congrArg List.length hx; simpa using this
  refine ⟨xs.map (chVal zs m), by rw [show (piecesL zs m k).length = xs.length by simp [piecesL, hl]]; exact hrow, fun i hi => ?_⟩
  have hik : i < k := by simpa [piecesL] using hi
  have hix : i < xs.length := by omega
  have e1 : (xs.map (chVal zs m)).getD i undef = chVal zs m xs[i] := by simp [List.getElem?_eq_getElem hix]
  have e2 : (piecesL zs m k).getD i [] = pieceL zs m i := by simp [piecesL, hik]
  have e3 : xs[i].2 = i := by
    have h := congrArg (fun l : List Nat => l[i]?) hx
    simp [List.getElem?_eq_getElem hix, hik] at h
    exact h
  have hT := (hok xs[i] (List.getElem_mem hix)).2
  rw [e3] at hT
  rw [e1, e2]
  unfold chVal
  rw [e3]
  exact str_of_cells rfl hT.lt (fun j hj => by rw [Nat.zero_add]; exact hT.cell j hj)

theorem told_texts (p : Option Addr) (len cap : Nat) (zs : List Nat) (hlen : len ≤ 60000) (z most : Int) (hz2 : z ≤ 9223372036854775807) (hm0 : 0 ≤ most) (w : World) (hI : IsBytes w.heap.size w p len cap zs) :
    Calls Try.prog 18 #[.slice p len cap, .int .i64 z, .int .i64 most] w fun e w' => ∃ q c, e = .returned (.slice q (min most.toNat (chCount len z.toNat)) c) ∧ IsTexts w.heap.size w' (.slice q (min most.toNat (chCount len z.toNat)) c) (piecesL zs z.toNat (min most.toNat (chCount len z.toNat))) ∧ Below w.heap.size w w' := by
  refine (told_any p len cap zs hlen z most hz2 hm0 w hI).mono ?_
  rintro e w' ⟨v, xs, rfl, hrow, hok, hx, hb⟩
  have hl : xs.length = min most.toNat (chCount len z.toNat) := by have := congrArg List.length hx; simpa using this
  have ht := texts_of_told hrow hok hx
  obtain ⟨q, c, rfl⟩ := slice_of_row hrow
  rw [hl] at ht ⊢
  exact ⟨q, c, rfl, ht, hb⟩

/-- These slices are texts of bytes. -/
def TextsAt (W : World) (vs : List Value) (ts : List (List Nat)) : Prop :=
  vs.length = ts.length ∧ ∀ i, i < ts.length → W.ownsRow 0 5 1 (vs.getD i undef) (ts.getD i []).length (cellsOf (ts.getD i []))

theorem text_keep {W W' : World} (hk : ∀ (k : Nat) (c : Array Value) (fr : Nat × Nat), W.heap[k]? = some (Obj.cells c 5 fr) → W'.heap[k]? = some (Obj.cells c 5 fr)) {v : Value} {n : Nat} {xs : List Value} (h : W.ownsRow 0 5 1 v n xs) : W'.ownsRow 0 5 1 v n xs := by
  refine ⟨h.1, ?_⟩
  rcases h.2 with hn | ⟨g, cap, cur, rfl, hg, hgg, rest⟩
  · exact .inl hn
  · exact .inr ⟨g, cap, cur, rfl, hg, hk _ _ _ hgg, rest⟩

theorem TextsAt.keep {W W' : World} (hk : KpT 0 W W') {vs : List Value} {ts : List (List Nat)} (h : TextsAt W vs ts) : TextsAt W' vs ts :=
  ⟨h.1, fun i hi => text_keep (fun k c fr h' => hk.1 k c 5 fr h' (.inr (.inr rfl))) (h.2 i hi)⟩

theorem TextsAt.snoc {W : World} {vs : List Value} {ts : List (List Nat)} (h : TextsAt W vs ts) {u : Value} {t : List Nat} (hu : W.ownsRow 0 5 1 u t.length (cellsOf t)) : TextsAt W (vs ++ [u]) (ts ++ [t]) := by
  refine ⟨by simp [h.1], fun i hi => ?_⟩
  by_cases hlt : i < ts.length
  · have e1 : (vs ++ [u]).getD i undef = vs.getD i undef := by simp [List.getElem?_append_left (show i < vs.length by have := h.1; omega)]
    have e2 : (ts ++ [t]).getD i [] = ts.getD i [] := by simp [List.getElem?_append_left hlt]
    rw [e1, e2]
    exact h.2 i hlt
  · have hi2 : i = ts.length := by simp at hi; omega
    subst hi2
    have e1 : (vs ++ [u]).getD ts.length undef = u := by rw [← h.1]; simp
    have e2 : (ts ++ [t]).getD ts.length [] = t := by simp
    rw [e1, e2]
    exact hu

theorem TextsAt.texts {W : World} {n₀ : Nat} {v : Value} {vs : List Value} {ts : List (List Nat)} (h : TextsAt W vs ts) (hrow : W.ownsRow n₀ 22 1 v ts.length vs) : IsTexts n₀ W v ts :=
  ⟨vs, hrow, fun i hi => str_of_row rfl (h.2 i hi)⟩

theorem piecesL_succ (zs : List Nat) (m k : Nat) : piecesL zs m k ++ [pieceL zs m k] = piecesL zs m (k + 1) := by simp [piecesL, List.range_succ]

theorem piece_cells {zs : List Nat} {len m j b off : Nat} (hl : zs.length = len) {W : World} (h : ∀ i, i < len → W.cell? ⟨b, off + i, none⟩ = some (.int .u8 (zs.getD i 0 : Nat))) (o : Nat) (ho : o = off + m * j) :
    ∀ i v, (cellsOf (pieceL zs m j))[i]? = some v → W.cell? ((⟨b, o, none⟩ : Addr).add i) = some v := by
  intro i v hi
  have hadd : (⟨b, o, none⟩ : Addr).add i = ⟨b, o + i, none⟩ := by unfold Addr.add; split <;> simp_all
  have hil : i < (pieceL zs m j).length := by
    rcases Nat.lt_or_ge i (pieceL zs m j).length with h | h
    · exact h
    · simp [cellsOf, List.getElem?_eq_none h] at hi
  have hm : i < m := by rw [pieceL_length] at hil; omega
  have hz : m * j + i < len := by rw [pieceL_length] at hil; omega
  rw [hadd, ho, Nat.add_assoc, h _ hz]
  simp [cellsOf, pieceL, hm, List.getElem?_eq_getElem (show m * j + i < zs.length by omega)] at hi
  simp [List.getElem?_eq_getElem (show m * j + i < zs.length by omega), hi]

theorem cellsOf_one (zs : List Nat) : ∀ u ∈ cellsOf zs, u.oneCell' = true := by simp [cellsOf, Value.oneCell']

set_option maxRecDepth 100000 in
set_option maxHeartbeats 2000000 in
theorem refChunks_some (b off len cap : Nat) (zs : List Nat) (hl : zs.length = len) (m : Nat) (hm1 : 1 ≤ m) (hm2 : (m : Int) ≤ 9223372036854775807) (w : World) (hlen : len ≤ 60000) (hlc : len ≤ cap) (hcap : cap ≤ 9223372036854775807) (hbb : b < w.heap.size)
    (hA : ∀ i, i < len → w.cell? ⟨b, off + i, none⟩ = some (.int .u8 (zs.getD i 0 : Nat))) :
    Calls Try.prog 17 #[.slice (some ⟨b, off, none⟩) len cap, .int .i64 m] w fun e w' => ∃ q c, e = .returned (.slice q (chCount len m) c) ∧ IsTexts w.heap.size w' (.slice q (chCount len m) c) (piecesL zs m (chCount len m)) ∧ Below w.heap.size w w' := by
  obtain ⟨i5, hi5, hz50, hz51, hz52⟩ := info_parts info5
  obtain ⟨i22, hi22, hz220, hz221, hz222⟩ := info_parts info22
  have hm1' : (1 : Int) ≤ (m : Int) := by omega
  have HL : Hid (zs.length = len) := hl
  have HA : Hid (∀ i, i < len → w.cell? ⟨b, off + i, none⟩ = some (.int .u8 (zs.getD i 0 : Nat))) := hA
  clear hl hA
  go_enter Try.func17, Try.ntmps17
  go_wp2
  go_loopw [0, 5] (fun s v wr => ∃ (k o L C : Nat) (q : Option Addr) (vs : List Value), s = .slice q L C ∧ (0 < L → q = some ⟨b, off + o, none⟩) ∧ o = min (m * k) len ∧ L + o = len ∧ C + o = cap ∧ (k = 0 ∨ m * (k - 1) < len) ∧ wr.ownsRow w.heap.size 22 1 v k vs ∧ TextsAt wr vs (piecesL zs m k) ∧ Below w.heap.size w wr)
    (fun s _ _ => sliceLen s)
  case atStart => exact ⟨0, 0, len, cap, _, [], rfl, fun _ => rfl, by simp, rfl, rfl, .inl rfl, World.ownsRow_nil _ _ _ _, ⟨rfl, by simp [piecesL]⟩, Below.refl _ _⟩
  case round =>
    obtain ⟨k, o, L, C, q, vs, rfl, hq, ho, hL, hC, hk, hown, hte, hbel⟩ := hrel
    by_cases hLz : 0 < L
    · obtain rfl := hq hLz
      have hok : m * k < len := by omega
      have HO : Hid (o = m * k ∧ L + o = len ∧ C + o = cap ∧ m * k < len) := ⟨by omega, hL, hC, hok⟩
      have hLC : L ≤ C := by omega
      have hCc : C ≤ 9223372036854775807 := by omega
      have hLi : (0 : Int) < (L : Int) := by omega
      have hLl : L ≤ 60000 := by omega
      have hkl : k < 60000 := by have := Nat.le_mul_of_pos_left k (show 0 < m by omega); omega
      have hsz := hbel.size
      have HCe : Hid (∀ i v, (cellsOf (pieceL zs m k))[i]? = some v → wr.cell? ((⟨b, off + o, none⟩ : Addr).add i) = some v) :=
        piece_cells HL.out (fun i hi => (hbel.cell (p := ⟨b, off + i, none⟩) hbb).trans (HA.out i hi)) (off + o) (by omega)
      obtain ⟨SS, hSS⟩ : ∃ SS, SS = (pieceL zs m k).length := ⟨_, rfl⟩
      have HSl : Hid ((cellsOf (pieceL zs m k)).length = SS * 1) := by show _ = _; rw [hSS]; simp [cellsOf]
      have hSe : SS = min m L := by rw [hSS, pieceL_length, HL.out]; omega
      have HSS : Hid (SS = (pieceL zs m k).length) := hSS
      have HOw : Hid (wr.ownsRow w.heap.size 22 1 u5 k vs) := hown
      have HTe : Hid (TextsAt wr vs (piecesL zs m k)) := hte
      clear hq ho hL hC hk hok hown hte hSS
      by_cases hmL : m ≤ L
      · have hmLi : ¬ (L : Int) < (m : Int) := by omega
        have hmLj : (m : Int) ≤ (L : Int) := by omega
        obtain rfl : SS = m := by omega
        clear hSe
        go_wp2_with (first
          | (at_builtin; refine wpList_append_lies _ rfl _ _ 22 rfl w.heap.size 5 i5 (.int .u8 0) 1 1 Try.underlying22 hi5 hz50 hz51 hz52 rfl (by decide) (.slice none 0 0) 0 [] rfl (World.ownsRow_nil _ _ _ _) ⟨b, off + o, none⟩ SS C (cellsOf (pieceL zs SS k)) rfl HSl.out HCe.out (cellsOf_one _) (by omega) (by simp only [maxLen]; omega) (by omega) hsz wr.heap.size rfl ?_; intro g1 c1 w1 hown1 hgrow1 hat1 hlt1; have hb1 : Below wr.heap.size wr w1 := (Below.refl _ wr).grown hgrow1 (Nat.le_refl _) (fun k e => by cases e); rw [Nat.zero_add] at hown1)
          | (at_builtin; refine wpList_append_lies _ rfl _ _ 35 rfl w.heap.size 22 i22 (.slice none 0 0) 1 24 Try.underlying35 hi22 hz220 hz221 hz222 rfl (by decide) u5 k vs rfl ((ownsRow_later hb1 HOw.out).alloc _) ⟨w1.heap.size, 0, none⟩ 1 1 [.slice (some ⟨g1, 0, none⟩) SS c1] rfl rfl (cell_one_new _ _ _) (by simp [Value.oneCell']) (by omega) (by simp only [maxLen]; omega) (by omega) (by have := hb1.size; simp; omega) (w1.heap.size + 1) (by simp) ?_; intro g2 c2 w2 hown2 hgrow2 hat2 hlt2))
        go_roundw
        case rel =>
          have h1 := HO.out
          have h3 := HSS.out
          have hm3 : SS * (k + 1) = SS * k + SS := Nat.mul_succ SS k
          have hb12 : KpT 0 wr w2 := ((kpT_grown hgrow1 (fun k e => by cases e)).trans (kpT_alloc w1 _)).trans (kpT_grown hgrow2 (fun j e => by obtain ⟨c', fr', h'⟩ := row_tag ((ownsRow_later hb1 HOw.out).alloc _) j e; exact ⟨_, _, _, h', by decide, by decide, by decide⟩))
          have hu1 : w1.ownsRow 0 5 1 (.slice (some ⟨g1, 0, none⟩) SS c1) SS (cellsOf (pieceL zs SS k)) := ownsRow_zero (by simpa using hown1)
          have hkp2 : KpT 0 w1 w2 := (kpT_alloc w1 _).trans (kpT_grown hgrow2 (fun j e => by obtain ⟨c', fr', h'⟩ := row_tag ((ownsRow_later hb1 HOw.out).alloc _) j e; exact ⟨_, _, _, h', by decide, by decide, by decide⟩))
          have hu2 : w2.ownsRow 0 5 1 (.slice (some ⟨g1, 0, none⟩) SS c1) (pieceL zs SS k).length (cellsOf (pieceL zs SS k)) := by
            rw [← h3]
            exact text_keep (fun q c fr h' => hkp2.1 q c 5 fr h' (.inr (.inr rfl))) hu1
          have ht2 : TextsAt w2 (vs ++ [.slice (some ⟨g1, 0, none⟩) SS c1]) (piecesL zs SS (k + 1)) := by
            rw [← piecesL_succ]
            exact (HTe.out.keep hb12).snoc hu2
          have hbe2 : Below w.heap.size w w2 := ((hbel.trans (hb1.mono hsz)).alloc (by have := hb1.size; omega) _).grown hgrow2 (by have := hb1.size; simp; omega) (fun j e => ((ownsRow_later hb1 HOw.out).lt j e).1)
          exact ⟨k + 1, o + SS, L - SS, C - SS, _, _, rfl, fun hh => by rw [if_neg (by omega), Nat.add_assoc], by omega, by omega, by omega, .inr (by simp; omega), hown2, ht2, hbe2⟩
        case measure => simp only [sliceLen]; omega
      · have hmLi : (L : Int) < (m : Int) := by omega
        obtain rfl : SS = L := by omega
        clear hSe
        go_wp2_with (first
          | (at_builtin; refine wpList_append_lies _ rfl _ _ 22 rfl w.heap.size 5 i5 (.int .u8 0) 1 1 Try.underlying22 hi5 hz50 hz51 hz52 rfl (by decide) (.slice none 0 0) 0 [] rfl (World.ownsRow_nil _ _ _ _) ⟨b, off + o, none⟩ SS C (cellsOf (pieceL zs m k)) rfl HSl.out HCe.out (cellsOf_one _) (by omega) (by simp only [maxLen]; omega) (by omega) hsz wr.heap.size rfl ?_; intro g1 c1 w1 hown1 hgrow1 hat1 hlt1; have hb1 : Below wr.heap.size wr w1 := (Below.refl _ wr).grown hgrow1 (Nat.le_refl _) (fun k e => by cases e); rw [Nat.zero_add] at hown1)
          | (at_builtin; refine wpList_append_lies _ rfl _ _ 35 rfl w.heap.size 22 i22 (.slice none 0 0) 1 24 Try.underlying35 hi22 hz220 hz221 hz222 rfl (by decide) u5 k vs rfl ((ownsRow_later hb1 HOw.out).alloc _) ⟨w1.heap.size, 0, none⟩ 1 1 [.slice (some ⟨g1, 0, none⟩) SS c1] rfl rfl (cell_one_new _ _ _) (by simp [Value.oneCell']) (by omega) (by simp only [maxLen]; omega) (by omega) (by have := hb1.size; simp; omega) (w1.heap.size + 1) (by simp) ?_; intro g2 c2 w2 hown2 hgrow2 hat2 hlt2))
        go_roundw
        case rel =>
          have h1 := HO.out
          have h3 := HSS.out
          have hm3 : m * (k + 1) = m * k + m := Nat.mul_succ m k
          have hb12 : KpT 0 wr w2 := ((kpT_grown hgrow1 (fun k e => by cases e)).trans (kpT_alloc w1 _)).trans (kpT_grown hgrow2 (fun j e => by obtain ⟨c', fr', h'⟩ := row_tag ((ownsRow_later hb1 HOw.out).alloc _) j e; exact ⟨_, _, _, h', by decide, by decide, by decide⟩))
          have hu1 : w1.ownsRow 0 5 1 (.slice (some ⟨g1, 0, none⟩) SS c1) SS (cellsOf (pieceL zs m k)) := ownsRow_zero (by simpa using hown1)
          have hkp2 : KpT 0 w1 w2 := (kpT_alloc w1 _).trans (kpT_grown hgrow2 (fun j e => by obtain ⟨c', fr', h'⟩ := row_tag ((ownsRow_later hb1 HOw.out).alloc _) j e; exact ⟨_, _, _, h', by decide, by decide, by decide⟩))
          have hu2 : w2.ownsRow 0 5 1 (.slice (some ⟨g1, 0, none⟩) SS c1) (pieceL zs m k).length (cellsOf (pieceL zs m k)) := by
            rw [← h3]
            exact text_keep (fun q c fr h' => hkp2.1 q c 5 fr h' (.inr (.inr rfl))) hu1
          have ht2 : TextsAt w2 (vs ++ [.slice (some ⟨g1, 0, none⟩) SS c1]) (piecesL zs m (k + 1)) := by
            rw [← piecesL_succ]
            exact (HTe.out.keep hb12).snoc hu2
          have hbe2 : Below w.heap.size w w2 := ((hbel.trans (hb1.mono hsz)).alloc (by have := hb1.size; omega) _).grown hgrow2 (by have := hb1.size; simp; omega) (fun j e => ((ownsRow_later hb1 HOw.out).lt j e).1)
          exact ⟨k + 1, len, 0, C - SS, _, _, rfl, fun hh => by omega, by omega, by omega, by omega, .inr (by simp; omega), hown2, ht2, hbe2⟩
        case measure => simp only [sliceLen]; omega
    · obtain rfl : L = 0 := by omega
      have hc : chCount len m = k := chCount_of hm1 (by omega) hk
      have HC : Hid (chCount len m = k) := hc
      have ht := hte.texts (v := u5) (n₀ := w.heap.size) (by simpa [piecesL] using hown)
      obtain ⟨q', c', rfl⟩ := slice_of_row hown
      clear hte hk ho hL hC hc
      go_wp2
      go_ret
      exact ⟨_, _, by rw [HC.out]; rfl, by rw [HC.out]; exact ht, hbel⟩

theorem row_some {W : World} {n₀ k c : Nat} {e : TypeId} {q : Option Addr} {xs : List Value} (h : W.ownsRow n₀ e 1 (.slice q k c) k xs) (hk : 0 < k) : ∃ g, q = some ⟨g, 0, none⟩ ∧ g < W.heap.size := by
  rcases h.2 with ⟨h', _⟩ | ⟨g, cap, cur, h', _, hg, _⟩
  · simp at h'; omega
  · simp only [Value.slice.injEq] at h'
    exact ⟨g, h'.1, (Array.getElem?_eq_some_iff.1 hg).1⟩

theorem row_at {W : World} {n₀ k : Nat} {e : TypeId} {v : Value} {xs : List Value} (h : W.ownsRow n₀ e 1 v k xs) {j : Nat} (hj : j < k) : xs[j]? = some (xs.getD j undef) := by
  have hl : j < xs.length := by rw [h.1]; omega
  simp [List.getElem?_eq_getElem hl]

theorem noTexts (n₀ : Nat) (W : World) (zs : List Nat) (m : Nat) : IsTexts n₀ W (.slice none 0 0) (piecesL zs m 0) := ⟨[], World.ownsRow_nil _ _ _ _, by simp [piecesL]⟩

set_option maxRecDepth 100000 in
set_option maxHeartbeats 1000000 in
theorem refChunks_none (p : Option Addr) (len cap : Nat) (z : Int) (hz : z < 1 ∨ (1 ≤ z ∧ len = 0)) (w : World) :
    Calls Try.prog 17 #[.slice p len cap, .int .i64 z] w fun e w' => e = .returned (.slice none 0 0) ∧ w' = w := by
  rcases hz with hz | ⟨hz, rfl⟩
  all_goals
    go_enter Try.func17, Try.ntmps17
    go_wp2
    go_loopw [0, 5] (fun s v wr => s = .slice p _ cap ∧ v = .slice none 0 0 ∧ wr = w) (fun _ _ _ => 0)
    case atStart => exact ⟨rfl, rfl, rfl⟩
    case round =>
      obtain ⟨rfl, rfl, rfl⟩ := hrel
      go_wp2
      go_ret
      exact ⟨rfl, rfl⟩

/-- the reference's Chunks -/
theorem refChunks_any (p : Option Addr) (len cap : Nat) (zs : List Nat) (hlen : len ≤ 60000) (z : Int) (hz2 : z ≤ 9223372036854775807) (w : World) (hI : IsBytes w.heap.size w p len cap zs) :
    Calls Try.prog 17 #[.slice p len cap, .int .i64 z] w fun e w' => ∃ q c, e = .returned (.slice q (chCount len z.toNat) c) ∧ IsTexts w.heap.size w' (.slice q (chCount len z.toNat) c) (piecesL zs z.toNat (chCount len z.toNat)) ∧ Below w.heap.size w w' := by
  by_cases hz : z < 1
  · refine (refChunks_none p len cap z (.inl hz) w).mono ?_
    rintro e w' ⟨rfl, rfl⟩
    rw [show z.toNat = 0 by omega, chCount_zero]
    exact ⟨none, 0, rfl, noTexts _ _ _ _, Below.refl _ _⟩
  · obtain ⟨m, rfl⟩ := Int.eq_ofNat_of_zero_le (show 0 ≤ z by omega)
    rw [Int.toNat_natCast]
    obtain ⟨h1, h2, h3, h4, rfl | ⟨b, off, rfl, hb, hc⟩⟩ := hI
    · refine (refChunks_none p 0 cap m (.inr ⟨by omega, rfl⟩) w).mono ?_
      rintro e w' ⟨rfl, rfl⟩
      have e0 : chCount 0 m = 0 := chCount_of (by omega) (by omega) (.inl rfl)
      rw [e0]
      exact ⟨none, 0, rfl, noTexts _ _ _ _, Below.refl _ _⟩
    · exact refChunks_some b off len cap zs h1 m (by omega) hz2 w hlen h2 h3 hb hc

set_option maxRecDepth 100000 in
set_option maxHeartbeats 2000000 in
/-- the reference's SameTexts, of the same texts -/
theorem sameTexts_any (na nb : Nat) (qa qb : Option Addr) (k ca cb : Nat) (ts : List (List Nat)) (hts : ts.length = k) (hk : k ≤ 60000) (w : World) (hA : IsTexts na w (.slice qa k ca) ts) (hB : IsTexts nb w (.slice qb k cb) ts) :
    Calls Try.prog 19 #[.slice qa k ca, .slice qb k cb] w fun e w' => e = .returned (.bool true) ∧ Below w.heap.size w w' := by
  obtain ⟨va, hra, hsa⟩ := hA
  obtain ⟨vb, hrb, hsb⟩ := hB
  rw [hts] at hra hrb hsa hsb
  have HRA : Hid (w.ownsRow na 22 1 (.slice qa k ca) k va) := hra
  have HRB : Hid (w.ownsRow nb 22 1 (.slice qb k cb) k vb) := hrb
  have HSA : Hid (∀ i, i < k → Str w (va.getD i undef) (strOf (ts.getD i []))) := hsa
  have HSB : Hid (∀ i, i < k → Str w (vb.getD i undef) (strOf (ts.getD i []))) := hsb
  clear hra hrb hsa hsb
  go_enter Try.func19, Try.ntmps19
  go_wp2
  go_loopw [13] (fun i wr => ∃ j : Nat, j ≤ k ∧ i = .int .i64 j ∧ Below w.heap.size w wr) (fun i _ => k - (intOf i).toNat)
  case atStart => exact ⟨0, Nat.zero_le _, rfl, Below.refl _ _⟩
  case round =>
    obtain ⟨j, hj, rfl, hbel⟩ := hrel
    by_cases hlt : j < k
    · obtain ⟨ga, rfl, hla⟩ := row_some HRA.out (by omega)
      obtain ⟨gb, rfl, hlb⟩ := row_some HRB.out (by omega)
      have cA := ((ownsRow_later hbel HRA.out).cellAt j (by omega)).trans (row_at HRA.out hlt)
      have cB := ((ownsRow_later hbel HRB.out).cellAt j (by omega)).trans (row_at HRB.out hlt)
      have i1 : (j : Int) < (k : Int) := by omega
      have SA : Hid (Str wr (va.getD j undef) (strOf (ts.getD j []))) := (HSA.out j hlt).later hbel
      have SB : Hid (Str wr (vb.getD j undef) (strOf (ts.getD j []))) := (HSB.out j hlt).later hbel
      have HBe : Hid (Below w.heap.size w wr) := hbel
      have hga : ga < wr.heap.size := by have := hbel.size; omega
      have hgb : gb < wr.heap.size := by have := hbel.size; omega
      generalize strOf (ts.getD j []) = st at *
      generalize va.getD j undef = xa at *
      generalize vb.getD j undef = xb at *
      clear hbel
      go_wp2
      refine wp_region_held_drew (S := fun W => Below wr.heap.size wr W) (by kernel_rfl) (Below.refl _ _).drew (fun hHeld => ?_)
      refine wpAnyH_takesAt 0 11 0 (of_decide_eq_true (by kernel_rfl)) rfl (fun _ _ _ d _ h => by cases d <;> exact h) (by kernel_rfl) (by kernel_rfl) hHeld ?_
      simp only [List.drop_zero, List.take_succ_cons, List.take_zero]
      iterate 11 (refine wpHeld_step (v := ?_) (by rfl) (fun wz hSw => ?_) ?_; rotate_left; (focus (have hca := SA.out wz hSw; have hcb := SB.out wz hSw; have hla := (hSw.cell (p := ⟨ga, j, none⟩) hga).trans cA; have hlb := (hSw.cell (p := ⟨gb, j, none⟩) hgb).trans cB; go_simp; try with_reducible rfl)); (simp only [Act.put, List.setIfInBounds_toArray, List.set_cons_zero, List.set_cons_succ]))
      refine wpHeld_nil ?_
      refine wpAnyH_done (by kernel_rfl) ?_ _
      go_wp2
      go_roundw
      case rel => exact ⟨j + 1, by omega, by go_num, HBe.out.drew⟩
      case measure => simp [intOf]; omega
    · obtain rfl : k = j := by omega
      go_wp2
      go_ret
      exact ⟨rfl, hbel⟩

end Go.Proofs.Ythhjjijnjfbibaa
