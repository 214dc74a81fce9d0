/-
  Rows.VecWordsSaid: for every slice of bytes and every slice of words, tabulariumlaw01.VecWords returns true, and both slices read behind the call as they read before.
-/
import Derived.Test.YthhjjijnjfbibaaRows
import Derived.Test.YthhjjijnjfbibaaAwake
import Derived.Test.YthhjjijnjfbibaaStr
import Derived.Test.YthhjjijnjfbibaaNum
import Derived.WalkKit
import Derived.ProofKit
import Derived.OpenShut
import Derived.ShutString
import Derived.ChangeOld
import Derived.Below
namespace Go.Proofs.Ythhjjijnjfbibaa.vecWords
open Go.ChangeShapes Go.WideShapes Go.ChangeAt Go.RowKit

theorem own : ownKnob Try.prog.godebug = none := by kernel_rfl
theorem laidOut : laidOutB Try.prog = true := by kernel_rfl

/-- The words of some bytes. -/
def wordsL (zs : List Nat) (k : Nat) : List Nat := (List.range k).map (wordAt zs)

theorem wordsL_getD (zs : List Nat) (k i : Nat) (h : i < k) : (wordsL zs k).getD i 0 = wordAt zs i := by simp [wordsL, h]

theorem words_of_row {W : World} {n₀ : Nat} {v : Value} {k : Nat} {zs : List Nat} (hz : ∀ z ∈ zs, z < 256) (h : W.ownsRow n₀ 28 1 v k (wordVals zs k)) :
    ∃ p cap, v = .slice p k cap ∧ IsWords W.heap.size W p k (wordsL zs k) := by
  have hlt : ∀ x ∈ wordsL zs k, x < 4294967296 := fun x hx => by
    obtain ⟨i, _, rfl⟩ := List.mem_map.1 hx
    exact wordAt_lt zs hz i
  rcases h.2 with ⟨rfl, rfl⟩ | ⟨g, cap, cur, rfl, hg, hgb, _⟩
  · exact ⟨none, 0, rfl, rfl, hlt, .inl rfl⟩
  · refine ⟨_, cap, rfl, by simp [wordsL], hlt, .inr ⟨g, 0, rfl, (Array.getElem?_eq_some_iff.1 hgb).1, fun i hi => ?_⟩⟩
    rw [Nat.zero_add, h.cellAt i (by omega), wordsL_getD zs k i hi]
    simp [wordVals, hi]

theorem words_w (p : Option Addr) (len cap : Nat) (zs : List Nat) (hlen : len ≤ 60000) (w : World) (hI : IsBytes w.heap.size w p len cap zs) :
    Calls Try.prog 11 #[.slice p len cap] w fun e W' => ∃ q c, e = .returned (.slice q (len / 4) c) ∧ IsWords W'.heap.size W' q (len / 4) (wordsL zs (len / 4)) ∧ Below w.heap.size w W' := by
  refine (words_any p len cap zs hlen w hI).mono ?_
  rintro e W' ⟨v, rfl, hrow, hb⟩
  obtain ⟨q, c, rfl, hw⟩ := words_of_row hI.2.2.2.1 hrow
  exact ⟨q, c, rfl, hw, hb⟩

theorem refWords_w (p : Option Addr) (len cap : Nat) (zs : List Nat) (hlen : len ≤ 60000) (w : World) (hI : IsBytes w.heap.size w p len cap zs) :
    Calls Try.prog 12 #[.slice p len cap] w fun e W' => ∃ q c, e = .returned (.slice q (len / 4) c) ∧ IsWords W'.heap.size W' q (len / 4) (wordsL zs (len / 4)) ∧ Below w.heap.size w W' := by
  refine (refWords_any p len cap zs hlen w hI).mono ?_
  rintro e W' ⟨v, rfl, hrow, hb⟩
  obtain ⟨q, c, rfl, hw⟩ := words_of_row hI.2.2.2.1 hrow
  exact ⟨q, c, rfl, hw, hb⟩

theorem isWords_later {A B : World} (hb : Below A.heap.size A B) {p : Option Addr} {len : Nat} {ls : List Nat} (h : IsWords A.heap.size A p len ls) : IsWords B.heap.size B p len ls := by
  obtain ⟨h1, h2, h0 | ⟨b, off, rfl, hlt, hc⟩⟩ := h
  · exact ⟨h1, h2, .inl h0⟩
  · exact ⟨h1, h2, .inr ⟨b, off, rfl, Nat.lt_of_lt_of_le hlt hb.size, fun i hi => (hb.cell (p := ⟨b, off + i, none⟩) hlt).trans (hc i hi)⟩⟩

/-- The bytes of some words, as a list. -/
def bytesL (ls : List Nat) (k : Nat) : List Nat := (List.range (4 * k)).map (bytesOf ls)

theorem bytes_str (p : Option Addr) (len cap : Nat) (ls : List Nat) (hlen : len ≤ 60000) (w : World) (hI : IsWords w.heap.size w p len ls) :
    Calls Try.prog 14 #[.slice p len cap] w fun e w' => ∃ v, e = .returned v ∧ Str w' v (strOf (bytesL ls len)) ∧ Below w.heap.size w w' := by
  refine (bytes_any p len cap ls hlen w hI).mono ?_
  rintro e w' ⟨v, rfl, hrow, hb⟩
  refine ⟨v, rfl, str_of_row (n₀ := w.heap.size) (k := 4 * len) (by simp [bytesL]) ?_, hb⟩
  have e : byteVals (bytesOf ls) (4 * len) = (bytesL ls len).map fun z => .int .u8 (z : Nat) := by simp [byteVals, bytesL]
  rw [← e]
  exact hrow

theorem byteAt_word (zs : List Nat) (hz : ∀ z ∈ zs, z < 256) (j r : Nat) (hr : r < 4) : byteAt (wordAt zs j) r = zs.getD (4 * j + r) 0 := by
  have h0 := getD_of_all hz (4 * j)
  have h1 := getD_of_all hz (4 * j + 1)
  have h2 := getD_of_all hz (4 * j + 2)
  have h3 := getD_of_all hz (4 * j + 3)
  unfold byteAt wordAt
  rcases r with _ | _ | _ | _ | r
  · simp only [Nat.pow_zero, Nat.div_one, Nat.add_zero]; omega
  · simp only [Nat.zero_add, Nat.pow_one]; omega
  · simp only [Nat.zero_add, Nat.reduceAdd, Nat.reducePow]; omega
  · simp only [Nat.zero_add, Nat.reduceAdd, Nat.reducePow]; omega
  · omega

/-- Bytes of Words is b without what is left over. -/
theorem there_and_back (zs : List Nat) (hz : ∀ z ∈ zs, z < 256) (k : Nat) (hk : 4 * k ≤ zs.length) : bytesL (wordsL zs k) k = zs.take (4 * k) := by
  apply List.ext_getElem
  · simp [bytesL]; omega
  · intro i h1 h2
    have hi : i < 4 * k := by simpa [bytesL] using h1
    have hj : i / 4 < k := by omega
    simp only [bytesL, List.getElem_map, List.getElem_range, List.getElem_take]
    rw [bytesOf, wordsL_getD zs k _ hj, byteAt_word zs hz _ _ (Nat.mod_lt _ (by decide)), show 4 * (i / 4) + i % 4 = i by omega]
    simp [List.getElem?_eq_getElem (show i < zs.length by omega)]

theorem isWords_of_row {w : World} {a : Option Addr} {len cap : Nat} {zs : List Int} (h : IsRow .u32 w a len cap zs) : IsWords w.heap.size w a len ((zs.take len).map Int.toNat) := by
  rcases h with ⟨rfl, rfl, rfl, rfl⟩ | ⟨x, rfl, hl, hm, hz, hcell, hwz⟩
  · exact ⟨rfl, by simp, .inl rfl⟩
  · refine ⟨by simp; omega, ?_, ?_⟩
    · intro z hz'
      obtain ⟨n, hn, rfl⟩ := List.mem_map.1 hz'
      have := bounds_u32 (hwz n (List.mem_of_mem_take hn))
      omega
    · by_cases h0 : len = 0
      · exact .inl h0
      · obtain ⟨b, off, spot⟩ := x
        have hc0 := hcell 0 (by omega)
        have hspot : spot = none := by simpa [Addr.add] using World.cell?_spot hc0
        subst hspot
        have hadd : ∀ j, (⟨b, off, none⟩ : Addr).add j = ⟨b, off + j, none⟩ := fun j => by unfold Addr.add; split <;> simp_all
        refine .inr ⟨b, off, rfl, ?_, fun i hi => ?_⟩
        · rw [hadd] at hc0
          exact World.block_lt_of_cell? w _ hc0
        · have hi' : i < zs.length := by omega
          have h1 := hcell i hi'
          rw [hadd] at h1
          rw [h1]
          have hb := bounds_u32 (hwz zs[i] (List.getElem_mem hi'))
          simp [List.getElem?_eq_getElem hi', hi]
          omega

theorem ownsRow_below {A B : World} (hb : Below A.heap.size A B) {base : Nat} {e : TypeId} {size : Nat} {v : Value} {n : Nat} {xs : List Value} (h : A.ownsRow base e size v n xs) : B.ownsRow base e size v n xs := by
  refine ⟨h.1, ?_⟩
  rcases h.2 with hn | ⟨g, cap, cur, rfl, hg, hgg, rest⟩
  · exact .inl hn
  · exact .inr ⟨g, cap, cur, rfl, hg, (hb.block g (Array.getElem?_eq_some_iff.1 hgg).1).trans hgg, rest⟩

theorem getD_lt {ls : List Nat} {n : Nat} (h : ∀ x ∈ ls, x < n) (h0 : 0 < n) (i : Nat) : ls.getD i 0 < n := by
  by_cases hi : i < ls.length
  · simp only [List.getD_eq_getElem?_getD, List.getElem?_eq_getElem hi, Option.getD_some]; exact h _ (List.getElem_mem hi)
  · simp [List.getElem?_eq_none (show ls.length ≤ i by omega)]; exact h0

set_option maxRecDepth 100000 in
set_option maxHeartbeats 2000000 in
theorem walkN (pb pl : Option Addr) (cb cl lb ll : Nat) (zb ls : List Nat) (w : World) (hlb : lb ≤ 500) (hll : ll ≤ 200) (hA : IsBytes w.heap.size w pb lb cb zb) (hB : IsWords w.heap.size w pl ll ls) :
    Calls Try.prog 4 #[.slice pb lb cb, .slice pl ll cl] w fun e w' => e = .returned (.bool true) ∧ Below w.heap.size w w' := by
  obtain ⟨i0, hi, hz0, hz1, hz2⟩ := info_parts info5
  obtain ⟨K, hK⟩ : ∃ K, K = lb / 4 := ⟨_, rfl⟩
  have hKl : 4 * K ≤ lb := by omega
  have HK : Hid (K = lb / 4) := hK
  have HA : Hid (IsBytes w.heap.size w pb lb cb zb) := hA
  have HB : Hid (IsWords w.heap.size w pl ll ls) := hB
  clear hA hB hK
  have c1 := words_w pb lb cb zb (by omega)
  have c2 := refWords_w pb lb cb zb (by omega)
  rw [← HK.out] at c1 c2
  have C1 : Hid (∀ w : World, IsBytes w.heap.size w pb lb cb zb → Calls Try.prog 11 #[.slice pb lb cb] w fun e W' => ∃ q c, e = .returned (.slice q K c) ∧ IsWords W'.heap.size W' q K (wordsL zb K) ∧ Below w.heap.size w W') := c1
  have C2 : Hid (∀ w : World, IsBytes w.heap.size w pb lb cb zb → Calls Try.prog 12 #[.slice pb lb cb] w fun e W' => ∃ q c, e = .returned (.slice q K c) ∧ IsWords W'.heap.size W' q K (wordsL zb K) ∧ Below w.heap.size w W') := c2
  clear c1 c2
  go_enter Try.func4, Try.ntmps4
  go_wp2_with (first
    | (go_at_call 7; refine (awake_any _).mono ?_; rintro e w1 ⟨rfl, hb1⟩)
    | (go_at_call 11; refine (C1.out _ (HA.out.later hb1)).mono ?_; rintro e w2 ⟨qx, cx, rfl, hx, hb2⟩)
    | (go_at_call 12; refine (C2.out _ (HA.out.later (hb1.trans (hb2.mono hb1.size)))).mono ?_; rintro e w3 ⟨qy, cy, rfl, hy, hb3⟩))
  have H03 : Hid (Below w.heap.size w w3) := hb1.trans ((hb2.trans (hb3.mono hb2.size)).mono hb1.size)
  have HX : Hid (IsWords w3.heap.size w3 qx K (wordsL zb K)) := isWords_later hb3 hx
  have HY : Hid (IsWords w3.heap.size w3 qy K (wordsL zb K)) := hy
  clear hx hy hb1 hb2 hb3 C1 C2
  go_loopw [32] (fun i wr => ∃ k : Nat, k ≤ K ∧ i = .int .i64 k ∧ Below w3.heap.size w3 wr) (fun i _ => K - (intOf i).toNat)
  case atStart => exact ⟨0, Nat.zero_le _, rfl, Below.refl _ _⟩
  case round =>
    obtain ⟨k, hk, rfl, hbel⟩ := hrel
    by_cases hlt : k < K
    · obtain ⟨_, _, h0 | ⟨bx, ox, rfl, hbx, hcx⟩⟩ := HX.out
      · omega
      obtain ⟨_, _, h0 | ⟨bq, oy, rfl, hby, hcy⟩⟩ := HY.out
      · omega
      have i1 : (k : Int) < (K : Int) := by omega
      have cX := (hbel.cell (p := ⟨bx, ox + k, none⟩) hbx).trans (hcx k hlt)
      have cY := (hbel.cell (p := ⟨bq, oy + k, none⟩) hby).trans (hcy k hlt)
      have HBe : Hid (Below w3.heap.size w3 wr) := hbel
      clear hcx hcy hbel HX HY
      generalize (wordsL zb K).getD k 0 = x at *
      go_wp2
      go_region_held3 (fun w' => w'.cell? ⟨bx, ox + k, none⟩ = some (.int .u32 x) ∧ w'.cell? ⟨bq, oy + k, none⟩ = some (.int .u32 x)) (go_keep) (fail)
      go_wp2
      go_roundw
      case rel => exact ⟨k + 1, by omega, by go_num, HBe.out.drew⟩
      case measure => simp [intOf]; omega
    · obtain rfl : K = k := by omega
      obtain ⟨w4, hw4⟩ : ∃ w4, w4 = wr := ⟨_, rfl⟩
      subst hw4
      have H04 : Hid (Below w.heap.size w w4) := H03.out.trans (hbel.mono H03.out.size)
      have HX4 : Hid (IsWords w4.heap.size w4 qx K (wordsL zb K)) := isWords_later hbel HX.out
      clear HX HY hbel
      go_wp2
      go_loopw [8, 47] (fun v i wr => ∃ j : Nat, j ≤ ll ∧ i = .int .i64 j ∧ wr.ownsRow w4.heap.size 5 1 v (4 * j) (byteVals (bytesOf ls) (4 * j)) ∧ Below w4.heap.size w4 wr)
        (fun _ i _ => ll - (intOf i).toNat)
      case atStart => exact ⟨0, Nat.zero_le _, rfl, World.ownsRow_nil _ _ _ _, Below.refl _ _⟩
      case round =>
        obtain ⟨j, hj, rfl, hown, hbel⟩ := hrel
        by_cases hjl : j < ll
        · obtain ⟨_, hls, h0 | ⟨bl, ol, rfl, hbl, hcl⟩⟩ := HB.out
          · omega
          have i1 : (j : Int) < (ll : Int) := by omega
          have h0r : Below w.heap.size w wr := H04.out.trans (hbel.mono H04.out.size)
          have cL := (h0r.cell (p := ⟨bl, ol + j, none⟩) hbl).trans (hcl j hjl)
          have hxl : ls.getD j 0 < 4294967296 := getD_lt hls (by omega) j
          have HF := byteVals_four ls j
          obtain ⟨x, hx⟩ : ∃ x, x = ls.getD j 0 := ⟨_, rfl⟩
          rw [← hx] at cL HF hxl
          have HF' : Hid (byteVals (bytesOf ls) (4 * j) ++ byteVals (byteAt x) 4 = byteVals (bytesOf ls) (4 * (j + 1))) := by
            rw [← HF]; rfl
          have HBe : Hid (Below w4.heap.size w4 wr) := hbel
          have HOw : Hid (wr.ownsRow w4.heap.size 5 1 u8 (4 * j) (byteVals (bytesOf ls) (4 * j))) := hown
          have hsz := hbel.size
          clear HF hx hcl hls h0r hbel hown HX4
          go_wp2_with (first
            | (go_at_call 13; refine (put_any x 4 (by omega) _).mono ?_; rintro e w5 ⟨v2, rfl, hr2, hb5⟩; obtain ⟨g2, c2, rfl⟩ := ownsRow_succ (k := 3) hr2)
            | (at_builtin; refine wpList_append_lies _ rfl _ _ 22 rfl w4.heap.size 5 i0 (.int .u8 0) 1 1 Try.underlying22 hi hz0 hz1 hz2 rfl (by decide) u8 (4 * j) _ rfl (ownsRow_below hb5 HOw.out) ⟨g2, 0, none⟩ 4 c2 (byteVals (byteAt x) 4) rfl rfl (hr2.cells rfl) (by simp [byteVals, Value.oneCell']) (by omega) (by simp only [maxLen]; omega) (by omega) (by have := hb5.size; omega) w5.heap.size rfl ?_; intro gg cap' w6 hown6 hgrow hat hlt6))
          go_roundw
          case rel =>
            refine ⟨j + 1, by omega, by go_num, ?_, (HBe.out.trans (hb5.mono HBe.out.size)).grown hgrow (by have := hb5.size; omega) (fun q e => (HOw.out.lt q e).1)⟩
            rw [← HF'.out]
            exact hown6
          case measure => simp [intOf]; omega
        · obtain rfl : ll = j := by omega
          obtain ⟨w5, hw5⟩ : ∃ w5, w5 = wr := ⟨_, rfl⟩
          subst hw5
          have H05 : Hid (Below w.heap.size w w5) := H04.out.trans (hbel.mono H04.out.size)
          have HX5 : Hid (IsWords w5.heap.size w5 qx K (wordsL zb K)) := isWords_later hbel HX4.out
          have eO : byteVals (bytesOf ls) (4 * ll) = (bytesL ls ll).map fun z => .int .u8 (z : Nat) := by simp [byteVals, bytesL]
          rw [eO] at hown
          have HSo : Hid (Str w5 u8 (strOf (bytesL ls ll))) := str_of_row (by simp [bytesL]) hown
          have HSb : Hid (Str w (.slice pb (4 * K) cb) (strOf (bytesL (wordsL zb K) K))) := by
            obtain ⟨h1, h2, h3, h4, h0 | ⟨b, off, rfl, hb, hc⟩⟩ := HA.out
            · have e0 : K = 0 := by omega
              rw [e0]
              exact str_none w pb cb
            · rw [there_and_back zb h4 K (by omega)]
              exact str_of_cells (by simp; omega) hb (fun i hi => by
                rw [hc i (by omega)]
                simp [hi])
          clear eO hown HX4 hbel
          generalize hso : strOf (bytesL ls ll) = so at *
          generalize hsx : strOf (bytesL (wordsL zb K) K) = sx at *
          have HSO : Hid (strOf (bytesL ls ll) = so) := hso
          have HSX : Hid (strOf (bytesL (wordsL zb K) K) = sx) := hsx
          have hcb : 4 * K ≤ cb := by have := HA.out.2.1; omega
          have hcbi : 4 * (K : Int) ≤ (cb : Int) := by omega
          have hwr4 : IntKind.i64.wrap (4 * (K : Int)) = 4 * (K : Int) := by rw [IntKind.wrap_i64]; omega
          have h0i4 : (0 : Int) ≤ 4 * (K : Int) := by omega
          have htn4 : (4 * (K : Int)).toNat = 4 * K := by omega
          clear hso hsx
          go_wp2
          refine wp_region_held_drew (S := fun W => Below w5.heap.size w5 W) (by kernel_rfl) (Below.refl _ _).drew (fun hHeld => ?_)
          refine wpAnyH_takesAt 0 1 18 (of_decide_eq_true (by kernel_rfl)) rfl (fun _ _ _ d _ h => by cases d <;> exact h) (by kernel_rfl) (by kernel_rfl) hHeld ?_
          simp only [List.drop_zero, List.take_succ_cons, List.take_zero]
          iterate 1 (refine wpHeld_step (v := ?_) (by rfl) (fun wz hSw => ?_) ?_; rotate_left; (focus ((try dsimp only at hSw); go_simp; try with_reducible rfl)); (simp only [Act.put, List.setIfInBounds_toArray, List.set_cons_zero, List.set_cons_succ]))
          refine wpHeld_nil ?_
          refine wpAnyH_takesAt 3 2 16 (of_decide_eq_true (by kernel_rfl)) rfl (fun _ _ _ d _ h => by cases d <;> exact h) (by kernel_rfl) (by kernel_rfl) hHeld ?_
          simp only [List.drop_succ_cons, List.drop_zero, List.take_succ_cons, List.take_zero]
          iterate 2 (refine wpHeld_step (v := ?_) (by rfl) (fun wz hSw => ?_) ?_; rotate_left; (focus (have hcv := HSo.out wz hSw; go_simp; try with_reducible rfl)); (simp only [Act.put, List.setIfInBounds_toArray, List.set_cons_zero, List.set_cons_succ]))
          refine wpHeld_nil ?_
          refine wpAnyH_only (i := 1) (by kernel_rfl) rfl (fun K' hK => ?_)
          rw [if_pos (by rfl)]
          go_simp
          refine (bytes_str pl ll cl ls (by omega) _ (isWords_later H05.out.drew HB.out)).mono ?_
          rintro e w6 ⟨v1, rfl, hs6, hb6⟩
          rw [HSO.out] at hs6
          have h56 : Below w5.heap.size w5 w6 := (Below.refl _ w5).drew.trans hb6
          refine hK.out _ _ h56 ?_
          clear hK K' hHeld
          refine wpAnyH_more (S' := fun W => Below w6.heap.size w6 W) (fun W h => h56.trans (h.mono h56.size)) _ _ _ _ ?_
          have hHeld := Below.refl w6.heap.size w6
          have H06 : Hid (Below w.heap.size w w6) := H05.out.trans (h56.mono H05.out.size)
          refine wpAnyH_takesAt 2 1 14 (of_decide_eq_true (by kernel_rfl)) rfl (fun _ _ _ d _ h => by cases d <;> exact h) (by kernel_rfl) (by kernel_rfl) hHeld ?_
          simp only [List.drop_succ_cons, List.drop_zero, List.take_succ_cons, List.take_zero]
          iterate 1 (refine wpHeld_step (v := ?_) (by rfl) (fun wz hSw => ?_) ?_; rotate_left; (focus (have hcv := hs6 wz hSw; go_simp; try with_reducible rfl)); (simp only [Act.put, List.setIfInBounds_toArray, List.set_cons_zero, List.set_cons_succ]))
          refine wpHeld_nil ?_
          refine wpAnyH_takesAt 5 3 11 (of_decide_eq_true (by kernel_rfl)) rfl (fun _ _ _ d _ h => by cases d <;> exact h) (by kernel_rfl) (by kernel_rfl) hHeld ?_
          simp only [List.drop_succ_cons, List.drop_zero, List.take_succ_cons, List.take_zero]
          iterate 3 (refine wpHeld_step (v := ?_) (by rfl) (fun wz hSw => ?_) ?_; rotate_left; (focus ((try dsimp only at hSw); go_simp; try with_reducible rfl)); (simp only [Act.put, List.setIfInBounds_toArray, List.set_cons_zero, List.set_cons_succ]))
          refine wpHeld_nil ?_
          refine wpAnyH_takesAt 10 6 5 (of_decide_eq_true (by kernel_rfl)) rfl (fun _ _ _ d _ h => by cases d <;> exact h) (by kernel_rfl) (by kernel_rfl) hHeld ?_
          simp only [List.drop_succ_cons, List.drop_zero, List.take_succ_cons, List.take_zero]
          iterate 6 (refine wpHeld_step (v := ?_) (by rfl) (fun wz hSw => ?_) ?_; rotate_left; (focus (have hcv := HSb.out wz (H06.out.trans (hSw.mono H06.out.size)); go_simp; try with_reducible rfl)); (simp only [Act.put, List.setIfInBounds_toArray, List.set_cons_zero, List.set_cons_succ]))
          refine wpHeld_nil ?_
          refine wpAnyH_only (i := 8) (by kernel_rfl) rfl (fun K' hK => ?_)
          rw [if_pos (by rfl)]
          go_simp
          refine (bytes_str qx K cx (wordsL zb K) (by omega) _ (isWords_later h56 HX5.out)).mono ?_
          rintro e w7 ⟨v2, rfl, hs7, hb7⟩
          rw [HSX.out] at hs7
          refine hK.out _ _ hb7 ?_
          clear hK K' hHeld hs6
          refine wpAnyH_more (S' := fun W => Below w7.heap.size w7 W) (fun W h => hb7.trans (h.mono hb7.size)) _ _ _ _ ?_
          have hHeld := Below.refl w7.heap.size w7
          refine wpAnyH_takesAt 9 1 3 (of_decide_eq_true (by kernel_rfl)) rfl (fun _ _ _ d _ h => by cases d <;> exact h) (by kernel_rfl) (by kernel_rfl) hHeld ?_
          simp only [List.drop_succ_cons, List.drop_zero, List.take_succ_cons, List.take_zero]
          iterate 1 (refine wpHeld_step (v := ?_) (by rfl) (fun wz hSw => ?_) ?_; rotate_left; (focus (have hcv := hs7 wz hSw; go_simp; try with_reducible rfl)); (simp only [Act.put, List.setIfInBounds_toArray, List.set_cons_zero, List.set_cons_succ]))
          refine wpHeld_nil ?_
          refine wpAnyH_takesAt 16 3 0 (of_decide_eq_true (by kernel_rfl)) rfl (fun _ _ _ d _ h => by cases d <;> exact h) (by kernel_rfl) (by kernel_rfl) hHeld ?_
          simp only [List.drop_succ_cons, List.drop_zero, List.take_succ_cons, List.take_zero]
          iterate 3 (refine wpHeld_step (v := ?_) (by rfl) (fun wz hSw => ?_) ?_; rotate_left; (focus ((try dsimp only at hSw); go_simp; try with_reducible rfl)); (simp only [Act.put, List.setIfInBounds_toArray, List.set_cons_zero, List.set_cons_succ]))
          refine wpHeld_nil ?_
          refine wpAnyH_done (by kernel_rfl) ?_ _
          go_wp2
          go_ret
          exact ⟨rfl, H06.out.trans (hb7.mono H06.out.size)⟩

set_option maxHeartbeats 1000000 in
theorem walk_long (pa pb : Option Addr) (ca cb la lb : Nat) (w : World) (h : 500 < la ∨ 200 < lb) :
    Calls Try.prog 4 #[.slice pa la ca, .slice pb lb cb] w fun e w' => e = .returned (.bool true) ∧ Below w.heap.size w w' := by
  by_cases h1 : 500 < la
  · have i1 : (500 : Int) < (la : Int) := by omega
    go_enter Try.func4, Try.ntmps4
    go_wp2_with (go_at_call 7; refine (awake_any _).mono ?_; rintro e w1 ⟨rfl, hb1⟩)
    go_ret
    exact ⟨rfl, hb1⟩
  · have i1 : ¬ (500 : Int) < (la : Int) := by omega
    have i2 : (200 : Int) < (lb : Int) := by omega
    go_enter Try.func4, Try.ntmps4
    go_wp2_with (go_at_call 7; refine (awake_any _).mono ?_; rintro e w1 ⟨rfl, hb1⟩)
    go_ret
    exact ⟨rfl, hb1⟩

theorem walk (a0 : Option Addr) (len0 cap0 : Nat) (z0 : List Int) (a1 : Option Addr) (len1 cap1 : Nat) (z1 : List Int) (w : World) (w0 : IsRow .u8 w a0 len0 cap0 z0) (w1 : IsRow .u32 w a1 len1 cap1 z1) :
    Calls Try.prog 4 #[.slice a0 len0 cap0, .slice a1 len1 cap1] w fun e w' => e = .returned (.bool true) ∧ Below w.heap.size w w' := by
  by_cases h : 500 < len0 ∨ 200 < len1
  · exact walk_long a0 a1 cap0 cap1 len0 len1 w h
  · exact walkN a0 a1 cap0 cap1 len0 len1 _ _ w (by omega) (by omega) (bytes_of_row w0) (isWords_of_row w1)

set_option maxRecDepth 100000 in
theorem lifted (os : Os) (started : os.Started) (H : Type) (enc : TypeId × Value → H) :
    ReturnsInHanded {} Try.checked os 4 .any (Rows.vecWordsSpec.pre6 enc Try.prog Try.f4 Rows.vecWordsRow.domain false) (Rows.vecWordsSpec.post enc Try.prog Try.f4 false true false false) := by
  refine returnsInHanded_of_change (C := Try.checked) own started (by kernel_rfl) Try.func4
    (ChangeSpec.witness6 (enc := enc) (C := Try.checked) false ⟨#[], #[.slice none 0 0, .slice none 0 0], []⟩ 8 (by kernel_rfl) (by kernel_rfl) (by kernel_rfl) (by kernel_rfl)) ?_
  intro W base args ds gs before hval0 hW hcnd _
  have hval : ∀ (j : Nat) t v, Try.f4.params[j]? = some t → args[j]? = some v → Value.okWide Try.prog W .any base t v := hval0
  have hW' := hW
  obtain ⟨p, q, hA0, hV, rfl, hfz, hnd⟩ := hW
  have hA : DataW.TrodAll enc Try.prog W 0 (fun _ => true) true Try.f4.params.toList args.toList ds p := hA0
  rw [Try.params4] at hA hval
  obtain ⟨v0, vs0, d0, ds0, p0, q0, hargs, rfl, rfl, h0, r0⟩ := trodAll_cons hA
  obtain ⟨v1, vs1, d1, ds1, p1, q1, rfl, rfl, rfl, h1, r1⟩ := trodAll_cons r0
  obtain ⟨rfl, rfl, rfl⟩ := trodAll_nil r1
  obtain rfl : args = #[v0, v1] := by cases args; simp_all
  obtain ⟨rfl, rfl⟩ := trodVars_none hV
  obtain ⟨a0, len0, cap0, rfl⟩ := okWide_slice Try.underlying22 (hval 0 22 v0 rfl rfl)
  have k0 := h0
  have lt0 : ∀ x ∈ p0, x.block < W.heap.size := by obtain ⟨m, hm⟩ := k0; exact DataW.trod_lt m _ _ _ hm
  obtain ⟨z0, w0⟩ : ∃ zs, IsRow .u8 W a0 len0 cap0 zs := by
    obtain ⟨fuel, hf⟩ := h0
    rcases open_ints Try.underlying22 Try.underlying5 (by kernel_rfl) hf with ⟨hcs, _⟩ | ⟨x, l, c, zs, hcs, _, hl, hm, hz, _, hcell, hwz⟩
    · simp [Value.cells] at hcs
      obtain ⟨rfl, rfl, rfl⟩ := hcs
      exact ⟨[], .inl ⟨rfl, rfl, rfl, rfl⟩⟩
    · simp [Value.cells] at hcs
      obtain ⟨rfl, rfl, rfl⟩ := hcs
      exact ⟨zs, .inr ⟨_, rfl, hl, hm, by simpa using hz, hcell, hwz⟩⟩
  obtain ⟨a1, len1, cap1, rfl⟩ := okWide_slice Try.underlying26 (hval 1 26 v1 rfl rfl)
  have k1 := h1
  have lt1 : ∀ x ∈ p1, x.block < W.heap.size := by obtain ⟨m, hm⟩ := k1; exact DataW.trod_lt m _ _ _ hm
  obtain ⟨z1, w1⟩ : ∃ zs, IsRow .u32 W a1 len1 cap1 zs := by
    obtain ⟨fuel, hf⟩ := h1
    rcases open_ints Try.underlying26 Try.underlying28 (by kernel_rfl) hf with ⟨hcs, _⟩ | ⟨x, l, c, zs, hcs, _, hl, hm, hz, _, hcell, hwz⟩
    · simp [Value.cells] at hcs
      obtain ⟨rfl, rfl, rfl⟩ := hcs
      exact ⟨[], .inl ⟨rfl, rfl, rfl, rfl⟩⟩
    · simp [Value.cells] at hcs
      obtain ⟨rfl, rfl, rfl⟩ := hcs
      exact ⟨zs, .inr ⟨_, rfl, hl, hm, by simpa using hz, hcell, hwz⟩⟩
  clear hA0 hval0
  refine (walk a0 len0 cap0 z0 a1 len1 cap1 z1 W w0 w1).mono fun e W' ⟨he, bel⟩ => ?_
  subst he
  exact ⟨_, rfl, _, _, _, [], _, [], hW', trodAll_mk1 (shut_bool Try.underlying4 _), (trodAll_cons_mk (Below.trod laidOut (by kernel_rfl) (of_decide_eq_true (by kernel_rfl)) k0 bel lt0) (trodAll_cons_mk (Below.trod laidOut (by kernel_rfl) (of_decide_eq_true (by kernel_rfl)) k1 bel lt1) trodAll_mk0)), rfl, bel.frame _, fun h => by cases h⟩

theorem over : Rows.vecWordsRow.holds Try.pinned (OpenSpec.ofChange Rows.vecWordsSpec) :=
  OpenClaim.holds_of_wide 4 Try.f4 rfl rfl rfl rfl rfl rfl rfl ⟨rfl, rfl, rfl, rfl, rfl⟩ rfl rfl rfl rfl rfl (by kernel_rfl) Try.func4 (by kernel_rfl)
    (of_decide_eq_true (by kernel_rfl)) (by unfold Func.isWrapper; first | (rw [if_pos (by decide +kernel)]; kernel_rfl) | (rw [if_neg (by decide +kernel)]; exact ⟨rfl, rfl⟩))
    (fun os started H enc _ => lifted os started H enc)

end Go.Proofs.Ythhjjijnjfbibaa.vecWords
namespace Go.Proofs.Ythhjjijnjfbibaa

/-- The statement. -/
theorem vecWords_holds : Rows.VecWordsSaid := vecWords.over
#print axioms vecWords_holds
end Go.Proofs.Ythhjjijnjfbibaa
