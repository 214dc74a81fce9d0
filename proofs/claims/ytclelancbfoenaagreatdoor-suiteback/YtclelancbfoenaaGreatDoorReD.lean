/-
  Several texts in one: ReChunks, ReFour, ReEq, ReXor, ReTurned.
-/
import Derived.Test.YtclelancbfoenaaGreatDoorBaseAll
import Derived.Test.YtclelancbfoenaaGreatDoorRePieces
import Derived.Test.YtclelancbfoenaaGreatDoorReB
import Derived.Test.YtclelancbfoenaaGreatDoorChecked
import Derived.ChangeKeysEq
import Derived.Test.YtclelancbfoenaaGreatDoorReC
import Derived.Deep.RegionHeld3
import Derived.Deep.AppendLies
import Derived.Laws.BytesArg
import Derived.ProofKit
import Derived.Test.YtclelancbfoenaaGreatDoorReStream
/-
  What the reference's Chunks answers for pieces of 64 bytes: the pieces of any bytes, in memory of their own. Nothing that lay before the call has turned.
-/
namespace Go.Proofs.YtclelancbfoenaaGreatDoor.Re
open Go Go.RowKit

theorem info24 : (Tryz.prog.info? 24).map (fun i => (i.zero, i.size, i.bytes)) = some (some (.slice none 0 0), 1, 24) := by kernel_rfl

/-- These slices own the texts. -/
def TextsAt (W : World) (vs : List Value) (ts : List (List Nat)) : Prop := vs.length = ts.length ∧ ∀ i, i < ts.length → Own 0 W (vs.getD i undef) (ts.getD i [])
theorem TextsAt.keep {W W' : World} (hk : KeepT 5 W W') {vs : List Value} {ts : List (List Nat)} (h : TextsAt W vs ts) : TextsAt W' vs ts := ⟨h.1, fun i hi => hk.own (h.2 i hi)⟩
theorem TextsAt.snoc {W : World} {vs : List Value} {ts : List (List Nat)} (h : TextsAt W vs ts) {u : Value} {t : List Nat} (hu : Own 0 W u t) : TextsAt W (vs ++ [u]) (ts ++ [t]) := by
  refine ⟨by simp [h.1], fun i hi => ?_⟩
  by_cases hlt : i < ts.length
  · have e1 : (vs ++ [u]).getD i undef = vs.getD i undef := by simp [List.getElem?_append_left (show i < vs.length by have := h.1; omega)]
    have e2 : (ts ++ [t]).getD i [] = ts.getD i [] := by simp [List.getElem?_append_left hlt]
    rw [e1, e2]
    exact h.2 i hlt
  · have hi2 : i = ts.length := by simp at hi; omega
    subst hi2
    have e1 : (vs ++ [u]).getD ts.length undef = u := by rw [← h.1]; simp
    have e2 : (ts ++ [t]).getD ts.length [] = t := by simp
    rw [e1, e2]
    exact hu

set_option maxRecDepth 100000 in
set_option maxHeartbeats 2000000 in
theorem refChunks_any (p : Option Addr) (len cap : Nat) (zs : List Nat) (w : World) (hlen : len ≤ 60000) (hI : IsBytes w.heap.size w p len cap zs) :
    Calls Tryz.prog 40 #[.slice p len cap, .int .i64 64] w fun e w' => ∃ q c vs, e = .returned (.slice q ((len + 63) / 64) c) ∧ w'.ownsRow w.heap.size 24 1 (.slice q ((len + 63) / 64) c) ((len + 63) / 64) vs ∧ TextsAt w' vs (fullL zs ((len + 63) / 64)) ∧ Below w.heap.size w w' := by
  obtain ⟨i33, hi33, hz330, hz331, hz332⟩ := info_parts info24
  have HI : Hid (IsBytes w.heap.size w p len cap zs) := hI
  have hlc := hI.2.1
  have hcap := hI.2.2.1
  clear hI
  go_enter Tryz.func40, Tryz.ntmps40
  go_wp2
  go_loopw [0, 5] (fun s v wr => ∃ (k o L C : Nat) (q : Option Addr) (vs : List Value), s = .slice q L C ∧ o = min (64 * k) len ∧ L + o = len ∧ C + o = cap ∧ (0 < L → ∃ b off, p = some ⟨b, off, none⟩ ∧ q = some ⟨b, off + o, none⟩) ∧ wr.ownsRow w.heap.size 24 1 v k vs ∧ TextsAt wr vs (fullL zs k) ∧ Below w.heap.size w wr ∧ k ≤ (len + 63) / 64)
    (fun s _ _ => sliceLen s)
  case atStart => exact ⟨0, 0, len, cap, p, [], rfl, by omega, by omega, by omega, fun hL => by
      rcases HI.out.2.2.2.2 with h | ⟨b, off, rfl, _⟩
      · omega
      · exact ⟨b, off, rfl, rfl⟩, World.ownsRow_nil _ _ _ _, ⟨rfl, by simp [fullL]⟩, Below.refl _ _, by omega⟩
  case round =>
    obtain ⟨k, o, L, C, q, vs, rfl, ho, hL, hC, hq, hown, hte, hbel, hkM⟩ := hrel
    have HO : Hid (o = min (64 * k) len ∧ L + o = len ∧ C + o = cap) := ⟨ho, hL, hC⟩
    by_cases hLz : 0 < L
    · obtain ⟨b, off, hp, rfl⟩ := hq hLz
      have hLC : L ≤ C := by omega
      have hCc : C ≤ 9223372036854775807 := by omega
      have hLi : (0 : Int) < (L : Int) := by omega
      have hsz := hbel.size
      have hkl : k < 60000 := by omega
      have HkM : Hid (k + 1 ≤ (len + 63) / 64) := by show _ ≤ _; omega
      have hIr : IsBytes w.heap.size wr p len cap zs := HI.out.below hbel
      clear ho hL hC hkM
      by_cases hL64 : 64 ≤ L
      · have hL64i : ¬ (L : Int) < 64 := by omega
        have hL64j : (64 : Int) ≤ (L : Int) := by omega
        have hIz : IsBytes w.heap.size wr (some ⟨b, off + o, none⟩) 64 C ((zs.drop (64 * k)).take 64) := by
          have hol := HO.out
          rcases hIr.2.2.2.2 with h | ⟨b', off', e, hb, hcell⟩
          · omega
          · rw [hp] at e
            cases e
            refine ⟨by rw [List.length_take, List.length_drop, hIr.1]; omega, by omega, hCc, fun z hz => hIr.2.2.2.1 z (List.mem_of_mem_drop (List.mem_of_mem_take hz)), .inr ⟨b, off + o, rfl, hb, fun i hi => ?_⟩⟩
            rw [show off + o + i = off + (64 * k + i) by omega, hcell (64 * k + i) (by omega)]
            simp [show i < 64 by omega]
        have HIz : Hid (IsBytes w.heap.size wr (some ⟨b, off + o, none⟩) 64 C ((zs.drop (64 * k)).take 64)) := hIz
        have HOw : Hid (wr.ownsRow w.heap.size 24 1 u5 k vs) := hown
        have HTe : Hid (TextsAt wr vs (fullL zs k)) := hte
        have HP : Hid (p = some ⟨b, off, none⟩) := hp
        have HM : Hid (64 ≤ 64 ∧ 64 ≤ L) := ⟨by omega, by omega⟩
        clear hq hown hte hIr hIz hp
        go_wp2_with (first
          | (at_builtin; refine wpList_append_bytes rfl _ _ rfl wr.heap.size (.slice none 0 0) [] rfl (Own.nil _ _) rfl HIz.out (by simp <;> omega) (Nat.le_refl _) ?_; intro u1 w1 hown1 hgrow1; have hb1 : Below wr.heap.size wr w1 := (Below.refl _ wr).grown hgrow1 (Nat.le_refl _) (fun k e => by cases e); rw [List.nil_append] at hown1; obtain ⟨q1, c1, hu1⟩ := hown1.slice; rw [HIz.out.1] at hu1; subst hu1; have HO1 : Hid (Own wr.heap.size w1 (.slice q1 64 c1) ((zs.drop (64 * k)).take 64)) := hown1; clear hown1)
          | (at_builtin; refine wpList_append_lies _ rfl _ _ 84 rfl w.heap.size 24 i33 (.slice none 0 0) 1 24 Tryz.underlying84 hi33 hz330 hz331 hz332 rfl (by decide) u5 k vs rfl ((ownsRow_later hb1 HOw.out).alloc _) ⟨w1.heap.size, 0, none⟩ 1 1 [.slice q1 64 c1] rfl rfl (cell_one_new _ _ _) (by simp [Value.oneCell']) (by omega) (by simp only [maxLen]; omega) (by omega) (by have := hb1.size; simp; omega) (w1.heap.size + 1) (by simp) ?_; intro g2 c2 w2 hown2 hgrow2 hat2 hlt2))
        go_roundw
        case rel =>
          obtain ⟨ho1, ho2, ho3⟩ := HO.out
          have hk12 : KeepT 5 w1 w2 := (KeepT.alloc w1 _).trans (KeepT.row hgrow2 ((ownsRow_later hb1 HOw.out).alloc _) (by decide))
          have ht2 : TextsAt w2 (vs ++ [.slice q1 64 c1]) (fullL zs (k + 1)) := by
            rw [← fullL_succ]
            exact (HTe.out.keep ((KeepT.of_below hb1).trans hk12)).snoc (hk12.own (HO1.out.mono (Nat.zero_le _)))
          have hbe2 : Below w.heap.size w w2 := ((hbel.trans (hb1.mono hsz)).alloc (by have := hb1.size; omega) _).grown hgrow2 (by have := hb1.size; simp; omega) (fun j e => ((ownsRow_later hb1 HOw.out).lt j e).1)
          exact ⟨k + 1, o + 64, L - 64, C - 64, _, _, rfl, by omega, by omega, by omega, fun hh => ⟨b, off, HP.out, by rw [if_neg (by omega), Nat.add_assoc]⟩, hown2, ht2, hbe2, HkM.out⟩
        case measure => simp only [sliceLen]; omega
      · have hL64i : (L : Int) < 64 := by omega
        have hL64k : L < 64 := by omega
        have hIz : IsBytes w.heap.size wr (some ⟨b, off + o, none⟩) L C ((zs.drop (64 * k)).take 64) := by
          have hol := HO.out
          rcases hIr.2.2.2.2 with h | ⟨b', off', e, hb, hcell⟩
          · omega
          · rw [hp] at e
            cases e
            refine ⟨by rw [List.length_take, List.length_drop, hIr.1]; omega, by omega, hCc, fun z hz => hIr.2.2.2.1 z (List.mem_of_mem_drop (List.mem_of_mem_take hz)), .inr ⟨b, off + o, rfl, hb, fun i hi => ?_⟩⟩
            rw [show off + o + i = off + (64 * k + i) by omega, hcell (64 * k + i) (by omega)]
            simp [show i < 64 by omega]
        have HIz : Hid (IsBytes w.heap.size wr (some ⟨b, off + o, none⟩) L C ((zs.drop (64 * k)).take 64)) := hIz
        have HOw : Hid (wr.ownsRow w.heap.size 24 1 u5 k vs) := hown
        have HTe : Hid (TextsAt wr vs (fullL zs k)) := hte
        have HP : Hid (p = some ⟨b, off, none⟩) := hp
        have HM : Hid (L ≤ 64 ∧ L ≤ L) := ⟨by omega, by omega⟩
        clear hq hown hte hIr hIz hp
        go_wp2_with (first
          | (at_builtin; refine wpList_append_bytes rfl _ _ rfl wr.heap.size (.slice none 0 0) [] rfl (Own.nil _ _) rfl HIz.out (by simp <;> omega) (Nat.le_refl _) ?_; intro u1 w1 hown1 hgrow1; have hb1 : Below wr.heap.size wr w1 := (Below.refl _ wr).grown hgrow1 (Nat.le_refl _) (fun k e => by cases e); rw [List.nil_append] at hown1; obtain ⟨q1, c1, hu1⟩ := hown1.slice; rw [HIz.out.1] at hu1; subst hu1; have HO1 : Hid (Own wr.heap.size w1 (.slice q1 L c1) ((zs.drop (64 * k)).take 64)) := hown1; clear hown1)
          | (at_builtin; refine wpList_append_lies _ rfl _ _ 84 rfl w.heap.size 24 i33 (.slice none 0 0) 1 24 Tryz.underlying84 hi33 hz330 hz331 hz332 rfl (by decide) u5 k vs rfl ((ownsRow_later hb1 HOw.out).alloc _) ⟨w1.heap.size, 0, none⟩ 1 1 [.slice q1 L c1] rfl rfl (cell_one_new _ _ _) (by simp [Value.oneCell']) (by omega) (by simp only [maxLen]; omega) (by omega) (by have := hb1.size; simp; omega) (w1.heap.size + 1) (by simp) ?_; intro g2 c2 w2 hown2 hgrow2 hat2 hlt2))
        go_roundw
        case rel =>
          obtain ⟨ho1, ho2, ho3⟩ := HO.out
          have hk12 : KeepT 5 w1 w2 := (KeepT.alloc w1 _).trans (KeepT.row hgrow2 ((ownsRow_later hb1 HOw.out).alloc _) (by decide))
          have ht2 : TextsAt w2 (vs ++ [.slice q1 L c1]) (fullL zs (k + 1)) := by
            rw [← fullL_succ]
            exact (HTe.out.keep ((KeepT.of_below hb1).trans hk12)).snoc (hk12.own (HO1.out.mono (Nat.zero_le _)))
          have hbe2 : Below w.heap.size w w2 := ((hbel.trans (hb1.mono hsz)).alloc (by have := hb1.size; omega) _).grown hgrow2 (by have := hb1.size; simp; omega) (fun j e => ((ownsRow_later hb1 HOw.out).lt j e).1)
          exact ⟨k + 1, o + L, 0, C - L, _, _, rfl, by omega, by omega, by omega, fun hh => ⟨b, off, HP.out, by omega⟩, hown2, ht2, hbe2, HkM.out⟩
        case measure => simp only [sliceLen]; omega
    · obtain rfl : L = 0 := by omega
      obtain rfl : k = (len + 63) / 64 := by omega
      obtain ⟨q', c', rfl⟩ := slice_of_row hown
      clear hL hC hq ho
      go_wp2
      go_ret
      exact ⟨_, _, _, rfl, hown, hte, hbel⟩
end Go.Proofs.YtclelancbfoenaaGreatDoor.Re
/-
  Four bytes of a sum of words, laid over a row that is filled up. It names no program.
-/
namespace Go.Proofs.YtclelancbfoenaaGreatDoor.Re
open Go.RowKit

theorem lowBytes_at (ws : List Nat) (i j : Nat) (hi : i < ws.length) (hj : j < 4) : (lowBytes ws)[4 * i + j]? = some (byteAt (ws.getD i 0) j) := by
  unfold lowBytes byteAt
  rw [List.getElem?_map, List.getElem?_range (by omega), Option.map_some, show (4 * i + j) / 4 = i by omega, show (4 * i + j) % 4 = j by omega]
theorem addN_at (x s : List Nat) (i : Nat) (hi : i < 16) : (addN x s).getD i 0 = (x.getD i 0 + s.getD i 0) % 4294967296 := by
  simp only [addN, List.getD_eq_getElem?_getD, List.getElem?_map, List.getElem?_range hi, Option.map_some, Option.getD_some]
theorem splice_fill4 (z : Value) (T F : List Value) (n N : Nat) (hT : T.length = n) (hF : F.length = 4) (hN : n + 4 ≤ N) : splice (fill N z T) n F = fill N z (T ++ F) := by
  have h1 : (fill N z T).take n = T := by
    unfold fill
    rw [List.take_append_of_le_length (by omega), List.take_of_length_le (by omega)]
  have h2 : (fill N z T).drop (n + F.length) = List.replicate (N - (T ++ F).length) z := by
    unfold fill
    rw [List.drop_append, List.drop_of_length_le (by omega), List.nil_append, List.drop_replicate]
    congr 1
    rw [List.length_append]
    omega
  unfold splice
  rw [h1, h2, ← List.append_assoc]
  rfl
theorem put_four (dn st : List Nat) (j : Nat) (hj : j < 16) : fill 64 (Value.int .u8 0) (u8s ((lowBytes (addN dn st)).take (4 * (j + 1)))) = splice (fill 64 (.int .u8 0) (u8s ((lowBytes (addN dn st)).take (4 * j)))) (4 * j) (byteVals (byteAt ((dn.getD j 0 + st.getD j 0) % 4294967296)) 4) := by
  have hl : (addN dn st).length = 16 := addN_length _ _
  have e0 := lowBytes_at (addN dn st) j 0 (by omega) (by omega)
  have e1 := lowBytes_at (addN dn st) j 1 (by omega) (by omega)
  have e2 := lowBytes_at (addN dn st) j 2 (by omega) (by omega)
  have e3 := lowBytes_at (addN dn st) j 3 (by omega) (by omega)
  rw [addN_at _ _ _ hj] at e0 e1 e2 e3
  have hL : (lowBytes (addN dn st)).length = 64 := by rw [lowBytes_length, hl]
  generalize lowBytes (addN dn st) = L at *
  generalize (dn.getD j 0 + st.getD j 0) % 4294967296 = m at *
  have et : L.take (4 * (j + 1)) = L.take (4 * j) ++ [byteAt m 0, byteAt m 1, byteAt m 2, byteAt m 3] := by
    rw [show 4 * (j + 1) = 4 * j + 1 + 1 + 1 + 1 by omega, List.take_add_one, List.take_add_one, List.take_add_one, List.take_add_one]
    rw [Nat.add_zero] at e0
    rw [e0, e1, show 4 * j + 1 + 1 = 4 * j + 2 by omega, e2, show 4 * j + 2 + 1 = 4 * j + 3 by omega, e3]
    simp
  have ev : byteVals (byteAt m) 4 = u8s [byteAt m 0, byteAt m 1, byteAt m 2, byteAt m 3] := rfl
  rw [ev, splice_fill4 _ _ _ _ _ (by rw [u8s_length, List.length_take]; omega) rfl (by omega), et, ← u8s_append]
end Go.Proofs.YtclelancbfoenaaGreatDoor.Re
/-
  Two arrays with the same cells are found alike.
-/
namespace Go.Proofs.YtclelancbfoenaaGreatDoor.Re
open Go.RowKit

theorem eqItems_same {P : Program} {e : TypeId} {k : IntKind} (he : P.plainKey e = true) (hu : P.underlying e = some (.int k)) (S : List Value) (w : World) : ∀ (is : List Nat), (∀ i ∈ is, ∃ z, S[i]? = some (.int k z)) →
    (Op.eqItems 9999 e 1 S.toArray S.toArray is).run P w = .ok true w
  | [], _ => by simp [Op.eqItems]
  | i :: is, h => by
    obtain ⟨z, hz⟩ := h i (by simp)
    have hp : (part e S.toArray (i * 1)).run P w = .ok (.int k z) w := run_part_plain w he (by simpa using hz)
    have hq := run_equalIn_int w 9998 e k k z z hu
    have ih := eqItems_same he hu S w is (fun j hj => h j (by simp [hj]))
    simp only [Op.eqItems, Sem.run_bind, hp, Result.andThen_ok, hq]
    simpa using ih

theorem equal_same {P : Program} {t e : TypeId} {n : Nat} {k : IntKind} (ht : P.underlying t = some (.array n e)) (he : P.plainKey e = true) (hu : P.underlying e = some (.int k)) (hc : P.cellsOf e = 1) (hi : (P.info? e).map (·.size) = some 1) (S : List Value) (hS : ∀ i, i < n → ∃ z, S[i]? = some (.int k z)) (w : World) :
    (Op.equalIn 10000 t (.agg S.toArray) (.agg S.toArray)).run P w = .ok true w := by
  cases hq : P.info? e with
  | none => simp [hq] at hi
  | some i =>
    rw [run_equalIn_array w 9999 _ _ ht hq, hc]
    exact eqItems_same he hu S w _ (fun i hi => hS i (List.mem_range.1 hi))

theorem u8s_int (l : List Nat) {n : Nat} (hl : l.length = n) : ∀ i, i < n → ∃ z, (u8s l)[i]? = some (.int .u8 z) := fun i hi => ⟨_, u8s_at (by omega)⟩
theorem u32s_int (l : List Nat) {n : Nat} (hl : l.length = n) : ∀ i, i < n → ∃ z, (u32s l)[i]? = some (.int .u32 z) := fun i hi => ⟨_, u32s_at (by omega)⟩
theorem equal86 (S : List Value) (hS : ∀ i, i < 64 → ∃ z, S[i]? = some (.int .u8 z)) (w : World) : (Op.equalIn 10000 86 (.agg S.toArray) (.agg S.toArray)).run Tryz.prog w = .ok true w :=
  equal_same Tryz.underlying86 (by kernel_rfl) Tryz.underlying5 (by kernel_rfl) size5 S hS w
end Go.Proofs.YtclelancbfoenaaGreatDoor.Re
/-
  What the reference's Xor answers, for any two slices of bytes (of up to 60,000): the bytes put together bit by bit, in memory of their own. Nothing that lay before the call has turned.
-/
namespace Go.Proofs.YtclelancbfoenaaGreatDoor.Re
open Go.RowKit
set_option maxRecDepth 100000 in
set_option maxHeartbeats 1000000 in
theorem refXor_some (ba oa ca bb ob cb la lb : Nat) (za zb : List Nat) (N : Nat) (hN : N = min la lb) (w : World) (hla : la ≤ 60000) (hba : ba < w.heap.size) (hbb : bb < w.heap.size) (hza : ∀ z ∈ za, z < 256) (hzb : ∀ z ∈ zb, z < 256)
    (hA : ∀ i, i < la → w.cell? ⟨ba, oa + i, none⟩ = some (.int .u8 (za.getD i 0 : Nat))) (hB : ∀ i, i < lb → w.cell? ⟨bb, ob + i, none⟩ = some (.int .u8 (zb.getD i 0 : Nat))) :
    Calls Tryz.prog 42 #[.slice (some ⟨ba, oa, none⟩) la ca, .slice (some ⟨bb, ob, none⟩) lb cb] w fun e w' =>
      ∃ v, e = .returned v ∧ w'.ownsRow w.heap.size 5 1 v N (byteVals (xorAt za zb) N) ∧ Below w.heap.size w w' := by
  obtain ⟨i0, hi, hz0, hz1, hz2⟩ := info_parts info5
  have HN : Hid (N = min la lb) := hN
  have hNl : N ≤ 60000 := by omega
  have hNa : N ≤ la := by omega
  have hNb : N ≤ lb := by omega
  clear hN
  go_enter Tryz.func42, Tryz.ntmps42
  go_wp2
  go_loopw [5, 6] (fun v i wr => ∃ k : Nat, k ≤ N ∧ i = .int .i64 k ∧ wr.ownsRow w.heap.size 5 1 v k (byteVals (xorAt za zb) k) ∧ Below w.heap.size w wr)
    (fun _ i _ => N - (intOf i).toNat)
  case atStart => exact ⟨0, Nat.zero_le _, rfl, World.ownsRow_nil _ _ _ _, Below.refl _ _⟩
  case round =>
    obtain ⟨k, hk, rfl, hown, hbel⟩ := hrel
    by_cases hlt : k < N
    · have cA := (hbel.cell (p := ⟨ba, oa + k, none⟩) hba).trans (hA k (by omega))
      have cB := (hbel.cell (p := ⟨bb, ob + k, none⟩) hbb).trans (hB k (by omega))
      have hx := u8_xor_getD za zb hza hzb k
      have i1 : (k : Int) < (la : Int) := by omega
      have i2 : (k : Int) < (lb : Int) := by omega
      have hsz := hbel.size
      have hne : ∀ b, b < w.heap.size → some b ≠ u5.ownBlock := fun b hb e => by have := (hown.lt b e.symm).1; omega
      have hnA := hne ba hba
      have hnB := hne bb hbb
      have HB : Hid (Below w.heap.size w wr) := hbel
      have HO : Hid (wr.ownsRow w.heap.size 5 1 u5 k (byteVals (xorAt za zb) k)) := hown
      clear hbel hown hA hB hza hzb hne
      generalize za.getD k 0 = x at *
      generalize zb.getD k 0 = y at *
      go_wp2
      go_region_held3 (fun w' => w'.cell? ⟨ba, oa + k, none⟩ = some (.int .u8 x) ∧ w'.cell? ⟨bb, ob + k, none⟩ = some (.int .u8 y))
        (first
          | go_keep
          | (go_split_ands
             refine ⟨?_, ?_⟩
             · (rw [hgrow.cell_far _ (by simp; omega) hnA]; assumption)
             · (rw [hgrow.cell_far _ (by simp; omega) hnB]; assumption)))
        ((refine step_append_lies _ (by rfl) _ _ _ (by rfl) w.heap.size 5 i0 _ 1 1 Tryz.underlying24 hi hz0 hz1 hz2 rfl (by omega) u5 k _ (by rfl) ((HO.out.alloc _).drew)
            ⟨wr.heap.size, 0, none⟩ 1 1 [.int .u8 (xorAt za zb k : Nat)] (by rfl) (by rfl) (World.news_of_block (cs := #[.int .u8 (xorAt za zb k : Nat)]) (t := 5) (fr := (0, 0)) (heap_alloc_new wr _)) (by simp [Value.oneCell'])
            (by omega) (by simp only [maxLen]; omega) (by omega) (by simp; omega) (wr.heap.size + 1) (by simp) ?_; intro gg cap w1 hown1 hgrow hat hlt1))
      go_wp2
      go_roundw
      case rel =>
        exact ⟨k + 1, by omega, by go_num, by rw [← byteVals_succ]; exact hown1, ((HB.out.alloc hsz _).drew).grown hgrow (by simp; omega) (fun j e => (HO.out.lt j e).1)⟩
      case measure => simp [intOf]; omega
    · obtain rfl : k = N := by omega
      by_cases i1 : la ≤ k
      · have i1' : ¬ (k : Int) < (la : Int) := by omega
        go_wp2
        go_ret
        exact ⟨_, rfl, hown, hbel⟩
      · have i1' : (k : Int) < (la : Int) := by omega
        have i2' : ¬ (k : Int) < (lb : Int) := by have := HN.out; omega
        go_wp2
        go_ret
        exact ⟨_, rfl, hown, hbel⟩

set_option maxRecDepth 100000 in
set_option maxHeartbeats 1000000 in
theorem refXor_none (pa pb : Option Addr) (ca cb la lb : Nat) (hz : la = 0 ∨ lb = 0) (hla : la ≤ 60000) (hlb : lb ≤ 60000) (w : World) :
    Calls Tryz.prog 42 #[.slice pa la ca, .slice pb lb cb] w fun e w' => ∃ v, e = .returned v ∧ w'.ownsRow w.heap.size 5 1 v 0 [] ∧ Below w.heap.size w w' := by
  have H : ∀ la lb : Nat, la ≤ 60000 → lb ≤ 60000 → (la = 0 ∨ ((0 : Int) < (la : Int) ∧ lb = 0)) → Calls Tryz.prog 42 #[.slice pa la ca, .slice pb lb cb] w fun e w' => ∃ v, e = .returned v ∧ w'.ownsRow w.heap.size 5 1 v 0 [] ∧ Below w.heap.size w w' := by
    intro la lb hla hlb h
    rcases h with rfl | ⟨h, rfl⟩
    all_goals
      go_enter Tryz.func42, Tryz.ntmps42
      go_wp2
      go_loopw [5, 6] (fun v i wr => v = .slice none 0 0 ∧ i = .int .i64 0 ∧ wr = w) (fun _ _ _ => 0)
      case atStart => exact ⟨rfl, rfl, rfl⟩
      case round =>
        obtain ⟨rfl, rfl, rfl⟩ := hrel
        go_wp2
        go_ret
        exact ⟨_, rfl, World.ownsRow_nil _ _ _ _, Below.refl _ _⟩
  exact H la lb hla hlb (by omega)

/-- the reference's Xor -/
theorem refXor_any (pa pb : Option Addr) (ca cb la lb : Nat) (za zb : List Nat) (w : World) (hla : la ≤ 60000) (hlb : lb ≤ 60000) (hA : IsBytes w.heap.size w pa la ca za) (hB : IsBytes w.heap.size w pb lb cb zb) :
    Calls Tryz.prog 42 #[.slice pa la ca, .slice pb lb cb] w fun e w' =>
      ∃ v, e = .returned v ∧ w'.ownsRow w.heap.size 5 1 v (min la lb) (byteVals (xorAt za zb) (min la lb)) ∧ Below w.heap.size w w' := by
  obtain ⟨_, _, _, hza, rfl | ⟨ba, oa, rfl, hba, hca⟩⟩ := hA
  · rw [show min 0 lb = 0 by omega]
    exact refXor_none _ _ _ _ _ _ (by omega) hla hlb w
  obtain ⟨_, _, _, hzb, rfl | ⟨bb, ob, rfl, hbb, hcb⟩⟩ := hB
  · rw [show min la 0 = 0 by omega]
    exact refXor_none _ _ _ _ _ _ (by omega) hla hlb w
  exact refXor_some ba oa ca bb ob cb la lb za zb _ rfl w hla hba hbb hza hzb hca hcb

end Go.Proofs.YtclelancbfoenaaGreatDoor.Re
/-
  chacha.Stream on lists: the bytes, turned by the blocks of a key, a counter and a nonce.
-/
namespace Go.Proofs.YtclelancbfoenaaGreatDoor.Re
open Go.RowKit
end Go.Proofs.YtclelancbfoenaaGreatDoor.Re
