/-
  HMAC on plain numbers; what mac.filledKey and mac.begun answer: the key, filled up to a block; a running sum that has taken in the filled key with the mark. Nothing that lay before a call has turned.
-/
import Derived.Test.YtkpjbleogjmbjaaDoorBaseAll
import Derived.Test.YtkpjbleogjmbjaaDoorArgs2
import Derived.Test.YtkpjbleogjmbjaaDoorArgs
import Derived.Test.YtkpjbleogjmbjaaDoorShC
import Derived.Laws.BitsAllLaws
namespace Go.Proofs.YtkpjbleogjmbjaaDoor.Sh
open Go Go.RowKit

/-- Filled up to 64 with noughts. -/
def fill64 (l : List Nat) : List Nat := l ++ List.replicate (64 - l.length) 0
/-- The key of a block. -/
def keyL (ks : List Nat) : List Nat := fill64 (if 64 < ks.length then sumN ks else ks)
def xorL (l : List Nat) (m : Nat) : List Nat := l.map (· ^^^ m)
/-- HMAC. -/
def macN (ks ts : List Nat) : List Nat := sumN (xorL (keyL ks) 92 ++ sumN (xorL (keyL ks) 54 ++ ts))

theorem byteBE_lt (l : List Nat) (j : Nat) : byteBE l j < 256 := Nat.mod_lt _ (by decide)
theorem sumN_lt (zs : List Nat) : ∀ z ∈ sumN zs, z < 256 := by
  intro z hz
  obtain ⟨i, _, rfl⟩ := List.mem_map.1 hz
  exact byteBE_lt _ _
theorem sumN_length (zs : List Nat) : (sumN zs).length = 32 := digestN_length _
theorem fill64_length (l : List Nat) (h : l.length ≤ 64) : (fill64 l).length = 64 := by simp [fill64]; omega
theorem fill64_lt (l : List Nat) (h : ∀ z ∈ l, z < 256) : ∀ z ∈ fill64 l, z < 256 := by
  intro z hz
  rcases List.mem_append.1 hz with h1 | h1
  · exact h z h1
  · have := (List.mem_replicate.1 h1).2; omega
theorem keyL_length (ks : List Nat) : (keyL ks).length = 64 := by
  unfold keyL
  split
  · exact fill64_length _ (by rw [sumN_length]; omega)
  · exact fill64_length _ (by omega)
theorem keyL_lt (ks : List Nat) (h : ∀ z ∈ ks, z < 256) : ∀ z ∈ keyL ks, z < 256 := by
  unfold keyL
  split
  · exact fill64_lt _ (sumN_lt _)
  · exact fill64_lt _ h
@[simp] theorem xorL_length (l : List Nat) (m : Nat) : (xorL l m).length = l.length := by simp [xorL]
theorem xorL_lt (l : List Nat) (m : Nat) (hm : m < 256) (h : ∀ z ∈ l, z < 256) : ∀ z ∈ xorL l m, z < 256 := by
  intro z hz
  obtain ⟨x, hx, rfl⟩ := List.mem_map.1 hz
  exact Nat.xor_lt_two_pow (n := 8) (h x hx) hm
theorem macN_length (ks ts : List Nat) : (macN ks ts).length = 32 := sumN_length _
theorem macN_lt (ks ts : List Nat) : ∀ z ∈ macN ks ts, z < 256 := sumN_lt _

theorem fill_u8s (l : List Nat) : fill 64 (.int .u8 0) (u8s l) = u8s (fill64 l) := by
  simp [fill, fill64, u8s]

set_option maxRecDepth 100000 in
set_option maxHeartbeats 2000000 in
/-- mac.filledKey -/
theorem filledKey_any (p : Option Addr) (len cap : Nat) (ks : List Nat) (hlen : len ≤ 60000) (w : World) (hT : Tab w) (hI : IsBytes w.heap.size w p len cap ks) :
    Calls Tryd.prog 32 #[.slice p len cap] w fun e w' => e = .returned (.agg (u8s (keyL ks)).toArray) ∧ Below w.heap.size w w' := by
  have HT : Hid (Tab w) := hT
  have HI : Hid (IsBytes w.heap.size w p len cap ks) := hI
  have HKl : Hid ((u8s (keyL ks)).length = 64) := by show _ = _; rw [u8s_length]; exact keyL_length ks
  have HK1 : Hid (∀ v ∈ u8s (keyL ks), v.oneCell' = true) := u8s_one _
  clear hT hI
  by_cases h64 : 64 < len
  · have h64i : (64 : Int) < (len : Int) := by omega
    have HKe : Hid (splice (List.replicate 64 (Value.int .u8 0)) 0 (u8s (sumN ks)) = u8s (keyL ks)) := by show _ = _; rw [splice_fill, fill_u8s, keyL, if_pos (by rw [HI.out.1]; exact h64)]
    have H11 : Hid (∀ W, Below w.heap.size w W → Calls Tryd.prog 39 #[.slice p len cap] W fun e w' => e = .returned (.agg (u8s (sumN ks)).toArray) ∧ Below W.heap.size W w') := fun W hb => sum_any p len cap ks hlen W (HT.out.later hb) (HI.out.later hb)
    have HSl : Hid ((u8s (sumN ks)).length = 32) := by show _ = _; rw [u8s_length]; exact sumN_length _
    have HSo : Hid (∀ v ∈ u8s (sumN ks), v.oneCell' = true) := u8s_one _
    generalize hKV : u8s (keyL ks) = KV at *
    have HKV : Hid (u8s (keyL ks) = KV) := hKV
    clear hKV
    generalize u8s (sumN ks) = SV at *
    go_enter Tryd.func32, Tryd.ntmps32
    go_wp2_with (first
      | (go_at_call 39; refine (H11.out _ (((Below.refl _ w).alloc (Nat.le_refl _) _).alloc (by simp) _)).mono ?_; rintro e w1 ⟨rfl, hb1⟩; have Hb1 : Hid (Below _ _ w1) := hb1; have hs1 : w.heap.size + 2 ≤ w1.heap.size := (by have h := hb1.size; simp only [World.size_alloc] at h; omega); clear hb1)
      | ((with_reducible show wpList _ _ _ (Oper.mk _ (Op.store 34 (.tmp 4) (.tmp 9)) _ _ _ _ :: _) _ _); refine wpList_store_Row rfl 34 (.tmp 4) (.tmp 9) rfl SV rfl rfl (Row.new _ _ _) (by rw [HSl.out]; exact size34) (by rw [HSl.out]; rfl) HSo.out ?_; simp only [Act.put])
      | ((with_reducible show wpList _ _ _ (Oper.mk (some 13) _ _ _ _ _ :: _) _ _); refine wpList_copy_splice rfl (.tmp 11) (.tmp 12) 22 22 rfl 5 Tryd.underlying22 size5 _ _ _ _ _ _ rfl rfl (w.heap.size + 1) 0 (List.replicate 64 (.int .u8 0)) 91 (Row.others (by omega) SV 0 (((Row.newB w _ 91 _).later Hb1.out).alloc _)) SV (by rw [HSl.out]; rfl) (fun _ => ⟨rfl, _, rfl, fun j v hj => by rw [Addr.add_mid, Nat.zero_add]; exact (Row.sets_all (vs := SV) (Row.new w1 34 _) (by rw [HSl.out]; rfl)).cell hj⟩) (by rw [HSl.out]; simp) HSo.out (w.heap.size + 1) _ (Below.refl _ _) (Nat.le_refl _) ?_; intro w2 HG2 hb2; rw [HKe.out] at HG2; have HR2 : Hid (Row w2 (w.heap.size + 1) 91 KV) := HG2; have HZ2 : Hid (Row w2 w.heap.size 91 (List.replicate 64 (.int .u8 0))) := (Row.below (Row.others (by omega) SV 0 ((((Row.new w 91 _).alloc _).later Hb1.out).alloc _)) hb2 (by omega)); have hb3 : Below w.heap.size w w2 := (below_setCells (by omega) SV 0 (((((Below.refl _ w).alloc (Nat.le_refl _) _).alloc (by simp) _).trans (Hb1.out.mono (by simp; omega))).alloc (by omega) _)).trans (hb2.mono (by omega)); clear hb2 HG2)
      | ((with_reducible show wpList _ _ _ (Oper.mk _ (Op.load 91 (.tmp 3)) _ _ _ _ :: _) _ _); refine wpList_load_Row rfl 91 (.tmp 3) rfl rfl HR2.out Tryd.underlying91 (by rw [HKl.out]; exact size91') ?_; simp only [Act.put, List.setIfInBounds_toArray, List.set_cons_zero, List.set_cons_succ])
      | ((with_reducible show wpList _ _ _ (Oper.mk _ (Op.store 91 (.tmp 2) (.tmp 14)) _ _ _ _ :: _) _ _); refine wpList_store_Row rfl 91 (.tmp 2) (.tmp 14) rfl KV rfl rfl HZ2.out (by rw [HKl.out]; exact size91') (by rw [HKl.out]; rfl) HK1.out ?_; simp only [Act.put]))
    refine bodyPost_ret (results_Row rfl rfl (Row.sets_all (vs := KV) HZ2.out (by rw [HKl.out]; rfl)) Tryd.underlying91 (by rw [HKl.out]; exact size91')) rfl ?_
    exact ⟨rfl, below_setCells (Nat.le_refl _) _ _ hb3⟩
  · have h64i : ¬ (64 : Int) < (len : Int) := by omega
    have HKe : Hid (splice (List.replicate 64 (Value.int .u8 0)) 0 (u8s ks) = u8s (keyL ks)) := by show _ = _; rw [splice_fill, fill_u8s, keyL, if_neg (by rw [HI.out.1]; exact h64)]
    have HSl : Hid ((u8s ks).length = len) := by show _ = _; rw [u8s_length]; exact HI.out.1
    have HSo : Hid (∀ v ∈ u8s ks, v.oneCell' = true) := u8s_one _
    have HSrc : Hid (∀ W, Below w.heap.size w W → 0 < (u8s ks).length → ∃ ad, p = some ad ∧ ∀ j v, (u8s ks)[j]? = some v → W.cell? (ad.add j) = some v) := fun W hb h0 => by
      rcases HI.out.2.2.2.2 with h | ⟨b, off, rfl, hbb, hc⟩
      · rw [HSl.out] at h0; omega
      · exact ⟨_, rfl, src_bytes HI.out.1 hc hbb hb⟩
    generalize hKV : u8s (keyL ks) = KV at *
    have HKV : Hid (u8s (keyL ks) = KV) := hKV
    clear hKV
    generalize u8s ks = SV at *
    go_enter Tryd.func32, Tryd.ntmps32
    go_wp2_with (first
      | ((with_reducible show wpList _ _ _ (Oper.mk (some 13) _ _ _ _ _ :: _) _ _); refine wpList_copy_splice rfl (.tmp 11) (.tmp 12) 22 22 rfl 5 Tryd.underlying22 size5 _ _ _ _ _ _ rfl rfl (w.heap.size + 1) 0 (List.replicate 64 (.int .u8 0)) 91 (Row.newB w _ 91 _) SV (by rw [HSl.out]; exact (Nat.min_eq_left (by omega)).symm) (fun h0 => ⟨rfl, HSrc.out _ (((Below.refl _ w).alloc (Nat.le_refl _) _).alloc (by simp) _) h0⟩) (by rw [HSl.out]; simp; omega) HSo.out (w.heap.size + 1) _ (Below.refl _ _) (Nat.le_refl _) ?_; intro w2 HG2 hb2; rw [HKe.out] at HG2; have HR2 : Hid (Row w2 (w.heap.size + 1) 91 KV) := HG2; have HZ2 : Hid (Row w2 w.heap.size 91 (List.replicate 64 (.int .u8 0))) := (Row.below ((Row.new w 91 _).alloc _) hb2 (by omega)); have hb3 : Below w.heap.size w w2 := (((Below.refl _ w).alloc (Nat.le_refl _) _).alloc (by simp) _).trans (hb2.mono (by omega)); clear hb2 HG2)
      | ((with_reducible show wpList _ _ _ (Oper.mk _ (Op.load 91 (.tmp 3)) _ _ _ _ :: _) _ _); refine wpList_load_Row rfl 91 (.tmp 3) rfl rfl HR2.out Tryd.underlying91 (by rw [HKl.out]; exact size91') ?_; simp only [Act.put, List.setIfInBounds_toArray, List.set_cons_zero, List.set_cons_succ])
      | ((with_reducible show wpList _ _ _ (Oper.mk _ (Op.store 91 (.tmp 2) (.tmp 14)) _ _ _ _ :: _) _ _); refine wpList_store_Row rfl 91 (.tmp 2) (.tmp 14) rfl KV rfl rfl HZ2.out (by rw [HKl.out]; exact size91') (by rw [HKl.out]; rfl) HK1.out ?_; simp only [Act.put]))
    refine bodyPost_ret (results_Row rfl rfl (Row.sets_all (vs := KV) HZ2.out (by rw [HKl.out]; rfl)) Tryd.underlying91 (by rw [HKl.out]; exact size91')) rfl ?_
    exact ⟨rfl, below_setCells (Nat.le_refl _) _ _ hb3⟩

/-- The first k bytes have the mark. -/
def markL (l : List Nat) (m k : Nat) : List Nat := xorL (l.take k) m ++ l.drop k
theorem markL_length (l : List Nat) (m k : Nat) : (markL l m k).length = l.length := by simp [markL]; omega
theorem markL_zero (l : List Nat) (m : Nat) : markL l m 0 = l := by simp [markL, xorL]
theorem markL_all (l : List Nat) (m : Nat) (k : Nat) (h : l.length ≤ k) : markL l m k = xorL l m := by simp [markL, List.take_of_length_le h, List.drop_eq_nil_of_le h]
theorem markL_at (l : List Nat) (m k : Nat) : (markL l m k).getD k 0 = l.getD k 0 := by
  unfold markL
  by_cases h : k < l.length
  · have hl : (xorL (l.take k) m).length = k := by simp; omega
    rw [List.getD_eq_getElem?_getD, List.getElem?_append_right (by omega), hl, List.getElem?_drop]
    simp
  · rw [List.drop_eq_nil_of_le (by omega), List.append_nil]
    simp [List.getElem?_eq_none (show (xorL (l.take k) m).length ≤ k by simp; omega), List.getElem?_eq_none (show l.length ≤ k by omega)]
theorem xorL_snoc (l : List Nat) (x m : Nat) : xorL (l ++ [x]) m = xorL l m ++ [x ^^^ m] := by simp [xorL]
theorem u8s_cons (x : Nat) (l : List Nat) : u8s (x :: l) = .int .u8 (x : Nat) :: u8s l := rfl
theorem markL_set (l : List Nat) (m k : Nat) (h : k < l.length) : (u8s (markL l m k)).set k (.int .u8 ((l.getD k 0 ^^^ m : Nat) : Int)) = u8s (markL l m (k + 1)) := by
  have hl : (xorL (l.take k) m).length = k := by simp; omega
  have e : l.getD k 0 = l[k] := by simp [List.getElem?_eq_getElem h]
  unfold markL
  rw [u8s_app, List.set_append_right _ _ (by rw [u8s_length]; omega), u8s_length, hl, Nat.sub_self, List.drop_eq_getElem_cons h, u8s_cons, List.set_cons_zero, List.take_succ_eq_append_getElem h, xorL_snoc, e, u8s_app, u8s_app, List.append_assoc]
  rfl

set_option maxRecDepth 100000 in
set_option maxHeartbeats 2000000 in
/-- mac.begun -/
theorem begun_any (ks : List Nat) (hl : ks.length = 64) (hz : ∀ z ∈ ks, z < 256) (m : Nat) (hm : m < 256) (w : World) (hT : Tab w) :
    Calls Tryd.prog 33 #[.agg (u8s ks).toArray, .int .u8 m] w fun e w' => ∃ B, e = .returned (.pointer (some ⟨B, 0, none⟩)) ∧ w.heap.size ≤ B ∧ RunAt w' B (xorL ks m) ∧ Below w.heap.size w w' := by
  have HT : Hid (Tab w) := hT
  have HL : Hid (ks.length = 64) := hl
  have HZ : Hid (∀ z ∈ ks, z < 256) := hz
  clear hT hl hz
  go_enter Tryd.func33, Tryd.ntmps33
  go_wp2
  have r0 := Row.new' w 91 (u8s ks)
  have hb0 : Below w.heap.size w (w.alloc (.cells (u8s ks).toArray 91)) := (Below.refl _ w).alloc (Nat.le_refl _) _
  generalize w.alloc (.cells (u8s ks).toArray 91) = w0 at *
  go_loopw [7] (fun i wr => ∃ k : Nat, k ≤ 64 ∧ i = .int .i64 k ∧ Row wr w.heap.size 91 (u8s (markL ks m k)) ∧ Below w.heap.size w wr)
    (fun i _ => 64 - (intOf i).toNat)
  case atStart => exact ⟨0, by omega, rfl, by rw [markL_zero]; exact r0, hb0⟩
  case round =>
    clear r0 hb0
    obtain ⟨k, hk, rfl, hrow, hbel⟩ := hrel
    by_cases hlt : k < 64
    · have hki : (k : Int) < 64 := by omega
      have cz := hrow.cell (u8s_at (l := markL ks m k) (i := k) (by rw [markL_length, HL.out]; omega))
      have fz := hrow.frozen k
      rw [markL_at] at cz
      have hx : ks.getD k 0 < 256 := all_getD (by decide) HZ.out k
      have HX := u8_xor_nat (ks.getD k 0) m hx hm
      have HS : Hid ((u8s (markL ks m k)).set k (.int .u8 ((ks.getD k 0 ^^^ m : Nat) : Int)) = u8s (markL ks m (k + 1))) := markL_set ks m k (by rw [HL.out]; omega)
      have HRow : Hid (Row wr w.heap.size 91 (u8s (markL ks m k))) := hrow
      clear hrow
      generalize ks.getD k 0 ^^^ m = y at *
      generalize ks.getD k 0 = x at *
      go_wp2
      go_roundw
      case rel =>
        have h := HRow.out.set k (.int .u8 (y : Int))
        rw [HS.out] at h
        exact ⟨k + 1, by omega, by go_num, h, hbel.setCell (p := ⟨w.heap.size, k, none⟩) (Nat.le_refl _) _⟩
      case measure => simp [intOf]; omega
    · obtain rfl : k = 64 := by omega
      rw [markL_all _ _ _ (by rw [HL.out]; omega)] at hrow
      have HRow : Hid (Row wr w.heap.size 91 (u8s (xorL ks m))) := hrow
      have hlr := hrow.lt
      clear hrow
      go_wp2_with (first
        | (go_at_call 40; refine (begin_any _).mono ?_; rintro e w2 ⟨B, rfl, hBs, hrun2, hb2⟩; have hb3 : Below w.heap.size w w2 := hbel.trans (hb2.mono hbel.size); have HRun2 : Hid (RunAt w2 B []) := hrun2; have HRow2 : Hid (Row w2 w.heap.size 91 (u8s (xorL ks m))) := HRow.out.later hb2; clear hrun2 hb2)
        | (go_at_call 34; refine (more_any B (by omega) [] (xorL ks m) _ 64 64 _ (HT.out.below hb3 HT.out.pos) HRun2.out ⟨by rw [xorL_length, HL.out], by omega, by omega, xorL_lt _ _ hm HZ.out, .inr ⟨w.heap.size, 0, rfl, HRow2.out.lt, fun i hi => by rw [Nat.zero_add]; exact HRow2.out.cell (u8s_at (by rw [xorL_length, HL.out]; exact hi))⟩⟩ (.inr (fun a ha => by cases ha; show w.heap.size ≠ B; omega)) (by simp) (by simp)).mono ?_; rintro e w4 ⟨⟨v4, rfl⟩, hrun4, hbut4⟩))
      go_ret
      exact ⟨B, rfl, by omega, hrun4, hb3.trans (hbut4.below (by have := hb3.size; omega) (by omega))⟩
end Go.Proofs.YtkpjbleogjmbjaaDoor.Sh
