/-
  What the reference's Stream answers: any bytes (up to 50,000), turned, in memory of their own. Nothing that lay before the call has turned.
-/
import Derived.Test.YtclelancbfoenaaGreatDoorBaseAll
import Derived.Test.YtclelancbfoenaaGreatDoorStream
import Derived.Test.YtclelancbfoenaaGreatDoorReD
import Derived.Test.YtclelancbfoenaaGreatDoorReRefBlock
namespace Go.Proofs.YtclelancbfoenaaGreatDoor.Re
open Go Go.RowKit

theorem byteVals_list (f : Nat → Nat) (k : Nat) : byteVals f k = u8s ((List.range k).map f) := by simp [byteVals, u8s, List.map_map]

/-- One block more of a text that is turned. -/
theorem take_turned (ts zs bk : List Nat) (k len m : Nat) (ht : ts.length = len) (hm : m = min 64 (len - 64 * k)) (hk : 64 * k < len)
    (h : ∀ i, i < 64 → 64 * k + i < len → ts.getD (64 * k + i) 0 = zs.getD (64 * k + i) 0 ^^^ bk.getD i 0) :
    ts.take (64 * k) ++ (List.range m).map (xorAt ((zs.drop (64 * k)).take 64) bk) = ts.take (64 * (k + 1)) := by
  apply List.ext_getElem?
  intro j
  have hlt : (ts.take (64 * k)).length = 64 * k := by rw [List.length_take]; omega
  by_cases h1 : j < 64 * k
  · rw [List.getElem?_append_left (by omega), List.getElem?_take, List.getElem?_take, if_pos h1, if_pos (by omega)]
  · rw [List.getElem?_append_right (by omega), hlt, List.getElem?_map]
    by_cases h2 : j - 64 * k < m
    · have hi := h (j - 64 * k) (by omega) (by omega)
      rw [show 64 * k + (j - 64 * k) = j by omega] at hi
      rw [List.getElem?_range h2, Option.map_some, List.getElem?_take, if_pos (by omega), List.getElem?_eq_getElem (show j < ts.length by omega)]
      congr 1
      have e1 : ts.getD j 0 = ts[j]'(by omega) := by simp [List.getElem?_eq_getElem (show j < ts.length by omega)]
      rw [← e1, hi]
      unfold xorAt
      congr 1
      simp only [List.getD_eq_getElem?_getD, List.getElem?_take, List.getElem?_drop, if_pos (show j - 64 * k < 64 by omega), show 64 * k + (j - 64 * k) = j by omega]
    · rw [List.getElem?_eq_none (by rw [List.length_range]; omega), Option.map_none, List.getElem?_eq_none (by rw [List.length_take]; omega)]

set_option maxRecDepth 100000 in
set_option maxHeartbeats 4000000 in
theorem refStream_core (c : Nat) (KV NV : List Value) (bs : Nat → List Nat) (HKl : Hid (KV.length = 32)) (HNl : Hid (NV.length = 12)) (HBl : Hid (∀ k, (bs k).length = 64)) (HBx : Hid (∀ k, ∀ z ∈ bs k, z < 256)) (hc : c < 4294967296)
    (HBr : Hid (∀ k w, Calls Tryz.prog 41 #[.agg KV.toArray, .int .u32 ((c + k) % 4294967296 : Nat), .agg NV.toArray] w fun e w' => e = .returned (.agg (u8s (bs k)).toArray) ∧ Below w.heap.size w w'))
    (p : Option Addr) (len cap : Nat) (zs ts : List Nat) (HX : Hid (∀ k i, i < 64 → 64 * k + i < len → ts.getD (64 * k + i) 0 = zs.getD (64 * k + i) 0 ^^^ (bs k).getD i 0)) (htl : ts.length = len) (hlen : len ≤ 50000)
    (w : World) (hI : IsBytes w.heap.size w p len cap zs) :
    Calls Tryz.prog 19 #[.agg KV.toArray, .int .u32 c, .agg NV.toArray, .slice p len cap] w fun e w' => ∃ v, e = .returned v ∧ Own w.heap.size w' v ts ∧ Below w.heap.size w w' := by
  have HI : Hid (IsBytes w.heap.size w p len cap zs) := hI
  have HTl : Hid (ts.length = len) := htl
  have HZl : Hid (zs.length = len) := hI.1
  have HZx : Hid (∀ z ∈ zs, z < 256) := hI.2.2.2.1
  clear hI htl
  obtain ⟨w0, hw0⟩ : ∃ w0, w0 = (w.alloc (.cells KV.toArray 23)).alloc (.cells NV.toArray 54) := ⟨_, rfl⟩
  have HW0 : Hid ((w.alloc (.cells KV.toArray 23)).alloc (.cells NV.toArray 54) = w0) := hw0.symm
  have Hb0 : Hid (Below w.heap.size w w0) := by rw [hw0]; exact ((Below.refl _ w).alloc (Nat.le_refl _) _).alloc (by simp) _
  have HrK : Hid (Row w0 w.heap.size 23 KV) := by rw [hw0]; exact (Row.new' w 23 _).alloc _
  have HrN : Hid (Row w0 (w.heap.size + 1) 54 NV) := by
    have h := Row.new' (w.alloc (.cells KV.toArray 23)) 54 NV
    rw [World.size_alloc] at h
    rw [hw0]
    exact h
  clear hw0
  obtain ⟨M, hM⟩ : ∃ M, M = (len + 63) / 64 := ⟨_, rfl⟩
  have HM : Hid (64 * M < len + 64 ∧ len ≤ 64 * M ∧ M ≤ 1000) := ⟨by omega, by omega, by omega⟩
  have HCh : Hid (∀ W, IsBytes W.heap.size W p len cap zs → Calls Tryz.prog 40 #[.slice p len cap, .int .i64 64] W fun e w' => ∃ q c vs, e = .returned (.slice q M c) ∧ w'.ownsRow W.heap.size 24 1 (.slice q M c) M vs ∧ TextsAt w' vs (fullL zs M) ∧ Below W.heap.size W w') := fun W h => by
    rw [hM]; exact refChunks_any p len cap zs W (by omega) h
  clear hM
  go_enter Tryz.func19, Tryz.ntmps19
  go_wp2_with (go_at_call 40; rw [HW0.out]; refine (HCh.out _ (HI.out.later Hb0.out)).mono ?_; rintro e w3 ⟨q3, c3, vs, rfl, hrow3, hte3, hb3⟩; have HR3 : Hid (w3.ownsRow w0.heap.size 24 1 (.slice q3 M c3) M vs) := hrow3; have HT3 : Hid (TextsAt w3 vs (fullL zs M)) := hte3; have Hb3 : Hid (Below w0.heap.size w0 w3) := hb3; clear hrow3 hte3 hb3)
  have HK3 : Hid (Row w3 w.heap.size 23 KV) := HrK.out.later Hb3.out
  have HN3 : Hid (Row w3 (w.heap.size + 1) 54 NV) := HrN.out.later Hb3.out
  have HbA : Hid (Below w.heap.size w w3) := Hb0.out.trans (Hb3.out.mono Hb0.out.size)
  have HC0 : Hid ((c + 0) % 4294967296 = c) := by show _ = _; omega
  clear HrK HrN Hb0 Hb3 HW0 HCh
  go_loopw [1, 9, 16] (fun ct v i wr => ∃ k : Nat, k ≤ M ∧ ct = .int .u32 ((c + k) % 4294967296 : Nat) ∧ i = .int .i64 k ∧ Own w3.heap.size wr v (ts.take (64 * k)) ∧ Below w3.heap.size w3 wr)
    (fun _ _ i _ => M - (intOf i).toNat)
  case atStart => exact ⟨0, Nat.zero_le _, by rw [HC0.out], rfl, Own.nil _ _, Below.refl _ _⟩
  case round =>
    obtain ⟨k, hk, rfl, rfl, hown, hbw⟩ := hrel
    by_cases hlt : k < M
    · have hki : (k : Int) < (M : Int) := by omega
      have hM1 := HM.out.2.2
      obtain ⟨g, rfl, hgl⟩ := row_some HR3.out (by omega)
      have hcell3 := (HR3.out.cellAt k (by omega)).trans (row_at HR3.out hlt)
      have hcell := (hbw.cell (p := ⟨g, k, none⟩) hgl).trans hcell3
      have hv : Own 0 w3 (vs.getD k undef) ((zs.drop (64 * k)).take 64) := by
        have h := HT3.out.2 k (by simpa using hlt)
        have e : (fullL zs M).getD k [] = (zs.drop (64 * k)).take 64 := by simp [fullL, hlt]
        rw [e] at h
        exact h
      obtain ⟨m, hm⟩ : ∃ m, m = min 64 (len - 64 * k) := ⟨_, rfl⟩
      have Hm : Hid (m = min 64 (len - 64 * k) ∧ 64 * k < len) := ⟨hm, by have := HM.out; omega⟩
      obtain ⟨q1, c1, hq1⟩ := own_len hv (n := m) (by rw [List.length_take, List.length_drop, HZl.out]; omega)
      rw [hq1] at hcell hv
      have HIc : Hid (IsBytes w3.heap.size w3 q1 m c1 ((zs.drop (64 * k)).take 64)) := hv.bytes (fun z hz => HZx.out z (List.mem_of_mem_drop (List.mem_of_mem_take hz)))
      have HTk : Hid (ts.take (64 * k) ++ (List.range m).map (xorAt ((zs.drop (64 * k)).take 64) (bs k)) = ts.take (64 * (k + 1))) := take_turned ts zs (bs k) k len m HTl.out hm Hm.out.2 (fun i hi hl => HX.out k i hi hl)
      have hm64 : m ≤ 64 := by omega
      have HBk := HBr.out k
      have HBlk : Hid ((u8s (bs k)).length = 64) := by show _ = _; rw [u8s_length]; exact HBl.out k
      have HB1 : Hid (∀ v ∈ u8s (bs k), v.oneCell' = true) := u8s_one _
      have HBxk : Hid (∀ z ∈ bs k, z < 256) := HBx.out k
      have HBlk0 : Hid ((bs k).length = 64) := HBl.out k
      have eC : ((((c + k) % 4294967296 : Nat) : Int) + 1) % 4294967296 = (((c + (k + 1)) % 4294967296 : Nat) : Int) := by omega
      have HeC : Hid (((((c + k) % 4294967296 : Nat) : Int) + 1) % 4294967296 = (((c + (k + 1)) % 4294967296 : Nat) : Int)) := eC
      have HO : Hid (Own w3.heap.size wr u9 (ts.take (64 * k))) := hown
      have Hbw : Hid (Below w3.heap.size w3 wr) := hbw
      have HKr : Hid (Row wr w.heap.size 23 KV) := HK3.out.later hbw
      have HNr : Hid (Row wr (w.heap.size + 1) 54 NV) := HN3.out.later hbw
      have HOl : Hid ((ts.take (64 * k)).length ≤ 50000) := by show _ ≤ _; rw [List.length_take, HTl.out]; omega
      clear hown hbw hv hcell3 eC hm
      generalize hBV : bs k = bk at *
      clear hBV
      have H6 : Hid (∀ (W : World) (z : Array Value), z.size = 64 → Row ((W.alloc (.cells z 86)).setCells W.heap.size 0 (u8s bk)) W.heap.size 86 (u8s bk)) := fun W z hz => Row.sets_all (Row.new W 86 z) (by rw [HBlk.out, Array.length_toList, hz])
      generalize hck : (c + k) % 4294967296 = ck at *
      clear hck
      generalize (zs.drop (64 * k)).take 64 = zk at *
      generalize ts.take (64 * k) = T at *
      go_wp2_with (first
        | ((with_reducible show wpList _ _ _ (Oper.mk _ (Op.load 23 (.tmp 4)) _ _ _ _ :: _) _ _); refine wpList_load_Row rfl 23 (.tmp 4) rfl rfl HKr.out Tryz.underlying23 (by rw [HKl.out]; exact size23) ?_; simp only [Act.put, List.setIfInBounds_toArray, List.set_cons_zero, List.set_cons_succ])
        | ((with_reducible show wpList _ _ _ (Oper.mk _ (Op.load 54 (.tmp 6)) _ _ _ _ :: _) _ _); refine wpList_load_Row rfl 54 (.tmp 6) rfl rfl HNr.out Tryz.underlying54 (by rw [HNl.out]; exact size54) ?_; simp only [Act.put, List.setIfInBounds_toArray, List.set_cons_zero, List.set_cons_succ])
        | (go_at_call 41; refine (HBk _).mono ?_; rintro e w5 ⟨rfl, hb5⟩; have Hb5 : Hid (Below wr.heap.size wr w5) := hb5; clear hb5)
        | ((with_reducible show wpList _ _ _ (Oper.mk _ (Op.store 86 (.tmp 12) (.tmp 23)) _ _ _ _ :: _) _ _); refine wpList_store_Row rfl 86 (.tmp 12) (.tmp 23) rfl (u8s bk) rfl rfl (Row.new w5 _ _) (by rw [HBlk.out]; exact size86) (by rw [HBlk.out]; rfl) HB1.out ?_; simp only [Act.put])
        | (go_at_call 42; refine (refXor_any q1 (some ⟨w5.heap.size, 0, none⟩) c1 64 m 64 zk bk _ (by omega) (by omega) (HIc.out.later (Hbw.out.trans ((below_setCells Hb5.out.size (u8s bk) 0 (Hb5.out.alloc Hb5.out.size _)).mono Hbw.out.size))) (bytes_of_row (H6.out w5 _ rfl) HBxk.out HBlk0.out (by omega))).mono ?_; rintro e w7 ⟨v7, rfl, hrow7, hb7⟩; have Hb7 : Hid (Below wr.heap.size wr w7) := (below_setCells Hb5.out.size (u8s bk) 0 (Hb5.out.alloc Hb5.out.size _)).trans (hb7.mono (by rw [size_setCells, World.size_alloc]; have := Hb5.out.size; omega)); rw [show min m 64 = m by omega, byteVals_list] at hrow7; have HO7 : Hid (Own 0 w7 v7 ((List.range m).map (xorAt zk bk))) := (by have h := ownsRow_mono (Nat.zero_le _) hrow7; unfold Own; rw [List.length_map, List.length_range]; exact h); obtain ⟨q7, c7, hq7⟩ := own_len HO7.out (n := m) (by rw [List.length_map, List.length_range]); subst hq7; have HI7 : Hid (IsBytes w7.heap.size w7 q7 m c7 ((List.range m).map (xorAt zk bk))) := HO7.out.bytes (fun z hz => (by obtain ⟨i, _, rfl⟩ := List.mem_map.1 hz; exact Nat.xor_lt_two_pow (n := 8) (getD_of_all HIc.out.2.2.2.1 _) (getD_of_all HBxk.out _))); clear hb7 hrow7)
        | (at_builtin; refine wpList_append_bytes rfl _ _ rfl w3.heap.size u9 T rfl (HO.out.later Hb7.out) rfl HI7.out (by have := HOl.out; omega) (by have h1 := Hbw.out.size; have h2 := Hb7.out.size; omega) ?_; intro u8' w8 hown8 hgrow8; have H8 : Hid (Own w3.heap.size w8 u8' (T ++ (List.range m).map (xorAt zk bk)) ∧ Below w3.heap.size w3 w8) := ⟨hown8, below_own (Hbw.out.trans (Hb7.out.mono Hbw.out.size)) (by have h1 := Hbw.out.size; have h2 := Hb7.out.size; omega) (HO.out.later Hb7.out) hgrow8⟩; clear hown8 hgrow8))
      go_roundw
      case rel => exact ⟨k + 1, by omega, by rw [HeC.out], by go_num, by rw [← HTk.out]; exact H8.out.1, H8.out.2⟩
      case measure => simp [intOf]; omega
    · obtain rfl : k = M := by omega
      rw [List.take_of_length_le (by have := HM.out; have := HTl.out; omega)] at hown
      have HO : Hid (Own w.heap.size wr u9 ts) := hown.mono HbA.out.size
      have HbE : Hid (Below w.heap.size w wr) := HbA.out.trans (hbw.mono HbA.out.size)
      clear hown hbw
      go_wp2
      go_ret
      exact ⟨_, rfl, HO.out, HbE.out⟩

/-- the reference's Stream -/
theorem refStream_any (key : List Nat) (c : Nat) (nonce : List Nat) (hk : key.length = 32 ∧ ∀ z ∈ key, z < 256) (hc : c < 4294967296) (hn : nonce.length = 12 ∧ ∀ z ∈ nonce, z < 256) (p : Option Addr) (len cap : Nat) (zs : List Nat) (hlen : len ≤ 50000) (w : World) (hI : IsBytes w.heap.size w p len cap zs) :
    Calls Tryz.prog 19 #[.agg (u8s key).toArray, .int .u32 c, .agg (u8s nonce).toArray, .slice p len cap] w fun e w' => ∃ v, e = .returned v ∧ Own w.heap.size w' v (streamN key c nonce zs) ∧ Below w.heap.size w w' :=
  refStream_core c (u8s key) (u8s nonce) (fun k => blockN key ((c + k) % 4294967296) nonce) ((u8s_length _).trans hk.1) ((u8s_length _).trans hn.1) (fun k => blockN_length _ _ _) (fun k => blockN_lt _ _ _) hc
    (fun k w => refBlock_any key _ nonce hk.1 hk.2 (Nat.mod_lt _ (by decide)) hn.1 hn.2 w) p len cap zs (streamN key c nonce zs)
    (fun k i hi hl => by rw [streamN_at key c nonce zs (by rw [hI.1]; exact hl), show (64 * k + i) / 64 = k by omega, show (64 * k + i) % 64 = i by omega])
    ((streamN_length _ _ _ _).trans hI.1) hlen w hI
end Go.Proofs.YtclelancbfoenaaGreatDoor.Re
