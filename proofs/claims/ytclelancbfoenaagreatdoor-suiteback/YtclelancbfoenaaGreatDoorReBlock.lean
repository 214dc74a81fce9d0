/-
  What chacha.Block answers: the block of a key, a counter and a nonce. Nothing that lay before the call has turned.
-/
import Derived.Test.YtclelancbfoenaaGreatDoorMade
import Derived.Test.YtclelancbfoenaaGreatDoorReFirst
import Derived.Test.YtclelancbfoenaaGreatDoorReBytes
namespace Go.Proofs.YtclelancbfoenaaGreatDoor.Re
open Go.RowKit

theorem size86 : (Tryz.prog.info? 86).map (·.size) = some 64 := by kernel_rfl

theorem run_index120 (cs : List Value) (k : Nat) (v : Value) (hk : k < 16) (hv : cs[k]? = some v) (w : World) : (Instr.index 120 (.agg cs.toArray) (.int .i64 (k : Int))).run Tryz.prog w = .ok v w := by
  simp [Instr.index, run_underlying Tryz.underlying120, asIntOf, go_sem, hv]
  omega
theorem run_arrayAt86 (b o L C : Nat) (h : 64 ≤ L) (w : World) : (Instr.arrayAt 86 (.slice (some ⟨b, o, none⟩) L C)).run Tryz.prog w = .ok (.pointer (some ⟨b, o, none⟩)) w := by
  have hi : (64 : Int) ≤ (L : Int) := by omega
  simp [Instr.arrayAt, run_underlying Tryz.underlying86, go_sem, h]

/-- The first k of x with those of s added. -/
def addP (x s : List Nat) (k : Nat) : List Nat := (List.range 16).map fun i => if i < k then (x.getD i 0 + s.getD i 0) % 4294967296 else x.getD i 0
@[simp] theorem addP_length (x s : List Nat) (k : Nat) : (addP x s k).length = 16 := by simp [addP]
theorem addP_at (x s : List Nat) (k i : Nat) (hi : i < 16) : (addP x s k).getD i 0 = if i < k then (x.getD i 0 + s.getD i 0) % 4294967296 else x.getD i 0 := by
  simp only [addP, List.getD_eq_getElem?_getD, List.getElem?_map, List.getElem?_range hi, Option.map_some, Option.getD_some]
theorem addP_zero (x s : List Nat) (hx : x.length = 16) : addP x s 0 = x := by
  apply List.ext_getElem?
  intro i
  simp only [addP, List.getElem?_map]
  by_cases hi : i < 16
  · rw [List.getElem?_range hi, List.getElem?_eq_getElem (show i < x.length by omega)]
    simp [List.getElem?_eq_getElem (show i < x.length by omega)]
  · rw [List.getElem?_eq_none (by simp; omega), List.getElem?_eq_none (show x.length ≤ i by omega)]
    rfl
theorem addP_all (x s : List Nat) : addP x s 16 = addN x s := by
  unfold addP addN
  exact List.map_congr_left (fun i hi => by rw [if_pos (List.mem_range.1 hi)])
theorem addP_set (x s : List Nat) (k : Nat) (hk : k < 16) : (u32s (addP x s k)).set k (.int .u32 ((x.getD k 0 + s.getD k 0) % 4294967296 : Nat)) = u32s (addP x s (k + 1)) := by
  apply List.ext_getElem?
  intro i
  rw [List.getElem?_set]
  by_cases h : k = i
  · subst h
    simp [u32s, addP, hk]
  · simp only [h, if_false, u32s, addP, List.getElem?_map]
    by_cases hi : i < 16
    · rw [List.getElem?_range hi]
      simp only [Option.map_some]
      by_cases h2 : i < k
      · simp [h2, show i < k + 1 by omega]
      · simp [h2, show ¬ i < k + 1 by omega]
    · simp [List.getElem?_eq_none (show (List.range 16).length ≤ i by simp; omega)]
theorem addN_lt (x s : List Nat) : ∀ z ∈ addN x s, z < 4294967296 := fun z hz => by
  obtain ⟨i, _, rfl⟩ := List.mem_map.1 hz
  exact Nat.mod_lt _ (by decide)
theorem bytesOf_low (ls : List Nat) {k : Nat} (hk : k = 4 * ls.length) : byteVals (bytesOf ls) k = u8s (lowBytes ls) := by
  subst hk
  unfold byteVals u8s lowBytes
  rw [List.map_map]
  exact List.map_congr_left (fun i _ => by simp [bytesOf, byteAt])

set_option maxRecDepth 100000 in
set_option maxHeartbeats 4000000 in
theorem block_core (key : List Nat) (c : Nat) (nonce st dn : List Nat) (hsl : st.length = 16) (hsx : ∀ z ∈ st, z < 4294967296) (hdl : dn.length = 16) (hdx : ∀ z ∈ dn, z < 4294967296) (hk : key.length = 32) (hn : nonce.length = 12)
    (HF : Hid (∀ w, Tab w → Calls Tryz.prog 90 #[.agg (u8s key).toArray, .int .u32 c, .agg (u8s nonce).toArray] w fun e w' => e = .returned (.agg (u32s st).toArray) ∧ Below w.heap.size w w'))
    (HM : Hid (∀ w, Tab w → Calls Tryz.prog 91 #[.agg (u32s st).toArray] w fun e w' => e = .returned (.agg (u32s dn).toArray) ∧ Below w.heap.size w w')) (w : World) (hT : Tab w) :
    Calls Tryz.prog 77 #[.agg (u8s key).toArray, .int .u32 c, .agg (u8s nonce).toArray] w fun e w' => e = .returned (.agg (u8s (lowBytes (addN dn st))).toArray) ∧ Below w.heap.size w w' := by
  have HT : Hid (Tab w) := hT
  have HKl : Hid ((u8s key).length = 32) := by show _ = _; rw [u8s_length, hk]
  have HNl : Hid ((u8s nonce).length = 12) := by show _ = _; rw [u8s_length, hn]
  have HSl : Hid ((u32s st).length = 16) := by show _ = _; rw [u32s_length, hsl]
  have HDl : Hid ((u32s dn).length = 16) := by show _ = _; rw [u32s_length, hdl]
  have HS1 : Hid (∀ v ∈ u32s st, v.oneCell' = true) := u32s_one _
  have HD1 : Hid (∀ v ∈ u32s dn, v.oneCell' = true) := u32s_one _
  have HSi : Hid (∀ i, i < 16 → (u32s st)[i]? = some (.int .u32 (st.getD i 0 : Nat))) := fun i hi => u32s_at (by omega)
  have HSx : Hid (∀ z ∈ st, z < 4294967296) := hsx
  have HDx : Hid (∀ z ∈ dn, z < 4294967296) := hdx
  have HD0 : Hid (u32s dn = u32s (addP dn st 0)) := by show _ = _; rw [addP_zero _ _ hdl]
  clear hT hk hn hsl hdl hsx hdx
  generalize hKV : u8s key = KV at *
  generalize hNV : u8s nonce = NV at *
  clear hKV hNV
  generalize hSV : u32s st = SV at *
  have HSV : Hid (u32s st = SV) := hSV
  clear hSV
  generalize hDV : u32s dn = DV at *
  clear hDV
  have H0 : Hid (∀ z : Array Value, Row (((w.alloc (.cells KV.toArray 23)).alloc (.cells NV.toArray 54)).alloc (.cells z 86)) w.heap.size 23 KV ∧ Row (((w.alloc (.cells KV.toArray 23)).alloc (.cells NV.toArray 54)).alloc (.cells z 86)) (w.heap.size + 1) 54 NV ∧ Row (((w.alloc (.cells KV.toArray 23)).alloc (.cells NV.toArray 54)).alloc (.cells z 86)) (w.heap.size + 1 + 1) 86 z.toList ∧ Below w.heap.size w (((w.alloc (.cells KV.toArray 23)).alloc (.cells NV.toArray 54)).alloc (.cells z 86)) ∧ w.heap.size + 3 ≤ (((w.alloc (.cells KV.toArray 23)).alloc (.cells NV.toArray 54)).alloc (.cells z 86)).heap.size) := fun z => by
    have h2 := Row.new' (w.alloc (.cells KV.toArray 23)) 54 NV
    rw [World.size_alloc] at h2
    have h3 := Row.new ((w.alloc (.cells KV.toArray 23)).alloc (.cells NV.toArray 54)) 86 z
    rw [World.size_alloc, World.size_alloc] at h3
    exact ⟨((Row.new' w 23 KV).alloc _).alloc _, h2.alloc _, h3, (((Below.refl _ w).alloc (Nat.le_refl _) _).alloc (by simp) _).alloc (by simp; omega) _, by simp⟩
  go_enter Tryz.func77, Tryz.ntmps77
  go_wp2_with (first
    | ((with_reducible show wpList _ _ _ (Oper.mk _ (Op.load 23 (.tmp 3)) _ _ _ _ :: _) _ _); refine wpList_load_Row rfl 23 (.tmp 3) rfl rfl (H0.out _).1 Tryz.underlying23 (by rw [HKl.out]; exact size23) ?_; simp only [Act.put, List.setIfInBounds_toArray, List.set_cons_zero, List.set_cons_succ])
    | ((with_reducible show wpList _ _ _ (Oper.mk _ (Op.load 54 (.tmp 5)) _ _ _ _ :: _) _ _); refine wpList_load_Row rfl 54 (.tmp 5) rfl rfl (H0.out _).2.1 Tryz.underlying54 (by rw [HNl.out]; exact size54) ?_; simp only [Act.put, List.setIfInBounds_toArray, List.set_cons_zero, List.set_cons_succ])
    | (go_at_call 90; refine (HF.out _ (HT.out.later (H0.out _).2.2.2.1)).mono ?_; rintro e w1 ⟨rfl, hb1⟩; have HR1 := ((H0.out _).2.2.1.later hb1); have hbA : Below w.heap.size w w1 := ((H0.out _).2.2.2.1.trans (hb1.mono (H0.out _).2.2.2.1.size)); have hs1 : w.heap.size + 3 ≤ w1.heap.size := Nat.le_trans (H0.out _).2.2.2.2 hb1.size; have HT1 : Hid (Tab w1) := HT.out.later hbA; clear hb1; have HbA : Hid (Below w.heap.size w w1) := hbA; clear hbA)
    | ((with_reducible show wpList _ _ _ (Oper.mk _ (Op.store 120 (.tmp 7) (.tmp 14)) _ _ _ _ :: _) _ _); refine wpList_store_Row rfl 120 (.tmp 7) (.tmp 14) rfl SV rfl rfl (Row.new w1 120 _) (by rw [HSl.out]; exact size120) (by rw [HSl.out]; rfl) HS1.out ?_; simp only [Act.put])
    | ((with_reducible show wpList _ _ _ (Oper.mk (some 15) (Op.load 120 (.tmp 7)) _ _ _ _ :: _) _ _); refine wpList_load_Row rfl 120 (.tmp 7) rfl rfl (Row.sets_all (Row.new w1 120 _) (by rw [HSl.out]; rfl)) Tryz.underlying120 (by rw [HSl.out]; exact size120) ?_; simp only [Act.put, List.setIfInBounds_toArray, List.set_cons_zero, List.set_cons_succ])
    | (go_at_call 91; refine (HM.out _ (HT1.out.later (below_setCells (Nat.le_refl _) SV 0 ((Below.refl _ w1).alloc (Nat.le_refl _) _)))).mono ?_; rintro e w2 ⟨rfl, hb2⟩; have Hb2 : Hid _ := hb2; have hs2 : w1.heap.size + 1 ≤ w2.heap.size := (by have h := hb2.size; rw [size_setCells, World.size_alloc] at h; exact h); clear hb2)
    | ((with_reducible show wpList _ _ _ (Oper.mk _ (Op.store 120 (.tmp 8) (.tmp 16)) _ _ _ _ :: _) _ _); refine wpList_store_Row rfl 120 (.tmp 8) (.tmp 16) rfl DV rfl rfl (Row.new w2 120 _) (by rw [HDl.out]; exact size120) (by rw [HDl.out]; rfl) HD1.out ?_; simp only [Act.put])
    | ((with_reducible show wpList _ _ _ (Oper.mk (some 17) (Op.load 120 (.tmp 7)) _ _ _ _ :: _) _ _); refine wpList_load_Row rfl 120 (.tmp 7) rfl rfl (Row.others (by omega) DV 0 (Row.alloc (Row.later (Row.sets_all (Row.new w1 120 _) (by rw [HSl.out]; rfl)) Hb2.out) _)) Tryz.underlying120 (by rw [HSl.out]; exact size120) ?_; simp only [Act.put, List.setIfInBounds_toArray, List.set_cons_zero, List.set_cons_succ]))
  rw [z16u32]
  rw [z16u32] at Hb2
  have rO : Row w2 (w.heap.size + 1 + 1) 86 (List.replicate 64 (Value.int .u8 0)) := Row.later (Row.others (by omega) SV 0 (HR1.alloc _)) Hb2.out
  have rO4 : Row ((w2.alloc (.cells (List.replicate 16 (Value.int .u32 0)).toArray 120)).setCells w2.heap.size 0 DV) (w.heap.size + 1 + 1) 86 (List.replicate 64 (Value.int .u8 0)) := Row.others (by omega) DV 0 (rO.alloc _)
  have rL4 : Row ((w2.alloc (.cells (List.replicate 16 (Value.int .u32 0)).toArray 120)).setCells w2.heap.size 0 DV) w2.heap.size 120 (u32s (addP dn st 0)) := by rw [← HD0.out]; exact Row.sets_all (Row.new' w2 120 _) (by rw [HDl.out]; rfl)
  have hb4 : Below w.heap.size w ((w2.alloc (.cells (List.replicate 16 (Value.int .u32 0)).toArray 120)).setCells w2.heap.size 0 DV) :=
    below_setCells (by omega) DV 0 (((below_setCells (by omega) SV 0 (HbA.out.alloc (by omega) _)).trans (Hb2.out.mono (by rw [size_setCells, World.size_alloc]; omega))).alloc (by omega) _)
  generalize ((w2.alloc (.cells (List.replicate 16 (Value.int .u32 0)).toArray 120)).setCells w2.heap.size 0 DV) = w4 at *
  clear HR1 Hb2 HbA rO HT1 HF HM H0
  go_loopw [18] (fun i wr => ∃ k : Nat, k ≤ 16 ∧ i = .int .i64 k ∧ Row wr w2.heap.size 120 (u32s (addP dn st k)) ∧ Row wr (w.heap.size + 1 + 1) 86 (List.replicate 64 (Value.int .u8 0)) ∧ Below w.heap.size w wr)
    (fun i _ => 16 - (intOf i).toNat)
  case atStart => exact ⟨0, by omega, rfl, rL4, rO4, hb4⟩
  case round =>
    clear rO4 rL4 hb4
    obtain ⟨k, hk, rfl, hrL, hrO, hBw⟩ := hrel
    by_cases hk16 : k < 16
    · have hki : (k : Int) < 16 := by omega
      have cL := hrL.cell (u32s_at (l := addP dn st k) (i := k) (by simp; omega))
      rw [addP_at _ _ _ _ hk16, if_neg (by omega)] at cL
      have cf := hrL.frozen k
      have bx : dn.getD k 0 < 4294967296 := all_getD (by decide) HDx.out _
      have by' : st.getD k 0 < 4294967296 := all_getD (by decide) HSx.out _
      have HM : Hid ((u32s (addP dn st k)).set k (.int .u32 ((dn.getD k 0 + st.getD k 0) % 4294967296 : Nat)) = u32s (addP dn st (k + 1))) := addP_set dn st k hk16
      have HrL : Hid (Row wr w2.heap.size 120 (u32s (addP dn st k))) := hrL
      have HrO : Hid (Row wr (w.heap.size + 1 + 1) 86 (List.replicate 64 (Value.int .u8 0))) := hrO
      have cI : ∀ w : World, (Instr.index 120 (.agg SV.toArray) (.int .i64 (k : Int))).run Tryz.prog w = .ok (.int .u32 (st.getD k 0 : Nat)) w := fun w => run_index120 _ k _ hk16 (HSi.out k hk16) w
      generalize dn.getD k 0 = x at *
      generalize st.getD k 0 = y at *
      clear hrL hrO
      go_wp2
      go_roundw
      case rel =>
        have e1 : (((x : Int) + y) % 4294967296) = (((x + y) % 4294967296 : Nat) : Int) := by omega
        refine ⟨k + 1, by omega, by go_num, ?_, HrO.out.other (by simp; omega) _, hBw.setCell (p := ⟨w2.heap.size, k, none⟩) (by show _ ≤ w2.heap.size; omega) _⟩
        have h := HrL.out.set k (.int .u32 ((x + y) % 4294967296 : Nat))
        rw [HM.out] at h
        rw [e1]
        exact h
      case measure => simp [intOf]; omega
    · obtain rfl : k = 16 := by omega
      rw [addP_all] at hrL
      have HrL : Hid (Row wr w2.heap.size 120 (u32s (addN dn st))) := hrL
      have HrO : Hid (Row wr (w.heap.size + 1 + 1) 86 (List.replicate 64 (Value.int .u8 0))) := hrO
      have HBw : Hid (Below w.heap.size w wr) := hBw
      have hlw := hrL.lt
      have HB : Hid (Calls Tryz.prog 56 #[.slice (some ⟨w2.heap.size, 0, none⟩) 16 16] wr fun e w' => ∃ v, e = .returned v ∧ w'.ownsRow wr.heap.size 5 1 v 64 (u8s (lowBytes (addN dn st))) ∧ Below wr.heap.size wr w') := by
        have h := bytes_some w2.heap.size 0 16 16 (addN dn st) wr (by omega) hlw (fun i hi => by rw [Nat.zero_add]; exact hrL.cell (u32s_at (by simp; omega)))
        rw [bytesOf_low _ (by simp)] at h
        exact h
      have HVl : Hid ((u8s (lowBytes (addN dn st))).length = 64) := by show _ = _; rw [u8s_length, lowBytes_length, addN_length]
      have HV1 : Hid (∀ v ∈ u8s (lowBytes (addN dn st)), v.oneCell' = true) := u8s_one _
      clear hrL hrO hBw
      generalize hV : u8s (lowBytes (addN dn st)) = V at *
      have HV : Hid (u8s (lowBytes (addN dn st)) = V) := hV
      clear hV
      go_wp2_with (first
        | (go_at_call 56; refine HB.out.mono ?_; rintro e w5 ⟨v5, rfl, hrow5, hb5⟩; obtain ⟨q5, c5, rfl⟩ := slice_of_row hrow5; obtain ⟨g5, cur5, rfl, hg5, hrg5, htk5⟩ := row_of_own hrow5 (by omega); have Hrg5 : Hid (w5.rangeAt g5 0 V) := (by have h := Row.mid hrg5 htk5 0 64 (by omega); rw [List.drop_zero, List.take_of_length_le (by rw [HVl.out]; omega)] at h; exact h); have Hb5 : Hid _ := hb5; clear hb5 hrow5 hrg5 htk5; have hA := run_arrayAt86 g5 0 64 c5 (by omega))
        | ((with_reducible show wpList _ _ _ (Oper.mk _ (Op.load 86 (.tmp 31)) _ _ _ _ :: _) _ _); refine wpList_load_mid rfl 86 (.tmp 31) rfl g5 0 rfl V _ Hrg5.out Tryz.underlying86 rfl (by rw [HVl.out]; exact size86) ?_; simp only [Act.put, List.setIfInBounds_toArray, List.set_cons_zero, List.set_cons_succ])
        | ((with_reducible show wpList _ _ _ (Oper.mk _ (Op.store 86 (.tmp 6) (.tmp 32)) _ _ _ _ :: _) _ _); refine wpList_store_Row rfl 86 (.tmp 6) (.tmp 32) rfl V rfl rfl (HrO.out.later Hb5.out) (by rw [HVl.out]; exact size86) (by rw [HVl.out]; rfl) HV1.out ?_; simp only [Act.put]))
      refine bodyPost_ret (results_Row rfl rfl (Row.sets_all (vs := V) (HrO.out.later Hb5.out) (by rw [HVl.out]; rfl)) Tryz.underlying86 (by rw [HVl.out]; exact size86)) rfl ?_
      exact ⟨by rw [HV.out], below_setCells (by omega) _ _ (HBw.out.trans (Hb5.out.mono HBw.out.size))⟩

/-- chacha.Block. -/
theorem block_any (key : List Nat) (c : Nat) (nonce : List Nat) (hk : key.length = 32) (hkx : ∀ z ∈ key, z < 256) (hc : c < 4294967296) (hn : nonce.length = 12) (hnx : ∀ z ∈ nonce, z < 256) (w : World) (hT : Tab w) :
    Calls Tryz.prog 77 #[.agg (u8s key).toArray, .int .u32 c, .agg (u8s nonce).toArray] w fun e w' => e = .returned (.agg (u8s (blockN key c nonce)).toArray) ∧ Below w.heap.size w w' :=
  block_core key c nonce (stateN key c nonce) (doublesN (stateN key c nonce) 10) (stateN_length _ _ _) (stateN_lt hkx hc hnx) (by rw [doublesN_length, stateN_length]) (doublesN_lt (stateN_lt hkx hc hnx) 10) hk hn
    (fun w hT => firstState_any key c nonce hk hkx hn hnx w hT) (fun w hT => mixed_any _ (stateN_length _ _ _) (stateN_lt hkx hc hnx) w hT) w hT
end Go.Proofs.YtclelancbfoenaaGreatDoor.Re
