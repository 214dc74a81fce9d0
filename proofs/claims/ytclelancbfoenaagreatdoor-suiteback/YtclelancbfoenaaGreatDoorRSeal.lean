/-
  realSeal: nonce, turned text, tag.
-/
import Derived.Test.YtclelancbfoenaaGreatDoorNonce
import Derived.Test.YtclelancbfoenaaGreatDoorStream
import Derived.Test.YtclelancbfoenaaGreatDoorSLenAll

namespace Go.Proofs.YtclelancbfoenaaGreatDoor
open Go.RowKit Go.Shelf

theorem wpHeld_loadS {P : Program} {ops : Array Oper} {S : World → Prop} {K : Act → Prop} {a : Act} {o : Oper} {rest : List Oper} (hw : Region.wanted o (yielded ops a.tmps) = true) (ty : TypeId) (x : Operand) (ho : o.op = .load ty x)
    (b off : Nat) (hx : a.eval x = .pointer (some ⟨b, off, none⟩)) (cs : List Value) {d : TypeDesc} (hS : ∀ w, S w → w.rangeAt b off cs) (hu : P.underlying ty = some d) (hd : d.isRow = true) (hi : (P.info? ty).map (·.size) = some cs.length)
    (h : wpHeld P ops S K rest (a.put o.dst (.agg cs.toArray))) : wpHeld P ops S K (o :: rest) a := ⟨_, yieldsIf_load_mid hw ty x ho b off hx cs _ hS hu hd hi, h⟩

/-- The text, padded and turned. -/
def turnedN (k a p : List Nat) : List Nat := Re.streamN (useN k 101) 1 (nonceN k a (Re.padL p)) (Re.padL p)
/-- What is sealed. -/
def sealN (k a p : List Nat) : List Nat := nonceN k a (Re.padL p) ++ turnedN k a p ++ tagN k a (nonceN k a (Re.padL p)) (turnedN k a p)

set_option maxRecDepth 100000 in
set_option maxHeartbeats 2000000 in
theorem realSeal_any (k : List Nat) (hk : IsKey32 k) (pa : Option Addr) (la ca : Nat) (za : List Nat) (hla : la ≤ 10000) (pp : Option Addr) (lp cp : Nat) (zp : List Nat) (hlp : lp ≤ 60000) (hbk : bucketN (lp : Int) ≤ 30000) (w : World) (hT : Sh.Tab w) (hTr : Re.Tab w)
    (hIa : IsBytes w.heap.size w pa la ca za) (hIp : IsBytes w.heap.size w pp lp cp zp) :
    Calls Tryz.prog 16 #[.agg (u8s k).toArray, .slice pa la ca, .slice pp lp cp] w fun e w' => ∃ v, e = .returned (.tuple #[v, .int .i64 0]) ∧ Own w.heap.size w' v (sealN k za zp) ∧ Below w.heap.size w w' := by
  obtain ⟨i0, hi, hz0, hz1, hz2⟩ := info_parts info5
  obtain ⟨bN, hbN⟩ : ∃ bN, bucketN (lp : Int) = bN := ⟨_, rfl⟩
  obtain ⟨zq, hzq⟩ : ∃ zq, Re.padL zp = zq := ⟨_, rfl⟩
  have HQl : Hid (zq.length = bN) := by show _ = _; rw [← hzq, ← hbN, ← hIp.1]; exact Re.padL_length (by rw [hIp.1]; omega)
  have HQz : Hid (∀ z ∈ zq, z < 256) := by rw [← hzq]; exact Re.padL_lt hIp.2.2.2.1
  have hSeal : sealN k za zp = nonceN k za zq ++ Re.streamN (useN k 101) 1 (nonceN k za zq) zq ++ tagN k za (nonceN k za zq) (Re.streamN (useN k 101) 1 (nonceN k za zq) zq) := by unfold sealN turnedN; rw [hzq]
  obtain ⟨nn, hnn⟩ : ∃ nn, nonceN k za zq = nn := ⟨_, rfl⟩
  have HNl : Hid (nn.length = 12 ∧ ∀ z ∈ nn, z < 256) := by rw [← hnn]; exact ⟨nonceN_length _ _ _, nonceN_lt _ _ _⟩
  obtain ⟨cc, hcc⟩ : ∃ cc, Re.streamN (useN k 101) 1 nn zq = cc := ⟨_, rfl⟩
  have HCl : Hid (cc.length = bN ∧ ∀ z ∈ cc, z < 256) := by rw [← hcc]; exact ⟨by rw [Re.streamN_length]; exact HQl.out, Re.streamN_lt _ _ _ HQz.out⟩
  obtain ⟨tt, htt⟩ : ∃ tt, tagN k za nn cc = tt := ⟨_, rfl⟩
  have HTl : Hid (tt.length = 32 ∧ ∀ z ∈ tt, z < 256) := by rw [← htt]; exact ⟨tagN_length _ _ _ _, tagN_lt _ _ _ _⟩
  rw [hSeal, hnn, hcc, htt]
  obtain ⟨w0, hw0⟩ : ∃ w0, w.alloc (.cells (u8s k).toArray 23) = w0 := ⟨_, rfl⟩
  have HW0 : Hid (w.alloc (.cells (u8s k).toArray 23) = w0) := hw0
  have hb0 : Below w.heap.size w w0 := by rw [← hw0]; exact (Below.refl _ w).alloc (Nat.le_refl _) _
  have hk0 : Row w0 w.heap.size 23 (u8s k) := by rw [← hw0]; exact Row.new' w 23 (u8s k)
  have HP : Hid (Calls Tryz.prog 31 #[.slice pp lp cp] w0 fun e w' => ∃ g, e = .returned (.tuple #[.slice (some ⟨g, 0, none⟩) bN bN, .int .i64 0]) ∧ IsBytes w'.heap.size w' (some ⟨g, 0, none⟩) bN bN zq ∧ Below w0.heap.size w0 w') := by
    have h := Re.put_some pp lp cp zp (by omega) w0 (hIp.later hb0)
    rw [hbN, hzq] at h
    exact h.mono fun e w' ⟨g, h1, h2, h3⟩ => ⟨g, h1, h2.bytes HQz.out, h3⟩
  have HNo : Hid (∀ W g, Below w.heap.size w W → IsBytes W.heap.size W (some ⟨g, 0, none⟩) bN bN zq → Calls Tryz.prog 32 #[.agg (u8s k).toArray, .slice pa la ca, .slice (some ⟨g, 0, none⟩) bN bN] W fun e w' => e = .returned (.agg (u8s nn).toArray) ∧ Below W.heap.size W w') := fun W g hW hI => by
    have h := nonceOf_any k hk pa la ca za hla (some ⟨g, 0, none⟩) bN bN zq (by omega) W (hT.later hW) (hIa.later hW) hI
    rw [hnn] at h
    exact h
  have HUs : Hid (∀ W, Below w.heap.size w W → Calls Tryz.prog 34 #[.agg (u8s k).toArray, .int .u8 101] W fun e w' => e = .returned (.agg (u8s (useN k 101)).toArray) ∧ Below W.heap.size W w') := fun W hW => useKey_any k hk 101 (by omega) W (hT.later hW)
  have HSt : Hid (∀ W g, Below w.heap.size w W → IsBytes W.heap.size W (some ⟨g, 0, none⟩) bN bN zq → Calls Tryz.prog 33 #[.agg (u8s (useN k 101)).toArray, .int .u32 1, .agg (u8s nn).toArray, .slice (some ⟨g, 0, none⟩) bN bN] W fun e w' => ∃ g', e = .returned (.slice (some ⟨g', 0, none⟩) bN bN) ∧ IsBytes w'.heap.size w' (some ⟨g', 0, none⟩) bN bN cc ∧ Below W.heap.size W w') := fun W g hW hI => by
    have h := Re.stream_any (useN k 101) 1 nn (useN_key k 101) (by omega) HNl.out (some ⟨g, 0, none⟩) bN bN zq (by omega) W (hTr.later hW) hI
    rw [hcc] at h
    exact h.mono fun e w' ⟨g', h1, _, h3, h4⟩ => ⟨g', h1, bytes_of_box h3 HCl.out.1 (by omega) HCl.out.2, h4⟩
  have HTa : Hid (∀ W g, Below w.heap.size w W → IsBytes W.heap.size W (some ⟨g, 0, none⟩) bN bN cc → Calls Tryz.prog 35 #[.agg (u8s k).toArray, .slice pa la ca, .agg (u8s nn).toArray, .slice (some ⟨g, 0, none⟩) bN bN] W fun e w' => e = .returned (.agg (u8s tt).toArray) ∧ Below W.heap.size W w') := fun W g hW hI => by
    have h := tagOf_any k hk pa la ca za hla nn HNl.out.1 HNl.out.2 (some ⟨g, 0, none⟩) bN bN cc (by omega) W (hT.later hW) (hIa.later hW) hI
    rw [htt] at h
    exact h
  have HK0 : Hid (Row w0 w.heap.size 23 (u8s k)) := hk0
  have HKl : Hid ((u8s k).length = 32) := by show _ = _; rw [u8s_length, hk.1]
  have HNv : Hid ((u8s nn).length = 12) := by show _ = _; rw [u8s_length, HNl.out.1]
  have HNv1 : Hid (∀ v ∈ u8s nn, v.oneCell' = true) := u8s_one _
  have HTv : Hid ((u8s tt).length = 32) := by show _ = _; rw [u8s_length, HTl.out.1]
  have HTv1 : Hid (∀ v ∈ u8s tt, v.oneCell' = true) := u8s_one _
  rw [hbN] at hbk
  clear hw0 hk0 hSeal hnn hcc htt hzq hbN hIa hIp
  go_enter Tryz.func16, Tryz.ntmps16
  go_wp2_with (first
    | (go_at_call 31; rw [HW0.out]; refine HP.out.mono ?_; rintro e w1 ⟨g1, rfl, hI1, hb1⟩; have HI1 : Hid (IsBytes w1.heap.size w1 (some ⟨g1, 0, none⟩) bN bN zq) := hI1; have hB1 : Below w.heap.size w w1 := hb0.trans (hb1.mono hb0.size); have HK1 : Hid (Row w1 w.heap.size 23 (u8s k)) := Row.later HK0.out hb1; clear hI1 hb1)
    | ((with_reducible show wpList _ _ _ (Oper.mk (some 22) _ _ _ _ _ :: _) _ _); refine wpList_load_Row rfl 23 (.tmp 3) rfl rfl HK1.out Tryz.underlying23 (by rw [HKl.out]; exact size23) ?_; simp only [Act.put, List.setIfInBounds_toArray, List.set_cons_zero, List.set_cons_succ])
    | (go_at_call 32; refine (HNo.out _ _ hB1 HI1.out).mono ?_; rintro e w2 ⟨rfl, hb2⟩; have HI2 : Hid (IsBytes w2.heap.size w2 (some ⟨g1, 0, none⟩) bN bN zq) := IsBytes.later hb2 HI1.out; have hB2 : Below w.heap.size w w2 := hB1.trans (hb2.mono hB1.size); have HK2 : Hid (Row w2 w.heap.size 23 (u8s k)) := Row.later HK1.out hb2; clear HI1 HK1 hB1 hb2)
    | ((with_reducible show wpList _ _ _ (Oper.mk _ (Op.store 54 (.tmp 10) (.tmp 25)) _ _ _ _ :: _) _ _); change wpList _ _ _ _ _ (w2.alloc (.cells noNonce.toArray 54)); refine wpList_store_Row rfl 54 (.tmp 10) (.tmp 25) rfl (u8s nn) rfl rfl (Row.new' _ _ _) (by rw [HNv.out]; exact size54) (by rw [HNv.out]; rfl) HNv1.out ?_; simp only [Act.put]))
  obtain ⟨w3, hw3⟩ : ∃ w3, (w2.alloc (.cells noNonce.toArray 54)).setCells w2.heap.size 0 (u8s nn) = w3 := ⟨_, rfl⟩
  have hb3 : Below w2.heap.size w2 w3 := by rw [← hw3]; exact below_setCells (Nat.le_refl _) _ _ ((Below.refl _ w2).alloc (Nat.le_refl _) _)
  have hn3 : Row w3 w2.heap.size 54 (u8s nn) := by rw [← hw3]; exact Row.sets_all (Row.new' _ _ _) (by rw [HNv.out]; rfl)
  rw [hw3]
  have HN3 : Hid (Row w3 w2.heap.size 54 (u8s nn)) := hn3
  have HI3 : Hid (IsBytes w3.heap.size w3 (some ⟨g1, 0, none⟩) bN bN zq) := IsBytes.later hb3 HI2.out
  have HK3 : Hid (Row w3 w.heap.size 23 (u8s k)) := Row.later HK2.out hb3
  have hB3 : Below w.heap.size w w3 := hB2.trans (hb3.mono hB2.size)
  generalize w2.heap.size = bn at *
  clear hw3 hn3 HI2 HK2 hB2 hb3
  refine wp_region_noPanic ?_
  refine wp_region_held_drew (S := fun W' => W'.rangeAt w.heap.size 0 (u8s k) ∧ W'.rangeAt bn 0 (u8s nn)) (by kernel_rfl) ⟨(Row.drew HK3.out).range, (Row.drew HN3.out).range⟩ (fun hHeld => ?_)
  refine wpAnyH_takesAt 0 1 5 (of_decide_eq_true (by kernel_rfl)) rfl (fun _ _ _ _ _ h => h) (by kernel_rfl) (by kernel_rfl) hHeld ?_
  simp only [List.drop_zero, List.take_succ_cons, List.take_zero]
  refine wpHeld_loadS (by rfl) 23 (.tmp 3) rfl w.heap.size 0 rfl (u8s k) (fun W hW => hW.1) Tryz.underlying23 rfl (by rw [HKl.out]; exact size23) ?_
  simp only [Act.put, List.setIfInBounds_toArray, List.set_cons_zero, List.set_cons_succ]
  refine wpHeld_nil ?_
  refine wpAnyH_takesAt 2 2 3 (of_decide_eq_true (by kernel_rfl)) rfl (fun _ _ _ _ _ h => h) (by kernel_rfl) (by kernel_rfl) hHeld ?_
  simp only [List.drop_succ_cons, List.drop_zero, List.take_succ_cons, List.take_zero]
  refine wpHeld_loadS (by rfl) 54 (.tmp 10) rfl bn 0 rfl (u8s nn) (fun W hW => hW.2) Tryz.underlying54 rfl (by rw [HNv.out]; exact size54) ?_
  simp only [Act.put, List.setIfInBounds_toArray, List.set_cons_zero, List.set_cons_succ]
  iterate 1 (refine wpHeld_step (v := ?_) (by rfl) (fun wz hSw => ?_) ?_; rotate_left; (focus (clear hSw; go_simp; try with_reducible rfl)); (simp only [Act.put, List.setIfInBounds_toArray, List.set_cons_zero, List.set_cons_succ]))
  refine wpHeld_nil ?_
  clear hHeld
  refine wpAnyH_only (i := 1) (by kernel_rfl) rfl (fun K hK => ?_)
  rw [if_pos (by rfl)]
  go_simp
  have hB3d : Below w.heap.size w w3.drew := below_drewN hB3 1
  refine (HUs.out _ hB3d).mono ?_
  rintro e w4 ⟨rfl, hb4⟩
  have hb34 : Below w3.heap.size w3 w4 := (below_drewN (Below.refl _ w3) 1).trans hb4
  have HN4 : Hid (Row w4 bn 54 (u8s nn)) := Row.later HN3.out hb34
  have HI4 : Hid (IsBytes w4.heap.size w4 (some ⟨g1, 0, none⟩) bN bN zq) := IsBytes.later hb34 HI3.out
  have HK4 : Hid (Row w4 w.heap.size 23 (u8s k)) := Row.later HK3.out hb34
  have hB4 : Below w.heap.size w w4 := hB3.trans (hb34.mono hB3.size)
  refine hK.out _ _ ⟨HK4.out.range, HN4.out.range⟩ ?_
  clear hK K
  refine wpAnyH_only (i := 4) (by kernel_rfl) rfl (fun K hK => ?_)
  rw [if_pos (by rfl)]
  go_simp
  refine (HSt.out _ g1 hB4 HI4.out).mono ?_
  rintro e w5 ⟨g5, rfl, hI5, hb5⟩
  have HN5 : Hid (Row w5 bn 54 (u8s nn)) := Row.later HN4.out hb5
  have HI5 : Hid (IsBytes w5.heap.size w5 (some ⟨g5, 0, none⟩) bN bN cc) := hI5
  have HK5 : Hid (Row w5 w.heap.size 23 (u8s k)) := Row.later HK4.out hb5
  have hB5 : Below w.heap.size w w5 := hB4.trans (hb5.mono hB4.size)
  have hH5 : w5.rangeAt w.heap.size 0 (u8s k) ∧ w5.rangeAt bn 0 (u8s nn) := ⟨HK5.out.range, HN5.out.range⟩
  refine hK.out _ _ hH5 ?_
  clear hK K
  refine wpAnyH_takesAt 5 1 0 (of_decide_eq_true (by kernel_rfl)) rfl (fun _ _ _ _ _ h => h) (by kernel_rfl) (by kernel_rfl) hH5 ?_
  simp only [List.drop_succ_cons, List.drop_zero, List.take_succ_cons, List.take_zero]
  iterate 1 (refine wpHeld_step (v := ?_) (by rfl) (fun wz hSw => ?_) ?_; rotate_left; (focus ((try dsimp only at hSw); go_simp; try with_reducible rfl)); ((simp only [Act.put]; (try simp only [List.setIfInBounds_toArray]); (try simp only [List.set_cons_succ]); (try simp only [List.set_cons_zero]))))
  refine wpHeld_nil ?_
  refine wpAnyH_done (by kernel_rfl) ?_ _
  refine NoPanic.normal ?_
  clear HK3 HN3 HI3 hB3 hB3d hb4 hb34 HN4 HI4 HK4 hB4 hb5 hI5 hH5
  go_wp2_with (first
    | ((with_reducible show wpList _ _ _ (Oper.mk (some 31) _ _ _ _ _ :: _) _ _); refine wpList_load_Row rfl 23 (.tmp 3) rfl rfl HK5.out Tryz.underlying23 (by rw [HKl.out]; exact size23) ?_; simp only [Act.put, List.setIfInBounds_toArray, List.set_cons_zero, List.set_cons_succ])
    | ((with_reducible show wpList _ _ _ (Oper.mk (some 33) _ _ _ _ _ :: _) _ _); refine wpList_load_Row rfl 54 (.tmp 10) rfl rfl HN5.out Tryz.underlying54 (by rw [HNv.out]; exact size54) ?_; simp only [Act.put, List.setIfInBounds_toArray, List.set_cons_zero, List.set_cons_succ])
    | (go_at_call 35; refine (HTa.out _ g5 hB5 HI5.out).mono ?_; rintro e w6 ⟨rfl, hb6⟩; have HN6 : Hid (Row w6 bn 54 (u8s nn)) := Row.later HN5.out hb6; have HI6 : Hid (IsBytes w6.heap.size w6 (some ⟨g5, 0, none⟩) bN bN cc) := IsBytes.later hb6 HI5.out; have hB6 : Below w.heap.size w w6 := hB5.trans (hb6.mono hB5.size); clear hb6)
    | ((with_reducible show wpList _ _ _ (Oper.mk _ (Op.store 39 (.tmp 12) (.tmp 35)) _ _ _ _ :: _) _ _); change wpList _ _ _ _ _ (w6.alloc (.cells noKey.toArray 39)); refine wpList_store_Row rfl 39 (.tmp 12) (.tmp 35) rfl (u8s tt) rfl rfl (Row.new' _ _ _) (by rw [HTv.out]; kernel_rfl) (by rw [HTv.out]; rfl) HTv1.out ?_; simp only [Act.put]; obtain ⟨w7, hw7⟩ : ∃ w7, (w6.alloc (.cells noKey.toArray 39)).setCells w6.heap.size 0 (u8s tt) = w7 := ⟨_, rfl⟩; have hb7 : Below w6.heap.size w6 w7 := (by rw [← hw7]; exact below_setCells (Nat.le_refl _) _ _ ((Below.refl _ w6).alloc (Nat.le_refl _) _)); have HT7 : Hid (Row w7 w6.heap.size 39 (u8s tt)) := (by rw [← hw7]; exact Row.sets_all (Row.new' _ _ _) (by rw [HTv.out]; rfl)); rw [hw7]; have HN7 : Hid (Row w7 bn 54 (u8s nn)) := Row.later HN6.out hb7; have HI7 : Hid (IsBytes w7.heap.size w7 (some ⟨g5, 0, none⟩) bN bN cc) := IsBytes.later hb7 HI6.out; have hB7 : Below w.heap.size w w7 := hB6.trans (hb7.mono hB6.size); generalize w6.heap.size = bt at HT7 ⊢; clear hw7 hb7)
    | (at_make; refine wpList_make_own _ rfl _ _ 24 rfl w7.heap.size 5 i0 (.int .u8 0) 1 Tryz.underlying24 hi hz0 hz1 _ _ _ (44 + bN) rfl rfl (by push_cast; rfl) (by rw [hz2]; omega) (by simp only [maxLen]; omega) (Nat.le_refl _) ?_; intro w8 hown8 hgrow8; have HO8 : Hid (Own w7.heap.size w8 (.slice (some ⟨w7.heap.size, 0, none⟩) 0 (44 + bN)) []) := hown8; have hb8 : Below w7.heap.size w7 w8 := (Below.refl _ w7).grown hgrow8 (Nat.le_refl _) (fun k e => by cases e); clear hown8 hgrow8)
    | ((with_reducible show wpList _ _ _ (Oper.mk (some 42) _ _ _ _ _ :: _) _ _); refine wpList_append_bytes rfl _ _ rfl w7.heap.size _ [] rfl HO8.out rfl (bytes_of_box (Row.later HN7.out hb8) HNl.out.1 (by omega) HNl.out.2) (by simp) hb8.size ?_; intro v9 w9 hown9 hgrow9; have hb9 : Below w7.heap.size w7 w9 := below_own hb8 hb8.size HO8.out hgrow9; have HO9 : Hid (Own w7.heap.size w9 v9 ([] ++ nn)) := hown9; clear hown9 hgrow9)
    | ((with_reducible show wpList _ _ _ (Oper.mk (some 45) _ _ _ _ _ :: _) _ _); refine wpList_append_bytes rfl _ _ rfl w7.heap.size v9 ([] ++ nn) rfl HO9.out rfl (IsBytes.later hb9 HI7.out) (by have := HNl.out.1; simp; omega) hb9.size ?_; intro v10 w10 hown10 hgrow10; have hb10 : Below w7.heap.size w7 w10 := below_own hb9 hb9.size HO9.out hgrow10; have HO10 : Hid (Own w7.heap.size w10 v10 ([] ++ nn ++ cc)) := hown10; clear hown10 hgrow10)
    | ((with_reducible show wpList _ _ _ (Oper.mk (some 48) _ _ _ _ _ :: _) _ _); refine wpList_append_bytes rfl _ _ rfl w7.heap.size v10 ([] ++ nn ++ cc) rfl HO10.out rfl (bytes_of_box (Row.later HT7.out hb10) HTl.out.1 (by omega) HTl.out.2) (by have := HNl.out.1; have := HCl.out.1; simp; omega) hb10.size ?_; intro v11 w11 hown11 hgrow11; have hb11 : Below w7.heap.size w7 w11 := below_own hb10 hb10.size HO10.out hgrow11; have HO11 : Hid (Own w7.heap.size w11 v11 ([] ++ nn ++ cc ++ tt)) := hown11; clear hown11 hgrow11))
  refine bodyPost_ret (results_tmp2 rfl _ _ _) rfl ?_
  exact ⟨v11, rfl, Own.mono hB7.size HO11.out, hB7.trans (hb11.mono hB7.size)⟩

end Go.Proofs.YtclelancbfoenaaGreatDoor
