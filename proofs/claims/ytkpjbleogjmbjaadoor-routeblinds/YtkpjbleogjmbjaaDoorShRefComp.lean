/-
  What the reference's constants and Compress answer: the words of the rounds; a block taken into eight words.
-/
import Derived.Test.YtkpjbleogjmbjaaDoorBaseAll
import Derived.Test.YtkpjbleogjmbjaaDoorShCompress
import Derived.Test.YtkpjbleogjmbjaaDoorShRefSched
namespace Go.Proofs.YtkpjbleogjmbjaaDoor.Sh
open Go.RowKit
attribute [local go_sem] Oper.semAt_some

set_option maxRecDepth 100000 in
set_option maxHeartbeats 1000000 in
theorem constants_any (w : World) : Calls Tryd.prog 47 #[] w fun e w' => e = .returned (.agg (u32s kW).toArray) ∧ Below w.heap.size w w' := by
  obtain ⟨V, hV⟩ : ∃ V, V = u32s kW := ⟨_, rfl⟩
  rw [← hV]
  have HV : Hid (V = u32s kW) := hV
  have HVl : Hid (V.length = 64) := by show _ = _; rw [hV]; rfl
  have HV1 : Hid (∀ v ∈ V, v.oneCell' = true) := by rw [hV]; exact u32s_one _
  clear hV
  go_enter Tryd.func47, Tryd.ntmps47
  go_wp2_with ((with_reducible show wpList _ _ _ (Oper.mk _ (Op.store 112 (.tmp 0) (.tmp 1)) _ _ _ _ :: _) _ _); refine wpList_store_Row rfl 112 (.tmp 0) (.tmp 1) rfl V rfl (by rw [HV.out]; rfl) (Row.new _ _ _) (by rw [HVl.out]; exact size112) (by rw [HVl.out]; rfl) HV1.out ?_; simp only [Act.put])
  refine bodyPost_ret (results_Row rfl rfl (Row.sets_all (vs := V) (Row.new _ _ _) (by rw [HVl.out]; rfl)) Tryd.underlying112 (by rw [HVl.out]; exact size112)) rfl ?_
  exact ⟨rfl, below_setCells (Nat.le_refl _) _ _ ((Below.refl _ w).alloc (Nat.le_refl _) _)⟩

theorem _root_.Go.Proofs.YtkpjbleogjmbjaaDoor.Row.new2 (W : World) (o : Obj) (t : TypeId) (c : Array Value) : Row ((W.alloc o).alloc (.cells c t)) (W.heap.size + 1) t c.toList := by
  have := Row.new (W.alloc o) t c
  rwa [World.size_alloc] at this

/-- Eight cells, written one behind the other, the last one first. -/
def set8 (W : World) (B : Nat) (a b c d e f g h : Value) : World :=
  (((((((W.setCell ⟨B, 7, none⟩ h).setCell ⟨B, 6, none⟩ g).setCell ⟨B, 5, none⟩ f).setCell ⟨B, 4, none⟩ e).setCell ⟨B, 3, none⟩ d).setCell ⟨B, 2, none⟩ c).setCell ⟨B, 1, none⟩ b).setCell ⟨B, 0, none⟩ a
theorem set8_row {W : World} {B : Nat} {t : TypeId} {x0 x1 x2 x3 x4 x5 x6 x7 : Value} (h' : Row W B t [x0, x1, x2, x3, x4, x5, x6, x7]) (a b c d e f g h : Value) : Row (set8 W B a b c d e f g h) B t [a, b, c, d, e, f, g, h] :=
  (((((((h'.set 7 h).set 6 g).set 5 f).set 4 e).set 3 d).set 2 c).set 1 b).set 0 a
theorem set8_other {W : World} {B b' : Nat} {t : TypeId} {l : List Value} (h' : Row W b' t l) (hb : b' ≠ B) (a b c d e f g h : Value) : Row (set8 W B a b c d e f g h) b' t l :=
  (((((((h'.other hb h).other hb g).other hb f).other hb e).other hb d).other hb c).other hb b).other hb a
theorem set8_below {n : Nat} {w W : World} {B : Nat} (h' : Below n w W) (hb : n ≤ B) (a b c d e f g h : Value) : Below n w (set8 W B a b c d e f g h) :=
  (((((((h'.setCell (p := ⟨B, 7, none⟩) hb h).setCell (p := ⟨B, 6, none⟩) hb g).setCell (p := ⟨B, 5, none⟩) hb f).setCell (p := ⟨B, 4, none⟩) hb e).setCell (p := ⟨B, 3, none⟩) hb d).setCell (p := ⟨B, 2, none⟩) hb c).setCell (p := ⟨B, 1, none⟩) hb b).setCell (p := ⟨B, 0, none⟩) hb a

set_option maxRecDepth 100000 in
set_option maxHeartbeats 2000000 in
theorem refCompress_core (s : St) (R : Nat → St) (hs : s.ok) (ws : List Nat) (hwl : ws.length = 64) (hwlt : ∀ z ∈ ws, z < 4294967296) (HR0 : Hid (R 0 = s)) (HRs : Hid (∀ k, R (k + 1) = roundN (kW.getD k 0) (ws.getD k 0) (R k))) (HRok : Hid (∀ k, (R k).ok)) (bs : List Nat) (hl : bs.length = 64)
    (HSC : Hid (∀ w, Calls Tryd.prog 46 #[.agg (u8s bs).toArray] w fun e w' => e = .returned (.agg (u32s ws).toArray) ∧ Below w.heap.size w w'))
    (HCN : Hid (∀ w, Calls Tryd.prog 47 #[] w fun e w' => e = .returned (.agg (u32s kW).toArray) ∧ Below w.heap.size w w')) (w : World) :
    Calls Tryd.prog 37 #[.agg (u32s s.list).toArray, .agg (u8s bs).toArray] w fun e w' => e = .returned (.agg (u32s (addN s (R 64)).list).toArray) ∧ Below w.heap.size w w' := by
  have HSOK : Hid s.ok := hs
  have HBL : Hid ((u8s bs).length = 64) := by show _ = _; rw [u8s_length, hl]
  have HWL : Hid ((u32s ws).length = 64) := by show _ = _; rw [u32s_length, hwl]
  have HWl : Hid (ws.length = 64) := hwl
  have HWT : Hid (∀ z ∈ ws, z < 4294967296) := hwlt
  have HW1 : Hid (∀ v ∈ u32s ws, v.oneCell' = true) := u32s_one _
  have HSl : Hid ((u32s s.list).length = 8) := rfl
  have HS1 : Hid (∀ v ∈ u32s s.list, v.oneCell' = true) := u32s_one _
  obtain ⟨KV, hKV⟩ : ∃ KV, KV = u32s kW := ⟨_, rfl⟩
  have HKV : Hid (KV = u32s kW) := hKV
  have HKl : Hid (KV.length = 64) := by show _ = _; rw [hKV]; rfl
  have HK1 : Hid (∀ v ∈ KV, v.oneCell' = true) := by rw [hKV]; exact u32s_one _
  have HCN' : Hid (∀ w, Calls Tryd.prog 47 #[] w fun e w' => e = .returned (.agg KV.toArray) ∧ Below w.heap.size w w') := by rw [hKV]; exact HCN.out
  clear hs hl hwl hwlt hKV HCN
  generalize hWV : u32s ws = WV at *
  have HWV : Hid (u32s ws = WV) := hWV
  generalize hSV : u32s s.list = SV at *
  have HSV : Hid (u32s s.list = SV) := hSV
  clear hWV hSV
  have H0 : Hid (∀ (c : Array Value), Row (((w.alloc (.cells SV.toArray 98)).alloc (.cells (u8s bs).toArray 91)).alloc (.cells c 98)) w.heap.size 98 SV ∧ Row (((w.alloc (.cells SV.toArray 98)).alloc (.cells (u8s bs).toArray 91)).alloc (.cells c 98)) (w.heap.size + 1) 91 (u8s bs) ∧ Below w.heap.size w (((w.alloc (.cells SV.toArray 98)).alloc (.cells (u8s bs).toArray 91)).alloc (.cells c 98)) ∧ Row (((w.alloc (.cells SV.toArray 98)).alloc (.cells (u8s bs).toArray 91)).alloc (.cells c 98)) (w.heap.size + 1 + 1) 98 c.toList) := fun c => by
    have h2 := Row.new' (w.alloc (.cells SV.toArray 98)) 91 (u8s bs)
    rw [World.size_alloc] at h2
    have h3 := Row.new ((w.alloc (.cells SV.toArray 98)).alloc (.cells (u8s bs).toArray 91)) 98 c
    rw [World.size_alloc, World.size_alloc] at h3
    exact ⟨((Row.new' w 98 SV).alloc _).alloc _, h2.alloc _, (((Below.refl _ w).alloc (Nat.le_refl _) _).alloc (by simp) _).alloc (by simp; omega) _, h3⟩
  go_enter Tryd.func37, Tryd.ntmps37
  go_wp2_with (first
    | ((with_reducible show wpList _ _ _ (Oper.mk _ (Op.load 91 (.tmp 3)) _ _ _ _ :: _) _ _); refine wpList_load_Row rfl 91 (.tmp 3) rfl rfl (H0.out _).2.1 Tryd.underlying91 (by rw [HBL.out]; exact size91) ?_; simp only [Act.put, List.setIfInBounds_toArray, List.set_cons_zero, List.set_cons_succ])
    | (go_at_call 46; refine (HSC.out _).mono ?_; rintro e w1 ⟨rfl, hb1⟩)
    | (go_at_call 47; refine (HCN'.out _).mono ?_; rintro e w2 ⟨rfl, hb2⟩; have hs2 : w.heap.size + 3 ≤ w2.heap.size := (by have h1 := hb1.size; have h2 := hb2.size; simp only [World.size_alloc] at h1; omega); have HH2 : Hid (Row w2 w.heap.size 98 SV) := (((H0.out _).1.later hb1).later hb2); have HR2 := (((H0.out _).2.2.2.later hb1).later hb2); have hbB : Below w.heap.size w w2 := (((H0.out _).2.2.1.trans (hb1.mono (H0.out _).2.2.1.size)).trans (hb2.mono (((H0.out _).2.2.1.trans (hb1.mono (H0.out _).2.2.1.size)).size))); clear hb1 hb2)
    | ((with_reducible show wpList _ _ _ (Oper.mk _ (Op.store 112 (.tmp 5) (.tmp 13)) _ _ _ _ :: _) _ _); refine wpList_store_Row rfl 112 (.tmp 5) (.tmp 13) rfl WV rfl rfl ((Row.new w2 112 _).alloc _) (by rw [HWL.out]; exact size112) (by rw [HWL.out]; rfl) HW1.out ?_; simp only [Act.put])
    | ((with_reducible show wpList _ _ _ (Oper.mk _ (Op.store 112 (.tmp 6) (.tmp 14)) _ _ _ _ :: _) _ _); refine wpList_store_Row rfl 112 (.tmp 6) (.tmp 14) rfl KV rfl rfl (Row.others (Nat.succ_ne_self _) WV 0 (Row.new2 w2 _ 112 _)) (by rw [HKl.out]; exact size112) (by rw [HKl.out]; rfl) HK1.out ?_; simp only [Act.put])
    | ((with_reducible show wpList _ _ _ (Oper.mk _ (Op.load 98 (.tmp 2)) _ _ _ _ :: _) _ _); refine wpList_load_Row rfl 98 (.tmp 2) rfl rfl (Row.others (by omega) KV 0 (Row.others (by omega) WV 0 ((HH2.out.alloc _).alloc _))) Tryd.underlying98 (by rw [HSl.out]; exact size98) ?_; simp only [Act.put, List.setIfInBounds_toArray, List.set_cons_zero, List.set_cons_succ])
    | ((with_reducible show wpList _ _ _ (Oper.mk _ (Op.store 98 (.tmp 7) (.tmp 15)) _ _ _ _ :: _) _ _); refine wpList_store_Row rfl 98 (.tmp 7) (.tmp 15) rfl SV rfl rfl (Row.new _ _ _) (by rw [HSl.out]; exact size98) (by rw [HSl.out]; rfl) HS1.out ?_; simp only [Act.put]))
  simp only [size_setCells, World.size_alloc]
  rw [z64u32, z8u32]
  have HR3 : Row w2 (w.heap.size + 1 + 1) 98 (List.replicate 8 (Value.int .u32 0)) := HR2
  have rW4 : Row ((((w2.alloc (.cells (List.replicate 64 (Value.int .u32 0)).toArray 112)).alloc (.cells (List.replicate 64 (Value.int .u32 0)).toArray 112)).setCells w2.heap.size 0 WV).setCells (w2.heap.size + 1) 0 KV) w2.heap.size 112 WV := Row.others (by omega) KV 0 (((Row.new' w2 112 _).alloc _).sets_all (by rw [HWL.out]; rfl))
  have rK4 : Row ((((w2.alloc (.cells (List.replicate 64 (Value.int .u32 0)).toArray 112)).alloc (.cells (List.replicate 64 (Value.int .u32 0)).toArray 112)).setCells w2.heap.size 0 WV).setCells (w2.heap.size + 1) 0 KV) (w2.heap.size + 1) 112 KV := (Row.others (Nat.succ_ne_self _) WV 0 (Row.new2 w2 _ 112 _)).sets_all (by rw [HKl.out]; rfl)
  have rH4 : Row ((((w2.alloc (.cells (List.replicate 64 (Value.int .u32 0)).toArray 112)).alloc (.cells (List.replicate 64 (Value.int .u32 0)).toArray 112)).setCells w2.heap.size 0 WV).setCells (w2.heap.size + 1) 0 KV) w.heap.size 98 SV := Row.others (by omega) KV 0 (Row.others (by omega) WV 0 ((HH2.out.alloc _).alloc _))
  have rR4 : Row ((((w2.alloc (.cells (List.replicate 64 (Value.int .u32 0)).toArray 112)).alloc (.cells (List.replicate 64 (Value.int .u32 0)).toArray 112)).setCells w2.heap.size 0 WV).setCells (w2.heap.size + 1) 0 KV) (w.heap.size + 1 + 1) 98 (List.replicate 8 (Value.int .u32 0)) := Row.others (by omega) KV 0 (Row.others (by omega) WV 0 ((HR3.alloc _).alloc _))
  have hb4 : Below w.heap.size w ((((w2.alloc (.cells (List.replicate 64 (Value.int .u32 0)).toArray 112)).alloc (.cells (List.replicate 64 (Value.int .u32 0)).toArray 112)).setCells w2.heap.size 0 WV).setCells (w2.heap.size + 1) 0 KV) := below_setCells (by omega) _ _ (below_setCells (by omega) _ _ ((hbB.alloc (by omega) _).alloc (by simp; omega) _))
  have hs4 : ((((w2.alloc (.cells (List.replicate 64 (Value.int .u32 0)).toArray 112)).alloc (.cells (List.replicate 64 (Value.int .u32 0)).toArray 112)).setCells w2.heap.size 0 WV).setCells (w2.heap.size + 1) 0 KV).heap.size = w2.heap.size + 1 + 1 := by simp only [size_setCells, World.size_alloc]
  generalize ((((w2.alloc (.cells (List.replicate 64 (Value.int .u32 0)).toArray 112)).alloc (.cells (List.replicate 64 (Value.int .u32 0)).toArray 112)).setCells w2.heap.size 0 WV).setCells (w2.heap.size + 1) 0 KV) = w4 at *
  have rA5 := (Row.new' w4 98 (List.replicate 8 (Value.int .u32 0)))
  rw [hs4] at rA5
  have H5 : Hid ((Row (((w4.alloc (.cells (List.replicate 8 (Value.int .u32 0)).toArray 98)).setCells (w2.heap.size + 1 + 1) 0 SV)) w2.heap.size 112 WV ∧ Row (((w4.alloc (.cells (List.replicate 8 (Value.int .u32 0)).toArray 98)).setCells (w2.heap.size + 1 + 1) 0 SV)) (w2.heap.size + 1) 112 KV ∧ Row (((w4.alloc (.cells (List.replicate 8 (Value.int .u32 0)).toArray 98)).setCells (w2.heap.size + 1 + 1) 0 SV)) w.heap.size 98 SV ∧ Row (((w4.alloc (.cells (List.replicate 8 (Value.int .u32 0)).toArray 98)).setCells (w2.heap.size + 1 + 1) 0 SV)) (w.heap.size + 1 + 1) 98 (List.replicate 8 (Value.int .u32 0)) ∧ Below w.heap.size w (((w4.alloc (.cells (List.replicate 8 (Value.int .u32 0)).toArray 98)).setCells (w2.heap.size + 1 + 1) 0 SV))) ∧ Row (((w4.alloc (.cells (List.replicate 8 (Value.int .u32 0)).toArray 98)).setCells (w2.heap.size + 1 + 1) 0 SV)) (w2.heap.size + 1 + 1) 98 (u32s (R 0).list)) :=
    ⟨⟨Row.others (by omega) SV 0 (rW4.alloc _), Row.others (by omega) SV 0 (rK4.alloc _), Row.others (by omega) SV 0 (rH4.alloc _), Row.others (by omega) SV 0 (rR4.alloc _), below_setCells (by omega) _ _ (hb4.alloc (by omega) _)⟩, by rw [HR0.out, HSV.out]; exact rA5.sets_all (by rw [HSl.out]; rfl)⟩
  clear rW4 rK4 rH4 rR4 hb4 rA5 HR2 HR3 HH2 hbB
  generalize ((w4.alloc (.cells (List.replicate 8 (Value.int .u32 0)).toArray 98)).setCells (w2.heap.size + 1 + 1) 0 SV) = w5 at *
  go_loopw [8] (fun i wr => ∃ k : Nat, k ≤ 64 ∧ i = .int .i64 k ∧ (Row wr w2.heap.size 112 WV ∧ Row wr (w2.heap.size + 1) 112 KV ∧ Row wr w.heap.size 98 SV ∧ Row wr (w.heap.size + 1 + 1) 98 (List.replicate 8 (Value.int .u32 0)) ∧ Below w.heap.size w wr) ∧ Row wr (w2.heap.size + 1 + 1) 98 (u32s (R k).list))
    (fun i _ => 64 - (intOf i).toNat)
  case atStart => exact ⟨0, by omega, rfl, H5.out.1, H5.out.2⟩
  case round =>
    obtain ⟨k, hk, rfl, ⟨hrW, hrK, hrH, hrR, hBw⟩, hrA⟩ := hrel
    by_cases hk64 : k < 64
    · have hki : (k : Int) < 64 := by omega
      rw [← HWV.out] at hrW
      rw [HKV.out] at hrK
      have cw := hrW.cell (u32s_at (l := ws) (i := k) (by rw [HWl.out]; omega))
      have ck := hrK.cell (u32s_at (l := kW) (i := k) (by rw [kW_length]; omega))
      have HC : Hid (Row wr w2.heap.size 112 WV ∧ Row wr (w2.heap.size + 1) 112 KV ∧ Row wr w.heap.size 98 SV ∧ Row wr (w.heap.size + 1 + 1) 98 (List.replicate 8 (Value.int .u32 0)) ∧ Below w.heap.size w wr) := ⟨by rw [← HWV.out]; exact hrW, by rw [HKV.out]; exact hrK, hrH, hrR, hBw⟩
      have bk : kW.getD k 0 < 4294967296 := all_getD (by decide) kW_lt _
      have bw : ws.getD k 0 < 4294967296 := all_getD (by decide) HWT.out _
      obtain ⟨ba, bb, bc, bd, be, bf, bg, bh⟩ := HRok.out k
      have HR : Hid (R (k + 1) = roundN (kW.getD k 0) (ws.getD k 0) (R k)) := HRs.out k
      clear hrW hrK hrH hrR
      rw [St.cells] at hrA
      generalize kW.getD k 0 = xk at *
      generalize ws.getD k 0 = xw at *
      generalize R k = r at *
      obtain ⟨a, b, c, d, e, f, g, h0⟩ := r
      dsimp only at ba bb bc bd be bf bg bh hrA
      have c0 := hrA.cell (i := 0) rfl
      have c1 := hrA.cell (i := 1) rfl
      have c2 := hrA.cell (i := 2) rfl
      have c3 := hrA.cell (i := 3) rfl
      have c4 := hrA.cell (i := 4) rfl
      have c5 := hrA.cell (i := 5) rfl
      have c6 := hrA.cell (i := 6) rfl
      have c7 := hrA.cell (i := 7) rfl
      have fz := fun i => hrA.frozen i
      have HrA : Hid (Row wr (w2.heap.size + 1 + 1) 98 [.int .u32 (a : Nat), .int .u32 (b : Nat), .int .u32 (c : Nat), .int .u32 (d : Nat), .int .u32 (e : Nat), .int .u32 (f : Nat), .int .u32 (g : Nat), .int .u32 (h0 : Nat)]) := hrA
      clear hrA H5
      go_wp2
      go_quiet ((go_at_call 48; exact Calls.mono (refRor_int _ _ _ (by assumption) (by omega) (by omega)) (fun _ _ h => ⟨h.1, _, h.2⟩)))
      go_wp2
      go_quiet ((go_at_call 48; exact Calls.mono (refRor_int _ _ _ (by assumption) (by omega) (by omega)) (fun _ _ h => ⟨h.1, _, h.2⟩)))
      go_wp2
      rw [ch_eq be bf bg, maj_eq ba bb bc, big1_eq be, big0_eq ba]
      have eA : (((h0 : Int) + (big1 e : Nat) + (chN e f g : Nat) + xk + xw + ((big0 a : Nat) + (majN a b c : Nat))) % 4294967296) = ((aN (tN xk xw e f g h0) a b c : Nat) : Int) := by
        unfold aN tN
        omega
      have eE : (((d : Int) + ((h0 : Int) + (big1 e : Nat) + (chN e f g : Nat) + xk + xw)) % 4294967296) = (((d + tN xk xw e f g h0) % 4294967296 : Nat) : Int) := by
        unfold tN
        omega
      rw [eA, eE]
      go_roundw
      case rel =>
        refine ⟨k + 1, by omega, by go_num, ⟨?_, ?_, ?_, ?_, ?_⟩, ?_⟩
        · exact set8_other (HC.out.1.drewN _) (by omega) _ _ _ _ _ _ _ _
        · exact set8_other (HC.out.2.1.drewN _) (by omega) _ _ _ _ _ _ _ _
        · exact set8_other (HC.out.2.2.1.drewN _) (by omega) _ _ _ _ _ _ _ _
        · exact set8_other (HC.out.2.2.2.1.drewN _) (by omega) _ _ _ _ _ _ _ _
        · exact set8_below (below_drewN HC.out.2.2.2.2 _) (by omega) _ _ _ _ _ _ _ _
        · rw [HR.out, St.cells]
          exact set8_row (HrA.out.drewN _) _ _ _ _ _ _ _ _
      case measure => simp [intOf]; omega
    · obtain rfl : k = 64 := by omega
      have HA64 : Hid (Row wr (w2.heap.size + 1 + 1) 98 (u32s (R 64).list)) := hrA
      have HH64 : Hid (Row wr w.heap.size 98 (u32s (mixN s.list (R 64).list 0))) := by rw [mixN_zero]; show Row _ _ _ _; rw [HSV.out]; exact hrH
      have HR64 : Hid (Row wr (w.heap.size + 1 + 1) 98 (List.replicate 8 (Value.int .u32 0))) := hrR
      have HOK : Hid (R 64).ok := HRok.out 64
      clear hrA hrH hrW hrK hrR H5 HRs HR0 HRok
      generalize hr64 : R 64 = r at *
      have HE64 : Hid (R 64 = r) := hr64
      clear hr64
      go_wp2
      rw [show ((64 : Nat) : Int) = 64 from rfl]
      go_loopw [111] (fun i wr => ∃ k : Nat, k ≤ 8 ∧ i = .int .i64 k ∧ Row wr w.heap.size 98 (u32s (mixN s.list r.list k)) ∧ Row wr (w2.heap.size + 1 + 1) 98 (u32s r.list) ∧ Row wr (w.heap.size + 1 + 1) 98 (List.replicate 8 (.int .u32 0)) ∧ Below w.heap.size w wr)
        (fun i _ => 8 - (intOf i).toNat)
      case atStart => exact ⟨0, by omega, rfl, HH64.out, HA64.out, HR64.out, hBw⟩
      case round =>
        clear HH64 HA64 HR64 hBw
        obtain ⟨k, hk, rfl, hrH, hrA, hrR, hBw⟩ := hrel
        by_cases hk8 : k < 8
        · have hki : (k : Int) < 8 := by omega
          have cH := hrH.cell (u32s_at (l := mixN s.list r.list k) (i := k) (by simp; omega))
          rw [mixN_at _ _ _ _ hk8, if_neg (by omega)] at cH
          have cf := hrH.frozen k
          have cA := hrA.cell (u32s_at (l := r.list) (i := k) (by rw [St.list_length]; omega))
          have bx : s.list.getD k 0 < 4294967296 := all_getD (by decide) (St.list_lt HSOK.out) _
          have by' : r.list.getD k 0 < 4294967296 := all_getD (by decide) (St.list_lt HOK.out) _
          have HM : Hid ((u32s (mixN s.list r.list k)).set k (.int .u32 ((s.list.getD k 0 + r.list.getD k 0) % 4294967296 : Nat)) = u32s (mixN s.list r.list (k + 1))) := mixN_set s.list r.list k hk8
          have HrH : Hid (Row wr w.heap.size 98 (u32s (mixN s.list r.list k))) := hrH
          have HrA : Hid (Row wr (w2.heap.size + 1 + 1) 98 (u32s r.list)) := hrA
          have HrR : Hid (Row wr (w.heap.size + 1 + 1) 98 (List.replicate 8 (.int .u32 0))) := hrR
          generalize s.list.getD k 0 = x at *
          generalize r.list.getD k 0 = y at *
          clear hrH hrR hrA
          go_wp2
          go_region
          go_wp2
          go_roundw
          case rel =>
            have e1 : (((x : Int) + y) % 4294967296) = (((x + y) % 4294967296 : Nat) : Int) := by omega
            refine ⟨k + 1, by omega, by go_num, ?_, (HrA.out.other (by simp; omega) _).drew, (HrR.out.other (by simp; omega) _).drew, (hBw.setCell (p := ⟨w.heap.size, k, none⟩) (Nat.le_refl _) _).drew⟩
            have h := HrH.out.set k (.int .u32 ((x + y) % 4294967296 : Nat))
            rw [HM.out] at h
            rw [e1]
            exact h.drew
          case measure => simp [intOf]; omega
        · obtain rfl : k = 8 := by omega
          rw [mixN_all] at hrH
          have HrH : Hid (Row wr w.heap.size 98 (u32s (addN s r).list)) := hrH
          have HrR : Hid (Row wr (w.heap.size + 1 + 1) 98 (List.replicate 8 (.int .u32 0))) := hrR
          have HA1 : Hid (∀ v ∈ u32s (addN s r).list, v.oneCell' = true) := u32s_one _
          clear hrH hrR hrA
          go_wp2_with (first
            | ((with_reducible show wpList _ _ _ (Oper.mk _ (Op.load 98 (.tmp 2)) _ _ _ _ :: _) _ _); refine wpList_load_Row rfl 98 (.tmp 2) rfl rfl HrH.out Tryd.underlying98 size98 ?_; simp only [Act.put, List.setIfInBounds_toArray, List.set_cons_zero, List.set_cons_succ])
            | ((with_reducible show wpList _ _ _ (Oper.mk _ (Op.store 98 (.tmp 4) (.tmp 123)) _ _ _ _ :: _) _ _); refine wpList_store_Row rfl 98 (.tmp 4) (.tmp 123) rfl (u32s (addN s r).list) rfl rfl HrR.out size98 rfl HA1.out ?_; simp only [Act.put]))
          refine bodyPost_ret (results_Row rfl rfl (HrR.out.sets_all (vs := u32s (addN s r).list) rfl) Tryd.underlying98 size98) rfl ?_
          exact ⟨by rw [HE64.out], below_setCells (by omega) _ _ hBw⟩
/-- the reference's Compress -/
theorem refCompress_any (s : St) (hs : s.ok) (bs : List Nat) (hl : bs.length = 64) (hb : ∀ z ∈ bs, z < 256) (w : World) :
    Calls Tryd.prog 37 #[.agg (u32s s.list).toArray, .agg (u8s bs).toArray] w fun e w' => e = .returned (.agg (u32s (compressN s bs).list).toArray) ∧ Below w.heap.size w w' :=
  refCompress_core s (fun k => roundsN (sched bs) k s) hs (sched bs) (sched_length bs) (sched_lt bs hb) rfl (fun _ => rfl) (fun k => roundsN_ok hs k) bs hl (fun w => refSchedule_any bs hl hb w) constants_any w
end Go.Proofs.YtkpjbleogjmbjaaDoor.Sh
