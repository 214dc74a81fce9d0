/-
  What is known of what a Prf was asked; drawn.prf; Prf of an ideal suite. Nothing but some blocks of the suite's own has turned.
-/
import Derived.Test.YtkpjbleogjmbjaaDoorTapeAll
import Derived.Test.YtkpjbleogjmbjaaDoorArgs2
import Derived.Shelf.Abstract
import Derived.Lib.SliceRun
namespace Go.Proofs.YtkpjbleogjmbjaaDoor
open Classical
open Go.RowKit Go.Shelf

theorem zero24 (w : World) : (zeroValue 24).run Tryd.prog w = .ok (.agg noKey.toArray) w := by kernel_rfl
theorem size77 : (Tryd.prog.info? 77).map (·.size) = some 34 := by kernel_rfl
/-- What holds of blocks below N alone. -/
def Stays (N : Nat) (G : World → Prop) : Prop := ∀ W W', Below N W W' → G W → G W'

/-- What lies when known begins: what is asked, and room for the answer. -/
def knownW (w : World) (c : List Value) : World := (w.alloc (.cells c.toArray 77)).alloc (.cells (List.replicate 32 (Value.int .u8 0)).toArray 24)
theorem knownW_below (w : World) (c : List Value) : Below w.heap.size w (knownW w c) := ((Below.refl _ w).alloc (Nat.le_refl _) _).alloc (by simp) _
theorem knownW_size (w : World) (c : List Value) : (knownW w c).heap.size = w.heap.size + 1 + 1 := by simp [knownW]
theorem knownW_asked (w : World) (c : List Value) : Row (knownW w c) w.heap.size 77 c := (Row.new' w 77 c).alloc _
theorem knownW_res (w : World) (c : List Value) : Row (knownW w c) (w.heap.size + 1) 24 noKey := by
  have h := Row.new' (w.alloc (.cells c.toArray 77)) 24 noKey
  rw [World.size_alloc] at h
  exact h

set_option maxRecDepth 100000 in
set_option maxHeartbeats 1000000 in
/-- What is known. -/
theorem known_old (m : Nat) (c : List Value) (kl : Lit) (hkey : keyOf Tryd.prog 77 (.agg c.toArray) = some kl) (hc : c.length = 34) (V : List Value) (hV : V.length = 32) (hV1 : ∀ v ∈ V, v.oneCell' = true) (f : Value → Option Value) (fv : Value) (w : World) (hM : MapAt Tryd.prog 77 w m f) (hf : f (.agg c.toArray) = some (.agg V.toArray)) :
    Calls Tryd.prog 25 #[.map (some m), .agg c.toArray, fv] w fun e w' => e = .returned (.tuple #[.agg V.toArray, .int .i64 0]) ∧ Below w.heap.size w w' := by
  have HM : Hid (MapAt Tryd.prog 77 (knownW w c) m f) := hM.below (knownW_below w c) hM.lt
  have HK : Hid (keyOf Tryd.prog 77 (.agg c.toArray) = some kl) := hkey
  have HF : Hid (f (.agg c.toArray) = some (.agg V.toArray)) := hf
  have HV : Hid (V.length = 32) := hV
  have HV1 : Hid (∀ v ∈ V, v.oneCell' = true) := hV1
  have HR0 : Hid (Row (knownW w c) w.heap.size 77 c) := knownW_asked w c
  have HRs : Hid (Row (knownW w c) (w.heap.size + 1) 24 noKey) := knownW_res w c
  have HS : Hid ((Tryd.prog.info? 77).map (·.size) = some c.length) := by show _ = _; rw [hc]; exact size77
  have HW0 : Hid ((w.alloc (.cells c.toArray 77)).alloc (.cells (List.replicate 32 (Value.int .u8 0)).toArray 24) = knownW w c) := rfl
  have hs0 := knownW_size w c
  have hb0 := knownW_below w c
  clear hM hkey hf hV hV1 hc
  generalize knownW w c = w0 at *
  have hlt : w.heap.size + 1 < w0.heap.size := by omega
  have HB0 : Hid (w0.heap.size = w.heap.size + 1 + 1) := hs0
  clear hs0
  go_enter Tryd.func25, Tryd.ntmps25
  go_wp2_with (first
    | ((with_reducible show wpList _ _ _ (Oper.mk _ (Op.load 77 (.tmp 4)) _ _ _ _ :: _) _ _); rw [z32u8, HW0.out]; refine wpList_load_mid rfl 77 (.tmp 4) rfl w.heap.size 0 rfl c _ HR0.out.range Tryd.underlying77 rfl HS.out ?_; simp only [Act.put, List.setIfInBounds_toArray, List.set_cons_zero, List.set_cons_succ])
    | (at_lookup; refine wpList_lookOk_some rfl _ _ 65 24 rfl keyed77 Tryd.underlying65 (zero24 _) rfl HM.out rfl HK.out HF.out ?_)
    | ((with_reducible show wpList _ _ _ (Oper.mk _ (Op.store 24 (.tmp 8) (.tmp 16)) _ _ _ _ :: _) _ _); refine wpList_store_Row rfl 24 (.tmp 8) (.tmp 16) rfl V rfl rfl (Row.new _ _ _) (by rw [HV.out]; exact size24) (by rw [HV.out]; rfl) HV1.out ?_; simp only [Act.put])
    | ((with_reducible show wpList _ _ _ (Oper.mk _ (Op.load 24 (.tmp 8)) _ _ _ _ :: _) _ _); refine wpList_load_Row rfl 24 (.tmp 8) rfl rfl (Row.sets_all (Row.new _ _ _) (by rw [HV.out]; rfl)) Tryd.underlying24 (by rw [HV.out]; exact size24) ?_; simp only [Act.put, List.setIfInBounds_toArray, List.set_cons_zero, List.set_cons_succ])
    | ((with_reducible show wpList _ _ _ (Oper.mk _ (Op.store 24 (.tmp 6) (.tmp 19)) _ _ _ _ :: _) _ _); refine wpList_store_Row rfl 24 (.tmp 6) (.tmp 19) rfl V rfl rfl (Row.below HRs.out (below_setCells (B := w0.heap.size) (Nat.le_refl _) _ _ ((Below.refl _ w0).alloc (Nat.le_refl _) _)) hlt) (by rw [HV.out]; exact size24) (by rw [HV.out]; rfl) HV1.out ?_; simp only [Act.put]))
  refine bodyPost_ret (results_Row_tmp rfl rfl (Row.sets_all (Row.below HRs.out (below_setCells (B := w0.heap.size) (Nat.le_refl _) _ _ ((Below.refl _ w0).alloc (Nat.le_refl _) _)) hlt) (by rw [HV.out]; rfl)) Tryd.underlying24 (by rw [HV.out]; exact size24)) rfl ?_
  exact ⟨rfl, below_setCells (by omega) _ _ (below_setCells (by omega) _ _ (hb0.alloc (by omega) _))⟩

set_option maxRecDepth 100000 in
set_option maxHeartbeats 1000000 in
/-- What is not known: refused. -/
theorem known_err (N m T : Nat) (F : List Nat) (c : List Value) (kl : Lit) (hkey : keyOf Tryd.prog 77 (.agg c.toArray) = some kl) (hc : c.length = 34) (V : List Value) (hV : V.length = 32) (hV1 : ∀ v ∈ V, v.oneCell' = true) (f : Value → Option Value) (G : World → Prop) (hG : Stays N G) (w : World) (hN : N ≤ w.heap.size) (hF : ∀ k ∈ F, k < N) (hM : MapAt Tryd.prog 77 w m f) (hf : f (.agg c.toArray) = none)
    (HC : Hid (∀ W, Below w.heap.size w W → Calls Tryd.prog 26 #[.pointer (some ⟨T, 0, none⟩)] W fun e w' => e = .returned (.tuple #[.agg V.toArray, .int .i64 60]) ∧ G w' ∧ Buts F W.heap.size W w')) :
    Calls Tryd.prog 25 #[.map (some m), .agg c.toArray, .func (.func 26) #[.pointer (some ⟨T, 0, none⟩)] #[]] w fun e w' => e = .returned (.tuple #[.agg V.toArray, .int .i64 60]) ∧ G w' ∧ Buts F w.heap.size w w' := by
  have HM : Hid (MapAt Tryd.prog 77 (knownW w c) m f) := hM.below (knownW_below w c) hM.lt
  have HK : Hid (keyOf Tryd.prog 77 (.agg c.toArray) = some kl) := hkey
  have HF : Hid (f (.agg c.toArray) = none) := hf
  have HV : Hid (V.length = 32) := hV
  have HV1 : Hid (∀ v ∈ V, v.oneCell' = true) := hV1
  have HR0 : Hid (Row (knownW w c) w.heap.size 77 c) := knownW_asked w c
  have HRs : Hid (Row (knownW w c) (w.heap.size + 1) 24 noKey) := knownW_res w c
  have HS : Hid ((Tryd.prog.info? 77).map (·.size) = some c.length) := by show _ = _; rw [hc]; exact size77
  have HW0 : Hid ((w.alloc (.cells c.toArray 77)).alloc (.cells (List.replicate 32 (Value.int .u8 0)).toArray 24) = knownW w c) := rfl
  have hs0 := knownW_size w c
  have hb0 := knownW_below w c
  have hFn : w.heap.size + 1 ∉ F := fun h => by have := hF _ h; omega
  clear hM hkey hf hV hV1 hc
  generalize knownW w c = w0 at *
  have hlt : w.heap.size + 1 < w0.heap.size := by omega
  clear hs0
  go_enter Tryd.func25, Tryd.ntmps25
  go_wp2_with (first
    | ((with_reducible show wpList _ _ _ (Oper.mk _ (Op.load 77 (.tmp 4)) _ _ _ _ :: _) _ _); rw [z32u8, HW0.out]; refine wpList_load_mid rfl 77 (.tmp 4) rfl w.heap.size 0 rfl c _ HR0.out.range Tryd.underlying77 rfl HS.out ?_; simp only [Act.put, List.setIfInBounds_toArray, List.set_cons_zero, List.set_cons_succ])
    | (at_lookup; refine wpList_lookOk_none rfl _ _ 65 24 rfl keyed77 Tryd.underlying65 (zero24 _) rfl HM.out rfl HK.out HF.out ?_)
    | ((with_reducible show wpList _ _ _ (Oper.mk _ (Op.store 24 (.tmp 8) (.tmp 16)) _ _ _ _ :: _) _ _); refine wpList_store_Row rfl 24 (.tmp 8) (.tmp 16) rfl noKey rfl rfl (Row.new _ _ _) size24 rfl (by decide) ?_; simp only [Act.put]))
  rw [z32u8]
  obtain ⟨w9, hw9⟩ : ∃ w9, World.setCells (w0.alloc (.cells (List.replicate 32 (Value.int .u8 0)).toArray 24)) w0.heap.size 0 noKey = w9 := ⟨_, rfl⟩
  rw [hw9]
  have hb9 : Below w0.heap.size w0 w9 := by rw [← hw9]; exact below_setCells (Nat.le_refl _) _ _ ((Below.refl _ w0).alloc (Nat.le_refl _) _)
  have hr9 : Row w9 (w.heap.size + 1) 24 noKey := HRs.out.later hb9
  have hbw : Below w.heap.size w w9 := hb0.trans (hb9.mono (by omega))
  clear hw9
  refine (HC.out _ hbw).mono ?_
  rintro e w1 ⟨rfl, hg1, hb1⟩
  have HR1 : Hid (Row w1 (w.heap.size + 1) 24 noKey) := hb1.row hr9.lt hFn hr9
  have HB1 : Hid (Buts F w.heap.size w w1) := (Buts.of_below hbw (Nat.le_refl _)).trans (hb1.mono (fun _ h => h) hbw.size)
  have HG1 : Hid (G w1) := hg1
  clear hr9 hb9 hb1 hg1 hbw
  go_wp2_with (first
    | ((with_reducible show wpList _ _ _ (Oper.mk _ (Op.store 24 (.tmp 10) (.tmp 23)) _ _ _ _ :: _) _ _); refine wpList_store_Row rfl 24 (.tmp 10) (.tmp 23) rfl V rfl rfl (Row.new _ _ _) (by rw [HV.out]; exact size24) (by rw [HV.out]; rfl) HV1.out ?_; simp only [Act.put])
    | ((with_reducible show wpList _ _ _ (Oper.mk _ (Op.load 24 (.tmp 10)) _ _ _ _ :: _) _ _); refine wpList_load_Row rfl 24 (.tmp 10) rfl rfl (Row.sets_all (Row.new _ _ _) (by rw [HV.out]; rfl)) Tryd.underlying24 (by rw [HV.out]; exact size24) ?_; simp only [Act.put, List.setIfInBounds_toArray, List.set_cons_zero, List.set_cons_succ])
    | ((with_reducible show wpList _ _ _ (Oper.mk _ (Op.store 24 (.tmp 6) (.tmp 30)) _ _ _ _ :: _) _ _); refine wpList_store_Row rfl 24 (.tmp 6) (.tmp 30) rfl V rfl rfl (Row.below HR1.out (below_setCells (Nat.le_refl _) _ _ ((Below.refl _ w1).alloc (Nat.le_refl _) _)) (Row.lt HR1.out)) (by rw [HV.out]; exact size24) (by rw [HV.out]; rfl) HV1.out ?_; simp only [Act.put]))
  have hbe := below_setCells (Nat.le_refl _) V 0 ((Below.refl w1.heap.size w1).alloc (Nat.le_refl _) (.cells (List.replicate 32 (Value.int .u8 0)).toArray 24))
  have HR2 := Row.below HR1.out hbe (Row.lt HR1.out)
  refine bodyPost_ret (results_Row_tmp rfl rfl (Row.sets_all HR2 (by rw [HV.out]; rfl)) Tryd.underlying24 (by rw [HV.out]; exact size24)) rfl ?_
  have hend := below_setCells (B := w.heap.size) (b := w.heap.size + 1) (by omega) V 0 (hbe.mono (HB1.out.size : w.heap.size ≤ _))
  exact ⟨rfl, hG _ _ (hend.mono hN) HG1.out, HB1.out.trans (Buts.of_below hend (Nat.le_refl _))⟩

set_option maxRecDepth 100000 in
set_option maxHeartbeats 1000000 in
/-- What is not known: drawn, and kept. -/
theorem known_new (N m T : Nat) (F : List Nat) (c : List Value) (kl : Lit) (hkey : keyOf Tryd.prog 77 (.agg c.toArray) = some kl) (hc : c.length = 34) (V : List Value) (hV : V.length = 32) (hV1 : ∀ v ∈ V, v.oneCell' = true) (f : Value → Option Value) (G G' : World → Prop) (hG' : Stays N G') (w : World) (hN : N ≤ w.heap.size) (hF : ∀ k ∈ F, k < N) (hmF : m ∈ F) (hM : MapAt Tryd.prog 77 w m f) (hf : f (.agg c.toArray) = none)
    (HC : Hid (∀ W, Below w.heap.size w W → Calls Tryd.prog 26 #[.pointer (some ⟨T, 0, none⟩)] W fun e w' => e = .returned (.tuple #[.agg V.toArray, .int .i64 0]) ∧ G w' ∧ Buts F W.heap.size W w'))
    (hGM : ∀ W, G W → MapAt Tryd.prog 77 W m f) (hGG : ∀ W W', G W → MapAt Tryd.prog 77 W' m (fnPut f (.agg c.toArray) (.agg V.toArray)) → But m W.heap.size W W' → G' W') :
    Calls Tryd.prog 25 #[.map (some m), .agg c.toArray, .func (.func 26) #[.pointer (some ⟨T, 0, none⟩)] #[]] w fun e w' => e = .returned (.tuple #[.agg V.toArray, .int .i64 0]) ∧ G' w' ∧ Buts F w.heap.size w w' := by
  have HM : Hid (MapAt Tryd.prog 77 (knownW w c) m f) := hM.below (knownW_below w c) hM.lt
  have HK : Hid (keyOf Tryd.prog 77 (.agg c.toArray) = some kl) := hkey
  have HF : Hid (f (.agg c.toArray) = none) := hf
  have HV : Hid (V.length = 32) := hV
  have HV1 : Hid (∀ v ∈ V, v.oneCell' = true) := hV1
  have HR0 : Hid (Row (knownW w c) w.heap.size 77 c) := knownW_asked w c
  have HRs : Hid (Row (knownW w c) (w.heap.size + 1) 24 noKey) := knownW_res w c
  have HS : Hid ((Tryd.prog.info? 77).map (·.size) = some c.length) := by show _ = _; rw [hc]; exact size77
  have HW0 : Hid ((w.alloc (.cells c.toArray 77)).alloc (.cells (List.replicate 32 (Value.int .u8 0)).toArray 24) = knownW w c) := rfl
  have hs0 := knownW_size w c
  have hb0 := knownW_below w c
  have hFn : w.heap.size + 1 ∉ F := fun h => by have := hF _ h; omega
  have hFa : w.heap.size ∉ F := fun h => by have := hF _ h; omega
  have hml := hM.lt
  have hmN := hF m hmF
  clear hM hkey hf hV hV1 hc
  generalize knownW w c = w0 at *
  have hlt : w.heap.size + 1 < w0.heap.size := by omega
  clear hs0
  go_enter Tryd.func25, Tryd.ntmps25
  go_wp2_with (first
    | ((with_reducible show wpList _ _ _ (Oper.mk _ (Op.load 77 (.tmp 4)) _ _ _ _ :: _) _ _); rw [z32u8, HW0.out]; refine wpList_load_mid rfl 77 (.tmp 4) rfl w.heap.size 0 rfl c _ HR0.out.range Tryd.underlying77 rfl HS.out ?_; simp only [Act.put, List.setIfInBounds_toArray, List.set_cons_zero, List.set_cons_succ])
    | (at_lookup; refine wpList_lookOk_none rfl _ _ 65 24 rfl keyed77 Tryd.underlying65 (zero24 _) rfl HM.out rfl HK.out HF.out ?_)
    | ((with_reducible show wpList _ _ _ (Oper.mk _ (Op.store 24 (.tmp 8) (.tmp 16)) _ _ _ _ :: _) _ _); refine wpList_store_Row rfl 24 (.tmp 8) (.tmp 16) rfl noKey rfl rfl (Row.new _ _ _) size24 rfl (by decide) ?_; simp only [Act.put]))
  rw [z32u8]
  obtain ⟨w9, hw9⟩ : ∃ w9, World.setCells (w0.alloc (.cells (List.replicate 32 (Value.int .u8 0)).toArray 24)) w0.heap.size 0 noKey = w9 := ⟨_, rfl⟩
  rw [hw9]
  have hb9 : Below w0.heap.size w0 w9 := by rw [← hw9]; exact below_setCells (Nat.le_refl _) _ _ ((Below.refl _ w0).alloc (Nat.le_refl _) _)
  have hr9 : Row w9 (w.heap.size + 1) 24 noKey := HRs.out.later hb9
  have ha9 : Row w9 w.heap.size 77 c := HR0.out.later hb9
  have hbw : Below w.heap.size w w9 := hb0.trans (hb9.mono (by omega))
  clear hw9
  refine (HC.out _ hbw).mono ?_
  rintro e w1 ⟨rfl, hg1, hb1⟩
  have hr1 : Row w1 (w.heap.size + 1) 24 noKey := hb1.row hr9.lt hFn hr9
  have ha1 : Row w1 w.heap.size 77 c := hb1.row ha9.lt hFa ha9
  have hB1 : Buts F w.heap.size w w1 := (Buts.of_below hbw (Nat.le_refl _)).trans (hb1.mono (fun _ h => h) hbw.size)
  have hM1 := hGM _ hg1
  obtain ⟨w2, hw2⟩ : ∃ w2, World.setCells (w1.alloc (.cells (List.replicate 32 (Value.int .u8 0)).toArray 24)) w1.heap.size 0 V = w2 := ⟨_, rfl⟩
  have hb2 : Below w1.heap.size w1 w2 := by rw [← hw2]; exact below_setCells (Nat.le_refl _) _ _ ((Below.refl _ w1).alloc (Nat.le_refl _) _)
  have hr2 : Row w2 w1.heap.size 24 V := by rw [← hw2]; exact Row.sets_all (Row.new _ _ _) (by rw [HV.out]; rfl)
  have HA2 : Hid (Row w2 w.heap.size 77 c) := ha1.later hb2
  have HM2 : Hid (MapAt Tryd.prog 77 w2 m f) := hM1.below hb2 hM1.lt
  have HR2 : Hid (Row w2 w1.heap.size 24 V) := hr2
  have HW2 : Hid (World.setCells (w1.alloc (.cells (List.replicate 32 (Value.int .u8 0)).toArray 24)) w1.heap.size 0 V = w2) := hw2
  have HX : Hid (∀ w3, MapAt Tryd.prog 77 w3 m (fnPut f (.agg c.toArray) (.agg V.toArray)) → But m w2.heap.size w2 w3 → G' (w3.setCells (w.heap.size + 1) 0 V) ∧ Buts F w.heap.size w (w3.setCells (w.heap.size + 1) 0 V) ∧ Row w3 (w.heap.size + 1) 24 noKey ∧ Row w3 w1.heap.size 24 V) := fun w3 hm3 hb3 => by
    have hl1 := hr1.lt
    have hs2 := hb2.size
    have hl2 := hr2.lt
    have hmm := hM1.lt
    have hG3 : G' w3 := hGG w1 w3 hg1 hm3 ((But.of_below hb2 (Nat.le_refl _)).trans (hb3.mono hs2))
    have hend : Below w.heap.size w3 (w3.setCells (w.heap.size + 1) 0 V) := below_setCells (by omega) V 0 (Below.refl _ _)
    refine ⟨hG' _ _ (hend.mono hN) hG3, (hB1.trans ((Buts.of_below hb2 (by omega)).trans (Buts.of_but hb3 hmF (by omega)))).trans (Buts.of_below hend (Nat.le_refl _)), hb3.row (by omega) (by omega) (hr1.later hb2), hb3.row hl2 (by omega) hr2⟩
  clear hr9 ha9 hb9 hb1 hg1 hr1 ha1 hB1 hM1 hw2 hr2 hb2 hbw
  go_wp2_with (first
    | ((with_reducible show wpList _ _ _ (Oper.mk _ (Op.store 24 (.tmp 10) (.tmp 23)) _ _ _ _ :: _) _ _); refine wpList_store_Row rfl 24 (.tmp 10) (.tmp 23) rfl V rfl rfl (Row.new _ _ _) (by rw [HV.out]; exact size24) (by rw [HV.out]; rfl) HV1.out ?_; simp only [Act.put]; rw [z32u8, HW2.out])
    | ((with_reducible show wpList _ _ _ (Oper.mk (some 28) (Op.load 77 (.tmp 4)) _ _ _ _ :: _) _ _); refine wpList_load_mid rfl 77 (.tmp 4) rfl w.heap.size 0 rfl c _ HA2.out.range Tryd.underlying77 rfl HS.out ?_; simp only [Act.put, List.setIfInBounds_toArray, List.set_cons_zero, List.set_cons_succ])
    | ((with_reducible show wpList _ _ _ (Oper.mk (some 29) (Op.load 24 (.tmp 10)) _ _ _ _ :: _) _ _); refine wpList_load_Row rfl 24 (.tmp 10) rfl rfl HR2.out Tryd.underlying24 (by rw [HV.out]; exact size24) ?_; simp only [Act.put, List.setIfInBounds_toArray, List.set_cons_zero, List.set_cons_succ])
    | (at_mapUpdate; refine wpList_mapStore w2.heap.size rfl _ _ _ 65 24 rfl keyed77 Tryd.underlying65 rfl HM2.out rfl rfl HK.out ?_; intro w3 hM3 hb3; obtain ⟨hg3, hB3, hr3, hrV⟩ := HX.out w3 hM3 hb3; have HR3 : Hid (Row w3 (w.heap.size + 1) 24 noKey) := hr3; have HRV : Hid (Row w3 w1.heap.size 24 V) := hrV; clear hr3 hrV)
    | ((with_reducible show wpList _ _ _ (Oper.mk (some 30) (Op.load 24 (.tmp 10)) _ _ _ _ :: _) _ _); refine wpList_load_Row rfl 24 (.tmp 10) rfl rfl HRV.out Tryd.underlying24 (by rw [HV.out]; exact size24) ?_; simp only [Act.put, List.setIfInBounds_toArray, List.set_cons_zero, List.set_cons_succ])
    | ((with_reducible show wpList _ _ _ (Oper.mk _ (Op.store 24 (.tmp 6) (.tmp 30)) _ _ _ _ :: _) _ _); refine wpList_store_Row rfl 24 (.tmp 6) (.tmp 30) rfl V rfl rfl HR3.out (by rw [HV.out]; exact size24) (by rw [HV.out]; rfl) HV1.out ?_; simp only [Act.put]))
  refine bodyPost_ret (results_Row_tmp rfl rfl (Row.sets_all HR3.out (by rw [HV.out]; rfl)) Tryd.underlying24 (by rw [HV.out]; exact size24)) rfl ?_
  exact ⟨rfl, hg3, hB3⟩
end Go.Proofs.YtkpjbleogjmbjaaDoor
