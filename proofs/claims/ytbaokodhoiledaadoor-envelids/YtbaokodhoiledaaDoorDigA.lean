/-
  Several texts in one: Dig1, Dig2.
-/
import Derived.Test.YtbaokodhoiledaaDoorTapeAll
import Derived.Test.YtbaokodhoiledaaDoorWrAll
import Derived.Shelf.Abstract
import Derived.Lib.SliceRun
import Derived.Deep.MidRow
/-
  The draw of an id for a text; what is known of texts; nothing but some blocks of the suite's own has turned.
-/
namespace Go.Proofs.YtbaokodhoiledaaDoor
open Classical
open Go.RowKit Go.Shelf

theorem keyedStr : Maps.Keyed Tryd.prog (9) := Maps.string_keyed Tryd.underlying9
theorem zero38 (w : World) : (zeroValue 38).run Tryd.prog w = .ok (.agg noKey.toArray) w := by kernel_rfl

/-- What holds of blocks below N alone. -/
def Stays (N : Nat) (G : World → Prop) : Prop := ∀ W W', Below N W W' → G W → G W'

set_option maxRecDepth 100000 in
set_option maxHeartbeats 1000000 in
/-- The draw of an id. -/
theorem id1_any (N b D T : Nat) (F : List Nat) (V : List Value) (x : Int) (G : World → Prop) (hG : Stays N G) (hV : V.length = 32) (hV1 : ∀ v ∈ V, v.oneCell' = true) (w : World) (hN : N ≤ w.heap.size) (hF : ∀ k ∈ F, k < N)
    (hb : w.cell? ⟨b, 0, none⟩ = some (.pointer (some ⟨D, 0, none⟩))) (hd : w.cell? ⟨D, 0, none⟩ = some (.pointer (some ⟨T, 0, none⟩)))
    (HK : Hid (∀ W, Below w.heap.size w W → Calls Tryd.prog 48 #[.pointer (some ⟨T, 0, none⟩)] W fun e w' => e = .returned (.tuple #[.agg V.toArray, .int .i64 x]) ∧ G w' ∧ Buts F W.heap.size W w')) :
    Calls Tryd.prog 47 #[.pointer (some ⟨b, 0, none⟩)] w fun e w' => e = .returned (.tuple #[.agg V.toArray, .int .i64 x]) ∧ G w' ∧ Buts F w.heap.size w w' := by
  have hb' : ∀ o, (w.alloc o).cell? ⟨b, 0, none⟩ = some (.pointer (some ⟨D, 0, none⟩)) := fun o => Lib.cell?_alloc_some _ hb
  have hd' : ∀ o, (w.alloc o).cell? ⟨D, 0, none⟩ = some (.pointer (some ⟨T, 0, none⟩)) := fun o => Lib.cell?_alloc_some _ hd
  have HV : Hid (V.length = 32) := hV
  have HV1 : Hid (∀ v ∈ V, v.oneCell' = true) := hV1
  have HF : Hid (w.heap.size ∉ F) := fun h => by have := hF _ h; omega
  clear hb hd hV hV1
  go_enter Tryd.func47, Tryd.ntmps47
  go_wp2_with (first
    | (go_at_call 48; refine (HK.out _ ((Below.refl _ w).alloc (Nat.le_refl _) _)).mono ?_; rintro e w1 ⟨rfl, hg1, hb1⟩; rw [z32u8, World.size_alloc] at hb1; have HR1 : Hid (Row w1 w.heap.size 38 noKey) := hb1.row (by omega) HF.out (Row.new' w 38 noKey); have HB1 : Hid (Buts F w.heap.size w w1) := (Buts.of_below ((Below.refl _ w).alloc (Nat.le_refl _) _) (Nat.le_refl _)).trans (hb1.mono (fun _ h => h) (by omega)); have hs1 : w.heap.size < w1.heap.size := (by have := hb1.size; simp at this; omega); have HG1 : Hid (G w1) := hg1; clear hg1 hb1)
    | ((with_reducible show wpList _ _ _ (Oper.mk _ (Op.store 83 (.tmp 3) (.tmp 11)) _ _ _ _ :: _) _ _); refine wpList_store_Row rfl 83 (.tmp 3) (.tmp 11) rfl V rfl rfl (Row.new _ _ _) (by rw [HV.out]; exact size83) (by rw [HV.out]; rfl) HV1.out ?_; simp only [Act.put])
    | ((with_reducible show wpList _ _ _ (Oper.mk _ (Op.load 83 (.tmp 3)) _ _ _ _ :: _) _ _); refine wpList_load_Row rfl 83 (.tmp 3) rfl rfl (Row.sets_all (Row.new _ _ _) (by rw [HV.out]; rfl)) Tryd.underlying83 (by rw [HV.out]; exact size83) ?_; simp only [Act.put, List.setIfInBounds_toArray, List.set_cons_zero, List.set_cons_succ])
    | ((with_reducible show wpList _ _ _ (Oper.mk _ (Op.store 38 (.tmp 1) (.tmp 13)) _ _ _ _ :: _) _ _); refine wpList_store_Row rfl 38 (.tmp 1) (.tmp 13) rfl V rfl rfl (Row.below HR1.out (below_setCells (Nat.le_refl _) _ _ ((Below.refl _ w1).alloc (Nat.le_refl _) _)) hs1) (by rw [HV.out]; exact size38) (by rw [HV.out]; rfl) HV1.out ?_; simp only [Act.put]))
  have hbe := below_setCells (Nat.le_refl _) V 0 ((Below.refl w1.heap.size w1).alloc (Nat.le_refl _) (.cells (List.replicate 32 (Value.int .u8 0)).toArray 83))
  have HR2 := Row.below HR1.out hbe hs1
  refine bodyPost_ret (results_Row_tmp rfl rfl (Row.sets_all HR2 (by rw [HV.out]; rfl)) Tryd.underlying38 (by rw [HV.out]; exact size38)) rfl ?_
  have hend := below_setCells (Nat.le_refl _) V 0 (hbe.mono (by omega : w.heap.size ≤ _))
  exact ⟨rfl, hG _ _ (hend.mono hN) HG1.out, HB1.out.trans (Buts.of_below hend (Nat.le_refl _))⟩

set_option maxRecDepth 100000 in
set_option maxHeartbeats 1000000 in
/-- What is known. -/
theorem knownId_old (m : Nat) (s : ByteArray) (hs : s.size ≤ maxLen) (V : List Value) (hV : V.length = 32) (hV1 : ∀ v ∈ V, v.oneCell' = true) (f : Value → Option Value) (fv : Value) (w : World) (hM : MapAt Tryd.prog (9) w m f) (hf : f (.string s) = some (.agg V.toArray)) :
    Calls Tryd.prog 46 #[.map (some m), .string s, fv] w fun e w' => e = .returned (.tuple #[.agg V.toArray, .int .i64 0]) ∧ Below w.heap.size w w' := by
  have HM : Hid (∀ o, MapAt Tryd.prog (9) (w.alloc o) m f) := fun o => hM.below ((Below.refl _ w).alloc (Nat.le_refl _) o) hM.lt
  have HK : Hid (keyOf Tryd.prog (9) (.string s) = some (.string s.data.toList)) := WideMaps.keyOf_string_mk Tryd.underlying9 hs
  have HF : Hid (f (.string s) = some (.agg V.toArray)) := hf
  have HV : Hid (V.length = 32) := hV
  have HV1 : Hid (∀ v ∈ V, v.oneCell' = true) := hV1
  clear hM hs hf hV hV1
  go_enter Tryd.func46, Tryd.ntmps46
  go_wp2_with (first
    | (at_lookup; refine wpList_lookOk_some rfl _ _ 70 38 rfl keyedStr Tryd.underlying70 (zero38 _) rfl (HM.out _) rfl HK.out HF.out ?_)
    | ((with_reducible show wpList _ _ _ (Oper.mk _ (Op.store 38 (.tmp 8) (.tmp 16)) _ _ _ _ :: _) _ _); refine wpList_store_Row rfl 38 (.tmp 8) (.tmp 16) rfl V rfl rfl (Row.newAt _ _ _ (by simp)) (by rw [HV.out]; exact size38) (by rw [HV.out]; rfl) HV1.out ?_; simp only [Act.put])
    | ((with_reducible show wpList _ _ _ (Oper.mk _ (Op.load 38 (.tmp 8)) _ _ _ _ :: _) _ _); refine wpList_load_Row rfl 38 (.tmp 8) rfl rfl (Row.sets_all (Row.newAt _ _ _ (by simp)) (by rw [HV.out]; rfl)) Tryd.underlying38 (by rw [HV.out]; exact size38) ?_; simp only [Act.put, List.setIfInBounds_toArray, List.set_cons_zero, List.set_cons_succ])
    | ((with_reducible show wpList _ _ _ (Oper.mk _ (Op.store 38 (.tmp 6) (.tmp 19)) _ _ _ _ :: _) _ _); refine wpList_store_Row rfl 38 (.tmp 6) (.tmp 19) rfl V rfl rfl (Row.below ((Row.new' w 38 noKey).alloc _) (below_setCells (B := w.heap.size + 1) (Nat.le_refl _) _ _ (Below.refl _ _)) (by omega)) (by rw [HV.out]; exact size38) (by rw [HV.out]; rfl) HV1.out ?_; simp only [Act.put]))
  refine bodyPost_ret (results_Row_tmp rfl rfl (Row.sets_all (Row.below ((Row.new' w 38 noKey).alloc _) (below_setCells (B := w.heap.size + 1) (Nat.le_refl _) _ _ (Below.refl _ _)) (by omega)) (by rw [HV.out]; rfl)) Tryd.underlying38 (by rw [HV.out]; exact size38)) rfl ?_
  exact ⟨rfl, below_setCells (Nat.le_refl _) _ _ (below_setCells (by omega) _ _ (((Below.refl _ w).alloc (Nat.le_refl _) _).alloc (by simp) _))⟩

set_option maxRecDepth 100000 in
set_option maxHeartbeats 1000000 in
/-- What is not known: refused, or drawn. -/
theorem knownId_err (N m b : Nat) (F : List Nat) (s : ByteArray) (hs : s.size ≤ maxLen) (V : List Value) (hV : V.length = 32) (hV1 : ∀ v ∈ V, v.oneCell' = true) (f : Value → Option Value) (G : World → Prop) (hG : Stays N G) (w : World) (hN : N ≤ w.heap.size) (hF : ∀ k ∈ F, k < N) (hM : MapAt Tryd.prog (9) w m f) (hf : f (.string s) = none)
    (HC : Hid (∀ W, Below w.heap.size w W → Calls Tryd.prog 47 #[.pointer (some ⟨b, 0, none⟩)] W fun e w' => e = .returned (.tuple #[.agg V.toArray, .int .i64 60]) ∧ G w' ∧ Buts F W.heap.size W w')) :
    Calls Tryd.prog 46 #[.map (some m), .string s, .func (.func 47) #[] #[.pointer (some ⟨b, 0, none⟩)]] w fun e w' => e = .returned (.tuple #[.agg V.toArray, .int .i64 60]) ∧ G w' ∧ Buts F w.heap.size w w' := by
  have HM : Hid (∀ o, MapAt Tryd.prog (9) (w.alloc o) m f) := fun o => hM.below ((Below.refl _ w).alloc (Nat.le_refl _) o) hM.lt
  have HK : Hid (keyOf Tryd.prog (9) (.string s) = some (.string s.data.toList)) := WideMaps.keyOf_string_mk Tryd.underlying9 hs
  have HF : Hid (f (.string s) = none) := hf
  have HV : Hid (V.length = 32) := hV
  have HV1 : Hid (∀ v ∈ V, v.oneCell' = true) := hV1
  have hFn : w.heap.size ∉ F := fun h => by have := hF _ h; omega
  clear hM hs hf hV hV1
  go_enter Tryd.func46, Tryd.ntmps46
  go_wp2_with (first
    | (at_lookup; refine wpList_lookOk_none rfl _ _ 70 38 rfl keyedStr Tryd.underlying70 (zero38 _) rfl (HM.out _) rfl HK.out HF.out ?_)
    | ((with_reducible show wpList _ _ _ (Oper.mk _ (Op.store 38 (.tmp 8) (.tmp 16)) _ _ _ _ :: _) _ _); refine wpList_store_Row rfl 38 (.tmp 8) (.tmp 16) rfl noKey rfl rfl (Row.newAt _ _ _ (by simp)) size38 rfl (by decide) ?_; simp only [Act.put]))
  rw [z32u8]
  obtain ⟨w0, hw0⟩ : ∃ w0, World.setCells ((w.alloc (.cells (List.replicate 32 (Value.int .u8 0)).toArray 38)).alloc (.cells (List.replicate 32 (Value.int .u8 0)).toArray 38)) (w.heap.size + 1) 0 noKey = w0 := ⟨_, rfl⟩
  rw [hw0]
  have hr0 : Row w0 w.heap.size 38 noKey := by rw [← hw0]; exact Row.below ((Row.new' w 38 noKey).alloc _) (below_setCells (B := w.heap.size + 1) (Nat.le_refl _) _ _ (Below.refl _ _)) (by omega)
  have hb0 : Below w.heap.size w w0 := by rw [← hw0]; exact below_setCells (by omega) _ _ (((Below.refl _ w).alloc (Nat.le_refl _) _).alloc (by simp) _)
  clear hw0
  refine (HC.out _ hb0).mono ?_
  rintro e w1 ⟨rfl, hg1, hb1⟩
  have HR1 : Hid (Row w1 w.heap.size 38 noKey) := hb1.row hr0.lt hFn hr0
  have HB1 : Hid (Buts F w.heap.size w w1) := (Buts.of_below hb0 (Nat.le_refl _)).trans (hb1.mono (fun _ h => h) hb0.size)
  have HG1 : Hid (G w1) := hg1
  clear hr0 hb0 hb1 hg1
  go_wp2_with (first
    | ((with_reducible show wpList _ _ _ (Oper.mk _ (Op.store 38 (.tmp 10) (.tmp 23)) _ _ _ _ :: _) _ _); refine wpList_store_Row rfl 38 (.tmp 10) (.tmp 23) rfl V rfl rfl (Row.new _ _ _) (by rw [HV.out]; exact size38) (by rw [HV.out]; rfl) HV1.out ?_; simp only [Act.put])
    | ((with_reducible show wpList _ _ _ (Oper.mk _ (Op.load 38 (.tmp 10)) _ _ _ _ :: _) _ _); refine wpList_load_Row rfl 38 (.tmp 10) rfl rfl (Row.sets_all (Row.new _ _ _) (by rw [HV.out]; rfl)) Tryd.underlying38 (by rw [HV.out]; exact size38) ?_; simp only [Act.put, List.setIfInBounds_toArray, List.set_cons_zero, List.set_cons_succ])
    | ((with_reducible show wpList _ _ _ (Oper.mk _ (Op.store 38 (.tmp 6) (.tmp 30)) _ _ _ _ :: _) _ _); refine wpList_store_Row rfl 38 (.tmp 6) (.tmp 30) rfl V rfl rfl (Row.below HR1.out (below_setCells (Nat.le_refl _) _ _ ((Below.refl _ w1).alloc (Nat.le_refl _) _)) (Row.lt HR1.out)) (by rw [HV.out]; exact size38) (by rw [HV.out]; rfl) HV1.out ?_; simp only [Act.put]))
  have hbe := below_setCells (Nat.le_refl _) V 0 ((Below.refl w1.heap.size w1).alloc (Nat.le_refl _) (.cells (List.replicate 32 (Value.int .u8 0)).toArray 38))
  have HR2 := Row.below HR1.out hbe (Row.lt HR1.out)
  refine bodyPost_ret (results_Row_tmp rfl rfl (Row.sets_all HR2 (by rw [HV.out]; rfl)) Tryd.underlying38 (by rw [HV.out]; exact size38)) rfl ?_
  have hend := below_setCells (Nat.le_refl _) V 0 (hbe.mono (HB1.out.size : w.heap.size ≤ _))
  exact ⟨rfl, hG _ _ (hend.mono hN) HG1.out, HB1.out.trans (Buts.of_below hend (Nat.le_refl _))⟩

set_option maxRecDepth 100000 in
set_option maxHeartbeats 1000000 in
theorem knownId_new (N m b : Nat) (F : List Nat) (s : ByteArray) (hs : s.size ≤ maxLen) (V : List Value) (hV : V.length = 32) (hV1 : ∀ v ∈ V, v.oneCell' = true) (f : Value → Option Value) (G G' : World → Prop) (hG' : Stays N G') (w : World) (hN : N ≤ w.heap.size) (hF : ∀ k ∈ F, k < N) (hmF : m ∈ F) (hM : MapAt Tryd.prog (9) w m f) (hf : f (.string s) = none)
    (HC : Hid (∀ W, Below w.heap.size w W → Calls Tryd.prog 47 #[.pointer (some ⟨b, 0, none⟩)] W fun e w' => e = .returned (.tuple #[.agg V.toArray, .int .i64 0]) ∧ G w' ∧ Buts F W.heap.size W w'))
    (hGM : ∀ W, G W → MapAt Tryd.prog (9) W m f) (hGG : ∀ W W', G W → MapAt Tryd.prog (9) W' m (fnPut f (.string s) (.agg V.toArray)) → But m W.heap.size W W' → G' W') :
    Calls Tryd.prog 46 #[.map (some m), .string s, .func (.func 47) #[] #[.pointer (some ⟨b, 0, none⟩)]] w fun e w' => e = .returned (.tuple #[.agg V.toArray, .int .i64 0]) ∧ G' w' ∧ Buts F w.heap.size w w' := by
  have HM : Hid (∀ o, MapAt Tryd.prog (9) (w.alloc o) m f) := fun o => hM.below ((Below.refl _ w).alloc (Nat.le_refl _) o) hM.lt
  have HK : Hid (keyOf Tryd.prog (9) (.string s) = some (.string s.data.toList)) := WideMaps.keyOf_string_mk Tryd.underlying9 hs
  have HF : Hid (f (.string s) = none) := hf
  have HV : Hid (V.length = 32) := hV
  have HV1 : Hid (∀ v ∈ V, v.oneCell' = true) := hV1
  have hFn : w.heap.size ∉ F := fun h => by have := hF _ h; omega
  have hml := hM.lt
  have hmN := hF m hmF
  clear hM hs hf hV hV1
  go_enter Tryd.func46, Tryd.ntmps46
  go_wp2_with (first
    | (at_lookup; refine wpList_lookOk_none rfl _ _ 70 38 rfl keyedStr Tryd.underlying70 (zero38 _) rfl (HM.out _) rfl HK.out HF.out ?_)
    | ((with_reducible show wpList _ _ _ (Oper.mk _ (Op.store 38 (.tmp 8) (.tmp 16)) _ _ _ _ :: _) _ _); refine wpList_store_Row rfl 38 (.tmp 8) (.tmp 16) rfl noKey rfl rfl (Row.newAt _ _ _ (by simp)) size38 rfl (by decide) ?_; simp only [Act.put]))
  rw [z32u8]
  obtain ⟨w0, hw0⟩ : ∃ w0, World.setCells ((w.alloc (.cells (List.replicate 32 (Value.int .u8 0)).toArray 38)).alloc (.cells (List.replicate 32 (Value.int .u8 0)).toArray 38)) (w.heap.size + 1) 0 noKey = w0 := ⟨_, rfl⟩
  rw [hw0]
  have hr0 : Row w0 w.heap.size 38 noKey := by rw [← hw0]; exact Row.below ((Row.new' w 38 noKey).alloc _) (below_setCells (B := w.heap.size + 1) (Nat.le_refl _) _ _ (Below.refl _ _)) (by omega)
  have hb0 : Below w.heap.size w w0 := by rw [← hw0]; exact below_setCells (by omega) _ _ (((Below.refl _ w).alloc (Nat.le_refl _) _).alloc (by simp) _)
  clear hw0
  refine (HC.out _ hb0).mono ?_
  rintro e w1 ⟨rfl, hg1, hb1⟩
  have hr1 : Row w1 w.heap.size 38 noKey := hb1.row hr0.lt hFn hr0
  have hB1 : Buts F w.heap.size w w1 := (Buts.of_below hb0 (Nat.le_refl _)).trans (hb1.mono (fun _ h => h) hb0.size)
  have hM1 := hGM _ hg1
  obtain ⟨w2, hw2⟩ : ∃ w2, World.setCells (w1.alloc (.cells (List.replicate 32 (Value.int .u8 0)).toArray 38)) w1.heap.size 0 V = w2 := ⟨_, rfl⟩
  have hb2 : Below w1.heap.size w1 w2 := by rw [← hw2]; exact below_setCells (Nat.le_refl _) _ _ ((Below.refl _ w1).alloc (Nat.le_refl _) _)
  have hr2 : Row w2 w1.heap.size 38 V := by rw [← hw2]; exact Row.sets_all (Row.new _ _ _) (by rw [HV.out]; rfl)
  have HM2 : Hid (MapAt Tryd.prog (9) w2 m f) := hM1.below hb2 hM1.lt
  have HR2 : Hid (Row w2 w1.heap.size 38 V) := hr2
  have HW2 : Hid (World.setCells (w1.alloc (.cells (List.replicate 32 (Value.int .u8 0)).toArray 38)) w1.heap.size 0 V = w2) := hw2
  have HX : Hid (∀ w3, MapAt Tryd.prog (9) w3 m (fnPut f (.string s) (.agg V.toArray)) → But m w2.heap.size w2 w3 → G' (w3.setCells w.heap.size 0 V) ∧ Buts F w.heap.size w (w3.setCells w.heap.size 0 V) ∧ Row w3 w.heap.size 38 noKey ∧ Row w3 w1.heap.size 38 V) := fun w3 hm3 hb3 => by
    have hl1 := hr1.lt
    have hs2 := hb2.size
    have hl2 := hr2.lt
    have hmm := hM1.lt
    have hG3 : G' w3 := hGG w1 w3 hg1 hm3 ((But.of_below hb2 (Nat.le_refl _)).trans (hb3.mono hs2))
    have hend : Below w.heap.size w3 (w3.setCells w.heap.size 0 V) := below_setCells (Nat.le_refl _) V 0 (Below.refl _ _)
    refine ⟨hG' _ _ (hend.mono hN) hG3, (hB1.trans ((Buts.of_below hb2 (by omega)).trans (Buts.of_but hb3 hmF (by omega)))).trans (Buts.of_below hend (Nat.le_refl _)), hb3.row (by omega) (by omega) (hr1.later hb2), hb3.row hl2 (by omega) hr2⟩
  clear hr0 hb0 hb1 hg1 hr1 hB1 hM1 hw2 hr2 hb2
  go_wp2_with (first
    | ((with_reducible show wpList _ _ _ (Oper.mk _ (Op.store 38 (.tmp 10) (.tmp 23)) _ _ _ _ :: _) _ _); refine wpList_store_Row rfl 38 (.tmp 10) (.tmp 23) rfl V rfl rfl (Row.new _ _ _) (by rw [HV.out]; exact size38) (by rw [HV.out]; rfl) HV1.out ?_; simp only [Act.put]; rw [z32u8, HW2.out])
    | ((with_reducible show wpList _ _ _ (Oper.mk (some 29) (Op.load 38 (.tmp 10)) _ _ _ _ :: _) _ _); refine wpList_load_Row rfl 38 (.tmp 10) rfl rfl HR2.out Tryd.underlying38 (by rw [HV.out]; exact size38) ?_; simp only [Act.put, List.setIfInBounds_toArray, List.set_cons_zero, List.set_cons_succ])
    | (at_mapUpdate; refine wpList_mapStore w2.heap.size rfl _ _ _ 70 38 rfl keyedStr Tryd.underlying70 rfl HM2.out rfl rfl HK.out ?_; intro w3 hM3 hb3; obtain ⟨hg3, hB3, hr3, hrV⟩ := HX.out w3 hM3 hb3; have HR3 : Hid (Row w3 w.heap.size 38 noKey) := hr3; have HRV : Hid (Row w3 w1.heap.size 38 V) := hrV; clear hr3 hrV)
    | ((with_reducible show wpList _ _ _ (Oper.mk (some 30) (Op.load 38 (.tmp 10)) _ _ _ _ :: _) _ _); refine wpList_load_Row rfl 38 (.tmp 10) rfl rfl HRV.out Tryd.underlying38 (by rw [HV.out]; exact size38) ?_; simp only [Act.put, List.setIfInBounds_toArray, List.set_cons_zero, List.set_cons_succ])
    | ((with_reducible show wpList _ _ _ (Oper.mk _ (Op.store 38 (.tmp 6) (.tmp 30)) _ _ _ _ :: _) _ _); refine wpList_store_Row rfl 38 (.tmp 6) (.tmp 30) rfl V rfl rfl HR3.out (by rw [HV.out]; exact size38) (by rw [HV.out]; rfl) HV1.out ?_; simp only [Act.put]))
  refine bodyPost_ret (results_Row_tmp rfl rfl (Row.sets_all HR3.out (by rw [HV.out]; rfl)) Tryd.underlying38 (by rw [HV.out]; exact size38)) rfl ?_
  exact ⟨rfl, hg3, hB3⟩

set_option maxRecDepth 100000 in
set_option maxHeartbeats 1000000 in
/-- drawn.id, by what known answers. -/
theorem drawnId_any (N D m2 : Nat) (F : List Nat) (x0 x1 x3 x4 : Value) (s : ByteArray) (V : List Value) (hV : V.length = 32) (hV1 : ∀ v ∈ V, v.oneCell' = true) (x : Int) (G : World → Prop) (hG : Stays N G) (w : World) (hN : N ≤ w.heap.size) (hF : ∀ k ∈ F, k < N) (hD : Row w D 74 [x0, x1, .map (some m2), x3, x4])
    (HKn : Hid (∀ W b, Below w.heap.size w W → W.cell? ⟨b, 0, none⟩ = some (.pointer (some ⟨D, 0, none⟩)) → b < W.heap.size → Calls Tryd.prog 46 #[.map (some m2), .string s, .func (.func 47) #[] #[.pointer (some ⟨b, 0, none⟩)]] W fun e w' => e = .returned (.tuple #[.agg V.toArray, .int .i64 x]) ∧ G w' ∧ Buts F W.heap.size W w')) :
    Calls Tryd.prog 35 #[.pointer (some ⟨D, 0, none⟩), .string s] w fun e w' => e = .returned (.tuple #[.agg V.toArray, .int .i64 x]) ∧ G w' ∧ Buts F w.heap.size w w' := by
  obtain ⟨w0, hw0⟩ : ∃ w0, (w.alloc (.cells #[.pointer (some ⟨D, 0, none⟩)] 49)).alloc (.cells (List.replicate 32 (Value.int .u8 0)).toArray 38) = w0 := ⟨_, rfl⟩
  have hb0 : Below w.heap.size w w0 := by rw [← hw0]; exact ((Below.refl _ w).alloc (Nat.le_refl _) _).alloc (by simp) _
  have hs0 : w0.heap.size = w.heap.size + 1 + 1 := by rw [← hw0]; simp
  have hbx : Row w0 w.heap.size 49 [.pointer (some ⟨D, 0, none⟩)] := by rw [← hw0]; exact (Row.new w 49 #[.pointer (some ⟨D, 0, none⟩)]).alloc _
  have hrr : Row w0 (w.heap.size + 1) 38 noKey := by
    have h := Row.new' (w.alloc (.cells #[.pointer (some ⟨D, 0, none⟩)] 49)) 38 noKey
    rw [World.size_alloc] at h
    rw [← hw0]; exact h
  have hDl := hD.lt
  have cm := hD.cell (i := 2) rfl
  have HK : Hid (Calls Tryd.prog 46 #[.map (some m2), .string s, .func (.func 47) #[] #[.pointer (some ⟨w.heap.size, 0, none⟩)]] w0 fun e w' => e = .returned (.tuple #[.agg V.toArray, .int .i64 x]) ∧ G w' ∧ Buts F w0.heap.size w0 w') :=
    HKn.out w0 w.heap.size hb0 (hbx.cell (i := 0) rfl) hbx.lt
  have HW0 : Hid ((w.alloc (.cells #[.pointer (some ⟨D, 0, none⟩)] 49)).alloc (.cells (List.replicate 32 (Value.int .u8 0)).toArray 38) = w0) := hw0
  have HR : Hid (Row w0 (w.heap.size + 1) 38 noKey) := hrr
  have HV : Hid (V.length = 32) := hV
  have HV1 : Hid (∀ v ∈ V, v.oneCell' = true) := hV1
  have hFn : w.heap.size + 1 ∉ F := fun h => by have := hF _ h; omega
  clear hw0 hD hbx hrr hV hV1 HKn
  go_enter Tryd.func35, Tryd.ntmps35
  go_wp2_with (first
    | (go_at_call 46; rw [z32u8, HW0.out]; refine HK.out.mono ?_; rintro e w1 ⟨rfl, hg1, hb1⟩; have HR1 : Hid (Row w1 (w.heap.size + 1) 38 noKey) := hb1.row (by omega) hFn HR.out; have HB1 : Hid (Buts F w.heap.size w w1) := (Buts.of_below hb0 (Nat.le_refl _)).trans (hb1.mono (fun _ h => h) hb0.size); have HG1 : Hid (G w1) := hg1; clear hg1 hb1)
    | ((with_reducible show wpList _ _ _ (Oper.mk _ (Op.store 38 (.tmp 4) (.tmp 13)) _ _ _ _ :: _) _ _); refine wpList_store_Row rfl 38 (.tmp 4) (.tmp 13) rfl V rfl rfl HR1.out (by rw [HV.out]; exact size38) (by rw [HV.out]; rfl) HV1.out ?_; simp only [Act.put]))
  refine bodyPost_ret (results_Row_tmp rfl rfl (Row.sets_all HR1.out (by rw [HV.out]; rfl)) Tryd.underlying38 (by rw [HV.out]; exact size38)) rfl ?_
  have hend : Below w.heap.size w1 (w1.setCells (w.heap.size + 1) 0 V) := below_setCells (by omega) V 0 (Below.refl _ _)
  exact ⟨rfl, hG _ _ (hend.mono hN) HG1.out, HB1.out.trans (Buts.of_below hend (Nat.le_refl _))⟩

set_option maxRecDepth 100000 in
set_option maxHeartbeats 1000000 in
/-- idOf of an ideal suite, by what drawn.id answers. -/
theorem idOf_ideal (N S D : Nat) (F : List Nat) (t g : Option Addr) (s : ByteArray) (V : List Value) (hV : V.length = 32) (hV1 : ∀ v ∈ V, v.oneCell' = true) (x : Int) (G : World → Prop) (hG : Stays N G) (w : World) (hN : N ≤ w.heap.size) (hF : ∀ k ∈ F, k < N) (hS : SuiteAt w S 1 t (some ⟨D, 0, none⟩) g)
    (HI : Hid (∀ W, Below w.heap.size w W → Calls Tryd.prog 35 #[.pointer (some ⟨D, 0, none⟩), .string s] W fun e w' => e = .returned (.tuple #[.agg V.toArray, .int .i64 x]) ∧ G w' ∧ Buts F W.heap.size W w')) :
    Calls Tryd.prog 22 #[.pointer (some ⟨S, 0, none⟩), .string s] w fun e w' => e = .returned (.tuple #[.agg V.toArray, .int .i64 x]) ∧ G w' ∧ Buts F w.heap.size w w' := by
  have hSl := Row.lt hS
  have c1 := Row.cell hS (i := 1) rfl
  have c3 := Row.cell hS (i := 3) rfl
  have hFn : w.heap.size ∉ F := fun h => by have := hF _ h; omega
  have HX : Hid (Calls Tryd.prog 35 #[.pointer (some ⟨D, 0, none⟩), .string s] (w.alloc (.cells (List.replicate 32 (Value.int .u8 0)).toArray 38)) fun e w' => e = .returned (.tuple #[.agg V.toArray, .int .i64 x]) ∧ Row w' w.heap.size 38 noKey ∧ G w' ∧ Buts F w.heap.size w w') :=
    (HI.out _ ((Below.refl _ w).alloc (Nat.le_refl _) _)).mono fun e w' ⟨h1, h2, h3⟩ => ⟨h1, h3.row (by simp) hFn (Row.new' w 38 noKey), h2, (Buts.of_below ((Below.refl _ w).alloc (Nat.le_refl _) _) (Nat.le_refl _)).trans (h3.mono (fun _ h => h) (by simp))⟩
  have HV : Hid (V.length = 32) := hV
  have HV1 : Hid (∀ v ∈ V, v.oneCell' = true) := hV1
  clear hS HI hV hV1
  go_enter Tryd.func22, Tryd.ntmps22
  go_wp2_with (first
    | (go_at_call 35; rw [z32u8]; refine HX.out.mono ?_; rintro e w1 ⟨rfl, hr1, hg1, hb1⟩; have HR1 : Hid (Row w1 w.heap.size 38 noKey) := hr1; clear hr1)
    | ((with_reducible show wpList _ _ _ (Oper.mk _ (Op.store 38 (.tmp 4) (.tmp 20)) _ _ _ _ :: _) _ _); refine wpList_store_Row rfl 38 (.tmp 4) (.tmp 20) rfl V rfl rfl HR1.out (by rw [HV.out]; exact size38) (by rw [HV.out]; rfl) HV1.out ?_; simp only [Act.put]))
  refine bodyPost_ret (results_Row_tmp rfl rfl (Row.sets_all HR1.out (by rw [HV.out]; rfl)) Tryd.underlying38 (by rw [HV.out]; exact size38)) rfl ?_
  have hend : Below w.heap.size w1 (w1.setCells w.heap.size 0 V) := below_setCells (Nat.le_refl _) V 0 (Below.refl _ _)
  exact ⟨rfl, hG _ _ (hend.mono hN) hg1, hb1.trans (Buts.of_below hend (Nat.le_refl _))⟩

end Go.Proofs.YtbaokodhoiledaaDoor
/-
  What a suite keeps of the texts that came to an id: meet, in its three ways.
-/
namespace Go.Proofs.YtbaokodhoiledaaDoor
open Classical
open Go.RowKit Go.Shelf
attribute [local go_sem] Oper.semAt_some

theorem wpHeld_loadS {P : Program} {ops : Array Oper} {S : World → Prop} {K : Act → Prop} {a : Act} {o : Oper} {rest : List Oper} (hw : Region.wanted o (yielded ops a.tmps) = true) (ty : TypeId) (x : Operand) (ho : o.op = .load ty x)
    (b off : Nat) (hx : a.eval x = .pointer (some ⟨b, off, none⟩)) (cs : List Value) {d : TypeDesc} (hS : ∀ w, S w → w.rangeAt b off cs) (hu : P.underlying ty = some d) (hd : d.isRow = true) (hi : (P.info? ty).map (·.size) = some cs.length)
    (h : wpHeld P ops S K rest (a.put o.dst (.agg cs.toArray))) : wpHeld P ops S K (o :: rest) a := ⟨_, yieldsIf_load_mid hw ty x ho b off hx cs _ hS hu hd hi, h⟩

theorem zero97 (w : World) : (zeroValue 97).run Tryd.prog w = .ok (.agg #[.string ByteArray.empty, .bool false]) w := by kernel_rfl
theorem size97 : (Tryd.prog.info? 97).map (·.size) = some 2 := by kernel_rfl
/-- What is kept of the first text. -/
def metV (s : ByteArray) (b : Bool) : Value := .agg #[.string s, .bool b]

theorem str_inj {a b : ByteArray} (h : a.toList = b.toList) : a = b := by
  rw [ByteArray.toList_eq, ByteArray.toList_eq] at h
  cases a; cases b
  simp only [ByteArray.mk.injEq]
  exact Array.toList_inj.1 h

set_option maxHeartbeats 1000000 in
/-- tell, for the first time. -/
theorem tell_any (g gm : Nat) (x2 x3 : Value) (s0 s : ByteArray) (w : World) (hg : Row w g 68 [.map (some gm), .bool false, x2, x3]) :
    Calls Tryd.prog 37 #[.pointer (some ⟨g, 0, none⟩), .string s0, .string s] w fun e w' => e = .returned (.tuple #[]) ∧ But g w.heap.size w w' := by
  have c1 := hg.cell (i := 1) rfl
  have fz1 := hg.frozen 1
  have fz2 := hg.frozen 2
  have fz3 := hg.frozen 3
  have c2 := hg.cell (i := 2) rfl
  have c3 := hg.cell (i := 3) rfl
  go_enter Tryd.func37, Tryd.ntmps37
  go_wp2
  refine bodyPost_end (results_none rfl _ _ _) rfl ?_
  exact ⟨rfl, ((But.set 1 _).trans (But.set 2 _)).trans (But.set 3 _)⟩

set_option maxRecDepth 100000 in
set_option maxHeartbeats 1000000 in
/-- A text with an id that is new. -/
theorem meet_new (g gm : Nat) (x2 x3 : Value) (d : List Nat) (hd : IsKey32 d) (s : ByteArray) (f : Value → Option Value) (w : World) (hg : Row w g 68 [.map (some gm), .bool false, x2, x3]) (hM : MapAt Tryd.prog (38) w gm f) (hf : f (.agg (u8s d).toArray) = none) :
    Calls Tryd.prog 23 #[.pointer (some ⟨g, 0, none⟩), .agg (u8s d).toArray, .string s] w fun e w' => e = .returned (.int .i64 0) ∧ MapAt Tryd.prog (38) w' gm (fnPut f (.agg (u8s d).toArray) (metV s false)) ∧ But gm w.heap.size w w' := by
  obtain ⟨kl, hkey⟩ := keyOf_key hd
  have hgm := row_map hg hM
  obtain ⟨w0, hw0⟩ : ∃ w0, w.alloc (.cells (u8s d).toArray 38) = w0 := ⟨_, rfl⟩
  have hb0 : Below w.heap.size w w0 := by rw [← hw0]; exact (Below.refl _ w).alloc (Nat.le_refl _) _
  have hs0 : w0.heap.size = w.heap.size + 1 := by rw [← hw0]; simp
  have hR0 : Row w0 w.heap.size 38 (u8s d) := by rw [← hw0]; exact Row.new' w 38 _
  have hg0 := hg.later hb0
  have hM0 := hM.below hb0 hM.lt
  have hgl := hg.lt
  have hml := hM.lt
  have HVL : Hid ((u8s d).length = 32) := by show _ = _; rw [u8s_length, hd.1]
  have HW0 : Hid (w.alloc (.cells (u8s d).toArray 38) = w0) := hw0
  have HLook : Hid (∀ W, MapAt Tryd.prog (38) W gm f → (Instr.lookup 66 (.map (some gm)) (.agg (u8s d).toArray) true).run Tryd.prog W = .ok (.tuple #[.agg #[.string ByteArray.empty, .bool false], .bool false]) W) := fun W hW => by
    have h := hW.look true keyed38 Tryd.underlying66 (zero97 W) hkey
    rw [hf] at h
    exact h
  have HKEY : Hid (keyOf Tryd.prog (38) (.agg (u8s d).toArray) = some kl) := hkey
  clear hw0 hg hM hf hd hkey
  generalize u8s d = V at *
  go_enter Tryd.func23, Tryd.ntmps23
  go_wp2_with fail
  rw [HW0.out]
  refine wp_region_noPanic ?_
  refine wp_region_held_drew (S := fun W' => W'.cell? ⟨g, 0, none⟩ = some (.map (some gm)) ∧ W'.rangeAt w.heap.size 0 V ∧ (Instr.lookup 66 (.map (some gm)) (.agg V.toArray) true).run Tryd.prog W' = .ok (.tuple #[.agg #[.string ByteArray.empty, .bool false], .bool false]) W') (by kernel_rfl) ⟨hg0.drew.cell (i := 0) rfl, hR0.drew.range, HLook.out _ (hM0.kept rfl)⟩ (fun hHeld => ?_)
  refine wpAnyH_takesAt 0 4 8 (of_decide_eq_true (by kernel_rfl)) rfl (fun _ _ _ d _ h => by cases d <;> exact h) (by kernel_rfl) (by kernel_rfl) hHeld ?_
  simp only [List.drop_zero, List.take_succ_cons, List.take_zero]
  iterate 4 (refine wpHeld_step (v := ?_) (by rfl) (fun wz hSw => ?_) ?_; rotate_left; (focus ((try dsimp only at hSw); go_simp; try with_reducible rfl)); (simp only [Act.put, List.setIfInBounds_toArray, List.set_cons_zero, List.set_cons_succ]))
  refine wpHeld_nil ?_
  refine wpAnyH_takesAt 4 1 7 (of_decide_eq_true (by kernel_rfl)) rfl (fun _ _ _ d _ h => by cases d <;> exact h) (by kernel_rfl) (by kernel_rfl) hHeld ?_
  simp only [List.drop_succ_cons, List.drop_zero, List.take_succ_cons, List.take_zero]
  refine wpHeld_loadS (by rfl) 38 (.tmp 4) rfl w.heap.size 0 rfl V (fun W hW => hW.2.1) Tryd.underlying38 rfl (by rw [HVL.out]; exact size38) ?_
  simp only [Act.put, List.setIfInBounds_toArray, List.set_cons_zero, List.set_cons_succ]
  refine wpHeld_nil ?_
  refine wpAnyH_takesAt 5 4 3 (of_decide_eq_true (by kernel_rfl)) rfl (fun _ _ _ d _ h => by cases d <;> exact h) (by kernel_rfl) (by kernel_rfl) hHeld ?_
  simp only [List.drop_succ_cons, List.drop_zero, List.take_succ_cons, List.take_zero]
  iterate 4 (refine wpHeld_step (v := ?_) (by rfl) (fun wz hSw => ?_) ?_; rotate_left; (focus ((try dsimp only at hSw); go_simp; try with_reducible rfl)); (simp only [Act.put, List.setIfInBounds_toArray, List.set_cons_zero, List.set_cons_succ]))
  refine wpHeld_nil ?_
  refine wpAnyH_only (i := 9) (by kernel_rfl) rfl (fun K hK => ?_)
  rw [if_pos (by rfl)]
  go_simp
  obtain ⟨w1, hw1⟩ : ∃ w1, (w0.alloc (Obj.cells #[Value.string { data := #[] }, Value.bool false] 97)).drew = w1 := ⟨_, rfl⟩
  have hb1 : Below w0.heap.size w0 w1 := by rw [← hw1]; exact below_drewN ((Below.refl _ w0).alloc (Nat.le_refl _) _) 1
  have hs1 : w1.heap.size = w0.heap.size + 1 := by rw [← hw1]; exact World.size_alloc _ _
  have hr1 : Row w1 (w.heap.size + 1) 97 [.string ByteArray.empty, .bool false] := by rw [← hw1]; exact (Row.newAt w0 97 _ hs0).drew
  have hg1 := hg0.later hb1
  have hR1 := hR0.later hb1
  have hM1 := hM0.below hb1 hM0.lt
  rw [hw1]
  refine hK.out _ _ ⟨hg1.cell (i := 0) rfl, hR1.range, HLook.out _ hM1⟩ ?_
  clear hK K hHeld hw1
  refine wpAnyH_only (i := 10) (by kernel_rfl) rfl (fun K hK => ?_)
  rw [if_pos (by rfl)]
  refine wp_store_mid 97 (.tmp 7) (.tmp 16) rfl (w.heap.size + 1) 0 #[.string ByteArray.empty, .bool false] rfl rfl (by simpa using hr1.there) size97 (by simp [Value.oneCell']) ?_
  obtain ⟨w2, hw2⟩ : ∃ w2, w1.setCells (w.heap.size + 1) 0 [.string ByteArray.empty, .bool false] = w2 := ⟨_, rfl⟩
  have hb2 : Below (w.heap.size + 1) w1 w2 := by rw [← hw2]; exact below_setCells (Nat.le_refl _) _ _ (Below.refl _ _)
  have hr2 : Row w2 (w.heap.size + 1) 97 [.string ByteArray.empty, .bool false] := by rw [← hw2]; exact Row.sets_all hr1 rfl
  have hs2 : w2.heap.size = w.heap.size + 1 + 1 := by rw [← hw2, size_setCells, hs1, hs0]
  have hg2 := hg1.below hb2 (by omega)
  have hR2 := hR1.below hb2 (by omega)
  have hM2 := hM1.below hb2 (by omega)
  show K _ (w1.setCells (w.heap.size + 1) 0 [.string ByteArray.empty, .bool false])
  rw [hw2]
  refine hK.out _ _ ⟨hg2.cell (i := 0) rfl, hR2.range, HLook.out _ hM2⟩ ?_
  clear hK K hw2
  simp only [Act.put]
  have hHeld : w2.cell? ⟨g, 0, none⟩ = some (.map (some gm)) ∧ w2.rangeAt w.heap.size 0 V ∧ (Instr.lookup 66 (.map (some gm)) (.agg V.toArray) true).run Tryd.prog w2 = .ok (.tuple #[.agg #[.string ByteArray.empty, .bool false], .bool false]) w2 := ⟨hg2.cell (i := 0) rfl, hR2.range, HLook.out _ hM2⟩
  refine wpAnyH_takesAt 11 1 0 (of_decide_eq_true (by kernel_rfl)) rfl (fun _ _ _ d _ h => by cases d <;> exact h) (by kernel_rfl) (by kernel_rfl) hHeld ?_
  simp only [List.drop_succ_cons, List.drop_zero, List.take_succ_cons, List.take_zero]
  iterate 1 (refine wpHeld_step (v := ?_) (by rfl) (fun wz hSw => ?_) ?_; rotate_left; (focus ((try dsimp only at hSw); go_simp; try with_reducible rfl)); ((simp only [Act.put]; (try simp only [List.setIfInBounds_toArray]); (try simp only [List.set_cons_succ]); (try simp only [List.set_cons_zero]))))
  refine wpHeld_nil ?_
  clear hHeld
  refine wpAnyH_done (by kernel_rfl) ?_ _
  refine NoPanic.normal ?_
  have hbw : Below w.heap.size w w2 := hb0.trans ((hb1.mono (by omega)).trans (hb2.mono (by omega)))
  have HR2 : Hid (Row w2 w.heap.size 38 V) := hR2
  have HG2 : Hid (Row w2 g 68 [.map (some gm), .bool false, x2, x3]) := hg2
  have HM2 : Hid (MapAt Tryd.prog (38) w2 gm f) := hM2
  have HF2 : Hid (Row w2 (w.heap.size + 1) 97 [.string ByteArray.empty, .bool false]) := hr2
  clear hb0 hb1 hb2 hg0 hg1 hg2 hR0 hR1 hR2 hM0 hM1 hM2 hr1 hr2 hs1 hs0 HLook HW0
  go_wp2_with fail
  refine wp_region_noPanic ?_
  refine wp_region_held_drew (S := fun W' => W'.cell? ⟨g, 0, none⟩ = some (.map (some gm)) ∧ W'.rangeAt w.heap.size 0 V) (by kernel_rfl) ⟨HG2.out.drew.cell (i := 0) rfl, HR2.out.drew.range⟩ (fun hHeld => ?_)
  refine wpAnyH_takesAt 0 4 4 (of_decide_eq_true (by kernel_rfl)) rfl (fun _ _ _ d _ h => by cases d <;> exact h) (by kernel_rfl) (by kernel_rfl) hHeld ?_
  simp only [List.drop_zero, List.take_succ_cons, List.take_zero]
  iterate 4 (refine wpHeld_step (v := ?_) (by rfl) (fun wz hSw => ?_) ?_; rotate_left; (focus ((try dsimp only at hSw); go_simp; try with_reducible rfl)); (simp only [Act.put, List.setIfInBounds_toArray, List.set_cons_zero, List.set_cons_succ]))
  refine wpHeld_nil ?_
  refine wpAnyH_takesAt 4 1 3 (of_decide_eq_true (by kernel_rfl)) rfl (fun _ _ _ d _ h => by cases d <;> exact h) (by kernel_rfl) (by kernel_rfl) hHeld ?_
  simp only [List.drop_succ_cons, List.drop_zero, List.take_succ_cons, List.take_zero]
  refine wpHeld_loadS (by rfl) 38 (.tmp 4) rfl w.heap.size 0 rfl V (fun W hW => hW.2) Tryd.underlying38 rfl (by rw [HVL.out]; exact size38) ?_
  simp only [Act.put, List.setIfInBounds_toArray, List.set_cons_zero, List.set_cons_succ]
  refine wpHeld_nil ?_
  refine wpAnyH_takesAt 5 2 1 (of_decide_eq_true (by kernel_rfl)) rfl (fun _ _ _ d _ h => by cases d <;> exact h) (by kernel_rfl) (by kernel_rfl) hHeld ?_
  simp only [List.drop_succ_cons, List.drop_zero, List.take_succ_cons, List.take_zero]
  iterate 2 (refine wpHeld_step (v := ?_) (by rfl) (fun wz hSw => ?_) ?_; rotate_left; (focus ((try dsimp only at hSw); go_simp; try with_reducible rfl)); (simp only [Act.put, List.setIfInBounds_toArray, List.set_cons_zero, List.set_cons_succ]))
  refine wpHeld_nil ?_
  refine wpAnyH_only (i := 7) (by kernel_rfl) rfl (fun K hK => ?_)
  rw [if_pos (by rfl)]
  refine wp_mapStore w2.heap.size (.tmp 35) (.tmp 36) (.tmp 38) 66 97 rfl keyed38 Tryd.underlying66 rfl (HM2.out.kept rfl : MapAt Tryd.prog (38) w2.drew gm f) rfl rfl HKEY.out ?_
  intro w3 hM3 hb3'
  have hb3 : But gm w2.heap.size w2 w3 := ⟨hb3'.os, hb3'.tape, hb3'.output, hb3'.size, fun k h1 h2 => hb3'.block k h1 h2⟩
  have hg3 : Row w3 g 68 [.map (some gm), .bool false, x2, x3] := hb3.row HG2.out.lt hgm HG2.out
  have hR3 : Row w3 w.heap.size 38 V := hb3.row (by omega) (by omega) HR2.out
  refine hK.out _ _ ⟨hg3.cell (i := 0) rfl, hR3.range⟩ ?_
  refine wpAnyH_done (by kernel_rfl) ?_ _
  refine NoPanic.normal ?_
  go_wp2
  go_ret
  exact ⟨rfl, hM3, (But.of_below hbw (Nat.le_refl _)).trans (hb3.mono hbw.size)⟩

set_option maxRecDepth 100000 in
set_option maxHeartbeats 1000000 in
/-- The text that had the id already. -/
theorem meet_same (g gm : Nat) (x2 x3 : Value) (d : List Nat) (hd : IsKey32 d) (s : ByteArray) (f : Value → Option Value) (w : World) (hg : Row w g 68 [.map (some gm), .bool false, x2, x3]) (hM : MapAt Tryd.prog (38) w gm f) (hf : f (.agg (u8s d).toArray) = some (metV s false)) :
    Calls Tryd.prog 23 #[.pointer (some ⟨g, 0, none⟩), .agg (u8s d).toArray, .string s] w fun e w' => e = .returned (.int .i64 0) ∧ Below w.heap.size w w' := by
  obtain ⟨kl, hkey⟩ := keyOf_key hd
  have hgm := row_map hg hM
  obtain ⟨w0, hw0⟩ : ∃ w0, w.alloc (.cells (u8s d).toArray 38) = w0 := ⟨_, rfl⟩
  have hb0 : Below w.heap.size w w0 := by rw [← hw0]; exact (Below.refl _ w).alloc (Nat.le_refl _) _
  have hs0 : w0.heap.size = w.heap.size + 1 := by rw [← hw0]; simp
  have hR0 : Row w0 w.heap.size 38 (u8s d) := by rw [← hw0]; exact Row.new' w 38 _
  have hg0 := hg.later hb0
  have hM0 := hM.below hb0 hM.lt
  have hgl := hg.lt
  have hml := hM.lt
  have HVL : Hid ((u8s d).length = 32) := by show _ = _; rw [u8s_length, hd.1]
  have HW0 : Hid (w.alloc (.cells (u8s d).toArray 38) = w0) := hw0
  have HLook : Hid (∀ W, MapAt Tryd.prog (38) W gm f → (Instr.lookup 66 (.map (some gm)) (.agg (u8s d).toArray) true).run Tryd.prog W = .ok (.tuple #[.agg #[.string s, .bool false], .bool true]) W) := fun W hW => by
    have h := hW.look true keyed38 Tryd.underlying66 (zero97 W) hkey
    rw [hf] at h
    exact h
  have HKEY : Hid (keyOf Tryd.prog (38) (.agg (u8s d).toArray) = some kl) := hkey
  clear hw0 hg hM hf hd hkey
  generalize u8s d = V at *
  go_enter Tryd.func23, Tryd.ntmps23
  go_wp2_with fail
  rw [HW0.out]
  refine wp_region_noPanic ?_
  refine wp_region_held_drew (S := fun W' => W'.cell? ⟨g, 0, none⟩ = some (.map (some gm)) ∧ W'.rangeAt w.heap.size 0 V ∧ (Instr.lookup 66 (.map (some gm)) (.agg V.toArray) true).run Tryd.prog W' = .ok (.tuple #[.agg #[.string s, .bool false], .bool true]) W') (by kernel_rfl) ⟨hg0.drew.cell (i := 0) rfl, hR0.drew.range, HLook.out _ (hM0.kept rfl)⟩ (fun hHeld => ?_)
  refine wpAnyH_takesAt 0 4 8 (of_decide_eq_true (by kernel_rfl)) rfl (fun _ _ _ d _ h => by cases d <;> exact h) (by kernel_rfl) (by kernel_rfl) hHeld ?_
  simp only [List.drop_zero, List.take_succ_cons, List.take_zero]
  iterate 4 (refine wpHeld_step (v := ?_) (by rfl) (fun wz hSw => ?_) ?_; rotate_left; (focus ((try dsimp only at hSw); go_simp; try with_reducible rfl)); (simp only [Act.put, List.setIfInBounds_toArray, List.set_cons_zero, List.set_cons_succ]))
  refine wpHeld_nil ?_
  refine wpAnyH_takesAt 4 1 7 (of_decide_eq_true (by kernel_rfl)) rfl (fun _ _ _ d _ h => by cases d <;> exact h) (by kernel_rfl) (by kernel_rfl) hHeld ?_
  simp only [List.drop_succ_cons, List.drop_zero, List.take_succ_cons, List.take_zero]
  refine wpHeld_loadS (by rfl) 38 (.tmp 4) rfl w.heap.size 0 rfl V (fun W hW => hW.2.1) Tryd.underlying38 rfl (by rw [HVL.out]; exact size38) ?_
  simp only [Act.put, List.setIfInBounds_toArray, List.set_cons_zero, List.set_cons_succ]
  refine wpHeld_nil ?_
  refine wpAnyH_takesAt 5 4 3 (of_decide_eq_true (by kernel_rfl)) rfl (fun _ _ _ d _ h => by cases d <;> exact h) (by kernel_rfl) (by kernel_rfl) hHeld ?_
  simp only [List.drop_succ_cons, List.drop_zero, List.take_succ_cons, List.take_zero]
  iterate 4 (refine wpHeld_step (v := ?_) (by rfl) (fun wz hSw => ?_) ?_; rotate_left; (focus ((try dsimp only at hSw); go_simp; try with_reducible rfl)); (simp only [Act.put, List.setIfInBounds_toArray, List.set_cons_zero, List.set_cons_succ]))
  refine wpHeld_nil ?_
  refine wpAnyH_only (i := 9) (by kernel_rfl) rfl (fun K hK => ?_)
  rw [if_pos (by rfl)]
  go_simp
  obtain ⟨w1, hw1⟩ : ∃ w1, (w0.alloc (Obj.cells #[Value.string { data := #[] }, Value.bool false] 97)).drew = w1 := ⟨_, rfl⟩
  have hb1 : Below w0.heap.size w0 w1 := by rw [← hw1]; exact below_drewN ((Below.refl _ w0).alloc (Nat.le_refl _) _) 1
  have hs1 : w1.heap.size = w0.heap.size + 1 := by rw [← hw1]; exact World.size_alloc _ _
  have hr1 : Row w1 (w.heap.size + 1) 97 [.string ByteArray.empty, .bool false] := by rw [← hw1]; exact (Row.newAt w0 97 _ hs0).drew
  have hg1 := hg0.later hb1
  have hR1 := hR0.later hb1
  have hM1 := hM0.below hb1 hM0.lt
  rw [hw1]
  refine hK.out _ _ ⟨hg1.cell (i := 0) rfl, hR1.range, HLook.out _ hM1⟩ ?_
  clear hK K hHeld hw1
  refine wpAnyH_only (i := 10) (by kernel_rfl) rfl (fun K hK => ?_)
  rw [if_pos (by rfl)]
  refine wp_store_mid 97 (.tmp 7) (.tmp 16) rfl (w.heap.size + 1) 0 #[.string s, .bool false] rfl rfl (by simpa using hr1.there) size97 (by simp [Value.oneCell']) ?_
  obtain ⟨w2, hw2⟩ : ∃ w2, w1.setCells (w.heap.size + 1) 0 [.string s, .bool false] = w2 := ⟨_, rfl⟩
  have hb2 : Below (w.heap.size + 1) w1 w2 := by rw [← hw2]; exact below_setCells (Nat.le_refl _) _ _ (Below.refl _ _)
  have hr2 : Row w2 (w.heap.size + 1) 97 [.string s, .bool false] := by rw [← hw2]; exact Row.sets_all hr1 rfl
  have hs2 : w2.heap.size = w.heap.size + 1 + 1 := by rw [← hw2, size_setCells, hs1, hs0]
  have hg2 := hg1.below hb2 (by omega)
  have hR2 := hR1.below hb2 (by omega)
  have hM2 := hM1.below hb2 (by omega)
  show K _ (w1.setCells (w.heap.size + 1) 0 [.string s, .bool false])
  rw [hw2]
  refine hK.out _ _ ⟨hg2.cell (i := 0) rfl, hR2.range, HLook.out _ hM2⟩ ?_
  clear hK K hw2
  simp only [Act.put]
  have hHeld : w2.cell? ⟨g, 0, none⟩ = some (.map (some gm)) ∧ w2.rangeAt w.heap.size 0 V ∧ (Instr.lookup 66 (.map (some gm)) (.agg V.toArray) true).run Tryd.prog w2 = .ok (.tuple #[.agg #[.string s, .bool false], .bool true]) w2 := ⟨hg2.cell (i := 0) rfl, hR2.range, HLook.out _ hM2⟩
  refine wpAnyH_takesAt 11 1 0 (of_decide_eq_true (by kernel_rfl)) rfl (fun _ _ _ d _ h => by cases d <;> exact h) (by kernel_rfl) (by kernel_rfl) hHeld ?_
  simp only [List.drop_succ_cons, List.drop_zero, List.take_succ_cons, List.take_zero]
  iterate 1 (refine wpHeld_step (v := ?_) (by rfl) (fun wz hSw => ?_) ?_; rotate_left; (focus ((try dsimp only at hSw); go_simp; try with_reducible rfl)); ((simp only [Act.put]; (try simp only [List.setIfInBounds_toArray]); (try simp only [List.set_cons_succ]); (try simp only [List.set_cons_zero]))))
  refine wpHeld_nil ?_
  clear hHeld
  refine wpAnyH_done (by kernel_rfl) ?_ _
  refine NoPanic.normal ?_
  have hbw : Below w.heap.size w w2 := hb0.trans ((hb1.mono (by omega)).trans (hb2.mono (by omega)))
  have HR2 : Hid (Row w2 w.heap.size 38 V) := hR2
  have HG2 : Hid (Row w2 g 68 [.map (some gm), .bool false, x2, x3]) := hg2
  have HM2 : Hid (MapAt Tryd.prog (38) w2 gm f) := hM2
  have HF2 : Hid (Row w2 (w.heap.size + 1) 97 [.string s, .bool false]) := hr2
  clear hb0 hb1 hb2 hg0 hg1 hg2 hR0 hR1 hR2 hM0 hM1 hM2 hr1 hr2 hs1 hs0 HLook HW0
  have c0 := HF2.out.cell (i := 0) rfl
  have c1 := HF2.out.cell (i := 1) rfl
  go_wp2
  go_ret
  exact ⟨rfl, hbw⟩

set_option maxRecDepth 100000 in
set_option maxHeartbeats 1000000 in
/-- Another text with the id. -/
theorem meet_clash (g gm : Nat) (x2 x3 : Value) (d : List Nat) (hd : IsKey32 d) (s s0 : ByteArray) (f : Value → Option Value) (w : World) (hg : Row w g 68 [.map (some gm), .bool false, x2, x3]) (hM : MapAt Tryd.prog (38) w gm f) (hf : f (.agg (u8s d).toArray) = some (metV s0 false)) (hne : s0 ≠ s) :
    Calls Tryd.prog 23 #[.pointer (some ⟨g, 0, none⟩), .agg (u8s d).toArray, .string s] w fun e w' => e = .returned (.int .i64 71) ∧ Buts [g, gm] w.heap.size w w' := by
  obtain ⟨kl, hkey⟩ := keyOf_key hd
  have hgm := row_map hg hM
  obtain ⟨w0, hw0⟩ : ∃ w0, w.alloc (.cells (u8s d).toArray 38) = w0 := ⟨_, rfl⟩
  have hb0 : Below w.heap.size w w0 := by rw [← hw0]; exact (Below.refl _ w).alloc (Nat.le_refl _) _
  have hs0 : w0.heap.size = w.heap.size + 1 := by rw [← hw0]; simp
  have hR0 : Row w0 w.heap.size 38 (u8s d) := by rw [← hw0]; exact Row.new' w 38 _
  have hg0 := hg.later hb0
  have hM0 := hM.below hb0 hM.lt
  have hgl := hg.lt
  have hml := hM.lt
  have HVL : Hid ((u8s d).length = 32) := by show _ = _; rw [u8s_length, hd.1]
  have HW0 : Hid (w.alloc (.cells (u8s d).toArray 38) = w0) := hw0
  have HLook : Hid (∀ W, MapAt Tryd.prog (38) W gm f → (Instr.lookup 66 (.map (some gm)) (.agg (u8s d).toArray) true).run Tryd.prog W = .ok (.tuple #[.agg #[.string s0, .bool false], .bool true]) W) := fun W hW => by
    have h := hW.look true keyed38 Tryd.underlying66 (zero97 W) hkey
    rw [hf] at h
    exact h
  have HKEY : Hid (keyOf Tryd.prog (38) (.agg (u8s d).toArray) = some kl) := hkey
  clear hw0 hg hM hf hd hkey
  generalize u8s d = V at *
  go_enter Tryd.func23, Tryd.ntmps23
  go_wp2_with fail
  rw [HW0.out]
  refine wp_region_noPanic ?_
  refine wp_region_held_drew (S := fun W' => W'.cell? ⟨g, 0, none⟩ = some (.map (some gm)) ∧ W'.rangeAt w.heap.size 0 V ∧ (Instr.lookup 66 (.map (some gm)) (.agg V.toArray) true).run Tryd.prog W' = .ok (.tuple #[.agg #[.string s0, .bool false], .bool true]) W') (by kernel_rfl) ⟨hg0.drew.cell (i := 0) rfl, hR0.drew.range, HLook.out _ (hM0.kept rfl)⟩ (fun hHeld => ?_)
  refine wpAnyH_takesAt 0 4 8 (of_decide_eq_true (by kernel_rfl)) rfl (fun _ _ _ d _ h => by cases d <;> exact h) (by kernel_rfl) (by kernel_rfl) hHeld ?_
  simp only [List.drop_zero, List.take_succ_cons, List.take_zero]
  iterate 4 (refine wpHeld_step (v := ?_) (by rfl) (fun wz hSw => ?_) ?_; rotate_left; (focus ((try dsimp only at hSw); go_simp; try with_reducible rfl)); (simp only [Act.put, List.setIfInBounds_toArray, List.set_cons_zero, List.set_cons_succ]))
  refine wpHeld_nil ?_
  refine wpAnyH_takesAt 4 1 7 (of_decide_eq_true (by kernel_rfl)) rfl (fun _ _ _ d _ h => by cases d <;> exact h) (by kernel_rfl) (by kernel_rfl) hHeld ?_
  simp only [List.drop_succ_cons, List.drop_zero, List.take_succ_cons, List.take_zero]
  refine wpHeld_loadS (by rfl) 38 (.tmp 4) rfl w.heap.size 0 rfl V (fun W hW => hW.2.1) Tryd.underlying38 rfl (by rw [HVL.out]; exact size38) ?_
  simp only [Act.put, List.setIfInBounds_toArray, List.set_cons_zero, List.set_cons_succ]
  refine wpHeld_nil ?_
  refine wpAnyH_takesAt 5 4 3 (of_decide_eq_true (by kernel_rfl)) rfl (fun _ _ _ d _ h => by cases d <;> exact h) (by kernel_rfl) (by kernel_rfl) hHeld ?_
  simp only [List.drop_succ_cons, List.drop_zero, List.take_succ_cons, List.take_zero]
  iterate 4 (refine wpHeld_step (v := ?_) (by rfl) (fun wz hSw => ?_) ?_; rotate_left; (focus ((try dsimp only at hSw); go_simp; try with_reducible rfl)); (simp only [Act.put, List.setIfInBounds_toArray, List.set_cons_zero, List.set_cons_succ]))
  refine wpHeld_nil ?_
  refine wpAnyH_only (i := 9) (by kernel_rfl) rfl (fun K hK => ?_)
  rw [if_pos (by rfl)]
  go_simp
  obtain ⟨w1, hw1⟩ : ∃ w1, (w0.alloc (Obj.cells #[Value.string { data := #[] }, Value.bool false] 97)).drew = w1 := ⟨_, rfl⟩
  have hb1 : Below w0.heap.size w0 w1 := by rw [← hw1]; exact below_drewN ((Below.refl _ w0).alloc (Nat.le_refl _) _) 1
  have hs1 : w1.heap.size = w0.heap.size + 1 := by rw [← hw1]; exact World.size_alloc _ _
  have hr1 : Row w1 (w.heap.size + 1) 97 [.string ByteArray.empty, .bool false] := by rw [← hw1]; exact (Row.newAt w0 97 _ hs0).drew
  have hg1 := hg0.later hb1
  have hR1 := hR0.later hb1
  have hM1 := hM0.below hb1 hM0.lt
  rw [hw1]
  refine hK.out _ _ ⟨hg1.cell (i := 0) rfl, hR1.range, HLook.out _ hM1⟩ ?_
  clear hK K hHeld hw1
  refine wpAnyH_only (i := 10) (by kernel_rfl) rfl (fun K hK => ?_)
  rw [if_pos (by rfl)]
  refine wp_store_mid 97 (.tmp 7) (.tmp 16) rfl (w.heap.size + 1) 0 #[.string s0, .bool false] rfl rfl (by simpa using hr1.there) size97 (by simp [Value.oneCell']) ?_
  obtain ⟨w2, hw2⟩ : ∃ w2, w1.setCells (w.heap.size + 1) 0 [.string s0, .bool false] = w2 := ⟨_, rfl⟩
  have hb2 : Below (w.heap.size + 1) w1 w2 := by rw [← hw2]; exact below_setCells (Nat.le_refl _) _ _ (Below.refl _ _)
  have hr2 : Row w2 (w.heap.size + 1) 97 [.string s0, .bool false] := by rw [← hw2]; exact Row.sets_all hr1 rfl
  have hs2 : w2.heap.size = w.heap.size + 1 + 1 := by rw [← hw2, size_setCells, hs1, hs0]
  have hg2 := hg1.below hb2 (by omega)
  have hR2 := hR1.below hb2 (by omega)
  have hM2 := hM1.below hb2 (by omega)
  show K _ (w1.setCells (w.heap.size + 1) 0 [.string s0, .bool false])
  rw [hw2]
  refine hK.out _ _ ⟨hg2.cell (i := 0) rfl, hR2.range, HLook.out _ hM2⟩ ?_
  clear hK K hw2
  simp only [Act.put]
  have hHeld : w2.cell? ⟨g, 0, none⟩ = some (.map (some gm)) ∧ w2.rangeAt w.heap.size 0 V ∧ (Instr.lookup 66 (.map (some gm)) (.agg V.toArray) true).run Tryd.prog w2 = .ok (.tuple #[.agg #[.string s0, .bool false], .bool true]) w2 := ⟨hg2.cell (i := 0) rfl, hR2.range, HLook.out _ hM2⟩
  refine wpAnyH_takesAt 11 1 0 (of_decide_eq_true (by kernel_rfl)) rfl (fun _ _ _ d _ h => by cases d <;> exact h) (by kernel_rfl) (by kernel_rfl) hHeld ?_
  simp only [List.drop_succ_cons, List.drop_zero, List.take_succ_cons, List.take_zero]
  iterate 1 (refine wpHeld_step (v := ?_) (by rfl) (fun wz hSw => ?_) ?_; rotate_left; (focus ((try dsimp only at hSw); go_simp; try with_reducible rfl)); ((simp only [Act.put]; (try simp only [List.setIfInBounds_toArray]); (try simp only [List.set_cons_succ]); (try simp only [List.set_cons_zero]))))
  refine wpHeld_nil ?_
  clear hHeld
  refine wpAnyH_done (by kernel_rfl) ?_ _
  refine NoPanic.normal ?_
  have hbw : Below w.heap.size w w2 := hb0.trans ((hb1.mono (by omega)).trans (hb2.mono (by omega)))
  have HR2 : Hid (Row w2 w.heap.size 38 V) := hR2
  have HG2 : Hid (Row w2 g 68 [.map (some gm), .bool false, x2, x3]) := hg2
  have HM2 : Hid (MapAt Tryd.prog (38) w2 gm f) := hM2
  have HF2 : Hid (Row w2 (w.heap.size + 1) 97 [.string s0, .bool false]) := hr2
  clear hb0 hb1 hb2 hg0 hg1 hg2 hR0 hR1 hR2 hM0 hM1 hM2 hr1 hr2 hs1 hs0 HLook HW0
  have c0 := HF2.out.cell (i := 0) rfl
  have c1 := HF2.out.cell (i := 1) rfl
  have hss : (s0.toList == s.toList) = false := by
    rw [beq_eq_false_iff_ne]
    exact fun h => hne (str_inj h)
  go_wp2_with fail
  clear c0 c1
  refine wp_region_noPanic ?_
  refine wp_region_held_drew (S := fun W' => W'.cell? ⟨g, 0, none⟩ = some (.map (some gm)) ∧ W'.rangeAt w.heap.size 0 V) (by kernel_rfl) ⟨HG2.out.drew.cell (i := 0) rfl, HR2.out.drew.range⟩ (fun hHeld => ?_)
  refine wpAnyH_takesAt 0 4 3 (of_decide_eq_true (by kernel_rfl)) rfl (fun _ _ _ d _ h => by cases d <;> exact h) (by kernel_rfl) (by kernel_rfl) hHeld ?_
  simp only [List.drop_zero, List.take_succ_cons, List.take_zero]
  iterate 4 (refine wpHeld_step (v := ?_) (by rfl) (fun wz hSw => ?_) ?_; rotate_left; (focus ((try dsimp only at hSw); go_simp; try with_reducible rfl)); (simp only [Act.put, List.setIfInBounds_toArray, List.set_cons_zero, List.set_cons_succ]))
  refine wpHeld_nil ?_
  refine wpAnyH_takesAt 4 1 2 (of_decide_eq_true (by kernel_rfl)) rfl (fun _ _ _ d _ h => by cases d <;> exact h) (by kernel_rfl) (by kernel_rfl) hHeld ?_
  simp only [List.drop_succ_cons, List.drop_zero, List.take_succ_cons, List.take_zero]
  refine wpHeld_loadS (by rfl) 38 (.tmp 4) rfl w.heap.size 0 rfl V (fun W hW => hW.2) Tryd.underlying38 rfl (by rw [HVL.out]; exact size38) ?_
  simp only [Act.put, List.setIfInBounds_toArray, List.set_cons_zero, List.set_cons_succ]
  refine wpHeld_nil ?_
  refine wpAnyH_takesAt 5 1 1 (of_decide_eq_true (by kernel_rfl)) rfl (fun _ _ _ d _ h => by cases d <;> exact h) (by kernel_rfl) (by kernel_rfl) hHeld ?_
  simp only [List.drop_succ_cons, List.drop_zero, List.take_succ_cons, List.take_zero]
  iterate 1 (refine wpHeld_step (v := ?_) (by rfl) (fun wz hSw => ?_) ?_; rotate_left; (focus ((try dsimp only at hSw); go_simp; try with_reducible rfl)); ((simp only [Act.put]; (try simp only [List.setIfInBounds_toArray]); (try simp only [List.set_cons_succ]); (try simp only [List.set_cons_zero]))))
  refine wpHeld_nil ?_
  refine wpAnyH_only (i := 6) (by kernel_rfl) rfl (fun K hK => ?_)
  rw [if_pos (by rfl)]
  refine wp_mapStore w2.heap.size (.tmp 21) (.tmp 22) (.tmp 23) 66 97 rfl keyed38 Tryd.underlying66 rfl (HM2.out.kept rfl : MapAt Tryd.prog (38) w2.drew gm f) rfl rfl HKEY.out ?_
  intro w3 hM3 hb3'
  have hb3 : But gm w2.heap.size w2 w3 := ⟨hb3'.os, hb3'.tape, hb3'.output, hb3'.size, fun k h1 h2 => hb3'.block k h1 h2⟩
  have hg3 : Row w3 g 68 [.map (some gm), .bool false, x2, x3] := hb3.row HG2.out.lt hgm HG2.out
  have hR3 : Row w3 w.heap.size 38 V := hb3.row (by omega) (by omega) HR2.out
  have hF3 : Row w3 (w.heap.size + 1) 97 [.string s0, .bool false] := hb3.row (by omega) (by omega) HF2.out
  refine hK.out _ _ ⟨hg3.cell (i := 0) rfl, hR3.range⟩ ?_
  refine wpAnyH_done (by kernel_rfl) ?_ _
  refine NoPanic.normal ?_
  have c30 := hF3.cell (i := 0) rfl
  clear hK K hHeld hb3'
  have HT : Hid (Calls Tryd.prog 37 #[.pointer (some ⟨g, 0, none⟩), .string s0, .string s] w3 fun e w' => e = .returned (.tuple #[]) ∧ But g w3.heap.size w3 w') := tell_any g gm x2 x3 s0 s w3 hg3
  clear hg3 hR3 hF3 hM3
  go_wp2_with (go_at_call 37; refine HT.out.mono ?_; rintro e w4 ⟨rfl, hb4⟩)
  go_ret
  exact ⟨rfl, ((Buts.of_below hbw (Nat.le_refl _)).trans (Buts.of_but hb3 (by simp) hbw.size)).trans (Buts.of_but hb4 (by simp) (Nat.le_trans hbw.size hb3.size))⟩

end Go.Proofs.YtbaokodhoiledaaDoor
