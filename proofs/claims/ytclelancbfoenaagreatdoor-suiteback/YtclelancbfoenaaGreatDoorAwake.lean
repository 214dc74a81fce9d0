/-
  A suite without draws digests nothing; the law's awake. Nothing that lay before a call has turned.
-/
import Derived.Test.YtclelancbfoenaaGreatDoorSuite
import Derived.Shelf.Abstract
import Derived.Lib.SliceRun
namespace Go.Proofs.YtclelancbfoenaaGreatDoor
open Go.RowKit Go.Shelf

theorem size39 : (Tryz.prog.info? 39).map (·.size) = some 32 := by kernel_rfl
theorem keyedStr : Maps.Keyed Tryz.prog 9 := Maps.string_keyed Tryz.underlying9
theorem zero40 (w : World) : (zeroValue 39).run Tryz.prog w = .ok (.agg noKey.toArray) w := by kernel_rfl

set_option maxRecDepth 100000 in
set_option maxHeartbeats 1000000 in
/-- The draw of an id: there is no tape. -/
theorem id1_none (b D : Nat) (w : World) (hb : w.cell? ⟨b, 0, none⟩ = some (.pointer (some ⟨D, 0, none⟩))) (hd : w.cell? ⟨D, 0, none⟩ = some (.pointer none)) :
    Calls Tryz.prog 68 #[.pointer (some ⟨b, 0, none⟩)] w fun e w' => e = .returned (.tuple #[.agg noKey.toArray, .int .i64 60]) ∧ Below w.heap.size w w' := by
  have hb' : ∀ o, (w.alloc o).cell? ⟨b, 0, none⟩ = some (.pointer (some ⟨D, 0, none⟩)) := fun o => Lib.cell?_alloc_some _ hb
  have hd' : ∀ o, (w.alloc o).cell? ⟨D, 0, none⟩ = some (.pointer none) := fun o => Lib.cell?_alloc_some _ hd
  clear hb hd
  go_enter Tryz.func68, Tryz.ntmps68
  go_wp2_with (first
    | (go_at_call 69; refine (key_none _).mono ?_; rintro e w1 ⟨rfl, hb1⟩; rw [z32u8, World.size_alloc] at hb1; have HR1 : Hid (Row w1 w.heap.size 39 noKey) := Row.below (Row.new' w 39 noKey) hb1 (by omega); have HB1 : Hid (Below w.heap.size w w1) := ((Below.refl _ w).alloc (Nat.le_refl _) _).trans (hb1.mono (by omega)); have hs1 : w.heap.size < w1.heap.size := by have := hb1.size; simp at this; omega)
    | ((with_reducible show wpList _ _ _ (Oper.mk _ (Op.store 23 (.tmp 3) (.tmp 11)) _ _ _ _ :: _) _ _); refine wpList_store_Row rfl 23 (.tmp 3) (.tmp 11) rfl noKey rfl rfl (Row.new _ _ _) size23 rfl (by decide) ?_; simp only [Act.put])
    | ((with_reducible show wpList _ _ _ (Oper.mk _ (Op.load 23 (.tmp 3)) _ _ _ _ :: _) _ _); refine wpList_load_Row rfl 23 (.tmp 3) rfl rfl (Row.sets_all (Row.new _ _ _) rfl) Tryz.underlying23 size23 ?_; simp only [Act.put, List.setIfInBounds_toArray, List.set_cons_zero, List.set_cons_succ])
    | ((with_reducible show wpList _ _ _ (Oper.mk _ (Op.store 39 (.tmp 1) (.tmp 13)) _ _ _ _ :: _) _ _); refine wpList_store_Row rfl 39 (.tmp 1) (.tmp 13) rfl noKey rfl rfl (Row.below HR1.out (below_setCells (Nat.le_refl _) _ _ ((Below.refl _ w1).alloc (Nat.le_refl _) _)) hs1) size39 rfl (by decide) ?_; simp only [Act.put]))
  have HR2 := Row.below HR1.out (below_setCells (Nat.le_refl _) noKey 0 ((Below.refl _ w1).alloc (Nat.le_refl _) (.cells (List.replicate 32 (Value.int .u8 0)).toArray 23))) hs1
  refine bodyPost_ret (results_Row_tmp rfl rfl (Row.sets_all HR2 rfl) Tryz.underlying39 size39) rfl ?_
  refine ⟨rfl, ?_⟩
  exact below_setCells (Nat.le_refl _) _ _ (HB1.out.trans ((below_setCells (Nat.le_refl _) _ _ ((Below.refl _ w1).alloc (Nat.le_refl _) _)).mono (by omega)))

set_option maxRecDepth 100000 in
set_option maxHeartbeats 1000000 in
/-- What is not known, and can't be drawn. -/
theorem knownId_err (m b : Nat) (s : ByteArray) (hs : s.size ≤ maxLen) (f : Value → Option Value) (w : World) (hM : MapAt Tryz.prog 9 w m f) (hf : f (.string s) = none)
    (HC : Hid (∀ W, Below w.heap.size w W → Calls Tryz.prog 68 #[.pointer (some ⟨b, 0, none⟩)] W fun e w' => e = .returned (.tuple #[.agg noKey.toArray, .int .i64 60]) ∧ Below W.heap.size W w')) :
    Calls Tryz.prog 67 #[.map (some m), .string s, .func (.func 68) #[] #[.pointer (some ⟨b, 0, none⟩)]] w fun e w' => e = .returned (.tuple #[.agg noKey.toArray, .int .i64 60]) ∧ Below w.heap.size w w' := by
  have HM : Hid (∀ o, MapAt Tryz.prog 9 (w.alloc o) m f) := fun o => hM.below ((Below.refl _ w).alloc (Nat.le_refl _) o) hM.lt
  have HK : Hid (keyOf Tryz.prog 9 (.string s) = some (.string s.data.toList)) := WideMaps.keyOf_string_mk Tryz.underlying9 hs
  have HF : Hid (f (.string s) = none) := hf
  have HX : Hid (Below w.heap.size w (w.alloc (.cells noKey.toArray 39)) ∧ (w.alloc (.cells noKey.toArray 39)).heap.size = w.heap.size + 1) := ⟨(Below.refl _ w).alloc (Nat.le_refl _) _, by simp⟩
  clear hM hs hf
  go_enter Tryz.func67, Tryz.ntmps67
  go_wp2_with (first
    | (at_lookup; refine wpList_lookOk_none rfl _ _ 63 39 rfl keyedStr Tryz.underlying63 (zero40 _) rfl (HM.out _) rfl HK.out HF.out ?_)
    | ((with_reducible show wpList _ _ _ (Oper.mk _ (Op.store 39 (.tmp 8) (.tmp 16)) _ _ _ _ :: _) _ _); refine wpList_store_Row rfl 39 (.tmp 8) (.tmp 16) rfl noKey rfl rfl (Row.newAt _ _ _ (by simp)) size39 rfl (by decide) ?_; simp only [Act.put]))
  rw [z32u8]
  obtain ⟨w0, hw0⟩ : ∃ w0, World.setCells ((w.alloc (.cells (List.replicate 32 (Value.int .u8 0)).toArray 39)).alloc (.cells (List.replicate 32 (Value.int .u8 0)).toArray 39)) (w.heap.size + 1) 0 noKey = w0 := ⟨_, rfl⟩
  rw [hw0]
  have hr0 : Row w0 w.heap.size 39 noKey := by rw [← hw0]; exact Row.below ((Row.new' w 39 noKey).alloc _) (below_setCells (B := w.heap.size + 1) (Nat.le_refl _) _ _ (Below.refl _ _)) (by omega)
  have hb0 : Below w.heap.size w w0 := by rw [← hw0]; exact below_setCells (by omega) _ _ (((Below.refl _ w).alloc (Nat.le_refl _) _).alloc (by simp) _)
  clear hw0
  refine (HC.out _ hb0).mono ?_
  rintro e w1 ⟨rfl, hb1⟩
  have HR1 : Hid (Row w1 w.heap.size 39 noKey) := Row.later hr0 hb1
  have HB1 : Hid (Below w.heap.size w w1) := hb0.trans (hb1.mono hb0.size)
  clear hr0 hb0 hb1
  go_wp2_with (first
    | ((with_reducible show wpList _ _ _ (Oper.mk _ (Op.store 39 (.tmp 10) (.tmp 23)) _ _ _ _ :: _) _ _); refine wpList_store_Row rfl 39 (.tmp 10) (.tmp 23) rfl noKey rfl rfl (Row.new _ _ _) size39 rfl (by decide) ?_; simp only [Act.put])
    | ((with_reducible show wpList _ _ _ (Oper.mk _ (Op.load 39 (.tmp 10)) _ _ _ _ :: _) _ _); refine wpList_load_Row rfl 39 (.tmp 10) rfl rfl (Row.sets_all (Row.new _ _ _) rfl) Tryz.underlying39 size39 ?_; simp only [Act.put, List.setIfInBounds_toArray, List.set_cons_zero, List.set_cons_succ])
    | ((with_reducible show wpList _ _ _ (Oper.mk _ (Op.store 39 (.tmp 6) (.tmp 30)) _ _ _ _ :: _) _ _); refine wpList_store_Row rfl 39 (.tmp 6) (.tmp 30) rfl noKey rfl rfl (Row.below HR1.out (below_setCells (Nat.le_refl _) _ _ ((Below.refl _ w1).alloc (Nat.le_refl _) _)) (Row.lt HR1.out)) size39 rfl (by decide) ?_; simp only [Act.put]))
  have HR2 := Row.below HR1.out (below_setCells (Nat.le_refl _) noKey 0 ((Below.refl _ w1).alloc (Nat.le_refl _) (.cells (List.replicate 32 (Value.int .u8 0)).toArray 39))) (Row.lt HR1.out)
  refine bodyPost_ret (results_Row_tmp rfl rfl (Row.sets_all HR2 rfl) Tryz.underlying39 size39) rfl ?_
  refine ⟨rfl, ?_⟩
  exact below_setCells (Nat.le_refl _) _ _ (HB1.out.trans ((below_setCells (Nat.le_refl _) _ _ ((Below.refl _ w1).alloc (Nat.le_refl _) _)).mono HB1.out.size))

set_option maxRecDepth 100000 in
set_option maxHeartbeats 1000000 in
theorem drawnId_err (D m1 m2 m3 m4 : Nat) (s : ByteArray) (hs : s.size ≤ maxLen) (f : Value → Option Value) (w : World) (hD : Row w D 67 [.pointer none, .map (some m1), .map (some m2), .map (some m3), .map (some m4)]) (hM : MapAt Tryz.prog 9 w m2 f) (hf : f (.string s) = none) :
    Calls Tryz.prog 48 #[.pointer (some ⟨D, 0, none⟩), .string s] w fun e w' => e = .returned (.tuple #[.agg noKey.toArray, .int .i64 60]) ∧ Below w.heap.size w w' := by
  obtain ⟨w0, hw0⟩ : ∃ w0, (w.alloc (.cells #[.pointer (some ⟨D, 0, none⟩)] 45)).alloc (.cells (List.replicate 32 (Value.int .u8 0)).toArray 39) = w0 := ⟨_, rfl⟩
  have hb0 : Below w.heap.size w w0 := by rw [← hw0]; exact ((Below.refl _ w).alloc (Nat.le_refl _) _).alloc (by simp) _
  have hs0 : w0.heap.size = w.heap.size + 1 + 1 := by rw [← hw0]; simp
  have hbx : Row w0 w.heap.size 45 [.pointer (some ⟨D, 0, none⟩)] := by rw [← hw0]; exact (Row.new w 45 #[.pointer (some ⟨D, 0, none⟩)]).alloc _
  have hrr : Row w0 (w.heap.size + 1) 39 noKey := by
    have h := Row.new' (w.alloc (.cells #[.pointer (some ⟨D, 0, none⟩)] 45)) 39 noKey
    rw [World.size_alloc] at h
    rw [← hw0]; exact h
  have hDl := hD.lt
  have hD0 := hD.below hb0 hDl
  have cm := hD.cell (i := 2) rfl
  have HK : Hid (Calls Tryz.prog 67 #[.map (some m2), .string s, .func (.func 68) #[] #[.pointer (some ⟨w.heap.size, 0, none⟩)]] w0 fun e w' => e = .returned (.tuple #[.agg noKey.toArray, .int .i64 60]) ∧ Below w0.heap.size w0 w') :=
    knownId_err m2 w.heap.size s hs f w0 (hM.below hb0 hM.lt) hf (fun W hW => id1_none w.heap.size D W ((hbx.later hW).cell (i := 0) rfl) ((hD0.later hW).cell (i := 0) rfl))
  have HW0 : Hid ((w.alloc (.cells #[.pointer (some ⟨D, 0, none⟩)] 45)).alloc (.cells (List.replicate 32 (Value.int .u8 0)).toArray 39) = w0) := hw0
  have HR : Hid (Row w0 (w.heap.size + 1) 39 noKey) := hrr
  clear hw0 hD hD0 hM hf hbx hrr
  go_enter Tryz.func48, Tryz.ntmps48
  go_wp2_with (first
    | (go_at_call 67; rw [z32u8, HW0.out]; refine HK.out.mono ?_; rintro e w1 ⟨rfl, hb1⟩; have HR1 : Hid (Row w1 (w.heap.size + 1) 39 noKey) := Row.later HR.out hb1; have HB1 : Hid (Below w.heap.size w w1) := hb0.trans (hb1.mono hb0.size))
    | ((with_reducible show wpList _ _ _ (Oper.mk _ (Op.store 39 (.tmp 4) (.tmp 13)) _ _ _ _ :: _) _ _); refine wpList_store_Row rfl 39 (.tmp 4) (.tmp 13) rfl noKey rfl rfl HR1.out size39 rfl (by decide) ?_; simp only [Act.put]))
  refine bodyPost_ret (results_Row_tmp rfl rfl (Row.sets_all HR1.out rfl) Tryz.underlying39 size39) rfl ?_
  exact ⟨rfl, below_setCells (by omega) _ _ HB1.out⟩

set_option maxRecDepth 100000 in
set_option maxHeartbeats 1000000 in
theorem idOf_err (S D : Nat) (t g : Option Addr) (s : ByteArray) (w : World) (hS : SuiteAt w S 1 t (some ⟨D, 0, none⟩) g)
    (HI : Hid (∀ W, Below w.heap.size w W → Calls Tryz.prog 48 #[.pointer (some ⟨D, 0, none⟩), .string s] W fun e w' => e = .returned (.tuple #[.agg noKey.toArray, .int .i64 60]) ∧ Below W.heap.size W w')) :
    Calls Tryz.prog 23 #[.pointer (some ⟨S, 0, none⟩), .string s] w fun e w' => e = .returned (.tuple #[.agg noKey.toArray, .int .i64 60]) ∧ Below w.heap.size w w' := by
  have hSl := Row.lt hS
  have c1 := Row.cell hS (i := 1) rfl
  have c3 := Row.cell hS (i := 3) rfl
  have HX : Hid (Calls Tryz.prog 48 #[.pointer (some ⟨D, 0, none⟩), .string s] (w.alloc (.cells (List.replicate 32 (Value.int .u8 0)).toArray 39)) fun e w' => e = .returned (.tuple #[.agg noKey.toArray, .int .i64 60]) ∧ Row w' w.heap.size 39 noKey ∧ Below w.heap.size w w') :=
    (HI.out _ ((Below.refl _ w).alloc (Nat.le_refl _) _)).mono fun e w' ⟨h1, h2⟩ => ⟨h1, Row.later (Row.new' w 39 noKey) h2, ((Below.refl _ w).alloc (Nat.le_refl _) _).trans (h2.mono (by simp))⟩
  clear hS HI
  go_enter Tryz.func23, Tryz.ntmps23
  go_wp2_with (first
    | (go_at_call 48; rw [z32u8]; refine HX.out.mono ?_; rintro e w1 ⟨rfl, hr1, hb1⟩; have HR1 : Hid (Row w1 w.heap.size 39 noKey) := hr1; clear hr1)
    | ((with_reducible show wpList _ _ _ (Oper.mk _ (Op.store 39 (.tmp 4) (.tmp 20)) _ _ _ _ :: _) _ _); refine wpList_store_Row rfl 39 (.tmp 4) (.tmp 20) rfl noKey rfl rfl HR1.out size39 rfl (by decide) ?_; simp only [Act.put]))
  refine bodyPost_ret (results_Row_tmp rfl rfl (Row.sets_all HR1.out rfl) Tryz.underlying39 size39) rfl ?_
  exact ⟨rfl, below_setCells (Nat.le_refl _) _ _ hb1⟩

set_option maxRecDepth 100000 in
set_option maxHeartbeats 1000000 in
theorem digest_err (S : Nat) (mode : Int) (t d g : Option Addr) (p : Option Addr) (len cap : Nat) (zs : List Nat) (w : World) (hS : SuiteAt w S mode t d g) (hI : IsBytes w.heap.size w p len cap zs)
    (HI : Hid (∀ W, Below w.heap.size w W → Calls Tryz.prog 23 #[.pointer (some ⟨S, 0, none⟩), .string (strOf zs)] W fun e w' => e = .returned (.tuple #[.agg noKey.toArray, .int .i64 60]) ∧ Below W.heap.size W w')) :
    Calls Tryz.prog 10 #[.pointer (some ⟨S, 0, none⟩), .slice p len cap] w fun e w' => e = .returned (.tuple #[.agg noKey.toArray, .int .i64 60]) ∧ Below w.heap.size w w' := by
  have HM : Hid (∀ W, Below w.heap.size w W → Calls Tryz.prog 13 #[.pointer (some ⟨S, 0, none⟩)] W fun e w' => e = .returned (.bool true) ∧ w' = W) := fun W hW => isMade_some S mode t d g W (hS.later hW)
  have hstr : ∀ o, (convert 24 9 (.slice p len cap)).run Tryz.prog (w.alloc o) = .ok (.string (strOf zs)) (w.alloc o) := fun o => str_of_bytes hI _ ((Below.refl _ w).alloc (Nat.le_refl _) o)
  have HX : Hid (Calls Tryz.prog 23 #[.pointer (some ⟨S, 0, none⟩), .string (strOf zs)] (w.alloc (.cells (List.replicate 32 (Value.int .u8 0)).toArray 39)) fun e w' => e = .returned (.tuple #[.agg noKey.toArray, .int .i64 60]) ∧ Row w' w.heap.size 39 noKey ∧ Below w.heap.size w w') :=
    (HI.out _ ((Below.refl _ w).alloc (Nat.le_refl _) _)).mono fun e w' ⟨h1, h2⟩ => ⟨h1, Row.later (Row.new' w 39 noKey) h2, ((Below.refl _ w).alloc (Nat.le_refl _) _).trans (h2.mono (by simp))⟩
  clear hS HI hI
  generalize strOf zs = s at *
  go_enter Tryz.func10, Tryz.ntmps10
  go_wp2_with (first
    | (go_at_call 13; refine (HM.out _ ((Below.refl _ w).alloc (Nat.le_refl _) _)).mono ?_; rintro e w1 ⟨rfl, hw1⟩; rw [hw1]; clear hw1)
    | (go_at_call 23; rw [z32u8]; refine HX.out.mono ?_; rintro e w1 ⟨rfl, hr1, hb1⟩; have HR1 : Hid (Row w1 w.heap.size 39 noKey) := hr1; clear hr1)
    | ((with_reducible show wpList _ _ _ (Oper.mk _ (Op.store 39 (.tmp 7) (.tmp 19)) _ _ _ _ :: _) _ _); refine wpList_store_Row rfl 39 (.tmp 7) (.tmp 19) rfl noKey rfl rfl (Row.new _ _ _) size39 rfl (by decide) ?_; simp only [Act.put])
    | ((with_reducible show wpList _ _ _ (Oper.mk _ (Op.store 39 (.tmp 4) (.tmp 32)) _ _ _ _ :: _) _ _); refine wpList_store_Row rfl 39 (.tmp 4) (.tmp 32) rfl noKey rfl rfl (Row.below HR1.out (below_setCells (Nat.le_refl _) _ _ ((Below.refl _ w1).alloc (Nat.le_refl _) _)) (Row.lt HR1.out)) size39 rfl (by decide) ?_; simp only [Act.put]))
  have HR2 := Row.below HR1.out (below_setCells (Nat.le_refl _) noKey 0 ((Below.refl _ w1).alloc (Nat.le_refl _) (.cells (List.replicate 32 (Value.int .u8 0)).toArray 39))) (Row.lt HR1.out)
  refine bodyPost_ret (results_Row_tmp rfl rfl (Row.sets_all HR2 rfl) Tryz.underlying39 size39) rfl ?_
  exact ⟨rfl, below_setCells (Nat.le_refl _) _ _ (hb1.trans ((below_setCells (Nat.le_refl _) _ _ ((Below.refl _ w1).alloc (Nat.le_refl _) _)).mono hb1.size))⟩

set_option maxRecDepth 100000 in
set_option maxHeartbeats 1000000 in
/-- awake -/
theorem awake_any (w : World) : Calls Tryz.prog 4 #[] w fun e w' => e = .returned (.bool true) ∧ Below w.heap.size w w' := by
  have HN : Hid (Calls Tryz.prog 5 #[.int .i64 1, .pointer none] w fun e w' => e = .returned (.pointer (some ⟨w.heap.size + 7, 0, none⟩)) ∧ FreshAt w' w.heap.size (w.heap.size + 7) none ∧ Below w.heap.size w w' ∧ w'.heap.size = w.heap.size + 8) := newIdeal_any none w
  have e76 : sizeN 3 = 76 := by decide
  go_enter Tryz.func4, Tryz.ntmps4
  go_wp2_with (first
    | (go_at_call 5; refine HN.out.mono ?_; rintro e w1 ⟨rfl, hf1, hb1, hs1⟩; have HF1 : Hid (FreshAt w1 w.heap.size (w.heap.size + 7) none) := hf1; have HS1 : Hid (w1.heap.size = w.heap.size + 8) := hs1; clear hf1 hs1)
    | (go_at_call 9; refine (size_some _ _ _ _ _ 3 (by omega) _ HF1.out.suite).mono ?_; rintro e w2 ⟨rfl, hb2⟩; rw [e76])
    | (go_at_call 10; refine (digest_err (w.heap.size + 7) 1 none (some ⟨w.heap.size + 6, 0, none⟩) (some ⟨w.heap.size + 1, 0, none⟩) none 0 0 [] w2 (HF1.out.suite.later hb2) ⟨rfl, Nat.le_refl _, by omega, by simp, .inl rfl⟩ (fun W hW => idOf_err _ _ _ _ _ W ((HF1.out.suite.later hb2).later hW) (fun W' hW' => drawnId_err (w.heap.size + 6) _ _ _ _ _ (by decide) (fun _ => none) W' ((((HF1.out.drawn).later hb2).later hW).later hW') (((HF1.out.ids.below hb2 HF1.out.ids.lt).below hW (by have := HF1.out.ids.lt; have := hb2.size; omega)).below hW' (by have := HF1.out.ids.lt; have := hb2.size; have := hW.size; omega)) rfl))).mono ?_; rintro e w3 ⟨rfl, hb3⟩)
    | ((with_reducible show wpList _ _ _ (Oper.mk _ (Op.store 39 (.tmp 2) (.tmp 15)) _ _ _ _ :: _) _ _); refine wpList_store_Row rfl 39 (.tmp 2) (.tmp 15) rfl noKey rfl rfl (Row.new _ _ _) size39 rfl (by decide) ?_; simp only [Act.put]))
  go_ret
  have hb : Below w.heap.size w w3 := hb1.trans ((hb2.mono hb1.size).trans (hb3.mono (Nat.le_trans hb1.size hb2.size)))
  exact ⟨rfl, below_setCells hb.size _ _ (hb.alloc hb.size _)⟩

end Go.Proofs.YtclelancbfoenaaGreatDoor
