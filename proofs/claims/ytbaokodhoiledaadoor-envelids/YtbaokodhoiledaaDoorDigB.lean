/-
  Several texts in one: Dig3, Dig4, Dig5, Dig6.
-/
import Derived.Test.YtbaokodhoiledaaDoorDigA
import Derived.Test.YtbaokodhoiledaaDoorShB
import Derived.Lib.ConvBytes
/-
  realId; idOf of a real suite; Digest, by what idOf and meet answer.
-/
namespace Go.Proofs.YtbaokodhoiledaaDoor
open Classical
open Go.RowKit Go.Shelf
attribute [local go_sem] Oper.semAt_some

theorem strOf_size (zs : List Nat) : (strOf zs).size = zs.length := by
  have h := congrArg List.length (strOf_toList zs)
  rw [ByteArray.toList_eq, List.length_map] at h
  simpa using h
theorem below_bytesWorld (W : World) (e : TypeId) (s : ByteArray) : Below W.heap.size W (Lib.bytesWorld W e s) :=
  ⟨rfl, rfl, rfl, by rw [Lib.bytesWorld_size]; omega, fun k hk => Lib.bytesWorld_at_old W e s k hk⟩
theorem isBytes_bytesWorld (W : World) (zs : List Nat) (hz : ∀ z ∈ zs, z < 256) (hl : zs.length ≤ 60000) :
    IsBytes (Lib.bytesWorld W 5 (strOf zs)).heap.size (Lib.bytesWorld W 5 (strOf zs)) (some ⟨W.heap.size, 0, none⟩) (strOf zs).size (grownCap W (strOf zs).size 0 5) zs := by
  refine ⟨(strOf_size zs).symm, grownCap_ge _ _ _ _, ?_, hz, .inr ⟨_, _, rfl, by rw [Lib.bytesWorld_size]; omega, fun i hi => ?_⟩⟩
  · have h := grownCap_le_maxLen W (strOf zs).size 0 5 (by rw [strOf_size]; simp only [maxLen]; omega)
    simp only [maxLen] at h
    omega
  · rw [Nat.zero_add, Lib.bytesWorld_cell W 5 (strOf zs) i hi]
    rw [strOf_size] at hi
    have ht := strOf_toList zs
    rw [ByteArray.toList_eq] at ht
    rw [ht]
    have hz' := hz (zs.getD i 0) (by simp [List.getD, List.getElem?_eq_getElem hi])
    simp only [List.getD, List.getElem?_map, List.getElem?_eq_getElem hi, Option.map_some, Option.getD_some] at hz' ⊢
    rw [UInt8.toNat_ofNat_of_lt' hz']

set_option maxRecDepth 100000 in
set_option maxHeartbeats 1000000 in
/-- realId -/
theorem realId_any (zs : List Nat) (hz : ∀ z ∈ zs, z < 256) (hl : zs.length ≤ 60000) (w : World) (hT : Sh.Tab w) :
    Calls Tryd.prog 36 #[.string (strOf zs)] w fun e w' => e = .returned (.agg (u8s (Sh.sumN zs)).toArray) ∧ Below w.heap.size w w' := by
  have HV : Hid ((u8s (Sh.sumN zs)).length = 32) := by show _ = _; rw [u8s_length]; exact Sh.digestN_length _
  have HV1 : Hid (∀ v ∈ u8s (Sh.sumN zs), v.oneCell' = true) := u8s_one _
  have hconv : ∀ W, (convert 9 22 (.string (strOf zs))).run Tryd.prog W = .ok (.slice (some ⟨W.heap.size, 0, none⟩) (strOf zs).size (grownCap W (strOf zs).size 0 5)) (Lib.bytesWorld W 5 (strOf zs)) := fun W => Lib.run_convert_string_bytes W 9 22 5 (strOf zs) Tryd.underlying9 Tryd.underlying22 Tryd.underlying5
  have HS : Hid (∀ W g, W.heap.size = g → Below w.heap.size w W → Calls Tryd.prog 49 #[.slice (some ⟨g, 0, none⟩) (strOf zs).size (grownCap W (strOf zs).size 0 5)] (Lib.bytesWorld W 5 (strOf zs)) fun e w' => e = .returned (.agg (u8s (Sh.sumN zs)).toArray) ∧ Below W.heap.size W w') := fun W g hg hW => by
    subst hg
    have hb := below_bytesWorld W 5 (strOf zs)
    exact (Sh.sum_any _ _ _ zs (by rw [strOf_size]; exact hl) _ ((hT.below hW hT.pos).below hb (Nat.lt_of_lt_of_le hT.pos hW.size)) (isBytes_bytesWorld W zs hz hl)).mono fun e w' ⟨h1, h2⟩ => ⟨h1, hb.trans (h2.mono hb.size)⟩
  clear hT
  generalize strOf zs = s at *
  generalize u8s (Sh.sumN zs) = V at *
  go_enter Tryd.func36, Tryd.ntmps36
  go_wp2_with (first
    | (go_at_call 49; refine (HS.out _ _ (by simp) ((Below.refl _ w).alloc (Nat.le_refl _) _)).mono ?_; rintro e w1 ⟨rfl, hb1⟩; rw [z32u8, World.size_alloc] at hb1; have HR1 : Hid (Row w1 w.heap.size 38 noKey) := Row.below (Row.new' w 38 noKey) hb1 (by omega); have HB1 : Hid (Below w.heap.size w w1) := ((Below.refl _ w).alloc (Nat.le_refl _) _).trans (hb1.mono (by omega)); clear hb1)
    | ((with_reducible show wpList _ _ _ (Oper.mk _ (Op.store 38 (.tmp 2) (.tmp 5)) _ _ _ _ :: _) _ _); refine wpList_store_Row rfl 38 (.tmp 2) (.tmp 5) rfl V rfl rfl HR1.out (by rw [HV.out]; exact size38) (by rw [HV.out]; rfl) HV1.out ?_; simp only [Act.put]))
  refine bodyPost_ret (results_Row rfl rfl (Row.sets_all HR1.out (by rw [HV.out]; rfl)) Tryd.underlying38 (by rw [HV.out]; exact size38)) rfl ?_
  exact ⟨rfl, below_setCells (Nat.le_refl _) _ _ HB1.out⟩

set_option maxRecDepth 100000 in
set_option maxHeartbeats 1000000 in
/-- idOf of a real suite. -/
theorem idOf_real (S : Nat) (t d g : Option Addr) (zs : List Nat) (hz : ∀ z ∈ zs, z < 256) (hl : zs.length ≤ 60000) (w : World) (hT : Sh.Tab w) (hS : SuiteAt w S 0 t d g) :
    Calls Tryd.prog 22 #[.pointer (some ⟨S, 0, none⟩), .string (strOf zs)] w fun e w' => e = .returned (.tuple #[.agg (u8s (Sh.sumN zs)).toArray, .int .i64 0]) ∧ Below w.heap.size w w' := by
  have hSl := Row.lt hS
  have c1 := Row.cell hS (i := 1) rfl
  have HV : Hid ((u8s (Sh.sumN zs)).length = 32) := by show _ = _; rw [u8s_length]; exact Sh.digestN_length _
  have HV1 : Hid (∀ v ∈ u8s (Sh.sumN zs), v.oneCell' = true) := u8s_one _
  have HX : Hid (Calls Tryd.prog 36 #[.string (strOf zs)] (w.alloc (.cells (List.replicate 32 (Value.int .u8 0)).toArray 38)) fun e w' => e = .returned (.agg (u8s (Sh.sumN zs)).toArray) ∧ Row w' w.heap.size 38 noKey ∧ Below w.heap.size w w') :=
    (realId_any zs hz hl _ (hT.below ((Below.refl _ w).alloc (Nat.le_refl _) _) hT.pos)).mono fun e w' ⟨h1, h2⟩ => ⟨h1, Row.later (Row.new' w 38 noKey) h2, ((Below.refl _ w).alloc (Nat.le_refl _) _).trans (h2.mono (by simp))⟩
  clear hS hT
  generalize strOf zs = s at *
  generalize u8s (Sh.sumN zs) = V at *
  go_enter Tryd.func22, Tryd.ntmps22
  go_wp2_with (first
    | (go_at_call 36; rw [z32u8]; refine HX.out.mono ?_; rintro e w1 ⟨rfl, hr1, hb1⟩; have HR1 : Hid (Row w1 w.heap.size 38 noKey) := hr1; clear hr1)
    | ((with_reducible show wpList _ _ _ (Oper.mk _ (Op.store 38 (.tmp 4) (.tmp 11)) _ _ _ _ :: _) _ _); refine wpList_store_Row rfl 38 (.tmp 4) (.tmp 11) rfl V rfl rfl HR1.out (by rw [HV.out]; exact size38) (by rw [HV.out]; rfl) HV1.out ?_; simp only [Act.put]))
  refine bodyPost_ret (results_Row_tmp rfl rfl (Row.sets_all HR1.out (by rw [HV.out]; rfl)) Tryd.underlying38 (by rw [HV.out]; exact size38)) rfl ?_
  exact ⟨rfl, below_setCells (Nat.le_refl _) _ _ hb1⟩

set_option maxRecDepth 100000 in
set_option maxHeartbeats 1000000 in
/-- Digest, refused by idOf. -/
theorem digest_err (N S : Nat) (mode : Int) (t d g : Option Addr) (F : List Nat) (p : Option Addr) (len cap : Nat) (zs : List Nat) (V : List Value) (hV : V.length = 32) (hV1 : ∀ v ∈ V, v.oneCell' = true) (G : World → Prop) (hG : Stays N G) (w : World) (hN : N ≤ w.heap.size) (hF : ∀ k ∈ F, k < N) (hS : SuiteAt w S mode t d g) (hI : IsBytes w.heap.size w p len cap zs)
    (HI : Hid (∀ W, Below w.heap.size w W → Calls Tryd.prog 22 #[.pointer (some ⟨S, 0, none⟩), .string (strOf zs)] W fun e w' => e = .returned (.tuple #[.agg V.toArray, .int .i64 60]) ∧ G w' ∧ Buts F W.heap.size W w')) :
    Calls Tryd.prog 14 #[.pointer (some ⟨S, 0, none⟩), .slice p len cap] w fun e w' => e = .returned (.tuple #[.agg noKey.toArray, .int .i64 60]) ∧ G w' ∧ Buts F w.heap.size w w' := by
  have HM : Hid (∀ W, Below w.heap.size w W → Calls Tryd.prog 21 #[.pointer (some ⟨S, 0, none⟩)] W fun e w' => e = .returned (.bool true) ∧ w' = W) := fun W hW => isMade_some S mode t d g W (hS.later hW)
  have hstr : ∀ o, (convert 22 9 (.slice p len cap)).run Tryd.prog (w.alloc o) = .ok (.string (strOf zs)) (w.alloc o) := fun o => str_of_bytes hI _ ((Below.refl _ w).alloc (Nat.le_refl _) o)
  have hFn : w.heap.size ∉ F := fun h => by have := hF _ h; omega
  have HX : Hid (Calls Tryd.prog 22 #[.pointer (some ⟨S, 0, none⟩), .string (strOf zs)] (w.alloc (.cells (List.replicate 32 (Value.int .u8 0)).toArray 38)) fun e w' => e = .returned (.tuple #[.agg V.toArray, .int .i64 60]) ∧ Row w' w.heap.size 38 noKey ∧ G w' ∧ Buts F w.heap.size w w') :=
    (HI.out _ ((Below.refl _ w).alloc (Nat.le_refl _) _)).mono fun e w' ⟨h1, h2, h3⟩ => ⟨h1, h3.row (by simp) hFn (Row.new' w 38 noKey), h2, (Buts.of_below ((Below.refl _ w).alloc (Nat.le_refl _) _) (Nat.le_refl _)).trans (h3.mono (fun _ h => h) (by simp))⟩
  have HV : Hid (V.length = 32) := hV
  have HV1 : Hid (∀ v ∈ V, v.oneCell' = true) := hV1
  clear hS HI hI hV hV1
  generalize strOf zs = s at *
  go_enter Tryd.func14, Tryd.ntmps14
  go_wp2_with (first
    | (go_at_call 21; refine (HM.out _ ((Below.refl _ w).alloc (Nat.le_refl _) _)).mono ?_; rintro e w1 ⟨rfl, hw1⟩; rw [hw1]; clear hw1)
    | (go_at_call 22; rw [z32u8]; refine HX.out.mono ?_; rintro e w1 ⟨rfl, hr1, hg1, hb1⟩; have HR1 : Hid (Row w1 w.heap.size 38 noKey) := hr1; have HG1 : Hid (G w1) := hg1; clear hr1 hg1)
    | ((with_reducible show wpList _ _ _ (Oper.mk _ (Op.store 38 (.tmp 7) (.tmp 19)) _ _ _ _ :: _) _ _); refine wpList_store_Row rfl 38 (.tmp 7) (.tmp 19) rfl V rfl rfl (Row.new _ _ _) (by rw [HV.out]; exact size38) (by rw [HV.out]; rfl) HV1.out ?_; simp only [Act.put])
    | ((with_reducible show wpList _ _ _ (Oper.mk _ (Op.store 38 (.tmp 4) (.tmp 32)) _ _ _ _ :: _) _ _); refine wpList_store_Row rfl 38 (.tmp 4) (.tmp 32) rfl noKey rfl rfl (Row.below HR1.out (below_setCells (Nat.le_refl _) _ _ ((Below.refl _ w1).alloc (Nat.le_refl _) _)) (Row.lt HR1.out)) size38 rfl (by decide) ?_; simp only [Act.put]))
  have hbe := below_setCells (Nat.le_refl _) V 0 ((Below.refl w1.heap.size w1).alloc (Nat.le_refl _) (.cells (List.replicate 32 (Value.int .u8 0)).toArray 38))
  have HR2 := Row.below HR1.out hbe (Row.lt HR1.out)
  refine bodyPost_ret (results_Row_tmp rfl rfl (Row.sets_all HR2 rfl) Tryd.underlying38 size38) rfl ?_
  have hend := below_setCells (Nat.le_refl _) noKey 0 (hbe.mono (hb1.size : w.heap.size ≤ _))
  exact ⟨rfl, hG _ _ (hend.mono hN) HG1.out, hb1.trans (Buts.of_below hend (Nat.le_refl _))⟩

end Go.Proofs.YtbaokodhoiledaaDoor
/-
  Digest, by what idOf and meet answer.
-/
namespace Go.Proofs.YtbaokodhoiledaaDoor
open Classical
open Go.RowKit Go.Shelf
attribute [local go_sem] Oper.semAt_some

set_option maxRecDepth 100000 in
set_option maxHeartbeats 1000000 in
/-- Digest, by meet's answer. -/
theorem digest_ok (N S gg : Nat) (mode : Int) (t d : Option Addr) (F : List Nat) (p : Option Addr) (len cap : Nat) (zs : List Nat) (V : List Value) (hV : V.length = 32) (hV1 : ∀ v ∈ V, v.oneCell' = true) (G G' : World → Prop) (hG : Stays N G) (hG' : Stays N G') (w : World) (hN : N ≤ w.heap.size) (hF : ∀ k ∈ F, k < N) (hS : SuiteAt w S mode t d (some ⟨gg, 0, none⟩)) (hSN : S < N) (hSF : S ∉ F) (hI : IsBytes w.heap.size w p len cap zs)
    (HI : Hid (∀ W, Below w.heap.size w W → Calls Tryd.prog 22 #[.pointer (some ⟨S, 0, none⟩), .string (strOf zs)] W fun e w' => e = .returned (.tuple #[.agg V.toArray, .int .i64 0]) ∧ G w' ∧ Buts F W.heap.size W w'))
    (HMt : Hid (∀ W, N ≤ W.heap.size → G W → Calls Tryd.prog 23 #[.pointer (some ⟨gg, 0, none⟩), .agg V.toArray, .string (strOf zs)] W fun e w' => e = .returned (.int .i64 0) ∧ G' w' ∧ Buts F W.heap.size W w')) :
    Calls Tryd.prog 14 #[.pointer (some ⟨S, 0, none⟩), .slice p len cap] w fun e w' => e = .returned (.tuple #[.agg V.toArray, .int .i64 0]) ∧ G' w' ∧ Buts F w.heap.size w w' := by
  have HM : Hid (∀ W, Below w.heap.size w W → Calls Tryd.prog 21 #[.pointer (some ⟨S, 0, none⟩)] W fun e w' => e = .returned (.bool true) ∧ w' = W) := fun W hW => isMade_some S mode t d _ W (hS.later hW)
  have hstr : ∀ o, (convert 22 9 (.slice p len cap)).run Tryd.prog (w.alloc o) = .ok (.string (strOf zs)) (w.alloc o) := fun o => str_of_bytes hI _ ((Below.refl _ w).alloc (Nat.le_refl _) o)
  have hFn : ∀ k, N ≤ k → k ∉ F := fun k hk h => by have := hF _ h; omega
  have HX : Hid (Calls Tryd.prog 22 #[.pointer (some ⟨S, 0, none⟩), .string (strOf zs)] (w.alloc (.cells (List.replicate 32 (Value.int .u8 0)).toArray 38)) fun e w' => e = .returned (.tuple #[.agg V.toArray, .int .i64 0]) ∧ Row w' w.heap.size 38 noKey ∧ G w' ∧ Buts F w.heap.size w w' ∧ SuiteAt w' S mode t d (some ⟨gg, 0, none⟩)) :=
    (HI.out _ ((Below.refl _ w).alloc (Nat.le_refl _) _)).mono fun e w' ⟨h1, h2, h3⟩ => ⟨h1, h3.row (by simp) (hFn _ hN) (Row.new' w 38 noKey), h2, (Buts.of_below ((Below.refl _ w).alloc (Nat.le_refl _) _) (Nat.le_refl _)).trans (h3.mono (fun _ h => h) (by simp)), h3.row (by simp; omega) hSF (hS.later ((Below.refl _ w).alloc (Nat.le_refl _) _))⟩
  have HV : Hid (V.length = 32) := hV
  have HV1 : Hid (∀ v ∈ V, v.oneCell' = true) := hV1
  clear hS HI hI hV hV1
  generalize strOf zs = s at *
  go_enter Tryd.func14, Tryd.ntmps14
  go_wp2_with (first
    | (go_at_call 21; refine (HM.out _ ((Below.refl _ w).alloc (Nat.le_refl _) _)).mono ?_; rintro e w1 ⟨rfl, hw1⟩; rw [hw1]; clear hw1)
    | (go_at_call 22; rw [z32u8]; refine HX.out.mono ?_; rintro e w1 ⟨rfl, hr1, hg1, hb1, hs1⟩; have HR1 : Hid (Row w1 w.heap.size 38 noKey) := hr1; have HG1 : Hid (G w1) := hg1; have HS1 : Hid (SuiteAt w1 S mode t d (some ⟨gg, 0, none⟩)) := hs1; clear hr1 hg1 hs1)
    | ((with_reducible show wpList _ _ _ (Oper.mk _ (Op.store 38 (.tmp 7) (.tmp 19)) _ _ _ _ :: _) _ _); refine wpList_store_Row rfl 38 (.tmp 7) (.tmp 19) rfl V rfl rfl (Row.new _ _ _) (by rw [HV.out]; exact size38) (by rw [HV.out]; rfl) HV1.out ?_; simp only [Act.put]))
  rw [z32u8]
  obtain ⟨w2, hw2⟩ : ∃ w2, (w1.alloc (.cells (List.replicate 32 (Value.int .u8 0)).toArray 38)).setCells w1.heap.size 0 V = w2 := ⟨_, rfl⟩
  have hb2 : Below w1.heap.size w1 w2 := by rw [← hw2]; exact below_setCells (Nat.le_refl _) V 0 ((Below.refl w1.heap.size w1).alloc (Nat.le_refl _) _)
  have hr2 : Row w2 w1.heap.size 38 V := by rw [← hw2]; exact Row.sets_all (Row.new _ _ _) (by rw [HV.out]; rfl)
  have hs12 : w.heap.size ≤ w1.heap.size := hb1.size
  have hG2 : G w2 := hG _ _ (hb2.mono (by omega)) HG1.out
  have hS2 : SuiteAt w2 S mode t d (some ⟨gg, 0, none⟩) := HS1.out.later hb2
  have hR2 : Row w2 w.heap.size 38 noKey := HR1.out.later hb2
  rw [hw2]
  clear hw2
  refine wp_region_noPanic ?_
  refine wp_region_held_drew (S := fun W' => W'.cell? ⟨S, 4, none⟩ = some (.pointer (some ⟨gg, 0, none⟩)) ∧ W'.rangeAt w1.heap.size 0 V) (by kernel_rfl) ⟨(Row.drew hS2).cell (i := 4) rfl, hr2.drew.range⟩ (fun hHeld => ?_)
  refine wpAnyH_takesAt 0 4 4 (of_decide_eq_true (by kernel_rfl)) rfl (fun _ _ _ d _ h => by cases d <;> exact h) (by kernel_rfl) (by kernel_rfl) hHeld ?_
  simp only [List.drop_zero, List.take_succ_cons, List.take_zero]
  iterate 4 (refine wpHeld_step (v := ?_) (by rfl) (fun wz hSw => ?_) ?_; rotate_left; (focus ((try dsimp only at hSw); go_simp; try with_reducible rfl)); (simp only [Act.put, List.setIfInBounds_toArray, List.set_cons_zero, List.set_cons_succ]))
  refine wpHeld_nil ?_
  refine wpAnyH_takesAt 4 1 3 (of_decide_eq_true (by kernel_rfl)) rfl (fun _ _ _ d _ h => by cases d <;> exact h) (by kernel_rfl) (by kernel_rfl) hHeld ?_
  simp only [List.drop_succ_cons, List.drop_zero, List.take_succ_cons, List.take_zero]
  refine wpHeld_loadS (by rfl) 38 (.tmp 7) rfl w1.heap.size 0 rfl V (fun W hW => hW.2) Tryd.underlying38 rfl (by rw [HV.out]; exact size38) ?_
  simp only [Act.put, List.setIfInBounds_toArray, List.set_cons_zero, List.set_cons_succ]
  refine wpHeld_nil ?_
  refine wpAnyH_takesAt 5 1 2 (of_decide_eq_true (by kernel_rfl)) rfl (fun _ _ _ d _ h => by cases d <;> exact h) (by kernel_rfl) (by kernel_rfl) hHeld ?_
  simp only [List.drop_succ_cons, List.drop_zero, List.take_succ_cons, List.take_zero]
  iterate 1 (refine wpHeld_step (v := ?_) (by rfl) (fun wz hSw => ?_) ?_; rotate_left; (focus ((try dsimp only at hSw); go_simp; try with_reducible rfl)); ((simp only [Act.put]; (try simp only [List.setIfInBounds_toArray]); (try simp only [List.set_cons_succ]); (try simp only [List.set_cons_zero]))))
  refine wpHeld_nil ?_
  refine wpAnyH_only (i := 6) (by kernel_rfl) rfl (fun K hK => ?_)
  rw [if_pos (by rfl)]
  go_simp
  have hd : Below w2.heap.size w2 w2.drew := below_drewN (Below.refl _ _) 1
  have hsz2 : w1.heap.size < w2.heap.size := hr2.lt
  refine (HMt.out w2.drew (by show N ≤ w2.heap.size; omega) (hG _ _ (hd.mono (by omega)) hG2)).mono ?_
  rintro e w3 ⟨rfl, hg3, hb3'⟩
  have hb3 : Buts F w2.heap.size w2 w3 := ⟨hb3'.os, hb3'.tape, hb3'.output, hb3'.size, fun k h1 h2 => hb3'.block k h1 h2⟩
  have hS3 : SuiteAt w3 S mode t d (some ⟨gg, 0, none⟩) := hb3.row (by omega) hSF hS2
  have hV3 : Row w3 w1.heap.size 38 V := hb3.row hsz2 (hFn _ (by omega)) hr2
  have hR3 : Row w3 w.heap.size 38 noKey := hb3.row (by omega) (hFn _ hN) hR2
  refine hK.out _ _ ⟨Row.cell hS3 (i := 4) rfl, hV3.range⟩ ?_
  have hHeld : w3.cell? ⟨S, 4, none⟩ = some (.pointer (some ⟨gg, 0, none⟩)) ∧ w3.rangeAt w1.heap.size 0 V := ⟨Row.cell hS3 (i := 4) rfl, hV3.range⟩
  clear hK K
  refine wpAnyH_takesAt 7 1 0 (of_decide_eq_true (by kernel_rfl)) rfl (fun _ _ _ d _ h => by cases d <;> exact h) (by kernel_rfl) (by kernel_rfl) hHeld ?_
  simp only [List.drop_succ_cons, List.drop_zero, List.take_succ_cons, List.take_zero]
  iterate 1 (refine wpHeld_step (v := ?_) (by rfl) (fun wz hSw => ?_) ?_; rotate_left; (focus ((try dsimp only at hSw); go_simp; try with_reducible rfl)); ((simp only [Act.put]; (try simp only [List.setIfInBounds_toArray]); (try simp only [List.set_cons_succ]); (try simp only [List.set_cons_zero]))))
  refine wpHeld_nil ?_
  refine wpAnyH_done (by kernel_rfl) ?_ _
  refine NoPanic.normal ?_
  have HB3 : Hid (Buts F w.heap.size w w3) := (hb1.trans (Buts.of_below hb2 hs12)).trans (hb3.mono (fun _ h => h) (by omega))
  have HV3 : Hid (Row w3 w1.heap.size 38 V) := hV3
  have HR3 : Hid (Row w3 w.heap.size 38 noKey) := hR3
  have HG3 : Hid (G' w3) := hg3
  clear hHeld hb3 hb3' hS3 hV3 hR3 hg3 hd hb2 hb1 hr2 hG2 hS2 hR2
  go_wp2_with (first
    | ((with_reducible show wpList _ _ _ (Oper.mk _ (Op.load 38 (.tmp 7)) _ _ _ _ :: _) _ _); refine wpList_load_Row rfl 38 (.tmp 7) rfl rfl HV3.out Tryd.underlying38 (by rw [HV.out]; exact size38) ?_; simp only [Act.put, List.setIfInBounds_toArray, List.set_cons_zero, List.set_cons_succ])
    | ((with_reducible show wpList _ _ _ (Oper.mk _ (Op.store 38 (.tmp 4) (.tmp 34)) _ _ _ _ :: _) _ _); refine wpList_store_Row rfl 38 (.tmp 4) (.tmp 34) rfl V rfl rfl HR3.out (by rw [HV.out]; exact size38) (by rw [HV.out]; rfl) HV1.out ?_; simp only [Act.put]))
  refine bodyPost_ret (results_Row_tmp rfl rfl (Row.sets_all HR3.out (by rw [HV.out]; rfl)) Tryd.underlying38 (by rw [HV.out]; exact size38)) rfl ?_
  have hend : Below w.heap.size w3 (w3.setCells w.heap.size 0 V) := below_setCells (Nat.le_refl _) _ 0 (Below.refl _ _)
  exact ⟨rfl, hG' _ _ (hend.mono hN) HG3.out, HB3.out.trans (Buts.of_below hend (Nat.le_refl _))⟩

set_option maxRecDepth 100000 in
set_option maxHeartbeats 1000000 in
/-- Digest, by meet's answer. -/
theorem digest_clash (N S gg : Nat) (mode : Int) (t d : Option Addr) (F : List Nat) (p : Option Addr) (len cap : Nat) (zs : List Nat) (V : List Value) (hV : V.length = 32) (hV1 : ∀ v ∈ V, v.oneCell' = true) (G G' : World → Prop) (hG : Stays N G) (hG' : Stays N G') (w : World) (hN : N ≤ w.heap.size) (hF : ∀ k ∈ F, k < N) (hS : SuiteAt w S mode t d (some ⟨gg, 0, none⟩)) (hSN : S < N) (hSF : S ∉ F) (hI : IsBytes w.heap.size w p len cap zs)
    (HI : Hid (∀ W, Below w.heap.size w W → Calls Tryd.prog 22 #[.pointer (some ⟨S, 0, none⟩), .string (strOf zs)] W fun e w' => e = .returned (.tuple #[.agg V.toArray, .int .i64 0]) ∧ G w' ∧ Buts F W.heap.size W w'))
    (HMt : Hid (∀ W, N ≤ W.heap.size → G W → Calls Tryd.prog 23 #[.pointer (some ⟨gg, 0, none⟩), .agg V.toArray, .string (strOf zs)] W fun e w' => e = .returned (.int .i64 71) ∧ G' w' ∧ Buts F W.heap.size W w')) :
    Calls Tryd.prog 14 #[.pointer (some ⟨S, 0, none⟩), .slice p len cap] w fun e w' => e = .returned (.tuple #[.agg noKey.toArray, .int .i64 71]) ∧ G' w' ∧ Buts F w.heap.size w w' := by
  have HM : Hid (∀ W, Below w.heap.size w W → Calls Tryd.prog 21 #[.pointer (some ⟨S, 0, none⟩)] W fun e w' => e = .returned (.bool true) ∧ w' = W) := fun W hW => isMade_some S mode t d _ W (hS.later hW)
  have hstr : ∀ o, (convert 22 9 (.slice p len cap)).run Tryd.prog (w.alloc o) = .ok (.string (strOf zs)) (w.alloc o) := fun o => str_of_bytes hI _ ((Below.refl _ w).alloc (Nat.le_refl _) o)
  have hFn : ∀ k, N ≤ k → k ∉ F := fun k hk h => by have := hF _ h; omega
  have HX : Hid (Calls Tryd.prog 22 #[.pointer (some ⟨S, 0, none⟩), .string (strOf zs)] (w.alloc (.cells (List.replicate 32 (Value.int .u8 0)).toArray 38)) fun e w' => e = .returned (.tuple #[.agg V.toArray, .int .i64 0]) ∧ Row w' w.heap.size 38 noKey ∧ G w' ∧ Buts F w.heap.size w w' ∧ SuiteAt w' S mode t d (some ⟨gg, 0, none⟩)) :=
    (HI.out _ ((Below.refl _ w).alloc (Nat.le_refl _) _)).mono fun e w' ⟨h1, h2, h3⟩ => ⟨h1, h3.row (by simp) (hFn _ hN) (Row.new' w 38 noKey), h2, (Buts.of_below ((Below.refl _ w).alloc (Nat.le_refl _) _) (Nat.le_refl _)).trans (h3.mono (fun _ h => h) (by simp)), h3.row (by simp; omega) hSF (hS.later ((Below.refl _ w).alloc (Nat.le_refl _) _))⟩
  have HV : Hid (V.length = 32) := hV
  have HV1 : Hid (∀ v ∈ V, v.oneCell' = true) := hV1
  clear hS HI hI hV hV1
  generalize strOf zs = s at *
  go_enter Tryd.func14, Tryd.ntmps14
  go_wp2_with (first
    | (go_at_call 21; refine (HM.out _ ((Below.refl _ w).alloc (Nat.le_refl _) _)).mono ?_; rintro e w1 ⟨rfl, hw1⟩; rw [hw1]; clear hw1)
    | (go_at_call 22; rw [z32u8]; refine HX.out.mono ?_; rintro e w1 ⟨rfl, hr1, hg1, hb1, hs1⟩; have HR1 : Hid (Row w1 w.heap.size 38 noKey) := hr1; have HG1 : Hid (G w1) := hg1; have HS1 : Hid (SuiteAt w1 S mode t d (some ⟨gg, 0, none⟩)) := hs1; clear hr1 hg1 hs1)
    | ((with_reducible show wpList _ _ _ (Oper.mk _ (Op.store 38 (.tmp 7) (.tmp 19)) _ _ _ _ :: _) _ _); refine wpList_store_Row rfl 38 (.tmp 7) (.tmp 19) rfl V rfl rfl (Row.new _ _ _) (by rw [HV.out]; exact size38) (by rw [HV.out]; rfl) HV1.out ?_; simp only [Act.put]))
  rw [z32u8]
  obtain ⟨w2, hw2⟩ : ∃ w2, (w1.alloc (.cells (List.replicate 32 (Value.int .u8 0)).toArray 38)).setCells w1.heap.size 0 V = w2 := ⟨_, rfl⟩
  have hb2 : Below w1.heap.size w1 w2 := by rw [← hw2]; exact below_setCells (Nat.le_refl _) V 0 ((Below.refl w1.heap.size w1).alloc (Nat.le_refl _) _)
  have hr2 : Row w2 w1.heap.size 38 V := by rw [← hw2]; exact Row.sets_all (Row.new _ _ _) (by rw [HV.out]; rfl)
  have hs12 : w.heap.size ≤ w1.heap.size := hb1.size
  have hG2 : G w2 := hG _ _ (hb2.mono (by omega)) HG1.out
  have hS2 : SuiteAt w2 S mode t d (some ⟨gg, 0, none⟩) := HS1.out.later hb2
  have hR2 : Row w2 w.heap.size 38 noKey := HR1.out.later hb2
  rw [hw2]
  clear hw2
  refine wp_region_noPanic ?_
  refine wp_region_held_drew (S := fun W' => W'.cell? ⟨S, 4, none⟩ = some (.pointer (some ⟨gg, 0, none⟩)) ∧ W'.rangeAt w1.heap.size 0 V) (by kernel_rfl) ⟨(Row.drew hS2).cell (i := 4) rfl, hr2.drew.range⟩ (fun hHeld => ?_)
  refine wpAnyH_takesAt 0 4 4 (of_decide_eq_true (by kernel_rfl)) rfl (fun _ _ _ d _ h => by cases d <;> exact h) (by kernel_rfl) (by kernel_rfl) hHeld ?_
  simp only [List.drop_zero, List.take_succ_cons, List.take_zero]
  iterate 4 (refine wpHeld_step (v := ?_) (by rfl) (fun wz hSw => ?_) ?_; rotate_left; (focus ((try dsimp only at hSw); go_simp; try with_reducible rfl)); (simp only [Act.put, List.setIfInBounds_toArray, List.set_cons_zero, List.set_cons_succ]))
  refine wpHeld_nil ?_
  refine wpAnyH_takesAt 4 1 3 (of_decide_eq_true (by kernel_rfl)) rfl (fun _ _ _ d _ h => by cases d <;> exact h) (by kernel_rfl) (by kernel_rfl) hHeld ?_
  simp only [List.drop_succ_cons, List.drop_zero, List.take_succ_cons, List.take_zero]
  refine wpHeld_loadS (by rfl) 38 (.tmp 7) rfl w1.heap.size 0 rfl V (fun W hW => hW.2) Tryd.underlying38 rfl (by rw [HV.out]; exact size38) ?_
  simp only [Act.put, List.setIfInBounds_toArray, List.set_cons_zero, List.set_cons_succ]
  refine wpHeld_nil ?_
  refine wpAnyH_takesAt 5 1 2 (of_decide_eq_true (by kernel_rfl)) rfl (fun _ _ _ d _ h => by cases d <;> exact h) (by kernel_rfl) (by kernel_rfl) hHeld ?_
  simp only [List.drop_succ_cons, List.drop_zero, List.take_succ_cons, List.take_zero]
  iterate 1 (refine wpHeld_step (v := ?_) (by rfl) (fun wz hSw => ?_) ?_; rotate_left; (focus ((try dsimp only at hSw); go_simp; try with_reducible rfl)); ((simp only [Act.put]; (try simp only [List.setIfInBounds_toArray]); (try simp only [List.set_cons_succ]); (try simp only [List.set_cons_zero]))))
  refine wpHeld_nil ?_
  refine wpAnyH_only (i := 6) (by kernel_rfl) rfl (fun K hK => ?_)
  rw [if_pos (by rfl)]
  go_simp
  have hd : Below w2.heap.size w2 w2.drew := below_drewN (Below.refl _ _) 1
  have hsz2 : w1.heap.size < w2.heap.size := hr2.lt
  refine (HMt.out w2.drew (by show N ≤ w2.heap.size; omega) (hG _ _ (hd.mono (by omega)) hG2)).mono ?_
  rintro e w3 ⟨rfl, hg3, hb3'⟩
  have hb3 : Buts F w2.heap.size w2 w3 := ⟨hb3'.os, hb3'.tape, hb3'.output, hb3'.size, fun k h1 h2 => hb3'.block k h1 h2⟩
  have hS3 : SuiteAt w3 S mode t d (some ⟨gg, 0, none⟩) := hb3.row (by omega) hSF hS2
  have hV3 : Row w3 w1.heap.size 38 V := hb3.row hsz2 (hFn _ (by omega)) hr2
  have hR3 : Row w3 w.heap.size 38 noKey := hb3.row (by omega) (hFn _ hN) hR2
  refine hK.out _ _ ⟨Row.cell hS3 (i := 4) rfl, hV3.range⟩ ?_
  have hHeld : w3.cell? ⟨S, 4, none⟩ = some (.pointer (some ⟨gg, 0, none⟩)) ∧ w3.rangeAt w1.heap.size 0 V := ⟨Row.cell hS3 (i := 4) rfl, hV3.range⟩
  clear hK K
  refine wpAnyH_takesAt 7 1 0 (of_decide_eq_true (by kernel_rfl)) rfl (fun _ _ _ d _ h => by cases d <;> exact h) (by kernel_rfl) (by kernel_rfl) hHeld ?_
  simp only [List.drop_succ_cons, List.drop_zero, List.take_succ_cons, List.take_zero]
  iterate 1 (refine wpHeld_step (v := ?_) (by rfl) (fun wz hSw => ?_) ?_; rotate_left; (focus ((try dsimp only at hSw); go_simp; try with_reducible rfl)); ((simp only [Act.put]; (try simp only [List.setIfInBounds_toArray]); (try simp only [List.set_cons_succ]); (try simp only [List.set_cons_zero]))))
  refine wpHeld_nil ?_
  refine wpAnyH_done (by kernel_rfl) ?_ _
  refine NoPanic.normal ?_
  have HB3 : Hid (Buts F w.heap.size w w3) := (hb1.trans (Buts.of_below hb2 hs12)).trans (hb3.mono (fun _ h => h) (by omega))
  have HV3 : Hid (Row w3 w1.heap.size 38 V) := hV3
  have HR3 : Hid (Row w3 w.heap.size 38 noKey) := hR3
  have HG3 : Hid (G' w3) := hg3
  clear hHeld hb3 hb3' hS3 hV3 hR3 hg3 hd hb2 hb1 hr2 hG2 hS2 hR2
  go_wp2_with (first
    | ((with_reducible show wpList _ _ _ (Oper.mk _ (Op.store 38 (.tmp 4) (.tmp 32)) _ _ _ _ :: _) _ _); refine wpList_store_Row rfl 38 (.tmp 4) (.tmp 32) rfl noKey rfl rfl HR3.out size38 rfl (by decide) ?_; simp only [Act.put]))
  refine bodyPost_ret (results_Row_tmp rfl rfl (Row.sets_all HR3.out rfl) Tryd.underlying38 size38) rfl ?_
  have hend : Below w.heap.size w3 (w3.setCells w.heap.size 0 noKey) := below_setCells (Nat.le_refl _) _ 0 (Below.refl _ _)
  exact ⟨rfl, hG' _ _ (hend.mono hN) HG3.out, HB3.out.trans (Buts.of_below hend (Nat.le_refl _))⟩

end Go.Proofs.YtbaokodhoiledaaDoor
/-
  What Digest of a real suite, and of an ideal one, answers, with one text in it at most.
-/
namespace Go.Proofs.YtbaokodhoiledaaDoor
open Classical
open Go.RowKit Go.Shelf

/-- The text that is known, and its id. -/
abbrev Ent := Option (List Nat × List Nat)
def Ent.ok (ent : Ent) : Prop := ∀ L d, ent = some (L, d) → IsKey32 d ∧ ∀ z ∈ L, z < 256
def entD [DecidableEq Value] : Ent → Value → Option Value
  | none => fun _ => none
  | some (L, d) => fnPut (fun _ => none) (.agg (u8s d).toArray) (metV (strOf L) false)
def entI [DecidableEq Value] : Ent → Value → Option Value
  | none => fun _ => none
  | some (L, d) => fnPut (fun _ => none) (.string (strOf L)) (.agg (u8s d).toArray)
theorem entD_some (L d : List Nat) : entD (some (L, d)) = fnPut (fun _ => none) (.agg (u8s d).toArray) (metV (strOf L) false) := rfl
theorem entI_some (L d : List Nat) : entI (some (L, d)) = fnPut (fun _ => none) (.string (strOf L)) (.agg (u8s d).toArray) := rfl
/-- Whether another text has the id. -/
def clashE : Ent → List Nat → List Nat → Int
  | none, _, _ => 0
  | some (L0, d0), L, d => if d0 = d ∧ L0 ≠ L then 71 else 0
def ansV (x : Int) (d : List Nat) : List Nat := if x = 0 then d else List.replicate 32 0
theorem strOf_inj {a b : List Nat} (ha : ∀ z ∈ a, z < 256) (hb : ∀ z ∈ b, z < 256) (h : strOf a = strOf b) : a = b := by
  have := strOf_eq a b ha hb
  rw [h] at this
  simpa using this.symm

def DigAt (W : World) (n : Nat) (ent : Ent) : Prop := ∃ x2 x3 : ByteArray, Row W (n + 1) 68 [.map (some n), .bool false, .string x2, .string x3] ∧ MapAt Tryd.prog (38) W n (entD ent)
theorem DigAt.keep {W W' : World} {n : Nat} {ent : Ent} (h : DigAt W n ent) (h1 : W'.heap[n]? = W.heap[n]?) (h2 : W'.heap[n + 1]? = W.heap[n + 1]?) : DigAt W' n ent := by
  obtain ⟨x2, x3, a, b⟩ := h
  exact ⟨x2, x3, h2.trans a, b.kept h1⟩
theorem DigAt.below {W W' : World} {n N : Nat} {ent : Ent} (h : DigAt W n ent) (hb : Below N W W') (hN : n + 1 < N) : DigAt W' n ent := h.keep (hb.block _ (by omega)) (hb.block _ hN)

/-- meet -/
theorem meet_any (n : Nat) (ent : Ent) (L d : List Nat) (hd : IsKey32 d) (hL : ∀ z ∈ L, z < 256) (he : ent.ok) (W : World) (h : DigAt W n ent) :
    Calls Tryd.prog 23 #[.pointer (some ⟨n + 1, 0, none⟩), .agg (u8s d).toArray, .string (strOf L)] W fun e w' => e = .returned (.int .i64 (clashE ent L d)) ∧ (ent = none → DigAt w' n (some (L, d))) ∧ Buts [n, n + 1] W.heap.size W w' := by
  obtain ⟨x2, x3, hr, hm⟩ := h
  have hrl := hr.lt
  cases ent with
  | none =>
    refine (meet_new (n + 1) n _ _ d hd (strOf L) _ W hr hm rfl).mono ?_
    rintro e w' ⟨rfl, h1, h2⟩
    exact ⟨rfl, fun _ => ⟨x2, x3, h2.row hrl (by omega) hr, h1⟩, Buts.of_but h2 (by simp) (Nat.le_refl _)⟩
  | some p =>
    obtain ⟨L0, d0⟩ := p
    obtain ⟨hd0, hL0⟩ := he L0 d0 rfl
    by_cases e1 : d0 = d
    · subst e1
      by_cases e2 : L0 = L
      · subst e2
        refine (meet_same (n + 1) n _ _ d0 hd (strOf L0) _ W hr hm (by rw [entD_some]; exact fnPut_same _ _ _)).mono ?_
        rintro e w' ⟨rfl, h1⟩
        exact ⟨by simp [clashE], fun h => (by cases h), Buts.of_below h1 (Nat.le_refl _)⟩
      · refine (meet_clash (n + 1) n _ _ d0 hd (strOf L) (strOf L0) _ W hr hm (by rw [entD_some]; exact fnPut_same _ _ _) (fun h => e2 (strOf_inj hL0 hL h))).mono ?_
        rintro e w' ⟨rfl, h1⟩
        exact ⟨by simp [clashE, e2], fun h => (by cases h), h1.mono (by simp) (Nat.le_refl _)⟩
    · refine (meet_new (n + 1) n _ _ d hd (strOf L) _ W hr hm (by rw [entD_some, fnPut_other (fun h => e1 (u8s_inj (agg_inj h)).symm)])).mono ?_
      rintro e w' ⟨rfl, h1, h2⟩
      exact ⟨by simp [clashE, e1], fun h => (by cases h), Buts.of_but h2 (by simp) (Nat.le_refl _)⟩

theorem isKey_len {d : List Nat} (h : IsKey32 d) : (u8s d).length = 32 := by rw [u8s_length, h.1]
theorem clashE_or (ent : Ent) (L d : List Nat) : clashE ent L d = 0 ∨ clashE ent L d = 71 := by
  cases ent with
  | none => exact .inl rfl
  | some p => obtain ⟨L0, d0⟩ := p; simp only [clashE]; split <;> simp

/-- Digest, by idOf's answer. -/
theorem digest_any (N S n : Nat) (mode : Int) (t dd : Option Addr) (F : List Nat) (p : Option Addr) (len cap : Nat) (ent : Ent) (L d : List Nat) (hd : IsKey32 d) (he : ent.ok) (G G' : World → Prop) (hG : Stays N G) (hG' : Stays N G') (w : World) (hN : N ≤ w.heap.size) (hF : ∀ k ∈ F, k < N) (hn : n ∈ F) (hn1 : n + 1 ∈ F) (hS : SuiteAt w S mode t dd (some ⟨n + 1, 0, none⟩)) (hSN : S < N) (hSF : S ∉ F) (hI : IsBytes w.heap.size w p len cap L)
    (HI : Hid (∀ W, Below w.heap.size w W → Calls Tryd.prog 22 #[.pointer (some ⟨S, 0, none⟩), .string (strOf L)] W fun e w' => e = .returned (.tuple #[.agg (u8s d).toArray, .int .i64 0]) ∧ G w' ∧ Buts F W.heap.size W w'))
    (hGD : ∀ W, G W → DigAt W n ent) (hGG : ∀ W W', G W → (ent = none → DigAt W' n (some (L, d))) → Buts [n, n + 1] W.heap.size W W' → G' W') :
    Calls Tryd.prog 14 #[.pointer (some ⟨S, 0, none⟩), .slice p len cap] w fun e w' => e = .returned (.tuple #[.agg (u8s (ansV (clashE ent L d) d)).toArray, .int .i64 (clashE ent L d)]) ∧ G' w' ∧ Buts F w.heap.size w w' := by
  have hM : ∀ W, N ≤ W.heap.size → G W → Calls Tryd.prog 23 #[.pointer (some ⟨n + 1, 0, none⟩), .agg (u8s d).toArray, .string (strOf L)] W fun e w' => e = .returned (.int .i64 (clashE ent L d)) ∧ G' w' ∧ Buts F W.heap.size W w' := fun W _ hW =>
    (meet_any n ent L d hd hI.2.2.2.1 he W (hGD W hW)).mono fun e w' ⟨h1, h2, h3⟩ => ⟨h1, hGG W w' hW h2 h3, h3.mono (by simp [hn, hn1]) (Nat.le_refl _)⟩
  rcases clashE_or ent L d with hx | hx
  · rw [hx] at hM ⊢
    have h := digest_ok N S (n + 1) mode t dd F p len cap L (u8s d) (isKey_len hd) (u8s_one _) G G' hG hG' w hN hF hS hSN hSF hI HI hM
    exact h
  · rw [hx] at hM ⊢
    have h := digest_clash N S (n + 1) mode t dd F p len cap L (u8s d) (isKey_len hd) (u8s_one _) G G' hG hG' w hN hF hS hSN hSF hI HI hM
    rw [show ansV 71 d = List.replicate 32 0 from rfl, noKey_eq]
    exact h

/-- A real suite. -/
structure RealSt (W : World) (n : Nat) (t : Option Addr) (ent : Ent) : Prop where
  suite : SuiteAt W (n + 2) 0 t none (some ⟨n + 1, 0, none⟩)
  dig : DigAt W n ent
theorem RealSt.stays (n : Nat) (t : Option Addr) (ent : Ent) : Stays (n + 3) fun W => RealSt W n t ent := fun _ _ hb h => ⟨h.suite.below hb (by omega), h.dig.below hb (by omega)⟩

theorem sumN_key (L : List Nat) : IsKey32 (Sh.sumN L) := ⟨Sh.digestN_length _, fun z hz => by
  simp only [Sh.sumN, Sh.digestN, Sh.bytesBE, List.mem_map] at hz
  obtain ⟨i, _, rfl⟩ := hz
  unfold Sh.byteBE
  omega⟩

/-- Digest of a real suite. -/
theorem digest_real (n : Nat) (t : Option Addr) (p : Option Addr) (len cap : Nat) (ent : Ent) (L : List Nat) (he : ent.ok) (hl : L.length ≤ 60000) (w : World) (hN : n + 3 ≤ w.heap.size) (hT : Sh.Tab w) (h : RealSt w n t ent) (hI : IsBytes w.heap.size w p len cap L) :
    Calls Tryd.prog 14 #[.pointer (some ⟨n + 2, 0, none⟩), .slice p len cap] w fun e w' => e = .returned (.tuple #[.agg (u8s (ansV (clashE ent L (Sh.sumN L)) (Sh.sumN L))).toArray, .int .i64 (clashE ent L (Sh.sumN L))]) ∧ (ent = none → RealSt w' n t (some (L, Sh.sumN L))) ∧ Buts [n, n + 1] w.heap.size w w' :=
  digest_any (n + 3) (n + 2) n 0 t none [n, n + 1] p len cap ent L (Sh.sumN L) (sumN_key L) he (fun W => RealSt W n t ent) (fun W => ent = none → RealSt W n t (some (L, Sh.sumN L))) (RealSt.stays n t ent) (fun W W' hb h0 e => RealSt.stays n t _ W W' hb (h0 e)) w hN (by intro k hk; simp at hk; omega) (by simp) (by simp) h.suite (by omega) (by simp) hI
    (fun W hW => (idOf_real (n + 2) t none _ L hI.2.2.2.1 hl W (hT.later hW) (h.suite.later hW)).mono fun e w' ⟨h1, h2⟩ => ⟨h1, (RealSt.stays n t ent) _ _ ((hW.mono hN).trans (h2.mono (Nat.le_trans hN hW.size))) h, Buts.of_below h2 (Nat.le_refl _)⟩)
    (fun W hW => hW.dig) (fun W W' hW h1 h2 e => ⟨h2.row (Row.lt hW.suite) (by simp) hW.suite, h1 e⟩)

end Go.Proofs.YtbaokodhoiledaaDoor
/-
  What Digest of an ideal suite answers, with one text in it at most.
-/
namespace Go.Proofs.YtbaokodhoiledaaDoor
open Classical
open Go.RowKit Go.Shelf

/-- An ideal suite: its tape at T, whose bytes lie in block Q. -/
structure IdealSt (W : World) (Q T n : Nat) (zs : List Nat) (ent : Ent) : Prop where
  suite : SuiteAt W (n + 7) 1 (some ⟨T, 0, none⟩) (some ⟨n + 6, 0, none⟩) (some ⟨n + 1, 0, none⟩)
  dig : DigAt W n ent
  drawn : Row W (n + 6) 74 [.pointer (some ⟨T, 0, none⟩), .map (some (n + 2)), .map (some (n + 3)), .map (some (n + 4)), .map (some (n + 5))]
  ids : MapAt Tryd.prog (9) W (n + 3) (entI ent)
  tape : TapeAt W T Q zs
  lt : Q < T ∧ T < n
theorem IdealSt.stays (Q T n : Nat) (zs : List Nat) (ent : Ent) : Stays (n + 8) fun W => IdealSt W Q T n zs ent := fun _ _ hb h =>
  ⟨h.suite.below hb (by omega), h.dig.below hb (by omega), h.drawn.below hb (by omega), h.ids.below hb (by omega), h.tape.below hb (by have := h.lt; omega), h.lt⟩
/-- Another tape. -/
theorem IdealSt.but {W W' : World} {Q T n N : Nat} {zs zs' : List Nat} {ent : Ent} (h : IdealSt W Q T n zs ent) (hb : But T N W W') (hN : n + 8 ≤ N) (ht : TapeAt W' T Q zs') : IdealSt W' Q T n zs' ent := by
  have hl := h.lt
  exact ⟨hb.row (by omega) (by omega) h.suite, h.dig.keep (hb.block _ (by omega) (by omega)) (hb.block _ (by omega) (by omega)), hb.row (by omega) (by omega) h.drawn, h.ids.but hb (by omega) (by omega), ht, h.lt⟩

def idF (T n : Nat) : List Nat := [T, n, n + 1, n + 3]
theorem idF_lt {T n : Nat} (h : T < n) : ∀ k ∈ idF T n, k < n + 8 := by intro k hk; simp [idF] at hk; omega

/-- idOf of an ideal suite, by what known answers. -/
theorem idOf_known (Q T n : Nat) (zs : List Nat) (ent : Ent) (s : ByteArray) (V : List Value) (hV : V.length = 32) (hV1 : ∀ v ∈ V, v.oneCell' = true) (x : Int) (G : World → Prop) (hG : Stays (n + 8) G) (w : World) (hN : n + 8 ≤ w.heap.size) (h : IdealSt w Q T n zs ent)
    (HKn : ∀ W b, Below w.heap.size w W → W.cell? ⟨b, 0, none⟩ = some (.pointer (some ⟨n + 6, 0, none⟩)) → b < W.heap.size → Calls Tryd.prog 46 #[.map (some (n + 3)), .string s, .func (.func 47) #[] #[.pointer (some ⟨b, 0, none⟩)]] W fun e w' => e = .returned (.tuple #[.agg V.toArray, .int .i64 x]) ∧ G w' ∧ Buts (idF T n) W.heap.size W w') :
    ∀ W, Below w.heap.size w W → Calls Tryd.prog 22 #[.pointer (some ⟨n + 7, 0, none⟩), .string s] W fun e w' => e = .returned (.tuple #[.agg V.toArray, .int .i64 x]) ∧ G w' ∧ Buts (idF T n) W.heap.size W w' := fun W hW => by
  have hs := hW.size
  refine idOf_ideal (n + 8) (n + 7) (n + 6) (idF T n) _ _ s V hV hV1 x G hG W (by omega) (idF_lt h.lt.2) (h.suite.later hW) (fun W1 hW1 => ?_)
  have hs1 := hW1.size
  have hw1 : Below w.heap.size w W1 := hW.trans (hW1.mono hs)
  refine drawnId_any (n + 8) (n + 6) (n + 3) (idF T n) _ _ _ _ s V hV hV1 x G hG W1 (by omega) (idF_lt h.lt.2) (h.drawn.later hw1) (fun W2 b hW2 => ?_)
  exact HKn W2 b (hw1.trans (hW2.mono hw1.size))

/-- The text is known. -/
theorem digest_old (Q T n : Nat) (zs : List Nat) (p : Option Addr) (len cap : Nat) (L d : List Nat) (hd : IsKey32 d) (hl : L.length ≤ 60000) (w : World) (hN : n + 8 ≤ w.heap.size) (h : IdealSt w Q T n zs (some (L, d))) (hI : IsBytes w.heap.size w p len cap L) :
    Calls Tryd.prog 14 #[.pointer (some ⟨n + 7, 0, none⟩), .slice p len cap] w fun e w' => e = .returned (.tuple #[.agg (u8s d).toArray, .int .i64 0]) ∧ Buts (idF T n) w.heap.size w w' := by
  have hc : clashE (some (L, d)) L d = 0 := by simp [clashE]
  have hd2 := digest_any (n + 8) (n + 7) n 1 _ _ (idF T n) p len cap (some (L, d)) L d hd (fun L' d' e => by cases e; exact ⟨hd, hI.2.2.2.1⟩) (fun W => IdealSt W Q T n zs (some (L, d))) (fun _ => True) (IdealSt.stays Q T n zs _) (fun _ _ _ _ => trivial) w hN (idF_lt h.lt.2) (by simp [idF]) (by simp [idF]) h.suite (by omega) (by have := h.lt; simp [idF]; omega) hI
    (idOf_known Q T n zs _ (strOf L) (u8s d) (isKey_len hd) (u8s_one _) 0 (fun W => IdealSt W Q T n zs (some (L, d))) (IdealSt.stays Q T n zs _) w hN h (fun W b hW _ _ => (knownId_old (n + 3) (strOf L) (by rw [strOf_size]; simp only [maxLen]; omega) (u8s d) (isKey_len hd) (u8s_one _) _ _ W (h.ids.below hW (by omega)) (by rw [entI_some]; exact fnPut_same _ _ _)).mono fun e w' ⟨h1, h2⟩ => ⟨h1, IdealSt.stays Q T n zs _ _ _ ((hW.mono hN).trans (h2.mono (Nat.le_trans hN hW.size))) h, Buts.of_below h2 (Nat.le_refl _)⟩))
    (fun W hW => hW.dig) (fun _ _ _ _ _ => trivial)
  rw [hc, show ansV 0 d = d from rfl] at hd2
  exact hd2.mono fun e w' ⟨h1, _, h3⟩ => ⟨h1, h3⟩

theorem keyL (zs : List Nat) (hz : ∀ z ∈ zs, z < 256) (h : 32 ≤ zs.length) : IsKey32 (zs.take 32) := ⟨by simp; omega, fun z hzz => hz z (List.mem_of_mem_take hzz)⟩

/-- The text is not known, and no id can be drawn. -/
theorem digest_none (Q T n : Nat) (zs : List Nat) (h32 : zs.length < 32) (p : Option Addr) (len cap : Nat) (ent : Ent) (L : List Nat) (hk : entI ent (.string (strOf L)) = none) (hl : L.length ≤ 60000) (w : World) (hN : n + 8 ≤ w.heap.size) (h : IdealSt w Q T n zs ent) (hI : IsBytes w.heap.size w p len cap L) :
    Calls Tryd.prog 14 #[.pointer (some ⟨n + 7, 0, none⟩), .slice p len cap] w fun e w' => e = .returned (.tuple #[.agg noKey.toArray, .int .i64 60]) ∧ IdealSt w' Q T n zs ent ∧ Buts (idF T n) w.heap.size w w' := by
  refine digest_err (n + 8) (n + 7) 1 _ _ _ (idF T n) p len cap L noKey rfl (by decide) (fun W => IdealSt W Q T n zs ent) (IdealSt.stays Q T n zs ent) w hN (idF_lt h.lt.2) h.suite hI
    (idOf_known Q T n zs _ (strOf L) noKey rfl (by decide) 60 (fun W => IdealSt W Q T n zs ent) (IdealSt.stays Q T n zs _) w hN h (fun W b hW hb hbl => ?_))
  have hs := hW.size
  have hw : IdealSt W Q T n zs ent := IdealSt.stays Q T n zs ent _ _ (hW.mono hN) h
  refine knownId_err (n + 8) (n + 3) b (idF T n) (strOf L) (by rw [strOf_size]; simp only [maxLen]; omega) noKey rfl (by decide) _ (fun W => IdealSt W Q T n zs ent) (IdealSt.stays Q T n zs _) W (by omega) (idF_lt h.lt.2) hw.ids hk (fun W1 hW1 => ?_)
  have hs1 := hW1.size
  have hw1 : IdealSt W1 Q T n zs ent := IdealSt.stays Q T n zs ent _ _ (hW1.mono (by omega)) hw
  refine id1_any (n + 8) b (n + 6) T (idF T n) noKey 60 (fun W => IdealSt W Q T n zs ent) (IdealSt.stays Q T n zs _) rfl (by decide) W1 (by omega) (idF_lt h.lt.2) ((hW1.cell (p := ⟨b, 0, none⟩) hbl).trans hb) (hw1.drawn.cell (i := 0) rfl) (fun W2 hW2 => ?_)
  have hs2 := hW2.size
  have hw2 : IdealSt W2 Q T n zs ent := IdealSt.stays Q T n zs ent _ _ (hW2.mono (by omega)) hw1
  refine (key_err _ W2 (fun W hW => take_over _ zs.length 32 (by decide) (by omega) W (left_any T Q zs W (hw2.tape.below hW hw2.tape.lt)))).mono ?_
  rintro e w' ⟨rfl, h2⟩
  exact ⟨rfl, IdealSt.stays Q T n zs ent _ _ (h2.mono (by omega)) hw2, Buts.of_below h2 (Nat.le_refl _)⟩

/-- The text is not known, and an id is drawn. -/
theorem digest_new (Q T n : Nat) (zs : List Nat) (hz : ∀ z ∈ zs, z < 256) (h32 : 32 ≤ zs.length) (hzl : zs.length ≤ 70000) (p : Option Addr) (len cap : Nat) (ent : Ent) (he : ent.ok) (L : List Nat) (hk : entI ent (.string (strOf L)) = none) (hl : L.length ≤ 60000) (w : World) (hN : n + 8 ≤ w.heap.size) (h : IdealSt w Q T n zs ent) (hI : IsBytes w.heap.size w p len cap L) :
    Calls Tryd.prog 14 #[.pointer (some ⟨n + 7, 0, none⟩), .slice p len cap] w fun e w' => e = .returned (.tuple #[.agg (u8s (ansV (clashE ent L (zs.take 32)) (zs.take 32))).toArray, .int .i64 (clashE ent L (zs.take 32))]) ∧ (ent = none → IdealSt w' Q T n (zs.drop 32) (some (L, zs.take 32))) ∧ Buts (idF T n) w.heap.size w w' := by
  have hd := keyL zs hz h32
  obtain ⟨d, hdd⟩ : ∃ d, zs.take 32 = d := ⟨_, rfl⟩
  have hlt := h.lt
  let G2 : World → Prop := fun W => SuiteAt W (n + 7) 1 (some ⟨T, 0, none⟩) (some ⟨n + 6, 0, none⟩) (some ⟨n + 1, 0, none⟩) ∧ DigAt W n ent ∧ (ent = none → Row W (n + 6) 74 [.pointer (some ⟨T, 0, none⟩), .map (some (n + 2)), .map (some (n + 3)), .map (some (n + 4)), .map (some (n + 5))] ∧ MapAt Tryd.prog (9) W (n + 3) (entI (some (L, d))) ∧ TapeAt W T Q (zs.drop 32))
  have hG2 : Stays (n + 8) G2 := fun W W' hb hW => ⟨hW.1.below hb (by omega), hW.2.1.below hb (by omega), fun e => ⟨(hW.2.2 e).1.below hb (by omega), (hW.2.2 e).2.1.below hb (by omega), (hW.2.2 e).2.2.below hb (by omega)⟩⟩
  rw [hdd] at hd ⊢
  refine digest_any (n + 8) (n + 7) n 1 _ _ (idF T n) p len cap ent L d hd he G2 (fun W => ent = none → IdealSt W Q T n (zs.drop 32) (some (L, d))) hG2 (fun W W' hb h0 e => IdealSt.stays Q T n _ _ W W' hb (h0 e)) w hN (idF_lt h.lt.2) (by simp [idF]) (by simp [idF]) h.suite (by omega) (by simp [idF]; omega) hI
    (idOf_known Q T n zs _ (strOf L) (u8s d) (isKey_len hd) (u8s_one _) 0 G2 hG2 w hN h (fun W b hW hb hbl => ?_)) (fun W hW => hW.2.1) (fun W W' hW h1 h2 e => ?_)
  · have hs := hW.size
    have hw : IdealSt W Q T n zs ent := IdealSt.stays Q T n zs ent _ _ (hW.mono hN) h
    refine knownId_new (n + 8) (n + 3) b (idF T n) (strOf L) (by rw [strOf_size]; simp only [maxLen]; omega) (u8s d) (isKey_len hd) (u8s_one _) _ (fun W => IdealSt W Q T n (zs.drop 32) ent ∧ n + 8 ≤ W.heap.size) G2 hG2 W (by omega) (idF_lt h.lt.2) (by simp [idF]) hw.ids hk (fun W1 hW1 => ?_) (fun W hW => hW.1.ids) (fun W W' hW h1 h2 => ?_)
    · have hs1 := hW1.size
      have hw1 : IdealSt W1 Q T n zs ent := IdealSt.stays Q T n zs ent _ _ (hW1.mono (by omega)) hw
      refine id1_any (n + 8) b (n + 6) T (idF T n) (u8s d) 0 (fun W => IdealSt W Q T n (zs.drop 32) ent ∧ n + 8 ≤ W.heap.size) (fun W W' hb hW => ⟨IdealSt.stays Q T n _ _ W W' hb hW.1, Nat.le_trans hW.2 hb.size⟩) (isKey_len hd) (u8s_one _) W1 (by omega) (idF_lt h.lt.2) ((hW1.cell (p := ⟨b, 0, none⟩) hbl).trans hb) (hw1.drawn.cell (i := 0) rfl) (fun W2 hW2 => ?_)
      have hs2 := hW2.size
      have hw2 : IdealSt W2 Q T n zs ent := IdealSt.stays Q T n zs ent _ _ (hW2.mono (by omega)) hw1
      refine (key_some T Q zs h32 hzl W2 hw2.tape).mono ?_
      rintro e w' ⟨rfl, h2, h3⟩
      exact ⟨by rw [hdd], ⟨hw2.but h3 (by omega) h2, Nat.le_trans (by omega) h3.size⟩, Buts.of_but h3 (by simp [idF]) (Nat.le_refl _)⟩
    · have hl2 := hW.2
      have hi := hW.1
      refine ⟨h2.row (by omega) (by omega) hi.suite, hi.dig.keep (h2.block _ (by omega) (by omega)) (h2.block _ (by omega) (by omega)), fun e => ⟨h2.row (by omega) (by omega) hi.drawn, ?_, hi.tape.keep (h2.block _ (by omega) (by omega)) (h2.block _ (by omega) (by omega))⟩⟩
      subst e
      exact h1
  · obtain ⟨g1, g2, g3⟩ := hW
    obtain ⟨g4, g5, g6⟩ := g3 e
    have hsz := Row.lt g1
    exact ⟨h2.row hsz (by simp) g1, h1 e, h2.row (by omega) (by simp) g4, g5.buts h2 (by omega) (by simp), g6.keep (h2.block _ (by omega) (by simp; omega)) (h2.block _ (by omega) (by simp; omega)), hlt⟩

end Go.Proofs.YtbaokodhoiledaaDoor
