/-
  route.Blind and the reference's Blind, by what Prf answers.
-/
import Derived.Test.YtkpjbleogjmbjaaDoorRPrf
import Derived.Test.YtkpjbleogjmbjaaDoorRouteA
namespace Go.Proofs.YtkpjbleogjmbjaaDoor
open Classical
open Go.RowKit Go.Shelf
attribute [local go_sem] Oper.semAt_some

theorem keepT_setCells {t t0 : TypeId} (ht : t ≠ t0) {W : World} {b : Nat} {c : List Value} (hr : Row W b t0 c) (V : List Value) : KeepT t W (W.setCells b 0 V) := fun k cc fr hk => by
  have hkl := (Array.getElem?_eq_some_iff.1 hk).1
  by_cases e : k = b
  · subst e
    unfold Row at hr
    rw [hr] at hk
    cases hk
    exact absurd rfl ht
  · exact ((But.sets (n := W.heap.size) (B := b) (w := W) V 0).block k hkl e).trans hk
theorem size34 : (Tryd.prog.info? 34).map (·.size) = some 32 := by kernel_rfl
/-- A name's bytes. -/
def nameL (s : ByteArray) : List Nat := (bytesOf s).map UInt8.toNat
theorem nameL_length (s : ByteArray) : (nameL s).length = s.size := by rw [nameL, List.length_map, bytesOf_length]
theorem nameL_lt (s : ByteArray) : ∀ z ∈ nameL s, z < 256 := fun z hz => by
  obtain ⟨c, _, rfl⟩ := List.mem_map.1 hz
  exact UInt8.toNat_lt c
theorem nameL_inj {a b : ByteArray} (h : nameL a = nameL b) : a = b := by
  have h1 : bytesOf a = bytesOf b := List.map_inj_right (fun x y hxy => UInt8.toNat_inj.1 hxy) |>.1 h
  cases a; cases b
  simp only [bytesOf] at h1
  congr
  exact Array.toList_inj.1 h1
theorem name_str (s : ByteArray) : strOf (nameL s) = s := by
  apply ByteArray.ext
  apply Array.ext'
  rw [← ByteArray.toList_eq, strOf_toList, nameL, List.map_map, show ((fun z => UInt8.ofNat z) ∘ UInt8.toNat) = id from funext (fun c => by simp)]
  simp

/-- []byte(name) -/
theorem bytes_of_name (w : World) (s : ByteArray) (hs : s.size ≤ 1000) : ∃ cap W1, (convert 9 22 (.string s)).run Tryd.prog w = .ok (.slice (some ⟨w.heap.size, 0, none⟩) s.size cap) W1 ∧ Below w.heap.size w W1 ∧ IsBytes W1.heap.size W1 (some ⟨w.heap.size, 0, none⟩) s.size cap (nameL s) := by
  have hrun := run_bytes_of_string (P := Tryd.prog) w 9 22 5 s Tryd.underlying9 Tryd.underlying22 Tryd.underlying5
  refine ⟨_, _, hrun, ((Below.refl _ w).drew.alloc (Nat.le_refl _) _), nameL_length s, grownCap_ge w s.size 0 5, ?_, nameL_lt s, .inr ⟨w.heap.size, 0, rfl, ?_, fun i hi => ?_⟩⟩
  · have := grownCap_le_maxLen w s.size 0 5 (by simp only [maxLen]; omega)
    simpa only [maxLen] using this
  · simp
  · rw [Nat.zero_add]
    have hc := World.cell?_alloc_mark w.drew (bytesRow s (grownCap w s.size 0 5)) 5 ((bytesRow s (grownCap w s.size 0 5)).size, (bytesRow s (grownCap w s.size 0 5)).size + 1) i
    have hi' : i < s.data.size := hi
    rw [show w.drew.heap.size = w.heap.size from rfl] at hc
    rw [hc, bytesRow_at s _ i hi']
    have : (nameL s).getD i 0 = (s.data[i]).toNat := by
      rw [nameL, List.getD_eq_getElem?_getD, List.getElem?_map]
      rw [bytesOf, Array.getElem?_toList, Array.getElem?_eq_getElem hi']; rfl
    rw [this]

set_option maxRecDepth 100000 in
set_option maxHeartbeats 2000000 in
theorem blind_gen (S : Nat) (k : List Nat) (hk : IsKey32 k) (s : ByteArray) (hs : s.size ≤ 1000) (V : List Value) (hV : V.length = 32) (hV1 : ∀ v ∈ V, v.oneCell' = true) (x : Int) (G : World → Prop) (w : World) (hG : ∀ W W', Below w.heap.size W W' → G W → G W')
    (HP : Hid (∀ (W : World) (b c : Nat), Below w.heap.size w W → w.heap.size ≤ b → IsBytes W.heap.size W (some ⟨b, 0, none⟩) s.size c (nameL s) → Calls Tryd.prog 13 #[.pointer (some ⟨S, 0, none⟩), .agg (u8s k).toArray, .int .u8 110, .slice (some ⟨b, 0, none⟩) s.size c] W fun e w' => e = .returned (.tuple #[.agg V.toArray, .int .i64 x]) ∧ G w' ∧ ∀ b' cs, w.heap.size ≤ b' → Row W b' 34 cs → Row w' b' 34 cs)) :
    Calls Tryd.prog 7 #[.pointer (some ⟨S, 0, none⟩), .agg (u8s k).toArray, .string s] w fun e w' => e = .returned (.tuple #[.agg V.toArray, .int .i64 x]) ∧ G w' := by
  have hK32 : (u8s k).length = 32 := by rw [u8s_length]; exact hk.1
  have hb0 := twoW_below w (u8s k) 34
  have hs0 := twoW_size w (u8s k) 34
  obtain ⟨cap, w1, hcv, hb1, hI1⟩ := bytes_of_name (twoW w (u8s k) 34) s hs
  have HK : Hid (Row (twoW w (u8s k) 34) w.heap.size 24 (u8s k)) := twoW_key w (u8s k) 34
  have HR1 : Hid (Row w1 (w.heap.size + 1) 34 noKey) := (twoW_res w (u8s k) 34).later hb1
  have hbw1 : Below w.heap.size w w1 := hb0.trans (hb1.mono (by omega))
  rw [hs0] at hcv hI1
  have HC : Hid (Calls Tryd.prog 13 #[.pointer (some ⟨S, 0, none⟩), .agg (u8s k).toArray, .int .u8 110, .slice (some ⟨w.heap.size + 1 + 1, 0, none⟩) s.size cap] w1 fun e w' => e = .returned (.tuple #[.agg V.toArray, .int .i64 x]) ∧ G w' ∧ Row w' (w.heap.size + 1) 34 noKey) :=
    (HP.out w1 (w.heap.size + 1 + 1) cap hbw1 (by omega) hI1).mono fun e w' ⟨h1, h2, h3⟩ => ⟨h1, h2, h3 _ _ (by omega) HR1.out⟩
  have HW0 : Hid ((w.alloc (.cells (u8s k).toArray 24)).alloc (.cells (List.replicate 32 (Value.int .u8 0)).toArray 34) = twoW w (u8s k) 34) := rfl
  have HSK : Hid ((Tryd.prog.info? 24).map (·.size) = some (u8s k).length) := by show _ = _; rw [hK32]; exact size24
  have HV : Hid (V.length = 32) := hV
  have HV1 : Hid (∀ v ∈ V, v.oneCell' = true) := hV1
  clear hK32 hk hI1 HP hb1 hb0 hs0 hV hV1 HR1
  generalize twoW w (u8s k) 34 = w0 at *
  generalize u8s k = Kz at *
  go_enter Tryd.func7, Tryd.ntmps7
  go_wp2_with (first
    | ((with_reducible show wpList _ _ _ (Oper.mk _ (Op.load 24 (.tmp 4)) _ _ _ _ :: _) _ _); rw [z32u8, HW0.out]; refine wpList_load_Row rfl 24 (.tmp 4) rfl rfl HK.out Tryd.underlying24 HSK.out ?_; simp only [Act.put, List.setIfInBounds_toArray, List.set_cons_zero, List.set_cons_succ])
    | (go_at_call 13; refine HC.out.mono ?_; rintro e w3 ⟨rfl, hg3, hr3⟩; have HR3 : Hid (Row w3 (w.heap.size + 1) 34 noKey) := hr3; have HG3 : Hid (G w3) := hg3; have hlt3 := hr3.lt; clear hr3 hg3)
    | ((with_reducible show wpList _ _ _ (Oper.mk _ (Op.store 24 (.tmp 8) (.tmp 16)) _ _ _ _ :: _) _ _); refine wpList_store_Row rfl 24 (.tmp 8) (.tmp 16) rfl V rfl rfl (Row.new _ _ _) (by rw [HV.out]; exact size24) (by rw [HV.out]; rfl) HV1.out ?_; simp only [Act.put])
    | ((with_reducible show wpList _ _ _ (Oper.mk _ (Op.load 24 (.tmp 8)) _ _ _ _ :: _) _ _); refine wpList_load_Row rfl 24 (.tmp 8) rfl rfl (Row.sets_all (Row.new _ _ _) (by rw [HV.out]; rfl)) Tryd.underlying24 (by rw [HV.out]; exact size24) ?_; simp only [Act.put, List.setIfInBounds_toArray, List.set_cons_zero, List.set_cons_succ])
    | ((with_reducible show wpList _ _ _ (Oper.mk _ (Op.store 34 (.tmp 6) (.tmp 18)) _ _ _ _ :: _) _ _); refine wpList_store_Row rfl 34 (.tmp 6) (.tmp 18) rfl V rfl rfl (Row.below HR3.out (below_setCells (B := w3.heap.size) (Nat.le_refl _) _ _ ((Below.refl _ w3).alloc (Nat.le_refl _) _)) hlt3) (by rw [HV.out]; exact size34) (by rw [HV.out]; rfl) HV1.out ?_; simp only [Act.put]))
  refine bodyPost_ret (results_Row_tmp rfl rfl (Row.sets_all (Row.below HR3.out (below_setCells (B := w3.heap.size) (Nat.le_refl _) _ _ ((Below.refl _ w3).alloc (Nat.le_refl _) _)) hlt3) (by rw [HV.out]; rfl)) Tryd.underlying34 (by rw [HV.out]; exact size34)) rfl ?_
  exact ⟨rfl, hG _ _ (below_setCells (by omega) _ _ (below_setCells (by omega) _ _ ((Below.refl _ w3).alloc (by omega) _))) HG3.out⟩
set_option maxRecDepth 100000 in
set_option maxHeartbeats 2000000 in
theorem refBlind_gen (S : Nat) (k : List Nat) (hk : IsKey32 k) (s : ByteArray) (hs : s.size ≤ 1000) (V : List Value) (hV : V.length = 32) (hV1 : ∀ v ∈ V, v.oneCell' = true) (x : Int) (G : World → Prop) (w : World) (hG : ∀ W W', (∀ t, t ≠ 34 → KeepT t W W') → Below w.heap.size W W' → G W → G W')
    (HP : Hid (∀ (W : World) (b c : Nat), Below w.heap.size w W → w.heap.size ≤ b → IsBytes W.heap.size W (some ⟨b, 0, none⟩) s.size c (nameL s) → Calls Tryd.prog 14 #[.pointer (some ⟨S, 0, none⟩), .agg (u8s k).toArray, .int .u8 110, .slice (some ⟨b, 0, none⟩) s.size c] W fun e w' => e = .returned (.tuple #[.agg V.toArray, .int .i64 x]) ∧ G w' ∧ ∀ b' cs, w.heap.size ≤ b' → Row W b' 34 cs → Row w' b' 34 cs)) :
    Calls Tryd.prog 8 #[.pointer (some ⟨S, 0, none⟩), .agg (u8s k).toArray, .string s] w fun e w' => e = .returned (.tuple #[.agg V.toArray, .int .i64 x]) ∧ G w' := by
  have hK32 : (u8s k).length = 32 := by rw [u8s_length]; exact hk.1
  have hb0 := twoW_below w (u8s k) 34
  have hs0 := twoW_size w (u8s k) 34
  obtain ⟨cap, w1, hcv, hb1, hI1⟩ := bytes_of_name (twoW w (u8s k) 34) s hs
  have HK : Hid (Row (twoW w (u8s k) 34) w.heap.size 24 (u8s k)) := twoW_key w (u8s k) 34
  have HR1 : Hid (Row w1 (w.heap.size + 1) 34 noKey) := (twoW_res w (u8s k) 34).later hb1
  have hbw1 : Below w.heap.size w w1 := hb0.trans (hb1.mono (by omega))
  rw [hs0] at hcv hI1
  have HC : Hid (Calls Tryd.prog 14 #[.pointer (some ⟨S, 0, none⟩), .agg (u8s k).toArray, .int .u8 110, .slice (some ⟨w.heap.size + 1 + 1, 0, none⟩) s.size cap] w1 fun e w' => e = .returned (.tuple #[.agg V.toArray, .int .i64 x]) ∧ G w' ∧ Row w' (w.heap.size + 1) 34 noKey) :=
    (HP.out w1 (w.heap.size + 1 + 1) cap hbw1 (by omega) hI1).mono fun e w' ⟨h1, h2, h3⟩ => ⟨h1, h2, h3 _ _ (by omega) HR1.out⟩
  have HW0 : Hid ((w.alloc (.cells (u8s k).toArray 24)).alloc (.cells (List.replicate 32 (Value.int .u8 0)).toArray 34) = twoW w (u8s k) 34) := rfl
  have HSK : Hid ((Tryd.prog.info? 24).map (·.size) = some (u8s k).length) := by show _ = _; rw [hK32]; exact size24
  have HV : Hid (V.length = 32) := hV
  have HV1 : Hid (∀ v ∈ V, v.oneCell' = true) := hV1
  clear hK32 hk hI1 HP hb1 hb0 hs0 hV hV1 HR1
  generalize twoW w (u8s k) 34 = w0 at *
  generalize u8s k = Kz at *
  go_enter Tryd.func8, Tryd.ntmps8
  go_wp2_with (first
    | ((with_reducible show wpList _ _ _ (Oper.mk _ (Op.load 24 (.tmp 4)) _ _ _ _ :: _) _ _); rw [z32u8, HW0.out]; refine wpList_load_Row rfl 24 (.tmp 4) rfl rfl HK.out Tryd.underlying24 HSK.out ?_; simp only [Act.put, List.setIfInBounds_toArray, List.set_cons_zero, List.set_cons_succ])
    | (go_at_call 14; refine HC.out.mono ?_; rintro e w3 ⟨rfl, hg3, hr3⟩; have HR3 : Hid (Row w3 (w.heap.size + 1) 34 noKey) := hr3; have HG3 : Hid (G w3) := hg3; have hlt3 := hr3.lt; clear hr3 hg3)
    | ((with_reducible show wpList _ _ _ (Oper.mk _ (Op.store 24 (.tmp 8) (.tmp 16)) _ _ _ _ :: _) _ _); refine wpList_store_Row rfl 24 (.tmp 8) (.tmp 16) rfl V rfl rfl (Row.new _ _ _) (by rw [HV.out]; exact size24) (by rw [HV.out]; rfl) HV1.out ?_; simp only [Act.put])
    | ((with_reducible show wpList _ _ _ (Oper.mk _ (Op.load 24 (.tmp 8)) _ _ _ _ :: _) _ _); refine wpList_load_Row rfl 24 (.tmp 8) rfl rfl (Row.sets_all (Row.new _ _ _) (by rw [HV.out]; rfl)) Tryd.underlying24 (by rw [HV.out]; exact size24) ?_; simp only [Act.put, List.setIfInBounds_toArray, List.set_cons_zero, List.set_cons_succ])
    | ((with_reducible show wpList _ _ _ (Oper.mk _ (Op.store 34 (.tmp 6) (.tmp 18)) _ _ _ _ :: _) _ _); refine wpList_store_Row rfl 34 (.tmp 6) (.tmp 18) rfl V rfl rfl (Row.below HR3.out (below_setCells (B := w3.heap.size) (Nat.le_refl _) _ _ ((Below.refl _ w3).alloc (Nat.le_refl _) _)) hlt3) (by rw [HV.out]; exact size34) (by rw [HV.out]; rfl) HV1.out ?_; simp only [Act.put]))
  refine bodyPost_ret (results_Row_tmp rfl rfl (Row.sets_all (Row.below HR3.out (below_setCells (B := w3.heap.size) (Nat.le_refl _) _ _ ((Below.refl _ w3).alloc (Nat.le_refl _) _)) hlt3) (by rw [HV.out]; rfl)) Tryd.underlying34 (by rw [HV.out]; exact size34)) rfl ?_
  exact ⟨rfl, hG _ _ (fun t ht => (KeepT.of_below (below_setCells (B := w3.heap.size) (Nat.le_refl _) V 0 ((Below.refl _ w3).alloc (Nat.le_refl _) (.cells (List.replicate 32 (Value.int .u8 0)).toArray 24)))).trans (keepT_setCells ht (Row.below HR3.out (below_setCells (B := w3.heap.size) (Nat.le_refl _) _ _ ((Below.refl _ w3).alloc (Nat.le_refl _) _)) hlt3) V)) (below_setCells (by omega) _ _ (below_setCells (by omega) _ _ ((Below.refl _ w3).alloc (by omega) _))) HG3.out⟩
end Go.Proofs.YtkpjbleogjmbjaaDoor
