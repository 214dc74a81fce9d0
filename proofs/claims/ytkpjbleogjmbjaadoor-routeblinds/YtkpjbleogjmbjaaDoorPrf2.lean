/-
  drawn.prf and Prf of an ideal suite, by what known answers; Prf of a real suite.
-/
import Derived.Test.YtkpjbleogjmbjaaDoorPrf1
import Derived.Test.YtkpjbleogjmbjaaDoorHeld
import Derived.Test.YtkpjbleogjmbjaaDoorRIdeal
import Derived.Test.YtkpjbleogjmbjaaDoorShMac3
namespace Go.Proofs.YtkpjbleogjmbjaaDoor
open Classical
open Go.RowKit Go.Shelf
attribute [local go_sem] Oper.semAt_some

def askC (K : List Value) (s : ByteArray) : List Value := K ++ [Value.int .u8 ((110 : Nat) : Int), Value.string s]
theorem askC_eq (k : List Nat) (s : ByteArray) : askedL k 110 s = askC (u8s k) s := rfl
theorem run_build77 (K : List Value) (hK : K.length = 32) (s : ByteArray) (w : World) : (Instr.build 77 #[(0, .agg K.toArray), (1, .int .u8 110), (2, .string s)]).run Tryd.prog w = .ok (.agg (askC K s).toArray) w :=
  run_build w 77 _ _ (by obtain ⟨f, rfl⟩ := list32 hK; kernel_rfl)

theorem IsBytes.others {F : List Nat} {n₀ : Nat} {W W' : World} {p : Option Addr} {len cap : Nat} {L : List Nat} (h : IsBytes n₀ W p len cap L) (hb : Buts F n₀ W W') (hp : ∀ b off, p = some ⟨b, off, none⟩ → b ∉ F) : IsBytes n₀ W' p len cap L := by
  obtain ⟨h1, h2, h3, h4, h5⟩ := h
  refine ⟨h1, h2, h3, h4, ?_⟩
  rcases h5 with e | ⟨b, off, e, hl, hc⟩
  · exact .inl e
  · exact .inr ⟨b, off, e, hl, fun i hi => (World.cell?_of_block (a := ⟨b, off + i, none⟩) (hb.block b hl (hp b off e))).trans (hc i hi)⟩
/-- A key, and room for an answer. -/
def twoW (w : World) (K : List Value) (t : TypeId) : World := (w.alloc (.cells K.toArray 24)).alloc (.cells (List.replicate 32 (Value.int .u8 0)).toArray t)
theorem twoW_below (w : World) (K : List Value) (t : TypeId) : Below w.heap.size w (twoW w K t) := ((Below.refl _ w).alloc (Nat.le_refl _) _).alloc (by simp) _
theorem twoW_size (w : World) (K : List Value) (t : TypeId) : (twoW w K t).heap.size = w.heap.size + 1 + 1 := by simp [twoW]
theorem twoW_key (w : World) (K : List Value) (t : TypeId) : Row (twoW w K t) w.heap.size 24 K := (Row.new' w 24 K).alloc _
theorem twoW_res (w : World) (K : List Value) (t : TypeId) : Row (twoW w K t) (w.heap.size + 1) t noKey := by
  have h := Row.new' (w.alloc (.cells K.toArray 24)) t noKey
  rw [World.size_alloc] at h
  exact h

set_option maxRecDepth 100000 in
set_option maxHeartbeats 2000000 in
/-- drawn.prf, by what known answers. -/
theorem drawnPrf_any (N D m T : Nat) (F : List Nat) (x2 x3 x4 : Value) (k : List Nat) (hk : IsKey32 k) (p : Option Addr) (len cap : Nat) (L : List Nat) (V : List Value) (hV : V.length = 32) (hV1 : ∀ v ∈ V, v.oneCell' = true) (x : Int) (G : World → Prop) (hG : Stays N G) (w : World) (hN : N ≤ w.heap.size) (hF : ∀ k ∈ F, k < N) (hDF : D ∉ F) (hpF : ∀ b off, p = some ⟨b, off, none⟩ → b ∉ F)
    (hD : Row w D 70 [.pointer (some ⟨T, 0, none⟩), .map (some m), x2, x3, x4]) (hI : IsBytes w.heap.size w p len cap L)
    (HKn : Hid (∀ W, Below w.heap.size w W → Calls Tryd.prog 25 #[.map (some m), .agg (askedL k 110 (strOf L)).toArray, .func (.func 26) #[.pointer (some ⟨T, 0, none⟩)] #[]] W fun e w' => e = .returned (.tuple #[.agg V.toArray, .int .i64 x]) ∧ G w' ∧ Buts F W.heap.size W w')) :
    Calls Tryd.prog 19 #[.pointer (some ⟨D, 0, none⟩), .agg (u8s k).toArray, .int .u8 110, .slice p len cap] w fun e w' => e = .returned (.tuple #[.agg V.toArray, .int .i64 x]) ∧ G w' ∧ Buts F w.heap.size w w' := by
  have hK32 : (u8s k).length = 32 := by rw [u8s_length]; exact hk.1
  have hb0 := twoW_below w (u8s k) 24
  have hs0 := twoW_size w (u8s k) 24
  have hD0 := hD.later hb0
  have HStr : Hid (Str (twoW w (u8s k) 24) (.slice p len cap) (strOf L)) := (str_of_bytes hI).later hb0
  have HT : Hid ((twoW w (u8s k) 24).cell? ⟨D, 1, none⟩ = some (.map (some m)) ∧ (twoW w (u8s k) 24).cell? ⟨D, 0, none⟩ = some (.pointer (some ⟨T, 0, none⟩)) ∧ (twoW w (u8s k) 24).rangeAt w.heap.size 0 (u8s k) ) := ⟨hD0.cell (i := 1) rfl, hD0.cell (i := 0) rfl, (twoW_key w (u8s k) 24).range⟩
  have HKw : Hid (∀ W, Below w.heap.size w W → Calls Tryd.prog 25 #[.map (some m), .agg (askC (u8s k) (strOf L)).toArray, .func (.func 26) #[.pointer (some ⟨T, 0, none⟩)] #[]] W fun e w' => e = .returned (.tuple #[.agg V.toArray, .int .i64 x]) ∧ G w' ∧ Buts F W.heap.size W w') := by rw [askC_eq] at HKn; exact HKn
  have HAft : Hid (∀ w1 w2, Buts F (twoW w (u8s k) 24).drew.heap.size (twoW w (u8s k) 24).drew w1 → Below (w.heap.size + 1) w1 w2 → w2.cell? ⟨D, 1, none⟩ = some (.map (some m)) ∧ w2.cell? ⟨D, 0, none⟩ = some (.pointer (some ⟨T, 0, none⟩)) ∧ w2.rangeAt w.heap.size 0 (u8s k) ∧ (convert 22 9 (.slice p len cap)).run Tryd.prog w2 = .ok (.string (strOf L)) w2) := fun w1 w2 hb1 hb2 => by
    have hDl := hD.lt
    have d1 : Row w1 D 70 _ := hb1.row (by have := hD0.lt; exact this) hDF hD0
    have k1 : Row w1 w.heap.size 24 (u8s k) := hb1.row (by have := (twoW_key w (u8s k) 24).lt; exact this) (fun h => by have := hF _ h; omega) (twoW_key w (u8s k) 24)
    have i1 : IsBytes w.heap.size w1 p len cap L := (hI.below hb0.drew).others (hb1.mono (fun _ h => h) (by show w.heap.size ≤ (twoW w (u8s k) 24).heap.size; omega)) hpF
    have d2 := d1.below hb2 (by omega)
    have k2 := k1.below hb2 (by omega)
    have i2 := (i1.below (hb2.mono (by omega))).mono (n₁ := w2.heap.size) (by have := k2.lt; omega)
    exact ⟨d2.cell (i := 1) rfl, d2.cell (i := 0) rfl, k2.range, (str_of_bytes i2).here⟩
  have HRs : Hid (Row (twoW w (u8s k) 24) (w.heap.size + 1) 24 noKey) := twoW_res w (u8s k) 24
  have HW0 : Hid ((w.alloc (.cells (u8s k).toArray 24)).alloc (.cells (List.replicate 32 (Value.int .u8 0)).toArray 24) = twoW w (u8s k) 24) := rfl
  have HK32 : Hid ((u8s k).length = 32) := hK32
  have HSK : Hid ((Tryd.prog.info? 24).map (·.size) = some (u8s k).length) := by show _ = _; rw [hK32]; exact size24
  have HV : Hid (V.length = 32) := hV
  have HV1 : Hid (∀ v ∈ V, v.oneCell' = true) := hV1
  have hFn : w.heap.size + 1 ∉ F := fun h => by have := hF _ h; omega
  clear hD hD0 hI HKn hK32 hV hV1 hk
  generalize strOf L = sL at *
  generalize twoW w (u8s k) 24 = w0 at *
  generalize u8s k = Kz at *
  have HB0 : Hid (Below w.heap.size w w0) := hb0
  have hlt : w.heap.size + 1 < w0.heap.size := by omega
  clear hs0 hb0
  go_enter Tryd.func19, Tryd.ntmps19
  go_wp2_with fail
  rw [z32u8, HW0.out]
  refine wp_region_noPanic ?_
  refine wp_region_held_drew (S := fun W' => W'.cell? ⟨D, 1, none⟩ = some (.map (some m)) ∧ W'.cell? ⟨D, 0, none⟩ = some (.pointer (some ⟨T, 0, none⟩)) ∧ W'.rangeAt w.heap.size 0 Kz ∧ (convert 22 9 (.slice p len cap)).run Tryd.prog W' = .ok (.string sL) W') (by kernel_rfl) ⟨HT.out.1, HT.out.2.1, HT.out.2.2, HStr.out _ (Below.refl _ _).drew⟩ (fun hHeld => ?_)
  refine wpAnyH_takesAt 0 4 15 (of_decide_eq_true (by kernel_rfl)) rfl (fun _ _ _ d _ h => by cases d <;> exact h) (by kernel_rfl) (by kernel_rfl) hHeld ?_
  simp only [List.drop_zero, List.take_succ_cons, List.take_zero]
  iterate 4 (refine wpHeld_step (v := ?_) (by rfl) (fun wz hSw => ?_) ?_; rotate_left; (focus ((obtain ⟨s1, s2, _, _⟩ := hSw); go_simp; try with_reducible rfl)); (simp only [Act.put, List.setIfInBounds_toArray, List.set_cons_zero, List.set_cons_succ]))
  refine wpHeld_nil ?_
  refine wpAnyH_takesAt 4 1 14 (of_decide_eq_true (by kernel_rfl)) rfl (fun _ _ _ d _ h => by cases d <;> exact h) (by kernel_rfl) (by kernel_rfl) hHeld ?_
  simp only [List.drop_succ_cons, List.drop_zero, List.take_succ_cons, List.take_zero]
  refine wpHeld_load (by rfl) 24 (.tmp 5) rfl w.heap.size 0 rfl Kz (fun W hW => hW.2.2.1) Tryd.underlying24 HSK.out ?_
  (simp only [Act.put]; (try simp only [List.setIfInBounds_toArray]); (try simp only [List.set_cons_succ]); (try simp only [List.set_cons_zero]))
  refine wpHeld_nil ?_
  refine wpAnyH_takesAt 5 3 11 (of_decide_eq_true (by kernel_rfl)) rfl (fun _ _ _ d _ h => by cases d <;> exact h) (by kernel_rfl) (by kernel_rfl) hHeld ?_
  simp only [List.drop_succ_cons, List.drop_zero, List.take_succ_cons, List.take_zero]
  iterate 3 (refine wpHeld_step (v := ?_) (by rfl) (fun wz hSw => ?_) ?_; rotate_left; (focus ((obtain ⟨_, _, _, s4⟩ := hSw); go_simp; try with_reducible rfl)); (simp only [Act.put, List.setIfInBounds_toArray, List.set_cons_zero, List.set_cons_succ]))
  refine wpHeld_nil ?_
  refine wpAnyH_takesAt 8 1 10 (of_decide_eq_true (by kernel_rfl)) rfl (fun _ _ _ d _ h => by cases d <;> exact h) (by kernel_rfl) (by kernel_rfl) hHeld ?_
  simp only [List.drop_succ_cons, List.drop_zero, List.take_succ_cons, List.take_zero]
  refine wpHeld_step (v := .agg (askC Kz sL).toArray) (by rfl) (fun wz _ => ?_) ?_
  · have hbu := run_build77 Kz HK32.out sL wz
    show (execOp _ ⟨_, Op.build 77 _, _, _, _, _⟩).run Tryd.prog wz = _
    unfold execOp
    simp only [List.map_toArray, List.map_cons, List.map_nil, Sem.run_bind]
    erw [hbu]
    rfl
  (simp only [Act.put]; (try simp only [List.setIfInBounds_toArray]); (try simp only [List.set_cons_succ]); (try simp only [List.set_cons_zero]))
  refine wpHeld_nil ?_
  refine wpAnyH_takesAt 9 5 5 (of_decide_eq_true (by kernel_rfl)) rfl (fun _ _ _ d _ h => by cases d <;> exact h) (by kernel_rfl) (by kernel_rfl) hHeld ?_
  simp only [List.drop_succ_cons, List.drop_zero, List.take_succ_cons, List.take_zero]
  iterate 5 (refine wpHeld_step (v := ?_) (by rfl) (fun wz hSw => ?_) ?_; rotate_left; (focus ((obtain ⟨s1, s2, _, _⟩ := hSw); go_simp; try with_reducible rfl)); (simp only [Act.put, List.setIfInBounds_toArray, List.set_cons_zero, List.set_cons_succ]))
  refine wpHeld_nil ?_
  refine wpAnyH_only (i := 14) (by kernel_rfl) rfl (fun K hK => ?_)
  rw [if_pos (by rfl)]
  go_simp
  refine (HKw.out w0.drew HB0.out.drew).mono ?_
  rintro e w1 ⟨rfl, hg1, hb1⟩
  have HR1 : Hid (Row w1 (w.heap.size + 1) 24 noKey) := hb1.row (by exact hlt) hFn HRs.out
  have HB1 : Hid (Buts F w.heap.size w w1) := (Buts.of_below HB0.out.drew (Nat.le_refl _)).trans (hb1.mono (fun _ h => h) HB0.out.size)
  have HG1 : Hid (G w1) := hg1
  have hs1 : w0.heap.size ≤ w1.heap.size := hb1.size
  have hHeld1 := HAft.out w1 w1 hb1 (Below.refl _ _)
  have HA2 : Hid _ := HAft.out w1 (w1.setCells (w.heap.size + 1) 0 V) hb1 (below_setCells (Nat.le_refl _) V 0 (Below.refl _ _))
  refine hK.out _ _ hHeld1 ?_
  clear hK K hHeld
  have hHeld := hHeld1
  clear hHeld1
  refine wpAnyH_takesAt 15 2 2 (of_decide_eq_true (by kernel_rfl)) rfl (fun _ _ _ d _ h => by cases d <;> exact h) (by kernel_rfl) (by kernel_rfl) hHeld ?_
  simp only [List.drop_succ_cons, List.drop_zero, List.take_succ_cons, List.take_zero]
  iterate 2 (refine wpHeld_step (v := ?_) (by rfl) (fun wz hSw => ?_) ?_; rotate_left; (focus ((clear hSw); go_simp; try with_reducible rfl)); (simp only [Act.put, List.setIfInBounds_toArray, List.set_cons_zero, List.set_cons_succ]))
  refine wpHeld_nil ?_
  refine wpAnyH_only (i := 17) (by kernel_rfl) rfl (fun K hK => ?_)
  rw [if_pos (by rfl)]
  refine wp_store_mid 24 (.tmp 8) (.tmp 25) rfl (w.heap.size + 1) 0 V.toArray rfl rfl (by have h := Row.there HR1.out; show World.there _ _ 0 V.length; rw [HV.out]; exact h) (by show _ = some V.length; rw [HV.out]; exact size24) (by rw [List.all_toArray]; exact List.all_eq_true.2 HV1.out) ?_
  have HR2 : Hid (Row (w1.setCells (w.heap.size + 1) 0 V) (w.heap.size + 1) 24 V) := Row.sets_all HR1.out (by rw [HV.out]; rfl)
  have hend : Below w.heap.size w1 (w1.setCells (w.heap.size + 1) 0 V) := below_setCells (by omega) V 0 (Below.refl _ _)
  refine hK.out _ _ HA2.out ?_
  clear hK K hHeld
  refine wpAnyH_only (i := 18) (by kernel_rfl) rfl (fun K hK => ?_)
  rw [if_pos (by rfl)]
  go_simp
  refine hK.out _ _ HA2.out ?_
  clear hK K
  refine wpAnyH_done (by kernel_rfl) ?_ _
  refine NoPanic.normal ?_
  go_wp2
  refine bodyPost_ret (results_Row_tmp rfl rfl HR2.out Tryd.underlying24 (by rw [HV.out]; exact size24)) rfl ?_
  exact ⟨rfl, hG _ _ (hend.mono hN) HG1.out, HB1.out.trans (Buts.of_below hend (Nat.le_refl _))⟩
end Go.Proofs.YtkpjbleogjmbjaaDoor
