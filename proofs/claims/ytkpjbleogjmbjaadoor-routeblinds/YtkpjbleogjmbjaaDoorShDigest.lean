/-
  What sha.digest and sha.firstWords answer: the bytes of eight words, the highest of each ahead; the words that a sum begins with.
-/
import Derived.Test.YtkpjbleogjmbjaaDoorBaseAll
import Derived.Test.YtkpjbleogjmbjaaDoorShA
namespace Go.Proofs.YtkpjbleogjmbjaaDoor.Sh
open Go.RowKit
attribute [local go_sem] Oper.semAt_some

theorem size34 : (Tryd.prog.info? 34).map (·.size) = some 32 := by kernel_rfl
theorem size98' : (Tryd.prog.info? 98).map (·.size) = some 8 := by kernel_rfl

/-- Byte j of some words, the highest of each ahead. -/
def byteBE (l : List Nat) (j : Nat) : Nat := l.getD (j / 4) 0 / 2 ^ (24 - 8 * (j % 4)) % 256
def bytesBE (l : List Nat) (n : Nat) : List Nat := (List.range n).map (byteBE l)
@[simp] theorem bytesBE_length (l : List Nat) (n : Nat) : (bytesBE l n).length = n := by simp [bytesBE]
theorem bytesBE_succ (l : List Nat) (n : Nat) : bytesBE l n ++ [byteBE l n] = bytesBE l (n + 1) := by simp [bytesBE, List.range_succ]
def digestN (s : St) : List Nat := bytesBE s.list 32
theorem digestN_length (s : St) : (digestN s).length = 32 := bytesBE_length _ _

theorem byteBE_0 (l : List Nat) (k : Nat) : byteBE l (4 * k) = l.getD k 0 / 16777216 % 256 := by
  unfold byteBE; rw [show 4 * k / 4 = k by omega, show 4 * k % 4 = 0 by omega]
theorem byteBE_1 (l : List Nat) (k : Nat) : byteBE l (4 * k + 1) = l.getD k 0 / 65536 % 256 := by
  unfold byteBE; rw [show (4 * k + 1) / 4 = k by omega, show (4 * k + 1) % 4 = 1 by omega]
theorem byteBE_2 (l : List Nat) (k : Nat) : byteBE l (4 * k + 2) = l.getD k 0 / 256 % 256 := by
  unfold byteBE; rw [show (4 * k + 2) / 4 = k by omega, show (4 * k + 2) % 4 = 2 by omega]
theorem byteBE_3 (l : List Nat) (k : Nat) : byteBE l (4 * k + 3) = l.getD k 0 % 256 := by
  unfold byteBE; rw [show (4 * k + 3) / 4 = k by omega, show (4 * k + 3) % 4 = 3 by omega, show 24 - 8 * 3 = 0 from rfl, Nat.pow_zero, Nat.div_one]

theorem four_set (l : List Nat) (k : Nat) (hk : k < 8) :
    ((((fill 32 (.int .u8 0) (u8s (bytesBE l (4 * k)))).set (4 * k) (.int .u8 (l.getD k 0 / 16777216 % 256 : Nat))).set (4 * k + 1) (.int .u8 (l.getD k 0 / 65536 % 256 : Nat))).set (4 * k + 2) (.int .u8 (l.getD k 0 / 256 % 256 : Nat))).set (4 * k + 3) (.int .u8 (l.getD k 0 % 256 : Nat)) = fill 32 (.int .u8 0) (u8s (bytesBE l (4 * (k + 1)))) := by
  rw [fill_set _ _ _ _ (by simp) (by omega), ← byteBE_0, u8s_snoc, bytesBE_succ, fill_set _ _ _ _ (by simp) (by omega), ← byteBE_1, u8s_snoc, bytesBE_succ, fill_set _ _ _ _ (by simp) (by omega), ← byteBE_2, u8s_snoc, bytesBE_succ, fill_set _ _ _ _ (by simp) (by omega), ← byteBE_3, u8s_snoc, bytesBE_succ]
  rfl

theorem run_index98' (cs : List Value) (k : Nat) (v : Value) (hk : k < 8) (hv : cs[k]? = some v) (w : World) : (Instr.index 98 (.agg cs.toArray) (.int .i64 (k : Int))).run Tryd.prog w = .ok v w := by
  simp [Instr.index, run_underlying Tryd.underlying98, asIntOf, go_sem, hv]
  omega

set_option maxRecDepth 100000 in
set_option maxHeartbeats 2000000 in
theorem digest_core (L : List Nat) (hl : L.length = 8) (hx : ∀ z ∈ L, z < 4294967296) (w : World) :
    Calls Tryd.prog 44 #[.agg (u32s L).toArray] w fun e w' => e = .returned (.agg (u8s (bytesBE L 32)).toArray) ∧ Below w.heap.size w w' := by
  have HL : Hid (L.length = 8) := hl
  have HX : Hid (∀ z ∈ L, z < 4294967296) := hx
  have HLV : Hid ((u32s L).length = 8) := by show _ = _; rw [u32s_length, hl]
  clear hl hx
  have H0 : Hid (∀ (w : World) (o o' : Obj), Row (((w.alloc (.cells (u32s L).toArray 98)).alloc o).alloc o') w.heap.size 98 (u32s L)) := fun w o o' => ((Row.new' w 98 _).alloc _).alloc _
  go_enter Tryd.func44, Tryd.ntmps44
  go_wp2_with ((with_reducible show wpList _ _ _ (Oper.mk _ (Op.load 98 (.tmp 1)) _ _ _ _ :: _) _ _); refine wpList_load_Row rfl 98 (.tmp 1) rfl rfl (H0.out _ _ _) Tryd.underlying98 (by rw [HLV.out]; exact size98') ?_; simp only [Act.put, List.setIfInBounds_toArray, List.set_cons_zero, List.set_cons_succ])
  rw [z32u8]
  have rR : Row (((w.alloc (.cells (u32s L).toArray 98)).alloc (.cells (List.replicate 32 (.int .u8 0)).toArray 34)).alloc (.cells (List.replicate 32 (.int .u8 0)).toArray 34)) (w.heap.size + 1) 34 (List.replicate 32 (.int .u8 0)) := by
    have := Row.new' (w.alloc (.cells (u32s L).toArray 98)) 34 (List.replicate 32 (.int .u8 0))
    rw [World.size_alloc] at this
    exact this.alloc _
  have rO : Row (((w.alloc (.cells (u32s L).toArray 98)).alloc (.cells (List.replicate 32 (.int .u8 0)).toArray 34)).alloc (.cells (List.replicate 32 (.int .u8 0)).toArray 34)) (w.heap.size + 1 + 1) 34 (List.replicate 32 (.int .u8 0)) := by
    have := Row.new' ((w.alloc (.cells (u32s L).toArray 98)).alloc (.cells (List.replicate 32 (.int .u8 0)).toArray 34)) 34 (List.replicate 32 (.int .u8 0))
    rw [World.size_alloc, World.size_alloc] at this
    exact this
  have hb0 : Below w.heap.size w (((w.alloc (.cells (u32s L).toArray 98)).alloc (.cells (List.replicate 32 (.int .u8 0)).toArray 34)).alloc (.cells (List.replicate 32 (.int .u8 0)).toArray 34)) := (((Below.refl _ w).alloc (Nat.le_refl _) _).alloc (by simp) _).alloc (by simp; omega) _
  generalize (((w.alloc (.cells (u32s L).toArray 98)).alloc (.cells (List.replicate 32 (.int .u8 0)).toArray 34)).alloc (.cells (List.replicate 32 (.int .u8 0)).toArray 34)) = w3 at *
  go_loopw [7] (fun i wr => ∃ k : Nat, k ≤ 8 ∧ i = .int .i64 k ∧ Row wr (w.heap.size + 1) 34 (List.replicate 32 (.int .u8 0)) ∧ Row wr (w.heap.size + 1 + 1) 34 (fill 32 (.int .u8 0) (u8s (bytesBE L (4 * k)))) ∧ Below w.heap.size w wr)
    (fun i _ => 8 - (intOf i).toNat)
  case atStart => exact ⟨0, by omega, rfl, rR, rO, hb0⟩
  case round =>
    clear rR rO hb0
    obtain ⟨k, hk, rfl, hrR, hrO, hBw⟩ := hrel
    by_cases hk8 : k < 8
    · have hki : (k : Int) < 8 := by omega
      have cR := u32s_at (l := L) (i := k) (by have := HL.out; omega)
      have cI : ∀ w : World, (Instr.index 98 (.agg (u32s L).toArray) (.int .i64 (k : Int))).run Tryd.prog w = .ok (.int .u32 (L.getD k 0 : Nat)) w := fun w => run_index98' _ k _ hk8 cR w
      have bx : L.getD k 0 < 4294967296 := all_getD (by decide) HX.out _
      have HF : Hid (((((fill 32 (.int .u8 0) (u8s (bytesBE L (4 * k)))).set (4 * k) (.int .u8 (L.getD k 0 / 16777216 % 256 : Nat))).set (4 * k + 1) (.int .u8 (L.getD k 0 / 65536 % 256 : Nat))).set (4 * k + 2) (.int .u8 (L.getD k 0 / 256 % 256 : Nat))).set (4 * k + 3) (.int .u8 (L.getD k 0 % 256 : Nat)) = fill 32 (.int .u8 0) (u8s (bytesBE L (4 * (k + 1))))) := four_set L k hk8
      have cc : ∀ i, i < 32 → ∃ v, wr.cell? ⟨w.heap.size + 1 + 1, i, none⟩ = some v := fun i hi => ⟨_, hrO.cell (List.getElem?_eq_getElem (by rw [fill_length _ _ _ (by simp; omega)]; omega))⟩
      obtain ⟨v0, c0⟩ := cc (4 * k) (by omega)
      obtain ⟨v1, c1⟩ := cc (4 * k + 1) (by omega)
      obtain ⟨v2, c2⟩ := cc (4 * k + 2) (by omega)
      obtain ⟨v3, c3⟩ := cc (4 * k + 3) (by omega)
      have f0 := hrO.frozen (4 * k)
      have f1 := hrO.frozen (4 * k + 1)
      have f2 := hrO.frozen (4 * k + 2)
      have f3 := hrO.frozen (4 * k + 3)
      have e0 : IntKind.i64.wrap (4 * (k : Int)) = ((4 * k : Nat) : Int) := by rw [IntKind.wrap_i64]; omega
      have e1 : IntKind.i64.wrap (((4 * k : Nat) : Int) + 1) = ((4 * k + 1 : Nat) : Int) := by rw [IntKind.wrap_i64]; omega
      have e2 : IntKind.i64.wrap (((4 * k : Nat) : Int) + 2) = ((4 * k + 2 : Nat) : Int) := by rw [IntKind.wrap_i64]; omega
      have e3 : IntKind.i64.wrap (((4 * k : Nat) : Int) + 3) = ((4 * k + 3 : Nat) : Int) := by rw [IntKind.wrap_i64]; omega
      have l0 : ((4 * k : Nat) : Int) < 32 := by omega
      have l1 : ((4 * k + 1 : Nat) : Int) < 32 := by omega
      have l2 : ((4 * k + 2 : Nat) : Int) < 32 := by omega
      have l3 : ((4 * k + 3 : Nat) : Int) < 32 := by omega
      have HrR : Hid (Row wr (w.heap.size + 1) 34 (List.replicate 32 (.int .u8 0))) := hrR
      have HrO : Hid (Row wr (w.heap.size + 1 + 1) 34 (fill 32 (.int .u8 0) (u8s (bytesBE L (4 * k))))) := hrO
      have d1 : ∀ u, (wr.setCell ⟨w.heap.size + 1 + 1, 4 * k, none⟩ u).cell? ⟨w.heap.size + 1 + 1, 4 * k + 1, none⟩ = some v1 := fun u => (World.cell?_setCell_other _ _ _ _ (by simp)).trans c1
      have d2 : ∀ u u', ((wr.setCell ⟨w.heap.size + 1 + 1, 4 * k, none⟩ u).setCell ⟨w.heap.size + 1 + 1, 4 * k + 1, none⟩ u').cell? ⟨w.heap.size + 1 + 1, 4 * k + 2, none⟩ = some v2 := fun u u' => (World.cell?_setCell_other _ _ _ _ (by simp)).trans ((World.cell?_setCell_other _ _ _ _ (by simp)).trans c2)
      have d3 : ∀ u u' u'', (((wr.setCell ⟨w.heap.size + 1 + 1, 4 * k, none⟩ u).setCell ⟨w.heap.size + 1 + 1, 4 * k + 1, none⟩ u').setCell ⟨w.heap.size + 1 + 1, 4 * k + 2, none⟩ u'').cell? ⟨w.heap.size + 1 + 1, 4 * k + 3, none⟩ = some v3 := fun u u' u'' => (World.cell?_setCell_other _ _ _ _ (by simp)).trans ((World.cell?_setCell_other _ _ _ _ (by simp)).trans ((World.cell?_setCell_other _ _ _ _ (by simp)).trans c3))
      clear cc hrR hrO cR
      generalize L.getD k 0 = x at *
      generalize u8s (bytesBE L (4 * k)) = D at *
      generalize 4 * k + 1 = m1 at *
      generalize 4 * k + 2 = m2 at *
      generalize 4 * k + 3 = m3 at *
      generalize 4 * k = m0 at *
      clear c1 c2 c3
      go_wp2
      go_roundw
      case rel =>
        have g0 : ((x : Int) / 16777216) = ((x / 16777216 % 256 : Nat) : Int) := by omega
        have g1 : ((x : Int) / 65536 % 256) = ((x / 65536 % 256 : Nat) : Int) := by omega
        have g2 : ((x : Int) / 256 % 256) = ((x / 256 % 256 : Nat) : Int) := by omega
        have g3 : ((x : Int) % 256) = ((x % 256 : Nat) : Int) := by omega
        rw [g0, g1, g2, g3]
        refine ⟨k + 1, by omega, by go_num, (((HrR.out.other (by simp) _).other (by simp) _).other (by simp) _).other (by simp) _, ?_, (((hBw.setCell (p := ⟨w.heap.size + 1 + 1, m0, none⟩) (by show _ ≤ w.heap.size + 1 + 1; omega) _).setCell (p := ⟨w.heap.size + 1 + 1, m1, none⟩) (by show _ ≤ w.heap.size + 1 + 1; omega) _).setCell (p := ⟨w.heap.size + 1 + 1, m2, none⟩) (by show _ ≤ w.heap.size + 1 + 1; omega) _).setCell (p := ⟨w.heap.size + 1 + 1, m3, none⟩) (by show _ ≤ w.heap.size + 1 + 1; omega) _⟩
        have h := (((HrO.out.set m0 (.int .u8 (x / 16777216 % 256 : Nat))).set m1 (.int .u8 (x / 65536 % 256 : Nat))).set m2 (.int .u8 (x / 256 % 256 : Nat))).set m3 (.int .u8 (x % 256 : Nat))
        rw [HF.out] at h
        exact h
      case measure => simp [intOf]; omega
    · obtain rfl : k = 8 := by omega
      have HrR : Hid (Row wr (w.heap.size + 1) 34 (List.replicate 32 (.int .u8 0))) := hrR
      have HrO : Hid (Row wr (w.heap.size + 1 + 1) 34 (u8s (bytesBE L 32))) := by
        rw [fill_full _ _ _ (by simp)] at hrO; exact hrO
      have HOL : Hid ((u8s (bytesBE L 32)).length = 32) := by show _ = _; simp
      clear hrR hrO
      go_wp2_with (first
        | ((with_reducible show wpList _ _ _ (Oper.mk _ (Op.load 34 (.tmp 3)) _ _ _ _ :: _) _ _); refine wpList_load_Row rfl 34 (.tmp 3) rfl rfl HrO.out Tryd.underlying34 (by rw [HOL.out]; exact size34) ?_; simp only [Act.put, List.setIfInBounds_toArray, List.set_cons_zero, List.set_cons_succ])
        | ((with_reducible show wpList _ _ _ (Oper.mk _ (Op.store 34 (.tmp 2) (.tmp 38)) _ _ _ _ :: _) _ _); refine wpList_store_Row rfl 34 (.tmp 2) (.tmp 38) rfl (u8s (bytesBE L 32)) rfl rfl HrR.out (by rw [HOL.out]; exact size34) (by rw [HOL.out]; rfl) (u8s_one _) ?_; simp only [Act.put]))
      refine bodyPost_ret (results_Row rfl rfl (HrR.out.sets_all (vs := u8s (bytesBE L 32)) (by rw [HOL.out]; rfl)) Tryd.underlying34 (by rw [HOL.out]; exact size34)) rfl ?_
      exact ⟨rfl, below_setCells (by omega) _ _ hBw⟩

/-- The first eight words. -/
def first8 : St := ⟨1779033703, 3144134277, 1013904242, 2773480762, 1359893119, 2600822924, 528734635, 1541459225⟩
theorem first8_ok : first8.ok := by unfold St.ok first8; decide

set_option maxHeartbeats 1000000 in
theorem firstWords_any (w : World) : Calls Tryd.prog 49 #[] w fun e w' => e = .returned (.agg (u32s first8.list).toArray) ∧ Below w.heap.size w w' := by
  go_enter Tryd.func49, Tryd.ntmps49
  go_wp2
  refine bodyPost_ret (results_Row rfl rfl (Row.new _ _ _) Tryd.underlying98 size98') rfl ?_
  exact ⟨rfl, (Below.refl _ w).alloc (Nat.le_refl _) _⟩
end Go.Proofs.YtkpjbleogjmbjaaDoor.Sh
