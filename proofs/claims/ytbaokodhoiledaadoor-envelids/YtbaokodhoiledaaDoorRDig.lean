/-
  The reference's Digest.
-/
import Derived.Test.YtbaokodhoiledaaDoorRIdeal
import Derived.Test.YtbaokodhoiledaaDoorShRefSum
namespace Go.Proofs.YtbaokodhoiledaaDoor
open Classical
open Go.RowKit Go.Shelf
attribute [local go_sem] Oper.semAt_some

theorem run_arrayAt38 (b o L C : Nat) (h : 32 ≤ L) (w : World) : (Instr.arrayAt 38 (.slice (some ⟨b, o, none⟩) L C)).run Tryd.prog w = .ok (.pointer (some ⟨b, o, none⟩)) w := by
  have h : ¬ L < 32 := by omega
  simp [Instr.arrayAt, run_underlying Tryd.underlying38, go_sem, h]
theorem keepTs_of_but {B : Nat} {W W' : World} {u : TypeId} {c : List Value} (hr : Row W B u c) (hb : But B W.heap.size W W') : ∀ t, t ≠ u → KeepT t W W' := fun t ht k cc fr hk => by
  have hkl := (Array.getElem?_eq_some_iff.1 hk).1
  by_cases e : k = B
  · subst e
    unfold Row at hr
    rw [hr] at hk
    cases hk
    exact absurd rfl ht
  · exact (hb.block k hkl e).trans hk
theorem RowsAt.keepTs {R : Nat} {W W' : World} {v : Value} {es : List REnt} (h : RowsAt R W v es) (k5 : KeepT 5 W W') (k85 : KeepT 85 W W') : RowsAt R W' v es := ⟨k85.own h.own, fun e he => (h.all e he).keepT k5⟩
theorem RefSt.keepTs {W W' : World} {R : Nat} {mode : Int} {zs : List Nat} {es : List REnt} {q : Option Addr} {ql qc : Nat} {rq : Option Addr} {rc : Nat} {x3 x4 : Value} (h : RefSt W R mode zs es q ql qc rq rc x3 x4) (hk : ∀ t, t ≠ 38 → KeepT t W W') (hb : Below R W W') : RefSt W' R mode zs es q ql qc rq rc x3 x4 :=
  ⟨hk 36 (by decide) _ _ _ h.row, h.tape.below hb, h.rows.keepTs (hk 5 (by decide)) (hk 85 (by decide))⟩
theorem RFr.after {R : Nat} {w a b : World} (h : RFr R w a) (hb : Below w.heap.size a b) (hR : R ≤ w.heap.size) : RFr R w b :=
  ⟨h.1.trans (hb.mono hR), fun t h1 h2 k c fr hk => by
    have hkl := (Array.getElem?_eq_some_iff.1 hk).1
    exact (hb.block k hkl).trans (h.2 t h1 h2 k c fr hk)⟩

/-- Whether another text has the id. -/
def clashR [(p : Prop) → Decidable p] (es : List REnt) (L d : List Nat) : Int := if ∃ x ∈ es, x.d = d ∧ x.L ≠ L then 71 else 0

/-- What Digest answers, of the rows behind it. -/
def RDPost (R : Nat) (mode : Int) (zs' : List Nat) (Pes : List REnt → Prop) (L d : List Nat) (w : World) (e : Ending) (w' : World) : Prop :=
  ∃ (es' : List REnt) (q' : Option Addr) (ql' qc' : Nat) (rq' : Option Addr) (rc' : Nat), Pes es' ∧ e = .returned (.tuple #[.agg (u8s (ansV (clashR es' L d) d)).toArray, .int .i64 (clashR es' L d)]) ∧ (clashR es' L d = 0 → RefSt w' R mode zs' es' q' ql' qc' rq' rc' (.slice none 0 0) (.slice none 0 0)) ∧ RFr R w w'

set_option maxRecDepth 100000 in
set_option maxHeartbeats 4000000 in
/-- Digest of an ideal suite, by what ideal answers. -/
theorem refDig_ideal (R : Nat) (zs zs' : List Nat) (es : List REnt) (q : Option Addr) (ql qc : Nat) (rq : Option Addr) (rc : Nat) (p : Option Addr) (len cap : Nat) (L d : List Nat) (hd : IsKey32 d) (hLb : ∀ z ∈ L, z < 256) (hLl : L.length ≤ 60000) (Pes : List REnt → Prop) (w : World) (h : RefSt w R 1 zs es q ql qc rq rc (.slice none 0 0) (.slice none 0 0)) (hO : Own (R + 1) w (.slice p len cap) L)
    (HI : Hid (∀ W, Below w.heap.size w W → Calls Tryd.prog 29 #[.pointer (some ⟨R, 0, none⟩), .int .i64 2, .agg noKey.toArray, .slice none 0 0, .slice p len cap, .int .i64 32] W fun e w' => ∃ (x : REnt) (es' : List REnt) (q' : Option Addr) (ql' qc' : Nat) (rq' : Option Addr) (rc' : Nat), e = .returned (.tuple #[x.b, .int .i64 0]) ∧ x.d = d ∧ x ∈ es' ∧ Pes es' ∧ es'.length ≤ 1000 ∧ RefSt w' R 1 zs' es' q' ql' qc' rq' rc' (.slice none 0 0) (.slice none 0 0) ∧ RFr R W w')) :
    Calls Tryd.prog 16 #[.pointer (some ⟨R, 0, none⟩), .slice p len cap] w (RDPost R 1 zs' Pes L d w) := by
  obtain ⟨wa, hwa⟩ : ∃ wa, (w.alloc (.cells (List.replicate 32 (Value.int .u8 0)).toArray 38)).alloc (.cells (List.replicate 32 (Value.int .u8 0)).toArray 38) = wa := ⟨_, rfl⟩
  have hba : Below w.heap.size w wa := by rw [← hwa]; exact ((Below.refl _ w).alloc (Nat.le_refl _) _).alloc (by simp) _
  have hsa : wa.heap.size = w.heap.size + 1 + 1 := by rw [← hwa]; simp
  have HZa : Hid (Row wa w.heap.size 38 noKey) := by rw [← hwa]; exact (Row.new' w 38 noKey).alloc _
  have HDa : Hid (Row wa (w.heap.size + 1) 38 noKey) := by rw [← hwa]; exact Row.newAt _ _ _ (by simp)
  have HWA : Hid ((w.alloc (.cells (List.replicate 32 (Value.int .u8 0)).toArray 38)).alloc (.cells (List.replicate 32 (Value.int .u8 0)).toArray 38) = wa) := hwa
  have hRw : R < w.heap.size := h.row.lt
  have HLb : Hid (∀ z ∈ L, z < 256) := hLb
  have HLl : Hid (L.length ≤ 60000) := hLl
  have HDk : Hid (IsKey32 d) := hd
  have HVd : Hid ((u8s d).length = 32) := isKey_len hd
  have HVd1 : Hid (∀ v ∈ u8s d, v.oneCell' = true) := u8s_one _
  have c0 : ∀ o o', ((w.alloc o).alloc o').cell? ⟨R, 0, none⟩ = some (.int .i64 1) := fun o o' => ((h.row.alloc o).alloc o').cell (i := 0) rfl
  have HI2 : Hid (Calls Tryd.prog 29 #[.pointer (some ⟨R, 0, none⟩), .int .i64 2, .agg noKey.toArray, .slice none 0 0, .slice p len cap, .int .i64 32] wa fun e w' => ∃ (gb cb : Nat) (es' : List REnt) (q' : Option Addr) (ql' qc' : Nat) (rq' : Option Addr) (rc' : Nat), e = .returned (.tuple #[.slice (some ⟨gb, 0, none⟩) 32 cb, .int .i64 0]) ∧ w'.rangeAt gb 0 (u8s d) ∧ Pes es' ∧ es'.length ≤ 1000 ∧ RefSt w' R 1 zs' es' q' ql' qc' rq' rc' (.slice none 0 0) (.slice none 0 0) ∧ RFr R wa w') := (HI.out wa hba).mono fun e w' ⟨x, es', q', ql', qc', rq', rc', h1, h2, h3, h4, h5, h6, h7⟩ => by
    have hb := (h6.rows.all x h3).b
    obtain ⟨qb, cb, e2⟩ := hb.slice
    rw [h2, hd.1] at e2
    rw [e2, h2] at hb
    obtain ⟨gb, rfl, _, _, hr⟩ := hb.cells (by omega)
    rw [e2] at h1
    exact ⟨gb, cb, es', q', ql', qc', rq', rc', h1, hr, h4, h5, h6, h7⟩
  have HOw : Hid (Own (R + 1) w (.slice p len cap) L) := hO
  clear h hwa HI hd hLb hLl hO
  go_enter Tryd.func16, Tryd.ntmps16
  go_wp2_with (first
    | (go_at_call 29; rw [z32u8, HWA.out]; refine HI2.out.mono ?_; rintro e w1 ⟨gb, cb, es', q', ql', qc', rq', rc', rfl, hrg, hpes, hn', hst1, hf1⟩; have HRG : Hid (w1.rangeAt gb 0 (u8s d)) := hrg; have HPes : Hid (Pes es') := hpes; have HST1 : Hid (RefSt w1 R 1 zs' es' q' ql' qc' rq' rc' (.slice none 0 0) (.slice none 0 0)) := hst1; have HF1 : Hid (RFr R wa w1) := hf1; have HZ1 : Hid (Row w1 w.heap.size 38 noKey) := hf1.keep HZa.out (by decide) (by decide); have HD1 : Hid (Row w1 (w.heap.size + 1) 38 noKey) := hf1.keep HDa.out (by decide) (by decide); have hA := run_arrayAt38 gb 0 32 cb (Nat.le_refl _); obtain ⟨nn, hnn⟩ : ∃ nn, es'.length = nn := ⟨_, rfl⟩; rw [hnn] at hn'; have HN : Hid (es'.length = nn) := hnn; clear hrg hpes hst1 hf1 c0 hnn)
    | ((with_reducible show wpList _ _ _ (Oper.mk _ (Op.load 38 (.tmp 56)) _ _ _ _ :: _) _ _); refine wpList_load_mid rfl 38 (.tmp 56) rfl gb 0 rfl (u8s d) _ HRG.out Tryd.underlying38 rfl (by rw [HVd.out]; exact size38) ?_; simp only [Act.put, List.setIfInBounds_toArray, List.set_cons_zero, List.set_cons_succ])
    | ((with_reducible show wpList _ _ _ (Oper.mk _ (Op.store 38 (.tmp 6) (.tmp 57)) _ _ _ _ :: _) _ _); refine wpList_store_Row rfl 38 (.tmp 6) (.tmp 57) rfl (u8s d) rfl rfl HD1.out (by rw [HVd.out]; exact size38) (by rw [HVd.out]; rfl) HVd1.out ?_; have hD0 := HD1.out.sets_all (vs := u8s d) (by rw [HVd.out]; rfl); have hu0 : But (w.heap.size + 1) w1.heap.size w1 (w1.setCells (w.heap.size + 1) 0 (u8s d)) := But.sets _ 0 w1; have hb0 : Below (w.heap.size + 1) w1 (w1.setCells (w.heap.size + 1) 0 (u8s d)) := below_setCells (Nat.le_refl _) _ _ (Below.refl _ _); generalize w1.setCells (w.heap.size + 1) 0 (u8s d) = W0 at *; have HD0 : Hid (Row W0 (w.heap.size + 1) 38 (u8s d)) := hD0; have HZ0 : Hid (Row W0 w.heap.size 38 noKey) := hu0.row HZ1.out.lt (by omega) HZ1.out; have HS0 : Hid (RefSt W0 R 1 zs' es' q' ql' qc' rq' rc' (.slice none 0 0) (.slice none 0 0)) := HST1.out.keepTs (keepTs_of_but HD1.out hu0) (hb0.mono (by omega)); have HF0 : Hid (RFr R w W0) := ((RFr.of_below hba (by omega)).trans HF1.out).after (hb0.mono (by omega)) (by omega); have HO0 : Hid (Own (R + 1) W0 (.slice p len cap) L) := (keepTs_of_but HD1.out hu0 5 (by decide)).own (HF1.out.own (HOw.out.later hba)); have c2 := HS0.out.row.cell (i := 2) rfl; rw [HN.out] at c2; clear hD0 hu0 hb0 hA; simp only [Act.put]))
  have HX : Hid (∀ wr, Below W0.heap.size W0 wr → ∀ (j : Nat) (x : REnt), es'[j]? = some x → x.At R wr ∧ ∃ g, rq' = some ⟨g, 0, none⟩ ∧ g < W0.heap.size ∧ wr.rangeAt g (j * 36) x.cells) := fun wr hwr j x hj => by
    obtain ⟨g, hq, hg, hr⟩ := HS0.out.rows.range hj
    exact ⟨(HS0.out.rows.all x (List.mem_of_getElem? hj)).later hwr, g, hq, hg, fun i v hv => (hwr.cell (p := ⟨g, j * 36 + i, none⟩) hg).trans (hr i v hv)⟩
  clear c2
  go_loopw [63] (fun r wr => ∃ j : Nat, j ≤ nn ∧ r = .int .i64 (j : Nat) ∧ Hid (∀ i : Nat, i < j → ∀ x, es'[i]? = some x → ¬ (x.d = d ∧ x.L ≠ L)) ∧ Hid (Below W0.heap.size W0 wr)) (fun r _ => nn - (intOf r).toNat)
  case atStart => exact ⟨0, by omega, rfl, fun i hi => by omega, (Below.refl _ _)⟩
  case round =>
    obtain ⟨j, hj, rfl, hall, hB⟩ := hrel
    have hBs := hB.out.size
    by_cases hjn : j < nn
    · have hjz : (j : Int) < (nn : Int) := by omega
      obtain ⟨x, hx⟩ : ∃ x, es'[j]? = some x := ⟨es'[j]'(by rw [HN.out]; exact hjn), List.getElem?_eq_getElem _⟩
      obtain ⟨hxA, g, rfl, hg, hrd⟩ := HX.out wr hB.out j x hx
      have HA : Hid (Own R wr x.a x.L ∧ (∀ z ∈ x.L, z < 256) ∧ Own R wr x.b x.d ∧ IsKey32 x.d) := ⟨hxA.a, hxA.L, hxA.b, hxA.d⟩
      have HXj : Hid (es'[j]? = some x) := hx
      have HRg : Hid (wr.rangeAt g (j * 36) x.cells) := hrd
      have h1l : x.l.oneCell' = true := by obtain ⟨q', c', e'⟩ := hxA.l.slice; rw [e']; rfl
      have h1a : x.a.oneCell' = true := by obtain ⟨q', c', e'⟩ := hxA.a.slice; rw [e']; rfl
      have h1b : x.b.oneCell' = true := by obtain ⟨q', c', e'⟩ := hxA.b.slice; rw [e']; rfl
      have HONE : Hid (∀ v ∈ rowC x.l x.a x.b, v.oneCell' = true) := rowC_one h1l h1a h1b
      have hC : x.cells = rowC x.l x.a x.b := rfl
      have e1 : IntKind.i64.wrap ((j : Int) + 1) = ((j + 1 : Nat) : Int) := by rw [IntKind.wrap_i64]; omega
      rw [hC] at HRg
      clear hx hxA hrd h1a h1b h1l hC
      obtain ⟨l, a', b, L0, d0⟩ := x
      simp only at HA HRg HONE
      obtain ⟨qa, La, ca, hqa⟩ := own_any_slice HA.out.1
      subst hqa
      have HSt : Hid (Str wr (.slice qa La ca) (strOf L0) ∧ Str wr b (strOf d0) ∧ Str wr (.slice p len cap) (strOf L) ∧ Str wr (.slice (some ⟨w.heap.size + 1, 0, none⟩) 32 32) (strOf d)) := by
        refine ⟨str_of_row rfl HA.out.1, str_of_row rfl HA.out.2.2.1, str_of_row rfl (HO0.out.later hB.out), ?_⟩
        have hr := HD0.out.later hB.out
        exact str_of_cells HDk.out.1 hr.lt (fun i hi => by rw [Nat.zero_add]; exact hr.cell (u8s_at (by rw [HDk.out.1]; exact hi)))
      have hkd : ((strOf d0).toList == (strOf d).toList) = decide (d0 = d) := strOf_eq d0 d HA.out.2.2.2.2 HDk.out.2
      have hkl : ((strOf L0).toList == (strOf L).toList) = decide (L0 = L) := strOf_eq L0 L HA.out.2.1 HLb.out
      have HROW : Hid (∀ W, Below wr.heap.size wr W → Row W R 36 [.int .i64 1, .slice q' ql' qc', .slice (some ⟨g, 0, none⟩) es'.length rc', .slice none 0 0, .slice none 0 0, .bool false]) := fun W hW => (HS0.out.row.later hB.out).later hW
      have HZr : Hid (∀ W, Below wr.heap.size wr W → Row W w.heap.size 38 noKey) := fun W hW => (HZ0.out.later hB.out).later hW
      have HLb2 : Hid (Own (R + 1) wr (.slice p len cap) L) := HO0.out.later hB.out
      by_cases hdd : d0 = d
      · rw [decide_eq_true hdd] at hkd
        by_cases hLL : L0 = L
        · rw [decide_eq_true hLL] at hkl
          have hkl' : ((strOf L0).toList != (strOf L).toList) = false := by rw [bne, hkl]; rfl
          go_wp2_with (first
            | ((with_reducible show wpList _ _ _ (Oper.mk _ (Op.load 85 (.tmp 65)) _ _ _ _ :: _) _ _); refine wpList_load_mid rfl 85 (.tmp 65) rfl g (j * 36) rfl (rowC l (.slice qa La ca) b) _ HRg.out Tryd.underlying85 rfl size85 ?_; simp only [Act.put, List.setIfInBounds_toArray, List.set_cons_zero, List.set_cons_succ])
            | ((with_reducible show wpList _ _ _ (Oper.mk _ (Op.store 85 (.tmp 12) (.tmp 66)) _ _ _ _ :: _) _ _); refine wpList_store_Row rfl 85 (.tmp 12) (.tmp 66) rfl (rowC l (.slice qa La ca) b) rfl rfl (Row.new wr 85 #[.int .i64 0, .int .u8 0, .int .u8 0, .int .u8 0, .int .u8 0, .int .u8 0, .int .u8 0, .int .u8 0, .int .u8 0, .int .u8 0, .int .u8 0, .int .u8 0, .int .u8 0, .int .u8 0, .int .u8 0, .int .u8 0, .int .u8 0, .int .u8 0, .int .u8 0, .int .u8 0, .int .u8 0, .int .u8 0, .int .u8 0, .int .u8 0, .int .u8 0, .int .u8 0, .int .u8 0, .int .u8 0, .int .u8 0, .int .u8 0, .int .u8 0, .int .u8 0, .int .u8 0, .slice none 0 0, .slice none 0 0, .slice none 0 0]) size85 (by rw [rowC_len]; simp) HONE.out ?_; have hRP := (Row.new wr 85 #[.int .i64 0, .int .u8 0, .int .u8 0, .int .u8 0, .int .u8 0, .int .u8 0, .int .u8 0, .int .u8 0, .int .u8 0, .int .u8 0, .int .u8 0, .int .u8 0, .int .u8 0, .int .u8 0, .int .u8 0, .int .u8 0, .int .u8 0, .int .u8 0, .int .u8 0, .int .u8 0, .int .u8 0, .int .u8 0, .int .u8 0, .int .u8 0, .int .u8 0, .int .u8 0, .int .u8 0, .int .u8 0, .int .u8 0, .int .u8 0, .int .u8 0, .int .u8 0, .int .u8 0, .slice none 0 0, .slice none 0 0, .slice none 0 0]).sets_all (vs := rowC l (.slice qa La ca) b) (by rw [rowC_len]; simp); have hb2 : Below wr.heap.size wr ((wr.alloc (.cells #[.int .i64 0, .int .u8 0, .int .u8 0, .int .u8 0, .int .u8 0, .int .u8 0, .int .u8 0, .int .u8 0, .int .u8 0, .int .u8 0, .int .u8 0, .int .u8 0, .int .u8 0, .int .u8 0, .int .u8 0, .int .u8 0, .int .u8 0, .int .u8 0, .int .u8 0, .int .u8 0, .int .u8 0, .int .u8 0, .int .u8 0, .int .u8 0, .int .u8 0, .int .u8 0, .int .u8 0, .int .u8 0, .int .u8 0, .int .u8 0, .int .u8 0, .int .u8 0, .int .u8 0, .slice none 0 0, .slice none 0 0, .slice none 0 0] 85)).setCells wr.heap.size 0 (rowC l (.slice qa La ca) b)) := below_setCells (Nat.le_refl _) _ _ ((Below.refl _ wr).alloc (Nat.le_refl _) _); generalize (wr.alloc (.cells #[.int .i64 0, .int .u8 0, .int .u8 0, .int .u8 0, .int .u8 0, .int .u8 0, .int .u8 0, .int .u8 0, .int .u8 0, .int .u8 0, .int .u8 0, .int .u8 0, .int .u8 0, .int .u8 0, .int .u8 0, .int .u8 0, .int .u8 0, .int .u8 0, .int .u8 0, .int .u8 0, .int .u8 0, .int .u8 0, .int .u8 0, .int .u8 0, .int .u8 0, .int .u8 0, .int .u8 0, .int .u8 0, .int .u8 0, .int .u8 0, .int .u8 0, .int .u8 0, .int .u8 0, .slice none 0 0, .slice none 0 0, .slice none 0 0] 85)).setCells wr.heap.size 0 (rowC l (.slice qa La ca) b) = W2 at *; have hc0 := hRP.cell (i := 0) rfl; have hc3 := hRP.cell (i := 34) rfl; have hc4 := hRP.cell (i := 35) rfl; have HRP : Hid (Row W2 wr.heap.size 85 (rowC l (.slice qa La ca) b)) := hRP; clear hRP; simp only [Act.put]))
          refine wp_region_noPanic ?_
          refine wp_region_held_drew (S := fun W => Below W2.heap.size W2 W) (by kernel_rfl) (Below.refl _ _).drew (fun hHeld => ?_)
          refine wpAnyH_takesAt 0 19 0 (of_decide_eq_true (by kernel_rfl)) rfl (fun _ _ _ d _ h => by cases d <;> exact h) (by kernel_rfl) (by kernel_rfl) hHeld ?_
          simp only [List.drop_zero, List.take_succ_cons, List.take_zero]
          iterate 19 (refine wpHeld_step (v := ?_) (by rfl) (fun wz hSw => ?_) ?_; rotate_left; (focus ((have hz := HRP.out.later hSw; have hz0 := hz.cell (i := 0) rfl; have hz3 := hz.cell (i := 34) rfl; have hz4 := hz.cell (i := 35) rfl; have hww := hb2.trans (Below.mono hSw hb2.size); obtain ⟨s1, s2, s3, s4⟩ := HSt.out; have g1 := s1 wz hww; have g2 := s2 wz hww; have g3 := s3 wz hww; have g4 := s4 wz hww; clear hSw hz s1 s2 s3 s4 hww); go_simp; try with_reducible rfl)); (simp only [Act.put, List.setIfInBounds_toArray, List.set_cons_zero, List.set_cons_succ]))
          refine wpHeld_nil ?_
          refine wpAnyH_done (by kernel_rfl) ?_ _
          refine NoPanic.normal ?_
          have hB2 : Below W0.heap.size W0 W2.drew := (hB.out.trans (hb2.mono hBs)).trans ((Below.refl _ _).drew)
          clear hc0 hc3 hc4 hHeld
          go_wp2
          go_roundw
          case rel =>
            refine ⟨j + 1, by omega, by push_cast; rfl, (fun i hi x hx => ?_), hB2⟩
            by_cases e : i = j
            · subst e; rw [HXj.out] at hx; cases hx; exact fun h => h.2 hLL
            · exact hall.out i (by omega) x hx
          case measure => simp only [intOf]; omega
        · rw [decide_eq_false hLL] at hkl
          have hkl' : ((strOf L0).toList != (strOf L).toList) = true := by rw [bne, hkl]; rfl
          go_wp2_with (first
            | ((with_reducible show wpList _ _ _ (Oper.mk _ (Op.load 85 (.tmp 65)) _ _ _ _ :: _) _ _); refine wpList_load_mid rfl 85 (.tmp 65) rfl g (j * 36) rfl (rowC l (.slice qa La ca) b) _ HRg.out Tryd.underlying85 rfl size85 ?_; simp only [Act.put, List.setIfInBounds_toArray, List.set_cons_zero, List.set_cons_succ])
            | ((with_reducible show wpList _ _ _ (Oper.mk _ (Op.store 85 (.tmp 12) (.tmp 66)) _ _ _ _ :: _) _ _); refine wpList_store_Row rfl 85 (.tmp 12) (.tmp 66) rfl (rowC l (.slice qa La ca) b) rfl rfl (Row.new wr 85 #[.int .i64 0, .int .u8 0, .int .u8 0, .int .u8 0, .int .u8 0, .int .u8 0, .int .u8 0, .int .u8 0, .int .u8 0, .int .u8 0, .int .u8 0, .int .u8 0, .int .u8 0, .int .u8 0, .int .u8 0, .int .u8 0, .int .u8 0, .int .u8 0, .int .u8 0, .int .u8 0, .int .u8 0, .int .u8 0, .int .u8 0, .int .u8 0, .int .u8 0, .int .u8 0, .int .u8 0, .int .u8 0, .int .u8 0, .int .u8 0, .int .u8 0, .int .u8 0, .int .u8 0, .slice none 0 0, .slice none 0 0, .slice none 0 0]) size85 (by rw [rowC_len]; simp) HONE.out ?_; have hRP := (Row.new wr 85 #[.int .i64 0, .int .u8 0, .int .u8 0, .int .u8 0, .int .u8 0, .int .u8 0, .int .u8 0, .int .u8 0, .int .u8 0, .int .u8 0, .int .u8 0, .int .u8 0, .int .u8 0, .int .u8 0, .int .u8 0, .int .u8 0, .int .u8 0, .int .u8 0, .int .u8 0, .int .u8 0, .int .u8 0, .int .u8 0, .int .u8 0, .int .u8 0, .int .u8 0, .int .u8 0, .int .u8 0, .int .u8 0, .int .u8 0, .int .u8 0, .int .u8 0, .int .u8 0, .int .u8 0, .slice none 0 0, .slice none 0 0, .slice none 0 0]).sets_all (vs := rowC l (.slice qa La ca) b) (by rw [rowC_len]; simp); have hb2 : Below wr.heap.size wr ((wr.alloc (.cells #[.int .i64 0, .int .u8 0, .int .u8 0, .int .u8 0, .int .u8 0, .int .u8 0, .int .u8 0, .int .u8 0, .int .u8 0, .int .u8 0, .int .u8 0, .int .u8 0, .int .u8 0, .int .u8 0, .int .u8 0, .int .u8 0, .int .u8 0, .int .u8 0, .int .u8 0, .int .u8 0, .int .u8 0, .int .u8 0, .int .u8 0, .int .u8 0, .int .u8 0, .int .u8 0, .int .u8 0, .int .u8 0, .int .u8 0, .int .u8 0, .int .u8 0, .int .u8 0, .int .u8 0, .slice none 0 0, .slice none 0 0, .slice none 0 0] 85)).setCells wr.heap.size 0 (rowC l (.slice qa La ca) b)) := below_setCells (Nat.le_refl _) _ _ ((Below.refl _ wr).alloc (Nat.le_refl _) _); generalize (wr.alloc (.cells #[.int .i64 0, .int .u8 0, .int .u8 0, .int .u8 0, .int .u8 0, .int .u8 0, .int .u8 0, .int .u8 0, .int .u8 0, .int .u8 0, .int .u8 0, .int .u8 0, .int .u8 0, .int .u8 0, .int .u8 0, .int .u8 0, .int .u8 0, .int .u8 0, .int .u8 0, .int .u8 0, .int .u8 0, .int .u8 0, .int .u8 0, .int .u8 0, .int .u8 0, .int .u8 0, .int .u8 0, .int .u8 0, .int .u8 0, .int .u8 0, .int .u8 0, .int .u8 0, .int .u8 0, .slice none 0 0, .slice none 0 0, .slice none 0 0] 85)).setCells wr.heap.size 0 (rowC l (.slice qa La ca) b) = W2 at *; have hc0 := hRP.cell (i := 0) rfl; have hc3 := hRP.cell (i := 34) rfl; have hc4 := hRP.cell (i := 35) rfl; have HRP : Hid (Row W2 wr.heap.size 85 (rowC l (.slice qa La ca) b)) := hRP; clear hRP; simp only [Act.put]))
          refine wp_region_noPanic ?_
          refine wp_region_held_drew (S := fun W => Below W2.heap.size W2 W) (by kernel_rfl) (Below.refl _ _).drew (fun hHeld => ?_)
          refine wpAnyH_takesAt 0 19 0 (of_decide_eq_true (by kernel_rfl)) rfl (fun _ _ _ d _ h => by cases d <;> exact h) (by kernel_rfl) (by kernel_rfl) hHeld ?_
          simp only [List.drop_zero, List.take_succ_cons, List.take_zero]
          iterate 19 (refine wpHeld_step (v := ?_) (by rfl) (fun wz hSw => ?_) ?_; rotate_left; (focus ((have hz := HRP.out.later hSw; have hz0 := hz.cell (i := 0) rfl; have hz3 := hz.cell (i := 34) rfl; have hz4 := hz.cell (i := 35) rfl; have hww := hb2.trans (Below.mono hSw hb2.size); obtain ⟨s1, s2, s3, s4⟩ := HSt.out; have g1 := s1 wz hww; have g2 := s2 wz hww; have g3 := s3 wz hww; have g4 := s4 wz hww; clear hSw hz s1 s2 s3 s4 hww); go_simp; try with_reducible rfl)); (simp only [Act.put, List.setIfInBounds_toArray, List.set_cons_zero, List.set_cons_succ]))
          refine wpHeld_nil ?_
          refine wpAnyH_done (by kernel_rfl) ?_ _
          refine NoPanic.normal ?_
          clear hc0 hc3 hc4 hHeld
          have hb3 : Below wr.heap.size wr W2.drew := hb2.trans ((Below.refl _ _).drew.mono hb2.size)
          have hr3 : Row W2.drew wr.heap.size 85 (rowC l (.slice qa La ca) b) := HRP.out.drew
          generalize W2.drew = W3 at *
          have hrow3 := HROW.out W3 hb3
          have c5 := hrow3.cell (i := 5) rfl
          go_wp2
          refine wp_region_noPanic ?_
          have hR3 : R < wr.heap.size := by have := HS0.out.row.lt; omega
          have hRW : R < W3.heap.size := hrow3.lt
          refine wp_region_held_drew (S := fun W => W.cell? ⟨wr.heap.size, 34, none⟩ = some (.slice qa La ca)) (by kernel_rfl) (hr3.drew.cell (i := 34) rfl) (fun hHeld => ?_)
          refine wpAnyH_takesAt 0 6 10 (of_decide_eq_true (by kernel_rfl)) rfl (fun _ _ _ d _ h => by cases d <;> exact h) (by kernel_rfl) (by kernel_rfl) hHeld ?_
          simp only [List.drop_zero, List.take_succ_cons, List.take_zero]
          iterate 6 (refine wpHeld_step (v := ?_) (by rfl) (fun wz hSw => ?_) ?_; rotate_left; (focus ((try dsimp only at hSw); go_simp; try with_reducible rfl)); (simp only [Act.put, List.setIfInBounds_toArray, List.set_cons_zero, List.set_cons_succ]))
          refine wpHeld_nil ?_
          refine wpAnyH_only (i := 6) (by kernel_rfl) rfl (fun K hK => ?_)
          rw [if_pos (by rfl)]
          have hOL : Own (R + 1) W3.drew (.slice p len cap) L := (HLb2.out.later hb3).later ((Below.refl _ _).drew)
          refine wp_append_bytes (.const (.slice none 0 0)) (.tmp 96) rfl W3.heap.size (.slice none 0 0) [] rfl (Own.nil _ _) (n₀ := W3.heap.size) (ys := L) rfl (hOL.bytes HLb.out) (by have := HLl.out; have := hOL.bytes HLb.out; have := this.1; simp; omega) (Nat.le_refl _) (fun v4 W4 ho4 hg4 => ?_)
          obtain ⟨q4, l4, c4, hu4⟩ := own_any_slice ho4
          subst hu4
          have hb4 : Below W3.heap.size W3 W4 := ((Below.refl W3.heap.size W3).drew).grown hg4 (Nat.le_refl _) (fun k e => by cases e)
          have hr4 := hr3.later hb4
          have hrow4 := hrow3.later hb4
          have hHeld4 : W4.cell? ⟨wr.heap.size, 34, none⟩ = some (.slice qa La ca) := hr4.cell (i := 34) rfl
          refine hK.out _ _ hHeld4 ?_
          clear hK K hHeld
          have hHeld := hHeld4
          change wpAnyH _ _ _ _ _ _ _ (Act.put _ (some 97) _) _
          (simp only [Act.put]; (try simp only [List.setIfInBounds_toArray]); (try simp only [List.set_cons_succ]); (try simp only [List.set_cons_zero]))
          refine wpAnyH_takesAt 7 2 7 (of_decide_eq_true (by kernel_rfl)) rfl (fun _ _ _ d _ h => by cases d <;> exact h) (by kernel_rfl) (by kernel_rfl) hHeld ?_
          simp only [List.drop_succ_cons, List.drop_zero, List.take_succ_cons, List.take_zero]
          iterate 2 (refine wpHeld_step (v := ?_) (by rfl) (fun wz hSw => ?_) ?_; rotate_left; (focus ((try dsimp only at hSw); go_simp; try with_reducible rfl)); (simp only [Act.put, List.setIfInBounds_toArray, List.set_cons_zero, List.set_cons_succ]))
          refine wpHeld_nil ?_
          refine wpAnyH_only (i := 9) (by kernel_rfl) rfl (fun K hK => ?_)
          rw [if_pos (by rfl)]
          have cc3 := hrow4.cell (i := 3) rfl
          have fz3 := hrow4.frozen 3
          go_simp
          obtain ⟨W5, hW5⟩ : ∃ W5, W4.setCell ⟨R, 3, none⟩ (.slice qa La ca) = W5 := ⟨_, rfl⟩
          have hu5 : But R W4.heap.size W4 W5 := by rw [← hW5]; exact But.set 3 _
          have hrow5 : Row W5 R 36 [.int .i64 1, .slice q' ql' qc', .slice (some ⟨g, 0, none⟩) es'.length rc', .slice qa La ca, .slice none 0 0, .bool false] := by rw [← hW5]; exact hrow4.set 3 _
          have hr5 : Row W5 wr.heap.size 85 (rowC l (.slice qa La ca) b) := hu5.row hr4.lt (by omega) hr4
          have hHeld5 : W5.cell? ⟨wr.heap.size, 34, none⟩ = some (.slice qa La ca) := hr5.cell (i := 34) rfl
          rw [hW5]
          refine hK.out _ _ hHeld5 ?_
          clear hK K hHeld hW5 cc3 fz3
          have hHeld := hHeld5
          refine wpAnyH_takesAt 10 2 4 (of_decide_eq_true (by kernel_rfl)) rfl (fun _ _ _ d _ h => by cases d <;> exact h) (by kernel_rfl) (by kernel_rfl) hHeld ?_
          simp only [List.drop_succ_cons, List.drop_zero, List.take_succ_cons, List.take_zero]
          iterate 2 (refine wpHeld_step (v := ?_) (by rfl) (fun wz hSw => ?_) ?_; rotate_left; (focus ((try dsimp only at hSw); go_simp; try with_reducible rfl)); (simp only [Act.put, List.setIfInBounds_toArray, List.set_cons_zero, List.set_cons_succ]))
          refine wpHeld_nil ?_
          refine wpAnyH_only (i := 12) (by kernel_rfl) rfl (fun K hK => ?_)
          rw [if_pos (by rfl)]
          have cc3 := hrow5.cell (i := 4) rfl
          have fz3 := hrow5.frozen 4
          go_simp
          obtain ⟨W6, hW6⟩ : ∃ W6, W5.setCell ⟨R, 4, none⟩ (.slice q4 l4 c4) = W6 := ⟨_, rfl⟩
          have hu6 : But R W5.heap.size W5 W6 := by rw [← hW6]; exact But.set 4 _
          have hrow6 : Row W6 R 36 [.int .i64 1, .slice q' ql' qc', .slice (some ⟨g, 0, none⟩) es'.length rc', .slice qa La ca, .slice q4 l4 c4, .bool false] := by rw [← hW6]; exact hrow5.set 4 _
          have hr6 : Row W6 wr.heap.size 85 (rowC l (.slice qa La ca) b) := hu6.row hr5.lt (by omega) hr5
          have hHeld6 : W6.cell? ⟨wr.heap.size, 34, none⟩ = some (.slice qa La ca) := hr6.cell (i := 34) rfl
          rw [hW6]
          refine hK.out _ _ hHeld6 ?_
          clear hK K hHeld hW6 cc3 fz3
          have hHeld := hHeld6
          refine wpAnyH_takesAt 13 2 1 (of_decide_eq_true (by kernel_rfl)) rfl (fun _ _ _ d _ h => by cases d <;> exact h) (by kernel_rfl) (by kernel_rfl) hHeld ?_
          simp only [List.drop_succ_cons, List.drop_zero, List.take_succ_cons, List.take_zero]
          iterate 2 (refine wpHeld_step (v := ?_) (by rfl) (fun wz hSw => ?_) ?_; rotate_left; (focus ((try dsimp only at hSw); go_simp; try with_reducible rfl)); (simp only [Act.put, List.setIfInBounds_toArray, List.set_cons_zero, List.set_cons_succ]))
          refine wpHeld_nil ?_
          refine wpAnyH_only (i := 15) (by kernel_rfl) rfl (fun K hK => ?_)
          rw [if_pos (by rfl)]
          have cc3 := hrow6.cell (i := 5) rfl
          have fz3 := hrow6.frozen 5
          go_simp
          obtain ⟨W7, hW7⟩ : ∃ W7, W6.setCell ⟨R, 5, none⟩ (.bool true) = W7 := ⟨_, rfl⟩
          have hu7 : But R W6.heap.size W6 W7 := by rw [← hW7]; exact But.set 5 _
          have hr7 : Row W7 wr.heap.size 85 (rowC l (.slice qa La ca) b) := hu7.row hr6.lt (by omega) hr6
          have hZ4 : Row W4 w.heap.size 38 noKey := (HZr.out W3 hb3).later hb4
          have hne : w.heap.size ≠ R := by have := hRw; omega
          have hZ7 : Row W7 w.heap.size 38 noKey := by
            have z5 := hu5.row hZ4.lt hne hZ4
            have z6 := hu6.row z5.lt hne z5
            exact hu7.row z6.lt hne z6
          have hRW0 := HS0.out.row.lt
          have hF7 : RFr R W0 W7 := by
            have f3 : RFr R W0 W3 := RFr.of_below (hB.out.trans (hb3.mono hBs)) (by omega)
            have f4 : RFr R W3 W4 := RFr.of_below hb4 (by omega)
            exact (((f3.trans f4).trans (RFr.row hrow4 hu5)).trans (RFr.row hrow5 hu6)).trans (RFr.row hrow6 hu7)
          rw [hW7]
          refine hK.out _ _ (hr7.cell (i := 34) rfl) ?_
          clear hK K hHeld hW7 cc3 fz3
          refine wpAnyH_done (by kernel_rfl) ?_ _
          refine NoPanic.normal ?_
          have HZ7 : Hid (Row W7 w.heap.size 38 noKey) := hZ7
          have HF7 : Hid (RFr R w W7) := HF0.out.trans hF7
          have HCl : Hid (clashR es' L d = 71) := by
            show _ = _
            rw [clashR, if_pos ⟨_, List.mem_of_getElem? HXj.out, hdd, hLL⟩]
          clear hZ7 hF7 hrow3 hrow4 hrow5 hrow6 hr3 hr4 hr5 hr6 hr7 hHeld4 hHeld5 hHeld6 hu5 hu6 hu7 hb4 ho4 hg4 hZ4 hOL c5
          go_wp2_with (first
            | ((with_reducible show wpList _ _ _ (Oper.mk _ (Op.store 38 (.tmp 4) (.tmp 104)) _ _ _ _ :: _) _ _); refine wpList_store_Row rfl 38 (.tmp 4) (.tmp 104) rfl noKey rfl rfl HZ7.out size38 rfl (by decide) ?_; simp only [Act.put]))
          refine bodyPost_ret (results_Row_tmp rfl rfl (Row.sets_all HZ7.out rfl) Tryd.underlying38 size38) rfl ?_
          refine ⟨es', q', ql', qc', some ⟨g, 0, none⟩, rc', HPes.out, ?_, fun h => (by rw [HCl.out] at h; cases h), HF7.out.after (below_setCells (Nat.le_refl _) _ _ (Below.refl _ _)) (by omega)⟩
          rw [HCl.out, show ansV 71 d = List.replicate 32 0 from rfl, noKey_eq]
          rfl
      · rw [decide_eq_false hdd] at hkd
        go_wp2_with (first
          | ((with_reducible show wpList _ _ _ (Oper.mk _ (Op.load 85 (.tmp 65)) _ _ _ _ :: _) _ _); refine wpList_load_mid rfl 85 (.tmp 65) rfl g (j * 36) rfl (rowC l (.slice qa La ca) b) _ HRg.out Tryd.underlying85 rfl size85 ?_; simp only [Act.put, List.setIfInBounds_toArray, List.set_cons_zero, List.set_cons_succ])
          | ((with_reducible show wpList _ _ _ (Oper.mk _ (Op.store 85 (.tmp 12) (.tmp 66)) _ _ _ _ :: _) _ _); refine wpList_store_Row rfl 85 (.tmp 12) (.tmp 66) rfl (rowC l (.slice qa La ca) b) rfl rfl (Row.new wr 85 #[.int .i64 0, .int .u8 0, .int .u8 0, .int .u8 0, .int .u8 0, .int .u8 0, .int .u8 0, .int .u8 0, .int .u8 0, .int .u8 0, .int .u8 0, .int .u8 0, .int .u8 0, .int .u8 0, .int .u8 0, .int .u8 0, .int .u8 0, .int .u8 0, .int .u8 0, .int .u8 0, .int .u8 0, .int .u8 0, .int .u8 0, .int .u8 0, .int .u8 0, .int .u8 0, .int .u8 0, .int .u8 0, .int .u8 0, .int .u8 0, .int .u8 0, .int .u8 0, .int .u8 0, .slice none 0 0, .slice none 0 0, .slice none 0 0]) size85 (by rw [rowC_len]; simp) HONE.out ?_; have hRP := (Row.new wr 85 #[.int .i64 0, .int .u8 0, .int .u8 0, .int .u8 0, .int .u8 0, .int .u8 0, .int .u8 0, .int .u8 0, .int .u8 0, .int .u8 0, .int .u8 0, .int .u8 0, .int .u8 0, .int .u8 0, .int .u8 0, .int .u8 0, .int .u8 0, .int .u8 0, .int .u8 0, .int .u8 0, .int .u8 0, .int .u8 0, .int .u8 0, .int .u8 0, .int .u8 0, .int .u8 0, .int .u8 0, .int .u8 0, .int .u8 0, .int .u8 0, .int .u8 0, .int .u8 0, .int .u8 0, .slice none 0 0, .slice none 0 0, .slice none 0 0]).sets_all (vs := rowC l (.slice qa La ca) b) (by rw [rowC_len]; simp); have hb2 : Below wr.heap.size wr ((wr.alloc (.cells #[.int .i64 0, .int .u8 0, .int .u8 0, .int .u8 0, .int .u8 0, .int .u8 0, .int .u8 0, .int .u8 0, .int .u8 0, .int .u8 0, .int .u8 0, .int .u8 0, .int .u8 0, .int .u8 0, .int .u8 0, .int .u8 0, .int .u8 0, .int .u8 0, .int .u8 0, .int .u8 0, .int .u8 0, .int .u8 0, .int .u8 0, .int .u8 0, .int .u8 0, .int .u8 0, .int .u8 0, .int .u8 0, .int .u8 0, .int .u8 0, .int .u8 0, .int .u8 0, .int .u8 0, .slice none 0 0, .slice none 0 0, .slice none 0 0] 85)).setCells wr.heap.size 0 (rowC l (.slice qa La ca) b)) := below_setCells (Nat.le_refl _) _ _ ((Below.refl _ wr).alloc (Nat.le_refl _) _); generalize (wr.alloc (.cells #[.int .i64 0, .int .u8 0, .int .u8 0, .int .u8 0, .int .u8 0, .int .u8 0, .int .u8 0, .int .u8 0, .int .u8 0, .int .u8 0, .int .u8 0, .int .u8 0, .int .u8 0, .int .u8 0, .int .u8 0, .int .u8 0, .int .u8 0, .int .u8 0, .int .u8 0, .int .u8 0, .int .u8 0, .int .u8 0, .int .u8 0, .int .u8 0, .int .u8 0, .int .u8 0, .int .u8 0, .int .u8 0, .int .u8 0, .int .u8 0, .int .u8 0, .int .u8 0, .int .u8 0, .slice none 0 0, .slice none 0 0, .slice none 0 0] 85)).setCells wr.heap.size 0 (rowC l (.slice qa La ca) b) = W2 at *; have hc0 := hRP.cell (i := 0) rfl; have hc3 := hRP.cell (i := 34) rfl; have hc4 := hRP.cell (i := 35) rfl; have HRP : Hid (Row W2 wr.heap.size 85 (rowC l (.slice qa La ca) b)) := hRP; clear hRP; simp only [Act.put]))
        refine wp_region_noPanic ?_
        refine wp_region_held_drew (S := fun W => Below W2.heap.size W2 W) (by kernel_rfl) (Below.refl _ _).drew (fun hHeld => ?_)
        refine wpAnyH_takesAt 0 12 7 (of_decide_eq_true (by kernel_rfl)) rfl (fun _ _ _ d _ h => by cases d <;> exact h) (by kernel_rfl) (by kernel_rfl) hHeld ?_
        simp only [List.drop_zero, List.take_succ_cons, List.take_zero]
        iterate 12 (refine wpHeld_step (v := ?_) (by rfl) (fun wz hSw => ?_) ?_; rotate_left; (focus ((have hz := HRP.out.later hSw; have hz0 := hz.cell (i := 0) rfl; have hz3 := hz.cell (i := 34) rfl; have hz4 := hz.cell (i := 35) rfl; have hww := hb2.trans (Below.mono hSw hb2.size); obtain ⟨s1, s2, s3, s4⟩ := HSt.out; have g1 := s1 wz hww; have g2 := s2 wz hww; have g3 := s3 wz hww; have g4 := s4 wz hww; clear hSw hz s1 s2 s3 s4 hww); go_simp; try with_reducible rfl)); (simp only [Act.put, List.setIfInBounds_toArray, List.set_cons_zero, List.set_cons_succ]))
        refine wpHeld_nil ?_
        refine wpAnyH_takesAt 12 7 0 (of_decide_eq_true (by kernel_rfl)) rfl (fun _ _ _ d _ h => by cases d <;> exact h) (by kernel_rfl) (by kernel_rfl) hHeld ?_
        simp only [List.drop_succ_cons, List.drop_zero, List.take_succ_cons, List.take_zero]
        iterate 6 (refine wpHeld_skip (by rfl) ?_; (simp only [Act.put]; (try simp only [List.setIfInBounds_toArray]); (try simp only [List.set_cons_succ]); (try simp only [List.set_cons_zero])))
        iterate 1 (refine wpHeld_step (v := ?_) (by rfl) (fun wz hSw => ?_) ?_; rotate_left; (focus (clear hSw; go_simp; try with_reducible rfl)); ((simp only [Act.put]; (try simp only [List.setIfInBounds_toArray]); (try simp only [List.set_cons_succ]); (try simp only [List.set_cons_zero]))))
        refine wpHeld_nil ?_
        refine wpAnyH_done (by kernel_rfl) ?_ _
        refine NoPanic.normal ?_
        have hB2 : Below W0.heap.size W0 W2.drew := (hB.out.trans (hb2.mono hBs)).trans ((Below.refl _ _).drew)
        clear hc0 hc3 hc4 hHeld
        go_wp2
        go_roundw
        case rel =>
          refine ⟨j + 1, by omega, by push_cast; rfl, (fun i hi x hx => ?_), hB2⟩
          by_cases e : i = j
          · subst e; rw [HXj.out] at hx; cases hx; exact fun h => hdd h.1
          · exact hall.out i (by omega) x hx
        case measure => simp only [intOf]; omega
    · have hjz : ¬ (j : Int) < (nn : Int) := by omega
      have HCl : Hid (clashR es' L d = 0) := by
        show _ = _
        rw [clashR, if_neg]
        rintro ⟨x, hm, hc⟩
        obtain ⟨i, hi, e⟩ := List.getElem_of_mem hm
        exact hall.out i (by rw [HN.out] at hi; omega) x (by rw [List.getElem?_eq_getElem hi, e]) hc
      have HZr : Hid (Row wr w.heap.size 38 noKey) := HZ0.out.later hB.out
      have HDr : Hid (Row wr (w.heap.size + 1) 38 (u8s d)) := HD0.out.later hB.out
      have HSr : Hid (RefSt wr R 1 zs' es' q' ql' qc' rq' rc' (.slice none 0 0) (.slice none 0 0)) := HS0.out.later hB.out
      have HFr : Hid (RFr R w wr) := HF0.out.trans (RFr.of_below hB.out (by have := HS0.out.row.lt; omega))
      have HVL : Hid ((u8s d).length = 32) := isKey_len HDk.out
      have HV1 : Hid (∀ v ∈ u8s d, v.oneCell' = true) := u8s_one _
      go_wp2_with (first
        | ((with_reducible show wpList _ _ _ (Oper.mk _ (Op.load 38 (.tmp 6)) _ _ _ _ :: _) _ _); refine wpList_load_Row rfl 38 (.tmp 6) rfl rfl HDr.out Tryd.underlying38 (by rw [HVL.out]; exact size38) ?_; simp only [Act.put, List.setIfInBounds_toArray, List.set_cons_zero, List.set_cons_succ])
        | ((with_reducible show wpList _ _ _ (Oper.mk _ (Op.store 38 (.tmp 4) (.tmp 106)) _ _ _ _ :: _) _ _); refine wpList_store_Row rfl 38 (.tmp 4) (.tmp 106) rfl (u8s d) rfl rfl HZr.out (by rw [HVL.out]; exact size38) (by rw [HVL.out]; rfl) HV1.out ?_; simp only [Act.put]))
      refine bodyPost_ret (results_Row_tmp rfl rfl (Row.sets_all HZr.out (by rw [HVL.out]; rfl)) Tryd.underlying38 (by rw [HVL.out]; exact size38)) rfl ?_
      have hbu : But w.heap.size wr.heap.size wr (wr.setCells w.heap.size 0 (u8s d)) := But.sets _ 0 wr
      have hbe : Below w.heap.size wr (wr.setCells w.heap.size 0 (u8s d)) := below_setCells (Nat.le_refl _) _ _ (Below.refl _ _)
      refine ⟨es', q', ql', qc', rq', rc', HPes.out, ?_, fun _ => HSr.out.keepTs (keepTs_of_but HZr.out hbu) (hbe.mono (by omega)), HFr.out.after hbe (by omega)⟩
      rw [HCl.out]
      rfl

end Go.Proofs.YtbaokodhoiledaaDoor
