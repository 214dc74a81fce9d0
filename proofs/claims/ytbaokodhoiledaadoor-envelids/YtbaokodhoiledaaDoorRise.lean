/-
  rising: whether each id is greater than the one ahead of it.
-/
import Derived.Test.YtbaokodhoiledaaDoorNb
namespace Go.Proofs.YtbaokodhoiledaaDoor
open Go.RowKit Go.Shelf
attribute [local go_sem] Oper.semAt_some

/-- So far each is greater. -/
def RiseTo (ids : List (List Nat)) (pre : List Nat) : Prop := ∀ i ∈ pre, ltB (ids.getD i []) (ids.getD (i + 1) []) = true
def Falls (ids : List (List Nat)) (len : Nat) (pre : List Nat) : Prop := ∃ i ∈ pre, i + 1 < len ∧ ltB (ids.getD i []) (ids.getD (i + 1) []) = false
/-- The two that a round holds against each other. -/
def TwoAt (ids : List (List Nat)) (x : Nat) (A B : World) : Prop := Row B A.heap.size 38 (u8s (ids.getD x [])) ∧ Row B (A.heap.size + 1) 38 (u8s (ids.getD (x + 1) []))

theorem NbAt.set {Bl n₀ : Nat} {p : Option Addr} {len cap : Nat} {ids : List (List Nat)} {A : World} (h : NbAt Bl n₀ p len cap ids A) (hB : n₀ ≠ Bl) (v : Value) : NbAt Bl n₀ p len cap ids (A.setCell ⟨n₀, 0, none⟩ v) := by
  refine ⟨?_, h.2.below ((Below.refl n₀ A).setCell (p := ⟨n₀, 0, none⟩) (Nat.le_refl _) v)⟩
  obtain ⟨c, t, fr, h1, h2⟩ := cells_of_cell h.1
  have := (heap_setCell_other A ⟨n₀, 0, none⟩ Bl v (Ne.symm hB)).trans h1
  rw [cell_of_row _ Bl 0 c t fr this]
  exact h2
theorem TwoAt.put {ids : List (List Nat)} {x l : Nat} {A B : World} (o : Obj) (h : TwoAt ids x A B) (hl : l < A.heap.size) : TwoAt ids x A (B.putObj l o) :=
  ⟨(World.putObj_heap_other (by omega)).trans h.1, (World.putObj_heap_other (by omega)).trans h.2⟩

set_option maxRecDepth 100000 in
set_option maxHeartbeats 2000000 in
theorem rising_in (N : Nat) (hN : 3 ≤ N) (p : Option Addr) (len cap : Nat) (ids : List (List Nat)) (hlen : len ≤ 100000) (w : World) (hI : IsIds w.heap.size w p len cap ids) :
    CallsIn Fence.wide N Tryd.prog 30 #[.slice p len cap] w fun e w' => e = .returned (.bool (riseB ids)) ∧ Below w.heap.size w w' := by
  have h1 : 1 ≤ N := by omega
  have hfn : ∀ f, Fence.wide.fn f := fun _ => trivial
  have HI : Hid (IsIds w.heap.size w p len cap ids) := hI
  clear hI
  refine callsIn_of_wp_marks Tryd.func30 rfl trivial ?_ rfl
  simp only [Tryd.ntmps30, List.size_toArray, List.length_cons, List.length_nil, Nat.reduceAdd, Nat.reduceSub, Array.replicate_succ, Array.replicate_zero, List.push_toArray, List.append_toArray, List.nil_append, List.cons_append]
  gi_wp2_with (gi_at_call 43; refine (neighbours_in Fence.wide _ trivial rfl _ _ _ _).mono ?_; rintro e w' ⟨rfl, rfl⟩)
  have rR := (Row.new w 4 #[.bool false]).alloc (.cells #[.slice p len cap] 24)
  have rB := Row.new (w.alloc (.cells #[.bool false] 4)) 24 #[.slice p len cap]
  rw [World.size_alloc] at rB
  have hb0 : Below w.heap.size w ((w.alloc (.cells #[.bool false] 4)).alloc (.cells #[.slice p len cap] 24)) := ((Below.refl _ w).alloc (Nat.le_refl _) _).alloc (by simp) _
  have hs0 : ((w.alloc (.cells #[.bool false] 4)).alloc (.cells #[.slice p len cap] 24)).heap.size = w.heap.size + 2 := by simp
  have hnb : NbAt (w.heap.size + 1) w.heap.size p len cap ids ((w.alloc (.cells #[.bool false] 4)).alloc (.cells #[.slice p len cap] 24)) := ⟨rB.cell (i := 0) rfl, HI.out.below hb0⟩
  clear rB
  generalize (w.alloc (.cells #[.bool false] 4)).alloc (.cells #[.slice p len cap] 24) = w0 at *
  have hBlt : ∀ A, NbAt (w.heap.size + 1) w.heap.size p len cap ids A → w.heap.size + 1 < A.heap.size := fun A h => World.block_lt_of_cell? A _ h.1
  have hI32 := HI.out.2.2.2.1
  have hIl := HI.out.1
  refine wpIn_rangeFunc_vars rfl h1 (gf := 54) (lb := #[.pointer (some ⟨w.heap.size + 1, 0, none⟩)]) rfl trivial (enters_of Tryd.func54 (by kernel_rfl) rfl)
    (encs := nbVal ids) (Ok := fun i _ => i + 1 < len) (Kp := fun A B => NbAt (w.heap.size + 1) w.heap.size p len cap ids A → NbAt (w.heap.size + 1) w.heap.size p len cap ids B) (S := fun xs => xs = List.range (len - 1)) (Sp := fun pre => ∃ k, k + 1 < len ∧ pre = List.range (k + 1)) (N := len)
    (fun W' hs hb => nb_iter (N - 1) (by omega) _ (w.heap.size + 1) w.heap.size p len cap ids hlen W' (hnb.below (N := w0.heap.size) (by omega) (by omega) hb))
    (fun h k x => k (h x)) (fun A o o' ho hc h => h.below (N := w0.heap.size) (by omega) (by omega) (below_putObj A o' (by omega))) (fun hb h => h.later (by have := hBlt _ h; omega) hb) (fun _ => rfl)
    (TwoAt ids) (fun x A B o h hl => h.put o hl)
    (fun pre A => RiseTo ids pre ∧ Row A w.heap.size 4 [.bool false] ∧ Below w.heap.size w A)
    (fun c pre A => c = .ret ∧ Falls ids len pre ∧ Row A w.heap.size 4 [.bool false] ∧ Below w.heap.size w A)
    (Low.and (fun _ _ _ h _ => h) (Low.and (low_row (by omega) _) (low_below w (by omega))))
    (fun c => Low.and (fun _ _ _ h _ => h) (Low.and (fun _ _ _ h _ => h) (Low.and (low_row (by omega) _) (low_below w (by omega)))))
    (fun _ _ _ h _ => h)
    ⟨fun _ h => (by cases h), rR, hb0⟩
    (fun x A => { tmps := #[.slice p len cap, undef, .pointer (some ⟨w.heap.size, 0, none⟩), .pointer (some ⟨A.heap.size, 0, none⟩), .pointer (some ⟨A.heap.size + 1, 0, none⟩), .slice p len cap, .func (.func 54) #[] #[.pointer (some ⟨w.heap.size + 1, 0, none⟩)],
      .agg (u8s (ids.getD x [])).toArray, .agg (u8s (ids.getD (x + 1) [])).toArray, undef, undef, undef, undef], defers := [] }) ?assign ?body ?done ?stop
  case assign =>
    intro li x A K hok hK
    have hx := ids_at hI32 (k := x) (by omega)
    have hy := ids_at hI32 (k := x + 1) (by omega)
    have HXL : Hid ((u8s (ids.getD x [])).length = 32) := by show _ = _; rw [u8s_length]; exact hx.1
    have HX1 : Hid (∀ v ∈ u8s (ids.getD x []), v.oneCell' = true) := u8s_one _
    have HYL : Hid ((u8s (ids.getD (x + 1) [])).length = 32) := by show _ = _; rw [u8s_length]; exact hy.1
    have HY1 : Hid (∀ v ∈ u8s (ids.getD (x + 1) []), v.oneCell' = true) := u8s_one _
    have HK : Hid (∀ W', Below A.heap.size A W' → Row W' A.heap.size 38 (u8s (ids.getD x [])) ∧ Row W' (A.heap.size + 1) 38 (u8s (ids.getD (x + 1) [])) → K _ W') := hK
    unfold nbVal
    clear hK hx hy
    generalize u8s (ids.getD x []) = V at *
    generalize u8s (ids.getD (x + 1) []) = U at *
    gi_wp2_with (first
      | ((with_reducible show wpListIn _ _ _ _ _ (Oper.mk _ (Op.store 38 (.tmp 3) (.tmp 7)) _ _ _ _ :: _) _ _); rw [z32u8]; refine wpListIn_store_Row rfl 38 (.tmp 3) (.tmp 7) rfl V rfl rfl (Row.new' A 38 (List.replicate 32 (Value.int .u8 0))) (by rw [HXL.out]; exact size38) (by rw [HXL.out]; rfl) HX1.out ?_; have hR2 := (Row.new' A 38 (List.replicate 32 (Value.int .u8 0))).sets_all (vs := V) (by rw [HXL.out]; rfl); have hb2 : Below A.heap.size A ((A.alloc (.cells (List.replicate 32 (Value.int .u8 0)).toArray 38)).setCells A.heap.size 0 V) := below_setCells (Nat.le_refl _) _ _ ((Below.refl _ A).alloc (Nat.le_refl _) _); have hs2 : ((A.alloc (.cells (List.replicate 32 (Value.int .u8 0)).toArray 38)).setCells A.heap.size 0 V).heap.size = A.heap.size + 1 := (size_setCells _ _ _).trans (World.size_alloc _ _); generalize (A.alloc (.cells (List.replicate 32 (Value.int .u8 0)).toArray 38)).setCells A.heap.size 0 V = A2 at *; have HR2 : Hid (Row A2 A.heap.size 38 V) := hR2; have HS2 : Hid (A2.heap.size = A.heap.size + 1) := hs2; clear hR2 hs2; simp only [Act.put])
      | ((with_reducible show wpListIn _ _ _ _ _ (Oper.mk _ (Op.store 38 (.tmp 4) (.tmp 8)) _ _ _ _ :: _) _ _); rw [z32u8]; refine wpListIn_store_Row rfl 38 (.tmp 4) (.tmp 8) rfl U rfl rfl (Row.new' A2 38 (List.replicate 32 (Value.int .u8 0))) (by rw [HYL.out]; exact size38) (by rw [HYL.out]; rfl) HY1.out ?_; have hR3 := (Row.new' A2 38 (List.replicate 32 (Value.int .u8 0))).sets_all (vs := U) (by rw [HYL.out]; rfl); have hb3 : Below A2.heap.size A2 ((A2.alloc (.cells (List.replicate 32 (Value.int .u8 0)).toArray 38)).setCells A2.heap.size 0 U) := below_setCells (Nat.le_refl _) _ _ ((Below.refl _ A2).alloc (Nat.le_refl _) _); generalize (A2.alloc (.cells (List.replicate 32 (Value.int .u8 0)).toArray 38)).setCells A2.heap.size 0 U = A3 at *; have HR3 : Hid (Row A3 A2.heap.size 38 U) := hR3; clear hR3; simp only [Act.put]))
    have hs2 := HS2.out
    have := HK.out A3 (hb2.trans (hb3.mono (by omega))) ⟨HR2.out.later hb3, by have := HR3.out; rw [hs2] at this; exact this⟩
    rw [hs2]
    exact this
  case body =>
    rintro li pre x A₀ A ⟨hrise, hrR, hB⟩ hok hN hle ⟨hr1, hr2⟩
    have hx := ids_at hI32 (k := x) (by omega)
    have hy := ids_at hI32 (k := x + 1) (by omega)
    have HXL : Hid ((u8s (ids.getD x [])).length = 32) := by show _ = _; rw [u8s_length]; exact hx.1
    have HYL : Hid ((u8s (ids.getD (x + 1) [])).length = 32) := by show _ = _; rw [u8s_length]; exact hy.1
    have HC : Hid (Calls Tryd.prog 44 #[.agg (u8s (ids.getD x [])).toArray, .agg (u8s (ids.getD (x + 1) [])).toArray] A fun e w' => e = .returned (.int .i64 (cmpB (ids.getD x []) (ids.getD (x + 1) []))) ∧ Below A.heap.size A w') := by
      refine (compare_any _ _ hx hy A).mono ?_
      rintro e w' ⟨rfl, q, rfl⟩
      exact ⟨rfl, below_drewN (((Below.refl _ A).alloc (Nat.le_refl _) _).alloc (by simp) _) q⟩
    have hgeq := cmpB_geq (ids.getD x []) (ids.getD (x + 1) [])
    have HR1 : Hid (Row A A₀.heap.size 38 (u8s (ids.getD x []))) := hr1
    have HR2 : Hid (Row A (A₀.heap.size + 1) 38 (u8s (ids.getD (x + 1) []))) := hr2
    have HRR : Hid (Row A w.heap.size 4 [.bool false]) := hrR
    have HB : Hid (Below w.heap.size w A) := hB
    have HRise : Hid (RiseTo ids pre) := hrise
    have HLT : Hid (∃ r, ltB (ids.getD x []) (ids.getD (x + 1) []) = r) := ⟨_, rfl⟩
    clear hr1 hr2 hx hy hrise hrR hB
    cases hlt : ltB (ids.getD x []) (ids.getD (x + 1) []) with
    | true =>
      have HT : Hid (ltB (ids.getD x []) (ids.getD (x + 1) []) = true) := hlt
      rw [hlt] at hgeq
      have hge : ¬ (0 : Int) ≤ cmpB (ids.getD x []) (ids.getD (x + 1) []) := by simpa using hgeq
      clear hgeq hlt HLT
      generalize cmpB (ids.getD x []) (ids.getD (x + 1) []) = r at *
      generalize u8s (ids.getD x []) = V at *
      generalize u8s (ids.getD (x + 1) []) = U at *
      gi_wp2_with (first
        | ((with_reducible show wpListIn _ _ _ _ _ (Oper.mk _ (Op.load 38 (.tmp 3)) _ _ _ _ :: _) _ _); refine wpListIn_load_Row rfl 38 (.tmp 3) rfl rfl HR1.out Tryd.underlying38 (by rw [HXL.out]; exact size38) ?_; simp only [Act.put, List.setIfInBounds_toArray, List.set_cons_zero, List.set_cons_succ])
        | ((with_reducible show wpListIn _ _ _ _ _ (Oper.mk _ (Op.load 38 (.tmp 4)) _ _ _ _ :: _) _ _); refine wpListIn_load_Row rfl 38 (.tmp 4) rfl rfl HR2.out Tryd.underlying38 (by rw [HYL.out]; exact size38) ?_; simp only [Act.put, List.setIfInBounds_toArray, List.set_cons_zero, List.set_cons_succ]))
      refine ⟨fun _ => by omega, (CallsIn.inRound li (callsIn_wide.2 HC.out)).mono ?_⟩
      rintro e A2 ⟨rfl, hb2⟩
      gi_wp2
      refine ⟨keepsFrom_of_below hb2, fun h => h.later (by have := hBlt _ h; omega) hb2, fun i hi => ?_, HRR.out.later hb2, HB.out.trans (hb2.mono HB.out.size)⟩
      rcases List.mem_append.1 hi with hi | hi
      · exact HRise.out i hi
      · simp at hi; subst hi; exact HT.out
    | false =>
      have HT : Hid (ltB (ids.getD x []) (ids.getD (x + 1) []) = false) := hlt
      rw [hlt] at hgeq
      have hge : (0 : Int) ≤ cmpB (ids.getD x []) (ids.getD (x + 1) []) := by simpa using hgeq
      clear hgeq hlt HLT
      generalize cmpB (ids.getD x []) (ids.getD (x + 1) []) = r at *
      generalize u8s (ids.getD x []) = V at *
      generalize u8s (ids.getD (x + 1) []) = U at *
      gi_wp2_with (first
        | ((with_reducible show wpListIn _ _ _ _ _ (Oper.mk _ (Op.load 38 (.tmp 3)) _ _ _ _ :: _) _ _); refine wpListIn_load_Row rfl 38 (.tmp 3) rfl rfl HR1.out Tryd.underlying38 (by rw [HXL.out]; exact size38) ?_; simp only [Act.put, List.setIfInBounds_toArray, List.set_cons_zero, List.set_cons_succ])
        | ((with_reducible show wpListIn _ _ _ _ _ (Oper.mk _ (Op.load 38 (.tmp 4)) _ _ _ _ :: _) _ _); refine wpListIn_load_Row rfl 38 (.tmp 4) rfl rfl HR2.out Tryd.underlying38 (by rw [HYL.out]; exact size38) ?_; simp only [Act.put, List.setIfInBounds_toArray, List.set_cons_zero, List.set_cons_succ]))
      refine ⟨fun _ => by omega, (CallsIn.inRound li (callsIn_wide.2 HC.out)).mono ?_⟩
      rintro e A2 ⟨rfl, hb2⟩
      have HRR2 : Hid (Row A2 w.heap.size 4 [.bool false]) := HRR.out.later hb2
      have cR := HRR2.out.cell (i := 0) rfl
      have fR := HRR2.out.frozen 0
      gi_wp2
      have hR3 := HRR2.out.set 0 (.bool false)
      refine ⟨KeepsFrom.trans (keepsFrom_of_below hb2) ((KeepsOthers.setCell A2 ⟨w.heap.size, 0, none⟩ (.bool false)).from _), fun h => (h.later (by have := hBlt _ h; omega) hb2).set (by omega) _, rfl, ⟨x, by simp, hok, HT.out⟩, hR3, (HB.out.trans (hb2.mono HB.out.size)).setCell (p := ⟨w.heap.size, 0, none⟩) (Nat.le_refl _) _⟩
  case done =>
    rintro D xs A hD rfl ⟨hrise, hrR, hB⟩ hKD
    have hv : riseB ids = true := riseB_true (fun i hi => hrise i (List.mem_range.2 (by omega)))
    have cR := hrR.cell (i := 0) rfl
    have fR := hrR.frozen 0
    have hR3 := hrR.set 0 (.bool true)
    gi_wp2
    have hKF : (A.setCell ⟨w.heap.size, 0, none⟩ (.bool true)).heap[D]? = some (.deferred (some [])) := by
      rw [heap_setCell_other _ _ _ _ (by simp; omega)]; exact hKD
    refine ⟨by simp, .inl ⟨_, _, rfl, run_takeDeferred hKF, ?_⟩⟩
    refine ⟨_, results_bool rfl rfl ((World.putObj_heap_other (by omega)).trans hR3), rfl, ?_⟩
    exact (hB.setCell (p := ⟨w.heap.size, 0, none⟩) (Nat.le_refl _) _).trans (below_putObj _ _ (by omega))
  case stop =>
    rintro D c pre A hD _ ⟨rfl, ⟨i, hi, hil, hlt⟩, hrR, hB⟩ hKD
    have hv : riseB ids = false := riseB_false (by omega) hlt
    gi_wp2
    refine ⟨by simp, .inl ⟨_, _, rfl, run_takeDeferred hKD, ?_⟩⟩
    refine ⟨_, results_bool rfl rfl ((World.putObj_heap_other (by omega)).trans hrR), rfl, hB.trans (below_putObj _ _ (by omega))⟩

/-- rising -/
theorem rising_any (p : Option Addr) (len cap : Nat) (ids : List (List Nat)) (hlen : len ≤ 100000) (w : World) (hI : IsIds w.heap.size w p len cap ids) :
    Calls Tryd.prog 30 #[.slice p len cap] w fun e w' => e = .returned (.bool (riseB ids)) ∧ Below w.heap.size w w' :=
  callsIn_wide.1 (rising_in 3 (Nat.le_refl _) p len cap ids hlen w hI)
end Go.Proofs.YtbaokodhoiledaaDoor
