/-
  The reference's ideal.
-/
import Derived.Test.YtbaokodhoiledaaDoorRGrow
import Derived.Test.YtbaokodhoiledaaDoorGate
namespace Go.Proofs.YtbaokodhoiledaaDoor
open Classical
open Go.RowKit Go.Shelf
attribute [local go_sem] Oper.semAt_some

set_option maxRecDepth 100000 in
set_option maxHeartbeats 1000000 in
/-- It was asked already. -/
theorem ideal_old (R : Nat) (mode : Int) (zs : List Nat) (es : List REnt) (q : Option Addr) (ql qc : Nat) (rq : Option Addr) (rc : Nat) (x3 x4 : Value) (hn : es.length ≤ 1000) (p : Option Addr) (len cap : Nat) (L : List Nat) (w : World) (h : RefSt w R mode zs es q ql qc rq rc x3 x4) (hI : IsBytes w.heap.size w p len cap L) (hL : ∃ x ∈ es, x.L = L) :
    Calls Tryd.prog 29 #[.pointer (some ⟨R, 0, none⟩), .int .i64 2, .agg noKey.toArray, .slice none 0 0, .slice p len cap, .int .i64 32] w fun e w' => ∃ x ∈ es, x.L = L ∧ e = .returned (.tuple #[x.b, .int .i64 0]) ∧ Below w.heap.size w w' := by
  have hb0 : Below w.heap.size w (w.alloc (.cells noKey.toArray 83)) := (Below.refl _ w).alloc (Nat.le_refl _) _
  have HA : Hid (Calls Tryd.prog 28 #[.pointer (some ⟨R, 0, none⟩), .int .i64 2, .agg noKey.toArray, .slice none 0 0, .slice p len cap] (w.alloc (.cells noKey.toArray 83)) fun e w' => ∃ x ∈ es, x.L = L ∧ e = .returned (.tuple #[x.b, .bool true]) ∧ Below w.heap.size w w') := by
    refine (asked_any R _ _ _ _ _ rq rc es p len cap L hn _ (h.row.later hb0) (h.rows.later hb0) ((hI.below hb0).mono hb0.size)).mono ?_
    rintro e w' ⟨h1, h2⟩
    rcases h1 with ⟨x, hx, hxL, rfl⟩ | ⟨h1, _⟩
    · exact ⟨x, hx, hxL, rfl, hb0.trans (h2.mono hb0.size)⟩
    · obtain ⟨x, hx, hxL⟩ := hL
      exact absurd hxL (h1 x hx)
  have HR : Hid (Row (w.alloc (.cells noKey.toArray 83)) w.heap.size 83 noKey) := Row.new' w 83 _
  have HSK : Hid ((Tryd.prog.info? 83).map (·.size) = some noKey.length) := size83
  clear h hI hL
  generalize noKey = Kz at *
  go_enter Tryd.func29, Tryd.ntmps29
  go_wp2_with (first
    | ((with_reducible show wpList _ _ _ (Oper.mk _ (Op.load 83 (.tmp 8)) _ _ _ _ :: _) _ _); refine wpList_load_mid rfl 83 (.tmp 8) rfl w.heap.size 0 rfl Kz _ HR.out.range Tryd.underlying83 rfl HSK.out ?_; simp only [Act.put, List.setIfInBounds_toArray, List.set_cons_zero, List.set_cons_succ])
    | (go_at_call 28; refine HA.out.mono ?_; rintro e w1 ⟨x, hx, hxL, rfl, hb1⟩))
  refine bodyPost_ret (results_tmp2 rfl _ _ _) rfl ?_
  exact ⟨x, hx, hxL, rfl, hb1⟩

set_option maxRecDepth 100000 in
set_option maxHeartbeats 1000000 in
/-- It was not asked, and can't be drawn. -/
theorem ideal_err (R : Nat) (mode : Int) (zs : List Nat) (es : List REnt) (q : Option Addr) (ql qc : Nat) (rq : Option Addr) (rc : Nat) (x3 x4 : Value) (hn : es.length ≤ 1000) (p : Option Addr) (len cap : Nat) (L : List Nat) (w : World) (h : RefSt w R mode zs es q ql qc rq rc x3 x4) (hI : IsBytes w.heap.size w p len cap L) (hL : ∀ x ∈ es, x.L ≠ L) (h32 : zs.length < 32) :
    Calls Tryd.prog 29 #[.pointer (some ⟨R, 0, none⟩), .int .i64 2, .agg noKey.toArray, .slice none 0 0, .slice p len cap, .int .i64 32] w fun e w' => e = .returned (.tuple #[.slice none 0 0, .int .i64 60]) ∧ Below w.heap.size w w' := by
  have hb0 : Below w.heap.size w (w.alloc (.cells noKey.toArray 83)) := (Below.refl _ w).alloc (Nat.le_refl _) _
  have HA : Hid (Calls Tryd.prog 28 #[.pointer (some ⟨R, 0, none⟩), .int .i64 2, .agg noKey.toArray, .slice none 0 0, .slice p len cap] (w.alloc (.cells noKey.toArray 83)) fun e w' => e = .returned (.tuple #[.slice none 0 0, .bool false]) ∧ Below w.heap.size w w') := by
    refine (asked_any R _ _ _ _ _ rq rc es p len cap L hn _ (h.row.later hb0) (h.rows.later hb0) ((hI.below hb0).mono hb0.size)).mono ?_
    rintro e w' ⟨h1, h2⟩
    rcases h1 with ⟨x, hx, hxL, rfl⟩ | ⟨_, rfl⟩
    · exact absurd hxL (hL x hx)
    · exact ⟨rfl, hb0.trans (h2.mono hb0.size)⟩
  have HT : Hid (∀ W, Below w.heap.size w W → Calls Tryd.prog 42 #[.pointer (some ⟨R, 0, none⟩), .int .i64 32] W fun e w' => e = .returned (.tuple #[.slice none 0 0, .int .i64 60]) ∧ w' = W) := fun W hW => refTake_over R ql qc q 32 (by decide) (by have := h.tape.1; omega) W ((h.row.later hW).cell (i := 1) rfl)
  have HR : Hid (Row (w.alloc (.cells noKey.toArray 83)) w.heap.size 83 noKey) := Row.new' w 83 _
  have HSK : Hid ((Tryd.prog.info? 83).map (·.size) = some noKey.length) := size83
  clear h hI hL
  generalize noKey = Kz at *
  go_enter Tryd.func29, Tryd.ntmps29
  go_wp2_with (first
    | ((with_reducible show wpList _ _ _ (Oper.mk _ (Op.load 83 (.tmp 8)) _ _ _ _ :: _) _ _); refine wpList_load_mid rfl 83 (.tmp 8) rfl w.heap.size 0 rfl Kz _ HR.out.range Tryd.underlying83 rfl HSK.out ?_; simp only [Act.put, List.setIfInBounds_toArray, List.set_cons_zero, List.set_cons_succ])
    | (go_at_call 28; refine HA.out.mono ?_; rintro e w1 ⟨rfl, hb1⟩)
    | (go_at_call 42; refine (HT.out w1 hb1).mono ?_; rintro e w2 ⟨rfl, hw2⟩; obtain rfl : w1 = w2 := hw2.symm; clear hw2))
  refine bodyPost_ret (results_tmp2 rfl _ _ _) rfl ?_
  exact ⟨rfl, hb1⟩

set_option maxRecDepth 100000 in
set_option maxHeartbeats 2000000 in
/-- It was not asked, and is drawn. -/
theorem ideal_new (R : Nat) (mode : Int) (zs : List Nat) (hzl : zs.length ≤ 70000) (es : List REnt) (q : Option Addr) (ql qc : Nat) (rq : Option Addr) (rc : Nat) (x3 x4 : Value) (hn : es.length ≤ 1000) (p : Option Addr) (len cap : Nat) (L : List Nat) (hLl : L.length ≤ 60000) (w : World) (h : RefSt w R mode zs es q ql qc rq rc x3 x4) (hO : Own (R + 1) w (.slice p len cap) L) (hLb : ∀ z ∈ L, z < 256) (hL : ∀ x ∈ es, x.L ≠ L) (h32 : 32 ≤ zs.length) :
    Calls Tryd.prog 29 #[.pointer (some ⟨R, 0, none⟩), .int .i64 2, .agg noKey.toArray, .slice none 0 0, .slice p len cap, .int .i64 32] w fun e w' => ∃ (x : REnt) (q' : Option Addr) (ql' qc' : Nat) (rq' : Option Addr) (rc' : Nat), x.L = L ∧ x.d = zs.take 32 ∧ e = .returned (.tuple #[x.b, .int .i64 0]) ∧ RefSt w' R mode (zs.drop 32) (es ++ [x]) q' ql' qc' rq' rc' x3 x4 ∧ RFr R w w' := by
  have hb0 : Below w.heap.size w (w.alloc (.cells noKey.toArray 83)) := (Below.refl _ w).alloc (Nat.le_refl _) _
  have hRl := h.row.lt
  have hI := hO.bytes hLb
  have HA : Hid (Calls Tryd.prog 28 #[.pointer (some ⟨R, 0, none⟩), .int .i64 2, .agg noKey.toArray, .slice none 0 0, .slice p len cap] (w.alloc (.cells noKey.toArray 83)) fun e w' => e = .returned (.tuple #[.slice none 0 0, .bool false]) ∧ Row w' w.heap.size 83 noKey ∧ Below w.heap.size w w') := by
    refine (asked_any R _ _ _ _ _ rq rc es p len cap L hn _ (h.row.later hb0) (h.rows.later hb0) ((hI.below hb0).mono hb0.size)).mono ?_
    rintro e w' ⟨h1, h2⟩
    rcases h1 with ⟨x, hx, hxL, rfl⟩ | ⟨_, rfl⟩
    · exact absurd hxL (hL x hx)
    · exact ⟨rfl, Row.later (Row.new' w 83 noKey) h2, hb0.trans (h2.mono hb0.size)⟩
  have hd : IsKey32 (zs.take 32) := keyL zs h.tape.2.2.2.1 h32
  have HT : Hid (∀ W, Below w.heap.size w W → Calls Tryd.prog 42 #[.pointer (some ⟨R, 0, none⟩), .int .i64 32] W fun e w' => ∃ q2 c2 q' ql' qc', e = .returned (.tuple #[.slice q2 32 c2, .int .i64 0]) ∧ Own W.heap.size w' (.slice q2 32 c2) (zs.take 32) ∧ (Row w' R 36 [.int .i64 mode, .slice q' ql' qc', .slice rq es.length rc, x3, x4, .bool false] ∧ IsBytes R w' q' ql' qc' (zs.drop 32)) ∧ But R W.heap.size W w') := fun W hW => by
    have hW' := h.later hW
    refine (refTake_some (.int .i64 mode) (.slice rq es.length rc) x3 x4 (.bool false) R R 32 zs h32 hzl W (Nat.le_refl _) ⟨q, ql, qc, hW'.row, hW'.tape⟩).mono ?_
    rintro e w' ⟨v, rfl, h1, ⟨q', ql', qc', h2, h3⟩, h4⟩
    obtain ⟨q2, c2, e2⟩ := h1.slice
    rw [hd.1] at e2
    subst e2
    exact ⟨q2, c2, q', ql', qc', rfl, h1, ⟨h2, h3⟩, h4⟩
  have HE : Hid (∀ W, Below w.heap.size w W → RowsAt R W (.slice rq es.length rc) es) := fun W hW => h.rows.later hW
  have HO : Hid (Own (R + 1) w (.slice p len cap) L) := hO
  have HROW : Hid (∀ W, Below w.heap.size w W → Row W R 36 [.int .i64 mode, .slice q ql qc, .slice rq es.length rc, x3, x4, .bool false]) := fun W hW => h.row.later hW
  have HSK : Hid ((Tryd.prog.info? 83).map (·.size) = some noKey.length) := size83
  have HLl : Hid (L.length ≤ 60000) := hLl
  have hlen := hI.1
  have HL2 : Hid (∀ z ∈ L, z < 256) := hI.2.2.2.1
  have HD : Hid (IsKey32 (zs.take 32)) := hd
  obtain ⟨i0, hi0, hz0, hz1, hz2⟩ := info_parts info85
  clear h hI hL hd hO
  have hkey : noKey.length = 32 := rfl
  go_enter Tryd.func29, Tryd.ntmps29
  go_wp2_with (first
    | ((with_reducible show wpList _ _ _ (Oper.mk _ (Op.load 83 (.tmp 8)) _ _ _ _ :: _) _ _); refine wpList_load_mid rfl 83 (.tmp 8) rfl w.heap.size 0 rfl noKey _ (Row.new' w 83 noKey).range Tryd.underlying83 rfl HSK.out ?_; simp only [Act.put, List.setIfInBounds_toArray, List.set_cons_zero, List.set_cons_succ])
    | (go_at_call 28; refine HA.out.mono ?_; rintro e w1 ⟨rfl, hr1, hb1⟩; have HR1 : Hid (Row w1 w.heap.size 83 noKey) := hr1; clear hr1)
    | (go_at_call 42; refine (HT.out w1 hb1).mono ?_; rintro e w2 ⟨q2, c2, q', ql', qc', rfl, ho2, hst2, hb2⟩))
  have hs2 : w1.heap.size ≤ w2.heap.size := hb2.size
  have hsw : w.heap.size < w1.heap.size := HR1.out.lt
  have hR2 : Row w2 w.heap.size 83 noKey := hb2.row hsw (by omega) HR1.out
  have hrow2 := hst2.1
  have hO2 : Own (R + 1) w2 (.slice p len cap) L := (HO.out.later hb1).but hb2 (by omega)
  have hOt : Own R w2 (.slice q2 32 c2) (zs.take 32) := ho2.mono (by omega)
  have hrow1 := HROW.out w1 hb1
  have hE2 : RowsAt R w2 (.slice rq es.length rc) es := (HE.out w1 hb1).but hrow1 hb2
  have hHeld : w2.drew.cell? ⟨R, 2, none⟩ = some (.slice rq es.length rc) ∧ w2.drew.rangeAt w.heap.size 0 noKey := ⟨hrow2.drew.cell (i := 2) rfl, hR2.drew.range⟩
  refine wp_region_noPanic ?_
  refine wp_region_gate' 17 (fun W' => W'.cell? ⟨R, 2, none⟩ = some (.slice rq es.length rc) ∧ W'.rangeAt w.heap.size 0 noKey) (by kernel_rfl) ?_
  refine wpAnyG_takesAt 0 6 12 (of_decide_eq_true (by kernel_rfl)) rfl (fun _ _ _ d _ h => by cases d <;> exact h) (by kernel_rfl) (by kernel_rfl) (fun _ => hHeld) ?_
  simp only [List.drop_zero, List.take_succ_cons, List.take_zero]
  iterate 6 (refine wpHeldG_step (v := ?_) (by rfl) (by kernel_rfl) (fun wz hSw => ?_) ?_; rotate_left; (focus ((try dsimp only at hSw); go_simp; try with_reducible rfl)); (simp only [Act.put, List.setIfInBounds_toArray, List.set_cons_zero, List.set_cons_succ]))
  refine wpHeldG_nil ?_
  refine wpAnyG_takesAt 6 1 11 (of_decide_eq_true (by kernel_rfl)) rfl (fun _ _ _ d _ h => by cases d <;> exact h) (by kernel_rfl) (by kernel_rfl) (fun _ => hHeld) ?_
  simp only [List.drop_succ_cons, List.drop_zero, List.take_succ_cons, List.take_zero]
  refine wpHeldG_loadS (by rfl) (by kernel_rfl) 83 (.tmp 8) rfl w.heap.size 0 rfl noKey (fun W hW => hW.2) Tryd.underlying83 rfl HSK.out ?_
  simp only [Act.put, List.setIfInBounds_toArray, List.set_cons_zero, List.set_cons_succ]
  refine wpHeldG_nil ?_
  refine wpAnyG_takesAt 7 1 10 (of_decide_eq_true (by kernel_rfl)) rfl (fun _ _ _ d _ h => by cases d <;> exact h) (by kernel_rfl) (by kernel_rfl) (fun _ => hHeld) ?_
  simp only [List.drop_succ_cons, List.drop_zero, List.take_succ_cons, List.take_zero]
  iterate 1 (refine wpHeldG_step (v := ?_) (by rfl) (by kernel_rfl) (fun wz hSw => ?_) ?_; rotate_left; (focus ((try dsimp only at hSw); go_simp; try with_reducible rfl)); ((simp only [Act.put]; (try simp only [List.setIfInBounds_toArray]); (try simp only [List.set_cons_succ]); (try simp only [List.set_cons_zero]))))
  refine wpHeldG_nil ?_
  refine wpAnyG_takesAt 9 1 9 (of_decide_eq_true (by kernel_rfl)) rfl (fun _ _ _ d _ h => by cases d <;> exact h) (by kernel_rfl) (by kernel_rfl) (fun _ => hHeld) ?_
  simp only [List.drop_succ_cons, List.drop_zero, List.take_succ_cons, List.take_zero]
  iterate 1 (refine wpHeldG_step (v := ?_) (by rfl) (by kernel_rfl) (fun wz hSw => ?_) ?_; rotate_left; (focus ((try dsimp only at hSw); go_simp; try with_reducible rfl)); ((simp only [Act.put]; (try simp only [List.setIfInBounds_toArray]); (try simp only [List.set_cons_succ]); (try simp only [List.set_cons_zero]))))
  refine wpHeldG_nil ?_
  refine wpAnyG_takesAt 11 1 8 (of_decide_eq_true (by kernel_rfl)) rfl (fun _ _ _ d _ h => by cases d <;> exact h) (by kernel_rfl) (by kernel_rfl) (fun _ => hHeld) ?_
  simp only [List.drop_succ_cons, List.drop_zero, List.take_succ_cons, List.take_zero]
  iterate 1 (refine wpHeldG_step (v := ?_) (by rfl) (by kernel_rfl) (fun wz hSw => ?_) ?_; rotate_left; (focus ((try dsimp only at hSw); go_simp; try with_reducible rfl)); ((simp only [Act.put]; (try simp only [List.setIfInBounds_toArray]); (try simp only [List.set_cons_succ]); (try simp only [List.set_cons_zero]))))
  refine wpHeldG_nil ?_
  refine wpAnyG_only (i := 8) (by kernel_rfl) rfl (by rfl) (fun K hK => ?_)
  refine wp_append_bytes (.const (.slice none 0 0)) (.tmp 45) rfl w2.heap.size (.slice none 0 0) [] rfl (Own.nil _ _) (n₀ := 0) (ys := []) rfl ⟨rfl, Nat.le_refl _, by omega, by simp, .inl rfl⟩ (by simp) (Nat.le_refl _) (fun v3 w3 ho3 hg3 => ?_)
  obtain ⟨q3, l3, c3, hu3⟩ := own_any_slice ho3
  subst hu3
  have hb3 : Below w2.heap.size w2 w3 := ((Below.refl w2.heap.size w2).drew).grown hg3 (Nat.le_refl _) (fun k e => by cases e)
  have hrow3 := hrow2.later hb3
  have hR3 := hR2.later hb3
  refine hK.out _ _ (fun _ => ⟨hrow3.cell (i := 2) rfl, hR3.range⟩) ?_
  clear hK K hHeld
  change wpAnyG _ _ _ _ _ _ _ _ (Act.put _ (some 46) _) _
  (simp only [Act.put]; (try simp only [List.setIfInBounds_toArray]); (try simp only [List.set_cons_succ]); (try simp only [List.set_cons_zero]))
  refine wpAnyG_only (i := 10) (by kernel_rfl) rfl (by rfl) (fun K hK => ?_)
  refine wp_append_bytes (.const (.slice none 0 0)) (.tmp 47) rfl w3.heap.size (.slice none 0 0) [] rfl (Own.nil _ _) (n₀ := w3.heap.size) (ys := L) rfl ((hO2.later hb3).bytes hLb) (by have := HLl.out; simp; omega) (Nat.le_refl _) (fun v4 w4 ho4 hg4 => ?_)
  obtain ⟨q4, l4, c4, hu4⟩ := own_any_slice ho4
  subst hu4
  have hb4 : Below w3.heap.size w3 w4 := (Below.refl w3.heap.size w3).grown hg4 (Nat.le_refl _) (fun k e => by cases e)
  have hrow4 := hrow3.later hb4
  have hR4 := hR3.later hb4
  have hHeld : w4.cell? ⟨R, 2, none⟩ = some (.slice rq es.length rc) ∧ w4.rangeAt w.heap.size 0 noKey := ⟨hrow4.cell (i := 2) rfl, hR4.range⟩
  refine hK.out _ _ (fun _ => hHeld) ?_
  clear hK K
  change wpAnyG _ _ _ _ _ _ _ _ (Act.put _ (some 48) _) _
  (simp only [Act.put]; (try simp only [List.setIfInBounds_toArray]); (try simp only [List.set_cons_succ]); (try simp only [List.set_cons_zero]))
  refine wpAnyG_takesAt 12 1 5 (of_decide_eq_true (by kernel_rfl)) rfl (fun _ _ _ d _ h => by cases d <;> exact h) (by kernel_rfl) (by kernel_rfl) (fun _ => hHeld) ?_
  simp only [List.drop_succ_cons, List.drop_zero, List.take_succ_cons, List.take_zero]
  refine wpHeldG_step (v := .agg (rowC (.slice q3 l3 c3) (.slice q4 l4 c4) (.slice q2 32 c2)).toArray) (by rfl) (by kernel_rfl) (fun wz _ => ?_) ?_
  · have hbu := run_build85 wz q3 l3 c3 q4 l4 c4 q2 32 c2
    show (execOp _ ⟨_, Op.build 85 _, _, _, _, _⟩).run Tryd.prog wz = _
    unfold execOp
    simp only [List.map_toArray, List.map_cons, List.map_nil, Sem.run_bind]
    erw [hbu]
    rfl
  (simp only [Act.put]; (try simp only [List.setIfInBounds_toArray]); (try simp only [List.set_cons_succ]); (try simp only [List.set_cons_zero]))
  refine wpHeldG_nil ?_
  have hX : (REnt.mk (.slice q3 l3 c3) (.slice q4 l4 c4) (.slice q2 32 c2) L (zs.take 32)).At R w4 := ⟨(ho3.later hb4).mono (by omega), ho4.mono (by have := hb3.size; omega), (hOt.later hb3).later hb4, hLb, HD.out⟩
  have hE4 : RowsAt R w4 (.slice rq es.length rc) es := (hE2.later hb3).later hb4
  obtain ⟨X, hXX⟩ : ∃ X, REnt.mk (.slice q3 l3 c3) (.slice q4 l4 c4) (.slice q2 32 c2) L (zs.take 32) = X := ⟨_, rfl⟩
  have hXc : X.cells = rowC (.slice q3 l3 c3) (.slice q4 l4 c4) (.slice q2 32 c2) := by rw [← hXX]; rfl
  have hXL : X.L = L := by rw [← hXX]
  have hXd : X.d = zs.take 32 := by rw [← hXX]
  have hXb : X.b = .slice q2 32 c2 := by rw [← hXX]
  rw [hXX] at hX
  clear hXX
  rw [← hXc]
  obtain ⟨q5, c5, w5, hrun, hE5, hk5, hb5⟩ := rows_append R w4 rq rc es X 34 hX hE4 (by have := hrow4.lt; omega) hn
  have hle : (es ++ [X]).length = es.length + 1 := by simp
  rw [hle] at hrun hE5
  have hb4' : Below w4.heap.size w4 (w4.alloc (.cells X.cells.toArray 85)) := (Below.refl _ w4).alloc (Nat.le_refl _) _
  refine wpAnyG_only (i := 13) (by kernel_rfl) rfl (by rfl) (fun K hK => ?_)
  refine wp_buildOne 34 85 (.tmp 50) rfl X.cells rfl i0 _ Tryd.underlying34 hi0 hz0 (by rw [hz1, hXc, rowC_len]) (by rw [hXc, rowC_len]; omega) (by rw [hXc, rowC_len]; omega) ?_
  refine hK.out _ _ (fun _ => ⟨(hrow4.later hb4').cell (i := 2) rfl, (hR4.later hb4').range⟩) ?_
  clear hK K hHeld
  change wpAnyG _ _ _ _ _ _ _ _ (Act.put _ (some 51) _) _
  (simp only [Act.put]; (try simp only [List.setIfInBounds_toArray]); (try simp only [List.set_cons_succ]); (try simp only [List.set_cons_zero]))
  refine wpAnyG_only (i := 14) (by kernel_rfl) rfl (by rfl) (fun K hK => ?_)
  refine wp_append_of (.tmp 42) (.tmp 51) 34 rfl rfl rfl hrun ?_
  have hrow5 : Row w5 R 36 [.int .i64 mode, .slice q' ql' qc', .slice rq es.length rc, x3, x4, .bool false] := hrow4.below hb5 (by omega)
  have hR5 : Row w5 w.heap.size 83 noKey := hk5 83 (by decide) _ _ _ hR4
  have hHeld : w5.cell? ⟨R, 2, none⟩ = some (.slice rq es.length rc) ∧ w5.rangeAt w.heap.size 0 noKey := ⟨hrow5.cell (i := 2) rfl, hR5.range⟩
  refine hK.out _ _ (fun _ => hHeld) ?_
  clear hK K hrun
  change wpAnyG _ _ _ _ _ _ _ _ (Act.put _ (some 52) _) _
  (simp only [Act.put]; (try simp only [List.setIfInBounds_toArray]); (try simp only [List.set_cons_succ]); (try simp only [List.set_cons_zero]))
  refine wpAnyG_takesAt 15 2 1 (of_decide_eq_true (by kernel_rfl)) rfl (fun _ _ _ d _ h => by cases d <;> exact h) (by kernel_rfl) (by kernel_rfl) (fun _ => hHeld) ?_
  simp only [List.drop_succ_cons, List.drop_zero, List.take_succ_cons, List.take_zero]
  iterate 2 (refine wpHeldG_free (v := ?_) (by rfl) (fun wz => ?_) ?_; rotate_left; (focus (go_simp; try with_reducible rfl)); (simp only [Act.put, List.setIfInBounds_toArray, List.set_cons_zero, List.set_cons_succ]))
  refine wpHeldG_nil ?_
  refine wpAnyG_only (i := 17) (by kernel_rfl) rfl (by rfl) (fun K hK => ?_)
  have c5r := hrow5.cell (i := 2) rfl
  have fz5 := hrow5.frozen 2
  go_simp
  refine hK.out _ _ (gone (by kernel_rfl)) ?_
  clear hK K
  refine wpAnyG_done (by kernel_rfl) ?_ _
  refine NoPanic.normal ?_
  obtain ⟨w6, hw6⟩ : ∃ w6, w5.setCell ⟨R, 2, none⟩ (.slice q5 (es.length + 1) c5) = w6 := ⟨_, rfl⟩
  have hbut : But R w5.heap.size w5 w6 := by rw [← hw6]; exact But.set 2 _
  have hrow6 : Row w6 R 36 [.int .i64 mode, .slice q' ql' qc', .slice q5 (es ++ [X]).length c5, x3, x4, .bool false] := by rw [← hw6, hle]; exact hrow5.set 2 _
  have hE6 : RowsAt R w6 (.slice q5 (es ++ [X]).length c5) (es ++ [X]) := by rw [hle]; exact hE5.but hrow5 hbut
  have hs3 := hb3.size
  have hs4 := hb4.size
  have hs5 := hb5.size
  have hT6 : IsBytes R w6 q' ql' qc' (zs.drop 32) := ((((hst2.2.below (hb3.mono (by omega))).below (hb4.mono (by omega))).below (hb5.mono (by omega))).below (hbut.below (by omega) (Nat.le_refl _)))
  have hF : RFr R w w6 := by
    have f1 : RFr R w w1 := RFr.of_below hb1 (by omega)
    have f2 : RFr R w1 w2 := RFr.row hrow1 hb2
    have f3 : RFr R w2 w3 := RFr.of_below hb3 (by omega)
    have f4 : RFr R w3 w4 := RFr.of_below hb4 (by omega)
    have f5 : RFr R w4 w5 := ⟨hb5.mono (by omega), fun t _ h2 => hk5 t h2⟩
    exact ((((f1.trans f2).trans f3).trans f4).trans f5).trans (RFr.row hrow5 hbut)
  rw [hw6]
  have HFin : Hid (RefSt w6 R mode (zs.drop 32) (es ++ [X]) q' ql' qc' q5 c5 x3 x4 ∧ RFr R w w6) := ⟨⟨hrow6, hT6, hE6⟩, hF⟩
  clear hw6 hbut hrow6 hT6 hE6 hE5 hE4 hX hk5 hb5 hrow5 hR5 hHeld hst2 ho2 hb2 hO2 hOt hE2 hrow2 hR2 hb3 hb4 hrow3 hrow4 hR3 hR4 ho3 ho4 hg3 hg4 hF
  go_wp2
  refine bodyPost_ret (results_tmp2 rfl _ _ _) rfl ?_
  exact ⟨X, q', ql', qc', q5, c5, hXL, hXd, by rw [hXb]; rfl, HFin.out.1, HFin.out.2⟩

end Go.Proofs.YtbaokodhoiledaaDoor
