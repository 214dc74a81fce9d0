/-
  The reference's ideal.
-/
import Derived.Test.YtkpjbleogjmbjaaDoorRGrow
import Derived.Test.YtkpjbleogjmbjaaDoorGate
namespace Go.Proofs.YtkpjbleogjmbjaaDoor
open Classical
open Go.RowKit Go.Shelf
attribute [local go_sem] Oper.semAt_some

theorem keyOfL (zs : List Nat) (hz : ∀ z ∈ zs, z < 256) (h : 32 ≤ zs.length) : IsKey32 (zs.take 32) := ⟨by simp; omega, fun z hzz => hz z (List.mem_of_mem_take hzz)⟩
theorem own_any_slice {W : World} {n₀ : Nat} {v : Value} {zs : List Nat} (h : Own n₀ W v zs) : ∃ q k c, v = .slice q k c := by obtain ⟨q, c, e⟩ := h.slice; exact ⟨q, _, c, e⟩
theorem IsBytes.other {R : Nat} {W W' : World} {p : Option Addr} {len cap : Nat} {L : List Nat} (h : IsBytes W.heap.size W p len cap L) (hb : But R W.heap.size W W') (hp : ∀ b off, p = some ⟨b, off, none⟩ → b ≠ R) : IsBytes W'.heap.size W' p len cap L := by
  obtain ⟨h1, h2, h3, h4, h5⟩ := h
  refine ⟨h1, h2, h3, h4, ?_⟩
  rcases h5 with e | ⟨b, off, e, hl, hc⟩
  · exact .inl e
  · exact .inr ⟨b, off, e, Nat.lt_of_lt_of_le hl hb.size, fun i hi => (World.cell?_of_block (a := ⟨b, off + i, none⟩) (hb.block b hl (hp b off e))).trans (hc i hi)⟩

set_option maxRecDepth 100000 in
set_option maxHeartbeats 1000000 in
/-- It was asked already. -/
theorem ideal_old (k : List Nat) (hk : IsKey32 k) (pl : Option Addr) (cl : Nat) (R : Nat) (mode : Int) (zs : List Nat) (es : List REnt) (q : Option Addr) (ql qc : Nat) (rq : Option Addr) (rc : Nat) (x3 x4 : Value) (hn : es.length ≤ 1000) (p : Option Addr) (len cap : Nat) (L : List Nat) (w : World) (h : RefSt (u8s k) w R mode zs es q ql qc rq rc x3 x4) (hI : IsBytes w.heap.size w p len cap L) (hPl : IsBytes w.heap.size w pl 1 cl [110]) (hL : ∃ x ∈ es, x.L = L) :
    Calls Tryd.prog 22 #[.pointer (some ⟨R, 0, none⟩), .int .i64 1, .agg (u8s k).toArray, .slice pl 1 cl, .slice p len cap, .int .i64 32] w fun e w' => ∃ x ∈ es, x.L = L ∧ e = .returned (.tuple #[x.b, .int .i64 0]) ∧ Below w.heap.size w w' := by
  have hb0 : Below w.heap.size w (w.alloc (.cells (u8s k).toArray 24)) := (Below.refl _ w).alloc (Nat.le_refl _) _
  have HA : Hid (Calls Tryd.prog 29 #[.pointer (some ⟨R, 0, none⟩), .int .i64 1, .agg (u8s k).toArray, .slice pl 1 cl, .slice p len cap] (w.alloc (.cells (u8s k).toArray 24)) fun e w' => ∃ x ∈ es, x.L = L ∧ e = .returned (.tuple #[x.b, .bool true]) ∧ Below w.heap.size w w') := by
    refine (asked_any k hk R _ _ _ _ _ rq rc es p len cap L pl cl hn _ (h.row.later hb0) (h.rows.later hb0) ((hI.below hb0).mono hb0.size) ((hPl.below hb0).mono hb0.size)).mono ?_
    rintro e w' ⟨h1, h2⟩
    rcases h1 with ⟨x, hx, hxL, rfl⟩ | ⟨h1, _⟩
    · exact ⟨x, hx, hxL, rfl, hb0.trans (h2.mono hb0.size)⟩
    · obtain ⟨x, hx, hxL⟩ := hL
      exact absurd hxL (h1 x hx)
  have HR : Hid (Row (w.alloc (.cells (u8s k).toArray 24)) w.heap.size 24 (u8s k)) := Row.new' w 24 _
  have HSK : Hid ((Tryd.prog.info? 24).map (·.size) = some (u8s k).length) := by show _ = _; rw [u8s_length, hk.1]; exact size24
  clear h hI hL hPl hk
  generalize u8s k = Kz at *
  go_enter Tryd.func22, Tryd.ntmps22
  go_wp2_with (first
    | ((with_reducible show wpList _ _ _ (Oper.mk _ (Op.load 24 (.tmp 8)) _ _ _ _ :: _) _ _); refine wpList_load_mid rfl 24 (.tmp 8) rfl w.heap.size 0 rfl Kz _ HR.out.range Tryd.underlying24 rfl HSK.out ?_; simp only [Act.put, List.setIfInBounds_toArray, List.set_cons_zero, List.set_cons_succ])
    | (go_at_call 29; refine HA.out.mono ?_; rintro e w1 ⟨x, hx, hxL, rfl, hb1⟩))
  refine bodyPost_ret (results_tmp2 rfl _ _ _) rfl ?_
  exact ⟨x, hx, hxL, rfl, hb1⟩

set_option maxRecDepth 100000 in
set_option maxHeartbeats 1000000 in
/-- It was not asked, and can't be drawn. -/
theorem ideal_err (k : List Nat) (hk : IsKey32 k) (pl : Option Addr) (cl : Nat) (R : Nat) (mode : Int) (zs : List Nat) (es : List REnt) (q : Option Addr) (ql qc : Nat) (rq : Option Addr) (rc : Nat) (x3 x4 : Value) (hn : es.length ≤ 1000) (p : Option Addr) (len cap : Nat) (L : List Nat) (w : World) (h : RefSt (u8s k) w R mode zs es q ql qc rq rc x3 x4) (hI : IsBytes w.heap.size w p len cap L) (hPl : IsBytes w.heap.size w pl 1 cl [110]) (hL : ∀ x ∈ es, x.L ≠ L) (h32 : zs.length < 32) :
    Calls Tryd.prog 22 #[.pointer (some ⟨R, 0, none⟩), .int .i64 1, .agg (u8s k).toArray, .slice pl 1 cl, .slice p len cap, .int .i64 32] w fun e w' => e = .returned (.tuple #[.slice none 0 0, .int .i64 60]) ∧ Below w.heap.size w w' := by
  have hb0 : Below w.heap.size w (w.alloc (.cells (u8s k).toArray 24)) := (Below.refl _ w).alloc (Nat.le_refl _) _
  have HA : Hid (Calls Tryd.prog 29 #[.pointer (some ⟨R, 0, none⟩), .int .i64 1, .agg (u8s k).toArray, .slice pl 1 cl, .slice p len cap] (w.alloc (.cells (u8s k).toArray 24)) fun e w' => e = .returned (.tuple #[.slice none 0 0, .bool false]) ∧ Below w.heap.size w w') := by
    refine (asked_any k hk R _ _ _ _ _ rq rc es p len cap L pl cl hn _ (h.row.later hb0) (h.rows.later hb0) ((hI.below hb0).mono hb0.size) ((hPl.below hb0).mono hb0.size)).mono ?_
    rintro e w' ⟨h1, h2⟩
    rcases h1 with ⟨x, hx, hxL, rfl⟩ | ⟨_, rfl⟩
    · exact absurd hxL (hL x hx)
    · exact ⟨rfl, hb0.trans (h2.mono hb0.size)⟩
  have HT : Hid (∀ W, Below w.heap.size w W → Calls Tryd.prog 30 #[.pointer (some ⟨R, 0, none⟩), .int .i64 32] W fun e w' => e = .returned (.tuple #[.slice none 0 0, .int .i64 60]) ∧ w' = W) := fun W hW => refTake_over R ql qc q 32 (by decide) (by have := h.tape.1; omega) W ((h.row.later hW).cell (i := 1) rfl)
  have HR : Hid (Row (w.alloc (.cells (u8s k).toArray 24)) w.heap.size 24 (u8s k)) := Row.new' w 24 _
  have HSK : Hid ((Tryd.prog.info? 24).map (·.size) = some (u8s k).length) := by show _ = _; rw [u8s_length, hk.1]; exact size24
  clear h hI hL hPl hk
  generalize u8s k = Kz at *
  go_enter Tryd.func22, Tryd.ntmps22
  go_wp2_with (first
    | ((with_reducible show wpList _ _ _ (Oper.mk _ (Op.load 24 (.tmp 8)) _ _ _ _ :: _) _ _); refine wpList_load_mid rfl 24 (.tmp 8) rfl w.heap.size 0 rfl Kz _ HR.out.range Tryd.underlying24 rfl HSK.out ?_; simp only [Act.put, List.setIfInBounds_toArray, List.set_cons_zero, List.set_cons_succ])
    | (go_at_call 29; refine HA.out.mono ?_; rintro e w1 ⟨rfl, hb1⟩)
    | (go_at_call 30; refine (HT.out w1 hb1).mono ?_; rintro e w2 ⟨rfl, hw2⟩; obtain rfl : w1 = w2 := hw2.symm; clear hw2))
  refine bodyPost_ret (results_tmp2 rfl _ _ _) rfl ?_
  exact ⟨rfl, hb1⟩

set_option maxRecDepth 100000 in
set_option maxHeartbeats 2000000 in
/-- It was not asked, and is drawn. -/
theorem ideal_new (k : List Nat) (hk : IsKey32 k) (pl : Option Addr) (cl : Nat) (R : Nat) (mode : Int) (zs : List Nat) (hzl : zs.length ≤ 70000) (es : List REnt) (q : Option Addr) (ql qc : Nat) (rq : Option Addr) (rc : Nat) (x3 x4 : Value) (hn : es.length ≤ 1000) (p : Option Addr) (len cap : Nat) (L : List Nat) (hLl : L.length ≤ 60000) (w : World) (h : RefSt (u8s k) w R mode zs es q ql qc rq rc x3 x4) (hI : IsBytes w.heap.size w p len cap L) (hpR : ∀ b off, p = some ⟨b, off, none⟩ → b ≠ R) (hPl : IsBytes w.heap.size w pl 1 cl [110]) (hlR : ∀ b off, pl = some ⟨b, off, none⟩ → b ≠ R) (hL : ∀ x ∈ es, x.L ≠ L) (h32 : 32 ≤ zs.length) :
    Calls Tryd.prog 22 #[.pointer (some ⟨R, 0, none⟩), .int .i64 1, .agg (u8s k).toArray, .slice pl 1 cl, .slice p len cap, .int .i64 32] w fun e w' => ∃ (x : REnt) (q' : Option Addr) (ql' qc' : Nat) (rq' : Option Addr) (rc' : Nat), x.L = L ∧ x.d = zs.take 32 ∧ e = .returned (.tuple #[x.b, .int .i64 0]) ∧ RefSt (u8s k) w' R mode (zs.drop 32) (es ++ [x]) q' ql' qc' rq' rc' x3 x4 ∧ RFr R w w' := by
  have hb0 : Below w.heap.size w (w.alloc (.cells (u8s k).toArray 24)) := (Below.refl _ w).alloc (Nat.le_refl _) _
  have hRl := h.row.lt
  have HA : Hid (Calls Tryd.prog 29 #[.pointer (some ⟨R, 0, none⟩), .int .i64 1, .agg (u8s k).toArray, .slice pl 1 cl, .slice p len cap] (w.alloc (.cells (u8s k).toArray 24)) fun e w' => e = .returned (.tuple #[.slice none 0 0, .bool false]) ∧ Row w' w.heap.size 24 (u8s k) ∧ Below w.heap.size w w') := by
    refine (asked_any k hk R _ _ _ _ _ rq rc es p len cap L pl cl hn _ (h.row.later hb0) (h.rows.later hb0) ((hI.below hb0).mono hb0.size) ((hPl.below hb0).mono hb0.size)).mono ?_
    rintro e w' ⟨h1, h2⟩
    rcases h1 with ⟨x, hx, hxL, rfl⟩ | ⟨_, rfl⟩
    · exact absurd hxL (hL x hx)
    · exact ⟨rfl, Row.later (Row.new' w 24 (u8s k)) h2, hb0.trans (h2.mono hb0.size)⟩
  have hd : IsKey32 (zs.take 32) := keyOfL zs h.tape.2.2.2.1 h32
  have HT : Hid (∀ W, Below w.heap.size w W → Calls Tryd.prog 30 #[.pointer (some ⟨R, 0, none⟩), .int .i64 32] W fun e w' => ∃ q2 c2 q' ql' qc', e = .returned (.tuple #[.slice q2 32 c2, .int .i64 0]) ∧ Own W.heap.size w' (.slice q2 32 c2) (zs.take 32) ∧ (Row w' R 33 [.int .i64 mode, .slice q' ql' qc', .slice rq es.length rc, x3, x4, .bool false] ∧ IsBytes R w' q' ql' qc' (zs.drop 32)) ∧ But R W.heap.size W w') := fun W hW => by
    have hW' := h.later hW
    refine (refTake_some (.int .i64 mode) (.slice rq es.length rc) x3 x4 (.bool false) R R 32 zs h32 hzl W (Nat.le_refl _) ⟨q, ql, qc, hW'.row, hW'.tape⟩).mono ?_
    rintro e w' ⟨v, rfl, h1, ⟨q', ql', qc', h2, h3⟩, h4⟩
    obtain ⟨q2, c2, e2⟩ := h1.slice
    rw [hd.1] at e2
    subst e2
    exact ⟨q2, c2, q', ql', qc', rfl, h1, ⟨h2, h3⟩, h4⟩
  have HE : Hid (∀ W, Below w.heap.size w W → RowsAt (u8s k) R W (.slice rq es.length rc) es) := fun W hW => h.rows.later hW
  have HO : Hid (IsBytes w.heap.size w p len cap L) := hI
  have HPl : Hid (IsBytes w.heap.size w pl 1 cl [110]) := hPl
  have HpR : Hid ((∀ b off, p = some ⟨b, off, none⟩ → b ≠ R) ∧ (∀ b off, pl = some ⟨b, off, none⟩ → b ≠ R)) := ⟨hpR, hlR⟩
  have hK32 : (u8s k).length = 32 := by rw [u8s_length]; exact hk.1
  have HK1 : Hid (∀ v ∈ u8s k, v.oneCell' = true) := u8s_one k
  have HROW : Hid (∀ W, Below w.heap.size w W → Row W R 33 [.int .i64 mode, .slice q ql qc, .slice rq es.length rc, x3, x4, .bool false]) := fun W hW => h.row.later hW
  have HSK : Hid ((Tryd.prog.info? 24).map (·.size) = some (u8s k).length) := by show _ = _; rw [u8s_length, hk.1]; exact size24
  have HLl : Hid (L.length ≤ 60000) := hLl
  have hlen := hI.1
  have HL2 : Hid (∀ z ∈ L, z < 256) := hI.2.2.2.1
  have HD : Hid (IsKey32 (zs.take 32)) := hd
  obtain ⟨i0, hi0, hz0, hz1, hz2⟩ := info_parts info85
  have HK32 : Hid ((u8s k).length = 32) := hK32
  clear h hI hL hd hPl hpR hlR hk hK32
  generalize u8s k = Kz at *
  go_enter Tryd.func22, Tryd.ntmps22
  go_wp2_with (first
    | ((with_reducible show wpList _ _ _ (Oper.mk _ (Op.load 24 (.tmp 8)) _ _ _ _ :: _) _ _); refine wpList_load_mid rfl 24 (.tmp 8) rfl w.heap.size 0 rfl Kz _ (Row.new' w 24 Kz).range Tryd.underlying24 rfl HSK.out ?_; simp only [Act.put, List.setIfInBounds_toArray, List.set_cons_zero, List.set_cons_succ])
    | (go_at_call 29; refine HA.out.mono ?_; rintro e w1 ⟨rfl, hr1, hb1⟩; have HR1 : Hid (Row w1 w.heap.size 24 Kz) := hr1; clear hr1)
    | (go_at_call 30; refine (HT.out w1 hb1).mono ?_; rintro e w2 ⟨q2, c2, q', ql', qc', rfl, ho2, hst2, hb2⟩))
  have hs2 : w1.heap.size ≤ w2.heap.size := hb2.size
  have hsw : w.heap.size < w1.heap.size := HR1.out.lt
  have hR2 : Row w2 w.heap.size 24 Kz := hb2.row hsw (by omega) HR1.out
  have hrow2 := hst2.1
  have hI2 : IsBytes w2.heap.size w2 p len cap L := (HO.out.later hb1).other hb2 HpR.out.1
  have hP2 : IsBytes w2.heap.size w2 pl 1 cl [110] := (HPl.out.later hb1).other hb2 HpR.out.2
  have hOt : Own R w2 (.slice q2 32 c2) (zs.take 32) := ho2.mono (by omega)
  have hrow1 := HROW.out w1 hb1
  have hE2 : RowsAt Kz R w2 (.slice rq es.length rc) es := (HE.out w1 hb1).but hrow1 hb2
  have hHeld : w2.drew.cell? ⟨R, 2, none⟩ = some (.slice rq es.length rc) ∧ w2.drew.rangeAt w.heap.size 0 Kz := ⟨hrow2.drew.cell (i := 2) rfl, hR2.drew.range⟩
  refine wp_region_noPanic ?_
  refine wp_region_gate' 17 (fun W' => W'.cell? ⟨R, 2, none⟩ = some (.slice rq es.length rc) ∧ W'.rangeAt w.heap.size 0 Kz) (by kernel_rfl) ?_
  refine wpAnyG_takesAt 0 6 12 (of_decide_eq_true (by kernel_rfl)) rfl (fun _ _ _ d _ h => by cases d <;> exact h) (by kernel_rfl) (by kernel_rfl) (fun _ => hHeld) ?_
  simp only [List.drop_zero, List.take_succ_cons, List.take_zero]
  iterate 6 (refine wpHeldG_step (v := ?_) (by rfl) (by kernel_rfl) (fun wz hSw => ?_) ?_; rotate_left; (focus ((try dsimp only at hSw); go_simp; try with_reducible rfl)); (simp only [Act.put, List.setIfInBounds_toArray, List.set_cons_zero, List.set_cons_succ]))
  refine wpHeldG_nil ?_
  refine wpAnyG_takesAt 6 1 11 (of_decide_eq_true (by kernel_rfl)) rfl (fun _ _ _ d _ h => by cases d <;> exact h) (by kernel_rfl) (by kernel_rfl) (fun _ => hHeld) ?_
  simp only [List.drop_succ_cons, List.drop_zero, List.take_succ_cons, List.take_zero]
  refine wpHeldG_loadS (by rfl) (by kernel_rfl) 24 (.tmp 8) rfl w.heap.size 0 rfl Kz (fun W hW => hW.2) Tryd.underlying24 rfl HSK.out ?_
  simp only [Act.put, List.setIfInBounds_toArray, List.set_cons_zero, List.set_cons_succ]
  refine wpHeldG_nil ?_
  refine wpAnyG_takesAt 7 1 10 (of_decide_eq_true (by kernel_rfl)) rfl (fun _ _ _ d _ h => by cases d <;> exact h) (by kernel_rfl) (by kernel_rfl) (fun _ => hHeld) ?_
  simp only [List.drop_succ_cons, List.drop_zero, List.take_succ_cons, List.take_zero]
  iterate 1 (refine wpHeldG_step (v := ?_) (by rfl) (by kernel_rfl) (fun wz hSw => ?_) ?_; rotate_left; (focus ((try dsimp only at hSw); go_simp; try with_reducible rfl)); ((simp only [Act.put]; (try simp only [List.setIfInBounds_toArray]); (try simp only [List.set_cons_succ]); (try simp only [List.set_cons_zero]))))
  refine wpHeldG_nil ?_
  refine wpAnyG_takesAt 9 1 9 (of_decide_eq_true (by kernel_rfl)) rfl (fun _ _ _ d _ h => by cases d <;> exact h) (by kernel_rfl) (by kernel_rfl) (fun _ => hHeld) ?_
  simp only [List.drop_succ_cons, List.drop_zero, List.take_succ_cons, List.take_zero]
  iterate 1 (refine wpHeldG_step (v := ?_) (by rfl) (by kernel_rfl) (fun wz hSw => ?_) ?_; rotate_left; (focus ((try dsimp only at hSw); go_simp; try with_reducible rfl)); ((simp only [Act.put]; (try simp only [List.setIfInBounds_toArray]); (try simp only [List.set_cons_succ]); (try simp only [List.set_cons_zero]))))
  refine wpHeldG_nil ?_
  refine wpAnyG_takesAt 11 1 8 (of_decide_eq_true (by kernel_rfl)) rfl (fun _ _ _ d _ h => by cases d <;> exact h) (by kernel_rfl) (by kernel_rfl) (fun _ => hHeld) ?_
  simp only [List.drop_succ_cons, List.drop_zero, List.take_succ_cons, List.take_zero]
  iterate 1 (refine wpHeldG_step (v := ?_) (by rfl) (by kernel_rfl) (fun wz hSw => ?_) ?_; rotate_left; (focus ((try dsimp only at hSw); go_simp; try with_reducible rfl)); ((simp only [Act.put]; (try simp only [List.setIfInBounds_toArray]); (try simp only [List.set_cons_succ]); (try simp only [List.set_cons_zero]))))
  refine wpHeldG_nil ?_
  refine wpAnyG_only (i := 8) (by kernel_rfl) rfl (by rfl) (fun K hK => ?_)
  refine wp_append_bytes (.const (.slice none 0 0)) (.tmp 45) rfl w2.heap.size (.slice none 0 0) [] rfl (Own.nil _ _) (n₀ := w2.heap.size) (ys := [110]) rfl hP2 (by simp) (Nat.le_refl _) (fun v3 w3 ho3 hg3 => ?_)
  obtain ⟨q3, l3, c3, hu3⟩ := own_any_slice ho3
  subst hu3
  have hb3 : Below w2.heap.size w2 w3 := ((Below.refl w2.heap.size w2).drew).grown hg3 (Nat.le_refl _) (fun k e => by cases e)
  have hrow3 := hrow2.later hb3
  have hR3 := hR2.later hb3
  refine hK.out _ _ (fun _ => ⟨hrow3.cell (i := 2) rfl, hR3.range⟩) ?_
  clear hK K hHeld
  change wpAnyG _ _ _ _ _ _ _ _ (Act.put _ (some 46) _) _
  (simp only [Act.put]; (try simp only [List.setIfInBounds_toArray]); (try simp only [List.set_cons_succ]); (try simp only [List.set_cons_zero]))
  refine wpAnyG_only (i := 10) (by kernel_rfl) rfl (by rfl) (fun K hK => ?_)
  refine wp_append_bytes (.const (.slice none 0 0)) (.tmp 47) rfl w3.heap.size (.slice none 0 0) [] rfl (Own.nil _ _) (n₀ := w3.heap.size) (ys := L) rfl (hI2.later hb3) (by have := HLl.out; simp; omega) (Nat.le_refl _) (fun v4 w4 ho4 hg4 => ?_)
  obtain ⟨q4, l4, c4, hu4⟩ := own_any_slice ho4
  subst hu4
  have hb4 : Below w3.heap.size w3 w4 := (Below.refl w3.heap.size w3).grown hg4 (Nat.le_refl _) (fun k e => by cases e)
  have hrow4 := hrow3.later hb4
  have hR4 := hR3.later hb4
  have hHeld : w4.cell? ⟨R, 2, none⟩ = some (.slice rq es.length rc) ∧ w4.rangeAt w.heap.size 0 Kz := ⟨hrow4.cell (i := 2) rfl, hR4.range⟩
  refine hK.out _ _ (fun _ => hHeld) ?_
  clear hK K
  change wpAnyG _ _ _ _ _ _ _ _ (Act.put _ (some 48) _) _
  (simp only [Act.put]; (try simp only [List.setIfInBounds_toArray]); (try simp only [List.set_cons_succ]); (try simp only [List.set_cons_zero]))
  refine wpAnyG_takesAt 12 1 5 (of_decide_eq_true (by kernel_rfl)) rfl (fun _ _ _ d _ h => by cases d <;> exact h) (by kernel_rfl) (by kernel_rfl) (fun _ => hHeld) ?_
  simp only [List.drop_succ_cons, List.drop_zero, List.take_succ_cons, List.take_zero]
  refine wpHeldG_step (v := .agg (rowC Kz (.slice q3 l3 c3) (.slice q4 l4 c4) (.slice q2 32 c2)).toArray) (by rfl) (by kernel_rfl) (fun wz _ => ?_) ?_
  · have hbu := run_build85 Kz HK32.out wz q3 l3 c3 q4 l4 c4 q2 32 c2
    show (execOp _ ⟨_, Op.build 85 _, _, _, _, _⟩).run Tryd.prog wz = _
    unfold execOp
    simp only [List.map_toArray, List.map_cons, List.map_nil, Sem.run_bind]
    erw [hbu]
    rfl
  (simp only [Act.put]; (try simp only [List.setIfInBounds_toArray]); (try simp only [List.set_cons_succ]); (try simp only [List.set_cons_zero]))
  refine wpHeldG_nil ?_
  have hX : (REnt.mk (.slice q3 l3 c3) (.slice q4 l4 c4) (.slice q2 32 c2) L (zs.take 32)).At R w4 := ⟨(ho3.later hb4).mono (by omega), ho4.mono (by have := hb3.size; omega), (hOt.later hb3).later hb4, HL2.out, HD.out⟩
  have hE4 : RowsAt Kz R w4 (.slice rq es.length rc) es := (hE2.later hb3).later hb4
  obtain ⟨X, hXX⟩ : ∃ X, REnt.mk (.slice q3 l3 c3) (.slice q4 l4 c4) (.slice q2 32 c2) L (zs.take 32) = X := ⟨_, rfl⟩
  have hXc : (X.cells Kz) = rowC Kz (.slice q3 l3 c3) (.slice q4 l4 c4) (.slice q2 32 c2) := by rw [← hXX]; rfl
  have hXL : X.L = L := by rw [← hXX]
  have hXd : X.d = zs.take 32 := by rw [← hXX]
  have hXb : X.b = .slice q2 32 c2 := by rw [← hXX]
  rw [hXX] at hX
  clear hXX
  rw [← hXc]
  obtain ⟨q5, c5, w5, hrun, hE5, hk5, hb5⟩ := rows_append HK32.out HK1.out R w4 rq rc es X 31 hX hE4 (by have := hrow4.lt; omega) hn
  have hle : (es ++ [X]).length = es.length + 1 := by simp
  rw [hle] at hrun hE5
  have hb4' : Below w4.heap.size w4 (w4.alloc (.cells (X.cells Kz).toArray 85)) := (Below.refl _ w4).alloc (Nat.le_refl _) _
  refine wpAnyG_only (i := 13) (by kernel_rfl) rfl (by rfl) (fun K hK => ?_)
  refine wp_buildOne 31 85 (.tmp 50) rfl (X.cells Kz) rfl i0 _ Tryd.underlying31 hi0 hz0 (by rw [hz1, hXc, rowC_len HK32.out]) (by rw [hXc, rowC_len HK32.out]; omega) (by rw [hXc, rowC_len HK32.out]; omega) ?_
  refine hK.out _ _ (fun _ => ⟨(hrow4.later hb4').cell (i := 2) rfl, (hR4.later hb4').range⟩) ?_
  clear hK K hHeld
  change wpAnyG _ _ _ _ _ _ _ _ (Act.put _ (some 51) _) _
  (simp only [Act.put]; (try simp only [List.setIfInBounds_toArray]); (try simp only [List.set_cons_succ]); (try simp only [List.set_cons_zero]))
  refine wpAnyG_only (i := 14) (by kernel_rfl) rfl (by rfl) (fun K hK => ?_)
  refine wp_append_of (.tmp 42) (.tmp 51) 31 rfl rfl rfl hrun ?_
  have hrow5 : Row w5 R 33 [.int .i64 mode, .slice q' ql' qc', .slice rq es.length rc, x3, x4, .bool false] := hrow4.below hb5 (by omega)
  have hR5 : Row w5 w.heap.size 24 Kz := hk5 24 (by decide) _ _ _ hR4
  have hHeld : w5.cell? ⟨R, 2, none⟩ = some (.slice rq es.length rc) ∧ w5.rangeAt w.heap.size 0 Kz := ⟨hrow5.cell (i := 2) rfl, hR5.range⟩
  refine hK.out _ _ (fun _ => hHeld) ?_
  clear hK K hrun
  change wpAnyG _ _ _ _ _ _ _ _ (Act.put _ (some 52) _) _
  (simp only [Act.put]; (try simp only [List.setIfInBounds_toArray]); (try simp only [List.set_cons_succ]); (try simp only [List.set_cons_zero]))
  refine wpAnyG_takesAt 15 2 1 (of_decide_eq_true (by kernel_rfl)) rfl (fun _ _ _ d _ h => by cases d <;> exact h) (by kernel_rfl) (by kernel_rfl) (fun _ => hHeld) ?_
  simp only [List.drop_succ_cons, List.drop_zero, List.take_succ_cons, List.take_zero]
  iterate 2 (refine wpHeldG_free (v := ?_) (by rfl) (fun wz => ?_) ?_; rotate_left; (focus (go_simp; try with_reducible rfl)); (simp only [Act.put, List.setIfInBounds_toArray, List.set_cons_zero, List.set_cons_succ]))
  refine wpHeldG_nil ?_
  refine wpAnyG_only (i := 17) (by kernel_rfl) rfl (by rfl) (fun K hK => ?_)
  have c5r := hrow5.cell (i := 2) rfl
  have fz5 := hrow5.frozen 2
  go_simp
  refine hK.out _ _ (gone (by kernel_rfl)) ?_
  clear hK K
  refine wpAnyG_done (by kernel_rfl) ?_ _
  refine NoPanic.normal ?_
  obtain ⟨w6, hw6⟩ : ∃ w6, w5.setCell ⟨R, 2, none⟩ (.slice q5 (es.length + 1) c5) = w6 := ⟨_, rfl⟩
  have hbut : But R w5.heap.size w5 w6 := by rw [← hw6]; exact But.set 2 _
  have hrow6 : Row w6 R 33 [.int .i64 mode, .slice q' ql' qc', .slice q5 (es ++ [X]).length c5, x3, x4, .bool false] := by rw [← hw6, hle]; exact hrow5.set 2 _
  have hE6 : RowsAt Kz R w6 (.slice q5 (es ++ [X]).length c5) (es ++ [X]) := by rw [hle]; exact hE5.but hrow5 hbut
  have hs3 := hb3.size
  have hs4 := hb4.size
  have hs5 := hb5.size
  have hT6 : IsBytes R w6 q' ql' qc' (zs.drop 32) := ((((hst2.2.below (hb3.mono (by omega))).below (hb4.mono (by omega))).below (hb5.mono (by omega))).below (hbut.below (by omega) (Nat.le_refl _)))
  have hF : RFr R w w6 := by
    have f1 : RFr R w w1 := RFr.of_below hb1 (by omega)
    have f2 : RFr R w1 w2 := RFr.row hrow1 hb2
    have f3 : RFr R w2 w3 := RFr.of_below hb3 (by omega)
    have f4 : RFr R w3 w4 := RFr.of_below hb4 (by omega)
    have f5 : RFr R w4 w5 := ⟨hb5.mono (by omega), fun t _ h2 => hk5 t h2⟩
    exact ((((f1.trans f2).trans f3).trans f4).trans f5).trans (RFr.row hrow5 hbut)
  rw [hw6]
  have HFin : Hid (RefSt Kz w6 R mode (zs.drop 32) (es ++ [X]) q' ql' qc' q5 c5 x3 x4 ∧ RFr R w w6) := ⟨⟨hrow6, hT6, hE6⟩, hF⟩
  clear hw6 hbut hrow6 hT6 hE6 hE5 hE4 hX hk5 hb5 hrow5 hR5 hHeld hst2 ho2 hb2 hI2 hP2 hOt hE2 hrow2 hR2 hb3 hb4 hrow3 hrow4 hR3 hR4 ho3 ho4 hg3 hg4 hF
  go_wp2
  refine bodyPost_ret (results_tmp2 rfl _ _ _) rfl ?_
  exact ⟨X, q', ql', qc', q5, c5, hXL, hXd, by rw [hXb]; rfl, HFin.out.1, HFin.out.2⟩

end Go.Proofs.YtkpjbleogjmbjaaDoor
