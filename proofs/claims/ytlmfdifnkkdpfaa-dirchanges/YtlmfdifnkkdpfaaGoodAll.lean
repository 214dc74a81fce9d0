/-
  Several texts in one: GoodD, RefGD.
-/
import Derived.Test.YtlmfdifnkkdpfaaNmAll
/-
  dir.mayBe, first, rising and Good: whether entries may stand in a directory.
-/
namespace Go.Proofs.Ytlmfdifnkkdpfaa
open Go.RowKit Go.Shelf

def kindB (k : Int) : Bool := k == 1 || (k == 2 || k == 4)
def mayB (e : Ent) : Bool := kindB e.kind && goodL (bytesOf e.name)

theorem doubled_any (p : Option Addr) (len cap : Nat) (es : List Ent) (w : World) (hI : IsEnts w.heap.size w p len cap es) (hlen : len ≤ 100000) (hnm : ∀ e ∈ es, e.name.size ≤ 1000000) :
    Calls Try.prog 39 #[.slice p len cap] w fun e w' => e = .returned (.bool (dupB es)) ∧ Below w.heap.size w w' :=
  callsIn_wide.1 (doubled_in 5 (Nat.le_refl _) p len cap es w hI hlen hnm)

set_option maxRecDepth 100000 in
set_option maxHeartbeats 1000000 in
theorem mayBe_any (x : Ent) (hok : x.ok) (hx : x.name.size ≤ 1000000) (w : World) :
    Calls Try.prog 38 #[.agg (entC x).toArray] w fun e w' => e = .returned (.bool (mayB x)) ∧ Below w.heap.size w w' := by
  have hE := EntAt.new w x hok
  have hcN := hE.name
  have hcK := hE.kind
  have hb : Below w.heap.size w (w.alloc (.cells (entC x).toArray 43)) := (Below.refl _ w).alloc (Nat.le_refl _) _
  have HG := good_any x.name hx
  have hM : Hid (mayB x = (kindB x.kind && goodL (bytesOf x.name))) := rfl
  have HX : Hid x.ok := hok
  clear hE hok
  generalize entC x = V at *
  generalize mayB x = m at *
  generalize goodL (bytesOf x.name) = r at *
  generalize x.name = nm at *
  generalize x.kind = kd at *
  by_cases h1 : kd = 1
  · subst h1
    go_enter Try.func38, Try.ntmps38
    go_wp2_with (go_at_call 68; refine (HG _).mono ?_; rintro e w' ⟨rfl, rfl⟩)
    go_ret
    exact ⟨by rw [hM.out]; rfl, hb⟩
  · by_cases h2 : kd = 2
    · subst h2
      go_enter Try.func38, Try.ntmps38
      go_wp2_with (go_at_call 68; refine (HG _).mono ?_; rintro e w' ⟨rfl, rfl⟩)
      go_ret
      exact ⟨by rw [hM.out]; rfl, hb⟩
    · by_cases h4 : kd = 4
      · subst h4
        go_enter Try.func38, Try.ntmps38
        go_wp2_with (go_at_call 68; refine (HG _).mono ?_; rintro e w' ⟨rfl, rfl⟩)
        go_ret
        exact ⟨by rw [hM.out]; rfl, hb⟩
      · have b1 : (kd == 1) = false := by simpa using h1
        have b2 : (kd == 2) = false := by simpa using h2
        have b4 : (kd == 4) = false := by simpa using h4
        have hk : kindB kd = false := by simp [kindB, b1, b2, b4]
        go_enter Try.func38, Try.ntmps38
        go_wp2_with (go_at_call 68; refine (HG _).mono ?_; rintro e w' ⟨rfl, rfl⟩)
        go_ret
        exact ⟨by rw [hM.out, hk]; rfl, hb⟩

set_option maxRecDepth 100000 in
set_option maxHeartbeats 1000000 in
/-- Good's own function. -/
theorem good1_any (x : Ent) (hok : x.ok) (hx : x.name.size ≤ 1000000) (w : World) :
    Calls Try.prog 37 #[.agg (entC x).toArray] w fun e w' => e = .returned (.bool (!mayB x)) ∧ Below w.heap.size w w' := by
  have hE := EntAt.new w x hok
  have hr := hE.row
  have hb : Below w.heap.size w (w.alloc (.cells (entC x).toArray 43)) := (Below.refl _ w).alloc (Nat.le_refl _) _
  have HM := mayBe_any x hok hx (w.alloc (.cells (entC x).toArray 43))
  have HR : Hid (Row (w.alloc (.cells (entC x).toArray 43)) w.heap.size 43 (entC x)) := hr
  have HS : Hid ((Try.prog.info? 43).map (·.size) = some (entC x).length) := size43' hok
  clear hE hr
  generalize mayB x = m at *
  generalize entC x = V at *
  go_enter Try.func37, Try.ntmps37
  go_wp2_with (first
    | ((with_reducible show wpList _ _ _ (Oper.mk _ (Op.load 43 (.tmp 1)) _ _ _ _ :: _) _ _); refine wpList_load_mid rfl 43 (.tmp 1) rfl _ 0 rfl V _ HR.out.range Try.underlying43 rfl HS.out ?_; simp only [Act.put, List.setIfInBounds_toArray, List.set_cons_zero, List.set_cons_succ])
    | (go_at_call 38; refine HM.mono ?_; rintro e w' ⟨rfl, hb1⟩))
  go_ret
  exact ⟨rfl, hb.trans (hb1.mono hb.size)⟩

/-- The first that is such. -/
def firstN (pr : Ent → Bool) (es : List Ent) : Nat := if es.any pr then es.findIdx pr else 0
theorem first_hit {pr : Ent → Bool} {es : List Ent} {k : Nat} (hk : k < es.length) (h : pr (es.getD k noEnt) = true) (ha : (es.take k).any pr = false) : es.any pr = true ∧ firstN pr es = k := by
  have hg : es.getD k noEnt = es[k] := by rw [List.getD_eq_getElem?_getD, List.getElem?_eq_getElem hk, Option.getD_some]
  rw [hg] at h
  have h1 : es.any pr = true := List.any_eq_true.2 ⟨_, List.getElem_mem hk, h⟩
  refine ⟨h1, ?_⟩
  rw [firstN, if_pos h1]
  refine (List.findIdx_eq hk).2 ⟨h, fun j hj => ?_⟩
  have := List.any_eq_false.1 ha es[j] (by
    rw [List.mem_take_iff_getElem]
    exact ⟨j, by omega, rfl⟩)
  simpa using this

set_option maxRecDepth 100000 in
set_option maxHeartbeats 1000000 in
/-- dir.first -/
theorem first_any (p : Option Addr) (len cap : Nat) (es : List Ent) (w : World) (hI : IsEnts w.heap.size w p len cap es) (g : Nat) (lb : Array Value) (eg : ∀ args w, (callFunc g args).run Try.prog w = .ok (.enter g args) w) (pr : Ent → Bool)
    (hp : ∀ W, Below w.heap.size w W → ∀ x ∈ es, Calls Try.prog g (#[.agg (entC x).toArray] ++ lb) W fun e W' => e = .returned (.bool (pr x)) ∧ Below W.heap.size W W') :
    Calls Try.prog 36 #[.slice p len cap, .func (.func g) #[] lb] w fun e w' => e = .returned (.tuple #[.int .i64 (firstN pr es : Nat), .bool (es.any pr)]) ∧ Below w.heap.size w w' := by
  have HI : Hid (IsEnts w.heap.size w p len cap es) := hI
  have HL : Hid (es.length = len) := hI.1
  have HP : Hid (∀ W, Below w.heap.size w W → ∀ x ∈ es, Calls Try.prog g (#[.agg (entC x).toArray] ++ lb) W fun e W' => e = .returned (.bool (pr x)) ∧ Below W.heap.size W W') := hp
  have hlc := hI.2.1
  have hcc := hI.2.2.1
  clear hI hp
  go_enter Try.func36, Try.ntmps36
  go_wp2
  go_step3
  go_wp2
  go_step3
  go_wp2
  go_loopw [6, 7, 12] (fun a6 a7 i wr => ∃ (k : Nat), k ≤ len ∧ i = .int .i64 k ∧ a6 = .int .i64 0 ∧ a7 = .bool false ∧ (es.take k).any pr = false ∧ Below w.heap.size w wr) (fun _ _ i _ => len - (intOf i).toNat)
  case atStart => exact ⟨0, Nat.zero_le _, rfl, rfl, rfl, rfl, Below.refl _ _⟩
  case round =>
    obtain ⟨k, hk, rfl, rfl, rfl, hany, hbel⟩ := hrel
    have HA : Hid ((es.take k).any pr = false) := hany
    clear hany
    by_cases hlt : k < len
    · have hki : (k : Int) < (len : Int) := by omega
      obtain ⟨b, off, rfl, hb, hrg, hok, hmem⟩ := (HI.out.below hbel).at hlt
      have HT : Hid (es.take (k + 1) = es.take k ++ [es.getD k noEnt]) := ent_take es (by rw [HL.out]; exact hlt)
      have HHit : Hid (pr (es.getD k noEnt) = true → es.any pr = true ∧ firstN pr es = k) := fun h => first_hit (by rw [HL.out]; exact hlt) h HA.out
      have HRg : Hid (wr.rangeAt b (off + k * 100) (entC (es.getD k noEnt))) := hrg
      have HM : Hid (es.getD k noEnt ∈ es) := hmem
      clear hrg hmem
      generalize es.getD k noEnt = x at *
      have hsz := hbel.size
      cases hq : pr x with
      | true =>
        go_wp2_with (first
          | ((with_reducible show wpList _ _ _ (Oper.mk _ (Op.load 43 (.tmp 15)) _ _ _ _ :: _) _ _); refine wpList_loadEnt rfl (.tmp 15) rfl rfl hok HRg.out ?_; simp only [Act.put, List.setIfInBounds_toArray, List.set_cons_zero, List.set_cons_succ])
          | ((with_reducible show wpList _ _ _ (Oper.mk _ (Op.store 43 (.tmp 9) (.tmp 16)) _ _ _ _ :: _) _ _); refine wpList_storeNew rfl (.tmp 9) (.tmp 16) rfl x hok rfl rfl (fun W2 hb2 hE => ?_); have hcN := hE.name; have hcK := hE.kind; have HE : Hid (EntAt _ _ _) := hE; clear hE; simp only [Act.put])
          | ((with_reducible show wpList _ _ _ (Oper.mk _ (Op.load 43 (.tmp 9)) _ _ _ _ :: _) _ _); refine wpList_loadEnt rfl (.tmp 9) rfl rfl hok HE.out.row.range ?_; simp only [Act.put, List.setIfInBounds_toArray, List.set_cons_zero, List.set_cons_succ])
          | (go_at_fn g; refine (HP.out W2 (hbel.trans (hb2.mono hsz)) x HM.out).mono ?_; rintro e w5 ⟨rfl, hb5⟩; rw [hq]))
        obtain ⟨ha, hf⟩ := HHit.out hq
        rw [Exit.noGoto_ret]
        refine bodyPost_ret (results_tmp2 rfl _ _ _) rfl ?_
        refine ⟨?_, (hbel.trans (hb2.mono hsz)).trans (hb5.mono (by have := hb2.size; omega))⟩
        rw [ha, hf]
        rfl
      | false =>
        go_wp2_with (first
          | ((with_reducible show wpList _ _ _ (Oper.mk _ (Op.load 43 (.tmp 15)) _ _ _ _ :: _) _ _); refine wpList_loadEnt rfl (.tmp 15) rfl rfl hok HRg.out ?_; simp only [Act.put, List.setIfInBounds_toArray, List.set_cons_zero, List.set_cons_succ])
          | ((with_reducible show wpList _ _ _ (Oper.mk _ (Op.store 43 (.tmp 9) (.tmp 16)) _ _ _ _ :: _) _ _); refine wpList_storeNew rfl (.tmp 9) (.tmp 16) rfl x hok rfl rfl (fun W2 hb2 hE => ?_); have hcN := hE.name; have hcK := hE.kind; have HE : Hid (EntAt _ _ _) := hE; clear hE; simp only [Act.put])
          | ((with_reducible show wpList _ _ _ (Oper.mk _ (Op.load 43 (.tmp 9)) _ _ _ _ :: _) _ _); refine wpList_loadEnt rfl (.tmp 9) rfl rfl hok HE.out.row.range ?_; simp only [Act.put, List.setIfInBounds_toArray, List.set_cons_zero, List.set_cons_succ])
          | (go_at_fn g; refine (HP.out W2 (hbel.trans (hb2.mono hsz)) x HM.out).mono ?_; rintro e w5 ⟨rfl, hb5⟩; rw [hq]))
        go_roundw
        case rel =>
          refine ⟨k + 1, by omega, by go_num, rfl, rfl, ?_, (hbel.trans (hb2.mono hsz)).trans (hb5.mono (by have := hb2.size; omega))⟩
          rw [HT.out, List.any_append, HA.out, List.any_cons, List.any_nil, hq]
          rfl
        case measure => simp [intOf]; omega
    · obtain rfl : k = len := by omega
      have HE : Hid (es.any pr = false) := by
        show _ = _
        have h := HA.out
        rwa [List.take_of_length_le (by rw [HL.out]; exact Nat.le_refl _)] at h
      go_wp2
      rw [Exit.noGoto_ret]
      refine bodyPost_ret (results_tmp2 rfl _ _ _) rfl ?_
      refine ⟨?_, hbel⟩
      rw [firstN, HE.out]
      rfl

def blindsE (es : List Ent) : List (List Nat) := es.map (·.blind)
theorem blinds_at {es : List Ent} {k : Nat} (hk : k < es.length) : (blindsE es).getD k [] = (es.getD k noEnt).blind := by
  simp [blindsE, List.getElem?_eq_getElem hk]

set_option maxRecDepth 100000 in
set_option maxHeartbeats 1000000 in
/-- dir.compare -/
theorem dcompare_any (x y : List Nat) (hx : IsId x) (hy : IsId y) (w : World) :
    Calls Try.prog 52 #[.agg (u8s x).toArray, .agg (u8s y).toArray] w fun e w' => e = .returned (.int .i64 (cmpB x y)) ∧ ∃ q, w' = ((w.alloc (.cells (u8s x).toArray 39)).alloc (.cells (u8s y).toArray 39)).drewN q := by
  have r1 := (Row.new' w 39 (u8s x)).alloc (.cells (u8s y).toArray 39)
  have r2 := Row.new' (w.alloc (.cells (u8s x).toArray 39)) 39 (u8s y)
  rw [World.size_alloc] at r2
  have HB : Hid (∀ q, Calls Try.prog 76 #[.slice (some ⟨w.heap.size, 0, none⟩) 32 32, .slice (some ⟨w.heap.size + 1, 0, none⟩) 32 32] (((w.alloc (.cells (u8s x).toArray 39)).alloc (.cells (u8s y).toArray 39)).drewN q) fun e w' => e = .returned (.int .i64 (cmpB x y)) ∧ w' = ((w.alloc (.cells (u8s x).toArray 39)).alloc (.cells (u8s y).toArray 39)).drewN q) := fun q =>
    bytesCompare_any _ 0 32 32 _ 0 32 32 x y _ hx.1 hy.1 hx.2 hy.2 (row_cells (r1.drewN q) hx.1) (row_cells (r2.drewN q) hy.1)
  clear r1 r2
  generalize cmpB x y = r at *
  generalize u8s x = X at *
  generalize u8s y = Y at *
  go_enter Try.func52, Try.ntmps52
  go_wp2
  go_quiet ((go_at_call 76; exact Calls.mono (HB.out _) (fun _ _ h => ⟨h.1, _, h.2⟩)))
  go_wp2
  go_ret
  exact ⟨rfl, _, rfl⟩
theorem below_cmp {w w' : World} {X Y : Array Value} {q : Nat} (h : w' = ((w.alloc (.cells X 39)).alloc (.cells Y 39)).drewN q) : Below w.heap.size w w' := by
  subst h
  exact below_drewN (((Below.refl _ w).alloc (Nat.le_refl _) _).alloc (by simp) _) q

set_option maxRecDepth 100000 in
set_option maxHeartbeats 2000000 in
/-- dir.rising -/
theorem drising_any (p : Option Addr) (len cap : Nat) (es : List Ent) (w : World) (hI : IsEnts w.heap.size w p len cap es) :
    Calls Try.prog 35 #[.slice p len cap] w fun e w' => e = .returned (.bool (riseB (blindsE es))) ∧ Below w.heap.size w w' := by
  have HI : Hid (IsEnts w.heap.size w p len cap es) := hI
  have HL : Hid (es.length = len) := hI.1
  have HBl : Hid ((blindsE es).length = len) := by show _ = _; rw [blindsE, List.length_map]; exact hI.1
  have hlc := hI.2.1
  have hcc := hI.2.2.1
  clear hI
  go_enter Try.func35, Try.ntmps35
  go_wp2
  go_loopw [3] (fun i wr => ∃ (k : Nat), 1 ≤ k ∧ (k ≤ len ∨ k = 1) ∧ i = .int .i64 k ∧ (∀ j, j + 1 < k → ltB ((blindsE es).getD j []) ((blindsE es).getD (j + 1) []) = true) ∧ Below w.heap.size w wr) (fun i _ => len - (intOf i).toNat)
  case atStart => exact ⟨1, Nat.le_refl _, .inr rfl, rfl, fun j hj => by omega, Below.refl _ _⟩
  case round =>
    obtain ⟨k, hk1, hk, rfl, hall, hbel⟩ := hrel
    have HA : Hid (∀ j, j + 1 < k → ltB ((blindsE es).getD j []) ((blindsE es).getD (j + 1) []) = true) := hall
    clear hall
    by_cases hlt : k < len
    · have hki : (k : Int) < (len : Int) := by omega
      obtain ⟨b, off, rfl, hb, hrg, hok, hmem⟩ := (HI.out.below hbel).at hlt
      obtain ⟨j, hj⟩ : ∃ j, j + 1 = k := ⟨k - 1, by omega⟩
      obtain ⟨b', off', e', _, hrg', hok', hmem'⟩ := (HI.out.below hbel).at (show j < len by omega)
      cases e'
      have e1 : IntKind.i64.wrap ((k : Int) - 1) = (j : Int) := by rw [IntKind.wrap_i64]; omega
      have hb1 : wr.rangeAt b (off + k * 100) (u8s (es.getD k noEnt).blind) := by have := range_part hrg (entC_blind hok); simpa using this
      have hb1' : wr.rangeAt b (off + j * 100) (u8s (es.getD j noEnt).blind) := by have := range_part hrg' (entC_blind hok'); simpa using this
      have HR1 : Hid (wr.rangeAt b (off + k * 100) (u8s (es.getD k noEnt).blind)) := hb1
      have HR2 : Hid (wr.rangeAt b (off + j * 100) (u8s (es.getD j noEnt).blind)) := hb1'
      have HC := dcompare_any _ _ hok'.1 hok.1
      have HG := cmpB_geq (es.getD j noEnt).blind (es.getD k noEnt).blind
      have HS1 : Hid ((Try.prog.info? 39).map (·.size) = some (u8s (es.getD k noEnt).blind).length) := by show _ = _; rw [u8s_length, hok.1.1]; exact size39
      have HS2 : Hid ((Try.prog.info? 39).map (·.size) = some (u8s (es.getD j noEnt).blind).length) := by show _ = _; rw [u8s_length, hok'.1.1]; exact size39
      have HQ : Hid (ltB ((blindsE es).getD j []) ((blindsE es).getD k []) = ltB (es.getD j noEnt).blind (es.getD k noEnt).blind) := by
        show _ = _
        rw [blinds_at (by rw [HL.out]; omega), blinds_at (by rw [HL.out]; omega)]
      clear hrg hrg' hmem hmem' hb1 hb1' hok hok'
      generalize cmpB (es.getD j noEnt).blind (es.getD k noEnt).blind = cm at *
      generalize ltB (es.getD j noEnt).blind (es.getD k noEnt).blind = lt at *
      generalize u8s (es.getD j noEnt).blind = X at *
      generalize u8s (es.getD k noEnt).blind = Y at *
      have hsz := hbel.size
      have hji : (j : Int) < (len : Int) := by omega
      have HJ : Hid (j + 1 = k) := hj
      clear hj
      go_wp2
      refine wp_region_held_drew (S := fun W => Below wr.heap.size wr W) (by kernel_rfl) (Below.refl _ _).drew (fun hHeld => ?_)
      refine wpAnyH_takesAt 0 5 8 (of_decide_eq_true (by kernel_rfl)) rfl (fun _ _ _ d _ h => by cases d <;> exact h) (by kernel_rfl) (by kernel_rfl) hHeld ?_
      simp only [List.drop_zero, List.take_succ_cons, List.take_zero]
      iterate 5 (refine wpHeld_step (v := ?_) (by rfl) (fun wz hSw => ?_) ?_; rotate_left; (focus ((try dsimp only at hSw); go_simp; try with_reducible rfl)); (simp only [Act.put, List.setIfInBounds_toArray, List.set_cons_zero, List.set_cons_succ]))
      refine wpHeld_nil ?_
      refine wpAnyH_takesAt 5 1 7 (of_decide_eq_true (by kernel_rfl)) rfl (fun _ _ _ d _ h => by cases d <;> exact h) (by kernel_rfl) (by kernel_rfl) hHeld ?_
      simp only [List.drop_succ_cons, List.drop_zero, List.take_succ_cons, List.take_zero]
      refine wpHeld_load (by rfl) 39 (.tmp 14) rfl b (off + j * 100) rfl X (fun W hW => rangeAt_below hW (by omega) HR2.out) Try.underlying39 HS2.out ?_
      (simp only [Act.put]; (try simp only [List.setIfInBounds_toArray]); (try simp only [List.set_cons_succ]); (try simp only [List.set_cons_zero]))
      refine wpHeld_nil ?_
      refine wpAnyH_takesAt 6 4 3 (of_decide_eq_true (by kernel_rfl)) rfl (fun _ _ _ d _ h => by cases d <;> exact h) (by kernel_rfl) (by kernel_rfl) hHeld ?_
      simp only [List.drop_succ_cons, List.drop_zero, List.take_succ_cons, List.take_zero]
      iterate 4 (refine wpHeld_step (v := ?_) (by rfl) (fun wz hSw => ?_) ?_; rotate_left; (focus ((try dsimp only at hSw); go_simp; try with_reducible rfl)); (simp only [Act.put, List.setIfInBounds_toArray, List.set_cons_zero, List.set_cons_succ]))
      refine wpHeld_nil ?_
      refine wpAnyH_takesAt 10 1 2 (of_decide_eq_true (by kernel_rfl)) rfl (fun _ _ _ d _ h => by cases d <;> exact h) (by kernel_rfl) (by kernel_rfl) hHeld ?_
      simp only [List.drop_succ_cons, List.drop_zero, List.take_succ_cons, List.take_zero]
      refine wpHeld_load (by rfl) 39 (.tmp 19) rfl b (off + k * 100) rfl Y (fun W hW => rangeAt_below hW (by omega) HR1.out) Try.underlying39 HS1.out ?_
      (simp only [Act.put]; (try simp only [List.setIfInBounds_toArray]); (try simp only [List.set_cons_succ]); (try simp only [List.set_cons_zero]))
      refine wpHeld_nil ?_
      refine wpAnyH_only (i := 11) (by kernel_rfl) rfl (fun K hK => ?_)
      rw [if_pos (by rfl)]
      go_simp
      refine (HC _).mono ?_
      rintro e w6 ⟨rfl, q6, hw6⟩
      have hb6 : Below wr.heap.size wr w6 := (Below.refl _ wr).drew.trans (below_cmp hw6)
      clear hw6
      refine hK.out _ _ hb6 ?_
      clear hK K
      refine wpAnyH_takesAt 12 1 0 (of_decide_eq_true (by kernel_rfl)) rfl (fun _ _ _ d _ h => by cases d <;> exact h) (by kernel_rfl) (by kernel_rfl) hb6 ?_
      simp only [List.drop_succ_cons, List.drop_zero, List.take_succ_cons, List.take_zero]
      iterate 1 (refine wpHeld_step (v := ?_) (by rfl) (fun wz hSw => ?_) ?_; rotate_left; (focus ((try dsimp only at hSw); go_simp; try with_reducible rfl)); ((simp only [Act.put]; (try simp only [List.setIfInBounds_toArray]); (try simp only [List.set_cons_succ]); (try simp only [List.set_cons_zero]))))
      refine wpHeld_nil ?_
      refine wpAnyH_done (by kernel_rfl) ?_ _
      clear HG
      cases lt with
      | false =>
        go_wp2
        go_ret
        refine ⟨?_, hbel.trans (hb6.mono hsz)⟩
        rw [riseB_false (i := j) (by rw [HBl.out, HJ.out]; exact hlt) (by rw [HJ.out]; exact HQ.out)]
        rfl
      | true =>
        go_wp2
        go_roundw
        case rel =>
          refine ⟨k + 1, by omega, .inl (by omega), by go_num, fun i hi => ?_, hbel.trans (hb6.mono hsz)⟩
          by_cases hij : i = j
          · subst hij; rw [HJ.out]; exact HQ.out
          · exact HA.out i (by have := HJ.out; omega)
        case measure => simp [intOf]; omega
    · have hki : ¬ (k : Int) < (len : Int) := by omega
      have HE : Hid (riseB (blindsE es) = true) := riseB_true (fun i hi => HA.out i (by rw [HBl.out] at hi; omega))
      go_wp2
      go_ret
      exact ⟨by rw [HE.out]; rfl, hbel⟩

def goodE (es : List Ent) : Bool := decide (es.length ≤ 500) && (riseB (blindsE es) && (es.all mayB && !dupB es))

set_option maxRecDepth 100000 in
set_option maxHeartbeats 2000000 in
/-- dir.Good -/
theorem dgood_any (p : Option Addr) (len cap : Nat) (es : List Ent) (w : World) (hI : IsEnts w.heap.size w p len cap es) (hnm : ∀ e ∈ es, e.name.size ≤ 1000000) :
    Calls Try.prog 12 #[.slice p len cap] w fun e w' => e = .returned (.bool (goodE es)) ∧ Below w.heap.size w w' := by
  have HI : Hid (IsEnts w.heap.size w p len cap es) := hI
  have HL : Hid (es.length = len) := hI.1
  have HNm : Hid (∀ e ∈ es, e.name.size ≤ 1000000) := hnm
  have hG : Hid (goodE es = (decide (es.length ≤ 500) && (riseB (blindsE es) && (es.all mayB && !dupB es)))) := rfl
  by_cases h5 : 500 < len
  · have h5i : (500 : Int) < (len : Int) := by omega
    clear hI hnm
    go_enter Try.func12, Try.ntmps12
    go_wp2
    go_ret
    exact ⟨by rw [hG.out, HL.out, decide_eq_false (by omega)]; rfl, Below.refl _ _⟩
  · have h5i : ¬ (500 : Int) < (len : Int) := by omega
    have HR := drising_any p len cap es w hI
    have HF : Hid (∀ W, Below w.heap.size w W → Calls Try.prog 36 #[.slice p len cap, .func (.func 37) #[] #[]] W fun e w' => e = .returned (.tuple #[.int .i64 (firstN (fun x => !mayB x) es : Nat), .bool (es.any fun x => !mayB x)]) ∧ Below W.heap.size W w') := fun W hb =>
      first_any p len cap es W ((hI.below hb).mono hb.size) 37 #[] (enters_of Try.func37 (by kernel_rfl) rfl) (fun x => !mayB x) (fun W' hb' x hx => good1_any x (hI.2.2.2.1 x hx) (hnm x hx) W')
    have HD : Hid (∀ W, Below w.heap.size w W → Calls Try.prog 39 #[.slice p len cap] W fun e w' => e = .returned (.bool (dupB es)) ∧ Below W.heap.size W w') := fun W hb =>
      doubled_any p len cap es W ((hI.below hb).mono hb.size) (by omega) hnm
    have hany : es.all mayB = !(es.any fun x => !mayB x) := List.all_eq_not_any_not
    have HAll : Hid (es.all mayB = !(es.any fun x => !mayB x)) := hany
    clear hI hnm hany
    generalize (es.any fun x => !mayB x) = an at *
    generalize firstN (fun x => !mayB x) es = fi at *
    generalize dupB es = du at *
    generalize hri : riseB (blindsE es) = ri at *
    clear hri
    cases ri with
    | false =>
      go_enter Try.func12, Try.ntmps12
      go_wp2_with (go_at_call 35; refine HR.mono ?_; rintro e w1 ⟨rfl, hb1⟩)
      go_ret
      exact ⟨by rw [hG.out]; simp, hb1⟩
    | true =>
      cases an with
      | true =>
        go_enter Try.func12, Try.ntmps12
        go_wp2_with (first
          | (go_at_call 35; refine HR.mono ?_; rintro e w1 ⟨rfl, hb1⟩)
          | (go_at_call 36; refine (HF.out w1 hb1).mono ?_; rintro e w2 ⟨rfl, hb2⟩))
        go_ret
        exact ⟨by rw [hG.out, HAll.out]; simp, hb1.trans (hb2.mono hb1.size)⟩
      | false =>
        go_enter Try.func12, Try.ntmps12
        go_wp2_with (first
          | (go_at_call 35; refine HR.mono ?_; rintro e w1 ⟨rfl, hb1⟩)
          | (go_at_call 36; refine (HF.out w1 hb1).mono ?_; rintro e w2 ⟨rfl, hb2⟩)
          | (go_at_call 39; refine (HD.out w2 (hb1.trans (hb2.mono hb1.size))).mono ?_; rintro e w3 ⟨rfl, hb3⟩))
        go_ret
        exact ⟨by rw [hG.out, HAll.out, HL.out, decide_eq_true (by omega)]; simp, (hb1.trans (hb2.mono hb1.size)).trans (hb3.mono (by have := hb1.size; have := hb2.size; omega))⟩
end Go.Proofs.Ytlmfdifnkkdpfaa
/-
  The reference's GoodDir: the same as dir.Good.
-/
namespace Go.Proofs.Ytlmfdifnkkdpfaa
open Go.RowKit Go.Shelf

/-- The reference's word of place k. -/
def okAt (es : List Ent) (k : Nat) : Bool := mayB (es.getD k noEnt) && ((k == 0 || ltB (es.getD (k - 1) noEnt).blind (es.getD k noEnt).blind) && (es.take k).all fun y => !(y.name.toList == (es.getD k noEnt).name.toList))
def refGoodE (es : List Ent) : Bool := decide (es.length ≤ 500) && (List.range es.length).all (okAt es)
theorem refGood_false {es : List Ent} {k : Nat} (hk : k < es.length) (h : okAt es k = false) : refGoodE es = false := by
  rw [refGoodE, show (List.range es.length).all (okAt es) = false by rw [List.all_eq_false]; exact ⟨k, List.mem_range.2 hk, by simp [h]⟩, Bool.and_false]
theorem riseB_iff (ids : List (List Nat)) : riseB ids = true ↔ ∀ i, i + 1 < ids.length → ltB (ids.getD i []) (ids.getD (i + 1) []) = true := by
  rw [riseB, List.all_eq_true]
  exact ⟨fun h i hi => h i (List.mem_range.2 (by omega)), fun h i hi => h i (by have := List.mem_range.1 hi; omega)⟩
theorem dupB_iff (es : List Ent) : dupB es = false ↔ ∀ i j, i < j → j < es.length → bytesOf (es.getD i noEnt).name ≠ bytesOf (es.getD j noEnt).name := by
  rw [dupB, decide_eq_false_iff_not, Decidable.not_not, List.Nodup, List.pairwise_iff_getElem]
  have hl : ((namesE es).map bytesOf).length = es.length := by simp [namesE]
  have hg : ∀ i (h : i < ((namesE es).map bytesOf).length), ((namesE es).map bytesOf)[i] = bytesOf (es.getD i noEnt).name := fun i h => by
    have h' : i < es.length := by omega
    simp [namesE, List.getElem?_eq_getElem h']
  constructor
  · intro h i j hij hj
    have := h i j (by omega) (by omega) hij
    rwa [hg, hg] at this
  · intro h i j hi hj hij
    rw [hg, hg]
    exact h i j hij (by omega)
theorem okAt_iff (es : List Ent) (k : Nat) (hk : k < es.length) : okAt es k = true ↔ mayB (es.getD k noEnt) = true ∧ (k = 0 ∨ ltB (es.getD (k - 1) noEnt).blind (es.getD k noEnt).blind = true) ∧ ∀ i, i < k → bytesOf (es.getD i noEnt).name ≠ bytesOf (es.getD k noEnt).name := by
  rw [okAt, Bool.and_eq_true, Bool.and_eq_true, Bool.or_eq_true, beq_iff_eq, List.all_eq_true]
  refine and_congr Iff.rfl (and_congr Iff.rfl ⟨fun h i hi e => ?_, fun h y hy => ?_⟩)
  · have hm : es.getD i noEnt ∈ es.take k := by
      rw [List.mem_take_iff_getElem]
      exact ⟨i, by omega, by simp [List.getElem?_eq_getElem (show i < es.length by omega)]⟩
    have := h _ hm
    rw [text_eq, e] at this
    simp at this
  · rw [List.mem_take_iff_getElem] at hy
    obtain ⟨i, hi, rfl⟩ := hy
    have := h i (by omega)
    rw [text_eq]
    have e : es.getD i noEnt = es[i] := by simp [List.getElem?_eq_getElem (show i < es.length by omega)]
    rw [e] at this
    simpa using this
theorem refGood_eq (es : List Ent) : refGoodE es = goodE es := by
  rw [refGoodE, goodE]
  congr 1
  rw [Bool.eq_iff_iff, Bool.and_eq_true, Bool.and_eq_true, Bool.not_eq_true', List.all_eq_true, riseB_iff, List.all_eq_true, dupB_iff]
  have hl : (blindsE es).length = es.length := by simp [blindsE]
  constructor
  · intro h
    have h' : ∀ k, k < es.length → _ := fun k hk => (okAt_iff es k hk).1 (h k (List.mem_range.2 hk))
    refine ⟨fun i hi => ?_, fun x hx => ?_, fun i j hij hj => (h' j hj).2.2 i hij⟩
    · rw [blinds_at (by omega), blinds_at (by omega)]
      rcases (h' (i + 1) (by omega)).2.1 with h | h
      · omega
      · simpa using h
    · obtain ⟨k, hk, rfl⟩ := List.mem_iff_getElem.1 hx
      have := (h' k hk).1
      simpa [List.getElem?_eq_getElem hk] using this
  · rintro ⟨h1, h2, h3⟩ k hk
    have hk := List.mem_range.1 hk
    refine (okAt_iff es k hk).2 ⟨h2 _ (ent_mem hk), ?_, fun i hi => h3 i k hi hk⟩
    by_cases h0 : k = 0
    · exact .inl h0
    · refine .inr ?_
      have := h1 (k - 1) (by omega)
      rw [blinds_at (by omega), show k - 1 + 1 = k by omega, blinds_at hk] at this
      exact this

/-- Whether two texts are alike, as the model asks. -/
theorem kind3 (k : Int) : ((k != 1) && ((k != 2) && (k != 4))) = !kindB k := by
  simp only [kindB, bne]
  cases (k == 1) <;> cases (k == 2) <;> cases (k == 4) <;> rfl

set_option maxRecDepth 100000 in
set_option maxHeartbeats 4000000 in
theorem refGoodDir_any (p : Option Addr) (len cap : Nat) (es : List Ent) (w : World) (hI : IsEnts w.heap.size w p len cap es) (hnm : ∀ e ∈ es, e.name.size ≤ 1000000) :
    Calls Try.prog 13 #[.slice p len cap] w fun e w' => e = .returned (.bool (refGoodE es)) ∧ Below w.heap.size w w' := by
  have HI : Hid (IsEnts w.heap.size w p len cap es) := hI
  have HL : Hid (es.length = len) := hI.1
  have HNm : Hid (∀ e ∈ es, e.name.size ≤ 1000000) := hnm
  have hlc := hI.2.1
  have hcc := hI.2.2.1
  by_cases h5 : 500 < len
  · have h5i : (500 : Int) < (len : Int) := by omega
    clear hI hnm
    go_enter Try.func13, Try.ntmps13
    go_wp2
    go_ret
    exact ⟨by rw [refGoodE, HL.out, decide_eq_false (by omega)]; rfl, Below.refl _ _⟩
  · have h5i : ¬ (500 : Int) < (len : Int) := by omega
    clear hI hnm
    go_enter Try.func13, Try.ntmps13
    go_wp2
    go_loopw [12] (fun i wr => ∃ (k : Nat), k ≤ len ∧ i = .int .i64 k ∧ (∀ j, j < k → okAt es j = true) ∧ Below w.heap.size w wr) (fun i _ => len - (intOf i).toNat)
    case atStart => exact ⟨0, Nat.zero_le _, rfl, fun j hj => by omega, Below.refl _ _⟩
    case round =>
      obtain ⟨k, hk, rfl, hall, hbel⟩ := hrel
      have HA : Hid (∀ j, j < k → okAt es j = true) := hall
      clear hall
      by_cases hlt : k < len
      · have hki : (k : Int) < (len : Int) := by omega
        obtain ⟨b, off, rfl, hb, hrg, hok, hmem⟩ := (HI.out.below hbel).at hlt
        have HRg : Hid (wr.rangeAt b (off + k * 100) (entC (es.getD k noEnt))) := hrg
        have HX : Hid ((es.getD k noEnt).name.size ≤ 1000000) := HNm.out _ hmem
        have HF : Hid (okAt es k = false → refGoodE es = false) := fun h => refGood_false (by rw [HL.out]; exact hlt) h
        have HO : Hid (okAt es k = (mayB (es.getD k noEnt) && ((k == 0 || ltB (es.getD (k - 1) noEnt).blind (es.getD k noEnt).blind) && (es.take k).all fun y => !(y.name.toList == (es.getD k noEnt).name.toList)))) := rfl
        clear hrg hmem
        obtain ⟨x, hx⟩ : ∃ x, es.getD k noEnt = x := ⟨_, rfl⟩
        rw [hx] at HRg hok HX HO
        have HXk : Hid (es.getD k noEnt = x) := hx
        clear hx
        have hsz := hbel.size
        have HG := refGood_any x.name HX.out
        have hmy : Hid (mayB x = (kindB x.kind && goodL (bytesOf x.name))) := rfl
        have hk3 := kind3 x.kind
        cases hg : goodL (bytesOf x.name) with
        | false =>
          go_wp2_with (first
            | ((with_reducible show wpList _ _ _ (Oper.mk _ (Op.load 43 (.tmp 15)) _ _ _ _ :: _) _ _); refine wpList_loadEnt rfl (.tmp 15) rfl rfl hok HRg.out ?_; simp only [Act.put, List.setIfInBounds_toArray, List.set_cons_zero, List.set_cons_succ])
            | ((with_reducible show wpList _ _ _ (Oper.mk _ (Op.store 43 (.tmp 4) (.tmp 16)) _ _ _ _ :: _) _ _); refine wpList_storeNew rfl (.tmp 4) (.tmp 16) rfl x hok rfl rfl (fun W2 hb2 hE => ?_); have hcN := hE.name; have hcK := hE.kind; have HE : Hid (EntAt _ _ _) := hE; clear hE; simp only [Act.put])
            | (go_at_call 29; refine (HG _).mono ?_; rintro e w3 ⟨rfl, hw3⟩; obtain rfl : W2 = w3 := hw3.symm; clear hw3; rw [hg]))
          go_ret
          refine ⟨?_, hbel.trans (hb2.mono hsz)⟩
          rw [HF.out (by rw [HO.out, hmy.out, hg]; simp)]
          rfl
        | true =>
          by_cases hkd : kindB x.kind = true
          case neg =>
            have hkf : kindB x.kind = false := by simpa using hkd
            have n1 : (x.kind != 1) = true := by simp [kindB] at hkf; simpa using hkf.1
            have n2 : (x.kind != 2) = true := by simp [kindB] at hkf; simpa using hkf.2.1
            have n4 : (x.kind != 4) = true := by simp [kindB] at hkf; simpa using hkf.2.2
            have HR : Hid (refGoodE es = false) := HF.out (by rw [HO.out, hmy.out, hkf]; simp)
            clear hkd hkf hk3
            go_wp2_with (first
              | ((with_reducible show wpList _ _ _ (Oper.mk _ (Op.load 43 (.tmp 15)) _ _ _ _ :: _) _ _); refine wpList_loadEnt rfl (.tmp 15) rfl rfl hok HRg.out ?_; simp only [Act.put, List.setIfInBounds_toArray, List.set_cons_zero, List.set_cons_succ])
              | ((with_reducible show wpList _ _ _ (Oper.mk _ (Op.store 43 (.tmp 4) (.tmp 16)) _ _ _ _ :: _) _ _); refine wpList_storeNew rfl (.tmp 4) (.tmp 16) rfl x hok rfl rfl (fun W2 hb2 hE => ?_); have hcN := hE.name; have hcK := hE.kind; have HE : Hid (EntAt _ _ _) := hE; clear hE; simp only [Act.put])
              | (go_at_call 29; refine (HG _).mono ?_; rintro e w3 ⟨rfl, hw3⟩; obtain rfl : W2 = w3 := hw3.symm; clear hw3; rw [hg]))
            go_ret
            refine ⟨?_, hbel.trans (hb2.mono hsz)⟩
            rw [HR.out]
            rfl
          case pos =>
            have HO2 : Hid (okAt es k = ((k == 0 || ltB (es.getD (k - 1) noEnt).blind x.blind) && (es.take k).all fun y => !(y.name.toList == x.name.toList))) := by show _ = _; rw [HO.out, hmy.out, hkd, hg]; rfl
            have hcs : x.kind = 1 ∨ x.kind = 2 ∨ x.kind = 4 := by
              simp [kindB] at hkd; exact hkd
            clear hk3 hmy HO hkd
            obtain ⟨wo, hwo⟩ : ∃ wo, wo = wr := ⟨_, rfl⟩
            rcases hcs with hkd | hkd | hkd
            all_goals
              go_wp2_with (first
                | ((with_reducible show wpList _ _ _ (Oper.mk _ (Op.load 43 (.tmp 15)) _ _ _ _ :: _) _ _); refine wpList_loadEnt rfl (.tmp 15) rfl rfl hok HRg.out ?_; simp only [Act.put, List.setIfInBounds_toArray, List.set_cons_zero, List.set_cons_succ])
                | ((with_reducible show wpList _ _ _ (Oper.mk _ (Op.store 43 (.tmp 4) (.tmp 16)) _ _ _ _ :: _) _ _); refine wpList_storeNew rfl (.tmp 4) (.tmp 16) rfl x hok rfl rfl (fun W2 hb2 hE => ?_); have hcN := hE.name; have hcK := hE.kind; have HE : Hid (EntAt _ _ _) := hE; clear hE; simp only [Act.put])
                | (go_at_call 29; refine (HG _).mono ?_; rintro e w3 ⟨rfl, hw3⟩; obtain rfl : W2 = w3 := hw3.symm; clear hw3; rw [hg]))
              have hbW : Below w.heap.size w W2 := hbel.trans (hb2.mono hsz)
              have hgW : wr.heap.size < W2.heap.size := HE.out.row.lt
              obtain ⟨Gx, hGx⟩ : ∃ Gx, Gx = wr.heap.size := ⟨_, rfl⟩
              have HGx : Hid (Gx = wr.heap.size) := hGx
              clear hwo hGx
              by_cases hk0 : k = 0
              · have hkp : ¬ (0 : Int) < (k : Int) := by omega
                have HLt : Hid ((k == 0 || ltB (es.getD (k - 1) noEnt).blind x.blind) = true) := by show _ = _; rw [hk0]; rfl
                have hdk : decide (0 < k) = false := decide_eq_false (by omega)
                clear hk0
                go_quiet (fail)
                clear hdk
                obtain ⟨W3, hW3⟩ : ∃ W3, W2.drewN nq = W3 := ⟨_, rfl⟩
                have hb3 : Below W2.heap.size W2 W3 := by rw [← hW3]; exact below_drewN (Below.refl _ _) _
                have hbW3 : Below w.heap.size w W3 := hbW.trans (hb3.mono hbW.size)
                have hs3 := hbW3.size
                have HE3 : Hid (EntAt W3 Gx x) := by rw [HGx.out]; exact HE.out.later hb3
                rw [hW3, ← HGx.out]
                clear hW3 hb3 hbW hgW HE HGx hcN hcK hb2 hbel hsz hkp
                have hkc : (k : Int) ≤ (cap : Int) := by omega
                go_wp2
                go_loopw [54] (fun i wq => ∃ (j : Nat), j ≤ k ∧ i = .int .i64 j ∧ ((es.take j).all fun y => !(y.name.toList == x.name.toList)) = true ∧ Below W3.heap.size W3 wq) (fun i _ => k - (intOf i).toNat)
                case atStart => exact ⟨0, Nat.zero_le _, rfl, rfl, Below.refl _ _⟩
                case round =>
                  obtain ⟨j, hj, rfl, hallj, hbq⟩ := hrel
                  have HAj : Hid (((es.take j).all fun y => !(y.name.toList == x.name.toList)) = true) := hallj
                  clear hallj
                  have hbelq : Below w.heap.size w wr := hbW3.trans (hbq.mono hs3)
                  have hszw := hbelq.size
                  by_cases hltj : j < k
                  · have hkij : (j : Int) < (k : Int) := by omega
                    obtain ⟨by', offy, e', _, hry, hoky, hmy⟩ := (HI.out.below hbelq).at (show j < len by omega)
                    cases e'
                    have HTj : Hid (es.take (j + 1) = es.take j ++ [es.getD j noEnt]) := ent_take es (by rw [HL.out]; omega)
                    have HMem : Hid (es.getD j noEnt ∈ es.take k) := by
                      show _ ∈ _
                      rw [List.mem_take_iff_getElem]
                      exact ⟨j, by rw [HL.out]; omega, by simp [List.getElem?_eq_getElem (show j < es.length by rw [HL.out]; omega)]⟩
                    have HRy : Hid (wr.rangeAt b (off + j * 100) (entC (es.getD j noEnt))) := hry
                    have HX3 : Hid (EntAt wr Gx x) := HE3.out.later hbq
                    clear hry hmy
                    generalize es.getD j noEnt = y at *
                    cases hq : (y.name.toList == x.name.toList) with
                    | true =>
                      go_wp2_with (first
                        | ((with_reducible show wpList _ _ _ (Oper.mk _ (Op.load 43 (.tmp 56)) _ _ _ _ :: _) _ _); refine wpList_loadEnt rfl (.tmp 56) rfl rfl hoky HRy.out ?_; simp only [Act.put, List.setIfInBounds_toArray, List.set_cons_zero, List.set_cons_succ])
                        | ((with_reducible show wpList _ _ _ (Oper.mk _ (Op.store 43 (.tmp 6) (.tmp 57)) _ _ _ _ :: _) _ _); refine wpList_storeNew rfl (.tmp 6) (.tmp 57) rfl y hoky rfl rfl (fun W5 hb5 hEy => ?_); have hcNy := hEy.name; have hcX := (HX3.out.later hb5).name; have HEy : Hid (EntAt _ _ _) := hEy; clear hEy; simp only [Act.put])
                        )
                      go_ret
                      refine ⟨?_, hbelq.trans (hb5.mono hszw)⟩
                      rw [HF.out (by
                        rw [HO2.out, Bool.and_eq_false_iff]
                        refine .inr ?_
                        rw [List.all_eq_false]
                        exact ⟨y, HMem.out, by rw [hq]; simp⟩)]
                      rfl
                    | false =>
                      go_wp2_with (first
                        | ((with_reducible show wpList _ _ _ (Oper.mk _ (Op.load 43 (.tmp 56)) _ _ _ _ :: _) _ _); refine wpList_loadEnt rfl (.tmp 56) rfl rfl hoky HRy.out ?_; simp only [Act.put, List.setIfInBounds_toArray, List.set_cons_zero, List.set_cons_succ])
                        | ((with_reducible show wpList _ _ _ (Oper.mk _ (Op.store 43 (.tmp 6) (.tmp 57)) _ _ _ _ :: _) _ _); refine wpList_storeNew rfl (.tmp 6) (.tmp 57) rfl y hoky rfl rfl (fun W5 hb5 hEy => ?_); have hcNy := hEy.name; have hcX := (HX3.out.later hb5).name; have HEy : Hid (EntAt _ _ _) := hEy; clear hEy; simp only [Act.put])
                        )
                      go_roundw
                      case rel =>
                        refine ⟨j + 1, by omega, by go_num, ?_, hbq.trans (hb5.mono hbq.size)⟩
                        rw [HTj.out, List.all_append, HAj.out, List.all_cons, List.all_nil, hq]
                        rfl
                      case measure => simp [intOf]; omega
                  · obtain rfl : j = k := by omega
                    have HOk : Hid (okAt es j = true) := by show _ = _; rw [HO2.out, HLt.out, HAj.out]; rfl
                    go_wp2
                    go_roundw
                    case rel =>
                      refine ⟨j + 1, by omega, by go_num, fun i hi => ?_, hbelq⟩
                      by_cases hij : i = j
                      · subst hij; exact HOk.out
                      · exact HA.out i (by omega)
                    case measure => simp [intOf]; omega
              · have hkp : (0 : Int) < (k : Int) := by omega
                have hdk : decide (0 < k) = true := decide_eq_true (by omega)
                obtain ⟨j, hj⟩ : ∃ j, j + 1 = k := ⟨k - 1, by omega⟩
                obtain ⟨b', off', e', _, hrg', hok', _⟩ := (HI.out.below hbW).at (show j < len by omega)
                cases e'
                have e1 : IntKind.i64.wrap ((k : Int) - 1) = (j : Int) := by rw [IntKind.wrap_i64]; omega
                have hji : (j : Int) < (len : Int) := by omega
                have hb1' : W2.rangeAt b (off + j * 100) (u8s (es.getD j noEnt).blind) := by have := range_part hrg' (entC_blind hok'); simpa using this
                have HR2 : Hid (W2.rangeAt b (off + j * 100) (u8s (es.getD j noEnt).blind)) := hb1'
                have HR1 : Hid (W2.rangeAt wr.heap.size 0 (u8s x.blind)) := HE.out.blind
                have HC := less_any _ _ hok'.1 hok.1
                have HS1 : Hid ((Try.prog.info? 39).map (·.size) = some (u8s x.blind).length) := by show _ = _; rw [u8s_length, hok.1.1]; exact size39
                have HS2 : Hid ((Try.prog.info? 39).map (·.size) = some (u8s (es.getD j noEnt).blind).length) := by show _ = _; rw [u8s_length, hok'.1.1]; exact size39
                have HJ : Hid ((k == 0 || ltB (es.getD (k - 1) noEnt).blind x.blind) = ltB (es.getD j noEnt).blind x.blind) := by
                  show _ = _
                  rw [show k - 1 = j by omega, show (k == 0) = false by simpa using hk0, Bool.false_or]
                clear hrg' hb1' hok' hj hk0
                generalize ltB (es.getD j noEnt).blind x.blind = lt at *
                generalize u8s (es.getD j noEnt).blind = X at *
                generalize u8s x.blind = Y at *
                refine wp_region_held_drew (S := fun W => Below W2.heap.size W2 W) (by kernel_rfl) (Below.refl _ _).drew (fun hHeld => ?_)
                refine wpAnyH_takesAt 0 3 11 (of_decide_eq_true (by kernel_rfl)) rfl (fun _ _ _ d _ h => by cases d <;> exact h) (by kernel_rfl) (by kernel_rfl) hHeld ?_
                simp only [List.drop_zero, List.take_succ_cons, List.take_zero]
                iterate 3 (refine wpHeld_step (v := ?_) (by rfl) (fun wz hSw => ?_) ?_; rotate_left; (focus ((try dsimp only at hSw); go_simp; try with_reducible rfl)); (simp only [Act.put, List.setIfInBounds_toArray, List.set_cons_zero, List.set_cons_succ]))
                refine wpHeld_nil ?_
                refine wpAnyH_takesAt 3 5 6 (of_decide_eq_true (by kernel_rfl)) rfl (fun _ _ _ d _ h => by cases d <;> exact h) (by kernel_rfl) (by kernel_rfl) hHeld ?_
                simp only [List.drop_succ_cons, List.drop_zero, List.take_succ_cons, List.take_zero]
                iterate 5 (refine wpHeld_step (v := ?_) (by rfl) (fun wz hSw => ?_) ?_; rotate_left; (focus ((try dsimp only at hSw); go_simp; try with_reducible rfl)); (simp only [Act.put, List.setIfInBounds_toArray, List.set_cons_zero, List.set_cons_succ]))
                refine wpHeld_nil ?_
                refine wpAnyH_takesAt 8 1 5 (of_decide_eq_true (by kernel_rfl)) rfl (fun _ _ _ d _ h => by cases d <;> exact h) (by kernel_rfl) (by kernel_rfl) hHeld ?_
                simp only [List.drop_succ_cons, List.drop_zero, List.take_succ_cons, List.take_zero]
                refine wpHeld_load (by rfl) 39 (.tmp 43) rfl b (off + j * 100) rfl X (fun W hW => rangeAt_below hW (by omega) HR2.out) Try.underlying39 HS2.out ?_
                (simp only [Act.put]; (try simp only [List.setIfInBounds_toArray]); (try simp only [List.set_cons_succ]); (try simp only [List.set_cons_zero]))
                refine wpHeld_nil ?_
                refine wpAnyH_takesAt 9 1 4 (of_decide_eq_true (by kernel_rfl)) rfl (fun _ _ _ d _ h => by cases d <;> exact h) (by kernel_rfl) (by kernel_rfl) hHeld ?_
                simp only [List.drop_succ_cons, List.drop_zero, List.take_succ_cons, List.take_zero]
                iterate 1 (refine wpHeld_step (v := ?_) (by rfl) (fun wz hSw => ?_) ?_; rotate_left; (focus ((try dsimp only at hSw); go_simp; try with_reducible rfl)); ((simp only [Act.put]; (try simp only [List.setIfInBounds_toArray]); (try simp only [List.set_cons_succ]); (try simp only [List.set_cons_zero]))))
                refine wpHeld_nil ?_
                refine wpAnyH_takesAt 10 1 3 (of_decide_eq_true (by kernel_rfl)) rfl (fun _ _ _ d _ h => by cases d <;> exact h) (by kernel_rfl) (by kernel_rfl) hHeld ?_
                simp only [List.drop_succ_cons, List.drop_zero, List.take_succ_cons, List.take_zero]
                refine wpHeld_load (by rfl) 39 (.tmp 45) rfl wr.heap.size (0) rfl Y (fun W hW => rangeAt_below hW hgW HR1.out) Try.underlying39 HS1.out ?_
                (simp only [Act.put]; (try simp only [List.setIfInBounds_toArray]); (try simp only [List.set_cons_succ]); (try simp only [List.set_cons_zero]))
                refine wpHeld_nil ?_
                refine wpAnyH_only (i := 11) (by kernel_rfl) rfl (fun K hK => ?_)
                rw [if_pos (by rfl)]
                go_simp
                refine (HC _).mono ?_
                rintro e w6 ⟨rfl, q6, hw6⟩
                have hb6 : Below W2.heap.size W2 w6 := (Below.refl _ W2).drew.trans (below_cmp hw6)
                clear hw6
                refine hK.out _ _ hb6 ?_
                clear hK K
                refine wpAnyH_takesAt 12 2 0 (of_decide_eq_true (by kernel_rfl)) rfl (fun _ _ _ d _ h => by cases d <;> exact h) (by kernel_rfl) (by kernel_rfl) hb6 ?_
                simp only [List.drop_succ_cons, List.drop_zero, List.take_succ_cons, List.take_zero]
                iterate 2 (refine wpHeld_step (v := ?_) (by rfl) (fun wz hSw => ?_) ?_; rotate_left; (focus ((try dsimp only at hSw); go_simp; try with_reducible rfl)); (simp only [Act.put, List.setIfInBounds_toArray, List.set_cons_zero, List.set_cons_succ]))
                refine wpHeld_nil ?_
                refine wpAnyH_done (by kernel_rfl) ?_ _
                have hbW3 : Below w.heap.size w w6 := hbW.trans (hb6.mono hbW.size)
                have hs3 := hbW3.size
                have HE3 : Hid (EntAt w6 Gx x) := by rw [HGx.out]; exact HE.out.later hb6
                obtain ⟨W3, hW3⟩ : ∃ W3, w6 = W3 := ⟨_, rfl⟩
                subst hW3
                rw [← HGx.out]
                clear hbW hgW HE HGx hcN hcK hb2 hbel hsz hkp hdk hb6 HC HR1 HR2 HS1 HS2 e1 hji hHeld
                cases lt with
                | false =>
                  go_wp2
                  go_ret
                  refine ⟨?_, hbW3⟩
                  rw [HF.out (by rw [HO2.out, HJ.out]; rfl)]
                  rfl
                | true =>
                  have HLt : Hid ((k == 0 || ltB (es.getD (k - 1) noEnt).blind x.blind) = true) := HJ.out
                  clear HJ
                  have hkc : (k : Int) ≤ (cap : Int) := by omega
                  go_wp2
                  go_loopw [54] (fun i wq => ∃ (j : Nat), j ≤ k ∧ i = .int .i64 j ∧ ((es.take j).all fun y => !(y.name.toList == x.name.toList)) = true ∧ Below w6.heap.size w6 wq) (fun i _ => k - (intOf i).toNat)
                  case atStart => exact ⟨0, Nat.zero_le _, rfl, rfl, Below.refl _ _⟩
                  case round =>
                    obtain ⟨j, hj, rfl, hallj, hbq⟩ := hrel
                    have HAj : Hid (((es.take j).all fun y => !(y.name.toList == x.name.toList)) = true) := hallj
                    clear hallj
                    have hbelq : Below w.heap.size w wr := hbW3.trans (hbq.mono hs3)
                    have hszw := hbelq.size
                    by_cases hltj : j < k
                    · have hkij : (j : Int) < (k : Int) := by omega
                      obtain ⟨by', offy, e', _, hry, hoky, hmy⟩ := (HI.out.below hbelq).at (show j < len by omega)
                      cases e'
                      have HTj : Hid (es.take (j + 1) = es.take j ++ [es.getD j noEnt]) := ent_take es (by rw [HL.out]; omega)
                      have HMem : Hid (es.getD j noEnt ∈ es.take k) := by
                        show _ ∈ _
                        rw [List.mem_take_iff_getElem]
                        exact ⟨j, by rw [HL.out]; omega, by simp [List.getElem?_eq_getElem (show j < es.length by rw [HL.out]; omega)]⟩
                      have HRy : Hid (wr.rangeAt b (off + j * 100) (entC (es.getD j noEnt))) := hry
                      have HX3 : Hid (EntAt wr Gx x) := HE3.out.later hbq
                      clear hry hmy
                      generalize es.getD j noEnt = y at *
                      cases hq : (y.name.toList == x.name.toList) with
                      | true =>
                        go_wp2_with (first
                          | ((with_reducible show wpList _ _ _ (Oper.mk _ (Op.load 43 (.tmp 56)) _ _ _ _ :: _) _ _); refine wpList_loadEnt rfl (.tmp 56) rfl rfl hoky HRy.out ?_; simp only [Act.put, List.setIfInBounds_toArray, List.set_cons_zero, List.set_cons_succ])
                          | ((with_reducible show wpList _ _ _ (Oper.mk _ (Op.store 43 (.tmp 6) (.tmp 57)) _ _ _ _ :: _) _ _); refine wpList_storeNew rfl (.tmp 6) (.tmp 57) rfl y hoky rfl rfl (fun W5 hb5 hEy => ?_); have hcNy := hEy.name; have hcX := (HX3.out.later hb5).name; have HEy : Hid (EntAt _ _ _) := hEy; clear hEy; simp only [Act.put])
                          )
                        go_ret
                        refine ⟨?_, hbelq.trans (hb5.mono hszw)⟩
                        rw [HF.out (by
                          rw [HO2.out, Bool.and_eq_false_iff]
                          refine .inr ?_
                          rw [List.all_eq_false]
                          exact ⟨y, HMem.out, by rw [hq]; simp⟩)]
                        rfl
                      | false =>
                        go_wp2_with (first
                          | ((with_reducible show wpList _ _ _ (Oper.mk _ (Op.load 43 (.tmp 56)) _ _ _ _ :: _) _ _); refine wpList_loadEnt rfl (.tmp 56) rfl rfl hoky HRy.out ?_; simp only [Act.put, List.setIfInBounds_toArray, List.set_cons_zero, List.set_cons_succ])
                          | ((with_reducible show wpList _ _ _ (Oper.mk _ (Op.store 43 (.tmp 6) (.tmp 57)) _ _ _ _ :: _) _ _); refine wpList_storeNew rfl (.tmp 6) (.tmp 57) rfl y hoky rfl rfl (fun W5 hb5 hEy => ?_); have hcNy := hEy.name; have hcX := (HX3.out.later hb5).name; have HEy : Hid (EntAt _ _ _) := hEy; clear hEy; simp only [Act.put])
                          )
                        go_roundw
                        case rel =>
                          refine ⟨j + 1, by omega, by go_num, ?_, hbq.trans (hb5.mono hbq.size)⟩
                          rw [HTj.out, List.all_append, HAj.out, List.all_cons, List.all_nil, hq]
                          rfl
                        case measure => simp [intOf]; omega
                    · obtain rfl : j = k := by omega
                      have HOk : Hid (okAt es j = true) := by show _ = _; rw [HO2.out, HLt.out, HAj.out]; rfl
                      go_wp2
                      go_roundw
                      case rel =>
                        refine ⟨j + 1, by omega, by go_num, fun i hi => ?_, hbelq⟩
                        by_cases hij : i = j
                        · subst hij; exact HOk.out
                        · exact HA.out i (by omega)
                      case measure => simp [intOf]; omega
      · obtain rfl : k = len := by omega
        have HE : Hid (refGoodE es = true) := by
          show _ = _
          rw [refGoodE, HL.out, decide_eq_true (by omega), Bool.true_and, List.all_eq_true]
          exact fun j hj => HA.out j (List.mem_range.1 hj)
        go_wp2
        go_ret
        exact ⟨by rw [HE.out]; rfl, hbel⟩
end Go.Proofs.Ytlmfdifnkkdpfaa
