/-
  Several texts in one: RefLinks, RefLinks2.
-/
import Derived.Test.YtfclbdlkpnoceaaEqId
import Derived.Test.YtfclbdlkpnoceaaBuild
import Derived.Test.YtfclbdlkpnoceaaOps
import Derived.Test.YtfclbdlkpnoceaaRfIds
import Derived.ArgAppend
/-
  The reference's Links: ids put in where they stand.
-/
namespace Go.Proofs.Ytfclbdlkpnoceaa
open Go.RowKit

theorem IsIds.rest {n₀ : Nat} {W : World} {p q : Option Addr} {len cap L C o : Nat} {ids : List (List Nat)} (h : IsIds n₀ W p len cap ids) (hL : L + o = len) (hC : C + o = cap) (hq : 0 < L → ∃ b off, p = some ⟨b, off, none⟩ ∧ q = some ⟨b, off + o * 32, none⟩) : IsIds n₀ W q L C (ids.drop o) := by
  obtain ⟨h1, h2, h3, h4, h5⟩ := h
  refine ⟨by simp; omega, by omega, by omega, fun x hx => h4 x (List.mem_of_mem_drop hx), ?_⟩
  by_cases hLz : 0 < L
  · obtain ⟨b, off, rfl, rfl⟩ := hq hLz
    rcases h5 with h5 | ⟨b', off', e, hb, hc⟩
    · omega
    · cases e
      refine .inr ⟨b, off + o * 32, rfl, hb, fun i hi => ?_⟩
      rw [show off + o * 32 + i * 32 = off + (o + i) * 32 by omega]
      have := hc (o + i) (by omega)
      simpa [List.getD_eq_getElem?_getD, List.getElem?_drop] using this
  · exact .inl (by omega)
theorem flat_len : ∀ (l : List (List Nat)), (∀ x ∈ l, x.length = 32 ∧ ∀ z ∈ x, z < 256) → l.flatten.length = l.length * 32
  | [], _ => by simp
  | a :: t, hl => by
    have h1 := flat_len t (fun x hx => hl x (List.mem_cons_of_mem _ hx))
    have h2 := (hl a List.mem_cons_self).1
    simp only [List.flatten_cons, List.length_append, List.length_cons, h1, h2]
    omega
/-- The cells of ids, one behind the other. -/
theorem IsIds.flat {n₀ : Nat} {W : World} {b off len cap : Nat} {ids : List (List Nat)} (hI : IsIds n₀ W (some ⟨b, off, none⟩) len cap ids) : ∀ j u, (u8s ids.flatten)[j]? = some u → W.cell? ((⟨b, off, none⟩ : Addr).add j) = some u := fun j u hu => by
  have hl := hI.1
  have hfl := flat_len ids hI.2.2.2.1
  have hj : j < ids.flatten.length := by
    rcases Nat.lt_or_ge j ids.flatten.length with h | h
    · exact h
    · rw [List.getElem?_eq_none (by simpa using h)] at hu; cases hu
  rcases hI.2.2.2.2 with h0 | ⟨b', off', e, hb, hc⟩
  · subst h0; omega
  · cases e
    have hi : j / 32 < ids.length := by omega
    have h1 := hc (j / 32) (by omega) (j % 32) u (by
      rw [← flat_drop hI.2.2.2.1 (j / 32) hi, ← u8s_drop, List.getElem?_take, if_pos (by omega), List.getElem?_drop, show j / 32 * 32 + j % 32 = j by omega]
      exact hu)
    rw [Addr.add_mid, show off + j = off + j / 32 * 32 + j % 32 by omega]
    exact h1
theorem IsIds.addr {n₀ : Nat} {W : World} {p : Option Addr} {len cap : Nat} {ids : List (List Nat)} (hI : IsIds n₀ W p len cap ids) (hp : 0 < len) : ∃ b off, p = some ⟨b, off, none⟩ := by
  rcases hI.2.2.2.2 with h | ⟨b, off, e, _⟩
  · omega
  · exact ⟨b, off, e⟩

/-- append of ids to a row that is owned. -/
theorem run_append_idl (w : World) (base : Nat) (ty : TypeId) (v : Value) (xs : List (List Nat)) (hown : OwnIds base w v xs) {n₀ : Nat} {p : Option Addr} {len cap : Nat} {ys : List (List Nat)} (hI : IsIds n₀ w p len cap ys) (hlen : xs.length + len ≤ 100000) (hbase : base ≤ w.heap.size) :
    ∃ v' w', (Builtin.append_ #[23, 23] ty #[v, .slice p len cap]).run Try.prog w = .ok v' w' ∧ OwnIds base w' v' (xs ++ ys) ∧ w.grownBy w' v.ownBlock := by
  obtain ⟨i0, hi, hz0, hz1, hz2⟩ := info_parts info33
  have h1 := hI.1
  by_cases h0 : len = 0
  · subst h0
    obtain rfl := List.eq_nil_of_length_eq_zero h1
    refine ⟨v, w, ?_, by rw [List.append_nil]; exact hown, ⟨rfl, rfl, rfl, Nat.le_refl _, fun _ _ _ => rfl⟩⟩
    have hfc : (Builtin.firstCells 32 0 (.slice p 0 cap)).run Try.prog w = .ok #[] w := by
      cases p with
      | none => simp [Builtin.firstCells]
      | some a => exact run_firstCells_some (P := Try.prog) w 32 0 a 0 cap [] (by simp) (fun j u hu => by cases hu)
    rcases hown.2 with ⟨rfl, _⟩ | ⟨g, cp, cur, rfl, _, _, hnc, _⟩
    · simp [Builtin.append_, run_underlying Try.underlying23, sizeOf, typeInfo, hi, hz1, Builtin.lenOf, hfc]
    · simp [Builtin.append_, run_underlying Try.underlying23, sizeOf, typeInfo, hi, hz1, Builtin.lenOf, hfc, hnc, storeCells]
  · obtain ⟨b, off, rfl⟩ := hI.addr (by omega)
    have hfl := flat_len ys hI.2.2.2.1
    obtain ⟨v', w', hr, ho, hg, _⟩ := run_append_own_at (P := Try.prog) w base 23 ty 33 i0 _ 32 32 Try.underlying23 hi hz0 hz1 hz2 (by simp [Value.cells]) (by omega) v xs.length (u8s xs.flatten) hown ⟨b, off, none⟩ len cap (u8s ys.flatten) (by rw [u8s_length, hfl, h1]) hI.flat (u8s_one _) (by simp only [maxLen]; omega) (by omega) hbase
    refine ⟨v', w', hr, ?_, hg⟩
    unfold OwnIds
    rw [List.length_append, List.flatten_append, ← u8s_append, h1]
    exact ho
/-- append of a row to ids that have no room. -/
theorem run_append_full (w : World) (ty : TypeId) {n₀ : Nat} {p : Option Addr} {n : Nat} {xs : List (List Nat)} (hI : IsIds n₀ w p n n xs) (hp : p = none → n = 0) {g m c : Nat} {ys : List (List Nat)} {n₁ : Nat} (hJ : IsIds n₁ w (some ⟨g, 0, none⟩) m c ys) (hm : 0 < m) (hlen : n + m ≤ 100000) :
    ∃ v' w', (Builtin.append_ #[23, 23] ty #[.slice p n n, .slice (some ⟨g, 0, none⟩) m c]).run Try.prog w = .ok v' w' ∧ OwnIds w.heap.size w' v' (xs ++ ys) ∧ Below w.heap.size w w' := by
  obtain ⟨i0, hi, hz0, hz1, hz2⟩ := info_parts info33
  have h1 := hI.1
  have h2 := hJ.1
  have f1 := flat_len xs hI.2.2.2.1
  have f2 := flat_len ys hJ.2.2.2.1
  have fin : ∀ v' w', w'.ownsRow w.heap.size 33 32 v' (n + m) (u8s xs.flatten ++ u8s ys.flatten) → OwnIds w.heap.size w' v' (xs ++ ys) := fun v' w' h => by
    unfold OwnIds
    rw [List.length_append, List.flatten_append, ← u8s_append, h1, h2]
    exact h
  cases p with
  | none =>
    obtain rfl := hp rfl
    obtain rfl := List.eq_nil_of_length_eq_zero h1
    obtain ⟨v', w', hr, ho, hg, _⟩ := run_append_own_at (P := Try.prog) w w.heap.size 23 ty 33 i0 _ 32 32 Try.underlying23 hi hz0 hz1 hz2 (by simp [Value.cells]) (by omega) (.slice none 0 0) 0 [] (World.ownsRow_nil _ _ _ _) ⟨g, 0, none⟩ m c (u8s ys.flatten) (by rw [u8s_length, f2, h2]) hJ.flat (u8s_one _) (by simp only [maxLen]; omega) (by omega) (Nat.le_refl _)
    exact ⟨v', w', hr, fin v' w' (by simpa [u8s] using ho), (Below.refl _ w).grown hg (Nat.le_refl _) (fun k e => by cases e)⟩
  | some a =>
    obtain ⟨v', w', hr, ho, hg⟩ := run_append_arg_grows (P := Try.prog) w 23 ty 33 i0 _ 32 32 Try.underlying23 hi hz0 hz1 hz2 (by simp [Value.cells]) (by omega) a n n (u8s xs.flatten) (by rw [u8s_length, f1, h1]) (fun j u hu => by
      by_cases hn : n = 0
      · subst hn
        obtain rfl := List.eq_nil_of_length_eq_zero h1
        cases hu
      · obtain ⟨b, off, e⟩ := hI.addr (by omega)
        cases e
        exact hI.flat j u hu) ⟨g, 0, none⟩ m c (u8s ys.flatten) (by rw [u8s_length, f2, h2]) hJ.flat (by omega) (by simp only [maxLen]; omega) (by omega)
    exact ⟨v', w', hr, fin v' w' ho, (Below.refl _ w).grown hg (Nat.le_refl _) (fun k e => by cases e)⟩

end Go.Proofs.Ytfclbdlkpnoceaa
/-
  The reference's Links, walked.
-/
namespace Go.Proofs.Ytfclbdlkpnoceaa
open Go.RowKit

/-- So far all that stand ahead are less. -/
def LessTo (out : List (List Nat)) (x : List Nat) (m : Nat) : Prop := ∀ j, j < m → ltB (out.getD j []) x = true
/-- A list of ids that was made: nil, or a row of its own. -/
def OutAt (W : World) (q : Option Addr) (n c : Nat) (out : List (List Nat)) : Prop := IsIds W.heap.size W q n c out ∧ ((q = none ∧ n = 0 ∧ c = 0) ∨ ∃ g, q = some ⟨g, 0, none⟩)
theorem OutAt.later {A B : World} {q : Option Addr} {n c : Nat} {out : List (List Nat)} (h : OutAt A q n c out) (hb : Below A.heap.size A B) : OutAt B q n c out := ⟨(h.1.below hb).mono hb.size, h.2⟩
theorem OwnIds.out {W : World} {n₀ : Nat} {v : Value} {out : List (List Nat)} (h : OwnIds n₀ W v out) (hi : ∀ x ∈ out, x.length = 32 ∧ ∀ z ∈ x, z < 256) : ∃ q n c, v = .slice q n c ∧ OutAt W q n c out := by
  obtain ⟨q, c, rfl⟩ := h.slice
  refine ⟨q, _, c, rfl, h.ids rfl hi, ?_⟩
  rcases h.2 with ⟨e, hl⟩ | ⟨g, cap, cur, e, _⟩
  · injection e with h1 h2 h3
    exact .inl ⟨h1, h2, h3⟩
  · injection e with h1
    exact .inr ⟨g, h1⟩
theorem ins_all {ids : List (List Nat)} (h : ∀ x ∈ ids, x.length = 32 ∧ ∀ z ∈ x, z < 256) (k : Nat) : ∀ x ∈ linksL (ids.take k), x.length = 32 ∧ ∀ z ∈ x, z < 256 := fun x hx => h x (List.mem_of_mem_take ((linksL_mem _ x).1 hx))

set_option maxRecDepth 100000 in
set_option maxHeartbeats 8000000 in
theorem refLinks_any (p : Option Addr) (len cap : Nat) (ids : List (List Nat)) (hlen : len ≤ 1000) (w : World) (hI : IsIds w.heap.size w p len cap ids) :
    Calls Try.prog 25 #[.slice p len cap] w fun e w' => ∃ q n c, e = .returned (.slice q n c) ∧ OutAt w' q n c (linksL ids) ∧ Below w.heap.size w w' := by
  obtain ⟨i0, hi0, hz0, hz1, hz2⟩ := info_parts info33
  have HI : Hid (IsIds w.heap.size w p len cap ids) := hI
  have hI32 := hI.2.2.2.1
  have hIl := hI.1
  have hlc := hI.2.1
  have hcc := hI.2.2.1
  clear hI
  go_enter Try.func25, Try.ntmps25
  go_wp2
  go_loopw [3, 9] (fun v i wr => ∃ (k : Nat) (q : Option Addr) (n c : Nat), k ≤ len ∧ i = .int .i64 k ∧ v = .slice q n c ∧ OutAt wr q n c (linksL (ids.take k)) ∧ Below w.heap.size w wr) (fun _ i _ => len - (intOf i).toNat)
  case atStart => exact ⟨0, none, 0, 0, Nat.zero_le _, rfl, rfl, ⟨⟨rfl, Nat.le_refl _, by omega, by simp [linksL], .inl rfl⟩, .inl ⟨rfl, rfl, rfl⟩⟩, Below.refl _ _⟩
  case round =>
    obtain ⟨wo, rfl⟩ : ∃ wo, wo = wr := ⟨_, rfl⟩
    obtain ⟨k, q, n, c, hk, rfl, rfl, hout, hbel⟩ := hrel
    by_cases hlt : k < len
    · have hki : (k : Int) < (len : Int) := by omega
      obtain ⟨b, off, rfl, hb, hcell⟩ : ∃ b off, p = some ⟨b, off, none⟩ ∧ b < w.heap.size ∧ ∀ i, i < len → wo.rangeAt b (off + i * 32) (u8s (ids.getD i [])) := by
        rcases (HI.out.below hbel).2.2.2.2 with h | h
        · omega
        · exact h
      obtain ⟨x, hxd⟩ : ∃ x, ids.getD k [] = x := ⟨_, rfl⟩
      have hx : IsId x := by rw [← hxd]; exact ids_at hI32 (k := k) (by omega)
      have HRg : Hid (wo.rangeAt b (off + k * 32) (u8s x)) := by have := hcell k hlt; rw [hxd] at this; exact this
      have HStep : Hid (insL x (linksL (ids.take k)) = linksL (ids.take (k + 1))) := by show _ = _; rw [← hxd]; exact linksL_take ids k (by omega)
      obtain ⟨out, hod⟩ : ∃ out, linksL (ids.take k) = out := ⟨_, rfl⟩
      have hol : out.length ≤ 1000 := by rw [← hod]; have := linksL_length (ids.take k); simp at this; omega
      rw [hod] at hout HStep
      have hoall : ∀ y ∈ out, IsId y := fun y hy => hout.1.2.2.2.1 y hy
      have hnl : out.length = n := hout.1.1
      have hnc := hout.1.2.1
      have hc63 := hout.1.2.2.1
      have HV : Hid ((u8s x).length = 32) := by show _ = _; rw [u8s_length]; exact hx.1
      have HV1 : Hid (∀ v ∈ u8s x, v.oneCell' = true) := u8s_one _
      have HO : Hid (OutAt wo q n c out) := hout
      have HBel0 : Hid (Below w.heap.size w wo) := hbel
      clear hcell hout hbel hxd hod
      generalize hVg : u8s x = V at *
      have HVg : Hid (u8s x = V) := hVg
      clear hVg
      go_wp2_with (first
        | ((with_reducible show wpList _ _ _ (Oper.mk _ (Op.load 33 (.tmp 11)) _ _ _ _ :: _) _ _); refine wpList_load_mid rfl 33 (.tmp 11) rfl b (off + k * 32) rfl V _ HRg.out Try.underlying33 rfl (by rw [HV.out]; exact size33) ?_; simp only [Act.put, List.setIfInBounds_toArray, List.set_cons_zero, List.set_cons_succ])
        | ((with_reducible show wpList _ _ _ (Oper.mk _ (Op.store 33 (.tmp 5) (.tmp 12)) _ _ _ _ :: _) _ _); rw [z32u8]; refine wpList_store_Row rfl 33 (.tmp 5) (.tmp 12) rfl V rfl rfl (Row.new' wo 33 (List.replicate 32 (Value.int .u8 0))) (by rw [HV.out]; exact size33) (by rw [HV.out]; rfl) HV1.out ?_; have hR2 := (Row.new' wo 33 (List.replicate 32 (Value.int .u8 0))).sets_all (vs := V) (by rw [HV.out]; rfl); have hb2 : Below wo.heap.size wo ((wo.alloc (.cells (List.replicate 32 (Value.int .u8 0)).toArray 33)).setCells wo.heap.size 0 V) := below_setCells (Nat.le_refl _) _ _ ((Below.refl _ wo).alloc (Nat.le_refl _) _); generalize (wo.alloc (.cells (List.replicate 32 (Value.int .u8 0)).toArray 33)).setCells wo.heap.size 0 V = w2 at *; have HX : Hid (Row w2 wo.heap.size 33 V) := hR2; have HO1 : Hid (OutAt w2 q n c out) := HO.out.later hb2; have HBel1 : Hid (Below w.heap.size w w2) := HBel0.out.trans (hb2.mono HBel0.out.size); clear hR2 hb2; simp only [Act.put]))
      go_loopw [6] (fun j wr2 => ∃ (m : Nat), m ≤ n ∧ j = .int .i64 m ∧ LessTo out x m ∧ Below w2.heap.size w2 wr2) (fun j _ => n - (intOf j).toNat)
      case atStart => exact ⟨0, Nat.zero_le _, rfl, fun j hj => by omega, Below.refl _ _⟩
      case round =>
        obtain ⟨m, hm, rfl, hless, hb2⟩ := hrel
        have HOr : Hid (OutAt wr q n c out) := HO1.out.later hb2
        have HXr : Hid (Row wr wo.heap.size 33 V) := HX.out.later hb2
        have HBr : Hid (Below w.heap.size w wr) := HBel1.out.trans (hb2.mono HBel1.out.size)
        have HLess : Hid (LessTo out x m) := hless
        have HB2 : Hid (Below w2.heap.size w2 wr) := hb2
        clear hless hb2
        by_cases hmn : m < n
        · have hmni : (m : Int) < (n : Int) := by omega
          obtain ⟨g, rfl⟩ : ∃ g, q = some ⟨g, 0, none⟩ := by
            rcases HOr.out.2 with ⟨_, h, _⟩ | h
            · omega
            · exact h
          obtain ⟨y, hyd⟩ : ∃ y, out.getD m [] = y := ⟨_, rfl⟩
          have hml : m < out.length := by omega
          have hy : IsId y := by rw [← hyd]; exact ids_at HOr.out.1.2.2.2.1 (k := m) hml
          have HRgy : Hid (wr.rangeAt g (m * 32) (u8s y)) := by
            rcases HOr.out.1.2.2.2.2 with h | ⟨b', off', e, _, h⟩
            · omega
            · cases e
              have := h m (by omega)
              rw [hyd, Nat.zero_add] at this
              exact this
          have hgl : g < wr.heap.size := by
            rcases HOr.out.1.2.2.2.2 with h | ⟨b', off', e, hb, _⟩
            · omega
            · cases e; exact hb
          have HU : Hid ((u8s y).length = 32) := by show _ = _; rw [u8s_length]; exact hy.1
          have HC : Hid (Calls Try.prog 45 #[.agg (u8s y).toArray, .agg V.toArray] wr.drew fun e w' => e = .returned (.bool (ltB y x)) ∧ Below wr.heap.size wr w') := by
            rw [← HVg.out]
            refine (less_any y x hy hx wr.drew).mono ?_
            rintro e w' ⟨rfl, n, rfl⟩
            exact ⟨rfl, below_drewN ((((Below.refl _ wr).drew).alloc (Nat.le_refl _) _).alloc (by simp) _) n⟩
          have heq : ∀ W : World, (Op.equalIn 10000 33 (.agg (u8s y).toArray) (.agg V.toArray)).run Try.prog W = .ok (decide (y = x)) W := fun W => by rw [← HVg.out]; exact equal_ids hy hx W
          have HY : Hid (out.getD m [] = y) := hyd
          clear hyd
          obtain ⟨U, hUg⟩ : ∃ U, u8s y = U := ⟨_, rfl⟩
          rw [hUg] at HRgy HU HC heq
          clear hUg
          go_wp2
          refine wp_region_held_drew (S := fun W => Below wr.heap.size wr W) (by kernel_rfl) (Below.refl _ _).drew (fun hHeld => ?_)
          refine wpAnyH_takesAt 0 8 4 (of_decide_eq_true (by kernel_rfl)) rfl (fun _ _ _ d _ h => by cases d <;> exact h) (by kernel_rfl) (by kernel_rfl) hHeld ?_
          simp only [List.drop_zero, List.take_succ_cons, List.take_zero]
          iterate 8 (refine wpHeld_step (v := ?_) (by rfl) (fun wz hSw => ?_) ?_; rotate_left; (focus ((try dsimp only at hSw); go_simp; try with_reducible rfl)); (simp only [Act.put, List.setIfInBounds_toArray, List.set_cons_zero, List.set_cons_succ]))
          refine wpHeld_nil ?_
          refine wpAnyH_takesAt 8 1 3 (of_decide_eq_true (by kernel_rfl)) rfl (fun _ _ _ d _ h => by cases d <;> exact h) (by kernel_rfl) (by kernel_rfl) hHeld ?_
          simp only [List.drop_succ_cons, List.drop_zero, List.take_succ_cons, List.take_zero]
          refine wpHeld_load (by rfl) 33 (.tmp 20) rfl g (m * 32) rfl U (fun W hW => rangeAt_below hW hgl HRgy.out) Try.underlying33 (by rw [HU.out]; exact size33) ?_
          (simp only [Act.put]; (try simp only [List.setIfInBounds_toArray]); (try simp only [List.set_cons_succ]); (try simp only [List.set_cons_zero]))
          refine wpHeld_nil ?_
          refine wpAnyH_takesAt 9 1 2 (of_decide_eq_true (by kernel_rfl)) rfl (fun _ _ _ d _ h => by cases d <;> exact h) (by kernel_rfl) (by kernel_rfl) hHeld ?_
          simp only [List.drop_succ_cons, List.drop_zero, List.take_succ_cons, List.take_zero]
          refine wpHeld_load (by rfl) 33 (.tmp 5) rfl wo.heap.size (0) rfl V (fun W hW => (HXr.out.later hW).range) Try.underlying33 (by rw [HV.out]; exact size33) ?_
          (simp only [Act.put]; (try simp only [List.setIfInBounds_toArray]); (try simp only [List.set_cons_succ]); (try simp only [List.set_cons_zero]))
          refine wpHeld_nil ?_
          refine wpAnyH_only (i := 10) (by kernel_rfl) rfl (fun K hK => ?_)
          rw [if_pos (by rfl)]
          go_simp
          refine HC.out.mono ?_
          rintro e w3 ⟨rfl, hb3⟩
          have HO3 : Hid (OutAt w3 (some ⟨g, 0, none⟩) n c out) := HOr.out.later hb3
          have HX3 : Hid (Row w3 wo.heap.size 33 V) := HXr.out.later hb3
          have HB3 : Hid (Below w.heap.size w w3) := HBr.out.trans (hb3.mono HBr.out.size)
          have HB23 : Hid (Below w2.heap.size w2 w3) := HB2.out.trans (hb3.mono HB2.out.size)
          have HRg3 : Hid (w3.rangeAt g (m * 32) U) := rangeAt_below hb3 hgl HRgy.out
          have hgl3 : g < w3.heap.size := Nat.lt_of_lt_of_le hgl hb3.size
          refine hK.out _ _ hb3 ?_
          clear hK K
          cases hlt2 : ltB y x with
          | true =>
            have HLess2 : Hid (LessTo out x (m + 1)) := fun j hj => by
              by_cases hjm : j = m
              · subst hjm; rw [HY.out]; exact hlt2
              · exact HLess.out j (by omega)
            clear hlt2
            refine wpAnyH_takesAt 11 1 0 (of_decide_eq_true (by kernel_rfl)) rfl (fun _ _ _ d _ h => by cases d <;> exact h) (by kernel_rfl) (by kernel_rfl) hb3 ?_
            simp only [List.drop_succ_cons, List.drop_zero, List.take_succ_cons, List.take_zero]
            iterate 1 (refine wpHeld_step (v := ?_) (by rfl) (fun wz hSw => ?_) ?_; rotate_left; (focus ((try dsimp only at hSw); go_simp; try with_reducible rfl)); ((simp only [Act.put]; (try simp only [List.setIfInBounds_toArray]); (try simp only [List.set_cons_succ]); (try simp only [List.set_cons_zero]))))
            refine wpHeld_nil ?_
            refine wpAnyH_done (by kernel_rfl) ?_ _
            go_wp2
            go_roundw
            case rel => exact ⟨m + 1, by omega, by go_num, HLess2.out, HB23.out⟩
            case measure => simp [intOf]; omega
          | false =>
            have hat := insL_at x out m (by omega) HLess.out (fun _ => by rw [HY.out]; exact hlt2)
            clear hlt2
            refine wpAnyH_takesAt 11 1 0 (of_decide_eq_true (by kernel_rfl)) rfl (fun _ _ _ d _ h => by cases d <;> exact h) (by kernel_rfl) (by kernel_rfl) hb3 ?_
            simp only [List.drop_succ_cons, List.drop_zero, List.take_succ_cons, List.take_zero]
            iterate 1 (refine wpHeld_step (v := ?_) (by rfl) (fun wz hSw => ?_) ?_; rotate_left; (focus ((try dsimp only at hSw); go_simp; try with_reducible rfl)); ((simp only [Act.put]; (try simp only [List.setIfInBounds_toArray]); (try simp only [List.set_cons_succ]); (try simp only [List.set_cons_zero]))))
            refine wpHeld_nil ?_
            refine wpAnyH_done (by kernel_rfl) ?_ _
            clear hHeld hb3
            by_cases hyx : y = x
            · have HSame : Hid (linksL (ids.take (k + 1)) = out) := by show _ = _; rw [← HStep.out]; exact hat.1 hml (by rw [HY.out]; exact hyx)
              rw [decide_eq_true hyx] at heq
              clear hat hyx
              go_wp2
              refine wp_region_held_drew (S := fun W => Below w3.heap.size w3 W) (by kernel_rfl) (Below.refl _ _).drew (fun hHeld => ?_)
              refine wpAnyH_takesAt 0 8 4 (of_decide_eq_true (by kernel_rfl)) rfl (fun _ _ _ d _ h => by cases d <;> exact h) (by kernel_rfl) (by kernel_rfl) hHeld ?_
              simp only [List.drop_zero, List.take_succ_cons, List.take_zero]
              iterate 8 (refine wpHeld_step (v := ?_) (by rfl) (fun wz hSw => ?_) ?_; rotate_left; (focus ((try dsimp only at hSw); go_simp; try with_reducible rfl)); (simp only [Act.put, List.setIfInBounds_toArray, List.set_cons_zero, List.set_cons_succ]))
              refine wpHeld_nil ?_
              refine wpAnyH_takesAt 8 1 3 (of_decide_eq_true (by kernel_rfl)) rfl (fun _ _ _ d _ h => by cases d <;> exact h) (by kernel_rfl) (by kernel_rfl) hHeld ?_
              simp only [List.drop_succ_cons, List.drop_zero, List.take_succ_cons, List.take_zero]
              refine wpHeld_load (by rfl) 33 (.tmp 34) rfl g (m * 32) rfl U (fun W hW => rangeAt_below hW hgl3 HRg3.out) Try.underlying33 (by rw [HU.out]; exact size33) ?_
              (simp only [Act.put]; (try simp only [List.setIfInBounds_toArray]); (try simp only [List.set_cons_succ]); (try simp only [List.set_cons_zero]))
              refine wpHeld_nil ?_
              refine wpAnyH_takesAt 9 1 2 (of_decide_eq_true (by kernel_rfl)) rfl (fun _ _ _ d _ h => by cases d <;> exact h) (by kernel_rfl) (by kernel_rfl) hHeld ?_
              simp only [List.drop_succ_cons, List.drop_zero, List.take_succ_cons, List.take_zero]
              refine wpHeld_load (by rfl) 33 (.tmp 5) rfl wo.heap.size (0) rfl V (fun W hW => (HX3.out.later hW).range) Try.underlying33 (by rw [HV.out]; exact size33) ?_
              (simp only [Act.put]; (try simp only [List.setIfInBounds_toArray]); (try simp only [List.set_cons_succ]); (try simp only [List.set_cons_zero]))
              refine wpHeld_nil ?_
              refine wpAnyH_takesAt 10 2 0 (of_decide_eq_true (by kernel_rfl)) rfl (fun _ _ _ d _ h => by cases d <;> exact h) (by kernel_rfl) (by kernel_rfl) hHeld ?_
              simp only [List.drop_succ_cons, List.drop_zero, List.take_succ_cons, List.take_zero]
              iterate 2 (refine wpHeld_step (v := ?_) (by rfl) (fun wz hSw => ?_) ?_; rotate_left; (focus ((try dsimp only at hSw); go_simp; try with_reducible rfl)); (simp only [Act.put, List.setIfInBounds_toArray, List.set_cons_zero, List.set_cons_succ]))
              refine wpHeld_nil ?_
              refine wpAnyH_done (by kernel_rfl) ?_ _
              go_wp2
              go_roundw
              case rel => exact ⟨k + 1, some ⟨g, 0, none⟩, n, c, by omega, by go_num, rfl, by rw [HSame.out]; exact HO3.out, HB3.out.drew⟩
              case measure => simp [intOf]; omega
            · have HIns : Hid (insL x out = out.take m ++ [x] ++ out.drop m) := hat.2 (fun _ => by rw [HY.out]; exact hyx)
              rw [decide_eq_false hyx] at heq
              have hcm : (c = m) = False := eq_false (by omega)
              have hmle : (m : Int) ≤ (c : Int) := by omega
              have hmle2 : (m : Int) ≤ (n : Int) := by omega
              clear hat hyx
              go_wp2
              refine wp_region_held_drew (S := fun W => Below w3.heap.size w3 W) (by kernel_rfl) (Below.refl _ _).drew (fun hHeld => ?_)
              refine wpAnyH_takesAt 0 8 4 (of_decide_eq_true (by kernel_rfl)) rfl (fun _ _ _ d _ h => by cases d <;> exact h) (by kernel_rfl) (by kernel_rfl) hHeld ?_
              simp only [List.drop_zero, List.take_succ_cons, List.take_zero]
              iterate 8 (refine wpHeld_step (v := ?_) (by rfl) (fun wz hSw => ?_) ?_; rotate_left; (focus ((try dsimp only at hSw); go_simp; try with_reducible rfl)); (simp only [Act.put, List.setIfInBounds_toArray, List.set_cons_zero, List.set_cons_succ]))
              refine wpHeld_nil ?_
              refine wpAnyH_takesAt 8 1 3 (of_decide_eq_true (by kernel_rfl)) rfl (fun _ _ _ d _ h => by cases d <;> exact h) (by kernel_rfl) (by kernel_rfl) hHeld ?_
              simp only [List.drop_succ_cons, List.drop_zero, List.take_succ_cons, List.take_zero]
              refine wpHeld_load (by rfl) 33 (.tmp 34) rfl g (m * 32) rfl U (fun W hW => rangeAt_below hW hgl3 HRg3.out) Try.underlying33 (by rw [HU.out]; exact size33) ?_
              (simp only [Act.put]; (try simp only [List.setIfInBounds_toArray]); (try simp only [List.set_cons_succ]); (try simp only [List.set_cons_zero]))
              refine wpHeld_nil ?_
              refine wpAnyH_takesAt 9 1 2 (of_decide_eq_true (by kernel_rfl)) rfl (fun _ _ _ d _ h => by cases d <;> exact h) (by kernel_rfl) (by kernel_rfl) hHeld ?_
              simp only [List.drop_succ_cons, List.drop_zero, List.take_succ_cons, List.take_zero]
              refine wpHeld_load (by rfl) 33 (.tmp 5) rfl wo.heap.size (0) rfl V (fun W hW => (HX3.out.later hW).range) Try.underlying33 (by rw [HV.out]; exact size33) ?_
              (simp only [Act.put]; (try simp only [List.setIfInBounds_toArray]); (try simp only [List.set_cons_succ]); (try simp only [List.set_cons_zero]))
              refine wpHeld_nil ?_
              refine wpAnyH_takesAt 10 2 0 (of_decide_eq_true (by kernel_rfl)) rfl (fun _ _ _ d _ h => by cases d <;> exact h) (by kernel_rfl) (by kernel_rfl) hHeld ?_
              simp only [List.drop_succ_cons, List.drop_zero, List.take_succ_cons, List.take_zero]
              iterate 2 (refine wpHeld_step (v := ?_) (by rfl) (fun wz hSw => ?_) ?_; rotate_left; (focus ((try dsimp only at hSw); go_simp; try with_reducible rfl)); (simp only [Act.put, List.setIfInBounds_toArray, List.set_cons_zero, List.set_cons_succ]))
              refine wpHeld_nil ?_
              refine wpAnyH_done (by kernel_rfl) ?_ _
              clear hHeld
              obtain ⟨wr2, hwr2⟩ : ∃ W, w3.drew = W := ⟨_, rfl⟩
              have HO2 : Hid (OutAt wr2 (some ⟨g, 0, none⟩) n c out) := by rw [← hwr2]; exact HO3.out
              have HX2 : Hid (Row wr2 wo.heap.size 33 V) := by rw [← hwr2]; exact HX3.out
              have HBel : Hid (Below w.heap.size w wr2) := by rw [← hwr2]; exact HB3.out.drew
              rw [hwr2]
              clear hwr2 HRg3 HRgy HC heq
              obtain ⟨W4, hW4⟩ : ∃ W4, wr2.drew.alloc (.cells V.toArray 33) = W4 := ⟨_, rfl⟩
              have hb4 : Below wr2.heap.size wr2 W4 := by rw [← hW4]; exact ((Below.refl _ wr2).drew).alloc (Nat.le_refl _) _
              have hs4 : W4.heap.size = wr2.heap.size + 1 := by rw [← hW4]; simp
              have ho4 : OwnIds wr2.heap.size W4 (.slice (some ⟨wr2.heap.size, 0, none⟩) 1 1) [x] := by
                have hr4 : Row W4 wr2.heap.size 33 (u8s x) := by rw [HVg.out, ← hW4]; exact Row.new' wr2.drew 33 V
                refine ⟨by simp [hx.1], .inr ⟨wr2.heap.size, 1, (u8s x).toArray, rfl, Nat.le_refl _, hr4, Nat.le_refl _, by simp only [maxLen]; omega, by simp [hx.1], ?_⟩⟩
                simp [hx.1, List.take_of_length_le]
              have hIr : IsIds W4.heap.size W4 (some ⟨g, m * 32, none⟩) (n - m) (c - m) (out.drop m) := (((HO2.out.1.rest (q := (some ⟨g, m * 32, none⟩)) (by omega) (by omega) (fun h => ⟨g, 0, rfl, by simp⟩)).below hb4).mono hb4.size)
              obtain ⟨v5, W5, hrun5, ho5, hg5⟩ := run_append_idl W4 wr2.heap.size 23 _ [x] ho4 hIr (by simp <;> omega) (by omega)
              have hb5 : Below wr2.heap.size wr2 W5 := hb4.grown hg5 (by omega) (fun k e => (World.ownsRow.lt ho4 k e).1)
              have h5all : ∀ y ∈ [x] ++ out.drop m, y.length = 32 ∧ ∀ z ∈ y, z < 256 := fun y hy => by
                rcases List.mem_append.1 hy with h | h
                · simp at h; subst h; exact hx
                · exact HO2.out.1.2.2.2.1 y (List.mem_of_mem_drop h)
              obtain ⟨q5, n5, c5, rfl, hO5⟩ := OwnIds.out ho5 h5all
              have hn5 : n5 = 1 + (out.drop m).length := by have := hO5.1.1; simpa [Nat.add_comm] using this.symm
              have hn5l : n5 ≤ 2000 := by rw [hn5]; simp <;> omega
              obtain ⟨g5, rfl⟩ : ∃ g5, q5 = some ⟨g5, 0, none⟩ := by
                rcases hO5.2 with ⟨_, h, _⟩ | h
                · omega
                · exact h
              have hIl : IsIds W5.heap.size W5 (some ⟨g, 0, none⟩) m m (out.take m) := by
                have h := (HO2.out.1.below hb5).mono hb5.size
                refine ⟨by simp <;> omega, Nat.le_refl _, by omega, fun y hy => h.2.2.2.1 y (List.mem_of_mem_take hy), ?_⟩
                rcases h.2.2.2.2 with h0 | ⟨b', off', e, hb, hc⟩
                · exact .inl (by omega)
                · cases e
                  refine .inr ⟨g, 0, rfl, hb, fun i hi => ?_⟩
                  have := hc i (by omega)
                  simpa [List.getD_eq_getElem?_getD, List.getElem?_take, hi] using this
              obtain ⟨v6, W6, hrun6, ho6, hb6⟩ := run_append_full W5 23 hIl (fun h => by cases h) hO5.1 (by omega) (by omega)
              have hb26 : Below wr2.heap.size wr2 W6 := hb5.trans (hb6.mono hb5.size)
              have hnew : out.take m ++ ([x] ++ out.drop m) = linksL (ids.take (k + 1)) := by
                rw [← HStep.out, HIns.out, List.append_assoc]
              rw [hnew] at ho6
              obtain ⟨q6, n6, c6, rfl, hO6⟩ := OwnIds.out ho6 (ins_all hI32 (k + 1))
              have HO6 : Hid (OutAt W6 q6 n6 c6 (linksL (ids.take (k + 1)))) := hO6
              have HRun5 : Hid ((Builtin.append_ #[23, 23] 23 #[.slice (some ⟨wr2.heap.size, 0, none⟩) 1 1, .slice (some ⟨g, m * 32, none⟩) (n - m) (c - m)]).run Try.prog W4 = .ok (.slice (some ⟨g5, 0, none⟩) n5 c5) W5) := hrun5
              have HRun6 : Hid ((Builtin.append_ #[23, 23] 23 #[.slice (some ⟨g, 0, none⟩) m m, .slice (some ⟨g5, 0, none⟩) n5 c5]).run Try.prog W5 = .ok (.slice q6 n6 c6) W6) := hrun6
              have HB4 : Hid (Below wr2.heap.size wr2 W4) := hb4
              have HB5 : Hid (Below wr2.heap.size wr2 W5) := hb5
              have HB6 : Hid (Below wr2.heap.size wr2 W6) := hb26
              have HW4 : Hid (wr2.drew.alloc (.cells V.toArray 33) = W4) := hW4
              clear hb4 hs4 ho4 hIr hrun5 ho5 hg5 hb5 h5all hO5 hn5 hIl hrun6 ho6 hb6 hb26 hnew hO6 hW4
              go_wp2
              refine wp_region_held_drew (S := fun W => Below wr2.heap.size wr2 W) (by kernel_rfl) (Below.refl _ _).drew (fun hHeld => ?_)
              refine wpAnyH_takesAt 0 4 8 (of_decide_eq_true (by kernel_rfl)) rfl (fun _ _ _ d _ h => by cases d <;> exact h) (by kernel_rfl) (by kernel_rfl) hHeld ?_
              simp only [List.drop_zero, List.take_succ_cons, List.take_zero]
              iterate 4 (refine wpHeld_step (v := ?_) (by rfl) (fun wz hSw => ?_) ?_; rotate_left; (focus ((try dsimp only at hSw); go_simp; try with_reducible rfl)); (simp only [Act.put, List.setIfInBounds_toArray, List.set_cons_zero, List.set_cons_succ]))
              refine wpHeld_nil ?_
              refine wpAnyH_takesAt 4 1 7 (of_decide_eq_true (by kernel_rfl)) rfl (fun _ _ _ d _ h => by cases d <;> exact h) (by kernel_rfl) (by kernel_rfl) hHeld ?_
              simp only [List.drop_succ_cons, List.drop_zero, List.take_succ_cons, List.take_zero]
              refine wpHeld_load (by rfl) 33 (.tmp 5) rfl wo.heap.size (0) rfl V (fun W hW => (HX2.out.later hW).range) Try.underlying33 (by rw [HV.out]; exact size33) ?_
              (simp only [Act.put]; (try simp only [List.setIfInBounds_toArray]); (try simp only [List.set_cons_succ]); (try simp only [List.set_cons_zero]))
              refine wpHeld_nil ?_
              refine wpAnyH_takesAt 6 3 4 (of_decide_eq_true (by kernel_rfl)) rfl (fun _ _ _ d _ h => by cases d <;> exact h) (by kernel_rfl) (by kernel_rfl) hHeld ?_
              simp only [List.drop_succ_cons, List.drop_zero, List.take_succ_cons, List.take_zero]
              iterate 3 (refine wpHeld_step (v := ?_) (by rfl) (fun wz hSw => ?_) ?_; rotate_left; (focus ((try dsimp only at hSw); go_simp; try with_reducible rfl)); (simp only [Act.put, List.setIfInBounds_toArray, List.set_cons_zero, List.set_cons_succ]))
              refine wpHeld_nil ?_
              refine wpAnyH_only (i := 5) (by kernel_rfl) rfl (fun K hK => ?_)
              rw [if_pos (by rfl)]
              refine wp_buildOne 23 33 (.tmp 43) rfl V rfl i0 _ Try.underlying23 hi0 hz0 (by rw [hz1, HV.out]) (by rw [HV.out]; omega) (by rw [HV.out]; omega) ?_
              rw [HW4.out]
              refine hK.out _ _ HB4.out ?_
              clear hK K hHeld
              refine wpAnyH_only (i := 9) (by kernel_rfl) rfl (fun K hK => ?_)
              rw [if_pos (by rfl)]
              refine wp_append_of (.tmp 44) (.tmp 47) 23 rfl rfl rfl HRun5.out ?_
              refine hK.out _ _ HB5.out ?_
              clear hK K
              refine wpAnyH_only (i := 10) (by kernel_rfl) rfl (fun K hK => ?_)
              rw [if_pos (by rfl)]
              refine wp_append_of (.tmp 42) (.tmp 48) 23 rfl rfl rfl HRun6.out ?_
              refine hK.out _ _ HB6.out ?_
              clear hK K
              refine wpAnyH_only (i := 11) (by kernel_rfl) rfl (fun K hK => ?_)
              rw [if_pos (by rfl)]
              go_simp
              refine hK.out _ _ HB6.out ?_
              clear hK K
              refine wpAnyH_done (by kernel_rfl) ?_ _
              go_wp2
              go_roundw
              case rel => exact ⟨k + 1, q6, n6, c6, by omega, by go_num, rfl, HO6.out, HBel.out.trans (HB6.out.mono HBel.out.size)⟩
              case measure => simp [intOf]; omega
        · obtain rfl : m = n := by omega
          have hmni : ¬ (m : Int) < (m : Int) := by omega
          have HIns : Hid (insL x out = out.take m ++ [x] ++ out.drop m) := (insL_at x out m (by omega) HLess.out (fun h => by omega)).2 (fun h => by omega)
          go_wp2
          refine wp_region_held_drew (S := fun W => Below wr.heap.size wr W) (by kernel_rfl) (Below.refl _ _).drew (fun hHeld => ?_)
          refine wpAnyH_takesAt 0 5 7 (of_decide_eq_true (by kernel_rfl)) rfl (fun _ _ _ d _ h => by cases d <;> exact h) (by kernel_rfl) (by kernel_rfl) hHeld ?_
          simp only [List.drop_zero, List.take_succ_cons, List.take_zero]
          iterate 5 (refine wpHeld_step (v := ?_) (by rfl) (fun wz hSw => ?_) ?_; rotate_left; (focus ((try dsimp only at hSw); go_simp; try with_reducible rfl)); (simp only [Act.put, List.setIfInBounds_toArray, List.set_cons_zero, List.set_cons_succ]))
          refine wpHeld_nil ?_
          refine wpAnyH_takesAt 5 6 1 (of_decide_eq_true (by kernel_rfl)) rfl (fun _ _ _ d _ h => by cases d <;> exact h) (by kernel_rfl) (by kernel_rfl) hHeld ?_
          simp only [List.drop_succ_cons, List.drop_zero, List.take_succ_cons, List.take_zero]
          iterate 6 (refine wpHeld_skip (by rfl) ?_; simp only [Act.put, List.setIfInBounds_toArray, List.set_cons_zero, List.set_cons_succ])
          refine wpHeld_nil ?_
          refine wpAnyH_takesAt 11 1 0 (of_decide_eq_true (by kernel_rfl)) rfl (fun _ _ _ d _ h => by cases d <;> exact h) (by kernel_rfl) (by kernel_rfl) hHeld ?_
          simp only [List.drop_succ_cons, List.drop_zero, List.take_succ_cons, List.take_zero]
          iterate 1 (refine wpHeld_step (v := ?_) (by rfl) (fun wz hSw => ?_) ?_; rotate_left; (focus ((try dsimp only at hSw); go_simp; try with_reducible rfl)); ((simp only [Act.put]; (try simp only [List.setIfInBounds_toArray]); (try simp only [List.set_cons_succ]); (try simp only [List.set_cons_zero]))))
          refine wpHeld_nil ?_
          refine wpAnyH_done (by kernel_rfl) ?_ _
          clear hHeld
          go_wp2
          refine wp_region_held_drew (S := fun W => Below wr.heap.size wr W) (by kernel_rfl) (Below.refl _ _).drew.drew (fun hHeld => ?_)
          refine wpAnyH_takesAt 0 5 7 (of_decide_eq_true (by kernel_rfl)) rfl (fun _ _ _ d _ h => by cases d <;> exact h) (by kernel_rfl) (by kernel_rfl) hHeld ?_
          simp only [List.drop_zero, List.take_succ_cons, List.take_zero]
          iterate 5 (refine wpHeld_step (v := ?_) (by rfl) (fun wz hSw => ?_) ?_; rotate_left; (focus ((try dsimp only at hSw); go_simp; try with_reducible rfl)); (simp only [Act.put, List.setIfInBounds_toArray, List.set_cons_zero, List.set_cons_succ]))
          refine wpHeld_nil ?_
          refine wpAnyH_takesAt 5 6 1 (of_decide_eq_true (by kernel_rfl)) rfl (fun _ _ _ d _ h => by cases d <;> exact h) (by kernel_rfl) (by kernel_rfl) hHeld ?_
          simp only [List.drop_succ_cons, List.drop_zero, List.take_succ_cons, List.take_zero]
          iterate 6 (refine wpHeld_skip (by rfl) ?_; simp only [Act.put, List.setIfInBounds_toArray, List.set_cons_zero, List.set_cons_succ])
          refine wpHeld_nil ?_
          refine wpAnyH_takesAt 11 1 0 (of_decide_eq_true (by kernel_rfl)) rfl (fun _ _ _ d _ h => by cases d <;> exact h) (by kernel_rfl) (by kernel_rfl) hHeld ?_
          simp only [List.drop_succ_cons, List.drop_zero, List.take_succ_cons, List.take_zero]
          iterate 1 (refine wpHeld_step (v := ?_) (by rfl) (fun wz hSw => ?_) ?_; rotate_left; (focus ((try dsimp only at hSw); go_simp; try with_reducible rfl)); ((simp only [Act.put]; (try simp only [List.setIfInBounds_toArray]); (try simp only [List.set_cons_succ]); (try simp only [List.set_cons_zero]))))
          refine wpHeld_nil ?_
          refine wpAnyH_done (by kernel_rfl) ?_ _
          clear hHeld
          obtain ⟨wr2, hwr2⟩ : ∃ W, wr.drew.drew = W := ⟨_, rfl⟩
          have HO2 : Hid (OutAt wr2 q m c out) := by rw [← hwr2]; exact HOr.out
          have HX2 : Hid (Row wr2 wo.heap.size 33 V) := by rw [← hwr2]; exact HXr.out
          have HBel : Hid (Below w.heap.size w wr2) := by rw [← hwr2]; exact HBr.out.drew.drew
          rw [hwr2]
          clear hwr2
          rcases HO2.out.2 with ⟨rfl, rfl, rfl⟩ | ⟨g, rfl⟩
          · rw [List.take_zero, List.drop_zero] at HIns
            obtain ⟨W4, hW4⟩ : ∃ W4, wr2.drew.alloc (.cells V.toArray 33) = W4 := ⟨_, rfl⟩
            have hb4 : Below wr2.heap.size wr2 W4 := by rw [← hW4]; exact ((Below.refl _ wr2).drew).alloc (Nat.le_refl _) _
            have hs4 : W4.heap.size = wr2.heap.size + 1 := by rw [← hW4]; simp
            have ho4 : OwnIds wr2.heap.size W4 (.slice (some ⟨wr2.heap.size, 0, none⟩) 1 1) [x] := by
              have hr4 : Row W4 wr2.heap.size 33 (u8s x) := by rw [HVg.out, ← hW4]; exact Row.new' wr2.drew 33 V
              refine ⟨by simp [hx.1], .inr ⟨wr2.heap.size, 1, (u8s x).toArray, rfl, Nat.le_refl _, hr4, Nat.le_refl _, by simp only [maxLen]; omega, by simp [hx.1], ?_⟩⟩
              simp [hx.1, List.take_of_length_le]
            have hIr : IsIds W4.heap.size W4 none 0 0 (out.drop 0) := (((HO2.out.1.rest (q := none) (by omega) (by omega) (fun h => by omega)).below hb4).mono hb4.size)
            obtain ⟨v5, W5, hrun5, ho5, hg5⟩ := run_append_idl W4 wr2.heap.size 23 _ [x] ho4 hIr (by simp <;> omega) (by omega)
            have hb5 : Below wr2.heap.size wr2 W5 := hb4.grown hg5 (by omega) (fun k e => (World.ownsRow.lt ho4 k e).1)
            have h5all : ∀ y ∈ [x] ++ out.drop 0, y.length = 32 ∧ ∀ z ∈ y, z < 256 := fun y hy => by
              rcases List.mem_append.1 hy with h | h
              · simp at h; subst h; exact hx
              · exact HO2.out.1.2.2.2.1 y (List.mem_of_mem_drop h)
            obtain ⟨q5, n5, c5, rfl, hO5⟩ := OwnIds.out ho5 h5all
            have hn5 : n5 = 1 + (out.drop 0).length := by have := hO5.1.1; simpa [Nat.add_comm] using this.symm
            have hn5l : n5 ≤ 2000 := by rw [hn5]; simp <;> omega
            obtain ⟨g5, rfl⟩ : ∃ g5, q5 = some ⟨g5, 0, none⟩ := by
              rcases hO5.2 with ⟨_, h, _⟩ | h
              · omega
              · exact h
            have hIl : IsIds W5.heap.size W5 none 0 0 (out.take 0) := by
              have h := (HO2.out.1.below hb5).mono hb5.size
              refine ⟨by simp <;> omega, Nat.le_refl _, by omega, fun y hy => h.2.2.2.1 y (List.mem_of_mem_take hy), ?_⟩
              exact .inl rfl
            obtain ⟨v6, W6, hrun6, ho6, hb6⟩ := run_append_full W5 23 hIl (fun h => rfl) hO5.1 (by omega) (by omega)
            have hb26 : Below wr2.heap.size wr2 W6 := hb5.trans (hb6.mono hb5.size)
            have hnew : out.take 0 ++ ([x] ++ out.drop 0) = linksL (ids.take (k + 1)) := by
              rw [← HStep.out, HIns.out, List.take_zero, List.drop_zero, List.append_assoc]
            rw [hnew] at ho6
            obtain ⟨q6, n6, c6, rfl, hO6⟩ := OwnIds.out ho6 (ins_all hI32 (k + 1))
            have HO6 : Hid (OutAt W6 q6 n6 c6 (linksL (ids.take (k + 1)))) := hO6
            have HRun5 : Hid ((Builtin.append_ #[23, 23] 23 #[.slice (some ⟨wr2.heap.size, 0, none⟩) 1 1, .slice none 0 0]).run Try.prog W4 = .ok (.slice (some ⟨g5, 0, none⟩) n5 c5) W5) := hrun5
            have HRun6 : Hid ((Builtin.append_ #[23, 23] 23 #[.slice none 0 0, .slice (some ⟨g5, 0, none⟩) n5 c5]).run Try.prog W5 = .ok (.slice q6 n6 c6) W6) := hrun6
            have HB4 : Hid (Below wr2.heap.size wr2 W4) := hb4
            have HB5 : Hid (Below wr2.heap.size wr2 W5) := hb5
            have HB6 : Hid (Below wr2.heap.size wr2 W6) := hb26
            have HW4 : Hid (wr2.drew.alloc (.cells V.toArray 33) = W4) := hW4
            clear hb4 hs4 ho4 hIr hrun5 ho5 hg5 hb5 h5all hO5 hn5 hIl hrun6 ho6 hb6 hb26 hnew hO6 hW4
            go_wp2
            refine wp_region_held_drew (S := fun W => Below wr2.heap.size wr2 W) (by kernel_rfl) (Below.refl _ _).drew (fun hHeld => ?_)
            refine wpAnyH_takesAt 0 4 8 (of_decide_eq_true (by kernel_rfl)) rfl (fun _ _ _ d _ h => by cases d <;> exact h) (by kernel_rfl) (by kernel_rfl) hHeld ?_
            simp only [List.drop_zero, List.take_succ_cons, List.take_zero]
            iterate 4 (refine wpHeld_step (v := ?_) (by rfl) (fun wz hSw => ?_) ?_; rotate_left; (focus ((try dsimp only at hSw); go_simp; try with_reducible rfl)); (simp only [Act.put, List.setIfInBounds_toArray, List.set_cons_zero, List.set_cons_succ]))
            refine wpHeld_nil ?_
            refine wpAnyH_takesAt 4 1 7 (of_decide_eq_true (by kernel_rfl)) rfl (fun _ _ _ d _ h => by cases d <;> exact h) (by kernel_rfl) (by kernel_rfl) hHeld ?_
            simp only [List.drop_succ_cons, List.drop_zero, List.take_succ_cons, List.take_zero]
            refine wpHeld_load (by rfl) 33 (.tmp 5) rfl wo.heap.size (0) rfl V (fun W hW => (HX2.out.later hW).range) Try.underlying33 (by rw [HV.out]; exact size33) ?_
            (simp only [Act.put]; (try simp only [List.setIfInBounds_toArray]); (try simp only [List.set_cons_succ]); (try simp only [List.set_cons_zero]))
            refine wpHeld_nil ?_
            refine wpAnyH_takesAt 6 3 4 (of_decide_eq_true (by kernel_rfl)) rfl (fun _ _ _ d _ h => by cases d <;> exact h) (by kernel_rfl) (by kernel_rfl) hHeld ?_
            simp only [List.drop_succ_cons, List.drop_zero, List.take_succ_cons, List.take_zero]
            iterate 3 (refine wpHeld_step (v := ?_) (by rfl) (fun wz hSw => ?_) ?_; rotate_left; (focus ((try dsimp only at hSw); go_simp; try with_reducible rfl)); (simp only [Act.put, List.setIfInBounds_toArray, List.set_cons_zero, List.set_cons_succ]))
            refine wpHeld_nil ?_
            refine wpAnyH_only (i := 5) (by kernel_rfl) rfl (fun K hK => ?_)
            rw [if_pos (by rfl)]
            refine wp_buildOne 23 33 (.tmp 43) rfl V rfl i0 _ Try.underlying23 hi0 hz0 (by rw [hz1, HV.out]) (by rw [HV.out]; omega) (by rw [HV.out]; omega) ?_
            rw [HW4.out]
            refine hK.out _ _ HB4.out ?_
            clear hK K hHeld
            refine wpAnyH_only (i := 9) (by kernel_rfl) rfl (fun K hK => ?_)
            rw [if_pos (by rfl)]
            refine wp_append_of (.tmp 44) (.tmp 47) 23 rfl rfl rfl HRun5.out ?_
            refine hK.out _ _ HB5.out ?_
            clear hK K
            refine wpAnyH_only (i := 10) (by kernel_rfl) rfl (fun K hK => ?_)
            rw [if_pos (by rfl)]
            refine wp_append_of (.tmp 42) (.tmp 48) 23 rfl rfl rfl HRun6.out ?_
            refine hK.out _ _ HB6.out ?_
            clear hK K
            refine wpAnyH_only (i := 11) (by kernel_rfl) rfl (fun K hK => ?_)
            rw [if_pos (by rfl)]
            go_simp
            refine hK.out _ _ HB6.out ?_
            clear hK K
            refine wpAnyH_done (by kernel_rfl) ?_ _
            go_wp2
            go_roundw
            case rel => exact ⟨k + 1, q6, n6, c6, by omega, by go_num, rfl, HO6.out, HBel.out.trans (HB6.out.mono HBel.out.size)⟩
            case measure => simp [intOf]; omega
          · have hmle : (m : Int) ≤ (c : Int) := by omega
            by_cases hcm0 : c = m
            · obtain rfl : c = m := hcm0
              obtain ⟨W4, hW4⟩ : ∃ W4, wr2.drew.alloc (.cells V.toArray 33) = W4 := ⟨_, rfl⟩
              have hb4 : Below wr2.heap.size wr2 W4 := by rw [← hW4]; exact ((Below.refl _ wr2).drew).alloc (Nat.le_refl _) _
              have hs4 : W4.heap.size = wr2.heap.size + 1 := by rw [← hW4]; simp
              have ho4 : OwnIds wr2.heap.size W4 (.slice (some ⟨wr2.heap.size, 0, none⟩) 1 1) [x] := by
                have hr4 : Row W4 wr2.heap.size 33 (u8s x) := by rw [HVg.out, ← hW4]; exact Row.new' wr2.drew 33 V
                refine ⟨by simp [hx.1], .inr ⟨wr2.heap.size, 1, (u8s x).toArray, rfl, Nat.le_refl _, hr4, Nat.le_refl _, by simp only [maxLen]; omega, by simp [hx.1], ?_⟩⟩
                simp [hx.1, List.take_of_length_le]
              have hIr : IsIds W4.heap.size W4 (some ⟨g, 0, none⟩) 0 0 (out.drop c) := (((HO2.out.1.rest (q := (some ⟨g, 0, none⟩)) (by omega) (by omega) (fun h => by omega)).below hb4).mono hb4.size)
              obtain ⟨v5, W5, hrun5, ho5, hg5⟩ := run_append_idl W4 wr2.heap.size 23 _ [x] ho4 hIr (by simp <;> omega) (by omega)
              have hb5 : Below wr2.heap.size wr2 W5 := hb4.grown hg5 (by omega) (fun k e => (World.ownsRow.lt ho4 k e).1)
              have h5all : ∀ y ∈ [x] ++ out.drop c, y.length = 32 ∧ ∀ z ∈ y, z < 256 := fun y hy => by
                rcases List.mem_append.1 hy with h | h
                · simp at h; subst h; exact hx
                · exact HO2.out.1.2.2.2.1 y (List.mem_of_mem_drop h)
              obtain ⟨q5, n5, c5, rfl, hO5⟩ := OwnIds.out ho5 h5all
              have hn5 : n5 = 1 + (out.drop c).length := by have := hO5.1.1; simpa [Nat.add_comm] using this.symm
              have hn5l : n5 ≤ 2000 := by rw [hn5]; simp <;> omega
              obtain ⟨g5, rfl⟩ : ∃ g5, q5 = some ⟨g5, 0, none⟩ := by
                rcases hO5.2 with ⟨_, h, _⟩ | h
                · omega
                · exact h
              have hIl : IsIds W5.heap.size W5 (some ⟨g, 0, none⟩) c c (out.take c) := by
                have h := (HO2.out.1.below hb5).mono hb5.size
                refine ⟨by simp <;> omega, Nat.le_refl _, by omega, fun y hy => h.2.2.2.1 y (List.mem_of_mem_take hy), ?_⟩
                rcases h.2.2.2.2 with h0 | ⟨b', off', e, hb, hc⟩
                · exact .inl (by omega)
                · cases e
                  refine .inr ⟨g, 0, rfl, hb, fun i hi => ?_⟩
                  have := hc i (by omega)
                  simpa [List.getD_eq_getElem?_getD, List.getElem?_take, hi] using this
              obtain ⟨v6, W6, hrun6, ho6, hb6⟩ := run_append_full W5 23 hIl (fun h => by cases h) hO5.1 (by omega) (by omega)
              have hb26 : Below wr2.heap.size wr2 W6 := hb5.trans (hb6.mono hb5.size)
              have hnew : out.take c ++ ([x] ++ out.drop c) = linksL (ids.take (k + 1)) := by
                rw [← HStep.out, HIns.out, List.append_assoc]
              rw [hnew] at ho6
              obtain ⟨q6, n6, c6, rfl, hO6⟩ := OwnIds.out ho6 (ins_all hI32 (k + 1))
              have HO6 : Hid (OutAt W6 q6 n6 c6 (linksL (ids.take (k + 1)))) := hO6
              have HRun5 : Hid ((Builtin.append_ #[23, 23] 23 #[.slice (some ⟨wr2.heap.size, 0, none⟩) 1 1, .slice (some ⟨g, 0, none⟩) 0 0]).run Try.prog W4 = .ok (.slice (some ⟨g5, 0, none⟩) n5 c5) W5) := hrun5
              have HRun6 : Hid ((Builtin.append_ #[23, 23] 23 #[.slice (some ⟨g, 0, none⟩) c c, .slice (some ⟨g5, 0, none⟩) n5 c5]).run Try.prog W5 = .ok (.slice q6 n6 c6) W6) := hrun6
              have HB4 : Hid (Below wr2.heap.size wr2 W4) := hb4
              have HB5 : Hid (Below wr2.heap.size wr2 W5) := hb5
              have HB6 : Hid (Below wr2.heap.size wr2 W6) := hb26
              have HW4 : Hid (wr2.drew.alloc (.cells V.toArray 33) = W4) := hW4
              clear hb4 hs4 ho4 hIr hrun5 ho5 hg5 hb5 h5all hO5 hn5 hIl hrun6 ho6 hb6 hb26 hnew hO6 hW4
              go_wp2
              refine wp_region_held_drew (S := fun W => Below wr2.heap.size wr2 W) (by kernel_rfl) (Below.refl _ _).drew (fun hHeld => ?_)
              refine wpAnyH_takesAt 0 4 8 (of_decide_eq_true (by kernel_rfl)) rfl (fun _ _ _ d _ h => by cases d <;> exact h) (by kernel_rfl) (by kernel_rfl) hHeld ?_
              simp only [List.drop_zero, List.take_succ_cons, List.take_zero]
              iterate 4 (refine wpHeld_step (v := ?_) (by rfl) (fun wz hSw => ?_) ?_; rotate_left; (focus ((try dsimp only at hSw); go_simp; try with_reducible rfl)); (simp only [Act.put, List.setIfInBounds_toArray, List.set_cons_zero, List.set_cons_succ]))
              refine wpHeld_nil ?_
              refine wpAnyH_takesAt 4 1 7 (of_decide_eq_true (by kernel_rfl)) rfl (fun _ _ _ d _ h => by cases d <;> exact h) (by kernel_rfl) (by kernel_rfl) hHeld ?_
              simp only [List.drop_succ_cons, List.drop_zero, List.take_succ_cons, List.take_zero]
              refine wpHeld_load (by rfl) 33 (.tmp 5) rfl wo.heap.size (0) rfl V (fun W hW => (HX2.out.later hW).range) Try.underlying33 (by rw [HV.out]; exact size33) ?_
              (simp only [Act.put]; (try simp only [List.setIfInBounds_toArray]); (try simp only [List.set_cons_succ]); (try simp only [List.set_cons_zero]))
              refine wpHeld_nil ?_
              refine wpAnyH_takesAt 6 3 4 (of_decide_eq_true (by kernel_rfl)) rfl (fun _ _ _ d _ h => by cases d <;> exact h) (by kernel_rfl) (by kernel_rfl) hHeld ?_
              simp only [List.drop_succ_cons, List.drop_zero, List.take_succ_cons, List.take_zero]
              iterate 3 (refine wpHeld_step (v := ?_) (by rfl) (fun wz hSw => ?_) ?_; rotate_left; (focus ((try dsimp only at hSw); go_simp; try with_reducible rfl)); (simp only [Act.put, List.setIfInBounds_toArray, List.set_cons_zero, List.set_cons_succ]))
              refine wpHeld_nil ?_
              refine wpAnyH_only (i := 5) (by kernel_rfl) rfl (fun K hK => ?_)
              rw [if_pos (by rfl)]
              refine wp_buildOne 23 33 (.tmp 43) rfl V rfl i0 _ Try.underlying23 hi0 hz0 (by rw [hz1, HV.out]) (by rw [HV.out]; omega) (by rw [HV.out]; omega) ?_
              rw [HW4.out]
              refine hK.out _ _ HB4.out ?_
              clear hK K hHeld
              refine wpAnyH_only (i := 9) (by kernel_rfl) rfl (fun K hK => ?_)
              rw [if_pos (by rfl)]
              refine wp_append_of (.tmp 44) (.tmp 47) 23 rfl rfl rfl HRun5.out ?_
              refine hK.out _ _ HB5.out ?_
              clear hK K
              refine wpAnyH_only (i := 10) (by kernel_rfl) rfl (fun K hK => ?_)
              rw [if_pos (by rfl)]
              refine wp_append_of (.tmp 42) (.tmp 48) 23 rfl rfl rfl HRun6.out ?_
              refine hK.out _ _ HB6.out ?_
              clear hK K
              refine wpAnyH_only (i := 11) (by kernel_rfl) rfl (fun K hK => ?_)
              rw [if_pos (by rfl)]
              go_simp
              refine hK.out _ _ HB6.out ?_
              clear hK K
              refine wpAnyH_done (by kernel_rfl) ?_ _
              go_wp2
              go_roundw
              case rel => exact ⟨k + 1, q6, n6, c6, by omega, by go_num, rfl, HO6.out, HBel.out.trans (HB6.out.mono HBel.out.size)⟩
              case measure => simp [intOf]; omega
            · have hcm : (c = m) = False := eq_false hcm0
              obtain ⟨W4, hW4⟩ : ∃ W4, wr2.drew.alloc (.cells V.toArray 33) = W4 := ⟨_, rfl⟩
              have hb4 : Below wr2.heap.size wr2 W4 := by rw [← hW4]; exact ((Below.refl _ wr2).drew).alloc (Nat.le_refl _) _
              have hs4 : W4.heap.size = wr2.heap.size + 1 := by rw [← hW4]; simp
              have ho4 : OwnIds wr2.heap.size W4 (.slice (some ⟨wr2.heap.size, 0, none⟩) 1 1) [x] := by
                have hr4 : Row W4 wr2.heap.size 33 (u8s x) := by rw [HVg.out, ← hW4]; exact Row.new' wr2.drew 33 V
                refine ⟨by simp [hx.1], .inr ⟨wr2.heap.size, 1, (u8s x).toArray, rfl, Nat.le_refl _, hr4, Nat.le_refl _, by simp only [maxLen]; omega, by simp [hx.1], ?_⟩⟩
                simp [hx.1, List.take_of_length_le]
              have hIr : IsIds W4.heap.size W4 (some ⟨g, m * 32, none⟩) 0 (c - m) (out.drop m) := (((HO2.out.1.rest (q := (some ⟨g, m * 32, none⟩)) (by omega) (by omega) (fun h => ⟨g, 0, rfl, by simp⟩)).below hb4).mono hb4.size)
              obtain ⟨v5, W5, hrun5, ho5, hg5⟩ := run_append_idl W4 wr2.heap.size 23 _ [x] ho4 hIr (by simp <;> omega) (by omega)
              have hb5 : Below wr2.heap.size wr2 W5 := hb4.grown hg5 (by omega) (fun k e => (World.ownsRow.lt ho4 k e).1)
              have h5all : ∀ y ∈ [x] ++ out.drop m, y.length = 32 ∧ ∀ z ∈ y, z < 256 := fun y hy => by
                rcases List.mem_append.1 hy with h | h
                · simp at h; subst h; exact hx
                · exact HO2.out.1.2.2.2.1 y (List.mem_of_mem_drop h)
              obtain ⟨q5, n5, c5, rfl, hO5⟩ := OwnIds.out ho5 h5all
              have hn5 : n5 = 1 + (out.drop m).length := by have := hO5.1.1; simpa [Nat.add_comm] using this.symm
              have hn5l : n5 ≤ 2000 := by rw [hn5]; simp <;> omega
              obtain ⟨g5, rfl⟩ : ∃ g5, q5 = some ⟨g5, 0, none⟩ := by
                rcases hO5.2 with ⟨_, h, _⟩ | h
                · omega
                · exact h
              have hIl : IsIds W5.heap.size W5 (some ⟨g, 0, none⟩) m m (out.take m) := by
                have h := (HO2.out.1.below hb5).mono hb5.size
                refine ⟨by simp <;> omega, Nat.le_refl _, by omega, fun y hy => h.2.2.2.1 y (List.mem_of_mem_take hy), ?_⟩
                rcases h.2.2.2.2 with h0 | ⟨b', off', e, hb, hc⟩
                · exact .inl (by omega)
                · cases e
                  refine .inr ⟨g, 0, rfl, hb, fun i hi => ?_⟩
                  have := hc i (by omega)
                  simpa [List.getD_eq_getElem?_getD, List.getElem?_take, hi] using this
              obtain ⟨v6, W6, hrun6, ho6, hb6⟩ := run_append_full W5 23 hIl (fun h => by cases h) hO5.1 (by omega) (by omega)
              have hb26 : Below wr2.heap.size wr2 W6 := hb5.trans (hb6.mono hb5.size)
              have hnew : out.take m ++ ([x] ++ out.drop m) = linksL (ids.take (k + 1)) := by
                rw [← HStep.out, HIns.out, List.append_assoc]
              rw [hnew] at ho6
              obtain ⟨q6, n6, c6, rfl, hO6⟩ := OwnIds.out ho6 (ins_all hI32 (k + 1))
              have HO6 : Hid (OutAt W6 q6 n6 c6 (linksL (ids.take (k + 1)))) := hO6
              have HRun5 : Hid ((Builtin.append_ #[23, 23] 23 #[.slice (some ⟨wr2.heap.size, 0, none⟩) 1 1, .slice (some ⟨g, m * 32, none⟩) 0 (c - m)]).run Try.prog W4 = .ok (.slice (some ⟨g5, 0, none⟩) n5 c5) W5) := hrun5
              have HRun6 : Hid ((Builtin.append_ #[23, 23] 23 #[.slice (some ⟨g, 0, none⟩) m m, .slice (some ⟨g5, 0, none⟩) n5 c5]).run Try.prog W5 = .ok (.slice q6 n6 c6) W6) := hrun6
              have HB4 : Hid (Below wr2.heap.size wr2 W4) := hb4
              have HB5 : Hid (Below wr2.heap.size wr2 W5) := hb5
              have HB6 : Hid (Below wr2.heap.size wr2 W6) := hb26
              have HW4 : Hid (wr2.drew.alloc (.cells V.toArray 33) = W4) := hW4
              clear hb4 hs4 ho4 hIr hrun5 ho5 hg5 hb5 h5all hO5 hn5 hIl hrun6 ho6 hb6 hb26 hnew hO6 hW4
              go_wp2
              refine wp_region_held_drew (S := fun W => Below wr2.heap.size wr2 W) (by kernel_rfl) (Below.refl _ _).drew (fun hHeld => ?_)
              refine wpAnyH_takesAt 0 4 8 (of_decide_eq_true (by kernel_rfl)) rfl (fun _ _ _ d _ h => by cases d <;> exact h) (by kernel_rfl) (by kernel_rfl) hHeld ?_
              simp only [List.drop_zero, List.take_succ_cons, List.take_zero]
              iterate 4 (refine wpHeld_step (v := ?_) (by rfl) (fun wz hSw => ?_) ?_; rotate_left; (focus ((try dsimp only at hSw); go_simp; try with_reducible rfl)); (simp only [Act.put, List.setIfInBounds_toArray, List.set_cons_zero, List.set_cons_succ]))
              refine wpHeld_nil ?_
              refine wpAnyH_takesAt 4 1 7 (of_decide_eq_true (by kernel_rfl)) rfl (fun _ _ _ d _ h => by cases d <;> exact h) (by kernel_rfl) (by kernel_rfl) hHeld ?_
              simp only [List.drop_succ_cons, List.drop_zero, List.take_succ_cons, List.take_zero]
              refine wpHeld_load (by rfl) 33 (.tmp 5) rfl wo.heap.size (0) rfl V (fun W hW => (HX2.out.later hW).range) Try.underlying33 (by rw [HV.out]; exact size33) ?_
              (simp only [Act.put]; (try simp only [List.setIfInBounds_toArray]); (try simp only [List.set_cons_succ]); (try simp only [List.set_cons_zero]))
              refine wpHeld_nil ?_
              refine wpAnyH_takesAt 6 3 4 (of_decide_eq_true (by kernel_rfl)) rfl (fun _ _ _ d _ h => by cases d <;> exact h) (by kernel_rfl) (by kernel_rfl) hHeld ?_
              simp only [List.drop_succ_cons, List.drop_zero, List.take_succ_cons, List.take_zero]
              iterate 3 (refine wpHeld_step (v := ?_) (by rfl) (fun wz hSw => ?_) ?_; rotate_left; (focus ((try dsimp only at hSw); go_simp; try with_reducible rfl)); (simp only [Act.put, List.setIfInBounds_toArray, List.set_cons_zero, List.set_cons_succ]))
              refine wpHeld_nil ?_
              refine wpAnyH_only (i := 5) (by kernel_rfl) rfl (fun K hK => ?_)
              rw [if_pos (by rfl)]
              refine wp_buildOne 23 33 (.tmp 43) rfl V rfl i0 _ Try.underlying23 hi0 hz0 (by rw [hz1, HV.out]) (by rw [HV.out]; omega) (by rw [HV.out]; omega) ?_
              rw [HW4.out]
              refine hK.out _ _ HB4.out ?_
              clear hK K hHeld
              refine wpAnyH_only (i := 9) (by kernel_rfl) rfl (fun K hK => ?_)
              rw [if_pos (by rfl)]
              refine wp_append_of (.tmp 44) (.tmp 47) 23 rfl rfl rfl HRun5.out ?_
              refine hK.out _ _ HB5.out ?_
              clear hK K
              refine wpAnyH_only (i := 10) (by kernel_rfl) rfl (fun K hK => ?_)
              rw [if_pos (by rfl)]
              refine wp_append_of (.tmp 42) (.tmp 48) 23 rfl rfl rfl HRun6.out ?_
              refine hK.out _ _ HB6.out ?_
              clear hK K
              refine wpAnyH_only (i := 11) (by kernel_rfl) rfl (fun K hK => ?_)
              rw [if_pos (by rfl)]
              go_simp
              refine hK.out _ _ HB6.out ?_
              clear hK K
              refine wpAnyH_done (by kernel_rfl) ?_ _
              go_wp2
              go_roundw
              case rel => exact ⟨k + 1, q6, n6, c6, by omega, by go_num, rfl, HO6.out, HBel.out.trans (HB6.out.mono HBel.out.size)⟩
              case measure => simp [intOf]; omega
    · obtain rfl : k = len := by omega
      rw [List.take_of_length_le (by omega)] at hout
      go_wp2
      go_ret
      exact ⟨_, _, _, rfl, hout, hbel⟩
end Go.Proofs.Ytfclbdlkpnoceaa
