/-
  A list of parts in memory; the law's few.
-/
import Derived.Test.YtdebcpfjldgalaaIds
namespace Go.Proofs.Ytdebcpfjldgalaa
open Go.RowKit

/-- A part. -/
structure Pt where
  kind : Int
  n : Nat
  bs : List Nat
  ids : List (List Nat)
  most : Int
def partCells (kd : Int) (nn : Nat) (q1 : Option Addr) (l1 c1 : Nat) (q2 : Option Addr) (l2 c2 : Nat) (mm : Int) : List Value := [.int .i64 kd, .int .u64 (nn : Nat), .slice q1 l1 c1, .slice q2 l2 c2, .int .i64 mm]
theorem partCells_one (kd : Int) (nn : Nat) (q1 : Option Addr) (l1 c1 : Nat) (q2 : Option Addr) (l2 c2 : Nat) (mm : Int) : ∀ v ∈ partCells kd nn q1 l1 c1 q2 l2 c2 mm, v.oneCell' = true := by
  intro v hv
  simp only [partCells, List.mem_cons, List.not_mem_nil, or_false] at hv
  rcases hv with rfl | rfl | rfl | rfl | rfl <;> rfl
theorem size35 {kd : Int} {nn : Nat} {q1 : Option Addr} {l1 c1 : Nat} {q2 : Option Addr} {l2 c2 : Nat} {mm : Int} : (Try.prog.info? 35).map (·.size) = some (partCells kd nn q1 l1 c1 q2 l2 c2 mm).length := by
  show _ = some 5
  kernel_rfl
/-- Part x lies at b, off. -/
def PtAt (n₀ : Nat) (W : World) (b off : Nat) (x : Pt) : Prop :=
  ∃ q1 l1 c1 q2 l2 c2, W.rangeAt b off (partCells x.kind x.n q1 l1 c1 q2 l2 c2 x.most) ∧ IsBytes n₀ W q1 l1 c1 x.bs ∧ IsIds n₀ W q2 l2 c2 x.ids ∧ x.n < 18446744073709551616 ∧ (-9223372036854775808 ≤ x.most ∧ x.most ≤ 9223372036854775807)
theorem PtAt.below {n₀ : Nat} {A B : World} (h : Below n₀ A B) {b off : Nat} {x : Pt} (hb : b < n₀) : PtAt n₀ A b off x → PtAt n₀ B b off x
  | ⟨q1, l1, c1, q2, l2, c2, h1, h2, h3, h4, h5⟩ => ⟨q1, l1, c1, q2, l2, c2, rangeAt_below h hb h1, h2.below h, h3.below h, h4, h5⟩
def noPt : Pt := ⟨0, 0, [], [], 0⟩
/-- A list of parts. -/
def IsParts (n₀ : Nat) (W : World) (p : Option Addr) (len cap : Nat) (xs : List Pt) : Prop :=
  xs.length = len ∧ len ≤ cap ∧ cap ≤ 9223372036854775807 ∧ (len = 0 ∨ ∃ b off, p = some ⟨b, off, none⟩ ∧ b < n₀ ∧ ∀ i, i < len → PtAt n₀ W b (off + i * 5) (xs.getD i noPt))
theorem IsParts.below {n₀ : Nat} {A B : World} (h : Below n₀ A B) {p : Option Addr} {len cap : Nat} {xs : List Pt} : IsParts n₀ A p len cap xs → IsParts n₀ B p len cap xs
  | ⟨h1, h2, h3, .inl e⟩ => ⟨h1, h2, h3, .inl e⟩
  | ⟨h1, h2, h3, .inr ⟨b, off, e, hb, hc⟩⟩ => ⟨h1, h2, h3, .inr ⟨b, off, e, hb, fun i hi => (hc i hi).below h hb⟩⟩
theorem IsParts.at {n₀ : Nat} {W : World} {p : Option Addr} {len cap : Nat} {xs : List Pt} (h : IsParts n₀ W p len cap xs) {k : Nat} (hk : k < len) : ∃ b off, p = some ⟨b, off, none⟩ ∧ b < n₀ ∧ PtAt n₀ W b (off + k * 5) (xs.getD k noPt) := by
  rcases h.2.2.2 with h | ⟨b, off, e, hb, hc⟩
  · omega
  · exact ⟨b, off, e, hb, hc k hk⟩
theorem pt_at {xs : List Pt} {k : Nat} (hk : k < xs.length) : xs.getD k noPt ∈ xs := by
  rw [List.getD_eq_getElem?_getD, List.getElem?_eq_getElem hk, Option.getD_some]
  exact List.getElem_mem hk
theorem pt_take (xs : List Pt) {k : Nat} (hk : k < xs.length) : xs.take (k + 1) = xs.take k ++ [xs.getD k noPt] := by
  rw [List.take_succ_eq_append_getElem hk, List.getD_eq_getElem?_getD, List.getElem?_eq_getElem hk, Option.getD_some]

/-- Whether a part is small; whether parts are. -/
def smallB (x : Pt) : Bool := decide (x.bs.length ≤ 200) && decide (x.ids.length ≤ 10)
def fewB (xs : List Pt) : Bool := xs.all smallB && decide (xs.length ≤ 20)

set_option maxRecDepth 100000 in
set_option maxHeartbeats 1000000 in
/-- few -/
theorem few_any (p : Option Addr) (len cap : Nat) (xs : List Pt) (w : World) (hI : IsParts w.heap.size w p len cap xs) :
    Calls Try.prog 9 #[.slice p len cap] w fun e w' => e = .returned (.bool (fewB xs)) ∧ Below w.heap.size w w' := by
  have HI : Hid (IsParts w.heap.size w p len cap xs) := hI
  have HL : Hid (xs.length = len) := hI.1
  have hl63 : len ≤ 9223372036854775807 := by have := hI.2.1; have := hI.2.2.1; omega
  clear hI
  go_enter Try.func9, Try.ntmps9
  go_wp2
  go_loopw [7] (fun i wr => ∃ (k : Nat), k ≤ len ∧ i = .int .i64 k ∧ (xs.take k).all smallB = true ∧ Below w.heap.size w wr) (fun i _ => len - (intOf i).toNat)
  case atStart => exact ⟨0, Nat.zero_le _, rfl, by simp, Below.refl _ _⟩
  case round =>
    obtain ⟨k, hk, rfl, hall, hbel⟩ := hrel
    have HAll : Hid ((xs.take k).all smallB = true) := hall
    clear hall
    by_cases hlt : k < len
    · have hki : (k : Int) < (len : Int) := by omega
      have hkl : k < xs.length := by rw [HL.out]; exact hlt
      obtain ⟨b, off, rfl, hb, hP⟩ := (HI.out.below hbel).at hlt
      have HT : Hid (xs.take (k + 1) = xs.take k ++ [xs.getD k noPt]) := pt_take xs hkl
      have HM : Hid (xs.getD k noPt ∈ xs) := pt_at hkl
      generalize xs.getD k noPt = x at *
      obtain ⟨q1, l1, c1, q2, l2, c2, hrg, hI1, hI2, hn, hmm⟩ := hP
      have hl1 := hI1.1
      have hl2 := hI2.1
      have hc1 : l1 ≤ 9223372036854775807 := by have := hI1.2.1; have := hI1.2.2.1; omega
      have hc2 : l2 ≤ 9223372036854775807 := by have := hI2.2.1; have := hI2.2.2.1; omega
      have HS : Hid (smallB x = (decide (l1 ≤ 200) && decide (l2 ≤ 10))) := by show _ = _; rw [smallB, hl1, hl2]
      generalize x.kind = kd at *
      generalize x.n = nn at *
      generalize x.most = mm at *
      have HRg : Hid (wr.rangeAt b (off + k * 5) (partCells kd nn q1 l1 c1 q2 l2 c2 mm)) := hrg
      clear hrg hI1 hI2 hl1 hl2 hkl
      by_cases h1 : 200 < l1
      · have h1i : (200 : Int) < (l1 : Int) := by omega
        go_wp2_with (first
          | ((with_reducible show wpList _ _ _ (Oper.mk _ (Op.load 35 (.tmp 9)) _ _ _ _ :: _) _ _); refine wpList_load_mid rfl 35 (.tmp 9) rfl b (off + k * 5) rfl (partCells kd nn q1 l1 c1 q2 l2 c2 mm) _ HRg.out Try.underlying35 rfl size35 ?_; simp only [Act.put, List.setIfInBounds_toArray, List.set_cons_zero, List.set_cons_succ])
          | ((with_reducible show wpList _ _ _ (Oper.mk _ (Op.store 35 (.tmp 4) (.tmp 10)) _ _ _ _ :: _) _ _); refine wpList_store_Row rfl 35 (.tmp 4) (.tmp 10) rfl (partCells kd nn q1 l1 c1 q2 l2 c2 mm) rfl rfl (Row.new wr 35 #[.int .i64 0, .int .u64 0, .slice none 0 0, .slice none 0 0, .int .i64 0]) size35 rfl (partCells_one _ _ _ _ _ _ _ _ _) ?_; have hRP := (Row.new wr 35 #[.int .i64 0, .int .u64 0, .slice none 0 0, .slice none 0 0, .int .i64 0]).sets_all (vs := partCells kd nn q1 l1 c1 q2 l2 c2 mm) rfl; have hb2 : Below wr.heap.size wr ((wr.alloc (.cells #[.int .i64 0, .int .u64 0, .slice none 0 0, .slice none 0 0, .int .i64 0] 35)).setCells wr.heap.size 0 (partCells kd nn q1 l1 c1 q2 l2 c2 mm)) := below_setCells (Nat.le_refl _) _ _ ((Below.refl _ wr).alloc (Nat.le_refl _) _); have hc0 := hRP.cell (i := 0) rfl; have hc1 := hRP.cell (i := 1) rfl; have hc2 := hRP.cell (i := 2) rfl; have hc3 := hRP.cell (i := 3) rfl; have hc4 := hRP.cell (i := 4) rfl; have HRP : Hid (Row _ _ _ _) := hRP; clear hRP; generalize (wr.alloc (.cells #[.int .i64 0, .int .u64 0, .slice none 0 0, .slice none 0 0, .int .i64 0] 35)).setCells wr.heap.size 0 (partCells kd nn q1 l1 c1 q2 l2 c2 mm) = W2 at *; simp only [Act.put])
          )
        go_ret
        have hx : smallB x = false := by rw [HS.out, decide_eq_false (by omega)]; rfl
        refine ⟨?_, hbel.trans (hb2.mono hbel.size)⟩
        rw [fewB, show xs.all smallB = false by rw [List.all_eq_false]; exact ⟨x, HM.out, by simp [hx]⟩]
        rfl
      · have h1i : ¬ (200 : Int) < (l1 : Int) := by omega
        by_cases h2 : 10 < l2
        · have h2i : (10 : Int) < (l2 : Int) := by omega
          go_wp2_with (first
            | ((with_reducible show wpList _ _ _ (Oper.mk _ (Op.load 35 (.tmp 9)) _ _ _ _ :: _) _ _); refine wpList_load_mid rfl 35 (.tmp 9) rfl b (off + k * 5) rfl (partCells kd nn q1 l1 c1 q2 l2 c2 mm) _ HRg.out Try.underlying35 rfl size35 ?_; simp only [Act.put, List.setIfInBounds_toArray, List.set_cons_zero, List.set_cons_succ])
            | ((with_reducible show wpList _ _ _ (Oper.mk _ (Op.store 35 (.tmp 4) (.tmp 10)) _ _ _ _ :: _) _ _); refine wpList_store_Row rfl 35 (.tmp 4) (.tmp 10) rfl (partCells kd nn q1 l1 c1 q2 l2 c2 mm) rfl rfl (Row.new wr 35 #[.int .i64 0, .int .u64 0, .slice none 0 0, .slice none 0 0, .int .i64 0]) size35 rfl (partCells_one _ _ _ _ _ _ _ _ _) ?_; have hRP := (Row.new wr 35 #[.int .i64 0, .int .u64 0, .slice none 0 0, .slice none 0 0, .int .i64 0]).sets_all (vs := partCells kd nn q1 l1 c1 q2 l2 c2 mm) rfl; have hb2 : Below wr.heap.size wr ((wr.alloc (.cells #[.int .i64 0, .int .u64 0, .slice none 0 0, .slice none 0 0, .int .i64 0] 35)).setCells wr.heap.size 0 (partCells kd nn q1 l1 c1 q2 l2 c2 mm)) := below_setCells (Nat.le_refl _) _ _ ((Below.refl _ wr).alloc (Nat.le_refl _) _); have hc0 := hRP.cell (i := 0) rfl; have hc1 := hRP.cell (i := 1) rfl; have hc2 := hRP.cell (i := 2) rfl; have hc3 := hRP.cell (i := 3) rfl; have hc4 := hRP.cell (i := 4) rfl; have HRP : Hid (Row _ _ _ _) := hRP; clear hRP; generalize (wr.alloc (.cells #[.int .i64 0, .int .u64 0, .slice none 0 0, .slice none 0 0, .int .i64 0] 35)).setCells wr.heap.size 0 (partCells kd nn q1 l1 c1 q2 l2 c2 mm) = W2 at *; simp only [Act.put])
            )
          go_ret
          have hx : smallB x = false := by rw [HS.out, decide_eq_true (show l1 ≤ 200 by omega), decide_eq_false (show ¬ l2 ≤ 10 by omega)]; rfl
          refine ⟨?_, hbel.trans (hb2.mono hbel.size)⟩
          rw [fewB, show xs.all smallB = false by rw [List.all_eq_false]; exact ⟨x, HM.out, by simp [hx]⟩]
          rfl
        · have h2i : ¬ (10 : Int) < (l2 : Int) := by omega
          go_wp2_with (first
            | ((with_reducible show wpList _ _ _ (Oper.mk _ (Op.load 35 (.tmp 9)) _ _ _ _ :: _) _ _); refine wpList_load_mid rfl 35 (.tmp 9) rfl b (off + k * 5) rfl (partCells kd nn q1 l1 c1 q2 l2 c2 mm) _ HRg.out Try.underlying35 rfl size35 ?_; simp only [Act.put, List.setIfInBounds_toArray, List.set_cons_zero, List.set_cons_succ])
            | ((with_reducible show wpList _ _ _ (Oper.mk _ (Op.store 35 (.tmp 4) (.tmp 10)) _ _ _ _ :: _) _ _); refine wpList_store_Row rfl 35 (.tmp 4) (.tmp 10) rfl (partCells kd nn q1 l1 c1 q2 l2 c2 mm) rfl rfl (Row.new wr 35 #[.int .i64 0, .int .u64 0, .slice none 0 0, .slice none 0 0, .int .i64 0]) size35 rfl (partCells_one _ _ _ _ _ _ _ _ _) ?_; have hRP := (Row.new wr 35 #[.int .i64 0, .int .u64 0, .slice none 0 0, .slice none 0 0, .int .i64 0]).sets_all (vs := partCells kd nn q1 l1 c1 q2 l2 c2 mm) rfl; have hb2 : Below wr.heap.size wr ((wr.alloc (.cells #[.int .i64 0, .int .u64 0, .slice none 0 0, .slice none 0 0, .int .i64 0] 35)).setCells wr.heap.size 0 (partCells kd nn q1 l1 c1 q2 l2 c2 mm)) := below_setCells (Nat.le_refl _) _ _ ((Below.refl _ wr).alloc (Nat.le_refl _) _); have hc0 := hRP.cell (i := 0) rfl; have hc1 := hRP.cell (i := 1) rfl; have hc2 := hRP.cell (i := 2) rfl; have hc3 := hRP.cell (i := 3) rfl; have hc4 := hRP.cell (i := 4) rfl; have HRP : Hid (Row _ _ _ _) := hRP; clear hRP; generalize (wr.alloc (.cells #[.int .i64 0, .int .u64 0, .slice none 0 0, .slice none 0 0, .int .i64 0] 35)).setCells wr.heap.size 0 (partCells kd nn q1 l1 c1 q2 l2 c2 mm) = W2 at *; simp only [Act.put])
            )
          go_roundw
          case rel =>
            refine ⟨k + 1, by omega, by go_num, ?_, hbel.trans (hb2.mono hbel.size)⟩
            rw [HT.out, List.all_append, HAll.out, List.all_cons, List.all_nil, HS.out, decide_eq_true (show l1 ≤ 200 by omega), decide_eq_true (show l2 ≤ 10 by omega)]
            rfl
          case measure => simp [intOf]; omega
    · obtain rfl : k = len := by omega
      have HE : Hid (xs.all smallB = true) := by
        show _ = _
        have h := HAll.out
        rwa [List.take_of_length_le (by rw [HL.out]; exact Nat.le_refl _)] at h
      clear HAll
      go_wp2
      go_ret
      refine ⟨?_, hbel⟩
      rw [fewB, HE.out, HL.out, Bool.true_and]
      by_cases h20 : k ≤ 20
      · have h20i : (k : Int) ≤ 20 := by omega
        simp [h20, h20i]
      · have h20i : ¬ (k : Int) ≤ 20 := by omega
        simp [h20, h20i]
end Go.Proofs.Ytdebcpfjldgalaa
