/-
  What the law's wrote and written answer: parts as bytes.
-/
import Derived.Test.YtdebcpfjldgalaaPart
namespace Go.Proofs.Ytdebcpfjldgalaa
open Go.RowKit

/-- A part as bytes; parts as bytes. -/
def encPt (x : Pt) : List Nat := if x.kind = 0 then encN x.n else if x.kind = 1 then x.bs else if x.kind = 2 then encText x.bs else encIds x.ids
def encAll (xs : List Pt) : List Nat := xs.flatMap encPt
theorem encAll_succ (xs : List Pt) {k : Nat} (hk : k < xs.length) : encAll (xs.take k) ++ encPt (xs.getD k noPt) = encAll (xs.take (k + 1)) := by
  rw [pt_take xs hk, encAll, encAll, List.flatMap_append]
  simp
/-- What is small is written in few bytes. -/
structure PtOk (x : Pt) : Prop where
  n : x.n < 18446744073709551616
  bs : ∀ z ∈ x.bs, z < 256
  ids : ∀ y ∈ x.ids, y.length = 32 ∧ ∀ z ∈ y, z < 256
theorem PtAt.ok {n₀ : Nat} {W : World} {b off : Nat} {x : Pt} : PtAt n₀ W b off x → PtOk x
  | ⟨_, _, _, _, _, _, _, h2, h3, h4, _⟩ => ⟨h4, h2.2.2.2.1, h3.2.2.2.1⟩
theorem IsParts.ok {n₀ : Nat} {W : World} {p : Option Addr} {len cap : Nat} {xs : List Pt} (h : IsParts n₀ W p len cap xs) : ∀ x ∈ xs, PtOk x := fun x hx => by
  obtain ⟨k, hk, rfl⟩ := List.getElem_of_mem hx
  obtain ⟨b, off, _, _, hP⟩ := h.at (k := k) (by rw [← h.1]; exact hk)
  rw [List.getD_eq_getElem?_getD, List.getElem?_eq_getElem hk, Option.getD_some] at hP
  exact hP.ok
theorem flatten_bytes {ids : List (List Nat)} (h : ∀ y ∈ ids, y.length = 32 ∧ ∀ z ∈ y, z < 256) : ∀ z ∈ ids.flatten, z < 256 := fun z hz => by
  obtain ⟨y, hy, hzy⟩ := List.mem_flatten.1 hz
  exact (h y hy).2 z hzy
theorem encPt_bytes {x : Pt} (h : PtOk x) : ∀ z ∈ encPt x, z < 256 := by
  intro z hz
  unfold encPt encText encIds at hz
  split at hz
  · exact encN_bytes _ z hz
  · split at hz
    · exact h.bs z hz
    · split at hz
      · rcases List.mem_append.1 hz with hz | hz
        · exact encN_bytes _ z hz
        · exact h.bs z hz
      · rcases List.mem_append.1 hz with hz | hz
        · exact encN_bytes _ z hz
        · exact flatten_bytes h.ids z hz
theorem encPt_length {x : Pt} (h : PtOk x) (hs : smallB x = true) : (encPt x).length ≤ 330 := by
  simp only [smallB, Bool.and_eq_true, decide_eq_true_eq] at hs
  have h1 := encN_ten h.n
  have h2 := encN_ten (n := x.bs.length) (by omega)
  have h3 := encN_ten (n := x.ids.length) (by omega)
  have h4 := flat_ids h.ids x.ids.length
  rw [List.take_length] at h4
  unfold encPt encText encIds
  split
  · omega
  · split
    · omega
    · split
      · rw [List.length_append]; omega
      · rw [List.length_append]; omega
theorem encAll_bytes {xs : List Pt} (h : ∀ x ∈ xs, PtOk x) : ∀ z ∈ encAll xs, z < 256 := fun z hz => by
  obtain ⟨x, hx, hz⟩ := List.mem_flatMap.1 hz
  exact encPt_bytes (h x hx) z hz
theorem encAll_length : ∀ {xs : List Pt}, (∀ x ∈ xs, PtOk x) → (∀ x ∈ xs, smallB x = true) → (encAll xs).length ≤ 330 * xs.length
  | [], _, _ => by simp [encAll]
  | x :: r, h, hs => by
    have h1 := encAll_length (xs := r) (fun y hy => h y (List.mem_cons_of_mem _ hy)) (fun y hy => hs y (List.mem_cons_of_mem _ hy))
    have h2 := encPt_length (h x List.mem_cons_self) (hs x List.mem_cons_self)
    simp only [encAll, List.flatMap_cons, List.length_append, List.length_cons] at *
    omega
theorem few_small {xs : List Pt} (h : fewB xs = true) : (∀ x ∈ xs, smallB x = true) ∧ xs.length ≤ 20 := by
  simp only [fewB, Bool.and_eq_true, decide_eq_true_eq, List.all_eq_true] at h
  exact h
theorem small_of {x : Pt} (h : smallB x = true) : x.bs.length ≤ 200 ∧ x.ids.length ≤ 10 := by
  simpa only [smallB, Bool.and_eq_true, decide_eq_true_eq] using h

set_option maxRecDepth 100000 in
set_option maxHeartbeats 2000000 in
/-- wrote -/
theorem wrote_any (p : Option Addr) (len cap : Nat) (xs : List Pt) (w : World) (hI : IsParts w.heap.size w p len cap xs) (hf : fewB xs = true) :
    Calls Try.prog 10 #[.slice p len cap] w fun e w' => ∃ v, e = .returned v ∧ Own w.heap.size w' v (encAll xs) ∧ Below w.heap.size w w' := by
  obtain ⟨hsm, hlen20⟩ := few_small hf
  have HI : Hid (IsParts w.heap.size w p len cap xs) := hI
  have HL : Hid (xs.length = len) := hI.1
  have HOk : Hid (∀ x ∈ xs, PtOk x) := hI.ok
  have HSm : Hid (∀ x ∈ xs, smallB x = true) := hsm
  have hlen : len ≤ 20 := by rw [← hI.1]; exact hlen20
  clear hI hsm hlen20 hf
  have hW0 := WrAt.new w
  have hb0 : Below w.heap.size w (w.alloc (.cells #[.slice none 0 0] 46)) := (Below.refl _ w).alloc (Nat.le_refl _) _
  go_enter Try.func10, Try.ntmps10
  go_wp2
  go_loopw [10] (fun i wr => ∃ (k : Nat), k ≤ len ∧ i = .int .i64 k ∧ WrAt wr w.heap.size (encAll (xs.take k)) ∧ Below w.heap.size w wr) (fun i _ => len - (intOf i).toNat)
  case atStart => exact ⟨0, Nat.zero_le _, rfl, hW0, hb0⟩
  case round =>
    clear hW0 hb0
    obtain ⟨k, hk, rfl, hwr, hbel⟩ := hrel
    have hsz := hbel.size
    have HLk : Hid ((encAll (xs.take k)).length ≤ 330 * k) := by
      show _ ≤ _
      have h := encAll_length (xs := xs.take k) (fun x hx => HOk.out x (List.mem_of_mem_take hx)) (fun x hx => HSm.out x (List.mem_of_mem_take hx))
      rw [List.length_take] at h
      have := HL.out
      omega
    by_cases hlt : k < len
    · have hki : (k : Int) < (len : Int) := by omega
      have hkl : k < xs.length := by rw [HL.out]; exact hlt
      obtain ⟨b, off, rfl, hb, hP⟩ := (HI.out.below hbel).at hlt
      have HFs : Hid (encAll (xs.take k) ++ encPt (xs.getD k noPt) = encAll (xs.take (k + 1))) := encAll_succ xs hkl
      have hxs := small_of (HSm.out _ (pt_at hkl))
      generalize xs.getD k noPt = x at *
      obtain ⟨q1, l1, c1, q2, l2, c2, hrg, hI1, hI2, hn, hmm⟩ := hP
      have hl1 := hI1.1
      have hl2 := hI2.1
      have HI1 : Hid (IsBytes w.heap.size wr q1 l1 c1 x.bs) := hI1
      have HI2 : Hid (IsIds w.heap.size wr q2 l2 c2 x.ids) := hI2
      have HWr : Hid (WrAt wr w.heap.size (encAll (xs.take k))) := hwr
      generalize encAll (xs.take k) = ZS at *
      generalize hZ' : encAll (xs.take (k + 1)) = ZS' at *
      have HZ' : Hid (encAll (xs.take (k + 1)) = ZS') := hZ'
      clear hZ'
      have H0 : Hid (x.kind = 0 → ∀ W, Below wr.heap.size wr W → Calls Try.prog 25 #[.pointer (some ⟨w.heap.size, 0, none⟩), .slice (some ⟨W.heap.size, 0, none⟩) 1 1] (W.alloc (.cells #[.int .u64 (x.n : Nat)] 32)) fun e w' => (∃ v, e = .returned v) ∧ WrAt w' w.heap.size ZS' ∧ Below w.heap.size wr w') := fun hk0 W hW => by
        have hs := hW.size
        refine (writerN_any w.heap.size ZS [x.n] _ 1 1 _ ((HWr.out.later hW).alloc _) (IsNums.one W x.n hn) (by have := HLk.out; omega) (by omega)).mono ?_
        rintro e w' ⟨h1, h2, h3⟩
        rw [encs_one, show encN x.n = encPt x by rw [encPt, if_pos hk0], HFs.out] at h2
        exact ⟨h1, h2, (hW.mono hsz).trans (((Below.refl _ W).alloc (by omega) _).trans h3.1)⟩
      have H1 : Hid (x.kind = 1 → ∀ W, Below wr.heap.size wr W → Calls Try.prog 27 #[.pointer (some ⟨w.heap.size, 0, none⟩), .slice q1 l1 c1] W fun e w' => (∃ v, e = .returned v) ∧ WrAt w' w.heap.size ZS' ∧ Below w.heap.size wr w') := fun hk1 W hW => by
        refine (writerRaw_any w.heap.size ZS x.bs q1 l1 c1 w.heap.size W (HWr.out.later hW) (HI1.out.below (hW.mono hsz)) (by have := HLk.out; omega)).mono ?_
        rintro e w' ⟨h1, h2, h3⟩
        rw [show x.bs = encPt x by rw [encPt, if_neg (by omega), if_pos hk1], HFs.out] at h2
        exact ⟨h1, h2, (hW.mono hsz).trans h3.1⟩
      have H2 : Hid (x.kind = 2 → ∀ W, Below wr.heap.size wr W → Calls Try.prog 28 #[.pointer (some ⟨w.heap.size, 0, none⟩), .slice (some ⟨W.heap.size, 0, none⟩) 1 1] (W.alloc (.cells #[.slice q1 l1 c1] 25)) fun e w' => (∃ v, e = .returned v) ∧ WrAt w' w.heap.size ZS' ∧ Below w.heap.size wr w') := fun hk2 W hW => by
        have hs := hW.size
        have hA : Below w.heap.size wr (W.alloc (.cells #[.slice q1 l1 c1] 25)) := (hW.mono hsz).trans ((Below.refl _ W).alloc (by omega) _)
        refine (writerText_one w.heap.size ZS x.bs W.heap.size q1 l1 c1 _ ((HWr.out.later hW).alloc _) (Row.new W 25 #[.slice q1 l1 c1]) (HI1.out.below hA) (by have := HLk.out; omega)).mono ?_
        rintro e w' ⟨h1, h2, h3⟩
        rw [show encText x.bs = encPt x by rw [encPt, if_neg (by omega), if_neg (by omega), if_pos hk2], HFs.out] at h2
        exact ⟨h1, h2, hA.trans h3⟩
      have H3 : Hid (x.kind ≠ 0 → x.kind ≠ 1 → x.kind ≠ 2 → ∀ W, Below wr.heap.size wr W → Calls Try.prog 29 #[.pointer (some ⟨w.heap.size, 0, none⟩), .slice q2 l2 c2] W fun e w' => (∃ v, e = .returned v) ∧ WrAt w' w.heap.size ZS' ∧ Below w.heap.size wr w') := fun hk0 hk1 hk2 W hW => by
        refine (writerIds_any w.heap.size ZS x.ids q2 l2 c2 W (HWr.out.later hW) (HI2.out.below (hW.mono hsz)) (by have := HLk.out; omega)).mono ?_
        rintro e w' ⟨h1, h2, h3⟩
        rw [show encIds x.ids = encPt x by rw [encPt, if_neg hk0, if_neg hk1, if_neg hk2], HFs.out] at h2
        exact ⟨h1, h2, (hW.mono hsz).trans h3⟩
      generalize x.kind = kd at *
      generalize x.n = nn at *
      generalize x.most = mm at *
      have HRg : Hid (wr.rangeAt b (off + k * 5) (partCells kd nn q1 l1 c1 q2 l2 c2 mm)) := hrg
      clear hrg hI1 hI2 hl1 hl2 hkl hwr hxs
      by_cases hk0 : kd = 0
      · subst hk0
        have HC := H0.out rfl
        go_wp2_with (first
          | ((with_reducible show wpList _ _ _ (Oper.mk _ (Op.load 35 (.tmp 12)) _ _ _ _ :: _) _ _); refine wpList_load_mid rfl 35 (.tmp 12) rfl b (off + k * 5) rfl (partCells 0 nn q1 l1 c1 q2 l2 c2 mm) _ HRg.out Try.underlying35 rfl size35 ?_; simp only [Act.put, List.setIfInBounds_toArray, List.set_cons_zero, List.set_cons_succ])
          | ((with_reducible show wpList _ _ _ (Oper.mk _ (Op.store 35 (.tmp 5) (.tmp 13)) _ _ _ _ :: _) _ _); refine wpList_store_Row rfl 35 (.tmp 5) (.tmp 13) rfl (partCells 0 nn q1 l1 c1 q2 l2 c2 mm) rfl rfl (Row.new wr 35 #[.int .i64 0, .int .u64 0, .slice none 0 0, .slice none 0 0, .int .i64 0]) size35 rfl (partCells_one _ _ _ _ _ _ _ _ _) ?_; have hRP := (Row.new wr 35 #[.int .i64 0, .int .u64 0, .slice none 0 0, .slice none 0 0, .int .i64 0]).sets_all (vs := partCells 0 nn q1 l1 c1 q2 l2 c2 mm) rfl; have hb2 : Below wr.heap.size wr ((wr.alloc (.cells #[.int .i64 0, .int .u64 0, .slice none 0 0, .slice none 0 0, .int .i64 0] 35)).setCells wr.heap.size 0 (partCells 0 nn q1 l1 c1 q2 l2 c2 mm)) := below_setCells (Nat.le_refl _) _ _ ((Below.refl _ wr).alloc (Nat.le_refl _) _); have hc0 := hRP.cell (i := 0) rfl; have hc1 := hRP.cell (i := 1) rfl; have hc2 := hRP.cell (i := 2) rfl; have hc3 := hRP.cell (i := 3) rfl; have hc4 := hRP.cell (i := 4) rfl; have HRP : Hid (Row _ _ _ _) := hRP; clear hRP; generalize (wr.alloc (.cells #[.int .i64 0, .int .u64 0, .slice none 0 0, .slice none 0 0, .int .i64 0] 35)).setCells wr.heap.size 0 (partCells 0 nn q1 l1 c1 q2 l2 c2 mm) = W2 at *; simp only [Act.put])
          | (go_at_call 25; refine (HC W2 hb2).mono ?_; rintro e w3 ⟨⟨v3, rfl⟩, hW3, hb3⟩))
        go_roundw
        case rel => exact ⟨k + 1, by omega, by go_num, by rw [HZ'.out]; exact hW3, hbel.trans hb3⟩
        case measure => simp [intOf]; omega
      · by_cases hk1 : kd = 1
        · subst hk1
          have HC := H1.out rfl
          go_wp2_with (first
            | ((with_reducible show wpList _ _ _ (Oper.mk _ (Op.load 35 (.tmp 12)) _ _ _ _ :: _) _ _); refine wpList_load_mid rfl 35 (.tmp 12) rfl b (off + k * 5) rfl (partCells 1 nn q1 l1 c1 q2 l2 c2 mm) _ HRg.out Try.underlying35 rfl size35 ?_; simp only [Act.put, List.setIfInBounds_toArray, List.set_cons_zero, List.set_cons_succ])
            | ((with_reducible show wpList _ _ _ (Oper.mk _ (Op.store 35 (.tmp 5) (.tmp 13)) _ _ _ _ :: _) _ _); refine wpList_store_Row rfl 35 (.tmp 5) (.tmp 13) rfl (partCells 1 nn q1 l1 c1 q2 l2 c2 mm) rfl rfl (Row.new wr 35 #[.int .i64 0, .int .u64 0, .slice none 0 0, .slice none 0 0, .int .i64 0]) size35 rfl (partCells_one _ _ _ _ _ _ _ _ _) ?_; have hRP := (Row.new wr 35 #[.int .i64 0, .int .u64 0, .slice none 0 0, .slice none 0 0, .int .i64 0]).sets_all (vs := partCells 1 nn q1 l1 c1 q2 l2 c2 mm) rfl; have hb2 : Below wr.heap.size wr ((wr.alloc (.cells #[.int .i64 0, .int .u64 0, .slice none 0 0, .slice none 0 0, .int .i64 0] 35)).setCells wr.heap.size 0 (partCells 1 nn q1 l1 c1 q2 l2 c2 mm)) := below_setCells (Nat.le_refl _) _ _ ((Below.refl _ wr).alloc (Nat.le_refl _) _); have hc0 := hRP.cell (i := 0) rfl; have hc1 := hRP.cell (i := 1) rfl; have hc2 := hRP.cell (i := 2) rfl; have hc3 := hRP.cell (i := 3) rfl; have hc4 := hRP.cell (i := 4) rfl; have HRP : Hid (Row _ _ _ _) := hRP; clear hRP; generalize (wr.alloc (.cells #[.int .i64 0, .int .u64 0, .slice none 0 0, .slice none 0 0, .int .i64 0] 35)).setCells wr.heap.size 0 (partCells 1 nn q1 l1 c1 q2 l2 c2 mm) = W2 at *; simp only [Act.put])
            | (go_at_call 27; refine (HC W2 hb2).mono ?_; rintro e w3 ⟨⟨v3, rfl⟩, hW3, hb3⟩))
          go_roundw
          case rel => exact ⟨k + 1, by omega, by go_num, by rw [HZ'.out]; exact hW3, hbel.trans hb3⟩
          case measure => simp [intOf]; omega
        · by_cases hk2 : kd = 2
          · subst hk2
            have HC := H2.out rfl
            go_wp2_with (first
              | ((with_reducible show wpList _ _ _ (Oper.mk _ (Op.load 35 (.tmp 12)) _ _ _ _ :: _) _ _); refine wpList_load_mid rfl 35 (.tmp 12) rfl b (off + k * 5) rfl (partCells 2 nn q1 l1 c1 q2 l2 c2 mm) _ HRg.out Try.underlying35 rfl size35 ?_; simp only [Act.put, List.setIfInBounds_toArray, List.set_cons_zero, List.set_cons_succ])
              | ((with_reducible show wpList _ _ _ (Oper.mk _ (Op.store 35 (.tmp 5) (.tmp 13)) _ _ _ _ :: _) _ _); refine wpList_store_Row rfl 35 (.tmp 5) (.tmp 13) rfl (partCells 2 nn q1 l1 c1 q2 l2 c2 mm) rfl rfl (Row.new wr 35 #[.int .i64 0, .int .u64 0, .slice none 0 0, .slice none 0 0, .int .i64 0]) size35 rfl (partCells_one _ _ _ _ _ _ _ _ _) ?_; have hRP := (Row.new wr 35 #[.int .i64 0, .int .u64 0, .slice none 0 0, .slice none 0 0, .int .i64 0]).sets_all (vs := partCells 2 nn q1 l1 c1 q2 l2 c2 mm) rfl; have hb2 : Below wr.heap.size wr ((wr.alloc (.cells #[.int .i64 0, .int .u64 0, .slice none 0 0, .slice none 0 0, .int .i64 0] 35)).setCells wr.heap.size 0 (partCells 2 nn q1 l1 c1 q2 l2 c2 mm)) := below_setCells (Nat.le_refl _) _ _ ((Below.refl _ wr).alloc (Nat.le_refl _) _); have hc0 := hRP.cell (i := 0) rfl; have hc1 := hRP.cell (i := 1) rfl; have hc2 := hRP.cell (i := 2) rfl; have hc3 := hRP.cell (i := 3) rfl; have hc4 := hRP.cell (i := 4) rfl; have HRP : Hid (Row _ _ _ _) := hRP; clear hRP; generalize (wr.alloc (.cells #[.int .i64 0, .int .u64 0, .slice none 0 0, .slice none 0 0, .int .i64 0] 35)).setCells wr.heap.size 0 (partCells 2 nn q1 l1 c1 q2 l2 c2 mm) = W2 at *; simp only [Act.put])
              | (go_at_call 28; refine (HC W2 hb2).mono ?_; rintro e w3 ⟨⟨v3, rfl⟩, hW3, hb3⟩))
            go_roundw
            case rel => exact ⟨k + 1, by omega, by go_num, by rw [HZ'.out]; exact hW3, hbel.trans hb3⟩
            case measure => simp [intOf]; omega
          · have HC := H3.out hk0 hk1 hk2
            go_wp2_with (first
              | ((with_reducible show wpList _ _ _ (Oper.mk _ (Op.load 35 (.tmp 12)) _ _ _ _ :: _) _ _); refine wpList_load_mid rfl 35 (.tmp 12) rfl b (off + k * 5) rfl (partCells kd nn q1 l1 c1 q2 l2 c2 mm) _ HRg.out Try.underlying35 rfl size35 ?_; simp only [Act.put, List.setIfInBounds_toArray, List.set_cons_zero, List.set_cons_succ])
              | ((with_reducible show wpList _ _ _ (Oper.mk _ (Op.store 35 (.tmp 5) (.tmp 13)) _ _ _ _ :: _) _ _); refine wpList_store_Row rfl 35 (.tmp 5) (.tmp 13) rfl (partCells kd nn q1 l1 c1 q2 l2 c2 mm) rfl rfl (Row.new wr 35 #[.int .i64 0, .int .u64 0, .slice none 0 0, .slice none 0 0, .int .i64 0]) size35 rfl (partCells_one _ _ _ _ _ _ _ _ _) ?_; have hRP := (Row.new wr 35 #[.int .i64 0, .int .u64 0, .slice none 0 0, .slice none 0 0, .int .i64 0]).sets_all (vs := partCells kd nn q1 l1 c1 q2 l2 c2 mm) rfl; have hb2 : Below wr.heap.size wr ((wr.alloc (.cells #[.int .i64 0, .int .u64 0, .slice none 0 0, .slice none 0 0, .int .i64 0] 35)).setCells wr.heap.size 0 (partCells kd nn q1 l1 c1 q2 l2 c2 mm)) := below_setCells (Nat.le_refl _) _ _ ((Below.refl _ wr).alloc (Nat.le_refl _) _); have hc0 := hRP.cell (i := 0) rfl; have hc1 := hRP.cell (i := 1) rfl; have hc2 := hRP.cell (i := 2) rfl; have hc3 := hRP.cell (i := 3) rfl; have hc4 := hRP.cell (i := 4) rfl; have HRP : Hid (Row _ _ _ _) := hRP; clear hRP; generalize (wr.alloc (.cells #[.int .i64 0, .int .u64 0, .slice none 0 0, .slice none 0 0, .int .i64 0] 35)).setCells wr.heap.size 0 (partCells kd nn q1 l1 c1 q2 l2 c2 mm) = W2 at *; simp only [Act.put])
              | (go_at_call 29; refine (HC W2 hb2).mono ?_; rintro e w3 ⟨⟨v3, rfl⟩, hW3, hb3⟩))
            go_roundw
            case rel => exact ⟨k + 1, by omega, by go_num, by rw [HZ'.out]; exact hW3, hbel.trans hb3⟩
            case measure => simp [intOf]; omega
    · obtain rfl : k = len := by omega
      have HBy : Hid (Calls Try.prog 26 #[.pointer (some ⟨w.heap.size, 0, none⟩)] wr fun e w' => ∃ v, e = .returned v ∧ Own wr.heap.size w' v (encAll xs) ∧ Below wr.heap.size wr w') := by
        have h := HLk.out
        rw [List.take_of_length_le (by rw [HL.out]; exact Nat.le_refl _)] at hwr h
        exact writerBytes_any w.heap.size (encAll xs) wr hwr (encAll_bytes HOk.out) (by omega)
      clear hwr
      go_wp2_with (go_at_call 26; refine HBy.out.mono ?_; rintro e w3 ⟨v3, rfl, hown3, hb3⟩)
      go_ret
      exact ⟨_, rfl, hown3.mono hsz, hbel.trans (hb3.mono hsz)⟩
set_option maxRecDepth 100000 in
set_option maxHeartbeats 2000000 in
/-- written -/
theorem written_any (p : Option Addr) (len cap : Nat) (xs : List Pt) (w : World) (hI : IsParts w.heap.size w p len cap xs) (hf : fewB xs = true) :
    Calls Try.prog 11 #[.slice p len cap] w fun e w' => ∃ v, e = .returned v ∧ Own w.heap.size w' v (encAll xs) ∧ Below w.heap.size w w' := by
  obtain ⟨hsm, hlen20⟩ := few_small hf
  have HI : Hid (IsParts w.heap.size w p len cap xs) := hI
  have HL : Hid (xs.length = len) := hI.1
  have HOk : Hid (∀ x ∈ xs, PtOk x) := hI.ok
  have HSm : Hid (∀ x ∈ xs, smallB x = true) := hsm
  have hlen : len ≤ 20 := by rw [← hI.1]; exact hlen20
  clear hI hsm hlen20 hf
  go_enter Try.func11, Try.ntmps11
  go_wp2
  go_loopw [3, 8] (fun v i wr => ∃ (k : Nat) (q : Option Addr) (l c : Nat), k ≤ len ∧ i = .int .i64 k ∧ v = .slice q l c ∧ Own w.heap.size wr v (encAll (xs.take k)) ∧ Below w.heap.size w wr) (fun _ i _ => len - (intOf i).toNat)
  case atStart => exact ⟨0, _, _, _, Nat.zero_le _, rfl, rfl, Own.nil _ _, Below.refl _ _⟩
  case round =>
    obtain ⟨k, q, l, c, hk, rfl, rfl, hown, hbel⟩ := hrel
    have hsz := hbel.size
    have HLk : Hid ((encAll (xs.take k)).length ≤ 330 * k) := by
      show _ ≤ _
      have h := encAll_length (xs := xs.take k) (fun x hx => HOk.out x (List.mem_of_mem_take hx)) (fun x hx => HSm.out x (List.mem_of_mem_take hx))
      rw [List.length_take] at h
      have := HL.out
      omega
    by_cases hlt : k < len
    · have hki : (k : Int) < (len : Int) := by omega
      have hkl : k < xs.length := by rw [HL.out]; exact hlt
      obtain ⟨b, off, rfl, hb, hP⟩ := (HI.out.below hbel).at hlt
      have HFs : Hid (encAll (xs.take k) ++ encPt (xs.getD k noPt) = encAll (xs.take (k + 1))) := encAll_succ xs hkl
      have hxs := small_of (HSm.out _ (pt_at hkl))
      generalize xs.getD k noPt = x at *
      obtain ⟨q1, l1, c1, q2, l2, c2, hrg, hI1, hI2, hn, hmm⟩ := hP
      have hl1 := hI1.1
      have hl2 := hI2.1
      have HI1 : Hid (IsBytes w.heap.size wr q1 l1 c1 x.bs) := hI1
      have HI2 : Hid (IsIds w.heap.size wr q2 l2 c2 x.ids) := hI2
      have HOw : Hid (Own w.heap.size wr (.slice q l c) (encAll (xs.take k))) := hown
      have hZb : ∀ z ∈ encAll (xs.take k), z < 256 := encAll_bytes (fun x hx => HOk.out x (List.mem_of_mem_take hx))
      generalize encAll (xs.take k) = ZS at *
      generalize hZ' : encAll (xs.take (k + 1)) = ZS' at *
      have HZ' : Hid (encAll (xs.take (k + 1)) = ZS') := hZ'
      clear hZ'
      have hOI : ∀ W, Below wr.heap.size wr W → IsBytes W.heap.size W q l c ZS := fun W hW => (HOw.out.later hW).bytes hZb
      have hZl : ZS.length ≤ 330 * k := HLk.out
      have H0 : Hid (x.kind = 0 → ∀ W, Below wr.heap.size wr W → Calls Try.prog 30 #[.slice q l c, .int .u64 (x.n : Nat)] W fun e w' => ∃ v, e = .returned v ∧ Own w.heap.size w' v ZS' ∧ Below w.heap.size wr w') := fun hk0 W hW => by
        have hs := hW.size
        refine (refN_any q l c ZS x.n W hn (hOI W hW) (by omega)).mono ?_
        rintro e w' ⟨v, h1, h2, h3⟩
        rw [show encN x.n = encPt x by rw [encPt, if_pos hk0], HFs.out] at h2
        exact ⟨v, h1, h2.mono (by omega), (hW.mono hsz).trans (h3.mono (by omega))⟩
      have H1 : Hid (x.kind = 1 → ∀ W, Below wr.heap.size wr W → Own w.heap.size W (.slice q l c) ZS ∧ IsBytes w.heap.size W q1 l1 c1 x.bs ∧ ZS.length + l1 ≤ 1000000 ∧ w.heap.size ≤ W.heap.size ∧ ZS ++ x.bs = ZS') := fun hk1 W hW => by
        refine ⟨HOw.out.later hW, HI1.out.below (hW.mono hsz), by omega, by have := hW.size; omega, ?_⟩
        rw [← HFs.out, encPt, if_neg (by omega), if_pos hk1]
      have H2 : Hid (x.kind = 2 → ∀ W, Below wr.heap.size wr W → Calls Try.prog 31 #[.slice q l c, .slice q1 l1 c1] W fun e w' => ∃ v, e = .returned v ∧ Own w.heap.size w' v ZS' ∧ Below w.heap.size wr w') := fun hk2 W hW => by
        have hs := hW.size
        refine (refText_any q l c ZS q1 l1 c1 x.bs W (hOI W hW) ((HI1.out.below (hW.mono hsz)).mono (by omega)) (by omega)).mono ?_
        rintro e w' ⟨v, h1, h2, h3⟩
        rw [show encText x.bs = encPt x by rw [encPt, if_neg (by omega), if_neg (by omega), if_pos hk2], HFs.out] at h2
        exact ⟨v, h1, h2.mono (by omega), (hW.mono hsz).trans (h3.mono (by omega))⟩
      have H3 : Hid (x.kind ≠ 0 → x.kind ≠ 1 → x.kind ≠ 2 → ∀ W, Below wr.heap.size wr W → Calls Try.prog 32 #[.slice q l c, .slice q2 l2 c2] W fun e w' => ∃ v, e = .returned v ∧ Own w.heap.size w' v ZS' ∧ Below w.heap.size wr w') := fun hk0 hk1 hk2 W hW => by
        have hs := hW.size
        refine (refIds_any q l c ZS q2 l2 c2 x.ids W (hOI W hW) ((HI2.out.below (hW.mono hsz)).mono (by omega)) (by omega)).mono ?_
        rintro e w' ⟨v, h1, h2, h3⟩
        rw [show encIds x.ids = encPt x by rw [encPt, if_neg hk0, if_neg hk1, if_neg hk2], HFs.out] at h2
        exact ⟨v, h1, h2.mono (by omega), (hW.mono hsz).trans (h3.mono (by omega))⟩
      generalize x.kind = kd at *
      generalize x.n = nn at *
      generalize x.most = mm at *
      have HRg : Hid (wr.rangeAt b (off + k * 5) (partCells kd nn q1 l1 c1 q2 l2 c2 mm)) := hrg
      clear hrg hI1 hI2 hl1 hl2 hkl hown hxs hOI hZl hZb
      by_cases hk0 : kd = 0
      · subst hk0
        have HC := H0.out rfl
        go_wp2_with (first
          | ((with_reducible show wpList _ _ _ (Oper.mk _ (Op.load 35 (.tmp 10)) _ _ _ _ :: _) _ _); refine wpList_load_mid rfl 35 (.tmp 10) rfl b (off + k * 5) rfl (partCells 0 nn q1 l1 c1 q2 l2 c2 mm) _ HRg.out Try.underlying35 rfl size35 ?_; simp only [Act.put, List.setIfInBounds_toArray, List.set_cons_zero, List.set_cons_succ])
          | ((with_reducible show wpList _ _ _ (Oper.mk _ (Op.store 35 (.tmp 5) (.tmp 11)) _ _ _ _ :: _) _ _); refine wpList_store_Row rfl 35 (.tmp 5) (.tmp 11) rfl (partCells 0 nn q1 l1 c1 q2 l2 c2 mm) rfl rfl (Row.new wr 35 #[.int .i64 0, .int .u64 0, .slice none 0 0, .slice none 0 0, .int .i64 0]) size35 rfl (partCells_one _ _ _ _ _ _ _ _ _) ?_; have hRP := (Row.new wr 35 #[.int .i64 0, .int .u64 0, .slice none 0 0, .slice none 0 0, .int .i64 0]).sets_all (vs := partCells 0 nn q1 l1 c1 q2 l2 c2 mm) rfl; have hb2 : Below wr.heap.size wr ((wr.alloc (.cells #[.int .i64 0, .int .u64 0, .slice none 0 0, .slice none 0 0, .int .i64 0] 35)).setCells wr.heap.size 0 (partCells 0 nn q1 l1 c1 q2 l2 c2 mm)) := below_setCells (Nat.le_refl _) _ _ ((Below.refl _ wr).alloc (Nat.le_refl _) _); have hc0 := hRP.cell (i := 0) rfl; have hc1 := hRP.cell (i := 1) rfl; have hc2 := hRP.cell (i := 2) rfl; have hc3 := hRP.cell (i := 3) rfl; have hc4 := hRP.cell (i := 4) rfl; have HRP : Hid (Row _ _ _ _) := hRP; clear hRP; generalize (wr.alloc (.cells #[.int .i64 0, .int .u64 0, .slice none 0 0, .slice none 0 0, .int .i64 0] 35)).setCells wr.heap.size 0 (partCells 0 nn q1 l1 c1 q2 l2 c2 mm) = W2 at *; simp only [Act.put])
          | (go_at_call 30; refine (HC W2 hb2).mono ?_; rintro e w3 ⟨v3, rfl, hown3, hb3⟩; obtain ⟨q3, l3, c3, hu3⟩ := own_any_slice hown3; subst hu3))
        go_roundw
        case rel => exact ⟨k + 1, _, _, _, by omega, by go_num, rfl, by rw [HZ'.out]; exact hown3, hbel.trans hb3⟩
        case measure => simp [intOf]; omega
      · by_cases hk1 : kd = 1
        · subst hk1
          have HC := H1.out rfl
          go_wp2_with (first
            | ((with_reducible show wpList _ _ _ (Oper.mk _ (Op.load 35 (.tmp 10)) _ _ _ _ :: _) _ _); refine wpList_load_mid rfl 35 (.tmp 10) rfl b (off + k * 5) rfl (partCells 1 nn q1 l1 c1 q2 l2 c2 mm) _ HRg.out Try.underlying35 rfl size35 ?_; simp only [Act.put, List.setIfInBounds_toArray, List.set_cons_zero, List.set_cons_succ])
            | ((with_reducible show wpList _ _ _ (Oper.mk _ (Op.store 35 (.tmp 5) (.tmp 11)) _ _ _ _ :: _) _ _); refine wpList_store_Row rfl 35 (.tmp 5) (.tmp 11) rfl (partCells 1 nn q1 l1 c1 q2 l2 c2 mm) rfl rfl (Row.new wr 35 #[.int .i64 0, .int .u64 0, .slice none 0 0, .slice none 0 0, .int .i64 0]) size35 rfl (partCells_one _ _ _ _ _ _ _ _ _) ?_; have hRP := (Row.new wr 35 #[.int .i64 0, .int .u64 0, .slice none 0 0, .slice none 0 0, .int .i64 0]).sets_all (vs := partCells 1 nn q1 l1 c1 q2 l2 c2 mm) rfl; have hb2 : Below wr.heap.size wr ((wr.alloc (.cells #[.int .i64 0, .int .u64 0, .slice none 0 0, .slice none 0 0, .int .i64 0] 35)).setCells wr.heap.size 0 (partCells 1 nn q1 l1 c1 q2 l2 c2 mm)) := below_setCells (Nat.le_refl _) _ _ ((Below.refl _ wr).alloc (Nat.le_refl _) _); have hc0 := hRP.cell (i := 0) rfl; have hc1 := hRP.cell (i := 1) rfl; have hc2 := hRP.cell (i := 2) rfl; have hc3 := hRP.cell (i := 3) rfl; have hc4 := hRP.cell (i := 4) rfl; have HRP : Hid (Row _ _ _ _) := hRP; clear hRP; generalize (wr.alloc (.cells #[.int .i64 0, .int .u64 0, .slice none 0 0, .slice none 0 0, .int .i64 0] 35)).setCells wr.heap.size 0 (partCells 1 nn q1 l1 c1 q2 l2 c2 mm) = W2 at *; simp only [Act.put])
            | (at_builtin; refine wpList_append_bytes rfl _ _ rfl w.heap.size (.slice q l c) ZS rfl (HC W2 hb2).1 rfl (HC W2 hb2).2.1 (HC W2 hb2).2.2.1 (HC W2 hb2).2.2.2.1 ?_; intro u3 w3 hown3 hgrow3; rw [(HC W2 hb2).2.2.2.2] at hown3; have hb3 : Below w.heap.size wr w3 := below_own (hb2.mono hsz) (HC W2 hb2).2.2.2.1 (HC W2 hb2).1 hgrow3; obtain ⟨q3, l3, c3, hu3⟩ := own_any_slice hown3; subst hu3; clear hgrow3))
          go_roundw
          case rel => exact ⟨k + 1, _, _, _, by omega, by go_num, rfl, by rw [HZ'.out]; exact hown3, hbel.trans hb3⟩
          case measure => simp [intOf]; omega
        · by_cases hk2 : kd = 2
          · subst hk2
            have HC := H2.out rfl
            go_wp2_with (first
              | ((with_reducible show wpList _ _ _ (Oper.mk _ (Op.load 35 (.tmp 10)) _ _ _ _ :: _) _ _); refine wpList_load_mid rfl 35 (.tmp 10) rfl b (off + k * 5) rfl (partCells 2 nn q1 l1 c1 q2 l2 c2 mm) _ HRg.out Try.underlying35 rfl size35 ?_; simp only [Act.put, List.setIfInBounds_toArray, List.set_cons_zero, List.set_cons_succ])
              | ((with_reducible show wpList _ _ _ (Oper.mk _ (Op.store 35 (.tmp 5) (.tmp 11)) _ _ _ _ :: _) _ _); refine wpList_store_Row rfl 35 (.tmp 5) (.tmp 11) rfl (partCells 2 nn q1 l1 c1 q2 l2 c2 mm) rfl rfl (Row.new wr 35 #[.int .i64 0, .int .u64 0, .slice none 0 0, .slice none 0 0, .int .i64 0]) size35 rfl (partCells_one _ _ _ _ _ _ _ _ _) ?_; have hRP := (Row.new wr 35 #[.int .i64 0, .int .u64 0, .slice none 0 0, .slice none 0 0, .int .i64 0]).sets_all (vs := partCells 2 nn q1 l1 c1 q2 l2 c2 mm) rfl; have hb2 : Below wr.heap.size wr ((wr.alloc (.cells #[.int .i64 0, .int .u64 0, .slice none 0 0, .slice none 0 0, .int .i64 0] 35)).setCells wr.heap.size 0 (partCells 2 nn q1 l1 c1 q2 l2 c2 mm)) := below_setCells (Nat.le_refl _) _ _ ((Below.refl _ wr).alloc (Nat.le_refl _) _); have hc0 := hRP.cell (i := 0) rfl; have hc1 := hRP.cell (i := 1) rfl; have hc2 := hRP.cell (i := 2) rfl; have hc3 := hRP.cell (i := 3) rfl; have hc4 := hRP.cell (i := 4) rfl; have HRP : Hid (Row _ _ _ _) := hRP; clear hRP; generalize (wr.alloc (.cells #[.int .i64 0, .int .u64 0, .slice none 0 0, .slice none 0 0, .int .i64 0] 35)).setCells wr.heap.size 0 (partCells 2 nn q1 l1 c1 q2 l2 c2 mm) = W2 at *; simp only [Act.put])
              | (go_at_call 31; refine (HC W2 hb2).mono ?_; rintro e w3 ⟨v3, rfl, hown3, hb3⟩; obtain ⟨q3, l3, c3, hu3⟩ := own_any_slice hown3; subst hu3))
            go_roundw
            case rel => exact ⟨k + 1, _, _, _, by omega, by go_num, rfl, by rw [HZ'.out]; exact hown3, hbel.trans hb3⟩
            case measure => simp [intOf]; omega
          · have HC := H3.out hk0 hk1 hk2
            go_wp2_with (first
              | ((with_reducible show wpList _ _ _ (Oper.mk _ (Op.load 35 (.tmp 10)) _ _ _ _ :: _) _ _); refine wpList_load_mid rfl 35 (.tmp 10) rfl b (off + k * 5) rfl (partCells kd nn q1 l1 c1 q2 l2 c2 mm) _ HRg.out Try.underlying35 rfl size35 ?_; simp only [Act.put, List.setIfInBounds_toArray, List.set_cons_zero, List.set_cons_succ])
              | ((with_reducible show wpList _ _ _ (Oper.mk _ (Op.store 35 (.tmp 5) (.tmp 11)) _ _ _ _ :: _) _ _); refine wpList_store_Row rfl 35 (.tmp 5) (.tmp 11) rfl (partCells kd nn q1 l1 c1 q2 l2 c2 mm) rfl rfl (Row.new wr 35 #[.int .i64 0, .int .u64 0, .slice none 0 0, .slice none 0 0, .int .i64 0]) size35 rfl (partCells_one _ _ _ _ _ _ _ _ _) ?_; have hRP := (Row.new wr 35 #[.int .i64 0, .int .u64 0, .slice none 0 0, .slice none 0 0, .int .i64 0]).sets_all (vs := partCells kd nn q1 l1 c1 q2 l2 c2 mm) rfl; have hb2 : Below wr.heap.size wr ((wr.alloc (.cells #[.int .i64 0, .int .u64 0, .slice none 0 0, .slice none 0 0, .int .i64 0] 35)).setCells wr.heap.size 0 (partCells kd nn q1 l1 c1 q2 l2 c2 mm)) := below_setCells (Nat.le_refl _) _ _ ((Below.refl _ wr).alloc (Nat.le_refl _) _); have hc0 := hRP.cell (i := 0) rfl; have hc1 := hRP.cell (i := 1) rfl; have hc2 := hRP.cell (i := 2) rfl; have hc3 := hRP.cell (i := 3) rfl; have hc4 := hRP.cell (i := 4) rfl; have HRP : Hid (Row _ _ _ _) := hRP; clear hRP; generalize (wr.alloc (.cells #[.int .i64 0, .int .u64 0, .slice none 0 0, .slice none 0 0, .int .i64 0] 35)).setCells wr.heap.size 0 (partCells kd nn q1 l1 c1 q2 l2 c2 mm) = W2 at *; simp only [Act.put])
              | (go_at_call 32; refine (HC W2 hb2).mono ?_; rintro e w3 ⟨v3, rfl, hown3, hb3⟩; obtain ⟨q3, l3, c3, hu3⟩ := own_any_slice hown3; subst hu3))
            go_roundw
            case rel => exact ⟨k + 1, _, _, _, by omega, by go_num, rfl, by rw [HZ'.out]; exact hown3, hbel.trans hb3⟩
            case measure => simp [intOf]; omega
    · obtain rfl : k = len := by omega
      rw [List.take_of_length_le (by rw [HL.out]; exact Nat.le_refl _)] at hown
      go_wp2
      go_ret
      exact ⟨_, rfl, hown, hbel⟩
end Go.Proofs.Ytdebcpfjldgalaa
