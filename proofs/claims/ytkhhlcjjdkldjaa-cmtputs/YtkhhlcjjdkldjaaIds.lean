/-
  Slices of ids; what a writer's Ids and Text and the reference's Ids and Text write.
-/
import Derived.Test.YtkhhlcjjdkldjaaWr
namespace Go.Proofs.Ytkhhlcjjdkldjaa
open Go.RowKit

theorem size24 : (Try.prog.info? 24).map (·.size) = some 32 := by kernel_rfl

/-- A slice of ids: it has none, or it leads to cells of a block below n₀. -/
def IsIds (n₀ : Nat) (W : World) (p : Option Addr) (len cap : Nat) (ids : List (List Nat)) : Prop :=
  ids.length = len ∧ len ≤ cap ∧ cap ≤ 9223372036854775807 ∧ (∀ x ∈ ids, x.length = 32 ∧ ∀ z ∈ x, z < 256) ∧ (len = 0 ∨ ∃ b off, p = some ⟨b, off, none⟩ ∧ b < n₀ ∧ ∀ i, i < len → W.rangeAt b (off + i * 32) (u8s (ids.getD i [])))
theorem rangeAt_below {n b : Nat} {A B : World} (h : Below n A B) (hb : b < n) {o : Nat} {cs : List Value} (hr : A.rangeAt b o cs) : B.rangeAt b o cs := fun j v hv => (h.cell (p := ⟨b, o + j, none⟩) hb).trans (hr j v hv)
theorem IsIds.below {n₀ : Nat} {A B : World} (h : Below n₀ A B) {p : Option Addr} {len cap : Nat} {ids : List (List Nat)} : IsIds n₀ A p len cap ids → IsIds n₀ B p len cap ids
  | ⟨h1, h2, h3, h4, .inl e⟩ => ⟨h1, h2, h3, h4, .inl e⟩
  | ⟨h1, h2, h3, h4, .inr ⟨b, off, e, hb, hc⟩⟩ => ⟨h1, h2, h3, h4, .inr ⟨b, off, e, hb, fun i hi => rangeAt_below h hb (hc i hi)⟩⟩
theorem IsIds.mono {n₀ n₁ : Nat} (h : n₀ ≤ n₁) {W : World} {p : Option Addr} {len cap : Nat} {ids : List (List Nat)} : IsIds n₀ W p len cap ids → IsIds n₁ W p len cap ids
  | ⟨h1, h2, h3, h4, .inl e⟩ => ⟨h1, h2, h3, h4, .inl e⟩
  | ⟨h1, h2, h3, h4, .inr ⟨b, off, e, hb, hc⟩⟩ => ⟨h1, h2, h3, h4, .inr ⟨b, off, e, Nat.lt_of_lt_of_le hb h, hc⟩⟩
theorem ids_at {ids : List (List Nat)} (h : ∀ x ∈ ids, x.length = 32 ∧ ∀ z ∈ x, z < 256) {k : Nat} (hk : k < ids.length) : (ids.getD k []).length = 32 ∧ ∀ z ∈ ids.getD k [], z < 256 := by
  rw [List.getD_eq_getElem?_getD, List.getElem?_eq_getElem hk, Option.getD_some]
  exact h _ (List.getElem_mem hk)
theorem flat_succ (ts : List (List Nat)) (k : Nat) (hk : k < ts.length) : (ts.take k).flatten ++ ts.getD k [] = (ts.take (k + 1)).flatten := by
  rw [List.take_succ_eq_append_getElem hk, List.flatten_append]
  simp [List.getElem?_eq_getElem hk]
theorem flat_ids {ids : List (List Nat)} (h : ∀ x ∈ ids, x.length = 32 ∧ ∀ z ∈ x, z < 256) (k : Nat) : (ids.take k).flatten.length ≤ 32 * k := by
  induction k with
  | zero => simp
  | succ k ih =>
    by_cases hk : k < ids.length
    · rw [← flat_succ ids k hk, List.length_append, (ids_at h hk).1]; omega
    · rw [List.take_of_length_le (by omega)] at ih ⊢; omega
/-- An array of bytes, as a slice. -/
theorem bytes_of_array {W : World} {b n : Nat} {zs : List Nat} (h : Row W b 24 (u8s zs)) (hn : zs.length = n) (hn2 : n ≤ 1000) (hz : ∀ z ∈ zs, z < 256) : IsBytes (b + 1) W (some ⟨b, 0, none⟩) n n zs := by
  refine ⟨hn, Nat.le_refl _, by omega, hz, .inr ⟨b, 0, rfl, by omega, fun i hi => ?_⟩⟩
  rw [Nat.zero_add]
  exact h.cell (u8s_at (by omega))
/-- Ids as bytes. -/
def encIds (ids : List (List Nat)) : List Nat := encN ids.length ++ ids.flatten
def encText (t : List Nat) : List Nat := encN t.length ++ t

set_option maxRecDepth 100000 in
set_option maxHeartbeats 1000000 in
/-- Ids -/
theorem writerIds_any (B : Nat) (zs : List Nat) (ids : List (List Nat)) (p : Option Addr) (len cap : Nat) (w : World) (hw : WrAt w B zs) (hI : IsIds B w p len cap ids) (hlen : zs.length + 32 * len ≤ 800000) :
    Calls Try.prog 21 #[.pointer (some ⟨B, 0, none⟩), .slice p len cap] w fun e w' => (∃ v, e = .returned v) ∧ WrAt w' B (zs ++ encIds ids) ∧ Below B w w' := by
  have HI : Hid (IsIds B w p len cap ids) := hI
  have HL : Hid (ids.length = len) := hI.1
  have hBl := hw.lt
  have HN : Hid (Calls Try.prog 23 #[.pointer (some ⟨B, 0, none⟩), .slice (some ⟨w.heap.size, 0, none⟩) 1 1] (w.alloc (.cells #[.int .u64 (len : Nat)] 26)) fun e w' => (∃ v, e = .returned v) ∧ WrAt w' B (zs ++ encN len) ∧ KeptW B w w') := by
    refine (writerN_any B zs [len] _ 1 1 _ (hw.alloc _) (IsNums.one w len (by omega)) (by omega) (by omega)).mono ?_
    rintro e w' ⟨h1, h2, h3⟩
    rw [encs_one] at h2
    exact ⟨h1, h2, ((KeptW.refl B w).alloc (by omega) _).trans h3⟩
  have e1 : (len : Int) % 18446744073709551616 = (len : Int) := by omega
  have e2 : len ≤ 9223372036854775807 := by omega
  clear hw hI
  go_enter Try.func21, Try.ntmps21
  go_wp2_with (go_at_call 23; refine HN.out.mono ?_; rintro e w1 ⟨⟨v1, rfl⟩, hW1, hk1⟩; have HW1 : Hid (WrAt w1 B (zs ++ encN len)) := hW1; have hb1 := hk1.1; clear hW1 hk1)
  go_loopw [14] (fun i wr => ∃ (k : Nat), k ≤ len ∧ i = .int .i64 k ∧ WrAt wr B (zs ++ encN len ++ (ids.take k).flatten) ∧ Below B w wr) (fun i _ => len - (intOf i).toNat)
  case atStart => exact ⟨0, Nat.zero_le _, rfl, by simpa using HW1.out, hb1⟩
  case round =>
    clear HW1 hb1
    obtain ⟨k, hk, rfl, hwr, hbel⟩ := hrel
    by_cases hlt : k < len
    · have hki : (k : Int) < (len : Int) := by omega
      obtain ⟨b, off, rfl, hb, hcell⟩ : ∃ b off, p = some ⟨b, off, none⟩ ∧ b < B ∧ ∀ i, i < len → wr.rangeAt b (off + i * 32) (u8s (ids.getD i [])) := by
        rcases (HI.out.below hbel).2.2.2.2 with h | h
        · omega
        · exact h
      have hx := ids_at HI.out.2.2.2.1 (k := k) (by rw [HL.out]; exact hlt)
      have HRg : Hid (wr.rangeAt b (off + k * 32) (u8s (ids.getD k []))) := hcell k hlt
      have HFs : Hid (zs ++ encN len ++ (ids.take k).flatten ++ ids.getD k [] = zs ++ encN len ++ (ids.take (k + 1)).flatten) := by
        show _ = _
        rw [List.append_assoc _ _ (ids.getD k []), flat_succ ids k (by rw [HL.out]; exact hlt)]
      have HB : Hid ((zs ++ encN len ++ (ids.take k).flatten).length + 32 ≤ 1000000) := by
        show _ ≤ _
        have h1 := flat_ids HI.out.2.2.2.1 k
        have h2 := encN_ten (n := len) (by omega)
        simp only [List.length_append] at *
        omega
      have hBr := hwr.lt
      have HR : Hid (∀ W, Below wr.heap.size wr W → Row W wr.heap.size 24 (u8s (ids.getD k [])) → Calls Try.prog 22 #[.pointer (some ⟨B, 0, none⟩), .slice (some ⟨wr.heap.size, 0, none⟩) 32 32] W fun e w' => (∃ v, e = .returned v) ∧ WrAt w' B (zs ++ encN len ++ (ids.take (k + 1)).flatten) ∧ KeptW B W w') := fun W h1 h2 => by
        have h := writerRaw_any B _ (ids.getD k []) _ 32 32 _ W (hwr.later h1) (bytes_of_array h2 hx.1 (by omega) hx.2) HB.out
        rw [HFs.out] at h
        exact h
      have HV : Hid ((u8s (ids.getD k [])).length = 32) := by show _ = _; rw [u8s_length]; exact hx.1
      have HV1 : Hid (∀ v ∈ u8s (ids.getD k []), v.oneCell' = true) := u8s_one _
      clear hcell hx hwr
      generalize u8s (ids.getD k []) = V at *
      go_wp2_with (first
        | ((with_reducible show wpList _ _ _ (Oper.mk _ (Op.load 24 (.tmp 16)) _ _ _ _ :: _) _ _); refine wpList_load_mid rfl 24 (.tmp 16) rfl b (off + k * 32) rfl V _ HRg.out Try.underlying24 rfl (by rw [HV.out]; exact size24) ?_; simp only [Act.put, List.setIfInBounds_toArray, List.set_cons_zero, List.set_cons_succ])
        | ((with_reducible show wpList _ _ _ (Oper.mk _ (Op.store 24 (.tmp 5) (.tmp 17)) _ _ _ _ :: _) _ _); rw [z32u8]; refine wpList_store_Row rfl 24 (.tmp 5) (.tmp 17) rfl V rfl rfl (Row.new' wr 24 (List.replicate 32 (Value.int .u8 0))) (by rw [HV.out]; exact size24) (by rw [HV.out]; rfl) HV1.out ?_; have HR2 := (Row.new' wr 24 (List.replicate 32 (Value.int .u8 0))).sets_all (vs := V) (by rw [HV.out]; rfl); have hb2 : Below wr.heap.size wr ((wr.alloc (.cells (List.replicate 32 (Value.int .u8 0)).toArray 24)).setCells wr.heap.size 0 V) := below_setCells (Nat.le_refl _) _ _ ((Below.refl _ wr).alloc (Nat.le_refl _) _); have HC2 := HR.out _ hb2 HR2; clear HR2; generalize (wr.alloc (.cells (List.replicate 32 (Value.int .u8 0)).toArray 24)).setCells wr.heap.size 0 V = W2 at *; simp only [Act.put])
        | (go_at_call 22; refine HC2.mono ?_; rintro e w3 ⟨⟨v3, rfl⟩, hW3, hk3⟩))
      go_roundw
      case rel => exact ⟨k + 1, by omega, by go_num, hW3, hbel.trans ((hb2.mono (by omega)).trans hk3.1)⟩
      case measure => simp [intOf]; omega
    · obtain rfl : k = len := by omega
      rw [List.take_of_length_le (by rw [HL.out]; exact Nat.le_refl _)] at hwr
      go_wp2
      go_end0
      refine ⟨⟨_, rfl⟩, ?_, hbel⟩
      rw [encIds, HL.out, ← List.append_assoc]
      exact hwr

set_option maxRecDepth 100000 in
set_option maxHeartbeats 1000000 in
/-- Text of one text. -/
theorem writerText_one (B : Nat) (zs ys : List Nat) (b : Nat) (p : Option Addr) (len cap : Nat) (w : World) (hw : WrAt w B zs) (hr : Row w b 32 [.slice p len cap]) (hI : IsBytes B w p len cap ys) (hlen : zs.length + len ≤ 800000) :
    Calls Try.prog 24 #[.pointer (some ⟨B, 0, none⟩), .slice (some ⟨b, 0, none⟩) 1 1] w fun e w' => (∃ v, e = .returned v) ∧ WrAt w' B (zs ++ encText ys) ∧ Below B w w' := by
  have HI : Hid (IsBytes B w p len cap ys) := hI
  have hl := hI.1
  have HW : Hid (WrAt w B zs) := hw
  have HRow : Hid (Row w b 32 [.slice p len cap]) := hr
  have hBl := hw.lt
  have e1 : (len : Int) % 18446744073709551616 = (len : Int) := by omega
  have e2 : len ≤ 9223372036854775807 := by omega
  clear hw hI hr
  go_enter Try.func24, Try.ntmps24
  go_wp2
  go_loopw [8] (fun i wr => ∃ (k : Nat), k ≤ 1 ∧ i = .int .i64 k ∧ (k = 0 → wr = w) ∧ (k = 1 → WrAt wr B (zs ++ encText ys) ∧ Below B w wr)) (fun i _ => 1 - (intOf i).toNat)
  case atStart => exact ⟨0, by omega, rfl, fun _ => rfl, fun h => by omega⟩
  case round =>
    obtain ⟨k, hk, rfl, h0, h1⟩ := hrel
    by_cases hk0 : k = 0
    · subst hk0
      obtain rfl := h0 rfl
      clear h0 h1
      have hc := HRow.out.cell (i := 0) rfl
      have HN : Hid (Calls Try.prog 23 #[.pointer (some ⟨B, 0, none⟩), .slice (some ⟨wr.heap.size, 0, none⟩) 1 1] (wr.alloc (.cells #[.int .u64 (len : Nat)] 26)) fun e w' => (∃ v, e = .returned v) ∧ WrAt w' B (zs ++ encN len) ∧ KeptW B wr w') := by
        refine (writerN_any B zs [len] _ 1 1 _ (HW.out.alloc _) (IsNums.one wr len (by omega)) (by omega) (by omega)).mono ?_
        rintro e w' ⟨h1, h2, h3⟩
        rw [encs_one] at h2
        exact ⟨h1, h2, ((KeptW.refl B wr).alloc (by omega) _).trans h3⟩
      have HB : Hid ((zs ++ encN len).length + len ≤ 1000000) := by
        show _ ≤ _
        have h2 := encN_ten (n := len) (by omega)
        rw [List.length_append]
        omega
      go_wp2_with (first
        | (go_at_call 23; refine HN.out.mono ?_; rintro e w1 ⟨⟨v1, rfl⟩, hW1, hk1⟩; have HW1 : Hid (WrAt w1 B (zs ++ encN len)) := hW1; have hb1 := hk1.1; clear hW1 hk1)
        | (go_at_call 22; refine (writerRaw_any B (zs ++ encN len) ys p len cap B w1 HW1.out (HI.out.below hb1) HB.out).mono ?_; rintro e w2 ⟨⟨v2, rfl⟩, hW2, hk2⟩))
      go_roundw
      case rel => exact ⟨1, by omega, by go_num, fun h => by omega, fun _ => ⟨by rw [encText, hl, ← List.append_assoc]; exact hW2, hb1.trans hk2.1⟩⟩
      case measure => simp [intOf]
    · obtain rfl : k = 1 := by omega
      obtain ⟨h2, h3⟩ := h1 rfl
      clear h0 h1
      go_wp2
      go_end0
      exact ⟨⟨_, rfl⟩, h2, h3⟩

set_option maxHeartbeats 1000000 in
/-- The reference's Text -/
theorem refText_any (p : Option Addr) (len cap : Nat) (zs : List Nat) (p2 : Option Addr) (len2 cap2 : Nat) (ys : List Nat) (w : World) (hI : IsBytes w.heap.size w p len cap zs) (hJ : IsBytes w.heap.size w p2 len2 cap2 ys) (hlen : zs.length + len2 ≤ 800000) :
    Calls Try.prog 27 #[.slice p len cap, .slice p2 len2 cap2] w fun e w' => ∃ v', e = .returned v' ∧ Own w.heap.size w' v' (zs ++ encText ys) ∧ Below w.heap.size w w' := by
  have HJ : Hid (IsBytes w.heap.size w p2 len2 cap2 ys) := hJ
  have hl := hJ.1
  have HN : Hid (Calls Try.prog 28 #[.slice p len cap, .int .u64 (len2 : Nat)] w fun e w' => ∃ v', e = .returned v' ∧ Own w.heap.size w' v' (zs ++ encN len2) ∧ Below w.heap.size w w') := refN_any p len cap zs len2 w (by omega) hI (by omega)
  have HB : Hid ((zs ++ encN len2).length + len2 ≤ 1000000) := by
    show _ ≤ _
    have h2 := encN_ten (n := len2) (by omega)
    rw [List.length_append]
    omega
  have e1 : (len2 : Int) % 18446744073709551616 = (len2 : Int) := by omega
  have e2 : len2 ≤ 9223372036854775807 := by omega
  clear hI hJ
  go_enter Try.func27, Try.ntmps27
  go_wp2_with (first
    | (go_at_call 28; refine HN.out.mono ?_; rintro e w1 ⟨v1, rfl, hown1, hb1⟩; obtain ⟨q1, k1, c1, hu1⟩ := own_any_slice hown1; subst hu1; have HO1 : Hid (Own w.heap.size w1 (.slice q1 k1 c1) (zs ++ encN len2)) := hown1; clear hown1)
    | (at_builtin; refine wpList_append_bytes rfl _ _ rfl w.heap.size (.slice q1 k1 c1) (zs ++ encN len2) rfl HO1.out rfl (HJ.out.below hb1) HB.out hb1.size ?_; intro u2 w2 hown2 hgrow2; have hb2 : Below w.heap.size w w2 := below_own hb1 hb1.size HO1.out hgrow2; clear hgrow2))
  go_ret
  refine ⟨_, rfl, ?_, hb2⟩
  rw [encText, hl, ← List.append_assoc]
  exact hown2

set_option maxRecDepth 100000 in
set_option maxHeartbeats 1000000 in
/-- The reference's Ids -/
theorem refIds_any (p : Option Addr) (len cap : Nat) (zs : List Nat) (p2 : Option Addr) (len2 cap2 : Nat) (ids : List (List Nat)) (w : World) (hI : IsBytes w.heap.size w p len cap zs) (hJ : IsIds w.heap.size w p2 len2 cap2 ids) (hlen : zs.length + 32 * len2 ≤ 800000) :
    Calls Try.prog 26 #[.slice p len cap, .slice p2 len2 cap2] w fun e w' => ∃ v', e = .returned v' ∧ Own w.heap.size w' v' (zs ++ encIds ids) ∧ Below w.heap.size w w' := by
  have HJ : Hid (IsIds w.heap.size w p2 len2 cap2 ids) := hJ
  have HL : Hid (ids.length = len2) := hJ.1
  have HN : Hid (Calls Try.prog 28 #[.slice p len cap, .int .u64 (len2 : Nat)] w fun e w' => ∃ v', e = .returned v' ∧ Own w.heap.size w' v' (zs ++ encN len2) ∧ Below w.heap.size w w') := refN_any p len cap zs len2 w (by omega) hI (by omega)
  have e1 : (len2 : Int) % 18446744073709551616 = (len2 : Int) := by omega
  have e2 : len2 ≤ 9223372036854775807 := by omega
  clear hI hJ
  go_enter Try.func26, Try.ntmps26
  go_wp2_with (go_at_call 28; refine HN.out.mono ?_; rintro e w1 ⟨v1, rfl, hown1, hb1⟩; obtain ⟨q1, k1, c1, hu1⟩ := own_any_slice hown1; subst hu1; have HO1 : Hid (Own w.heap.size w1 (.slice q1 k1 c1) (zs ++ encN len2)) := hown1; clear hown1)
  go_loopw [5, 15] (fun v i wr => ∃ (k : Nat) (q : Option Addr) (l c : Nat), k ≤ len2 ∧ i = .int .i64 k ∧ v = .slice q l c ∧ Own w.heap.size wr v (zs ++ encN len2 ++ (ids.take k).flatten) ∧ Below w.heap.size w wr) (fun _ i _ => len2 - (intOf i).toNat)
  case atStart => exact ⟨0, _, _, _, Nat.zero_le _, rfl, rfl, by simpa using HO1.out, hb1⟩
  case round =>
    clear HO1 hb1
    obtain ⟨k, q, l, c, hk, rfl, rfl, hown, hbel⟩ := hrel
    have hsz := hbel.size
    by_cases hlt : k < len2
    · have hki : (k : Int) < (len2 : Int) := by omega
      obtain ⟨b, off, rfl, hb, hcell⟩ : ∃ b off, p2 = some ⟨b, off, none⟩ ∧ b < w.heap.size ∧ ∀ i, i < len2 → wr.rangeAt b (off + i * 32) (u8s (ids.getD i [])) := by
        rcases (HJ.out.below hbel).2.2.2.2 with h | h
        · omega
        · exact h
      have hx := ids_at HJ.out.2.2.2.1 (k := k) (by rw [HL.out]; exact hlt)
      have HRg : Hid (wr.rangeAt b (off + k * 32) (u8s (ids.getD k []))) := hcell k hlt
      have HFs : Hid (zs ++ encN len2 ++ (ids.take k).flatten ++ ids.getD k [] = zs ++ encN len2 ++ (ids.take (k + 1)).flatten) := by
        show _ = _
        rw [List.append_assoc _ _ (ids.getD k []), flat_succ ids k (by rw [HL.out]; exact hlt)]
      have HB : Hid ((zs ++ encN len2 ++ (ids.take k).flatten).length + 32 ≤ 1000000) := by
        show _ ≤ _
        have h1 := flat_ids HJ.out.2.2.2.1 k
        have h2 := encN_ten (n := len2) (by omega)
        simp only [List.length_append] at *
        omega
      have HIb : Hid (∀ W, Row W wr.heap.size 24 (u8s (ids.getD k [])) → IsBytes (wr.heap.size + 1) W (some ⟨wr.heap.size, 0, none⟩) 32 32 (ids.getD k [])) := fun W h => bytes_of_array h hx.1 (by omega) hx.2
      have HOwn : Hid (Own w.heap.size wr (.slice q l c) (zs ++ encN len2 ++ (ids.take k).flatten)) := hown
      have HV : Hid ((u8s (ids.getD k [])).length = 32) := by show _ = _; rw [u8s_length]; exact hx.1
      have HV1 : Hid (∀ v ∈ u8s (ids.getD k []), v.oneCell' = true) := u8s_one _
      clear hcell hx hown
      generalize u8s (ids.getD k []) = V at *
      go_wp2_with (first
        | ((with_reducible show wpList _ _ _ (Oper.mk _ (Op.load 24 (.tmp 17)) _ _ _ _ :: _) _ _); refine wpList_load_mid rfl 24 (.tmp 17) rfl b (off + k * 32) rfl V _ HRg.out Try.underlying24 rfl (by rw [HV.out]; exact size24) ?_; simp only [Act.put, List.setIfInBounds_toArray, List.set_cons_zero, List.set_cons_succ])
        | ((with_reducible show wpList _ _ _ (Oper.mk _ (Op.store 24 (.tmp 7) (.tmp 18)) _ _ _ _ :: _) _ _); rw [z32u8]; refine wpList_store_Row rfl 24 (.tmp 7) (.tmp 18) rfl V rfl rfl (Row.new' wr 24 (List.replicate 32 (Value.int .u8 0))) (by rw [HV.out]; exact size24) (by rw [HV.out]; rfl) HV1.out ?_; have HR2 := (Row.new' wr 24 (List.replicate 32 (Value.int .u8 0))).sets_all (vs := V) (by rw [HV.out]; rfl); have hb2 : Below wr.heap.size wr ((wr.alloc (.cells (List.replicate 32 (Value.int .u8 0)).toArray 24)).setCells wr.heap.size 0 V) := below_setCells (Nat.le_refl _) _ _ ((Below.refl _ wr).alloc (Nat.le_refl _) _); have HI2 := HIb.out _ HR2; clear HR2; generalize (wr.alloc (.cells (List.replicate 32 (Value.int .u8 0)).toArray 24)).setCells wr.heap.size 0 V = W2 at *; simp only [Act.put])
        | (at_builtin; refine wpList_append_bytes rfl _ _ rfl w.heap.size (.slice q l c) _ rfl (HOwn.out.later hb2) rfl HI2 HB.out (by have := hb2.size; omega) ?_; intro u3 w3 hown3 hgrow3; rw [HFs.out] at hown3; have hb3 : Below w.heap.size w w3 := below_own (hbel.trans (hb2.mono hsz)) (by have := hb2.size; omega) (HOwn.out.later hb2) hgrow3; obtain ⟨q3, l3, c3, hu3⟩ := own_any_slice hown3; subst hu3; clear hgrow3))
      go_roundw
      case rel => exact ⟨k + 1, _, _, _, by omega, by go_num, rfl, hown3, hb3⟩
      case measure => simp [intOf]; omega
    · obtain rfl : k = len2 := by omega
      rw [List.take_of_length_le (by rw [HL.out]; exact Nat.le_refl _)] at hown
      go_wp2
      go_ret
      refine ⟨_, rfl, ?_, hbel⟩
      rw [encIds, HL.out, ← List.append_assoc]
      exact hown
end Go.Proofs.Ytkhhlcjjdkldjaa
