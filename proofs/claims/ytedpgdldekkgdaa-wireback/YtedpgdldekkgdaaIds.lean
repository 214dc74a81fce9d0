/-
  Slices of ids; what a writer's Ids and Text and the reference's Ids and Text write.
-/
import Derived.Test.YtedpgdldekkgdaaWr
namespace Go.Proofs.Ytedpgdldekkgdaa
open Go.RowKit

theorem size25 : (Try.prog.info? 25).map (·.size) = some 32 := by kernel_rfl

/-- A slice of ids: it has none, or it leads to cells of a block below n₀. -/
def IsIds (n₀ : Nat) (W : World) (p : Option Addr) (len cap : Nat) (ids : List (List Nat)) : Prop :=
  ids.length = len ∧ len ≤ cap ∧ cap ≤ 9223372036854775807 ∧ (∀ x ∈ ids, x.length = 32 ∧ ∀ z ∈ x, z < 256) ∧ (len = 0 ∨ ∃ b off, p = some ⟨b, off, none⟩ ∧ b < n₀ ∧ ∀ i, i < len → W.rangeAt b (off + i * 32) (u8s (ids.getD i [])))
theorem rangeAt_below {n b : Nat} {A B : World} (h : Below n A B) (hb : b < n) {o : Nat} {cs : List Value} (hr : A.rangeAt b o cs) : B.rangeAt b o cs := fun j v hv => (h.cell (p := ⟨b, o + j, none⟩) hb).trans (hr j v hv)
theorem IsIds.below {n₀ : Nat} {A B : World} (h : Below n₀ A B) {p : Option Addr} {len cap : Nat} {ids : List (List Nat)} : IsIds n₀ A p len cap ids → IsIds n₀ B p len cap ids
  | ⟨h1, h2, h3, h4, .inl e⟩ => ⟨h1, h2, h3, h4, .inl e⟩
  | ⟨h1, h2, h3, h4, .inr ⟨b, off, e, hb, hc⟩⟩ => ⟨h1, h2, h3, h4, .inr ⟨b, off, e, hb, fun i hi => rangeAt_below h hb (hc i hi)⟩⟩
theorem IsIds.mono {n₀ n₁ : Nat} (h : n₀ ≤ n₁) {W : World} {p : Option Addr} {len cap : Nat} {ids : List (List Nat)} : IsIds n₀ W p len cap ids → IsIds n₁ W p len cap ids
  | ⟨h1, h2, h3, h4, .inl e⟩ => ⟨h1, h2, h3, h4, .inl e⟩
  | ⟨h1, h2, h3, h4, .inr ⟨b, off, e, hb, hc⟩⟩ => ⟨h1, h2, h3, h4, .inr ⟨b, off, e, Nat.lt_of_lt_of_le hb h, hc⟩⟩
theorem ids_at {ids : List (List Nat)} (h : ∀ x ∈ ids, x.length = 32 ∧ ∀ z ∈ x, z < 256) {k : Nat} (hk : k < ids.length) : (ids.getD k []).length = 32 ∧ ∀ z ∈ ids.getD k [], z < 256 := by
  rw [List.getD_eq_getElem?_getD, List.getElem?_eq_getElem hk, Option.getD_some]
  exact h _ (List.getElem_mem hk)
theorem flat_succ (ts : List (List Nat)) (k : Nat) (hk : k < ts.length) : (ts.take k).flatten ++ ts.getD k [] = (ts.take (k + 1)).flatten := by
  rw [List.take_succ_eq_append_getElem hk, List.flatten_append]
  simp [List.getElem?_eq_getElem hk]
theorem flat_ids {ids : List (List Nat)} (h : ∀ x ∈ ids, x.length = 32 ∧ ∀ z ∈ x, z < 256) (k : Nat) : (ids.take k).flatten.length ≤ 32 * k := by
  induction k with
  | zero => simp
  | succ k ih =>
    by_cases hk : k < ids.length
    · rw [← flat_succ ids k hk, List.length_append, (ids_at h hk).1]; omega
    · rw [List.take_of_length_le (by omega)] at ih ⊢; omega
/-- An array of bytes, as a slice. -/
theorem bytes_of_array {W : World} {b n : Nat} {zs : List Nat} (h : Row W b 25 (u8s zs)) (hn : zs.length = n) (hn2 : n ≤ 1000) (hz : ∀ z ∈ zs, z < 256) : IsBytes (b + 1) W (some ⟨b, 0, none⟩) n n zs := by
  refine ⟨hn, Nat.le_refl _, by omega, hz, .inr ⟨b, 0, rfl, by omega, fun i hi => ?_⟩⟩
  rw [Nat.zero_add]
  exact h.cell (u8s_at (by omega))
/-- Ids as bytes. -/
def encIds (ids : List (List Nat)) : List Nat := encN ids.length ++ ids.flatten
def encText (t : List Nat) : List Nat := encN t.length ++ t

set_option maxRecDepth 100000 in
set_option maxHeartbeats 1000000 in
/-- Text of one text. -/
theorem writerText_one (B : Nat) (zs ys : List Nat) (b : Nat) (p : Option Addr) (len cap : Nat) (w : World) (hw : WrAt w B zs) (hr : Row w b 26 [.slice p len cap]) {n₀ : Nat} (hI : IsBytes n₀ w p len cap ys) (hKI : ∀ W, KeptW B w W → IsBytes n₀ W p len cap ys) (hlen : zs.length + len ≤ 800000) :
    Calls Try.prog 24 #[.pointer (some ⟨B, 0, none⟩), .slice (some ⟨b, 0, none⟩) 1 1] w fun e w' => (∃ v, e = .returned v) ∧ WrAt w' B (zs ++ encText ys) ∧ KeptW B w w' := by
  have HI : Hid (∀ W, KeptW B w W → IsBytes n₀ W p len cap ys) := hKI
  have hl := hI.1
  have HW : Hid (WrAt w B zs) := hw
  have HRow : Hid (Row w b 26 [.slice p len cap]) := hr
  have hBl := hw.lt
  have e1 : (len : Int) % 18446744073709551616 = (len : Int) := by omega
  have e2 : len ≤ 9223372036854775807 := by omega
  clear hw hI hr hKI
  go_enter Try.func24, Try.ntmps24
  go_wp2
  go_loopw [8] (fun i wr => ∃ (k : Nat), k ≤ 1 ∧ i = .int .i64 k ∧ (k = 0 → wr = w) ∧ (k = 1 → WrAt wr B (zs ++ encText ys) ∧ KeptW B w wr)) (fun i _ => 1 - (intOf i).toNat)
  case atStart => exact ⟨0, by omega, rfl, fun _ => rfl, fun h => by omega⟩
  case round =>
    obtain ⟨k, hk, rfl, h0, h1⟩ := hrel
    by_cases hk0 : k = 0
    · subst hk0
      obtain rfl := h0 rfl
      clear h0 h1
      have hc := HRow.out.cell (i := 0) rfl
      have HN : Hid (Calls Try.prog 23 #[.pointer (some ⟨B, 0, none⟩), .slice (some ⟨wr.heap.size, 0, none⟩) 1 1] (wr.alloc (.cells #[.int .u64 (len : Nat)] 23)) fun e w' => (∃ v, e = .returned v) ∧ WrAt w' B (zs ++ encN len) ∧ KeptW B wr w') := by
        refine (writerN_any B zs [len] _ 1 1 _ (HW.out.alloc _) (IsNums.one wr len (by omega)) (by omega) (by omega)).mono ?_
        rintro e w' ⟨h1, h2, h3⟩
        rw [encs_one] at h2
        exact ⟨h1, h2, ((KeptW.refl B wr).alloc (by omega) _).trans h3⟩
      have HB : Hid ((zs ++ encN len).length + len ≤ 1000000) := by
        show _ ≤ _
        have h2 := encN_ten (n := len) (by omega)
        rw [List.length_append]
        omega
      go_wp2_with (first
        | (go_at_call 23; refine HN.out.mono ?_; rintro e w1 ⟨⟨v1, rfl⟩, hW1, hk1⟩; have HW1 : Hid (WrAt w1 B (zs ++ encN len)) := hW1; have HK1 : Hid (KeptW B wr w1) := hk1; clear hW1 hk1)
        | (go_at_call 25; refine (writerRaw_any B (zs ++ encN len) ys p len cap n₀ w1 HW1.out (HI.out w1 HK1.out) HB.out).mono ?_; rintro e w2 ⟨⟨v2, rfl⟩, hW2, hk2⟩))
      go_roundw
      case rel => exact ⟨1, by omega, by go_num, fun h => by omega, fun _ => ⟨by rw [encText, hl, ← List.append_assoc]; exact hW2, HK1.out.trans hk2⟩⟩
      case measure => simp [intOf]
    · obtain rfl : k = 1 := by omega
      obtain ⟨h2, h3⟩ := h1 rfl
      clear h0 h1
      go_wp2
      go_end0
      exact ⟨⟨_, rfl⟩, h2, h3⟩

set_option maxHeartbeats 1000000 in
/-- The reference's Text -/
theorem refText_any (p : Option Addr) (len cap : Nat) (zs : List Nat) (p2 : Option Addr) (len2 cap2 : Nat) (ys : List Nat) (w : World) (hI : IsBytes w.heap.size w p len cap zs) (hJ : IsBytes w.heap.size w p2 len2 cap2 ys) (hlen : zs.length + len2 ≤ 800000) :
    Calls Try.prog 28 #[.slice p len cap, .slice p2 len2 cap2] w fun e w' => ∃ v', e = .returned v' ∧ Own w.heap.size w' v' (zs ++ encText ys) ∧ Below w.heap.size w w' := by
  have HJ : Hid (IsBytes w.heap.size w p2 len2 cap2 ys) := hJ
  have hl := hJ.1
  have HN : Hid (Calls Try.prog 27 #[.slice p len cap, .int .u64 (len2 : Nat)] w fun e w' => ∃ v', e = .returned v' ∧ Own w.heap.size w' v' (zs ++ encN len2) ∧ Below w.heap.size w w') := refN_any p len cap zs len2 w (by omega) hI (by omega)
  have HB : Hid ((zs ++ encN len2).length + len2 ≤ 1000000) := by
    show _ ≤ _
    have h2 := encN_ten (n := len2) (by omega)
    rw [List.length_append]
    omega
  have e1 : (len2 : Int) % 18446744073709551616 = (len2 : Int) := by omega
  have e2 : len2 ≤ 9223372036854775807 := by omega
  clear hI hJ
  go_enter Try.func28, Try.ntmps28
  go_wp2_with (first
    | (go_at_call 27; refine HN.out.mono ?_; rintro e w1 ⟨v1, rfl, hown1, hb1⟩; obtain ⟨q1, k1, c1, hu1⟩ := own_any_slice hown1; subst hu1; have HO1 : Hid (Own w.heap.size w1 (.slice q1 k1 c1) (zs ++ encN len2)) := hown1; clear hown1)
    | (at_builtin; refine wpList_append_bytes rfl _ _ rfl w.heap.size (.slice q1 k1 c1) (zs ++ encN len2) rfl HO1.out rfl (HJ.out.below hb1) HB.out hb1.size ?_; intro u2 w2 hown2 hgrow2; have hb2 : Below w.heap.size w w2 := below_own hb1 hb1.size HO1.out hgrow2; clear hgrow2))
  go_ret
  refine ⟨_, rfl, ?_, hb2⟩
  rw [encText, hl, ← List.append_assoc]
  exact hown2

end Go.Proofs.Ytedpgdldekkgdaa
