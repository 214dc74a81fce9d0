/-
  A text's bytes; a text written (what it lies in bears a mark).
-/
import Derived.Test.YtedpgdldekkgdaaIds
import Derived.Test.YtedpgdldekkgdaaNames
import Derived.Test.YtedpgdldekkgdaaRf
import Derived.Laws.IdiomStrings
namespace Go.Proofs.Ytedpgdldekkgdaa
open Go.RowKit Go.Shelf

theorem text_eq (a b : ByteArray) : (a.toList == b.toList) = (bytesOf a == bytesOf b) := by rw [ByteArray.toList_eq, ByteArray.toList_eq]
set_option maxRecDepth 100000 in
set_option maxHeartbeats 1000000 in
/-- Text of one text. -/
theorem writerText_kept (B : Nat) (zs ys : List Nat) (b : Nat) (p : Option Addr) (len cap : Nat) (w : World) (hw : WrAt w B zs) (hr : Row w b 26 [.slice p len cap]) {n₀ : Nat} (hI : IsBytes n₀ w p len cap ys) (hKI : ∀ W, KeptW B w W → IsBytes n₀ W p len cap ys) (hlen : zs.length + len ≤ 800000) :
    Calls Try.prog 24 #[.pointer (some ⟨B, 0, none⟩), .slice (some ⟨b, 0, none⟩) 1 1] w fun e w' => (∃ v, e = .returned v) ∧ WrAt w' B (zs ++ encText ys) ∧ KeptW B w w' := by
  have HI : Hid (∀ W, KeptW B w W → IsBytes n₀ W p len cap ys) := hKI
  have hl := hI.1
  have HW : Hid (WrAt w B zs) := hw
  have HRow : Hid (Row w b 26 [.slice p len cap]) := hr
  have hBl := hw.lt
  have e1 : (len : Int) % 18446744073709551616 = (len : Int) := by omega
  have e2 : len ≤ 9223372036854775807 := by omega
  clear hw hI hr hKI
  go_enter Try.func24, Try.ntmps24
  go_wp2
  go_loopw [8] (fun i wr => ∃ (k : Nat), k ≤ 1 ∧ i = .int .i64 k ∧ (k = 0 → wr = w) ∧ (k = 1 → WrAt wr B (zs ++ encText ys) ∧ KeptW B w wr)) (fun i _ => 1 - (intOf i).toNat)
  case atStart => exact ⟨0, by omega, rfl, fun _ => rfl, fun h => by omega⟩
  case round =>
    obtain ⟨k, hk, rfl, h0, h1⟩ := hrel
    by_cases hk0 : k = 0
    · subst hk0
      obtain rfl := h0 rfl
      clear h0 h1
      have hc := HRow.out.cell (i := 0) rfl
      have HN : Hid (Calls Try.prog 23 #[.pointer (some ⟨B, 0, none⟩), .slice (some ⟨wr.heap.size, 0, none⟩) 1 1] (wr.alloc (.cells #[.int .u64 (len : Nat)] 23)) fun e w' => (∃ v, e = .returned v) ∧ WrAt w' B (zs ++ encN len) ∧ KeptW B wr w') := by
        refine (writerN_any B zs [len] _ 1 1 _ (HW.out.alloc _) (IsNums.one wr len (by omega)) (by omega) (by omega)).mono ?_
        rintro e w' ⟨h1, h2, h3⟩
        rw [encs_one] at h2
        exact ⟨h1, h2, ((KeptW.refl B wr).alloc (by omega) _).trans h3⟩
      have HB : Hid ((zs ++ encN len).length + len ≤ 1000000) := by
        show _ ≤ _
        have h2 := encN_ten (n := len) (by omega)
        rw [List.length_append]
        omega
      go_wp2_with (first
        | (go_at_call 23; refine HN.out.mono ?_; rintro e w1 ⟨⟨v1, rfl⟩, hW1, hk1⟩; have HW1 : Hid (WrAt w1 B (zs ++ encN len)) := hW1; have HK1 : Hid (KeptW B wr w1) := hk1; clear hW1 hk1)
        | (go_at_call 25; refine (writerRaw_any B (zs ++ encN len) ys p len cap n₀ w1 HW1.out (HI.out w1 HK1.out) HB.out).mono ?_; rintro e w2 ⟨⟨v2, rfl⟩, hW2, hk2⟩))
      go_roundw
      case rel => exact ⟨1, by omega, by go_num, fun h => by omega, fun _ => ⟨by rw [encText, hl, ← List.append_assoc]; exact hW2, HK1.out.trans hk2⟩⟩
      case measure => simp [intOf]
    · obtain rfl : k = 1 := by omega
      obtain ⟨h2, h3⟩ := h1 rfl
      clear h0 h1
      go_wp2
      go_end0
      exact ⟨⟨_, rfl⟩, h2, h3⟩

/-- A name's bytes. -/
def nameL (s : ByteArray) : List Nat := (bytesOf s).map UInt8.toNat
theorem nameL_length (s : ByteArray) : (nameL s).length = s.size := by rw [nameL, List.length_map, bytesOf_length]
theorem nameL_lt (s : ByteArray) : ∀ z ∈ nameL s, z < 256 := fun z hz => by
  obtain ⟨c, _, rfl⟩ := List.mem_map.1 hz
  exact UInt8.toNat_lt c
theorem nameL_inj {a b : ByteArray} (h : nameL a = nameL b) : a = b := by
  have h1 : bytesOf a = bytesOf b := List.map_inj_right (fun x y hxy => UInt8.toNat_inj.1 hxy) |>.1 h
  cases a; cases b
  simp only [bytesOf] at h1
  congr
  exact Array.toList_inj.1 h1
theorem name_str (s : ByteArray) : strOf (nameL s) = s := by
  apply ByteArray.ext
  apply Array.ext'
  rw [← ByteArray.toList_eq, strOf_toList, nameL, List.map_map, show ((fun z => UInt8.ofNat z) ∘ UInt8.toNat) = id from funext (fun c => by simp)]
  simp
/-- []byte(name): in a block that bears a mark. -/
theorem bytes_of_name (w : World) (s : ByteArray) (hs : s.size ≤ 100000) : ∃ cap W1, (convert 9 26 (.string s)).run Try.prog w = .ok (.slice (some ⟨w.heap.size, 0, none⟩) s.size cap) W1 ∧ Below w.heap.size w W1 ∧ w.heap.size < W1.heap.size ∧ (∀ W, KeepF W1 W → IsBytes (w.heap.size + 1) W (some ⟨w.heap.size, 0, none⟩) s.size cap (nameL s)) := by
  have hrun := run_bytes_of_string (P := Try.prog) w 9 26 5 s Try.underlying9 Try.underlying26 Try.underlying5
  refine ⟨_, _, hrun, ((Below.refl _ w).drew.alloc (Nat.le_refl _) _), by simp, fun W hW => ⟨nameL_length s, grownCap_ge w s.size 0 5, ?_, nameL_lt s, .inr ⟨w.heap.size, 0, rfl, by omega, fun i hi => ?_⟩⟩⟩
  · have := grownCap_le_maxLen w s.size 0 5 (by simp only [maxLen]; omega)
    simpa only [maxLen] using this
  · rw [Nat.zero_add]
    have hi' : i < s.data.size := hi
    have hb : (w.drew.alloc (.cells (bytesRow s (grownCap w s.size 0 5)) 5 ((bytesRow s (grownCap w s.size 0 5)).size, (bytesRow s (grownCap w s.size 0 5)).size + 1))).heap[w.heap.size]? = some (.cells (bytesRow s (grownCap w s.size 0 5)) 5 ((bytesRow s (grownCap w s.size 0 5)).size, (bytesRow s (grownCap w s.size 0 5)).size + 1)) := heap_alloc_last w.drew _
    have h2 := hW _ _ _ _ (by simp) hb
    rw [cell_of_row W w.heap.size i _ 5 _ h2, bytesRow_at s _ i hi']
    have : (nameL s).getD i 0 = (s.data[i]).toNat := by
      rw [nameL, List.getD_eq_getElem?_getD, List.getElem?_map]
      rw [bytesOf, Array.getElem?_toList, Array.getElem?_eq_getElem hi']; rfl
    rw [this]

end Go.Proofs.Ytedpgdldekkgdaa
