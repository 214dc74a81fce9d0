/-
  route.Join and the reference's Join. Nothing that lay before a call has turned.
-/
import Derived.Test.YtkpjbleogjmbjaaRefSplit
import Derived.Lib.AppendStr
namespace Go.Proofs.Ytkpjbleogjmbjaa
open Go.RowKit

theorem joinL_len : ∀ (l : List (List UInt8)), (∀ a ∈ l, a.length ≤ 200) → (joinL l).length ≤ 201 * l.length
  | [], _ => by simp [joinL]
  | [a], h => by have := h a (by simp); simp [joinL]; omega
  | a :: b :: t, h => by
    have h1 := h a (by simp)
    have h2 := joinL_len (b :: t) (fun x hx => h x (by simp [hx]))
    rw [joinL]
    simp only [List.length_append, List.length_cons] at h2 ⊢
    omega
/-- The path of the first k names. -/
def pathK (xs : List ByteArray) (k : Nat) : List UInt8 := joinL ((xs.take k).map bytesOf)
theorem pathK_zero (xs : List ByteArray) : pathK xs 0 = [] := by simp [pathK, joinL]
theorem pathK_one {xs : List ByteArray} (h : 0 < xs.length) : pathK xs 1 = bytesOf xs[0] := by
  rw [pathK, List.take_add_one, List.getElem?_eq_getElem h]; simp [joinL]
theorem pathK_succ {xs : List ByteArray} {k : Nat} (h : k < xs.length) (hk : 0 < k) : pathK xs (k + 1) = pathK xs k ++ [47] ++ bytesOf xs[k] := by
  rw [pathK, List.take_add_one, List.getElem?_eq_getElem h, List.map_append]
  show joinL (_ ++ [bytesOf xs[k]]) = _
  rw [joinL_snoc, if_neg (by
    intro e
    have := congrArg List.length e
    simp only [List.length_map, List.length_take, List.length_nil] at this
    omega)]
  simp [pathK]
theorem pathK_len {xs : List ByteArray} (hs : ∀ x ∈ xs, x.size ≤ 200) (k : Nat) (hk : k ≤ xs.length) : (pathK xs k).length ≤ 201 * k := by
  have := joinL_len ((xs.take k).map bytesOf) (fun a ha => by
    obtain ⟨x, hx, rfl⟩ := List.mem_map.1 ha
    rw [bytesOf_length]; exact hs x (List.mem_of_mem_take hx))
  simp only [List.length_map, List.length_take, Nat.min_eq_left hk] at this
  exact this
theorem strOf_txt (L : List UInt8) : strOf (L.map UInt8.toNat) = txt L := by
  apply ByteArray.ext
  apply Array.ext'
  rw [← ByteArray.toList_eq, strOf_toList, List.map_map, show ((fun z => UInt8.ofNat z) ∘ UInt8.toNat) = id from funext (fun c => by simp)]
  simp
theorem u8s_bytes (s : ByteArray) : Lib.strCells s = u8s ((bytesOf s).map UInt8.toNat) := by simp [Lib.strCells, u8s, bytesOf]

set_option maxRecDepth 100000 in
set_option maxHeartbeats 2000000 in
theorem refJoin_any (p : Option Addr) (len cap : Nat) (xs : List ByteArray) (hl : len ≤ 30) (hs : ∀ x ∈ xs, x.size ≤ 200) (w : World) (hI : IsStrs w.heap.size w p len cap xs) :
    Calls Try.prog 16 #[.slice p len cap] w fun e w' => e = .returned (.string (txt (pathK xs len))) ∧ w' = w := by
  have HI : Hid (IsStrs w.heap.size w p len cap xs) := hI
  have HL : Hid (xs.length = len) := hI.1
  have HS : Hid (∀ x ∈ xs, x.size ≤ 200) := hs
  have hlc := hI.2.1
  have hcc := hI.2.2.1
  clear hI hs
  go_enter Try.func16, Try.ntmps16
  go_wp2
  go_loopw [3, 8] (fun v i wr => ∃ (k : Nat), k ≤ len ∧ i = .int .i64 k ∧ v = .string (txt (pathK xs k)) ∧ wr = w) (fun _ i _ => len - (intOf i).toNat)
  case atStart => exact ⟨0, Nat.zero_le _, rfl, by rw [pathK_zero], rfl⟩
  case round =>
    obtain ⟨k, hk, rfl, rfl, rfl⟩ := hrel
    by_cases hlt : k < len
    · have hki : (k : Int) < (len : Int) := by omega
      have hkx : k < xs.length := by rw [HL.out]; exact hlt
      obtain ⟨b, off, rfl, hb, hcell⟩ : ∃ b off, p = some ⟨b, off, none⟩ ∧ b < wr.heap.size ∧ ∀ i (h : i < xs.length), wr.cell? ⟨b, off + i, none⟩ = some (.string xs[i]) := by
        rcases HI.out.2.2.2 with h | h
        · omega
        · exact h
      have c1 := hcell k hkx
      have hxs := HS.out xs[k] (List.getElem_mem hkx)
      have hpl := pathK_len HS.out k (by omega)
      have HT : Hid ((txt (pathK xs k)).size = (pathK xs k).length) := by show _ = _; rw [← bytesOf_length, bytes_txt]
      clear hcell
      by_cases h0 : 0 < k
      · have h0i : (0 : Int) < (k : Int) := by omega
        have HN : Hid ((txt (pathK xs k) ++ ⟨#[47]⟩) ++ xs[k] = txt (pathK xs (k + 1))) := by
          show _ = _
          rw [← txt_bytes (_ ++ _), add_bytes, add_bytes, bytes_txt, pathK_succ hkx h0]
        have a1 : ∀ W : World, (Op.stringOp .add (txt (pathK xs k)) ⟨#[47]⟩).run Try.prog W = .ok (.string (txt (pathK xs k) ++ ⟨#[47]⟩)) W := fun W => run_string_add_sum (P := Try.prog) W _ _ (by rw [HT.out]; show _ + 1 ≤ _; omega)
        have a2 : ∀ W : World, (Op.stringOp .add (txt (pathK xs k) ++ ⟨#[47]⟩) xs[k]).run Try.prog W = .ok (.string (txt (pathK xs k) ++ ⟨#[47]⟩ ++ xs[k])) W := fun W => run_string_add_sum (P := Try.prog) W _ _ (by rw [add_size, HT.out]; show _ + 1 + _ ≤ _; omega)
        generalize xs[k] = x at *
        generalize txt (pathK xs k) = t0 at *
        generalize ht1 : t0 ++ (⟨#[47]⟩ : ByteArray) = t1 at *
        generalize ht2 : t1 ++ x = t2 at *
        clear ht1 ht2 hpl hxs HT
        go_wp2
        go_roundw
        case rel => exact ⟨k + 1, by omega, by go_num, by rw [HN.out], trivial⟩
        case measure => simp [intOf]; omega
      · have h0i : ¬ (0 : Int) < (k : Int) := by omega
        have HN : Hid (txt (pathK xs k) ++ xs[k] = txt (pathK xs (k + 1))) := by
          show _ = _
          obtain rfl : k = 0 := by omega
          rw [← txt_bytes (_ ++ _), add_bytes, bytes_txt, pathK_one hkx, pathK_zero]; rfl
        have a2 : ∀ W : World, (Op.stringOp .add (txt (pathK xs k)) xs[k]).run Try.prog W = .ok (.string (txt (pathK xs k) ++ xs[k])) W := fun W => run_string_add_sum (P := Try.prog) W _ _ (by rw [HT.out]; omega)
        generalize xs[k] = x at *
        generalize txt (pathK xs k) = t0 at *
        generalize ht2 : t0 ++ x = t2 at *
        clear ht2 hpl hxs HT h0
        go_wp2
        go_roundw
        case rel => exact ⟨k + 1, by omega, by go_num, by rw [HN.out], trivial⟩
        case measure => simp [intOf]; omega
    · obtain rfl : k = len := by omega
      go_wp2
      go_ret
      exact ⟨rfl, rfl⟩
end Go.Proofs.Ytkpjbleogjmbjaa
