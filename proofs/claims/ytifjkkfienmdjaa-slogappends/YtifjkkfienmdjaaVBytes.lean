/-
  What vec.Bytes answers for any words (up to 60,000): four bytes of each, the lowest ahead, in memory of their own. Nothing that lay before the call has turned.
-/
import Derived.Test.YtifjkkfienmdjaaNum
namespace Go.Proofs.Ytifjkkfienmdjaa
open Go.RowKit

def IsWords (n₀ : Nat) (W : World) (p : Option Addr) (len : Nat) (ls : List Nat) : Prop :=
  ls.length = len ∧ (∀ x ∈ ls, x < 4294967296) ∧
  (len = 0 ∨ ∃ b off, p = some ⟨b, off, none⟩ ∧ b < n₀ ∧ ∀ i, i < len → W.cell? ⟨b, off + i, none⟩ = some (.int .u32 (ls.getD i 0 : Nat)))

/-- The bytes of some words. -/
def bytesOf (ls : List Nat) (i : Nat) : Nat := byteAt (ls.getD (i / 4) 0) (i % 4)

theorem byteVals_four (ls : List Nat) (k : Nat) :
    byteVals (bytesOf ls) (4 * k) ++ [.int .u8 (byteAt (ls.getD k 0) 0 : Nat), .int .u8 (byteAt (ls.getD k 0) 1 : Nat), .int .u8 (byteAt (ls.getD k 0) 2 : Nat), .int .u8 (byteAt (ls.getD k 0) 3 : Nat)] = byteVals (bytesOf ls) (4 * (k + 1)) := by
  have e : ∀ r, r < 4 → bytesOf ls (4 * k + r) = byteAt (ls.getD k 0) r := fun r hr => by
    unfold bytesOf
    rw [show (4 * k + r) / 4 = k by omega, show (4 * k + r) % 4 = r by omega]
  rw [show 4 * (k + 1) = 4 * k + 1 + 1 + 1 + 1 by omega, ← byteVals_succ, ← byteVals_succ, ← byteVals_succ, ← byteVals_succ]
  have e0 := e 0 (by omega)
  rw [Nat.add_zero] at e0
  rw [show 4 * k + 1 + 1 = 4 * k + 2 by omega, show 4 * k + 2 + 1 = 4 * k + 3 by omega, e0, e 1 (by omega), e 2 (by omega), e 3 (by omega)]
  simp

theorem four_eq (x : Nat) : [Value.int .u8 ((x : Int) % 256), .int .u8 ((x : Int) / 256 % 256), .int .u8 ((x : Int) / 65536 % 256), .int .u8 ((x : Int) / 16777216 % 256)] =
    [.int .u8 (byteAt x 0 : Nat), .int .u8 (byteAt x 1 : Nat), .int .u8 (byteAt x 2 : Nat), .int .u8 (byteAt x 3 : Nat)] := by
  simp [byteAt]

set_option maxRecDepth 100000 in
set_option maxHeartbeats 1000000 in
theorem bytes_some (b off len cap : Nat) (ls : List Nat) (w : World) (hlen : len ≤ 60000) (hbb : b < w.heap.size)
    (hA : ∀ i, i < len → w.cell? ⟨b, off + i, none⟩ = some (.int .u32 (ls.getD i 0 : Nat))) :
    Calls Try.prog 55 #[.slice (some ⟨b, off, none⟩) len cap] w fun e w' => ∃ v, e = .returned v ∧ w'.ownsRow w.heap.size 5 1 v (4 * len) (byteVals (bytesOf ls) (4 * len)) ∧ Below w.heap.size w w' := by
  obtain ⟨i0, hi, hz0, hz1, hz2⟩ := info_parts info5
  go_enter Try.func55, Try.ntmps55
  go_wp2_with (at_make; refine wpList_make_own _ rfl _ _ 25 rfl w.heap.size 5 i0 (.int .u8 0) 1 Try.underlying25 hi hz0 hz1 _ _ _ (4 * len) rfl rfl (by omega) (by rw [hz2]; omega) (by simp only [maxLen]; omega) (Nat.le_refl _) ?_; intro w1 hown1 hgrow1)
  have hB1 : Below w.heap.size w w1 := (Below.refl _ w).grown hgrow1 (Nat.le_refl _) (fun k e => by cases e)
  clear hgrow1
  go_loopw [3, 12] (fun v i wr => ∃ k : Nat, k ≤ len ∧ i = .int .i64 k ∧ wr.ownsRow w.heap.size 5 1 v (4 * k) (byteVals (bytesOf ls) (4 * k)) ∧ Below w.heap.size w wr)
    (fun _ i _ => len - (intOf i).toNat)
  case atStart => exact ⟨0, Nat.zero_le _, rfl, hown1, hB1⟩
  case round =>
    obtain ⟨k, hk, rfl, hown, hbel⟩ := hrel
    by_cases hlt : k < len
    · have i1 : (k : Int) < (len : Int) := by omega
      have hc := (hbel.cell (p := ⟨b, off + k, none⟩) hbb).trans (hA k hlt)
      have hsz := hbel.size
      clear hA hB1 hown1
      have HF := byteVals_four ls k
      obtain ⟨x, hx⟩ : ∃ x, x = ls.getD k 0 := ⟨_, rfl⟩
      rw [← hx] at hc HF
      have HF' : Hid (byteVals (bytesOf ls) (4 * k) ++ [.int .u8 (byteAt x 0 : Nat), .int .u8 (byteAt x 1 : Nat), .int .u8 (byteAt x 2 : Nat), .int .u8 (byteAt x 3 : Nat)] = byteVals (bytesOf ls) (4 * (k + 1))) := HF
      clear HF hx
      go_wp2_with (at_builtin; refine wpList_append_lies _ rfl _ _ 25 rfl w.heap.size 5 i0 (.int .u8 0) 1 1 Try.underlying25 hi hz0 hz1 hz2 rfl (by decide) u3 (4 * k) _ rfl (hown.alloc _) ⟨wr.heap.size, 0, none⟩ 4 4 [.int .u8 ((x : Int) % 256), .int .u8 ((x : Int) / 256 % 256), .int .u8 ((x : Int) / 65536 % 256), .int .u8 ((x : Int) / 16777216 % 256)] rfl rfl (World.news_of_block (cs := #[.int .u8 ((x : Int) % 256), .int .u8 ((x : Int) / 256 % 256), .int .u8 ((x : Int) / 65536 % 256), .int .u8 ((x : Int) / 16777216 % 256)]) (t := 5) (fr := (0, 0)) (heap_alloc_new wr _)) (by simp [Value.oneCell']) (by omega) (by simp only [maxLen]; omega) (by omega) (by simp; omega) (wr.heap.size + 1) (by simp) ?_; intro gg cap' w2 hown2 hgrow hat hlt1)
      go_roundw
      case rel =>
        refine ⟨k + 1, by omega, by go_num, ?_, (hbel.alloc hsz _).grown hgrow (by simp; omega) (fun j e => (hown.lt j e).1)⟩
        rw [← HF'.out, ← four_eq]
        exact hown2
      case measure => simp [intOf]; omega
    · obtain rfl : k = len := by omega
      go_wp2
      go_ret
      exact ⟨_, rfl, hown, hbel⟩

set_option maxRecDepth 100000 in
set_option maxHeartbeats 1000000 in
theorem bytes_none (p : Option Addr) (cap : Nat) (w : World) :
    Calls Try.prog 55 #[.slice p 0 cap] w fun e w' => ∃ v, e = .returned v ∧ w'.ownsRow w.heap.size 5 1 v 0 [] ∧ Below w.heap.size w w' := by
  obtain ⟨i0, hi, hz0, hz1, hz2⟩ := info_parts info5
  go_enter Try.func55, Try.ntmps55
  go_wp2_with (at_make; refine wpList_make_own _ rfl _ _ 25 rfl w.heap.size 5 i0 (.int .u8 0) 1 Try.underlying25 hi hz0 hz1 _ _ _ 0 rfl rfl (by omega) (by omega) (by simp only [maxLen]; omega) (Nat.le_refl _) ?_; intro w1 hown1 hgrow1)
  have hB1 : Below w.heap.size w w1 := (Below.refl _ w).grown hgrow1 (Nat.le_refl _) (fun k e => by cases e)
  go_loopw [3, 12] (fun v i wr => v = .slice (some ⟨w.heap.size, 0, none⟩) 0 0 ∧ i = .int .i64 0 ∧ wr = w1) (fun _ _ _ => 0)
  case atStart => exact ⟨rfl, rfl, rfl⟩
  case round =>
    obtain ⟨rfl, rfl, rfl⟩ := hrel
    go_wp2
    go_ret
    exact ⟨_, rfl, hown1, hB1⟩

end Go.Proofs.Ytifjkkfienmdjaa
