/-
  What the reference's Number and Put answer. Nothing that lay before a call has turned.
-/
import Derived.Test.YtifjkkfienmdjaaEq
import Derived.Laws.Bits64b
import Derived.Maps.AppendAt
import Derived.Deep.AppendLies
import Derived.Laws.BitsAllLaws
namespace Go.Proofs.Ytifjkkfienmdjaa
open Go.RowKit

def byteVals (f : Nat → Nat) (k : Nat) : List Value := (List.range k).map fun i => .int .u8 (f i : Nat)
theorem byteVals_succ (f : Nat → Nat) (k : Nat) : byteVals f k ++ [.int .u8 (f k : Nat)] = byteVals f (k + 1) := by simp [byteVals, List.range_succ]
/-- The number of the bytes i, .., len - 1 of zs, the lowest ahead; in m steps. -/
def numFrom (zs : List Nat) (i : Nat) : Nat → Nat
  | 0 => 0
  | m + 1 => zs.getD i 0 + 256 * numFrom zs (i + 1) m

theorem numFrom_lt (zs : List Nat) (h : ∀ z ∈ zs, z < 256) : ∀ (m i : Nat), numFrom zs i m < 256 ^ m
  | 0, _ => by simp [numFrom]
  | m + 1, i => by
    have h1 := numFrom_lt zs h m (i + 1)
    have h2 := getD_of_all h i
    rw [numFrom, Nat.pow_succ]
    omega

theorem u64_join (x y : Nat) (i : Nat) (h1 : x % 2 ^ i = 0) (h2 : y < 2 ^ i) (hx : x < 18446744073709551616) (hy : y < 18446744073709551616) : bits .or .u64 (x : Int) (y : Int) = ((x + y : Nat) : Int) := by
  rw [bits_join .u64 64 (by decide) (fun n h0 h1 => by rw [IntKind.wrap_u64]; omega) i x y (by omega) (by exact_mod_cast h1) (by omega) (by omega) (by exact_mod_cast h2) (by omega)]
  omega

theorem num_step (zs : List Nat) (hz : ∀ z ∈ zs, z < 256) (j len : Nat) (hj : j + 1 ≤ len) (hlen : len ≤ 8) :
    bits .or .u64 (IntKind.u64.wrap (((numFrom zs (j + 1) (len - (j + 1)) : Nat) : Int) * 256)) (IntKind.u64.wrap ((zs[j]?.getD 0 : Nat) : Int)) = ((numFrom zs j (len - j) : Nat) : Int) := by
  have h1 := numFrom_lt zs hz (len - (j + 1)) (j + 1)
  have h2 : zs[j]?.getD 0 < 256 := getD_of_all hz j
  have h3 : 256 ^ (len - (j + 1)) ≤ 256 ^ 7 := Nat.pow_le_pow_right (by decide) (by omega)
  rw [show len - j = (len - (j + 1)) + 1 by omega, numFrom, List.getD_eq_getElem?_getD]
  generalize numFrom zs (j + 1) (len - (j + 1)) = N at *
  generalize zs[j]?.getD 0 = z at *
  have e1 : IntKind.u64.wrap ((N : Int) * 256) = ((256 * N : Nat) : Int) := by rw [IntKind.wrap_u64]; omega
  have e2 : IntKind.u64.wrap (z : Int) = ((z : Nat) : Int) := by rw [IntKind.wrap_u64]; omega
  rw [e1, e2, u64_join _ _ 8 (by omega) (by omega) (by omega) (by omega)]
  omega

set_option maxRecDepth 100000 in
set_option maxHeartbeats 1000000 in
theorem number_some (b off len cap : Nat) (zs : List Nat) (w : World) (hlen : len ≤ 8) (hz : ∀ z ∈ zs, z < 256)
    (hA : ∀ i, i < len → w.cell? ⟨b, off + i, none⟩ = some (.int .u8 (zs.getD i 0 : Nat))) :
    Calls Try.prog 35 #[.slice (some ⟨b, off, none⟩) len cap] w fun e w' => e = .returned (.int .u64 (numFrom zs 0 len : Nat)) ∧ w' = w := by
  go_enter Try.func35, Try.ntmps35
  go_wp2
  go_loop [3, 4] (fun n i => ∃ k : Nat, k ≤ len ∧ i = .int .i64 ((k : Int) - 1) ∧ n = .int .u64 (numFrom zs k (len - k) : Nat)) (fun _ i => (intOf i + 1).toNat)
  case atStart => exact ⟨len, Nat.le_refl _, rfl, by simp [numFrom]⟩
  case round =>
    obtain ⟨k, hk, rfl, rfl⟩ := hrel
    by_cases h0 : k = 0
    · subst h0
      go_wp2
      go_ret
      exact ⟨rfl, rfl⟩
    · obtain ⟨j, rfl⟩ : ∃ j, k = j + 1 := ⟨k - 1, by omega⟩
      have hc := hA j (by omega)
      have HS : Hid (bits .or .u64 (IntKind.u64.wrap (((numFrom zs (j + 1) (len - (j + 1)) : Nat) : Int) * 256)) (IntKind.u64.wrap ((zs[j]?.getD 0 : Nat) : Int)) = ((numFrom zs j (len - j) : Nat) : Int)) := num_step zs hz j len hk hlen
      go_wp2
      go_round
      case rel => exact ⟨j, by omega, rfl, by rw [HS.out]⟩
      case measure => simp [intOf]

/-- Byte i of a number. -/
def byteAt (n i : Nat) : Nat := n / 256 ^ i % 256

theorem byteAt_eq (n k : Nat) : ((byteAt n k : Nat) : Int) = (n : Int) / 2 ^ (8 * k) % 256 := by
  rw [byteAt, show (256 : Nat) = 2 ^ 8 from rfl, ← Nat.pow_mul]
  simp

set_option maxRecDepth 100000 in
set_option maxHeartbeats 1000000 in
/-- the reference's Put -/
theorem refPut_any (n size : Nat) (hs : size ≤ 8) (w : World) :
    Calls Try.prog 47 #[.int .u64 n, .int .i64 size] w fun e w' => ∃ v, e = .returned v ∧ w'.ownsRow w.heap.size 5 1 v size (byteVals (byteAt n) size) ∧ Below w.heap.size w w' := by
  obtain ⟨i0, hi, hz0, hz1, hz2⟩ := info_parts info5
  go_enter Try.func47, Try.ntmps47
  go_wp2
  go_loopw [5, 6] (fun v i wr => ∃ k : Nat, k ≤ size ∧ i = .int .i64 k ∧ wr.ownsRow w.heap.size 5 1 v k (byteVals (byteAt n) k) ∧ Below w.heap.size w wr)
    (fun _ i _ => size - (intOf i).toNat)
  case atStart => exact ⟨0, Nat.zero_le _, rfl, World.ownsRow_nil _ _ _ _, Below.refl _ _⟩
  case round =>
    obtain ⟨k, hk, rfl, hown, hbel⟩ := hrel
    by_cases hlt : k < size
    · have i1 : (k : Int) < (size : Int) := by omega
      have HY : Hid (((byteAt n k : Nat) : Int) = (n : Int) / 2 ^ (8 * k) % 256) := byteAt_eq n k
      have hsz := hbel.size
      go_wp2_with (at_builtin; refine wpList_append_lies _ rfl _ _ 25 rfl w.heap.size 5 i0 (.int .u8 0) 1 1 Try.underlying25 hi hz0 hz1 hz2 rfl (by decide) u5 k _ rfl (hown.alloc _) ⟨wr.heap.size, 0, none⟩ 1 1 [.int .u8 (byteAt n k : Nat)] rfl rfl (by rw [HY.out]; exact cell_one_new _ _ _) (by simp [Value.oneCell']) (by omega) (by simp only [maxLen]; omega) (by omega) (by simp; omega) (wr.heap.size + 1) (by simp) ?_; intro gg cap w1 hown1 hgrow hat hlt1)
      go_roundw
      case rel => exact ⟨k + 1, by omega, by go_num, by rw [← byteVals_succ]; exact hown1, (hbel.alloc hsz _).grown hgrow (by simp; omega) (fun j e => (hown.lt j e).1)⟩
      case measure => simp [intOf]; omega
    · obtain rfl : k = size := by omega
      go_wp2
      go_ret
      exact ⟨_, rfl, hown, hbel⟩

end Go.Proofs.Ytifjkkfienmdjaa
