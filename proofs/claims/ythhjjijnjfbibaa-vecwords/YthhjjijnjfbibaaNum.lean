/-
  What the reference's Number, Put and Words and vec.Bytes answer: the number of up to eight bytes, the lowest ahead; so many bytes of a number; the words of any bytes; the bytes of any words. Nothing that lay before a call has turned.
-/
import Derived.Test.YthhjjijnjfbibaaXor
import Derived.Laws.Bits64b
namespace Go.Proofs.Ythhjjijnjfbibaa
open Go.RowKit

/-- The number of the bytes i, .., len - 1 of zs, the lowest ahead; in m steps. -/
def numFrom (zs : List Nat) (i : Nat) : Nat → Nat
  | 0 => 0
  | m + 1 => zs.getD i 0 + 256 * numFrom zs (i + 1) m

theorem numFrom_lt (zs : List Nat) (h : ∀ z ∈ zs, z < 256) : ∀ (m i : Nat), numFrom zs i m < 256 ^ m
  | 0, _ => by simp [numFrom]
  | m + 1, i => by
    have h1 := numFrom_lt zs h m (i + 1)
    have h2 := getD_of_all h i
    rw [numFrom, Nat.pow_succ]
    omega

theorem u64_join (x y : Nat) (i : Nat) (h1 : x % 2 ^ i = 0) (h2 : y < 2 ^ i) (hx : x < 18446744073709551616) (hy : y < 18446744073709551616) : bits .or .u64 (x : Int) (y : Int) = ((x + y : Nat) : Int) := by
  rw [bits_join .u64 64 (by decide) (fun n h0 h1 => by rw [IntKind.wrap_u64]; omega) i x y (by omega) (by exact_mod_cast h1) (by omega) (by omega) (by exact_mod_cast h2) (by omega)]
  omega

theorem num_step (zs : List Nat) (hz : ∀ z ∈ zs, z < 256) (j len : Nat) (hj : j + 1 ≤ len) (hlen : len ≤ 8) :
    bits .or .u64 (IntKind.u64.wrap (((numFrom zs (j + 1) (len - (j + 1)) : Nat) : Int) * 256)) (IntKind.u64.wrap ((zs[j]?.getD 0 : Nat) : Int)) = ((numFrom zs j (len - j) : Nat) : Int) := by
  have h1 := numFrom_lt zs hz (len - (j + 1)) (j + 1)
  have h2 : zs[j]?.getD 0 < 256 := getD_of_all hz j
  have h3 : 256 ^ (len - (j + 1)) ≤ 256 ^ 7 := Nat.pow_le_pow_right (by decide) (by omega)
  rw [show len - j = (len - (j + 1)) + 1 by omega, numFrom, List.getD_eq_getElem?_getD]
  generalize numFrom zs (j + 1) (len - (j + 1)) = N at *
  generalize zs[j]?.getD 0 = z at *
  have e1 : IntKind.u64.wrap ((N : Int) * 256) = ((256 * N : Nat) : Int) := by rw [IntKind.wrap_u64]; omega
  have e2 : IntKind.u64.wrap (z : Int) = ((z : Nat) : Int) := by rw [IntKind.wrap_u64]; omega
  rw [e1, e2, u64_join _ _ 8 (by omega) (by omega) (by omega) (by omega)]
  omega

set_option maxRecDepth 100000 in
set_option maxHeartbeats 1000000 in
theorem number_some (b off len cap : Nat) (zs : List Nat) (w : World) (hlen : len ≤ 8) (hz : ∀ z ∈ zs, z < 256)
    (hA : ∀ i, i < len → w.cell? ⟨b, off + i, none⟩ = some (.int .u8 (zs.getD i 0 : Nat))) :
    Calls Try.prog 21 #[.slice (some ⟨b, off, none⟩) len cap] w fun e w' => e = .returned (.int .u64 (numFrom zs 0 len : Nat)) ∧ w' = w := by
  go_enter Try.func21, Try.ntmps21
  go_wp2
  go_loop [3, 4] (fun n i => ∃ k : Nat, k ≤ len ∧ i = .int .i64 ((k : Int) - 1) ∧ n = .int .u64 (numFrom zs k (len - k) : Nat)) (fun _ i => (intOf i + 1).toNat)
  case atStart => exact ⟨len, Nat.le_refl _, rfl, by simp [numFrom]⟩
  case round =>
    obtain ⟨k, hk, rfl, rfl⟩ := hrel
    by_cases h0 : k = 0
    · subst h0
      go_wp2
      go_ret
      exact ⟨rfl, rfl⟩
    · obtain ⟨j, rfl⟩ : ∃ j, k = j + 1 := ⟨k - 1, by omega⟩
      have hc := hA j (by omega)
      have HS : Hid (bits .or .u64 (IntKind.u64.wrap (((numFrom zs (j + 1) (len - (j + 1)) : Nat) : Int) * 256)) (IntKind.u64.wrap ((zs[j]?.getD 0 : Nat) : Int)) = ((numFrom zs j (len - j) : Nat) : Int)) := num_step zs hz j len hk hlen
      go_wp2
      go_round
      case rel => exact ⟨j, by omega, rfl, by rw [HS.out]⟩
      case measure => simp [intOf]

theorem numFrom_word (zs : List Nat) : numFrom zs 0 4 = wordAt zs 0 := by
  simp only [numFrom, wordAt, Nat.zero_add, Nat.mul_zero, Nat.reduceAdd]; omega

/-- Byte i of a number. -/
def byteAt (n i : Nat) : Nat := n / 256 ^ i % 256

theorem byteAt_eq (n k : Nat) : ((byteAt n k : Nat) : Int) = (n : Int) / 2 ^ (8 * k) % 256 := by
  rw [byteAt, show (256 : Nat) = 2 ^ 8 from rfl, ← Nat.pow_mul]
  simp

set_option maxRecDepth 100000 in
set_option maxHeartbeats 1000000 in
/-- the reference's Put -/
theorem put_any (n size : Nat) (hs : size ≤ 8) (w : World) :
    Calls Try.prog 13 #[.int .u64 n, .int .i64 size] w fun e w' => ∃ v, e = .returned v ∧ w'.ownsRow w.heap.size 5 1 v size (byteVals (byteAt n) size) ∧ Below w.heap.size w w' := by
  obtain ⟨i0, hi, hz0, hz1, hz2⟩ := info_parts info5
  go_enter Try.func13, Try.ntmps13
  go_wp2
  go_loopw [5, 6] (fun v i wr => ∃ k : Nat, k ≤ size ∧ i = .int .i64 k ∧ wr.ownsRow w.heap.size 5 1 v k (byteVals (byteAt n) k) ∧ Below w.heap.size w wr)
    (fun _ i _ => size - (intOf i).toNat)
  case atStart => exact ⟨0, Nat.zero_le _, rfl, World.ownsRow_nil _ _ _ _, Below.refl _ _⟩
  case round =>
    obtain ⟨k, hk, rfl, hown, hbel⟩ := hrel
    by_cases hlt : k < size
    · have i1 : (k : Int) < (size : Int) := by omega
      have HY : Hid (((byteAt n k : Nat) : Int) = (n : Int) / 2 ^ (8 * k) % 256) := byteAt_eq n k
      have hsz := hbel.size
      go_wp2_with (at_builtin; refine wpList_append_lies _ rfl _ _ 22 rfl w.heap.size 5 i0 (.int .u8 0) 1 1 Try.underlying22 hi hz0 hz1 hz2 rfl (by decide) u5 k _ rfl (hown.alloc _) ⟨wr.heap.size, 0, none⟩ 1 1 [.int .u8 (byteAt n k : Nat)] rfl rfl (by rw [HY.out]; exact cell_one_new _ _ _) (by simp [Value.oneCell']) (by omega) (by simp only [maxLen]; omega) (by omega) (by simp; omega) (wr.heap.size + 1) (by simp) ?_; intro gg cap w1 hown1 hgrow hat hlt1)
      go_roundw
      case rel => exact ⟨k + 1, by omega, by go_num, by rw [← byteVals_succ]; exact hown1, (hbel.alloc hsz _).grown hgrow (by simp; omega) (fun j e => (hown.lt j e).1)⟩
      case measure => simp [intOf]; omega
    · obtain rfl : k = size := by omega
      go_wp2
      go_ret
      exact ⟨_, rfl, hown, hbel⟩

theorem wordVals_succ (zs : List Nat) (k : Nat) : wordVals zs k ++ [.int .u32 (wordAt zs k : Nat)] = wordVals zs (k + 1) := by simp [wordVals, List.range_succ]

theorem getD_drop (zs : List Nat) (a i : Nat) : (zs.drop a).getD i 0 = zs.getD (a + i) 0 := by simp [List.getElem?_drop]

theorem wordAt_drop (zs : List Nat) (k : Nat) : wordAt (zs.drop (4 * k)) 0 = wordAt zs k := by
  simp only [wordAt, getD_drop, Nat.mul_zero, Nat.zero_add, Nat.add_zero]

theorem wordAt_lt (zs : List Nat) (h : ∀ z ∈ zs, z < 256) (k : Nat) : wordAt zs k < 4294967296 := by
  have h0 := getD_of_all h (4 * k)
  have h1 := getD_of_all h (4 * k + 1)
  have h2 := getD_of_all h (4 * k + 2)
  have h3 := getD_of_all h (4 * k + 3)
  unfold wordAt
  omega

set_option maxRecDepth 100000 in
set_option maxHeartbeats 1000000 in
theorem refWords_some (b off len cap : Nat) (zs : List Nat) (w : World) (hlen : len ≤ 60000) (hlc : len ≤ cap) (hcap : cap ≤ 9223372036854775807) (hbb : b < w.heap.size) (hz : ∀ z ∈ zs, z < 256)
    (hA : ∀ i, i < len → w.cell? ⟨b, off + i, none⟩ = some (.int .u8 (zs.getD i 0 : Nat))) :
    Calls Try.prog 12 #[.slice (some ⟨b, off, none⟩) len cap] w fun e w' => ∃ v, e = .returned v ∧ w'.ownsRow w.heap.size 28 1 v (len / 4) (wordVals zs (len / 4)) ∧ Below w.heap.size w w' := by
  obtain ⟨i0, hi, hz0, hz1, hz2⟩ := info_parts info28
  go_enter Try.func12, Try.ntmps12
  go_wp2
  go_loopw [0, 3] (fun s v wr => ∃ (k L C : Nat) (q : Option Addr), s = .slice q L C ∧ L + 4 * k = len ∧ C + 4 * k = cap ∧ (0 < L → q = some ⟨b, off + 4 * k, none⟩) ∧ wr.ownsRow w.heap.size 28 1 v k (wordVals zs k) ∧ Below w.heap.size w wr)
    (fun s _ _ => sliceLen s)
  case atStart => exact ⟨0, len, cap, _, rfl, by omega, by omega, fun _ => rfl, World.ownsRow_nil _ _ _ _, Below.refl _ _⟩
  case round =>
    obtain ⟨k, L, C, q, rfl, hL, hC, hq, hown, hbel⟩ := hrel
    have HL : Hid (L + 4 * k = len ∧ C + 4 * k = cap) := ⟨hL, hC⟩
    have hLC : L ≤ C := by omega
    have hCc : C ≤ 9223372036854775807 := by omega
    by_cases hfull : 4 ≤ L
    · obtain rfl := hq (by omega)
      have hn := number_some b (off + 4 * k) 4 C (zs.drop (4 * k)) wr (by omega) (fun z h => hz z (List.mem_of_mem_drop h)) (fun i hi => by
        have := (hbel.cell (p := ⟨b, off + (4 * k + i), none⟩) hbb).trans (hA (4 * k + i) (by omega))
        rw [getD_drop, Nat.add_assoc]
        exact this)
      rw [numFrom_word, wordAt_drop] at hn
      have hw := wordAt_lt zs hz k
      have hwr : IntKind.u32.wrap ((wordAt zs k : Nat) : Int) = (wordAt zs k : Nat) := by rw [IntKind.wrap_u32]; omega
      have HN : Hid (Calls Try.prog 21 #[.slice (some ⟨b, off + 4 * k, none⟩) 4 C] wr fun e w' => e = .returned (.int .u64 (wordAt zs k : Nat)) ∧ w' = wr) := hn
      have hLi : (4 : Int) ≤ (L : Int) := by omega
      have hsz := hbel.size
      have hkk : k + 1 ≤ 60000 := by omega
      have HQ : Hid (4 * k + L = 4 * k + L) := rfl
      clear hn hA hz hL hC hq
      generalize hO : off + 4 * k = O at *
      have HO : Hid (off + 4 * k = O) := hO
      clear hO
      go_wp2_with (first
        | (go_at_call 21; refine HN.out.mono ?_; rintro e w' ⟨rfl, hw'⟩; obtain rfl : wr = w' := hw'.symm)
        | (at_builtin; refine wpList_append_lies _ rfl _ _ 26 rfl w.heap.size 28 i0 (.int .u32 0) 1 4 Try.underlying26 hi hz0 hz1 hz2 rfl (by decide) u3 k _ rfl (hown.alloc _) ⟨wr.heap.size, 0, none⟩ 1 1 [.int .u32 (wordAt zs k : Nat)] rfl rfl (cell_one_new _ _ _) (by simp [Value.oneCell']) (by omega) (by simp only [maxLen]; omega) (by omega) (by simp; omega) (wr.heap.size + 1) (by simp) ?_; intro gg cap' w1 hown1 hgrow hat hlt1))
      go_roundw
      case rel =>
        have h1 := HL.out
        refine ⟨k + 1, L - 4, C - 4, _, rfl, by omega, by omega, fun hh => ?_, by rw [← wordVals_succ]; exact hown1, (hbel.alloc hsz _).grown hgrow (by simp; omega) (fun j e => (hown.lt j e).1)⟩
        rw [if_neg (by omega), ← HO.out]
        rfl
      case measure => simp only [sliceLen]; omega
    · have hLi : ¬ (4 : Int) ≤ (L : Int) := by omega
      have hLi' : (L : Int) < 4 := by omega
      obtain rfl : k = len / 4 := by omega
      clear hL hC
      go_wp2
      go_ret
      exact ⟨_, rfl, hown, hbel⟩

set_option maxRecDepth 100000 in
set_option maxHeartbeats 1000000 in
theorem refWords_none (p : Option Addr) (cap : Nat) (w : World) :
    Calls Try.prog 12 #[.slice p 0 cap] w fun e w' => ∃ v, e = .returned v ∧ w'.ownsRow w.heap.size 28 1 v 0 [] ∧ Below w.heap.size w w' := by
  go_enter Try.func12, Try.ntmps12
  go_wp2
  go_loopw [0, 3] (fun s v wr => s = .slice p 0 cap ∧ v = .slice none 0 0 ∧ wr = w) (fun _ _ _ => 0)
  case atStart => exact ⟨rfl, rfl, rfl⟩
  case round =>
    obtain ⟨rfl, rfl, rfl⟩ := hrel
    go_wp2
    go_ret
    exact ⟨_, rfl, World.ownsRow_nil _ _ _ _, Below.refl _ _⟩

/-- the reference's Words -/
theorem refWords_any (p : Option Addr) (len cap : Nat) (zs : List Nat) (hlen : len ≤ 60000) (w : World) (hI : IsBytes w.heap.size w p len cap zs) :
    Calls Try.prog 12 #[.slice p len cap] w fun e W' => ∃ v, e = .returned v ∧ W'.ownsRow w.heap.size 28 1 v (len / 4) (wordVals zs (len / 4)) ∧ Below w.heap.size w W' := by
  obtain ⟨h1, h2, h3, h4, rfl | ⟨b, off, rfl, hb, hc⟩⟩ := hI
  · exact refWords_none p cap w
  · exact refWords_some b off len cap zs w hlen h2 h3 hb h4 hc

/-- A slice of words: it has none, or it leads to cells of a block below n₀. -/
def IsWords (n₀ : Nat) (W : World) (p : Option Addr) (len : Nat) (ls : List Nat) : Prop :=
  ls.length = len ∧ (∀ x ∈ ls, x < 4294967296) ∧
  (len = 0 ∨ ∃ b off, p = some ⟨b, off, none⟩ ∧ b < n₀ ∧ ∀ i, i < len → W.cell? ⟨b, off + i, none⟩ = some (.int .u32 (ls.getD i 0 : Nat)))

/-- The bytes of some words. -/
def bytesOf (ls : List Nat) (i : Nat) : Nat := byteAt (ls.getD (i / 4) 0) (i % 4)

theorem byteVals_four (ls : List Nat) (k : Nat) :
    byteVals (bytesOf ls) (4 * k) ++ [.int .u8 (byteAt (ls.getD k 0) 0 : Nat), .int .u8 (byteAt (ls.getD k 0) 1 : Nat), .int .u8 (byteAt (ls.getD k 0) 2 : Nat), .int .u8 (byteAt (ls.getD k 0) 3 : Nat)] = byteVals (bytesOf ls) (4 * (k + 1)) := by
  have e : ∀ r, r < 4 → bytesOf ls (4 * k + r) = byteAt (ls.getD k 0) r := fun r hr => by
    unfold bytesOf
    rw [show (4 * k + r) / 4 = k by omega, show (4 * k + r) % 4 = r by omega]
  rw [show 4 * (k + 1) = 4 * k + 1 + 1 + 1 + 1 by omega, ← byteVals_succ, ← byteVals_succ, ← byteVals_succ, ← byteVals_succ]
  have e0 := e 0 (by omega)
  rw [Nat.add_zero] at e0
  rw [show 4 * k + 1 + 1 = 4 * k + 2 by omega, show 4 * k + 2 + 1 = 4 * k + 3 by omega, e0, e 1 (by omega), e 2 (by omega), e 3 (by omega)]
  simp

theorem four_eq (x : Nat) : [Value.int .u8 ((x : Int) % 256), .int .u8 ((x : Int) / 256 % 256), .int .u8 ((x : Int) / 65536 % 256), .int .u8 ((x : Int) / 16777216 % 256)] =
    [.int .u8 (byteAt x 0 : Nat), .int .u8 (byteAt x 1 : Nat), .int .u8 (byteAt x 2 : Nat), .int .u8 (byteAt x 3 : Nat)] := by
  simp [byteAt]

set_option maxRecDepth 100000 in
set_option maxHeartbeats 1000000 in
theorem bytes_some (b off len cap : Nat) (ls : List Nat) (w : World) (hlen : len ≤ 60000) (hbb : b < w.heap.size)
    (hA : ∀ i, i < len → w.cell? ⟨b, off + i, none⟩ = some (.int .u32 (ls.getD i 0 : Nat))) :
    Calls Try.prog 14 #[.slice (some ⟨b, off, none⟩) len cap] w fun e w' => ∃ v, e = .returned v ∧ w'.ownsRow w.heap.size 5 1 v (4 * len) (byteVals (bytesOf ls) (4 * len)) ∧ Below w.heap.size w w' := by
  obtain ⟨i0, hi, hz0, hz1, hz2⟩ := info_parts info5
  go_enter Try.func14, Try.ntmps14
  go_wp2_with (at_make; refine wpList_make_own _ rfl _ _ 22 rfl w.heap.size 5 i0 (.int .u8 0) 1 Try.underlying22 hi hz0 hz1 _ _ _ (4 * len) rfl rfl (by omega) (by rw [hz2]; omega) (by simp only [maxLen]; omega) (Nat.le_refl _) ?_; intro w1 hown1 hgrow1)
  have hB1 : Below w.heap.size w w1 := (Below.refl _ w).grown hgrow1 (Nat.le_refl _) (fun k e => by cases e)
  clear hgrow1
  go_loopw [3, 12] (fun v i wr => ∃ k : Nat, k ≤ len ∧ i = .int .i64 k ∧ wr.ownsRow w.heap.size 5 1 v (4 * k) (byteVals (bytesOf ls) (4 * k)) ∧ Below w.heap.size w wr)
    (fun _ i _ => len - (intOf i).toNat)
  case atStart => exact ⟨0, Nat.zero_le _, rfl, hown1, hB1⟩
  case round =>
    obtain ⟨k, hk, rfl, hown, hbel⟩ := hrel
    by_cases hlt : k < len
    · have i1 : (k : Int) < (len : Int) := by omega
      have hc := (hbel.cell (p := ⟨b, off + k, none⟩) hbb).trans (hA k hlt)
      have hsz := hbel.size
      clear hA hB1 hown1
      have HF := byteVals_four ls k
      obtain ⟨x, hx⟩ : ∃ x, x = ls.getD k 0 := ⟨_, rfl⟩
      rw [← hx] at hc HF
      have HF' : Hid (byteVals (bytesOf ls) (4 * k) ++ [.int .u8 (byteAt x 0 : Nat), .int .u8 (byteAt x 1 : Nat), .int .u8 (byteAt x 2 : Nat), .int .u8 (byteAt x 3 : Nat)] = byteVals (bytesOf ls) (4 * (k + 1))) := HF
      clear HF hx
      go_wp2_with (at_builtin; refine wpList_append_lies _ rfl _ _ 22 rfl w.heap.size 5 i0 (.int .u8 0) 1 1 Try.underlying22 hi hz0 hz1 hz2 rfl (by decide) u3 (4 * k) _ rfl (hown.alloc _) ⟨wr.heap.size, 0, none⟩ 4 4 [.int .u8 ((x : Int) % 256), .int .u8 ((x : Int) / 256 % 256), .int .u8 ((x : Int) / 65536 % 256), .int .u8 ((x : Int) / 16777216 % 256)] rfl rfl (World.news_of_block (cs := #[.int .u8 ((x : Int) % 256), .int .u8 ((x : Int) / 256 % 256), .int .u8 ((x : Int) / 65536 % 256), .int .u8 ((x : Int) / 16777216 % 256)]) (t := 5) (fr := (0, 0)) (heap_alloc_new wr _)) (by simp [Value.oneCell']) (by omega) (by simp only [maxLen]; omega) (by omega) (by simp; omega) (wr.heap.size + 1) (by simp) ?_; intro gg cap' w2 hown2 hgrow hat hlt1)
      go_roundw
      case rel =>
        refine ⟨k + 1, by omega, by go_num, ?_, (hbel.alloc hsz _).grown hgrow (by simp; omega) (fun j e => (hown.lt j e).1)⟩
        rw [← HF'.out, ← four_eq]
        exact hown2
      case measure => simp [intOf]; omega
    · obtain rfl : k = len := by omega
      go_wp2
      go_ret
      exact ⟨_, rfl, hown, hbel⟩

set_option maxRecDepth 100000 in
set_option maxHeartbeats 1000000 in
theorem bytes_none (p : Option Addr) (cap : Nat) (w : World) :
    Calls Try.prog 14 #[.slice p 0 cap] w fun e w' => ∃ v, e = .returned v ∧ w'.ownsRow w.heap.size 5 1 v 0 [] ∧ Below w.heap.size w w' := by
  obtain ⟨i0, hi, hz0, hz1, hz2⟩ := info_parts info5
  go_enter Try.func14, Try.ntmps14
  go_wp2_with (at_make; refine wpList_make_own _ rfl _ _ 22 rfl w.heap.size 5 i0 (.int .u8 0) 1 Try.underlying22 hi hz0 hz1 _ _ _ 0 rfl rfl (by omega) (by omega) (by simp only [maxLen]; omega) (Nat.le_refl _) ?_; intro w1 hown1 hgrow1)
  have hB1 : Below w.heap.size w w1 := (Below.refl _ w).grown hgrow1 (Nat.le_refl _) (fun k e => by cases e)
  go_loopw [3, 12] (fun v i wr => v = .slice (some ⟨w.heap.size, 0, none⟩) 0 0 ∧ i = .int .i64 0 ∧ wr = w1) (fun _ _ _ => 0)
  case atStart => exact ⟨rfl, rfl, rfl⟩
  case round =>
    obtain ⟨rfl, rfl, rfl⟩ := hrel
    go_wp2
    go_ret
    exact ⟨_, rfl, hown1, hB1⟩

/-- vec.Bytes -/
theorem bytes_any (p : Option Addr) (len cap : Nat) (ls : List Nat) (hlen : len ≤ 60000) (w : World) (hI : IsWords w.heap.size w p len ls) :
    Calls Try.prog 14 #[.slice p len cap] w fun e w' => ∃ v, e = .returned v ∧ w'.ownsRow w.heap.size 5 1 v (4 * len) (byteVals (bytesOf ls) (4 * len)) ∧ Below w.heap.size w w' := by
  obtain ⟨h1, h4, rfl | ⟨b, off, rfl, hb, hc⟩⟩ := hI
  · exact bytes_none p cap w
  · exact bytes_some b off len cap ls w hlen hb hc

end Go.Proofs.Ythhjjijnjfbibaa
