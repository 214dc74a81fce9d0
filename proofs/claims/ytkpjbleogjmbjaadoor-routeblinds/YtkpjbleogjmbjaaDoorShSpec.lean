/-
  SHA-256 on plain numbers: the words of a block, a round, a block taken in; and how the program's and the reference's reckonings in 32 bits are told by it.
-/
import Derived.Test.YtkpjbleogjmbjaaDoorMade
import Derived.Test.YtkpjbleogjmbjaaDoorRow
import Derived.Test.YtkpjbleogjmbjaaDoorShRol
namespace Go.Proofs.YtkpjbleogjmbjaaDoor.Sh
open Go Go.RowKit

/-- x, turned down by n bits. -/
def ror (x n : Nat) : Nat := rolN x (32 - n)
theorem ror_lt {x n : Nat} (h : x < 4294967296) : ror x n < 4294967296 := rolN_lt x _ h (by omega)

def wordB (a b c d : Nat) : Nat := 16777216 * a + 65536 * b + 256 * c + d
def word4 (bs : List Nat) (i : Nat) : Nat := wordB (bs.getD (4 * i) 0) (bs.getD (4 * i + 1) 0) (bs.getD (4 * i + 2) 0) (bs.getD (4 * i + 3) 0)

def sig1 (x : Nat) : Nat := ror x 17 ^^^ ror x 19 ^^^ x / 1024
def sig0 (x : Nat) : Nat := ror x 7 ^^^ ror x 18 ^^^ x / 8
/-- The next word of a schedule. -/
def extN (a b c d : Nat) : Nat := (a + b + sig1 c + sig0 d) % 4294967296
def nextW (l : List Nat) : Nat := extN (l.getD (l.length - 16) 0) (l.getD (l.length - 7) 0) (l.getD (l.length - 2) 0) (l.getD (l.length - 15) 0)
def firstW (bs : List Nat) (k : Nat) : List Nat := (List.range k).map (word4 bs)
def growW (bs : List Nat) : Nat → List Nat
  | 0 => firstW bs 16
  | k + 1 => growW bs k ++ [nextW (growW bs k)]
/-- The words of a block. -/
def sched (bs : List Nat) : List Nat := growW bs 48

@[simp] theorem firstW_length (bs : List Nat) (k : Nat) : (firstW bs k).length = k := by simp [firstW]
theorem firstW_succ (bs : List Nat) (k : Nat) : firstW bs (k + 1) = firstW bs k ++ [word4 bs k] := by simp [firstW, List.range_succ]
@[simp] theorem growW_length (bs : List Nat) : ∀ k, (growW bs k).length = 16 + k
  | 0 => by simp [growW]
  | k + 1 => by simp [growW, growW_length bs k]; omega

theorem all_getD {l : List Nat} {N : Nat} (hN : 0 < N) (h : ∀ z ∈ l, z < N) (i : Nat) : l.getD i 0 < N := by
  by_cases hi : i < l.length
  · simp only [List.getD_eq_getElem?_getD, List.getElem?_eq_getElem hi, Option.getD_some]; exact h _ (List.getElem_mem hi)
  · simp [List.getElem?_eq_none (show l.length ≤ i by omega), hN]

theorem wordB_lt {a b c d : Nat} (ha : a < 256) (hb : b < 256) (hc : c < 256) (hd : d < 256) : wordB a b c d < 4294967296 := by unfold wordB; omega
theorem extN_lt (a b c d : Nat) : extN a b c d < 4294967296 := Nat.mod_lt _ (by decide)
theorem growW_lt (bs : List Nat) (hb : ∀ z ∈ bs, z < 256) : ∀ k, ∀ z ∈ growW bs k, z < 4294967296
  | 0 => by
    intro z hz
    obtain ⟨i, _, rfl⟩ := List.mem_map.1 hz
    exact wordB_lt (all_getD (by decide) hb _) (all_getD (by decide) hb _) (all_getD (by decide) hb _) (all_getD (by decide) hb _)
  | k + 1 => by
    intro z hz
    rcases List.mem_append.1 hz with h | h
    · exact growW_lt bs hb k z h
    · simp at h; subst h; exact extN_lt _ _ _ _

theorem u32_or_comm (x y : Int) : bits .or .u32 x y = bits .or .u32 y x := by simp only [bits, BitVec.or_comm]
theorem u32_join (x y : Nat) (i : Nat) (h1 : x % 2 ^ i = 0) (h2 : y < 2 ^ i) (hx : x < 4294967296) (hy : y < 4294967296) : bits .or .u32 (x : Int) (y : Int) = ((x + y : Nat) : Int) := by
  rw [bits_join .u32 32 (by decide) (fun n h0 h1 => by rw [IntKind.wrap_u32]; omega) i x y (by omega) (by exact_mod_cast h1) (by omega) (by omega) (by exact_mod_cast h2) (by omega)]
  omega
theorem wordB_or (a b c d : Nat) (ha : a < 256) (hb : b < 256) (hc : c < 256) (hd : d < 256) :
    bits .or .u32 (bits .or .u32 (bits .or .u32 (IntKind.u32.wrap ((a : Int) * 16777216)) (IntKind.u32.wrap ((b : Int) * 65536))) (IntKind.u32.wrap ((c : Int) * 256))) (d : Int) = ((wordB a b c d : Nat) : Int) := by
  have e1 : IntKind.u32.wrap ((a : Int) * 16777216) = ((16777216 * a : Nat) : Int) := by rw [IntKind.wrap_u32]; omega
  have e2 : IntKind.u32.wrap ((b : Int) * 65536) = ((65536 * b : Nat) : Int) := by rw [IntKind.wrap_u32]; omega
  have e3 : IntKind.u32.wrap ((c : Int) * 256) = ((256 * c : Nat) : Int) := by rw [IntKind.wrap_u32]; omega
  unfold wordB
  rw [e1, e2, e3, u32_join _ _ 24 (by omega) (by omega) (by omega) (by omega), u32_join _ _ 16 (by omega) (by omega) (by omega) (by omega), u32_join _ _ 8 (by omega) (by omega) (by omega) (by omega)]

theorem xor_lt {x y : Nat} (hx : x < 4294967296) (hy : y < 4294967296) : x ^^^ y < 4294967296 := Nat.xor_lt_two_pow (n := 32) hx hy
theorem and_lt {x y : Nat} (hx : x < 4294967296) : x &&& y < 4294967296 := Nat.lt_of_le_of_lt Nat.and_le_left hx

theorem sig1_eq {x : Nat} (hx : x < 4294967296) : bits .xor .u32 (bits .xor .u32 ((ror x 17 : Nat) : Int) ((ror x 19 : Nat) : Int)) ((x : Int) / 1024) = ((sig1 x : Nat) : Int) := by
  rw [u32_xor_nat _ _ (ror_lt hx) (ror_lt hx), show ((x : Int) / 1024) = ((x / 1024 : Nat) : Int) by simp, u32_xor_nat _ _ (xor_lt (ror_lt hx) (ror_lt hx)) (by omega)]
  rfl
theorem sig0_eq {x : Nat} (hx : x < 4294967296) : bits .xor .u32 (bits .xor .u32 ((ror x 7 : Nat) : Int) ((ror x 18 : Nat) : Int)) ((x : Int) / 8) = ((sig0 x : Nat) : Int) := by
  rw [u32_xor_nat _ _ (ror_lt hx) (ror_lt hx), show ((x : Int) / 8) = ((x / 8 : Nat) : Int) by simp, u32_xor_nat _ _ (xor_lt (ror_lt hx) (ror_lt hx)) (by omega)]
  rfl
/-- The program's sum. -/
theorem ext_eq {a b c d : Nat} (hc : c < 4294967296) (hd : d < 4294967296) :
    IntKind.u32.wrap (IntKind.u32.wrap (IntKind.u32.wrap ((a : Int) + b) + bits .xor .u32 (bits .xor .u32 ((ror c 17 : Nat) : Int) ((ror c 19 : Nat) : Int)) ((c : Int) / 1024)) + bits .xor .u32 (bits .xor .u32 ((ror d 7 : Nat) : Int) ((ror d 18 : Nat) : Int)) ((d : Int) / 8)) = ((extN a b c d : Nat) : Int) := by
  rw [sig1_eq hc, sig0_eq hd]
  unfold extN
  simp only [IntKind.wrap_u32]
  omega
/-- The reference's sum. -/
theorem ext_eq' {a b c d : Nat} (hc : c < 4294967296) (hd : d < 4294967296) :
    IntKind.u32.wrap (IntKind.u32.wrap (IntKind.u32.wrap (bits .xor .u32 (bits .xor .u32 ((ror c 17 : Nat) : Int) ((ror c 19 : Nat) : Int)) ((c : Int) / 1024) + (b : Int)) + bits .xor .u32 (bits .xor .u32 ((ror d 7 : Nat) : Int) ((ror d 18 : Nat) : Int)) ((d : Int) / 8)) + (a : Int)) = ((extN a b c d : Nat) : Int) := by
  rw [sig1_eq hc, sig0_eq hd]
  unfold extN
  simp only [IntKind.wrap_u32]
  omega
theorem sched_length (bs : List Nat) : (sched bs).length = 64 := growW_length bs 48
theorem sched_lt (bs : List Nat) (hb : ∀ z ∈ bs, z < 256) : ∀ z ∈ sched bs, z < 4294967296 := growW_lt bs hb 48

end Go.Proofs.YtkpjbleogjmbjaaDoor.Sh
