/-
  Numbers below a bound, words of bytes: what the other texts use. It names no program.
-/
import Derived.Test.YtclelancbfoenaaGreatDoorMade
import Derived.Test.YtclelancbfoenaaGreatDoorRow
import Derived.Test.YtclelancbfoenaaGreatDoorReRol
namespace Go.Proofs.YtclelancbfoenaaGreatDoor.Re
open Go Go.RowKit

def wordB (a b c d : Nat) : Nat := 16777216 * a + 65536 * b + 256 * c + d
theorem all_getD {l : List Nat} {N : Nat} (hN : 0 < N) (h : ∀ z ∈ l, z < N) (i : Nat) : l.getD i 0 < N := by
  by_cases hi : i < l.length
  · simp only [List.getD_eq_getElem?_getD, List.getElem?_eq_getElem hi, Option.getD_some]; exact h _ (List.getElem_mem hi)
  · simp [List.getElem?_eq_none (show l.length ≤ i by omega), hN]
theorem wordB_lt {a b c d : Nat} (ha : a < 256) (hb : b < 256) (hc : c < 256) (hd : d < 256) : wordB a b c d < 4294967296 := by unfold wordB; omega
theorem xor_lt {x y : Nat} (hx : x < 4294967296) (hy : y < 4294967296) : x ^^^ y < 4294967296 := Nat.xor_lt_two_pow (n := 32) hx hy
end Go.Proofs.YtclelancbfoenaaGreatDoor.Re
