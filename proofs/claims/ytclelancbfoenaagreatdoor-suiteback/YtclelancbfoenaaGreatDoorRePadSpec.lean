/-
  A text filled up, on numbers: its length as four bytes, the text, zeros up to its bucket; and which bytes are a text filled up.
-/
import Derived.Test.YtclelancbfoenaaGreatDoorMade
import Derived.Test.YtclelancbfoenaaGreatDoorBuck
import Derived.Test.YtclelancbfoenaaGreatDoorReBytes
namespace Go.Proofs.YtclelancbfoenaaGreatDoor.Re
open Go.RowKit

/-- Four bytes, the lowest ahead. -/
def lenL (n : Nat) : List Nat := [byteAt n 0, byteAt n 1, byteAt n 2, byteAt n 3]
/-- The text filled up (where it has a bucket). -/
def padL (zs : List Nat) : List Nat := lenL zs.length ++ zs ++ List.replicate (bucketN zs.length - (zs.length + 4)) 0

theorem byteAt_lt (n i : Nat) : byteAt n i < 256 := Nat.mod_lt _ (by decide)
@[simp] theorem lenL_length (n : Nat) : (lenL n).length = 4 := rfl
theorem lenL_lt (n : Nat) : ∀ z ∈ lenL n, z < 256 := by
  intro z hz
  simp only [lenL, List.mem_cons, List.not_mem_nil, or_false] at hz
  rcases hz with rfl | rfl | rfl | rfl <;> exact byteAt_lt _ _
theorem byteVals_len (n : Nat) : byteVals (byteAt n) 4 = u8s (lenL n) := rfl
theorem bytesOf_len (n : Nat) : byteVals (bytesOf [n]) 4 = u8s (lenL n) := rfl

theorem padL_length {zs : List Nat} (h : zs.length ≤ 65532) : (padL zs).length = bucketN zs.length := by
  have := bucketN_pos (z := (zs.length : Int)) (by omega) (by omega)
  simp [padL]
  omega
theorem padL_lt {zs : List Nat} (h : ∀ z ∈ zs, z < 256) : ∀ z ∈ padL zs, z < 256 := by
  intro z hz
  simp only [padL, List.mem_append, List.mem_replicate] at hz
  rcases hz with (hz | hz) | ⟨_, rfl⟩
  · exact lenL_lt _ z hz
  · exact h z hz
  · decide

/-- The number that four bytes are. -/
theorem wordAt_lenL (n : Nat) (h : n < 4294967296) (r : List Nat) : wordAt (lenL n ++ r) 0 = n := by
  simp [wordAt, lenL, byteAt]
  omega

end Go.Proofs.YtclelancbfoenaaGreatDoor.Re
