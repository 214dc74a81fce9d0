/-
  Four bytes of a sum of words, laid over a row that is filled up. It names no program.
-/
import Derived.Test.YtclelancbfoenaaGreatDoorMade
import Derived.Test.YtclelancbfoenaaGreatDoorReBlock
import Derived.Test.YtclelancbfoenaaGreatDoorReNum
namespace Go.Proofs.YtclelancbfoenaaGreatDoor.Re
open Go.RowKit

theorem lowBytes_at (ws : List Nat) (i j : Nat) (hi : i < ws.length) (hj : j < 4) : (lowBytes ws)[4 * i + j]? = some (byteAt (ws.getD i 0) j) := by
  unfold lowBytes byteAt
  rw [List.getElem?_map, List.getElem?_range (by omega), Option.map_some, show (4 * i + j) / 4 = i by omega, show (4 * i + j) % 4 = j by omega]
theorem addN_at (x s : List Nat) (i : Nat) (hi : i < 16) : (addN x s).getD i 0 = (x.getD i 0 + s.getD i 0) % 4294967296 := by
  simp only [addN, List.getD_eq_getElem?_getD, List.getElem?_map, List.getElem?_range hi, Option.map_some, Option.getD_some]
theorem splice_fill4 (z : Value) (T F : List Value) (n N : Nat) (hT : T.length = n) (hF : F.length = 4) (hN : n + 4 ≤ N) : splice (fill N z T) n F = fill N z (T ++ F) := by
  have h1 : (fill N z T).take n = T := by
    unfold fill
    rw [List.take_append_of_le_length (by omega), List.take_of_length_le (by omega)]
  have h2 : (fill N z T).drop (n + F.length) = List.replicate (N - (T ++ F).length) z := by
    unfold fill
    rw [List.drop_append, List.drop_of_length_le (by omega), List.nil_append, List.drop_replicate]
    congr 1
    rw [List.length_append]
    omega
  unfold splice
  rw [h1, h2, ← List.append_assoc]
  rfl
theorem put_four (dn st : List Nat) (j : Nat) (hj : j < 16) : fill 64 (Value.int .u8 0) (u8s ((lowBytes (addN dn st)).take (4 * (j + 1)))) = splice (fill 64 (.int .u8 0) (u8s ((lowBytes (addN dn st)).take (4 * j)))) (4 * j) (byteVals (byteAt ((dn.getD j 0 + st.getD j 0) % 4294967296)) 4) := by
  have hl : (addN dn st).length = 16 := addN_length _ _
  have e0 := lowBytes_at (addN dn st) j 0 (by omega) (by omega)
  have e1 := lowBytes_at (addN dn st) j 1 (by omega) (by omega)
  have e2 := lowBytes_at (addN dn st) j 2 (by omega) (by omega)
  have e3 := lowBytes_at (addN dn st) j 3 (by omega) (by omega)
  rw [addN_at _ _ _ hj] at e0 e1 e2 e3
  have hL : (lowBytes (addN dn st)).length = 64 := by rw [lowBytes_length, hl]
  generalize lowBytes (addN dn st) = L at *
  generalize (dn.getD j 0 + st.getD j 0) % 4294967296 = m at *
  have et : L.take (4 * (j + 1)) = L.take (4 * j) ++ [byteAt m 0, byteAt m 1, byteAt m 2, byteAt m 3] := by
    rw [show 4 * (j + 1) = 4 * j + 1 + 1 + 1 + 1 by omega, List.take_add_one, List.take_add_one, List.take_add_one, List.take_add_one]
    rw [Nat.add_zero] at e0
    rw [e0, e1, show 4 * j + 1 + 1 = 4 * j + 2 by omega, e2, show 4 * j + 2 + 1 = 4 * j + 3 by omega, e3]
    simp
  have ev : byteVals (byteAt m) 4 = u8s [byteAt m 0, byteAt m 1, byteAt m 2, byteAt m 3] := rfl
  rw [ev, splice_fill4 _ _ _ _ _ (by rw [u8s_length, List.length_take]; omega) rfl (by omega), et, ← u8s_append]
end Go.Proofs.YtclelancbfoenaaGreatDoor.Re
