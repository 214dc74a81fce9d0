/-
  route.Under and the reference's Under. The world stands.
-/
import Derived.Test.YtkpjbleogjmbjaaDoorGood
namespace Go.Proofs.YtkpjbleogjmbjaaDoor
open Go.RowKit

theorem extract_bytes (s : ByteArray) (i j : Nat) : bytesOf (s.extract i j) = ((bytesOf s).drop i).take (j - i) := by
  have e : s = ByteArray.mk (s.data.toList.toArray) := by cases s; simp
  rw [e, ByteArray.extract_mk]
theorem extract_size (s : ByteArray) (i j : Nat) (hj : j ≤ s.size) : (s.extract i j).size = j - i := by
  rw [← bytesOf_length, extract_bytes, List.length_take, List.length_drop, bytesOf_length]; omega
theorem getD_at (s : ByteArray) (k : Nat) (h : k < s.size) : (bytesOf s).getD k 0 = s[k]'h := by
  rw [List.getD_eq_getElem?_getD, bytesOf_at s k h]; rfl

theorem under_dir {p d : List UInt8} (h : (d == []) = true) : underL p d = true := by simp [underL, h]
theorem under_same {p d : List UInt8} (h : (p == d) = true) : underL p d = true := by simp [underL, h]
theorem under_short {p d : List UInt8} (h : (d == []) = false) (h2 : (p == d) = false) (h3 : ¬ d.length < p.length) : underL p d = false := by simp [underL, h, h2, h3]
theorem under_in {p d : List UInt8} (h : (d == []) = false) (h2 : (p == d) = false) (h3 : d.length < p.length) : underL p d = (p.take d.length == d && p.getD d.length 0 == 47) := by simp [underL, h, h2, h3]

end Go.Proofs.YtkpjbleogjmbjaaDoor
