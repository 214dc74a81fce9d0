/-
  route.Under and the reference's Under. The world stands.
-/
import Derived.Test.YtkpjbleogjmbjaaGood
namespace Go.Proofs.Ytkpjbleogjmbjaa
open Go.RowKit

theorem extract_bytes (s : ByteArray) (i j : Nat) : bytesOf (s.extract i j) = ((bytesOf s).drop i).take (j - i) := by
  have e : s = ByteArray.mk (s.data.toList.toArray) := by cases s; simp
  rw [e, ByteArray.extract_mk]
theorem extract_size (s : ByteArray) (i j : Nat) (hj : j ≤ s.size) : (s.extract i j).size = j - i := by
  rw [← bytesOf_length, extract_bytes, List.length_take, List.length_drop, bytesOf_length]; omega
theorem getD_at (s : ByteArray) (k : Nat) (h : k < s.size) : (bytesOf s).getD k 0 = s[k]'h := by
  rw [List.getD_eq_getElem?_getD, bytesOf_at s k h]; rfl

theorem under_dir {p d : List UInt8} (h : (d == []) = true) : underL p d = true := by simp [underL, h]
theorem under_same {p d : List UInt8} (h : (p == d) = true) : underL p d = true := by simp [underL, h]
theorem under_short {p d : List UInt8} (h : (d == []) = false) (h2 : (p == d) = false) (h3 : ¬ d.length < p.length) : underL p d = false := by simp [underL, h, h2, h3]
theorem under_in {p d : List UInt8} (h : (d == []) = false) (h2 : (p == d) = false) (h3 : d.length < p.length) : underL p d = (p.take d.length == d && p.getD d.length 0 == 47) := by simp [underL, h, h2, h3]

set_option maxRecDepth 100000 in
set_option maxHeartbeats 1000000 in
theorem under_any (p d : ByteArray) (hd : d.size ≤ 1000000) (w : World) : Calls Try.prog 9 #[.string p, .string d] w fun e w' => e = .returned (.bool (underL (bytesOf p) (bytesOf d))) ∧ w' = w := by
  have te := ByteArray.toList_eq d
  have tp := ByteArray.toList_eq p
  rcases Bool.eq_false_or_eq_true (d.toList == []) with e | e
  · have hr : Hid (underL (bytesOf p) (bytesOf d) = true) := under_dir (by rw [bytesOf, ← te]; exact e)
    clear te tp
    go_enter Try.func9, Try.ntmps9
    go_wp2
    go_ret
    exact ⟨by rw [hr.out]; rfl, rfl⟩
  rcases Bool.eq_false_or_eq_true (p.toList == d.toList) with e2 | e2
  · have hr : Hid (underL (bytesOf p) (bytesOf d) = true) := under_same (by rw [bytesOf, bytesOf, ← te, ← tp]; exact e2)
    clear te tp
    go_enter Try.func9, Try.ntmps9
    go_wp2
    go_ret
    exact ⟨by rw [hr.out]; rfl, rfl⟩
  by_cases h3 : d.size < p.size
  · have i3 : (d.size : Int) < (p.size : Int) := by omega
    obtain ⟨c, hc⟩ : ∃ c, p[d.size]'h3 = c := ⟨_, rfl⟩
    have hr : Hid (underL (bytesOf p) (bytesOf d) = ((p.extract 0 d.size).toList == d.toList && c == 47)) := by
      show _ = _
      rw [under_in (by rw [bytesOf, ← te]; exact e) (by rw [bytesOf, bytesOf, ← te, ← tp]; exact e2) (by rw [bytesOf_length, bytesOf_length]; exact h3), bytesOf_length, getD_at p _ h3, hc, text_eq, extract_bytes]
      simp
    have b47 := c47 c
    clear te tp
    rcases Bool.eq_false_or_eq_true ((p.extract 0 d.size).toList == d.toList) with e4 | e4
    · go_enter Try.func9, Try.ntmps9
      go_wp2
      go_ret
      exact ⟨by rw [hr.out, e4]; simp, rfl⟩
    · go_enter Try.func9, Try.ntmps9
      go_wp2
      go_ret
      exact ⟨by rw [hr.out, e4]; simp, rfl⟩
  · have i3 : ¬ (d.size : Int) < (p.size : Int) := by omega
    have hr : Hid (underL (bytesOf p) (bytesOf d) = false) := under_short (by rw [bytesOf, ← te]; exact e) (by rw [bytesOf, bytesOf, ← te, ← tp]; exact e2) (by rw [bytesOf_length, bytesOf_length]; exact h3)
    clear te tp
    go_enter Try.func9, Try.ntmps9
    go_wp2
    go_ret
    exact ⟨by rw [hr.out]; rfl, rfl⟩
set_option maxRecDepth 100000 in
set_option maxHeartbeats 1000000 in
theorem refUnder_any (p d : ByteArray) (hd : d.size ≤ 1000000) (w : World) : Calls Try.prog 10 #[.string p, .string d] w fun e w' => e = .returned (.bool (underL (bytesOf p) (bytesOf d))) ∧ w' = w := by
  have te := ByteArray.toList_eq d
  have tp := ByteArray.toList_eq p
  rcases Bool.eq_false_or_eq_true (d.toList == []) with e | e
  · have hr : Hid (underL (bytesOf p) (bytesOf d) = true) := under_dir (by rw [bytesOf, ← te]; exact e)
    clear te tp
    go_enter Try.func10, Try.ntmps10
    go_wp2
    go_ret
    exact ⟨by rw [hr.out]; rfl, rfl⟩
  rcases Bool.eq_false_or_eq_true (p.toList == d.toList) with e2 | e2
  · have hr : Hid (underL (bytesOf p) (bytesOf d) = true) := under_same (by rw [bytesOf, bytesOf, ← te, ← tp]; exact e2)
    clear te tp
    go_enter Try.func10, Try.ntmps10
    go_wp2
    go_ret
    exact ⟨by rw [hr.out]; rfl, rfl⟩
  by_cases h3 : d.size < p.size
  · have i3 : (d.size : Int) < (p.size : Int) := by omega
    obtain ⟨c, hc⟩ : ∃ c, p[d.size]'h3 = c := ⟨_, rfl⟩
    have hr : Hid (underL (bytesOf p) (bytesOf d) = ((p.extract 0 d.size).toList == d.toList && c == 47)) := by
      show _ = _
      rw [under_in (by rw [bytesOf, ← te]; exact e) (by rw [bytesOf, bytesOf, ← te, ← tp]; exact e2) (by rw [bytesOf_length, bytesOf_length]; exact h3), bytesOf_length, getD_at p _ h3, hc, text_eq, extract_bytes]
      simp
    have b47 := c47 c
    clear te tp
    rcases Bool.eq_false_or_eq_true ((p.extract 0 d.size).toList == d.toList) with e4 | e4
    · go_enter Try.func10, Try.ntmps10
      go_wp2
      go_ret
      exact ⟨by rw [hr.out, e4]; simp, rfl⟩
    · go_enter Try.func10, Try.ntmps10
      go_wp2
      go_ret
      exact ⟨by rw [hr.out, e4]; simp, rfl⟩
  · have i3 : ¬ (d.size : Int) < (p.size : Int) := by omega
    have hr : Hid (underL (bytesOf p) (bytesOf d) = false) := under_short (by rw [bytesOf, ← te]; exact e) (by rw [bytesOf, bytesOf, ← te, ← tp]; exact e2) (by rw [bytesOf_length, bytesOf_length]; exact h3)
    clear te tp
    go_enter Try.func10, Try.ntmps10
    go_wp2
    go_ret
    exact ⟨by rw [hr.out]; rfl, rfl⟩
end Go.Proofs.Ytkpjbleogjmbjaa
