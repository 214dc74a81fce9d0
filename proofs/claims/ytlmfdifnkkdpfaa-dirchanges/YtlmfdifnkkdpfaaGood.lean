/-
  route.Good and the reference's Good: whether a text is a name. The world stands.
-/
import Derived.Test.YtlmfdifnkkdpfaaNames
namespace Go.Proofs.Ytlmfdifnkkdpfaa
open Go.RowKit

theorem c0 (c : UInt8) : ((c.toNat : Int) == 0) = (c == 0) := by
  rw [Bool.eq_iff_iff]; simp only [beq_iff_eq]
  exact ⟨fun h => UInt8.toNat_inj.1 (by simp; omega), fun h => by subst h; rfl⟩
theorem c47 (c : UInt8) : ((c.toNat : Int) == 47) = (c == 47) := by
  rw [Bool.eq_iff_iff]; simp only [beq_iff_eq]
  exact ⟨fun h => UInt8.toNat_inj.1 (by simp; omega), fun h => by subst h; rfl⟩
/-- Whether two texts are alike. -/
theorem text_eq (a b : ByteArray) : (a.toList == b.toList) = (bytesOf a == bytesOf b) := by rw [ByteArray.toList_eq, ByteArray.toList_eq]

set_option maxRecDepth 100000 in
set_option maxHeartbeats 1000000 in
theorem refGood_any (s : ByteArray) (hs : s.size ≤ 1000000) (w : World) : Calls Try.prog 29 #[.string s] w fun e w' => e = .returned (.bool (goodL (bytesOf s))) ∧ w' = w := by
  go_enter Try.func29, Try.ntmps29
  go_wp2
  go_loopw [3] (fun i wr => ∃ (k : Nat), k ≤ s.size ∧ i = .int .i64 k ∧ ((bytesOf s).take k).any badC = false ∧ wr = w) (fun i _ => s.size - (intOf i).toNat)
  case atStart => exact ⟨0, Nat.zero_le _, rfl, by simp, rfl⟩
  case round =>
    obtain ⟨k, hk, rfl, hany, rfl⟩ := hrel
    have HA : Hid (((bytesOf s).take k).any badC = false) := hany
    clear hany
    by_cases hlt : k < s.size
    · have hki : (k : Int) < (s.size : Int) := by omega
      have HT : Hid ((bytesOf s)[k]? = some (s[k]'hlt)) := bytesOf_at s k hlt
      obtain ⟨c, hc⟩ : ∃ c, s[k]'hlt = c := ⟨_, rfl⟩
      have b0 := c0 c
      have b47 := c47 c
      rcases Bool.eq_false_or_eq_true (c == 0) with e0 | e0
      · have hr : Hid (goodL (bytesOf s) = false) := goodL_bad (any_of_take (k := k + 1) _ (by rw [any_take_succ HT.out, hc]; simp [badC, e0]))
        rw [e0] at b0
        clear e0
        go_wp2
        go_ret
        exact ⟨by rw [hr.out]; rfl, rfl⟩
      · rw [e0] at b0
        rcases Bool.eq_false_or_eq_true (c == 47) with e1 | e1
        · have hr : Hid (goodL (bytesOf s) = false) := goodL_bad (any_of_take (k := k + 1) _ (by rw [any_take_succ HT.out, hc]; simp [badC, e1]))
          rw [e1] at b47
          clear e0 e1
          go_wp2
          go_ret
          exact ⟨by rw [hr.out]; rfl, rfl⟩
        · have hr : Hid (((bytesOf s).take (k + 1)).any badC = false) := by
            show _ = _
            rw [any_take_succ HT.out, hc, HA.out]; simp [badC, e0, e1]
          rw [e1] at b47
          clear e0 e1
          go_wp2
          go_roundw
          case rel => exact ⟨k + 1, hlt, by go_num, hr.out, trivial⟩
          case measure => simp [intOf]; omega
    · obtain rfl : k = s.size := by omega
      have hall : Hid ((bytesOf s).any badC = false) := by
        have := HA.out
        rw [List.take_of_length_le (by rw [bytesOf_length]; exact Nat.le_refl _)] at this
        exact this
      have HG : Hid (goodL (bytesOf s) = (decide (1 ≤ s.size) && decide (s.size ≤ 64) && !(s.toList == [46]) && !(s.toList == [46, 46]))) := by
        show _ = _
        rw [goodL, hall.out, bytesOf_length, bytesOf, ← ByteArray.toList_eq]; simp
      by_cases p1 : 1 ≤ s.size
      · have i1 : (1 : Int) ≤ (s.size : Int) := by omega
        by_cases p2 : s.size ≤ 64
        · have i2 : (s.size : Int) ≤ 64 := by omega
          rcases Bool.eq_false_or_eq_true (s.toList == [46]) with e | e
          · go_wp2
            go_ret
            exact ⟨by rw [HG.out, e]; simp, rfl⟩
          · go_wp2
            go_ret
            exact ⟨by rw [HG.out, e, decide_eq_true p1, decide_eq_true p2]; rfl, rfl⟩
        · have i2 : ¬ (s.size : Int) ≤ 64 := by omega
          go_wp2
          go_ret
          exact ⟨by rw [HG.out, decide_eq_false p2]; simp, rfl⟩
      · have i1 : ¬ (1 : Int) ≤ (s.size : Int) := by omega
        go_wp2
        go_ret
        exact ⟨by rw [HG.out, decide_eq_false p1]; simp, rfl⟩

set_option maxRecDepth 100000 in
set_option maxHeartbeats 1000000 in
theorem good_any (s : ByteArray) (hs : s.size ≤ 1000000) (w : World) : Calls Try.prog 68 #[.string s] w fun e w' => e = .returned (.bool (goodL (bytesOf s))) ∧ w' = w := by
  by_cases p1 : s.size < 1
  · have hr : Hid (goodL (bytesOf s) = false) := by show _ = _; rw [goodL, bytesOf_length, decide_eq_false (show ¬ 1 ≤ s.size by omega)]; simp
    have i1 : (s.size : Int) < 1 := by omega
    go_enter Try.func68, Try.ntmps68
    go_wp2
    go_ret
    exact ⟨by rw [hr.out]; rfl, rfl⟩
  have i1 : ¬ (s.size : Int) < 1 := by omega
  by_cases p2 : 64 < s.size
  · have hr : Hid (goodL (bytesOf s) = false) := by show _ = _; rw [goodL, bytesOf_length, decide_eq_false (show ¬ s.size ≤ 64 by omega)]; simp
    have i2 : 64 < (s.size : Int) := by omega
    go_enter Try.func68, Try.ntmps68
    go_wp2
    go_ret
    exact ⟨by rw [hr.out]; rfl, rfl⟩
  have i2 : ¬ 64 < (s.size : Int) := by omega
  rcases Bool.eq_false_or_eq_true (s.toList == [46]) with e | e
  · have hr : Hid (goodL (bytesOf s) = false) := by show _ = _; rw [goodL, bytesOf, ← ByteArray.toList_eq, e]; simp
    go_enter Try.func68, Try.ntmps68
    go_wp2
    go_ret
    exact ⟨by rw [hr.out]; rfl, rfl⟩
  rcases Bool.eq_false_or_eq_true (s.toList == [46, 46]) with e2 | e2
  · have hr : Hid (goodL (bytesOf s) = false) := by show _ = _; rw [goodL, bytesOf, ← ByteArray.toList_eq, e2]; simp
    go_enter Try.func68, Try.ntmps68
    go_wp2
    go_ret
    exact ⟨by rw [hr.out]; rfl, rfl⟩
  have HG : Hid ((bytesOf s).any badC = false → goodL (bytesOf s) = true) := fun h => by
    rw [goodL, h, bytesOf_length, decide_eq_true (show 1 ≤ s.size by omega), decide_eq_true (show s.size ≤ 64 by omega), bytesOf, ← ByteArray.toList_eq, e, e2]; rfl
  go_enter Try.func68, Try.ntmps68
  go_wp2
  go_loopw [22] (fun i wr => ∃ (k : Nat), k ≤ s.size ∧ i = .int .i64 k ∧ ((bytesOf s).take k).any badC = false ∧ wr = w) (fun i _ => s.size - (intOf i).toNat)
  case atStart => exact ⟨0, Nat.zero_le _, rfl, by simp, rfl⟩
  case round =>
    obtain ⟨k, hk, rfl, hany, rfl⟩ := hrel
    have HA : Hid (((bytesOf s).take k).any badC = false) := hany
    clear hany
    by_cases hlt : k < s.size
    · have hki : (k : Int) < (s.size : Int) := by omega
      have HT : Hid ((bytesOf s)[k]? = some (s[k]'hlt)) := bytesOf_at s k hlt
      obtain ⟨c, hc⟩ : ∃ c, s[k]'hlt = c := ⟨_, rfl⟩
      have b0 := c0 c
      have b47 := c47 c
      rcases Bool.eq_false_or_eq_true (c == 0) with e0 | e0
      · have hr : Hid (goodL (bytesOf s) = false) := goodL_bad (any_of_take (k := k + 1) _ (by rw [any_take_succ HT.out, hc]; simp [badC, e0]))
        rw [e0] at b0
        clear e0
        go_wp2
        go_ret
        exact ⟨by rw [hr.out]; rfl, rfl⟩
      · rw [e0] at b0
        rcases Bool.eq_false_or_eq_true (c == 47) with e1 | e1
        · have hr : Hid (goodL (bytesOf s) = false) := goodL_bad (any_of_take (k := k + 1) _ (by rw [any_take_succ HT.out, hc]; simp [badC, e1]))
          rw [e1] at b47
          clear e0 e1
          go_wp2
          go_ret
          exact ⟨by rw [hr.out]; rfl, rfl⟩
        · have hr : Hid (((bytesOf s).take (k + 1)).any badC = false) := by
            show _ = _
            rw [any_take_succ HT.out, hc, HA.out]; simp [badC, e0, e1]
          rw [e1] at b47
          clear e0 e1
          go_wp2
          go_roundw
          case rel => exact ⟨k + 1, hlt, by go_num, hr.out, trivial⟩
          case measure => simp [intOf]; omega
    · obtain rfl : k = s.size := by omega
      have hall : Hid (goodL (bytesOf s) = true) := by
        have := HA.out
        rw [List.take_of_length_le (by rw [bytesOf_length]; exact Nat.le_refl _)] at this
        exact HG.out this
      go_wp2
      go_ret
      exact ⟨by rw [hall.out]; rfl, rfl⟩

/-- Whether a path is a directory, or in it. -/
def underL (p d : List UInt8) : Bool := d == [] || p == d || (decide (d.length < p.length) && (p.take d.length == d && p.getD d.length 0 == 47))
end Go.Proofs.Ytlmfdifnkkdpfaa
