/-
  What sha.ror, vec.Rol, the reference's Rol and math/bits.RotateLeft32 answer: the word turned up by n modulo 32 bits, for every word and every n; and that turning back by as many bits gives the word again.
-/
import Derived.Test.YtkpjbleogjmbjaaDoorMade
import Derived.Test.YtkpjbleogjmbjaaDoorChecked
import Derived.WalkKit
import Derived.ProofKit
import Derived.Laws.BitsAllLaws
namespace Go.Proofs.YtkpjbleogjmbjaaDoor.Sh
open Go.RowKit

theorem i64_and31 (n : Int) : bits .and .i64 n 31 = n % 32 := by
  have h31 : (BitVec.ofInt 64 31).toNat = 2 ^ 5 - 1 := by decide
  have key : (BitVec.ofInt 64 n &&& BitVec.ofInt 64 31).toNat = (n % ((2 ^ 64 : Nat) : Int)).toNat % 2 ^ 5 := by
    rw [BitVec.toNat_and, BitVec.toNat_ofInt, h31, Nat.and_two_pow_sub_one_eq_mod]
  show IntKind.i64.wrap ((BitVec.ofInt 64 n &&& BitVec.ofInt 64 31).toNat : Nat) = n % 32
  rw [key, IntKind.wrap_i64]
  omega
theorem u64_and31 (n : Int) : bits .and .u64 (IntKind.u64.wrap n) 31 = n % 32 := by
  have h31 : (BitVec.ofInt 64 31).toNat = 2 ^ 5 - 1 := by decide
  have key : (BitVec.ofInt 64 (IntKind.u64.wrap n) &&& BitVec.ofInt 64 31).toNat = ((IntKind.u64.wrap n) % ((2 ^ 64 : Nat) : Int)).toNat % 2 ^ 5 := by
    rw [BitVec.toNat_and, BitVec.toNat_ofInt, h31, Nat.and_two_pow_sub_one_eq_mod]
  show IntKind.u64.wrap ((BitVec.ofInt 64 (IntKind.u64.wrap n) &&& BitVec.ofInt 64 31).toNat : Nat) = n % 32
  rw [key, IntKind.wrap_u64, IntKind.wrap_u64]
  omega

/-- x, turned up by k bits (k below 32). -/
def rolN (x k : Nat) : Nat := x * 2 ^ k % 4294967296 + x / 2 ^ (32 - k)

theorem pow_split (k : Nat) (hk : k ≤ 32) : 2 ^ k * 2 ^ (32 - k) = 4294967296 := by
  rw [← Nat.pow_add, show k + (32 - k) = 32 by omega]

theorem rolN_eq (x k : Nat) (hk : k ≤ 32) : rolN x k = 2 ^ k * (x % 2 ^ (32 - k)) + x / 2 ^ (32 - k) := by
  unfold rolN
  rw [← pow_split k hk, Nat.mul_comm x, Nat.mul_mod_mul_left]

theorem rolN_lt (x k : Nat) (hx : x < 4294967296) (hk : k ≤ 32) : rolN x k < 4294967296 := by
  rw [rolN_eq x k hk]
  have hb : 0 < 2 ^ (32 - k) := Nat.two_pow_pos _
  have h1 := Nat.mod_lt x hb
  have h2 : x / 2 ^ (32 - k) < 2 ^ k := Nat.div_lt_of_lt_mul (by rw [Nat.mul_comm, pow_split k hk]; exact hx)
  have h3 := pow_split k hk
  have h4 : 2 ^ k * (x % 2 ^ (32 - k)) + 2 ^ k ≤ 2 ^ k * 2 ^ (32 - k) := by
    rw [← Nat.mul_succ]; exact Nat.mul_le_mul_left _ h1
  omega

theorem rolN_back (x k : Nat) (hx : x < 4294967296) (hk : k ≤ 32) : rolN (rolN x k) (32 - k) = x := by
  rw [rolN_eq _ (32 - k) (by omega), show 32 - (32 - k) = k by omega, rolN_eq x k hk]
  have hb : 0 < 2 ^ (32 - k) := Nat.two_pow_pos _
  have ha : 0 < 2 ^ k := Nat.two_pow_pos _
  have h2 : x / 2 ^ (32 - k) < 2 ^ k := Nat.div_lt_of_lt_mul (by rw [Nat.mul_comm, pow_split k hk]; exact hx)
  rw [Nat.mul_add_mod, Nat.mod_eq_of_lt h2, Nat.mul_add_div ha, Nat.div_eq_of_lt h2]
  have := Nat.div_add_mod x (2 ^ (32 - k))
  omega

theorem rolN_zero (x : Nat) (hx : x < 4294967296) : rolN x 0 = x := by
  unfold rolN; omega

theorem or_rolN (X k : Nat) (hX : X < 4294967296) (hk : k ≤ 32) : bits .or .u32 ((X : Int) * 2 ^ k % 4294967296) ((X : Int) / 2 ^ (32 - k)) = ((rolN X k : Nat) : Int) := by
  have h2 : X / 2 ^ (32 - k) < 2 ^ k := Nat.div_lt_of_lt_mul (by rw [Nat.mul_comm, pow_split k hk]; exact hX)
  have hp : 2 ^ k ≤ 4294967296 := by have h := Nat.pow_le_pow_right (n := 2) (by decide) hk; exact h
  have e1 : ((X : Int) * 2 ^ k % 4294967296) = ((X * 2 ^ k % 4294967296 : Nat) : Int) := by simp
  have e2 : ((X : Int) / 2 ^ (32 - k)) = ((X / 2 ^ (32 - k) : Nat) : Int) := by simp
  have h5 : X * 2 ^ k % 4294967296 < 4294967296 := Nat.mod_lt _ (by decide)
  have h7 : X * 2 ^ k % 4294967296 % 2 ^ k = 0 := by
    rw [← pow_split k hk, Nat.mul_comm X, Nat.mul_mod_mul_left]; simp
  have h8 : X / 2 ^ (32 - k) < 4294967296 := by omega
  unfold rolN
  rw [e1, e2]
  clear e1 e2
  generalize X * 2 ^ k % 4294967296 = U at *
  generalize X / 2 ^ (32 - k) = V at *
  rw [bits_join .u32 32 (by decide) (fun n h0 h1 => by rw [IntKind.wrap_u32]; omega) k]
  · simp
  · omega
  · exact_mod_cast h7
  · omega
  · omega
  · exact_mod_cast h2
  · omega


set_option maxHeartbeats 400000 in
theorem rot_any (X : Nat) (n : Int) (k : Nat) (w : World) (h1 : X < 4294967296) (hk : n % 32 = k) (hk2 : k < 32) :
    Calls Tryd.prog 57 #[.int .u32 X, .int .i64 n] w fun e w' => e = .returned (.int .u32 (rolN X k)) ∧ w' = w := by
  have e := u64_and31 n
  rw [hk] at e
  clear hk
  go_enter Tryd.func57, Tryd.ntmps57
  go_wp2
  go_ret
  rw [← or_rolN X k h1 (by omega)]
  exact ⟨rfl, rfl⟩

set_option maxHeartbeats 400000 in
/-- vec.Rol -/
theorem rol_any (X : Nat) (n : Int) (k : Nat) (w : World) (h1 : X < 4294967296) (hk : n % 32 = k) (hk2 : k < 32) :
    Calls Tryd.prog 56 #[.int .u32 X, .int .i64 n] w fun e w' => e = .returned (.int .u32 (rolN X k)) ∧ w' = w := by
  have HK : Hid (n % 32 = k) := hk
  clear hk
  go_enter Tryd.func56, Tryd.ntmps56
  go_wp2_with (go_at_call 57; refine (rot_any X n k _ h1 HK.out hk2).mono ?_; rintro e w' ⟨rfl, rfl⟩)
  go_ret
  exact ⟨rfl, rfl⟩

set_option maxHeartbeats 400000 in
/-- the reference's Rol -/
theorem refRol_any (X : Nat) (n : Int) (k : Nat) (w : World) (h1 : X < 4294967296) (hk : n % 32 = k) (hk2 : k < 32) :
    Calls Tryd.prog 48 #[.int .u32 X, .int .i64 n] w fun e w' => e = .returned (.int .u32 (rolN X k)) ∧ w' = w := by
  have e := i64_and31 n
  rw [hk] at e
  clear hk
  by_cases hz : k = 0
  · subst hz
    rw [rolN_zero X h1]
    go_enter Tryd.func48, Tryd.ntmps48
    go_wp2
    go_ret
    exact ⟨rfl, rfl⟩
  · have hne : ((k : Int) == 0) = false := by simp; omega
    rw [← or_rolN X k h1 (by omega)]
    go_enter Tryd.func48, Tryd.ntmps48
    go_wp2
    go_ret
    exact ⟨rfl, rfl⟩

set_option maxHeartbeats 400000 in
/-- sha.ror -/
theorem ror_any (X n : Nat) (w : World) (h1 : X < 4294967296) (hn0 : 0 < n) (hn : n < 32) :
    Calls Tryd.prog 55 #[.int .u32 X, .int .i64 n] w fun e w' => e = .returned (.int .u32 (rolN X (32 - n) : Nat)) ∧ w' = w := by
  have HC : Hid (∀ w, Calls Tryd.prog 56 #[.int .u32 X, .int .i64 (-(n : Int))] w fun e w' => e = .returned (.int .u32 (rolN X (32 - n) : Nat)) ∧ w' = w) := fun w => rol_any X (-(n : Int)) (32 - n) w h1 (by omega) (by omega)
  go_enter Tryd.func55, Tryd.ntmps55
  go_wp2_with (go_at_call 56; refine (HC.out _).mono ?_; rintro e w' ⟨rfl, rfl⟩)
  go_ret
  exact ⟨rfl, rfl⟩

/-- the reference's Rol by a number below nought -/
theorem refRor_any (X n : Nat) (w : World) (h1 : X < 4294967296) (hn0 : 0 < n) (hn : n < 32) :
    Calls Tryd.prog 48 #[.int .u32 X, .int .i64 (-(n : Int))] w fun e w' => e = .returned (.int .u32 (rolN X (32 - n) : Nat)) ∧ w' = w :=
  refRol_any X (-(n : Int)) (32 - n) w h1 (by omega) (by omega)

end Go.Proofs.YtkpjbleogjmbjaaDoor.Sh
