/-
  Several texts in one: ReRol, ReSpec, ReChaSpec, ReTab, ReEver, ReGate, ReQuarter, ReTurn.
-/
import Derived.Test.YtclelancbfoenaaGreatDoorBaseAll
import Derived.Test.YtclelancbfoenaaGreatDoorChecked
import Derived.WalkKit
import Derived.ProofKit
import Derived.Laws.BitsAllLaws
import Derived.StillTail
/-
  What vec.Rol, the reference's Rol and math/bits.RotateLeft32 answer: the word turned up by n modulo 32 bits, for every word and every n; and that turning back by as many bits gives the word again.
-/
namespace Go.Proofs.YtclelancbfoenaaGreatDoor.Re
open Go.RowKit

theorem i64_and31 (n : Int) : bits .and .i64 n 31 = n % 32 := by
  have h31 : (BitVec.ofInt 64 31).toNat = 2 ^ 5 - 1 := by decide
  have key : (BitVec.ofInt 64 n &&& BitVec.ofInt 64 31).toNat = (n % ((2 ^ 64 : Nat) : Int)).toNat % 2 ^ 5 := by
    rw [BitVec.toNat_and, BitVec.toNat_ofInt, h31, Nat.and_two_pow_sub_one_eq_mod]
  show IntKind.i64.wrap ((BitVec.ofInt 64 n &&& BitVec.ofInt 64 31).toNat : Nat) = n % 32
  rw [key, IntKind.wrap_i64]
  omega
theorem u64_and31 (n : Int) : bits .and .u64 (IntKind.u64.wrap n) 31 = n % 32 := by
  have h31 : (BitVec.ofInt 64 31).toNat = 2 ^ 5 - 1 := by decide
  have key : (BitVec.ofInt 64 (IntKind.u64.wrap n) &&& BitVec.ofInt 64 31).toNat = ((IntKind.u64.wrap n) % ((2 ^ 64 : Nat) : Int)).toNat % 2 ^ 5 := by
    rw [BitVec.toNat_and, BitVec.toNat_ofInt, h31, Nat.and_two_pow_sub_one_eq_mod]
  show IntKind.u64.wrap ((BitVec.ofInt 64 (IntKind.u64.wrap n) &&& BitVec.ofInt 64 31).toNat : Nat) = n % 32
  rw [key, IntKind.wrap_u64, IntKind.wrap_u64]
  omega

/-- x, turned up by k bits (k below 32). -/
def rolN (x k : Nat) : Nat := x * 2 ^ k % 4294967296 + x / 2 ^ (32 - k)

theorem pow_split (k : Nat) (hk : k ≤ 32) : 2 ^ k * 2 ^ (32 - k) = 4294967296 := by
  rw [← Nat.pow_add, show k + (32 - k) = 32 by omega]

theorem rolN_eq (x k : Nat) (hk : k ≤ 32) : rolN x k = 2 ^ k * (x % 2 ^ (32 - k)) + x / 2 ^ (32 - k) := by
  unfold rolN
  rw [← pow_split k hk, Nat.mul_comm x, Nat.mul_mod_mul_left]

theorem rolN_lt (x k : Nat) (hx : x < 4294967296) (hk : k ≤ 32) : rolN x k < 4294967296 := by
  rw [rolN_eq x k hk]
  have hb : 0 < 2 ^ (32 - k) := Nat.two_pow_pos _
  have h1 := Nat.mod_lt x hb
  have h2 : x / 2 ^ (32 - k) < 2 ^ k := Nat.div_lt_of_lt_mul (by rw [Nat.mul_comm, pow_split k hk]; exact hx)
  have h3 := pow_split k hk
  have h4 : 2 ^ k * (x % 2 ^ (32 - k)) + 2 ^ k ≤ 2 ^ k * 2 ^ (32 - k) := by
    rw [← Nat.mul_succ]; exact Nat.mul_le_mul_left _ h1
  omega

theorem rolN_back (x k : Nat) (hx : x < 4294967296) (hk : k ≤ 32) : rolN (rolN x k) (32 - k) = x := by
  rw [rolN_eq _ (32 - k) (by omega), show 32 - (32 - k) = k by omega, rolN_eq x k hk]
  have hb : 0 < 2 ^ (32 - k) := Nat.two_pow_pos _
  have ha : 0 < 2 ^ k := Nat.two_pow_pos _
  have h2 : x / 2 ^ (32 - k) < 2 ^ k := Nat.div_lt_of_lt_mul (by rw [Nat.mul_comm, pow_split k hk]; exact hx)
  rw [Nat.mul_add_mod, Nat.mod_eq_of_lt h2, Nat.mul_add_div ha, Nat.div_eq_of_lt h2]
  have := Nat.div_add_mod x (2 ^ (32 - k))
  omega

theorem rolN_zero (x : Nat) (hx : x < 4294967296) : rolN x 0 = x := by
  unfold rolN; omega

theorem or_rolN (X k : Nat) (hX : X < 4294967296) (hk : k ≤ 32) : bits .or .u32 ((X : Int) * 2 ^ k % 4294967296) ((X : Int) / 2 ^ (32 - k)) = ((rolN X k : Nat) : Int) := by
  have h2 : X / 2 ^ (32 - k) < 2 ^ k := Nat.div_lt_of_lt_mul (by rw [Nat.mul_comm, pow_split k hk]; exact hX)
  have hp : 2 ^ k ≤ 4294967296 := by have h := Nat.pow_le_pow_right (n := 2) (by decide) hk; exact h
  have e1 : ((X : Int) * 2 ^ k % 4294967296) = ((X * 2 ^ k % 4294967296 : Nat) : Int) := by simp
  have e2 : ((X : Int) / 2 ^ (32 - k)) = ((X / 2 ^ (32 - k) : Nat) : Int) := by simp
  have h5 : X * 2 ^ k % 4294967296 < 4294967296 := Nat.mod_lt _ (by decide)
  have h7 : X * 2 ^ k % 4294967296 % 2 ^ k = 0 := by
    rw [← pow_split k hk, Nat.mul_comm X, Nat.mul_mod_mul_left]; simp
  have h8 : X / 2 ^ (32 - k) < 4294967296 := by omega
  unfold rolN
  rw [e1, e2]
  clear e1 e2
  generalize X * 2 ^ k % 4294967296 = U at *
  generalize X / 2 ^ (32 - k) = V at *
  rw [bits_join .u32 32 (by decide) (fun n h0 h1 => by rw [IntKind.wrap_u32]; omega) k]
  · simp
  · omega
  · exact_mod_cast h7
  · omega
  · omega
  · exact_mod_cast h2
  · omega


set_option maxHeartbeats 400000 in
theorem rot_any (X : Nat) (n : Int) (k : Nat) (w : World) (h1 : X < 4294967296) (hk : n % 32 = k) (hk2 : k < 32) :
    Calls Tryz.prog 104 #[.int .u32 X, .int .i64 n] w fun e w' => e = .returned (.int .u32 (rolN X k)) ∧ w' = w := by
  have e := u64_and31 n
  rw [hk] at e
  clear hk
  go_enter Tryz.func104, Tryz.ntmps104
  go_wp2
  go_ret
  rw [← or_rolN X k h1 (by omega)]
  exact ⟨rfl, rfl⟩

set_option maxHeartbeats 400000 in
/-- vec.Rol -/
theorem rol_any (X : Nat) (n : Int) (k : Nat) (w : World) (h1 : X < 4294967296) (hk : n % 32 = k) (hk2 : k < 32) :
    Calls Tryz.prog 103 #[.int .u32 X, .int .i64 n] w fun e w' => e = .returned (.int .u32 (rolN X k)) ∧ w' = w := by
  have HK : Hid (n % 32 = k) := hk
  clear hk
  go_enter Tryz.func103, Tryz.ntmps103
  go_wp2_with (go_at_call 104; refine (rot_any X n k _ h1 HK.out hk2).mono ?_; rintro e w' ⟨rfl, rfl⟩)
  go_ret
  exact ⟨rfl, rfl⟩

set_option maxHeartbeats 400000 in
/-- the reference's Rol -/
theorem refRol_any (X : Nat) (n : Int) (k : Nat) (w : World) (h1 : X < 4294967296) (hk : n % 32 = k) (hk2 : k < 32) :
    Calls Tryz.prog 80 #[.int .u32 X, .int .i64 n] w fun e w' => e = .returned (.int .u32 (rolN X k)) ∧ w' = w := by
  have e := i64_and31 n
  rw [hk] at e
  clear hk
  by_cases hz : k = 0
  · subst hz
    rw [rolN_zero X h1]
    go_enter Tryz.func80, Tryz.ntmps80
    go_wp2
    go_ret
    exact ⟨rfl, rfl⟩
  · have hne : ((k : Int) == 0) = false := by simp; omega
    rw [← or_rolN X k h1 (by omega)]
    go_enter Tryz.func80, Tryz.ntmps80
    go_wp2
    go_ret
    exact ⟨rfl, rfl⟩

end Go.Proofs.YtclelancbfoenaaGreatDoor.Re
/-
  Numbers below a bound, words of bytes: what the other texts use. It names no program.
-/
namespace Go.Proofs.YtclelancbfoenaaGreatDoor.Re
open Go Go.RowKit

def wordB (a b c d : Nat) : Nat := 16777216 * a + 65536 * b + 256 * c + d
theorem all_getD {l : List Nat} {N : Nat} (hN : 0 < N) (h : ∀ z ∈ l, z < N) (i : Nat) : l.getD i 0 < N := by
  by_cases hi : i < l.length
  · simp only [List.getD_eq_getElem?_getD, List.getElem?_eq_getElem hi, Option.getD_some]; exact h _ (List.getElem_mem hi)
  · simp [List.getElem?_eq_none (show l.length ≤ i by omega), hN]
theorem wordB_lt {a b c d : Nat} (ha : a < 256) (hb : b < 256) (hc : c < 256) (hd : d < 256) : wordB a b c d < 4294967296 := by unfold wordB; omega
theorem xor_lt {x y : Nat} (hx : x < 4294967296) (hy : y < 4294967296) : x ^^^ y < 4294967296 := Nat.xor_lt_two_pow (n := 32) hx hy
end Go.Proofs.YtclelancbfoenaaGreatDoor.Re
/-
  ChaCha20 on plain numbers (RFC 8439): a quarter, a block, a text that is turned; there and back, and a part from a multiple of 64 on. It names no program.
-/
namespace Go.Proofs.YtclelancbfoenaaGreatDoor.Re

/-- A quarter. -/
def quarterN (a b c d : Nat) : Nat × Nat × Nat × Nat :=
  let a1 := (a + b) % 4294967296
  let d1 := rolN (d ^^^ a1) 16
  let c1 := (c + d1) % 4294967296
  let b1 := rolN (b ^^^ c1) 12
  let a2 := (a1 + b1) % 4294967296
  let d2 := rolN (d1 ^^^ a2) 8
  let c2 := (c1 + d2) % 4294967296
  let b2 := rolN (b1 ^^^ c2) 7
  (a2, b2, c2, d2)
theorem quarterN_lt {a b c d : Nat} (hb : b < 4294967296) (hd : d < 4294967296) :
    (quarterN a b c d).1 < 4294967296 ∧ (quarterN a b c d).2.1 < 4294967296 ∧ (quarterN a b c d).2.2.1 < 4294967296 ∧ (quarterN a b c d).2.2.2 < 4294967296 := by
  have m : ∀ x : Nat, x % 4294967296 < 4294967296 := fun x => Nat.mod_lt _ (by decide)
  have r : ∀ {x y : Nat} (k : Nat), x < 4294967296 → y < 4294967296 → k ≤ 32 → rolN (x ^^^ y) k < 4294967296 := fun k hx hy hk => rolN_lt _ k (xor_lt hx hy) hk
  exact ⟨m _, r 7 (r 12 hb (m _) (by omega)) (m _) (by omega), m _, r 8 (r 16 hd (m _) (by omega)) (m _) (by omega)⟩
/-- The chapter's example. -/
theorem quarterN_example : quarterN 0x11111111 0x01020304 0x9b8d6f43 0x01234567 = (0xea2a92f4, 0xcb1cf8ce, 0x4581472e, 0x5881c4bb) := by kernel_rfl

/-- A quarter over four places of a state. -/
def quarterAt (x : List Nat) (i j k l : Nat) : List Nat :=
  let q := quarterN (x.getD i 0) (x.getD j 0) (x.getD k 0) (x.getD l 0)
  (((x.set i q.1).set j q.2.1).set k q.2.2.1).set l q.2.2.2
@[simp] theorem quarterAt_length (x : List Nat) (i j k l : Nat) : (quarterAt x i j k l).length = x.length := by simp [quarterAt]
theorem quarterAt_lt {x : List Nat} (h : ∀ z ∈ x, z < 4294967296) (i j k l : Nat) : ∀ z ∈ quarterAt x i j k l, z < 4294967296 := by
  have g := fun n => all_getD (l := x) (N := 4294967296) (by decide) h n
  have q := quarterN_lt (a := x.getD i 0) (c := x.getD k 0) (g j) (g l)
  intro z hz
  rcases List.mem_or_eq_of_mem_set hz with hz | rfl
  · rcases List.mem_or_eq_of_mem_set hz with hz | rfl
    · rcases List.mem_or_eq_of_mem_set hz with hz | rfl
      · rcases List.mem_or_eq_of_mem_set hz with hz | rfl
        · exact h z hz
        · exact q.1
      · exact q.2.1
    · exact q.2.2.1
  · exact q.2.2.2

/-- Four columns, of which the first k are done; four diagonals likewise. -/
def colsN (x : List Nat) : Nat → List Nat
  | 0 => x
  | k + 1 => quarterAt (colsN x k) k (4 + k) (8 + k) (12 + k)
def diagsN (x : List Nat) : Nat → List Nat
  | 0 => x
  | k + 1 => quarterAt (diagsN x k) k (4 + (k + 1) % 4) (8 + (k + 2) % 4) (12 + (k + 3) % 4)
def doublesN (x : List Nat) : Nat → List Nat
  | 0 => x
  | k + 1 => diagsN (colsN (doublesN x k) 4) 4
@[simp] theorem colsN_length (x : List Nat) : ∀ k, (colsN x k).length = x.length
  | 0 => rfl
  | k + 1 => by rw [colsN, quarterAt_length, colsN_length x k]
@[simp] theorem diagsN_length (x : List Nat) : ∀ k, (diagsN x k).length = x.length
  | 0 => rfl
  | k + 1 => by rw [diagsN, quarterAt_length, diagsN_length x k]
@[simp] theorem doublesN_length (x : List Nat) : ∀ k, (doublesN x k).length = x.length
  | 0 => rfl
  | k + 1 => by rw [doublesN, diagsN_length, colsN_length, doublesN_length x k]
theorem colsN_lt {x : List Nat} (h : ∀ z ∈ x, z < 4294967296) : ∀ k, ∀ z ∈ colsN x k, z < 4294967296
  | 0 => h
  | k + 1 => by rw [colsN]; exact quarterAt_lt (colsN_lt h k) _ _ _ _
theorem diagsN_lt {x : List Nat} (h : ∀ z ∈ x, z < 4294967296) : ∀ k, ∀ z ∈ diagsN x k, z < 4294967296
  | 0 => h
  | k + 1 => by rw [diagsN]; exact quarterAt_lt (diagsN_lt h k) _ _ _ _
theorem doublesN_lt {x : List Nat} (h : ∀ z ∈ x, z < 4294967296) : ∀ k, ∀ z ∈ doublesN x k, z < 4294967296
  | 0 => h
  | k + 1 => by rw [doublesN]; exact diagsN_lt (colsN_lt (doublesN_lt h k) 4) 4

/-- A word, the lowest byte ahead. -/
def wordL (bs : List Nat) (i : Nat) : Nat := wordB (bs.getD (4 * i + 3) 0) (bs.getD (4 * i + 2) 0) (bs.getD (4 * i + 1) 0) (bs.getD (4 * i) 0)
def wordsLow (bs : List Nat) (k : Nat) : List Nat := (List.range k).map (wordL bs)
@[simp] theorem wordsLow_length (bs : List Nat) (k : Nat) : (wordsLow bs k).length = k := by simp [wordsLow]
theorem wordsLow_lt {bs : List Nat} (h : ∀ z ∈ bs, z < 256) (k : Nat) : ∀ z ∈ wordsLow bs k, z < 4294967296 := fun z hz => by
  obtain ⟨i, _, rfl⟩ := List.mem_map.1 hz
  exact wordB_lt (all_getD (by decide) h _) (all_getD (by decide) h _) (all_getD (by decide) h _) (all_getD (by decide) h _)

/-- The state at first. -/
def stateN (key : List Nat) (c : Nat) (nonce : List Nat) : List Nat := [0x61707865, 0x3320646e, 0x79622d32, 0x6b206574] ++ wordsLow key 8 ++ [c] ++ wordsLow nonce 3
@[simp] theorem stateN_length (key : List Nat) (c : Nat) (nonce : List Nat) : (stateN key c nonce).length = 16 := by simp [stateN]
theorem stateN_lt {key nonce : List Nat} {c : Nat} (hk : ∀ z ∈ key, z < 256) (hc : c < 4294967296) (hn : ∀ z ∈ nonce, z < 256) : ∀ z ∈ stateN key c nonce, z < 4294967296 := fun z hz => by
  simp only [stateN, List.mem_append] at hz
  rcases hz with ((hz | hz) | hz) | hz
  · simp at hz; omega
  · exact wordsLow_lt hk 8 z hz
  · simp at hz; omega
  · exact wordsLow_lt hn 3 z hz

/-- The bytes of words, the lowest ahead. -/
def lowBytes (ws : List Nat) : List Nat := (List.range (4 * ws.length)).map fun j => ws.getD (j / 4) 0 / 256 ^ (j % 4) % 256
@[simp] theorem lowBytes_length (ws : List Nat) : (lowBytes ws).length = 4 * ws.length := by simp [lowBytes]
theorem lowBytes_lt (ws : List Nat) : ∀ z ∈ lowBytes ws, z < 256 := fun z hz => by
  obtain ⟨i, _, rfl⟩ := List.mem_map.1 hz
  exact Nat.mod_lt _ (by decide)
def addN (x s : List Nat) : List Nat := (List.range 16).map fun i => (x.getD i 0 + s.getD i 0) % 4294967296
@[simp] theorem addN_length (x s : List Nat) : (addN x s).length = 16 := by simp [addN]

/-- A block. -/
def blockN (key : List Nat) (c : Nat) (nonce : List Nat) : List Nat := lowBytes (addN (doublesN (stateN key c nonce) 10) (stateN key c nonce))
@[simp] theorem blockN_length (key : List Nat) (c : Nat) (nonce : List Nat) : (blockN key c nonce).length = 64 := by simp [blockN]
theorem blockN_lt (key : List Nat) (c : Nat) (nonce : List Nat) : ∀ z ∈ blockN key c nonce, z < 256 := lowBytes_lt _
/-- RFC 8439, 2.3.2. -/
theorem blockN_example : blockN (List.range 32) 1 [0, 0, 0, 9, 0, 0, 0, 0x4a, 0, 0, 0, 0] =
    [0x10, 0xf1, 0xe7, 0xe4, 0xd1, 0x3b, 0x59, 0x15, 0x50, 0x0f, 0xdd, 0x1f, 0xa3, 0x20, 0x71, 0xc4, 0xc7, 0xd1, 0xf4, 0xc7, 0x33, 0xc0, 0x68, 0x03, 0x04, 0x22, 0xaa, 0x9a, 0xc3, 0xd4, 0x6c, 0x4e,
     0xd2, 0x82, 0x64, 0x46, 0x07, 0x9f, 0xaa, 0x09, 0x14, 0xc2, 0xd7, 0x05, 0xd9, 0x8b, 0x02, 0xa2, 0xb5, 0x12, 0x9c, 0xd1, 0xde, 0x16, 0x4e, 0xb9, 0xcb, 0xd0, 0x83, 0xe8, 0xa2, 0x50, 0x3c, 0x4e] := by kernel_rfl

/-- A text, turned by blocks K 0, K 1, .. -/
def turnN (K : Nat → List Nat) (b : List Nat) : List Nat := (List.range b.length).map fun j => b.getD j 0 ^^^ (K (j / 64)).getD (j % 64) 0
@[simp] theorem turnN_length (K : Nat → List Nat) (b : List Nat) : (turnN K b).length = b.length := by simp [turnN]
theorem turnN_at (K : Nat → List Nat) (b : List Nat) {j : Nat} (h : j < b.length) : (turnN K b)[j]? = some (b.getD j 0 ^^^ (K (j / 64)).getD (j % 64) 0) := by simp [turnN, h]
theorem turnN_lt {K : Nat → List Nat} {b : List Nat} (hK : ∀ i, ∀ z ∈ K i, z < 256) (hb : ∀ z ∈ b, z < 256) : ∀ z ∈ turnN K b, z < 256 := fun z hz => by
  obtain ⟨i, _, rfl⟩ := List.mem_map.1 hz
  exact Nat.xor_lt_two_pow (n := 8) (all_getD (by decide) hb _) (all_getD (by decide) (hK _) _)
/-- There and back. -/
theorem turnN_turnN (K : Nat → List Nat) (b : List Nat) : turnN K (turnN K b) = b := by
  apply List.ext_getElem?
  intro j
  by_cases h : j < b.length
  · rw [turnN_at K _ (by simpa using h), List.getD_eq_getElem?_getD, turnN_at K b h]
    simp [Nat.xor_assoc, h]
  · rw [List.getElem?_eq_none (by simp; omega), List.getElem?_eq_none (by omega)]
/-- A part from a multiple of 64 on. -/
theorem turnN_drop (K : Nat → List Nat) (b : List Nat) (n : Nat) : (turnN K b).drop (64 * n) = turnN (fun i => K (n + i)) (b.drop (64 * n)) := by
  apply List.ext_getElem?
  intro j
  rw [List.getElem?_drop]
  by_cases h : 64 * n + j < b.length
  · rw [turnN_at K b h, turnN_at _ _ (by simp; omega), show (64 * n + j) / 64 = n + j / 64 by omega, show (64 * n + j) % 64 = j % 64 by omega]
    simp
  · rw [List.getElem?_eq_none (by simp; omega), List.getElem?_eq_none (by simp; omega)]
theorem turnN_take (K : Nat → List Nat) (b : List Nat) (m : Nat) : (turnN K b).take m = turnN K (b.take m) := by
  apply List.ext_getElem?
  intro j
  rw [List.getElem?_take]
  by_cases h : j < m
  · rw [if_pos h]
    by_cases hb : j < b.length
    · rw [turnN_at K b hb, turnN_at K _ (by simp; omega)]
      simp [h]
    · rw [List.getElem?_eq_none (by simp; omega), List.getElem?_eq_none (by simp; omega)]
  · rw [if_neg h, List.getElem?_eq_none (by simp; omega)]
/-- One block ahead, the rest behind it. -/
theorem turnN_step (K : Nat → List Nat) (b : List Nat) : turnN K b = turnN K (b.take 64) ++ turnN (fun i => K (1 + i)) (b.drop 64) := by
  have h := turnN_drop K b 1
  rw [Nat.mul_one] at h
  rw [← turnN_take, ← h, List.take_append_drop]

/-- A text, turned by the blocks of a key, a counter and a nonce. -/
def streamN (key : List Nat) (c : Nat) (nonce b : List Nat) : List Nat := turnN (fun i => blockN key ((c + i) % 4294967296) nonce) b
@[simp] theorem streamN_length (key : List Nat) (c : Nat) (nonce b : List Nat) : (streamN key c nonce b).length = b.length := turnN_length _ _
theorem streamN_lt (key : List Nat) (c : Nat) (nonce : List Nat) {b : List Nat} (hb : ∀ z ∈ b, z < 256) : ∀ z ∈ streamN key c nonce b, z < 256 := turnN_lt (fun _ => blockN_lt _ _ _) hb
theorem streamN_back (key : List Nat) (c : Nat) (nonce b : List Nat) : streamN key c nonce (streamN key c nonce b) = b := turnN_turnN _ _
theorem streamN_drop (key : List Nat) (c : Nat) (nonce b : List Nat) (n : Nat) : (streamN key c nonce b).drop (64 * n) = streamN key ((c + n) % 4294967296) nonce (b.drop (64 * n)) := by
  have e : (fun i => blockN key ((c + (n + i)) % 4294967296) nonce) = fun i => blockN key (((c + n) % 4294967296 + i) % 4294967296) nonce := funext fun i => by rw [Nat.mod_add_mod, Nat.add_assoc]
  unfold streamN
  rw [turnN_drop, e]
end Go.Proofs.YtclelancbfoenaaGreatDoor.Re
/-
  The program's two tables: the fixed words, and the places that each quarter turns. It names no program.
-/
namespace Go.Proofs.YtclelancbfoenaaGreatDoor.Re
open Go Go.RowKit

def fixedL : List Nat := [1634760805, 857760878, 2036477234, 1797285236]
/-- The places of quarter j. -/
def quarRow (j : Nat) : List Nat := [[0, 4, 8, 12], [1, 5, 9, 13], [2, 6, 10, 14], [3, 7, 11, 15], [0, 5, 10, 15], [1, 6, 11, 12], [2, 7, 8, 13], [3, 4, 9, 14]].getD j []
def quarL : List Nat := [0, 4, 8, 12, 1, 5, 9, 13, 2, 6, 10, 14, 3, 7, 11, 15, 0, 5, 10, 15, 1, 6, 11, 12, 2, 7, 8, 13, 3, 4, 9, 14]

/-- The program's tables hold them. -/
def Tab (w : World) : Prop := (∀ i, i < 4 → w.cell? ⟨0, i, none⟩ = some (.int .u32 (fixedL.getD i 0 : Nat))) ∧ (∀ i, i < 32 → w.cell? ⟨1, i, none⟩ = some (.int .u8 (quarL.getD i 0 : Nat)))
theorem Tab.below {n : Nat} {w w' : World} (h : Tab w) (hb : Below n w w') (hn : 1 < n) : Tab w' :=
  ⟨fun i hi => (hb.cell (p := ⟨0, i, none⟩) (by show 0 < n; omega)).trans (h.1 i hi), fun i hi => (hb.cell (p := ⟨1, i, none⟩) hn).trans (h.2 i hi)⟩
theorem Tab.pos {w : World} (h : Tab w) : 1 < w.heap.size := by have := World.block_lt_of_cell? w _ (h.2 0 (by omega)); exact this
theorem Tab.later {w w' : World} (h : Tab w) (hb : Below w.heap.size w w') : Tab w' := h.below hb h.pos
theorem Tab.fixed {w : World} (h : Tab w) : w.rangeAt 0 0 (u32s fixedL) := fun j v hv => by
  have hj : j < fixedL.length := by
    rcases Nat.lt_or_ge j fixedL.length with h | h
    · exact h
    · rw [List.getElem?_eq_none (by simpa using h)] at hv; cases hv
  rw [u32s_at hj] at hv
  cases hv
  rw [Nat.zero_add]
  exact h.1 j hj
theorem Tab.quarters {w : World} (h : Tab w) : w.rangeAt 1 0 (u8s quarL) := fun j v hv => by
  have hj : j < quarL.length := by
    rcases Nat.lt_or_ge j quarL.length with h | h
    · exact h
    · rw [List.getElem?_eq_none (by simpa using h)] at hv; cases hv
  rw [u8s_at hj] at hv
  cases hv
  rw [Nat.zero_add]
  exact h.2 j hj
end Go.Proofs.YtclelancbfoenaaGreatDoor.Re
/-
  A law of the walk that names no program: a range over a function that never ends by itself and tells value after value, by number; the loop's variable is an array; the loop leaves it within N rounds.
-/
namespace Go.Proofs.YtclelancbfoenaaGreatDoor.Re
open Go Go.RowKit

section
variable {F : Fence} {n : Nat} {P : Program}

/-- The iterator, called in world W with the yield of loop l: it hands over number 0, 1, ..; it ends where a round has said no more, which comes within N rounds. -/
def IterEver (F : Fence) (n : Nat) (P : Program) (g : Nat) (lb : Array Value) (encs : Nat → Array Value) (Kp : World → World → Prop) (N : Nat) (l : Nat) (W : World) : Prop :=
  ∀ (J Jx : Nat → World → Prop), Low W.heap.size J → Low W.heap.size Jx → (∀ k W1, J k W1 → k < N) →
    (∀ k W1, J k W1 → YieldAt F (n - 1) P l (encs k) W1 fun e W' =>
      (e = .returned (.bool true) ∧ J (k + 1) W' ∧ Kp W1 W') ∨ (e = .returned (.bool false) ∧ Jx (k + 1) W' ∧ Kp W1 W')) →
    J 0 W →
    CallsIn F n P g (#[.func (.yield l) #[] #[]] ++ lb) W fun e W' => (∃ v, e = .returned v) ∧ ∃ k, Jx k W'

/-- How a round may be left. -/
def roundEver (B : Nat) (Kp : World → World → Prop) (I : Nat → World → Prop) (Ix : Code → Nat → World → Prop) (k : Nat) (W : World) : Exit → Act → World → Prop
  | .normal, _, W' => KeepsFrom B W W' ∧ Kp W W' ∧ I k W'
  | .ret, _, W' => KeepsFrom B W W' ∧ Kp W W' ∧ Ix .ret k W'
  | .exit id, _, W' => KeepsFrom B W W' ∧ Kp W W' ∧ Ix (.exit id) k W'
  | .goto t, _, W' => KeepsFrom B W W' ∧ Kp W W' ∧ Ix (.goto t) k W'
  | .panic _, _, _ => False
  | .outgrown, _, _ => False

theorem wpIn_rangeFunc_ever {g : Operand} {ps : Array Tmp} {assign body : Code} {Q : Exit → Act → World → Prop} {a : Act} {w : World}
    (hro : F.round = none) (h1 : 1 ≤ n) {gf : Nat} {lb : Array Value} (hg : a.eval g = .func (.func gf) #[] lb) (hFg : F.fn gf) (eg : ∀ args w, (callFunc gf args).run P w = .ok (.enter gf args) w)
    {encs : Nat → Array Value} {Kp : World → World → Prop} {N : Nat}
    (hit : ∀ W, W.heap.size = w.heap.size + 2 → Below w.heap.size w W → IterEver F (n - 1) P gf lb encs Kp N (w.heap.size + 1) W)
    (hKt : ∀ {A B C : World}, Kp A B → Kp B C → Kp A C) (hKb : ∀ (W : World) (o o' : Obj), W.heap[w.heap.size + 1]? = some o → o.isCells = false → Kp W (W.putObj (w.heap.size + 1) o'))
    (hKg : ∀ {A B : World}, Below A.heap.size A B → Kp A B) (hps : ∀ x, (encs x).size = ps.size) (t : TypeId) (c : Nat → List Value)
    (I : Nat → World → Prop) (Ix : Code → Nat → World → Prop) (hI : Low w.heap.size I) (hIx : ∀ c, Low w.heap.size (Ix c)) (hN : ∀ k W, I k W → k < N) (h0 : I 0 w) (a₁ : Nat → World → Act)
    (hassign : ∀ (l : Nat) (x : Nat) (W : World) (K : Act → World → Prop), (∀ W', Below W.heap.size W W' → Row W' W.heap.size t (c x) → K (a₁ x W) W') →
      assign.wpIn (F.inRound l) (n - 1 - 1) P (Exit.then K (fun _ _ _ => False)) { tmps := (ps.zip (encs x)).foldl (fun t (p, v) => t.setIfInBounds p v) a.tmps, defers := [] } W)
    (hbody : ∀ (l : Nat) (x : Nat) (W₀ W : World), I x W → w.heap.size ≤ W₀.heap.size → Row W W₀.heap.size t (c x) → body.wpIn (F.inRound l) (n - 1 - 1) P (roundEver w.heap.size Kp I Ix (x + 1) W) (a₁ x W₀) W)
    (hstop : ∀ (D : Nat) (c : Code) (k : Nat) (W : World), w.heap.size ≤ D → Ix c k W → W.heap[D]? = some (.deferred (some [])) → c.wpIn F n P Q { a with defers := { target := .collected D, args := #[] } :: a.defers } W) :
    (Code.rangeFunc g ps assign body).wpIn F n P Q a w := by
  refine wpIn_rangeFunc fun fn hfn => ?_
  rw [hro]
  -- the loop's record, by its state and its pending jump
  obtain ⟨rec, hrec⟩ : ∃ rec : LoopState → Option Code → Loop, rec = fun st pe => { state := st, pending := pe, fn, tmps := a.tmps, params := ps, assign, body, defers := w.heap.size } := ⟨_, rfl⟩
  obtain ⟨W1, hW1⟩ : ∃ W1, (w.alloc (.deferred (some []))).alloc (.loop (rec .ready none)) = W1 := ⟨_, rfl⟩
  have hs1 : W1.heap.size = w.heap.size + 2 := by rw [← hW1]; simp
  have hb1 : Below w.heap.size w W1 := by rw [← hW1]; exact ((Below.refl _ w).alloc (Nat.le_refl _) _).alloc (by simp) _
  have hL1 : W1.heap[w.heap.size + 1]? = some (.loop (rec .ready none)) := by
    rw [← hW1]; have := World.alloc_heap_new (w.alloc (.deferred (some []))) (.loop (rec .ready none)); rwa [World.size_alloc] at this
  have hD1 : W1.heap[w.heap.size]? = some (.deferred (some [])) := by
    rw [← hW1]; exact (Below.heap_alloc _ _ _ (by simp)).trans (World.alloc_heap_new w _)
  have hI1 : I 0 W1 := hI _ _ _ h0 hb1
  -- what is said of a world between two rounds, of a world behind the last one
  obtain ⟨T, hT⟩ : ∃ T : LoopState → Option Code → World → Prop, T = fun st pe W => W.heap[w.heap.size + 1]? = some (.loop (rec st pe)) ∧ W.heap[w.heap.size]? = some (.deferred (some [])) := ⟨_, rfl⟩
  have hTlow : ∀ st pe, Low W1.heap.size (fun (_ : Nat) W => T st pe W) := by
    intro st pe s A B hs hg'
    rw [hT] at hs ⊢
    exact ⟨(hg'.block _ (by omega)).trans hs.1, (hg'.block _ (by omega)).trans hs.2⟩
  refine ⟨w.heap.size + 1, [{ target := .collected w.heap.size, args := #[] }], W1, { target := .fn (.func gf) lb, args := #[.func (.yield (w.heap.size + 1)) #[] #[]] }, W1, gf,
    #[.func (.yield (w.heap.size + 1)) #[] #[]] ++ lb, W1, ?_, ?_, ?_, ?_, fun _ => h1, ?_⟩
  · rw [← hW1, hrec]; exact run_enterLoop_outer _ _ _ _ _
  · simp only [resolve, hg]
    simp [go_sem]
  · intro f' hf'
    simp [Target.leads] at hf'
    subst hf'
    exact hFg
  · simp [invoke, go_sem, eg]
  · refine (hit W1 hs1 hb1 (fun pre W => I pre W ∧ T .ready none W) (fun pre W => ∃ c, Ix c pre W ∧ T .done (some c) W)
      (Low.and (hI.mono (by omega)) (hTlow _ _))
      (fun s A B ⟨c, hc, ht⟩ hg' => ⟨c, (hIx c).mono (by omega) s A B hc hg', hTlow _ _ s A B ht hg'⟩) (fun k W1 h => hN k W1 h.1) ?_ ⟨hI1, by rw [hT]; exact ⟨hL1, hD1⟩⟩).mono ?_
    · rintro x W ⟨hi, ht⟩
      rw [hT] at ht
      obtain ⟨hl, hd⟩ := ht
      have hlt : w.heap.size + 1 < W.heap.size := (Array.getElem?_eq_some_iff.1 hl).1
      have hy := run_yield (P := P) (args := encs x) hl (by rw [hrec]; exact hps x)
      rw [hrec] at hy
      refine ⟨fn, _, assign, body, hy, roundIn_of_wpIn hfn (hassign _ x W _ (fun Wa hba hra => ?_))⟩
      have hla := (hba.block _ hlt).trans hl
      have hda := (hba.block _ (by omega)).trans hd
      have hia : I x Wa := hI _ _ _ hi (hba.mono (by omega))
      have hlta : w.heap.size + 1 < Wa.heap.size := Nat.lt_of_lt_of_le hlt hba.size
      refine ⟨_, run_beginRound hla (by rw [hrec]), ?_⟩
      -- the world in which the body begins
      obtain ⟨W2, hW2⟩ : ∃ W2, Wa.putObj (w.heap.size + 1) (.loop { rec .ready none with state := .busy }) = W2 := ⟨_, rfl⟩
      rw [hW2]
      have hl2 : W2.heap[w.heap.size + 1]? = some (.loop { rec .ready none with state := .busy }) := by rw [← hW2]; exact World.putObj_heap_same hlta
      have hd2 : W2.heap[w.heap.size]? = some (.deferred (some [])) := by rw [← hW2]; exact (World.putObj_heap_other (by omega)).trans hda
      have hk2 : Kp W W2 := by rw [← hW2]; exact hKt (hKg hba) (hKb _ _ _ hla rfl)
      have hi2 : I x W2 := by rw [← hW2]; exact low_putObj hI _ hia (by omega)
      have hr2 : Row W2 W.heap.size t (c x) := by rw [← hW2]; exact (World.putObj_heap_other (by omega)).trans hra
      -- whatever way the body is left
      have fin : ∀ (jump : Option Code) (W3 : World), KeepsFrom w.heap.size W2 W3 → Kp W2 W3 →
          ∃ W4, (Instr.endRound (w.heap.size + 1) jump).run P W3 = .ok (.bool jump.isNone) W4 ∧ T (if jump.isNone then .ready else .done) jump W4 ∧ Kp W W4 ∧ (I (x + 1) W3 → I (x + 1) W4) ∧ (∀ c, Ix c (x + 1) W3 → Ix c (x + 1) W4) := by
        intro jump W3 hk3 hkp
        have hl3 := hk3.same _ _ (by omega) hl2 rfl
        have hd3 := hk3.same _ _ (Nat.le_refl _) hd2 rfl
        refine ⟨_, run_endRound (P := P) jump hl3, ?_, hKt (hKt hk2 hkp) (hKb _ _ _ hl3 rfl), fun h => low_putObj hI _ h (by omega), fun c h => low_putObj (hIx c) _ h (by omega)⟩
        rw [hT, hrec]
        exact ⟨World.putObj_heap_same (Array.getElem?_eq_some_iff.1 hl3).1, (World.putObj_heap_other (by omega)).trans hd3⟩
      refine wpIn_mono (hbody _ x W W2 hi2 (by omega) hr2) ?_
      rintro e a3 W3 hp
      cases e with
      | normal =>
        obtain ⟨W4, hr, ht, hk, hi4, _⟩ := fin none W3 hp.1 hp.2.1
        exact ⟨_, _, hr, .inl ⟨rfl, ⟨hi4 hp.2.2, ht⟩, hk⟩⟩
      | ret =>
        obtain ⟨W4, hr, ht, hk, _, hx4⟩ := fin (some .ret) W3 hp.1 hp.2.1
        exact ⟨_, _, hr, .inr ⟨rfl, ⟨_, hx4 _ hp.2.2, ht⟩, hk⟩⟩
      | exit id =>
        obtain ⟨W4, hr, ht, hk, _, hx4⟩ := fin (some (.exit id)) W3 hp.1 hp.2.1
        exact ⟨_, _, hr, .inr ⟨rfl, ⟨_, hx4 _ hp.2.2, ht⟩, hk⟩⟩
      | goto t =>
        obtain ⟨W4, hr, ht, hk, _, hx4⟩ := fin (some (.goto t)) W3 hp.1 hp.2.1
        exact ⟨_, _, hr, .inr ⟨rfl, ⟨_, hx4 _ hp.2.2, ht⟩, hk⟩⟩
      | panic ch => exact hp.elim
      | outgrown => exact hp.elim
    · rintro e W2 ⟨⟨v, rfl⟩, ⟨k, c, hi, ht⟩⟩
      rw [hT] at ht
      have hr := run_endLoop (P := P) ht.1 (by rw [hrec]; simp)
      rw [hrec] at hr
      exact ⟨some c, _, hr, hstop _ c k _ (Nat.le_refl _) (low_putObj (hIx c) _ hi (by omega)) ((World.putObj_heap_other (by omega)).trans ht.2)⟩

end
end Go.Proofs.YtclelancbfoenaaGreatDoor.Re
/-
  A law of the walk that names no program: a region that draws its order and whose operation number c (the first that writes) waits for all that read: what is read hangs on the world ahead of c alone; behind c nothing is asked of the world.
-/
namespace Go.Proofs.YtclelancbfoenaaGreatDoor.Re
open Go Go.RowKit

section
variable {P : Program} {ops : Array Oper} {Q : Exit → Act → World → Prop} {md : Region.Mode} {c : Nat} {T : World → Prop}

theorem gone {b : Bool} {p : Prop} (h : b = true) : b = false → p := fun h' => by rw [h] at h'; cases h'

/-- Whatever order is picked from here on, and T holds behind every operation that is carried out ahead of c. -/
def wpAnyG (P : Program) (md : Region.Mode) (ops : Array Oper) (Q : Exit → Act → World → Prop) (c : Nat) (T : World → Prop) : Nat → Array Bool → Act → World → Prop
  | 0, listed, a, w => Region.ready md ops listed = [] ∧ Q .normal a w
  | fuel + 1, listed, a, w =>
    (Region.ready md ops listed = [] → Q .normal a w) ∧
    ∀ i ∈ Region.ready md ops listed, wpOp P ops Q i (fun a' w' => ((listed.setIfInBounds i true).getD c false = false → T w') ∧ wpAnyG P md ops Q c T fuel (listed.setIfInBounds i true) a' w') a w

theorem wpAny_of_G : ∀ (fuel : Nat) (listed : Array Bool) (a : Act) (w : World), wpAnyG P md ops Q c T fuel listed a w → wpAny P md ops Q fuel listed a w
  | 0, _, _, _, h => h
  | fuel + 1, _, _, _, h => ⟨h.1, fun i hi => wpOp_mono (fun a' w' h' => wpAny_of_G fuel _ a' w' h'.2) (h.2 i hi)⟩

theorem wpAnyG_first {i : Nat} {oi : Oper} {v : Value} (hi : ops[i]? = some oi) (hsel : ∀ (j : Nat) (o : Oper) cs b, ops[j]? = some o → o.op ≠ .select cs b)
    (hQ : ∀ c a w, Q (.panic c) (a.put oi.dst v) w → Q (.panic c) a w) (hic : i ≠ c) :
    ∀ (fuel : Nat) (listed : Array Bool) (a : Act) (w : World),
      (∀ j oj, ops[j]? = some oj → j ≠ i → listed.getD j true = false → (∀ e ∈ oj.after, Region.binds md e = true → e.on ≠ i) → oi.apart ops oj = true) →
      i ∈ Region.ready md ops listed → (Region.waitsFor md ops c i = true → listed.getD c false = false) → YieldsIf P ops (fun w => Region.waitsFor md ops c i = true → T w) oi v a → (listed.getD c false = false → T w) →
      wpAnyG P md ops Q c T fuel (listed.setIfInBounds i true) (a.put oi.dst v) w → wpAnyG P md ops Q c T (fuel + 1) listed a w := by
  intro fuel
  induction fuel with
  | zero =>
    intro listed a w _ hr hc hy hS H
    refine ⟨fun h => (by rw [h] at hr; cases hr), fun j hj => ?_⟩
    by_cases hji : j = i
    · subst hji; exact hy.wpOp hi (fun h => hS (hc h)) ⟨fun h => hS (by rwa [getD_set_ne false hic] at h), H⟩
    · have := ready_mono hj hji
      rw [H.1] at this
      cases this
  | succ fuel ih =>
    intro listed a w hfree hr hc hy hS H
    refine ⟨fun h => (by rw [h] at hr; cases hr), fun j hj => ?_⟩
    by_cases hji : j = i
    · subst hji; exact hy.wpOp hi (fun h => hS (hc h)) ⟨fun h => hS (by rwa [getD_set_ne false hic] at h), H⟩
    · have h1 := H.2 j (ready_mono hj hji)
      obtain ⟨hjun, oj, hoj, hall⟩ := mem_ready.1 hj
      have hnot : ∀ e ∈ oj.after, Region.binds md e = true → e.on ≠ i := fun e he hb heq => by
        have h1 := hall e he hb
        have h0 := (mem_ready.1 hr).1
        rw [heq] at h1
        rcases Nat.lt_or_ge i listed.size with h' | h'
        · simp [h'] at h0 h1; rw [h0] at h1; cases h1
        · simp [Array.getElem?_eq_none h'] at h1
      have h2 := wpOp_putIf hoj (hfree j oj hoj hji hjun hnot) (fun cs b => hsel i oi cs b hi) (fun cs b => hsel j oj cs b hoj) hQ hy h1
      have hfree' : ∀ k ok, ops[k]? = some ok → k ≠ i → (listed.setIfInBounds j true).getD k true = false →
          (∀ e ∈ ok.after, Region.binds md e = true → e.on ≠ i) → oi.apart ops ok = true := fun k ok hk hki hun hno => by
        refine hfree k ok hk hki ?_ hno
        by_cases hjk : j = k
        · subst hjk; exact hjun
        · rw [getD_set_ne true hjk] at hun; exact hun
      have hc' : Region.waitsFor md ops c i = true → (listed.setIfInBounds j true).getD c false = false := fun hw => by
        by_cases hjc : j = c
        · subst hjc
          obtain ⟨o', ho', e, he, hb, hon⟩ := Region.waitsFor_spec hw
          obtain rfl := Option.some.inj (hoj.symm.trans ho')
          exact absurd hon (hnot e he hb)
        · rw [getD_set_ne false hjc]; exact hc hw
      refine wpOp_mono (fun a' w' h3 => ?_) h2
      have hS' : (listed.setIfInBounds j true).getD c false = false → T w' := fun h => h3.2.1 (by rw [Array.setIfInBounds_comm _ _ (Ne.symm hji), getD_set_ne false hic]; exact h)
      refine ⟨hS', ih (listed.setIfInBounds j true) a' w' hfree' (ready_mono hr (Ne.symm hji)) hc' h3.1 hS' ?_⟩
      rw [Array.setIfInBounds_comm _ _ hji]
      exact h3.2.2

/-- The operations k, .., k + m - 1 may be taken first, one behind the other; those that c waits for only while c is still to come. -/
def takesGB (md : Region.Mode) (ops : Array Oper) (c : Nat) : Nat → Nat → Array Bool → Bool
  | 0, _, _ => true
  | m + 1, k, listed => (Region.ready md ops listed).contains k && Region.free md ops listed k && (k != c) && (!Region.waitsFor md ops c k || !listed.getD c false) && takesGB md ops c m (k + 1) (listed.setIfInBounds k true)

/-- Each operation yields its value in every world, or, where c waits for it, in every world that meets T. -/
def wpHeldG (P : Program) (md : Region.Mode) (ops : Array Oper) (c : Nat) (T : World → Prop) (K : Act → Prop) : Nat → List Oper → Act → Prop
  | _, [], a => K a
  | k, o :: rest, a => ∃ v, YieldsIf P ops (fun w => Region.waitsFor md ops c k = true → T w) o v a ∧ wpHeldG P md ops c T K (k + 1) rest (a.put o.dst v)

theorem wpHeldG_nil {K : Act → Prop} {k : Nat} {a : Act} (h : K a) : wpHeldG P md ops c T K k [] a := h
/-- .. in every world. -/
theorem wpHeldG_free {K : Act → Prop} {k : Nat} {a : Act} {o : Oper} {rest : List Oper} {v : Value} (hw : Region.wanted o (yielded ops a.tmps) = true)
    (hy : ∀ w, (execOp a.eval o).run P w = .ok (.value v) w) (h : wpHeldG P md ops c T K (k + 1) rest (a.put o.dst v)) : wpHeldG P md ops c T K k (o :: rest) a :=
  ⟨v, .inl ⟨hw, fun w _ => hy w⟩, h⟩
/-- .. in every world that meets T. -/
theorem wpHeldG_step {K : Act → Prop} {k : Nat} {a : Act} {o : Oper} {rest : List Oper} {v : Value} (hw : Region.wanted o (yielded ops a.tmps) = true) (hc : Region.waitsFor md ops c k = true)
    (hy : ∀ w, T w → (execOp a.eval o).run P w = .ok (.value v) w) (h : wpHeldG P md ops c T K (k + 1) rest (a.put o.dst v)) : wpHeldG P md ops c T K k (o :: rest) a :=
  ⟨v, .inl ⟨hw, fun w h => hy w (h hc)⟩, h⟩

theorem wpAnyG_takes (hQ : ∀ c a w d v, Q (.panic c) (Act.put a d v) w → Q (.panic c) a w) (hs : Region.noSelect ops = true) {w : World} (fuel : Nat) :
    ∀ (l : List Oper) (k : Nat) (listed : Array Bool) (a : Act), (listed.getD c false = false → T w) → (∀ j, j < l.length → l[j]? = ops[k + j]?) → takesGB md ops c l.length k listed = true →
      wpHeldG P md ops c T (fun a' => wpAnyG P md ops Q c T fuel (listedFrom l.length k listed) a' w) k l a → wpAnyG P md ops Q c T (fuel + l.length) listed a w
  | [], _, _, _, _, _, _, h => h
  | o :: l, k, listed, a, hS, hl, hB, h => by
    obtain ⟨v, hy, h⟩ := h
    have h0 : ops[k]? = some o := by simpa using (hl 0 (by simp)).symm
    simp only [List.length_cons, takesGB, Bool.and_eq_true, Bool.or_eq_true, Bool.not_eq_true', bne_iff_ne, ne_eq] at hB
    obtain ⟨⟨⟨⟨hr, hf⟩, hkc⟩, hw⟩, hB'⟩ := hB
    refine wpAnyG_first h0 (Region.noSelect_spec hs) (fun c a w => hQ c a w _ _) hkc _ listed a w (Region.free_spec h0 hf) (by simpa using hr) (fun hh => hw.resolve_left (by rw [hh]; exact Bool.noConfusion)) hy hS ?_
    exact wpAnyG_takes hQ hs fuel l (k + 1) _ _ (fun h => hS (by rwa [getD_set_ne false hkc] at h)) (fun j hj => by have := hl (j + 1) (by simp; omega); simpa [Nat.add_assoc, Nat.add_comm 1 j] using this) hB' h

/-- m operations from number k on, taken first, one behind the other. -/
theorem wpAnyG_takesAt {l : List Oper} (k m fuel : Nat) {N : Nat} {listed : Array Bool} {a : Act} {w : World} (hkm : k + m ≤ l.length) (hN : N = fuel + m) (hQ : ∀ c a w d v, Q (.panic c) (Act.put a d v) w → Q (.panic c) a w)
    (hs : Region.noSelect l.toArray = true) (hB : takesGB md l.toArray c m k listed = true) (hS : listed.getD c false = false → T w)
    (h : wpHeldG P md l.toArray c T (fun a' => wpAnyG P md l.toArray Q c T fuel (listedFrom m k listed) a' w) k ((l.drop k).take m) a) : wpAnyG P md l.toArray Q c T N listed a w := by
  have hl : ((l.drop k).take m).length = m := by simp; omega
  subst hN
  have := wpAnyG_takes (md := md) hQ hs fuel ((l.drop k).take m) k listed a hS (fun j hj => by
    rw [hl] at hj
    simp [hj]) (by rw [hl]; exact hB) (by rw [hl]; exact h)
  rwa [hl] at this

/-- Whatever order: operation i alone may come up. -/
theorem wpAnyG_only {i fuel : Nat} {listed : Array Bool} {o : Oper} {a : Act} {w : World} (hr : Region.ready md ops listed = [i]) (ho : ops[i]? = some o) (hw : Region.wanted o (yielded ops a.tmps) = true)
    (h : ∀ K' : Act → World → Prop, Hid (∀ a w, ((listed.setIfInBounds i true).getD c false = false → T w) → wpAnyG P md ops Q c T fuel (listed.setIfInBounds i true) a w → K' a w) → Oper.wp P o a w K' Q) :
    wpAnyG P md ops Q c T (fuel + 1) listed a w :=
  ⟨fun h0 => (by rw [hr] at h0; cases h0), fun j hj => by
    rw [hr] at hj
    have : j = i := by simpa using hj
    subst this
    exact wpOp_step ho (fun K' hK => by rw [if_pos hw]; exact h K' (fun a w hS hW => hK a w ⟨hS, hW⟩))⟩

theorem wpAnyG_done {listed : Array Bool} {a : Act} {w : World} (hr : Region.ready md ops listed = []) (h : Q .normal a w) :
    ∀ fuel, wpAnyG P md ops Q c T fuel listed a w
  | 0 => ⟨hr, h⟩
  | _ + 1 => ⟨fun _ => h, by rw [hr]; simp⟩

/-- The beginning: a region that draws its order. -/
theorem wp_region_gate' {id : Nat} {a : Act} {w : World} (c : Nat) (T : World → Prop) (hm : P.follows .mixedOrders = true)
    (h : wpAnyG P .any ops Q c T ops.size (Array.replicate ops.size false) a w.drew) : (Code.region id ops true).wp P Q a w :=
  wp_region_any hm (wpAny_of_G _ _ _ _ h)
/-- .. cut off: what it leaves is R. -/
theorem wp_region_gate {id : Nat} {a : Act} {w : World} (c : Nat) (T : World → Prop) (R : Act → World → Prop) (hm : P.follows .mixedOrders = true)
    (h : wpAnyG P .any ops (OnOnly fun _ a w => R a w) c T ops.size (Array.replicate ops.size false) a w.drew) (hR : ∀ a' w', R a' w' → Q .normal a' w') : (Code.region id ops true).wp P Q a w := by
  refine wp_mono (wp_region_any hm (wpAny_of_G _ _ _ _ h)) (fun e a' w' h' => ?_)
  cases e <;> first | exact hR _ _ h' | exact (h' : False).elim
/-- .. in a round. -/
theorem wpIn_region_gate_round {l m id : Nat} {a : Act} {w : World} (c : Nat) (T : World → Prop) (R : Act → World → Prop) (hm : P.follows .mixedOrders = true) (hd : noDefer ops = true)
    (h : wpAnyG P .any ops (OnOnly fun _ a w => R a w) c T ops.size (Array.replicate ops.size false) a w.drew) (hR : ∀ a' w', R a' w' → Q .normal a' w') : (Code.region id ops true).wpIn (Fence.wide.inRound l) m P Q a w := by
  refine wpIn_mono (wpIn_region_any hm (wpAnyIn_of_wpAny l m hd OnOnly.not_out _ _ _ _ (wpAny_of_G _ _ _ _ h))) (fun e a' w' h' => ?_)
  cases e <;> first | exact hR _ _ h' | exact (h' : False).elim
end
end Go.Proofs.YtclelancbfoenaaGreatDoor.Re
/-
  What the reference's Quarter answers.
-/
namespace Go.Proofs.YtclelancbfoenaaGreatDoor.Re
open Go.RowKit

theorem results_tmp4 {fn : Func} {t u x y : Tmp} (h : fn.results = #[.tmp t, .tmp u, .tmp x, .tmp y]) (tmps : Array Value) (P : Program) (w : World) :
    (results fn tmps).run P w = .ok (.tuple #[tmps.getD t undef, tmps.getD u undef, tmps.getD x undef, tmps.getD y undef]) w := by
  simp [results, h]

set_option maxRecDepth 100000 in
set_option maxHeartbeats 1000000 in
theorem refQuarter_any (a b c d : Nat) (_ha : a < 4294967296) (hb : b < 4294967296) (_hc : c < 4294967296) (hd : d < 4294967296) (w : World) :
    Calls Tryz.prog 64 #[.int .u32 a, .int .u32 b, .int .u32 c, .int .u32 d] w fun e w' => e = .returned (.tuple #[.int .u32 (quarterN a b c d).1, .int .u32 (quarterN a b c d).2.1, .int .u32 (quarterN a b c d).2.2.1, .int .u32 (quarterN a b c d).2.2.2]) ∧ w' = w := by
  have m : ∀ x : Nat, x % 4294967296 < 4294967296 := fun x => Nat.mod_lt _ (by decide)
  obtain ⟨a1, ha1⟩ : ∃ a1, a1 = (a + b) % 4294967296 := ⟨_, rfl⟩
  obtain ⟨d1, hd1⟩ : ∃ d1, d1 = rolN (d ^^^ a1) 16 := ⟨_, rfl⟩
  obtain ⟨c1, hc1⟩ : ∃ c1, c1 = (c + d1) % 4294967296 := ⟨_, rfl⟩
  obtain ⟨b1, hb1⟩ : ∃ b1, b1 = rolN (b ^^^ c1) 12 := ⟨_, rfl⟩
  obtain ⟨a2, ha2⟩ : ∃ a2, a2 = (a1 + b1) % 4294967296 := ⟨_, rfl⟩
  obtain ⟨d2, hd2⟩ : ∃ d2, d2 = rolN (d1 ^^^ a2) 8 := ⟨_, rfl⟩
  obtain ⟨c2, hc2⟩ : ∃ c2, c2 = (c1 + d2) % 4294967296 := ⟨_, rfl⟩
  obtain ⟨b2, hb2⟩ : ∃ b2, b2 = rolN (b1 ^^^ c2) 7 := ⟨_, rfl⟩
  have HQ : Hid (quarterN a b c d = (a2, b2, c2, d2)) := by
    show _ = _
    unfold quarterN
    simp only [← ha1, ← hd1, ← hc1, ← hb1, ← ha2, ← hd2, ← hc2, ← hb2]
  have la1 : a1 < 4294967296 := by rw [ha1]; exact m _
  have ld1 : d1 < 4294967296 := by rw [hd1]; exact rolN_lt _ _ (xor_lt hd la1) (by omega)
  have lc1 : c1 < 4294967296 := by rw [hc1]; exact m _
  have lb1 : b1 < 4294967296 := by rw [hb1]; exact rolN_lt _ _ (xor_lt hb lc1) (by omega)
  have la2 : a2 < 4294967296 := by rw [ha2]; exact m _
  have ld2 : d2 < 4294967296 := by rw [hd2]; exact rolN_lt _ _ (xor_lt ld1 la2) (by omega)
  have lc2 : c2 < 4294967296 := by rw [hc2]; exact m _
  have xr : ∀ x y : Nat, x < 4294967296 → y < 4294967296 → bits .xor .u32 (x : Int) (y : Int) = ((x ^^^ y : Nat) : Int) := fun x y hx hy => u32_xor_nat x y hx hy
  have eA1 : IntKind.u32.wrap ((a : Int) + (b : Int)) = (a1 : Int) := by rw [IntKind.wrap_u32]; omega
  have eX1 := xr d a1 hd la1
  have eC1 : IntKind.u32.wrap ((c : Int) + (d1 : Int)) = (c1 : Int) := by rw [IntKind.wrap_u32]; omega
  have eX2 := xr b c1 hb lc1
  have eA2 : IntKind.u32.wrap ((a1 : Int) + (b1 : Int)) = (a2 : Int) := by rw [IntKind.wrap_u32]; omega
  have eX3 := xr d1 a2 ld1 la2
  have eC2 : IntKind.u32.wrap ((c1 : Int) + (d2 : Int)) = (c2 : Int) := by rw [IntKind.wrap_u32]; omega
  have eX4 := xr b1 c2 lb1 lc2
  have R1 : Hid (Calls Tryz.prog 80 #[.int .u32 ((d ^^^ a1 : Nat) : Int), .int .i64 16] w fun e w' => e = .returned (.int .u32 d1) ∧ w' = w) := by rw [hd1]; exact refRol_any _ 16 16 w (xor_lt hd la1) (by decide) (by decide)
  have R2 : Hid (Calls Tryz.prog 80 #[.int .u32 ((b ^^^ c1 : Nat) : Int), .int .i64 12] w fun e w' => e = .returned (.int .u32 b1) ∧ w' = w) := by rw [hb1]; exact refRol_any _ 12 12 w (xor_lt hb lc1) (by decide) (by decide)
  have R3 : Hid (Calls Tryz.prog 80 #[.int .u32 ((d1 ^^^ a2 : Nat) : Int), .int .i64 8] w fun e w' => e = .returned (.int .u32 d2) ∧ w' = w) := by rw [hd2]; exact refRol_any _ 8 8 w (xor_lt ld1 la2) (by decide) (by decide)
  have R4 : Hid (Calls Tryz.prog 80 #[.int .u32 ((b1 ^^^ c2 : Nat) : Int), .int .i64 7] w fun e w' => e = .returned (.int .u32 b2) ∧ w' = w) := by rw [hb2]; exact refRol_any _ 7 7 w (xor_lt lb1 lc2) (by decide) (by decide)
  clear ha1 hd1 hc1 hb1 ha2 hd2 hc2 hb2 la1 ld1 lc1 lb1 la2 ld2 lc2 xr m hb hd _ha _hc
  generalize d ^^^ a1 = x1 at *
  generalize b ^^^ c1 = x2 at *
  generalize d1 ^^^ a2 = x3 at *
  generalize b1 ^^^ c2 = x4 at *
  rw [HQ.out]
  go_enter Tryz.func64, Tryz.ntmps64
  go_wp2_with (first
    | (go_at_call 80; have r1 := R1.out; clear R1; refine r1.mono ?_; clear r1; rintro e w1 ⟨rfl, hw1⟩; obtain rfl : w = w1 := hw1.symm; clear hw1)
    | (go_at_call 80; have r2 := R2.out; clear R2; refine r2.mono ?_; clear r2; rintro e w2 ⟨rfl, hw2⟩; obtain rfl : w = w2 := hw2.symm; clear hw2)
    | (go_at_call 80; have r3 := R3.out; clear R3; refine r3.mono ?_; clear r3; rintro e w3 ⟨rfl, hw3⟩; obtain rfl : w = w3 := hw3.symm; clear hw3)
    | (go_at_call 80; have r4 := R4.out; clear R4; refine r4.mono ?_; clear r4; rintro e w4 ⟨rfl, hw4⟩; obtain rfl : w = w4 := hw4.symm; clear hw4))
  refine bodyPost_ret (results_tmp4 rfl _ _ _) rfl ?_
  exact ⟨rfl, rfl⟩
end Go.Proofs.YtclelancbfoenaaGreatDoor.Re
/-
  What chacha.addTurn, chacha.Quarter and the statements' awake answer.
-/
namespace Go.Proofs.YtclelancbfoenaaGreatDoor.Re
open Go.RowKit

theorem results_tmp2 {fn : Func} {t u : Tmp} (h : fn.results = #[.tmp t, .tmp u]) (tmps : Array Value) (P : Program) (w : World) :
    (results fn tmps).run P w = .ok (.tuple #[tmps.getD t undef, tmps.getD u undef]) w := by
  simp [results, h]

set_option maxRecDepth 100000 in
set_option maxHeartbeats 1000000 in
theorem addTurn_any (s m x s' : Nat) (n : Nat) (hn : n < 32) (hs : (s + m) % 4294967296 = s') (hx : x < 4294967296) (w : World) :
    Calls Tryz.prog 102 #[.int .u32 s, .int .u32 m, .int .u32 x, .int .i64 n] w fun e w' => e = .returned (.tuple #[.int .u32 s', .int .u32 (rolN (x ^^^ s') n : Nat)]) ∧ w' = w := by
  have hs' : s' < 4294967296 := by rw [← hs]; exact Nat.mod_lt _ (by decide)
  have e1 : IntKind.u32.wrap ((s : Int) + (m : Int)) = (s' : Int) := by rw [IntKind.wrap_u32]; omega
  have e2 : bits .xor .u32 (x : Int) (s' : Int) = ((x ^^^ s' : Nat) : Int) := u32_xor_nat x s' hx hs'
  have R : Hid (Calls Tryz.prog 103 #[.int .u32 ((x ^^^ s' : Nat) : Int), .int .i64 n] w fun e w' => e = .returned (.int .u32 (rolN (x ^^^ s') n : Nat)) ∧ w' = w) := rol_any _ n n w (xor_lt hx hs') (by omega) hn
  clear hs hs' hx
  generalize x ^^^ s' = y at *
  go_enter Tryz.func102, Tryz.ntmps102
  go_wp2_with (go_at_call 103; refine R.out.mono ?_; rintro e w1 ⟨rfl, hw1⟩; obtain rfl : w = w1 := hw1.symm; clear hw1)
  refine bodyPost_ret (results_tmp2 rfl _ _ _) rfl ?_
  exact ⟨rfl, rfl⟩

set_option maxRecDepth 100000 in
set_option maxHeartbeats 1000000 in
theorem quarter_any (a b c d : Nat) (_ha : a < 4294967296) (hb : b < 4294967296) (_hc : c < 4294967296) (hd : d < 4294967296) (w : World) :
    Calls Tryz.prog 99 #[.int .u32 a, .int .u32 b, .int .u32 c, .int .u32 d] w fun e w' => e = .returned (.tuple #[.int .u32 (quarterN a b c d).1, .int .u32 (quarterN a b c d).2.1, .int .u32 (quarterN a b c d).2.2.1, .int .u32 (quarterN a b c d).2.2.2]) ∧ w' = w := by
  have m : ∀ x : Nat, x % 4294967296 < 4294967296 := fun x => Nat.mod_lt _ (by decide)
  obtain ⟨a1, ha1⟩ : ∃ a1, a1 = (a + b) % 4294967296 := ⟨_, rfl⟩
  obtain ⟨d1, hd1⟩ : ∃ d1, d1 = rolN (d ^^^ a1) 16 := ⟨_, rfl⟩
  obtain ⟨c1, hc1⟩ : ∃ c1, c1 = (c + d1) % 4294967296 := ⟨_, rfl⟩
  obtain ⟨b1, hb1⟩ : ∃ b1, b1 = rolN (b ^^^ c1) 12 := ⟨_, rfl⟩
  obtain ⟨a2, ha2⟩ : ∃ a2, a2 = (a1 + b1) % 4294967296 := ⟨_, rfl⟩
  obtain ⟨d2, hd2⟩ : ∃ d2, d2 = rolN (d1 ^^^ a2) 8 := ⟨_, rfl⟩
  obtain ⟨c2, hc2⟩ : ∃ c2, c2 = (c1 + d2) % 4294967296 := ⟨_, rfl⟩
  obtain ⟨b2, hb2⟩ : ∃ b2, b2 = rolN (b1 ^^^ c2) 7 := ⟨_, rfl⟩
  have HQ : Hid (quarterN a b c d = (a2, b2, c2, d2)) := by
    show _ = _
    unfold quarterN
    simp only [← ha1, ← hd1, ← hc1, ← hb1, ← ha2, ← hd2, ← hc2, ← hb2]
  have la1 : a1 < 4294967296 := by rw [ha1]; exact m _
  have ld1 : d1 < 4294967296 := by rw [hd1]; exact rolN_lt _ _ (xor_lt hd la1) (by omega)
  have lc1 : c1 < 4294967296 := by rw [hc1]; exact m _
  have lb1 : b1 < 4294967296 := by rw [hb1]; exact rolN_lt _ _ (xor_lt hb lc1) (by omega)
  have R1 : Hid (Calls Tryz.prog 102 #[.int .u32 a, .int .u32 b, .int .u32 d, .int .i64 16] w fun e w' => e = .returned (.tuple #[.int .u32 a1, .int .u32 d1]) ∧ w' = w) := by rw [hd1]; exact addTurn_any a b d a1 16 (by decide) ha1.symm hd w
  have R2 : Hid (Calls Tryz.prog 102 #[.int .u32 c, .int .u32 d1, .int .u32 b, .int .i64 12] w fun e w' => e = .returned (.tuple #[.int .u32 c1, .int .u32 b1]) ∧ w' = w) := by rw [hb1]; exact addTurn_any c d1 b c1 12 (by decide) hc1.symm hb w
  have R3 : Hid (Calls Tryz.prog 102 #[.int .u32 a1, .int .u32 b1, .int .u32 d1, .int .i64 8] w fun e w' => e = .returned (.tuple #[.int .u32 a2, .int .u32 d2]) ∧ w' = w) := by rw [hd2]; exact addTurn_any a1 b1 d1 a2 8 (by decide) ha2.symm ld1 w
  have R4 : Hid (Calls Tryz.prog 102 #[.int .u32 c1, .int .u32 d2, .int .u32 b1, .int .i64 7] w fun e w' => e = .returned (.tuple #[.int .u32 c2, .int .u32 b2]) ∧ w' = w) := by rw [hb2]; exact addTurn_any c1 d2 b1 c2 7 (by decide) hc2.symm lb1 w
  clear ha1 hd1 hc1 hb1 ha2 hd2 hc2 hb2 la1 ld1 lc1 lb1 m hb hd _ha _hc
  rw [HQ.out]
  go_enter Tryz.func99, Tryz.ntmps99
  go_wp2_with (first
    | (go_at_call 102; have r1 := R1.out; clear R1; refine r1.mono ?_; clear r1; rintro e w1 ⟨rfl, hw1⟩; obtain rfl : w = w1 := hw1.symm; clear hw1)
    | (go_at_call 102; have r2 := R2.out; clear R2; refine r2.mono ?_; clear r2; rintro e w2 ⟨rfl, hw2⟩; obtain rfl : w = w2 := hw2.symm; clear hw2)
    | (go_at_call 102; have r3 := R3.out; clear R3; refine r3.mono ?_; clear r3; rintro e w3 ⟨rfl, hw3⟩; obtain rfl : w = w3 := hw3.symm; clear hw3)
    | (go_at_call 102; have r4 := R4.out; clear R4; refine r4.mono ?_; clear r4; rintro e w4 ⟨rfl, hw4⟩; obtain rfl : w = w4 := hw4.symm; clear hw4))
  refine bodyPost_ret (results_tmp4 rfl _ _ _) rfl ?_
  exact ⟨rfl, rfl⟩

end Go.Proofs.YtclelancbfoenaaGreatDoor.Re
