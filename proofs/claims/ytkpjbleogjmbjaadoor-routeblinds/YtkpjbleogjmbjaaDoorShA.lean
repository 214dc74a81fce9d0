/-
  Several texts in one: ShRol, ShSpec, ShRounds.
-/
import Derived.Test.YtkpjbleogjmbjaaDoorBaseAll
import Derived.Test.YtkpjbleogjmbjaaDoorChecked
import Derived.WalkKit
import Derived.ProofKit
import Derived.Laws.BitsAllLaws
/-
  What sha.ror, vec.Rol, the reference's Rol and math/bits.RotateLeft32 answer: the word turned up by n modulo 32 bits, for every word and every n; and that turning back by as many bits gives the word again.
-/
namespace Go.Proofs.YtkpjbleogjmbjaaDoor.Sh
open Go.RowKit

theorem i64_and31 (n : Int) : bits .and .i64 n 31 = n % 32 := by
  have h31 : (BitVec.ofInt 64 31).toNat = 2 ^ 5 - 1 := by decide
  have key : (BitVec.ofInt 64 n &&& BitVec.ofInt 64 31).toNat = (n % ((2 ^ 64 : Nat) : Int)).toNat % 2 ^ 5 := by
    rw [BitVec.toNat_and, BitVec.toNat_ofInt, h31, Nat.and_two_pow_sub_one_eq_mod]
  show IntKind.i64.wrap ((BitVec.ofInt 64 n &&& BitVec.ofInt 64 31).toNat : Nat) = n % 32
  rw [key, IntKind.wrap_i64]
  omega
theorem u64_and31 (n : Int) : bits .and .u64 (IntKind.u64.wrap n) 31 = n % 32 := by
  have h31 : (BitVec.ofInt 64 31).toNat = 2 ^ 5 - 1 := by decide
  have key : (BitVec.ofInt 64 (IntKind.u64.wrap n) &&& BitVec.ofInt 64 31).toNat = ((IntKind.u64.wrap n) % ((2 ^ 64 : Nat) : Int)).toNat % 2 ^ 5 := by
    rw [BitVec.toNat_and, BitVec.toNat_ofInt, h31, Nat.and_two_pow_sub_one_eq_mod]
  show IntKind.u64.wrap ((BitVec.ofInt 64 (IntKind.u64.wrap n) &&& BitVec.ofInt 64 31).toNat : Nat) = n % 32
  rw [key, IntKind.wrap_u64, IntKind.wrap_u64]
  omega

/-- x, turned up by k bits (k below 32). -/
def rolN (x k : Nat) : Nat := x * 2 ^ k % 4294967296 + x / 2 ^ (32 - k)

theorem pow_split (k : Nat) (hk : k ≤ 32) : 2 ^ k * 2 ^ (32 - k) = 4294967296 := by
  rw [← Nat.pow_add, show k + (32 - k) = 32 by omega]

theorem rolN_eq (x k : Nat) (hk : k ≤ 32) : rolN x k = 2 ^ k * (x % 2 ^ (32 - k)) + x / 2 ^ (32 - k) := by
  unfold rolN
  rw [← pow_split k hk, Nat.mul_comm x, Nat.mul_mod_mul_left]

theorem rolN_lt (x k : Nat) (hx : x < 4294967296) (hk : k ≤ 32) : rolN x k < 4294967296 := by
  rw [rolN_eq x k hk]
  have hb : 0 < 2 ^ (32 - k) := Nat.two_pow_pos _
  have h1 := Nat.mod_lt x hb
  have h2 : x / 2 ^ (32 - k) < 2 ^ k := Nat.div_lt_of_lt_mul (by rw [Nat.mul_comm, pow_split k hk]; exact hx)
  have h3 := pow_split k hk
  have h4 : 2 ^ k * (x % 2 ^ (32 - k)) + 2 ^ k ≤ 2 ^ k * 2 ^ (32 - k) := by
    rw [← Nat.mul_succ]; exact Nat.mul_le_mul_left _ h1
  omega

theorem rolN_back (x k : Nat) (hx : x < 4294967296) (hk : k ≤ 32) : rolN (rolN x k) (32 - k) = x := by
  rw [rolN_eq _ (32 - k) (by omega), show 32 - (32 - k) = k by omega, rolN_eq x k hk]
  have hb : 0 < 2 ^ (32 - k) := Nat.two_pow_pos _
  have ha : 0 < 2 ^ k := Nat.two_pow_pos _
  have h2 : x / 2 ^ (32 - k) < 2 ^ k := Nat.div_lt_of_lt_mul (by rw [Nat.mul_comm, pow_split k hk]; exact hx)
  rw [Nat.mul_add_mod, Nat.mod_eq_of_lt h2, Nat.mul_add_div ha, Nat.div_eq_of_lt h2]
  have := Nat.div_add_mod x (2 ^ (32 - k))
  omega

theorem rolN_zero (x : Nat) (hx : x < 4294967296) : rolN x 0 = x := by
  unfold rolN; omega

theorem or_rolN (X k : Nat) (hX : X < 4294967296) (hk : k ≤ 32) : bits .or .u32 ((X : Int) * 2 ^ k % 4294967296) ((X : Int) / 2 ^ (32 - k)) = ((rolN X k : Nat) : Int) := by
  have h2 : X / 2 ^ (32 - k) < 2 ^ k := Nat.div_lt_of_lt_mul (by rw [Nat.mul_comm, pow_split k hk]; exact hX)
  have hp : 2 ^ k ≤ 4294967296 := by have h := Nat.pow_le_pow_right (n := 2) (by decide) hk; exact h
  have e1 : ((X : Int) * 2 ^ k % 4294967296) = ((X * 2 ^ k % 4294967296 : Nat) : Int) := by simp
  have e2 : ((X : Int) / 2 ^ (32 - k)) = ((X / 2 ^ (32 - k) : Nat) : Int) := by simp
  have h5 : X * 2 ^ k % 4294967296 < 4294967296 := Nat.mod_lt _ (by decide)
  have h7 : X * 2 ^ k % 4294967296 % 2 ^ k = 0 := by
    rw [← pow_split k hk, Nat.mul_comm X, Nat.mul_mod_mul_left]; simp
  have h8 : X / 2 ^ (32 - k) < 4294967296 := by omega
  unfold rolN
  rw [e1, e2]
  clear e1 e2
  generalize X * 2 ^ k % 4294967296 = U at *
  generalize X / 2 ^ (32 - k) = V at *
  rw [bits_join .u32 32 (by decide) (fun n h0 h1 => by rw [IntKind.wrap_u32]; omega) k]
  · simp
  · omega
  · exact_mod_cast h7
  · omega
  · omega
  · exact_mod_cast h2
  · omega


set_option maxHeartbeats 400000 in
theorem rot_any (X : Nat) (n : Int) (k : Nat) (w : World) (h1 : X < 4294967296) (hk : n % 32 = k) (hk2 : k < 32) :
    Calls Tryd.prog 57 #[.int .u32 X, .int .i64 n] w fun e w' => e = .returned (.int .u32 (rolN X k)) ∧ w' = w := by
  have e := u64_and31 n
  rw [hk] at e
  clear hk
  go_enter Tryd.func57, Tryd.ntmps57
  go_wp2
  go_ret
  rw [← or_rolN X k h1 (by omega)]
  exact ⟨rfl, rfl⟩

set_option maxHeartbeats 400000 in
/-- vec.Rol -/
theorem rol_any (X : Nat) (n : Int) (k : Nat) (w : World) (h1 : X < 4294967296) (hk : n % 32 = k) (hk2 : k < 32) :
    Calls Tryd.prog 56 #[.int .u32 X, .int .i64 n] w fun e w' => e = .returned (.int .u32 (rolN X k)) ∧ w' = w := by
  have HK : Hid (n % 32 = k) := hk
  clear hk
  go_enter Tryd.func56, Tryd.ntmps56
  go_wp2_with (go_at_call 57; refine (rot_any X n k _ h1 HK.out hk2).mono ?_; rintro e w' ⟨rfl, rfl⟩)
  go_ret
  exact ⟨rfl, rfl⟩

set_option maxHeartbeats 400000 in
/-- the reference's Rol -/
theorem refRol_any (X : Nat) (n : Int) (k : Nat) (w : World) (h1 : X < 4294967296) (hk : n % 32 = k) (hk2 : k < 32) :
    Calls Tryd.prog 48 #[.int .u32 X, .int .i64 n] w fun e w' => e = .returned (.int .u32 (rolN X k)) ∧ w' = w := by
  have e := i64_and31 n
  rw [hk] at e
  clear hk
  by_cases hz : k = 0
  · subst hz
    rw [rolN_zero X h1]
    go_enter Tryd.func48, Tryd.ntmps48
    go_wp2
    go_ret
    exact ⟨rfl, rfl⟩
  · have hne : ((k : Int) == 0) = false := by simp; omega
    rw [← or_rolN X k h1 (by omega)]
    go_enter Tryd.func48, Tryd.ntmps48
    go_wp2
    go_ret
    exact ⟨rfl, rfl⟩

set_option maxHeartbeats 400000 in
/-- sha.ror -/
theorem ror_any (X n : Nat) (w : World) (h1 : X < 4294967296) (hn0 : 0 < n) (hn : n < 32) :
    Calls Tryd.prog 55 #[.int .u32 X, .int .i64 n] w fun e w' => e = .returned (.int .u32 (rolN X (32 - n) : Nat)) ∧ w' = w := by
  have HC : Hid (∀ w, Calls Tryd.prog 56 #[.int .u32 X, .int .i64 (-(n : Int))] w fun e w' => e = .returned (.int .u32 (rolN X (32 - n) : Nat)) ∧ w' = w) := fun w => rol_any X (-(n : Int)) (32 - n) w h1 (by omega) (by omega)
  go_enter Tryd.func55, Tryd.ntmps55
  go_wp2_with (go_at_call 56; refine (HC.out _).mono ?_; rintro e w' ⟨rfl, rfl⟩)
  go_ret
  exact ⟨rfl, rfl⟩

/-- the reference's Rol by a number below nought -/
theorem refRor_any (X n : Nat) (w : World) (h1 : X < 4294967296) (hn0 : 0 < n) (hn : n < 32) :
    Calls Tryd.prog 48 #[.int .u32 X, .int .i64 (-(n : Int))] w fun e w' => e = .returned (.int .u32 (rolN X (32 - n) : Nat)) ∧ w' = w :=
  refRol_any X (-(n : Int)) (32 - n) w h1 (by omega) (by omega)

end Go.Proofs.YtkpjbleogjmbjaaDoor.Sh
/-
  SHA-256 on plain numbers: the words of a block, a round, a block taken in; and how the program's and the reference's reckonings in 32 bits are told by it.
-/
namespace Go.Proofs.YtkpjbleogjmbjaaDoor.Sh
open Go Go.RowKit

/-- x, turned down by n bits. -/
def ror (x n : Nat) : Nat := rolN x (32 - n)
theorem ror_lt {x n : Nat} (h : x < 4294967296) : ror x n < 4294967296 := rolN_lt x _ h (by omega)

def wordB (a b c d : Nat) : Nat := 16777216 * a + 65536 * b + 256 * c + d
def word4 (bs : List Nat) (i : Nat) : Nat := wordB (bs.getD (4 * i) 0) (bs.getD (4 * i + 1) 0) (bs.getD (4 * i + 2) 0) (bs.getD (4 * i + 3) 0)

def sig1 (x : Nat) : Nat := ror x 17 ^^^ ror x 19 ^^^ x / 1024
def sig0 (x : Nat) : Nat := ror x 7 ^^^ ror x 18 ^^^ x / 8
/-- The next word of a schedule. -/
def extN (a b c d : Nat) : Nat := (a + b + sig1 c + sig0 d) % 4294967296
def nextW (l : List Nat) : Nat := extN (l.getD (l.length - 16) 0) (l.getD (l.length - 7) 0) (l.getD (l.length - 2) 0) (l.getD (l.length - 15) 0)
def firstW (bs : List Nat) (k : Nat) : List Nat := (List.range k).map (word4 bs)
def growW (bs : List Nat) : Nat → List Nat
  | 0 => firstW bs 16
  | k + 1 => growW bs k ++ [nextW (growW bs k)]
/-- The words of a block. -/
def sched (bs : List Nat) : List Nat := growW bs 48

@[simp] theorem firstW_length (bs : List Nat) (k : Nat) : (firstW bs k).length = k := by simp [firstW]
theorem firstW_succ (bs : List Nat) (k : Nat) : firstW bs (k + 1) = firstW bs k ++ [word4 bs k] := by simp [firstW, List.range_succ]
@[simp] theorem growW_length (bs : List Nat) : ∀ k, (growW bs k).length = 16 + k
  | 0 => by simp [growW]
  | k + 1 => by simp [growW, growW_length bs k]; omega

theorem all_getD {l : List Nat} {N : Nat} (hN : 0 < N) (h : ∀ z ∈ l, z < N) (i : Nat) : l.getD i 0 < N := by
  by_cases hi : i < l.length
  · simp only [List.getD_eq_getElem?_getD, List.getElem?_eq_getElem hi, Option.getD_some]; exact h _ (List.getElem_mem hi)
  · simp [List.getElem?_eq_none (show l.length ≤ i by omega), hN]

theorem wordB_lt {a b c d : Nat} (ha : a < 256) (hb : b < 256) (hc : c < 256) (hd : d < 256) : wordB a b c d < 4294967296 := by unfold wordB; omega
theorem extN_lt (a b c d : Nat) : extN a b c d < 4294967296 := Nat.mod_lt _ (by decide)
theorem growW_lt (bs : List Nat) (hb : ∀ z ∈ bs, z < 256) : ∀ k, ∀ z ∈ growW bs k, z < 4294967296
  | 0 => by
    intro z hz
    obtain ⟨i, _, rfl⟩ := List.mem_map.1 hz
    exact wordB_lt (all_getD (by decide) hb _) (all_getD (by decide) hb _) (all_getD (by decide) hb _) (all_getD (by decide) hb _)
  | k + 1 => by
    intro z hz
    rcases List.mem_append.1 hz with h | h
    · exact growW_lt bs hb k z h
    · simp at h; subst h; exact extN_lt _ _ _ _

theorem u32_or_comm (x y : Int) : bits .or .u32 x y = bits .or .u32 y x := by simp only [bits, BitVec.or_comm]
theorem u32_join (x y : Nat) (i : Nat) (h1 : x % 2 ^ i = 0) (h2 : y < 2 ^ i) (hx : x < 4294967296) (hy : y < 4294967296) : bits .or .u32 (x : Int) (y : Int) = ((x + y : Nat) : Int) := by
  rw [bits_join .u32 32 (by decide) (fun n h0 h1 => by rw [IntKind.wrap_u32]; omega) i x y (by omega) (by exact_mod_cast h1) (by omega) (by omega) (by exact_mod_cast h2) (by omega)]
  omega
theorem wordB_or (a b c d : Nat) (ha : a < 256) (hb : b < 256) (hc : c < 256) (hd : d < 256) :
    bits .or .u32 (bits .or .u32 (bits .or .u32 (IntKind.u32.wrap ((a : Int) * 16777216)) (IntKind.u32.wrap ((b : Int) * 65536))) (IntKind.u32.wrap ((c : Int) * 256))) (d : Int) = ((wordB a b c d : Nat) : Int) := by
  have e1 : IntKind.u32.wrap ((a : Int) * 16777216) = ((16777216 * a : Nat) : Int) := by rw [IntKind.wrap_u32]; omega
  have e2 : IntKind.u32.wrap ((b : Int) * 65536) = ((65536 * b : Nat) : Int) := by rw [IntKind.wrap_u32]; omega
  have e3 : IntKind.u32.wrap ((c : Int) * 256) = ((256 * c : Nat) : Int) := by rw [IntKind.wrap_u32]; omega
  unfold wordB
  rw [e1, e2, e3, u32_join _ _ 24 (by omega) (by omega) (by omega) (by omega), u32_join _ _ 16 (by omega) (by omega) (by omega) (by omega), u32_join _ _ 8 (by omega) (by omega) (by omega) (by omega)]

theorem xor_lt {x y : Nat} (hx : x < 4294967296) (hy : y < 4294967296) : x ^^^ y < 4294967296 := Nat.xor_lt_two_pow (n := 32) hx hy
theorem and_lt {x y : Nat} (hx : x < 4294967296) : x &&& y < 4294967296 := Nat.lt_of_le_of_lt Nat.and_le_left hx

theorem sig1_eq {x : Nat} (hx : x < 4294967296) : bits .xor .u32 (bits .xor .u32 ((ror x 17 : Nat) : Int) ((ror x 19 : Nat) : Int)) ((x : Int) / 1024) = ((sig1 x : Nat) : Int) := by
  rw [u32_xor_nat _ _ (ror_lt hx) (ror_lt hx), show ((x : Int) / 1024) = ((x / 1024 : Nat) : Int) by simp, u32_xor_nat _ _ (xor_lt (ror_lt hx) (ror_lt hx)) (by omega)]
  rfl
theorem sig0_eq {x : Nat} (hx : x < 4294967296) : bits .xor .u32 (bits .xor .u32 ((ror x 7 : Nat) : Int) ((ror x 18 : Nat) : Int)) ((x : Int) / 8) = ((sig0 x : Nat) : Int) := by
  rw [u32_xor_nat _ _ (ror_lt hx) (ror_lt hx), show ((x : Int) / 8) = ((x / 8 : Nat) : Int) by simp, u32_xor_nat _ _ (xor_lt (ror_lt hx) (ror_lt hx)) (by omega)]
  rfl
/-- The program's sum. -/
theorem ext_eq {a b c d : Nat} (hc : c < 4294967296) (hd : d < 4294967296) :
    IntKind.u32.wrap (IntKind.u32.wrap (IntKind.u32.wrap ((a : Int) + b) + bits .xor .u32 (bits .xor .u32 ((ror c 17 : Nat) : Int) ((ror c 19 : Nat) : Int)) ((c : Int) / 1024)) + bits .xor .u32 (bits .xor .u32 ((ror d 7 : Nat) : Int) ((ror d 18 : Nat) : Int)) ((d : Int) / 8)) = ((extN a b c d : Nat) : Int) := by
  rw [sig1_eq hc, sig0_eq hd]
  unfold extN
  simp only [IntKind.wrap_u32]
  omega
/-- The reference's sum. -/
theorem ext_eq' {a b c d : Nat} (hc : c < 4294967296) (hd : d < 4294967296) :
    IntKind.u32.wrap (IntKind.u32.wrap (IntKind.u32.wrap (bits .xor .u32 (bits .xor .u32 ((ror c 17 : Nat) : Int) ((ror c 19 : Nat) : Int)) ((c : Int) / 1024) + (b : Int)) + bits .xor .u32 (bits .xor .u32 ((ror d 7 : Nat) : Int) ((ror d 18 : Nat) : Int)) ((d : Int) / 8)) + (a : Int)) = ((extN a b c d : Nat) : Int) := by
  rw [sig1_eq hc, sig0_eq hd]
  unfold extN
  simp only [IntKind.wrap_u32]
  omega
theorem sched_length (bs : List Nat) : (sched bs).length = 64 := growW_length bs 48
theorem sched_lt (bs : List Nat) (hb : ∀ z ∈ bs, z < 256) : ∀ z ∈ sched bs, z < 4294967296 := growW_lt bs hb 48

end Go.Proofs.YtkpjbleogjmbjaaDoor.Sh
/-
  The rounds of SHA-256 on plain numbers, and the table of their words.
-/
namespace Go.Proofs.YtkpjbleogjmbjaaDoor.Sh
open Go Go.RowKit

/-- The words of the rounds. -/
def kW : List Nat := [1116352408, 1899447441, 3049323471, 3921009573, 961987163, 1508970993, 2453635748, 2870763221, 3624381080, 310598401, 607225278, 1426881987, 1925078388, 2162078206, 2614888103, 3248222580, 3835390401, 4022224774, 264347078, 604807628, 770255983, 1249150122, 1555081692, 1996064986, 2554220882, 2821834349, 2952996808, 3210313671, 3336571891, 3584528711, 113926993, 338241895, 666307205, 773529912, 1294757372, 1396182291, 1695183700, 1986661051, 2177026350, 2456956037, 2730485921, 2820302411, 3259730800, 3345764771, 3516065817, 3600352804, 4094571909, 275423344, 430227734, 506948616, 659060556, 883997877, 958139571, 1322822218, 1537002063, 1747873779, 1955562222, 2024104815, 2227730452, 2361852424, 2428436474, 2756734187, 3204031479, 3329325298]
theorem kW_length : kW.length = 64 := rfl
theorem kW_lt : ∀ z ∈ kW, z < 4294967296 := by decide

/-- The program's table holds them. -/
def Tab (w : World) : Prop := ∀ i, i < 64 → w.cell? ⟨0, i, none⟩ = some (.int .u32 (kW.getD i 0 : Nat))
theorem Tab.below {n : Nat} {w w' : World} (h : Tab w) (hb : Below n w w') (hn : 0 < n) : Tab w' := fun i hi => (hb.cell (p := ⟨0, i, none⟩) hn).trans (h i hi)
theorem Tab.pos {w : World} (h : Tab w) : 0 < w.heap.size := by have := World.block_lt_of_cell? w _ (h 0 (by omega)); exact this
theorem Tab.later {w w' : World} (h : Tab w) (hb : Below w.heap.size w w') : Tab w' := h.below hb h.pos

/-- Eight words. -/
structure St where
  a : Nat
  b : Nat
  c : Nat
  d : Nat
  e : Nat
  f : Nat
  g : Nat
  h : Nat

def St.list (s : St) : List Nat := [s.a, s.b, s.c, s.d, s.e, s.f, s.g, s.h]
theorem St.cells (r : St) : u32s r.list = [.int .u32 (r.a : Nat), .int .u32 (r.b : Nat), .int .u32 (r.c : Nat), .int .u32 (r.d : Nat), .int .u32 (r.e : Nat), .int .u32 (r.f : Nat), .int .u32 (r.g : Nat), .int .u32 (r.h : Nat)] := rfl
def St.ok (s : St) : Prop := s.a < 4294967296 ∧ s.b < 4294967296 ∧ s.c < 4294967296 ∧ s.d < 4294967296 ∧ s.e < 4294967296 ∧ s.f < 4294967296 ∧ s.g < 4294967296 ∧ s.h < 4294967296

def chN (e f g : Nat) : Nat := (e &&& f) ^^^ ((4294967295 ^^^ e) &&& g)
def majN (a b c : Nat) : Nat := (a &&& b) ^^^ (a &&& c) ^^^ (b &&& c)
def big1 (e : Nat) : Nat := ror e 6 ^^^ ror e 11 ^^^ ror e 25
def big0 (a : Nat) : Nat := ror a 2 ^^^ ror a 13 ^^^ ror a 22
def tN (k w e f g h : Nat) : Nat := (h + k + w + chN e f g + big1 e) % 4294967296
def aN (t a b c : Nat) : Nat := (t + majN a b c + big0 a) % 4294967296
def roundN (k w : Nat) (s : St) : St := ⟨aN (tN k w s.e s.f s.g s.h) s.a s.b s.c, s.a, s.b, s.c, (s.d + tN k w s.e s.f s.g s.h) % 4294967296, s.e, s.f, s.g⟩
def roundsN (ws : List Nat) : Nat → St → St
  | 0, s => s
  | i + 1, s => roundN (kW.getD i 0) (ws.getD i 0) (roundsN ws i s)

theorem roundN_ok {k w : Nat} {s : St} (h : s.ok) : (roundN k w s).ok :=
  ⟨Nat.mod_lt _ (by decide), h.1, h.2.1, h.2.2.1, Nat.mod_lt _ (by decide), h.2.2.2.2.1, h.2.2.2.2.2.1, h.2.2.2.2.2.2.1⟩
theorem roundsN_ok {ws : List Nat} {s : St} (h : s.ok) : ∀ i, (roundsN ws i s).ok
  | 0 => h
  | i + 1 => roundN_ok (roundsN_ok h i)

theorem ch_eq {e f g : Nat} (he : e < 4294967296) (hf : f < 4294967296) (hg : g < 4294967296) : bits .xor .u32 (bits .and .u32 (e : Int) f) (bits .and .u32 (bits .xor .u32 IntKind.u32.max (e : Int)) g) = ((chN e f g : Nat) : Int) := by
  rw [show IntKind.u32.max = ((4294967295 : Nat) : Int) from rfl, u32_xor_nat _ _ (by decide) he, u32_and_nat _ _ he hf, u32_and_nat _ _ (xor_lt (by decide) he) hg, u32_xor_nat _ _ (and_lt he) (and_lt (xor_lt (by decide) he))]
  rfl
theorem maj_eq {a b c : Nat} (ha : a < 4294967296) (hb : b < 4294967296) (hc : c < 4294967296) : bits .xor .u32 (bits .xor .u32 (bits .and .u32 (a : Int) b) (bits .and .u32 (a : Int) c)) (bits .and .u32 (b : Int) c) = ((majN a b c : Nat) : Int) := by
  rw [u32_and_nat _ _ ha hb, u32_and_nat _ _ ha hc, u32_and_nat _ _ hb hc, u32_xor_nat _ _ (and_lt ha) (and_lt ha), u32_xor_nat _ _ (xor_lt (and_lt ha) (and_lt ha)) (and_lt hb)]
  rfl
theorem big1_eq {e : Nat} (he : e < 4294967296) : bits .xor .u32 (bits .xor .u32 ((ror e 6 : Nat) : Int) ((ror e 11 : Nat) : Int)) ((ror e 25 : Nat) : Int) = ((big1 e : Nat) : Int) := by
  rw [u32_xor_nat _ _ (ror_lt he) (ror_lt he), u32_xor_nat _ _ (xor_lt (ror_lt he) (ror_lt he)) (ror_lt he)]
  rfl
theorem big0_eq {e : Nat} (he : e < 4294967296) : bits .xor .u32 (bits .xor .u32 ((ror e 2 : Nat) : Int) ((ror e 13 : Nat) : Int)) ((ror e 22 : Nat) : Int) = ((big0 e : Nat) : Int) := by
  rw [u32_xor_nat _ _ (ror_lt he) (ror_lt he), u32_xor_nat _ _ (xor_lt (ror_lt he) (ror_lt he)) (ror_lt he)]
  rfl

theorem ror_int (X : Nat) (n : Int) (w : World) (h1 : X < 4294967296) (hn0 : 0 < n) (hn : n < 32) :
    Calls Tryd.prog 55 #[.int .u32 X, .int .i64 n] w fun e w' => e = .returned (.int .u32 (ror X n.toNat : Nat)) ∧ w' = w := by
  obtain ⟨m, rfl⟩ := Int.eq_ofNat_of_zero_le (show 0 ≤ n by omega)
  exact ror_any X m w h1 (by omega) (by omega)
theorem refRor_int (X : Nat) (n : Int) (w : World) (h1 : X < 4294967296) (hn0 : n < 0) (hn : -32 < n) :
    Calls Tryd.prog 48 #[.int .u32 X, .int .i64 n] w fun e w' => e = .returned (.int .u32 (ror X (-n).toNat : Nat)) ∧ w' = w := by
  obtain ⟨m, hm⟩ := Int.eq_ofNat_of_zero_le (show 0 ≤ -n by omega)
  obtain rfl : n = -(m : Int) := by omega
  have := refRor_any X m w h1 (by omega) (by omega)
  rw [show (- -(m : Int)).toNat = m by omega]
  exact this

end Go.Proofs.YtkpjbleogjmbjaaDoor.Sh
