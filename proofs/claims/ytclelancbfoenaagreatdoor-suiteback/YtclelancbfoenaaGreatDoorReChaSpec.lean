/-
  ChaCha20 on plain numbers (RFC 8439): a quarter, a block, a text that is turned; there and back, and a part from a multiple of 64 on. It names no program.
-/
import Derived.Test.YtclelancbfoenaaGreatDoorMade
import Derived.Test.YtclelancbfoenaaGreatDoorReSpec
namespace Go.Proofs.YtclelancbfoenaaGreatDoor.Re

/-- A quarter. -/
def quarterN (a b c d : Nat) : Nat × Nat × Nat × Nat :=
  let a1 := (a + b) % 4294967296
  let d1 := rolN (d ^^^ a1) 16
  let c1 := (c + d1) % 4294967296
  let b1 := rolN (b ^^^ c1) 12
  let a2 := (a1 + b1) % 4294967296
  let d2 := rolN (d1 ^^^ a2) 8
  let c2 := (c1 + d2) % 4294967296
  let b2 := rolN (b1 ^^^ c2) 7
  (a2, b2, c2, d2)
theorem quarterN_lt {a b c d : Nat} (hb : b < 4294967296) (hd : d < 4294967296) :
    (quarterN a b c d).1 < 4294967296 ∧ (quarterN a b c d).2.1 < 4294967296 ∧ (quarterN a b c d).2.2.1 < 4294967296 ∧ (quarterN a b c d).2.2.2 < 4294967296 := by
  have m : ∀ x : Nat, x % 4294967296 < 4294967296 := fun x => Nat.mod_lt _ (by decide)
  have r : ∀ {x y : Nat} (k : Nat), x < 4294967296 → y < 4294967296 → k ≤ 32 → rolN (x ^^^ y) k < 4294967296 := fun k hx hy hk => rolN_lt _ k (xor_lt hx hy) hk
  exact ⟨m _, r 7 (r 12 hb (m _) (by omega)) (m _) (by omega), m _, r 8 (r 16 hd (m _) (by omega)) (m _) (by omega)⟩
/-- The chapter's example. -/
theorem quarterN_example : quarterN 0x11111111 0x01020304 0x9b8d6f43 0x01234567 = (0xea2a92f4, 0xcb1cf8ce, 0x4581472e, 0x5881c4bb) := by kernel_rfl

/-- A quarter over four places of a state. -/
def quarterAt (x : List Nat) (i j k l : Nat) : List Nat :=
  let q := quarterN (x.getD i 0) (x.getD j 0) (x.getD k 0) (x.getD l 0)
  (((x.set i q.1).set j q.2.1).set k q.2.2.1).set l q.2.2.2
@[simp] theorem quarterAt_length (x : List Nat) (i j k l : Nat) : (quarterAt x i j k l).length = x.length := by simp [quarterAt]
theorem quarterAt_lt {x : List Nat} (h : ∀ z ∈ x, z < 4294967296) (i j k l : Nat) : ∀ z ∈ quarterAt x i j k l, z < 4294967296 := by
  have g := fun n => all_getD (l := x) (N := 4294967296) (by decide) h n
  have q := quarterN_lt (a := x.getD i 0) (c := x.getD k 0) (g j) (g l)
  intro z hz
  rcases List.mem_or_eq_of_mem_set hz with hz | rfl
  · rcases List.mem_or_eq_of_mem_set hz with hz | rfl
    · rcases List.mem_or_eq_of_mem_set hz with hz | rfl
      · rcases List.mem_or_eq_of_mem_set hz with hz | rfl
        · exact h z hz
        · exact q.1
      · exact q.2.1
    · exact q.2.2.1
  · exact q.2.2.2

/-- Four columns, of which the first k are done; four diagonals likewise. -/
def colsN (x : List Nat) : Nat → List Nat
  | 0 => x
  | k + 1 => quarterAt (colsN x k) k (4 + k) (8 + k) (12 + k)
def diagsN (x : List Nat) : Nat → List Nat
  | 0 => x
  | k + 1 => quarterAt (diagsN x k) k (4 + (k + 1) % 4) (8 + (k + 2) % 4) (12 + (k + 3) % 4)
def doublesN (x : List Nat) : Nat → List Nat
  | 0 => x
  | k + 1 => diagsN (colsN (doublesN x k) 4) 4
@[simp] theorem colsN_length (x : List Nat) : ∀ k, (colsN x k).length = x.length
  | 0 => rfl
  | k + 1 => by rw [colsN, quarterAt_length, colsN_length x k]
@[simp] theorem diagsN_length (x : List Nat) : ∀ k, (diagsN x k).length = x.length
  | 0 => rfl
  | k + 1 => by rw [diagsN, quarterAt_length, diagsN_length x k]
@[simp] theorem doublesN_length (x : List Nat) : ∀ k, (doublesN x k).length = x.length
  | 0 => rfl
  | k + 1 => by rw [doublesN, diagsN_length, colsN_length, doublesN_length x k]
theorem colsN_lt {x : List Nat} (h : ∀ z ∈ x, z < 4294967296) : ∀ k, ∀ z ∈ colsN x k, z < 4294967296
  | 0 => h
  | k + 1 => by rw [colsN]; exact quarterAt_lt (colsN_lt h k) _ _ _ _
theorem diagsN_lt {x : List Nat} (h : ∀ z ∈ x, z < 4294967296) : ∀ k, ∀ z ∈ diagsN x k, z < 4294967296
  | 0 => h
  | k + 1 => by rw [diagsN]; exact quarterAt_lt (diagsN_lt h k) _ _ _ _
theorem doublesN_lt {x : List Nat} (h : ∀ z ∈ x, z < 4294967296) : ∀ k, ∀ z ∈ doublesN x k, z < 4294967296
  | 0 => h
  | k + 1 => by rw [doublesN]; exact diagsN_lt (colsN_lt (doublesN_lt h k) 4) 4

/-- A word, the lowest byte ahead. -/
def wordL (bs : List Nat) (i : Nat) : Nat := wordB (bs.getD (4 * i + 3) 0) (bs.getD (4 * i + 2) 0) (bs.getD (4 * i + 1) 0) (bs.getD (4 * i) 0)
def wordsLow (bs : List Nat) (k : Nat) : List Nat := (List.range k).map (wordL bs)
@[simp] theorem wordsLow_length (bs : List Nat) (k : Nat) : (wordsLow bs k).length = k := by simp [wordsLow]
theorem wordsLow_lt {bs : List Nat} (h : ∀ z ∈ bs, z < 256) (k : Nat) : ∀ z ∈ wordsLow bs k, z < 4294967296 := fun z hz => by
  obtain ⟨i, _, rfl⟩ := List.mem_map.1 hz
  exact wordB_lt (all_getD (by decide) h _) (all_getD (by decide) h _) (all_getD (by decide) h _) (all_getD (by decide) h _)

/-- The state at first. -/
def stateN (key : List Nat) (c : Nat) (nonce : List Nat) : List Nat := [0x61707865, 0x3320646e, 0x79622d32, 0x6b206574] ++ wordsLow key 8 ++ [c] ++ wordsLow nonce 3
@[simp] theorem stateN_length (key : List Nat) (c : Nat) (nonce : List Nat) : (stateN key c nonce).length = 16 := by simp [stateN]
theorem stateN_lt {key nonce : List Nat} {c : Nat} (hk : ∀ z ∈ key, z < 256) (hc : c < 4294967296) (hn : ∀ z ∈ nonce, z < 256) : ∀ z ∈ stateN key c nonce, z < 4294967296 := fun z hz => by
  simp only [stateN, List.mem_append] at hz
  rcases hz with ((hz | hz) | hz) | hz
  · simp at hz; omega
  · exact wordsLow_lt hk 8 z hz
  · simp at hz; omega
  · exact wordsLow_lt hn 3 z hz

/-- The bytes of words, the lowest ahead. -/
def lowBytes (ws : List Nat) : List Nat := (List.range (4 * ws.length)).map fun j => ws.getD (j / 4) 0 / 256 ^ (j % 4) % 256
@[simp] theorem lowBytes_length (ws : List Nat) : (lowBytes ws).length = 4 * ws.length := by simp [lowBytes]
theorem lowBytes_lt (ws : List Nat) : ∀ z ∈ lowBytes ws, z < 256 := fun z hz => by
  obtain ⟨i, _, rfl⟩ := List.mem_map.1 hz
  exact Nat.mod_lt _ (by decide)
def addN (x s : List Nat) : List Nat := (List.range 16).map fun i => (x.getD i 0 + s.getD i 0) % 4294967296
@[simp] theorem addN_length (x s : List Nat) : (addN x s).length = 16 := by simp [addN]

/-- A block. -/
def blockN (key : List Nat) (c : Nat) (nonce : List Nat) : List Nat := lowBytes (addN (doublesN (stateN key c nonce) 10) (stateN key c nonce))
@[simp] theorem blockN_length (key : List Nat) (c : Nat) (nonce : List Nat) : (blockN key c nonce).length = 64 := by simp [blockN]
theorem blockN_lt (key : List Nat) (c : Nat) (nonce : List Nat) : ∀ z ∈ blockN key c nonce, z < 256 := lowBytes_lt _
/-- RFC 8439, 2.3.2. -/
theorem blockN_example : blockN (List.range 32) 1 [0, 0, 0, 9, 0, 0, 0, 0x4a, 0, 0, 0, 0] =
    [0x10, 0xf1, 0xe7, 0xe4, 0xd1, 0x3b, 0x59, 0x15, 0x50, 0x0f, 0xdd, 0x1f, 0xa3, 0x20, 0x71, 0xc4, 0xc7, 0xd1, 0xf4, 0xc7, 0x33, 0xc0, 0x68, 0x03, 0x04, 0x22, 0xaa, 0x9a, 0xc3, 0xd4, 0x6c, 0x4e,
     0xd2, 0x82, 0x64, 0x46, 0x07, 0x9f, 0xaa, 0x09, 0x14, 0xc2, 0xd7, 0x05, 0xd9, 0x8b, 0x02, 0xa2, 0xb5, 0x12, 0x9c, 0xd1, 0xde, 0x16, 0x4e, 0xb9, 0xcb, 0xd0, 0x83, 0xe8, 0xa2, 0x50, 0x3c, 0x4e] := by kernel_rfl

/-- A text, turned by blocks K 0, K 1, .. -/
def turnN (K : Nat → List Nat) (b : List Nat) : List Nat := (List.range b.length).map fun j => b.getD j 0 ^^^ (K (j / 64)).getD (j % 64) 0
@[simp] theorem turnN_length (K : Nat → List Nat) (b : List Nat) : (turnN K b).length = b.length := by simp [turnN]
theorem turnN_at (K : Nat → List Nat) (b : List Nat) {j : Nat} (h : j < b.length) : (turnN K b)[j]? = some (b.getD j 0 ^^^ (K (j / 64)).getD (j % 64) 0) := by simp [turnN, h]
theorem turnN_lt {K : Nat → List Nat} {b : List Nat} (hK : ∀ i, ∀ z ∈ K i, z < 256) (hb : ∀ z ∈ b, z < 256) : ∀ z ∈ turnN K b, z < 256 := fun z hz => by
  obtain ⟨i, _, rfl⟩ := List.mem_map.1 hz
  exact Nat.xor_lt_two_pow (n := 8) (all_getD (by decide) hb _) (all_getD (by decide) (hK _) _)
/-- There and back. -/
theorem turnN_turnN (K : Nat → List Nat) (b : List Nat) : turnN K (turnN K b) = b := by
  apply List.ext_getElem?
  intro j
  by_cases h : j < b.length
  · rw [turnN_at K _ (by simpa using h), List.getD_eq_getElem?_getD, turnN_at K b h]
    simp [Nat.xor_assoc, h]
  · rw [List.getElem?_eq_none (by simp; omega), List.getElem?_eq_none (by omega)]
/-- A part from a multiple of 64 on. -/
theorem turnN_drop (K : Nat → List Nat) (b : List Nat) (n : Nat) : (turnN K b).drop (64 * n) = turnN (fun i => K (n + i)) (b.drop (64 * n)) := by
  apply List.ext_getElem?
  intro j
  rw [List.getElem?_drop]
  by_cases h : 64 * n + j < b.length
  · rw [turnN_at K b h, turnN_at _ _ (by simp; omega), show (64 * n + j) / 64 = n + j / 64 by omega, show (64 * n + j) % 64 = j % 64 by omega]
    simp
  · rw [List.getElem?_eq_none (by simp; omega), List.getElem?_eq_none (by simp; omega)]
theorem turnN_take (K : Nat → List Nat) (b : List Nat) (m : Nat) : (turnN K b).take m = turnN K (b.take m) := by
  apply List.ext_getElem?
  intro j
  rw [List.getElem?_take]
  by_cases h : j < m
  · rw [if_pos h]
    by_cases hb : j < b.length
    · rw [turnN_at K b hb, turnN_at K _ (by simp; omega)]
      simp [h]
    · rw [List.getElem?_eq_none (by simp; omega), List.getElem?_eq_none (by simp; omega)]
  · rw [if_neg h, List.getElem?_eq_none (by simp; omega)]
/-- One block ahead, the rest behind it. -/
theorem turnN_step (K : Nat → List Nat) (b : List Nat) : turnN K b = turnN K (b.take 64) ++ turnN (fun i => K (1 + i)) (b.drop 64) := by
  have h := turnN_drop K b 1
  rw [Nat.mul_one] at h
  rw [← turnN_take, ← h, List.take_append_drop]

/-- A text, turned by the blocks of a key, a counter and a nonce. -/
def streamN (key : List Nat) (c : Nat) (nonce b : List Nat) : List Nat := turnN (fun i => blockN key ((c + i) % 4294967296) nonce) b
@[simp] theorem streamN_length (key : List Nat) (c : Nat) (nonce b : List Nat) : (streamN key c nonce b).length = b.length := turnN_length _ _
theorem streamN_lt (key : List Nat) (c : Nat) (nonce : List Nat) {b : List Nat} (hb : ∀ z ∈ b, z < 256) : ∀ z ∈ streamN key c nonce b, z < 256 := turnN_lt (fun _ => blockN_lt _ _ _) hb
theorem streamN_back (key : List Nat) (c : Nat) (nonce b : List Nat) : streamN key c nonce (streamN key c nonce b) = b := turnN_turnN _ _
theorem streamN_drop (key : List Nat) (c : Nat) (nonce b : List Nat) (n : Nat) : (streamN key c nonce b).drop (64 * n) = streamN key ((c + n) % 4294967296) nonce (b.drop (64 * n)) := by
  have e : (fun i => blockN key ((c + (n + i)) % 4294967296) nonce) = fun i => blockN key (((c + n) % 4294967296 + i) % 4294967296) nonce := funext fun i => by rw [Nat.mod_add_mod, Nat.add_assoc]
  unfold streamN
  rw [turnN_drop, e]
end Go.Proofs.YtclelancbfoenaaGreatDoor.Re
