/-
  Numbers as bytes, seven bits each, the least first; and back. It names no program.
-/
import Derived.Test.YtfclbdlkpnoceaaBaseAll
namespace Go.Proofs.Ytfclbdlkpnoceaa
open Go Go.RowKit

/-- A number as bytes, at most as many as are told and one. -/
def encF : Nat → Nat → List Nat
  | 0, n => [n]
  | f + 1, n => if n < 128 then [n] else (n % 128 + 128) :: encF f (n / 128)
theorem encF_small (f : Nat) {n : Nat} (h : n < 128) : encF f n = [n] := by
  cases f with
  | zero => rfl
  | succ f => rw [encF, if_pos h]
theorem encF_same : ∀ (f g n : Nat), n ≤ f → n ≤ g → encF f n = encF g n := by
  intro f
  induction f with
  | zero => intro g n hf _; rw [encF_small 0 (by omega), encF_small g (by omega)]
  | succ f ih =>
    intro g n hf hg
    by_cases h : n < 128
    · rw [encF_small _ h, encF_small _ h]
    · cases g with
      | zero => omega
      | succ g => rw [encF, encF, if_neg h, if_neg h, ih g (n / 128) (by omega) (by omega)]

/-- A number as bytes. -/
def encN (n : Nat) : List Nat := encF n n

theorem encN_small {n : Nat} (h : n < 128) : encN n = [n] := encF_small n h
theorem encN_great {n : Nat} (h : ¬ n < 128) : encN n = (n % 128 + 128) :: encN (n / 128) := by
  obtain ⟨m, rfl⟩ : ∃ m, n = m + 1 := ⟨n - 1, by omega⟩
  rw [encN, encF, if_neg h, encN, encF_same m ((m + 1) / 128) ((m + 1) / 128) (by omega) (Nat.le_refl _)]
theorem encN_bytes (n : Nat) : ∀ z ∈ encN n, z < 256 := by
  induction n using Nat.strongRecOn with
  | ind n ih =>
    by_cases h : n < 128
    · rw [encN_small h]; simp; omega
    · rw [encN_great h]
      intro z hz
      rcases List.mem_cons.1 hz with rfl | hz
      · omega
      · exact ih (n / 128) (by omega) z hz
theorem encN_length (k : Nat) : ∀ (n : Nat), n < 128 ^ (k + 1) → (encN n).length ≤ k + 1 := by
  induction k with
  | zero => intro n h; rw [encN_small (by simpa using h)]; simp
  | succ k ih =>
    intro n h
    by_cases h1 : n < 128
    · rw [encN_small h1]; simp
    · rw [encN_great h1, List.length_cons]
      have := ih (n / 128) (by rw [Nat.div_lt_iff_lt_mul (by omega)]; rw [Nat.pow_succ] at h; exact h)
      omega
theorem encN_ten {n : Nat} (h : n < 18446744073709551616) : (encN n).length ≤ 10 := encN_length 9 n (Nat.lt_of_lt_of_le h (by decide))
theorem encN_pos (n : Nat) : 0 < (encN n).length := by
  by_cases h : n < 128
  · rw [encN_small h]; simp
  · rw [encN_great h]; simp

/-- The number that bytes begin with, and how many they are: c stands at place i, x came of the ones ahead. -/
def numL : List Nat → Nat → Nat → Option (Nat × Nat)
  | [], _, _ => none
  | c :: r, i, x => if i = 9 ∧ 1 < c then none else if 0 < i ∧ c = 0 then none else if c < 128 then some (x + c * 2 ^ (7 * i), i + 1) else numL r (i + 1) (x + (c - 128) * 2 ^ (7 * i))

theorem numL_nil (i x : Nat) : numL [] i x = none := rfl
theorem numL_over {c i : Nat} (r : List Nat) (x : Nat) (h : i = 9 ∧ 1 < c) : numL (c :: r) i x = none := by rw [numL, if_pos h]
theorem numL_nought {c i : Nat} (r : List Nat) (x : Nat) (h1 : ¬ (i = 9 ∧ 1 < c)) (h : 0 < i ∧ c = 0) : numL (c :: r) i x = none := by rw [numL, if_neg h1, if_pos h]
theorem numL_last {c i : Nat} (r : List Nat) (x : Nat) (h1 : ¬ (i = 9 ∧ 1 < c)) (h2 : ¬ (0 < i ∧ c = 0)) (h : c < 128) : numL (c :: r) i x = some (x + c * 2 ^ (7 * i), i + 1) := by rw [numL, if_neg h1, if_neg h2, if_pos h]
theorem numL_more {c i : Nat} (r : List Nat) (x : Nat) (h1 : ¬ (i = 9 ∧ 1 < c)) (h : ¬ c < 128) : numL (c :: r) i x = numL r (i + 1) (x + (c - 128) * 2 ^ (7 * i)) := by
  rw [numL, if_neg h1, if_neg (by omega), if_neg h]

theorem pow7 (i : Nat) : 2 ^ (7 * (i + 1)) = 128 * 2 ^ (7 * i) := by
  rw [Nat.mul_succ, Nat.pow_add, Nat.mul_comm]

/-- What was written is read. -/
theorem numL_enc (r : List Nat) : ∀ (n i x : Nat), n * 2 ^ (7 * i) < 18446744073709551616 → i ≤ 9 → (i = 0 ∨ 0 < n) → numL (encN n ++ r) i x = some (x + n * 2 ^ (7 * i), i + (encN n).length) := by
  intro n
  induction n using Nat.strongRecOn with
  | ind n ih =>
    intro i x hn hi h0
    have h9 : i = 9 → n ≤ 1 := by rintro rfl; omega
    by_cases h : n < 128
    · rw [encN_small h]
      exact numL_last _ _ (by omega) (by omega) h
    · rw [encN_great h, List.cons_append]
      have hd : n / 128 < n := by omega
      have hm := Nat.div_add_mod n 128
      have hm2 : n / 128 * 2 ^ (7 * (i + 1)) + n % 128 * 2 ^ (7 * i) = n * 2 ^ (7 * i) := by
        rw [pow7, ← Nat.mul_assoc, ← Nat.add_mul, Nat.mul_comm (n / 128) 128, hm]
      rw [numL_more _ _ (by omega) (by omega), ih (n / 128) hd (i + 1) _ (Nat.lt_of_le_of_lt (Nat.le.intro hm2) hn) (by omega) (.inr (by omega)), show n % 128 + 128 - 128 = n % 128 by omega, List.length_cons]
      congr 2
      · rw [← hm2, Nat.add_assoc, Nat.add_comm (n % 128 * 2 ^ (7 * i))]
      · omega
theorem numL_back (n : Nat) (hn : n < 18446744073709551616) (r : List Nat) : numL (encN n ++ r) 0 0 = some (n, (encN n).length) := by
  have h := numL_enc r n 0 0 (by simpa using hn) (by omega) (.inl rfl)
  simpa using h

/-- What is read is written as it stood. -/
theorem numL_once : ∀ (zs : List Nat) (i x y s : Nat), (∀ z ∈ zs, z < 256) → i ≤ 9 → numL zs i x = some (y, s) → ∃ n k, y = x + n * 2 ^ (7 * i) ∧ s = i + k ∧ k ≤ zs.length ∧ 0 < k ∧ zs.take k = encN n ∧ (i = 0 ∨ 0 < n) ∧ n * 2 ^ (7 * i) < 18446744073709551616
  | [], _, _, _, _, _, _, h => by cases h
  | c :: r, i, x, y, s, hz, hi, h => by
    have hc : c < 256 := hz c List.mem_cons_self
    by_cases h1 : i = 9 ∧ 1 < c
    · rw [numL_over _ _ h1] at h; cases h
    by_cases h2 : 0 < i ∧ c = 0
    · rw [numL_nought _ _ h1 h2] at h; cases h
    have hp : i ≤ 8 → 2 ^ (7 * i) ≤ 2 ^ 56 := fun h8 => Nat.pow_le_pow_right (by omega) (by omega)
    by_cases h3 : c < 128
    · rw [numL_last _ _ h1 h2 h3] at h
      cases h
      refine ⟨c, 1, rfl, rfl, by simp, by omega, by rw [encN_small h3]; simp, by omega, ?_⟩
      by_cases h9 : i = 9
      · subst h9; omega
      · have h8 := hp (by omega)
        calc c * 2 ^ (7 * i) ≤ 127 * 2 ^ 56 := Nat.mul_le_mul (by omega) h8
          _ < _ := by decide
    · rw [numL_more _ _ h1 h3] at h
      have hi9 : i ≠ 9 := by omega
      obtain ⟨n, k, hy, hs, hk, hk0, ht, hn, hb⟩ := numL_once r (i + 1) _ y s (fun z h => hz z (List.mem_cons_of_mem _ h)) (by omega) h
      have hn0 : 0 < n := by omega
      have hmul : (n * 128 + (c - 128)) * 2 ^ (7 * i) = n * 2 ^ (7 * (i + 1)) + (c - 128) * 2 ^ (7 * i) := by
        rw [Nat.add_mul, pow7, Nat.mul_assoc]
      refine ⟨n * 128 + (c - 128), k + 1, by rw [hmul]; omega, by omega, by simp; omega, by omega, ?_, .inr (by omega), ?_⟩
      · rw [encN_great (by omega), List.take_succ_cons, ht]
        congr 2 <;> omega
      · rw [hmul]
        obtain ⟨m, hm⟩ : ∃ m, m = 2 ^ (7 * (i + 1)) := ⟨_, rfl⟩
        have h64 : 18446744073709551616 = 2 ^ (7 * (i + 1)) * 2 ^ (64 - 7 * (i + 1)) := by
          rw [← Nat.pow_add, show 7 * (i + 1) + (64 - 7 * (i + 1)) = 64 by omega]
        have hlt : (c - 128) * 2 ^ (7 * i) < 2 ^ (7 * (i + 1)) := by
          rw [pow7]
          exact Nat.mul_lt_mul_of_pos_right (by omega) (Nat.pow_pos (by omega))
        have hnM : n < 2 ^ (64 - 7 * (i + 1)) := by
          rw [h64, Nat.mul_comm] at hb
          exact Nat.lt_of_mul_lt_mul_left hb
        have hle : (n + 1) * 2 ^ (7 * (i + 1)) ≤ 2 ^ (64 - 7 * (i + 1)) * 2 ^ (7 * (i + 1)) := Nat.mul_le_mul_right _ (by omega)
        rw [h64, Nat.mul_comm (2 ^ (7 * (i + 1)))]
        rw [Nat.add_mul, Nat.one_mul] at hle
        omega

/-- What a number's bytes are bounded by. -/
theorem numL_size {zs : List Nat} {y s : Nat} (hz : ∀ z ∈ zs, z < 256) (h : numL zs 0 0 = some (y, s)) : 0 < s ∧ s ≤ zs.length ∧ y < 18446744073709551616 ∧ zs.take s = encN y := by
  obtain ⟨n, k, hy, hs, hk, hk0, ht, _, hb⟩ := numL_once zs 0 0 y s hz (by omega) h
  simp at hy hb hs
  subst hy hs
  exact ⟨hk0, hk, hb, ht⟩

/-- What a reader has ahead, or that it has failed; what it answers, and what is then ahead. -/
def readN (most : Nat) : Option (List Nat) → Nat × Option (List Nat)
  | none => (0, none)
  | some zs => match numL zs 0 0 with
    | none => (0, none)
    | some (x, s) => if most < x then (0, none) else (x, some (zs.drop s))
def readRaw (z : Int) : Option (List Nat) → List Nat × Option (List Nat)
  | none => ([], none)
  | some zs => if z < 0 ∨ (zs.length : Int) < z then ([], none) else (zs.take z.toNat, some (zs.drop z.toNat))
/-- n ids of 32 bytes. -/
def idsOf (zs : List Nat) (n : Nat) : List (List Nat) := (List.range n).map fun j => (zs.drop (32 * j)).take 32
theorem idsOf_length (zs : List Nat) (n : Nat) : (idsOf zs n).length = n := by simp [idsOf]
theorem idsOf_succ (zs : List Nat) (n : Nat) : idsOf zs (n + 1) = idsOf zs n ++ [(zs.drop (32 * n)).take 32] := by simp [idsOf, List.range_succ]
def restN : Option (List Nat) → Nat
  | none => 0
  | some zs => zs.length
def readCount (z : Int) (st : Option (List Nat)) : Nat × Option (List Nat) := if z < 0 then (0, none) else readN z.toNat st
def readText (z : Int) (st : Option (List Nat)) : List Nat × Option (List Nat) := readRaw (readCount z st).1 (readCount z st).2
def takeIds (n : Nat) : Option (List Nat) → List (List Nat) × Option (List Nat)
  | none => ([], none)
  | some zs => if zs.length / 32 < n then ([], none) else (idsOf zs n, some (zs.drop (32 * n)))
def readIds (z : Int) (st : Option (List Nat)) : List (List Nat) × Option (List Nat) := takeIds (readCount z st).1 (readCount z st).2
def endE : Option (List Nat) → Int
  | none => 80
  | some zs => if 0 < zs.length then 80 else 0

end Go.Proofs.Ytfclbdlkpnoceaa
