/-
  Several texts in one: Enc, App, Wr.
-/
import Derived.Test.YtlmfdifnkkdpfaaBaseAll
/-
  Numbers as bytes, seven bits each, the least first; and back. It names no program.
-/
namespace Go.Proofs.Ytlmfdifnkkdpfaa
open Go Go.RowKit

/-- A number as bytes, at most as many as are told and one. -/
def encF : Nat → Nat → List Nat
  | 0, n => [n]
  | f + 1, n => if n < 128 then [n] else (n % 128 + 128) :: encF f (n / 128)
theorem encF_small (f : Nat) {n : Nat} (h : n < 128) : encF f n = [n] := by
  cases f with
  | zero => rfl
  | succ f => rw [encF, if_pos h]
theorem encF_same : ∀ (f g n : Nat), n ≤ f → n ≤ g → encF f n = encF g n := by
  intro f
  induction f with
  | zero => intro g n hf _; rw [encF_small 0 (by omega), encF_small g (by omega)]
  | succ f ih =>
    intro g n hf hg
    by_cases h : n < 128
    · rw [encF_small _ h, encF_small _ h]
    · cases g with
      | zero => omega
      | succ g => rw [encF, encF, if_neg h, if_neg h, ih g (n / 128) (by omega) (by omega)]

/-- A number as bytes. -/
def encN (n : Nat) : List Nat := encF n n

theorem encN_small {n : Nat} (h : n < 128) : encN n = [n] := encF_small n h
theorem encN_great {n : Nat} (h : ¬ n < 128) : encN n = (n % 128 + 128) :: encN (n / 128) := by
  obtain ⟨m, rfl⟩ : ∃ m, n = m + 1 := ⟨n - 1, by omega⟩
  rw [encN, encF, if_neg h, encN, encF_same m ((m + 1) / 128) ((m + 1) / 128) (by omega) (Nat.le_refl _)]
theorem encN_bytes (n : Nat) : ∀ z ∈ encN n, z < 256 := by
  induction n using Nat.strongRecOn with
  | ind n ih =>
    by_cases h : n < 128
    · rw [encN_small h]; simp; omega
    · rw [encN_great h]
      intro z hz
      rcases List.mem_cons.1 hz with rfl | hz
      · omega
      · exact ih (n / 128) (by omega) z hz
theorem encN_length (k : Nat) : ∀ (n : Nat), n < 128 ^ (k + 1) → (encN n).length ≤ k + 1 := by
  induction k with
  | zero => intro n h; rw [encN_small (by simpa using h)]; simp
  | succ k ih =>
    intro n h
    by_cases h1 : n < 128
    · rw [encN_small h1]; simp
    · rw [encN_great h1, List.length_cons]
      have := ih (n / 128) (by rw [Nat.div_lt_iff_lt_mul (by omega)]; rw [Nat.pow_succ] at h; exact h)
      omega
theorem encN_ten {n : Nat} (h : n < 18446744073709551616) : (encN n).length ≤ 10 := encN_length 9 n (Nat.lt_of_lt_of_le h (by decide))
theorem encN_pos (n : Nat) : 0 < (encN n).length := by
  by_cases h : n < 128
  · rw [encN_small h]; simp
  · rw [encN_great h]; simp

/-- The number that bytes begin with, and how many they are: c stands at place i, x came of the ones ahead. -/
def numL : List Nat → Nat → Nat → Option (Nat × Nat)
  | [], _, _ => none
  | c :: r, i, x => if i = 9 ∧ 1 < c then none else if 0 < i ∧ c = 0 then none else if c < 128 then some (x + c * 2 ^ (7 * i), i + 1) else numL r (i + 1) (x + (c - 128) * 2 ^ (7 * i))

theorem numL_nil (i x : Nat) : numL [] i x = none := rfl
theorem numL_over {c i : Nat} (r : List Nat) (x : Nat) (h : i = 9 ∧ 1 < c) : numL (c :: r) i x = none := by rw [numL, if_pos h]
theorem numL_nought {c i : Nat} (r : List Nat) (x : Nat) (h1 : ¬ (i = 9 ∧ 1 < c)) (h : 0 < i ∧ c = 0) : numL (c :: r) i x = none := by rw [numL, if_neg h1, if_pos h]
theorem numL_last {c i : Nat} (r : List Nat) (x : Nat) (h1 : ¬ (i = 9 ∧ 1 < c)) (h2 : ¬ (0 < i ∧ c = 0)) (h : c < 128) : numL (c :: r) i x = some (x + c * 2 ^ (7 * i), i + 1) := by rw [numL, if_neg h1, if_neg h2, if_pos h]
theorem numL_more {c i : Nat} (r : List Nat) (x : Nat) (h1 : ¬ (i = 9 ∧ 1 < c)) (h : ¬ c < 128) : numL (c :: r) i x = numL r (i + 1) (x + (c - 128) * 2 ^ (7 * i)) := by
  rw [numL, if_neg h1, if_neg (by omega), if_neg h]

theorem pow7 (i : Nat) : 2 ^ (7 * (i + 1)) = 128 * 2 ^ (7 * i) := by
  rw [Nat.mul_succ, Nat.pow_add, Nat.mul_comm]

/-- What was written is read. -/
theorem numL_enc (r : List Nat) : ∀ (n i x : Nat), n * 2 ^ (7 * i) < 18446744073709551616 → i ≤ 9 → (i = 0 ∨ 0 < n) → numL (encN n ++ r) i x = some (x + n * 2 ^ (7 * i), i + (encN n).length) := by
  intro n
  induction n using Nat.strongRecOn with
  | ind n ih =>
    intro i x hn hi h0
    have h9 : i = 9 → n ≤ 1 := by rintro rfl; omega
    by_cases h : n < 128
    · rw [encN_small h]
      exact numL_last _ _ (by omega) (by omega) h
    · rw [encN_great h, List.cons_append]
      have hd : n / 128 < n := by omega
      have hm := Nat.div_add_mod n 128
      have hm2 : n / 128 * 2 ^ (7 * (i + 1)) + n % 128 * 2 ^ (7 * i) = n * 2 ^ (7 * i) := by
        rw [pow7, ← Nat.mul_assoc, ← Nat.add_mul, Nat.mul_comm (n / 128) 128, hm]
      rw [numL_more _ _ (by omega) (by omega), ih (n / 128) hd (i + 1) _ (Nat.lt_of_le_of_lt (Nat.le.intro hm2) hn) (by omega) (.inr (by omega)), show n % 128 + 128 - 128 = n % 128 by omega, List.length_cons]
      congr 2
      · rw [← hm2, Nat.add_assoc, Nat.add_comm (n % 128 * 2 ^ (7 * i))]
      · omega
theorem numL_back (n : Nat) (hn : n < 18446744073709551616) (r : List Nat) : numL (encN n ++ r) 0 0 = some (n, (encN n).length) := by
  have h := numL_enc r n 0 0 (by simpa using hn) (by omega) (.inl rfl)
  simpa using h

/-- What is read is written as it stood. -/
theorem numL_once : ∀ (zs : List Nat) (i x y s : Nat), (∀ z ∈ zs, z < 256) → i ≤ 9 → numL zs i x = some (y, s) → ∃ n k, y = x + n * 2 ^ (7 * i) ∧ s = i + k ∧ k ≤ zs.length ∧ 0 < k ∧ zs.take k = encN n ∧ (i = 0 ∨ 0 < n) ∧ n * 2 ^ (7 * i) < 18446744073709551616
  | [], _, _, _, _, _, _, h => by cases h
  | c :: r, i, x, y, s, hz, hi, h => by
    have hc : c < 256 := hz c List.mem_cons_self
    by_cases h1 : i = 9 ∧ 1 < c
    · rw [numL_over _ _ h1] at h; cases h
    by_cases h2 : 0 < i ∧ c = 0
    · rw [numL_nought _ _ h1 h2] at h; cases h
    have hp : i ≤ 8 → 2 ^ (7 * i) ≤ 2 ^ 56 := fun h8 => Nat.pow_le_pow_right (by omega) (by omega)
    by_cases h3 : c < 128
    · rw [numL_last _ _ h1 h2 h3] at h
      cases h
      refine ⟨c, 1, rfl, rfl, by simp, by omega, by rw [encN_small h3]; simp, by omega, ?_⟩
      by_cases h9 : i = 9
      · subst h9; omega
      · have h8 := hp (by omega)
        calc c * 2 ^ (7 * i) ≤ 127 * 2 ^ 56 := Nat.mul_le_mul (by omega) h8
          _ < _ := by decide
    · rw [numL_more _ _ h1 h3] at h
      have hi9 : i ≠ 9 := by omega
      obtain ⟨n, k, hy, hs, hk, hk0, ht, hn, hb⟩ := numL_once r (i + 1) _ y s (fun z h => hz z (List.mem_cons_of_mem _ h)) (by omega) h
      have hn0 : 0 < n := by omega
      have hmul : (n * 128 + (c - 128)) * 2 ^ (7 * i) = n * 2 ^ (7 * (i + 1)) + (c - 128) * 2 ^ (7 * i) := by
        rw [Nat.add_mul, pow7, Nat.mul_assoc]
      refine ⟨n * 128 + (c - 128), k + 1, by rw [hmul]; omega, by omega, by simp; omega, by omega, ?_, .inr (by omega), ?_⟩
      · rw [encN_great (by omega), List.take_succ_cons, ht]
        congr 2 <;> omega
      · rw [hmul]
        obtain ⟨m, hm⟩ : ∃ m, m = 2 ^ (7 * (i + 1)) := ⟨_, rfl⟩
        have h64 : 18446744073709551616 = 2 ^ (7 * (i + 1)) * 2 ^ (64 - 7 * (i + 1)) := by
          rw [← Nat.pow_add, show 7 * (i + 1) + (64 - 7 * (i + 1)) = 64 by omega]
        have hlt : (c - 128) * 2 ^ (7 * i) < 2 ^ (7 * (i + 1)) := by
          rw [pow7]
          exact Nat.mul_lt_mul_of_pos_right (by omega) (Nat.pow_pos (by omega))
        have hnM : n < 2 ^ (64 - 7 * (i + 1)) := by
          rw [h64, Nat.mul_comm] at hb
          exact Nat.lt_of_mul_lt_mul_left hb
        have hle : (n + 1) * 2 ^ (7 * (i + 1)) ≤ 2 ^ (64 - 7 * (i + 1)) * 2 ^ (7 * (i + 1)) := Nat.mul_le_mul_right _ (by omega)
        rw [h64, Nat.mul_comm (2 ^ (7 * (i + 1)))]
        rw [Nat.add_mul, Nat.one_mul] at hle
        omega

/-- What a number's bytes are bounded by. -/
theorem numL_size {zs : List Nat} {y s : Nat} (hz : ∀ z ∈ zs, z < 256) (h : numL zs 0 0 = some (y, s)) : 0 < s ∧ s ≤ zs.length ∧ y < 18446744073709551616 ∧ zs.take s = encN y := by
  obtain ⟨n, k, hy, hs, hk, hk0, ht, _, hb⟩ := numL_once zs 0 0 y s hz (by omega) h
  simp at hy hb hs
  subst hy hs
  exact ⟨hk0, hk, hb, ht⟩

/-- What a reader has ahead, or that it has failed; what it answers, and what is then ahead. -/
def readN (most : Nat) : Option (List Nat) → Nat × Option (List Nat)
  | none => (0, none)
  | some zs => match numL zs 0 0 with
    | none => (0, none)
    | some (x, s) => if most < x then (0, none) else (x, some (zs.drop s))
def readRaw (z : Int) : Option (List Nat) → List Nat × Option (List Nat)
  | none => ([], none)
  | some zs => if z < 0 ∨ (zs.length : Int) < z then ([], none) else (zs.take z.toNat, some (zs.drop z.toNat))
/-- n ids of 32 bytes. -/
def idsOf (zs : List Nat) (n : Nat) : List (List Nat) := (List.range n).map fun j => (zs.drop (32 * j)).take 32
theorem idsOf_length (zs : List Nat) (n : Nat) : (idsOf zs n).length = n := by simp [idsOf]
theorem idsOf_succ (zs : List Nat) (n : Nat) : idsOf zs (n + 1) = idsOf zs n ++ [(zs.drop (32 * n)).take 32] := by simp [idsOf, List.range_succ]
def restN : Option (List Nat) → Nat
  | none => 0
  | some zs => zs.length
def readCount (z : Int) (st : Option (List Nat)) : Nat × Option (List Nat) := if z < 0 then (0, none) else readN z.toNat st
def readText (z : Int) (st : Option (List Nat)) : List Nat × Option (List Nat) := readRaw (readCount z st).1 (readCount z st).2
def takeIds (n : Nat) : Option (List Nat) → List (List Nat) × Option (List Nat)
  | none => ([], none)
  | some zs => if zs.length / 32 < n then ([], none) else (idsOf zs n, some (zs.drop (32 * n)))
def readIds (z : Int) (st : Option (List Nat)) : List (List Nat) × Option (List Nat) := takeIds (readCount z st).1 (readCount z st).2
def endE : Option (List Nat) → Int
  | none => 80
  | some zs => if 0 < zs.length then 80 else 0

end Go.Proofs.Ytlmfdifnkkdpfaa
/-
  What codec.appendNumber and the reference's N make: a row of bytes with a number behind it.
-/
namespace Go.Proofs.Ytlmfdifnkkdpfaa
open Go.RowKit

theorem or128_all : ∀ r : Fin 256, bits .or .u8 ((r.1 : Nat) : Int) 128 = ((r.1 % 128 + 128 : Nat) : Int) := by decide +kernel
theorem or128 (m : Nat) : bits .or .u8 ((m : Int) % 256) 128 = ((m % 128 + 128 : Nat) : Int) := by
  have h := or128_all ⟨m % 256, by omega⟩
  simp only at h
  rw [show ((m : Int) % 256) = ((m % 256 : Nat) : Int) by omega, h]
  omega
theorem own_any_slice {W : World} {n₀ : Nat} {v : Value} {zs : List Nat} (h : Own n₀ W v zs) : ∃ q k c, v = .slice q k c := by obtain ⟨q, c, e⟩ := h.slice; exact ⟨q, _, c, e⟩
/-- Blocks that bear a mark are kept. -/
def KeepF (A B : World) : Prop := ∀ (k : Nat) (c : Array Value) (t : TypeId) (fr : Nat × Nat), fr ≠ (0, 0) → A.heap[k]? = some (Obj.cells c t fr) → B.heap[k]? = some (Obj.cells c t fr)
theorem KeepF.refl (A : World) : KeepF A A := fun _ _ _ _ _ h => h
theorem KeepF.trans {A B C : World} (h : KeepF A B) (k : KeepF B C) : KeepF A C := fun i c t fr hf hi => k i c t fr hf (h i c t fr hf hi)
theorem KeepF.of_below {A B : World} (h : Below A.heap.size A B) : KeepF A B := fun k _ _ _ _ hk => (h.block k (Array.getElem?_eq_some_iff.1 hk).1).trans hk
theorem KeepF.row {e : TypeId} {A B : World} {n₀ : Nat} {size : Nat} {v : Value} {n : Nat} {xs : List Value} (hg : A.grownBy B v.ownBlock) (h : A.ownsRow n₀ e size v n xs) : KeepF A B := fun k c t fr hf hk => by
  refine (hg.block k (Array.getElem?_eq_some_iff.1 hk).1 (fun e' => ?_)).trans hk
  rcases h.2 with ⟨rfl, _⟩ | ⟨g, cap, cur, rfl, _, hgb, _⟩
  · simp [Value.ownBlock] at e'
  · simp [Value.ownBlock] at e'
    subst e'
    rw [hk] at hgb
    cases hgb
    exact hf rfl
/-- All blocks but rows of bytes, and all that bear a mark. -/
def Keep5 (A B : World) : Prop := (∀ t, t ≠ 5 → KeepT t A B) ∧ KeepF A B
theorem Keep5.refl (A : World) : Keep5 A A := ⟨fun _ _ _ _ _ h => h, KeepF.refl A⟩
theorem Keep5.row {A B : World} {n₀ : Nat} {size : Nat} {v : Value} {n : Nat} {xs : List Value} (hg : A.grownBy B v.ownBlock) (h : A.ownsRow n₀ 5 size v n xs) : Keep5 A B := ⟨fun _ ht => KeepT.row hg h (Ne.symm ht), KeepF.row hg h⟩
theorem app_keep {n₀ : Nat} {a : World} {wr w' : World} {v : Value} {zs : List Nat} {o : Obj} (h : Keep5 a wr) (ho : Own n₀ (wr.alloc o) v zs) (hg : (wr.alloc o).grownBy w' v.ownBlock) : Hid (Keep5 a w') :=
  ⟨fun t ht => ((h.1 t ht).trans (KeepT.alloc _ _)).trans (KeepT.row hg ho (Ne.symm ht)), (h.2.trans (KeepF.of_below ((Below.refl _ wr).alloc (Nat.le_refl _) _))).trans (KeepF.row hg ho)⟩
theorem app_one {n₀ : Nat} {a : World} {wr w' : World} {v : Value} {zs : List Nat} {o : Obj} (h : Below n₀ a wr) (hn : n₀ ≤ wr.heap.size) (ho : Own n₀ (wr.alloc o) v zs) (hg : (wr.alloc o).grownBy w' v.ownBlock) : Below n₀ a w' :=
  below_own (h.alloc hn o) (by simp; omega) ho hg

set_option maxHeartbeats 1000000 in
theorem appendNumber_any (n₀ : Nat) (v : Value) (zs : List Nat) (x : Nat) (w : World) (hx : x < 18446744073709551616) (ho : Own n₀ w v zs) (hn : n₀ ≤ w.heap.size) (hlen : zs.length ≤ 900000) :
    Calls Try.prog 64 #[v, .int .u64 (x : Nat)] w fun e w' => ∃ v', e = .returned v' ∧ Own n₀ w' v' (zs ++ encN x) ∧ Below n₀ w w' ∧ Keep5 w w' := by
  have HO : Hid (Own n₀ w v zs) := ho
  have HL : Hid ((zs ++ encN x).length ≤ 900010) := by
    show _ ≤ _
    have := encN_ten hx
    rw [List.length_append]
    omega
  obtain ⟨q0, c0, rfl⟩ := ho.slice
  clear ho
  go_enter Try.func64, Try.ntmps64
  go_wp2
  go_loopw [0, 1] (fun a y wr => ∃ (m : Nat) (ys : List Nat) (q : Option Addr) (k c : Nat), a = .slice q k c ∧ y = .int .u64 (m : Nat) ∧ m ≤ x ∧ ys ++ encN m = zs ++ encN x ∧ Own n₀ wr (.slice q k c) ys ∧ Below n₀ w wr ∧ Keep5 w wr) (fun _ y _ => (intOf y).toNat)
  case atStart => exact ⟨x, zs, _, _, _, rfl, rfl, Nat.le_refl _, rfl, HO.out, Below.refl _ _, Keep5.refl _⟩
  case round =>
    obtain ⟨m, ys, q, k, c, rfl, rfl, hm, he, hown, hbel, hkt⟩ := hrel
    have HKt : Hid (Keep5 w wr) := hkt
    clear hkt
    have hsz := hbel.size
    have HE : Hid (ys ++ encN m = zs ++ encN x) := he
    have HOwn : Hid (Own n₀ wr (.slice q k c) ys) := hown
    have HYs : Hid (ys.length + 1 ≤ 1000000) := by
      show _ ≤ _
      have h1 := congrArg List.length he
      have h2 := HL.out
      have h3 := encN_pos m
      rw [List.length_append] at h1
      omega
    clear he hown
    by_cases h : m < 128
    · have h1 : ¬ (128 : Int) ≤ (m : Int) := by omega
      have h2 : (m : Int) % 256 = ((m : Nat) : Int) := by omega
      go_wp2_with (at_builtin; refine wpList_append_bytes rfl _ _ rfl n₀ (.slice q k c) ys rfl (HOwn.out.alloc _) rfl (bytes_one wr m (by omega)) HYs.out (by simp; omega) ?_; intro u2 w2 hown2 hgrow2; have hb2 := app_one hbel (by omega) (HOwn.out.alloc _) hgrow2; have HK2 := app_keep HKt.out (HOwn.out.alloc _) hgrow2; clear hgrow2)
      go_ret
      refine ⟨_, rfl, ?_, hb2, HK2.out⟩
      rw [← HE.out, encN_small h]
      exact hown2
    · have h1 : (128 : Int) ≤ (m : Int) := by omega
      have h2 := or128 m
      go_wp2_with (at_builtin; refine wpList_append_bytes rfl _ _ rfl n₀ (.slice q k c) ys rfl (HOwn.out.alloc _) rfl (bytes_one wr (m % 128 + 128) (by omega)) HYs.out (by simp; omega) ?_; intro u2 w2 hown2 hgrow2; have hb2 := app_one hbel (by omega) (HOwn.out.alloc _) hgrow2; have HK2 := app_keep HKt.out (HOwn.out.alloc _) hgrow2; clear hgrow2; obtain ⟨q2, k2, c2, hu2⟩ := own_any_slice hown2; subst hu2)
      go_roundw
      case rel =>
        refine ⟨m / 128, _, q2, _, c2, rfl, ?_, by omega, ?_, hown2, hb2, HK2.out⟩
        · go_num
        · rw [List.append_assoc, ← HE.out, encN_great h]
          rfl
      case measure => simp [intOf]; omega

set_option maxHeartbeats 1000000 in
/-- The reference's N -/
theorem refN_any (p : Option Addr) (len cap : Nat) (zs : List Nat) (x : Nat) (w : World) (hx : x < 18446744073709551616) (hI : IsBytes w.heap.size w p len cap zs) (hlen : zs.length ≤ 900000) :
    Calls Try.prog 33 #[.slice p len cap, .int .u64 (x : Nat)] w fun e w' => ∃ v', e = .returned v' ∧ Own w.heap.size w' v' (zs ++ encN x) ∧ Below w.heap.size w w' := by
  have HI : Hid (IsBytes w.heap.size w p len cap zs) := hI
  have HL : Hid ((zs ++ encN x).length ≤ 900010) := by
    show _ ≤ _
    have := encN_ten hx
    rw [List.length_append]
    omega
  have hl := hI.1
  clear hI
  go_enter Try.func33, Try.ntmps33
  go_wp2_with (at_builtin; refine wpList_append_bytes rfl _ _ rfl w.heap.size (.slice none 0 0) [] rfl (Own.nil _ _) rfl HI.out (by simp; omega) (Nat.le_refl _) ?_; intro u1 w1 hown1 hgrow1; have hb1 : Below w.heap.size w w1 := (Below.refl _ w).grown hgrow1 (Nat.le_refl _) (fun k e => by cases e); clear hgrow1; obtain ⟨q1, k1, c1, hu1⟩ := own_any_slice hown1; subst hu1)
  have HO : Hid (Own w.heap.size w1 (.slice q1 k1 c1) zs) := hown1
  clear hown1
  go_loopw [5, 1] (fun a y wr => ∃ (m : Nat) (ys : List Nat) (q : Option Addr) (k c : Nat), a = .slice q k c ∧ y = .int .u64 (m : Nat) ∧ m ≤ x ∧ ys ++ encN m = zs ++ encN x ∧ Own w.heap.size wr (.slice q k c) ys ∧ Below w.heap.size w wr) (fun _ y _ => (intOf y).toNat)
  case atStart => exact ⟨x, zs, _, _, _, rfl, rfl, Nat.le_refl _, rfl, HO.out, hb1⟩
  case round =>
    clear hb1 HO
    obtain ⟨m, ys, q, k, c, rfl, rfl, hm, he, hown, hbel⟩ := hrel
    have hsz := hbel.size
    have HE : Hid (ys ++ encN m = zs ++ encN x) := he
    have HOwn : Hid (Own w.heap.size wr (.slice q k c) ys) := hown
    have HYs : Hid (ys.length + 1 ≤ 1000000) := by
      show _ ≤ _
      have h1 := congrArg List.length he
      have h2 := HL.out
      have h3 := encN_pos m
      rw [List.length_append] at h1
      omega
    clear he hown
    by_cases h : m < 128
    · have h1 : ¬ (128 : Int) ≤ (m : Int) := by omega
      have h2 : (m : Int) % 256 = ((m : Nat) : Int) := by omega
      go_wp2_with (at_builtin; refine wpList_append_bytes rfl _ _ rfl w.heap.size (.slice q k c) ys rfl (HOwn.out.alloc _) rfl (bytes_one wr m (by omega)) HYs.out (by simp; omega) ?_; intro u2 w2 hown2 hgrow2; have hb2 := app_one hbel (by omega) (HOwn.out.alloc _) hgrow2; clear hgrow2)
      go_ret
      refine ⟨_, rfl, ?_, hb2⟩
      rw [← HE.out, encN_small h]
      exact hown2
    · have h1 : (128 : Int) ≤ (m : Int) := by omega
      have h2 := or128 m
      go_wp2_with (at_builtin; refine wpList_append_bytes rfl _ _ rfl w.heap.size (.slice q k c) ys rfl (HOwn.out.alloc _) rfl (bytes_one wr (m % 128 + 128) (by omega)) HYs.out (by simp; omega) ?_; intro u2 w2 hown2 hgrow2; have hb2 := app_one hbel (by omega) (HOwn.out.alloc _) hgrow2; clear hgrow2; obtain ⟨q2, k2, c2, hu2⟩ := own_any_slice hown2; subst hu2)
      go_roundw
      case rel =>
        refine ⟨m / 128, _, q2, _, c2, rfl, ?_, by omega, ?_, hown2, hb2⟩
        · go_num
        · rw [List.append_assoc, ← HE.out, encN_great h]
          rfl
      case measure => simp [intOf]; omega
end Go.Proofs.Ytlmfdifnkkdpfaa
/-
  A writer in memory, and what N, Raw and Bytes make of it. Nothing that lay below the writer has turned.
-/
namespace Go.Proofs.Ytlmfdifnkkdpfaa
open Go.RowKit

/-- Block B is a writer that has written zs. -/
def WrAt (W : World) (B : Nat) (zs : List Nat) : Prop := ∃ v, Row W B 62 [v] ∧ Own (B + 1) W v zs
theorem WrAt.lt {W : World} {B : Nat} {zs : List Nat} (h : WrAt W B zs) : B < W.heap.size := by obtain ⟨_, h, _⟩ := h; exact h.lt
theorem WrAt.later {W W' : World} {B : Nat} {zs : List Nat} (h : WrAt W B zs) (hb : Below W.heap.size W W') : WrAt W' B zs := by
  obtain ⟨v, h1, h2⟩ := h
  exact ⟨v, h1.later hb, h2.later hb⟩
theorem WrAt.alloc {W : World} {B : Nat} {zs : List Nat} (h : WrAt W B zs) (o : Obj) : WrAt (W.alloc o) B zs := h.later ((Below.refl _ W).alloc (Nat.le_refl _) o)
theorem WrAt.new (W : World) : WrAt (W.alloc (.cells #[.slice none 0 0] 62)) W.heap.size [] := ⟨_, Row.new W 62 #[.slice none 0 0], Own.nil _ _⟩

/-- What a writer's call keeps: all below it, and every block but writers and rows of bytes. -/
def KeptW (B : Nat) (w w' : World) : Prop := Below B w w' ∧ (∀ t, t ≠ 5 → t ≠ 62 → KeepT t w w') ∧ KeepF w w'
theorem KeptW.refl (B : Nat) (w : World) : KeptW B w w := ⟨Below.refl _ _, fun _ _ _ _ _ _ h => h, KeepF.refl _⟩
theorem KeptW.trans {B : Nat} {a b c : World} (h : KeptW B a b) (k : KeptW B b c) : KeptW B a c := ⟨h.1.trans k.1, fun t h5 h6 => (h.2.1 t h5 h6).trans (k.2.1 t h5 h6), h.2.2.trans k.2.2⟩
theorem KeptW.of_below {B : Nat} {a b : World} (h : Below a.heap.size a b) (hB : B ≤ a.heap.size) : KeptW B a b := ⟨h.mono hB, fun _ _ _ => KeepT.of_below h, KeepF.of_below h⟩
theorem KeptW.alloc {B : Nat} {a b : World} (h : KeptW B a b) (hB : B ≤ b.heap.size) (o : Obj) : KeptW B a (b.alloc o) := h.trans (KeptW.of_below ((Below.refl _ b).alloc (Nat.le_refl _) o) hB)
/-- The writer gets a longer row. -/
theorem WrAt.put {w w2 : World} {B : Nat} {v u : Value} {zs ys : List Nat} (hr : Row w B 62 [v]) (ho : Own (B + 1) w v zs) (hk : Below (B + 1) w w2) (hk5 : Keep5 w w2) (hu : Own (B + 1) w2 u ys) :
    WrAt (w2.setCell ⟨B, 0, none⟩ u) B ys ∧ KeptW B w (w2.setCell ⟨B, 0, none⟩ u) := by
  have hr2 : Row w2 B 62 [v] := (hk.block B (by omega)).trans hr
  have hbut : But B w2.heap.size w2 (w2.setCell ⟨B, 0, none⟩ u) := But.set 0 u
  refine ⟨⟨u, hr2.set (i := 0) u, hu.but hbut (by omega)⟩, (hk.mono (by omega)).trans (hbut.below (by have := hr2.lt; omega) (Nat.le_refl _)), fun t h5 h6 => (hk5.1 t h5).trans (fun k c fr hkk => ?_), hk5.2.trans (fun k c t fr hf hkk => ?_)⟩
  · refine (hbut.block k (Array.getElem?_eq_some_iff.1 hkk).1 (fun e => ?_)).trans hkk
    subst e
    unfold Row at hr2
    rw [hkk] at hr2
    cases hr2
    exact h6 rfl
  · refine (hbut.block k (Array.getElem?_eq_some_iff.1 hkk).1 (fun e => ?_)).trans hkk
    subst e
    unfold Row at hr2
    rw [hkk] at hr2
    cases hr2
    exact hf rfl

/-- A slice of numbers, in a block of such. -/
def IsNums (W : World) (p : Option Addr) (len : Nat) (ns : List Nat) : Prop :=
  ns.length = len ∧ (∀ n ∈ ns, n < 18446744073709551616) ∧ (len = 0 ∨ ∃ b off c fr, p = some ⟨b, off, none⟩ ∧ W.heap[b]? = some (Obj.cells c 64 fr) ∧ ∀ i, i < len → W.cell? ⟨b, off + i, none⟩ = some (.int .u64 (ns.getD i 0 : Nat)))
theorem IsNums.keep {A B : World} (h : KeepT 64 A B) {p : Option Addr} {len : Nat} {ns : List Nat} : IsNums A p len ns → IsNums B p len ns
  | ⟨h1, h2, .inl e⟩ => ⟨h1, h2, .inl e⟩
  | ⟨h1, h2, .inr ⟨b, off, c, fr, e, hb, hc⟩⟩ => ⟨h1, h2, .inr ⟨b, off, c, fr, e, h _ _ _ hb, fun i hi => by
      have hh := h _ _ _ hb
      have h3 := hc i hi
      rw [cell_of_row A b (off + i) c 64 fr hb] at h3
      rw [cell_of_row B b (off + i) c 64 fr hh]
      exact h3⟩⟩
theorem IsNums.one (w : World) (x : Nat) (hx : x < 18446744073709551616) : IsNums (w.alloc (.cells #[.int .u64 (x : Nat)] 64)) (some ⟨w.heap.size, 0, none⟩) 1 [x] := by
  refine ⟨rfl, by simpa using hx, .inr ⟨w.heap.size, 0, _, _, rfl, Row.new w 64 #[.int .u64 (x : Nat)], fun i hi => ?_⟩⟩
  obtain rfl : i = 0 := by omega
  exact (Row.new w 64 #[.int .u64 (x : Nat)]).cell (i := 0) rfl
/-- Numbers as bytes. -/
def encs (ns : List Nat) : List Nat := ns.flatMap encN
theorem encs_one (x : Nat) : encs [x] = encN x := by simp [encs]
theorem encs_succ (ns : List Nat) (k : Nat) (hk : k < ns.length) : encs (ns.take k) ++ encN (ns.getD k 0) = encs (ns.take (k + 1)) := by
  unfold encs
  rw [List.take_succ_eq_append_getElem hk]
  simp only [List.flatMap_append, List.flatMap_cons, List.flatMap_nil, List.append_nil, List.getD_eq_getElem?_getD, List.getElem?_eq_getElem hk, Option.getD_some]
theorem encs_length : ∀ (ns : List Nat), (∀ n ∈ ns, n < 18446744073709551616) → (encs ns).length ≤ 10 * ns.length
  | [], _ => by simp [encs]
  | n :: r, h => by
    have h1 := encs_length r (fun x hx => h x (List.mem_cons_of_mem _ hx))
    have h2 := encN_ten (h n List.mem_cons_self)
    simp only [encs, List.flatMap_cons, List.length_append, List.length_cons] at *
    omega

set_option maxHeartbeats 1000000 in
/-- N of one number. -/
theorem writerN_any (B : Nat) (zs ns : List Nat) (p : Option Addr) (len cap : Nat) (w : World) (hw : WrAt w B zs) (hN : IsNums w p len ns) (hlen : zs.length + 10 * len ≤ 900000) (hl63 : len ≤ 1000000) :
    Calls Try.prog 30 #[.pointer (some ⟨B, 0, none⟩), .slice p len cap] w fun e w' => (∃ v, e = .returned v) ∧ WrAt w' B (zs ++ encs ns) ∧ KeptW B w w' := by
  have HW : Hid (WrAt w B zs) := hw
  have HN : Hid (IsNums w p len ns) := hN
  have HL : Hid (ns.length = len) := hN.1
  have hBl := hw.lt
  clear hw hN
  go_enter Try.func30, Try.ntmps30
  go_wp2
  go_loopw [10] (fun i wr => ∃ (k : Nat), k ≤ len ∧ i = .int .i64 k ∧ WrAt wr B (zs ++ encs (ns.take k)) ∧ KeptW B w wr) (fun i _ => len - (intOf i).toNat)
  case atStart => exact ⟨0, Nat.zero_le _, rfl, by simpa [encs] using HW.out, KeptW.refl _ _⟩
  case round =>
    obtain ⟨k, hk, rfl, hwr, hkept⟩ := hrel
    have HK : Hid (KeptW B w wr) := hkept
    have hsz := hkept.1.size
    have HB : Hid ((zs ++ encs (ns.take k)).length ≤ 900000) := by
      show _ ≤ _
      have := encs_length (ns.take k) (fun n hn => HN.out.2.1 n (List.mem_of_mem_take hn))
      have := HL.out
      simp only [List.length_append, List.length_take] at *
      omega
    by_cases hlt : k < len
    · have hki : (k : Int) < (len : Int) := by omega
      obtain ⟨b, off, c0, fr0, rfl, hb, hcell⟩ : ∃ b off c fr, p = some ⟨b, off, none⟩ ∧ wr.heap[b]? = some (Obj.cells c 64 fr) ∧ ∀ i, i < len → wr.cell? ⟨b, off + i, none⟩ = some (.int .u64 (ns.getD i 0 : Nat)) := by
        rcases (HN.out.keep (hkept.2.1 64 (by decide) (by decide))).2.2 with h | h
        · omega
        · exact h
      have hc1 := hcell k hlt
      have HX : Hid (ns.getD k 0 < 18446744073709551616) := by
        have hkl : k < ns.length := by rw [HL.out]; exact hlt
        show _ < _
        rw [List.getD_eq_getElem?_getD, List.getElem?_eq_getElem hkl, Option.getD_some]
        exact HN.out.2.1 _ (List.getElem_mem hkl)
      have HFs : Hid ((zs ++ encs (ns.take k)) ++ encN (ns.getD k 0) = zs ++ encs (ns.take (k + 1))) := by
        show _ = _
        rw [List.append_assoc, encs_succ ns k (by rw [HL.out]; exact hlt)]
      obtain ⟨v, hr, ho⟩ := hwr
      have hcv := hr.cell (i := 0) rfl
      have HR : Hid (Row wr B 62 [v]) := hr
      have hBr := hr.lt
      have HA : Hid (Calls Try.prog 64 #[v, .int .u64 (ns.getD k 0 : Nat)] wr fun e w' => ∃ v', e = .returned v' ∧ Own (B + 1) w' v' (zs ++ encs (ns.take (k + 1))) ∧ Below (B + 1) wr w' ∧ Keep5 wr w') := by
        have h := appendNumber_any (B + 1) v (zs ++ encs (ns.take k)) (ns.getD k 0) wr HX.out ho hBr HB.out
        rw [HFs.out] at h
        exact h
      have HEnd : Hid (∀ w2 u, Own (B + 1) w2 u (zs ++ encs (ns.take (k + 1))) → Below (B + 1) wr w2 → (Keep5 wr w2) → WrAt (w2.setCell ⟨B, 0, none⟩ u) B (zs ++ encs (ns.take (k + 1))) ∧ KeptW B wr (w2.setCell ⟨B, 0, none⟩ u)) := fun w2 u h1 h2 h3 => WrAt.put hr ho h2 h3 h1
      have fz := fun (w2 : World) (hb : Below (B + 1) wr w2) => (show Row w2 B 62 [v] from (hb.block B (by omega)).trans hr).frozen 0
      have cc := fun (w2 : World) (hb : Below (B + 1) wr w2) => (show Row w2 B 62 [v] from (hb.block B (by omega)).trans hr).cell (i := 0) rfl
      clear hr ho hcell hb
      generalize ns.getD k 0 = X at *
      go_wp2_with (go_at_call 64; refine HA.out.mono ?_; rintro e w2 ⟨u2, rfl, hown2, hb2, hk2⟩; obtain ⟨q2, k2, c2, hu2⟩ := own_any_slice hown2; subst hu2; have fz2 := fz w2 hb2; have cc2 := cc w2 hb2; have HE := HEnd.out w2 _ hown2 hb2 hk2; clear fz cc hk2 hown2)
      go_roundw
      case rel => exact ⟨k + 1, by omega, by go_num, HE.1, HK.out.trans HE.2⟩
      case measure => simp [intOf]; omega
    · obtain rfl : k = len := by omega
      rw [List.take_of_length_le (by rw [HL.out]; exact Nat.le_refl _)] at hwr
      go_wp2
      go_end0
      exact ⟨⟨_, rfl⟩, hwr, HK.out⟩
theorem writerN_none (p : Option Addr) (len cap : Nat) (w : World) : Calls Try.prog 30 #[.pointer none, .slice p len cap] w fun e w' => (∃ v, e = .returned v) ∧ w' = w := by
  go_enter Try.func30, Try.ntmps30
  go_wp2
  refine bodyPost_ret (results_none rfl _ _ _) rfl ?_
  exact ⟨⟨_, rfl⟩, rfl⟩

set_option maxHeartbeats 1000000 in
/-- Raw -/
theorem writerRaw_any (B : Nat) (zs ys : List Nat) (p : Option Addr) (len cap n₀ : Nat) (w : World) (hw : WrAt w B zs) (hI : IsBytes n₀ w p len cap ys) (hlen : zs.length + len ≤ 1000000) :
    Calls Try.prog 65 #[.pointer (some ⟨B, 0, none⟩), .slice p len cap] w fun e w' => (∃ v, e = .returned v) ∧ WrAt w' B (zs ++ ys) ∧ KeptW B w w' := by
  obtain ⟨v, hr, ho⟩ := hw
  obtain ⟨q0, k0, c0, rfl⟩ := own_any_slice ho
  have hcv := hr.cell (i := 0) rfl
  have hBr := hr.lt
  have HO : Hid (Own (B + 1) w (.slice q0 k0 c0) zs) := ho
  have HI : Hid (IsBytes n₀ w p len cap ys) := hI
  have HEnd : Hid (∀ w2 u, Own (B + 1) w2 u (zs ++ ys) → Below (B + 1) w w2 → (Keep5 w w2) → WrAt (w2.setCell ⟨B, 0, none⟩ u) B (zs ++ ys) ∧ KeptW B w (w2.setCell ⟨B, 0, none⟩ u)) := fun w2 u h1 h2 h3 => WrAt.put hr ho h2 h3 h1
  have fz := fun (w2 : World) (hb : Below (B + 1) w w2) => (show Row w2 B 62 [.slice q0 k0 c0] from (hb.block B (by omega)).trans hr).frozen 0
  have cc := fun (w2 : World) (hb : Below (B + 1) w w2) => (show Row w2 B 62 [.slice q0 k0 c0] from (hb.block B (by omega)).trans hr).cell (i := 0) rfl
  clear hr ho hI
  go_enter Try.func65, Try.ntmps65
  go_wp2_with (at_builtin; refine wpList_append_bytes rfl _ _ rfl (B + 1) (.slice q0 k0 c0) zs rfl HO.out rfl HI.out hlen hBr ?_; intro u2 w2 hown2 hgrow2; obtain ⟨q2, k2, c2, hu2⟩ := own_any_slice hown2; subst hu2; have hb2 : Below (B + 1) w w2 := below_own (Below.refl _ _) hBr HO.out hgrow2; have fz2 := fz w2 hb2; have cc2 := cc w2 hb2; have HE := HEnd.out w2 _ hown2 hb2 (Keep5.row hgrow2 HO.out); clear fz cc hown2 hgrow2)
  go_end0
  exact ⟨⟨_, rfl⟩, HE.1, HE.2⟩
theorem writerRaw_none (p : Option Addr) (len cap : Nat) (w : World) : Calls Try.prog 65 #[.pointer none, .slice p len cap] w fun e w' => (∃ v, e = .returned v) ∧ w' = w := by
  go_enter Try.func65, Try.ntmps65
  go_wp2
  refine bodyPost_ret (results_none rfl _ _ _) rfl ?_
  exact ⟨⟨_, rfl⟩, rfl⟩

set_option maxHeartbeats 1000000 in
/-- own -/
theorem own_any (p : Option Addr) (len cap : Nat) (zs : List Nat) (hlen : len ≤ 1000000) (w : World) (hI : IsBytes w.heap.size w p len cap zs) :
    Calls Try.prog 67 #[.slice p len cap] w fun e w' => e = .returned (.slice (some ⟨w.heap.size, 0, none⟩) len len) ∧ Own w.heap.size w' (.slice (some ⟨w.heap.size, 0, none⟩) len len) zs ∧ w.heap.size < w'.heap.size ∧ Below w.heap.size w w' := by
  obtain ⟨i0, hi, hz0, hz1, hz2⟩ := info_parts info5
  have HI : Hid (IsBytes w.heap.size w p len cap zs) := hI
  clear hI
  go_enter Try.func67, Try.ntmps67
  go_wp2_with (first
    | (at_make; refine wpList_make_full _ rfl _ _ 25 rfl w.heap.size 5 i0 (.int .u8 0) 1 Try.underlying25 hi hz0 hz1 _ _ _ _ len rfl rfl (by omega) (by omega) (by rw [hz2]; omega) (by simp only [maxLen]; omega) (Nat.le_refl _) ?_; intro w2 hown2 hgrow2; rw [made_zeros] at hown2; have HR2 : Hid (Row w2 w.heap.size 5 (u8s (List.replicate len 0))) := row_of_made hown2; have hb2 : Below w.heap.size w w2 := ((Below.refl _ w).grown hgrow2 (Nat.le_refl _) (fun k e => by cases e)); clear hown2 hgrow2)
    | ((with_reducible show wpList _ _ _ (Oper.mk (some 9) _ _ _ _ _ :: _) _ _); refine wpList_copy_splice rfl (.tmp 7) (.tmp 8) 25 25 rfl 5 Try.underlying25 size5 _ _ _ _ _ _ rfl rfl w.heap.size 0 (u8s (List.replicate len 0)) 5 HR2.out (u8s zs) (by rw [u8s_length, HI.out.1]; exact (Nat.min_self _).symm) (fun h0 => ⟨rfl, bytes_src (HI.out.below hb2) h0⟩) (by have := HI.out.1; simp; omega) (u8s_one _) w.heap.size w hb2 (Nat.le_refl _) ?_; intro w3 HG3 hb3; rw [u8s_length, HI.out.1]; rw [splice_all zs len HI.out.1] at HG3))
  go_ret
  have ho := own_of_row (n₀ := w.heap.size) (zs := zs) HG3.out (Nat.le_refl _) (by have := HI.out.1; omega)
  rw [HI.out.1] at ho
  exact ⟨rfl, ho, Row.lt HG3.out, hb3⟩

set_option maxHeartbeats 1000000 in
/-- Bytes -/
theorem writerBytes_any (B : Nat) (zs : List Nat) (w : World) (hw : WrAt w B zs) (hz : ∀ z ∈ zs, z < 256) (hlen : zs.length ≤ 1000000) :
    Calls Try.prog 32 #[.pointer (some ⟨B, 0, none⟩)] w fun e w' => ∃ v, e = .returned v ∧ Own w.heap.size w' v zs ∧ Below w.heap.size w w' := by
  obtain ⟨v, hr, ho⟩ := hw
  obtain ⟨q0, c0, rfl⟩ := ho.slice
  have hcv := hr.cell (i := 0) rfl
  have HO : Hid (Calls Try.prog 67 #[.slice q0 zs.length c0] w fun e w' => e = .returned (.slice (some ⟨w.heap.size, 0, none⟩) zs.length zs.length) ∧ Own w.heap.size w' (.slice (some ⟨w.heap.size, 0, none⟩) zs.length zs.length) zs ∧ w.heap.size < w'.heap.size ∧ Below w.heap.size w w') := own_any q0 _ c0 zs hlen w (ho.bytes hz)
  clear hr ho hlen
  generalize zs.length = L at *
  go_enter Try.func32, Try.ntmps32
  go_wp2_with (go_at_call 67; refine HO.out.mono ?_; rintro e w2 ⟨rfl, hown2, _, hb2⟩)
  go_ret
  exact ⟨_, rfl, hown2, hb2⟩
theorem writerBytes_none (w : World) : Calls Try.prog 32 #[.pointer none] w fun e w' => e = .returned (.slice none 0 0) ∧ w' = w := by
  go_enter Try.func32, Try.ntmps32
  go_wp2
  go_ret
  exact ⟨rfl, rfl⟩
end Go.Proofs.Ytlmfdifnkkdpfaa
