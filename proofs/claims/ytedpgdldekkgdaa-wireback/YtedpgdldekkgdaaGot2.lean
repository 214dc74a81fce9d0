/-
  Reading a reply, on lists.
-/
import Derived.Test.YtedpgdldekkgdaaPutP
namespace Go.Proofs.Ytedpgdldekkgdaa
open Go.RowKit Go.Shelf

/-- Names: what stands behind k of them; them. -/
def nS : Nat → Option (List Nat) → Option (List Nat)
  | 0, st => st
  | k + 1, st => (readText 64 (nS k st)).2
def nA (k : Nat) (st : Option (List Nat)) : ByteArray := strOf (readText 64 (nS k st)).1
def nL (k : Nat) (st : Option (List Nat)) : List ByteArray := (List.range k).map fun j => nA j st
theorem nL_length (k : Nat) (st : Option (List Nat)) : (nL k st).length = k := by simp [nL]
theorem nL_succ (k : Nat) (st : Option (List Nat)) : nL (k + 1) st = nL k st ++ [nA k st] := by simp [nL, List.range_succ]
theorem readText_none : (readText 64 none).2 = none := by
  have e : readCount 64 none = (0, none) := rfl
  unfold readText
  rw [e]
  rfl
theorem nS_stays {st : Option (List Nat)} {k : Nat} (h : nS k st = none) : ∀ j, nS (k + j) st = none
  | 0 => h
  | j + 1 => by
    show (readText 64 (nS (k + j) st)).2 = none
    rw [nS_stays h j]
    exact readText_none
theorem nS_ahead {st : Option (List Nat)} (h : Ahead st) : ∀ k, Ahead (nS k st)
  | 0 => h
  | k + 1 => fun _ h' => (readText_once (z := 64) (nS_ahead h k) h').2
theorem nA_size {st : Option (List Nat)} (h : Ahead st) (k : Nat) : (nA k st).size ≤ 64 := by
  rw [nA, strOf_size]
  exact (readText_all (z := 64) (nS_ahead h k)).2
theorem nA_name {st : Option (List Nat)} (h : Ahead st) (k : Nat) : nameL (nA k st) = (readText 64 (nS k st)).1 := nameL_strOf (readText_all (z := 64) (nS_ahead h k)).1
theorem encS_snoc (xs : List ByteArray) (s : ByteArray) : encS (xs ++ [s]) = encS xs ++ encText (nameL s) := by simp [encS]
theorem nS_once {st : Option (List Nat)} (h : Ahead st) : ∀ (k : Nat) (r : List Nat), nS k st = some r → st = some (encS (nL k st) ++ r)
  | 0, r, hr => by
    exact (show st = some r from hr)
  | k + 1, r, hr => by
    have h1 := (readText_once (z := 64) (nS_ahead h k) hr).1
    have h2 := nS_once h k _ h1
    rw [nL_succ, encS_snoc, nA_name h k, List.append_assoc]
    exact h2
theorem nS_back : ∀ (xs : List ByteArray) (r : List Nat), (∀ s ∈ xs, s.size ≤ 64) → ∀ k, k ≤ xs.length → nS k (some (encS xs ++ r)) = some (encS (xs.drop k) ++ r) ∧ nL k (some (encS xs ++ r)) = xs.take k
  | xs, r, h, 0, _ => ⟨by simp [nS], by simp [nL]⟩
  | xs, r, h, k + 1, hk => by
    obtain ⟨h1, h2⟩ := nS_back xs r h k (by omega)
    have hd : xs.drop k = xs[k] :: xs.drop (k + 1) := List.drop_eq_getElem_cons (by omega)
    have he : encS (xs.drop k) ++ r = encText (nameL xs[k]) ++ (encS (xs.drop (k + 1)) ++ r) := by
      rw [hd]
      unfold encS
      rw [List.flatMap_cons, List.append_assoc]
    have hb := readText_back (z := 64) (t := nameL xs[k]) (encS (xs.drop (k + 1)) ++ r) (by rw [nameL_length]; exact h _ (List.getElem_mem (by omega))) (by omega)
    rw [← he] at hb
    refine ⟨?_, ?_⟩
    · show (readText 64 (nS k (some (encS xs ++ r)))).2 = _
      rw [h1]
      exact congrArg Prod.snd hb
    · rw [nL_succ, h2, nA, h1, show (readText 64 (some (encS (xs.drop k) ++ r))).1 = nameL xs[k] from congrArg Prod.fst hb, name_str, List.take_succ_eq_append_getElem (by omega)]

/-- What stands behind each part of a reply; the reply; its body; its names. -/
def p1 (st : Option (List Nat)) : Option (List Nat) := (readN 4294967295 st).2
def p2 (st : Option (List Nat)) : Option (List Nat) := (readN 18446744073709551615 (p1 st)).2
def p3 (st : Option (List Nat)) : Option (List Nat) := (readN 1000 (p2 st)).2
def p4 (st : Option (List Nat)) : Option (List Nat) := (readRaw 32 (p3 st)).2
def p5 (st : Option (List Nat)) : Option (List Nat) := (readN 18446744073709551615 (p4 st)).2
def p6 (st : Option (List Nat)) : Option (List Nat) := (readText 110000 (p5 st)).2
def p7 (st : Option (List Nat)) : Option (List Nat) := (readN 1000 (p6 st)).2
def rdP (st : Option (List Nat)) : Rep := ⟨(readN 4294967295 st).1, (readN 18446744073709551615 (p1 st)).1, ((readN 1000 (p2 st)).1 : Nat), idR (p3 st), (readN 18446744073709551615 (p4 st)).1⟩
def bdP (st : Option (List Nat)) : List Nat := (readText 110000 (p5 st)).1
def nuP (st : Option (List Nat)) : Nat := (readN 1000 (p6 st)).1
def nmP (st : Option (List Nat)) : List ByteArray := nL (nuP st) (p7 st)
def enP (st : Option (List Nat)) : Option (List Nat) := nS (nuP st) (p7 st)
theorem Ahead.p1 {st : Option (List Nat)} (h : Ahead st) : Ahead (p1 st) := fun _ h' => (readN_once h h').2
theorem Ahead.p2 {st : Option (List Nat)} (h : Ahead st) : Ahead (p2 st) := fun _ h' => (readN_once h.p1 h').2
theorem Ahead.p3 {st : Option (List Nat)} (h : Ahead st) : Ahead (p3 st) := fun _ h' => (readN_once h.p2 h').2
theorem Ahead.p4 {st : Option (List Nat)} (h : Ahead st) : Ahead (p4 st) := fun _ h' => (readRaw_once h.p3 h').2
theorem Ahead.p5 {st : Option (List Nat)} (h : Ahead st) : Ahead (p5 st) := fun _ h' => (readN_once h.p4 h').2
theorem Ahead.p6 {st : Option (List Nat)} (h : Ahead st) : Ahead (p6 st) := fun _ h' => (readText_once (z := 110000) h.p5 h').2
theorem Ahead.p7 {st : Option (List Nat)} (h : Ahead st) : Ahead (p7 st) := fun _ h' => (readN_once h.p6 h').2
theorem nuP_le (st : Option (List Nat)) : nuP st ≤ 1000 := readN_le 1000 (p6 st)
theorem rdP_ok {st : Option (List Nat)} (h : Ahead st) : (rdP st).ok := by
  have k1 := readN_le 4294967295 st
  have k2 := readN_le 18446744073709551615 (p1 st)
  have k3 := readN_le 1000 (p2 st)
  have k8 := readN_le 18446744073709551615 (p4 st)
  exact ⟨by simp only [rdP]; omega, by simp only [rdP]; omega, by simp only [rdP]; omega, idR_ok h.p3, by simp only [rdP]; omega⟩
theorem bdP_all {st : Option (List Nat)} (h : Ahead st) : (∀ x ∈ bdP st, x < 256) ∧ (bdP st).length ≤ 110000 := readText_all (z := 110000) h.p5
theorem nmP_size {st : Option (List Nat)} (h : Ahead st) : ∀ s ∈ nmP st, s.size ≤ 64 := by
  intro s hs
  unfold nmP nL at hs
  obtain ⟨j, _, rfl⟩ := List.mem_map.1 hs
  exact nA_size h.p7 j
theorem no_long {xs : List ByteArray} (h : ∀ s ∈ xs, s.size ≤ 64) : xs.any longS = false := by
  rw [List.any_eq_false]
  intro s hs
  have := h s hs
  simp [longS]
  omega
/-- Whatever is read may be. -/
theorem mayP_read {st : Option (List Nat)} (h : Ahead st) : mayP (rdP st) (bdP st) (nmP st) = true := by
  have k3 := readN_le 1000 (p2 st)
  have k6 := nuP_le st
  have hb := (bdP_all h).2
  have hl : (nmP st).length ≤ 1000 := by rw [nmP, nL_length]; exact k6
  rw [mayP, no_long (nmP_size h), decide_eq_true (show 0 ≤ (rdP st).err by simp only [rdP]; omega), decide_eq_true (show (rdP st).err ≤ 1000 by simp only [rdP]; omega), decide_eq_true hb, decide_eq_true hl]
  rfl
theorem rdP_once {st : Option (List Nat)} {r : List Nat} (h : Ahead st) (hr : enP st = some r) : st = some (encP (rdP st) (bdP st) (nmP st) ++ r) := by
  have h8 := nS_once h.p7 _ r hr
  have h7 := (readN_once h.p6 h8).1
  have h6 := (readText_once (z := 110000) h.p5 h7).1
  have h5 := (readN_once h.p4 h6).1
  have h4 := (readRaw_once h.p3 h5).1
  have h3 := (readN_once h.p2 h4).1
  have h2 := (readN_once h.p1 h3).1
  have h1 := (readN_once h h2).1
  refine h1.trans ?_
  unfold encP
  rw [show (nmP st).length = nuP st from nL_length _ _]
  unfold rdP bdP nuP nmP
  dsimp only
  rw [Int.toNat_natCast]
  simp only [List.append_assoc]
  rfl
theorem p_back {x : Rep} {b : List Nat} {xs : List ByteArray} (h : x.ok) (hm : mayP x b xs = true) (r : List Nat) : rdP (some (encP x b xs ++ r)) = x ∧ bdP (some (encP x b xs ++ r)) = b ∧ nmP (some (encP x b xs ++ r)) = xs ∧ enP (some (encP x b xs ++ r)) = some r := by
  obtain ⟨hk1, hk2, hbl, hnl, hns⟩ := mayP_facts hm
  obtain ⟨k, hk⟩ : ∃ k : Nat, x.err = (k : Int) := ⟨x.err.toNat, by omega⟩
  have a1 := readN_back (most := 4294967295) (n := x.client) (encN x.seq ++ (encN x.err.toNat ++ (x.id ++ (encN x.n ++ (encText b ++ (encN xs.length ++ encS xs))))) ++ r) (by have := h.client; omega) (by have := h.client; omega)
  have a2 := readN_back (most := 18446744073709551615) (n := x.seq) (encN x.err.toNat ++ (x.id ++ (encN x.n ++ (encText b ++ (encN xs.length ++ encS xs)))) ++ r) (by have := h.seq; omega) (by have := h.seq; omega)
  have a3 := readN_back (most := 1000) (n := x.err.toNat) (x.id ++ (encN x.n ++ (encText b ++ (encN xs.length ++ encS xs))) ++ r) (by omega) (by omega)
  have a4 := readRaw_back (x := x.id) (encN x.n ++ (encText b ++ (encN xs.length ++ encS xs)) ++ r) h.id.1
  have a5 := readN_back (most := 18446744073709551615) (n := x.n) (encText b ++ (encN xs.length ++ encS xs) ++ r) (by have := h.n; omega) (by have := h.n; omega)
  have a6 := readText_back (z := 110000) (t := b) (encN xs.length ++ encS xs ++ r) hbl (by omega)
  have a7 := readN_back (most := 1000) (n := xs.length) (encS xs ++ r) (by omega) hnl
  have E : encP x b xs ++ r = encN x.client ++ (encN x.seq ++ (encN x.err.toNat ++ (x.id ++ (encN x.n ++ (encText b ++ (encN xs.length ++ encS xs))))) ++ r) := by unfold encP; simp only [List.append_assoc]
  have E1 : p1 (some (encP x b xs ++ r)) = some (encN x.seq ++ (encN x.err.toNat ++ (x.id ++ (encN x.n ++ (encText b ++ (encN xs.length ++ encS xs)))) ++ r)) := by rw [E]; unfold p1; rw [a1]; simp only [List.append_assoc]
  have E2 : p2 (some (encP x b xs ++ r)) = some (encN x.err.toNat ++ (x.id ++ (encN x.n ++ (encText b ++ (encN xs.length ++ encS xs))) ++ r)) := by unfold p2; rw [E1, a2]; simp only [List.append_assoc]
  have E3 : p3 (some (encP x b xs ++ r)) = some (x.id ++ (encN x.n ++ (encText b ++ (encN xs.length ++ encS xs)) ++ r)) := by unfold p3; rw [E2, a3]; simp only [List.append_assoc]
  have E4 : p4 (some (encP x b xs ++ r)) = some (encN x.n ++ (encText b ++ (encN xs.length ++ encS xs) ++ r)) := by unfold p4; rw [E3, a4.2]; simp only [List.append_assoc]
  have E5 : p5 (some (encP x b xs ++ r)) = some (encText b ++ (encN xs.length ++ encS xs ++ r)) := by unfold p5; rw [E4, a5]; simp only [List.append_assoc]
  have E6 : p6 (some (encP x b xs ++ r)) = some (encN xs.length ++ (encS xs ++ r)) := by
    unfold p6
    rw [E5]
    refine (congrArg Prod.snd a6).trans ?_
    simp only [List.append_assoc]
  have E7 : p7 (some (encP x b xs ++ r)) = some (encS xs ++ r) := by unfold p7; rw [E6, a7]
  have EN : nuP (some (encP x b xs ++ r)) = xs.length := by unfold nuP; rw [E6, a7]
  obtain ⟨n1, n2⟩ := nS_back xs r hns xs.length (Nat.le_refl _)
  refine ⟨?_, ?_, ?_, ?_⟩
  · unfold rdP
    rw [E1, E2, E3, E4, E, a1, a2, a3, a4.1, a5]
    dsimp only
    rw [hk, Int.toNat_natCast, ← hk]
  · unfold bdP
    rw [E5]
    exact congrArg Prod.fst a6
  · unfold nmP
    rw [EN, E7, n2, List.take_length]
  · unfold enP
    rw [EN, E7, n1, List.drop_length]
    simp [encS]
end Go.Proofs.Ytedpgdldekkgdaa
