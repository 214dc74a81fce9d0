/-
  An envelope, read out of bytes: what is read is written as it stood, and what was written is read. It names no program.
-/
import Derived.Test.YtbaokodhoiledaaHead
import Derived.Test.YtbaokodhoiledaaRd3
namespace Go.Proofs.Ytbaokodhoiledaa
open Go Go.RowKit

/-- What was read, and what is left, or that something failed. -/
structure Got where
  kd : Nat
  rl : Nat
  ep : Nat
  ids : List (List Nat)
  bs : List Nat
  st : Option (List Nat)
def st1 (b : List Nat) : Option (List Nat) := (readN 3 (some b)).2
def st2 (b : List Nat) : Option (List Nat) := (readN 4294967295 (st1 b)).2
def st3 (b : List Nat) : Option (List Nat) := (readN 4294967295 (st2 b)).2
def st4 (b : List Nat) : Option (List Nat) := (readIds 1000 (st3 b)).2
def st5 (b : List Nat) : Option (List Nat) := (readText 70000 (st4 b)).2
def gKd (b : List Nat) : Nat := (readN 3 (some b)).1
def gRl (b : List Nat) : Nat := (readN 4294967295 (st1 b)).1
def gEp (b : List Nat) : Nat := (readN 4294967295 (st2 b)).1
def gIds (b : List Nat) : List (List Nat) := (readIds 1000 (st3 b)).1
def gBs (b : List Nat) : List Nat := (readText 70000 (st4 b)).1

theorem gKd_le (b : List Nat) : gKd b ≤ 3 := readN_le _ _
theorem gRl_lt (b : List Nat) : gRl b < 4294967296 := by have := readN_le 4294967295 (st1 b); unfold gRl; omega
theorem gEp_lt (b : List Nat) : gEp b < 4294967296 := by have := readN_le 4294967295 (st2 b); unfold gEp; omega

/-- A number that is read is written as it stood. -/
theorem readN_once {most : Nat} {st : Option (List Nat)} {r : List Nat} (hz : ∀ zs, st = some zs → ∀ z ∈ zs, z < 256) (h : (readN most st).2 = some r) : st = some (encN (readN most st).1 ++ r) ∧ ∀ z ∈ r, z < 256 := by
  cases st with
  | none => cases h
  | some zs =>
    have hzz := hz zs rfl
    cases hn : numL zs 0 0 with
    | none => rw [readN_bad hn] at h; cases h
    | some y =>
      obtain ⟨x, s⟩ := y
      obtain ⟨_, hs, _, ht⟩ := numL_size hzz hn
      by_cases hm : most < x
      · rw [readN_over hn hm] at h; cases h
      · rw [readN_some hn hm] at h ⊢
        cases h
        exact ⟨by rw [← ht, List.take_append_drop], fun z hz => hzz z (List.mem_of_mem_drop hz)⟩
theorem idsOf_flat (zs : List Nat) : ∀ n, (idsOf zs n).flatten = zs.take (32 * n)
  | 0 => by simp [idsOf]
  | n + 1 => by
    rw [idsOf_succ, List.flatten_append, idsOf_flat zs n]
    simp only [List.flatten_cons, List.flatten_nil, List.append_nil]
    rw [show 32 * (n + 1) = 32 * n + 32 by omega, List.take_add]
theorem idsOf_all {zs : List Nat} {n : Nat} (hn : 32 * n ≤ zs.length) (hz : ∀ z ∈ zs, z < 256) : ∀ x ∈ idsOf zs n, x.length = 32 ∧ ∀ z ∈ x, z < 256 := by
  intro x hx
  obtain ⟨j, hj, rfl⟩ := List.mem_map.1 hx
  have hj := List.mem_range.1 hj
  exact ⟨by simp; omega, fun z h => hz z (List.mem_of_mem_drop (List.mem_of_mem_take h))⟩
theorem readCount_le (z : Nat) (st : Option (List Nat)) : (readCount (z : Int) st).1 ≤ z := by
  unfold readCount
  rw [if_neg (by omega)]
  exact readN_le _ _
theorem readIds_once {z : Nat} {st : Option (List Nat)} {r : List Nat} (hz : ∀ zs, st = some zs → ∀ z ∈ zs, z < 256) (h : (readIds (z : Int) st).2 = some r) :
    st = some (encIds (readIds (z : Int) st).1 ++ r) ∧ ∀ z ∈ r, z < 256 := by
  unfold readIds at h ⊢
  have e : readCount (z : Int) st = readN z st := by unfold readCount; rw [if_neg (by omega)]; simp
  rw [e] at h ⊢
  cases hr : (readN z st).2 with
  | none => rw [hr] at h; cases h
  | some zs =>
    obtain ⟨h1, h2⟩ := readN_once hz hr
    rw [hr] at h
    generalize (readN z st).1 = n at *
    by_cases hl : zs.length / 32 < n
    · rw [takeIds, if_pos hl] at h; cases h
    · rw [takeIds, if_neg hl] at h ⊢
      cases h
      refine ⟨?_, fun z hz => h2 z (List.mem_of_mem_drop hz)⟩
      dsimp only
      rw [h1, encIds, idsOf_length, idsOf_flat, List.append_assoc, List.take_append_drop]
theorem readIds_all {z : Nat} {st : Option (List Nat)} (hz : ∀ zs, st = some zs → ∀ z ∈ zs, z < 256) : (∀ x ∈ (readIds (z : Int) st).1, x.length = 32 ∧ ∀ z ∈ x, z < 256) ∧ (readIds (z : Int) st).1.length ≤ z := by
  unfold readIds
  have e : readCount (z : Int) st = readN z st := by unfold readCount; rw [if_neg (by omega)]; simp
  rw [e]
  have hle := readN_le z st
  cases hr : (readN z st).2 with
  | none => exact ⟨by simp [takeIds], Nat.zero_le _⟩
  | some zs =>
    obtain ⟨h1, h2⟩ := readN_once hz hr
    generalize (readN z st).1 = n at *
    by_cases hl : zs.length / 32 < n
    · rw [takeIds, if_pos hl]; exact ⟨by simp, Nat.zero_le _⟩
    · rw [takeIds, if_neg hl]
      exact ⟨idsOf_all (by omega) h2, by rw [idsOf_length]; exact hle⟩
theorem readText_once {z : Nat} {st : Option (List Nat)} {r : List Nat} (hz : ∀ zs, st = some zs → ∀ z ∈ zs, z < 256) (h : (readText (z : Int) st).2 = some r) :
    st = some (encText (readText (z : Int) st).1 ++ r) := by
  unfold readText at h ⊢
  have e : readCount (z : Int) st = readN z st := by unfold readCount; rw [if_neg (by omega)]; simp
  rw [e] at h ⊢
  cases hr : (readN z st).2 with
  | none => rw [hr] at h; cases h
  | some zs =>
    obtain ⟨h1, h2⟩ := readN_once hz hr
    rw [hr] at h
    generalize (readN z st).1 = n at *
    by_cases hl : n ≤ zs.length
    · rw [readRaw_in hl] at h ⊢
      cases h
      dsimp only
      rw [h1, encText, List.length_take, Nat.min_eq_left hl, List.append_assoc, List.take_append_drop]
    · rw [readRaw, if_pos (.inr (by omega))] at h; cases h
theorem readText_all {z : Nat} {st : Option (List Nat)} (hz : ∀ zs, st = some zs → ∀ z ∈ zs, z < 256) : (∀ x ∈ (readText (z : Int) st).1, x < 256) ∧ (readText (z : Int) st).1.length ≤ z := by
  unfold readText
  have e : readCount (z : Int) st = readN z st := by unfold readCount; rw [if_neg (by omega)]; simp
  rw [e]
  have hle := readN_le z st
  cases hr : (readN z st).2 with
  | none => exact ⟨by simp [readRaw], Nat.zero_le _⟩
  | some zs =>
    obtain ⟨h1, h2⟩ := readN_once hz hr
    generalize (readN z st).1 = n at *
    by_cases hl : n ≤ zs.length
    · rw [readRaw_in hl]
      exact ⟨fun x hx => h2 x (List.mem_of_mem_take hx), by simp; omega⟩
    · rw [readRaw, if_pos (.inr (by omega))]; exact ⟨by simp, Nat.zero_le _⟩

section
variable {b : List Nat} (hb : ∀ z ∈ b, z < 256)
theorem st0_all (hb : ∀ z ∈ b, z < 256) : ∀ zs, (some b : Option (List Nat)) = some zs → ∀ z ∈ zs, z < 256 := fun zs h => by cases h; exact hb
theorem st1_all (hb : ∀ z ∈ b, z < 256) : ∀ zs, st1 b = some zs → ∀ z ∈ zs, z < 256 := fun _ h => (readN_once (st0_all hb) h).2
theorem st2_all (hb : ∀ z ∈ b, z < 256) : ∀ zs, st2 b = some zs → ∀ z ∈ zs, z < 256 := fun _ h => (readN_once (st1_all hb) h).2
theorem st3_all (hb : ∀ z ∈ b, z < 256) : ∀ zs, st3 b = some zs → ∀ z ∈ zs, z < 256 := fun _ h => (readN_once (st2_all hb) h).2
theorem st4_all (hb : ∀ z ∈ b, z < 256) : ∀ zs, st4 b = some zs → ∀ z ∈ zs, z < 256 := fun _ h => (readIds_once (z := 1000) (st3_all hb) h).2
theorem gIds_all (hb : ∀ z ∈ b, z < 256) : (∀ x ∈ gIds b, x.length = 32 ∧ ∀ z ∈ x, z < 256) ∧ (gIds b).length ≤ 1000 := readIds_all (z := 1000) (st3_all hb)
theorem gBs_all (hb : ∀ z ∈ b, z < 256) : (∀ x ∈ gBs b, x < 256) ∧ (gBs b).length ≤ 70000 := readText_all (z := 70000) (st4_all hb)
theorem endE_zero {st : Option (List Nat)} (h : endE st = 0) : st = some [] := by
  cases st with
  | none => simp [endE] at h
  | some zs =>
    by_cases hl : 0 < zs.length
    · simp only [endE, if_pos hl] at h
      omega
    · rw [List.eq_nil_of_length_eq_zero (l := zs) (by omega)]
/-- What is read, all of it, is written as it stood. -/
theorem got_once (hb : ∀ z ∈ b, z < 256) (h : endE (st5 b) = 0) : putE (gKd b) (gRl b) (gEp b) (gIds b) (gBs b) = b := by
  have h5 := endE_zero h
  have e4 := readText_once (z := 70000) (st4_all hb) h5
  have e3 := readIds_once (z := 1000) (st3_all hb) (show (readIds ((1000 : Nat) : Int) (st3 b)).2 = _ from e4)
  have e2 := readN_once (st2_all hb) (show (readN 4294967295 (st2 b)).2 = _ from e3.1)
  have e1 := readN_once (st1_all hb) (show (readN 4294967295 (st1 b)).2 = _ from e2.1)
  have e0 := readN_once (st0_all hb) (show (readN 3 (some b)).2 = _ from e1.1)
  have := Option.some.inj e0.1
  rw [List.append_nil] at this
  unfold putE headL gKd gRl gEp gIds gBs
  refine Eq.trans ?_ this.symm
  simp only [List.append_assoc]
  rfl
end

/-- What was written is read. -/
theorem readN_back {most n : Nat} (r : List Nat) (hn : n < 18446744073709551616) (hm : n ≤ most) : readN most (some (encN n ++ r)) = (n, some r) := by
  rw [readN_some (numL_back n hn r) (by omega)]
  simp
theorem idsOf_flatten : ∀ (ids : List (List Nat)) (r : List Nat), (∀ x ∈ ids, x.length = 32 ∧ ∀ z ∈ x, z < 256) → idsOf (ids.flatten ++ r) ids.length = ids := by
  intro ids r h
  unfold idsOf
  apply List.ext_getElem
  · simp
  · intro i h1 h2
    have hi : i < ids.length := h2
    simp only [List.getElem_map, List.getElem_range]
    have hfl : 32 * i + 32 ≤ ids.flatten.length := by
      have : ∀ (l : List (List Nat)), (∀ x ∈ l, x.length = 32 ∧ ∀ z ∈ x, z < 256) → l.flatten.length = 32 * l.length := by
        intro l
        induction l with
        | nil => intro _; simp
        | cons a t ih => intro hl; have := ih (fun x hx => hl x (List.mem_cons_of_mem _ hx)); have := (hl a List.mem_cons_self).1; simp [*]; omega
      rw [this ids h]; omega
    rw [List.drop_append_of_le_length (by omega), List.take_append_of_le_length (by rw [List.length_drop]; omega), show 32 * i = i * 32 by omega, flat_drop h i hi]
    simp [List.getElem?_eq_getElem hi]
theorem readIds_back {z : Nat} {ids : List (List Nat)} (r : List Nat) (h : ∀ x ∈ ids, x.length = 32 ∧ ∀ z ∈ x, z < 256) (hl : ids.length ≤ z) (hz : z < 18446744073709551616) : readIds (z : Int) (some (encIds ids ++ r)) = (ids, some r) := by
  unfold readIds
  have e : readCount (z : Int) (some (encIds ids ++ r)) = (ids.length, some (ids.flatten ++ r)) := by
    unfold readCount
    rw [if_neg (by omega), encIds, List.append_assoc]
    simpa using readN_back (most := z) (n := ids.length) (ids.flatten ++ r) (by omega) hl
  rw [e]
  have hfl : ids.flatten.length = 32 * ids.length := by
    have : ∀ (l : List (List Nat)), (∀ x ∈ l, x.length = 32 ∧ ∀ z ∈ x, z < 256) → l.flatten.length = 32 * l.length := by
      intro l
      induction l with
      | nil => intro _; simp
      | cons a t ih => intro hl; have := ih (fun x hx => hl x (List.mem_cons_of_mem _ hx)); have := (hl a List.mem_cons_self).1; simp [*]; omega
    exact this ids h
  dsimp only
  rw [takeIds, if_neg (by simp [hfl]; omega), idsOf_flatten ids r h]
  simp [hfl]
theorem readText_back {z : Nat} {t : List Nat} (r : List Nat) (hl : t.length ≤ z) (hz : z < 18446744073709551616) : readText (z : Int) (some (encText t ++ r)) = (t, some r) := by
  unfold readText
  have e : readCount (z : Int) (some (encText t ++ r)) = (t.length, some (t ++ r)) := by
    unfold readCount
    rw [if_neg (by omega), encText, List.append_assoc]
    simpa using readN_back (most := z) (n := t.length) (t ++ r) (by omega) hl
  rw [e]
  dsimp only
  rw [readRaw_in (by simp)]
  simp
theorem got_back {kd rl ep : Nat} {ids : List (List Nat)} {bs : List Nat} (hk : kd ≤ 3) (hr : rl < 4294967296) (he : ep < 4294967296) (hi : ∀ x ∈ ids, x.length = 32 ∧ ∀ z ∈ x, z < 256) (hl : ids.length ≤ 1000) (hb : bs.length ≤ 70000) :
    gKd (putE kd rl ep ids bs) = kd ∧ gRl (putE kd rl ep ids bs) = rl ∧ gEp (putE kd rl ep ids bs) = ep ∧ gIds (putE kd rl ep ids bs) = ids ∧ gBs (putE kd rl ep ids bs) = bs ∧ st5 (putE kd rl ep ids bs) = some [] := by
  have e : putE kd rl ep ids bs = encN kd ++ (encN rl ++ (encN ep ++ (encIds ids ++ (encText bs ++ [])))) := by unfold putE headL; simp
  have h1 := readN_back (most := 3) (n := kd) (encN rl ++ (encN ep ++ (encIds ids ++ (encText bs ++ [])))) (by omega) hk
  have h2 := readN_back (most := 4294967295) (n := rl) (encN ep ++ (encIds ids ++ (encText bs ++ []))) (by omega) (by omega)
  have h3 := readN_back (most := 4294967295) (n := ep) (encIds ids ++ (encText bs ++ [])) (by omega) (by omega)
  have h4 := readIds_back (z := 1000) (encText bs ++ []) hi hl (by omega)
  have h5 := readText_back (z := 70000) (t := bs) [] hb (by omega)
  rw [← e] at h1
  have s1 : st1 (putE kd rl ep ids bs) = some (encN rl ++ (encN ep ++ (encIds ids ++ (encText bs ++ [])))) := congrArg (·.2) h1
  have s2 : st2 (putE kd rl ep ids bs) = some (encN ep ++ (encIds ids ++ (encText bs ++ []))) := by unfold st2; rw [s1]; exact congrArg (·.2) h2
  have s3 : st3 (putE kd rl ep ids bs) = some (encIds ids ++ (encText bs ++ [])) := by unfold st3; rw [s2]; exact congrArg (·.2) h3
  have s4 : st4 (putE kd rl ep ids bs) = some (encText bs ++ []) := by unfold st4; rw [s3]; exact congrArg (·.2) h4
  refine ⟨congrArg (·.1) h1, ?_, ?_, ?_, ?_, ?_⟩
  · unfold gRl; rw [s1]; exact congrArg (·.1) h2
  · unfold gEp; rw [s2]; exact congrArg (·.1) h3
  · unfold gIds; rw [s3]; exact congrArg (·.1) h4
  · unfold gBs; rw [s4]; exact congrArg (·.1) h5
  · unfold st5; rw [s4]; exact congrArg (·.2) h5

/-- Whether bytes are an envelope that may be. -/
def isEnv (b : List Nat) : Bool := decide (endE (st5 b) = 0) && (okKind (gKd b) && riseB (gIds b))
end Go.Proofs.Ytbaokodhoiledaa
