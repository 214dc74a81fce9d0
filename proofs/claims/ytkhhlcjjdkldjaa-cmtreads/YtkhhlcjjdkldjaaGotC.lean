/-
  A commit, read out of bytes: what is read is written as it stood, and what was written is read.
-/
import Derived.Test.YtkhhlcjjdkldjaaPutC
import Derived.Test.YtkhhlcjjdkldjaaRfIds
import Derived.Test.YtkhhlcjjdkldjaaRdIds
namespace Go.Proofs.Ytkhhlcjjdkldjaa
open Go.RowKit Go.Shelf

def Ahead (st : Option (List Nat)) : Prop := ∀ zs, st = some zs → ∀ z ∈ zs, z < 256
theorem readN_once {most : Nat} {st : Option (List Nat)} {r : List Nat} (hz : Ahead st) (h : (readN most st).2 = some r) : st = some (encN (readN most st).1 ++ r) ∧ ∀ z ∈ r, z < 256 := by
  cases st with
  | none => cases h
  | some zs =>
    have hzz := hz zs rfl
    cases hn : numL zs 0 0 with
    | none => rw [readN_bad hn] at h; cases h
    | some y =>
      obtain ⟨x, s⟩ := y
      obtain ⟨_, hs, _, ht⟩ := numL_size hzz hn
      by_cases hm : most < x
      · rw [readN_over hn hm] at h; cases h
      · rw [readN_some hn hm] at h ⊢
        cases h
        exact ⟨by rw [← ht, List.take_append_drop], fun z hz => hzz z (List.mem_of_mem_drop hz)⟩
theorem readText_once {z : Nat} {st : Option (List Nat)} {r : List Nat} (hz : Ahead st) (h : (readText (z : Int) st).2 = some r) :
    st = some (encText (readText (z : Int) st).1 ++ r) ∧ ∀ z ∈ r, z < 256 := by
  unfold readText at h ⊢
  have e : readCount (z : Int) st = readN z st := by unfold readCount; rw [if_neg (by omega)]; simp
  rw [e] at h ⊢
  cases hr : (readN z st).2 with
  | none => rw [hr] at h; cases h
  | some zs =>
    obtain ⟨h1, h2⟩ := readN_once hz hr
    rw [hr] at h
    generalize (readN z st).1 = n at *
    by_cases hl : n ≤ zs.length
    · rw [readRaw_in hl] at h ⊢
      cases h
      dsimp only
      rw [h1, encText, List.length_take, Nat.min_eq_left hl, List.append_assoc, List.take_append_drop]
      exact ⟨rfl, fun z hz => h2 z (List.mem_of_mem_drop hz)⟩
    · rw [readRaw, if_pos (.inr (by omega))] at h; cases h
theorem readText_all {z : Nat} {st : Option (List Nat)} (hz : Ahead st) : (∀ x ∈ (readText (z : Int) st).1, x < 256) ∧ (readText (z : Int) st).1.length ≤ z := by
  unfold readText
  have e : readCount (z : Int) st = readN z st := by unfold readCount; rw [if_neg (by omega)]; simp
  rw [e]
  have hle := readN_le z st
  cases hr : (readN z st).2 with
  | none => exact ⟨by simp [readRaw], Nat.zero_le _⟩
  | some zs =>
    obtain ⟨h1, h2⟩ := readN_once hz hr
    generalize (readN z st).1 = n at *
    by_cases hl : n ≤ zs.length
    · rw [readRaw_in hl]
      exact ⟨fun x hx => h2 x (List.mem_of_mem_take hx), by simp; omega⟩
    · rw [readRaw, if_pos (.inr (by omega))]; exact ⟨by simp, Nat.zero_le _⟩
theorem endE_zero {st : Option (List Nat)} (h : endE st = 0) : st = some [] := by
  cases st with
  | none => simp [endE] at h
  | some zs =>
    by_cases hl : 0 < zs.length
    · simp only [endE, if_pos hl] at h
      omega
    · rw [List.eq_nil_of_length_eq_zero (l := zs) (by omega)]
theorem readN_back {most n : Nat} (r : List Nat) (hn : n < 18446744073709551616) (hm : n ≤ most) : readN most (some (encN n ++ r)) = (n, some r) := by
  rw [readN_some (numL_back n hn r) (by omega)]
  simp
theorem readText_back {z : Nat} {t : List Nat} (r : List Nat) (hl : t.length ≤ z) (hz : z < 18446744073709551616) : readText (z : Int) (some (encText t ++ r)) = (t, some r) := by
  unfold readText
  have e : readCount (z : Int) (some (encText t ++ r)) = (t.length, some (t ++ r)) := by
    unfold readCount
    rw [if_neg (by omega), encText, List.append_assoc]
    simpa using readN_back (most := z) (n := t.length) (t ++ r) (by omega) hl
  rw [e]
  dsimp only
  rw [readRaw_in (by simp)]
  simp
theorem readRaw_once {st : Option (List Nat)} {r : List Nat} (hz : Ahead st) (h : (readRaw 32 st).2 = some r) : st = some (idR st ++ r) ∧ ∀ z ∈ r, z < 256 := by
  cases st with
  | none => simp [readRaw] at h
  | some zs =>
    rcases Nat.lt_or_ge zs.length 32 with h' | h'
    · rw [readRaw_out32 h'] at h; cases h
    · unfold idR
      rw [readRaw_in32 h'] at h ⊢
      cases h
      rw [if_pos (by simp; omega), List.take_append_drop]
      exact ⟨rfl, fun z hzz => hz zs rfl z (List.mem_of_mem_drop hzz)⟩
theorem readRaw_back {x : List Nat} (r : List Nat) (hx : x.length = 32) : idR (some (x ++ r)) = x ∧ (readRaw 32 (some (x ++ r))).2 = some r := by
  unfold idR
  rw [readRaw_in32 (by simp; omega), List.take_append_of_le_length (by omega), List.take_of_length_le (by omega)]
  refine ⟨if_pos hx, ?_⟩
  show some (List.drop 32 (x ++ r)) = _
  rw [← hx, List.drop_left]
theorem idR_ok {st : Option (List Nat)} (hz : Ahead st) : IsId (idR st) := by
  unfold idR
  split
  · rename_i h
    refine ⟨h, fun z hzz => ?_⟩
    cases st with
    | none => simp [readRaw] at h
    | some zs =>
      rcases Nat.lt_or_ge zs.length 32 with h' | h'
      · rw [readRaw_out32 h'] at h; simp at h
      · rw [readRaw_in32 h'] at hzz; exact hz zs rfl z (List.mem_of_mem_take hzz)
  · exact ⟨by simp, fun z hzz => by rw [List.eq_of_mem_replicate hzz]; omega⟩
theorem strOf_size (l : List Nat) : (strOf l).size = l.length := by
  have := congrArg List.length (strOf_toList l)
  rw [List.length_map, ByteArray.toList_eq] at this
  simpa using this
theorem nameL_strOf {l : List Nat} (h : ∀ z ∈ l, z < 256) : nameL (strOf l) = l := by
  have hz := strOf_toList l
  rw [ByteArray.toList_eq] at hz
  rw [nameL, bytesOf, hz, List.map_map]
  conv => rhs; rw [← List.map_id l]
  refine List.map_congr_left (fun z hzz => ?_)
  have := h z hzz
  simp; omega
theorem idsOf_flat (zs : List Nat) : ∀ n, (idsOf zs n).flatten = zs.take (32 * n)
  | 0 => by simp [idsOf]
  | n + 1 => by
    rw [idsOf_succ, List.flatten_append, idsOf_flat zs n]
    simp only [List.flatten_cons, List.flatten_nil, List.append_nil]
    rw [show 32 * (n + 1) = 32 * n + 32 by omega, List.take_add]
theorem idsOf_all {zs : List Nat} {n : Nat} (hn : 32 * n ≤ zs.length) (hz : ∀ z ∈ zs, z < 256) : ∀ x ∈ idsOf zs n, x.length = 32 ∧ ∀ z ∈ x, z < 256 := by
  intro x hx
  obtain ⟨j, hj, rfl⟩ := List.mem_map.1 hx
  have hj := List.mem_range.1 hj
  exact ⟨by simp; omega, fun z h => hz z (List.mem_of_mem_drop (List.mem_of_mem_take h))⟩
theorem idsOf_flatten : ∀ (ids : List (List Nat)) (r : List Nat), (∀ x ∈ ids, x.length = 32 ∧ ∀ z ∈ x, z < 256) → idsOf (ids.flatten ++ r) ids.length = ids := by
  intro ids r h
  unfold idsOf
  apply List.ext_getElem
  · simp
  · intro i h1 h2
    have hi : i < ids.length := h2
    simp only [List.getElem_map, List.getElem_range]
    have hfl : 32 * i + 32 ≤ ids.flatten.length := by
      have : ∀ (l : List (List Nat)), (∀ x ∈ l, x.length = 32 ∧ ∀ z ∈ x, z < 256) → l.flatten.length = 32 * l.length := by
        intro l
        induction l with
        | nil => intro _; simp
        | cons a t ih => intro hl; have := ih (fun x hx => hl x (List.mem_cons_of_mem _ hx)); have := (hl a List.mem_cons_self).1; simp [*]; omega
      rw [this ids h]; omega
    rw [List.drop_append_of_le_length (by omega), List.take_append_of_le_length (by rw [List.length_drop]; omega), show 32 * i = i * 32 by omega, flat_drop h i hi]
    simp [List.getElem?_eq_getElem hi]
theorem readIds_once {z : Nat} {st : Option (List Nat)} {r : List Nat} (hz : ∀ zs, st = some zs → ∀ z ∈ zs, z < 256) (h : (readIds (z : Int) st).2 = some r) :
    st = some (encIds (readIds (z : Int) st).1 ++ r) ∧ ∀ z ∈ r, z < 256 := by
  unfold readIds at h ⊢
  have e : readCount (z : Int) st = readN z st := by unfold readCount; rw [if_neg (by omega)]; simp
  rw [e] at h ⊢
  cases hr : (readN z st).2 with
  | none => rw [hr] at h; cases h
  | some zs =>
    obtain ⟨h1, h2⟩ := readN_once hz hr
    rw [hr] at h
    generalize (readN z st).1 = n at *
    by_cases hl : zs.length / 32 < n
    · rw [takeIds, if_pos hl] at h; cases h
    · rw [takeIds, if_neg hl] at h ⊢
      cases h
      refine ⟨?_, fun z hz => h2 z (List.mem_of_mem_drop hz)⟩
      dsimp only
      rw [h1, encIds, idsOf_length, idsOf_flat, List.append_assoc, List.take_append_drop]
theorem readIds_all {z : Nat} {st : Option (List Nat)} (hz : ∀ zs, st = some zs → ∀ z ∈ zs, z < 256) : (∀ x ∈ (readIds (z : Int) st).1, x.length = 32 ∧ ∀ z ∈ x, z < 256) ∧ (readIds (z : Int) st).1.length ≤ z := by
  unfold readIds
  have e : readCount (z : Int) st = readN z st := by unfold readCount; rw [if_neg (by omega)]; simp
  rw [e]
  have hle := readN_le z st
  cases hr : (readN z st).2 with
  | none => exact ⟨by simp [takeIds], Nat.zero_le _⟩
  | some zs =>
    obtain ⟨h1, h2⟩ := readN_once hz hr
    generalize (readN z st).1 = n at *
    by_cases hl : zs.length / 32 < n
    · rw [takeIds, if_pos hl]; exact ⟨by simp, Nat.zero_le _⟩
    · rw [takeIds, if_neg hl]
      exact ⟨idsOf_all (by omega) h2, by rw [idsOf_length]; exact hle⟩
theorem readIds_back {z : Nat} {ids : List (List Nat)} (r : List Nat) (h : ∀ x ∈ ids, x.length = 32 ∧ ∀ z ∈ x, z < 256) (hl : ids.length ≤ z) (hz : z < 18446744073709551616) : readIds (z : Int) (some (encIds ids ++ r)) = (ids, some r) := by
  unfold readIds
  have e : readCount (z : Int) (some (encIds ids ++ r)) = (ids.length, some (ids.flatten ++ r)) := by
    unfold readCount
    rw [if_neg (by omega), encIds, List.append_assoc]
    simpa using readN_back (most := z) (n := ids.length) (ids.flatten ++ r) (by omega) hl
  rw [e]
  have hfl : ids.flatten.length = 32 * ids.length := by
    have : ∀ (l : List (List Nat)), (∀ x ∈ l, x.length = 32 ∧ ∀ z ∈ x, z < 256) → l.flatten.length = 32 * l.length := by
      intro l
      induction l with
      | nil => intro _; simp
      | cons a t ih => intro hl; have := ih (fun x hx => hl x (List.mem_cons_of_mem _ hx)); have := (hl a List.mem_cons_self).1; simp [*]; omega
    exact this ids h
  dsimp only
  rw [takeIds, if_neg (by simp [hfl]; omega), idsOf_flatten ids r h]
  simp [hfl]

/-- What stands behind each part; the parts. -/
def s1 (b : List Nat) : Option (List Nat) := (readIds 2 (some b)).2
def s2 (b : List Nat) : Option (List Nat) := (readRaw 32 (s1 b)).2
def s3 (b : List Nat) : Option (List Nat) := (readRaw 32 (s2 b)).2
def s4 (b : List Nat) : Option (List Nat) := (readN 18446744073709551615 (s3 b)).2
def s5 (b : List Nat) : Option (List Nat) := (readN 4294967295 (s4 b)).2
def s6 (b : List Nat) : Option (List Nat) := (readText 4096 (s5 b)).2
def gP (b : List Nat) : List (List Nat) := (readIds 2 (some b)).1
def gQ (b : List Nat) : Nat := (readN 18446744073709551615 (s3 b)).1
def gA (b : List Nat) : Nat := (readN 4294967295 (s4 b)).1
def gT (b : List Nat) : List Nat := (readText 4096 (s5 b)).1
def gC (b : List Nat) : Cmt := ⟨idR (s1 b), idR (s2 b), gQ b, gA b, strOf (gT b)⟩
def isC (b : List Nat) : Bool := decide (endE (s6 b) = 0) && mayC (gP b) (gC b)
theorem ahead_some {b : List Nat} (h : ∀ z ∈ b, z < 256) : Ahead (some b) := fun zs e => by cases e; exact h
theorem s1_all {b : List Nat} (h : ∀ z ∈ b, z < 256) : Ahead (s1 b) := fun _ h' => (readIds_once (z := 2) (ahead_some h) h').2
theorem s2_all {b : List Nat} (h : ∀ z ∈ b, z < 256) : Ahead (s2 b) := fun _ h' => (readRaw_once (s1_all h) h').2
theorem s3_all {b : List Nat} (h : ∀ z ∈ b, z < 256) : Ahead (s3 b) := fun _ h' => (readRaw_once (s2_all h) h').2
theorem s4_all {b : List Nat} (h : ∀ z ∈ b, z < 256) : Ahead (s4 b) := fun _ h' => (readN_once (s3_all h) h').2
theorem s5_all {b : List Nat} (h : ∀ z ∈ b, z < 256) : Ahead (s5 b) := fun _ h' => (readN_once (s4_all h) h').2
theorem gP_all {b : List Nat} (h : ∀ z ∈ b, z < 256) : (∀ x ∈ gP b, x.length = 32 ∧ ∀ z ∈ x, z < 256) ∧ (gP b).length ≤ 2 := readIds_all (z := 2) (ahead_some h)
theorem gQ_lt (b : List Nat) : gQ b < 18446744073709551616 := by have := readN_le 18446744073709551615 (s3 b); unfold gQ; omega
theorem gA_lt (b : List Nat) : gA b < 4294967296 := by have := readN_le 4294967295 (s4 b); unfold gA; omega
theorem gT_all {b : List Nat} (h : ∀ z ∈ b, z < 256) : (∀ x ∈ gT b, x < 256) ∧ (gT b).length ≤ 4096 := readText_all (z := 4096) (s5_all h)
theorem gC_ok {b : List Nat} (h : ∀ z ∈ b, z < 256) : (gC b).ok := ⟨idR_ok (s1_all h), idR_ok (s2_all h), gQ_lt b, gA_lt b⟩
theorem gC_text {b : List Nat} (h : ∀ z ∈ b, z < 256) : (gC b).text.size ≤ 4096 := by show (strOf _).size ≤ _; rw [strOf_size]; exact (gT_all h).2
theorem got_once {b : List Nat} (h : ∀ z ∈ b, z < 256) (he : endE (s6 b) = 0) : encC (gP b) (gC b) = b := by
  obtain ⟨h5, _⟩ := readText_once (z := 4096) (s5_all h) (endE_zero he)
  obtain ⟨h4, _⟩ := readN_once (s4_all h) h5
  obtain ⟨h3, _⟩ := readN_once (s3_all h) h4
  obtain ⟨h2, _⟩ := readRaw_once (s2_all h) h3
  obtain ⟨h1, _⟩ := readRaw_once (s1_all h) h2
  obtain ⟨h0, _⟩ := readIds_once (z := 2) (ahead_some h) h1
  have hn : nameL (gC b).text = gT b := nameL_strOf (gT_all h).1
  have h0 := Option.some.inj h0
  rw [List.append_nil] at h0
  rw [encC, hn]
  exact h0.symm
theorem c_back {ids : List (List Nat)} {c : Cmt} (hi : ∀ x ∈ ids, x.length = 32 ∧ ∀ z ∈ x, z < 256) (hok : c.ok) (hm : mayC ids c = true) : gP (encC ids c) = ids ∧ gC (encC ids c) = c ∧ isC (encC ids c) = true := by
  have hm2 : ids.length ≤ 2 ∧ c.text.size ≤ 4096 := by
    simp only [mayC, Bool.and_eq_true, decide_eq_true_eq] at hm
    exact ⟨hm.1, hm.2.1⟩
  have t0 := readIds_back (z := 2) (c.root ++ (c.key ++ (encN c.seq ++ (encN c.author ++ encText (nameL c.text))))) hi hm2.1 (by omega)
  obtain ⟨a1, b1⟩ := readRaw_back (c.key ++ (encN c.seq ++ (encN c.author ++ encText (nameL c.text)))) hok.1.1
  obtain ⟨a2, b2⟩ := readRaw_back (encN c.seq ++ (encN c.author ++ encText (nameL c.text))) hok.2.1.1
  have t3 := readN_back (most := 18446744073709551615) (n := c.seq) (encN c.author ++ encText (nameL c.text)) hok.2.2.1 (by have := hok.2.2.1; omega)
  have t4 := readN_back (most := 4294967295) (n := c.author) (encText (nameL c.text)) (by have := hok.2.2.2; omega) (by have := hok.2.2.2; omega)
  have t5 := readText_back (z := 4096) (t := nameL c.text) [] (by rw [nameL_length]; exact hm2.2) (by omega)
  rw [List.append_nil] at t5
  have x0 : gP (encC ids c) = ids := congrArg Prod.fst t0
  have x1 : s1 (encC ids c) = some (c.root ++ (c.key ++ (encN c.seq ++ (encN c.author ++ encText (nameL c.text))))) := congrArg Prod.snd t0
  have x2 : s2 (encC ids c) = some (c.key ++ (encN c.seq ++ (encN c.author ++ encText (nameL c.text)))) := by rw [s2, x1]; exact b1
  have x3 : s3 (encC ids c) = some (encN c.seq ++ (encN c.author ++ encText (nameL c.text))) := by rw [s3, x2]; exact b2
  have x4 : s4 (encC ids c) = some (encN c.author ++ encText (nameL c.text)) := by rw [s4, x3]; exact congrArg Prod.snd t3
  have x5 : s5 (encC ids c) = some (encText (nameL c.text)) := by rw [s5, x4]; exact congrArg Prod.snd t4
  have x6 : s6 (encC ids c) = some [] := by rw [s6, x5]; exact congrArg Prod.snd t5
  have y3 : gQ (encC ids c) = c.seq := by rw [gQ, x3]; exact congrArg Prod.fst t3
  have y4 : gA (encC ids c) = c.author := by rw [gA, x4]; exact congrArg Prod.fst t4
  have y5 : gT (encC ids c) = nameL c.text := by rw [gT, x5]; exact congrArg Prod.fst t5
  have y : gC (encC ids c) = c := by rw [gC, x1, x2, a1, a2, y3, y4, y5, name_str]
  refine ⟨x0, y, ?_⟩
  rw [isC, x0, y, hm, x6]
  rfl
end Go.Proofs.Ytkhhlcjjdkldjaa
