/-
  Reading a request and a reply, on lists: what stands behind each part; that what is read is what was written, and the other way round.
-/
import Derived.Test.YtedpgdldekkgdaaReq
import Derived.Test.YtedpgdldekkgdaaTxt
import Derived.Test.YtedpgdldekkgdaaRfIds
import Derived.Test.YtedpgdldekkgdaaRd3
namespace Go.Proofs.Ytedpgdldekkgdaa
open Go.RowKit Go.Shelf


/-- Bytes ahead are such. -/
def Ahead (st : Option (List Nat)) : Prop := ∀ zs, st = some zs → ∀ z ∈ zs, z < 256

theorem readN_once {most : Nat} {st : Option (List Nat)} {r : List Nat} (hz : Ahead st) (h : (readN most st).2 = some r) : st = some (encN (readN most st).1 ++ r) ∧ ∀ z ∈ r, z < 256 := by
  cases st with
  | none => cases h
  | some zs =>
    have hzz := hz zs rfl
    cases hn : numL zs 0 0 with
    | none => rw [readN_bad hn] at h; cases h
    | some y =>
      obtain ⟨x, s⟩ := y
      obtain ⟨_, hs, _, ht⟩ := numL_size hzz hn
      by_cases hm : most < x
      · rw [readN_over hn hm] at h; cases h
      · rw [readN_some hn hm] at h ⊢
        cases h
        exact ⟨by rw [← ht, List.take_append_drop], fun z hz => hzz z (List.mem_of_mem_drop hz)⟩
theorem readText_once {z : Nat} {st : Option (List Nat)} {r : List Nat} (hz : Ahead st) (h : (readText (z : Int) st).2 = some r) :
    st = some (encText (readText (z : Int) st).1 ++ r) ∧ ∀ z ∈ r, z < 256 := by
  unfold readText at h ⊢
  have e : readCount (z : Int) st = readN z st := by unfold readCount; rw [if_neg (by omega)]; simp
  rw [e] at h ⊢
  cases hr : (readN z st).2 with
  | none => rw [hr] at h; cases h
  | some zs =>
    obtain ⟨h1, h2⟩ := readN_once hz hr
    rw [hr] at h
    generalize (readN z st).1 = n at *
    by_cases hl : n ≤ zs.length
    · rw [readRaw_in hl] at h ⊢
      cases h
      dsimp only
      rw [h1, encText, List.length_take, Nat.min_eq_left hl, List.append_assoc, List.take_append_drop]
      exact ⟨rfl, fun z hz => h2 z (List.mem_of_mem_drop hz)⟩
    · rw [readRaw, if_pos (.inr (by omega))] at h; cases h
theorem readText_all {z : Nat} {st : Option (List Nat)} (hz : Ahead st) : (∀ x ∈ (readText (z : Int) st).1, x < 256) ∧ (readText (z : Int) st).1.length ≤ z := by
  unfold readText
  have e : readCount (z : Int) st = readN z st := by unfold readCount; rw [if_neg (by omega)]; simp
  rw [e]
  have hle := readN_le z st
  cases hr : (readN z st).2 with
  | none => exact ⟨by simp [readRaw], Nat.zero_le _⟩
  | some zs =>
    obtain ⟨h1, h2⟩ := readN_once hz hr
    generalize (readN z st).1 = n at *
    by_cases hl : n ≤ zs.length
    · rw [readRaw_in hl]
      exact ⟨fun x hx => h2 x (List.mem_of_mem_take hx), by simp; omega⟩
    · rw [readRaw, if_pos (.inr (by omega))]; exact ⟨by simp, Nat.zero_le _⟩
theorem endE_zero {st : Option (List Nat)} (h : endE st = 0) : st = some [] := by
  cases st with
  | none => simp [endE] at h
  | some zs =>
    by_cases hl : 0 < zs.length
    · simp only [endE, if_pos hl] at h
      omega
    · rw [List.eq_nil_of_length_eq_zero (l := zs) (by omega)]
theorem readN_back {most n : Nat} (r : List Nat) (hn : n < 18446744073709551616) (hm : n ≤ most) : readN most (some (encN n ++ r)) = (n, some r) := by
  rw [readN_some (numL_back n hn r) (by omega)]
  simp
theorem readText_back {z : Nat} {t : List Nat} (r : List Nat) (hl : t.length ≤ z) (hz : z < 18446744073709551616) : readText (z : Int) (some (encText t ++ r)) = (t, some r) := by
  unfold readText
  have e : readCount (z : Int) (some (encText t ++ r)) = (t.length, some (t ++ r)) := by
    unfold readCount
    rw [if_neg (by omega), encText, List.append_assoc]
    simpa using readN_back (most := z) (n := t.length) (t ++ r) (by omega) hl
  rw [e]
  dsimp only
  rw [readRaw_in (by simp)]
  simp
theorem readRaw_once {st : Option (List Nat)} {r : List Nat} (hz : Ahead st) (h : (readRaw 32 st).2 = some r) : st = some (idR st ++ r) ∧ ∀ z ∈ r, z < 256 := by
  cases st with
  | none => simp [readRaw] at h
  | some zs =>
    rcases Nat.lt_or_ge zs.length 32 with h' | h'
    · rw [readRaw_out32 h'] at h; cases h
    · unfold idR
      rw [readRaw_in32 h'] at h ⊢
      cases h
      rw [if_pos (by simp; omega), List.take_append_drop]
      exact ⟨rfl, fun z hzz => hz zs rfl z (List.mem_of_mem_drop hzz)⟩
theorem readRaw_back {x : List Nat} (r : List Nat) (hx : x.length = 32) : idR (some (x ++ r)) = x ∧ (readRaw 32 (some (x ++ r))).2 = some r := by
  unfold idR
  rw [readRaw_in32 (by simp; omega), List.take_append_of_le_length (by omega), List.take_of_length_le (by omega)]
  refine ⟨if_pos hx, ?_⟩
  show some (List.drop 32 (x ++ r)) = _
  rw [← hx, List.drop_left]


theorem idR_ok {st : Option (List Nat)} (hz : Ahead st) : IsId (idR st) := by
  unfold idR
  split
  · rename_i h
    refine ⟨h, fun z hzz => ?_⟩
    cases st with
    | none => simp [readRaw] at h
    | some zs =>
      rcases Nat.lt_or_ge zs.length 32 with h' | h'
      · rw [readRaw_out32 h'] at h; simp at h
      · rw [readRaw_in32 h'] at hzz; exact hz zs rfl z (List.mem_of_mem_take hzz)
  · exact ⟨by simp, fun z hzz => by rw [List.eq_of_mem_replicate hzz]; omega⟩
theorem strOf_size (l : List Nat) : (strOf l).size = l.length := by
  have := congrArg List.length (strOf_toList l)
  rw [List.length_map, ByteArray.toList_eq] at this
  simpa using this
theorem nameL_strOf {l : List Nat} (h : ∀ z ∈ l, z < 256) : nameL (strOf l) = l := by
  have hz := strOf_toList l
  rw [ByteArray.toList_eq] at hz
  rw [nameL, bytesOf, hz, List.map_map]
  conv => rhs; rw [← List.map_id l]
  refine List.map_congr_left (fun z hzz => ?_)
  have := h z hzz
  simp; omega

theorem ahead_some {b : List Nat} (h : ∀ z ∈ b, z < 256) : Ahead (some b) := fun zs e => by cases e; exact h

/-- What stands behind each part of a request; the request; its body. -/
def q1 (st : Option (List Nat)) : Option (List Nat) := (readN 4294967295 st).2
def q2 (st : Option (List Nat)) : Option (List Nat) := (readN 18446744073709551615 (q1 st)).2
def q3 (st : Option (List Nat)) : Option (List Nat) := (readN 10 (q2 st)).2
def q4 (st : Option (List Nat)) : Option (List Nat) := (readN 4294967295 (q3 st)).2
def q5 (st : Option (List Nat)) : Option (List Nat) := (readText 64 (q4 st)).2
def q6 (st : Option (List Nat)) : Option (List Nat) := (readRaw 32 (q5 st)).2
def q7 (st : Option (List Nat)) : Option (List Nat) := (readRaw 32 (q6 st)).2
def q8 (st : Option (List Nat)) : Option (List Nat) := (readN 18446744073709551615 (q7 st)).2
def q9 (st : Option (List Nat)) : Option (List Nat) := (readText 110000 (q8 st)).2
def rdQ (st : Option (List Nat)) : Req := ⟨(readN 4294967295 st).1, (readN 18446744073709551615 (q1 st)).1, ((readN 10 (q2 st)).1 : Nat), (readN 4294967295 (q3 st)).1, strOf (readText 64 (q4 st)).1, idR (q5 st), idR (q6 st), (readN 18446744073709551615 (q7 st)).1⟩
def bdQ (st : Option (List Nat)) : List Nat := (readText 110000 (q8 st)).1
theorem Ahead.q1 {st : Option (List Nat)} (h : Ahead st) : Ahead (q1 st) := fun _ h' => (readN_once h h').2
theorem Ahead.q2 {st : Option (List Nat)} (h : Ahead st) : Ahead (q2 st) := fun _ h' => (readN_once h.q1 h').2
theorem Ahead.q3 {st : Option (List Nat)} (h : Ahead st) : Ahead (q3 st) := fun _ h' => (readN_once h.q2 h').2
theorem Ahead.q4 {st : Option (List Nat)} (h : Ahead st) : Ahead (q4 st) := fun _ h' => (readN_once h.q3 h').2
theorem Ahead.q5 {st : Option (List Nat)} (h : Ahead st) : Ahead (q5 st) := fun _ h' => (readText_once (z := 64) h.q4 h').2
theorem Ahead.q6 {st : Option (List Nat)} (h : Ahead st) : Ahead (q6 st) := fun _ h' => (readRaw_once h.q5 h').2
theorem Ahead.q7 {st : Option (List Nat)} (h : Ahead st) : Ahead (q7 st) := fun _ h' => (readRaw_once h.q6 h').2
theorem Ahead.q8 {st : Option (List Nat)} (h : Ahead st) : Ahead (q8 st) := fun _ h' => (readN_once h.q7 h').2
theorem Ahead.q9 {st : Option (List Nat)} (h : Ahead st) : Ahead (q9 st) := fun _ h' => (readText_once (z := 110000) h.q8 h').2
theorem rdQ_ok {st : Option (List Nat)} (h : Ahead st) : (rdQ st).ok := by
  have k1 := readN_le 4294967295 st
  have k2 := readN_le 18446744073709551615 (q1 st)
  have k3 := readN_le 10 (q2 st)
  have k4 := readN_le 4294967295 (q3 st)
  have k8 := readN_le 18446744073709551615 (q7 st)
  exact ⟨by show _ < _; simp only [rdQ]; omega, by show _ < _; simp only [rdQ]; omega, by simp only [rdQ]; omega, by show _ < _; simp only [rdQ]; omega, idR_ok h.q5, idR_ok h.q6, by show _ < _; simp only [rdQ]; omega⟩
theorem rdQ_name {st : Option (List Nat)} (h : Ahead st) : (rdQ st).name.size ≤ 64 := by
  show (strOf _).size ≤ 64
  rw [strOf_size]
  exact (readText_all (z := 64) h.q4).2
theorem bdQ_all {st : Option (List Nat)} (h : Ahead st) : (∀ x ∈ bdQ st, x < 256) ∧ (bdQ st).length ≤ 110000 := readText_all (z := 110000) h.q8
/-- A request as bytes, behind the first one. -/
def encQ (r : Req) (b : List Nat) : List Nat := encN r.client ++ (encN r.seq ++ (encN r.kind.toNat ++ (encN r.tenant ++ (encText (nameL r.name) ++ (r.id ++ (r.old ++ (encN r.n ++ encText b)))))))
/-- Whether a request may be. -/
def mayQ (r : Req) (b : List Nat) : Bool := decide (1 ≤ r.kind) && (decide (r.kind ≤ 10) && (decide (r.name.size ≤ 64) && decide (b.length ≤ 110000)))
theorem rdQ_once {st : Option (List Nat)} {r : List Nat} (h : Ahead st) (hr : q9 st = some r) : st = some (encQ (rdQ st) (bdQ st) ++ r) := by
  have h9 := (readText_once (z := 110000) h.q8 hr).1
  have h8 := (readN_once h.q7 h9).1
  have h7 := (readRaw_once h.q6 h8).1
  have h6 := (readRaw_once h.q5 h7).1
  have h5 := (readText_once (z := 64) h.q4 h6).1
  have h4 := (readN_once h.q3 h5).1
  have h3 := (readN_once h.q2 h4).1
  have h2 := (readN_once h.q1 h3).1
  have h1 := (readN_once h h2).1
  have e5 : nameL (strOf (readText 64 (q4 st)).1) = (readText 64 (q4 st)).1 := nameL_strOf (readText_all (z := 64) h.q4).1
  refine h1.trans ?_
  unfold encQ rdQ bdQ
  dsimp only
  rw [e5, Int.toNat_natCast]
  simp only [List.append_assoc]
  rfl
theorem q_back {x : Req} {b : List Nat} (h : x.ok) (hm : mayQ x b = true) (r : List Nat) : rdQ (some (encQ x b ++ r)) = x ∧ bdQ (some (encQ x b ++ r)) = b ∧ q9 (some (encQ x b ++ r)) = some r := by
  simp only [mayQ, Bool.and_eq_true, decide_eq_true_eq] at hm
  obtain ⟨hk1, hk2, hnm, hbl⟩ := hm
  obtain ⟨k, hk⟩ : ∃ k : Nat, x.kind = (k : Int) := ⟨x.kind.toNat, by omega⟩
  have a1 := readN_back (most := 4294967295) (n := x.client) (encN x.seq ++ (encN x.kind.toNat ++ (encN x.tenant ++ (encText (nameL x.name) ++ (x.id ++ (x.old ++ (encN x.n ++ encText b)))))) ++ r) (by have := h.client; omega) (by have := h.client; omega)
  have a2 := readN_back (most := 18446744073709551615) (n := x.seq) (encN x.kind.toNat ++ (encN x.tenant ++ (encText (nameL x.name) ++ (x.id ++ (x.old ++ (encN x.n ++ encText b))))) ++ r) (by have := h.seq; omega) (by have := h.seq; omega)
  have a3 := readN_back (most := 10) (n := x.kind.toNat) (encN x.tenant ++ (encText (nameL x.name) ++ (x.id ++ (x.old ++ (encN x.n ++ encText b)))) ++ r) (by omega) (by omega)
  have a4 := readN_back (most := 4294967295) (n := x.tenant) (encText (nameL x.name) ++ (x.id ++ (x.old ++ (encN x.n ++ encText b))) ++ r) (by have := h.tenant; omega) (by have := h.tenant; omega)
  have a5 := readText_back (z := 64) (t := nameL x.name) (x.id ++ (x.old ++ (encN x.n ++ encText b)) ++ r) (by rw [nameL_length]; exact hnm) (by omega)
  have a6 := readRaw_back (x := x.id) (x.old ++ (encN x.n ++ encText b) ++ r) h.id.1
  have a7 := readRaw_back (x := x.old) (encN x.n ++ encText b ++ r) h.old.1
  have a8 := readN_back (most := 18446744073709551615) (n := x.n) (encText b ++ r) (by have := h.n; omega) (by have := h.n; omega)
  have a9 := readText_back (z := 110000) (t := b) r hbl (by omega)
  have E : encQ x b ++ r = encN x.client ++ (encN x.seq ++ (encN x.kind.toNat ++ (encN x.tenant ++ (encText (nameL x.name) ++ (x.id ++ (x.old ++ (encN x.n ++ encText b)))))) ++ r) := by unfold encQ; simp only [List.append_assoc]
  have E1 : q1 (some (encQ x b ++ r)) = some (encN x.seq ++ (encN x.kind.toNat ++ (encN x.tenant ++ (encText (nameL x.name) ++ (x.id ++ (x.old ++ (encN x.n ++ encText b))))) ++ r)) := by rw [E]; unfold q1; rw [a1]; simp only [List.append_assoc]
  have E2 : q2 (some (encQ x b ++ r)) = some (encN x.kind.toNat ++ (encN x.tenant ++ (encText (nameL x.name) ++ (x.id ++ (x.old ++ (encN x.n ++ encText b)))) ++ r)) := by unfold q2; rw [E1, a2]; simp only [List.append_assoc]
  have E3 : q3 (some (encQ x b ++ r)) = some (encN x.tenant ++ (encText (nameL x.name) ++ (x.id ++ (x.old ++ (encN x.n ++ encText b))) ++ r)) := by unfold q3; rw [E2, a3]; simp only [List.append_assoc]
  have E4 : q4 (some (encQ x b ++ r)) = some (encText (nameL x.name) ++ (x.id ++ (x.old ++ (encN x.n ++ encText b)) ++ r)) := by unfold q4; rw [E3, a4]; simp only [List.append_assoc]
  have E5 : q5 (some (encQ x b ++ r)) = some (x.id ++ (x.old ++ (encN x.n ++ encText b) ++ r)) := by
    unfold q5
    rw [E4]
    refine (congrArg Prod.snd a5).trans ?_
    simp only [List.append_assoc]
  have E6 : q6 (some (encQ x b ++ r)) = some (x.old ++ (encN x.n ++ encText b ++ r)) := by unfold q6; rw [E5, a6.2]; simp only [List.append_assoc]
  have E7 : q7 (some (encQ x b ++ r)) = some (encN x.n ++ (encText b ++ r)) := by unfold q7; rw [E6, a7.2]; simp only [List.append_assoc]
  have E8 : q8 (some (encQ x b ++ r)) = some (encText b ++ r) := by unfold q8; rw [E7, a8]
  have E9 : q9 (some (encQ x b ++ r)) = some r := by
    unfold q9
    rw [E8]
    exact congrArg Prod.snd a9
  refine ⟨?_, ?_, E9⟩
  · unfold rdQ
    rw [E1, E2, E3, E4, E5, E6, E7, E, a1, a2, a3, a4, a6.1, a7.1, a8, show (readText 64 (some (encText (nameL x.name) ++ (x.id ++ (x.old ++ (encN x.n ++ encText b)) ++ r)))).1 = nameL x.name from congrArg Prod.fst a5, name_str]
    dsimp only
    rw [hk, Int.toNat_natCast, ← hk]
  · unfold bdQ
    rw [E8]
    exact congrArg Prod.fst a9

end Go.Proofs.Ytedpgdldekkgdaa
