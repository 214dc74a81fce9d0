/-
  Reading an entry, on lists: what stands behind each part; that what is read is what was written, and the other way round.
-/
import Derived.Test.YtlmfdifnkkdpfaaPutE
import Derived.Test.YtlmfdifnkkdpfaaRfIds
namespace Go.Proofs.Ytlmfdifnkkdpfaa
open Go.RowKit Go.Shelf

/-- What stands behind each part; the entry. -/
def e1 (st : Option (List Nat)) : Option (List Nat) := (readRaw 32 st).2
def e2 (st : Option (List Nat)) : Option (List Nat) := (readText 64 (e1 st)).2
def e3 (st : Option (List Nat)) : Option (List Nat) := (readN 4 (e2 st)).2
def e4 (st : Option (List Nat)) : Option (List Nat) := (readRaw 32 (e3 st)).2
def e5 (st : Option (List Nat)) : Option (List Nat) := (readRaw 32 (e4 st)).2
def e6 (st : Option (List Nat)) : Option (List Nat) := (readN 4294967295 (e5 st)).2
def e7 (st : Option (List Nat)) : Option (List Nat) := (readN 4294967295 (e6 st)).2
def rdE (st : Option (List Nat)) : Ent := ⟨idR st, strOf (readText 64 (e1 st)).1, ((readN 4 (e2 st)).1 : Nat), idR (e3 st), idR (e4 st), (readN 4294967295 (e5 st)).1, (readN 4294967295 (e6 st)).1⟩
/-- Bytes ahead are such. -/
def Ahead (st : Option (List Nat)) : Prop := ∀ zs, st = some zs → ∀ z ∈ zs, z < 256

theorem readN_once {most : Nat} {st : Option (List Nat)} {r : List Nat} (hz : Ahead st) (h : (readN most st).2 = some r) : st = some (encN (readN most st).1 ++ r) ∧ ∀ z ∈ r, z < 256 := by
  cases st with
  | none => cases h
  | some zs =>
    have hzz := hz zs rfl
    cases hn : numL zs 0 0 with
    | none => rw [readN_bad hn] at h; cases h
    | some y =>
      obtain ⟨x, s⟩ := y
      obtain ⟨_, hs, _, ht⟩ := numL_size hzz hn
      by_cases hm : most < x
      · rw [readN_over hn hm] at h; cases h
      · rw [readN_some hn hm] at h ⊢
        cases h
        exact ⟨by rw [← ht, List.take_append_drop], fun z hz => hzz z (List.mem_of_mem_drop hz)⟩
theorem readText_once {z : Nat} {st : Option (List Nat)} {r : List Nat} (hz : Ahead st) (h : (readText (z : Int) st).2 = some r) :
    st = some (encText (readText (z : Int) st).1 ++ r) ∧ ∀ z ∈ r, z < 256 := by
  unfold readText at h ⊢
  have e : readCount (z : Int) st = readN z st := by unfold readCount; rw [if_neg (by omega)]; simp
  rw [e] at h ⊢
  cases hr : (readN z st).2 with
  | none => rw [hr] at h; cases h
  | some zs =>
    obtain ⟨h1, h2⟩ := readN_once hz hr
    rw [hr] at h
    generalize (readN z st).1 = n at *
    by_cases hl : n ≤ zs.length
    · rw [readRaw_in hl] at h ⊢
      cases h
      dsimp only
      rw [h1, encText, List.length_take, Nat.min_eq_left hl, List.append_assoc, List.take_append_drop]
      exact ⟨rfl, fun z hz => h2 z (List.mem_of_mem_drop hz)⟩
    · rw [readRaw, if_pos (.inr (by omega))] at h; cases h
theorem readText_all {z : Nat} {st : Option (List Nat)} (hz : Ahead st) : (∀ x ∈ (readText (z : Int) st).1, x < 256) ∧ (readText (z : Int) st).1.length ≤ z := by
  unfold readText
  have e : readCount (z : Int) st = readN z st := by unfold readCount; rw [if_neg (by omega)]; simp
  rw [e]
  have hle := readN_le z st
  cases hr : (readN z st).2 with
  | none => exact ⟨by simp [readRaw], Nat.zero_le _⟩
  | some zs =>
    obtain ⟨h1, h2⟩ := readN_once hz hr
    generalize (readN z st).1 = n at *
    by_cases hl : n ≤ zs.length
    · rw [readRaw_in hl]
      exact ⟨fun x hx => h2 x (List.mem_of_mem_take hx), by simp; omega⟩
    · rw [readRaw, if_pos (.inr (by omega))]; exact ⟨by simp, Nat.zero_le _⟩
theorem endE_zero {st : Option (List Nat)} (h : endE st = 0) : st = some [] := by
  cases st with
  | none => simp [endE] at h
  | some zs =>
    by_cases hl : 0 < zs.length
    · simp only [endE, if_pos hl] at h
      omega
    · rw [List.eq_nil_of_length_eq_zero (l := zs) (by omega)]
theorem readN_back {most n : Nat} (r : List Nat) (hn : n < 18446744073709551616) (hm : n ≤ most) : readN most (some (encN n ++ r)) = (n, some r) := by
  rw [readN_some (numL_back n hn r) (by omega)]
  simp
theorem readText_back {z : Nat} {t : List Nat} (r : List Nat) (hl : t.length ≤ z) (hz : z < 18446744073709551616) : readText (z : Int) (some (encText t ++ r)) = (t, some r) := by
  unfold readText
  have e : readCount (z : Int) (some (encText t ++ r)) = (t.length, some (t ++ r)) := by
    unfold readCount
    rw [if_neg (by omega), encText, List.append_assoc]
    simpa using readN_back (most := z) (n := t.length) (t ++ r) (by omega) hl
  rw [e]
  dsimp only
  rw [readRaw_in (by simp)]
  simp
theorem readRaw_once {st : Option (List Nat)} {r : List Nat} (hz : Ahead st) (h : (readRaw 32 st).2 = some r) : st = some (idR st ++ r) ∧ ∀ z ∈ r, z < 256 := by
  cases st with
  | none => simp [readRaw] at h
  | some zs =>
    rcases Nat.lt_or_ge zs.length 32 with h' | h'
    · rw [readRaw_out32 h'] at h; cases h
    · unfold idR
      rw [readRaw_in32 h'] at h ⊢
      cases h
      rw [if_pos (by simp; omega), List.take_append_drop]
      exact ⟨rfl, fun z hzz => hz zs rfl z (List.mem_of_mem_drop hzz)⟩
theorem readRaw_back {x : List Nat} (r : List Nat) (hx : x.length = 32) : idR (some (x ++ r)) = x ∧ (readRaw 32 (some (x ++ r))).2 = some r := by
  unfold idR
  rw [readRaw_in32 (by simp; omega), List.take_append_of_le_length (by omega), List.take_of_length_le (by omega)]
  refine ⟨if_pos hx, ?_⟩
  show some (List.drop 32 (x ++ r)) = _
  rw [← hx, List.drop_left]

theorem Ahead.e1 {st : Option (List Nat)} (h : Ahead st) : Ahead (e1 st) := fun _ h' => (readRaw_once h h').2
theorem Ahead.e2 {st : Option (List Nat)} (h : Ahead st) : Ahead (e2 st) := fun _ h' => (readText_once (z := 64) h.e1 h').2
theorem Ahead.e3 {st : Option (List Nat)} (h : Ahead st) : Ahead (e3 st) := fun _ h' => (readN_once h.e2 h').2
theorem Ahead.e4 {st : Option (List Nat)} (h : Ahead st) : Ahead (e4 st) := fun _ h' => (readRaw_once h.e3 h').2
theorem Ahead.e5 {st : Option (List Nat)} (h : Ahead st) : Ahead (e5 st) := fun _ h' => (readRaw_once h.e4 h').2
theorem Ahead.e6 {st : Option (List Nat)} (h : Ahead st) : Ahead (e6 st) := fun _ h' => (readN_once h.e5 h').2
theorem Ahead.e7 {st : Option (List Nat)} (h : Ahead st) : Ahead (e7 st) := fun _ h' => (readN_once h.e6 h').2
theorem idR_ok {st : Option (List Nat)} (hz : Ahead st) : IsId (idR st) := by
  unfold idR
  split
  · rename_i h
    refine ⟨h, fun z hzz => ?_⟩
    cases st with
    | none => simp [readRaw] at h
    | some zs =>
      rcases Nat.lt_or_ge zs.length 32 with h' | h'
      · rw [readRaw_out32 h'] at h; simp at h
      · rw [readRaw_in32 h'] at hzz; exact hz zs rfl z (List.mem_of_mem_take hzz)
  · exact ⟨by simp, fun z hzz => by rw [List.eq_of_mem_replicate hzz]; omega⟩
theorem strOf_size (l : List Nat) : (strOf l).size = l.length := by
  have := congrArg List.length (strOf_toList l)
  rw [List.length_map, ByteArray.toList_eq] at this
  simpa using this
theorem nameL_strOf {l : List Nat} (h : ∀ z ∈ l, z < 256) : nameL (strOf l) = l := by
  have hz := strOf_toList l
  rw [ByteArray.toList_eq] at hz
  rw [nameL, bytesOf, hz, List.map_map]
  conv => rhs; rw [← List.map_id l]
  refine List.map_congr_left (fun z hzz => ?_)
  have := h z hzz
  simp; omega
theorem rdE_ok {st : Option (List Nat)} (h : Ahead st) : (rdE st).ok := by
  refine ⟨idR_ok h, idR_ok h.e3, idR_ok h.e4, ?_, ?_, ?_⟩
  · have := readN_le 4 (e2 st); show _ ≤ ((readN 4 (e2 st)).1 : Int) ∧ ((readN 4 (e2 st)).1 : Int) ≤ _; omega
  · have := readN_le 4294967295 (e5 st); show (readN 4294967295 (e5 st)).1 < _; omega
  · have := readN_le 4294967295 (e6 st); show (readN 4294967295 (e6 st)).1 < _; omega
theorem rdE_name {st : Option (List Nat)} (h : Ahead st) : (rdE st).name.size ≤ 64 := by
  show (strOf _).size ≤ 64
  rw [strOf_size]; exact (readText_all (z := 64) h.e1).2
theorem rdE_once {st : Option (List Nat)} {r : List Nat} (h : Ahead st) (hr : e7 st = some r) : st = some (encE (rdE st) ++ r) := by
  obtain ⟨h6, _⟩ := readN_once h.e6 hr
  obtain ⟨h5, _⟩ := readN_once h.e5 h6
  obtain ⟨h4, _⟩ := readRaw_once h.e4 h5
  obtain ⟨h3, _⟩ := readRaw_once h.e3 h4
  obtain ⟨h2, _⟩ := readN_once h.e2 h3
  obtain ⟨h1, _⟩ := readText_once (z := 64) h.e1 h2
  obtain ⟨h0, _⟩ := readRaw_once h h1
  have hn : nameL (rdE st).name = (readText 64 (e1 st)).1 := nameL_strOf (readText_all (z := 64) h.e1).1
  refine h0.trans (congrArg some ?_)
  rw [encE, hn]
  show _ = idR st ++ (encText (readText 64 (e1 st)).1 ++ (encN ((readN 4 (e2 st)).1 : Int).toNat ++ (idR (e3 st) ++ (idR (e4 st) ++ (encN (readN 4294967295 (e5 st)).1 ++ encN (readN 4294967295 (e6 st)).1))))) ++ r
  simp only [Int.toNat_natCast, List.append_assoc]
  rfl
theorem e_back {e : Ent} (h : e.ok) (hm : mayB e = true) (r : List Nat) : rdE (some (encE e ++ r)) = e ∧ e7 (some (encE e ++ r)) = some r := by
  have hk : 0 ≤ e.kind ∧ e.kind ≤ 4 := by
    rw [mayB, Bool.and_eq_true] at hm
    have := hm.1
    simp [kindB] at this
    omega
  have hn := mayB_size hm
  have s0 : (some (encE e ++ r)) = some (e.blind ++ (encText (nameL e.name) ++ (encN e.kind.toNat ++ (e.id ++ (e.key ++ (encN e.realm ++ (encN e.epoch ++ r))))))) := by simp [encE]
  obtain ⟨a0, b0⟩ := readRaw_back (encText (nameL e.name) ++ (encN e.kind.toNat ++ (e.id ++ (e.key ++ (encN e.realm ++ (encN e.epoch ++ r)))))) h.1.1
  have t1 := readText_back (z := 64) (t := nameL e.name) (encN e.kind.toNat ++ (e.id ++ (e.key ++ (encN e.realm ++ (encN e.epoch ++ r))))) (by rw [nameL_length]; exact hn) (by omega)
  have t2 := readN_back (most := 4) (n := e.kind.toNat) (e.id ++ (e.key ++ (encN e.realm ++ (encN e.epoch ++ r)))) (by omega) (by omega)
  obtain ⟨a3, b3⟩ := readRaw_back (e.key ++ (encN e.realm ++ (encN e.epoch ++ r))) h.2.1.1
  obtain ⟨a4, b4⟩ := readRaw_back (encN e.realm ++ (encN e.epoch ++ r)) h.2.2.1.1
  have t5 := readN_back (most := 4294967295) (n := e.realm) (encN e.epoch ++ r) (by have := h.2.2.2.2.1; omega) (by have := h.2.2.2.2.1; omega)
  have t6 := readN_back (most := 4294967295) (n := e.epoch) r (by have := h.2.2.2.2.2; omega) (by have := h.2.2.2.2.2; omega)
  have x1 : e1 (some (encE e ++ r)) = some (encText (nameL e.name) ++ (encN e.kind.toNat ++ (e.id ++ (e.key ++ (encN e.realm ++ (encN e.epoch ++ r)))))) := by rw [s0, e1, b0]
  have x2 : e2 (some (encE e ++ r)) = some (encN e.kind.toNat ++ (e.id ++ (e.key ++ (encN e.realm ++ (encN e.epoch ++ r))))) := by rw [e2, x1]; exact congrArg Prod.snd t1
  have x3 : e3 (some (encE e ++ r)) = some (e.id ++ (e.key ++ (encN e.realm ++ (encN e.epoch ++ r)))) := by rw [e3, x2]; exact congrArg Prod.snd t2
  have x4 : e4 (some (encE e ++ r)) = some (e.key ++ (encN e.realm ++ (encN e.epoch ++ r))) := by rw [e4, x3]; exact b3
  have x5 : e5 (some (encE e ++ r)) = some (encN e.realm ++ (encN e.epoch ++ r)) := by rw [e5, x4]; exact b4
  have x6 : e6 (some (encE e ++ r)) = some (encN e.epoch ++ r) := by rw [e6, x5]; exact congrArg Prod.snd t5
  refine ⟨?_, by rw [e7, x6, t6]⟩
  rw [rdE, x1, x2, x3, x4, x5, x6, s0, a0, a3, a4, t5, t6, t2]
  have := congrArg Prod.fst t1
  rw [show readText 64 _ = _ from t1, name_str]
  cases e
  simp only at hk ⊢
  congr
  omega

/-- Several, one behind the other. -/
def stK : Nat → Option (List Nat) → Option (List Nat)
  | 0, st => st
  | k + 1, st => e7 (stK k st)
def esK (n : Nat) (st : Option (List Nat)) : List Ent := (List.range n).map fun k => rdE (stK k st)
theorem esK_length (n : Nat) (st : Option (List Nat)) : (esK n st).length = n := by simp [esK]
theorem esK_succ (n : Nat) (st : Option (List Nat)) : esK (n + 1) st = esK n st ++ [rdE (stK n st)] := by simp [esK, List.range_succ]
theorem e7_none : e7 none = none := by
  simp [e7, e6, e5, e4, e3, e2, e1, readRaw, readN, readText, readCount]
theorem stK_none : ∀ k, stK k none = none
  | 0 => rfl
  | k + 1 => by rw [stK, stK_none k, e7_none]
theorem stK_add (st : Option (List Nat)) : ∀ j k, stK (j + k) st = stK k (stK j st)
  | j, 0 => rfl
  | j, k + 1 => by rw [← Nat.add_assoc, stK, stK_add st j k, stK]
theorem stK_ahead {st : Option (List Nat)} (h : Ahead st) : ∀ k, Ahead (stK k st)
  | 0 => h
  | k + 1 => (stK_ahead h k).e7
theorem esK_ok {st : Option (List Nat)} (h : Ahead st) (n : Nat) : ∀ e ∈ esK n st, e.ok ∧ e.name.size ≤ 64 := fun e he => by
  obtain ⟨k, _, rfl⟩ := List.mem_map.1 he
  exact ⟨rdE_ok (stK_ahead h k), rdE_name (stK_ahead h k)⟩
theorem esK_once {st : Option (List Nat)} (h : Ahead st) : ∀ (n : Nat) (r : List Nat), stK n st = some r → st = some ((esK n st).flatMap encE ++ r)
  | 0, r, hr => by simpa [esK, stK] using hr
  | n + 1, r, hr => by
    have h1 := rdE_once (stK_ahead h n) hr
    have h2 := esK_once h n _ h1
    rw [esK_succ, List.flatMap_append]
    simpa using h2
theorem esK_back : ∀ (es : List Ent) (r : List Nat), (∀ e ∈ es, e.ok ∧ mayB e = true) → ∀ k, k ≤ es.length → stK k (some (es.flatMap encE ++ r)) = some ((es.drop k).flatMap encE ++ r) ∧ esK k (some (es.flatMap encE ++ r)) = es.take k
  | es, r, h, 0, _ => by simp [stK, esK]
  | es, r, h, k + 1, hk => by
    obtain ⟨h1, h2⟩ := esK_back es r h k (by omega)
    have hl : k < es.length := by omega
    have hd : es.drop k = es[k] :: es.drop (k + 1) := List.drop_eq_getElem_cons hl
    have hm := h _ (List.getElem_mem hl)
    obtain ⟨b1, b2⟩ := e_back hm.1 hm.2 ((es.drop (k + 1)).flatMap encE ++ r)
    have e : some ((es.drop k).flatMap encE ++ r) = some (encE es[k] ++ ((es.drop (k + 1)).flatMap encE ++ r)) := by rw [hd, List.flatMap_cons, List.append_assoc]
    rw [stK, esK_succ, h1, e, b1, b2, h2, List.take_succ_eq_append_getElem hl]
    exact ⟨rfl, rfl⟩
/-- What Of reads of b. -/
def nK (b : List Nat) : Nat := (readN 500 (some b)).1
def sK (b : List Nat) : Option (List Nat) := (readN 500 (some b)).2
def dirL (b : List Nat) : List Ent := esK (nK b) (sK b)
def isDir (b : List Nat) : Bool := decide (endE (stK (nK b) (sK b)) = 0) && goodE (dirL b)
theorem ahead_some {b : List Nat} (h : ∀ z ∈ b, z < 256) : Ahead (some b) := fun zs e => by cases e; exact h
theorem sK_ahead {b : List Nat} (h : ∀ z ∈ b, z < 256) : Ahead (sK b) := fun _ h' => (readN_once (ahead_some h) h').2
theorem nK_le (b : List Nat) : nK b ≤ 500 := readN_le 500 (some b)
theorem dir_once {b : List Nat} (h : ∀ z ∈ b, z < 256) (he : endE (stK (nK b) (sK b)) = 0) : encsE (dirL b) = b := by
  have h1 := esK_once (sK_ahead h) _ _ (endE_zero he)
  obtain ⟨h2, _⟩ := readN_once (ahead_some h) h1
  rw [encsE, dirL, esK_length]
  have h3 := Option.some.inj h2
  rw [List.append_nil] at h3
  exact h3.symm
theorem dir_back {es : List Ent} (h : ∀ e ∈ es, e.ok) (hg : goodE es = true) : dirL (encsE es) = es ∧ isDir (encsE es) = true := by
  have hl := goodE_len hg
  have h1 := readN_back (most := 500) (n := es.length) (es.flatMap encE) (by omega) hl
  have hn : nK (encsE es) = es.length := congrArg Prod.fst h1
  have hs : sK (encsE es) = some (es.flatMap encE ++ []) := by rw [List.append_nil]; exact congrArg Prod.snd h1
  obtain ⟨h2, h3⟩ := esK_back es [] (fun e he => ⟨h e he, goodE_may hg e he⟩) es.length (Nat.le_refl _)
  have h4 : dirL (encsE es) = es := by rw [dirL, hn, hs, h3, List.take_length]
  refine ⟨h4, ?_⟩
  rw [isDir, h4, hg, hn, hs, h2]
  simp [endE]
end Go.Proofs.Ytlmfdifnkkdpfaa
