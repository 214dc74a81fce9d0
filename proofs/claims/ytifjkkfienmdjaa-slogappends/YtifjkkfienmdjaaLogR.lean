/-
  Logs on lists: any records appended, one behind the other; what is found behind a crash.
-/
import Derived.Test.YtifjkkfienmdjaaLogW
namespace Go.Proofs.Ytifjkkfienmdjaa
open Go.RowKit

/-- A log: its region, what is taken of it, its records, whether it is broken. -/
structure Lg where
  f : Nat
  n : Nat
  gen : Nat
  pos : Nat
  recs : List (List Nat)
  broken : Bool
def appL (d : St) (l : Lg) (b : List Nat) : Int × St × Lg :=
  if l.broken = true then (140, d, l) else
  if spanN (b.length : Nat) = 0 then (2, d, l) else
  if l.n < l.pos + spanN (b.length : Nat) then (141, d, l) else
  if (doW d (writesOf l.f l.n l.pos l.gen l.recs.length b)).1 ≠ 0 then ((doW d (writesOf l.f l.n l.pos l.gen l.recs.length b)).1, (doW d (writesOf l.f l.n l.pos l.gen l.recs.length b)).2, { l with broken := true })
  else (0, (doW d (writesOf l.f l.n l.pos l.gen l.recs.length b)).2, { l with recs := l.recs ++ [b], pos := l.pos + spanN (b.length : Nat) })
theorem doW_length : ∀ (ws : List (Nat × List Nat)) (d : St), (doW d ws).2.ss.length = d.ss.length
  | [], _ => rfl
  | (i, s) :: r, d => by
    have hw : (d.write i s).ss.length = d.ss.length := by
      unfold St.write
      split
      · rfl
      · split <;> exact List.length_set
    rw [doW]
    split
    · exact hw
    · rw [doW_length r, hw]
theorem doW_ok : ∀ (ws : List (Nat × List Nat)) (d : St), d.ok → (∀ x ∈ ws, IsSec x.2) → (doW d ws).2.ok
  | [], _, h, _ => h
  | (i, s) :: r, d, h, hs => by
    have hw : (d.write i s).ok := h.write i (hs (i, s) (List.mem_cons_self ..))
    rw [doW]
    split
    · exact hw
    · exact doW_ok r _ hw (fun x hx => hs x (List.mem_cons_of_mem _ hx))
theorem write_wr' (d : St) (i : Int) (s : List Nat) : (d.write i s).wr ≤ d.wr + 1 := by
  unfold St.write
  split
  · omega
  · split
    · show d.wr ≤ d.wr + 1; omega
    · exact Nat.le_refl _
theorem doW_wr : ∀ (ws : List (Nat × List Nat)) (d : St), (doW d ws).2.wr ≤ d.wr + ws.length
  | [], _ => Nat.le_refl _
  | (i, s) :: r, d => by
    have hw := write_wr' d i s
    rw [doW]
    split
    · show (d.write i s).wr ≤ d.wr + (r.length + 1); omega
    · have := doW_wr r (d.write i s)
      show _ ≤ d.wr + (r.length + 1)
      omega
theorem writesOf_len (f n at_ gen num : Nat) (b : List Nat) : (writesOf f n at_ gen num b).length ≤ spanN (b.length : Nat) + 2 := by
  rw [writesOf]
  simp only [List.length_append, tailW, List.length_map, List.length_range, List.length_singleton]
  split <;> simp <;> omega
theorem secK_sec {b : List Nat} (hb : ∀ z ∈ b, z < 256) (i : Nat) : IsSec (secK b i) :=
  ⟨secK_len b i, splice_mem isSec_zeros.2 (fun z hz => hb z (List.mem_of_mem_drop (List.mem_of_mem_take hz)))⟩
theorem writesOf_sec {b : List Nat} (hb : ∀ z ∈ b, z < 256) (f n at_ gen num : Nat) : ∀ x ∈ writesOf f n at_ gen num b, IsSec x.2 := fun x hx => by
  rw [writesOf] at hx
  rcases List.mem_append.1 hx with h | h
  · obtain ⟨i, _, rfl⟩ := List.mem_map.1 h
    exact secK_sec hb i
  · rcases List.mem_append.1 h with h | h
    · split at h
      · rw [List.mem_singleton] at h; subst h; exact isSec_zeros
      · cases h
    · rw [List.mem_singleton] at h; subst h; exact headL_sec hb gen num
/-- Records appended one behind the other: those that were answered with OK, and the one at which a crash struck. -/
structure Run where
  d : St
  l : Lg
  done : List (List Nat)
  next : Option (List Nat)
def Run.step (r : Run) (b : List Nat) : Run :=
  ⟨(appL r.d r.l b).2.1, (appL r.d r.l b).2.2, if (appL r.d r.l b).1 = 0 then r.done ++ [b] else r.done, if (appL r.d r.l b).1 = 131 then some b else r.next⟩
structure Run.Inv (f n gen : Nat) (r : Run) : Prop where
  ok : r.d.ok
  reg : r.l.f = f ∧ r.l.n = n ∧ r.l.gen = gen
  fits : f + n ≤ r.d.ss.length
  is : (r.l.broken = false ∧ r.d.dead = false ∧ r.l.recs = r.done ∧ r.next = none ∧ GoodL r.d.ss f n gen r.done r.l.pos) ∨
    (r.l.broken = true ∧ ∃ x e, r.next = some x ∧ (GoodL r.d.ss f n gen r.done e ∨ GoodL r.d.ss f n gen (r.done ++ [x]) e))
theorem Run.Inv.step {f n gen : Nat} {r : Run} (h : r.Inv f n gen) {b : List Nat} (hb : b.length ≤ 262144) (hz : ∀ z ∈ b, z < 256) : (r.step b).Inv f n gen := by
  obtain ⟨d, l, done, next⟩ := r
  obtain ⟨hok, ⟨rfl, rfl, rfl⟩, hfit, his⟩ := h
  simp only at hok hfit his
  have hsp := spanN_nat hb
  rcases his with ⟨h1, h2, h3, h4, h5⟩ | ⟨h1, x, e, h2, h3⟩
  · by_cases hfull : l.n < l.pos + spanN (b.length : Nat)
    · have e1 : appL d l b = (141, d, l) := by rw [appL, if_neg (by simp [h1]), if_neg (by omega), if_pos hfull]
      simp only [Run.step, e1]
      exact ⟨hok, ⟨rfl, rfl, rfl⟩, hfit, .inl ⟨h1, h2, h3, h4, h5⟩⟩
    · have hws : ∀ x ∈ writesOf l.f l.n l.pos l.gen l.recs.length b, x.1 < d.ss.length := fun x hx => by
        rw [writesOf_eq] at hx
        rcases List.mem_append.1 hx with h | h
        · have := (bodyW_gt hb x h).2 (by omega); omega
        · rw [List.mem_singleton] at h; subst h; show l.f + l.pos < d.ss.length; omega
      have hsec : ∀ s ∈ d.ss, s.length = 64 := fun s hs => (hok.secs s hs).1
      have hok' := doW_ok _ d hok (writesOf_sec hz l.f l.n l.pos l.gen l.recs.length)
      have hlen := doW_length (writesOf l.f l.n l.pos l.gen l.recs.length b) d
      rcases doW_cases _ d h2 hws with ⟨a1, a2, a3⟩ | ⟨pre, x, post, k, a1, a2, a3, a4⟩
      · have e1 : appL d l b = (0, (doW d (writesOf l.f l.n l.pos l.gen l.recs.length b)).2, { l with recs := l.recs ++ [b], pos := l.pos + spanN (b.length : Nat) }) := by
          rw [appL, if_neg (by simp [h1]), if_neg (by omega), if_neg hfull, if_neg (by rw [a1]; simp)]
        simp only [Run.step, e1]
        refine ⟨hok', ⟨rfl, rfl, rfl⟩, by show _ ≤ (doW _ _).2.ss.length; rw [hlen]; exact hfit, .inl ⟨h1, a2, ?_, ?_, ?_⟩⟩
        · simp only [h3]; rfl
        · simpa using h4
        · have := good_append h5 hb (by omega) hfit
          simp only [a3, ← h3] at this ⊢
          exact this
      · have e1 : appL d l b = (131, (doW d (writesOf l.f l.n l.pos l.gen l.recs.length b)).2, { l with broken := true }) := by
          rw [appL, if_neg (by simp [h1]), if_neg (by omega), if_neg hfull, if_pos (by rw [a2]; simp), a2]
        simp only [Run.step, e1]
        refine ⟨hok', ⟨rfl, rfl, rfl⟩, by show _ ≤ (doW _ _).2.ss.length; rw [hlen]; exact hfit, .inr ⟨rfl, b, ?_⟩⟩
        rw [h3] at a1
        rcases good_torn h5 hb (by omega) hfit hsec k a1 with h | h
        · exact ⟨l.pos, by simp, .inl (by simp only [a4] at h ⊢; exact h)⟩
        · exact ⟨l.pos + spanN (b.length : Nat), by simp, .inr (by simp only [a4] at h ⊢; exact h)⟩
  · have e1 : appL d l b = (140, d, l) := by rw [appL, if_pos h1]
    simp only [Run.step, e1]
    exact ⟨hok, ⟨rfl, rfl, rfl⟩, hfit, .inr ⟨h1, x, e, h2, h3⟩⟩
/-- Behind any records: all that were answered with OK are found, and at most the one at which a crash struck. -/
theorem Run.Inv.found {f n gen : Nat} {r : Run} (h : r.Inv f n gen) {fuel : Nat} (hf : n < fuel) : (scan r.d.ss f n gen fuel 0 []).2 = r.done ∨ ∃ x, r.next = some x ∧ (scan r.d.ss f n gen fuel 0 []).2 = r.done ++ [x] := by
  rcases h.is with ⟨_, _, _, _, h5⟩ | ⟨_, x, e, h2, h3 | h3⟩
  · exact .inl (by rw [good_scan h5 hf])
  · exact .inl (by rw [good_scan h3 hf])
  · exact .inr ⟨x, h2, by rw [good_scan h3 hf]⟩
end Go.Proofs.Ytifjkkfienmdjaa
