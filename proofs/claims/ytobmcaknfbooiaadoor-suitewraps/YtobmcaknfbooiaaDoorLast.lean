/-
  putLast: what was asked becomes the last one for which these bytes were answered. All that turns is the table and the row of what was asked.
-/
import Derived.Test.YtobmcaknfbooiaaDoorDelete
import Derived.Maps.AppendAt
namespace Go.Proofs.YtobmcaknfbooiaaDoor
open Classical
open Go.RowKit Go.Shelf

/-- Bytes that are a whole row. -/
theorem conv_of_row {W : World} {b : Nat} {zs : List Nat} (h : Row W b 5 (u8s zs)) : (convert 25 9 (.slice (some ⟨b, 0, none⟩) zs.length zs.length)).run Tryd.prog W = .ok (.string (strOf zs)) W :=
  (str_of_cells rfl h.lt (fun i hi => by rw [Nat.zero_add]; exact h.cell (u8s_at hi))).here

/-- What was asked, by what was answered; the rows of it lie in blocks of F, each in one of its own. -/
structure AskedRel (W : World) (F : List Nat) (m4 : Nat) (g : Value → Option Value) (L : ByteArray → List (List Value)) (K : Nat) : Prop where
  map : MapAt Tryd.prog 9 W m4 g
  mem : m4 ∈ F
  own : ∀ s v, g (.string s) = some v → AskOwn W v (L s) ∧ L s ≠ [] ∧ ∀ b, v.ownBlock = some b → b ∈ F
  nil : ∀ s, g (.string s) = none → L s = []
  all : ∀ s, AskedAll (L s) ∧ (L s).length ≤ K
  apart : ∀ s s' v v' b, g (.string s) = some v → g (.string s') = some v' → v.ownBlock = some b → v'.ownBlock = some b → s = s'

theorem AskOwn.keep {W W' : World} {v : Value} {xs : List (List Value)} (h : AskOwn W v xs) (hk : ∀ b, v.ownBlock = some b → W'.heap[b]? = W.heap[b]?) : AskOwn W' v xs := by
  refine ⟨h.1, ?_⟩
  rcases h.2 with hn | ⟨g, cap, cur, rfl, hg, hgg, rest⟩
  · exact .inl hn
  · exact .inr ⟨g, cap, cur, rfl, hg, (hk g rfl).trans hgg, rest⟩

/-- The table hangs on the blocks of F alone. -/
theorem AskedRel.keep {W W' : World} {F : List Nat} {m4 : Nat} {g : Value → Option Value} {L : ByteArray → List (List Value)} {K : Nat} (h : AskedRel W F m4 g L K) (hk : ∀ b ∈ F, W'.heap[b]? = W.heap[b]?) : AskedRel W' F m4 g L K where
  map := h.map.kept (hk _ h.mem)
  mem := h.mem
  own := fun s v hv => ⟨(h.own s v hv).1.keep (fun b hb => hk b ((h.own s v hv).2.2 b hb)), (h.own s v hv).2⟩
  nil := h.nil
  all := h.all
  apart := h.apart

theorem askOwn_nil (W : World) : AskOwn W (.slice none 0 0) [] := ⟨rfl, .inl ⟨rfl, rfl⟩⟩

/-- What the table tells for s. -/
theorem AskedRel.list {W : World} {F : List Nat} {m4 : Nat} {g : Value → Option Value} {L : ByteArray → List (List Value)} {K : Nat} (h : AskedRel W F m4 g L K) (s : ByteArray) :
    ∃ q cap, (g (.string s)).getD (.slice none 0 0) = .slice q (L s).length cap ∧ AskOwn W (.slice q (L s).length cap) (L s) ∧ (∀ b, (Value.slice q (L s).length cap).ownBlock = some b → b ∈ F ∧ g (.string s) = some (.slice q (L s).length cap)) := by
  cases hg : g (.string s) with
  | none =>
    rw [h.nil s hg]
    exact ⟨none, 0, rfl, askOwn_nil W, fun b hb => by simp [Value.ownBlock] at hb⟩
  | some v =>
    obtain ⟨h1, _, h3⟩ := h.own s v hg
    obtain ⟨q, c, rfl⟩ := slice_of_row h1
    exact ⟨q, c, rfl, h1, fun b hb => ⟨h3 b hb, rfl⟩⟩

/-- The list behind putLast. -/
def Lasts (xs : List (List Value)) (c : List Value) (ys : List (List Value)) : Prop := (c ∉ xs ∧ ys = xs ++ [c]) ∨ ∃ i, i < xs.length ∧ xs[i]? = some c ∧ ys = xs.eraseIdx i ++ [c]

theorem zero101 (w : World) : (zeroValue 101).run Tryd.prog w = .ok (.slice none 0 0) w := Tryd.zeroValue101 w
theorem asked_one {c : List Value} {k : List Nat} {ad p : ByteArray} (h : IsAsked c k ad p) : ∀ v ∈ c, v.oneCell' = true := by
  intro v hv
  rw [h.eq] at hv
  simp only [askedL, List.mem_append, List.mem_cons, List.not_mem_nil, or_false] at hv
  rcases hv with hv | rfl | rfl
  · exact u8s_one _ v hv
  · rfl
  · rfl
theorem AskedAll.one {xs : List (List Value)} (h : AskedAll xs) : ∀ v ∈ xs.flatten, v.oneCell' = true := fun v hv => by
  obtain ⟨c, hc, hvc⟩ := List.mem_flatten.1 hv
  obtain ⟨k, ad, p, hk⟩ := h c hc
  exact asked_one hk v hvc

/-- The table behind putLast. -/
def putL [DecidableEq ByteArray] (L : ByteArray → List (List Value)) (s : ByteArray) (ys : List (List Value)) : ByteArray → List (List Value) := fun s' => if s' = s then ys else L s'

theorem Lasts.asked {xs ys : List (List Value)} {c : List Value} {k : List Nat} {ad p : ByteArray} (h : Lasts xs c ys) (hx : AskedAll xs) (hc : IsAsked c k ad p) : AskedAll ys ∧ ys.length ≤ xs.length + 1 ∧ ys ≠ [] := by
  rcases h with ⟨_, rfl⟩ | ⟨i, hi, _, rfl⟩
  · refine ⟨fun d hd => ?_, by simp, by simp⟩
    rcases List.mem_append.1 hd with hd | hd
    · exact hx d hd
    · simp at hd; subst hd; exact ⟨k, ad, p, hc⟩
  · refine ⟨fun d hd => ?_, by rw [List.length_append, List.length_eraseIdx_of_lt hi]; simp, by simp⟩
    rcases List.mem_append.1 hd with hd | hd
    · exact hx d (List.mem_of_mem_eraseIdx hd)
    · simp at hd; subst hd; exact ⟨k, ad, p, hc⟩

/-- The table, once its list at s is another one. -/
theorem AskedRel.put {W W' : World} {F : List Nat} {m4 : Nat} {g : Value → Option Value} {L : ByteArray → List (List Value)} {K n : Nat} (h : AskedRel W F m4 g L K) {s : ByteArray} {ys : List (List Value)} {v' : Value} {q : Option Addr} {cap : Nat}
    (hv : (g (.string s)).getD (.slice none 0 0) = .slice q (L s).length cap) (hF : ∀ b ∈ F, b < n)
    (hmap : MapAt Tryd.prog 9 W' m4 (fnPut g (.string s) v')) (hown : AskOwn W' v' ys) (hy : AskedAll ys ∧ ys.length ≤ K + 1 ∧ ys ≠ []) (hloc : ∀ b, v'.ownBlock = some b → (Value.slice q (L s).length cap).ownBlock = some b ∨ n ≤ b)
    (hkeep : ∀ b ∈ F, b ≠ m4 → (Value.slice q (L s).length cap).ownBlock ≠ some b → W'.heap[b]? = W.heap[b]?) :
    ∃ F', (∀ b ∈ F, b ∈ F') ∧ (∀ b ∈ F', b ∈ F ∨ v'.ownBlock = some b) ∧ AskedRel W' F' m4 (fnPut g (.string s) v') (putL L s ys) (K + 1) := by
  obtain ⟨vb, hvb⟩ : ∃ vb, v'.ownBlock = some vb := by
    rcases hown.2 with ⟨_, h0⟩ | ⟨g', c', cur', rfl, _⟩
    · exact absurd (List.eq_nil_of_length_eq_zero h0) hy.2.2
    · exact ⟨g', rfl⟩
  have hold : ∀ b, (Value.slice q (L s).length cap).ownBlock = some b → b ∈ F ∧ g (.string s) = some (.slice q (L s).length cap) := fun b hb => by
    cases hg : g (.string s) with
    | none => rw [hg] at hv; simp at hv; obtain ⟨rfl, _, _⟩ := hv; simp [Value.ownBlock] at hb
    | some v =>
      rw [hg] at hv
      simp at hv
      subst hv
      exact ⟨(h.own s _ hg).2.2 b hb, rfl⟩
  have hmapm : ∀ b, v'.ownBlock = some b → b ≠ m4 := fun b hb e => by
    subst e
    obtain ⟨es, cl, hm, _⟩ := hmap
    rcases hown.2 with ⟨rfl, _⟩ | ⟨g', c', cur', rfl, _, hgg, _⟩
    · simp [Value.ownBlock] at hb
    · simp [Value.ownBlock] at hb
      subst hb
      rw [hgg] at hm
      cases hm
  refine ⟨vb :: F, fun b hb => by simp [hb], fun b hb => ?_, ?_⟩
  · rcases List.mem_cons.1 hb with rfl | hb
    · exact .inr hvb
    · exact .inl hb
  · refine ⟨hmap, by simp [h.mem], fun s' v hv' => ?_, fun s' hs' => ?_, fun s' => ?_, fun s1 s2 v1 v2 b h1 h2 hb1 hb2 => ?_⟩
    · by_cases e : s' = s
      · subst e
        rw [fnPut_same] at hv'
        cases hv'
        simp only [putL, if_true]
        exact ⟨hown, hy.2.2, fun b hb => by rw [hvb] at hb; cases hb; simp⟩
      · have hne : (Value.string s') ≠ .string s := fun e' => e (Value.string.inj e')
        rw [fnPut_other hne] at hv'
        obtain ⟨o1, o2, o3⟩ := h.own s' v hv'
        simp only [putL, if_neg e]
        refine ⟨o1.keep (fun b hb => hkeep b (o3 b hb) (fun eb => ?_) (fun eb => ?_)), o2, fun b hb => by simp [o3 b hb]⟩
        · subst eb
          obtain ⟨es, cl, hm, _⟩ := h.map
          rcases o1.2 with ⟨rfl, _⟩ | ⟨g', c', cur', rfl, _, hgg, _⟩
          · simp [Value.ownBlock] at hb
          · simp [Value.ownBlock] at hb
            subst hb
            rw [hgg] at hm
            cases hm
        · exact e (h.apart s' s v _ b hv' (hold b eb).2 hb eb)
    · by_cases e : s' = s
      · subst e; rw [fnPut_same] at hs'; cases hs'
      · have hne : (Value.string s') ≠ .string s := fun e' => e (Value.string.inj e')
        rw [fnPut_other hne] at hs'
        simp only [putL, if_neg e]
        exact h.nil s' hs'
    · by_cases e : s' = s
      · subst e; simp only [putL, if_true]; exact ⟨hy.1, hy.2.1⟩
      · simp only [putL, if_neg e]; exact ⟨(h.all s').1, Nat.le_succ_of_le (h.all s').2⟩
    · have other : ∀ {s'}, s' ≠ s → ∀ {v b}, g (.string s') = some v → v.ownBlock = some b → v'.ownBlock ≠ some b := fun {s'} e {v b} hg hb hb' => by
        rcases hloc b hb' with h3 | h3
        · exact e (h.apart s' s v _ b hg (hold b h3).2 hb h3)
        · have := hF b ((h.own s' v hg).2.2 b hb); omega
      have hne : ∀ {s'}, s' ≠ s → (Value.string s') ≠ .string s := fun e e' => e (Value.string.inj e')
      by_cases e1 : s1 = s
      · by_cases e2 : s2 = s
        · rw [e1, e2]
        · subst e1
          rw [fnPut_same] at h1
          cases h1
          rw [fnPut_other (hne e2)] at h2
          exact absurd hb1 (other e2 h2 hb2)
      · by_cases e2 : s2 = s
        · subst e2
          rw [fnPut_same] at h2
          cases h2
          rw [fnPut_other (hne e1)] at h1
          exact absurd hb2 (other e1 h1 hb1)
        · rw [fnPut_other (hne e1)] at h1
          rw [fnPut_other (hne e2)] at h2
          exact h.apart s1 s2 v1 v2 b h1 h2 hb1 hb2

end Go.Proofs.YtobmcaknfbooiaaDoor
