/-
  What the law's own 'pieces' answers: the pieces of a text that vec.Chunks tells, at most so many, in a slice of its own.
-/
import Derived.Test.YtkhhlcjjdkldjaaChChunk
namespace Go.Proofs.Ytkhhlcjjdkldjaa.Ch
open Go.RowKit Go.Shelf
attribute [local go_sem] Oper.semAt_some

theorem info22 : (Try.prog.info? 32).map (fun i => (i.zero, i.size, i.bytes)) = some (some (.slice none 0 0), 1, 24) := by kernel_rfl

/-- What a round of this loop keeps. -/
def KpT (n₂ : Nat) (A B : World) : Prop :=
  (∀ (k : Nat) (c : Array Value) (t : TypeId) (fr : Nat × Nat), A.heap[k]? = some (Obj.cells c t fr) → t = 45 ∨ t = 3 ∨ t = 5 → B.heap[k]? = some (Obj.cells c t fr)) ∧ KeepsFrom n₂ A B

theorem KpT.trans {n₂ : Nat} {A B C : World} (h : KpT n₂ A B) (k : KpT n₂ B C) : KpT n₂ A C :=
  ⟨fun i c t fr hi ht => k.1 i c t fr (h.1 i c t fr hi ht) ht, h.2.trans k.2⟩

theorem KpT.record {n₂ l : Nat} (hl : l < n₂) {A : World} {o : Obj} (o' : Obj) (ho : A.heap[l]? = some o) (hc : o.isCells = false) : KpT n₂ A (A.putObj l o') := by
  refine ⟨fun k c t fr hk _ => ?_, (grownBy_putObj' A l o').size, fun k q hk hq _ => (World.putObj_heap_other (by omega)).trans hq⟩
  rw [World.putObj_heap_other (fun e => by subst e; rw [ho] at hk; cases hk; cases hc)]
  exact hk

/-- A slice that owns some elements is a slice of as many. -/
theorem slice_of_row {W : World} {n₀ : Nat} {e : TypeId} {size : Nat} {v : Value} {n : Nat} {xs : List Value} (h : W.ownsRow n₀ e size v n xs) : ∃ q c, v = .slice q n c := by
  rcases h.2 with ⟨rfl, rfl⟩ | ⟨g, cap, _, rfl, _⟩
  · exact ⟨none, 0, rfl⟩
  · exact ⟨_, cap, rfl⟩

theorem IterAt.weaken {α : Type} {F : Fence} {n : Nat} {P : Program} {g : Nat} {lb : Array Value} {encs : α → Array Value} {Ok : α → World → Prop} {Kp : World → World → Prop} {S Sp S' Sp' : List α → Prop} {N l : Nat} {W : World}
    (h : IterAt F n P g lb encs Ok Kp S Sp N l W) (hS : ∀ xs, S xs → S' xs) (hSp : ∀ xs, Sp xs → Sp' xs) : IterAt F n P g lb encs Ok Kp S' Sp' N l W := fun J Jx hJ hJx hY h0 =>
  (h J Jx hJ hJx hY h0).mono fun e W' ⟨he, hr⟩ => ⟨he, by
    rcases hr with ⟨xs, hs, hj⟩ | ⟨xs, hs, hj⟩
    · exact .inl ⟨xs, hS xs hs, hj⟩
    · exact .inr ⟨xs, hSp xs hs, hj⟩⟩

/-- How many pieces there are. -/
def chCount (len m : Nat) : Nat := (len + m - 1) / m

theorem chCount_of {len m k : Nat} (hm : 1 ≤ m) (h1 : len ≤ m * k) (h2 : k = 0 ∨ m * (k - 1) < len) : chCount len m = k := by
  unfold chCount
  have e : (k - 1) * m = m * (k - 1) := Nat.mul_comm _ _
  rcases Nat.eq_zero_or_pos k with rfl | hk
  · rw [Nat.div_eq_of_lt (by simp at h1; omega)]
  · have e2 : m * k = m * (k - 1) + m := by rw [← Nat.mul_succ]; congr 1; omega
    apply Nat.le_antisymm
    · apply Nat.le_of_lt_succ
      rw [Nat.div_lt_iff_lt_mul (by omega)]
      have : (k + 1) * m = m * k + m := by rw [Nat.mul_comm, Nat.mul_succ]
      show _ < (k + 1) * m
      omega
    · rw [Nat.le_div_iff_mul_le (by omega), Nat.mul_comm]
      omega

theorem chCount_zero (len : Nat) : chCount len 0 = 0 := by simp [chCount]

/-- What the loop leaves where it has run out. -/
theorem told_all {zs : List Nat} {len : Nat} (hl : zs.length = len) {z : Int} {xs : List (Nat × Nat)} (hS : (1 ≤ z → ∃ k, len ≤ z.toNat * k ∧ xs.map (·.2) = List.range k) ∧ (z < 1 → xs = [])) {A : World} (hok : ∀ x ∈ xs, ChOk zs z.toNat x A) {most : Int} (hle : (xs.length : Int) ≤ most) :
    xs.map (·.2) = List.range (min most.toNat (chCount len z.toNat)) := by
  by_cases hz : 1 ≤ z
  · obtain ⟨k, hk, hx⟩ := hS.1 hz
    have hxl : xs.length = k := by have := congrArg List.length hx; simpa using this
    have hc : chCount len z.toNat = k := by
      refine chCount_of (by omega) hk ?_
      rcases Nat.eq_zero_or_pos k with h | h
      · exact .inl h
      · right
        have hmem : k - 1 ∈ xs.map (·.2) := by rw [hx]; simp; omega
        obtain ⟨x, hxm, hxe⟩ := List.mem_map.1 hmem
        have := (hok x hxm).1
        rw [hxe, hl] at this
        exact this
    rw [hc, hx, show min most.toNat k = k by omega]
  · have hx := hS.2 (by omega)
    subst hx
    rw [show z.toNat = 0 by omega, chCount_zero]
    simp

/-- .. where it was left. -/
theorem told_some {zs : List Nat} {len : Nat} (hl : zs.length = len) {m : Nat} (hm : 1 ≤ m) {pre : List (Nat × Nat)} {x : Nat × Nat} {k : Nat} (hx : (pre ++ [x]).map (·.2) = List.range k) {A : World} (hok : ChOk zs m x A) {most : Int} (hle : (pre.length : Int) = most) :
    pre.map (·.2) = List.range (min most.toNat (chCount len m)) := by
  have hk : pre.length + 1 = k := by have := congrArg List.length hx; simpa using this
  subst hk
  rw [List.range_succ, List.map_append, List.map_singleton] at hx
  have h1 := List.append_inj' hx rfl
  have hx1 : x.2 = pre.length := by simpa using h1.2
  have h2 := hok.1
  rw [hx1, hl] at h2
  have hc : pre.length ≤ chCount len m := by
    unfold chCount
    rw [Nat.le_div_iff_mul_le (by omega), Nat.mul_comm]
    omega
  rw [h1.1, show min most.toNat (chCount len m) = pre.length by omega]

theorem chOk_own (zs : List Nat) (m B : Nat) : OwnFrom B (ChOk zs m) := fun x A B' row hs hg hr => ⟨hs.1, text_own B (fun x : Nat × Nat => x.1) (fun x => pieceL zs m x.2) x A B' row hs.2 hg hr⟩
theorem chOk_all_own (zs : List Nat) (m B : Nat) : OwnFrom B (fun (pre : List (Nat × Nat)) W => ∀ x ∈ pre, ChOk zs m x W) := fun _ A B' row hs hg hr x hx => chOk_own zs m B x A B' row (hs x hx) hg hr

theorem kpT_grown {n₂ : Nat} {A B : World} {row : Option Nat} (hg : A.grownBy B row) (hr : ∀ k, row = some k → ∃ c t fr, A.heap[k]? = some (Obj.cells c t fr) ∧ t ≠ 45 ∧ t ≠ 3 ∧ t ≠ 5) : KpT n₂ A B := by
  refine ⟨fun k c t fr hk ht => ?_, hg.size, fun k o _ hk ho => ?_⟩
  · refine (hg.block k (Array.getElem?_eq_some_iff.1 hk).1 (fun e => ?_)).trans hk
    obtain ⟨c', t', fr', hk', h1, h2, h3⟩ := hr k e.symm
    rw [hk] at hk'
    cases hk'
    rcases ht with h | h | h
    · exact h1 h
    · exact h2 h
    · exact h3 h
  · refine (hg.block k (Array.getElem?_eq_some_iff.1 hk).1 (fun e => ?_)).trans hk
    obtain ⟨c', t', fr', hk', _⟩ := hr k e.symm
    rw [hk] at hk'
    cases hk'
    cases ho

theorem kpT_set {n₂ : Nat} {A : World} {b : Nat} {t : TypeId} {v : Value} (h : Boxed A b t v) (h1 : t ≠ 45) (h2 : t ≠ 3) (h3 : t ≠ 5) (u : Value) : KpT n₂ A (A.setCell ⟨b, 0, none⟩ u) :=
  kpT_grown (grownBy_setCell' A b u) (fun k e => by cases e; exact ⟨_, t, _, h, h1, h2, h3⟩)

theorem kpT_alloc {n₂ : Nat} (A : World) (o : Obj) : KpT n₂ A (A.alloc o) := kpT_grown (World.grownBy_alloc A o none) (fun k e => by cases e)

theorem row_tag {A : World} {n₀ : Nat} {e : TypeId} {size : Nat} {v : Value} {n : Nat} {xs : List Value} (h : A.ownsRow n₀ e size v n xs) (k : Nat) (hk : v.ownBlock = some k) : ∃ c fr, A.heap[k]? = some (Obj.cells c e fr) := by
  rcases h.2 with ⟨rfl, _⟩ | ⟨g, cap, cur, rfl, _, hg, _⟩
  · simp [Value.ownBlock] at hk
  · simp [Value.ownBlock] at hk
    subst hk
    exact ⟨_, _, hg⟩

theorem chOk_kept {n₂ : Nat} {A B : World} (hk : KpT n₂ A B) {zs : List Nat} {m : Nat} {x : Nat × Nat} (h : ChOk zs m x A) : ChOk zs m x B := ⟨h.1, hk.1 _ _ _ _ h.2 (.inr (.inr rfl))⟩

end Go.Proofs.Ytkhhlcjjdkldjaa.Ch
