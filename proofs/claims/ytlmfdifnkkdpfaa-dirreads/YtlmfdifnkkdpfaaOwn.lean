/-
  Slices that own a row of bytes: what outlasts a call, an append, a new block; how such a slice is one of bytes; what append makes of it with any slice of bytes behind it.
-/
import Derived.Test.YtlmfdifnkkdpfaaBase
import Derived.Test.YtlmfdifnkkdpfaaLow
import Derived.Deep.AppendLies
import Derived.Maps.AppendAt
import Derived.OwnWalk
import Derived.Laws.OwnMore
namespace Go.Proofs.Ytlmfdifnkkdpfaa
open Go Go.RowKit


theorem IsBytes.mono {n₀ n₁ : Nat} (h : n₀ ≤ n₁) {W : World} {p : Option Addr} {len cap : Nat} {zs : List Nat} : IsBytes n₀ W p len cap zs → IsBytes n₁ W p len cap zs
  | ⟨h1, h2, h3, h4, .inl e⟩ => ⟨h1, h2, h3, h4, .inl e⟩
  | ⟨h1, h2, h3, h4, .inr ⟨b, off, e, hb, hc⟩⟩ => ⟨h1, h2, h3, h4, .inr ⟨b, off, e, Nat.lt_of_lt_of_le hb h, hc⟩⟩
theorem IsBytes.later {A B : World} (hb : Below A.heap.size A B) {p : Option Addr} {len cap : Nat} {zs : List Nat} (h : IsBytes A.heap.size A p len cap zs) : IsBytes B.heap.size B p len cap zs := (h.below hb).mono hb.size
theorem cells_of_cell {W : World} {b i : Nat} {v : Value} (h : W.cell? ⟨b, i, none⟩ = some v) : ∃ c t fr, W.heap[b]? = some (.cells c t fr) ∧ c[i]? = some v := by
  unfold World.cell? at h
  split at h
  · rename_i hs; exact ⟨_, _, _, hs, by simpa using h⟩
  · rename_i hs hn; cases h
theorem keepsFrom_ge {B B' : Nat} {X Y : World} (h : KeepsFrom B X Y) (hB : B ≤ B') : KeepsFrom B' X Y := ⟨h.size, fun k o hk => h.same k o (Nat.le_trans hB hk)⟩
/-- The bytes of a slice stand where its block is kept. -/
theorem IsBytes.kept {M : Nat → Prop} {A B : World} (h : ∀ (k : Nat) (c : Array Value) (t : TypeId) (fr : Nat × Nat), ¬ M k → A.heap[k]? = some (Obj.cells c t fr) → B.heap[k]? = some (Obj.cells c t fr))
    {n₀ : Nat} {p : Option Addr} {len cap : Nat} {zs : List Nat} (hM : len = 0 ∨ ∀ a, p = some a → ¬ M a.block) : IsBytes n₀ A p len cap zs → IsBytes n₀ B p len cap zs
  | ⟨h1, h2, h3, h4, .inl e⟩ => ⟨h1, h2, h3, h4, .inl e⟩
  | ⟨h1, h2, h3, h4, .inr ⟨b, off, e, hb, hc⟩⟩ => ⟨h1, h2, h3, h4, .inr ⟨b, off, e, hb, fun i hi => by
      obtain ⟨c, t, fr, hh, hci⟩ := cells_of_cell (hc i hi)
      have := h b c t fr (hM.resolve_left (by omega) _ e) hh
      rw [cell_of_row B b (off + i) c t fr this]
      exact hci⟩⟩
theorem IsBytes.rest {n₀ : Nat} {W : World} {p q : Option Addr} {len cap L C o : Nat} {zs : List Nat} (h : IsBytes n₀ W p len cap zs) (hL : L + o = len) (hC : C + o = cap) (hq : 0 < L → ∃ b off, p = some ⟨b, off, none⟩ ∧ q = some ⟨b, off + o, none⟩) :
    IsBytes n₀ W q L C (zs.drop o) := by
  obtain ⟨h1, h2, h3, h4, h5⟩ := h
  refine ⟨by simp; omega, by omega, by omega, fun z hz => h4 z (List.mem_of_mem_drop hz), ?_⟩
  by_cases hLz : 0 < L
  · obtain ⟨b, off, rfl, rfl⟩ := hq hLz
    rcases h5 with h5 | ⟨b', off', e, hb, hc⟩
    · omega
    · cases e
      refine .inr ⟨b, off + o, rfl, hb, fun i hi => ?_⟩
      rw [show off + o + i = off + (o + i) by omega, hc (o + i) (by omega)]
      simp [List.getElem?_drop]
  · exact .inl (by omega)

theorem ownsRow_later {A B : World} (hb : Below A.heap.size A B) {base : Nat} {e : TypeId} {size : Nat} {v : Value} {n : Nat} {xs : List Value} (h : A.ownsRow base e size v n xs) : B.ownsRow base e size v n xs := by
  refine ⟨h.1, ?_⟩
  rcases h.2 with hn | ⟨g, cap, cur, rfl, hg, hgg, rest⟩
  · exact .inl hn
  · exact .inr ⟨g, cap, cur, rfl, hg, (hb.block g (Array.getElem?_eq_some_iff.1 hgg).1).trans hgg, rest⟩
theorem ownsRow_mono {W : World} {base base' : Nat} (hb : base' ≤ base) {e : TypeId} {size : Nat} {v : Value} {n : Nat} {xs : List Value} (h : W.ownsRow base e size v n xs) : W.ownsRow base' e size v n xs := by
  refine ⟨h.1, ?_⟩
  rcases h.2 with hn | ⟨g, cap, cur, rfl, hg, rest⟩
  · exact .inl hn
  · exact .inr ⟨g, cap, cur, rfl, Nat.le_trans hb hg, rest⟩
/-- A slice that owns some elements is a slice of as many. -/
theorem slice_of_row {W : World} {n₀ : Nat} {e : TypeId} {size : Nat} {v : Value} {n : Nat} {xs : List Value} (h : W.ownsRow n₀ e size v n xs) : ∃ q c, v = .slice q n c := by
  rcases h.2 with ⟨rfl, rfl⟩ | ⟨g, cap, _, rfl, _⟩
  · exact ⟨none, 0, rfl⟩
  · exact ⟨_, cap, rfl⟩
theorem row_tag {A : World} {n₀ : Nat} {e : TypeId} {size : Nat} {v : Value} {n : Nat} {xs : List Value} (h : A.ownsRow n₀ e size v n xs) (k : Nat) (hk : v.ownBlock = some k) : ∃ c fr, A.heap[k]? = some (Obj.cells c e fr) := by
  rcases h.2 with ⟨rfl, _⟩ | ⟨g, cap, cur, rfl, _, hg, _⟩
  · simp [Value.ownBlock] at hk
  · simp [Value.ownBlock] at hk
    subst hk
    exact ⟨_, _, hg⟩

/-- The blocks of type t are kept. -/
def KeepT (t : TypeId) (A B : World) : Prop := ∀ (k : Nat) (c : Array Value) (fr : Nat × Nat), A.heap[k]? = some (Obj.cells c t fr) → B.heap[k]? = some (Obj.cells c t fr)
theorem KeepT.trans {t : TypeId} {A B C : World} (h : KeepT t A B) (k : KeepT t B C) : KeepT t A C := fun i c fr hi => k i c fr (h i c fr hi)
theorem KeepT.grown {t : TypeId} {A B : World} {row : Option Nat} (hg : A.grownBy B row) (hr : ∀ k, row = some k → ∃ c t' fr, A.heap[k]? = some (Obj.cells c t' fr) ∧ t' ≠ t) : KeepT t A B := fun k c fr hk => by
  refine (hg.block k (Array.getElem?_eq_some_iff.1 hk).1 (fun e => ?_)).trans hk
  obtain ⟨c', t', fr', hk', h1⟩ := hr k e.symm
  rw [hk] at hk'
  cases hk'
  exact h1 rfl
theorem KeepT.alloc {t : TypeId} (A : World) (o : Obj) : KeepT t A (A.alloc o) := KeepT.grown (World.grownBy_alloc A o none) (fun k e => by cases e)
theorem KeepT.row {t e : TypeId} {A B : World} {n₀ : Nat} {size : Nat} {v : Value} {n : Nat} {xs : List Value} (hg : A.grownBy B v.ownBlock) (h : A.ownsRow n₀ e size v n xs) (he : e ≠ t) : KeepT t A B :=
  KeepT.grown hg (fun k ek => by obtain ⟨c, fr, h'⟩ := row_tag h k ek; exact ⟨c, e, fr, h', he⟩)
theorem KeepT.of_below {t : TypeId} {A B : World} (h : Below A.heap.size A B) : KeepT t A B := fun k _ _ hk => (h.block k (Array.getElem?_eq_some_iff.1 hk).1).trans hk
theorem KeepT.own {t : TypeId} {A B : World} (hk : KeepT t A B) {n₀ : Nat} {size : Nat} {v : Value} {n : Nat} {xs : List Value} (h : A.ownsRow n₀ t size v n xs) : B.ownsRow n₀ t size v n xs := by
  refine ⟨h.1, ?_⟩
  rcases h.2 with hn | ⟨g, cap, cur, rfl, hg, hgg, rest⟩
  · exact .inl hn
  · exact .inr ⟨g, cap, cur, rfl, hg, hk _ _ _ hgg, rest⟩

/-- The slice v owns a row of just these bytes. -/
def Own (n₀ : Nat) (W : World) (v : Value) (zs : List Nat) : Prop := W.ownsRow n₀ 5 1 v zs.length (u8s zs)
theorem Own.nil (n₀ : Nat) (W : World) : Own n₀ W (.slice none 0 0) [] := World.ownsRow_nil _ _ _ _
theorem Own.later {A B : World} (hb : Below A.heap.size A B) {n₀ : Nat} {v : Value} {zs : List Nat} (h : Own n₀ A v zs) : Own n₀ B v zs := ownsRow_later hb h
theorem Own.mono {W : World} {n₀ n₁ : Nat} (hn : n₁ ≤ n₀) {v : Value} {zs : List Nat} (h : Own n₀ W v zs) : Own n₁ W v zs := ownsRow_mono hn h
theorem Own.alloc {W : World} {n₀ : Nat} {v : Value} {zs : List Nat} (h : Own n₀ W v zs) (o : Obj) : Own n₀ (W.alloc o) v zs := World.ownsRow.alloc h o
theorem Own.slice {W : World} {n₀ : Nat} {v : Value} {zs : List Nat} (h : Own n₀ W v zs) : ∃ q c, v = .slice q zs.length c := slice_of_row h
theorem Own.bytes {W : World} {n₀ : Nat} {q : Option Addr} {len cap : Nat} {zs : List Nat} (h : Own n₀ W (.slice q len cap) zs) (hz : ∀ z ∈ zs, z < 256) : IsBytes W.heap.size W q len cap zs := by
  rcases h.2 with ⟨e, hl⟩ | ⟨g, c, cur, e, hg, hgg, hnc, hm, hs, ht⟩
  · cases e
    have : zs = [] := List.eq_nil_of_length_eq_zero hl
    subst this
    exact ⟨rfl, Nat.le_refl _, by omega, by simp, .inl rfl⟩
  · cases e
    refine ⟨rfl, hnc, by simpa only [maxLen] using hm, hz, .inr ⟨g, 0, rfl, (Array.getElem?_eq_some_iff.1 hgg).1, fun i hi => ?_⟩⟩
    rw [Nat.zero_add, h.cellAt i (by omega), u8s_at hi]
theorem Own.cells {W : World} {n₀ : Nat} {q : Option Addr} {len cap : Nat} {zs : List Nat} (h : Own n₀ W (.slice q len cap) zs) (hp : 0 < len) : ∃ g, q = some ⟨g, 0, none⟩ ∧ n₀ ≤ g ∧ g < W.heap.size ∧ W.rangeAt g 0 (u8s zs) := by
  rcases h.2 with ⟨e, hl⟩ | ⟨g, c, cur, e, hg, hgg, hnc, hm, hs, ht⟩
  · cases e; omega
  · cases e
    refine ⟨g, rfl, hg, (Array.getElem?_eq_some_iff.1 hgg).1, fun j u hu => ?_⟩
    have hj : j < zs.length := by
      rcases Nat.lt_or_ge j zs.length with h | h
      · exact h
      · rw [List.getElem?_eq_none (by simpa using h)] at hu; cases hu
    rw [Nat.zero_add, h.cellAt j (by omega), hu]

theorem u8s_append (a b : List Nat) : u8s a ++ u8s b = u8s (a ++ b) := by simp [u8s]

/-- append of any slice of bytes to a row that is owned. -/
theorem run_append_bytes {P : Program} (h22 : P.underlying 25 = some (.slice 5)) (hi5 : (P.info? 5).map (fun i => (i.zero, i.size, i.bytes)) = some (some (.int .u8 0), 1, 1)) (w : World) (base : Nat) (ty : TypeId) (v : Value) (zs : List Nat) (hown : Own base w v zs) {n₀ : Nat} {p : Option Addr} {len cap : Nat} {ys : List Nat} (hI : IsBytes n₀ w p len cap ys) (hlen : zs.length + len ≤ 1000000) (hbase : base ≤ w.heap.size) :
    ∃ v' w', (Builtin.append_ #[25, 25] ty #[v, .slice p len cap]).run P w = .ok v' w' ∧ Own base w' v' (zs ++ ys) ∧ w.grownBy w' v.ownBlock := by
  obtain ⟨i0, hi, hz0, hz1, hz2⟩ := info_parts hi5
  obtain ⟨h1, h2, h3, h4, h5⟩ := hI
  by_cases hpn : ∃ a, p = some a
  · obtain ⟨ad, rfl⟩ := hpn
    have hnews : ∀ j u, (u8s ys)[j]? = some u → w.cell? (ad.add j) = some u := by
      rcases h5 with rfl | ⟨b, off, e, hb, hc⟩
      · obtain rfl := List.length_eq_zero_iff.1 h1
        intro j u hu
        simp [u8s] at hu
      · cases e
        intro j u hu
        have hj : j < ys.length := by
          rcases Nat.lt_or_ge j ys.length with h | h
          · exact h
          · rw [List.getElem?_eq_none (by simpa using h)] at hu; cases hu
        rw [Addr.add_mid, hc j (by omega), ← u8s_at hj, hu]
    obtain ⟨v', w', hr, ho, hg, _⟩ := run_append_own (P := P) w base 25 ty 5 i0 (.int .u8 0) 1 1 h22 hi hz0 hz1 hz2 rfl (by decide) v zs.length (u8s zs) hown ad len cap (u8s ys) (by simp [h1]) hnews (u8s_one _) (by simp only [maxLen]; omega) (by omega) hbase
    refine ⟨v', w', hr, ?_, hg⟩
    unfold Own
    rw [List.length_append, h1, ← u8s_append]
    exact ho
  · obtain rfl : p = none := by cases p with
      | none => rfl
      | some a => exact absurd ⟨a, rfl⟩ hpn
    have h0 : len = 0 := by
      rcases h5 with h | ⟨b, off, e, _⟩
      · exact h
      · cases e
    subst h0
    obtain rfl := List.length_eq_zero_iff.1 h1
    refine ⟨v, w, ?_, by rw [List.append_nil]; exact hown, ⟨rfl, rfl, rfl, Nat.le_refl _, fun _ _ _ => rfl⟩⟩
    rcases hown.2 with ⟨rfl, _⟩ | ⟨g, cp, cur, rfl, _, _, hnc, _⟩
    · simp [Builtin.append_, run_underlying h22, sizeOf, typeInfo, hi, Builtin.lenOf, Builtin.firstCells]
    · simp [Builtin.append_, run_underlying h22, sizeOf, typeInfo, hi, Builtin.lenOf, Builtin.firstCells, hnc, storeCells]

theorem wp_append_bytes {o : Oper} {a : Act} {w : World} {K : Act → World → Prop} {Q : Exit → Act → World → Prop} (s x : Operand)
    (ho : o.op = .call { callee := .builtin .append, args := #[s, x], argTypes := #[25, 25] })
    (base : Nat) (v : Value) (zs : List Nat) (hs : a.eval s = v) (hown : Own base w v zs) {n₀ : Nat} {p : Option Addr} {len cap : Nat} {ys : List Nat} (hx : a.eval x = .slice p len cap) (hI : IsBytes n₀ w p len cap ys) (hlen : zs.length + len ≤ 1000000) (hbase : base ≤ w.heap.size)
    (h : ∀ v' w', Own base w' v' (zs ++ ys) → w.grownBy w' v.ownBlock → K (a.put o.dst v') w') : o.wp Try.prog a w K Q := by
  obtain ⟨v', w', hr, h1, h2⟩ := run_append_bytes (P := Try.prog) Try.underlying25 info5 w base o.type v zs hown hI hlen hbase
  unfold Oper.wp
  simp [execOp, ho, resolve, invoke, builtin, hs, hx, hr, Result.andThen]
  exact h v' w' h1 h2
theorem wpList_append_bytes {ops : Array Oper} {rest : List Oper} {o : Oper} {a : Act} {w : World} {Q : Exit → Act → World → Prop} (hgd : o.guard = none) (s x : Operand)
    (ho : o.op = .call { callee := .builtin .append, args := #[s, x], argTypes := #[25, 25] })
    (base : Nat) (v : Value) (zs : List Nat) (hs : a.eval s = v) (hown : Own base w v zs) {n₀ : Nat} {p : Option Addr} {len cap : Nat} {ys : List Nat} (hx : a.eval x = .slice p len cap) (hI : IsBytes n₀ w p len cap ys) (hlen : zs.length + len ≤ 1000000) (hbase : base ≤ w.heap.size)
    (h : ∀ v' w', Own base w' v' (zs ++ ys) → w.grownBy w' v.ownBlock → wpList Try.prog ops Q rest (a.put o.dst v') w') : wpList Try.prog ops Q (o :: rest) a w :=
  wpList_plain hgd fun _ hK => wp_append_bytes s x ho base v zs hs hown hx hI hlen hbase fun v' w' h1 h2 => hK _ _ (h v' w' h1 h2)

/-- One new byte, in a block of its own. -/
theorem bytes_one (w : World) (x : Nat) (hx : x < 256) : IsBytes (w.heap.size + 1) (w.alloc (.cells #[.int .u8 (x : Nat)] 5)) (some ⟨w.heap.size, 0, none⟩) 1 1 [x] := by
  refine ⟨rfl, by omega, by omega, by simpa using hx, .inr ⟨w.heap.size, 0, rfl, by omega, fun i hi => ?_⟩⟩
  obtain rfl : i = 0 := by omega
  exact (Row.new w 5 #[.int .u8 (x : Nat)]).cell (i := 0) rfl

/-- What a growing row of its own keeps. -/
theorem below_own {n₀ : Nat} {a w w' : World} {v : Value} {zs : List Nat} (h : Below n₀ a w) (hn : n₀ ≤ w.heap.size) (ho : Own n₀ w v zs) (hg : w.grownBy w' v.ownBlock) : Below n₀ a w' :=
  h.grown hg hn (fun k e => (World.ownsRow.lt ho k e).1)
end Go.Proofs.Ytlmfdifnkkdpfaa
