/-
  The program's log and the reference's in memory; what is kept of them; Span, Room, Count, isRegion, Format.
-/
import Derived.Test.YtifjkkfienmdjaaRLog
import Derived.Test.YtifjkkfienmdjaaWrK
import Derived.Test.YtifjkkfienmdjaaRWrK
import Derived.Deep.CutRange
namespace Go.Proofs.Ytifjkkfienmdjaa
open Go.RowKit Go.Shelf

/-- The crashes that a disk names lie below n₀. -/
def CrLow (n₀ : Nat) (W : World) (p i : Nat) : Prop := ∀ q len cap, W.cell? ⟨p, i, none⟩ = some (.slice q len cap) → len = 0 ∨ ∃ b off, q = some ⟨b, off, none⟩ ∧ b < n₀
theorem CrLow.same {n₀ : Nat} {W W' : World} {p i : Nat} (h : CrLow n₀ W p i) {v : Value} (h1 : W.cell? ⟨p, i, none⟩ = some v) (h2 : W'.cell? ⟨p, i, none⟩ = some v) : CrLow n₀ W' p i := fun q len cap hc => h q len cap (h1.trans (h2.symm.trans hc))
theorem CrAt.frame {F S : List Nat} {n₀ : Nat} {W W' : World} {q : Option Addr} {len cap : Nat} {cr : List (Int × Int)} (h : CrAt F W q len cap cr) (hl : len = 0 ∨ ∃ b off, q = some ⟨b, off, none⟩ ∧ b < n₀) (hb : Buts S W.heap.size W W') (hS : ∀ x ∈ S, x ∈ F ∨ n₀ ≤ x) : CrAt F W' q len cap cr := by
  obtain ⟨h1, h2, h3, h4⟩ := h
  refine ⟨h1, h2, h3, ?_⟩
  rcases h4 with h | ⟨b, off, e, hlt, hF, hr⟩
  · exact .inl h
  · rcases hl with h | ⟨b', off', e', hb'⟩
    · exact .inl h
    · rw [e] at e'
      cases e'
      exact .inr ⟨b, off, e, Nat.lt_of_lt_of_le hlt hb.size, hF, hb.range hlt (fun hx => by rcases hS b hx with h | h; exact hF h; omega) hr⟩
theorem RecsAt.frame {n₀ : Nat} {W W' : World} {v : Value} {recs : List (List Nat)} (h : RecsAt n₀ W v recs) (hv : ∀ k, v.ownBlock = some k → W'.heap[k]? = W.heap[k]?) (h5 : KeepT 5 W W') : RecsAt n₀ W' v recs := by
  obtain ⟨cells, a1, a2, a3⟩ := h
  refine ⟨cells, ⟨a1.1, ?_⟩, a2, fun i hi => (a3 i hi).kept h5⟩
  rcases a1.2 with h | ⟨g, cp, cur, rfl, hg, hgg, hr⟩
  · exact .inl h
  · exact .inr ⟨g, cp, cur, rfl, hg, (hv g (by simp [Value.ownBlock])).trans hgg, hr⟩
def ownL (v : Value) : List Nat := v.ownBlock.toList
theorem mem_ownL {v : Value} {k : Nat} : k ∈ ownL v ↔ v.ownBlock = some k := by simp [ownL]
theorem RecsAt.own {n₀ : Nat} {W : World} {v : Value} {recs : List (List Nat)} (h : RecsAt n₀ W v recs) {k : Nat} (hk : v.ownBlock = some k) : n₀ ≤ k ∧ k < W.heap.size ∧ ∃ c fr, W.heap[k]? = some (Obj.cells c 25 fr) := by
  obtain ⟨cells, a1, _⟩ := h
  obtain ⟨c, fr, e⟩ := row_tag a1 k hk
  exact ⟨(World.ownsRow.lt a1 k hk).1, (Array.getElem?_eq_some_iff.1 e).1, c, fr, e⟩
theorem tag_ne {W : World} {x y : Nat} {c c' : Array Value} {t t' : TypeId} {fr fr' : Nat × Nat} (h : W.heap[x]? = some (Obj.cells c t fr)) (h' : W.heap[y]? = some (Obj.cells c' t' fr')) (hne : t ≠ t') : x ≠ y := fun e => by
  rw [e, h'] at h
  injection h with h
  injection h with _ h _
  exact hne h.symm
theorem keepT_grown {w w' : World} {row : Option Nat} {t : TypeId} (hg : w.grownBy w' row) (hr : ∀ k, row = some k → ∃ c t' fr, w.heap[k]? = some (Obj.cells c t' fr) ∧ t' ≠ t) : KeepT t w w' := fun k c fr hk => by
  refine (hg.block k (Array.getElem?_eq_some_iff.1 hk).1 (fun e => ?_)).trans hk
  obtain ⟨c', t', fr', e', hne⟩ := hr k e.symm
  rw [hk] at e'
  cases e'
  exact hne rfl
/-- append of one record: the row is the old one, or new. -/
theorem run_append_rec2 (w : World) (n₀ : Nat) (ty : TypeId) (v : Value) (recs : List (List Nat)) (h : RecsAt n₀ w v recs) (b : Nat) (x : Value) (zs : List Nat) (hx : Bytes5 w x zs) (hb : w.cell? ⟨b, 0, none⟩ = some x) (hlen : recs.length ≤ 100000) (hbase : n₀ ≤ w.heap.size) :
    ∃ v' w', (Builtin.append_ #[39, 39] ty #[v, .slice (some ⟨b, 0, none⟩) 1 1]).run Try.prog w = .ok v' w' ∧ RecsAt n₀ w' v' (recs ++ [zs]) ∧ w.grownBy w' v.ownBlock ∧ KeepT 5 w w' ∧ (∀ k, v'.ownBlock = some k → v.ownBlock = some k ∨ w.heap.size ≤ k) := by
  obtain ⟨v', w', hr, h1, h2, h3, h4⟩ := run_append_rec w n₀ ty v recs h b x zs hx hb hlen hbase
  refine ⟨v', w', hr, h1, h2, h3, ?_⟩
  obtain ⟨cells, a1, a2, a3⟩ := h
  obtain ⟨i0, hi, hz0, hz1, hz2⟩ := info_parts info25
  have hx1 : x.oneCell' = true := by
    obtain ⟨q, len, cap, e, _⟩ := hx
    rw [e]; rfl
  have hnews : ∀ j u, [x][j]? = some u → w.cell? ((⟨b, 0, none⟩ : Addr).add j) = some u := fun j u hu => by
    have : j = 0 := by
      by_cases h : j = 0
      · exact h
      · rw [List.getElem?_eq_none (by simp; omega)] at hu; cases hu
    subst this
    simp at hu
    subst hu
    rw [Addr.add_mid]; exact hb
  have h1' : ∀ u ∈ [x], u.oneCell' = true := fun u hu => by rw [List.mem_singleton] at hu; subst hu; exact hx1
  rcases a1.2 with ⟨rfl, h0⟩ | ⟨g, cap, cur, rfl, hbg, hg, hnc, hcm, hcs, htake⟩
  · have hrn := run_append_nil (P := Try.prog) w 39 ty 25 i0 _ Try.underlying39 hi hz0 ⟨b, 0, none⟩ 1 1 [x] (by rw [hz1]; rfl) hnews (by omega) (by omega) (by rw [hz2]; omega)
    rw [hr] at hrn
    injection hrn with e1 _
    rw [e1]
    intro k hk
    simp [Value.ownBlock] at hk
    exact .inr (by omega)
  · by_cases hroom : recs.length + 1 ≤ cap
    · have hfit : recs.length * i0.size + [x].length ≤ cur.size := by rw [hcs, hz1]; simp; omega
      have hrn := run_append_room (P := Try.prog) w 39 ty 25 i0 Try.underlying39 hi g recs.length cap cur hg ⟨b, 0, none⟩ 1 1 [x] (by rw [hz1]; rfl) hnews h1' hroom hfit
      rw [hr] at hrn
      injection hrn with e1 _
      rw [e1]
      intro k hk
      exact .inl hk
    · have hle := nextslicecap_le (need := recs.length + 1) (old := cap) (by omega)
      have hrn := run_append_grow (P := Try.prog) w 39 ty 25 i0 _ Try.underlying39 hi hz0 ⟨g, 0, none⟩ recs.length cap cells (by rw [hz1]; have := a1.1; omega) (fun j u hj => by
        rw [Addr.add_mid, Nat.zero_add]
        have hjl := (List.getElem?_eq_some_iff.1 hj).1
        have hcl := a1.1
        rw [a1.cellAt j (by omega), hj]) ⟨b, 0, none⟩ 1 1 [x] (by rw [hz1]; rfl) hnews (by omega) (by omega) (by rw [hz2]; omega)
      rw [hr] at hrn
      injection hrn with e1 _
      rw [e1]
      intro k hk
      simp [Value.ownBlock] at hk
      exact .inr (by omega)

theorem DiskAt.frame {F S : List Nat} {n₀ : Nat} {W W' : World} {p g : Nat} {d : St} (h : DiskAt F W p g d) (hc : CrLow n₀ W p 4) (hb : Buts S W.heap.size W W') (hp : p ∉ S) (hg : g ∉ S) (hS : ∀ x ∈ S, x ∈ F ∨ n₀ ≤ x) : DiskAt F W' p g d ∧ CrLow n₀ W' p 4 := by
  obtain ⟨h1, h2, h3, h4, h5, q, len, cap, h6, h7⟩ := h
  have h6' := hb.row h6.lt hp h6
  have hc4 := h6.cell (i := 4) rfl
  exact ⟨⟨h1, h2, h3, h4, hb.row h5.lt hg h5, q, len, cap, h6', h7.frame (hc q len cap hc4) hb hS⟩, hc.same hc4 (h6'.cell (i := 4) rfl)⟩
/-- The program's log: block L; the row of its records is v's. -/
def MLogAt (n₀ : Nat) (W : World) (L p : Nat) (v : Value) (l : Lg) : Prop :=
  Row W L 59 [.bool (!l.broken), .pointer (some ⟨p, 0, none⟩), .int .u32 (l.gen : Nat), .int .i64 ((l.f + l.pos : Nat) : Int), .int .i64 ((l.f + l.n : Nat) : Int), v] ∧ RecsAt n₀ W v l.recs
/-- The program's disk and log. -/
structure MSt (F : List Nat) (n₀ : Nat) (W : World) (L p g : Nat) (v : Value) (d : St) (l : Lg) : Prop where
  disk : DiskAt F W p g d
  cr : CrLow n₀ W p 4
  log : MLogAt n₀ W L p v l
  low : n₀ ≤ L
  pg : p < n₀ ∧ g < n₀
section
variable {F S : List Nat} {n₀ : Nat} {W W' : World} {L p g : Nat} {v : Value} {d d' : St} {l : Lg}
theorem MSt.rows (h : MSt F n₀ W L p g v d l) : (∃ c fr, W.heap[p]? = some (Obj.cells c 83 fr)) ∧ (∃ c fr, W.heap[g]? = some (Obj.cells c 55 fr)) ∧ ∃ c fr, W.heap[L]? = some (Obj.cells c 59 fr) := by
  obtain ⟨_, _, _, _, h5, q, len, cap, h6, _⟩ := h.disk
  exact ⟨⟨_, _, h6⟩, ⟨_, _, h5⟩, ⟨_, _, h.log.1⟩⟩
theorem MSt.lt (h : MSt F n₀ W L p g v d l) : p < W.heap.size ∧ g < W.heap.size ∧ L < W.heap.size := ⟨h.disk.lt.1, h.disk.lt.2, h.log.1.lt⟩
theorem MSt.frame (h : MSt F n₀ W L p g v d l) (hb : Buts S W.heap.size W W') (hp : p ∉ S) (hg : g ∉ S) (hL : L ∉ S) (hv : ∀ k, v.ownBlock = some k → k ∉ S) (hS : ∀ x ∈ S, x ∈ F ∨ n₀ ≤ x) (h5 : KeepT 5 W W') : MSt F n₀ W' L p g v d l := by
  obtain ⟨f1, f2⟩ := h.disk.frame h.cr hb hp hg hS
  exact ⟨f1, f2, ⟨hb.row h.log.1.lt hL h.log.1, h.log.2.frame (fun k hk => hb.block k (h.log.2.own hk).2.1 (hv k hk)) h5⟩, h.low, h.pg⟩
theorem MSt.later (h : MSt F n₀ W L p g v d l) (hb : Below W.heap.size W W') : MSt F n₀ W' L p g v d l :=
  h.frame (S := []) (Buts.of_below hb (Nat.le_refl _)) (by simp) (by simp) (by simp) (by simp) (by simp) (KeepT.of_below hb)
theorem MSt.keep5 (h : MSt F n₀ W L p g v d l) (hb : Buts [p, g] W.heap.size W W') : KeepT 5 W W' := keepT_of_buts hb (fun x hx => by
  obtain ⟨⟨c1, f1, e1⟩, ⟨c2, f2, e2⟩, _⟩ := h.rows
  simp only [List.mem_cons, List.not_mem_nil, or_false] at hx
  rcases hx with rfl | rfl
  · exact ⟨_, _, _, e1, by decide⟩
  · exact ⟨_, _, _, e2, by decide⟩)
theorem MSt.own (h : MSt F n₀ W L p g v d l) {k : Nat} (hk : v.ownBlock = some k) : n₀ ≤ k ∧ k < W.heap.size ∧ k ≠ p ∧ k ≠ g ∧ k ≠ L := by
  obtain ⟨a, b, c, fr, e⟩ := h.log.2.own hk
  obtain ⟨_, _, ⟨c3, f3, e3⟩⟩ := h.rows
  have := h.pg
  exact ⟨a, b, by omega, by omega, tag_ne e e3 (by decide)⟩
/-- Behind a write of the disk. -/
theorem MSt.wrote (h : MSt F n₀ W L p g v d l) (hr : DiskAt F W' p g d') (hb : Buts [p, g] W.heap.size W W') (hc : ∀ u, W.cell? ⟨p, 4, none⟩ = some u → W'.cell? ⟨p, 4, none⟩ = some u) : MSt F n₀ W' L p g v d' l := by
  have hp := h.pg
  have hl := h.low
  have hc4 : ∃ u, W.cell? ⟨p, 4, none⟩ = some u := by
    obtain ⟨_, _, _, _, _, q, len, cap, h6, _⟩ := h.disk
    exact ⟨_, h6.cell (i := 4) rfl⟩
  obtain ⟨u, hu⟩ := hc4
  exact ⟨hr, h.cr.same hu (hc u hu), ⟨hb.row h.log.1.lt (by simp; omega) h.log.1, h.log.2.frame (fun k hk => hb.block k (h.own hk).2.1 (by have := h.own hk; simp; omega)) (h.keep5 hb)⟩, h.low, h.pg⟩
/-- A cell of the log itself is set. -/
theorem MSt.setL (h : MSt F n₀ W L p g v d l) {i : Nat} {u : Value} {l' : Lg} (he : (([.bool (!l.broken), .pointer (some ⟨p, 0, none⟩), .int .u32 (l.gen : Nat), .int .i64 ((l.f + l.pos : Nat) : Int), .int .i64 ((l.f + l.n : Nat) : Int), v] : List Value)).set i u = ([.bool (!l'.broken), .pointer (some ⟨p, 0, none⟩), .int .u32 (l'.gen : Nat), .int .i64 ((l'.f + l'.pos : Nat) : Int), .int .i64 ((l'.f + l'.n : Nat) : Int), v] : List Value)) (hr : l'.recs = l.recs) : MSt F n₀ (W.setCell ⟨L, i, none⟩ u) L p g v d l' := by
  have hp := h.pg
  have hl := h.low
  have hb : Buts [L] W.heap.size W (W.setCell ⟨L, i, none⟩ u) := (Buts.refl _ _ _).set (by simp) i u
  have h5 : KeepT 5 W (W.setCell ⟨L, i, none⟩ u) := keepT_of_buts hb (fun x hx => by
    rw [List.mem_singleton] at hx
    subst hx
    exact ⟨_, 59, _, h.log.1, by decide⟩)
  obtain ⟨f1, f2⟩ := h.disk.frame h.cr hb (by simp; omega) (by simp; omega) (fun x hx => by rw [List.mem_singleton] at hx; exact .inr (by omega))
  refine ⟨f1, f2, ⟨?_, ?_⟩, h.low, h.pg⟩
  · have := h.log.1.set i u
    rw [he] at this
    exact this
  · rw [hr]
    exact h.log.2.frame (fun k hk => hb.block k (h.own hk).2.1 (by have := h.own hk; simp; omega)) h5
/-- Records are appended to its row, and it names the new row. -/
theorem MSt.app (h : MSt F n₀ W L p g v d l) {W1 : World} {v' : Value} {l' : Lg} (hg : W.grownBy W1 v.ownBlock) (h5 : KeepT 5 W W1) (hr : RecsAt n₀ W1 v' l'.recs) (he : (([.bool (!l.broken), .pointer (some ⟨p, 0, none⟩), .int .u32 (l.gen : Nat), .int .i64 ((l.f + l.pos : Nat) : Int), .int .i64 ((l.f + l.n : Nat) : Int), v] : List Value)).set 5 v' = (([.bool (!l'.broken), .pointer (some ⟨p, 0, none⟩), .int .u32 (l'.gen : Nat), .int .i64 ((l'.f + l'.pos : Nat) : Int), .int .i64 ((l'.f + l'.n : Nat) : Int), v] : List Value)).set 5 v') : MSt F n₀ (W1.setCell ⟨L, 5, none⟩ v') L p g v' d l' ∧ Row W1 L 59 (([.bool (!l.broken), .pointer (some ⟨p, 0, none⟩), .int .u32 (l.gen : Nat), .int .i64 ((l.f + l.pos : Nat) : Int), .int .i64 ((l.f + l.n : Nat) : Int), v] : List Value)) ∧ Buts (L :: ownL v) W.heap.size W (W1.setCell ⟨L, 5, none⟩ v') ∧ KeepT 5 W (W1.setCell ⟨L, 5, none⟩ v') := by
  have hp := h.pg
  have hl := h.low
  have hb1 : Buts (ownL v) W.heap.size W W1 := ⟨hg.os, hg.tape, hg.output, hg.size, fun k hk hS => hg.block k hk (fun e => hS (mem_ownL.2 e.symm))⟩
  have hS1 : ∀ x ∈ ownL v, n₀ ≤ x ∧ x ≠ p ∧ x ≠ g ∧ x ≠ L := fun x hx => by have := h.own (mem_ownL.1 hx); omega
  obtain ⟨f1, f2⟩ := h.disk.frame h.cr hb1 (fun hx => by have := hS1 _ hx; omega) (fun hx => by have := hS1 _ hx; omega) (fun x hx => .inr (hS1 x hx).1)
  have hL1 : Row W1 L 59 (([.bool (!l.broken), .pointer (some ⟨p, 0, none⟩), .int .u32 (l.gen : Nat), .int .i64 ((l.f + l.pos : Nat) : Int), .int .i64 ((l.f + l.n : Nat) : Int), v] : List Value)) := hb1.row h.log.1.lt (fun hx => by have := hS1 _ hx; omega) h.log.1
  have hb2 : Buts [L] W1.heap.size W1 (W1.setCell ⟨L, 5, none⟩ v') := (Buts.refl _ _ _).set (by simp) 5 v'
  have h52 : KeepT 5 W1 (W1.setCell ⟨L, 5, none⟩ v') := keepT_of_buts hb2 (fun x hx => by
    rw [List.mem_singleton] at hx
    subst hx
    exact ⟨_, 59, _, hL1, by decide⟩)
  obtain ⟨f3, f4⟩ := f1.frame f2 hb2 (by simp; omega) (by simp; omega) (fun x hx => by rw [List.mem_singleton] at hx; exact .inr (by omega))
  refine ⟨⟨f3, f4, ⟨?_, hr.frame (fun k hk => hb2.block k (hr.own hk).2.1 ?_) h52⟩, h.low, h.pg⟩, hL1, ?_, h5.trans h52⟩
  · have := hL1.set 5 v'
    rw [he] at this
    exact this
  · obtain ⟨_, _, c, fr, e⟩ := hr.own hk
    have := tag_ne e hL1 (by decide)
    simpa using this
  · exact (hb1.mono (fun x hx => List.mem_cons_of_mem _ hx) (Nat.le_refl _)).trans (hb2.mono (by simp) hg.size)
end

theorem RefAt.frame {F S : List Nat} {n₀ : Nat} {W W' : World} {p g : Nat} {d : St} (h : RefAt F W p g d) (hc : CrLow n₀ W p 1) (hb : Buts S W.heap.size W W') (hp : p ∉ S) (hg : g ∉ S) (hS : ∀ x ∈ S, x ∈ F ∨ n₀ ≤ x) : RefAt F W' p g d ∧ CrLow n₀ W' p 1 := by
  obtain ⟨h1, h2, h3, h4, h5, q, len, cap, h6, h7⟩ := h
  have h6' := hb.row h6.lt hp h6
  have hc4 := h6.cell (i := 1) rfl
  exact ⟨⟨h1, h2, h3, h4, hb.row h5.lt hg h5, q, len, cap, h6', h7.frame (hc q len cap hc4) hb hS⟩, hc.same hc4 (h6'.cell (i := 1) rfl)⟩

/-- The reference's disk and log. -/
structure RSt (F : List Nat) (n₀ : Nat) (W : World) (L p g : Nat) (v : Value) (d : St) (l : Lg) : Prop where
  disk : RefAt F W p g d
  cr : CrLow n₀ W p 1
  log : RLogAt n₀ W L p v l
  low : n₀ ≤ L
  pg : p < n₀ ∧ g < n₀
section
variable {F S : List Nat} {n₀ : Nat} {W W' : World} {L p g : Nat} {v : Value} {d d' : St} {l : Lg}
theorem RSt.rows (h : RSt F n₀ W L p g v d l) : (∃ c fr, W.heap[p]? = some (Obj.cells c 85 fr)) ∧ (∃ c fr, W.heap[g]? = some (Obj.cells c 55 fr)) ∧ ∃ c fr, W.heap[L]? = some (Obj.cells c 41 fr) := by
  obtain ⟨_, _, _, _, h5, q, len, cap, h6, _⟩ := h.disk
  exact ⟨⟨_, _, h6⟩, ⟨_, _, h5⟩, ⟨_, _, h.log.1⟩⟩
theorem RSt.lt (h : RSt F n₀ W L p g v d l) : p < W.heap.size ∧ g < W.heap.size ∧ L < W.heap.size := ⟨h.disk.lt.1, h.disk.lt.2, h.log.1.lt⟩
theorem RSt.frame (h : RSt F n₀ W L p g v d l) (hb : Buts S W.heap.size W W') (hp : p ∉ S) (hg : g ∉ S) (hL : L ∉ S) (hv : ∀ k, v.ownBlock = some k → k ∉ S) (hS : ∀ x ∈ S, x ∈ F ∨ n₀ ≤ x) (h5 : KeepT 5 W W') : RSt F n₀ W' L p g v d l := by
  obtain ⟨f1, f2⟩ := h.disk.frame h.cr hb hp hg hS
  exact ⟨f1, f2, ⟨hb.row h.log.1.lt hL h.log.1, h.log.2.frame (fun k hk => hb.block k (h.log.2.own hk).2.1 (hv k hk)) h5⟩, h.low, h.pg⟩
theorem RSt.later (h : RSt F n₀ W L p g v d l) (hb : Below W.heap.size W W') : RSt F n₀ W' L p g v d l :=
  h.frame (S := []) (Buts.of_below hb (Nat.le_refl _)) (by simp) (by simp) (by simp) (by simp) (by simp) (KeepT.of_below hb)
theorem RSt.keep5 (h : RSt F n₀ W L p g v d l) (hb : Buts [p, g] W.heap.size W W') : KeepT 5 W W' := keepT_of_buts hb (fun x hx => by
  obtain ⟨⟨c1, f1, e1⟩, ⟨c2, f2, e2⟩, _⟩ := h.rows
  simp only [List.mem_cons, List.not_mem_nil, or_false] at hx
  rcases hx with rfl | rfl
  · exact ⟨_, _, _, e1, by decide⟩
  · exact ⟨_, _, _, e2, by decide⟩)
theorem RSt.own (h : RSt F n₀ W L p g v d l) {k : Nat} (hk : v.ownBlock = some k) : n₀ ≤ k ∧ k < W.heap.size ∧ k ≠ p ∧ k ≠ g ∧ k ≠ L := by
  obtain ⟨a, b, c, fr, e⟩ := h.log.2.own hk
  obtain ⟨_, _, ⟨c3, f3, e3⟩⟩ := h.rows
  have := h.pg
  exact ⟨a, b, by omega, by omega, tag_ne e e3 (by decide)⟩
/-- Behind a write of the disk. -/
theorem RSt.wrote (h : RSt F n₀ W L p g v d l) (hr : RefAt F W' p g d') (hb : Buts [p, g] W.heap.size W W') (hc : ∀ u, W.cell? ⟨p, 1, none⟩ = some u → W'.cell? ⟨p, 1, none⟩ = some u) : RSt F n₀ W' L p g v d' l := by
  have hp := h.pg
  have hl := h.low
  have hc4 : ∃ u, W.cell? ⟨p, 1, none⟩ = some u := by
    obtain ⟨_, _, _, _, _, q, len, cap, h6, _⟩ := h.disk
    exact ⟨_, h6.cell (i := 1) rfl⟩
  obtain ⟨u, hu⟩ := hc4
  exact ⟨hr, h.cr.same hu (hc u hu), ⟨hb.row h.log.1.lt (by simp; omega) h.log.1, h.log.2.frame (fun k hk => hb.block k (h.own hk).2.1 (by have := h.own hk; simp; omega)) (h.keep5 hb)⟩, h.low, h.pg⟩
/-- A cell of the log itself is set. -/
theorem RSt.setL (h : RSt F n₀ W L p g v d l) {i : Nat} {u : Value} {l' : Lg} (he : (([.pointer (some ⟨p, 0, none⟩), .int .i64 (l.f : Nat), .int .i64 (l.n : Nat), .int .u32 (l.gen : Nat), .int .i64 (l.pos : Nat), v, .bool l.broken] : List Value)).set i u = ([.pointer (some ⟨p, 0, none⟩), .int .i64 (l'.f : Nat), .int .i64 (l'.n : Nat), .int .u32 (l'.gen : Nat), .int .i64 (l'.pos : Nat), v, .bool l'.broken] : List Value)) (hr : l'.recs = l.recs) : RSt F n₀ (W.setCell ⟨L, i, none⟩ u) L p g v d l' := by
  have hp := h.pg
  have hl := h.low
  have hb : Buts [L] W.heap.size W (W.setCell ⟨L, i, none⟩ u) := (Buts.refl _ _ _).set (by simp) i u
  have h5 : KeepT 5 W (W.setCell ⟨L, i, none⟩ u) := keepT_of_buts hb (fun x hx => by
    rw [List.mem_singleton] at hx
    subst hx
    exact ⟨_, 41, _, h.log.1, by decide⟩)
  obtain ⟨f1, f2⟩ := h.disk.frame h.cr hb (by simp; omega) (by simp; omega) (fun x hx => by rw [List.mem_singleton] at hx; exact .inr (by omega))
  refine ⟨f1, f2, ⟨?_, ?_⟩, h.low, h.pg⟩
  · have := h.log.1.set i u
    rw [he] at this
    exact this
  · rw [hr]
    exact h.log.2.frame (fun k hk => hb.block k (h.own hk).2.1 (by have := h.own hk; simp; omega)) h5
/-- Records are appended to its row, and it names the new row. -/
theorem RSt.app (h : RSt F n₀ W L p g v d l) {W1 : World} {v' : Value} {l' : Lg} (hg : W.grownBy W1 v.ownBlock) (h5 : KeepT 5 W W1) (hr : RecsAt n₀ W1 v' l'.recs) (he : (([.pointer (some ⟨p, 0, none⟩), .int .i64 (l.f : Nat), .int .i64 (l.n : Nat), .int .u32 (l.gen : Nat), .int .i64 (l.pos : Nat), v, .bool l.broken] : List Value)).set 5 v' = (([.pointer (some ⟨p, 0, none⟩), .int .i64 (l'.f : Nat), .int .i64 (l'.n : Nat), .int .u32 (l'.gen : Nat), .int .i64 (l'.pos : Nat), v, .bool l'.broken] : List Value)).set 5 v') : RSt F n₀ (W1.setCell ⟨L, 5, none⟩ v') L p g v' d l' ∧ Row W1 L 41 (([.pointer (some ⟨p, 0, none⟩), .int .i64 (l.f : Nat), .int .i64 (l.n : Nat), .int .u32 (l.gen : Nat), .int .i64 (l.pos : Nat), v, .bool l.broken] : List Value)) ∧ Buts (L :: ownL v) W.heap.size W (W1.setCell ⟨L, 5, none⟩ v') ∧ KeepT 5 W (W1.setCell ⟨L, 5, none⟩ v') := by
  have hp := h.pg
  have hl := h.low
  have hb1 : Buts (ownL v) W.heap.size W W1 := ⟨hg.os, hg.tape, hg.output, hg.size, fun k hk hS => hg.block k hk (fun e => hS (mem_ownL.2 e.symm))⟩
  have hS1 : ∀ x ∈ ownL v, n₀ ≤ x ∧ x ≠ p ∧ x ≠ g ∧ x ≠ L := fun x hx => by have := h.own (mem_ownL.1 hx); omega
  obtain ⟨f1, f2⟩ := h.disk.frame h.cr hb1 (fun hx => by have := hS1 _ hx; omega) (fun hx => by have := hS1 _ hx; omega) (fun x hx => .inr (hS1 x hx).1)
  have hL1 : Row W1 L 41 (([.pointer (some ⟨p, 0, none⟩), .int .i64 (l.f : Nat), .int .i64 (l.n : Nat), .int .u32 (l.gen : Nat), .int .i64 (l.pos : Nat), v, .bool l.broken] : List Value)) := hb1.row h.log.1.lt (fun hx => by have := hS1 _ hx; omega) h.log.1
  have hb2 : Buts [L] W1.heap.size W1 (W1.setCell ⟨L, 5, none⟩ v') := (Buts.refl _ _ _).set (by simp) 5 v'
  have h52 : KeepT 5 W1 (W1.setCell ⟨L, 5, none⟩ v') := keepT_of_buts hb2 (fun x hx => by
    rw [List.mem_singleton] at hx
    subst hx
    exact ⟨_, 41, _, hL1, by decide⟩)
  obtain ⟨f3, f4⟩ := f1.frame f2 hb2 (by simp; omega) (by simp; omega) (fun x hx => by rw [List.mem_singleton] at hx; exact .inr (by omega))
  refine ⟨⟨f3, f4, ⟨?_, hr.frame (fun k hk => hb2.block k (hr.own hk).2.1 ?_) h52⟩, h.low, h.pg⟩, hL1, ?_, h5.trans h52⟩
  · have := hL1.set 5 v'
    rw [he] at this
    exact this
  · obtain ⟨_, _, c, fr, e⟩ := hr.own hk
    have := tag_ne e hL1 (by decide)
    simpa using this
  · exact (hb1.mono (fun x hx => List.mem_cons_of_mem _ hx) (Nat.le_refl _)).trans (hb2.mono (by simp) hg.size)
end

/-- What is fit to be asked. -/
structure LgOk (l : Lg) (d : St) : Prop where
  f : l.f ≤ 65536
  n : l.n ≤ 65536
  pos : l.pos ≤ l.n
  gen : l.gen < 4294967296
  recs : l.recs.length ≤ 100000
  wr : d.wr ≤ 100000

set_option maxRecDepth 100000 in
set_option maxHeartbeats 1000000 in
theorem span_any (n : Int) (w : World) : Calls Try.prog 9 #[.int .i64 n] w fun e w' => e = .returned (.int .i64 (spanN n : Nat)) ∧ w' = w := by
  by_cases h0 : n < 0
  · have e1 : spanN n = 0 := by unfold spanN; rw [if_pos (.inl h0)]
    rw [e1]
    go_enter Try.func9, Try.ntmps9
    go_wp2
    go_ret
    exact ⟨rfl, rfl⟩
  by_cases h1 : 262144 < n
  · have e1 : spanN n = 0 := by unfold spanN; rw [if_pos (.inr h1)]
    rw [e1]
    go_enter Try.func9, Try.ntmps9
    go_wp2
    go_ret
    exact ⟨rfl, rfl⟩
  have e1 : ((spanN n : Nat) : Int) = 1 + (max (n - 51) 0 + 63) / 64 := by
    unfold spanN
    rw [if_neg (by omega)]
    omega
  rw [e1]
  clear e1
  by_cases h2 : n ≤ 51
  · have e2 : max (n - 51) 0 = 0 := by omega
    rw [e2]
    have h3 : n - 51 ≤ 0 := by omega
    clear e2
    go_enter Try.func9, Try.ntmps9
    go_wp2
    all_goals
      go_ret
      refine ⟨congrArg (fun z => Ending.returned (Value.int IntKind.i64 z)) (?_ : _ = _), rfl⟩
      omega
  · have e2 : max (n - 51) 0 = n - 51 := by omega
    rw [e2]
    have h3 : 0 < n - 51 := by omega
    clear e2
    go_enter Try.func9, Try.ntmps9
    go_wp2
    all_goals
      go_ret
      refine ⟨congrArg (fun z => Ending.returned (Value.int IntKind.i64 z)) (?_ : _ = _), rfl⟩
      omega
set_option maxRecDepth 100000 in
set_option maxHeartbeats 1000000 in
theorem room_at {W : World} {L a b : Nat} (c3 : W.cell? ⟨L, 3, none⟩ = some (.int .i64 (a : Nat))) (c4 : W.cell? ⟨L, 4, none⟩ = some (.int .i64 (b : Nat))) (hb : b ≤ 1000000) (ha : a ≤ b) : Calls Try.prog 15 #[.pointer (some ⟨L, 0, none⟩)] W fun e w' => e = .returned (.int .i64 ((b - a : Nat) : Int)) ∧ Below W.heap.size W w' := by
  go_enter Try.func15, Try.ntmps15
  go_wp2_with (go_quiet (fail))
  go_ret
  refine ⟨congrArg (fun z => Ending.returned (Value.int IntKind.i64 z)) (?_ : _ = _), below_drewN (Below.refl _ _) _⟩
  omega
set_option maxHeartbeats 1000000 in
theorem room_none (w : World) : Calls Try.prog 15 #[.pointer none] w fun e w' => e = .returned (.int .i64 0) ∧ w' = w := by
  go_enter Try.func15, Try.ntmps15
  go_wp2
  go_ret
  exact ⟨rfl, rfl⟩
set_option maxHeartbeats 1000000 in
theorem count_at {W : World} {L : Nat} {q : Option Addr} {len c : Nat} (c5 : W.cell? ⟨L, 5, none⟩ = some (.slice q len c)) : Calls Try.prog 26 #[.pointer (some ⟨L, 0, none⟩)] W fun e w' => e = .returned (.int .i64 (len : Nat)) ∧ w' = W := by
  go_enter Try.func26, Try.ntmps26
  go_wp2
  go_ret
  exact ⟨rfl, rfl⟩
set_option maxHeartbeats 1000000 in
theorem count_none (w : World) : Calls Try.prog 26 #[.pointer none] w fun e w' => e = .returned (.int .i64 0) ∧ w' = w := by
  go_enter Try.func26, Try.ntmps26
  go_wp2
  go_ret
  exact ⟨rfl, rfl⟩
theorem MSt.room {F : List Nat} {n₀ : Nat} {W : World} {L p g : Nat} {v : Value} {d : St} {l : Lg} (h : MSt F n₀ W L p g v d l) (hok : LgOk l d) : Calls Try.prog 15 #[.pointer (some ⟨L, 0, none⟩)] W fun e w' => e = .returned (.int .i64 ((l.n - l.pos : Nat) : Int)) ∧ Below W.heap.size W w' := by
  have h1 := hok.f
  have h2 := hok.n
  have h3 := hok.pos
  have := room_at (h.log.1.cell (i := 3) rfl) (h.log.1.cell (i := 4) rfl) (by omega) (by omega)
  rw [show l.f + l.n - (l.f + l.pos) = l.n - l.pos by omega] at this
  exact this
theorem MSt.count {F : List Nat} {n₀ : Nat} {W : World} {L p g : Nat} {v : Value} {d : St} {l : Lg} (h : MSt F n₀ W L p g v d l) : Calls Try.prog 26 #[.pointer (some ⟨L, 0, none⟩)] W fun e w' => e = .returned (.int .i64 (l.recs.length : Nat)) ∧ w' = W := by
  obtain ⟨q, c, rfl⟩ := h.log.2.slice
  exact count_at (h.log.1.cell (i := 5) rfl)
variable {F : List Nat} {p g : Nat} {d : St} {w : World}
set_option maxRecDepth 100000 in
set_option maxHeartbeats 2000000 in
theorem isRegion_any (h : DiskAt F w p g d) (f n : Int) (hn : -9223372036854775808 ≤ n ∧ n ≤ 9223372036854775807) (hf : -9223372036854775808 ≤ f ∧ f ≤ 9223372036854775807) :
    Calls Try.prog 28 #[.pointer (some ⟨p, 0, none⟩), .int .i64 f, .int .i64 n] w fun e w' => e = .returned (.bool (regB d.ss.length f n)) ∧ w' = w := by
  have HL : Hid (Calls Try.prog 44 #[.pointer (some ⟨p, 0, none⟩)] w fun e w' => e = .returned (.int .i64 (d.ss.length : Nat)) ∧ w' = w) := len_any h
  have hl := h.1.few
  clear h
  unfold regB
  generalize d.ss.length = m at *
  by_cases a1 : 0 ≤ f
  · by_cases a2 : 2 ≤ n
    · have a5 : -9223372036854775808 ≤ (m : Int) - n ∧ (m : Int) - n ≤ 9223372036854775807 := by omega
      by_cases a4 : f ≤ (m : Int) - n
      · go_enter Try.func28, Try.ntmps28
        go_wp2_with (go_at_call 44; refine HL.out.mono ?_; rintro e w1 ⟨rfl, hw1⟩; obtain rfl : w = w1 := hw1.symm; clear hw1)
        go_ret
        exact ⟨by first | (simp; done) | (simp; omega), rfl⟩
      · have e9 : (decide (0 ≤ f) && decide (2 ≤ n) && decide (f ≤ (m : Int)) && decide (n ≤ (m : Int) - f)) = false := by
          rw [Bool.and_eq_false_iff]
          exact .inr (decide_eq_false (by omega))
        rw [e9]
        clear e9
        go_enter Try.func28, Try.ntmps28
        go_wp2_with (go_at_call 44; refine HL.out.mono ?_; rintro e w1 ⟨rfl, hw1⟩; obtain rfl : w = w1 := hw1.symm; clear hw1)
        go_ret
        exact ⟨by first | (simp; done) | (simp; omega), rfl⟩
    · go_enter Try.func28, Try.ntmps28
      go_wp2
      go_ret
      exact ⟨by first | (simp; done) | (simp; omega), rfl⟩
  · go_enter Try.func28, Try.ntmps28
    go_wp2
    go_ret
    exact ⟨by first | (simp; done) | (simp; omega), rfl⟩
set_option maxRecDepth 100000 in
set_option maxHeartbeats 2000000 in
/-- Format -/
theorem format_any (h : DiskAt F w p g d) (f n : Int) (gen : Nat) (hn : -9223372036854775808 ≤ n ∧ n ≤ 9223372036854775807) (hf : -9223372036854775808 ≤ f ∧ f ≤ 9223372036854775807) (hwr : d.wr < 1000000) :
    Calls Try.prog 19 #[.pointer (some ⟨p, 0, none⟩), .int .i64 f, .int .i64 n, .int .u32 (gen : Nat)] w fun e w' => e = .returned (.int .i64 (if regB d.ss.length f n = true then d.wErr f else 1)) ∧ DiskAt F w' p g (if regB d.ss.length f n = true then d.write f zeros64 else d) ∧ Buts [p, g] w.heap.size w w' := by
  have HR : Hid (Calls Try.prog 28 #[.pointer (some ⟨p, 0, none⟩), .int .i64 f, .int .i64 n] w fun e w' => e = .returned (.bool (regB d.ss.length f n)) ∧ w' = w) := isRegion_any h f n hn hf
  have HW : Hid (Calls Try.prog 25 #[.pointer (some ⟨p, 0, none⟩), .int .i64 f, .agg (u8s zeros64).toArray] w fun e w' => e = .returned (.int .i64 (d.wErr f)) ∧ DiskAt F w' p g (d.write f zeros64) ∧ Buts [p, g] w.heap.size w w') := write_any h f isSec_zeros hwr
  have HBu : Hid (Try.prog.built 55 [] = some (u8s zeros64).toArray) := built29
  have H0 : Hid (DiskAt F w p g d) := h
  clear h
  generalize u8s zeros64 = Z at *
  cases hr : regB d.ss.length f n with
  | true =>
    rw [hr] at HR
    rw [if_pos rfl, if_pos rfl]
    clear hr
    go_enter Try.func19, Try.ntmps19
    go_wp2_with (first
      | (go_at_call 28; refine HR.out.mono ?_; rintro e w1 ⟨rfl, hw1⟩; obtain rfl : w = w1 := hw1.symm; clear hw1)
      | ((with_reducible show wpList _ _ _ (Oper.mk _ (Op.build 55 _) _ _ _ _ :: _) _ _); refine wpList_built_want (by rfl) 55 _ rfl _ _ (by simp only [List.map_toArray, List.map_nil]) HBu.out ?_; simp only [Act.put, List.setIfInBounds_toArray, List.set_cons_zero, List.set_cons_succ])
      | (go_at_call 25; refine HW.out.mono ?_; rintro e w2 ⟨rfl, hR2, hb2⟩; have HR2 : Hid (DiskAt F w2 p g _) := hR2; clear hR2))
    go_ret
    exact ⟨rfl, HR2.out, hb2⟩
  | false =>
    rw [hr] at HR
    rw [if_neg (by simp), if_neg (by simp)]
    clear hr
    go_enter Try.func19, Try.ntmps19
    go_wp2_with (go_at_call 28; refine HR.out.mono ?_; rintro e w1 ⟨rfl, hw1⟩; obtain rfl : w = w1 := hw1.symm; clear hw1)
    go_ret
    exact ⟨rfl, H0.out, Buts.refl _ _ _⟩
end Go.Proofs.Ytifjkkfienmdjaa
