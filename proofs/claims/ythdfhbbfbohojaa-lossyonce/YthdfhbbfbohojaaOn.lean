/-
  What two lines are that got the same texts, one without fates.
-/
import Derived.Test.YthdfhbbfbohojaaDr
import Derived.Test.YthdfhbbfbohojaaArgsL
import Derived.Test.YthdfhbbfbohojaaAw
namespace Go.Proofs.Ythdfhbbfbohojaa
open Go.RowKit Go.Shelf

theorem insK_last {x : Ky} : ∀ {l : List Ky}, (∀ y ∈ l, y.1 ≤ x.1) → insK x l = l ++ [x]
  | [], _ => rfl
  | y :: r, h => by
    rw [insK, if_pos (h y List.mem_cons_self), insK_last (fun z hz => h z (List.mem_cons_of_mem _ hz))]
    rfl
/-- Numbered from nought. -/
def numK (l : List (List Nat)) (k : Nat) : List Ky := (List.range k).map fun (i : Nat) => ((i : Int), l.getD i [])
theorem numK_succ (l : List (List Nat)) (k : Nat) : insK ((k : Int), l.getD k []) (numK l k) = numK l (k + 1) := by
  rw [insK_last (fun y hy => ?_)]
  · simp [numK, List.range_succ]
  · obtain ⟨i, hi, rfl⟩ := List.mem_map.1 hy
    have := List.mem_range.1 hi
    show (i : Int) ≤ (k : Int)
    omega
theorem numK_length (l : List (List Nat)) (k : Nat) : (numK l k).length = k := by simp [numK]
theorem numK_sorted (l : List (List Nat)) : ∀ k, Srt (numK l k)
  | 0 => by simp [numK, Srt]
  | k + 1 => by rw [← numK_succ]; exact insK_sorted (numK_sorted l k)

/-- The blocks of a line. -/
structure LkD (D : Nat → Prop) (p g : Nat) (fv : Value) (ms : List Msg) : Prop where
  hp : D p
  hg : D g
  hf : ∀ q n c, fv = .slice q n c → ∀ a, q = some a → n = 0 ∨ D a.block
  hm : ∀ m ∈ ms, ∀ a, m.q = some a → D a.block
theorem LkD.inS {S p g : Nat} {fv : Value} {ms : List Msg} (h : InS S p g fv ms) : LkD (fun k => k < S) p g fv ms := ⟨h.hp, h.hg, h.hf, h.hm⟩
theorem LkD.mono {D E : Nat → Prop} {p g : Nat} {fv : Value} {ms : List Msg} (h : LkD D p g fv ms) (hE : ∀ k, D k → E k) : LkD E p g fv ms := ⟨hE _ h.hp, hE _ h.hg, fun q n c e a ea => (h.hf q n c e a ea).imp id (hE _), fun m hm a ea => hE _ (h.hm m hm a ea)⟩
/-- Blocks that hold a line stand. -/
theorem LkAt.keepD {base : Nat} {D : Nat → Prop} {A B : World} {p g : Nat} {fv wv : Value} {L : Lk} (h : LkAt base A p g fv wv L) (hD : LkD D p g fv L.ms) (hk : ∀ k o, D k → A.heap[k]? = some o → B.heap[k]? = some o) (hs : A.heap.size ≤ B.heap.size) : LkAt base B p g fv wv L := by
  refine ⟨h.hp, h.hg, hk p _ hD.hp h.row, ?_, ?_, fun m hm => ⟨?_, (h.txt m hm).2⟩⟩
  · obtain ⟨q, c, e, h1, h2, h3⟩ := h.fates
    refine ⟨q, c, e, h1, h2, ?_⟩
    by_cases h0 : L.fs = []
    · exact .inl h0
    rcases h3 with h3 | ⟨b, o, e2, hl, ht, hr⟩
    · exact .inl h3
    · have hb : D b := by
        rcases hD.hf _ _ _ e _ e2 with h | h
        · exact absurd (List.length_eq_zero_iff.1 h) h0
        · exact h
      have h5 : A.heap[b]? = some A.heap[b] := Array.getElem?_eq_getElem hl
      have h6 := hk b _ hb h5
      refine .inr ⟨b, o, e2, Nat.lt_of_lt_of_le hl hs, ht.imp id (fun ⟨c, fr, hc⟩ => ⟨c, fr, by rw [h6, ← h5]; exact hc⟩), fun j u hj => ?_⟩
      have := hr j u hj
      simpa [World.cell?, h5, h6] using this
  · obtain ⟨q, c, e, hw⟩ := h.wait
    refine ⟨q, c, e, hw.imp id ?_⟩
    rintro ⟨o, cur, e2, hr, hrest⟩
    exact ⟨o, cur, e2, hk g _ hD.hg hr, hrest⟩
  · have ho := (h.txt m hm).1
    unfold Own World.ownsRow at ho ⊢
    refine ⟨ho.1, ho.2.imp id ?_⟩
    rintro ⟨g, cp, cur, e, hg, hgg, hrest⟩
    refine ⟨g, cp, cur, e, hg, ?_, hrest⟩
    rw [Msg.v] at e
    have hb : D g := by
      injection e with e1 e2 e3
      exact hD.hm m hm _ e1
    exact hk g _ hb hgg
/-- Two lines of the program in one world share no block. -/
theorem LkD.apart {base p g p' g' : Nat} {fv wv fv' wv' : Value} {L L' : Lk} {A : World} (h : LkAt base A p g fv wv L) (k : LkAt base A p' g' fv' wv' L') (h1 : p ≠ p') (h2 : p ≠ g') (h3 : g ≠ p') (h4 : g ≠ g') : LkD (fun b => b < A.heap.size ∧ b ≠ p' ∧ b ≠ g' ∧ (base ≤ b → ∃ c t fr, A.heap[b]? = some (.cells c t fr) ∧ t ≠ 3 ∧ t ≠ 4)) p g fv L.ms := by
  have hI := InS.of h
  refine ⟨⟨hI.hp, h1, h2, fun _ => ⟨_, _, _, h.row, by decide, by decide⟩⟩, ⟨hI.hg, h3, h4, fun _ => ?_⟩, fun q n c e a ea => ?_, fun m hm a ea => ?_⟩
  · obtain ⟨q, c, e, ⟨_, _, _, rfl⟩ | ⟨o, cur, _, hr, _⟩⟩ := h.wait
    · exact ⟨_, _, _, h.row, by decide, by decide⟩
    · exact ⟨_, _, _, hr, by decide, by decide⟩
  · obtain ⟨q', c', e', _, _, hf⟩ := h.fates
    rw [e] at e'
    cases e'
    rcases hf with hf | ⟨b, o, e2, hl, ht, _⟩
    · left; rw [hf]; rfl
    · rw [ea] at e2
      cases e2
      have hn : b < base ∨ ∃ c fr, A.heap[b]? = some (.cells c 5 fr) ∨ A.heap[b]? = some (.cells c 47 fr) := ht.imp id (fun ⟨c, fr, h⟩ => ⟨c, fr, .inr h⟩)
      refine .inr ⟨hl, k.ntp.ne hn, k.ntg.ne hn, fun hb => ?_⟩
      rcases ht with ht | ⟨c, fr, hc⟩
      · exact absurd ht (by show ¬ b < base; have : base ≤ b := hb; omega)
      · exact ⟨_, _, _, hc, by decide, by decide⟩
  · have ho := (h.txt m hm).1
    rcases ho.2 with ⟨e, _⟩ | ⟨g, cp, cur, e, _, hgg, _⟩
    · rw [Msg.v] at e
      injection e with e1
      rw [ea] at e1
      cases e1
    · rw [Msg.v] at e
      injection e with e1
      rw [ea] at e1
      cases e1
      have hn : g < base ∨ ∃ c fr, A.heap[g]? = some (.cells c 5 fr) ∨ A.heap[g]? = some (.cells c 47 fr) := .inr ⟨_, _, .inl hgg⟩
      exact ⟨(Array.getElem?_eq_some_iff.1 hgg).1, k.ntp.ne hn, k.ntg.ne hn, fun _ => ⟨_, _, _, hgg, by decide, by decide⟩⟩

/-- All but lines and what waits stands. -/
def KpE (A B : World) : Prop := ∀ (b : Nat) (c : Array Value) (t : TypeId) (fr : Nat × Nat), t ≠ 44 → t ≠ 53 → A.heap[b]? = some (Obj.cells c t fr) → B.heap[b]? = some (Obj.cells c t fr)
theorem KpE.of {base p g : Nat} {fv wv : Value} {L : Lk} {A B : World} (h : LkAt base A p g fv wv L) (hb : Buts p g A B) : KpE A B := fun b c t fr h1 h2 hc => by
  have hp : b ≠ p := by
    rintro rfl
    have := h.row
    unfold Row at this
    rw [this] at hc
    cases hc
    exact h1 rfl
  have hg : b ≠ g := by
    obtain ⟨q, c', e, ⟨_, _, _, rfl⟩ | ⟨o, cur, _, hr, _⟩⟩ := h.wait
    · exact hp
    · rintro rfl
      unfold Row at hr
      rw [hr] at hc
      cases hc
      exact h2 rfl
  exact (hb.block b (Array.getElem?_eq_some_iff.1 hc).1 hp hg).trans hc
/-- Both lines, behind k texts. -/
def OnAt (w : World) (px py : Nat) (fx fy : Value) (fs : List (Int × Int)) (l : List (List Nat)) (k : Nat) (A : World) : Prop :=
  ∃ gx wx mx gy wy my, LkAt w.heap.size A px gx fx wx ⟨fs, k, mx⟩ ∧ LkAt w.heap.size A py gy fy wy ⟨[], k, my⟩ ∧ px ≠ py ∧ px ≠ gy ∧ gx ≠ py ∧ gx ≠ gy ∧ Srt (keys mx) ∧ mx.length ≤ 3 * k ∧ (∀ m ∈ mx, m.zs ∈ l.take k) ∧ keys my = numK l k ∧ Below w.heap.size w A
def OnHalf (w : World) (px py : Nat) (fx fy : Value) (fs : List (Int × Int)) (l : List (List Nat)) (k : Nat) (A : World) : Prop :=
  ∃ gx wx mx gy wy my, LkAt w.heap.size A px gx fx wx ⟨fs, k + 1, mx⟩ ∧ LkAt w.heap.size A py gy fy wy ⟨[], k, my⟩ ∧ px ≠ py ∧ px ≠ gy ∧ gx ≠ py ∧ gx ≠ gy ∧ Srt (keys mx) ∧ mx.length ≤ 3 * (k + 1) ∧ (∀ m ∈ mx, m.zs ∈ l.take (k + 1)) ∧ keys my = numK l k ∧ Below w.heap.size w A
section
variable {w A : World} {px py : Nat} {fx fy : Value} {fs : List (Int × Int)} {l : List (List Nat)} {k : Nat}
theorem barg_at {q : Option Addr} {n c : Nat} {zs : List Nat} (hI : IsBytes w.heap.size w q n c zs) (hB : Below w.heap.size w A) : BArg w.heap.size A q n c zs := by
  refine ⟨(hI.below hB).mono hB.size, ?_⟩
  obtain ⟨_, _, _, _, h | ⟨b, o, rfl, hb, _⟩⟩ := hI
  · exact .inl h
  · exact .inr ⟨b, o, rfl, Nat.lt_of_lt_of_le hb hB.size, .inl hb⟩
theorem OnAt.send1 (h : OnAt w px py fx fy fs l k A) (hk : k ≤ 100) (hkl : k < l.length) {q : Option Addr} {len cap : Nat} (hI : IsBytes w.heap.size w q len cap (l.getD k [])) (hz : len ≤ 100) :
    Calls Try.prog 8 #[.pointer (some ⟨px, 0, none⟩), .slice q len cap] A fun e w' => (∃ v, e = .returned v) ∧ OnHalf w px py fx fy fs l k w' ∧ KpE A w' := by
  obtain ⟨gx, wx, mx, gy, wy, my, hx, hy, a1, a2, a3, a4, hs, hm, hin, hyk, hB⟩ := h
  refine (send_any hx (barg_at hI hB) (by show mx.length ≤ _; omega) (by omega) (by show k ≤ _; omega) hs hB.size).mono ?_
  rintro e w' ⟨hv, g', wv, ms, h1, h2, h3, h4⟩
  have h2' : keys ms = insN (Lk.due ⟨fs, k, mx⟩, l.getD k []) (Lk.times ⟨fs, k, mx⟩) (keys mx) := h2
  have hyl := hy.ntp.lt
  have hgl := hy.ntg.lt
  refine ⟨hv, ⟨g', wv, ms, gy, wy, my, h1, hy.other h4 hx.ntp hx.ntg (fun e => a1 e.symm) (fun e => a3 e.symm) (fun e => a2 e.symm) (fun e => a4 e.symm), a1, a2, ?_, ?_, by rw [h2']; exact insN_sorted hs _, ?_, fun m hmm => ?_, hyk, hB.trans (h4.below hx.hp hx.hg hB.size)⟩, KpE.of hx h4⟩
  · rcases h3 with rfl | h3
    · exact a3
    · omega
  · rcases h3 with rfl | h3
    · exact a4
    · omega
  · have := congrArg List.length h2'
    rw [keys_length, insN_length, keys_length] at this
    have := (Lk.times_le ⟨fs, k, mx⟩).1
    omega
  · have hmk : m.key ∈ keys ms := List.mem_map.2 ⟨m, hmm, rfl⟩
    rw [h2'] at hmk
    have hlast : l.getD k [] ∈ l.take (k + 1) := by
      rw [List.getD_eq_getElem?_getD, List.getElem?_eq_getElem hkl, Option.getD_some]
      rw [List.take_succ_eq_append_getElem hkl]
      exact List.mem_append_right _ (List.mem_singleton.2 rfl)
    rcases insN_mem hmk with e | hmk
    · have : m.zs = l.getD k [] := congrArg Prod.snd e
      rw [this]; exact hlast
    · obtain ⟨m', hm', e⟩ := List.mem_map.1 hmk
      have : m.zs = m'.zs := (congrArg Prod.snd e).symm
      rw [this]
      have h9 := hin m' hm'
      rw [List.take_succ_eq_append_getElem hkl]
      exact List.mem_append_left _ h9
theorem OnHalf.send2 (h : OnHalf w px py fx fy fs l k A) (hk : k ≤ 100) {q : Option Addr} {len cap : Nat} (hI : IsBytes w.heap.size w q len cap (l.getD k [])) (hz : len ≤ 100) :
    Calls Try.prog 8 #[.pointer (some ⟨py, 0, none⟩), .slice q len cap] A fun e w' => (∃ v, e = .returned v) ∧ OnAt w px py fx fy fs l (k + 1) w' ∧ KpE A w' := by
  obtain ⟨gx, wx, mx, gy, wy, my, hx, hy, a1, a2, a3, a4, hs, hm, hin, hyk, hB⟩ := h
  have hml : my.length = k := by rw [← keys_length, hyk, numK_length]
  refine (send_any hy (barg_at hI hB) (by show my.length ≤ _; omega) (by omega) (by show k ≤ _; omega) (by show Srt (keys my); rw [hyk]; exact numK_sorted l k) hB.size).mono ?_
  rintro e w' ⟨hv, g', wv, ms, h1, h2, h3, h4⟩
  have h2' : keys ms = insN ((k : Int), l.getD k []) 1 (keys my) := by
    rw [h2]
    have e0 : Lk.fate ⟨[], k, my⟩ = (1, 0) := by simp [Lk.fate]
    have c1 : clampN 0 1000 = 0 := by decide
    have c2 : clampN 1 3 = 1 := by decide
    have e1 : Lk.due ⟨[], k, my⟩ = (k : Int) := by rw [Lk.due, e0]; show (k : Int) + clampN 0 1000 = k; rw [c1, Int.add_zero]
    have e2 : Lk.times ⟨[], k, my⟩ = 1 := by rw [Lk.times, e0]; show (clampN 1 3).toNat = 1; rw [c2]; rfl
    rw [e1, e2]
  have hxl := hx.ntp.lt
  have hgl := hx.ntg.lt
  refine ⟨hv, ⟨gx, wx, mx, g', wv, ms, hx.other h4 hy.ntp hy.ntg a1 a2 a3 a4, h1, a1, ?_, a3, ?_, hs, hm, hin, ?_, hB.trans (h4.below hy.hp hy.hg hB.size)⟩, KpE.of hy h4⟩
  · rcases h3 with rfl | h3
    · exact a2
    · omega
  · rcases h3 with rfl | h3
    · exact a4
    · omega
  · rw [h2', hyk]
    exact numK_succ l k
theorem OnAt.below (h : OnAt w px py fx fy fs l k A) : Below w.heap.size w A := by obtain ⟨_, _, _, _, _, _, _, _, _, _, _, _, _, _, _, _, h⟩ := h; exact h
theorem OnHalf.below (h : OnHalf w px py fx fy fs l k A) : Below w.heap.size w A := by obtain ⟨_, _, _, _, _, _, _, _, _, _, _, _, _, _, _, _, h⟩ := h; exact h
end
end Go.Proofs.Ythdfhbbfbohojaa
