/-
  Lines in memory: what waits, in a row of its own from any offset; texts; what a step leaves alone.
-/
import Derived.Test.YthdfhbbfbohojaaArgs
import Derived.Test.YthdfhbbfbohojaaHeld
namespace Go.Proofs.Ythdfhbbfbohojaa
open Go.RowKit Go.Shelf

/-- A message: when it is due, where its text lies, its text. -/
structure Msg where
  due : Int
  q : Option Addr
  n : Nat
  c : Nat
  zs : List Nat
def Msg.v (m : Msg) : Value := .slice m.q m.n m.c
def Msg.cD (m : Msg) : List Value := [.int .i64 m.due, m.v]
def Msg.cR (m : Msg) : List Value := [m.v, .int .i64 m.due]
def Msg.key (m : Msg) : Int × List Nat := (m.due, m.zs)
structure Enc2 {α : Type} (C : α → List Value) : Prop where
  len : ∀ m, (C m).length = 2
  one : ∀ m, ∀ v ∈ C m, v.oneCell' = true
theorem encD : Enc2 Msg.cD := ⟨fun _ => rfl, fun m v hv => by simp [Msg.cD] at hv; rcases hv with rfl | rfl <;> rfl⟩
theorem encR : Enc2 Msg.cR := ⟨fun _ => rfl, fun m v hv => by simp [Msg.cR] at hv; rcases hv with rfl | rfl <;> rfl⟩
def fC (f : Int × Int) : List Value := [.int .i64 f.1, .int .i64 f.2]
theorem encF : Enc2 fC := ⟨fun _ => rfl, fun m v hv => by simp [fC] at hv; rcases hv with rfl | rfl <;> rfl⟩

section
variable {α : Type} {C : α → List Value}
theorem flat_len (h : Enc2 C) (es : List α) : (es.flatMap C).length = es.length * 2 := by
  induction es with
  | nil => rfl
  | cons a r ih => rw [List.flatMap_cons, List.length_append, h.len, ih, List.length_cons]; omega
theorem flat_one (h : Enc2 C) (es : List α) : ∀ v ∈ es.flatMap C, v.oneCell' = true := fun v hv => by
  obtain ⟨e, _, he⟩ := List.mem_flatMap.1 hv
  exact h.one e v he
theorem flat_take (h : Enc2 C) (es : List α) (i : Nat) : (es.flatMap C).take (i * 2) = (es.take i).flatMap C := by
  by_cases hi : i ≤ es.length
  · conv => lhs; rw [← List.take_append_drop i es, List.flatMap_append]
    exact List.take_left' (by rw [flat_len h, List.length_take]; omega)
  · rw [List.take_of_length_le (by rw [flat_len h]; omega), List.take_of_length_le (by omega)]
theorem flat_drop (h : Enc2 C) (es : List α) {i : Nat} (hi : i ≤ es.length) : (es.flatMap C).drop (i * 2) = (es.drop i).flatMap C := by
  conv => lhs; rw [← List.take_append_drop i es, List.flatMap_append]
  exact List.drop_left' (by rw [flat_len h, List.length_take]; omega)
theorem flat_at (h : Enc2 C) {es : List α} {i : Nat} {m : α} (hi : es[i]? = some m) {j : Nat} (hj : j < 2) : (es.flatMap C)[i * 2 + j]? = (C m)[j]? := by
  have hl := (List.getElem?_eq_some_iff.1 hi).1
  have hd := flat_drop h es (Nat.le_of_lt hl)
  rw [List.drop_eq_getElem_cons hl, List.flatMap_cons] at hd
  have hm : es[i] = m := by have := List.getElem?_eq_getElem hl; rw [this] at hi; exact Option.some.inj hi
  rw [hm] at hd
  rw [← List.getElem?_drop, hd, List.getElem?_append_left (by rw [h.len]; exact hj)]

/-- What waits: none, or a part of a row that holds nothing else. -/
def WaitAt (t : TypeId) (C : α → List Value) (W : World) (p g : Nat) (v : Value) (ms : List α) : Prop :=
  ∃ q c, v = .slice q ms.length c ∧ ((q = none ∧ ms = [] ∧ c = 0 ∧ g = p) ∨ ∃ o cur, q = some ⟨g, o, none⟩ ∧ Row W g t cur ∧ ms.length ≤ c ∧ c ≤ 9223372036854775807 ∧ o + c * 2 ≤ cur.length ∧ (cur.drop o).take (ms.length * 2) = ms.flatMap C)
theorem WaitAt.range {t : TypeId} {W : World} {p g : Nat} {q : Option Addr} {n c : Nat} {ms : List α} (hC : Enc2 C) (h : WaitAt t C W p g (.slice q n c) ms) {i : Nat} {m : α} (hi : ms[i]? = some m) : ∃ o cur, q = some ⟨g, o, none⟩ ∧ Row W g t cur ∧ i < n ∧ n ≤ c ∧ c ≤ 9223372036854775807 ∧ o + c * 2 ≤ cur.length ∧ W.rangeAt g (o + i * 2) (C m) := by
  obtain ⟨q', c', e, h⟩ := h
  cases e
  have hl := (List.getElem?_eq_some_iff.1 hi).1
  rcases h with ⟨_, rfl, _⟩ | ⟨o, cur, e, hr, hnc, hcm, hoc, ht⟩
  · simp at hl
  · refine ⟨o, cur, e, hr, hl, hnc, hcm, hoc, fun j v hj => ?_⟩
    have hj2 : j < 2 := by rw [← hC.len m]; exact (List.getElem?_eq_some_iff.1 hj).1
    rw [← flat_at hC hi hj2, ← ht, List.getElem?_take] at hj
    split at hj
    · rw [List.getElem?_drop] at hj
      rw [Nat.add_assoc]
      exact hr.cell hj
    · cases hj
end

/-- All blocks but two stand. -/
structure Buts (p g : Nat) (w w' : World) : Prop where
  os : w'.os = w.os
  tape : w'.tape = w.tape
  output : w'.output = w.output
  size : w.heap.size ≤ w'.heap.size
  block : ∀ k, k < w.heap.size → k ≠ p → k ≠ g → w'.heap[k]? = w.heap[k]?
section
variable {p g : Nat} {a b c w w' : World}
theorem Buts.refl (w : World) : Buts p g w w := ⟨rfl, rfl, rfl, Nat.le_refl _, fun _ _ _ _ => rfl⟩
theorem Buts.of_below (h : Below w.heap.size w w') : Buts p g w w' := ⟨h.os, h.tape, h.output, h.size, fun k hk _ _ => h.block k hk⟩
theorem Buts.trans {g' : Nat} (h : Buts p g a b) (hg : g' = g ∨ a.heap.size ≤ g') (k : Buts p g' b c) : Buts p g a c :=
  ⟨k.os.trans h.os, k.tape.trans h.tape, k.output.trans h.output, Nat.le_trans h.size k.size, fun i hi h1 h2 => (k.block i (Nat.lt_of_lt_of_le hi h.size) h1 (by omega)).trans (h.block i hi h1 h2)⟩
theorem Buts.below (h : Buts p g w w') {B : Nat} (hp : B ≤ p) (hg : B ≤ g) (hB : B ≤ w.heap.size) : Below B w w' := ⟨h.os, h.tape, h.output, h.size, fun k hk => h.block k (by omega) (by omega) (by omega)⟩
theorem Buts.setP (w : World) (i : Nat) (v : Value) : Buts p g w (w.setCell ⟨p, i, none⟩ v) := ⟨rfl, rfl, rfl, by simp [World.setCell], fun _ _ h _ => Below.heap_setCell _ _ _ _ h⟩
theorem Buts.setG (w : World) (i : Nat) (v : Value) : Buts p g w (w.setCell ⟨g, i, none⟩ v) := ⟨rfl, rfl, rfl, by simp [World.setCell], fun _ _ _ h => Below.heap_setCell _ _ _ _ h⟩
theorem Buts.setsG : ∀ (vs : List Value) (o : Nat) (w : World), Buts p g w (w.setCells g o vs)
  | [], _, w => Buts.refl w
  | v :: vs, o, w => (Buts.setG w o v).trans (.inl rfl) (Buts.setsG vs (o + 1) _)
theorem Buts.drew (h : Buts p g a w) : Buts p g a w.drew := ⟨h.os, h.tape, h.output, h.size, h.block⟩
theorem Buts.row (h : Buts p g w w') {k : Nat} {t : TypeId} {cs : List Value} (hr : Row w k t cs) (h1 : k ≠ p) (h2 : k ≠ g) : Row w' k t cs := (h.block k hr.lt h1 h2).trans hr
end

/-- A block that holds no text and no fates. -/
def Nt (base : Nat) (W : World) (k : Nat) : Prop := base ≤ k ∧ ∃ c t fr, W.heap[k]? = some (.cells c t fr) ∧ t ≠ 5 ∧ t ≠ 47
theorem Nt.ne {base : Nat} {W : World} {k : Nat} (h : Nt base W k) {b : Nat} (hb : b < base ∨ ∃ c fr, W.heap[b]? = some (.cells c 5 fr) ∨ W.heap[b]? = some (.cells c 47 fr)) : b ≠ k := by
  rintro rfl
  obtain ⟨h1, c, t, fr, h2, h3, h4⟩ := h
  rcases hb with hb | ⟨c', fr', hb | hb⟩
  · omega
  · rw [h2] at hb; cases hb; exact h3 rfl
  · rw [h2] at hb; cases hb; exact h4 rfl
theorem Nt.lt {base : Nat} {W : World} {k : Nat} (h : Nt base W k) : k < W.heap.size := by obtain ⟨_, c, t, fr, h, _⟩ := h; exact (Array.getElem?_eq_some_iff.1 h).1
theorem Nt.row {base : Nat} {W : World} {k : Nat} {t : TypeId} {cs : List Value} (hk : base ≤ k) (h : Row W k t cs) (h5 : t ≠ 5) (h47 : t ≠ 47) : Nt base W k := ⟨hk, _, _, _, h, h5, h47⟩
theorem Buts.keepT {base p g : Nat} {w w' : World} (h : Buts p g w w') (hp : Nt base w p) (hg : Nt base w g) : KeepT 5 w w' := fun k c fr hk =>
  (h.block k (Array.getElem?_eq_some_iff.1 hk).1 (hp.ne (.inr ⟨c, fr, .inl hk⟩)) (hg.ne (.inr ⟨c, fr, .inl hk⟩))).trans hk

/-- A text of a line. -/
def Txt (base : Nat) (W : World) (m : Msg) : Prop := Own base W m.v m.zs ∧ ∀ z ∈ m.zs, z < 256
theorem Txt.buts {base p g : Nat} {w w' : World} {m : Msg} (h : Txt base w m) (hb : Buts p g w w') (hp : Nt base w p) (hg : Nt base w g) : Txt base w' m := ⟨(hb.keepT hp hg).own h.1, h.2⟩
theorem Txt.later {base : Nat} {w w' : World} {m : Msg} (h : Txt base w m) (hb : Below w.heap.size w w') : Txt base w' m := ⟨h.1.later hb, h.2⟩
theorem Txt.str {base : Nat} {w : World} {m : Msg} (h : Txt base w m) : Str w m.v (strOf m.zs) := own_str h.1

/-- Fates in memory. -/
def FatesAt (base : Nat) (W : World) (v : Value) (fs : List (Int × Int)) : Prop :=
  ∃ q c, v = .slice q fs.length c ∧ fs.length ≤ c ∧ c ≤ 9223372036854775807 ∧ (fs = [] ∨ ∃ b o, q = some ⟨b, o, none⟩ ∧ b < W.heap.size ∧ (b < base ∨ ∃ c fr, W.heap[b]? = some (.cells c 47 fr)) ∧ W.rangeAt b o (fs.flatMap fC))
theorem FatesAt.step {base p g : Nat} {w w' : World} {v : Value} {fs : List (Int × Int)} (h : FatesAt base w v fs) (hb : Buts p g w w') (hp : Nt base w p) (hg : Nt base w g) : FatesAt base w' v fs := by
  obtain ⟨q, c, e, h1, h2, h3⟩ := h
  refine ⟨q, c, e, h1, h2, ?_⟩
  rcases h3 with h3 | ⟨b, o, e, hl, ht, hr⟩
  · exact .inl h3
  · have hn : b < base ∨ ∃ c fr, w.heap[b]? = some (.cells c 5 fr) ∨ w.heap[b]? = some (.cells c 47 fr) := ht.imp id (fun ⟨c, fr, h⟩ => ⟨c, fr, .inr h⟩)
    have hs := hb.block b hl (hp.ne hn) (hg.ne hn)
    refine .inr ⟨b, o, e, Nat.lt_of_lt_of_le hl hb.size, ht.imp id (fun ⟨c, fr, h⟩ => ⟨c, fr, hs.trans h⟩), fun j u hj => ?_⟩
    have := hr j u hj
    simpa [World.cell?, hs] using this
theorem FatesAt.later {base : Nat} {w w' : World} {v : Value} {fs : List (Int × Int)} (h : FatesAt base w v fs) (hb : Below w.heap.size w w') : FatesAt base w' v fs := by
  obtain ⟨q, c, e, h1, h2, h3⟩ := h
  refine ⟨q, c, e, h1, h2, ?_⟩
  rcases h3 with h3 | ⟨b, o, e, hl, ht, hr⟩
  · exact .inl h3
  · have hs := hb.block b hl
    refine .inr ⟨b, o, e, Nat.lt_of_lt_of_le hl hb.size, ht.imp id (fun ⟨c, fr, h⟩ => ⟨c, fr, hs.trans h⟩), fun j u hj => ?_⟩
    have := hr j u hj
    simpa [World.cell?, hs] using this
theorem FatesAt.at {base : Nat} {w : World} {q : Option Addr} {n c : Nat} {fs : List (Int × Int)} (h : FatesAt base w (.slice q n c) fs) {i : Nat} {f : Int × Int} (hi : fs[i]? = some f) : ∃ b o, q = some ⟨b, o, none⟩ ∧ w.rangeAt b (o + i * 2) (fC f) := by
  obtain ⟨q, c, e, h1, h2, h3⟩ := h
  cases e
  rcases h3 with rfl | ⟨b, o, e, hl, ht, hr⟩
  · simp at hi
  · refine ⟨b, o, e, fun j v hj => ?_⟩
    have hj2 : j < 2 := (List.getElem?_eq_some_iff.1 hj).1
    have := hr (i * 2 + j) v (by rw [flat_at encF hi hj2]; exact hj)
    rwa [← Nat.add_assoc] at this

/-- The row of what waits, behind a step that leaves it alone. -/
theorem WaitAt.same {α : Type} {C : α → List Value} {t : TypeId} {w w' : World} {p g : Nat} {v : Value} {ms : List α} (h : WaitAt t C w p g v ms) (hs : g < w.heap.size → w'.heap[g]? = w.heap[g]?) : WaitAt t C w' p g v ms := by
  obtain ⟨q, c, e, h⟩ := h
  refine ⟨q, c, e, h.imp id ?_⟩
  rintro ⟨o, cur, e, hr, h⟩
  exact ⟨o, cur, e, (hs hr.lt).trans hr, h⟩

/-- A line: its fates, how many were sent, what waits. -/
structure Lk where
  fs : List (Int × Int)
  n : Nat
  ms : List Msg
/-- The program's line at p; g is the row of what waits. -/
structure LkAt (base : Nat) (W : World) (p g : Nat) (fv wv : Value) (L : Lk) : Prop where
  hp : base ≤ p
  hg : base ≤ g
  row : Row W p 44 [.bool true, fv, .int .i64 L.n, wv]
  fates : FatesAt base W fv L.fs
  wait : WaitAt 53 Msg.cD W p g wv L.ms
  txt : ∀ m ∈ L.ms, Txt base W m
/-- The document's line at p. -/
structure RkAt (base : Nat) (W : World) (p g : Nat) (fv wv : Value) (L : Lk) : Prop where
  hp : base ≤ p
  hg : base ≤ g
  row : Row W p 31 [fv, .int .i64 L.n, wv]
  fates : FatesAt base W fv L.fs
  wait : WaitAt 57 Msg.cR W p g wv L.ms
  txt : ∀ m ∈ L.ms, Txt base W m
section
variable {base : Nat} {w w' : World} {p g : Nat} {fv wv : Value} {L : Lk}
theorem LkAt.ntp (h : LkAt base w p g fv wv L) : Nt base w p := Nt.row h.hp h.row (by decide) (by decide)
theorem LkAt.ntg (h : LkAt base w p g fv wv L) : Nt base w g := by
  obtain ⟨q, c, e, ⟨_, _, _, rfl⟩ | ⟨o, cur, e', hr, _⟩⟩ := h.wait
  · exact h.ntp
  · exact Nt.row h.hg hr (by decide) (by decide)
theorem RkAt.ntp (h : RkAt base w p g fv wv L) : Nt base w p := Nt.row h.hp h.row (by decide) (by decide)
theorem RkAt.ntg (h : RkAt base w p g fv wv L) : Nt base w g := by
  obtain ⟨q, c, e, ⟨_, _, _, rfl⟩ | ⟨o, cur, e', hr, _⟩⟩ := h.wait
  · exact h.ntp
  · exact Nt.row h.hg hr (by decide) (by decide)
theorem LkAt.later (h : LkAt base w p g fv wv L) (hb : Below w.heap.size w w') : LkAt base w' p g fv wv L :=
  ⟨h.hp, h.hg, h.row.later hb, h.fates.later hb, h.wait.same (fun hl => hb.block g hl), fun m hm => (h.txt m hm).later hb⟩
theorem RkAt.later (h : RkAt base w p g fv wv L) (hb : Below w.heap.size w w') : RkAt base w' p g fv wv L :=
  ⟨h.hp, h.hg, h.row.later hb, h.fates.later hb, h.wait.same (fun hl => hb.block g hl), fun m hm => (h.txt m hm).later hb⟩
/-- Another line is written. -/
theorem LkAt.other (h : LkAt base w p g fv wv L) {p' g' : Nat} (hb : Buts p' g' w w') (hp : Nt base w p') (hg : Nt base w g') (h1 : p ≠ p') (h2 : p ≠ g') (h3 : g ≠ p') (h4 : g ≠ g') : LkAt base w' p g fv wv L :=
  ⟨h.hp, h.hg, hb.row h.row h1 h2, h.fates.step hb hp hg, h.wait.same (fun hl => hb.block g hl h3 h4), fun m hm => (h.txt m hm).buts hb hp hg⟩
theorem RkAt.other (h : RkAt base w p g fv wv L) {p' g' : Nat} (hb : Buts p' g' w w') (hp : Nt base w p') (hg : Nt base w g') (h1 : p ≠ p') (h2 : p ≠ g') (h3 : g ≠ p') (h4 : g ≠ g') : RkAt base w' p g fv wv L :=
  ⟨h.hp, h.hg, hb.row h.row h1 h2, h.fates.step hb hp hg, h.wait.same (fun hl => hb.block g hl h3 h4), fun m hm => (h.txt m hm).buts hb hp hg⟩
/-- A program's line and a document's line share no block. -/
theorem LkAt.apart (h : LkAt base w p g fv wv L) {p' g' : Nat} {fv' wv' : Value} {L' : Lk} (k : RkAt base w p' g' fv' wv' L') : p ≠ p' ∧ p ≠ g' ∧ g ≠ p' ∧ g ≠ g' := by
  have key : ∀ {x y : Nat} {t u : TypeId} {c d : List Value}, Row w x t c → Row w y u d → t ≠ u → x ≠ y := by
    rintro x y t u c d h1 h2 hne rfl
    unfold Row at h1 h2
    rw [h1] at h2
    cases h2
    exact hne rfl
  have a1 := key h.row k.row (by decide)
  obtain ⟨q, c, e, hw⟩ := h.wait
  obtain ⟨q', c', e', kw⟩ := k.wait
  rcases hw with ⟨_, _, _, rfl⟩ | ⟨o, cur, _, hr, _⟩ <;> rcases kw with ⟨_, _, _, rfl⟩ | ⟨o', cur', _, kr, _⟩
  · exact ⟨a1, a1, a1, a1⟩
  · exact ⟨a1, key h.row kr (by decide), a1, key h.row kr (by decide)⟩
  · exact ⟨a1, a1, key hr k.row (by decide), key hr k.row (by decide)⟩
  · exact ⟨a1, key h.row kr (by decide), key hr k.row (by decide), key hr kr (by decide)⟩
end
end Go.Proofs.Ythdfhbbfbohojaa
