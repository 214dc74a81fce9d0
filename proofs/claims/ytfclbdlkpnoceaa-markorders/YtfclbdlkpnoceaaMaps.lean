/-
  Maps in memory, as functions from keys to elements: what a look-up finds, what a store leaves. Worlds of which some blocks have turned. It names no program.
-/
import Derived.Maps.OwnOps
import Derived.Test.YtfclbdlkpnoceaaBaseAll
namespace Go.Proofs.Ytfclbdlkpnoceaa
open Go Go.RowKit Go.Maps

/-- A new block, its number given. -/
theorem Row.newAt (W : World) (t : TypeId) (c : Array Value) {g : Nat} (hg : W.heap.size = g) : Row (W.alloc (.cells c t)) g t c.toList := by
  subst hg; exact Row.new W t c

/-- All below n but the blocks of S is as it was. -/
structure Buts (S : List Nat) (n : Nat) (w w' : World) : Prop where
  os : w'.os = w.os
  tape : w'.tape = w.tape
  output : w'.output = w.output
  size : w.heap.size ≤ w'.heap.size
  block : ∀ k, k < n → k ∉ S → w'.heap[k]? = w.heap[k]?
theorem Buts.refl (S : List Nat) (n : Nat) (w : World) : Buts S n w w := ⟨rfl, rfl, rfl, Nat.le_refl _, fun _ _ _ => rfl⟩
theorem Buts.trans {S : List Nat} {n : Nat} {a b c : World} (h : Buts S n a b) (k : Buts S n b c) : Buts S n a c := ⟨k.os.trans h.os, k.tape.trans h.tape, k.output.trans h.output, Nat.le_trans h.size k.size, fun i hi hB => (k.block i hi hB).trans (h.block i hi hB)⟩
theorem Buts.of_below {S : List Nat} {n m : Nat} {w w' : World} (h : Below m w w') (hm : n ≤ m) : Buts S n w w' := ⟨h.os, h.tape, h.output, h.size, fun k hk _ => h.block k (by omega)⟩
theorem Buts.of_but {S : List Nat} {B n m : Nat} {w w' : World} (h : But B m w w') (hB : B ∈ S) (hm : n ≤ m) : Buts S n w w' := ⟨h.os, h.tape, h.output, h.size, fun k hk hS => h.block k (by omega) (fun e => hS (e ▸ hB))⟩
theorem Buts.mono {S S' : List Nat} {n m : Nat} {w w' : World} (h : Buts S n w w') (hS : ∀ x ∈ S, x ∈ S') (hm : m ≤ n) : Buts S' m w w' := ⟨h.os, h.tape, h.output, h.size, fun k hk hS' => h.block k (by omega) (fun e => hS' (hS k e))⟩
theorem Buts.below {S : List Nat} {n m : Nat} {w w' : World} (h : Buts S n w w') (hn : m ≤ n) (hS : ∀ x ∈ S, m ≤ x) : Below m w w' := ⟨h.os, h.tape, h.output, h.size, fun k hk => h.block k (by omega) (fun e => by have := hS k e; omega)⟩
theorem Buts.row {S : List Nat} {n b : Nat} {w w' : World} {t : TypeId} {c : List Value} (h : Buts S n w w') (hn : b < n) (hb : b ∉ S) (hr : Row w b t c) : Row w' b t c := (h.block b hn hb).trans hr
theorem Buts.drew {S : List Nat} {n : Nat} {a w : World} (h : Buts S n a w) : Buts S n a w.drew := ⟨h.os, h.tape, h.output, h.size, h.block⟩

section
open Classical
/-- The function f with v at x. -/
def fnPut [DecidableEq Value] (f : Value → Option Value) (x v : Value) : Value → Option Value := fun y => if y = x then some v else f y
theorem fnPut_same (f : Value → Option Value) (x v : Value) : fnPut f x v x = some v := by simp [fnPut]
theorem fnPut_other {f : Value → Option Value} {x y v : Value} (h : y ≠ x) : fnPut f x v y = f y := by simp [fnPut, h]

/-- Block b is a map with the keys and elements that f tells. -/
def MapAt (P : Program) (k : TypeId) (W : World) (b : Nat) (f : Value → Option Value) : Prop :=
  ∃ es clock, W.heap[b]? = some (.map es clock) ∧ (∀ e ∈ es.toList, ∃ l, keyOf P k e.key = some l) ∧ es.toList.Pairwise (fun x y => x.key ≠ y.key) ∧ (∀ e ∈ es.toList, f e.key = some e.val) ∧ ∀ x v, f x = some v → ∃ e ∈ es.toList, e.key = x

section
variable {P : Program} {k : TypeId} {w : World} {b : Nat} {f : Value → Option Value}

theorem MapAt.lt (h : MapAt P k w b f) : b < w.heap.size := by
  obtain ⟨_, _, h, _⟩ := h
  exact (Array.getElem?_eq_some_iff.1 h).1
theorem MapAt.kept {w' : World} (h : MapAt P k w b f) (hb : w'.heap[b]? = w.heap[b]?) : MapAt P k w' b f := by
  obtain ⟨es, clock, h1, h2⟩ := h
  exact ⟨es, clock, hb.trans h1, h2⟩
theorem MapAt.below {w' : World} {n : Nat} (h : MapAt P k w b f) (hb : Below n w w') (hn : b < n) : MapAt P k w' b f := h.kept (hb.block b hn)
theorem MapAt.buts {S : List Nat} {w' : World} {n : Nat} (h : MapAt P k w b f) (hb : Buts S n w w') (hn : b < n) (hS : b ∉ S) : MapAt P k w' b f := h.kept (hb.block b hn hS)
theorem MapAt.but {B : Nat} {w' : World} {n : Nat} (h : MapAt P k w b f) (hb : But B n w w') (hn : b < n) (hS : b ≠ B) : MapAt P k w' b f := h.kept (hb.block b hn hS)
theorem MapAt.new (P : Program) (k : TypeId) (w : World) : MapAt P k (w.alloc (.map #[] 0)) w.heap.size (fun _ => none) :=
  ⟨#[], 0, (MapKept.heap_alloc w _).1, by simp, by simp, by simp, by simp⟩

theorem MapAt.look {t e : TypeId} (c : Bool) (h : MapAt P k w b f) (K : Keyed P k) (ht : P.underlying t = some (.map k e)) {z : Value} (hz : (zeroValue e).run P w = .ok z w) {key : Value} {kl : Lit} (hkey : keyOf P k key = some kl) :
    (Instr.lookup t (.map (some b)) key c).run P w = .ok (if c then .tuple #[(f key).getD z, .bool (f key).isSome] else (f key).getD z) w := by
  obtain ⟨es, clock, hb, hks, hp, hf, hx⟩ := h
  rcases K.find w hkey es.toList hks with ⟨h1, h2⟩ | ⟨j, e0, h1, h2, h3⟩
  · have hn : f key = none := by
      cases hv : f key with
      | none => rfl
      | some v => obtain ⟨e', he', hk'⟩ := hx key v hv; exact absurd hk' (h2 e' he')
    rw [hn]
    simp [Instr.lookup, run_underlying ht, MapKept.run_getObj_map hb, K.check w _ hkey, h1, hz, Result.andThen]
  · have hv : f key = some e0.val := by rw [← h3]; exact hf e0 (List.mem_of_getElem? h2)
    rw [hv]
    simp [Instr.lookup, run_underlying ht, MapKept.run_getObj_map hb, K.check w _ hkey, h1, Result.andThen]

theorem MapAt.store {t e : TypeId} (h : MapAt P k w b f) (K : Keyed P k) (ht : P.underlying t = some (.map k e)) {key : Value} {kl : Lit} (val : Value) (hkey : keyOf P k key = some kl) (n : Nat) :
    ∃ w', (Instr.mapUpdate t (.map (some b)) key val).run P w = .ok () w' ∧ MapAt P k w' b (fnPut f key val) ∧ But b n w w' := by
  obtain ⟨es, clock, hb, hks, hp, hf, hx⟩ := h
  have hbut : ∀ o, But b n w (ChangeMaps.setBlock w b o) := fun o => ⟨rfl, rfl, rfl, by simp [ChangeMaps.setBlock], fun i _ hi => ChangeMaps.heap_setBlock_other hb _ hi⟩
  rcases K.find w hkey es.toList hks with ⟨h1, h2⟩ | ⟨j, e0, h1, h2, h3⟩
  · refine ⟨ChangeMaps.setBlock w b (.map (es.push ⟨key, val, clock⟩) (clock + 1)), ?_, ⟨_, _, ChangeMaps.heap_setBlock_same hb _, ?_, ?_, ?_, ?_⟩, hbut _⟩
    · simp [Instr.mapUpdate, run_underlying ht, MapKept.run_getObj_map hb, K.check w false hkey, h1, MapKept.run_setObj_map _ hb, Result.andThen, ChangeMaps.setBlock]
    · intro x hx'
      simp only [Array.toList_push, List.mem_append, List.mem_singleton] at hx'
      rcases hx' with hx' | rfl
      · exact hks x hx'
      · exact ⟨kl, hkey⟩
    · rw [Array.toList_push, List.pairwise_append]
      exact ⟨hp, by simp, fun x hx' y hy => by simp only [List.mem_singleton] at hy; subst hy; exact h2 x hx'⟩
    · intro x hx'
      simp only [Array.toList_push, List.mem_append, List.mem_singleton] at hx'
      rcases hx' with hx' | rfl
      · rw [fnPut_other (h2 x hx')]; exact hf x hx'
      · exact fnPut_same _ _ _
    · intro x v hv
      by_cases hxk : x = key
      · exact ⟨⟨key, val, clock⟩, by simp, hxk.symm⟩
      · rw [fnPut_other hxk] at hv
        obtain ⟨e', he', hk'⟩ := hx x v hv
        exact ⟨e', by simp [he'], hk'⟩
  · have hj : es[j]? = some e0 := by simpa using h2
    have hjl : j < es.toList.length := (List.getElem?_eq_some_iff.1 h2).1
    have hlist : (es.modify j (fun e' => { e' with key := key, val := val })).toList = es.toList.set j { e0 with key := key, val := val } := by rw [Array.toList_modify, ChangeMaps.modify_eq_set _ _ _ _ h2]
    have hmem : ∀ x ∈ es.toList.set j { e0 with key := key, val := val }, x = { e0 with key := key, val := val } ∨ (x ∈ es.toList ∧ x.key ≠ key) := by
      intro x hx'
      obtain ⟨i, hi, ex⟩ := List.getElem_of_mem hx'
      rw [List.getElem_set] at ex
      split at ex
      · exact Or.inl ex.symm
      · rename_i hne
        have hi' : i < es.toList.length := by simpa using hi
        refine Or.inr ⟨ex ▸ List.getElem_mem hi', ?_⟩
        have hej : es.toList[j] = e0 := by simpa using (List.getElem?_eq_some_iff.1 h2).2
        have hpw := List.pairwise_iff_getElem.1 hp
        have hne2 : es.toList[i].key ≠ es.toList[j].key := by
          rcases Nat.lt_or_ge i j with hl | hl
          · exact hpw i j hi' hjl hl
          · exact (hpw j i hjl hi' (by omega)).symm
        rw [hej, h3, ex] at hne2
        exact hne2
    refine ⟨ChangeMaps.setBlock w b (.map (es.modify j (fun e' => { e' with key := key, val := val })) clock), ?_, ⟨_, _, ChangeMaps.heap_setBlock_same hb _, ?_, ?_, ?_, ?_⟩, hbut _⟩
    · simp [Instr.mapUpdate, run_underlying ht, MapKept.run_getObj_map hb, K.check w false hkey, h1, hj, h3, K.stays w hkey, MapKept.run_setObj_map _ hb, Result.andThen, ChangeMaps.setBlock]
    · intro x hx'
      rw [hlist] at hx'
      rcases hmem x hx' with rfl | ⟨hx', _⟩
      · exact ⟨kl, hkey⟩
      · exact hks x hx'
    · rw [hlist, List.pairwise_iff_getElem]
      intro i i' hi hi' hlt
      have hpw := List.pairwise_iff_getElem.1 hp i i' (by simpa using hi) (by simpa using hi') hlt
      have hej : es.toList[j] = e0 := by simpa using (List.getElem?_eq_some_iff.1 h2).2
      rw [List.getElem_set, List.getElem_set]
      by_cases e1 : j = i
      · subst e1
        rw [if_pos rfl, if_neg (by omega)]
        rw [hej, h3] at hpw
        exact hpw
      · rw [if_neg e1]
        by_cases e2 : j = i'
        · subst e2
          rw [if_pos rfl]
          rw [hej, h3] at hpw
          exact hpw
        · rw [if_neg e2]; exact hpw
    · intro x hx'
      rw [hlist] at hx'
      rcases hmem x hx' with rfl | ⟨hx', hne⟩
      · exact fnPut_same _ _ _
      · rw [fnPut_other hne]; exact hf x hx'
    · intro x v hv
      rw [hlist]
      by_cases hxk : x = key
      · exact ⟨{ e0 with key := key, val := val }, List.mem_iff_getElem.2 ⟨j, by simpa using hjl, by simp⟩, hxk.symm⟩
      · rw [fnPut_other hxk] at hv
        obtain ⟨e', he', hk'⟩ := hx x v hv
        obtain ⟨i, hi, ei⟩ := List.getElem_of_mem he'
        refine ⟨e', List.mem_iff_getElem.2 ⟨i, by simpa using hi, ?_⟩, hk'⟩
        rw [List.getElem_set, if_neg]
        · exact ei
        · rintro rfl
          have hej : es.toList[j] = e0 := by simpa using (List.getElem?_eq_some_iff.1 h2).2
          exact hxk (by rw [← hk', ← ei, hej, h3])

variable {ops : Array Oper} {rest : List Oper} {o : Oper} {a : Act} {Q : Exit → Act → World → Prop}

/-- A look-up, at the operation. -/
theorem wpList_look (c : Bool) (r : Option Value) (hg : o.guard = none) (m x : Operand) (t e : TypeId) (hop : o.op = Op.lookup t m x c) (K : Keyed P k) (ht : P.underlying t = some (.map k e)) {z : Value} (hz : (zeroValue e).run P w = .ok z w)
    (hm : a.eval m = .map (some b)) (h : MapAt P k w b f) {key : Value} {kl : Lit} (hx : a.eval x = key) (hkey : keyOf P k key = some kl) (hr : f key = r)
    (hK : wpList P ops Q rest (a.put o.dst (if c then .tuple #[r.getD z, .bool r.isSome] else r.getD z)) w) : wpList P ops Q (o :: rest) a w := by
  refine wpList_plain hg fun K' hK' => ?_
  have hrun := h.look c K ht hz hkey
  rw [hr] at hrun
  generalize (if c = true then Value.tuple #[r.getD z, Value.bool r.isSome] else r.getD z) = V at hrun hK
  unfold Oper.wp
  simp [execOp, hop, hm, hx, hrun, Result.andThen]
  exact hK' _ _ hK
theorem wpList_lookOk_none (hg : o.guard = none) (m x : Operand) (t e : TypeId) (hop : o.op = Op.lookup t m x true) (K : Keyed P k) (ht : P.underlying t = some (.map k e)) {z : Value} (hz : (zeroValue e).run P w = .ok z w)
    (hm : a.eval m = .map (some b)) (h : MapAt P k w b f) {key : Value} {kl : Lit} (hx : a.eval x = key) (hkey : keyOf P k key = some kl) (hr : f key = none)
    (hK : wpList P ops Q rest (a.put o.dst (.tuple #[z, .bool false])) w) : wpList P ops Q (o :: rest) a w :=
  wpList_look true none hg m x t e hop K ht hz hm h hx hkey hr hK
theorem wpList_lookOk_some (hg : o.guard = none) (m x : Operand) (t e : TypeId) (hop : o.op = Op.lookup t m x true) (K : Keyed P k) (ht : P.underlying t = some (.map k e)) {z : Value} (hz : (zeroValue e).run P w = .ok z w)
    (hm : a.eval m = .map (some b)) (h : MapAt P k w b f) {key : Value} {kl : Lit} (hx : a.eval x = key) (hkey : keyOf P k key = some kl) {v : Value} (hr : f key = some v)
    (hK : wpList P ops Q rest (a.put o.dst (.tuple #[v, .bool true])) w) : wpList P ops Q (o :: rest) a w :=
  wpList_look true (some v) hg m x t e hop K ht hz hm h hx hkey hr hK
theorem wpList_look_val (hg : o.guard = none) (m x : Operand) (t e : TypeId) (hop : o.op = Op.lookup t m x false) (K : Keyed P k) (ht : P.underlying t = some (.map k e)) {z : Value} (hz : (zeroValue e).run P w = .ok z w)
    (hm : a.eval m = .map (some b)) (h : MapAt P k w b f) {key : Value} {kl : Lit} (hx : a.eval x = key) (hkey : keyOf P k key = some kl) {v : Value} (hr : (f key).getD z = v)
    (hK : wpList P ops Q rest (a.put o.dst v) w) : wpList P ops Q (o :: rest) a w :=
  wpList_look false (f key) hg m x t e hop K ht hz hm h hx hkey rfl (by rw [hr]; exact hK)

/-- A store, at the operation. -/
theorem wpList_mapStore (n : Nat) (hg : o.guard = none) (m x v : Operand) (t e : TypeId) (hop : o.op = Op.mapUpdate t m x v) (K : Keyed P k) (ht : P.underlying t = some (.map k e))
    (hm : a.eval m = .map (some b)) (h : MapAt P k w b f) {key val : Value} {kl : Lit} (hx : a.eval x = key) (hv : a.eval v = val) (hkey : keyOf P k key = some kl)
    (hK : ∀ w', MapAt P k w' b (fnPut f key val) → But b n w w' → wpList P ops Q rest (a.put o.dst undef) w') : wpList P ops Q (o :: rest) a w := by
  refine wpList_plain hg fun K' hK' => ?_
  obtain ⟨w', hrun, r1, r2⟩ := h.store K ht val hkey n
  unfold Oper.wp
  simp [execOp, hop, hm, hx, hv, hrun, Result.andThen]
  exact hK' _ _ (hK w' r1 r2)
theorem wp_mapStore {K' : Act → World → Prop} (n : Nat) (m x v : Operand) (t e : TypeId) (hop : o.op = Op.mapUpdate t m x v) (K : Keyed P k) (ht : P.underlying t = some (.map k e))
    (hm : a.eval m = .map (some b)) (h : MapAt P k w b f) {key val : Value} {kl : Lit} (hx : a.eval x = key) (hv : a.eval v = val) (hkey : keyOf P k key = some kl)
    (hK : ∀ w', MapAt P k w' b (fnPut f key val) → But b n w w' → K' (a.put o.dst undef) w') : Oper.wp P o a w K' Q := by
  obtain ⟨w', hrun, r1, r2⟩ := h.store K ht val hkey n
  unfold Oper.wp
  simp [execOp, hop, hm, hx, hv, hrun, Result.andThen]
  exact hK w' r1 r2
end

end
end Go.Proofs.Ytfclbdlkpnoceaa
