/-
  Several texts in one: Maps, Known, Tape, Take, Key, Suite, Keys.
-/
import Derived.Maps.OwnOps
import Derived.Test.YtkpjbleogjmbjaaDoorBaseAll
import Derived.Laws.ResultCell
import Derived.Laws.Rows
import Derived.Test.YtkpjbleogjmbjaaDoorArgs
import Derived.DeepKeys4
import Derived.Laws.StructEq
/-
  Maps in memory, as functions from keys to elements: what a look-up finds, what a store leaves. Worlds of which some blocks have turned. It names no program.
-/
namespace Go.Proofs.YtkpjbleogjmbjaaDoor
open Go Go.RowKit Go.Maps

/-- A new block, its number given. -/
theorem Row.newAt (W : World) (t : TypeId) (c : Array Value) {g : Nat} (hg : W.heap.size = g) : Row (W.alloc (.cells c t)) g t c.toList := by
  subst hg; exact Row.new W t c

/-- All below n but the blocks of S is as it was. -/
structure Buts (S : List Nat) (n : Nat) (w w' : World) : Prop where
  os : w'.os = w.os
  tape : w'.tape = w.tape
  output : w'.output = w.output
  size : w.heap.size ≤ w'.heap.size
  block : ∀ k, k < n → k ∉ S → w'.heap[k]? = w.heap[k]?
theorem Buts.refl (S : List Nat) (n : Nat) (w : World) : Buts S n w w := ⟨rfl, rfl, rfl, Nat.le_refl _, fun _ _ _ => rfl⟩
theorem Buts.trans {S : List Nat} {n : Nat} {a b c : World} (h : Buts S n a b) (k : Buts S n b c) : Buts S n a c := ⟨k.os.trans h.os, k.tape.trans h.tape, k.output.trans h.output, Nat.le_trans h.size k.size, fun i hi hB => (k.block i hi hB).trans (h.block i hi hB)⟩
theorem Buts.of_below {S : List Nat} {n m : Nat} {w w' : World} (h : Below m w w') (hm : n ≤ m) : Buts S n w w' := ⟨h.os, h.tape, h.output, h.size, fun k hk _ => h.block k (by omega)⟩
theorem Buts.of_but {S : List Nat} {B n m : Nat} {w w' : World} (h : But B m w w') (hB : B ∈ S) (hm : n ≤ m) : Buts S n w w' := ⟨h.os, h.tape, h.output, h.size, fun k hk hS => h.block k (by omega) (fun e => hS (e ▸ hB))⟩
theorem Buts.mono {S S' : List Nat} {n m : Nat} {w w' : World} (h : Buts S n w w') (hS : ∀ x ∈ S, x ∈ S') (hm : m ≤ n) : Buts S' m w w' := ⟨h.os, h.tape, h.output, h.size, fun k hk hS' => h.block k (by omega) (fun e => hS' (hS k e))⟩
theorem Buts.below {S : List Nat} {n m : Nat} {w w' : World} (h : Buts S n w w') (hn : m ≤ n) (hS : ∀ x ∈ S, m ≤ x) : Below m w w' := ⟨h.os, h.tape, h.output, h.size, fun k hk => h.block k (by omega) (fun e => by have := hS k e; omega)⟩
theorem Buts.row {S : List Nat} {n b : Nat} {w w' : World} {t : TypeId} {c : List Value} (h : Buts S n w w') (hn : b < n) (hb : b ∉ S) (hr : Row w b t c) : Row w' b t c := (h.block b hn hb).trans hr
theorem Buts.drew {S : List Nat} {n : Nat} {a w : World} (h : Buts S n a w) : Buts S n a w.drew := ⟨h.os, h.tape, h.output, h.size, h.block⟩

section
open Classical
/-- The function f with v at x. -/
def fnPut [DecidableEq Value] (f : Value → Option Value) (x v : Value) : Value → Option Value := fun y => if y = x then some v else f y
theorem fnPut_same (f : Value → Option Value) (x v : Value) : fnPut f x v x = some v := by simp [fnPut]
theorem fnPut_other {f : Value → Option Value} {x y v : Value} (h : y ≠ x) : fnPut f x v y = f y := by simp [fnPut, h]

/-- Block b is a map with the keys and elements that f tells. -/
def MapAt (P : Program) (k : TypeId) (W : World) (b : Nat) (f : Value → Option Value) : Prop :=
  ∃ es clock, W.heap[b]? = some (.map es clock) ∧ (∀ e ∈ es.toList, ∃ l, keyOf P k e.key = some l) ∧ es.toList.Pairwise (fun x y => x.key ≠ y.key) ∧ (∀ e ∈ es.toList, f e.key = some e.val) ∧ ∀ x v, f x = some v → ∃ e ∈ es.toList, e.key = x

section
variable {P : Program} {k : TypeId} {w : World} {b : Nat} {f : Value → Option Value}

theorem MapAt.lt (h : MapAt P k w b f) : b < w.heap.size := by
  obtain ⟨_, _, h, _⟩ := h
  exact (Array.getElem?_eq_some_iff.1 h).1
theorem MapAt.kept {w' : World} (h : MapAt P k w b f) (hb : w'.heap[b]? = w.heap[b]?) : MapAt P k w' b f := by
  obtain ⟨es, clock, h1, h2⟩ := h
  exact ⟨es, clock, hb.trans h1, h2⟩
theorem MapAt.below {w' : World} {n : Nat} (h : MapAt P k w b f) (hb : Below n w w') (hn : b < n) : MapAt P k w' b f := h.kept (hb.block b hn)
theorem MapAt.buts {S : List Nat} {w' : World} {n : Nat} (h : MapAt P k w b f) (hb : Buts S n w w') (hn : b < n) (hS : b ∉ S) : MapAt P k w' b f := h.kept (hb.block b hn hS)
theorem MapAt.but {B : Nat} {w' : World} {n : Nat} (h : MapAt P k w b f) (hb : But B n w w') (hn : b < n) (hS : b ≠ B) : MapAt P k w' b f := h.kept (hb.block b hn hS)
theorem MapAt.new (P : Program) (k : TypeId) (w : World) : MapAt P k (w.alloc (.map #[] 0)) w.heap.size (fun _ => none) :=
  ⟨#[], 0, (MapKept.heap_alloc w _).1, by simp, by simp, by simp, by simp⟩

theorem MapAt.look {t e : TypeId} (c : Bool) (h : MapAt P k w b f) (K : Keyed P k) (ht : P.underlying t = some (.map k e)) {z : Value} (hz : (zeroValue e).run P w = .ok z w) {key : Value} {kl : Lit} (hkey : keyOf P k key = some kl) :
    (Instr.lookup t (.map (some b)) key c).run P w = .ok (if c then .tuple #[(f key).getD z, .bool (f key).isSome] else (f key).getD z) w := by
  obtain ⟨es, clock, hb, hks, hp, hf, hx⟩ := h
  rcases K.find w hkey es.toList hks with ⟨h1, h2⟩ | ⟨j, e0, h1, h2, h3⟩
  · have hn : f key = none := by
      cases hv : f key with
      | none => rfl
      | some v => obtain ⟨e', he', hk'⟩ := hx key v hv; exact absurd hk' (h2 e' he')
    rw [hn]
    simp [Instr.lookup, run_underlying ht, MapKept.run_getObj_map hb, K.check w _ hkey, h1, hz, Result.andThen]
  · have hv : f key = some e0.val := by rw [← h3]; exact hf e0 (List.mem_of_getElem? h2)
    rw [hv]
    simp [Instr.lookup, run_underlying ht, MapKept.run_getObj_map hb, K.check w _ hkey, h1, Result.andThen]

theorem MapAt.store {t e : TypeId} (h : MapAt P k w b f) (K : Keyed P k) (ht : P.underlying t = some (.map k e)) {key : Value} {kl : Lit} (val : Value) (hkey : keyOf P k key = some kl) (n : Nat) :
    ∃ w', (Instr.mapUpdate t (.map (some b)) key val).run P w = .ok () w' ∧ MapAt P k w' b (fnPut f key val) ∧ But b n w w' := by
  obtain ⟨es, clock, hb, hks, hp, hf, hx⟩ := h
  have hbut : ∀ o, But b n w (ChangeMaps.setBlock w b o) := fun o => ⟨rfl, rfl, rfl, by simp [ChangeMaps.setBlock], fun i _ hi => ChangeMaps.heap_setBlock_other hb _ hi⟩
  rcases K.find w hkey es.toList hks with ⟨h1, h2⟩ | ⟨j, e0, h1, h2, h3⟩
  · refine ⟨ChangeMaps.setBlock w b (.map (es.push ⟨key, val, clock⟩) (clock + 1)), ?_, ⟨_, _, ChangeMaps.heap_setBlock_same hb _, ?_, ?_, ?_, ?_⟩, hbut _⟩
    · simp [Instr.mapUpdate, run_underlying ht, MapKept.run_getObj_map hb, K.check w false hkey, h1, MapKept.run_setObj_map _ hb, Result.andThen, ChangeMaps.setBlock]
    · intro x hx'
      simp only [Array.toList_push, List.mem_append, List.mem_singleton] at hx'
      rcases hx' with hx' | rfl
      · exact hks x hx'
      · exact ⟨kl, hkey⟩
    · rw [Array.toList_push, List.pairwise_append]
      exact ⟨hp, by simp, fun x hx' y hy => by simp only [List.mem_singleton] at hy; subst hy; exact h2 x hx'⟩
    · intro x hx'
      simp only [Array.toList_push, List.mem_append, List.mem_singleton] at hx'
      rcases hx' with hx' | rfl
      · rw [fnPut_other (h2 x hx')]; exact hf x hx'
      · exact fnPut_same _ _ _
    · intro x v hv
      by_cases hxk : x = key
      · exact ⟨⟨key, val, clock⟩, by simp, hxk.symm⟩
      · rw [fnPut_other hxk] at hv
        obtain ⟨e', he', hk'⟩ := hx x v hv
        exact ⟨e', by simp [he'], hk'⟩
  · have hj : es[j]? = some e0 := by simpa using h2
    have hjl : j < es.toList.length := (List.getElem?_eq_some_iff.1 h2).1
    have hlist : (es.modify j (fun e' => { e' with key := key, val := val })).toList = es.toList.set j { e0 with key := key, val := val } := by rw [Array.toList_modify, ChangeMaps.modify_eq_set _ _ _ _ h2]
    have hmem : ∀ x ∈ es.toList.set j { e0 with key := key, val := val }, x = { e0 with key := key, val := val } ∨ (x ∈ es.toList ∧ x.key ≠ key) := by
      intro x hx'
      obtain ⟨i, hi, ex⟩ := List.getElem_of_mem hx'
      rw [List.getElem_set] at ex
      split at ex
      · exact Or.inl ex.symm
      · rename_i hne
        have hi' : i < es.toList.length := by simpa using hi
        refine Or.inr ⟨ex ▸ List.getElem_mem hi', ?_⟩
        have hej : es.toList[j] = e0 := by simpa using (List.getElem?_eq_some_iff.1 h2).2
        have hpw := List.pairwise_iff_getElem.1 hp
        have hne2 : es.toList[i].key ≠ es.toList[j].key := by
          rcases Nat.lt_or_ge i j with hl | hl
          · exact hpw i j hi' hjl hl
          · exact (hpw j i hjl hi' (by omega)).symm
        rw [hej, h3, ex] at hne2
        exact hne2
    refine ⟨ChangeMaps.setBlock w b (.map (es.modify j (fun e' => { e' with key := key, val := val })) clock), ?_, ⟨_, _, ChangeMaps.heap_setBlock_same hb _, ?_, ?_, ?_, ?_⟩, hbut _⟩
    · simp [Instr.mapUpdate, run_underlying ht, MapKept.run_getObj_map hb, K.check w false hkey, h1, hj, h3, K.stays w hkey, MapKept.run_setObj_map _ hb, Result.andThen, ChangeMaps.setBlock]
    · intro x hx'
      rw [hlist] at hx'
      rcases hmem x hx' with rfl | ⟨hx', _⟩
      · exact ⟨kl, hkey⟩
      · exact hks x hx'
    · rw [hlist, List.pairwise_iff_getElem]
      intro i i' hi hi' hlt
      have hpw := List.pairwise_iff_getElem.1 hp i i' (by simpa using hi) (by simpa using hi') hlt
      have hej : es.toList[j] = e0 := by simpa using (List.getElem?_eq_some_iff.1 h2).2
      rw [List.getElem_set, List.getElem_set]
      by_cases e1 : j = i
      · subst e1
        rw [if_pos rfl, if_neg (by omega)]
        rw [hej, h3] at hpw
        exact hpw
      · rw [if_neg e1]
        by_cases e2 : j = i'
        · subst e2
          rw [if_pos rfl]
          rw [hej, h3] at hpw
          exact hpw
        · rw [if_neg e2]; exact hpw
    · intro x hx'
      rw [hlist] at hx'
      rcases hmem x hx' with rfl | ⟨hx', hne⟩
      · exact fnPut_same _ _ _
      · rw [fnPut_other hne]; exact hf x hx'
    · intro x v hv
      rw [hlist]
      by_cases hxk : x = key
      · exact ⟨{ e0 with key := key, val := val }, List.mem_iff_getElem.2 ⟨j, by simpa using hjl, by simp⟩, hxk.symm⟩
      · rw [fnPut_other hxk] at hv
        obtain ⟨e', he', hk'⟩ := hx x v hv
        obtain ⟨i, hi, ei⟩ := List.getElem_of_mem he'
        refine ⟨e', List.mem_iff_getElem.2 ⟨i, by simpa using hi, ?_⟩, hk'⟩
        rw [List.getElem_set, if_neg]
        · exact ei
        · rintro rfl
          have hej : es.toList[j] = e0 := by simpa using (List.getElem?_eq_some_iff.1 h2).2
          exact hxk (by rw [← hk', ← ei, hej, h3])

variable {ops : Array Oper} {rest : List Oper} {o : Oper} {a : Act} {Q : Exit → Act → World → Prop}

/-- A look-up, at the operation. -/
theorem wpList_look (c : Bool) (r : Option Value) (hg : o.guard = none) (m x : Operand) (t e : TypeId) (hop : o.op = Op.lookup t m x c) (K : Keyed P k) (ht : P.underlying t = some (.map k e)) {z : Value} (hz : (zeroValue e).run P w = .ok z w)
    (hm : a.eval m = .map (some b)) (h : MapAt P k w b f) {key : Value} {kl : Lit} (hx : a.eval x = key) (hkey : keyOf P k key = some kl) (hr : f key = r)
    (hK : wpList P ops Q rest (a.put o.dst (if c then .tuple #[r.getD z, .bool r.isSome] else r.getD z)) w) : wpList P ops Q (o :: rest) a w := by
  refine wpList_plain hg fun K' hK' => ?_
  have hrun := h.look c K ht hz hkey
  rw [hr] at hrun
  generalize (if c = true then Value.tuple #[r.getD z, Value.bool r.isSome] else r.getD z) = V at hrun hK
  unfold Oper.wp
  simp [execOp, hop, hm, hx, hrun, Result.andThen]
  exact hK' _ _ hK
theorem wpList_lookOk_none (hg : o.guard = none) (m x : Operand) (t e : TypeId) (hop : o.op = Op.lookup t m x true) (K : Keyed P k) (ht : P.underlying t = some (.map k e)) {z : Value} (hz : (zeroValue e).run P w = .ok z w)
    (hm : a.eval m = .map (some b)) (h : MapAt P k w b f) {key : Value} {kl : Lit} (hx : a.eval x = key) (hkey : keyOf P k key = some kl) (hr : f key = none)
    (hK : wpList P ops Q rest (a.put o.dst (.tuple #[z, .bool false])) w) : wpList P ops Q (o :: rest) a w :=
  wpList_look true none hg m x t e hop K ht hz hm h hx hkey hr hK
theorem wpList_lookOk_some (hg : o.guard = none) (m x : Operand) (t e : TypeId) (hop : o.op = Op.lookup t m x true) (K : Keyed P k) (ht : P.underlying t = some (.map k e)) {z : Value} (hz : (zeroValue e).run P w = .ok z w)
    (hm : a.eval m = .map (some b)) (h : MapAt P k w b f) {key : Value} {kl : Lit} (hx : a.eval x = key) (hkey : keyOf P k key = some kl) {v : Value} (hr : f key = some v)
    (hK : wpList P ops Q rest (a.put o.dst (.tuple #[v, .bool true])) w) : wpList P ops Q (o :: rest) a w :=
  wpList_look true (some v) hg m x t e hop K ht hz hm h hx hkey hr hK
theorem wpList_look_val (hg : o.guard = none) (m x : Operand) (t e : TypeId) (hop : o.op = Op.lookup t m x false) (K : Keyed P k) (ht : P.underlying t = some (.map k e)) {z : Value} (hz : (zeroValue e).run P w = .ok z w)
    (hm : a.eval m = .map (some b)) (h : MapAt P k w b f) {key : Value} {kl : Lit} (hx : a.eval x = key) (hkey : keyOf P k key = some kl) {v : Value} (hr : (f key).getD z = v)
    (hK : wpList P ops Q rest (a.put o.dst v) w) : wpList P ops Q (o :: rest) a w :=
  wpList_look false (f key) hg m x t e hop K ht hz hm h hx hkey rfl (by rw [hr]; exact hK)

/-- A store, at the operation. -/
theorem wpList_mapStore (n : Nat) (hg : o.guard = none) (m x v : Operand) (t e : TypeId) (hop : o.op = Op.mapUpdate t m x v) (K : Keyed P k) (ht : P.underlying t = some (.map k e))
    (hm : a.eval m = .map (some b)) (h : MapAt P k w b f) {key val : Value} {kl : Lit} (hx : a.eval x = key) (hv : a.eval v = val) (hkey : keyOf P k key = some kl)
    (hK : ∀ w', MapAt P k w' b (fnPut f key val) → But b n w w' → wpList P ops Q rest (a.put o.dst undef) w') : wpList P ops Q (o :: rest) a w := by
  refine wpList_plain hg fun K' hK' => ?_
  obtain ⟨w', hrun, r1, r2⟩ := h.store K ht val hkey n
  unfold Oper.wp
  simp [execOp, hop, hm, hx, hv, hrun, Result.andThen]
  exact hK' _ _ (hK w' r1 r2)
theorem wp_mapStore {K' : Act → World → Prop} (n : Nat) (m x v : Operand) (t e : TypeId) (hop : o.op = Op.mapUpdate t m x v) (K : Keyed P k) (ht : P.underlying t = some (.map k e))
    (hm : a.eval m = .map (some b)) (h : MapAt P k w b f) {key val : Value} {kl : Lit} (hx : a.eval x = key) (hv : a.eval v = val) (hkey : keyOf P k key = some kl)
    (hK : ∀ w', MapAt P k w' b (fnPut f key val) → But b n w w' → K' (a.put o.dst undef) w') : Oper.wp P o a w K' Q := by
  obtain ⟨w', hrun, r1, r2⟩ := h.store K ht val hkey n
  unfold Oper.wp
  simp [execOp, hop, hm, hx, hv, hrun, Result.andThen]
  exact hK w' r1 r2
end

end
end Go.Proofs.YtkpjbleogjmbjaaDoor
/-
  What an ideal suite draws for what it has not answered yet; known's answer. All that turns is the tape and the table.
-/
namespace Go.Proofs.YtkpjbleogjmbjaaDoor
open Classical
open Go.RowKit Go.Shelf

theorem row_apart {W : World} {a b : Nat} {t t' : TypeId} {x y : List Value} (ha : Row W a t x) (hb : Row W b t' y) (ht : t ≠ t') : a ≠ b := fun e => by
  subst e
  unfold Row at ha hb
  rw [ha] at hb
  cases hb
  exact ht rfl
theorem row_map {W : World} {P : Program} {k : TypeId} {a b : Nat} {t : TypeId} {x : List Value} {f : Value → Option Value} (ha : Row W a t x) (hb : MapAt P k W b f) : a ≠ b := fun e => by
  subst e
  obtain ⟨_, _, hb, _⟩ := hb
  unfold Row at ha
  rw [ha] at hb
  cases hb

end Go.Proofs.YtkpjbleogjmbjaaDoor
/-
  A tape in memory, and what New, Left, Clone and Take make of it. Nothing that lay before a call has turned but the tape itself.
-/
namespace Go.Proofs.YtkpjbleogjmbjaaDoor
open Go.RowKit

/-- Block B is a tape with the bytes zs ahead, which lie in block Q before it. -/
def TapeAt (W : World) (B Q : Nat) (zs : List Nat) : Prop := ∃ q len cap, Row W B 52 [.bool true, .slice q len cap] ∧ IsBytes B W q len cap zs ∧ ∀ b off s, q = some ⟨b, off, s⟩ → b = Q
theorem TapeAt.lt {W : World} {B Q : Nat} {zs : List Nat} (h : TapeAt W B Q zs) : B < W.heap.size := by obtain ⟨_, _, _, h, _⟩ := h; exact h.lt
theorem TapeAt.below {W W' : World} {n B Q : Nat} {zs : List Nat} (h : TapeAt W B Q zs) (hb : Below n W W') (hn : B < n) : TapeAt W' B Q zs := by
  obtain ⟨q, len, cap, h1, h2, h3⟩ := h
  exact ⟨q, len, cap, h1.below hb hn, h2.below (hb.mono (by omega)), h3⟩
theorem TapeAt.later {W W' : World} {B Q : Nat} {zs : List Nat} (h : TapeAt W B Q zs) (hb : Below W.heap.size W W') : TapeAt W' B Q zs := h.below hb h.lt
theorem TapeAt.but {W W' : World} {B B' Q : Nat} {zs : List Nat} (h : TapeAt W B Q zs) (hb : But B' W.heap.size W W') (hB : B < B') : TapeAt W' B Q zs :=
  h.below (hb.below (m := B + 1) h.lt hB) (by omega)
/-- A tape hangs on its block and on that of its bytes alone. -/
theorem TapeAt.keep {W W' : World} {B Q : Nat} {zs : List Nat} (h : TapeAt W B Q zs) (h1 : W'.heap[B]? = W.heap[B]?) (h2 : W'.heap[Q]? = W.heap[Q]?) : TapeAt W' B Q zs := by
  obtain ⟨q, len, cap, hr, ⟨a1, a2, a3, a4, a5⟩, hq⟩ := h
  refine ⟨q, len, cap, h1.trans hr, ⟨a1, a2, a3, a4, ?_⟩, hq⟩
  rcases a5 with h | ⟨b, off, rfl, hb, hc⟩
  · exact .inl h
  · obtain rfl := hq b off none rfl
    refine .inr ⟨b, off, rfl, hb, fun i hi => ?_⟩
    obtain ⟨c, t, fr, hx, hv⟩ := cells_of_cell (hc i hi)
    rw [cell_of_row W' b (off + i) c t fr (h2.trans hx)]
    exact hv

set_option maxHeartbeats 1000000 in
/-- own -/
theorem tapeOwn_any (p : Option Addr) (len cap : Nat) (zs : List Nat) (hlen : len ≤ 70000) (w : World) (hI : IsBytes w.heap.size w p len cap zs) :
    Calls Tryd.prog 12 #[.slice p len cap] w fun e w' => e = .returned (.slice (some ⟨w.heap.size, 0, none⟩) len len) ∧ Own w.heap.size w' (.slice (some ⟨w.heap.size, 0, none⟩) len len) zs ∧ w.heap.size < w'.heap.size ∧ Below w.heap.size w w' := by
  obtain ⟨i0, hi, hz0, hz1, hz2⟩ := info_parts info5
  have HI : Hid (IsBytes w.heap.size w p len cap zs) := hI
  clear hI
  go_enter Tryd.func12, Tryd.ntmps12
  go_wp2_with (first
    | (at_make; refine wpList_make_full _ rfl _ _ 22 rfl w.heap.size 5 i0 (.int .u8 0) 1 Tryd.underlying22 hi hz0 hz1 _ _ _ _ len rfl rfl (by omega) (by omega) (by rw [hz2]; omega) (by simp only [maxLen]; omega) (Nat.le_refl _) ?_; intro w2 hown2 hgrow2; rw [made_zeros] at hown2; have HR2 : Hid (Row w2 w.heap.size 5 (u8s (List.replicate len 0))) := row_of_made hown2; have hb2 : Below w.heap.size w w2 := ((Below.refl _ w).grown hgrow2 (Nat.le_refl _) (fun k e => by cases e)); clear hown2 hgrow2)
    | ((with_reducible show wpList _ _ _ (Oper.mk (some 9) _ _ _ _ _ :: _) _ _); refine wpList_copy_splice rfl (.tmp 7) (.tmp 8) 22 22 rfl 5 Tryd.underlying22 size5 _ _ _ _ _ _ rfl rfl w.heap.size 0 (u8s (List.replicate len 0)) 5 HR2.out (u8s zs) (by rw [u8s_length, HI.out.1]; exact (Nat.min_self _).symm) (fun h0 => ⟨rfl, bytes_src (HI.out.below hb2) h0⟩) (by have := HI.out.1; simp; omega) (u8s_one _) w.heap.size w hb2 (Nat.le_refl _) ?_; intro w3 HG3 hb3; rw [u8s_length, HI.out.1]; rw [splice_all zs len HI.out.1] at HG3))
  go_ret
  have ho := own_of_row (n₀ := w.heap.size) (zs := zs) HG3.out (Nat.le_refl _) (by have := HI.out.1; omega)
  rw [HI.out.1] at ho
  exact ⟨rfl, ho, Row.lt HG3.out, hb3⟩

set_option maxHeartbeats 1000000 in
/-- New -/
theorem tapeNew_any (p : Option Addr) (len cap : Nat) (zs : List Nat) (hlen : len ≤ 70000) (w : World) (hI : IsBytes w.heap.size w p len cap zs) :
    Calls Tryd.prog 6 #[.slice p len cap] w fun e w' => ∃ B, e = .returned (.pointer (some ⟨B, 0, none⟩)) ∧ w.heap.size < B ∧ (TapeAt w' B w.heap.size zs ∧ Row w' w.heap.size 5 (u8s zs)) ∧ Below w.heap.size w w' := by
  have HI : Hid (IsBytes w.heap.size w p len cap zs) := hI
  clear hI
  go_enter Tryd.func6, Tryd.ntmps6
  go_wp2_with (go_at_call 12; refine (tapeOwn_any p len cap zs hlen _ HI.out).mono ?_; rintro e w1 ⟨rfl, hown1, hs1, hb1⟩)
  go_ret
  have hr1 : Row w1 w.heap.size 5 (u8s zs) := by have h := hown1; unfold Own at h; rw [HI.out.1] at h; exact row_of_made h
  exact ⟨w1.heap.size, rfl, hs1, ⟨⟨_, _, _, Row.new w1 52 _, (hown1.bytes HI.out.2.2.2.1).below ((Below.refl _ w1).alloc (Nat.le_refl _) _), fun b off s e => by simp at e; exact e.1.symm⟩, hr1.alloc _⟩, hb1.alloc hb1.size _⟩

set_option maxHeartbeats 1000000 in
/-- Left -/
theorem left_any (B Q : Nat) (zs : List Nat) (w : World) (hT : TapeAt w B Q zs) :
    Calls Tryd.prog 38 #[.pointer (some ⟨B, 0, none⟩)] w fun e w' => e = .returned (.int .i64 (zs.length : Nat)) ∧ w' = w := by
  obtain ⟨q, len, cap, hr, hI, _⟩ := hT
  have c1 := hr.cell (i := 1) rfl
  have hl := hI.1
  have hl2 : len ≤ 9223372036854775807 := by have := hI.2.1; have := hI.2.2.1; omega
  clear hr hI
  go_enter Tryd.func38, Tryd.ntmps38
  go_wp2
  go_ret
  exact ⟨by rw [hl]; rfl, rfl⟩
theorem left_none (w : World) : Calls Tryd.prog 38 #[.pointer none] w fun e w' => e = .returned (.int .i64 0) ∧ w' = w := by
  go_enter Tryd.func38, Tryd.ntmps38
  go_wp2
  go_ret
  exact ⟨rfl, rfl⟩

end Go.Proofs.YtkpjbleogjmbjaaDoor
/-
  What Take makes of a tape: the next bytes, in memory of their own, or an error, and then nothing is taken. Nothing that lay before the call has turned but the tape.
-/
namespace Go.Proofs.YtkpjbleogjmbjaaDoor
open Go.RowKit

/-- The error; what is taken; what is left. -/
def errT (z : Int) (zs : List Nat) : Int := if z < 0 then 1 else if (zs.length : Int) < z then 60 else 0
def takenT (z : Int) (zs : List Nat) : List Nat := if z < 0 ∨ (zs.length : Int) < z then [] else zs.take z.toNat
def restT (z : Int) (zs : List Nat) : List Nat := if z < 0 ∨ (zs.length : Int) < z then zs else zs.drop z.toNat

set_option maxHeartbeats 1000000 in
theorem take_neg (a : Option Addr) (z : Int) (hz : z < 0) (w : World) :
    Calls Tryd.prog 31 #[.pointer a, .int .i64 z] w fun e w' => e = .returned (.tuple #[.slice none 0 0, .int .i64 1]) ∧ w' = w := by
  go_enter Tryd.func31, Tryd.ntmps31
  go_wp2
  refine bodyPost_ret (results_tmp2 rfl _ _ _) rfl ?_
  exact ⟨rfl, rfl⟩

set_option maxHeartbeats 1000000 in
theorem take_over (a : Option Addr) (n : Nat) (z : Int) (hz : ¬ z < 0) (hn : (n : Int) < z) (w : World) (HL : Hid (Calls Tryd.prog 38 #[.pointer a] w fun e w' => e = .returned (.int .i64 (n : Nat)) ∧ w' = w)) :
    Calls Tryd.prog 31 #[.pointer a, .int .i64 z] w fun e w' => e = .returned (.tuple #[.slice none 0 0, .int .i64 60]) ∧ w' = w := by
  go_enter Tryd.func31, Tryd.ntmps31
  go_wp2_with (go_at_call 38; refine HL.out.mono ?_; rintro e w1 ⟨rfl, hw1⟩; obtain rfl : w = w1 := hw1.symm; clear hw1)
  refine bodyPost_ret (results_tmp2 rfl _ _ _) rfl ?_
  exact ⟨rfl, rfl⟩

set_option maxHeartbeats 1000000 in
theorem take_zero (a : Option Addr) (n : Nat) (w : World) (HL : Hid (Calls Tryd.prog 38 #[.pointer a] w fun e w' => e = .returned (.int .i64 (n : Nat)) ∧ w' = w)) :
    Calls Tryd.prog 31 #[.pointer a, .int .i64 0] w fun e w' => e = .returned (.tuple #[.slice none 0 0, .int .i64 0]) ∧ w' = w := by
  have hn : ¬ (n : Int) < 0 := by omega
  go_enter Tryd.func31, Tryd.ntmps31
  go_wp2_with (go_at_call 38; refine HL.out.mono ?_; rintro e w1 ⟨rfl, hw1⟩; obtain rfl : w = w1 := hw1.symm; clear hw1)
  refine bodyPost_ret (results_tmp2 rfl _ _ _) rfl ?_
  exact ⟨rfl, rfl⟩

set_option maxRecDepth 100000 in
set_option maxHeartbeats 1000000 in
theorem take_some (B Q n : Nat) (zs : List Nat) (h0 : 0 < n) (hn : n ≤ zs.length) (hlen : zs.length ≤ 70000) (w : World) (hT : TapeAt w B Q zs) :
    Calls Tryd.prog 31 #[.pointer (some ⟨B, 0, none⟩), .int .i64 n] w fun e w' => ∃ g, e = .returned (.tuple #[.slice (some ⟨g, 0, none⟩) n n, .int .i64 0]) ∧ Own w.heap.size w' (.slice (some ⟨g, 0, none⟩) n n) (zs.take n) ∧ TapeAt w' B Q (zs.drop n) ∧ But B w.heap.size w w' := by
  have HL : Hid (Calls Tryd.prog 38 #[.pointer (some ⟨B, 0, none⟩)] w fun e w' => e = .returned (.int .i64 (zs.length : Nat)) ∧ w' = w) := left_any B Q zs w hT
  have hBl := hT.lt
  obtain ⟨q, len, cap, hr, hI, hQ⟩ := hT
  have hl := hI.1
  rw [hl] at HL
  have hlc := hI.2.1
  have hcc := hI.2.2.1
  obtain ⟨b, off, rfl, hbB⟩ : ∃ b off, q = some ⟨b, off, none⟩ ∧ b < B := by
    rcases hI.2.2.2.2 with h | ⟨b, off, h, hb, _⟩
    · omega
    · exact ⟨b, off, h, hb⟩
  have c1 := hr.cell (i := 1) rfl
  have HR : Hid (Row w B 52 [.bool true, .slice (some ⟨b, off, none⟩) len cap]) := hr
  have HI : Hid (IsBytes B w (some ⟨b, off, none⟩) len cap zs) := hI
  have hn0 : ¬ (n : Int) < 0 := by omega
  have hn1 : ¬ (len : Int) < (n : Int) := by omega
  have hn2 : ((n : Int) == 0) = false := by simp; omega
  have hnl : n ≤ len := by omega
  have hnc : n ≤ cap := by omega
  have fz := hr.frozen 1
  have HOw : Hid (∀ v, Calls Tryd.prog 12 #[.slice (some ⟨b, off, none⟩) n n] (w.setCell ⟨B, 1, none⟩ v) fun e w' => e = .returned (.slice (some ⟨w.heap.size, 0, none⟩) n n) ∧ Own w.heap.size w' (.slice (some ⟨w.heap.size, 0, none⟩) n n) (zs.take n) ∧ Below w.heap.size (w.setCell ⟨B, 1, none⟩ v) w') := fun v => by
    have hb : Below B w (w.setCell ⟨B, 1, none⟩ v) := (But.set (B := B) (n := w.heap.size) 1 v).below (by omega) (Nat.le_refl _)
    have h := tapeOwn_any (some ⟨b, off, none⟩) n n (zs.take n) (by omega) (w.setCell ⟨B, 1, none⟩ v) (((hI.head hnl (Nat.le_refl _) hnc).below hb).mono (by have := hb.size; omega))
    rw [World.size_setCell] at h
    exact h.mono fun e w' ⟨h1, h2, _, h4⟩ => ⟨h1, h2, h4⟩
  obtain rfl := hQ b off none rfl
  have HEnd : Hid (∀ q2 c2 w', c2 + n = cap → (0 < len - n → q2 = some ⟨b, off + n, none⟩) → (∀ b' off' s', q2 = some ⟨b', off', s'⟩ → b' = b) → Below w.heap.size (w.setCell ⟨B, 1, none⟩ (.slice q2 (len - n) c2)) w' → TapeAt w' B b (zs.drop n) ∧ But B w.heap.size w w') := fun q2 c2 w' hc hq hqq hb => by
    have hbut : But B w.heap.size w (w.setCell ⟨B, 1, none⟩ (.slice q2 (len - n) c2)) := But.set 1 _
    have hIr : IsBytes B w q2 (len - n) c2 (zs.drop n) := hI.rest (by omega) hc (fun h => ⟨b, off, rfl, hq h⟩)
    refine ⟨TapeAt.below (W := w.setCell ⟨B, 1, none⟩ (.slice q2 (len - n) c2)) ⟨q2, len - n, c2, hr.set (i := 1) _, hIr.below (hbut.below (by omega) (Nat.le_refl _)), hqq⟩ hb hBl, hbut.trans (But.of_below hb (Nat.le_refl _))⟩
  clear hr hI HI HR
  by_cases hcn : cap = n
  · have hcn' : (cap = n) = True := eq_true hcn
    go_enter Tryd.func31, Tryd.ntmps31
    go_wp2_with (first
      | (go_at_call 38; refine HL.out.mono ?_; rintro e w1 ⟨rfl, hw1⟩; obtain rfl : w = w1 := hw1.symm; clear hw1)
      | (go_at_call 12; refine (HOw.out _).mono ?_; rintro e w1 ⟨rfl, hown1, hb1⟩))
    refine bodyPost_ret (results_tmp2 rfl _ _ _) rfl ?_
    have hE := HEnd.out _ _ _ (by omega) (by omega) (fun _ _ _ e => by simp at e; first | exact e.1.symm | exact e.elim | cases e) hb1
    exact ⟨_, rfl, hown1, hE⟩
  · have hcn' : (cap = n) = False := eq_false hcn
    go_enter Tryd.func31, Tryd.ntmps31
    go_wp2_with (first
      | (go_at_call 38; refine HL.out.mono ?_; rintro e w1 ⟨rfl, hw1⟩; obtain rfl : w = w1 := hw1.symm; clear hw1)
      | (go_at_call 12; refine (HOw.out _).mono ?_; rintro e w1 ⟨rfl, hown1, hb1⟩))
    refine bodyPost_ret (results_tmp2 rfl _ _ _) rfl ?_
    have hE := HEnd.out _ _ _ (by omega) (fun _ => rfl) (fun _ _ _ e => by simp at e; exact e.1.symm) hb1
    exact ⟨_, rfl, hown1, hE⟩

/-- Take -/
theorem take_any (B Q : Nat) (z : Int) (zs : List Nat) (hlen : zs.length ≤ 70000) (w : World) (hT : TapeAt w B Q zs) :
    Calls Tryd.prog 31 #[.pointer (some ⟨B, 0, none⟩), .int .i64 z] w fun e w' => ∃ v, e = .returned (.tuple #[v, .int .i64 (errT z zs)]) ∧ Own w.heap.size w' v (takenT z zs) ∧ TapeAt w' B Q (restT z zs) ∧ But B w.heap.size w w' := by
  by_cases hz : z < 0
  · rw [errT, if_pos hz, takenT, if_pos (.inl hz), restT, if_pos (.inl hz)]
    refine (take_neg _ z hz w).mono ?_
    rintro e w' ⟨rfl, rfl⟩
    exact ⟨_, rfl, Own.nil _ _, hT, But.refl _ _ _⟩
  · by_cases hn : (zs.length : Int) < z
    · rw [errT, if_neg hz, if_pos hn, takenT, if_pos (.inr hn), restT, if_pos (.inr hn)]
      refine (take_over _ zs.length z hz hn w (left_any B Q zs w hT)).mono ?_
      rintro e w' ⟨rfl, rfl⟩
      exact ⟨_, rfl, Own.nil _ _, hT, But.refl _ _ _⟩
    · rw [errT, if_neg hz, if_neg hn, takenT, if_neg (by omega), restT, if_neg (by omega)]
      obtain ⟨n, rfl⟩ : ∃ n : Nat, z = (n : Int) := ⟨z.toNat, by omega⟩
      rw [Int.toNat_natCast]
      by_cases h0 : n = 0
      · subst h0
        refine (take_zero _ zs.length w (left_any B Q zs w hT)).mono ?_
        rintro e w' ⟨rfl, rfl⟩
        exact ⟨_, rfl, Own.nil _ _, hT, But.refl _ _ _⟩
      · refine (take_some B Q n zs (by omega) (by omega) hlen w hT).mono ?_
        rintro e w' ⟨g, rfl, h⟩
        exact ⟨_, rfl, h⟩

end Go.Proofs.YtkpjbleogjmbjaaDoor
/-
  What Key answers: the next 32 bytes as a key, or an error. Nothing that lay before the call has turned but the tape.
-/
namespace Go.Proofs.YtkpjbleogjmbjaaDoor
open Go.RowKit

theorem size24 : (Tryd.prog.info? 24).map (·.size) = some 32 := by kernel_rfl
theorem run_arrayAt24 (b o L C : Nat) (h : 32 ≤ L) (w : World) : (Instr.arrayAt 24 (.slice (some ⟨b, o, none⟩) L C)).run Tryd.prog w = .ok (.pointer (some ⟨b, o, none⟩)) w := by
  have h : ¬ L < 32 := by omega
  simp [Instr.arrayAt, run_underlying Tryd.underlying24, go_sem, h]

/-- A result that lies in a row, and one beside it. -/
theorem results_Row_tmp {P : Program} {fn : Func} {p u : Tmp} {ty : TypeId} (h : fn.results = #[.cell p ty, .tmp u]) {tmps : Array Value} {w : World} {g : Nat} {t : TypeId} {cs : List Value} (hp : tmps.getD p undef = .pointer (some ⟨g, 0, none⟩)) (hg : Row w g t cs)
    {n : Nat} {e : TypeId} (hu : P.underlying ty = some (.array n e)) (hi : (P.info? ty).map (·.size) = some cs.length) : (results fn tmps).run P w = .ok (.tuple #[.agg cs.toArray, tmps.getD u undef]) w := by
  rw [results_cell_tmp h, hp]
  simp [asAddr, run_loadVar_row w g t ty cs.toArray (0, 0) _ hg hu rfl (by simpa using hi)]

/-- No key. -/
def noKey : List Value := List.replicate 32 (.int .u8 0)

set_option maxRecDepth 100000 in
set_option maxHeartbeats 1000000 in
theorem key_err (a : Option Addr) (w : World) (HT : Hid (∀ W, Below w.heap.size w W → Calls Tryd.prog 31 #[.pointer a, .int .i64 32] W fun e w' => e = .returned (.tuple #[.slice none 0 0, .int .i64 60]) ∧ w' = W)) :
    Calls Tryd.prog 26 #[.pointer a] w fun e w' => e = .returned (.tuple #[.agg noKey.toArray, .int .i64 60]) ∧ Below w.heap.size w w' := by
  go_enter Tryd.func26, Tryd.ntmps26
  go_wp2_with (first
    | (go_at_call 31; refine (HT.out _ ((Below.refl _ w).alloc (Nat.le_refl _) _)).mono ?_; rintro e w1 ⟨rfl, hw1⟩; rw [hw1]; clear hw1)
    | ((with_reducible show wpList _ _ _ (Oper.mk _ (Op.store 24 (.tmp 2) (.tmp 13)) _ _ _ _ :: _) _ _); refine wpList_store_Row rfl 24 (.tmp 2) (.tmp 13) rfl noKey rfl rfl (Row.new _ _ _) size24 rfl (by decide) ?_; simp only [Act.put]))
  refine bodyPost_ret (results_Row_tmp rfl rfl (Row.sets_all (Row.new _ _ _) rfl) Tryd.underlying24 size24) rfl ?_
  exact ⟨rfl, below_setCells (Nat.le_refl _) _ _ ((Below.refl _ w).alloc (Nat.le_refl _) _)⟩

set_option maxRecDepth 100000 in
set_option maxHeartbeats 1000000 in
theorem key_some (B Q : Nat) (zs : List Nat) (h32 : 32 ≤ zs.length) (hlen : zs.length ≤ 70000) (w : World) (hT : TapeAt w B Q zs) :
    Calls Tryd.prog 26 #[.pointer (some ⟨B, 0, none⟩)] w fun e w' => e = .returned (.tuple #[.agg (u8s (zs.take 32)).toArray, .int .i64 0]) ∧ TapeAt w' B Q (zs.drop 32) ∧ But B w.heap.size w w' := by
  have hBl := hT.lt
  have HV : Hid ((u8s (zs.take 32)).length = 32) := by show _ = _; simp; omega
  have HV1 : Hid (∀ v ∈ u8s (zs.take 32), v.oneCell' = true) := u8s_one _
  have HT8 : Hid (∀ W, Below w.heap.size w W → Calls Tryd.prog 31 #[.pointer (some ⟨B, 0, none⟩), .int .i64 32] W fun e w' => ∃ g, e = .returned (.tuple #[.slice (some ⟨g, 0, none⟩) 32 32, .int .i64 0]) ∧ W.heap.size ≤ g ∧ Row w' g 5 (u8s (zs.take 32)) ∧ TapeAt w' B Q (zs.drop 32) ∧ But B W.heap.size W w') := fun W hW =>
    (take_some B Q 32 zs (by decide) h32 hlen W (hT.below hW hBl)).mono fun e w' ⟨g, h1, h2, h3, h4⟩ => by
      unfold Own at h2
      rw [show (zs.take 32).length = 32 by simp; omega] at h2
      obtain ⟨g', cur, e1, e2, _⟩ := row_of_own h2 (by decide)
      cases e1
      exact ⟨g, h1, e2, row_of_made h2, h3, h4⟩
  clear hT
  generalize u8s (zs.take 32) = V at *
  go_enter Tryd.func26, Tryd.ntmps26
  go_wp2_with (first
    | (go_at_call 31; refine (HT8.out _ ((Below.refl _ w).alloc (Nat.le_refl _) _)).mono ?_; rintro e w1 ⟨g, rfl, hg, hrg, ht1, hb1⟩; have HT1 : Hid (TapeAt w1 B Q (zs.drop 32)) := ht1; clear ht1; have hA := run_arrayAt24 g 0 32 32 (Nat.le_refl _); rw [z32u8] at hg hb1; have hr1 : Row w1 w.heap.size 24 noKey := hb1.row (by simp) (by omega) (Row.new' w 24 noKey); have HRg : Hid (Row w1 g 5 V) := hrg; have HR1 : Hid (Row w1 w.heap.size 24 noKey) := hr1; clear hrg hr1)
    | ((with_reducible show wpList _ _ _ (Oper.mk _ (Op.load 24 (.tmp 16)) _ _ _ _ :: _) _ _); refine wpList_load_Row rfl 24 (.tmp 16) rfl rfl HRg.out Tryd.underlying24 (by rw [HV.out]; exact size24) ?_; simp only [Act.put, List.setIfInBounds_toArray, List.set_cons_zero, List.set_cons_succ])
    | ((with_reducible show wpList _ _ _ (Oper.mk _ (Op.store 24 (.tmp 2) (.tmp 17)) _ _ _ _ :: _) _ _); refine wpList_store_Row rfl 24 (.tmp 2) (.tmp 17) rfl V rfl rfl HR1.out (by rw [HV.out]; exact size24) (by rw [HV.out]; rfl) HV1.out ?_; simp only [Act.put]))
  refine bodyPost_ret (results_Row_tmp rfl rfl (Row.sets_all HR1.out (by rw [HV.out]; rfl)) Tryd.underlying24 (by rw [HV.out]; exact size24)) rfl ?_
  refine ⟨rfl, HT1.out.below (below_setCells (Nat.le_refl _) _ _ (Below.refl _ _)) hBl, ?_⟩
  have hs : (w.alloc (.cells (List.replicate 32 (Value.int .u8 0)).toArray 24)).heap.size = w.heap.size + 1 := by simp
  exact (But.of_below ((Below.refl _ w).alloc (Nat.le_refl _) _) (Nat.le_refl _)).trans ((hb1.mono (by omega)).trans (But.of_below (below_setCells (Nat.le_refl _) _ _ (Below.refl _ _)) (Nat.le_refl _)))

/-- Key of a tape; of none. -/
def keyT (zs : List Nat) : List Nat := if 32 ≤ zs.length then zs.take 32 else List.replicate 32 0
def keyE (zs : List Nat) : Int := if 32 ≤ zs.length then 0 else 60
theorem noKey_eq : u8s (List.replicate 32 0) = noKey := by simp [u8s, noKey]
theorem key_any (B Q : Nat) (zs : List Nat) (hlen : zs.length ≤ 70000) (w : World) (hT : TapeAt w B Q zs) :
    Calls Tryd.prog 26 #[.pointer (some ⟨B, 0, none⟩)] w fun e w' => e = .returned (.tuple #[.agg (u8s (keyT zs)).toArray, .int .i64 (keyE zs)]) ∧ But B w.heap.size w w' := by
  unfold keyT keyE
  by_cases h : 32 ≤ zs.length
  · rw [if_pos h, if_pos h]
    exact (key_some B Q zs h hlen w hT).mono fun e w' ⟨h1, _, h2⟩ => ⟨h1, h2⟩
  · rw [if_neg h, if_neg h, noKey_eq]
    exact (key_err _ w (fun W hW => take_over _ zs.length 32 (by decide) (by omega) W (left_any B Q zs W (hT.below hW hT.lt)))).mono fun e w' ⟨h1, h2⟩ => ⟨h1, But.of_below h2 (Nat.le_refl _)⟩
theorem key_none (w : World) : Calls Tryd.prog 26 #[.pointer none] w fun e w' => e = .returned (.tuple #[.agg noKey.toArray, .int .i64 60]) ∧ Below w.heap.size w w' :=
  key_err none w (fun W _ => take_over none 0 32 (by decide) (by decide) W (left_none W))

end Go.Proofs.YtkpjbleogjmbjaaDoor
/-
  A suite in memory, and what New, isMade, Size make of it. Nothing that lay before a call has turned.
-/
namespace Go.Proofs.YtkpjbleogjmbjaaDoor
open Go.RowKit

/-- Block S is a suite. -/
def SuiteAt (W : World) (S : Nat) (mode : Int) (t d g : Option Addr) : Prop := Row W S 48 [.bool true, .int .i64 mode, .pointer t, .pointer d, .pointer g]
theorem SuiteAt.below {W W' : World} {S n : Nat} {mode : Int} {t d g : Option Addr} (h : SuiteAt W S mode t d g) (hb : Below n W W') (hn : S < n) : SuiteAt W' S mode t d g := Row.below h hb hn
theorem SuiteAt.later {W W' : World} {S : Nat} {mode : Int} {t d g : Option Addr} (h : SuiteAt W S mode t d g) (hb : Below W.heap.size W W') : SuiteAt W' S mode t d g := Row.later h hb

set_option maxHeartbeats 1000000 in
theorem isMade_some (S : Nat) (mode : Int) (t d g : Option Addr) (w : World) (h : SuiteAt w S mode t d g) :
    Calls Tryd.prog 18 #[.pointer (some ⟨S, 0, none⟩)] w fun e w' => e = .returned (.bool true) ∧ w' = w := by
  have c0 := Row.cell h (i := 0) rfl
  clear h
  go_enter Tryd.func18, Tryd.ntmps18
  go_wp2
  go_ret
  exact ⟨rfl, rfl⟩
set_option maxHeartbeats 1000000 in
theorem isMade_none (w : World) : Calls Tryd.prog 18 #[.pointer none] w fun e w' => e = .returned (.bool false) ∧ w' = w := by
  go_enter Tryd.func18, Tryd.ntmps18
  go_wp2
  go_ret
  exact ⟨rfl, rfl⟩

/-- newDigests: a map without an entry, and a block that leads to it. -/
def digestsW (w : World) : World := (w.alloc (.map #[] 0)).alloc (.cells #[.map (some w.heap.size), .bool false, .string ByteArray.empty, .string ByteArray.empty] 64)
set_option maxHeartbeats 1000000 in
theorem newDigests_any (w : World) : Calls Tryd.prog 10 #[] w fun e w' => e = .returned (.pointer (some ⟨w.heap.size + 1, 0, none⟩)) ∧ w' = digestsW w := by
  have hmm := @run_makeMap Tryd.prog
  go_enter Tryd.func10, Tryd.ntmps10
  go_wp2
  go_ret
  exact ⟨by simp, rfl⟩

/-- newDrawn: four maps without an entry, and a block that leads to them. -/
def mapsW (w : World) : World := (((w.alloc (.map #[] 0)).alloc (.map #[] 0)).alloc (.map #[] 0)).alloc (.map #[] 0)
def drawnW (w : World) (t : Option Addr) : World := (mapsW w).alloc (.cells #[.pointer t, .map (some w.heap.size), .map (some (w.heap.size + 1)), .map (some (w.heap.size + 2)), .map (some (w.heap.size + 3))] 70)
set_option maxHeartbeats 1000000 in
theorem newDrawn_any (t : Option Addr) (w : World) : Calls Tryd.prog 11 #[.pointer t] w fun e w' => e = .returned (.pointer (some ⟨w.heap.size + 4, 0, none⟩)) ∧ w' = drawnW w t := by
  have hmm := @run_makeMap Tryd.prog
  go_enter Tryd.func11, Tryd.ntmps11
  go_wp2
  go_ret
  exact ⟨by simp, by simp [drawnW, mapsW]⟩

theorem below_digestsW (w : World) : Below w.heap.size w (digestsW w) := ((Below.refl _ w).alloc (Nat.le_refl _) _).alloc (by simp) _
theorem size_digestsW (w : World) : (digestsW w).heap.size = w.heap.size + 2 := by simp [digestsW]
theorem below_drawnW (w : World) (t : Option Addr) : Below w.heap.size w (drawnW w t) := ((((((Below.refl _ w).alloc (Nat.le_refl _) _).alloc (by simp) _).alloc (by simp; omega) _).alloc (by simp; omega) _).alloc (by simp; omega) _)
theorem size_drawnW (w : World) (t : Option Addr) : (drawnW w t).heap.size = w.heap.size + 5 := by simp [drawnW, mapsW]

set_option maxHeartbeats 1000000 in
/-- New of a real suite. -/
theorem newReal_any (t : Option Addr) (w : World) : Calls Tryd.prog 5 #[.int .i64 0, .pointer t] w fun e w' => e = .returned (.pointer (some ⟨w.heap.size + 2, 0, none⟩)) ∧ SuiteAt w' (w.heap.size + 2) 0 t none (some ⟨w.heap.size + 1, 0, none⟩) ∧ Row w' (w.heap.size + 1) 64 [.map (some w.heap.size), .bool false, .string ByteArray.empty, .string ByteArray.empty] ∧ MapAt Tryd.prog (38) w' w.heap.size (fun _ => none) ∧ Below w.heap.size w w' ∧ w'.heap.size = w.heap.size + 3 := by
  go_enter Tryd.func5, Tryd.ntmps5
  go_wp2_with (go_at_call 10; refine (newDigests_any _).mono ?_; rintro e w1 ⟨rfl, rfl⟩)
  go_ret
  have hs := size_digestsW w
  have hb : Below (w.heap.size + 2) (digestsW w) ((digestsW w).alloc (.cells #[.bool true, .int .i64 0, .pointer t, .pointer none, .pointer (some ⟨w.heap.size + 1, 0, none⟩)] 48)) := (Below.refl _ _).alloc (by omega) _
  refine ⟨by rw [hs]; rfl, Row.newAt _ _ _ hs, Row.below (Row.newAt _ _ _ (by simp)) hb (by omega), MapAt.below ?_ hb (by omega), (below_digestsW w).alloc (by omega) _, by simp [hs]⟩
  exact (MapAt.new Tryd.prog (38) w).below ((Below.refl _ _).alloc (Nat.le_refl _) _) (by simp)

/-- An ideal suite without an entry: all that it has is new. -/
structure FreshAt (W : World) (n S : Nat) (t : Option Addr) : Prop where
  suite : SuiteAt W S 1 t (some ⟨n + 6, 0, none⟩) (some ⟨n + 1, 0, none⟩)
  dig : Row W (n + 1) 64 [.map (some n), .bool false, .string ByteArray.empty, .string ByteArray.empty]
  first : MapAt Tryd.prog (38) W n (fun _ => none)
  drawn : Row W (n + 6) 70 [.pointer t, .map (some (n + 2)), .map (some (n + 3)), .map (some (n + 4)), .map (some (n + 5))]
  ids : MapAt Tryd.prog (9) W (n + 3) (fun _ => none)

set_option maxRecDepth 100000 in
set_option maxHeartbeats 1000000 in
/-- New of an ideal suite. -/
theorem newIdeal_any (t : Option Addr) (w : World) : Calls Tryd.prog 5 #[.int .i64 1, .pointer t] w fun e w' => e = .returned (.pointer (some ⟨w.heap.size + 7, 0, none⟩)) ∧ FreshAt w' w.heap.size (w.heap.size + 7) t ∧ Below w.heap.size w w' ∧ w'.heap.size = w.heap.size + 8 := by
  go_enter Tryd.func5, Tryd.ntmps5
  go_wp2_with (first
    | (go_at_call 10; refine (newDigests_any _).mono ?_; rintro e w1 ⟨rfl, rfl⟩)
    | (go_at_call 11; refine (newDrawn_any _ _).mono ?_; rintro e w1 ⟨rfl, rfl⟩))
  go_ret
  have hs := size_digestsW w
  have hs2 := size_drawnW (digestsW w) t
  have hsz : (drawnW (digestsW w) t).heap.size = w.heap.size + 7 := by omega
  have hb : Below (w.heap.size + 7) (drawnW (digestsW w) t) ((drawnW (digestsW w) t).alloc (.cells #[.bool true, .int .i64 1, .pointer t, .pointer (some ⟨(digestsW w).heap.size + 4, 0, none⟩), .pointer (some ⟨w.heap.size + 1, 0, none⟩)] 48)) := (Below.refl _ _).alloc (by omega) _
  refine ⟨by rw [hsz]; rfl, ⟨?_, ?_, ?_, ?_, ?_⟩, ((below_digestsW w).trans ((below_drawnW _ t).mono (by omega))).alloc (by omega) _, by simp [hsz]⟩
  · have h := Row.new (drawnW (digestsW w) t) 48 #[.bool true, .int .i64 1, .pointer t, .pointer (some ⟨(digestsW w).heap.size + 4, 0, none⟩), .pointer (some ⟨w.heap.size + 1, 0, none⟩)]
    rw [hsz] at h
    rw [hs] at h ⊢
    exact h
  · refine Row.below (b := w.heap.size + 1) (Row.below (b := w.heap.size + 1) (Row.newAt (g := w.heap.size + 1) (w.alloc (.map #[] 0)) 64 _ (by simp)) (below_drawnW _ t) (by simp)) hb (by omega)
  · refine MapAt.below (MapAt.below ?_ (below_drawnW _ t) (by rw [hs]; omega)) hb (by omega)
    exact (MapAt.new Tryd.prog (38) w).below ((Below.refl _ _).alloc (Nat.le_refl _) _) (by simp)
  · refine Row.below ?_ hb (by omega)
    have h := Row.new (mapsW (digestsW w)) 70 #[.pointer t, .map (some (digestsW w).heap.size), .map (some ((digestsW w).heap.size + 1)), .map (some ((digestsW w).heap.size + 2)), .map (some ((digestsW w).heap.size + 3))]
    have e : (mapsW (digestsW w)).heap.size = w.heap.size + 6 := by simp [mapsW, hs]
    rw [e] at h
    rw [drawnW]
    rw [hs] at h ⊢
    exact h
  · refine MapAt.below ?_ hb (by omega)
    have h := MapAt.new Tryd.prog (9) ((digestsW w).alloc (.map #[] 0))
    rw [World.size_alloc, hs] at h
    exact (((h.below ((Below.refl _ _).alloc (Nat.le_refl _) _) (by simp [hs])).below ((Below.refl _ _).alloc (Nat.le_refl _) _) (by simp [hs])).below ((Below.refl _ _).alloc (Nat.le_refl _) _) (by simp [hs]))

end Go.Proofs.YtkpjbleogjmbjaaDoor
/-
  What is asked of a suite, as cells: a key, the words beside it, a text. When two are alike; that they serve as keys of a map.
-/
namespace Go.Proofs.YtkpjbleogjmbjaaDoor
open Go.RowKit

/-- The cells of what is asked. -/
def askedL (k : List Nat) (ad : Nat) (p : ByteArray) : List Value := u8s k ++ [.int .u8 (ad : Nat), .string p]
/-- A key: 32 bytes. -/
def IsKey32 (k : List Nat) : Prop := k.length = 32 ∧ ∀ z ∈ k, z < 256
structure IsAsked (c : List Value) (k : List Nat) (ad : Nat) (p : ByteArray) : Prop where
  eq : c = askedL k ad p
  key : IsKey32 k
  ad : ad < 256
  plain : p.size ≤ maxLen

theorem mapM_some {α β : Type} {f : α → Option β} {g : α → β} : ∀ {l : List α}, (∀ x ∈ l, f x = some (g x)) → l.mapM f = some (l.map g)
  | [], _ => rfl
  | x :: l, h => by
    rw [List.mapM_cons, h x (by simp), mapM_some (fun y hy => h y (by simp [hy]))]
    rfl

theorem wfB {z : Nat} (h : z < 256) : (Lit.int .u8 (z : Int)).wf = true := WalkArith.wf_u8 (by omega)
theorem cells24 : Tryd.prog.cellsOf 24 = 32 := by kernel_rfl
theorem cells5 : Tryd.prog.cellsOf 5 = 1 := by kernel_rfl
theorem cells9 : Tryd.prog.cellsOf 9 = 1 := by kernel_rfl
theorem cells77 : Tryd.prog.cellsOf 77 = 34 := by kernel_rfl

theorem lits_byte (d : Nat) {z : Nat} (h : z < 256) : Tryd.prog.keyLits (d + 1) 5 [.int .u8 (z : Int)] = some [.int .u8 (z : Int)] := by
  have := wfB h
  simp [Program.keyLits, Tryd.underlying5, this]
theorem lits_str (d : Nat) {s : ByteArray} (h : s.size ≤ maxLen) : Tryd.prog.keyLits (d + 1) 9 [.string s] = some [.string s.data.toList] := by
  simp [Program.keyLits, Tryd.underlying9, h]
theorem lits_key (d : Nat) {k : List Nat} (h : IsKey32 k) : ∃ l, Tryd.prog.keyLits (d + 2) 24 (u8s k) = some l := by
  have hl := h.1
  refine ⟨((List.range 32).map fun i => [Lit.int .u8 (k.getD i 0 : Nat)]).flatten, ?_⟩
  rw [Program.keyLits.eq_def]
  simp only [Tryd.underlying24]
  rw [if_pos (by rw [u8s_length, cells24, hl]), cells5, mapM_some (g := fun i => [Lit.int .u8 (k.getD i 0 : Nat)])]
  · rfl
  · intro i hi
    have hi' : i < 32 := List.mem_range.1 hi
    have : ((u8s k).drop (i * 1)).take 1 = [.int .u8 ((k.getD i 0 : Nat) : Int)] := by
      rw [Nat.mul_one, List.take_one, List.head?_drop, u8s_at (by omega)]
      rfl
    rw [this]
    exact lits_byte d (getD_of_all h.2 i)

theorem lits_asked (d : Nat) {k : List Nat} {ad : Nat} {p : ByteArray} (h : IsKey32 k) (ha : ad < 256) (hp : p.size ≤ maxLen) : ∃ l, Tryd.prog.keyLits (d + 3) 77 (askedL k ad p) = some l := by
  obtain ⟨l, hl⟩ := lits_key d h
  have hk : (u8s k).length = 32 := by rw [u8s_length, h.1]
  refine ⟨[l, [.int .u8 (ad : Int)], [.string p.data.toList]].flatten, ?_⟩
  rw [Program.keyLits.eq_def]
  simp only [Tryd.underlying77]
  have e0 : ((askedL k ad p).drop 0).take 32 = u8s k := by rw [List.drop_zero, askedL, List.take_left' hk]
  have e1 : ((askedL k ad p).drop 32).take 1 = [.int .u8 (ad : Nat)] := by rw [askedL, List.drop_left' hk]; rfl
  have e2 : ((askedL k ad p).drop 33).take 1 = [.string p] := by rw [askedL, show 33 = 32 + 1 from rfl, ← List.drop_drop, List.drop_left' hk]; rfl
  rw [if_pos ⟨by rw [cells77, askedL, List.length_append, hk]; rfl, by simp⟩]
  simp only [List.mapM_cons, List.mapM_nil, cells24, cells5, cells9, e0, e1, e2, hl, lits_byte _ ha, lits_str _ hp]
  rfl

theorem wide24 : (match Tryd.prog.underlying 24 with | some (.array _ _) | some (.struct _) => true | _ => false) = true := by rw [Tryd.underlying24]
theorem wide77 : (match Tryd.prog.underlying 77 with | some (.array _ _) | some (.struct _) => true | _ => false) = true := by rw [Tryd.underlying77]
theorem deep24 : Tryd.prog.keyTypeAt 4 24 = true := by kernel_rfl
theorem deep77 : Tryd.prog.keyTypeAt 4 77 = true := by kernel_rfl
theorem keyType77 : Tryd.prog.keyType 77 = true := by kernel_rfl
theorem keyType24 : Tryd.prog.keyType 24 = true := by kernel_rfl
theorem types_size : Tryd.prog.types.size = 147 := by kernel_rfl
set_option maxRecDepth 100000 in
theorem keyed77 : Maps.Keyed Tryd.prog 77 := Maps.Keyed.of_law (deep_law_laid laidOut (m := 4) (by omega) (by rw [types_size]; decide) deep77 wide77)
set_option maxRecDepth 100000 in
theorem keyed24 : Maps.Keyed Tryd.prog 24 := Maps.Keyed.of_law (deep_law_laid laidOut (m := 4) (by omega) (by rw [types_size]; decide) deep24 wide24)

theorem formed77 {k : List Nat} {ad : Nat} {p : ByteArray} (h : IsKey32 k) : (Value.agg (askedL k ad p).toArray).formed Tryd.prog 77 = true := by
  simp [Value.formed, Tryd.underlying77, cells77, askedL, h.1]
theorem formed24 {k : List Nat} (h : IsKey32 k) : (Value.agg (u8s k).toArray).formed Tryd.prog 24 = true := by
  simp [Value.formed, Tryd.underlying24, cells24, h.1]
theorem keyOf_asked {k : List Nat} {ad : Nat} {p : ByteArray} (h : IsKey32 k) (ha : ad < 256) (hp : p.size ≤ maxLen) : ∃ kl, keyOf Tryd.prog 77 (.agg (askedL k ad p).toArray) = some kl := by
  obtain ⟨l, hl⟩ := lits_asked 145 h ha hp
  refine ⟨.string (keyBytes l), ?_⟩
  unfold keyOf
  simp only [Tryd.underlying77]
  rw [keyType77, formed77 h, types_size]
  simp [Value.cells, hl]
theorem keyOf_key {k : List Nat} (h : IsKey32 k) : ∃ kl, keyOf Tryd.prog 24 (.agg (u8s k).toArray) = some kl := by
  obtain ⟨l, hl⟩ := lits_key 146 h
  refine ⟨.string (keyBytes l), ?_⟩
  unfold keyOf
  simp only [Tryd.underlying24]
  rw [keyType24, formed24 h, types_size]
  simp [Value.cells, hl]

theorem u8s_inj : ∀ {a b : List Nat}, u8s a = u8s b → a = b
  | [], [], _ => rfl
  | [], _ :: _, h => by simp [u8s] at h
  | _ :: _, [], h => by simp [u8s] at h
  | x :: a, y :: b, h => by
    simp only [u8s, List.map_cons, List.cons.injEq, Value.int.injEq, true_and] at h
    have hx : x = y := by have := h.1; omega
    rw [hx, u8s_inj (a := a) (b := b) h.2]
theorem agg_inj {a b : List Value} (h : Value.agg a.toArray = Value.agg b.toArray) : a = b := by
  have := Value.agg.inj h
  exact congrArg Array.toList this
theorem askedL_inj {k k' : List Nat} {ad ad' : Nat} {p p' : ByteArray} (hk : k.length = k'.length) (h : askedL k ad p = askedL k' ad' p') : k = k' ∧ ad = ad' ∧ p = p' := by
  obtain ⟨h1, h2⟩ := List.append_inj h (by simp [hk])
  simp only [List.cons.injEq, Value.int.injEq, Value.string.injEq, true_and, and_true] at h2
  exact ⟨u8s_inj h1, by have := h2.1; omega, h2.2⟩

open Classical in
set_option maxRecDepth 100000 in
/-- Keys that are compared. -/
theorem equal24 {a b : List Nat} (ha : IsKey32 a) (hb : IsKey32 b) (w : World) : (Op.equalIn 10000 24 (.agg (u8s a).toArray) (.agg (u8s b).toArray)).run Tryd.prog w = .ok (decide (a = b)) w := by
  obtain ⟨la, hla⟩ := lits_key 146 ha
  obtain ⟨lb, hlb⟩ := lits_key 146 hb
  obtain ⟨r, hr, hiff⟩ := run_equalIn_deep (P := Tryd.prog) 9996 4 24 deep24 w _ _ _ _ _ _ (formed24 ha) (formed24 hb) (by simpa [Value.cells] using hla) (by simpa [Value.cells] using hlb)
  rw [hr]
  obtain ⟨ka, hka⟩ := keyOf_key ha
  obtain ⟨kb, hkb⟩ := keyOf_key hb
  congr 1
  by_cases e : a = b
  · subst e
    rw [hla] at hlb
    rw [decide_eq_true rfl]
    exact hiff.2 (Option.some.inj hlb)
  · rw [decide_eq_false e]
    cases r with
    | false => rfl
    | true =>
      exfalso
      have hl := hiff.1 rfl
      subst hl
      refine e (u8s_inj (agg_inj (keyed24.inj (l := .string (keyBytes la)) ?_ ?_)))
      · unfold keyOf; simp only [Tryd.underlying24]; rw [keyType24, formed24 ha, types_size]; simp [Value.cells, hla]
      · unfold keyOf; simp only [Tryd.underlying24]; rw [keyType24, formed24 hb, types_size]; simp [Value.cells, hlb]

open Classical in
set_option maxRecDepth 100000 in
/-- What is asked, compared. -/
theorem equal77 {a b : List Nat} {ad ad' : Nat} {p p' : ByteArray} (ha : IsKey32 a) (hb : IsKey32 b) (h1 : ad < 256) (h2 : p.size ≤ maxLen) (h3 : ad' < 256) (h4 : p'.size ≤ maxLen) (w : World) :
    (Op.equalIn 10000 77 (.agg (askedL a ad p).toArray) (.agg (askedL b ad' p').toArray)).run Tryd.prog w = .ok (decide (askedL a ad p = askedL b ad' p')) w := by
  obtain ⟨la, hla⟩ := lits_asked 145 ha h1 h2
  obtain ⟨lb, hlb⟩ := lits_asked 145 hb h3 h4
  obtain ⟨r, hr, hiff⟩ := run_equalIn_deep (P := Tryd.prog) 9996 4 77 deep77 w _ _ _ _ _ _ (formed77 ha) (formed77 hb) (by simpa [Value.cells] using hla) (by simpa [Value.cells] using hlb)
  rw [hr]
  congr 1
  by_cases e : askedL a ad p = askedL b ad' p'
  · rw [decide_eq_true e]
    rw [e, hlb] at hla
    exact hiff.2 (Option.some.inj hla).symm
  · rw [decide_eq_false e]
    cases r with
    | false => rfl
    | true =>
      exfalso
      have hl := hiff.1 rfl
      subst hl
      refine e (agg_inj (keyed77.inj (l := .string (keyBytes la)) ?_ ?_))
      · unfold keyOf; simp only [Tryd.underlying77]; rw [keyType77, formed77 ha, types_size]; simp [Value.cells, hla]
      · unfold keyOf; simp only [Tryd.underlying77]; rw [keyType77, formed77 hb, types_size]; simp [Value.cells, hlb]

end Go.Proofs.YtkpjbleogjmbjaaDoor
