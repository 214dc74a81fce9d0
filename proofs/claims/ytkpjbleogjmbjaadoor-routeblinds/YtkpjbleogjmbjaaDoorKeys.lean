/-
  What is asked of a suite, as cells: a key, the words beside it, a text. When two are alike; that they serve as keys of a map.
-/
import Derived.Test.YtkpjbleogjmbjaaDoorSuite
import Derived.Test.YtkpjbleogjmbjaaDoorArgs
import Derived.DeepKeys4
import Derived.Laws.StructEq
namespace Go.Proofs.YtkpjbleogjmbjaaDoor
open Go.RowKit

/-- The cells of what is asked. -/
def askedL (k : List Nat) (ad : Nat) (p : ByteArray) : List Value := u8s k ++ [.int .u8 (ad : Nat), .string p]
/-- A key: 32 bytes. -/
def IsKey32 (k : List Nat) : Prop := k.length = 32 ∧ ∀ z ∈ k, z < 256
structure IsAsked (c : List Value) (k : List Nat) (ad : Nat) (p : ByteArray) : Prop where
  eq : c = askedL k ad p
  key : IsKey32 k
  ad : ad < 256
  plain : p.size ≤ maxLen

theorem mapM_some {α β : Type} {f : α → Option β} {g : α → β} : ∀ {l : List α}, (∀ x ∈ l, f x = some (g x)) → l.mapM f = some (l.map g)
  | [], _ => rfl
  | x :: l, h => by
    rw [List.mapM_cons, h x (by simp), mapM_some (fun y hy => h y (by simp [hy]))]
    rfl

theorem wfB {z : Nat} (h : z < 256) : (Lit.int .u8 (z : Int)).wf = true := WalkArith.wf_u8 (by omega)
theorem cells24 : Tryd.prog.cellsOf 24 = 32 := by kernel_rfl
theorem cells5 : Tryd.prog.cellsOf 5 = 1 := by kernel_rfl
theorem cells9 : Tryd.prog.cellsOf 9 = 1 := by kernel_rfl
theorem cells77 : Tryd.prog.cellsOf 77 = 34 := by kernel_rfl

theorem lits_byte (d : Nat) {z : Nat} (h : z < 256) : Tryd.prog.keyLits (d + 1) 5 [.int .u8 (z : Int)] = some [.int .u8 (z : Int)] := by
  have := wfB h
  simp [Program.keyLits, Tryd.underlying5, this]
theorem lits_str (d : Nat) {s : ByteArray} (h : s.size ≤ maxLen) : Tryd.prog.keyLits (d + 1) 9 [.string s] = some [.string s.data.toList] := by
  simp [Program.keyLits, Tryd.underlying9, h]
theorem lits_key (d : Nat) {k : List Nat} (h : IsKey32 k) : ∃ l, Tryd.prog.keyLits (d + 2) 24 (u8s k) = some l := by
  have hl := h.1
  refine ⟨((List.range 32).map fun i => [Lit.int .u8 (k.getD i 0 : Nat)]).flatten, ?_⟩
  rw [Program.keyLits.eq_def]
  simp only [Tryd.underlying24]
  rw [if_pos (by rw [u8s_length, cells24, hl]), cells5, mapM_some (g := fun i => [Lit.int .u8 (k.getD i 0 : Nat)])]
  · rfl
  · intro i hi
    have hi' : i < 32 := List.mem_range.1 hi
    have : ((u8s k).drop (i * 1)).take 1 = [.int .u8 ((k.getD i 0 : Nat) : Int)] := by
      rw [Nat.mul_one, List.take_one, List.head?_drop, u8s_at (by omega)]
      rfl
    rw [this]
    exact lits_byte d (getD_of_all h.2 i)

theorem lits_asked (d : Nat) {k : List Nat} {ad : Nat} {p : ByteArray} (h : IsKey32 k) (ha : ad < 256) (hp : p.size ≤ maxLen) : ∃ l, Tryd.prog.keyLits (d + 3) 77 (askedL k ad p) = some l := by
  obtain ⟨l, hl⟩ := lits_key d h
  have hk : (u8s k).length = 32 := by rw [u8s_length, h.1]
  refine ⟨[l, [.int .u8 (ad : Int)], [.string p.data.toList]].flatten, ?_⟩
  rw [Program.keyLits.eq_def]
  simp only [Tryd.underlying77]
  have e0 : ((askedL k ad p).drop 0).take 32 = u8s k := by rw [List.drop_zero, askedL, List.take_left' hk]
  have e1 : ((askedL k ad p).drop 32).take 1 = [.int .u8 (ad : Nat)] := by rw [askedL, List.drop_left' hk]; rfl
  have e2 : ((askedL k ad p).drop 33).take 1 = [.string p] := by rw [askedL, show 33 = 32 + 1 from rfl, ← List.drop_drop, List.drop_left' hk]; rfl
  rw [if_pos ⟨by rw [cells77, askedL, List.length_append, hk]; rfl, by simp⟩]
  simp only [List.mapM_cons, List.mapM_nil, cells24, cells5, cells9, e0, e1, e2, hl, lits_byte _ ha, lits_str _ hp]
  rfl

theorem wide24 : (match Tryd.prog.underlying 24 with | some (.array _ _) | some (.struct _) => true | _ => false) = true := by rw [Tryd.underlying24]
theorem wide77 : (match Tryd.prog.underlying 77 with | some (.array _ _) | some (.struct _) => true | _ => false) = true := by rw [Tryd.underlying77]
theorem deep24 : Tryd.prog.keyTypeAt 4 24 = true := by kernel_rfl
theorem deep77 : Tryd.prog.keyTypeAt 4 77 = true := by kernel_rfl
theorem keyType77 : Tryd.prog.keyType 77 = true := by kernel_rfl
theorem keyType24 : Tryd.prog.keyType 24 = true := by kernel_rfl
theorem types_size : Tryd.prog.types.size = 147 := by kernel_rfl
set_option maxRecDepth 100000 in
theorem keyed77 : Maps.Keyed Tryd.prog 77 := Maps.Keyed.of_law (deep_law_laid laidOut (m := 4) (by omega) (by rw [types_size]; decide) deep77 wide77)
set_option maxRecDepth 100000 in
theorem keyed24 : Maps.Keyed Tryd.prog 24 := Maps.Keyed.of_law (deep_law_laid laidOut (m := 4) (by omega) (by rw [types_size]; decide) deep24 wide24)

theorem formed77 {k : List Nat} {ad : Nat} {p : ByteArray} (h : IsKey32 k) : (Value.agg (askedL k ad p).toArray).formed Tryd.prog 77 = true := by
  simp [Value.formed, Tryd.underlying77, cells77, askedL, h.1]
theorem formed24 {k : List Nat} (h : IsKey32 k) : (Value.agg (u8s k).toArray).formed Tryd.prog 24 = true := by
  simp [Value.formed, Tryd.underlying24, cells24, h.1]
theorem keyOf_asked {k : List Nat} {ad : Nat} {p : ByteArray} (h : IsKey32 k) (ha : ad < 256) (hp : p.size ≤ maxLen) : ∃ kl, keyOf Tryd.prog 77 (.agg (askedL k ad p).toArray) = some kl := by
  obtain ⟨l, hl⟩ := lits_asked 145 h ha hp
  refine ⟨.string (keyBytes l), ?_⟩
  unfold keyOf
  simp only [Tryd.underlying77]
  rw [keyType77, formed77 h, types_size]
  simp [Value.cells, hl]
theorem keyOf_key {k : List Nat} (h : IsKey32 k) : ∃ kl, keyOf Tryd.prog 24 (.agg (u8s k).toArray) = some kl := by
  obtain ⟨l, hl⟩ := lits_key 146 h
  refine ⟨.string (keyBytes l), ?_⟩
  unfold keyOf
  simp only [Tryd.underlying24]
  rw [keyType24, formed24 h, types_size]
  simp [Value.cells, hl]

theorem u8s_inj : ∀ {a b : List Nat}, u8s a = u8s b → a = b
  | [], [], _ => rfl
  | [], _ :: _, h => by simp [u8s] at h
  | _ :: _, [], h => by simp [u8s] at h
  | x :: a, y :: b, h => by
    simp only [u8s, List.map_cons, List.cons.injEq, Value.int.injEq, true_and] at h
    have hx : x = y := by have := h.1; omega
    rw [hx, u8s_inj (a := a) (b := b) h.2]
theorem agg_inj {a b : List Value} (h : Value.agg a.toArray = Value.agg b.toArray) : a = b := by
  have := Value.agg.inj h
  exact congrArg Array.toList this
theorem askedL_inj {k k' : List Nat} {ad ad' : Nat} {p p' : ByteArray} (hk : k.length = k'.length) (h : askedL k ad p = askedL k' ad' p') : k = k' ∧ ad = ad' ∧ p = p' := by
  obtain ⟨h1, h2⟩ := List.append_inj h (by simp [hk])
  simp only [List.cons.injEq, Value.int.injEq, Value.string.injEq, true_and, and_true] at h2
  exact ⟨u8s_inj h1, by have := h2.1; omega, h2.2⟩

open Classical in
set_option maxRecDepth 100000 in
/-- Keys that are compared. -/
theorem equal24 {a b : List Nat} (ha : IsKey32 a) (hb : IsKey32 b) (w : World) : (Op.equalIn 10000 24 (.agg (u8s a).toArray) (.agg (u8s b).toArray)).run Tryd.prog w = .ok (decide (a = b)) w := by
  obtain ⟨la, hla⟩ := lits_key 146 ha
  obtain ⟨lb, hlb⟩ := lits_key 146 hb
  obtain ⟨r, hr, hiff⟩ := run_equalIn_deep (P := Tryd.prog) 9996 4 24 deep24 w _ _ _ _ _ _ (formed24 ha) (formed24 hb) (by simpa [Value.cells] using hla) (by simpa [Value.cells] using hlb)
  rw [hr]
  obtain ⟨ka, hka⟩ := keyOf_key ha
  obtain ⟨kb, hkb⟩ := keyOf_key hb
  congr 1
  by_cases e : a = b
  · subst e
    rw [hla] at hlb
    rw [decide_eq_true rfl]
    exact hiff.2 (Option.some.inj hlb)
  · rw [decide_eq_false e]
    cases r with
    | false => rfl
    | true =>
      exfalso
      have hl := hiff.1 rfl
      subst hl
      refine e (u8s_inj (agg_inj (keyed24.inj (l := .string (keyBytes la)) ?_ ?_)))
      · unfold keyOf; simp only [Tryd.underlying24]; rw [keyType24, formed24 ha, types_size]; simp [Value.cells, hla]
      · unfold keyOf; simp only [Tryd.underlying24]; rw [keyType24, formed24 hb, types_size]; simp [Value.cells, hlb]

open Classical in
set_option maxRecDepth 100000 in
/-- What is asked, compared. -/
theorem equal77 {a b : List Nat} {ad ad' : Nat} {p p' : ByteArray} (ha : IsKey32 a) (hb : IsKey32 b) (h1 : ad < 256) (h2 : p.size ≤ maxLen) (h3 : ad' < 256) (h4 : p'.size ≤ maxLen) (w : World) :
    (Op.equalIn 10000 77 (.agg (askedL a ad p).toArray) (.agg (askedL b ad' p').toArray)).run Tryd.prog w = .ok (decide (askedL a ad p = askedL b ad' p')) w := by
  obtain ⟨la, hla⟩ := lits_asked 145 ha h1 h2
  obtain ⟨lb, hlb⟩ := lits_asked 145 hb h3 h4
  obtain ⟨r, hr, hiff⟩ := run_equalIn_deep (P := Tryd.prog) 9996 4 77 deep77 w _ _ _ _ _ _ (formed77 ha) (formed77 hb) (by simpa [Value.cells] using hla) (by simpa [Value.cells] using hlb)
  rw [hr]
  congr 1
  by_cases e : askedL a ad p = askedL b ad' p'
  · rw [decide_eq_true e]
    rw [e, hlb] at hla
    exact hiff.2 (Option.some.inj hla).symm
  · rw [decide_eq_false e]
    cases r with
    | false => rfl
    | true =>
      exfalso
      have hl := hiff.1 rfl
      subst hl
      refine e (agg_inj (keyed77.inj (l := .string (keyBytes la)) ?_ ?_))
      · unfold keyOf; simp only [Tryd.underlying77]; rw [keyType77, formed77 ha, types_size]; simp [Value.cells, hla]
      · unfold keyOf; simp only [Tryd.underlying77]; rw [keyType77, formed77 hb, types_size]; simp [Value.cells, hlb]

end Go.Proofs.YtkpjbleogjmbjaaDoor
