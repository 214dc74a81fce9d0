/-
  What an operation leaves alone that writes one block; copy into a row as such. It names no program.
-/
import Derived.Test.YtlmfdifnkkdpfaaOwn
namespace Go.Proofs.Ytlmfdifnkkdpfaa
open Go Go.RowKit

/-- All below n but block B is as it was. -/
structure But (B n : Nat) (w w' : World) : Prop where
  os : w'.os = w.os
  tape : w'.tape = w.tape
  output : w'.output = w.output
  size : w.heap.size ≤ w'.heap.size
  block : ∀ k, k < n → k ≠ B → w'.heap[k]? = w.heap[k]?
theorem But.refl (B n : Nat) (w : World) : But B n w w := ⟨rfl, rfl, rfl, Nat.le_refl _, fun _ _ _ => rfl⟩
theorem But.trans {B n : Nat} {a b c : World} (h : But B n a b) (k : But B n b c) : But B n a c := ⟨k.os.trans h.os, k.tape.trans h.tape, k.output.trans h.output, Nat.le_trans h.size k.size, fun i hi hB => (k.block i hi hB).trans (h.block i hi hB)⟩
theorem But.of_below {B n m : Nat} {w w' : World} (h : Below m w w') (hm : n ≤ m) : But B n w w' := ⟨h.os, h.tape, h.output, h.size, fun k hk _ => h.block k (by omega)⟩
theorem But.below {B n m : Nat} {w w' : World} (h : But B n w w') (hn : m ≤ n) (hB : m ≤ B) : Below m w w' := ⟨h.os, h.tape, h.output, h.size, fun k hk => h.block k (by omega) (by omega)⟩
theorem But.mono {B n m : Nat} {w w' : World} (h : But B n w w') (hn : m ≤ n) : But B m w w' := ⟨h.os, h.tape, h.output, h.size, fun k hk hB => h.block k (by omega) hB⟩
theorem But.set {B n : Nat} {w : World} (i : Nat) (v : Value) : But B n w (w.setCell ⟨B, i, none⟩ v) := by
  have h := (Below.refl 0 w).setCell (p := ⟨B, i, none⟩) (Nat.zero_le _) v
  exact ⟨h.os, h.tape, h.output, h.size, fun k _ hB => heap_setCell_other w ⟨B, i, none⟩ k v hB⟩
theorem But.sets {B n : Nat} : ∀ (vs : List Value) (o : Nat) (w : World), But B n w (w.setCells B o vs)
  | [], _, w => But.refl B n w
  | v :: r, o, _ => (But.set (i := o) (v := v)).trans (But.sets r (o + 1) _)
theorem But.drew {B n : Nat} {a w : World} (h : But B n a w) : But B n a w.drew := ⟨h.os, h.tape, h.output, h.size, h.block⟩
theorem But.row {B n b : Nat} {w w' : World} {t : TypeId} {c : List Value} (h : But B n w w') (hn : b < n) (hb : b ≠ B) (hr : Row w b t c) : Row w' b t c := (h.block b hn hb).trans hr
theorem But.alloc {B n : Nat} {a w : World} (h : But B n a w) (hn : n ≤ w.heap.size) (o : Obj) : But B n a (w.alloc o) := h.trans (But.of_below ((Below.refl _ w).alloc (Nat.le_refl _) o) hn)

/-- copy into a row: of all else nothing turns. -/
theorem wp_copy_but {P : Program} {o : Oper} {a : Act} {w : World} {K : Act → World → Prop} {Q : Exit → Act → World → Prop} (d s : Operand) (dT sT : TypeId)
    (ho : o.op = .call { callee := .builtin .copy, args := #[d, s], argTypes := #[dT, sT] }) (elem : TypeId) (hu : P.underlying dT = some (.slice elem)) (hsz : (P.info? elem).map (·.size) = some 1)
    (g off dLen dCap : Nat) (ad : Addr) (sLen sCap : Nat) (hd : a.eval d = .slice (some ⟨g, off, none⟩) dLen dCap) (hs : a.eval s = .slice (some ad) sLen sCap)
    (cur : List Value) (t : TypeId) (hg : Row w g t cur) (cs : List Value) (hn : cs.length = Nat.min sLen dLen)
    (hsrc : ∀ j v, cs[j]? = some v → w.cell? (ad.add j) = some v) (hfit : off + cs.length ≤ cur.length) (h1 : ∀ v ∈ cs, v.oneCell' = true)
    (h : ∀ w', Row w' g t (splice cur off cs) → But g w.heap.size w w' → K (a.put o.dst (goInt cs.length)) w') : Oper.wp P o a w K Q := by
  have hrun := run_copy_row (P := P) w dT sT o.type elem g off dLen dCap ad sLen sCap cur.toArray t cs hu hsz hg hn hsrc (by simpa using hfit) h1
  unfold Oper.wp
  simp [execOp, ho, resolve, invoke, builtin, hd, hs, hrun, Result.andThen]
  refine h _ ?_ ⟨rfl, rfl, rfl, by simp [World.setRow], fun k _ hk => setRow_other w g k _ hk⟩
  show _ = _
  simpa [splice] using setRow_heap w g _ _ t _ hg

/-- The cells of a slice that owns a row, for a copy. -/
theorem row_src {W : World} {n₀ k c g : Nat} {e : TypeId} {xs : List Value} (h : W.ownsRow n₀ e 1 (.slice (some ⟨g, 0, none⟩) k c) k xs) : ∀ j v, xs[j]? = some v → W.cell? ((⟨g, 0, none⟩ : Addr).add j) = some v := fun j v hv => by
  have hj : j < xs.length := by
    rcases Nat.lt_or_ge j xs.length with h | h
    · exact h
    · rw [List.getElem?_eq_none h] at hv; cases hv
  rw [Addr.add_mid, Nat.zero_add, h.cellAt j (by have := h.1; omega), hv]
end Go.Proofs.Ytlmfdifnkkdpfaa
