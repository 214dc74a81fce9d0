/-
  Laws that name no program: whole rows, read and written inside a fence; a region that draws its order in a function under the widest fence; what the rounds of a loop keep.
-/
import Derived.Test.YtlmfdifnkkdpfaaRow
import Derived.Shelf.Abstract
import Derived.Shelf.RegionOpen
import Derived.TacticsInMore
import Derived.LoopNIn
import Derived.LoopIn
import Derived.Laws.CopyOwn
namespace Go.Proofs.Ytlmfdifnkkdpfaa
open Go Go.RowKit

section
variable {F : Fence} {n : Nat} {P : Program} {ops : Array Oper} {rest : List Oper} {o : Oper} {a : Act} {w : World} {Q : Exit → Act → World → Prop} {md : Region.Mode} {S : World → Prop}

theorem wpListIn_load_Row (hgd : o.guard = none) (ty : TypeId) (x : Operand) (ho : o.op = .load ty x)
    {g : Nat} (hx : a.eval x = .pointer (some ⟨g, 0, none⟩)) {t : TypeId} {cs : List Value} (hg : Row w g t cs) {m : Nat} {e : TypeId} (hu : P.underlying ty = some (.array m e)) (hi : (P.info? ty).map (·.size) = some cs.length)
    (h : wpListIn F n P ops Q rest (a.put o.dst (.agg cs.toArray)) w) : wpListIn F n P ops Q (o :: rest) a w := by
  refine wpListIn_plain hgd fun K hK => ?_
  unfold Oper.wpIn
  refine ⟨by simp [Oper.about, ho], ?_⟩
  rw [Oper.semAt_plain F _ _ (by rw [ho]; intro c hc; cases hc)]
  simp only [execOp, ho, hx, Instr.loadAt, Instr.sureAddr, Sem.run_bind, Sem.run_pure, Result.andThen_ok, run_loadVar_mid w g 0 ty cs _ hg.range hu rfl hi]
  exact hK _ _ h

theorem wpListIn_store_Row (hgd : o.guard = none) (ty : TypeId) (x y : Operand) (ho : o.op = .store ty x y)
    {g : Nat} (vs : List Value) (hx : a.eval x = .pointer (some ⟨g, 0, none⟩)) (hy : a.eval y = .agg vs.toArray) {t : TypeId} {cs : List Value} (hg : Row w g t cs) (hi : (P.info? ty).map (·.size) = some vs.length) (hl : vs.length = cs.length) (h1 : ∀ v ∈ vs, v.oneCell' = true)
    (h : wpListIn F n P ops Q rest (a.put o.dst undef) (w.setCells g 0 vs)) : wpListIn F n P ops Q (o :: rest) a w := by
  refine wpListIn_plain hgd fun K hK => ?_
  unfold Oper.wpIn
  refine ⟨by simp [Oper.about, ho], ?_⟩
  rw [Oper.semAt_plain F _ _ (by rw [ho]; intro c hc; cases hc)]
  simp only [execOp, ho, hx, hy, Instr.storeAt, Instr.sureAddr, Sem.run_bind, Sem.run_pure, Result.andThen_ok, run_storeVar_mid w g 0 ty vs.toArray (by simpa [hl] using hg.there) (by simpa using hi) (all_oneCell_toArray h1)]
  exact hK _ _ h

theorem operIn_wide (m : Nat) (hd : ∀ c, o.op ≠ .defer c) {K : Act → World → Prop} (h : o.wp P a w K Q) : o.wpIn Fence.wide m P a w K Q := by
  unfold Oper.wpIn
  unfold Oper.wp at h
  refine ⟨fun _ _ => trivial, ?_⟩
  rw [Oper.semAt_plain _ _ _ hd]
  generalize (execOp a.eval o).run P w = r at *
  cases r with
  | ok x w' =>
    cases x with
    | value v => exact h
    | skip => exact h
    | defer d => exact h
    | enter f args => exact ⟨fun hh => by simp [Fence.wide] at hh, callsIn_wide.2 h⟩
    | row row args =>
      refine ⟨fun hh => by simp [Fence.wide] at hh, fun c cs _ => ?_⟩
      obtain ⟨v, w'', r, s⟩ := h c cs
      exact ⟨v, w'', r, stepsIn_wide.2 s⟩
    | _ => exact h.elim
  | halt x w' => cases x <;> exact h

theorem wpAnyIn_wide (m : Nat) (hd : noDefer ops = true) (hL : ¬ LetsOut Q) : ∀ (fuel : Nat) (listed : Array Bool) (a : Act) (w : World),
    wpAny P md ops Q fuel listed a w → wpAnyIn Fence.wide m P md ops Q fuel listed a w
  | 0, _, _, _, h => h
  | fuel + 1, _, _, _, h => ⟨h.1, fun i hi => by
    have h' := wpOp_mono (fun a' w' h' => wpAnyIn_wide m hd hL fuel _ a' w' h') (h.2 i hi)
    unfold wpOp at h'
    unfold wpOpIn
    cases hi' : ops[i]? with
    | none => simpa [hi'] using h'
    | some o =>
      simp only [hi'] at h' ⊢
      split at h'
      · rename_i hw
        rw [if_pos hw]
        rcases h' with h' | h'
        · exact operIn_wide m (noDefer_spec hd hi') h'
        · exact absurd h'.2 hL
      · rename_i hw
        rw [if_neg hw]
        exact ⟨fun _ _ => trivial, h'⟩⟩

/-- A region that draws its order, in a function under the widest fence: from the walk outside. -/
theorem wpIn_region_held_wide {m id : Nat} (hm : P.follows .mixedOrders = true) (hd : noDefer ops = true) (hL : ¬ LetsOut Q) (hS : S w.drew)
    (h : S w.drew → wpAnyH P .any ops Q S ops.size (Array.replicate ops.size false) a w.drew) : (Code.region id ops true).wpIn Fence.wide m P Q a w :=
  wpIn_region_any hm (wpAnyIn_wide m hd hL _ _ _ _ (wpAny_of_held _ _ _ _ (h hS)))

/-- Q where it goes on, nothing else. -/
def OnOnly (Q : Exit → Act → World → Prop) : Exit → Act → World → Prop
  | .normal, a, w => Q .normal a w
  | _, _, _ => False
theorem OnOnly.imp : ∀ (e : Exit) (a : Act) (w : World), OnOnly Q e a w → Q e a w := fun e a w h => by
  cases e <;> first | exact h | exact (h : False).elim
theorem OnOnly.on (h : Q .normal a w) : OnOnly Q .normal a w := h
theorem OnOnly.not_out : ¬ LetsOut (OnOnly Q) := fun ⟨_, _, h⟩ => h

/-- The same; what stands behind the region is asked where it goes on, and nothing else is let be. -/
theorem wpIn_region_on_wide {m id : Nat} (hm : P.follows .mixedOrders = true) (hd : noDefer ops = true) (hS : S w.drew)
    (h : S w.drew → wpAnyH P .any ops (OnOnly Q) S ops.size (Array.replicate ops.size false) a w.drew) : (Code.region id ops true).wpIn Fence.wide m P Q a w :=
  wpIn_mono (wpIn_region_held_wide hm hd OnOnly.not_out hS h) OnOnly.imp
theorem wpIn_region_on_round {l m id : Nat} (hm : P.follows .mixedOrders = true) (hd : noDefer ops = true) (hS : S w.drew)
    (h : S w.drew → wpAnyH P .any ops (OnOnly Q) S ops.size (Array.replicate ops.size false) a w.drew) : (Code.region id ops true).wpIn (Fence.wide.inRound l) m P Q a w :=
  wpIn_mono (wpIn_region_held_round hm hd OnOnly.not_out hS h) OnOnly.imp

end

/-- What the rounds of a loop keep: every row but those of M; from n₂ on every record. -/
def KpM (M : Nat → Prop) (n₂ : Nat) (A B : World) : Prop := (∀ (k : Nat) (c : Array Value) (t : TypeId) (fr : Nat × Nat), ¬ M k → A.heap[k]? = some (Obj.cells c t fr) → B.heap[k]? = some (Obj.cells c t fr)) ∧ KeepsFrom n₂ A B
theorem KpM.trans {M : Nat → Prop} {n₂ : Nat} {A B C : World} (h : KpM M n₂ A B) (k : KpM M n₂ B C) : KpM M n₂ A C :=
  ⟨fun i c t fr hi hc => k.1 i c t fr hi (h.1 i c t fr hi hc), h.2.trans k.2⟩
theorem KpM.refl {M : Nat → Prop} {n₂ : Nat} (A : World) : KpM M n₂ A A := ⟨fun _ _ _ _ _ h => h, KeepsFrom.refl _ _⟩
theorem KpM.record {M : Nat → Prop} {n₂ l : Nat} (hl : l < n₂) {A : World} {o : Obj} (o' : Obj) (ho : A.heap[l]? = some o) (hc : o.isCells = false) : KpM M n₂ A (A.putObj l o') := by
  refine ⟨fun k c t fr _ hk => ?_, by simp [World.putObj], fun k x hk hx _ => ?_⟩
  · rw [World.putObj_heap_other (fun e => by subst e; rw [hk] at ho; cases ho; cases hc)]; exact hk
  · rw [World.putObj_heap_other (by omega)]; exact hx
theorem KpM.of_below {M : Nat → Prop} {n₂ : Nat} {A B : World} (h : Below A.heap.size A B) : KpM M n₂ A B :=
  ⟨fun k _ _ _ _ hk => (h.block k (Array.getElem?_eq_some_iff.1 hk).1).trans hk, keepsFrom_of_below h⟩
theorem KpM.set {M : Nat → Prop} {n₂ : Nat} {A : World} {a : Addr} (hM : M a.block) (v : Value) : KpM M n₂ A (A.setCell a v) :=
  ⟨fun k _ _ _ hk h => (heap_setCell_other A a k v (fun e => hk (e ▸ hM))).trans h, (KeepsOthers.setCell A a v).from _⟩
theorem KpM.sets {M : Nat → Prop} {n₂ b : Nat} (hM : M b) : ∀ (vs : List Value) (o : Nat) (A : World), KpM M n₂ A (A.setCells b o vs)
  | [], _, A => KpM.refl A
  | v :: r, o, _ => (KpM.set (a := ⟨b, o, none⟩) hM v).trans (KpM.sets hM r (o + 1) _)
theorem KpM.row {M : Nat → Prop} {n₂ : Nat} {A B : World} (h : KpM M n₂ A B) {b : Nat} {t : TypeId} {c : List Value} (hb : ¬ M b) (hr : Row A b t c) : Row B b t c := h.1 b _ t _ hb hr

end Go.Proofs.Ytlmfdifnkkdpfaa
