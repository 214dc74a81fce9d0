/-
  Several texts in one: HpM, HpL, HeapL, Hp, Gate, HpS, HpU, HpD, HpP, HpA.
-/
import Derived.Test.YtfclbdlkpnoceaaKey
import Derived.Test.YtfclbdlkpnoceaaNx2
import Derived.Test.YtfclbdlkpnoceaaBaseAll
import Derived.StillTail
import Derived.Deep.MidRow
import Derived.Maps.AppendAt
/-
  The methods of *places, as they are found through heap.Interface.
-/
namespace Go.Proofs.Ytfclbdlkpnoceaa
open Go.RowKit Go.Shelf Go.Maps
attribute [local go_sem] Oper.semAt_some
theorem meth_pop (g : Nat) (w : World) : (method 245 63 (.pointer (some ⟨g, 0, none⟩)) "Pop").run Try.prog w = .ok (95, .pointer (some ⟨g, 0, none⟩)) w := by kernel_rfl
theorem meth_push (g : Nat) (w : World) : (method 245 63 (.pointer (some ⟨g, 0, none⟩)) "Push").run Try.prog w = .ok (96, .pointer (some ⟨g, 0, none⟩)) w := by kernel_rfl
theorem load67 {w : World} {g : Nat} {q : Option Addr} {n c : Nat} (h : w.cell? ⟨g, 0, none⟩ = some (.slice q n c)) : (loadVar 67 ⟨g, 0, none⟩).run Try.prog w = .ok (.slice q n c) w := by
  have := Try.underlying67
  go_simp
theorem row63 (name : String) (f : Nat) (h : (Try.prog.info? 63).map (fun i => (i.methods.find? (·.name == name)).map fun m => (m.path.toList.map (fun s => (s.struct, s.index, s.deref)), m.path.isEmpty, m.func)) = some (some ([(69, 0, true)], false, some (f, false))))
    {w : World} {g : Nat} {q : Option Addr} {n c : Nat} (hc : w.cell? ⟨g, 0, none⟩ = some (.slice q n c)) : (method 245 63 (.pointer (some ⟨g, 0, none⟩)) name).run Try.prog w = .ok (f, .slice q n c) w := by
  obtain ⟨i, hi, h1⟩ := Option.map_eq_some_iff.1 h
  obtain ⟨m, hm, h2⟩ := Option.map_eq_some_iff.1 h1
  simp only [Prod.mk.injEq] at h2
  obtain ⟨h3, h4, h5⟩ := h2
  obtain ⟨s, hs, h6⟩ : ∃ s, m.path.toList = [s] ∧ (s.struct, s.index, s.deref) = (69, 0, true) := by
    cases hp : m.path.toList with
    | nil => rw [hp] at h3; simp at h3
    | cons s r => rw [hp] at h3; cases r with
      | nil => exact ⟨s, rfl, by simpa using h3⟩
      | cons a b => simp at h3
  simp only [Prod.mk.injEq] at h6
  obtain ⟨h7, h8, h9⟩ := h6
  have u69 := run_underlying (w := w) Try.underlying69
  have u67 := run_underlying (w := w) Try.underlying67
  have hl := load67 hc
  rw [show (245 : Nat) = 244 + 1 from rfl, method]
  simp [typeInfo, hi, hm, hs, h5, follow, h7, h8, h9, u69, u67, receiverAt, Place.get, asAddr, fieldPlace]
  rw [Addr.add_mid, hl]
  rfl
theorem meth_len {w : World} {g : Nat} {q : Option Addr} {n c : Nat} (hc : w.cell? ⟨g, 0, none⟩ = some (.slice q n c)) : (method 245 63 (.pointer (some ⟨g, 0, none⟩)) "Len").run Try.prog w = .ok (30, .slice q n c) w := row63 _ _ (by kernel_rfl) hc
theorem meth_less {w : World} {g : Nat} {q : Option Addr} {n c : Nat} (hc : w.cell? ⟨g, 0, none⟩ = some (.slice q n c)) : (method 245 63 (.pointer (some ⟨g, 0, none⟩)) "Less").run Try.prog w = .ok (94, .slice q n c) w := row63 _ _ (by kernel_rfl) hc
theorem meth_swap {w : World} {g : Nat} {q : Option Addr} {n c : Nat} (hc : w.cell? ⟨g, 0, none⟩ = some (.slice q n c)) : (method 245 63 (.pointer (some ⟨g, 0, none⟩)) "Swap").run Try.prog w = .ok (98, .slice q n c) w := row63 _ _ (by kernel_rfl) hc
theorem len30_any (q : Option Addr) (n c : Nat) (w : World) : Calls Try.prog 30 #[.slice q n c] w fun e w' => e = .returned (.int .i64 n) ∧ w' = w := by
  go_enter Try.func30, Try.ntmps30
  go_wp2
  go_ret
  exact ⟨rfl, rfl⟩
end Go.Proofs.Ytfclbdlkpnoceaa
/-
  Less of a row of places.
-/
namespace Go.Proofs.Ytfclbdlkpnoceaa
open Go.RowKit Go.Shelf Go.Maps
attribute [local go_sem] Oper.semAt_some
/-- A row of numbers, as it is read. -/
def IntsAt (W : World) (g n : Nat) (f : Nat → Nat) : Prop := g < W.heap.size ∧ ∀ j, j < n → W.cell? ⟨g, j, none⟩ = some (.int .i64 (f j : Nat))
theorem IntsAt.below {A B : World} {m g n : Nat} {f : Nat → Nat} (h : IntsAt A g n f) (hb : Below m A B) (hg : g < m) : IntsAt B g n f := ⟨by have := hb.size; have := h.1; omega, fun j hj => (cell_same (hb.block g hg) _).trans (h.2 j hj)⟩
set_option maxRecDepth 100000 in
set_option maxHeartbeats 1000000 in
theorem less94_any (g n c i j : Nat) (f : Nat → Nat) (w : World) (hf : IntsAt w g n f) (hi : i < n) (hj : j < n) :
    Calls Try.prog 94 #[.slice (some ⟨g, 0, none⟩) n c, .int .i64 (i : Nat), .int .i64 (j : Nat)] w fun e w' => e = .returned (.bool (decide (f i < f j))) ∧ Below w.heap.size w w' := by
  have hii : (i : Int) < (n : Int) := by omega
  have hjj : (j : Int) < (n : Int) := by omega
  have HF : Hid (∀ W, Below w.heap.size w W → W.cell? ⟨g, i, none⟩ = some (.int .i64 (f i : Nat)) ∧ W.cell? ⟨g, j, none⟩ = some (.int .i64 (f j : Nat))) := fun W hW => ⟨(hf.below hW hf.1).2 i hi, (hf.below hW hf.1).2 j hj⟩
  go_enter Try.func94, Try.ntmps94
  go_wp2
  refine wp_region_held_drew (S := fun W => Below w.heap.size w W) (by kernel_rfl) (Below.refl _ _).drew (fun hHeld => ?_)
  refine wpAnyH_takesAt 0 9 1 (of_decide_eq_true (by kernel_rfl)) rfl (fun _ _ _ d _ h => by cases d <;> exact h) (by kernel_rfl) (by kernel_rfl) hHeld ?_
  simp only [List.drop_zero, List.take_succ_cons, List.take_zero]
  iterate 9 (refine wpHeld_step (v := ?_) (by rfl) (fun wz hSw => ?_) ?_; rotate_left; (focus (obtain ⟨hc1, hc2⟩ := HF.out wz hSw; clear hSw; go_simp; try with_reducible rfl)); (simp only [Act.put, List.setIfInBounds_toArray, List.set_cons_zero, List.set_cons_succ]))
  refine wpHeld_nil ?_
  refine wpAnyH_takesAt 9 1 0 (of_decide_eq_true (by kernel_rfl)) rfl (fun _ _ _ d _ h => by cases d <;> exact h) (by kernel_rfl) (by kernel_rfl) hHeld ?_
  simp only [List.drop_succ_cons, List.drop_zero, List.take_succ_cons, List.take_zero]
  iterate 1 (refine wpHeld_step (v := ?_) (by rfl) (fun wz hSw => ?_) ?_; rotate_left; (focus ((try dsimp only at hSw); go_simp; try with_reducible rfl)); ((simp only [Act.put]; (try simp only [List.setIfInBounds_toArray]); (try simp only [List.set_cons_succ]); (try simp only [List.set_cons_zero]))))
  refine wpHeld_nil ?_
  refine wpAnyH_done (by kernel_rfl) ?_ _
  go_wp2
  go_ret
  exact ⟨by simp, hHeld⟩
end Go.Proofs.Ytfclbdlkpnoceaa
/-
  A heap of numbers, as a function of places: the least is first; a place that sinks, a place that rises.
-/
namespace Go.Proofs.Ytfclbdlkpnoceaa

def HpF (f : Nat → Nat) (n : Nat) : Prop := ∀ j, 0 < j → j < n → f ((j - 1) / 2) ≤ f j
def swF (f : Nat → Nat) (a b : Nat) : Nat → Nat := fun k => if k = a then f b else if k = b then f a else f k
/-- A heap but for what lies below place i; a heap but for place i. -/
def DnF (f : Nat → Nat) (n i : Nat) : Prop := (∀ j, 0 < j → j < n → (j - 1) / 2 ≠ i → f ((j - 1) / 2) ≤ f j) ∧ ∀ j, 0 < j → j < n → (j - 1) / 2 = i → 0 < i → f ((i - 1) / 2) ≤ f j
def UpF (f : Nat → Nat) (n i : Nat) : Prop := (∀ j, 0 < j → j < n → j ≠ i → f ((j - 1) / 2) ≤ f j) ∧ ∀ j, 0 < j → j < n → (j - 1) / 2 = i → 0 < i → f ((i - 1) / 2) ≤ f j
theorem swF_l (f : Nat → Nat) (a b : Nat) : swF f a b a = f b := by simp [swF]
theorem swF_r (f : Nat → Nat) (a b : Nat) : swF f a b b = f a := by unfold swF; by_cases h : b = a <;> simp [h]
theorem swF_o (f : Nat → Nat) {a b k : Nat} (h1 : k ≠ a) (h2 : k ≠ b) : swF f a b k = f k := by simp [swF, h1, h2]
theorem HpF.min {f : Nat → Nat} {n : Nat} (h : HpF f n) : ∀ (j : Nat), j < n → f 0 ≤ f j := by
  intro j
  induction j using Nat.strongRecOn with
  | ind j ih =>
    intro hj
    by_cases h0 : j = 0
    · subst h0; exact Nat.le_refl _
    · exact Nat.le_trans (ih ((j - 1) / 2) (by omega) (by omega)) (h j (by omega) hj)
theorem HpF.less {f : Nat → Nat} {n m : Nat} (h : HpF f n) (hm : m ≤ n) : HpF f m := fun j h0 hj => h j h0 (by omega)
theorem DnF.leaf {f : Nat → Nat} {n i : Nat} (h : DnF f n i) (hl : n ≤ 2 * i + 1) : HpF f n := fun j h0 hj => h.1 j h0 hj (by omega)
theorem DnF.stop {f : Nat → Nat} {n i c : Nat} (h : DnF f n i) (hc : ∀ j, 0 < j → j < n → (j - 1) / 2 = i → f c ≤ f j) (hle : f i ≤ f c) : HpF f n := fun j h0 hj => by
  by_cases hp : (j - 1) / 2 = i
  · rw [hp]; exact Nat.le_trans hle (hc j h0 hj hp)
  · exact h.1 j h0 hj hp
theorem DnF.step {f : Nat → Nat} {n i c : Nat} (h : DnF f n i) (hcn : c < n) (hci : c = 2 * i + 1 ∨ c = 2 * i + 2) (hc : ∀ j, 0 < j → j < n → (j - 1) / 2 = i → f c ≤ f j) (hlt : f c < f i) : DnF (swF f i c) n c := by
  have hpc : (c - 1) / 2 = i := by omega
  refine ⟨fun j h0 hj hp => ?_, fun j h0 hj hp hc0 => ?_⟩
  · by_cases h1 : j = i
    · subst h1
      rw [swF_l, swF_o f (by omega) (by omega)]
      exact h.2 c (by omega) hcn hpc h0
    · by_cases h2 : j = c
      · subst h2
        rw [hpc, swF_l, swF_r]
        exact Nat.le_of_lt hlt
      · rw [swF_o f h1 h2]
        by_cases h3 : (j - 1) / 2 = i
        · rw [h3, swF_l]; exact hc j h0 hj h3
        · rw [swF_o f h3 hp]; exact h.1 j h0 hj h3
  · rw [hpc, swF_l, swF_o f (by omega) (by omega)]
    have := h.1 j h0 hj (by omega)
    rw [hp] at this
    exact this
theorem DnF.top {f : Nat → Nat} {n m : Nat} (h : HpF f n) (hm : m < n) : DnF (swF f 0 m) m 0 :=
  ⟨fun j h0 hj hp => by rw [swF_o f hp (by omega), swF_o f (by omega) (by omega)]; exact h j h0 (by omega), fun _ _ _ _ h => absurd h (by omega)⟩
theorem UpF.root {f : Nat → Nat} {n : Nat} (h : UpF f n 0) : HpF f n := fun j h0 hj => h.1 j h0 hj (by omega)
theorem UpF.stop {f : Nat → Nat} {n i : Nat} (h : UpF f n i) (hle : f ((i - 1) / 2) ≤ f i) : HpF f n := fun j h0 hj => by
  by_cases hp : j = i
  · rw [hp]; exact hle
  · exact h.1 j h0 hj hp
theorem UpF.step {f : Nat → Nat} {n i : Nat} (h : UpF f n i) (hi : 0 < i) (hin : i < n) (hlt : f i < f ((i - 1) / 2)) : UpF (swF f ((i - 1) / 2) i) n ((i - 1) / 2) := by
  obtain ⟨p, hp⟩ : ∃ p, (i - 1) / 2 = p := ⟨_, rfl⟩
  rw [hp] at hlt ⊢
  have hpi : p < i := by omega
  refine ⟨fun j h0 hj hne => ?_, fun j h0 hj hjp hp0 => ?_⟩
  · by_cases h1 : j = i
    · subst h1
      rw [hp, swF_l, swF_r]
      exact Nat.le_of_lt hlt
    · rw [swF_o f hne h1]
      by_cases h2 : (j - 1) / 2 = p
      · rw [h2, swF_l]
        have := h.1 j h0 hj h1
        rw [h2] at this
        omega
      · by_cases h3 : (j - 1) / 2 = i
        · rw [h3, swF_r]
          have := h.2 j h0 hj h3 hi
          rw [hp] at this
          exact this
        · rw [swF_o f h2 h3]; exact h.1 j h0 hj h1
  · have hpp := h.1 p hp0 (by omega) (by omega)
    rw [swF_o f (by omega) (by omega)]
    by_cases h1 : j = i
    · subst h1; rw [swF_r]; exact hpp
    · rw [swF_o f (by omega) h1]
      have := h.1 j h0 hj h1
      rw [hjp] at this
      omega
/-- One more, at the end: a heap but for its last place. -/
theorem UpF.last {f g : Nat → Nat} {n : Nat} (h : HpF f n) (hg : ∀ j, j < n → g j = f j) : UpF g (n + 1) n :=
  ⟨fun j h0 hj hne => by rw [hg j (by omega), hg _ (by omega)]; exact h j h0 (by omega), fun j h0 hj hp h => by omega⟩
theorem HpF.rises {f : Nat → Nat} {n : Nat} (h : ∀ i j, i ≤ j → j < n → f i ≤ f j) : HpF f n := fun j _ hj => h _ j (by omega) hj
end Go.Proofs.Ytfclbdlkpnoceaa
/-
  A heap of places in memory: a slice of numbers behind a pointer.
-/
namespace Go.Proofs.Ytfclbdlkpnoceaa
open Go.RowKit Go.Shelf Go.Maps

def ints (L : List Nat) : List Value := L.map fun z => .int .i64 (z : Nat)
theorem ints_length (L : List Nat) : (ints L).length = L.length := by simp [ints]
theorem ints_one (L : List Nat) : ∀ v ∈ ints L, v.oneCell' = true := by simp [ints, Value.oneCell']
theorem ints_at {L : List Nat} {j : Nat} (h : j < L.length) : (ints L)[j]? = some (.int .i64 (L.getD j 0 : Nat)) := by simp [ints, List.getElem?_eq_getElem h]
theorem ints_append (A B : List Nat) : ints A ++ ints B = ints (A ++ B) := by simp [ints]
theorem ints_take (L : List Nat) (n : Nat) : (ints L).take n = ints (L.take n) := by simp [ints]
/-- The list as a function. -/
def fnOf (L : List Nat) : Nat → Nat := fun j => L.getD j 0
def swL (L : List Nat) (a b : Nat) : List Nat := (L.set a (L.getD b 0)).set b (L.getD a 0)
theorem swL_length (L : List Nat) (a b : Nat) : (swL L a b).length = L.length := by simp [swL]
theorem fnOf_swL {L : List Nat} {a b : Nat} (ha : a < L.length) (hb : b < L.length) : fnOf (swL L a b) = swF (fnOf L) a b := by
  funext k
  unfold fnOf swL swF
  by_cases h1 : k = a
  · subst h1
    rw [if_pos rfl]
    by_cases h2 : b = k
    · subst h2; simp [ha]
    · simp [h2, ha]
  · rw [if_neg h1]
    by_cases h2 : k = b
    · subst h2; simp [hb]
    · rw [if_neg h2]
      simp only [List.getD_eq_getElem?_getD]
      rw [List.getElem?_set_ne (by omega), List.getElem?_set_ne (by omega)]
theorem swL_perm {L : List Nat} {a b : Nat} (ha : a < L.length) (hb : b < L.length) : (swL L a b).Perm L := by
  have h : swL L a b = (L.set a L[b]).set b L[a] := by simp [swL, ha, hb]
  rw [h]
  exact List.set_set_perm ha hb

/-- Block b holds the numbers of L, first; what stands behind is left open. -/
def RowI (c : Nat) (W : World) (b : Nat) (L : List Nat) : Prop := ∃ cur, Row W b 3 cur ∧ cur.take L.length = ints L ∧ cur.length = c
theorem RowI.lt {c : Nat} {W : World} {b : Nat} {L : List Nat} (h : RowI c W b L) : b < W.heap.size := by obtain ⟨_, h, _⟩ := h; exact h.lt
theorem RowI.below {c : Nat} {A B : World} {m b : Nat} {L : List Nat} (h : RowI c A b L) (hb : Below m A B) (hm : b < m) : RowI c B b L := by
  obtain ⟨cur, h, h2⟩ := h; exact ⟨cur, h.below hb hm, h2⟩
theorem RowI.same {c : Nat} {A B : World} {b : Nat} {L : List Nat} (h : RowI c A b L) (hb : B.heap[b]? = A.heap[b]?) : RowI c B b L := by
  obtain ⟨cur, h, h2⟩ := h; exact ⟨cur, hb.trans h, h2⟩
theorem RowI.ints {c : Nat} {W : World} {b : Nat} {L : List Nat} (h : RowI c W b L) : IntsAt W b L.length (fnOf L) := by
  obtain ⟨cur, h, h2⟩ := h
  refine ⟨h.lt, fun j hj => h.cell ?_⟩
  have := ints_at hj
  rw [← h2.1, List.getElem?_take_of_lt hj] at this
  exact this
theorem RowI.head {c : Nat} {W : World} {b n : Nat} {L : List Nat} (h : RowI c W b L) : RowI c W b (L.take n) := by
  obtain ⟨cur, h, h2⟩ := h
  refine ⟨cur, h, ?_, h2.2⟩
  rw [← ints_take, ← h2.1, List.take_take, List.length_take]
theorem take_set2 (cur : List Value) (n i : Nat) (v : Value) : (cur.set i v).take n = (cur.take n).set i v := List.take_set
theorem ints_set (L : List Nat) (i z : Nat) : (ints L).set i (.int .i64 (z : Nat)) = ints (L.set i z) := by simp [ints, List.map_set]
/-- Two stores of a swap. -/
theorem RowI.swap {c : Nat} {W : World} {b i j : Nat} {L : List Nat} (h : RowI c W b L) : RowI c ((W.setCell ⟨b, i, none⟩ (.int .i64 (L.getD j 0 : Nat))).setCell ⟨b, j, none⟩ (.int .i64 (L.getD i 0 : Nat))) b (swL L i j) := by
  obtain ⟨cur, h, h2⟩ := h
  refine ⟨_, (h.set i _).set j _, ?_, by simpa using h2.2⟩
  rw [swL_length, take_set2, take_set2, h2.1, ints_set, ints_set]
  rfl
theorem swap_but {W : World} {b i j n : Nat} (u v : Value) : But b n W ((W.setCell ⟨b, i, none⟩ u).setCell ⟨b, j, none⟩ v) := (But.set i u).trans (But.set j v)
end Go.Proofs.Ytfclbdlkpnoceaa
/-
  A law of the walk that names no program: a region that draws its order and whose operation number c (the first that writes) waits for all that read: what is read hangs on the world ahead of c alone; behind c nothing is asked of the world.
-/
namespace Go.Proofs.Ytfclbdlkpnoceaa
open Go Go.RowKit

section
variable {P : Program} {ops : Array Oper} {Q : Exit → Act → World → Prop} {md : Region.Mode} {c : Nat} {T : World → Prop}

theorem gone {b : Bool} {p : Prop} (h : b = true) : b = false → p := fun h' => by rw [h] at h'; cases h'

/-- Whatever order is picked from here on, and T holds behind every operation that is carried out ahead of c. -/
def wpAnyG (P : Program) (md : Region.Mode) (ops : Array Oper) (Q : Exit → Act → World → Prop) (c : Nat) (T : World → Prop) : Nat → Array Bool → Act → World → Prop
  | 0, listed, a, w => Region.ready md ops listed = [] ∧ Q .normal a w
  | fuel + 1, listed, a, w =>
    (Region.ready md ops listed = [] → Q .normal a w) ∧
    ∀ i ∈ Region.ready md ops listed, wpOp P ops Q i (fun a' w' => ((listed.setIfInBounds i true).getD c false = false → T w') ∧ wpAnyG P md ops Q c T fuel (listed.setIfInBounds i true) a' w') a w

theorem wpAny_of_G : ∀ (fuel : Nat) (listed : Array Bool) (a : Act) (w : World), wpAnyG P md ops Q c T fuel listed a w → wpAny P md ops Q fuel listed a w
  | 0, _, _, _, h => h
  | fuel + 1, _, _, _, h => ⟨h.1, fun i hi => wpOp_mono (fun a' w' h' => wpAny_of_G fuel _ a' w' h'.2) (h.2 i hi)⟩

theorem wpAnyG_first {i : Nat} {oi : Oper} {v : Value} (hi : ops[i]? = some oi) (hsel : ∀ (j : Nat) (o : Oper) cs b, ops[j]? = some o → o.op ≠ .select cs b)
    (hQ : ∀ c a w, Q (.panic c) (a.put oi.dst v) w → Q (.panic c) a w) (hic : i ≠ c) :
    ∀ (fuel : Nat) (listed : Array Bool) (a : Act) (w : World),
      (∀ j oj, ops[j]? = some oj → j ≠ i → listed.getD j true = false → (∀ e ∈ oj.after, Region.binds md e = true → e.on ≠ i) → oi.apart ops oj = true) →
      i ∈ Region.ready md ops listed → (Region.waitsFor md ops c i = true → listed.getD c false = false) → YieldsIf P ops (fun w => Region.waitsFor md ops c i = true → T w) oi v a → (listed.getD c false = false → T w) →
      wpAnyG P md ops Q c T fuel (listed.setIfInBounds i true) (a.put oi.dst v) w → wpAnyG P md ops Q c T (fuel + 1) listed a w := by
  intro fuel
  induction fuel with
  | zero =>
    intro listed a w _ hr hc hy hS H
    refine ⟨fun h => (by rw [h] at hr; cases hr), fun j hj => ?_⟩
    by_cases hji : j = i
    · subst hji; exact hy.wpOp hi (fun h => hS (hc h)) ⟨fun h => hS (by rwa [getD_set_ne false hic] at h), H⟩
    · have := ready_mono hj hji
      rw [H.1] at this
      cases this
  | succ fuel ih =>
    intro listed a w hfree hr hc hy hS H
    refine ⟨fun h => (by rw [h] at hr; cases hr), fun j hj => ?_⟩
    by_cases hji : j = i
    · subst hji; exact hy.wpOp hi (fun h => hS (hc h)) ⟨fun h => hS (by rwa [getD_set_ne false hic] at h), H⟩
    · have h1 := H.2 j (ready_mono hj hji)
      obtain ⟨hjun, oj, hoj, hall⟩ := mem_ready.1 hj
      have hnot : ∀ e ∈ oj.after, Region.binds md e = true → e.on ≠ i := fun e he hb heq => by
        have h1 := hall e he hb
        have h0 := (mem_ready.1 hr).1
        rw [heq] at h1
        rcases Nat.lt_or_ge i listed.size with h' | h'
        · simp [h'] at h0 h1; rw [h0] at h1; cases h1
        · simp [Array.getElem?_eq_none h'] at h1
      have h2 := wpOp_putIf hoj (hfree j oj hoj hji hjun hnot) (fun cs b => hsel i oi cs b hi) (fun cs b => hsel j oj cs b hoj) hQ hy h1
      have hfree' : ∀ k ok, ops[k]? = some ok → k ≠ i → (listed.setIfInBounds j true).getD k true = false →
          (∀ e ∈ ok.after, Region.binds md e = true → e.on ≠ i) → oi.apart ops ok = true := fun k ok hk hki hun hno => by
        refine hfree k ok hk hki ?_ hno
        by_cases hjk : j = k
        · subst hjk; exact hjun
        · rw [getD_set_ne true hjk] at hun; exact hun
      have hc' : Region.waitsFor md ops c i = true → (listed.setIfInBounds j true).getD c false = false := fun hw => by
        by_cases hjc : j = c
        · subst hjc
          obtain ⟨o', ho', e, he, hb, hon⟩ := Region.waitsFor_spec hw
          obtain rfl := Option.some.inj (hoj.symm.trans ho')
          exact absurd hon (hnot e he hb)
        · rw [getD_set_ne false hjc]; exact hc hw
      refine wpOp_mono (fun a' w' h3 => ?_) h2
      have hS' : (listed.setIfInBounds j true).getD c false = false → T w' := fun h => h3.2.1 (by rw [Array.setIfInBounds_comm _ _ (Ne.symm hji), getD_set_ne false hic]; exact h)
      refine ⟨hS', ih (listed.setIfInBounds j true) a' w' hfree' (ready_mono hr (Ne.symm hji)) hc' h3.1 hS' ?_⟩
      rw [Array.setIfInBounds_comm _ _ hji]
      exact h3.2.2

/-- The operations k, .., k + m - 1 may be taken first, one behind the other; those that c waits for only while c is still to come. -/
def takesGB (md : Region.Mode) (ops : Array Oper) (c : Nat) : Nat → Nat → Array Bool → Bool
  | 0, _, _ => true
  | m + 1, k, listed => (Region.ready md ops listed).contains k && Region.free md ops listed k && (k != c) && (!Region.waitsFor md ops c k || !listed.getD c false) && takesGB md ops c m (k + 1) (listed.setIfInBounds k true)

/-- Each operation yields its value in every world, or, where c waits for it, in every world that meets T. -/
def wpHeldG (P : Program) (md : Region.Mode) (ops : Array Oper) (c : Nat) (T : World → Prop) (K : Act → Prop) : Nat → List Oper → Act → Prop
  | _, [], a => K a
  | k, o :: rest, a => ∃ v, YieldsIf P ops (fun w => Region.waitsFor md ops c k = true → T w) o v a ∧ wpHeldG P md ops c T K (k + 1) rest (a.put o.dst v)

theorem wpHeldG_nil {K : Act → Prop} {k : Nat} {a : Act} (h : K a) : wpHeldG P md ops c T K k [] a := h
/-- .. in every world. -/
theorem wpHeldG_free {K : Act → Prop} {k : Nat} {a : Act} {o : Oper} {rest : List Oper} {v : Value} (hw : Region.wanted o (yielded ops a.tmps) = true)
    (hy : ∀ w, (execOp a.eval o).run P w = .ok (.value v) w) (h : wpHeldG P md ops c T K (k + 1) rest (a.put o.dst v)) : wpHeldG P md ops c T K k (o :: rest) a :=
  ⟨v, .inl ⟨hw, fun w _ => hy w⟩, h⟩
/-- .. in every world that meets T. -/
theorem wpHeldG_step {K : Act → Prop} {k : Nat} {a : Act} {o : Oper} {rest : List Oper} {v : Value} (hw : Region.wanted o (yielded ops a.tmps) = true) (hc : Region.waitsFor md ops c k = true)
    (hy : ∀ w, T w → (execOp a.eval o).run P w = .ok (.value v) w) (h : wpHeldG P md ops c T K (k + 1) rest (a.put o.dst v)) : wpHeldG P md ops c T K k (o :: rest) a :=
  ⟨v, .inl ⟨hw, fun w h => hy w (h hc)⟩, h⟩

theorem wpAnyG_takes (hQ : ∀ c a w d v, Q (.panic c) (Act.put a d v) w → Q (.panic c) a w) (hs : Region.noSelect ops = true) {w : World} (fuel : Nat) :
    ∀ (l : List Oper) (k : Nat) (listed : Array Bool) (a : Act), (listed.getD c false = false → T w) → (∀ j, j < l.length → l[j]? = ops[k + j]?) → takesGB md ops c l.length k listed = true →
      wpHeldG P md ops c T (fun a' => wpAnyG P md ops Q c T fuel (listedFrom l.length k listed) a' w) k l a → wpAnyG P md ops Q c T (fuel + l.length) listed a w
  | [], _, _, _, _, _, _, h => h
  | o :: l, k, listed, a, hS, hl, hB, h => by
    obtain ⟨v, hy, h⟩ := h
    have h0 : ops[k]? = some o := by simpa using (hl 0 (by simp)).symm
    simp only [List.length_cons, takesGB, Bool.and_eq_true, Bool.or_eq_true, Bool.not_eq_true', bne_iff_ne, ne_eq] at hB
    obtain ⟨⟨⟨⟨hr, hf⟩, hkc⟩, hw⟩, hB'⟩ := hB
    refine wpAnyG_first h0 (Region.noSelect_spec hs) (fun c a w => hQ c a w _ _) hkc _ listed a w (Region.free_spec h0 hf) (by simpa using hr) (fun hh => hw.resolve_left (by rw [hh]; exact Bool.noConfusion)) hy hS ?_
    exact wpAnyG_takes hQ hs fuel l (k + 1) _ _ (fun h => hS (by rwa [getD_set_ne false hkc] at h)) (fun j hj => by have := hl (j + 1) (by simp; omega); simpa [Nat.add_assoc, Nat.add_comm 1 j] using this) hB' h

/-- m operations from number k on, taken first, one behind the other. -/
theorem wpAnyG_takesAt {l : List Oper} (k m fuel : Nat) {N : Nat} {listed : Array Bool} {a : Act} {w : World} (hkm : k + m ≤ l.length) (hN : N = fuel + m) (hQ : ∀ c a w d v, Q (.panic c) (Act.put a d v) w → Q (.panic c) a w)
    (hs : Region.noSelect l.toArray = true) (hB : takesGB md l.toArray c m k listed = true) (hS : listed.getD c false = false → T w)
    (h : wpHeldG P md l.toArray c T (fun a' => wpAnyG P md l.toArray Q c T fuel (listedFrom m k listed) a' w) k ((l.drop k).take m) a) : wpAnyG P md l.toArray Q c T N listed a w := by
  have hl : ((l.drop k).take m).length = m := by simp; omega
  subst hN
  have := wpAnyG_takes (md := md) hQ hs fuel ((l.drop k).take m) k listed a hS (fun j hj => by
    rw [hl] at hj
    simp [hj]) (by rw [hl]; exact hB) (by rw [hl]; exact h)
  rwa [hl] at this

/-- Whatever order: operation i alone may come up. -/
theorem wpAnyG_only {i fuel : Nat} {listed : Array Bool} {o : Oper} {a : Act} {w : World} (hr : Region.ready md ops listed = [i]) (ho : ops[i]? = some o) (hw : Region.wanted o (yielded ops a.tmps) = true)
    (h : ∀ K' : Act → World → Prop, Hid (∀ a w, ((listed.setIfInBounds i true).getD c false = false → T w) → wpAnyG P md ops Q c T fuel (listed.setIfInBounds i true) a w → K' a w) → Oper.wp P o a w K' Q) :
    wpAnyG P md ops Q c T (fuel + 1) listed a w :=
  ⟨fun h0 => (by rw [hr] at h0; cases h0), fun j hj => by
    rw [hr] at hj
    have : j = i := by simpa using hj
    subst this
    exact wpOp_step ho (fun K' hK => by rw [if_pos hw]; exact h K' (fun a w hS hW => hK a w ⟨hS, hW⟩))⟩

theorem wpAnyG_done {listed : Array Bool} {a : Act} {w : World} (hr : Region.ready md ops listed = []) (h : Q .normal a w) :
    ∀ fuel, wpAnyG P md ops Q c T fuel listed a w
  | 0 => ⟨hr, h⟩
  | _ + 1 => ⟨fun _ => h, by rw [hr]; simp⟩

/-- The beginning: a region that draws its order. -/
theorem wp_region_gate' {id : Nat} {a : Act} {w : World} (c : Nat) (T : World → Prop) (hm : P.follows .mixedOrders = true)
    (h : wpAnyG P .any ops Q c T ops.size (Array.replicate ops.size false) a w.drew) : (Code.region id ops true).wp P Q a w :=
  wp_region_any hm (wpAny_of_G _ _ _ _ h)
/-- .. cut off: what it leaves is R. -/
theorem wp_region_gate {id : Nat} {a : Act} {w : World} (c : Nat) (T : World → Prop) (R : Act → World → Prop) (hm : P.follows .mixedOrders = true)
    (h : wpAnyG P .any ops (OnOnly fun _ a w => R a w) c T ops.size (Array.replicate ops.size false) a w.drew) (hR : ∀ a' w', R a' w' → Q .normal a' w') : (Code.region id ops true).wp P Q a w := by
  refine wp_mono (wp_region_any hm (wpAny_of_G _ _ _ _ h)) (fun e a' w' h' => ?_)
  cases e <;> first | exact hR _ _ h' | exact (h' : False).elim
/-- .. in a round. -/
theorem wpIn_region_gate_round {l m id : Nat} {a : Act} {w : World} (c : Nat) (T : World → Prop) (R : Act → World → Prop) (hm : P.follows .mixedOrders = true) (hd : noDefer ops = true)
    (h : wpAnyG P .any ops (OnOnly fun _ a w => R a w) c T ops.size (Array.replicate ops.size false) a w.drew) (hR : ∀ a' w', R a' w' → Q .normal a' w') : (Code.region id ops true).wpIn (Fence.wide.inRound l) m P Q a w := by
  refine wpIn_mono (wpIn_region_any hm (wpAnyIn_of_wpAny l m hd OnOnly.not_out _ _ _ _ (wpAny_of_G _ _ _ _ h))) (fun e a' w' h' => ?_)
  cases e <;> first | exact hR _ _ h' | exact (h' : False).elim
/-- A whole load. -/
theorem wpHeldG_loadS {K : Act → Prop} {k : Nat} {a : Act} {o : Oper} {rest : List Oper} (hw : Region.wanted o (yielded ops a.tmps) = true) (hc : Region.waitsFor md ops c k = true) (ty : TypeId) (x : Operand) (ho : o.op = .load ty x)
    (b off : Nat) (hx : a.eval x = .pointer (some ⟨b, off, none⟩)) (cs : List Value) {d : TypeDesc} (hS : ∀ w, T w → w.rangeAt b off cs) (hu : P.underlying ty = some d) (hd : d.isRow = true) (hi : (P.info? ty).map (·.size) = some cs.length)
    (h : wpHeldG P md ops c T K (k + 1) rest (a.put o.dst (.agg cs.toArray))) : wpHeldG P md ops c T K k (o :: rest) a := ⟨_, yieldsIf_load_mid hw ty x ho b off hx cs _ (fun w h => hS w (h hc)) hu hd hi, h⟩
end
end Go.Proofs.Ytfclbdlkpnoceaa
/-
  Swap of a row of places: the loads ahead of both stores.
-/
namespace Go.Proofs.Ytfclbdlkpnoceaa
open Go.RowKit Go.Shelf Go.Maps
attribute [local go_sem] Oper.semAt_some

set_option maxRecDepth 100000 in
set_option maxHeartbeats 1000000 in
theorem swap98_any (b n c i j : Nat) (L : List Nat) (w : World) (hR : RowI c w b L) (hn : L.length = n) (hi : i < n) (hj : j < n) :
    Calls Try.prog 98 #[.slice (some ⟨b, 0, none⟩) n c, .int .i64 (i : Nat), .int .i64 (j : Nat)] w fun e w' => (∃ v, e = .returned v) ∧ RowI c w' b (swL L i j) ∧ But b w.heap.size w w' ∧ w'.heap.size = w.heap.size := by
  have hii : (i : Int) < (n : Int) := by omega
  have hjj : (j : Int) < (n : Int) := by omega
  have HF : Hid (∀ W, RowI c W b L → W.cell? ⟨b, i, none⟩ = some (.int .i64 (L.getD i 0 : Nat)) ∧ W.cell? ⟨b, j, none⟩ = some (.int .i64 (L.getD j 0 : Nat)) ∧ W.frozen? ⟨b, i, none⟩ = false ∧ W.frozen? ⟨b, j, none⟩ = false) := fun W hW => by
    have h := hW.ints.2
    obtain ⟨cur, hr, _⟩ := hW
    exact ⟨h i (by omega), h j (by omega), hr.frozen i, hr.frozen j⟩
  have HRow : Hid (RowI c w b L) := hR
  have HN : Hid (L.length = n) := hn
  clear hR hn
  go_enter Try.func98, Try.ntmps98
  go_wp2
  have hHeld : RowI c w.drew b L := HRow.out
  refine wp_region_gate' 13 (fun W => RowI c W b L) (by kernel_rfl) ?_
  refine wpAnyG_takesAt 0 7 9 (of_decide_eq_true (by kernel_rfl)) rfl (fun _ _ _ d _ h => by cases d <;> exact h) (by kernel_rfl) (by kernel_rfl) (fun _ => hHeld) ?_
  simp only [List.drop_zero, List.take_succ_cons, List.take_zero]
  iterate 7 (refine wpHeldG_free (v := ?_) (by rfl) (fun wz => ?_) ?_; rotate_left; (focus (go_simp; try with_reducible rfl)); (simp only [Act.put, List.setIfInBounds_toArray, List.set_cons_zero, List.set_cons_succ]))
  refine wpHeldG_nil ?_
  refine wpAnyG_takesAt 7 1 8 (of_decide_eq_true (by kernel_rfl)) rfl (fun _ _ _ d _ h => by cases d <;> exact h) (by kernel_rfl) (by kernel_rfl) (fun _ => hHeld) ?_
  simp only [List.drop_succ_cons, List.drop_zero, List.take_succ_cons, List.take_zero]
  iterate 1 (refine wpHeldG_step (v := ?_) (by rfl) (by kernel_rfl) (fun wz hSw => ?_) ?_; rotate_left; (focus ((try (obtain ⟨hc1, hc2, hf1, hf2⟩ := HF.out wz hSw); clear hSw); go_simp; try with_reducible rfl)); ((simp only [Act.put]; (try simp only [List.setIfInBounds_toArray]); (try simp only [List.set_cons_succ]); (try simp only [List.set_cons_zero]))))
  refine wpHeldG_nil ?_
  refine wpAnyG_takesAt 8 3 5 (of_decide_eq_true (by kernel_rfl)) rfl (fun _ _ _ d _ h => by cases d <;> exact h) (by kernel_rfl) (by kernel_rfl) (fun _ => hHeld) ?_
  simp only [List.drop_succ_cons, List.drop_zero, List.take_succ_cons, List.take_zero]
  iterate 3 (refine wpHeldG_free (v := ?_) (by rfl) (fun wz => ?_) ?_; rotate_left; (focus (go_simp; try with_reducible rfl)); (simp only [Act.put, List.setIfInBounds_toArray, List.set_cons_zero, List.set_cons_succ]))
  refine wpHeldG_nil ?_
  refine wpAnyG_takesAt 11 1 4 (of_decide_eq_true (by kernel_rfl)) rfl (fun _ _ _ d _ h => by cases d <;> exact h) (by kernel_rfl) (by kernel_rfl) (fun _ => hHeld) ?_
  simp only [List.drop_succ_cons, List.drop_zero, List.take_succ_cons, List.take_zero]
  iterate 1 (refine wpHeldG_step (v := ?_) (by rfl) (by kernel_rfl) (fun wz hSw => ?_) ?_; rotate_left; (focus ((try (obtain ⟨hc1, hc2, hf1, hf2⟩ := HF.out wz hSw); clear hSw); go_simp; try with_reducible rfl)); ((simp only [Act.put]; (try simp only [List.setIfInBounds_toArray]); (try simp only [List.set_cons_succ]); (try simp only [List.set_cons_zero]))))
  refine wpHeldG_nil ?_
  refine wpAnyG_takesAt 12 1 3 (of_decide_eq_true (by kernel_rfl)) rfl (fun _ _ _ d _ h => by cases d <;> exact h) (by kernel_rfl) (by kernel_rfl) (fun _ => hHeld) ?_
  simp only [List.drop_succ_cons, List.drop_zero, List.take_succ_cons, List.take_zero]
  iterate 1 (refine wpHeldG_free (v := ?_) (by rfl) (fun wz => ?_) ?_; rotate_left; (focus (go_simp; try with_reducible rfl)); ((simp only [Act.put]; (try simp only [List.setIfInBounds_toArray]); (try simp only [List.set_cons_succ]); (try simp only [List.set_cons_zero]))))
  refine wpHeldG_nil ?_
  refine wpAnyG_only (i := 13) (by kernel_rfl) rfl (by rfl) (fun K hK => ?_)
  obtain ⟨hc1, hc2, hf1, hf2⟩ := HF.out w.drew hHeld
  go_simp
  refine hK.out _ _ (gone (by kernel_rfl)) ?_
  clear hK K
  obtain ⟨v2, hv2⟩ : ∃ v, (w.setCell ⟨b, i, none⟩ (.int .i64 (L[j]?.getD 0 : Nat))).cell? ⟨b, j, none⟩ = some v := by
    obtain ⟨cur, hr, h2⟩ := hHeld
    exact ⟨_, (hr.set i _).cell (List.getElem?_eq_getElem (by have := HN.out; have h3 := congrArg List.length h2.1; rw [List.length_take, ints_length] at h3; rw [List.length_set]; omega))⟩
  have hf3 : (w.setCell ⟨b, i, none⟩ (.int .i64 (L[j]?.getD 0 : Nat))).frozen? ⟨b, j, none⟩ = false := by
    obtain ⟨cur, hr, h2⟩ := hHeld
    exact (hr.set i _).frozen j
  refine wpAnyG_takesAt 14 1 1 (of_decide_eq_true (by kernel_rfl)) rfl (fun _ _ _ d _ h => by cases d <;> exact h) (by kernel_rfl) (by kernel_rfl) (gone (by kernel_rfl)) ?_
  simp only [List.drop_succ_cons, List.drop_zero, List.take_succ_cons, List.take_zero]
  iterate 1 (refine wpHeldG_free (v := ?_) (by rfl) (fun wz => ?_) ?_; rotate_left; (focus (go_simp; try with_reducible rfl)); ((simp only [Act.put]; (try simp only [List.setIfInBounds_toArray]); (try simp only [List.set_cons_succ]); (try simp only [List.set_cons_zero]))))
  refine wpHeldG_nil ?_
  refine wpAnyG_only (i := 15) (by kernel_rfl) rfl (by rfl) (fun K hK => ?_)
  go_simp
  refine hK.out _ _ (gone (by kernel_rfl)) ?_
  refine wpAnyG_done (by kernel_rfl) ?_ _
  go_wp2
  refine bodyPost_end (results_none rfl _ _ _) rfl ?_
  have hs := HRow.out.swap (i := i) (j := j)
  simp only [List.getD_eq_getElem?_getD] at hs
  exact ⟨⟨_, rfl⟩, hs, (swap_but _ _).drew, by simp [World.drew]⟩
end Go.Proofs.Ytfclbdlkpnoceaa
/-
  A place that rises in a heap: container/heap's up.
-/
namespace Go.Proofs.Ytfclbdlkpnoceaa
open Go.RowKit Go.Shelf Go.Maps
attribute [local go_sem] Oper.semAt_some

/-- The parent of a place, as the program reckons it. -/
theorem par_num {j : Nat} (h : 0 < j) (hj : j < 2 ^ 62) : wrap64 ((wrap64 ((j : Int) - 1)).tdiv 2) = (((j - 1) / 2 : Nat) : Int) := by
  have h1 : wrap64 ((j : Int) - 1) = ((j - 1 : Nat) : Int) := by
    rw [show (j : Int) - 1 = ((j - 1 : Nat) : Int) by omega]
    unfold wrap64; omega
  rw [h1, show (((j - 1 : Nat) : Int)).tdiv 2 = (((j - 1) / 2 : Nat) : Int) from rfl]
  unfold wrap64; omega

set_option maxRecDepth 100000 in
set_option maxHeartbeats 1000000 in
theorem up_any (g b c j : Nat) (L : List Nat) (w : World) (hc : w.cell? ⟨g, 0, none⟩ = some (.slice (some ⟨b, 0, none⟩) L.length c)) (hgb : g ≠ b) (hR : RowI c w b L) (hj : j < L.length) (hl : L.length < 2 ^ 62) (hU : UpF (fnOf L) L.length j) :
    Calls Try.prog 58 #[.iface 63 (.pointer (some ⟨g, 0, none⟩)), .int .i64 (j : Nat)] w fun e w' => (∃ v, e = .returned v) ∧ ∃ L', L'.Perm L ∧ HpF (fnOf L') L.length ∧ RowI c w' b L' ∧ But b w.heap.size w w' ∧ w.heap.size ≤ w'.heap.size := by
  have hgl : g < w.heap.size := by
    obtain ⟨_, _, _, h, _⟩ := cells_of_cell hc
    exact (Array.getElem?_eq_some_iff.1 h).1
  have HC : Hid (∀ W, But b w.heap.size w W → W.cell? ⟨g, 0, none⟩ = some (.slice (some ⟨b, 0, none⟩) L.length c)) := fun W hW => (cell_same (hW.block g hgl hgb) 0).trans hc
  have HR : Hid (RowI c w b L) := hR
  have HU : Hid (UpF (fnOf L) L.length j) := hU
  have HLl : Hid (L.length < 2 ^ 62) := hl
  generalize hn : L.length = n at *
  clear hR hc hU hl
  go_enter Try.func58, Try.ntmps58
  go_wp2
  go_loopw [1] (fun i wr => ∃ (k : Nat) (L' : List Nat), k < n ∧ i = .int .i64 k ∧ L'.length = n ∧ L'.Perm L ∧ UpF (fnOf L') n k ∧ RowI c wr b L' ∧ But b w.heap.size w wr) (fun i _ => (intOf i).toNat)
  case atStart => exact ⟨j, L, hj, rfl, hn, List.Perm.refl _, HU.out, HR.out, But.refl _ _ _⟩
  case round =>
    obtain ⟨k, L', hk, rfl, hL', hp, hu, hr, hbt⟩ := hrel
    have hm := meth_less (HC.out _ hbt)
    have hm2 := meth_swap (HC.out _ hbt)
    by_cases h0 : k = 0
    · subst h0
      go_wp2_with (first | (go_at_call 94; refine (less94_any b n c 0 0 (fnOf L') wr (by rw [← hL']; exact hr.ints) (by omega) (by omega)).mono ?_; rintro e w2 ⟨rfl, hb2⟩; (try simp only [Act.put])))
      refine bodyPost_end (results_none rfl _ _ _) rfl ?_
      exact ⟨⟨_, rfl⟩, L', hp, hu.root, hr, hbt, hbt.size⟩
    · obtain ⟨q, hq⟩ : ∃ q, (k - 1) / 2 = q := ⟨_, rfl⟩
      have hpn := par_num (j := k) (by omega) (by have := HLl.out; omega)
      rw [hq] at hpn
      have hne : ((q : Int) == (k : Int)) = false := by rw [beq_eq_false_iff_ne]; omega
      have hqn : q < n := by omega
      have hqk : q < k := by omega
      have HQ : Hid ((k - 1) / 2 = q) := hq
      clear hq
      by_cases hlt : fnOf L' k < fnOf L' q
      · have hd : decide (fnOf L' k < fnOf L' q) = true := decide_eq_true hlt
        have HLT : Hid (fnOf L' k < fnOf L' q) := hlt
        clear hlt hm2
        go_wp2_with (first
          | (go_at_call 94; refine (less94_any b n c k q (fnOf L') wr (by rw [← hL']; exact hr.ints) (by omega) (by omega)).mono ?_; rintro e w2 ⟨rfl, hb2⟩; have hbt2 := hbt.trans (But.of_below hb2 hbt.size); have hm2 := meth_swap (HC.out w2 hbt2))
          | (go_at_call 98; refine (swap98_any b n c q k L' w2 (hr.below hb2 hr.lt) hL' (by omega) (by omega)).mono ?_; rintro e w3 ⟨⟨v, rfl⟩, hr3, hb3, hs3⟩))
        go_roundw
        case rel =>
          refine ⟨q, swL L' q k, by omega, rfl, by rw [swL_length]; exact hL', (swL_perm (by omega) (by omega)).trans hp, ?_, hr3, hbt2.trans (hb3.mono hbt2.size)⟩
          rw [fnOf_swL (by omega) (by omega), ← HQ.out]
          rw [← HQ.out] at HLT
          exact hu.step (by omega) hk HLT.out
        case measure => simp [intOf]; omega
      · have hd : decide (fnOf L' k < fnOf L' q) = false := decide_eq_false hlt
        have HLT : Hid (¬ fnOf L' k < fnOf L' q) := hlt
        clear hlt hm2
        go_wp2_with (first
          | (go_at_call 94; refine (less94_any b n c k q (fnOf L') wr (by rw [← hL']; exact hr.ints) (by omega) (by omega)).mono ?_; rintro e w2 ⟨rfl, hb2⟩; have hbt2 := hbt.trans (But.of_below hb2 hbt.size)))
        refine bodyPost_end (results_none rfl _ _ _) rfl ?_
        exact ⟨⟨_, rfl⟩, L', hp, hu.stop (by rw [HQ.out]; have := HLT.out; omega), hr.below hb2 hr.lt, hbt2, hbt2.size⟩
end Go.Proofs.Ytfclbdlkpnoceaa
/-
  A place that sinks in a heap: container/heap's down.
-/
namespace Go.Proofs.Ytfclbdlkpnoceaa
open Go.RowKit Go.Shelf Go.Maps
attribute [local go_sem] Oper.semAt_some

/-- What a place that sinks leaves: the numbers of the first m are turned about. -/
structure DnPost (L L' : List Nat) (m : Nat) : Prop where
  perm : L'.Perm L
  rest : ∀ j, m ≤ j → fnOf L' j = fnOf L j
theorem DnPost.refl (L : List Nat) (m : Nat) : DnPost L L m := ⟨List.Perm.refl _, fun _ _ => rfl⟩
theorem DnPost.swap {L L' : List Nat} {m a b : Nat} (h : DnPost L L' m) (ha : a < m) (hb : b < m) (hm : m ≤ L'.length) : DnPost L (swL L' a b) m :=
  ⟨(swL_perm (by omega) (by omega)).trans h.perm, fun j hj => by rw [fnOf_swL (by omega) (by omega), swF_o _ (by omega) (by omega)]; exact h.rest j hj⟩
theorem child_num {k d p s : Nat} (hd : 2 * k = d) (hp : d + 1 = p) (hs : p + 1 = s) (h : k < 2 ^ 61) : wrap64 (2 * (k : Int)) = (d : Int) ∧ wrap64 ((d : Int) + 1) = (p : Int) ∧ wrap64 ((p : Int) + 1) = (s : Int) := by
  subst hd hp hs
  unfold wrap64
  omega

set_option maxRecDepth 100000 in
set_option maxHeartbeats 2000000 in
theorem down_any (g b c i m N : Nat) (L : List Nat) (w : World) (hc : w.cell? ⟨g, 0, none⟩ = some (.slice (some ⟨b, 0, none⟩) N c)) (hN : L.length = N) (hgb : g ≠ b) (hR : RowI c w b L) (hm : m ≤ N) (hi : i ≤ m) (hl : N < 2 ^ 60) (hU : DnF (fnOf L) m i) :
    Calls Try.prog 57 #[.iface 63 (.pointer (some ⟨g, 0, none⟩)), .int .i64 (i : Nat), .int .i64 (m : Nat)] w fun e w' => (∃ v, e = .returned v) ∧ ∃ L', DnPost L L' m ∧ HpF (fnOf L') m ∧ RowI c w' b L' ∧ But b w.heap.size w w' := by
  have hgl : g < w.heap.size := by
    obtain ⟨_, _, _, h, _⟩ := cells_of_cell hc
    exact (Array.getElem?_eq_some_iff.1 h).1
  have HC : Hid (∀ W, But b w.heap.size w W → W.cell? ⟨g, 0, none⟩ = some (.slice (some ⟨b, 0, none⟩) N c)) := fun W hW => (cell_same (hW.block g hgl hgb) 0).trans hc
  have HR : Hid (RowI c w b L) := hR
  have HU : Hid (DnF (fnOf L) m i) := hU
  have HLl : Hid (N < 2 ^ 60) := hl
  have HN : Hid (L.length = N) := hN
  clear hR hc hU hl hN
  go_enter Try.func57, Try.ntmps57
  go_wp2
  go_loopw [7] (fun x wr => ∃ (k : Nat) (L' : List Nat), k ≤ m ∧ x = .int .i64 k ∧ L'.length = N ∧ DnPost L L' m ∧ DnF (fnOf L') m k ∧ RowI c wr b L' ∧ But b w.heap.size w wr) (fun x _ => m - (intOf x).toNat)
  case atStart => exact ⟨i, L, hi, rfl, HN.out, DnPost.refl _ _, HU.out, HR.out, But.refl _ _ _⟩
  case round =>
    obtain ⟨k, L', hk, rfl, hL', hp, hu, hr, hbt⟩ := hrel
    have hm1 := meth_less (HC.out _ hbt)
    obtain ⟨d, hd⟩ : ∃ d, 2 * k = d := ⟨_, rfl⟩
    obtain ⟨p, hp1⟩ : ∃ p, d + 1 = p := ⟨_, rfl⟩
    obtain ⟨s, hs1⟩ : ∃ s, p + 1 = s := ⟨_, rfl⟩
    have hN60 := HLl.out
    obtain ⟨hw1, hw2, hw3⟩ := child_num hd hp1 hs1 (by omega)
    have HD : Hid (2 * k = d ∧ d + 1 = p ∧ p + 1 = s) := ⟨hd, hp1, hs1⟩
    have hp0 : ¬ ((p : Int) < 0) := by omega
    have HM : Hid (m ≤ N) := hm
    have HP := (show Hid (DnPost _ _ _) from hp)
    have HDn := (show Hid (DnF _ _ _) from hu)
    clear hN60 hp hu
    by_cases hpm : p < m
    · have hpmi : (p : Int) < (m : Int) := by omega
      have hpmi2 : ¬ ((m : Int) ≤ (p : Int)) := by omega
      by_cases hsm : s < m
      · have hsmi : (s : Int) < (m : Int) := by omega
        by_cases hls : fnOf L' s < fnOf L' p
        · have hd1 : decide (fnOf L' s < fnOf L' p) = true := decide_eq_true hls
          have HLT : Hid (fnOf L' s < fnOf L' p) := hls
          clear hls
          by_cases hgo : fnOf L' s < fnOf L' k
          · have hd2 : decide (fnOf L' s < fnOf L' k) = true := decide_eq_true hgo
            have HGO : Hid (fnOf L' s < fnOf L' k) := hgo
            clear hgo
            have hfirst : True := trivial
            go_wp2_with (first | (have _ := hfirst; go_at_call 94; refine (less94_any b N c s p (fnOf L') wr (by rw [← hL']; exact hr.ints) (by omega) (by omega)).mono ?_; rintro e w2 ⟨rfl, hb2⟩; have hbt2 := hbt.trans (But.of_below hb2 hbt.size); have hr2 := hr.below hb2 hr.lt; have hm2 := meth_less (HC.out w2 hbt2); clear hfirst hm1) | (go_at_call 94; refine (less94_any b N c s k (fnOf L') w2 (by rw [← hL']; exact hr2.ints) (by omega) (by omega)).mono ?_; rintro e w3 ⟨rfl, hb3⟩; have hbt3 := hbt2.trans (But.of_below hb3 hbt2.size); have hr3 := hr2.below hb3 hr2.lt; have hm3 := meth_swap (HC.out w3 hbt3)) | (go_at_call 98; refine (swap98_any b N c k s L' w3 hr3 hL' (by omega) (by omega)).mono ?_; rintro e w4 ⟨⟨v, rfl⟩, hr4, hb4, hs4⟩))
            go_roundw
            case rel => exact ⟨s, swL L' k s, by omega, rfl, by rw [swL_length]; exact hL', HP.out.swap (by omega) (by omega) (by omega), by rw [fnOf_swL (by omega) (by omega)]; exact HDn.out.step (by omega) (by obtain ⟨h1, h2, h3⟩ := HD.out; omega) (fun j h0 hj hjk => by obtain ⟨h1, h2, h3⟩ := HD.out; rcases (by omega : j = p ∨ j = s) with e | e <;> subst e <;> first | exact Nat.le_refl _ | exact Nat.le_of_lt HLT.out) HGO.out, hr4, hbt3.trans (hb4.mono hbt3.size)⟩
            case measure => simp [intOf]; omega
          · have hd2 : decide (fnOf L' s < fnOf L' k) = false := decide_eq_false hgo
            have HGO : Hid (¬ fnOf L' s < fnOf L' k) := hgo
            clear hgo
            have hfirst : True := trivial
            go_wp2_with (first | (have _ := hfirst; go_at_call 94; refine (less94_any b N c s p (fnOf L') wr (by rw [← hL']; exact hr.ints) (by omega) (by omega)).mono ?_; rintro e w2 ⟨rfl, hb2⟩; have hbt2 := hbt.trans (But.of_below hb2 hbt.size); have hr2 := hr.below hb2 hr.lt; have hm2 := meth_less (HC.out w2 hbt2); clear hfirst hm1) | (go_at_call 94; refine (less94_any b N c s k (fnOf L') w2 (by rw [← hL']; exact hr2.ints) (by omega) (by omega)).mono ?_; rintro e w3 ⟨rfl, hb3⟩; have hbt3 := hbt2.trans (But.of_below hb3 hbt2.size); have hr3 := hr2.below hb3 hr2.lt; have hm3 := meth_swap (HC.out w3 hbt3)))
            go_ret
            exact ⟨⟨_, rfl⟩, L', HP.out, HDn.out.stop (fun j h0 hj hjk => by obtain ⟨h1, h2, h3⟩ := HD.out; rcases (by omega : j = p ∨ j = s) with e | e <;> subst e <;> first | exact Nat.le_refl _ | exact Nat.le_of_lt HLT.out) (Nat.le_of_not_lt HGO.out), hr3, hbt3⟩
        · have hd1 : decide (fnOf L' s < fnOf L' p) = false := decide_eq_false hls
          have HLT : Hid (¬ fnOf L' s < fnOf L' p) := hls
          clear hls
          by_cases hgo : fnOf L' p < fnOf L' k
          · have hd2 : decide (fnOf L' p < fnOf L' k) = true := decide_eq_true hgo
            have HGO : Hid (fnOf L' p < fnOf L' k) := hgo
            clear hgo
            have hfirst : True := trivial
            go_wp2_with (first | (have _ := hfirst; go_at_call 94; refine (less94_any b N c s p (fnOf L') wr (by rw [← hL']; exact hr.ints) (by omega) (by omega)).mono ?_; rintro e w2 ⟨rfl, hb2⟩; have hbt2 := hbt.trans (But.of_below hb2 hbt.size); have hr2 := hr.below hb2 hr.lt; have hm2 := meth_less (HC.out w2 hbt2); clear hfirst hm1) | (go_at_call 94; refine (less94_any b N c p k (fnOf L') w2 (by rw [← hL']; exact hr2.ints) (by omega) (by omega)).mono ?_; rintro e w3 ⟨rfl, hb3⟩; have hbt3 := hbt2.trans (But.of_below hb3 hbt2.size); have hr3 := hr2.below hb3 hr2.lt; have hm3 := meth_swap (HC.out w3 hbt3)) | (go_at_call 98; refine (swap98_any b N c k p L' w3 hr3 hL' (by omega) (by omega)).mono ?_; rintro e w4 ⟨⟨v, rfl⟩, hr4, hb4, hs4⟩))
            go_roundw
            case rel => exact ⟨p, swL L' k p, by omega, rfl, by rw [swL_length]; exact hL', HP.out.swap (by omega) (by omega) (by omega), by rw [fnOf_swL (by omega) (by omega)]; exact HDn.out.step (by omega) (by obtain ⟨h1, h2, h3⟩ := HD.out; omega) (fun j h0 hj hjk => by obtain ⟨h1, h2, h3⟩ := HD.out; rcases (by omega : j = p ∨ j = s) with e | e <;> subst e <;> first | exact Nat.le_refl _ | exact Nat.le_of_not_lt HLT.out) HGO.out, hr4, hbt3.trans (hb4.mono hbt3.size)⟩
            case measure => simp [intOf]; omega
          · have hd2 : decide (fnOf L' p < fnOf L' k) = false := decide_eq_false hgo
            have HGO : Hid (¬ fnOf L' p < fnOf L' k) := hgo
            clear hgo
            have hfirst : True := trivial
            go_wp2_with (first | (have _ := hfirst; go_at_call 94; refine (less94_any b N c s p (fnOf L') wr (by rw [← hL']; exact hr.ints) (by omega) (by omega)).mono ?_; rintro e w2 ⟨rfl, hb2⟩; have hbt2 := hbt.trans (But.of_below hb2 hbt.size); have hr2 := hr.below hb2 hr.lt; have hm2 := meth_less (HC.out w2 hbt2); clear hfirst hm1) | (go_at_call 94; refine (less94_any b N c p k (fnOf L') w2 (by rw [← hL']; exact hr2.ints) (by omega) (by omega)).mono ?_; rintro e w3 ⟨rfl, hb3⟩; have hbt3 := hbt2.trans (But.of_below hb3 hbt2.size); have hr3 := hr2.below hb3 hr2.lt; have hm3 := meth_swap (HC.out w3 hbt3)))
            go_ret
            exact ⟨⟨_, rfl⟩, L', HP.out, HDn.out.stop (fun j h0 hj hjk => by obtain ⟨h1, h2, h3⟩ := HD.out; rcases (by omega : j = p ∨ j = s) with e | e <;> subst e <;> first | exact Nat.le_refl _ | exact Nat.le_of_not_lt HLT.out) (Nat.le_of_not_lt HGO.out), hr3, hbt3⟩
      · have hsmi : ¬ ((s : Int) < (m : Int)) := by omega
        by_cases hgo : fnOf L' p < fnOf L' k
        · have hd2 : decide (fnOf L' p < fnOf L' k) = true := decide_eq_true hgo
          have HGO : Hid (fnOf L' p < fnOf L' k) := hgo
          clear hgo
          go_wp2_with (first | (go_at_call 94; refine (less94_any b N c p k (fnOf L') wr (by rw [← hL']; exact hr.ints) (by omega) (by omega)).mono ?_; rintro e w3 ⟨rfl, hb3⟩; have hbt3 := hbt.trans (But.of_below hb3 hbt.size); have hr3 := hr.below hb3 hr.lt; have hm3 := meth_swap (HC.out w3 hbt3)) | (go_at_call 98; refine (swap98_any b N c k p L' w3 hr3 hL' (by omega) (by omega)).mono ?_; rintro e w4 ⟨⟨v, rfl⟩, hr4, hb4, hs4⟩))
          go_roundw
          case rel => exact ⟨p, swL L' k p, by omega, rfl, by rw [swL_length]; exact hL', HP.out.swap (by omega) (by omega) (by omega), by rw [fnOf_swL (by omega) (by omega)]; exact HDn.out.step (by omega) (by obtain ⟨h1, h2, h3⟩ := HD.out; omega) (fun j h0 hj hjk => by obtain ⟨h1, h2, h3⟩ := HD.out; have e : j = p := (by omega); subst e; exact Nat.le_refl _) HGO.out, hr4, hbt3.trans (hb4.mono hbt3.size)⟩
          case measure => simp [intOf]; omega
        · have hd2 : decide (fnOf L' p < fnOf L' k) = false := decide_eq_false hgo
          have HGO : Hid (¬ fnOf L' p < fnOf L' k) := hgo
          clear hgo
          go_wp2_with (first | (go_at_call 94; refine (less94_any b N c p k (fnOf L') wr (by rw [← hL']; exact hr.ints) (by omega) (by omega)).mono ?_; rintro e w3 ⟨rfl, hb3⟩; have hbt3 := hbt.trans (But.of_below hb3 hbt.size); have hr3 := hr.below hb3 hr.lt; have hm3 := meth_swap (HC.out w3 hbt3)))
          go_ret
          exact ⟨⟨_, rfl⟩, L', HP.out, HDn.out.stop (fun j h0 hj hjk => by obtain ⟨h1, h2, h3⟩ := HD.out; have e : j = p := (by omega); subst e; exact Nat.le_refl _) (Nat.le_of_not_lt HGO.out), hr3, hbt3⟩
    · have hpmi : ¬ ((p : Int) < (m : Int)) := by omega
      have hpmi2 : (m : Int) ≤ (p : Int) := by omega
      clear hd hp1 hs1
      go_wp2
      go_ret
      exact ⟨⟨_, rfl⟩, L', HP.out, HDn.out.leaf (by obtain ⟨h1, h2, h3⟩ := HD.out; omega), hr, hbt⟩
end Go.Proofs.Ytfclbdlkpnoceaa
/-
  A heap behind a pointer: what is taken out of it, what is put in.
-/
namespace Go.Proofs.Ytfclbdlkpnoceaa
open Go.RowKit Go.Shelf Go.Maps
attribute [local go_sem] Oper.semAt_some

/-- The numbers of L, in a slice that stands in block g; the slice's row is the heap's own. -/
structure HpS (W : World) (g : Nat) (q : Option Addr) (c : Nat) (L : List Nat) : Prop where
  row : Row W g 69 [.slice q L.length c]
  own : W.ownsRow (g + 1) 3 1 (.slice q L.length c) L.length (ints L)
theorem HpS.has {W : World} {g c : Nat} {q : Option Addr} {L : List Nat} (h : HpS W g q c L) (hp : 0 < L.length) : ∃ b, q = some ⟨b, 0, none⟩ ∧ g < b ∧ RowI c W b L := by
  rcases h.own.2 with ⟨_, e⟩ | ⟨b2, cap, cur, e, h1, h2, h3, h4, h5, h6⟩
  · omega
  · cases e
    exact ⟨b2, rfl, by omega, cur.toList, by simpa [Row] using h2, by simpa using h6, by simpa using h5⟩
theorem HpS.cellAt {W : World} {g c : Nat} {q : Option Addr} {L : List Nat} (h : HpS W g q c L) : W.cell? ⟨g, 0, none⟩ = some (.slice q L.length c) := h.row.cell (i := 0) rfl
/-- All is as it was but the block of the slice and its row. -/
structure HpFr (g : Nat) (v : Value) (w w' : World) : Prop where
  os : w'.os = w.os
  tape : w'.tape = w.tape
  output : w'.output = w.output
  size : w.heap.size ≤ w'.heap.size
  block : ∀ k, k < w.heap.size → k ≠ g → some k ≠ v.ownBlock → w'.heap[k]? = w.heap[k]?
theorem HpFr.refl (g : Nat) (v : Value) (w : World) : HpFr g v w w := ⟨rfl, rfl, rfl, Nat.le_refl _, fun _ _ _ _ => rfl⟩
/-- Where a new row may lie: where the old one lay, or above all. -/
def HpNew (v v' : Value) (w : World) : Prop := ∀ x, v'.ownBlock = some x → v.ownBlock = some x ∨ w.heap.size ≤ x
theorem HpFr.trans {g : Nat} {v v' : Value} {a b c : World} (h : HpFr g v a b) (k : HpFr g v' b c) (hn : HpNew v v' a) : HpFr g v a c :=
  ⟨k.os.trans h.os, k.tape.trans h.tape, k.output.trans h.output, Nat.le_trans h.size k.size, fun i hi hg hv => (k.block i (Nat.lt_of_lt_of_le hi h.size) hg (fun e => by
    rcases hn i e.symm with h1 | h1
    · exact hv h1.symm
    · omega)).trans (h.block i hi hg hv)⟩
theorem HpNew.refl (v : Value) (w : World) : HpNew v v w := fun _ h => Or.inl h
theorem HpNew.trans {v v' v'' : Value} {a b : World} (h : HpNew v v' a) (k : HpNew v' v'' b) (hs : a.heap.size ≤ b.heap.size) : HpNew v v'' a := fun x hx => by
  rcases k x hx with h1 | h1
  · exact h x h1
  · exact Or.inr (by omega)
theorem HpFr.of_but {g b n c : Nat} {w w' : World} (h : But b w.heap.size w w') : HpFr g (.slice (some ⟨b, 0, none⟩) n c) w w' :=
  ⟨h.os, h.tape, h.output, h.size, fun k hk _ hv => h.block k hk (fun e => hv (by simp [Value.ownBlock, e]))⟩
theorem HpFr.of_but_g {g : Nat} {v : Value} {w w' : World} (h : But g w.heap.size w w') : HpFr g v w w' :=
  ⟨h.os, h.tape, h.output, h.size, fun k hk hg _ => h.block k hk hg⟩
theorem HpFr.of_below {g : Nat} {v : Value} {w w' : World} (h : Below w.heap.size w w') : HpFr g v w w' :=
  ⟨h.os, h.tape, h.output, h.size, fun k hk _ _ => h.block k hk⟩
theorem HpFr.of_grown {g : Nat} {v : Value} {w w' : World} (h : w.grownBy w' v.ownBlock) : HpFr g v w w' :=
  ⟨h.os, h.tape, h.output, h.size, fun k hk _ hv => h.block k hk hv⟩
theorem HpS.later {A B : World} {g c : Nat} {q : Option Addr} {L : List Nat} (h : HpS A g q c L) (hb : Below A.heap.size A B) : HpS B g q c L := ⟨h.row.later hb, ownsRow_later hb h.own⟩
/-- The row with other numbers. -/
theorem HpS.turn {A B : World} {g b c : Nat} {L L' : List Nat} (h : HpS A g (some ⟨b, 0, none⟩) c L) (hb : But b A.heap.size A B) (hg : g ≠ b) (hl : L'.length = L.length) (hr : RowI c B b L') : HpS B g (some ⟨b, 0, none⟩) c L' := by
  refine ⟨by rw [hl]; exact hb.row h.row.lt hg h.row, ?_⟩
  rcases h.own.2 with ⟨e, _⟩ | ⟨b2, cap, cur, e, h1, h2, h3, h4, h5, h6⟩
  · cases e
  · cases e
    obtain ⟨cur2, hr2, ht2, hc2⟩ := hr
    exact ⟨by simp [ints_length], .inr ⟨b, c, cur2.toArray, by rw [hl], h1, hr2, by rw [hl]; exact h3, h4, by simp [hc2], by simpa using ht2⟩⟩
/-- The last number is let go. -/
theorem HpS.cut {A : World} {g b c n x : Nat} {L L' : List Nat} (h : HpS A g (some ⟨b, 0, none⟩) c L) (hL : L = L' ++ [x]) (hn : L'.length = n) : HpS (A.setCell ⟨g, 0, none⟩ (.slice (some ⟨b, 0, none⟩) n c)) g (some ⟨b, 0, none⟩) c L' := by
  subst hn
  refine ⟨h.row.set 0 _, ?_⟩
  rcases h.own.2 with ⟨e, _⟩ | ⟨b2, cap, cur, e, h1, h2, h3, h4, h5, h6⟩
  · cases e
  · cases e
    have hl : L.length = L'.length + 1 := by rw [hL]; simp
    refine ⟨by simp [ints_length], .inr ⟨b, c, cur, rfl, h1, ?_, by omega, h4, h5, ?_⟩⟩
    · exact (Row.other (W := A) (c := cur.toList) (by simpa [Row] using h2) (a := ⟨g, 0, none⟩) (by show b ≠ g; omega) _).trans (by simp)
    · have h7 := congrArg (List.take (L'.length * 1)) h6
      rw [List.take_take, hL] at h7
      simpa [ints, Nat.min_eq_left (Nat.le_succ L'.length)] using h7

set_option maxRecDepth 100000 in
set_option maxHeartbeats 1000000 in
theorem pop95_any (g b c n x : Nat) (L L' : List Nat) (w : World) (h : HpS w g (some ⟨b, 0, none⟩) c L) (hL : L = L' ++ [x]) (hn : L'.length = n) (hl : n < 2 ^ 60) :
    Calls Try.prog 95 #[.pointer (some ⟨g, 0, none⟩)] w fun e w' => e = .returned (.iface 3 (.int .i64 (x : Nat))) ∧ w' = w.setCell ⟨g, 0, none⟩ (.slice (some ⟨b, 0, none⟩) n c) := by
  have hlen : L.length = n + 1 := by rw [hL, ← hn]; simp
  have hc := h.cellAt
  rw [hlen] at hc
  have hf := h.row.frozen 0
  obtain ⟨b2, e, hgb, hri⟩ := h.has (by omega)
  cases e
  have hx : w.cell? ⟨b, n, none⟩ = some (.int .i64 (x : Nat)) := by
    have := hri.ints.2 n (by omega)
    rw [this, hL]
    simp [fnOf, hn]
  have hnc : n + 1 ≤ c := by
    rcases h.own.2 with ⟨e, _⟩ | ⟨_, _, _, e, _, _, h3, _⟩
    · cases e
    · cases e; omega
  have hw1 : wrap64 (((n + 1 : Nat) : Int) - 1) = (n : Int) := by unfold wrap64; omega
  have hcells : Hid (∀ v, w.setCell ⟨g, 0, none⟩ v = w.setCell ⟨g, 0, none⟩ v) := fun _ => rfl
  have hn1 : (n : Int) < ((n + 1 : Nat) : Int) := by omega
  have hn2 : (n : Int) ≤ (c : Int) := by omega
  clear h hri hL
  go_enter Try.func95, Try.ntmps95
  go_wp2_with (first
    | (go_at_call 30; refine (len30_any _ _ _ _).mono ?_; rintro e w2 ⟨rfl, rfl⟩))
  go_ret
  exact ⟨rfl, rfl⟩

theorem perm_split {L L' : List Nat} {n : Nat} (h : L'.Perm L) (hn : L.length = n + 1) : ∃ x R, L' = R ++ [x] ∧ x = fnOf L' n ∧ R.length = n ∧ ∀ j, j < n → fnOf R j = fnOf L' j := by
  have hl : L'.length = n + 1 := by rw [h.length_eq, hn]
  refine ⟨fnOf L' n, L'.take n, ?_, rfl, by simp [hl], fun j hj => ?_⟩
  · refine List.ext_getElem (by simp [hl]) (fun i h1 h2 => ?_)
    by_cases hi : i < n
    · rw [List.getElem_append_left (by simp [hl]; omega)]; simp
    · have : i = n := by omega
      subst this
      rw [List.getElem_append_right (by simp [hl])]
      simp [fnOf, hl]
  · simp [fnOf, List.getElem?_take_of_lt hj]
theorem HpF.congr {f g : Nat → Nat} {n : Nat} (h : HpF f n) (e : ∀ j, j < n → g j = f j) : HpF g n := fun j h0 hj => by rw [e j hj, e _ (by omega)]; exact h j h0 hj

/-- What Pop leaves: the least is gone. -/
structure PopPost (g c : Nat) (q : Option Addr) (L : List Nat) (w w' : World) (x : Nat) (L' : List Nat) : Prop where
  st : HpS w' g q c L'
  heap : HpF (fnOf L') L'.length
  least : x = fnOf L 0
  perm : (x :: L').Perm L
  fr : HpFr g (.slice q L.length c) w w'

set_option maxRecDepth 100000 in
set_option maxHeartbeats 1000000 in
theorem pop46_any (g c : Nat) (q : Option Addr) (L : List Nat) (w : World) (h : HpS w g q c L) (hH : HpF (fnOf L) L.length) (hp : 0 < L.length) (hl : L.length < 2 ^ 59) :
    Calls Try.prog 46 #[.iface 63 (.pointer (some ⟨g, 0, none⟩))] w fun e w' => ∃ x L', e = .returned (.iface 3 (.int .i64 (x : Nat))) ∧ PopPost g c q L w w' x L' := by
  obtain ⟨b, rfl, hgb, hri⟩ := h.has hp
  obtain ⟨n, hn⟩ : ∃ n, L.length = n + 1 := ⟨L.length - 1, by omega⟩
  have hgne : g ≠ b := by omega
  have hgl := h.row.lt
  have hcell := h.cellAt
  rw [hn] at hcell
  have hm1 := meth_len hcell
  have HC : Hid (∀ W, But b w.heap.size w W → W.cell? ⟨g, 0, none⟩ = some (.slice (some ⟨b, 0, none⟩) (n + 1 : Nat) c)) := fun W hW => (cell_same (hW.block g hgl hgne) 0).trans hcell
  have HS : Hid (HpS w g (some ⟨b, 0, none⟩) c L) := h
  have HH : Hid (HpF (fnOf L) L.length) := hH
  have HN : Hid (L.length = n + 1) := hn
  have hw1 : wrap64 (((n + 1 : Nat) : Int) - 1) = (n : Int) := by unfold wrap64; omega
  have hw2 : wrap64 (n : Int) = (n : Int) := IntWalk.wrap64_in _ (by omega)
  have HN60 : Hid (n < 2 ^ 59) := (show n < 2 ^ 59 by omega)
  have K98 : Hid (∀ W, RowI c W b L → Calls Try.prog 98 #[.slice (some ⟨b, 0, none⟩) (n + 1) c, .int .i64 0, .int .i64 (n : Nat)] W fun e w' => (∃ v, e = .returned v) ∧ RowI c w' b (swL L 0 n) ∧ But b W.heap.size W w' ∧ w'.heap.size = W.heap.size) :=
    fun W hW => swap98_any b (n + 1) c 0 n L W hW hn (by omega) (by omega)
  have K57 : Hid (∀ W, But b w.heap.size w W → RowI c W b (swL L 0 n) → Calls Try.prog 57 #[.iface 63 (.pointer (some ⟨g, 0, none⟩)), .int .i64 0, .int .i64 (n : Nat)] W fun e w' => (∃ v, e = .returned v) ∧ ∃ x R L4, L4 = R ++ [x] ∧ R.length = n ∧ x = fnOf L 0 ∧ (x :: R).Perm L ∧ HpF (fnOf R) R.length ∧ HpS w' g (some ⟨b, 0, none⟩) c L4 ∧ But b w.heap.size w w') := fun W hb hr => by
    refine (down_any g b c 0 n (n + 1) (swL L 0 n) W (HC.out W hb) (by rw [swL_length]; exact hn) hgne hr (by omega) (by omega) (by omega) (by rw [fnOf_swL (by omega) (by omega)]; exact DnF.top (by rwa [hn] at hH) (by omega))).mono ?_
    rintro e w4 ⟨hv, L4, hd4, hh4, hr4, hb4⟩
    refine ⟨hv, ?_⟩
    have hpm := hd4.perm.trans (swL_perm (L := L) (a := 0) (b := n) (by omega) (by omega))
    obtain ⟨x, R, hLR, hx, hR, hRf⟩ := perm_split hpm hn
    have hbt := hb.trans (hb4.mono hb.size)
    have hx0 : x = fnOf L 0 := by rw [hx, hd4.rest n (Nat.le_refl _), fnOf_swL (by omega) (by omega), swF_r]
    refine ⟨x, R, L4, hLR, hR, hx0, ?_, by rw [hR]; exact hh4.congr hRf, h.turn hbt hgne (by rw [hLR, hn]; simp [hR]) hr4, hbt⟩
    rw [hLR] at hpm
    exact (List.perm_append_singleton x R).symm.trans hpm
  have HRi := (show Hid (RowI _ _ _ _) from hri)
  clear hn h hH hp hl hcell hri hgb
  go_enter Try.func46, Try.ntmps46
  go_wp2_with (first
    | (have _ := hm1; go_at_call 30; refine (len30_any _ _ _ _).mono ?_; rintro e w2 ⟨rfl, rfl⟩; have hm2 := meth_swap (HC.out w2 (But.refl _ _ _)); clear hm1)
    | (go_at_call 98; refine (K98.out w2 HRi.out).mono ?_; rintro e w3 ⟨⟨v3, rfl⟩, hr3, hb3, hs3⟩)
    | (go_at_call 57; refine (K57.out w3 hb3 hr3).mono ?_; rintro e w4 ⟨⟨v4, rfl⟩, x, R, L4, hLR, hR, hx, hpm, hh4, hS4, hb4⟩; have hm4 := meth_pop g w4)
    | (go_at_call 95; refine (pop95_any g b c n x L4 R w4 hS4 hLR hR (by have := HN60.out; omega)).mono ?_; rintro e w5 ⟨rfl, rfl⟩))
  go_ret
  subst hx
  exact ⟨fnOf L 0, R, rfl, hS4.cut hLR hR, hh4, rfl, hpm, (HpFr.of_but hb4).trans (HpFr.of_but_g (But.set 0 _)) (HpNew.refl _ _)⟩
end Go.Proofs.Ytfclbdlkpnoceaa
/-
  A number put into a heap: append, and container/heap's Push.
-/
namespace Go.Proofs.Ytfclbdlkpnoceaa
open Go.RowKit Go.Shelf Go.Maps
attribute [local go_sem] Oper.semAt_some

theorem info3 : (Try.prog.info? 3).map (fun i => (i.zero, i.size, i.bytes)) = some (some (.int .i64 0), 1, 8) := by kernel_rfl
/-- One number more, behind a row of numbers that is our own. -/
theorem run_append_int (t ty : TypeId) (ht : Try.prog.underlying t = some (.slice 3)) (w : World) (base : Nat) (v : Value) (L : List Nat) (hown : w.ownsRow base 3 1 v L.length (ints L)) (x : Nat) {ad : Addr} {c : Nat} (hc : w.cell? ad = some (.int .i64 (x : Nat))) (hlen : L.length < 1000000) (hbase : base ≤ w.heap.size) :
    ∃ v' w', (Builtin.append_ #[t, t] ty #[v, .slice (some ad) 1 c]).run Try.prog w = .ok v' w' ∧ w'.ownsRow base 3 1 v' (L ++ [x]).length (ints (L ++ [x])) ∧ w.grownBy w' v.ownBlock ∧ HpNew v v' w := by
  obtain ⟨i0, hi, hz0, hz1, hz2⟩ := info_parts info3
  obtain ⟨v', w', hr, ho, hg, _, hat⟩ := run_append_own_at (P := Try.prog) w base t ty 3 i0 (.int .i64 0) 1 8 ht hi hz0 hz1 hz2 rfl (by decide) v L.length (ints L) hown ad 1 c (ints [x]) rfl
    (fun j u hu => by
      match j, hu with
      | 0, hu => simp [ints] at hu; subst hu; simpa [Addr.add] using hc) (ints_one _) (by simp only [maxLen]; omega) (by omega) hbase
  refine ⟨v', w', hr, ?_, hg, fun k hk => ?_⟩
  · rw [ints_append] at ho
    simpa using ho
  · rcases hat with h | h
    · left; rw [← h]; exact hk
    · right; rw [h] at hk; cases hk; exact Nat.le_refl _
theorem wp_append_int {o : Oper} {a : Act} {w : World} {K : Act → World → Prop} {Q : Exit → Act → World → Prop} (t : TypeId) (ht : Try.prog.underlying t = some (.slice 3)) (s x : Operand)
    (ho : o.op = .call { callee := .builtin .append, args := #[s, x], argTypes := #[t, t] })
    (base : Nat) (v : Value) (L : List Nat) (hs : a.eval s = v) (hown : w.ownsRow base 3 1 v L.length (ints L)) (z : Nat) {ad : Addr} {c : Nat} (hx : a.eval x = .slice (some ad) 1 c) (hc : w.cell? ad = some (.int .i64 (z : Nat))) (hlen : L.length < 1000000) (hbase : base ≤ w.heap.size)
    (h : ∀ v' w', w'.ownsRow base 3 1 v' (L ++ [z]).length (ints (L ++ [z])) → w.grownBy w' v.ownBlock → HpNew v v' w → K (a.put o.dst v') w') : o.wp Try.prog a w K Q := by
  obtain ⟨v', w', hr, h1, h2, h3⟩ := run_append_int t o.type ht w base v L hown z hc hlen hbase
  unfold Oper.wp execOp
  simp only [ho, resolve, invoke, builtin, Sem.run_bind, Sem.run_pure, Result.andThen_ok, List.map_toArray, List.map_cons, List.map_nil, hs, hx]
  rw [hr]
  exact h v' w' h1 h2 h3
theorem wpList_append_int {ops : Array Oper} {rest : List Oper} {o : Oper} {a : Act} {w : World} {Q : Exit → Act → World → Prop} (hgd : o.guard = none) (t : TypeId) (ht : Try.prog.underlying t = some (.slice 3)) (s x : Operand)
    (ho : o.op = .call { callee := .builtin .append, args := #[s, x], argTypes := #[t, t] })
    (base : Nat) (v : Value) (L : List Nat) (hs : a.eval s = v) (hown : w.ownsRow base 3 1 v L.length (ints L)) (z : Nat) {ad : Addr} {c : Nat} (hx : a.eval x = .slice (some ad) 1 c) (hc : w.cell? ad = some (.int .i64 (z : Nat))) (hlen : L.length < 1000000) (hbase : base ≤ w.heap.size)
    (h : ∀ v' w', w'.ownsRow base 3 1 v' (L ++ [z]).length (ints (L ++ [z])) → w.grownBy w' v.ownBlock → HpNew v v' w → wpList Try.prog ops Q rest (a.put o.dst v') w') : wpList Try.prog ops Q (o :: rest) a w :=
  wpList_plain hgd fun _ hK => wp_append_int t ht s x ho base v L hs hown z hx hc hlen hbase fun v' w' h1 h2 h3 => hK _ _ (h v' w' h1 h2 h3)

/-- What is laid into the slice's cell behind an append. -/
theorem HpS.put {A B : World} {g c c2 : Nat} {q q2 : Option Addr} {L L2 : List Nat} (h : HpS A g q c L) (hg : A.grownBy B (Value.slice q L.length c).ownBlock) (ho : B.ownsRow (g + 1) 3 1 (.slice q2 L2.length c2) L2.length (ints L2)) : HpS (B.setCell ⟨g, 0, none⟩ (.slice q2 L2.length c2)) g q2 c2 L2 := by
  have hrow : Row B g 69 [.slice q L.length c] := (hg.block g h.row.lt (fun e => by
    have := (World.ownsRow.lt h.own g e.symm).1
    omega)).trans h.row
  refine ⟨hrow.set 0 _, ?_⟩
  rcases ho.2 with ⟨e1, e2⟩ | ⟨b2, cap, cur, e, h1, h2, h3, h4, h5, h6⟩
  · exact ⟨ho.1, .inl ⟨e1, e2⟩⟩
  · cases e
    exact ⟨ho.1, .inr ⟨b2, _, cur, rfl, h1, (Row.other (W := B) (c := cur.toList) (by simpa [Row] using h2) (a := ⟨g, 0, none⟩) (by show b2 ≠ g; omega) _).trans (by simp), h3, h4, h5, h6⟩⟩

set_option maxRecDepth 100000 in
set_option maxHeartbeats 1000000 in
theorem push96_any (g c x : Nat) (q : Option Addr) (L : List Nat) (w : World) (h : HpS w g q c L) (hl : L.length < 1000000) :
    Calls Try.prog 96 #[.pointer (some ⟨g, 0, none⟩), .iface 3 (.int .i64 (x : Nat))] w fun e w' => (∃ v, e = .returned v) ∧ ∃ q2 c2, HpS w' g q2 c2 (L ++ [x]) ∧ HpFr g (.slice q L.length c) w w' ∧ HpNew (.slice q L.length c) (.slice q2 (L ++ [x]).length c2) w := by
  have HS : Hid (HpS w g q c L) := h
  have HL : Hid (L.length < 1000000) := hl
  clear h hl
  go_enter Try.func96, Try.ntmps96
  go_wp2
  have hHeld : HpS w.drew g q c L := ⟨HS.out.row.drew, HS.out.own⟩
  refine wp_region_gate' 8 (fun W => HpS W g q c L) (by kernel_rfl) ?_
  refine wpAnyG_takesAt 0 4 8 (of_decide_eq_true (by kernel_rfl)) rfl (fun _ _ _ d _ h => by cases d <;> exact h) (by kernel_rfl) (by kernel_rfl) (fun _ => hHeld) ?_
  simp only [List.drop_zero, List.take_succ_cons, List.take_zero]
  iterate 4 (refine wpHeldG_free (v := ?_) (by rfl) (fun wz => ?_) ?_; rotate_left; (focus (go_simp; try with_reducible rfl)); (simp only [Act.put, List.setIfInBounds_toArray, List.set_cons_zero, List.set_cons_succ]))
  refine wpHeldG_nil ?_
  refine wpAnyG_takesAt 4 1 7 (of_decide_eq_true (by kernel_rfl)) rfl (fun _ _ _ d _ h => by cases d <;> exact h) (by kernel_rfl) (by kernel_rfl) (fun _ => hHeld) ?_
  simp only [List.drop_succ_cons, List.drop_zero, List.take_succ_cons, List.take_zero]
  iterate 1 (refine wpHeldG_step (v := ?_) (by rfl) (by kernel_rfl) (fun wz hSw => ?_) ?_; rotate_left; (focus ((have hcc := hSw.cellAt; clear hSw); go_simp; try with_reducible rfl)); ((simp only [Act.put]; (try simp only [List.setIfInBounds_toArray]); (try simp only [List.set_cons_succ]); (try simp only [List.set_cons_zero]))))
  refine wpHeldG_nil ?_
  refine wpAnyG_takesAt 5 1 6 (of_decide_eq_true (by kernel_rfl)) rfl (fun _ _ _ d _ h => by cases d <;> exact h) (by kernel_rfl) (by kernel_rfl) (fun _ => hHeld) ?_
  simp only [List.drop_succ_cons, List.drop_zero, List.take_succ_cons, List.take_zero]
  iterate 1 (refine wpHeldG_free (v := ?_) (by rfl) (fun wz => ?_) ?_; rotate_left; (focus (go_simp; try with_reducible rfl)); ((simp only [Act.put]; (try simp only [List.setIfInBounds_toArray]); (try simp only [List.set_cons_succ]); (try simp only [List.set_cons_zero]))))
  refine wpHeldG_nil ?_
  refine wpAnyG_takesAt 6 1 5 (of_decide_eq_true (by kernel_rfl)) rfl (fun _ _ _ d _ h => by cases d <;> exact h) (by kernel_rfl) (by kernel_rfl) (fun _ => hHeld) ?_
  simp only [List.drop_succ_cons, List.drop_zero, List.take_succ_cons, List.take_zero]
  refine wpHeldG_free (v := .int .i64 (x : Nat)) (by rfl) (fun wz => by kernel_rfl) ?_
  simp only [Act.put, List.setIfInBounds_toArray, List.set_cons_zero, List.set_cons_succ]
  refine wpHeldG_nil ?_
  refine wpAnyG_only (i := 7) (by kernel_rfl) rfl (by rfl) (fun K hK => ?_)
  go_simp
  have hW : HpS (w.alloc (.cells #[.int .i64 (x : Nat)] 3)).drew g q c L := HpS.later (A := w) HS.out ((Below.refl _ w).alloc (Nat.le_refl _) _).drew
  have hcx : (w.alloc (.cells #[.int .i64 (x : Nat)] 3)).drew.cell? ⟨w.heap.size, 0, none⟩ = some (.int .i64 (x : Nat)) := (Row.new w 3 #[.int .i64 (x : Nat)]).cell (i := 0) rfl
  have hb1 : Below w.heap.size w (w.alloc (.cells #[.int .i64 (x : Nat)] 3)).drew := ((Below.refl _ w).alloc (Nat.le_refl _) _).drew
  refine hK.out _ _ (fun _ => hW) ?_
  clear hK K hHeld
  generalize (w.alloc (.cells #[.int .i64 (x : Nat)] 3)).drew = w1 at *
  have hgl := hW.row.lt
  refine wpAnyG_only (i := 8) (by kernel_rfl) rfl (by rfl) (fun K hK => ?_)
  refine wp_append_int 67 Try.underlying67 (.tmp 8) (.tmp 11) (by rfl) (g + 1) (.slice q L.length c) L (by rfl) hW.own x (by rfl) hcx HL.out (by omega) (fun v2 w2 ho hg hn => ?_)
  refine hK.out _ _ (gone (by kernel_rfl)) ?_
  clear hK K
  obtain ⟨q2, c2, rfl⟩ := slice_of_row ho
  have hS2 := hW.put hg ho
  have hfr : HpFr g (.slice q L.length c) w w2 := (HpFr.of_below hb1).trans (HpFr.of_grown hg) (HpNew.refl _ _)
  have hnw : HpNew (.slice q L.length c) (.slice q2 (L ++ [x]).length c2) w := fun k hk => (hn k hk).imp id (fun h => by have := hb1.size; omega)
  simp only [Act.put]
  try simp only [List.setIfInBounds_toArray]
  try simp only [List.set_cons_succ]
  try simp only [List.set_cons_zero]
  refine wpAnyG_takesAt 9 2 1 (of_decide_eq_true (by kernel_rfl)) rfl (fun _ _ _ d _ h => by cases d <;> exact h) (by kernel_rfl) (by kernel_rfl) (gone (by kernel_rfl)) ?_
  simp only [List.drop_succ_cons, List.drop_zero, List.take_succ_cons, List.take_zero]
  iterate 2 (refine wpHeldG_free (v := ?_) (by rfl) (fun wz => ?_) ?_; rotate_left; (focus (go_simp; try with_reducible rfl)); ((simp only [Act.put]; (try simp only [List.setIfInBounds_toArray]); (try simp only [List.set_cons_succ]); (try simp only [List.set_cons_zero]))))
  refine wpHeldG_nil ?_
  refine wpAnyG_only (i := 11) (by kernel_rfl) rfl (by rfl) (fun K hK => ?_)
  obtain ⟨vc, hvc⟩ : ∃ v, w2.cell? ⟨g, 0, none⟩ = some v := by
    refine ⟨_, (cell_same (hg.block g hgl (fun e => ?_)) 0).trans hW.cellAt⟩
    have := (World.ownsRow.lt hW.own g e.symm).1
    omega
  have hvf : w2.frozen? ⟨g, 0, none⟩ = false := by
    have hrow : Row w2 g 69 [.slice q L.length c] := (hg.block g hgl (fun e => by
      have := (World.ownsRow.lt hW.own g e.symm).1
      omega)).trans hW.row
    exact hrow.frozen 0
  go_simp
  refine hK.out _ _ (gone (by kernel_rfl)) ?_
  refine wpAnyG_done (by kernel_rfl) ?_ _
  go_wp2
  refine bodyPost_end (results_none rfl _ _ _) rfl ?_
  have hll : (L ++ [x]).length = L.length + 1 := by simp
  rw [hll] at hS2
  exact ⟨⟨_, rfl⟩, q2, c2, hS2, hfr.trans (HpFr.of_but_g (But.set 0 _)) (HpNew.refl _ _), hnw⟩

/-- What Push leaves. -/
structure PushPost (g c : Nat) (q : Option Addr) (L X : List Nat) (w w' : World) (q2 : Option Addr) (c2 : Nat) (L2 : List Nat) : Prop where
  st : HpS w' g q2 c2 L2
  heap : HpF (fnOf L2) L2.length
  perm : L2.Perm (L ++ X)
  fr : HpFr g (.slice q L.length c) w w'
  new : HpNew (.slice q L.length c) (.slice q2 L2.length c2) w
theorem fnOf_app (L X : List Nat) {j : Nat} (h : j < L.length) : fnOf (L ++ X) j = fnOf L j := by simp [fnOf, List.getElem?_append_left h]

set_option maxRecDepth 100000 in
set_option maxHeartbeats 1000000 in
theorem push47_any (g c x : Nat) (q : Option Addr) (L : List Nat) (w : World) (h : HpS w g q c L) (hH : HpF (fnOf L) L.length) (hl : L.length < 1000000) :
    Calls Try.prog 47 #[.iface 63 (.pointer (some ⟨g, 0, none⟩)), .iface 3 (.int .i64 (x : Nat))] w fun e w' => (∃ v, e = .returned v) ∧ ∃ q2 c2 L2, PushPost g c q L [x] w w' q2 c2 L2 := by
  obtain ⟨n, hn⟩ : ∃ n, L.length = n := ⟨_, rfl⟩
  have hw2 : wrap64 (n : Int) = (n : Int) := IntWalk.wrap64_in _ (by omega)
  have hm1 := meth_push g w
  have HS : Hid (HpS w g q c L) := h
  have HL : Hid (L.length < 1000000) := hl
  have HN : Hid (L.length = n) := hn
  have HH : Hid (HpF (fnOf L) L.length) := hH
  clear h hH hl hn
  go_enter Try.func47, Try.ntmps47
  go_wp2_with (first
    | (go_at_call 96; refine (push96_any g c x q L w HS.out HL.out).mono ?_; rintro e w2 ⟨⟨v2, rfl⟩, q2, c2, hS2, hF2, hN2⟩; obtain ⟨b2, rfl, hgb, hri⟩ := hS2.has (by simp); have hc2 := hS2.cellAt; rw [show (L ++ [x]).length = n + 1 by rw [List.length_append, HN.out]; rfl] at hc2; have hm2 := meth_len hc2)
    | (have _ := hm2; go_at_call 30; refine (len30_any _ _ _ _).mono ?_; rintro e w3 ⟨rfl, rfl⟩; clear hm2)
    | (go_at_call 58; refine (up_any g b2 c2 n (L ++ [x]) w3 (by rw [show (L ++ [x]).length = n + 1 by rw [List.length_append, HN.out]; rfl]; exact hc2) (by omega) hri (by rw [List.length_append, HN.out]; simp) (by rw [List.length_append]; have := HL.out; simp; omega) (by rw [List.length_append, HN.out]; exact UpF.last (by have := HH.out; rwa [HN.out] at this) (fun j hj => fnOf_app L [x] (by rw [HN.out]; exact hj)))).mono ?_; rintro e w4 ⟨⟨v4, rfl⟩, L4, hp4, hh4, hr4, hb4, hs4⟩))
  refine bodyPost_end (results_none rfl _ _ _) rfl ?_
  have hl4 := hp4.length_eq
  exact ⟨⟨_, rfl⟩, _, c2, L4, ⟨hS2.turn hb4 (by omega) hl4 hr4, by rw [hl4]; exact hh4, hp4, hF2.trans (HpFr.of_but hb4) hN2, by rw [hl4]; exact hN2⟩⟩

theorem wpList_assert3 {ops : Array Oper} {rest : List Oper} {o : Oper} {a : Act} {w : World} {Q : Exit → Act → World → Prop} (hgd : o.guard = none) (x : Operand) (ho : o.op = Op.typeAssert x 20 3 false) {z : Int} (hx : a.eval x = .iface 3 (.int .i64 z))
    (h : wpList Try.prog ops Q rest (a.put o.dst (.int .i64 z)) w) : wpList Try.prog ops Q (o :: rest) a w := by
  refine wpList_plain hgd fun K hK => ?_
  have hr : (Instr.typeAssert (.iface 3 (.int .i64 z)) 20 3 false).run Try.prog w = .ok (.int .i64 z) w := by kernel_rfl
  unfold Oper.wp execOp
  simp only [ho, Sem.run_bind, Sem.run_pure, Result.andThen_ok, hx, hr]
  exact hK _ _ h
set_option maxRecDepth 100000 in
set_option maxHeartbeats 1000000 in
theorem first31_any (g c : Nat) (q : Option Addr) (L : List Nat) (w : World) (h : HpS w g q c L) (hH : HpF (fnOf L) L.length) (hp : 0 < L.length) (hl : L.length < 2 ^ 59) :
    Calls Try.prog 31 #[.pointer (some ⟨g, 0, none⟩)] w fun e w' => ∃ x L', e = .returned (.int .i64 (x : Nat)) ∧ PopPost g c q L w w' x L' := by
  have HK : Hid (∀ (_ : True), Calls Try.prog 46 #[.iface 63 (.pointer (some ⟨g, 0, none⟩))] w fun e w' => ∃ x L', e = .returned (.iface 3 (.int .i64 (x : Nat))) ∧ PopPost g c q L w w' x L') := fun _ => pop46_any g c q L w h hH hp hl
  clear h hH hp hl
  go_enter Try.func31, Try.ntmps31
  go_wp2_with (first
    | (go_at_call 46; refine (HK.out trivial).mono ?_; rintro e w2 ⟨x, L2, rfl, hP⟩)
    | ((with_reducible show wpList _ _ _ (Oper.mk _ (Op.typeAssert _ _ _ _) _ _ _ _ :: _) _ _); refine wpList_assert3 rfl (.tmp 5) rfl rfl ?_; simp only [Act.put, List.setIfInBounds_toArray, List.set_cons_zero, List.set_cons_succ]))
  go_ret
  exact ⟨x, L2, rfl, hP⟩

theorem PushPost.trans {g c c2 c3 : Nat} {q q2 q3 : Option Addr} {L X Y L2 L3 : List Nat} {a b d : World} (h : PushPost g c q L X a b q2 c2 L2) (k : PushPost g c2 q2 L2 Y b d q3 c3 L3) : PushPost g c q L (X ++ Y) a d q3 c3 L3 :=
  ⟨k.st, k.heap, (k.perm.trans (h.perm.append_right Y)).trans (by rw [List.append_assoc]), h.fr.trans k.fr h.new, h.new.trans k.new h.fr.size⟩

set_option maxRecDepth 100000 in
set_option maxHeartbeats 1000000 in
/-- Numbers, from a row that is not the heap's. -/
theorem more32_any (g c : Nat) (q : Option Addr) (L : List Nat) (w : World) (h : HpS w g q c L) (hH : HpF (fnOf L) L.length) (p : Option Addr) (n k : Nat) (X : List Nat) (hX : X.length = n) (hr : 0 < n → ∃ b, p = some ⟨b, 0, none⟩ ∧ b ≠ g ∧ some b ≠ (Value.slice q L.length c).ownBlock ∧ IntsAt w b n (fnOf X)) (hl : L.length + n < 1000000) :
    Calls Try.prog 32 #[.pointer (some ⟨g, 0, none⟩), .slice p n k] w fun e w' => (∃ v, e = .returned v) ∧ ∃ q2 c2 L2, PushPost g c q L X w w' q2 c2 L2 := by
  have HR : Hid (0 < n → ∃ b, p = some ⟨b, 0, none⟩ ∧ b ≠ g ∧ some b ≠ (Value.slice q L.length c).ownBlock ∧ IntsAt w b n (fnOf X)) := hr
  have HL : Hid (L.length + n < 1000000) := hl
  have HX : Hid (X.length = n) := hX
  have H0 : Hid (PushPost g c q L [] w w q c L) := ⟨h, hH, by simp, HpFr.refl _ _ _, HpNew.refl _ _⟩
  clear h hH hr hl hX
  go_enter Try.func32, Try.ntmps32
  go_wp2
  go_loopw [8] (fun i wr => ∃ (j : Nat) (q2 : Option Addr) (c2 : Nat) (L2 : List Nat), j ≤ n ∧ i = .int .i64 j ∧ PushPost g c q L (X.take j) w wr q2 c2 L2) (fun i _ => n - (intOf i).toNat)
  case atStart => exact ⟨0, q, c, L, Nat.zero_le _, rfl, by simpa using H0.out⟩
  case round =>
    obtain ⟨j, q2, c2, L2, hj, rfl, hP⟩ := hrel
    by_cases hlt : j < n
    · obtain ⟨b, rfl, hbg, hbv, hI⟩ := HR.out (by omega)
      have hij : (j : Int) < (n : Int) := by omega
      have hcx : wr.cell? ⟨b, j, none⟩ = some (.int .i64 (fnOf X j : Nat)) := (cell_same (hP.fr.block b hI.1 hbg hbv) _).trans (hI.2 j hlt)
      have HT : Hid (X.take (j + 1) = X.take j ++ [fnOf X j]) := by
        have hjx : j < X.length := by rw [HX.out]; exact hlt
        show _ = _
        rw [List.take_succ_eq_append_getElem hjx]
        simp [fnOf, hjx]
      have hl2 : L2.length < 1000000 := by
        rw [hP.perm.length_eq, List.length_append, List.length_take]
        have := HL.out
        omega
      have HP := (show Hid (PushPost _ _ _ _ _ _ _ _ _ _) from hP)
      have HI := (show Hid (IntsAt _ _ _ _) from hI)
      have hn6 : n < 1000000 := by have := HL.out; omega
      have HL2 := (show Hid (L2.length < 1000000) from hl2)
      clear hP hI hl2 hbv hbg
      generalize fnOf X j = x at *
      go_wp2_with (first
        | (go_at_call 47; refine (push47_any g c2 x q2 L2 wr HP.out.st HP.out.heap HL2.out).mono ?_; rintro e w4 ⟨⟨v4, rfl⟩, q4, c4, L4, hP4⟩))
      go_roundw
      case rel => exact ⟨j + 1, q4, c4, L4, by omega, by go_num, by rw [HT.out]; exact HP.out.trans hP4⟩
      case measure => simp [intOf]; omega
    · obtain rfl : j = n := by omega
      rw [List.take_of_length_le (by rw [HX.out]; exact Nat.le_refl _)] at hP
      go_wp2
      refine bodyPost_end (results_none rfl _ _ _) rfl ?_
      exact ⟨⟨_, rfl⟩, q2, c2, L2, hP⟩
end Go.Proofs.Ytfclbdlkpnoceaa
