/-
  slices.Index over what was asked: the first place of what is looked for, or -1. Nothing that lay before the call has turned.
-/
import Derived.Test.YtobmcaknfbooiaaDoorKnown
import Derived.Test.YtobmcaknfbooiaaDoorHeld
namespace Go.Proofs.YtobmcaknfbooiaaDoor
open Go.RowKit Go.Shelf

/-- A whole struct's load, in a drawn region. -/
theorem wpHeld_loadS {P : Program} {ops : Array Oper} {S : World → Prop} {K : Act → Prop} {a : Act} {o : Oper} {rest : List Oper} (hw : Region.wanted o (yielded ops a.tmps) = true) (ty : TypeId) (x : Operand) (ho : o.op = .load ty x)
    (b off : Nat) (hx : a.eval x = .pointer (some ⟨b, off, none⟩)) (cs : List Value) {d : TypeDesc} (hS : ∀ w, S w → w.rangeAt b off cs) (hu : P.underlying ty = some d) (hd : d.isRow = true) (hi : (P.info? ty).map (·.size) = some cs.length)
    (h : wpHeld P ops S K rest (a.put o.dst (.agg cs.toArray))) : wpHeld P ops S K (o :: rest) a := ⟨_, yieldsIf_load_mid hw ty x ho b off hx cs _ hS hu hd hi, h⟩

/-- What was asked, one behind the other. -/
def AskedAll (xs : List (List Value)) : Prop := ∀ c ∈ xs, ∃ k ad p, IsAsked c k ad p
theorem IsAsked.len {c : List Value} {k : List Nat} {ad p : ByteArray} (h : IsAsked c k ad p) : c.length = 34 := by
  rw [h.eq, askedL, List.length_append, u8s_length, h.key.1]; rfl
theorem AskedAll.len {xs : List (List Value)} (h : AskedAll xs) : ∀ c ∈ xs, c.length = 34 := fun c hc => by
  obtain ⟨k, ad, p, h⟩ := h c hc
  exact h.len
open Classical in
theorem equal_asked {a b : List Value} {k k' : List Nat} {ad ad' p p' : ByteArray} (ha : IsAsked a k ad p) (hb : IsAsked b k' ad' p') (w : World) : (Op.equalIn 10000 72 (.agg a.toArray) (.agg b.toArray)).run Tryd.prog w = .ok (decide (a = b)) w := by
  rw [ha.eq, hb.eq]
  exact equal72 ha.key hb.key ha.ad ha.plain hb.ad hb.plain w

theorem flatten_length {xs : List (List Value)} (h : ∀ c ∈ xs, c.length = 34) : xs.flatten.length = xs.length * 34 := by
  induction xs with
  | nil => rfl
  | cons c xs ih =>
    rw [List.flatten_cons, List.length_append, h c (by simp), ih (fun d hd => h d (by simp [hd])), List.length_cons]
    omega
theorem flatten_at {xs : List (List Value)} (h : ∀ c ∈ xs, c.length = 34) {j : Nat} {c : List Value} (hj : xs[j]? = some c) : (xs.flatten.drop (j * 34)).take 34 = c := by
  induction xs generalizing j with
  | nil => simp at hj
  | cons d xs ih =>
    have hd := h d (by simp)
    cases j with
    | zero =>
      simp at hj
      subst hj
      rw [List.flatten_cons, Nat.zero_mul, List.drop_zero, List.take_left' hd]
    | succ j =>
      simp at hj
      rw [List.flatten_cons, show (j + 1) * 34 = 34 + j * 34 by omega, ← List.drop_drop, List.drop_left' hd]
      exact ih (fun e he => h e (by simp [he])) hj

/-- Slices of what was asked, that own their row. -/
def AskOwn (W : World) (v : Value) (xs : List (List Value)) : Prop := W.ownsRow 0 72 34 v xs.length xs.flatten
/-- Their cells. -/
theorem AskOwn.range {W : World} {q : Option Addr} {len cap : Nat} {xs : List (List Value)} (h : AskOwn W (.slice q len cap) xs) (hx : AskedAll xs) {j : Nat} {c : List Value} (hj : xs[j]? = some c) :
    len = xs.length ∧ ∃ g, q = some ⟨g, 0, none⟩ ∧ g < W.heap.size ∧ W.rangeAt g (j * 34) c := by
  obtain ⟨q', c', e⟩ := slice_of_row h
  cases e
  have hl : j < xs.length := (List.getElem?_eq_some_iff.1 hj).1
  obtain ⟨g, cur, rfl, _, hr, hcur⟩ := row_of_own h (by omega)
  refine ⟨rfl, g, rfl, hr.lt, ?_⟩
  have := Row.mid hr hcur (j * 34) 34 (by have := flatten_length hx.len; omega)
  rw [flatten_at hx.len hj] at this
  exact this

/-- The first place of c, or -1. -/
def IdxIs (xs : List (List Value)) (c : List Value) (r : Int) : Prop := (r = -1 ∧ c ∉ xs) ∨ ∃ i : Nat, r = i ∧ i < xs.length ∧ xs[i]? = some c

open Classical in
set_option maxRecDepth 100000 in
set_option maxHeartbeats 2000000 in
theorem index_any (q : Option Addr) (cap : Nat) (xs : List (List Value)) (c : List Value) (k : List Nat) (ad p : ByteArray) (hc : IsAsked c k ad p) (hx : AskedAll xs) (hlen : xs.length ≤ 9223372036854775807) (w : World) (h : AskOwn w (.slice q xs.length cap) xs) :
    Calls Tryd.prog 57 #[.slice q xs.length cap, .agg c.toArray] w fun e w' => ∃ r, e = .returned (.int .i64 r) ∧ IdxIs xs c r ∧ Below w.heap.size w w' := by
  have HS : Hid ((Tryd.prog.info? 72).map (·.size) = some c.length) := by show _ = _; rw [hc.len]; exact size72
  obtain ⟨w0, hw0⟩ : ∃ w0, w.alloc (.cells c.toArray 72) = w0 := ⟨_, rfl⟩
  have HW0 : Hid (w.alloc (.cells c.toArray 72) = w0) := hw0
  have hb0 : Below w.heap.size w w0 := by rw [← hw0]; exact (Below.refl _ w).alloc (Nat.le_refl _) _
  have hs0 : w0.heap.size = w.heap.size + 1 := by rw [← hw0]; simp
  have HR : Hid (Row w0 w.heap.size 72 c) := by rw [← hw0]; exact Row.new' w 72 c
  have HX : Hid (∀ wr, Below w.heap.size w wr → ∀ (j : Nat) (d : List Value), xs[j]? = some d → ∃ g, q = some ⟨g, 0, none⟩ ∧ g < w.heap.size ∧ wr.rangeAt g (j * 34) d) := fun wr hwr j d hj => by
    obtain ⟨_, g, hq, hg, hr⟩ := h.range hx hj
    exact ⟨g, hq, hg, fun i v hv => (hwr.cell (p := ⟨g, j * 34 + i, none⟩) hg).trans (hr i v hv)⟩
  have HC : Hid (IsAsked c k ad p) := hc
  have HXA : Hid (AskedAll xs) := hx
  clear hw0 h hc hx
  obtain ⟨n, hn⟩ : ∃ n, xs.length = n := ⟨_, rfl⟩
  rw [hn] at hlen ⊢
  have HN : Hid (xs.length = n) := hn
  clear hn
  go_enter Tryd.func57, Tryd.ntmps57
  go_wp2_with fail
  rw [HW0.out]
  go_loopw [8] (fun r wr => ∃ j : Nat, j ≤ n ∧ r = .int .i64 (j : Nat) ∧ Hid (∀ i : Nat, i < j → xs[i]? ≠ some c) ∧ Hid (Below (w.heap.size + 1) w0 wr)) (fun r _ => n - (intOf r).toNat)
  case atStart => exact ⟨0, by omega, rfl, fun i hi => by omega, (Below.refl _ _)⟩
  case round =>
    obtain ⟨j, hj, rfl, hall, hB⟩ := hrel
    have hBw : Below w.heap.size w wr := hb0.trans (hB.out.mono (by omega))
    by_cases hjn : j < n
    · have hjz : (j : Int) < (n : Int) := by omega
      obtain ⟨d, hd⟩ : ∃ d, xs[j]? = some d := ⟨xs[j]'(by rw [HN.out]; exact hjn), List.getElem?_eq_getElem _⟩
      obtain ⟨g, rfl, hg, hrd⟩ := HX.out wr hBw j d hd
      obtain ⟨k', ad', p', hd'⟩ := HXA.out d (List.mem_of_getElem? hd)
      have heq := fun W => equal_asked HC.out hd' W
      have hrc : wr.rangeAt w.heap.size 0 c := (Row.below HR.out hB.out (by omega)).range
      have HSd : Hid ((Tryd.prog.info? 72).map (·.size) = some d.length) := by show _ = _; rw [hd'.len]; exact size72
      have HD : Hid (xs[j]? = some d) := hd
      have hjw : j < n := hjn
      clear hd'
      go_wp2_with fail
      refine wp_region_noPanic ?_
      refine wp_region_held_drew (S := fun W' => W'.rangeAt w.heap.size 0 c ∧ W'.rangeAt g (j * 34) d) (by kernel_rfl) ⟨by simpa using hrc, by simpa using hrd⟩ (fun hHeld => ?_)
      refine wpAnyH_takesAt 0 6 0 (of_decide_eq_true (by kernel_rfl)) rfl (fun _ _ _ _ _ h => h) (by kernel_rfl) (by kernel_rfl) hHeld ?_
      simp only [List.drop_zero, List.take_succ_cons, List.take_zero]
      refine wpHeld_loadS (by rfl) 72 (.tmp 3) rfl w.heap.size 0 rfl c (fun W hW => hW.1) Tryd.underlying72 rfl HS.out ?_
      simp only [Act.put, List.setIfInBounds_toArray, List.set_cons_zero, List.set_cons_succ]
      iterate 3 (refine wpHeld_step (v := ?_) (by rfl) (fun wz hSw => ?_) ?_; rotate_left; (focus ((try dsimp only at hSw); go_simp; try with_reducible rfl)); (simp only [Act.put, List.setIfInBounds_toArray, List.set_cons_zero, List.set_cons_succ]))
      refine wpHeld_loadS (by rfl) 72 (.tmp 14) rfl g (j * 34) rfl d (fun W hW => hW.2) Tryd.underlying72 rfl HSd.out ?_
      simp only [Act.put, List.setIfInBounds_toArray, List.set_cons_zero, List.set_cons_succ]
      refine wpHeld_step (v := .bool (decide (c = d))) (by rfl) (fun wz hSw => ?_) ?_
      · clear hSw
        go_simp
      simp only [Act.put, List.setIfInBounds_toArray, List.set_cons_zero, List.set_cons_succ]
      refine wpHeld_nil ?_
      refine wpAnyH_done (by kernel_rfl) ?_ _
      refine NoPanic.normal ?_
      have hB2 : Below (w.heap.size + 1) w0 wr.drew := below_drewN hB.out 1
      clear hHeld hrc hrd heq
      by_cases hcd : c = d
      · subst hcd
        go_wp2
        go_ret
        exact ⟨_, rfl, .inr ⟨j, rfl, by rw [HN.out]; exact hjn, HD.out⟩, hb0.trans (hB2.mono (by omega))⟩
      · have hcd' : decide (c = d) = false := decide_eq_false hcd
        have HCD : Hid (¬ c = d) := hcd
        rw [hcd']
        clear hcd hcd'
        have e1 : IntKind.i64.wrap ((j : Int) + 1) = ((j + 1 : Nat) : Int) := by rw [IntKind.wrap_i64]; omega
        go_wp2
        go_roundw
        case rel =>
          refine ⟨j + 1, by omega, by push_cast; rfl, (fun i hi => ?_), hB2⟩
          by_cases e : i = j
          · subst e; rw [HD.out]; exact fun e2 => HCD.out (Option.some.inj e2).symm
          · exact hall.out i (by omega)
        case measure => simp only [intOf]; omega
    · have hjz : ¬ (j : Int) < (n : Int) := by omega
      obtain rfl : j = n := by omega
      have HNot : Hid (c ∉ xs) := fun hm => by
        obtain ⟨i, hi, e⟩ := List.getElem_of_mem hm
        exact hall.out i (by rw [← HN.out]; exact hi) (by rw [List.getElem?_eq_getElem hi, e])
      go_wp2
      go_ret
      exact ⟨-1, rfl, .inl ⟨rfl, HNot.out⟩, hBw⟩

end Go.Proofs.YtobmcaknfbooiaaDoor
