/-
  What the reference's suite keeps of what was asked; asked.
-/
import Derived.Test.YtkpjbleogjmbjaaDoorArgs2
import Derived.Test.YtkpjbleogjmbjaaDoorTapeAll
import Derived.Test.YtkpjbleogjmbjaaDoorRefTake
import Derived.Test.YtkpjbleogjmbjaaDoorGate
import Derived.Shelf.Abstract
import Derived.Lib.SliceRun
namespace Go.Proofs.YtkpjbleogjmbjaaDoor
open Classical
open Go.RowKit Go.Shelf
attribute [local go_sem] Oper.semAt_some

/-- A row: what lies in it, a text and an answer. -/
structure REnt where
  l : Value
  a : Value
  b : Value
  L : List Nat
  d : List Nat
def rowC (K : List Value) (l a b : Value) : List Value := .int .i64 1 :: (K ++ [l, a, b])
theorem rowC_len {K : List Value} (hK : K.length = 32) (l a b : Value) : (rowC K l a b).length = 36 := by simp [rowC, hK]
theorem rowC_at {K : List Value} (hK : K.length = 32) (l a b : Value) : (rowC K l a b)[0]? = some (.int .i64 1) ∧ (rowC K l a b)[33]? = some l ∧ (rowC K l a b)[34]? = some a ∧ (rowC K l a b)[35]? = some b := by
  refine ⟨rfl, ?_, ?_, ?_⟩ <;> (rw [rowC, List.getElem?_cons_succ, List.getElem?_append_right (by omega), hK]; rfl)
def REnt.cells (K : List Value) (e : REnt) : List Value := rowC K e.l e.a e.b
theorem cells_len {K : List Value} (hK : K.length = 32) (e : REnt) : (e.cells K).length = 36 := rowC_len hK _ _ _
structure REnt.At (R : Nat) (W : World) (e : REnt) : Prop where
  l : Own R W e.l [110]
  a : Own R W e.a e.L
  b : Own R W e.b e.d
  L : ∀ z ∈ e.L, z < 256
  d : IsKey32 e.d
structure RowsAt (K : List Value) (R : Nat) (W : World) (v : Value) (es : List REnt) : Prop where
  own : W.ownsRow (R + 1) 85 36 v es.length (es.map (REnt.cells K)).flatten
  all : ∀ e ∈ es, e.At R W

theorem flat36 {K : List Value} (hK : K.length = 32) : ∀ (es : List REnt), (es.map (REnt.cells K)).flatten.length = es.length * 36
  | [] => rfl
  | e :: es => by
    rw [List.map_cons, List.flatten_cons, List.length_append, flat36 hK es, List.length_cons, cells_len hK]
    omega
theorem flat36_at {K : List Value} (hK : K.length = 32) : ∀ (es : List REnt) {j : Nat} {e : REnt}, es[j]? = some e → ((es.map (REnt.cells K)).flatten.drop (j * 36)).take 36 = e.cells K
  | [], j, e, h => by simp at h
  | d :: es, 0, e, h => by
    simp at h; subst h
    rw [List.map_cons, List.flatten_cons, Nat.zero_mul, List.drop_zero, List.take_left' (cells_len hK d)]
  | d :: es, j + 1, e, h => by
    simp at h
    rw [List.map_cons, List.flatten_cons, show (j + 1) * 36 = 36 + j * 36 by omega, ← List.drop_drop, List.drop_left' (cells_len hK d)]
    exact flat36_at hK es h
theorem RowsAt.range {K : List Value} (hK : K.length = 32) {R : Nat} {W : World} {q : Option Addr} {len cap : Nat} {es : List REnt} (h : RowsAt K R W (.slice q len cap) es) {j : Nat} {e : REnt} (hj : es[j]? = some e) :
    ∃ g, q = some ⟨g, 0, none⟩ ∧ g < W.heap.size ∧ W.rangeAt g (j * 36) (e.cells K) := by
  obtain ⟨q', c', e'⟩ := slice_of_row h.own
  cases e'
  have hl : j < es.length := (List.getElem?_eq_some_iff.1 hj).1
  obtain ⟨g, cur, rfl, _, hr, hcur⟩ := row_of_own h.own (by omega)
  refine ⟨g, rfl, hr.lt, ?_⟩
  have := Row.mid hr hcur (j * 36) 36 (by have := flat36 hK es; omega)
  rw [flat36_at hK es hj] at this
  exact this
theorem REnt.At.later {R : Nat} {W W' : World} {e : REnt} (h : e.At R W) (hb : Below W.heap.size W W') : e.At R W'   := ⟨h.l.later hb, h.a.later hb, h.b.later hb, h.L, h.d⟩
theorem RowsAt.later {K : List Value} {R : Nat} {W W' : World} {v : Value} {es : List REnt} (h : RowsAt K R W v es) (hb : Below W.heap.size W W') : RowsAt K R W' v es := ⟨ownsRow_later hb h.own, fun e he => (h.all e he).later hb⟩

theorem size85 : (Tryd.prog.info? 85).map (·.size) = some 36 := by kernel_rfl
theorem rowC_one {K : List Value} (hK1 : ∀ v ∈ K, v.oneCell' = true) {l a b : Value} (hl : l.oneCell' = true) (ha : a.oneCell' = true) (hb : b.oneCell' = true) : ∀ v ∈ rowC K l a b, v.oneCell' = true := by
  intro v hv
  simp only [rowC, List.mem_cons, List.mem_append, List.not_mem_nil, or_false] at hv
  rcases hv with rfl | hv | rfl | rfl | rfl
  · rfl
  · exact hK1 v hv
  · exact hl
  · exact ha
  · exact hb
theorem rowC_key {K : List Value} {W : World} {g : Nat} {t : TypeId} {l a b : Value} (h : Row W g t (rowC K l a b)) : W.rangeAt g 1 K := fun i v hv => by
  have hl := (List.getElem?_eq_some_iff.1 hv).1
  refine h.cell (i := 1 + i) ?_
  rw [rowC, Nat.add_comm 1 i, List.getElem?_cons_succ, List.getElem?_append_left hl]
  exact hv

theorem wpList_load_wantMid {P : Program} {ops : Array Oper} {rest : List Oper} {o : Oper} {a : Act} {w : World} {Q : Exit → Act → World → Prop} (hw : Region.wanted o (yielded ops a.tmps) = true) (ty : TypeId) (x : Operand) (ho : o.op = .load ty x)
    (b off : Nat) (hx : a.eval x = .pointer (some ⟨b, off, none⟩)) (cs : List Value) {d : TypeDesc} (hr : w.rangeAt b off cs) (hu : P.underlying ty = some d) (hd : d.isRow = true) (hi : (P.info? ty).map (·.size) = some cs.length)
    (h : wpList P ops Q rest (a.put o.dst (.agg cs.toArray)) w) : wpList P ops Q (o :: rest) a w := by
  unfold wpList
  rw [if_pos hw]
  exact .inl (wp_load_mid ty x ho b off hx cs _ hr hu hd hi h)

/-- What asked answers. -/
def AskPost (es : List REnt) (L : List Nat) (e : Ending) : Prop :=
  (∃ x ∈ es, x.L = L ∧ e = .returned (.tuple #[x.b, .bool true])) ∨ ((∀ x ∈ es, x.L ≠ L) ∧ e = .returned (.tuple #[.slice none 0 0, .bool false]))

set_option maxRecDepth 100000 in
set_option maxHeartbeats 2000000 in
theorem asked_any (k : List Nat) (hk : IsKey32 k) (R : Nat) (x0 x1 x3 x4 x5 : Value) (q : Option Addr) (c : Nat) (es : List REnt) (p : Option Addr) (len cap : Nat) (L : List Nat) (pl : Option Addr) (cl : Nat) (hn : es.length ≤ 1000) (w : World)
    (hR : Row w R 33 [x0, x1, .slice q es.length c, x3, x4, x5]) (hE : RowsAt (u8s k) R w (.slice q es.length c) es) (hI : IsBytes w.heap.size w p len cap L) (hPl : IsBytes w.heap.size w pl 1 cl [110]) :
    Calls Tryd.prog 29 #[.pointer (some ⟨R, 0, none⟩), .int .i64 1, .agg (u8s k).toArray, .slice pl 1 cl, .slice p len cap] w fun e w' => AskPost es L e ∧ Below w.heap.size w w' := by
  have hK32 : (u8s k).length = 32 := by rw [u8s_length]; exact hk.1
  have hK1 := u8s_one k
  have hEqK : ∀ w : World, (Op.equalIn 10000 24 (.agg (u8s k).toArray) (.agg (u8s k).toArray)).run Tryd.prog w = .ok true w := fun w => by rw [equal24 hk hk w]; simp
  have HPl : Hid (∀ wr, Below w.heap.size w wr → (convert 22 9 (.slice pl 1 cl)).run Tryd.prog wr = .ok (.string (strOf [110])) wr) := fun wr h => str_of_bytes hPl wr h
  clear hPl
  generalize u8s k = Kz at *
  obtain ⟨w0, hw0⟩ : ∃ w0, w.alloc (.cells Kz.toArray 24) = w0 := ⟨_, rfl⟩
  have hb0 : Below w.heap.size w w0 := by rw [← hw0]; exact (Below.refl _ w).alloc (Nat.le_refl _) _
  have hs0 : w0.heap.size = w.heap.size + 1 := by rw [← hw0]; simp
  have HK0 : Hid (Row w0 w.heap.size 24 Kz) := by rw [← hw0]; exact Row.new' w 24 _
  have HW0 : Hid (w.alloc (.cells Kz.toArray 24) = w0) := hw0
  have c2 : ∀ o, (w.alloc o).cell? ⟨R, 2, none⟩ = some (.slice q es.length c) := fun o => (hR.alloc o).cell (i := 2) rfl
  have HX : Hid (∀ wr, Below w.heap.size w wr → ∀ (j : Nat) (d : REnt), es[j]? = some d → d.At R wr ∧ ∃ g, q = some ⟨g, 0, none⟩ ∧ g < w.heap.size ∧ wr.rangeAt g (j * 36) (d.cells Kz)) := fun wr hwr j d hj => by
    obtain ⟨g, hq, hg, hr⟩ := hE.range hK32 hj
    exact ⟨(hE.all d (List.mem_of_getElem? hj)).later hwr, g, hq, hg, fun i v hv => (hwr.cell (p := ⟨g, j * 36 + i, none⟩) hg).trans (hr i v hv)⟩
  have HStr : Hid (∀ wr, Below w.heap.size w wr → (convert 22 9 (.slice p len cap)).run Tryd.prog wr = .ok (.string (strOf L)) wr) := fun wr h => str_of_bytes hI wr h
  have HL : Hid (∀ z ∈ L, z < 256) := hI.2.2.2.1
  clear hw0 hR hE hI
  obtain ⟨n, hnn⟩ : ∃ n, es.length = n := ⟨_, rfl⟩
  rw [hnn] at hn c2
  have HN : Hid (es.length = n) := hnn
  clear hnn
  have HSK : Hid ((Tryd.prog.info? 24).map (·.size) = some Kz.length) := by show _ = _; rw [hK32]; exact size24
  have HK32 : Hid (Kz.length = 32) := hK32
  have HEq : Hid (∀ w : World, (Op.equalIn 10000 24 (.agg Kz.toArray) (.agg Kz.toArray)).run Tryd.prog w = .ok true w) := hEqK
  have HK1 : Hid (∀ v ∈ Kz, v.oneCell' = true) := hK1
  clear hK32 hEqK hK1 hk
  go_enter Tryd.func29, Tryd.ntmps29
  go_wp2_with fail
  rw [HW0.out]
  clear c2
  go_loopw [19] (fun r wr => ∃ j : Nat, j ≤ n ∧ r = .int .i64 (j : Nat) ∧ Hid (∀ i : Nat, i < j → ∀ x, es[i]? = some x → x.L ≠ L) ∧ Hid (Below (w.heap.size + 1) w0 wr)) (fun r _ => n - (intOf r).toNat)
  case atStart => exact ⟨0, by omega, rfl, fun i hi => by omega, (Below.refl _ _)⟩
  case round =>
    obtain ⟨j, hj, rfl, hall, hB⟩ := hrel
    have hBw : Below w.heap.size w wr := hb0.trans (hB.out.mono (by omega))
    by_cases hjn : j < n
    · have hjz : (j : Int) < (n : Int) := by omega
      obtain ⟨d, hd⟩ : ∃ d, es[j]? = some d := ⟨es[j]'(by rw [HN.out]; exact hjn), List.getElem?_eq_getElem _⟩
      obtain ⟨hdA, g, rfl, hg, hrd⟩ := HX.out wr hBw j d hd
      have HA : Hid (Own R wr d.a d.L ∧ (∀ z ∈ d.L, z < 256) ∧ Str wr d.l (strOf [110])) := ⟨hdA.a, hdA.L, str_of_row rfl hdA.l⟩
      have h1l : d.l.oneCell' = true := by obtain ⟨q', c', e'⟩ := hdA.l.slice; rw [e']; rfl
      have HD : Hid (es[j]? = some d) := hd
      have HRg : Hid (wr.rangeAt g (j * 36) (d.cells Kz)) := hrd
      have h1a : d.a.oneCell' = true := by obtain ⟨q', c', e'⟩ := hdA.a.slice; rw [e']; rfl
      have h1b : d.b.oneCell' = true := by obtain ⟨q', c', e'⟩ := hdA.b.slice; rw [e']; rfl
      have HONE : Hid (∀ v ∈ rowC Kz d.l d.a d.b, v.oneCell' = true) := rowC_one HK1.out h1l h1a h1b
      have hC : d.cells Kz = rowC Kz d.l d.a d.b := rfl
      have e1 : IntKind.i64.wrap ((j : Int) + 1) = ((j + 1 : Nat) : Int) := by rw [IntKind.wrap_i64]; omega
      rw [hC] at HRg
      have hjw : j < n := hjn
      clear hd hdA hrd h1a h1b h1l hC
      obtain ⟨l, a, b, L0, d0⟩ := d
      simp only at HA HRg HONE
      by_cases hLL : L0 = L
      · have HLT : Hid (((strOf L0).toList == (strOf L).toList) = true) := by show _ = _; rw [strOf_eq L0 L HA.out.2.1 HL.out]; exact decide_eq_true hLL
        go_wp2_with (first
          | ((with_reducible show wpList _ _ _ (Oper.mk _ (Op.load 85 (.tmp 21)) _ _ _ _ :: _) _ _); refine wpList_load_mid rfl 85 (.tmp 21) rfl g (j * 36) rfl (rowC Kz l a b) _ HRg.out Tryd.underlying85 rfl (by rw [rowC_len HK32.out]; exact size85) ?_; simp only [Act.put, List.setIfInBounds_toArray, List.set_cons_zero, List.set_cons_succ])
          | ((with_reducible show wpList _ _ _ (Oper.mk _ (Op.store 85 (.tmp 13) (.tmp 22)) _ _ _ _ :: _) _ _); refine wpList_store_Row rfl 85 (.tmp 13) (.tmp 22) rfl (rowC Kz l a b) rfl rfl (Row.new wr 85 #[.int .i64 0, .int .u8 0, .int .u8 0, .int .u8 0, .int .u8 0, .int .u8 0, .int .u8 0, .int .u8 0, .int .u8 0, .int .u8 0, .int .u8 0, .int .u8 0, .int .u8 0, .int .u8 0, .int .u8 0, .int .u8 0, .int .u8 0, .int .u8 0, .int .u8 0, .int .u8 0, .int .u8 0, .int .u8 0, .int .u8 0, .int .u8 0, .int .u8 0, .int .u8 0, .int .u8 0, .int .u8 0, .int .u8 0, .int .u8 0, .int .u8 0, .int .u8 0, .int .u8 0, .slice none 0 0, .slice none 0 0, .slice none 0 0]) (by rw [rowC_len HK32.out]; exact size85) (by rw [rowC_len HK32.out]; simp) HONE.out ?_; have hRP := (Row.new wr 85 #[.int .i64 0, .int .u8 0, .int .u8 0, .int .u8 0, .int .u8 0, .int .u8 0, .int .u8 0, .int .u8 0, .int .u8 0, .int .u8 0, .int .u8 0, .int .u8 0, .int .u8 0, .int .u8 0, .int .u8 0, .int .u8 0, .int .u8 0, .int .u8 0, .int .u8 0, .int .u8 0, .int .u8 0, .int .u8 0, .int .u8 0, .int .u8 0, .int .u8 0, .int .u8 0, .int .u8 0, .int .u8 0, .int .u8 0, .int .u8 0, .int .u8 0, .int .u8 0, .int .u8 0, .slice none 0 0, .slice none 0 0, .slice none 0 0]).sets_all (vs := rowC Kz l a b) (by rw [rowC_len HK32.out]; simp); have hb2 : Below wr.heap.size wr ((wr.alloc (.cells #[.int .i64 0, .int .u8 0, .int .u8 0, .int .u8 0, .int .u8 0, .int .u8 0, .int .u8 0, .int .u8 0, .int .u8 0, .int .u8 0, .int .u8 0, .int .u8 0, .int .u8 0, .int .u8 0, .int .u8 0, .int .u8 0, .int .u8 0, .int .u8 0, .int .u8 0, .int .u8 0, .int .u8 0, .int .u8 0, .int .u8 0, .int .u8 0, .int .u8 0, .int .u8 0, .int .u8 0, .int .u8 0, .int .u8 0, .int .u8 0, .int .u8 0, .int .u8 0, .int .u8 0, .slice none 0 0, .slice none 0 0, .slice none 0 0] 85)).setCells wr.heap.size 0 (rowC Kz l a b)) := below_setCells (Nat.le_refl _) _ _ ((Below.refl _ wr).alloc (Nat.le_refl _) _); generalize (wr.alloc (.cells #[.int .i64 0, .int .u8 0, .int .u8 0, .int .u8 0, .int .u8 0, .int .u8 0, .int .u8 0, .int .u8 0, .int .u8 0, .int .u8 0, .int .u8 0, .int .u8 0, .int .u8 0, .int .u8 0, .int .u8 0, .int .u8 0, .int .u8 0, .int .u8 0, .int .u8 0, .int .u8 0, .int .u8 0, .int .u8 0, .int .u8 0, .int .u8 0, .int .u8 0, .int .u8 0, .int .u8 0, .int .u8 0, .int .u8 0, .int .u8 0, .int .u8 0, .int .u8 0, .int .u8 0, .slice none 0 0, .slice none 0 0, .slice none 0 0] 85)).setCells wr.heap.size 0 (rowC Kz l a b) = W2 at *; have hc0 := hRP.cell (i := 0) (rowC_at HK32.out l a b).1; have hc2 := hRP.cell (i := 33) (rowC_at HK32.out l a b).2.1; have hc3 := hRP.cell (i := 34) (rowC_at HK32.out l a b).2.2.1; have hc4 := hRP.cell (i := 35) (rowC_at HK32.out l a b).2.2.2; have HKR : Hid (W2.rangeAt wr.heap.size 1 Kz) := rowC_key hRP; have hz2 := HPl.out W2 (hBw.trans (hb2.mono hBw.size)); have hl2 := (HA.out.2.2.later hb2).here; generalize strOf [110] = sz at *; have hs2 := HStr.out W2 (hBw.trans (hb2.mono hBw.size)); have ha2 := (str_of_row rfl (HA.out.1.later hb2)).here; have hq2 := HEq.out W2; have HKB : Hid (Row W2 w.heap.size 24 Kz) := (Row.below HK0.out hB.out (by omega)).later hb2; have hlt2 := HLT.out; clear hRP; simp only [Act.put])
          | ((with_reducible show wpList _ _ _ (Oper.mk (some 29) (Op.load 24 (.tmp 28)) _ _ _ _ :: _) _ _); refine wpList_load_wantMid (by rfl) 24 (.tmp 28) rfl wr.heap.size 1 rfl Kz HKR.out Tryd.underlying24 rfl HSK.out ?_; simp only [Act.put, List.setIfInBounds_toArray, List.set_cons_zero, List.set_cons_succ])
          | ((with_reducible show wpList _ _ _ (Oper.mk (some 30) (Op.load 24 (.tmp 7)) _ _ _ _ :: _) _ _); refine wpList_load_wantMid (by rfl) 24 (.tmp 7) rfl w.heap.size 0 rfl Kz HKB.out.range Tryd.underlying24 rfl HSK.out ?_; simp only [Act.put, List.setIfInBounds_toArray, List.set_cons_zero, List.set_cons_succ]))
        refine bodyPost_ret (results_tmp2 rfl _ _ _) rfl ?_
        exact ⟨.inl ⟨⟨l, a, b, L0, d0⟩, List.mem_of_getElem? HD.out, hLL, rfl⟩, hBw.trans (hb2.mono hBw.size)⟩
      · have HLT : Hid (((strOf L0).toList == (strOf L).toList) = false) := by show _ = _; rw [strOf_eq L0 L HA.out.2.1 HL.out]; exact decide_eq_false hLL
        go_wp2_with (first
          | ((with_reducible show wpList _ _ _ (Oper.mk _ (Op.load 85 (.tmp 21)) _ _ _ _ :: _) _ _); refine wpList_load_mid rfl 85 (.tmp 21) rfl g (j * 36) rfl (rowC Kz l a b) _ HRg.out Tryd.underlying85 rfl (by rw [rowC_len HK32.out]; exact size85) ?_; simp only [Act.put, List.setIfInBounds_toArray, List.set_cons_zero, List.set_cons_succ])
          | ((with_reducible show wpList _ _ _ (Oper.mk _ (Op.store 85 (.tmp 13) (.tmp 22)) _ _ _ _ :: _) _ _); refine wpList_store_Row rfl 85 (.tmp 13) (.tmp 22) rfl (rowC Kz l a b) rfl rfl (Row.new wr 85 #[.int .i64 0, .int .u8 0, .int .u8 0, .int .u8 0, .int .u8 0, .int .u8 0, .int .u8 0, .int .u8 0, .int .u8 0, .int .u8 0, .int .u8 0, .int .u8 0, .int .u8 0, .int .u8 0, .int .u8 0, .int .u8 0, .int .u8 0, .int .u8 0, .int .u8 0, .int .u8 0, .int .u8 0, .int .u8 0, .int .u8 0, .int .u8 0, .int .u8 0, .int .u8 0, .int .u8 0, .int .u8 0, .int .u8 0, .int .u8 0, .int .u8 0, .int .u8 0, .int .u8 0, .slice none 0 0, .slice none 0 0, .slice none 0 0]) (by rw [rowC_len HK32.out]; exact size85) (by rw [rowC_len HK32.out]; simp) HONE.out ?_; have hRP := (Row.new wr 85 #[.int .i64 0, .int .u8 0, .int .u8 0, .int .u8 0, .int .u8 0, .int .u8 0, .int .u8 0, .int .u8 0, .int .u8 0, .int .u8 0, .int .u8 0, .int .u8 0, .int .u8 0, .int .u8 0, .int .u8 0, .int .u8 0, .int .u8 0, .int .u8 0, .int .u8 0, .int .u8 0, .int .u8 0, .int .u8 0, .int .u8 0, .int .u8 0, .int .u8 0, .int .u8 0, .int .u8 0, .int .u8 0, .int .u8 0, .int .u8 0, .int .u8 0, .int .u8 0, .int .u8 0, .slice none 0 0, .slice none 0 0, .slice none 0 0]).sets_all (vs := rowC Kz l a b) (by rw [rowC_len HK32.out]; simp); have hb2 : Below wr.heap.size wr ((wr.alloc (.cells #[.int .i64 0, .int .u8 0, .int .u8 0, .int .u8 0, .int .u8 0, .int .u8 0, .int .u8 0, .int .u8 0, .int .u8 0, .int .u8 0, .int .u8 0, .int .u8 0, .int .u8 0, .int .u8 0, .int .u8 0, .int .u8 0, .int .u8 0, .int .u8 0, .int .u8 0, .int .u8 0, .int .u8 0, .int .u8 0, .int .u8 0, .int .u8 0, .int .u8 0, .int .u8 0, .int .u8 0, .int .u8 0, .int .u8 0, .int .u8 0, .int .u8 0, .int .u8 0, .int .u8 0, .slice none 0 0, .slice none 0 0, .slice none 0 0] 85)).setCells wr.heap.size 0 (rowC Kz l a b)) := below_setCells (Nat.le_refl _) _ _ ((Below.refl _ wr).alloc (Nat.le_refl _) _); generalize (wr.alloc (.cells #[.int .i64 0, .int .u8 0, .int .u8 0, .int .u8 0, .int .u8 0, .int .u8 0, .int .u8 0, .int .u8 0, .int .u8 0, .int .u8 0, .int .u8 0, .int .u8 0, .int .u8 0, .int .u8 0, .int .u8 0, .int .u8 0, .int .u8 0, .int .u8 0, .int .u8 0, .int .u8 0, .int .u8 0, .int .u8 0, .int .u8 0, .int .u8 0, .int .u8 0, .int .u8 0, .int .u8 0, .int .u8 0, .int .u8 0, .int .u8 0, .int .u8 0, .int .u8 0, .int .u8 0, .slice none 0 0, .slice none 0 0, .slice none 0 0] 85)).setCells wr.heap.size 0 (rowC Kz l a b) = W2 at *; have hc0 := hRP.cell (i := 0) (rowC_at HK32.out l a b).1; have hc2 := hRP.cell (i := 33) (rowC_at HK32.out l a b).2.1; have hc3 := hRP.cell (i := 34) (rowC_at HK32.out l a b).2.2.1; have hc4 := hRP.cell (i := 35) (rowC_at HK32.out l a b).2.2.2; have HKR : Hid (W2.rangeAt wr.heap.size 1 Kz) := rowC_key hRP; have hz2 := HPl.out W2 (hBw.trans (hb2.mono hBw.size)); have hl2 := (HA.out.2.2.later hb2).here; generalize strOf [110] = sz at *; have hs2 := HStr.out W2 (hBw.trans (hb2.mono hBw.size)); have ha2 := (str_of_row rfl (HA.out.1.later hb2)).here; have hq2 := HEq.out W2; have HKB : Hid (Row W2 w.heap.size 24 Kz) := (Row.below HK0.out hB.out (by omega)).later hb2; have hlt2 := HLT.out; clear hRP; simp only [Act.put])
          | ((with_reducible show wpList _ _ _ (Oper.mk (some 29) (Op.load 24 (.tmp 28)) _ _ _ _ :: _) _ _); refine wpList_load_wantMid (by rfl) 24 (.tmp 28) rfl wr.heap.size 1 rfl Kz HKR.out Tryd.underlying24 rfl HSK.out ?_; simp only [Act.put, List.setIfInBounds_toArray, List.set_cons_zero, List.set_cons_succ])
          | ((with_reducible show wpList _ _ _ (Oper.mk (some 30) (Op.load 24 (.tmp 7)) _ _ _ _ :: _) _ _); refine wpList_load_wantMid (by rfl) 24 (.tmp 7) rfl w.heap.size 0 rfl Kz HKB.out.range Tryd.underlying24 rfl HSK.out ?_; simp only [Act.put, List.setIfInBounds_toArray, List.set_cons_zero, List.set_cons_succ]))
        go_roundw
        case rel =>
          refine ⟨j + 1, by omega, by push_cast; rfl, (fun i hi x hx => ?_), hB.out.trans (hb2.mono (by have := hB.out.size; omega))⟩
          by_cases e : i = j
          · subst e; rw [HD.out] at hx; cases hx; exact hLL
          · exact hall.out i (by omega) x hx
        case measure => simp only [intOf]; omega
    · have hjz : ¬ (j : Int) < (n : Int) := by omega
      obtain rfl : j = n := by omega
      have HNot : Hid (∀ x ∈ es, x.L ≠ L) := fun x hm => by
        obtain ⟨i, hi, e⟩ := List.getElem_of_mem hm
        exact hall.out i (by rw [← HN.out]; exact hi) x (by rw [List.getElem?_eq_getElem hi, e])
      go_wp2
      refine bodyPost_ret (results_tmp2 rfl _ _ _) rfl ?_
      exact ⟨.inr ⟨HNot.out, rfl⟩, hBw⟩

end Go.Proofs.YtkpjbleogjmbjaaDoor
