/-
  Several texts in one: IdsO, HpO, MapD, MapE, OrM, OrW, OrX, OrdersW.
-/
import Derived.Test.YtfclbdlkpnoceaaFew
import Derived.Test.YtfclbdlkpnoceaaMeetAll
import Derived.Test.YtfclbdlkpnoceaaHpAll
import Derived.Test.YtfclbdlkpnoceaaMaps
import Derived.WideKeyEntry
import Derived.Test.YtfclbdlkpnoceaaROr
import Derived.Test.YtfclbdlkpnoceaaOrdL
import Derived.Test.YtfclbdlkpnoceaaOwn
import Derived.Deep.OwnRows
import Derived.Test.YtfclbdlkpnoceaaSmO
/-
  The ids that objects have, as a map.
-/
namespace Go.Proofs.Ytfclbdlkpnoceaa
open Go.RowKit Go.Shelf Go.Maps
attribute [local go_sem] Oper.semAt_some

set_option maxRecDepth 100000 in
set_option maxHeartbeats 1000000 in
theorem idsOf_any (p : Option Addr) (len cap : Nat) (l : List O) (w : World) (hI : IsObjs w.heap.size w p len cap l) :
    Calls Try.prog 28 #[.slice p len cap] w fun e w' => e = .returned (.map (some w.heap.size)) ∧ MapAt Try.prog 33 w' w.heap.size (metF (l.map O.id)) ∧ Below w.heap.size w w' := by
  have HI : Hid (IsObjs w.heap.size w p len cap l) := hI
  have hll := hI.1
  have hlc := hI.2.1
  have hcc := hI.2.2.1
  have hmm := @run_makeMap Try.prog
  clear hI
  go_enter Try.func28, Try.ntmps28
  go_wp2
  have hm0 : MapAt Try.prog 33 (w.alloc (.map #[] 0)) w.heap.size (metF []) := by rw [metF_nil]; exact MapAt.new _ _ _
  have hb0 : Below w.heap.size w (w.alloc (.map #[] 0)) := (Below.refl _ w).alloc (Nat.le_refl _) _
  generalize w.alloc (.map #[] 0) = w0 at *
  clear hmm
  generalize hZ : w.heap.size = Z at *
  go_loopw [9] (fun i wr => ∃ (k : Nat), k ≤ len ∧ i = .int .i64 k ∧ MapAt Try.prog 33 wr Z (metF ((l.take k).map O.id)) ∧ Below Z w wr) (fun i _ => len - (intOf i).toNat)
  case atStart => exact ⟨0, Nat.zero_le _, rfl, hm0, hb0⟩
  case round =>
    obtain ⟨k, hk, rfl, hm, hb⟩ := hrel
    have hzl := hm.lt
    by_cases hlt : k < len
    · have hki : (k : Int) < (len : Int) := by omega
      obtain ⟨b, off, rfl, hbb, hr, hok, hmem⟩ := (HI.out.below hb).at hlt
      have HR : Hid (wr.rangeAt b (off + k * 34) (objC (l.getD k noO))) := hr
      have HT : Hid (l.take (k + 1) = l.take k ++ [l.getD k noO]) := obj_take l (by omega)
      have hsz := hb.size
      have hid := hok.1
      clear hr hmem
      generalize l.getD k noO = x at *
      have HB := (show Hid (Below _ _ _) from hb)
      have HM := (show Hid (MapAt _ _ _ _ _) from hm)
      clear hb hm hm0 hb0
      go_wp2_with (first
        | ((with_reducible show wpList _ _ _ (Oper.mk _ (Op.load 46 (.tmp 11)) _ _ _ _ :: _) _ _); refine wpList_loadObj rfl (.tmp 11) rfl rfl hok HR.out ?_; simp only [Act.put, List.setIfInBounds_toArray, List.set_cons_zero, List.set_cons_succ])
        | ((with_reducible show wpList _ _ _ (Oper.mk _ (Op.store 46 (.tmp 5) (.tmp 12)) _ _ _ _ :: _) _ _); rw [zO]; refine wpList_storeObj rfl (.tmp 5) (.tmp 12) rfl x hok rfl rfl (fun Y2 hb2 hE2 => ?_); have HE2 := (show Hid _ from hE2); clear hE2; simp only [Act.put])
        | ((with_reducible show wpList _ _ _ (Oper.mk (some 15) (Op.load 33 _) _ _ _ _ :: _) _ _); refine wpList_loadId rfl (.tmp 14) rfl rfl hid HE2.out.id ?_; simp only [Act.put, List.setIfInBounds_toArray, List.set_cons_zero, List.set_cons_succ])
        | ((with_reducible show wpList _ _ _ (Oper.mk _ (Op.mapUpdate 57 _ _ _) _ _ _ _ :: _) _ _); obtain ⟨kl, hkey⟩ := key_id hid; refine wpList_mapStore Z rfl (.tmp 13) (.tmp 15) (.tmp 16) 57 58 rfl keyed33 Try.underlying57 rfl (HM.out.below hb2 hzl) rfl rfl hkey (fun Y3 hm3 hb3 => ?_); simp only [Act.put]))
      go_roundw
      case rel =>
        refine ⟨k + 1, by omega, by go_num, ?_, ?_⟩
        · rw [HT.out, List.map_append, List.map_cons, List.map_nil, ← metF_snoc]; exact hm3
        · exact (HB.out.trans (hb2.mono (by omega))).trans ⟨hb3.os, hb3.tape, hb3.output, hb3.size, fun i hi => hb3.block i hi (by omega)⟩
      case measure => simp [intOf]; omega
    · obtain rfl : k = len := by omega
      rw [List.take_of_length_le (by omega)] at hm
      go_wp2
      go_ret
      rw [hZ]
      exact ⟨rfl, hm, hb⟩
end Go.Proofs.Ytfclbdlkpnoceaa
/-
  All places of a list, as a heap.
-/
namespace Go.Proofs.Ytfclbdlkpnoceaa
open Go.RowKit Go.Shelf Go.Maps
attribute [local go_sem] Oper.semAt_some

theorem range_heap (n : Nat) : HpF (fnOf (List.range n)) (List.range n).length :=
  HpF.rises (fun i j hij hj => by rw [List.length_range] at hj; simp [fnOf, hj, show i < n by omega]; omega)

set_option maxRecDepth 100000 in
set_option maxHeartbeats 1000000 in
theorem placesOf_any (p : Option Addr) (len cap : Nat) (w : World) (hl : len ≤ 100000) :
    Calls Try.prog 29 #[.slice p len cap] w fun e w' => e = .returned (.pointer (some ⟨w.heap.size, 0, none⟩)) ∧ ∃ q c, HpS w' w.heap.size q c (List.range len) ∧ Below w.heap.size w w' := by
  have HL : Hid (len ≤ 100000) := hl
  have H0 : Hid (HpS (w.alloc (.cells #[.slice none 0 0] 69)) w.heap.size none 0 []) := ⟨Row.new w 69 #[.slice none 0 0], by simpa [ints] using World.ownsRow_nil _ _ _ _⟩
  have HB : Hid (Below w.heap.size w (w.alloc (.cells #[.slice none 0 0] 69))) := (Below.refl _ w).alloc (Nat.le_refl _) _
  clear hl
  go_enter Try.func29, Try.ntmps29
  go_wp2
  generalize w.alloc (.cells #[.slice none 0 0] 69) = w1 at *
  generalize hZ : w.heap.size = Z at *
  go_loopw [9] (fun i wr => ∃ (k : Nat) (q : Option Addr) (c : Nat), k ≤ len ∧ i = .int .i64 k ∧ HpS wr Z q c (List.range k) ∧ Below Z w wr) (fun i _ => len - (intOf i).toNat)
  case atStart => exact ⟨0, none, 0, Nat.zero_le _, rfl, by simpa using H0.out, HB.out⟩
  case round =>
    obtain ⟨k, q, c, hk, rfl, hS, hb⟩ := hrel
    by_cases hlt : k < len
    · have hki : (k : Int) < (len : Int) := by omega
      have hll : (List.range k).length = k := by simp
      have hcc := hS.cellAt
      rw [hll] at hcc
      have HS := (show Hid (HpS _ _ _ _ _) from hS)
      have HBw := (show Hid (Below _ _ _) from hb)
      have HLk : Hid ((List.range k).length < 1000000) := (show _ < _ by have := HL.out; simp; omega)
      have hk6 : len ≤ 100000 := HL.out
      have hzw : Z < wr.heap.size := hS.row.lt
      clear hS hb hll
      go_wp2_with (first
        | ((with_reducible show wpList _ _ _ (Oper.mk _ (Op.call { callee := .builtin .append, args := _, argTypes := _ }) _ _ _ _ :: _) _ _);
           have hw1 : HpS (wr.alloc (.cells #[.int .i64 (k : Nat)] 3)) Z q c (List.range k) := HS.out.later ((Below.refl _ wr).alloc (Nat.le_refl _) _);
           have hb1 : Below wr.heap.size wr (wr.alloc (.cells #[.int .i64 (k : Nat)] 3)) := (Below.refl _ wr).alloc (Nat.le_refl _) _;
           have hcx : (wr.alloc (.cells #[.int .i64 (k : Nat)] 3)).cell? ⟨wr.heap.size, 0, none⟩ = some (.int .i64 (k : Nat)) := (Row.new wr 3 #[.int .i64 (k : Nat)]).cell (i := 0) rfl;
           have how := hw1.own;
           rw [List.length_range] at how;
           refine wpList_append_int rfl 67 Try.underlying67 (.tmp 16) (.tmp 18) rfl (Z + 1) (.slice q k c) (List.range k) rfl (by rw [List.length_range]; exact how) k rfl hcx HLk.out (by have := hb1.size; omega) (fun v2 w2 ho hg hn => ?_);
           obtain ⟨q2, c2, rfl⟩ := slice_of_row ho;
           have hS2 := hw1.put (by rw [List.length_range]; exact hg) ho;
           have hrow : Row w2 Z 69 [.slice q k c] := (hg.block Z hw1.row.lt (fun e => by
             have := (World.ownsRow.lt how Z e.symm).1; omega)).trans (by have := hw1.row; rwa [List.length_range] at this);
           have hvc := hrow.cell (i := 0) rfl;
           have hvf := hrow.frozen 0;
           have hfr : Below Z wr w2 := ⟨hg.os.trans hb1.os, hg.tape.trans hb1.tape, hg.output.trans hb1.output, Nat.le_trans hb1.size hg.size, fun i hi => (hg.block i (by have := hb1.size; omega) (fun e => by have := (World.ownsRow.lt how i e.symm).1; omega)).trans (hb1.block i (by omega))⟩;
           simp only [Act.put]))
      have hl2 : (List.range k ++ [k]).length = k + 1 := by simp
      have HS2 : Hid (HpS (w2.setCell ⟨Z, 0, none⟩ (.slice q2 (k + 1 : Nat) c2)) Z q2 c2 (List.range (k + 1))) := by
        rw [hl2] at hS2
        rw [List.range_succ]
        exact hS2
      have HB2 : Hid (∀ v, Below Z w (w2.setCell ⟨Z, 0, none⟩ v)) := fun v => (HBw.out.trans hfr).trans ((But.set (B := Z) (n := Z) (w := w2) 0 v).below (Nat.le_refl _) (Nat.le_refl _))
      go_roundw
      case rel => exact ⟨k + 1, q2, c2, by omega, by go_num, by simpa using HS2.out, HB2.out _⟩
      case measure => simp [intOf]; omega
    · obtain rfl : k = len := by omega
      go_wp2
      go_ret
      exact ⟨by rw [hZ]; rfl, q, c, by rw [hZ]; exact hS, by rw [hZ]; exact hb⟩
end Go.Proofs.Ytfclbdlkpnoceaa
/-
  Maps in memory: what a delete leaves. It names no program.
-/
namespace Go.Proofs.Ytfclbdlkpnoceaa
open Go Go.RowKit Go.Maps

section
open Classical
/-- The function f without x. -/
def fnDel [DecidableEq Value] (f : Value → Option Value) (x : Value) : Value → Option Value := fun y => if y = x then none else f y
theorem fnDel_same (f : Value → Option Value) (x : Value) : fnDel f x x = none := by simp [fnDel]
theorem fnDel_other {f : Value → Option Value} {x y : Value} (h : y ≠ x) : fnDel f x y = f y := by simp [fnDel, h]

section
variable {P : Program} {k : TypeId} {w : World} {b : Nat} {f : Value → Option Value}

theorem MapAt.drop {t e : TypeId} (h : MapAt P k w b f) (K : Keyed P k) (ht : P.underlying t = some (.map k e)) {key : Value} {kl : Lit} (hkey : keyOf P k key = some kl) (ty : TypeId) (n : Nat) :
    ∃ w', (Builtin.delete_ #[t, k] ty #[.map (some b), key]).run P w = .ok (.tuple #[]) w' ∧ MapAt P k w' b (fnDel f key) ∧ But b n w w' ∧ w'.heap.size = w.heap.size := by
  obtain ⟨es, clock, hb, hks, hp, hf, hx⟩ := h
  have hbut : ∀ o, But b n w (ChangeMaps.setBlock w b o) := fun o => ⟨rfl, rfl, rfl, by simp [ChangeMaps.setBlock], fun i _ hi => ChangeMaps.heap_setBlock_other hb _ hi⟩
  have hsz : ∀ o, (ChangeMaps.setBlock w b o).heap.size = w.heap.size := fun o => by simp [ChangeMaps.setBlock]
  rcases K.find w hkey es.toList hks with ⟨h1, h2⟩ | ⟨j, e0, h1, h2, h3⟩
  · refine ⟨ChangeMaps.setBlock w b (.map es clock), ?_, ⟨_, _, ChangeMaps.heap_setBlock_same hb _, hks, hp, ?_, ?_⟩, hbut _, hsz _⟩
    · simp [Builtin.delete_, run_underlying ht, MapKept.run_getObj_map hb, K.check w _ hkey, h1, MapKept.run_setObj_map _ hb, Result.andThen, ChangeMaps.setBlock]
    · intro x hx'
      rw [fnDel_other (h2 x hx')]; exact hf x hx'
    · intro x v hv
      by_cases hxk : x = key
      · subst hxk; rw [fnDel_same] at hv; cases hv
      · rw [fnDel_other hxk] at hv; exact hx x v hv
  · have hjl : j < es.toList.length := (List.getElem?_eq_some_iff.1 h2).1
    have hjs : j < es.size := by simpa using hjl
    have hsub : (es.eraseIdxIfInBounds j).toList = es.toList.eraseIdx j := by
      unfold Array.eraseIdxIfInBounds
      rw [dif_pos hjs]
      simp
    have hej : es.toList[j] = e0 := by simpa using (List.getElem?_eq_some_iff.1 h2).2
    have hsubl : (es.toList.eraseIdx j).Sublist es.toList := List.eraseIdx_sublist _ _
    have hne : ∀ x ∈ es.toList.eraseIdx j, x.key ≠ key := by
      intro x hx'
      obtain ⟨i, hi, hij, ex⟩ : ∃ (i : Nat) (hi : i < es.toList.length), i ≠ j ∧ es.toList[i] = x := by
        rw [List.mem_eraseIdx_iff_getElem] at hx'
        obtain ⟨i, hi, hij, ex⟩ := hx'
        exact ⟨i, hi, hij, ex⟩
      have hpw := List.pairwise_iff_getElem.1 hp
      rcases Nat.lt_or_ge i j with hl | hl
      · have := hpw i j hi hjl hl
        rw [hej, h3, ex] at this
        exact this
      · have := hpw j i hjl hi (by omega)
        rw [hej, h3, ex] at this
        exact this.symm
    refine ⟨ChangeMaps.setBlock w b (.map (es.eraseIdxIfInBounds j) clock), ?_, ⟨_, _, ChangeMaps.heap_setBlock_same hb _, ?_, ?_, ?_, ?_⟩, hbut _, hsz _⟩
    · simp [Builtin.delete_, run_underlying ht, MapKept.run_getObj_map hb, K.check w _ hkey, h1, MapKept.run_setObj_map _ hb, Result.andThen, ChangeMaps.setBlock]
    · intro x hx'
      rw [hsub] at hx'
      exact hks x (hsubl.subset hx')
    · rw [hsub]; exact hp.sublist hsubl
    · intro x hx'
      rw [hsub] at hx'
      rw [fnDel_other (hne x hx')]
      exact hf x (hsubl.subset hx')
    · intro x v hv
      by_cases hxk : x = key
      · subst hxk; rw [fnDel_same] at hv; cases hv
      · rw [fnDel_other hxk] at hv
        obtain ⟨e', he', hk'⟩ := hx x v hv
        refine ⟨e', ?_, hk'⟩
        rw [hsub, List.mem_eraseIdx_iff_getElem]
        obtain ⟨i, hi, ei⟩ := List.getElem_of_mem he'
        refine ⟨i, hi, ?_, ei⟩
        rintro rfl
        exact hxk (by rw [← hk', ← ei, hej, h3])

variable {ops : Array Oper} {rest : List Oper} {o : Oper} {a : Act} {Q : Exit → Act → World → Prop}
/-- A delete, at the operation. -/
theorem wp_mapDrop {K' : Act → World → Prop} (n : Nat) (m x : Operand) (t e : TypeId) (hop : o.op = Op.call { callee := Callee.builtin Builtin.delete, args := #[m, x], argTypes := #[t, k] }) (K : Keyed P k) (ht : P.underlying t = some (.map k e))
    (hm : a.eval m = .map (some b)) (h : MapAt P k w b f) {key : Value} {kl : Lit} (hx : a.eval x = key) (hkey : keyOf P k key = some kl)
    (hK : ∀ w', MapAt P k w' b (fnDel f key) → But b n w w' → w'.heap.size = w.heap.size → K' (a.put o.dst (.tuple #[])) w') : Oper.wp P o a w K' Q := by
  obtain ⟨w', hrun, r1, r2, r3⟩ := h.drop K ht hkey o.type n
  unfold Oper.wp execOp
  simp only [hop, resolve, invoke, builtin, Sem.run_bind, Sem.run_pure, Result.andThen_ok, List.map_toArray, List.map_cons, List.map_nil, hm, hx, hrun]
  exact hK w' r1 r2 r3
theorem wpList_mapDrop (n : Nat) (hg : o.guard = none) (m x : Operand) (t e : TypeId) (hop : o.op = Op.call { callee := Callee.builtin Builtin.delete, args := #[m, x], argTypes := #[t, k] }) (K : Keyed P k) (ht : P.underlying t = some (.map k e))
    (hm : a.eval m = .map (some b)) (h : MapAt P k w b f) {key : Value} {kl : Lit} (hx : a.eval x = key) (hkey : keyOf P k key = some kl)
    (hK : ∀ w', MapAt P k w' b (fnDel f key) → But b n w w' → w'.heap.size = w.heap.size → wpList P ops Q rest (a.put o.dst (.tuple #[])) w') : wpList P ops Q (o :: rest) a w :=
  wpList_plain hg fun _ hK' => wp_mapDrop n m x t e hop K ht hm h hx hkey fun w' r1 r2 r3 => hK' _ _ (hK w' r1 r2 r3)
end
end
end Go.Proofs.Ytfclbdlkpnoceaa
/-
  Maps whose entries are changed in place: m[k] = append(m[k], x). It names no program.
-/
namespace Go.Proofs.Ytfclbdlkpnoceaa
open Go Go.RowKit Go.Maps

section
open Classical
/-- Block b is a map with the keys and elements that f tells, its entries stamped each by its own number. -/
def MapSt (P : Program) (k : TypeId) (W : World) (b : Nat) (f : Value → Option Value) : Prop :=
  ∃ es clock, W.heap[b]? = some (.map es clock) ∧ (∀ e ∈ es.toList, e.born < clock) ∧ (es.toList.map (·.born)).Nodup ∧ (∀ e ∈ es.toList, ∃ l, keyOf P k e.key = some l) ∧ es.toList.Pairwise (fun x y => x.key ≠ y.key) ∧ (∀ e ∈ es.toList, f e.key = some e.val) ∧ ∀ x v, f x = some v → ∃ e ∈ es.toList, e.key = x

section
variable {P : Program} {k : TypeId} {w : World} {b : Nat} {f : Value → Option Value}
theorem MapSt.at (h : MapSt P k w b f) : MapAt P k w b f := by
  obtain ⟨es, clock, h1, _, _, h2⟩ := h
  exact ⟨es, clock, h1, h2⟩
theorem MapSt.lt (h : MapSt P k w b f) : b < w.heap.size := h.at.lt
theorem MapSt.kept {w' : World} (h : MapSt P k w b f) (hb : w'.heap[b]? = w.heap[b]?) : MapSt P k w' b f := by
  obtain ⟨es, clock, h1, h2⟩ := h
  exact ⟨es, clock, hb.trans h1, h2⟩
theorem MapSt.isMap (h : MapSt P k w b f) : ∃ es clock, w.heap[b]? = some (.map es clock) := by
  obtain ⟨es, clock, h1, _⟩ := h
  exact ⟨es, clock, h1⟩
theorem MapAt.isMap (h : MapAt P k w b f) : ∃ es clock, w.heap[b]? = some (.map es clock) := by
  obtain ⟨es, clock, h1, _⟩ := h
  exact ⟨es, clock, h1⟩
theorem MapSt.new (P : Program) (k : TypeId) (w : World) : MapSt P k (w.alloc (.map #[] 0)) w.heap.size (fun _ => none) :=
  ⟨#[], 0, (MapKept.heap_alloc w _).1, by simp, by simp, by simp, by simp, by simp, by simp⟩

theorem MapSt.drop {t e : TypeId} (h : MapSt P k w b f) (K : Keyed P k) (ht : P.underlying t = some (.map k e)) {key : Value} {kl : Lit} (hkey : keyOf P k key = some kl) (ty : TypeId) (n : Nat) :
    ∃ w', (Builtin.delete_ #[t, k] ty #[.map (some b), key]).run P w = .ok (.tuple #[]) w' ∧ MapSt P k w' b (fnDel f key) ∧ But b n w w' ∧ w'.heap.size = w.heap.size := by
  obtain ⟨es, clock, hb, hs1, hs2, hks, hp, hf, hx⟩ := h
  have hbut : ∀ o, But b n w (ChangeMaps.setBlock w b o) := fun o => ⟨rfl, rfl, rfl, by simp [ChangeMaps.setBlock], fun i _ hi => ChangeMaps.heap_setBlock_other hb _ hi⟩
  have hsz : ∀ o, (ChangeMaps.setBlock w b o).heap.size = w.heap.size := fun o => by simp [ChangeMaps.setBlock]
  rcases K.find w hkey es.toList hks with ⟨h1, h2⟩ | ⟨j, e0, h1, h2, h3⟩
  · refine ⟨ChangeMaps.setBlock w b (.map es clock), ?_, ⟨_, _, ChangeMaps.heap_setBlock_same hb _, hs1, hs2, hks, hp, ?_, ?_⟩, hbut _, hsz _⟩
    · simp [Builtin.delete_, run_underlying ht, MapKept.run_getObj_map hb, K.check w _ hkey, h1, MapKept.run_setObj_map _ hb, Result.andThen, ChangeMaps.setBlock]
    · intro x hx'
      rw [fnDel_other (h2 x hx')]; exact hf x hx'
    · intro x v hv
      by_cases hxk : x = key
      · subst hxk; rw [fnDel_same] at hv; cases hv
      · rw [fnDel_other hxk] at hv; exact hx x v hv
  · have hjl : j < es.toList.length := (List.getElem?_eq_some_iff.1 h2).1
    have hjs : j < es.size := by simpa using hjl
    have hsub : (es.eraseIdxIfInBounds j).toList = es.toList.eraseIdx j := by
      unfold Array.eraseIdxIfInBounds
      rw [dif_pos hjs]
      simp
    have hej : es.toList[j] = e0 := by simpa using (List.getElem?_eq_some_iff.1 h2).2
    have hsubl : (es.toList.eraseIdx j).Sublist es.toList := List.eraseIdx_sublist _ _
    have hne : ∀ x ∈ es.toList.eraseIdx j, x.key ≠ key := by
      intro x hx'
      rw [List.mem_eraseIdx_iff_getElem] at hx'
      obtain ⟨i, hi, hij, ex⟩ := hx'
      have hpw := List.pairwise_iff_getElem.1 hp
      rcases Nat.lt_or_ge i j with hl | hl
      · have := hpw i j hi hjl hl
        rw [hej, h3, ex] at this
        exact this
      · have := hpw j i hjl hi (by omega)
        rw [hej, h3, ex] at this
        exact this.symm
    refine ⟨ChangeMaps.setBlock w b (.map (es.eraseIdxIfInBounds j) clock), ?_, ⟨_, _, ChangeMaps.heap_setBlock_same hb _, ?_, ?_, ?_, ?_, ?_, ?_⟩, hbut _, hsz _⟩
    · simp [Builtin.delete_, run_underlying ht, MapKept.run_getObj_map hb, K.check w _ hkey, h1, MapKept.run_setObj_map _ hb, Result.andThen, ChangeMaps.setBlock]
    · intro x hx'
      rw [hsub] at hx'
      exact hs1 x (hsubl.subset hx')
    · rw [hsub]; exact hs2.sublist (hsubl.map _)
    · intro x hx'
      rw [hsub] at hx'
      exact hks x (hsubl.subset hx')
    · rw [hsub]; exact hp.sublist hsubl
    · intro x hx'
      rw [hsub] at hx'
      rw [fnDel_other (hne x hx')]
      exact hf x (hsubl.subset hx')
    · intro x v hv
      by_cases hxk : x = key
      · subst hxk; rw [fnDel_same] at hv; cases hv
      · rw [fnDel_other hxk] at hv
        obtain ⟨e', he', hk'⟩ := hx x v hv
        refine ⟨e', ?_, hk'⟩
        rw [hsub, List.mem_eraseIdx_iff_getElem]
        obtain ⟨i, hi, ei⟩ := List.getElem_of_mem he'
        refine ⟨i, hi, ?_, ei⟩
        rintro rfl
        exact hxk (by rw [← hk', ← ei, hej, h3])

/-- An entry found or laid, then stored into in a later world that has kept the map. -/
theorem MapSt.entry {t e : TypeId} (h : MapSt P k w b f) (K : Keyed P k) (ht : P.underlying t = some (.map k e)) {z : Value} (hz : ∀ u : World, (zeroValue e).run P u = .ok z u) {key : Value} {kl : Lit} (hkey : keyOf P k key = some kl) (n : Nat) :
    ∃ (st : Nat) (w1 : World), (Instr.mapEntry t (.map (some b)) key).run P w = .ok (.tuple #[(f key).getD z, goInt st]) w1 ∧ But b n w w1 ∧ w1.heap.size = w.heap.size ∧ (∃ es clock, w1.heap[b]? = some (.map es clock)) ∧
      ∀ (w2 : World) (val : Value), w2.heap[b]? = w1.heap[b]? → ∃ w3, (Instr.entryStore t (.map (some b)) (goInt st) val).run P w2 = .ok () w3 ∧ MapSt P k w3 b (fnPut f key val) ∧ But b w2.heap.size w2 w3 ∧ w3.heap.size = w2.heap.size := by
  obtain ⟨es, clock, hb, hs1, hs2, hks, hp, hf, hx⟩ := h
  have hbut : ∀ o, But b n w (ChangeMaps.setBlock w b o) := fun o => ⟨rfl, rfl, rfl, by simp [ChangeMaps.setBlock], fun i _ hi => ChangeMaps.heap_setBlock_other hb _ hi⟩
  rcases K.find w hkey es.toList hks with ⟨h1, h2⟩ | ⟨j, e0, h1, h2, h3⟩
  · have hn : f key = none := by
      cases hv : f key with
      | none => rfl
      | some v => obtain ⟨e', he', hk'⟩ := hx key v hv; exact absurd hk' (h2 e' he')
    refine ⟨clock, ChangeMaps.setBlock w b (.map (es.push ⟨key, z, clock⟩) (clock + 1)), ?_, hbut _, by simp [ChangeMaps.setBlock], ⟨_, _, ChangeMaps.heap_setBlock_same hb _⟩, fun w2 val hw2 => ?_⟩
    · rw [hn]
      simp [Instr.mapEntry, run_underlying ht, MapKept.run_getObj_map hb, K.check w false hkey, h1, hz, MapKept.run_setObj_map _ hb, Result.andThen, ChangeMaps.setBlock]
    · rw [ChangeMaps.heap_setBlock_same hb] at hw2
      have hidx : (es.push ⟨key, z, clock⟩).findIdx? (fun e => ((e.born : Nat) : Int) == ((clock : Nat) : Int)) = some es.size := by
        rw [WideElems.findIdx_arr]
        exact WideElems.findIdx_born (l := (es.push ⟨key, z, clock⟩).toList) (j := es.size) (e0 := ⟨key, z, clock⟩) (by
          simp only [Array.toList_push, List.map_append, List.map_cons, List.map_nil]
          refine List.nodup_append.2 ⟨hs2, by simp, fun a ha c hc e1 => ?_⟩
          simp only [List.mem_singleton] at hc
          obtain ⟨x, hx', rfl⟩ := List.mem_map.1 ha
          have := hs1 x hx'
          omega) (by simp)
      have hmod : (es.push ⟨key, z, clock⟩).modify es.size (fun e => { e with val := val }) = es.push ⟨key, val, clock⟩ := by
        apply Array.ext'
        rw [Array.toList_modify, Array.toList_push, Array.toList_push, ← Array.length_toList, WideElems.modify_last]
      have hin : ∀ x ∈ (es.push ⟨key, val, clock⟩).toList, x ∈ es.toList ∨ x = ⟨key, val, clock⟩ := fun x hx' => by simpa using hx'
      refine ⟨ChangeMaps.setBlock w2 b (.map (es.push ⟨key, val, clock⟩) (clock + 1)), ?_, ⟨_, _, ChangeMaps.heap_setBlock_same hw2 _, ?_, ?_, ?_, ?_, ?_, ?_⟩, ⟨rfl, rfl, rfl, by simp [ChangeMaps.setBlock], fun i _ hi => ChangeMaps.heap_setBlock_other hw2 _ hi⟩, by simp [ChangeMaps.setBlock]⟩
      · simp [Instr.entryStore, MapKept.run_getObj_map hw2, asInt, asIntOf, goInt, hidx, hmod, MapKept.run_setObj_map _ hw2, Result.andThen, ChangeMaps.setBlock]
      · intro x hx'
        rcases hin x hx' with h | rfl
        · have := hs1 x h; omega
        · exact Nat.lt_succ_self _
      · simp only [Array.toList_push, List.map_append, List.map_cons, List.map_nil]
        refine List.nodup_append.2 ⟨hs2, by simp, fun a ha c hc e1 => ?_⟩
        simp only [List.mem_singleton] at hc
        obtain ⟨x, hx', rfl⟩ := List.mem_map.1 ha
        have := hs1 x hx'
        omega
      · intro x hx'
        rcases hin x hx' with h | rfl
        · exact hks x h
        · exact ⟨kl, hkey⟩
      · rw [Array.toList_push, List.pairwise_append]
        exact ⟨hp, by simp, fun x hx' y hy => by simp only [List.mem_singleton] at hy; subst hy; exact h2 x hx'⟩
      · intro x hx'
        rcases hin x hx' with h | rfl
        · rw [fnPut_other (h2 x h)]; exact hf x h
        · exact fnPut_same _ _ _
      · intro x v hv
        by_cases hxk : x = key
        · exact ⟨⟨key, val, clock⟩, by simp, hxk.symm⟩
        · rw [fnPut_other hxk] at hv
          obtain ⟨e', he', hk'⟩ := hx x v hv
          exact ⟨e', by simp [he'], hk'⟩
  · have hj : es[j]? = some e0 := by simpa using h2
    have hv : f key = some e0.val := by rw [← h3]; exact hf e0 (List.mem_of_getElem? h2)
    have hjl : j < es.toList.length := (List.getElem?_eq_some_iff.1 h2).1
    have hsame : es.modify j (fun e => { e with key := key }) = es := by
      apply Array.ext'
      rw [Array.toList_modify, ChangeMaps.modify_eq_set _ _ _ _ h2]
      have : ({ e0 with key := key } : MapEntry) = e0 := by rw [← h3]
      rw [this]
      exact WideElems.set_self _ _ _ h2
    refine ⟨e0.born, ChangeMaps.setBlock w b (.map es clock), ?_, hbut _, by simp [ChangeMaps.setBlock], ⟨_, _, ChangeMaps.heap_setBlock_same hb _⟩, fun w2 val hw2 => ?_⟩
    · rw [hv]
      simp [Instr.mapEntry, run_underlying ht, MapKept.run_getObj_map hb, K.check w false hkey, h1, hj, h3, K.stays w hkey, hsame, MapKept.run_setObj_map _ hb, Result.andThen, ChangeMaps.setBlock]
    · rw [ChangeMaps.heap_setBlock_same hb] at hw2
      have hidx : es.findIdx? (fun e => ((e.born : Nat) : Int) == ((e0.born : Nat) : Int)) = some j := by
        rw [WideElems.findIdx_arr]
        exact WideElems.findIdx_born hs2 h2
      have hlist : (es.modify j (fun e => { e with val := val })).toList = es.toList.set j { e0 with val := val } := by rw [Array.toList_modify, ChangeMaps.modify_eq_set _ _ _ _ h2]
      have hej : es.toList[j] = e0 := by simpa using (List.getElem?_eq_some_iff.1 h2).2
      have hmem : ∀ x ∈ es.toList.set j { e0 with val := val }, x = { e0 with val := val } ∨ (x ∈ es.toList ∧ x.key ≠ key) := by
        intro x hx'
        obtain ⟨i, hi, ex⟩ := List.getElem_of_mem hx'
        rw [List.getElem_set] at ex
        split at ex
        · exact Or.inl ex.symm
        · rename_i hne
          have hi' : i < es.toList.length := by simpa using hi
          refine Or.inr ⟨ex ▸ List.getElem_mem hi', ?_⟩
          have hpw := List.pairwise_iff_getElem.1 hp
          have hne2 : es.toList[i].key ≠ es.toList[j].key := by
            rcases Nat.lt_or_ge i j with hl | hl
            · exact hpw i j hi' hjl hl
            · exact (hpw j i hjl hi' (by omega)).symm
          rw [hej, h3, ex] at hne2
          exact hne2
      have hkeys : (es.toList.set j { e0 with val := val }).map (·.key) = es.toList.map (·.key) := by
        rw [List.map_set]
        exact WideElems.set_self _ _ _ (by rw [List.getElem?_map, h2]; rfl)
      have hborn : (es.toList.set j { e0 with val := val }).map (·.born) = es.toList.map (·.born) := by
        rw [List.map_set]
        exact WideElems.set_self _ _ _ (by rw [List.getElem?_map, h2]; rfl)
      refine ⟨ChangeMaps.setBlock w2 b (.map (es.modify j (fun e => { e with val := val })) clock), ?_, ⟨_, _, ChangeMaps.heap_setBlock_same hw2 _, ?_, ?_, ?_, ?_, ?_, ?_⟩, ⟨rfl, rfl, rfl, by simp [ChangeMaps.setBlock], fun i _ hi => ChangeMaps.heap_setBlock_other hw2 _ hi⟩, by simp [ChangeMaps.setBlock]⟩
      · simp [Instr.entryStore, MapKept.run_getObj_map hw2, asInt, asIntOf, goInt, hidx, MapKept.run_setObj_map _ hw2, Result.andThen, ChangeMaps.setBlock]
      · rw [hlist]
        intro x hx'
        rcases hmem x hx' with rfl | ⟨h, _⟩
        · exact hs1 e0 (List.mem_of_getElem? h2)
        · exact hs1 x h
      · rw [hlist, hborn]; exact hs2
      · rw [hlist]
        intro x hx'
        rcases hmem x hx' with rfl | ⟨h, _⟩
        · exact hks e0 (List.mem_of_getElem? h2)
        · exact hks x h
      · rw [hlist]
        have h5 : (es.toList.map (·.key)).Pairwise (· ≠ ·) := List.pairwise_map.2 hp
        rw [← hkeys] at h5
        exact List.pairwise_map.1 h5
      · rw [hlist]
        intro x hx'
        rcases hmem x hx' with rfl | ⟨h, hne⟩
        · show fnPut f key val e0.key = _
          rw [h3]; exact fnPut_same _ _ _
        · rw [fnPut_other hne]; exact hf x h
      · intro x v hv'
        rw [hlist]
        by_cases hxk : x = key
        · exact ⟨{ e0 with val := val }, List.mem_iff_getElem.2 ⟨j, by simpa using hjl, by simp⟩, by rw [hxk]; exact h3⟩
        · rw [fnPut_other hxk] at hv'
          obtain ⟨e', he', hk'⟩ := hx x v hv'
          obtain ⟨i, hi, ei⟩ := List.getElem_of_mem he'
          refine ⟨e', List.mem_iff_getElem.2 ⟨i, by simpa using hi, ?_⟩, hk'⟩
          rw [List.getElem_set, if_neg]
          · exact ei
          · rintro rfl
            exact hxk (by rw [← hk', ← ei, hej, h3])
end
end
end Go.Proofs.Ytfclbdlkpnoceaa
/-
  The memory of Order under way: what lies where, and that no two of them lie in one block.
-/
namespace Go.Proofs.Ytfclbdlkpnoceaa
open Go.RowKit Go.Shelf Go.Maps

/-- What kind a block is of: a map, or cells of a type. -/
def Kd (W : World) (k : Nat) : Option TypeId → Prop
  | none => ∃ es clock, W.heap[k]? = some (.map es clock)
  | some t => ∃ c fr, W.heap[k]? = some (.cells c t fr)
theorem Kd.lt {W : World} {k : Nat} {t : Option TypeId} (h : Kd W k t) : k < W.heap.size := by
  cases t with
  | none => obtain ⟨_, _, h⟩ := h; exact (Array.getElem?_eq_some_iff.1 h).1
  | some t => obtain ⟨_, _, h⟩ := h; exact (Array.getElem?_eq_some_iff.1 h).1
theorem Kd.ne {W : World} {a b : Nat} {s t : Option TypeId} (h : Kd W a s) (k : Kd W b t) (hne : s ≠ t) (e : a = b) : False := by
  subst e
  cases s with
  | none =>
    cases t with
    | none => exact hne rfl
    | some t => obtain ⟨_, _, h⟩ := h; obtain ⟨_, _, k⟩ := k; rw [h] at k; cases k
  | some s =>
    cases t with
    | none => obtain ⟨_, _, h⟩ := h; obtain ⟨_, _, k⟩ := k; rw [h] at k; cases k
    | some t => obtain ⟨_, _, h⟩ := h; obtain ⟨_, _, k⟩ := k; rw [h] at k; cases k; exact hne rfl
theorem Kd.own {W : World} {base sz n : Nat} {t : TypeId} {v : Value} {xs : List Value} (h : W.ownsRow base t sz v n xs) (k : Nat) (e : v.ownBlock = some k) : Kd W k (some t) := by
  obtain ⟨_, _, c, fr, h2⟩ := own_block h e
  exact ⟨c, fr, h2⟩
theorem own_same {A B : World} {base sz n : Nat} {t : TypeId} {v : Value} {xs : List Value} (h : A.ownsRow base t sz v n xs) (hs : ∀ k, v.ownBlock = some k → B.heap[k]? = A.heap[k]?) : B.ownsRow base t sz v n xs := by
  refine ⟨h.1, ?_⟩
  rcases h.2 with h2 | ⟨g, cap, cur, e, h1, h2, h3⟩
  · exact .inl h2
  · subst e
    exact .inr ⟨g, cap, cur, rfl, h1, (hs g rfl).trans h2, h3⟩

structure OM (Z A g B D : Nat) (w W : World) (F : Value → Option Value) (q : Option Addr) (c : Nat) (L : List Nat) (G : Value → Option Value) (U : List Nat → List Nat) (sl : List Nat → Value) (dn : List Nat) (vo : Value) (ks : List O) : Prop where
  bel : Below Z w W
  zl : Z ≤ A ∧ Z ≤ g ∧ Z ≤ B ∧ Z ≤ D ∧ A ≠ B
  left : MapAt Try.prog 33 W A F
  hp : HpS W g q c L
  wtm : MapSt Try.prog 33 W B G
  wrow : ∀ y, U y ≠ [] → W.ownsRow Z 3 1 (sl y) (U y).length (ints (U y))
  wapart : ∀ y y' k, U y ≠ [] → U y' ≠ [] → y ≠ y' → (sl y).ownBlock = some k → (sl y').ownBlock ≠ some k
  wheap : ∀ y k, U y ≠ [] → (sl y).ownBlock = some k → (Value.slice q L.length c).ownBlock ≠ some k
  wdone : ∀ y, U y ≠ [] → (sl y).ownBlock ≠ some D
  done : Row W D 3 (ints dn)
  dheap : (Value.slice q L.length c).ownBlock ≠ some D
  out : OwnO Z W vo ks
  lnk : ∀ o ∈ ks, IsIds W.heap.size W o.q o.n o.c o.links ∧ ∀ a, o.q = some a → a.block < W.heap.size ∧ a.block ≠ A ∧ a.block ≠ g ∧ a.block ≠ B ∧ a.block ≠ D ∧ (Value.slice q L.length c).ownBlock ≠ some a.block ∧ vo.ownBlock ≠ some a.block ∧ ∀ y, U y ≠ [] → (sl y).ownBlock ≠ some a.block

section
variable {Z A g B D : Nat} {w W W' : World} {F : Value → Option Value} {q : Option Addr} {c : Nat} {L : List Nat} {G : Value → Option Value} {U : List Nat → List Nat} {sl : List Nat → Value} {dn : List Nat} {vo : Value} {ks : List O}
theorem OM.kA (h : OM Z A g B D w W F q c L G U sl dn vo ks) : Kd W A none := h.left.isMap
theorem OM.kB (h : OM Z A g B D w W F q c L G U sl dn vo ks) : Kd W B none := h.wtm.isMap
theorem OM.kg (h : OM Z A g B D w W F q c L G U sl dn vo ks) : Kd W g (some 69) := ⟨_, _, h.hp.row⟩
theorem OM.kD (h : OM Z A g B D w W F q c L G U sl dn vo ks) : Kd W D (some 3) := ⟨_, _, h.done⟩
theorem OM.kh (h : OM Z A g B D w W F q c L G U sl dn vo ks) (k : Nat) (e : (Value.slice q L.length c).ownBlock = some k) : Kd W k (some 3) := Kd.own h.hp.own k e
theorem OM.ky (h : OM Z A g B D w W F q c L G U sl dn vo ks) (y : List Nat) (hy : U y ≠ []) (k : Nat) (e : (sl y).ownBlock = some k) : Kd W k (some 3) := Kd.own (h.wrow y hy) k e
theorem OM.ko (h : OM Z A g B D w W F q c L G U sl dn vo ks) (k : Nat) (e : vo.ownBlock = some k) : Kd W k (some 46) := Kd.own h.out k e
theorem OM.later (h : OM Z A g B D w W F q c L G U sl dn vo ks) (hbel : Below Z w W') (hz : W.heap.size ≤ W'.heap.size) (hb : Below W.heap.size W W') : OM Z A g B D w W' F q c L G U sl dn vo ks := by
  have hs : ∀ k, k < W.heap.size → ¬ (False) → W'.heap[k]? = W.heap[k]? := fun k hk _ => hb.block k hk
  have nA : ¬ (False) := id
  have ng : ¬ (False) := id
  have nB : ¬ (False) := id
  have nD : ¬ (False) := id
  have nh : ∀ k, (Value.slice q L.length c).ownBlock = some k → ¬ (False) := fun _ _ => id
  have ny : ∀ y, U y ≠ [] → ∀ k, (sl y).ownBlock = some k → ¬ (False) := fun _ _ _ _ => id
  have no : ∀ k, vo.ownBlock = some k → ¬ (False) := fun _ _ => id
  have nl : ∀ o ∈ ks, ∀ a, o.q = some a → ¬ (False) := fun _ _ _ _ => id
  exact ⟨hbel,
    h.zl,
    h.left.kept (hs A h.kA.lt nA),
    ⟨(hs g h.kg.lt ng).trans h.hp.row, own_same h.hp.own (fun k e => hs k (h.kh k e).lt (nh k e))⟩,
    h.wtm.kept (hs B h.kB.lt nB),
    fun y hy => own_same (h.wrow y hy) (fun k e => hs k (h.ky y hy k e).lt (ny y hy k e)),
    h.wapart,
    h.wheap,
    h.wdone,
    (hs D h.kD.lt nD).trans h.done,
    h.dheap,
    own_same h.out (fun k e => hs k (h.ko k e).lt (no k e)),
    fun o ho => ⟨((h.lnk o ho).1.only (fun a e => hs _ ((h.lnk o ho).2 a e).1 (nl o ho a e))).mono hz, fun a e => ⟨Nat.lt_of_lt_of_le ((h.lnk o ho).2 a e).1 hz, ((h.lnk o ho).2 a e).2⟩⟩⟩
theorem OM.heap (h : OM Z A g B D w W F q c L G U sl dn vo ks) (hbel : Below Z w W') (hz : W.heap.size ≤ W'.heap.size) {q2 : Option Addr} {c2 : Nat} {L2 : List Nat} (st : HpS W' g q2 c2 L2) (hf : HpFr g (.slice q L.length c) W W') (new : HpNew (.slice q L.length c) (.slice q2 L2.length c2) W) : OM Z A g B D w W' F q2 c2 L2 G U sl dn vo ks := by
  have hs : ∀ k, k < W.heap.size → ¬ (k = g ∨ (Value.slice q L.length c).ownBlock = some k) → W'.heap[k]? = W.heap[k]? := fun k hk hn => hf.block k hk (fun e => hn (.inl e)) (fun e => hn (.inr e.symm))
  have nA : ¬ (A = g ∨ (Value.slice q L.length c).ownBlock = some A) := fun e => e.elim (h.kA.ne h.kg (by decide)) (fun e => h.kA.ne (h.kh _ e) (by decide) rfl)
  have nB : ¬ (B = g ∨ (Value.slice q L.length c).ownBlock = some B) := fun e => e.elim (h.kB.ne h.kg (by decide)) (fun e => h.kB.ne (h.kh _ e) (by decide) rfl)
  have nD : ¬ (D = g ∨ (Value.slice q L.length c).ownBlock = some D) := fun e => e.elim (h.kD.ne h.kg (by decide)) h.dheap
  have ny : ∀ y, U y ≠ [] → ∀ k, (sl y).ownBlock = some k → ¬ (k = g ∨ (Value.slice q L.length c).ownBlock = some k) := fun y hy k e0 e => e.elim ((h.ky y hy k e0).ne h.kg (by decide)) (h.wheap y k hy e0)
  have no : ∀ k, vo.ownBlock = some k → ¬ (k = g ∨ (Value.slice q L.length c).ownBlock = some k) := fun k e0 e => e.elim ((h.ko k e0).ne h.kg (by decide)) (fun e => (h.ko k e0).ne (h.kh k e) (by decide) rfl)
  have nl : ∀ o ∈ ks, ∀ a, o.q = some a → ¬ (a.block = g ∨ (Value.slice q L.length c).ownBlock = some a.block) := fun o ho a e0 e => e.elim ((h.lnk o ho).2 a e0).2.2.1 ((h.lnk o ho).2 a e0).2.2.2.2.2.1
  exact ⟨hbel,
    h.zl,
    h.left.kept (hs A h.kA.lt nA),
    st,
    h.wtm.kept (hs B h.kB.lt nB),
    fun y hy => own_same (h.wrow y hy) (fun k e => hs k (h.ky y hy k e).lt (ny y hy k e)),
    h.wapart,
    fun y k hy e e2 => (new k e2).elim (h.wheap y k hy e) (fun hge => absurd (h.ky y hy k e).lt (by omega)),
    h.wdone,
    (hs D h.kD.lt nD).trans h.done,
    fun e => (new D e).elim h.dheap (fun hge => absurd h.kD.lt (by omega)),
    own_same h.out (fun k e => hs k (h.ko k e).lt (no k e)),
    fun o ho => ⟨((h.lnk o ho).1.only (fun a e => hs _ ((h.lnk o ho).2 a e).1 (nl o ho a e))).mono hz, fun a e => by obtain ⟨h1, h2, h3, h4, h5, h6, h7⟩ := (h.lnk o ho).2 a e; exact ⟨Nat.lt_of_lt_of_le h1 hz, h2, h3, h4, h5, fun e2 => (new _ e2).elim h6 (fun hge => by omega), h7⟩⟩⟩
theorem OM.wait (h : OM Z A g B D w W F q c L G U sl dn vo ks) (hbel : Below Z w W') (hz : W.heap.size ≤ W'.heap.size) {v0 v2 : Value} {y0 X : List Nat} {G2 : Value → Option Value} (hf : ∀ k, k < W.heap.size → k ≠ B → some k ≠ v0.ownBlock → W'.heap[k]? = W.heap[k]?) (hv : v0.ownBlock = none ∨ (U y0 ≠ [] ∧ v0 = sl y0)) (hm : MapSt Try.prog 33 W' B G2) (ho : W'.ownsRow Z 3 1 v2 X.length (ints X)) (new : HpNew v0 v2 W) : OM Z A g B D w W' F q c L G2 (fun y => if y = y0 then X else U y) (fun y => if y = y0 then v2 else sl y) dn vo ks := by
  have hs : ∀ k, k < W.heap.size → ¬ (k = B ∨ v0.ownBlock = some k) → W'.heap[k]? = W.heap[k]? := fun k hk hn => hf k hk (fun e => hn (.inl e)) (fun e => hn (.inr e.symm))
  have kv : ∀ k, v0.ownBlock = some k → (U y0 ≠ [] ∧ (sl y0).ownBlock = some k) ∧ Kd W k (some 3) := fun k e => by
    rcases hv with e0 | ⟨h1, h2⟩
    · rw [e0] at e; cases e
    · subst h2; exact ⟨⟨h1, e⟩, h.ky y0 h1 k e⟩
  have nA : ¬ (A = B ∨ v0.ownBlock = some A) := fun e => e.elim h.zl.2.2.2.2 (fun e => h.kA.ne (kv _ e).2 (by decide) rfl)
  have ng : ¬ (g = B ∨ v0.ownBlock = some g) := fun e => e.elim (h.kg.ne h.kB (by decide)) (fun e => h.kg.ne (kv _ e).2 (by decide) rfl)
  have nD : ¬ (D = B ∨ v0.ownBlock = some D) := fun e => e.elim (h.kD.ne h.kB (by decide)) (fun e => h.wdone y0 (kv _ e).1.1 (kv _ e).1.2)
  have nh : ∀ k, (Value.slice q L.length c).ownBlock = some k → ¬ (k = B ∨ v0.ownBlock = some k) := fun k e0 e => e.elim ((h.kh k e0).ne h.kB (by decide)) (fun e => h.wheap y0 k (kv _ e).1.1 (kv _ e).1.2 e0)
  have no : ∀ k, vo.ownBlock = some k → ¬ (k = B ∨ v0.ownBlock = some k) := fun k e0 e => e.elim ((h.ko k e0).ne h.kB (by decide)) (fun e => (h.ko k e0).ne (kv _ e).2 (by decide) rfl)
  have nl : ∀ o ∈ ks, ∀ a, o.q = some a → ¬ (a.block = B ∨ v0.ownBlock = some a.block) := fun o ho a e0 e => e.elim ((h.lnk o ho).2 a e0).2.2.2.1 (fun e => ((h.lnk o ho).2 a e0).2.2.2.2.2.2.2 y0 (kv _ e).1.1 (kv _ e).1.2)
  exact ⟨hbel,
    h.zl,
    h.left.kept (hs A h.kA.lt nA),
    ⟨(hs g h.kg.lt ng).trans h.hp.row, own_same h.hp.own (fun k e => hs k (h.kh k e).lt (nh k e))⟩,
    hm,
    fun y hy => by
      by_cases he : y = y0
      · simp only [he, if_true]; exact ho
      · simp only [he, if_false] at hy ⊢
        exact own_same (h.wrow y hy) (fun k e => hs k (h.ky y hy k e).lt (fun e2 => e2.elim ((h.ky y hy k e).ne h.kB (by decide)) (fun e2 => h.wapart y y0 k hy (kv _ e2).1.1 he e (kv _ e2).1.2))),
    fun y y' k hy hy' hne e e2 => by
      by_cases he : y = y0
      · by_cases he' : y' = y0
        · exact hne (he.trans he'.symm)
        · simp only [he, he', if_true, if_false] at hy hy' e e2
          exact (new k e).elim (fun e3 => h.wapart y' y0 k hy' (kv _ e3).1.1 he' e2 (kv _ e3).1.2) (fun hge => absurd (h.ky y' hy' k e2).lt (by omega))
      · by_cases he' : y' = y0
        · simp only [he, he', if_true, if_false] at hy hy' e e2
          exact (new k e2).elim (fun e3 => h.wapart y y0 k hy (kv _ e3).1.1 he e (kv _ e3).1.2) (fun hge => absurd (h.ky y hy k e).lt (by omega))
        · simp only [he, he', if_false] at hy hy' e e2
          exact h.wapart y y' k hy hy' hne e e2,
    fun y k hy e e2 => by
      by_cases he : y = y0
      · simp only [he, if_true] at e
        exact (new k e).elim (fun e3 => h.wheap y0 k (kv _ e3).1.1 (kv _ e3).1.2 e2) (fun hge => absurd (h.kh k e2).lt (by omega))
      · simp only [he, if_false] at hy e
        exact h.wheap y k hy e e2,
    fun y hy e => by
      by_cases he : y = y0
      · simp only [he, if_true] at e
        exact (new D e).elim (fun e3 => h.wdone y0 (kv _ e3).1.1 (kv _ e3).1.2) (fun hge => absurd h.kD.lt (by omega))
      · simp only [he, if_false] at hy e
        exact h.wdone y hy e,
    (hs D h.kD.lt nD).trans h.done,
    h.dheap,
    own_same h.out (fun k e => hs k (h.ko k e).lt (no k e)),
    fun o ho2 => ⟨((h.lnk o ho2).1.only (fun a e => hs _ ((h.lnk o ho2).2 a e).1 (nl o ho2 a e))).mono hz, fun a e => by
      obtain ⟨h1, h2, h3, h4, h5, h6, h7, h8⟩ := (h.lnk o ho2).2 a e
      refine ⟨Nat.lt_of_lt_of_le h1 hz, h2, h3, h4, h5, h6, h7, fun y hy e2 => ?_⟩
      by_cases he : y = y0
      · simp only [he, if_true] at e2
        exact (new _ e2).elim (fun e3 => h8 y0 (kv _ e3).1.1 (kv _ e3).1.2) (fun hge => by omega)
      · simp only [he, if_false] at hy e2
        exact h8 y hy e2⟩⟩
theorem OM.donePut (h : OM Z A g B D w W F q c L G U sl dn vo ks) (hbel : Below Z w W') (hz : W.heap.size ≤ W'.heap.size) {dn2 : List Nat} (hf : But D W.heap.size W W') (hr : Row W' D 3 (ints dn2)) : OM Z A g B D w W' F q c L G U sl dn2 vo ks := by
  have hs : ∀ k, k < W.heap.size → ¬ (k = D) → W'.heap[k]? = W.heap[k]? := fun k hk hn => hf.block k hk hn
  have nA : ¬ (A = D) := h.kA.ne h.kD (by decide)
  have ng : ¬ (g = D) := h.kg.ne h.kD (by decide)
  have nB : ¬ (B = D) := h.kB.ne h.kD (by decide)
  have nh : ∀ k, (Value.slice q L.length c).ownBlock = some k → ¬ (k = D) := fun k e0 e => by subst e; exact h.dheap e0
  have ny : ∀ y, U y ≠ [] → ∀ k, (sl y).ownBlock = some k → ¬ (k = D) := fun y hy k e0 e => by subst e; exact h.wdone y hy e0
  have no : ∀ k, vo.ownBlock = some k → ¬ (k = D) := fun k e0 => (h.ko k e0).ne h.kD (by decide)
  have nl : ∀ o ∈ ks, ∀ a, o.q = some a → ¬ (a.block = D) := fun o ho a e0 => ((h.lnk o ho).2 a e0).2.2.2.2.1
  exact ⟨hbel,
    h.zl,
    h.left.kept (hs A h.kA.lt nA),
    ⟨(hs g h.kg.lt ng).trans h.hp.row, own_same h.hp.own (fun k e => hs k (h.kh k e).lt (nh k e))⟩,
    h.wtm.kept (hs B h.kB.lt nB),
    fun y hy => own_same (h.wrow y hy) (fun k e => hs k (h.ky y hy k e).lt (ny y hy k e)),
    h.wapart,
    h.wheap,
    h.wdone,
    hr,
    h.dheap,
    own_same h.out (fun k e => hs k (h.ko k e).lt (no k e)),
    fun o ho => ⟨((h.lnk o ho).1.only (fun a e => hs _ ((h.lnk o ho).2 a e).1 (nl o ho a e))).mono hz, fun a e => ⟨Nat.lt_of_lt_of_le ((h.lnk o ho).2 a e).1 hz, ((h.lnk o ho).2 a e).2⟩⟩⟩
theorem OM.outPut (h : OM Z A g B D w W F q c L G U sl dn vo ks) (hbel : Below Z w W') (hz : W.heap.size ≤ W'.heap.size) {vo2 : Value} {x : O} (hf : ∀ k, k < W.heap.size → some k ≠ vo.ownBlock → W'.heap[k]? = W.heap[k]?) (ho2 : OwnO Z W' vo2 (ks ++ [x])) (new : HpNew vo vo2 W) (hx : IsIds W.heap.size W x.q x.n x.c x.links) (hxa : ∀ a, x.q = some a → a.block < W.heap.size ∧ a.block ≠ A ∧ a.block ≠ g ∧ a.block ≠ B ∧ a.block ≠ D ∧ (Value.slice q L.length c).ownBlock ≠ some a.block ∧ vo.ownBlock ≠ some a.block ∧ ∀ y, U y ≠ [] → (sl y).ownBlock ≠ some a.block) : OM Z A g B D w W' F q c L G U sl dn vo2 (ks ++ [x]) := by
  have hs : ∀ k, k < W.heap.size → ¬ (vo.ownBlock = some k) → W'.heap[k]? = W.heap[k]? := fun k hk hn => hf k hk (fun e => hn e.symm)
  have nA : ¬ (vo.ownBlock = some A) := fun e => h.kA.ne (h.ko _ e) (by decide) rfl
  have ng : ¬ (vo.ownBlock = some g) := fun e => h.kg.ne (h.ko _ e) (by decide) rfl
  have nB : ¬ (vo.ownBlock = some B) := fun e => h.kB.ne (h.ko _ e) (by decide) rfl
  have nD : ¬ (vo.ownBlock = some D) := fun e => h.kD.ne (h.ko _ e) (by decide) rfl
  have nh : ∀ k, (Value.slice q L.length c).ownBlock = some k → ¬ (vo.ownBlock = some k) := fun k e0 e => (h.kh k e0).ne (h.ko _ e) (by decide) rfl
  have ny : ∀ y, U y ≠ [] → ∀ k, (sl y).ownBlock = some k → ¬ (vo.ownBlock = some k) := fun y hy k e0 e => (h.ky y hy k e0).ne (h.ko _ e) (by decide) rfl
  exact ⟨hbel,
    h.zl,
    h.left.kept (hs A h.kA.lt nA),
    ⟨(hs g h.kg.lt ng).trans h.hp.row, own_same h.hp.own (fun k e => hs k (h.kh k e).lt (nh k e))⟩,
    h.wtm.kept (hs B h.kB.lt nB),
    fun y hy => own_same (h.wrow y hy) (fun k e => hs k (h.ky y hy k e).lt (ny y hy k e)),
    h.wapart,
    h.wheap,
    h.wdone,
    (hs D h.kD.lt nD).trans h.done,
    h.dheap,
    ho2,
    fun o ho => by
      have hall : IsIds W.heap.size W o.q o.n o.c o.links ∧ ∀ a, o.q = some a → a.block < W.heap.size ∧ a.block ≠ A ∧ a.block ≠ g ∧ a.block ≠ B ∧ a.block ≠ D ∧ (Value.slice q L.length c).ownBlock ≠ some a.block ∧ vo.ownBlock ≠ some a.block ∧ ∀ y, U y ≠ [] → (sl y).ownBlock ≠ some a.block := by
        rcases List.mem_append.1 ho with ho | ho
        · exact h.lnk o ho
        · simp only [List.mem_singleton] at ho; subst ho; exact ⟨hx, hxa⟩
      refine ⟨(hall.1.only (fun a e => hs _ (hall.2 a e).1 (hall.2 a e).2.2.2.2.2.2.1)).mono hz, fun a e => ?_⟩
      obtain ⟨h1, h2, h3, h4, h5, h6, h7, h8⟩ := hall.2 a e
      exact ⟨Nat.lt_of_lt_of_le h1 hz, h2, h3, h4, h5, h6, fun e2 => (new _ e2).elim h7 (fun hge => by omega), h8⟩⟩
theorem OM.leftPut (h : OM Z A g B D w W F q c L G U sl dn vo ks) (hbel : Below Z w W') (hz : W.heap.size ≤ W'.heap.size) {F2 : Value → Option Value} (hf : But A W.heap.size W W') (hm : MapAt Try.prog 33 W' A F2) : OM Z A g B D w W' F2 q c L G U sl dn vo ks := by
  have hs : ∀ k, k < W.heap.size → ¬ (k = A) → W'.heap[k]? = W.heap[k]? := fun k hk hn => hf.block k hk hn
  have ng : ¬ (g = A) := h.kg.ne h.kA (by decide)
  have nB : ¬ (B = A) := fun e => h.zl.2.2.2.2 e.symm
  have nD : ¬ (D = A) := h.kD.ne h.kA (by decide)
  have nh : ∀ k, (Value.slice q L.length c).ownBlock = some k → ¬ (k = A) := fun k e0 => (h.kh k e0).ne h.kA (by decide)
  have ny : ∀ y, U y ≠ [] → ∀ k, (sl y).ownBlock = some k → ¬ (k = A) := fun y hy k e0 => (h.ky y hy k e0).ne h.kA (by decide)
  have no : ∀ k, vo.ownBlock = some k → ¬ (k = A) := fun k e0 => (h.ko k e0).ne h.kA (by decide)
  have nl : ∀ o ∈ ks, ∀ a, o.q = some a → ¬ (a.block = A) := fun o ho a e0 => ((h.lnk o ho).2 a e0).2.1
  exact ⟨hbel,
    h.zl,
    hm,
    ⟨(hs g h.kg.lt ng).trans h.hp.row, own_same h.hp.own (fun k e => hs k (h.kh k e).lt (nh k e))⟩,
    h.wtm.kept (hs B h.kB.lt nB),
    fun y hy => own_same (h.wrow y hy) (fun k e => hs k (h.ky y hy k e).lt (ny y hy k e)),
    h.wapart,
    h.wheap,
    h.wdone,
    (hs D h.kD.lt nD).trans h.done,
    h.dheap,
    own_same h.out (fun k e => hs k (h.ko k e).lt (no k e)),
    fun o ho => ⟨((h.lnk o ho).1.only (fun a e => hs _ ((h.lnk o ho).2 a e).1 (nl o ho a e))).mono hz, fun a e => ⟨Nat.lt_of_lt_of_le ((h.lnk o ho).2 a e).1 hz, ((h.lnk o ho).2 a e).2⟩⟩⟩
theorem OM.waitDel (h : OM Z A g B D w W F q c L G U sl dn vo ks) (hbel : Below Z w W') (hz : W.heap.size ≤ W'.heap.size) {G2 : Value → Option Value} {U2 : List Nat → List Nat} (hf : But B W.heap.size W W') (hm : MapSt Try.prog 33 W' B G2) (hU : ∀ y, U2 y ≠ [] → U2 y = U y) : OM Z A g B D w W' F q c L G2 U2 sl dn vo ks := by
  have hs : ∀ k, k < W.heap.size → ¬ (k = B) → W'.heap[k]? = W.heap[k]? := fun k hk hn => hf.block k hk hn
  have hu : ∀ y, U2 y ≠ [] → U y ≠ [] := fun y hy => by rw [← hU y hy]; exact hy
  have nA : ¬ (A = B) := h.zl.2.2.2.2
  have ng : ¬ (g = B) := h.kg.ne h.kB (by decide)
  have nD : ¬ (D = B) := h.kD.ne h.kB (by decide)
  have nh : ∀ k, (Value.slice q L.length c).ownBlock = some k → ¬ (k = B) := fun k e0 => (h.kh k e0).ne h.kB (by decide)
  have ny : ∀ y, U y ≠ [] → ∀ k, (sl y).ownBlock = some k → ¬ (k = B) := fun y hy k e0 => (h.ky y hy k e0).ne h.kB (by decide)
  have no : ∀ k, vo.ownBlock = some k → ¬ (k = B) := fun k e0 => (h.ko k e0).ne h.kB (by decide)
  have nl : ∀ o ∈ ks, ∀ a, o.q = some a → ¬ (a.block = B) := fun o ho a e0 => ((h.lnk o ho).2 a e0).2.2.2.1
  exact ⟨hbel,
    h.zl,
    h.left.kept (hs A h.kA.lt nA),
    ⟨(hs g h.kg.lt ng).trans h.hp.row, own_same h.hp.own (fun k e => hs k (h.kh k e).lt (nh k e))⟩,
    hm,
    fun y hy => by rw [hU y hy]; have hy2 := hu y hy; exact own_same (h.wrow y hy2) (fun k e => hs k (h.ky y hy2 k e).lt (ny y hy2 k e)),
    fun y y' k hy hy' => h.wapart y y' k (hu y hy) (hu y' hy'),
    fun y k hy => h.wheap y k (hu y hy),
    fun y hy => h.wdone y (hu y hy),
    (hs D h.kD.lt nD).trans h.done,
    h.dheap,
    own_same h.out (fun k e => hs k (h.ko k e).lt (no k e)),
    fun o ho => ⟨((h.lnk o ho).1.only (fun a e => hs _ ((h.lnk o ho).2 a e).1 (nl o ho a e))).mono hz, fun a e => by obtain ⟨h1, h2, h3, h4, h5, h6, h7, h8⟩ := (h.lnk o ho).2 a e; exact ⟨Nat.lt_of_lt_of_le h1 hz, h2, h3, h4, h5, h6, h7, fun y hy => h8 y (hu y hy)⟩⟩⟩
end
end Go.Proofs.Ytfclbdlkpnoceaa
/-
  An order under way, with the list of what is left and how many links of each are looked through; the maps of it.
-/
namespace Go.Proofs.Ytfclbdlkpnoceaa
open Go.RowKit Go.Shelf Go.Maps

def waitL (wt : List (Nat × List Nat)) (y : List Nat) : List Nat := (wt.filter fun e => decide (e.2 = y)).map Prod.fst
def wtF (wt : List (Nat × List Nat)) (sl : List Nat → Value) : Value → Option Value := fun v => (idOf v).bind fun y => if waitL wt y = [] then none else some (sl y)
theorem wtF_nil (sl : List Nat → Value) : wtF [] sl = fun _ => none := by funext v; unfold wtF waitL; cases idOf v <;> simp
theorem wtF_at (wt : List (Nat × List Nat)) (sl : List Nat → Value) (y : List Nat) : wtF wt sl (idV y) = if waitL wt y = [] then none else some (sl y) := by unfold wtF; rw [idOf_idV]; rfl
theorem waitL_snoc (wt : List (Nat × List Nat)) (i : Nat) (y z : List Nat) : waitL (wt ++ [(i, y)]) z = if z = y then waitL wt y ++ [i] else waitL wt z := by
  unfold waitL
  rw [List.filter_append, List.map_append]
  by_cases h : z = y
  · subst h; simp
  · have h2 : ¬ y = z := fun e => h e.symm
    simp [h, h2]
theorem waitL_del (wt : List (Nat × List Nat)) (y z : List Nat) : waitL (wt.filter fun e => ! decide (e.2 = y)) z = if z = y then [] else waitL wt z := by
  unfold waitL
  rw [List.filter_filter]
  by_cases h : z = y
  · subst h
    rw [if_pos rfl, List.map_eq_nil_iff, List.filter_eq_nil_iff]
    intro e _ h2
    simp at h2
  · rw [if_neg h]
    congr 1
    refine List.filter_congr fun e _ => ?_
    by_cases h2 : e.2 = z
    · have h3 : ¬ e.2 = y := fun e3 => h (h2.symm.trans e3)
      simp [h2, h]
    · simp [h2]
open Classical in
theorem wtF_snoc (wt : List (Nat × List Nat)) (sl : List Nat → Value) (i : Nat) (y : List Nat) (v : Value) : fnPut (wtF wt sl) (idV y) v = wtF (wt ++ [(i, y)]) (fun z => if z = y then v else sl z) := by
  funext u
  by_cases h : u = idV y
  · subst h; rw [fnPut_same, wtF_at, waitL_snoc, if_pos rfl, if_neg (by simp), if_pos rfl]
  · rw [fnPut_other h]
    unfold wtF
    cases hv : idOf u with
    | none => rfl
    | some z =>
      have hz : ¬ z = y := fun e => h (by rw [← e]; exact idV_of hv)
      simp only [Option.bind_some, waitL_snoc, hz, if_false]
open Classical in
theorem wtF_del (wt : List (Nat × List Nat)) (sl : List Nat → Value) (y : List Nat) : fnDel (wtF wt sl) (idV y) = wtF (wt.filter fun e => ! decide (e.2 = y)) sl := by
  funext u
  by_cases h : u = idV y
  · subst h; rw [fnDel_same, wtF_at, waitL_del, if_pos rfl, if_pos rfl]
  · rw [fnDel_other h]
    unfold wtF
    cases hv : idOf u with
    | none => rfl
    | some z =>
      have hz : ¬ z = y := fun e => h (by rw [← e]; exact idV_of hv)
      simp only [Option.bind_some, waitL_del, hz, if_false]
open Classical in
theorem metF_del (met : List (List Nat)) (x : List Nat) : fnDel (metF met) (idV x) = metF (met.filter fun y => ! decide (y = x)) := by
  funext u
  by_cases h : u = idV x
  · subst h; rw [fnDel_same, metF_at, if_neg (by simp)]
  · rw [fnDel_other h]
    unfold metF
    cases hv : idOf u with
    | none => rfl
    | some z =>
      have hz : ¬ z = x := fun e => h (by rw [← e]; exact idV_of hv)
      simp only [Option.bind_some, List.mem_filter, hz, decide_false, Bool.not_false, and_true]

/-- On lists: an order, its heap, what is left, how far each is looked through. -/
structure OL (l : List O) (P L : List Nat) (wt : List (Nat × List Nat)) (left : List (List Nat)) (dn : List Nat) : Prop where
  ord : Ord l P L wt
  heap : HpF (fnOf L) L.length
  leftIff : ∀ y, y ∈ left ↔ okL l (objP l P) y = false
  dlen : dn.length = l.length
  dok : ∀ i, i < l.length → dn.getD i 0 ≤ (l.getD i noO).links.length ∧ ∀ y ∈ (l.getD i noO).links.take (dn.getD i 0), okL l (objP l P) y = true
/-- The least of the heap is taken out: i; s of its links are looked through. -/
structure OLi (l : List O) (P L : List Nat) (wt : List (Nat × List Nat)) (left : List (List Nat)) (dn : List Nat) (i : Nat) : Prop where
  ord : Ord l P (i :: L) wt
  heap : HpF (fnOf L) L.length
  least : ∀ j ∈ L, i ≤ j
  leftIff : ∀ y, y ∈ left ↔ okL l (objP l P) y = false
  dlen : dn.length = l.length
  dok : ∀ i, i < l.length → dn.getD i 0 ≤ (l.getD i noO).links.length ∧ ∀ y ∈ (l.getD i noO).links.take (dn.getD i 0), okL l (objP l P) y = true
theorem OL.start {l : List O} : OL l [] (List.range l.length) [] (l.map O.id) (List.replicate l.length 0) :=
  ⟨Ord.start l, range_heap _, fun y => by unfold okL objP hasO; simp, by simp, fun i _ => by simp [List.getElem?_replicate]; split <;> simp⟩
theorem Ord.few {l : List O} {P op : List Nat} {wt : List (Nat × List Nat)} (h : Ord l P op wt) : P.length + op.length ≤ l.length := by
  have hn := h.nodup
  have := nodup_le _ (List.range l.length) hn (fun x hx => List.mem_range.2 (h.low x hx))
  simp only [List.length_append, List.length_range] at this
  omega
theorem OL.pop {l : List O} {P L L2 : List Nat} {wt : List (Nat × List Nat)} {left : List (List Nat)} {dn : List Nat} {x : Nat} (h : OL l P L wt left dn) (hx : x = fnOf L 0) (hp : (x :: L2).Perm L) (hh : HpF (fnOf L2) L2.length) : OLi l P L2 wt left dn x := by
  refine ⟨h.ord.perm hp.symm, hh, fun j hj => ?_, h.leftIff, h.dlen, h.dok⟩
  obtain ⟨k, hk, e⟩ := List.getElem_of_mem (hp.subset (List.mem_cons_of_mem x hj))
  have := h.heap.min k hk
  rw [hx]
  simpa [fnOf, hk, e] using this
theorem OLi.low {l : List O} {P L : List Nat} {wt : List (Nat × List Nat)} {left : List (List Nat)} {dn : List Nat} {i : Nat} (h : OLi l P L wt left dn i) : i < l.length := h.ord.low i (by simp)
/-- One link more is looked through. -/
theorem OLi.more {l : List O} {P L : List Nat} {wt : List (Nat × List Nat)} {left : List (List Nat)} {dn : List Nat} {i s : Nat} (h : OLi l P L wt left dn i) (hd : dn.getD i 0 = s) (hs : s < (l.getD i noO).links.length) (hy : (l.getD i noO).links.getD s [] ∉ left) : OLi l P L wt left (dn.set i (s + 1)) i := by
  have hi := h.low
  refine ⟨h.ord, h.heap, h.least, h.leftIff, by rw [List.length_set]; exact h.dlen, fun j hj => ?_⟩
  by_cases e : i = j
  · subst e
    have hg : (dn.set i (s + 1)).getD i 0 = s + 1 := by simp [h.dlen, hi]
    rw [hg]
    refine ⟨by omega, fun y hm => ?_⟩
    rw [List.take_succ_eq_append_getElem hs] at hm
    rcases List.mem_append.1 hm with hm | hm
    · exact (h.dok i hi).2 y (by rw [hd]; exact hm)
    · simp only [List.mem_singleton] at hm
      subst hm
      have h2 : ¬ okL l (objP l P) ((l.getD i noO).links.getD s []) = false := fun e => hy ((h.leftIff _).2 e)
      have e3 : (l.getD i noO).links.getD s [] = (l.getD i noO).links[s] := by rw [List.getD_eq_getElem?_getD, List.getElem?_eq_getElem hs]; rfl
      rw [e3] at h2
      exact eq_true_of_ne_false h2
  · have hg : (dn.set i (s + 1)).getD j 0 = dn.getD j 0 := by simp [List.getElem?_set_ne e]
    rw [hg]
    exact h.dok j hj
/-- A link keeps it back. -/
theorem OLi.waits {l : List O} {P L : List Nat} {wt : List (Nat × List Nat)} {left : List (List Nat)} {dn : List Nat} {i : Nat} {y : List Nat} (h : OLi l P L wt left dn i) (hm : y ∈ (l.getD i noO).links) (hy : y ∈ left) : OL l P L (wt ++ [(i, y)]) left dn :=
  ⟨h.ord.waits hm ((h.leftIff y).1 hy), h.heap, h.leftIff, h.dlen, h.dok⟩
theorem okL_mono {l out : List O} {o : O} {y : List Nat} (h : okL l out y = true) : okL l (out ++ [o]) y = true := by
  unfold okL hasO at *
  rw [List.any_append]
  cases h1 : (out.any fun o => decide (o.id = y)) <;> simp_all
theorem okL_id {l out : List O} {o : O} {y : List Nat} (hy : o.id = y) : okL l (out ++ [o]) y = true := by
  unfold okL hasO
  rw [List.any_append]
  simp [hy]
/-- It is placed; those that wait for it are open again. -/
theorem OLi.places {l : List O} {P L L2 : List Nat} {wt : List (Nat × List Nat)} {left : List (List Nat)} {dn : List Nat} {i : Nat} (h : OLi l P L wt left dn i) (hd : dn.getD i 0 = (l.getD i noO).links.length) (hp : L2.Perm (L ++ waitL wt (l.getD i noO).id)) (hh : HpF (fnOf L2) L2.length) :
    OL l (P ++ [i]) L2 (wt.filter fun e => ! decide (e.2 = (l.getD i noO).id)) (left.filter fun y => ! decide (y = (l.getD i noO).id)) dn := by
  have hobj : objP l (P ++ [i]) = objP l P ++ [l.getD i noO] := by simp [objP]
  have hf : freeO l (objP l P) (l.getD i noO) = true := by
    unfold freeO
    rw [List.all_eq_true]
    intro y hy
    exact (h.dok i h.low).2 y (by rw [hd, List.take_length]; exact hy)
  refine ⟨(h.ord.places h.least hf).perm hp.symm, hh, fun y => ?_, h.dlen, fun j hj => ⟨(h.dok j hj).1, fun y hy => by rw [hobj]; exact okL_mono ((h.dok j hj).2 y hy)⟩⟩
  rw [hobj, List.mem_filter, h.leftIff]
  by_cases e : y = (l.getD i noO).id
  · subst e
    simp [okL_id]
  · have e2 : ¬ (l.getD i noO).id = y := fun e3 => e e3.symm
    have e4 : (! decide (y = (l.getD i noO).id)) = true := by rw [decide_eq_false e]; rfl
    rw [e4]
    constructor
    · rintro ⟨h1, _⟩; exact okL_snoc h1 e2
    · intro h1
      refine ⟨?_, rfl⟩
      cases hk : okL l (objP l P) y with
      | false => rfl
      | true => rw [okL_mono hk] at h1; cases h1
end Go.Proofs.Ytfclbdlkpnoceaa
/-
  The developers' Order.
-/
namespace Go.Proofs.Ytfclbdlkpnoceaa
open Go.RowKit Go.Shelf Go.Maps
attribute [local go_sem] Oper.semAt_some

def lenC (W : World) (g : Nat) : Nat := match W.cell? ⟨g, 0, none⟩ with | some (.slice _ n _) => n | _ => 0
theorem HpS.lenC {W : World} {g c : Nat} {q : Option Addr} {L : List Nat} (h : HpS W g q c L) : lenC W g = L.length := by unfold Go.Proofs.Ytfclbdlkpnoceaa.lenC; rw [h.cellAt]
theorem own_len_new (q : Option Addr) (n m c : Nat) (w : World) : HpNew (.slice q n c) (.slice q m c) w := fun x h => Or.inl (by
  cases q with
  | none => simp [Value.ownBlock] at h
  | some a => simpa [Value.ownBlock] using h)
theorem run_cut_ids (q : Option Addr) (n c d : Nat) (hd : d ≤ n) (W : World) : (Instr.slice 23 (.slice q n c) (some (.int .i64 (d : Nat))) none none).run Try.prog W = .ok (.slice (if c = d then q else q.map (fun a => a.add (d * 32))) (n - d) (c - d)) W := by
  have hz33 : (sizeOf 33).run Try.prog W = .ok 32 W := by kernel_rfl
  have h0 : d ≤ n := hd
  simp [Instr.slice, run_underlying Try.underlying23, Instr.sliceBounds, Instr.sliceBound, asIntOf, h0, hz33, Result.andThen]
/-- Order's outer loop under way. -/
def OrS (Z g B D : Nat) (l : List O) (w : World) (v8 : Value) (W : World) : Prop :=
  ∃ P L q c wt left sl dn ks, OL l P L wt left dn ∧ OM Z Z g B D w W (metF left) q c L (wtF wt sl) (waitL wt) sl dn v8 ks ∧ ks.map O.key = (objP l P).map O.key ∧ ∀ o ∈ ks, o.ok
/-- The loop over the links under way. -/
def InS (Z g B : Nat) (l : List O) (w : World) (P L : List Nat) (q : Option Addr) (c : Nat) (wt : List (Nat × List Nat)) (left : List (List Nat)) (sl : List Nat → Value) (x dx : Nat) (v8 : Value) (ks : List O) (s : Nat) (W : World) : Prop :=
  ∃ dn, OLi l P L wt left dn x ∧ dn.getD x 0 = dx + s ∧ OM Z Z g B (B + 1) w W (metF left) q c L (wtF wt sl) (waitL wt) sl dn v8 ks
theorem zero26 (w : World) : (zeroValue 26).run Try.prog w = .ok (.slice none 0 0) w := by kernel_rfl
theorem wpList_mapEntry {ops : Array Oper} {rest : List Oper} {o : Oper} {a : Act} {w : World} {Q : Exit → Act → World → Prop} (hgd : o.guard = none) (m x : Operand) (t : TypeId) (ho : o.op = .mapEntry t m x) {u key v : Value} {w1 : World} (hm : a.eval m = u) (hx : a.eval x = key)
    (hr : (Instr.mapEntry t u key).run Try.prog w = .ok v w1) (h : wpList Try.prog ops Q rest (a.put o.dst v) w1) : wpList Try.prog ops Q (o :: rest) a w := by
  refine wpList_plain hgd fun K hK => ?_
  unfold Oper.wp
  simp [execOp, ho, hm, hx, hr, Result.andThen]
  exact hK _ _ h
theorem wpList_entryStore {ops : Array Oper} {rest : List Oper} {o : Oper} {a : Act} {w : World} {Q : Exit → Act → World → Prop} (hgd : o.guard = none) (m st x : Operand) (t : TypeId) (ho : o.op = .entryStore t m st x) {u s v : Value} {w1 : World} (hm : a.eval m = u) (hs : a.eval st = s) (hx : a.eval x = v)
    (hr : (Instr.entryStore t u s v).run Try.prog w = .ok () w1) (h : wpList Try.prog ops Q rest (a.put o.dst undef) w1) : wpList Try.prog ops Q (o :: rest) a w := by
  refine wpList_plain hgd fun K hK => ?_
  unfold Oper.wp
  simp [execOp, ho, hm, hs, hx, hr, Result.andThen]
  exact hK _ _ h
/-- What waits for a link, so far. -/
theorem wait_old {Z g B D : Nat} {w W : World} {F : Value → Option Value} {q : Option Addr} {c : Nat} {L : List Nat} {wt : List (Nat × List Nat)} {sl : List Nat → Value} {dn : List Nat} {vo : Value} {ks : List O} (h : OM Z Z g B D w W F q c L (wtF wt sl) (waitL wt) sl dn vo ks) (y : List Nat) :
    ∃ v0, (wtF wt sl (idV y)).getD (.slice none 0 0) = v0 ∧ (v0.ownBlock = none ∨ (waitL wt y ≠ [] ∧ v0 = sl y)) ∧ (∀ k, v0.ownBlock = some k → k ≠ B ∧ k < W.heap.size ∧ Z ≤ k) ∧ ∀ W' : World, (∀ k, k < W.heap.size → k ≠ B → W'.heap[k]? = W.heap[k]?) → W'.ownsRow Z 3 1 v0 (waitL wt y).length (ints (waitL wt y)) := by
  by_cases hy : waitL wt y = []
  · refine ⟨.slice none 0 0, by rw [wtF_at, if_pos hy]; rfl, .inl rfl, fun k e => by simp [Value.ownBlock] at e, fun W' _ => ?_⟩
    rw [hy]
    exact World.ownsRow_nil _ _ _ _
  · refine ⟨sl y, by rw [wtF_at, if_neg hy]; rfl, .inr ⟨hy, rfl⟩, fun k e => ⟨(h.ky y hy k e).ne h.kB (by decide), (h.ky y hy k e).lt, (own_block (h.wrow y hy) e).1⟩, fun W' hW => own_same (h.wrow y hy) (fun k e => hW k (h.ky y hy k e).lt ((h.ky y hy k e).ne h.kB (by decide)))⟩
theorem hide {p : Prop} (h : p) : Hid p := h
open Classical in
theorem wait_pre {B : Nat} {W A4 : World} {f : Value → Option Value} {y : List Nat} {kl : Lit} {v0 : Value} (h : MapSt Try.prog 33 W B f) (hb : Below W.heap.size W A4) (hkey : keyOf Try.prog 33 (idV y) = some kl) (hv : (f (idV y)).getD (.slice none 0 0) = v0) :
    ∃ (st : Nat) (A5 : World), (Instr.mapEntry 65 (.map (some B)) (idV y)).run Try.prog A4 = .ok (.tuple #[v0, .int .i64 (st : Nat)]) A5 ∧ But B A4.heap.size A4 A5 ∧ A5.heap.size = A4.heap.size ∧
      ∀ (A6 : World) (v6 : Value), A6.heap[B]? = A5.heap[B]? → ∃ A7, (Instr.entryStore 65 (.map (some B)) (.int .i64 (st : Nat)) v6).run Try.prog A6 = .ok () A7 ∧ MapSt Try.prog 33 A7 B (fnPut f (idV y) v6) ∧ But B A6.heap.size A6 A7 ∧ A7.heap.size = A6.heap.size := by
  obtain ⟨st, A5, hr5, hb5, hs5, _, hst5⟩ := (h.kept (hb.block B h.lt)).entry keyed33 Try.underlying65 zero26 hkey A4.heap.size
  rw [hv] at hr5
  exact ⟨st, A5, hr5, hb5, hs5, hst5⟩
open Classical in
theorem wait_fin {Z g B : Nat} {w wr A4 A5 A6 A7 : World} {l : List O} {P L : List Nat} {q : Option Addr} {c : Nat} {wt : List (Nat × List Nat)} {left : List (List Nat)} {sl : List Nat → Value} {dn : List Nat} {vo : Value} {ks : List O} {x : Nat} {y : List Nat} {v0 v6 : Value}
    (hOM : OM Z Z g B (B + 1) w wr (metF left) q c L (wtF wt sl) (waitL wt) sl dn vo ks) (hOi : OLi l P L wt left dn x) (hym : y ∈ (l.getD x noO).links) (hy : y ∈ left) (hks : ks.map O.key = (objP l P).map O.key) (hko : ∀ o ∈ ks, o.ok)
    (hv : v0.ownBlock = none ∨ (waitL wt y ≠ [] ∧ v0 = sl y)) (hv2 : ∀ k, v0.ownBlock = some k → k ≠ B ∧ k < wr.heap.size ∧ Z ≤ k) (hbC : Below wr.heap.size wr A4) (hb5 : But B A4.heap.size A4 A5) (ho6 : A6.ownsRow Z 3 1 v6 (waitL wt y ++ [x]).length (ints (waitL wt y ++ [x])))
    (hg6 : A5.grownBy A6 v0.ownBlock) (hn6 : HpNew v0 v6 A5) (hm7 : MapSt Try.prog 33 A7 B (fnPut (wtF wt sl) (idV y) v6)) (hb7 : But B A6.heap.size A6 A7) : OrS Z g B (B + 1) l w vo A7 ∧ lenC A7 g = L.length := by
  have s4 := hbC.size
  have s5 := hb5.size
  have s6 := hg6.size
  have s7 := hb7.size
  have hBl := hOM.kB.lt
  have hf : ∀ k, k < wr.heap.size → k ≠ B → some k ≠ v0.ownBlock → A7.heap[k]? = wr.heap[k]? := fun k hk hkB hkv => (hb7.block k (by omega) hkB).trans ((hg6.block k (by omega) hkv).trans ((hb5.block k (by omega) hkB).trans (hbC.block k hk)))
  have hZw := hOM.bel.size
  have hzl := hOM.zl
  have hw7 : Below Z wr A7 := ⟨hb7.os.trans (hg6.os.trans (hb5.os.trans hbC.os)), hb7.tape.trans (hg6.tape.trans (hb5.tape.trans hbC.tape)), hb7.output.trans (hg6.output.trans (hb5.output.trans hbC.output)), by omega, fun k hk => hf k (by omega) (by omega) (fun e => by have := (hv2 k e.symm).2.2; omega)⟩
  have hnew : HpNew v0 v6 wr := fun k e => (hn6 k e).imp id (fun h => by omega)
  have ho7 : A7.ownsRow Z 3 1 v6 (waitL wt y ++ [x]).length (ints (waitL wt y ++ [x])) := own_same ho6 (fun k e => hb7.block k (own_block ho6 e).2.1 (fun eB => by
    subst eB
    rcases hnew k e with h | h
    · exact (hv2 _ h).1 rfl
    · omega))
  have hOM7 := hOM.wait (hOM.bel.trans hw7) (by omega) hf hv hm7 ho7 hnew
  have hU : (fun z => if z = y then waitL wt y ++ [x] else waitL wt z) = waitL (wt ++ [(x, y)]) := by funext z; rw [waitL_snoc]
  rw [hU, wtF_snoc (i := x)] at hOM7
  exact ⟨⟨P, L, q, c, wt ++ [(x, y)], left, _, dn, ks, hOi.waits hym hy, hOM7, hks, hko⟩, hOM7.hp.lenC⟩
section
variable {Z A g B D : Nat} {w W W' : World} {F : Value → Option Value} {q : Option Addr} {c : Nat} {L : List Nat} {G : Value → Option Value} {U : List Nat → List Nat} {sl : List Nat → Value} {dn : List Nat} {vo : Value} {ks : List O}
theorem OM.zlt (h : OM Z A g B D w W F q c L G U sl dn vo ks) : Z < W.heap.size := by have := h.kA.lt; have := h.zl; omega
theorem OM.toLater (h : OM Z A g B D w W F q c L G U sl dn vo ks) (hb : Below W.heap.size W W') : OM Z A g B D w W' F q c L G U sl dn vo ks := h.later (h.bel.trans (hb.mono (by have := h.zlt; omega))) hb.size hb
theorem one_obj {w2 w3 : World} {m : Nat} {o : O} (hok : o.ok) (hf : Fresh m w2 o) (hb : Below w2.heap.size w2 w3) (hr : Row w3 w2.heap.size 46 (objC o)) : IsObjs w3.heap.size w3 (some ⟨w2.heap.size, 0, none⟩) 1 1 [o] :=
  ⟨rfl, Nat.le_refl _, by omega, by simpa using hok, by simpa using (hf.1.below hb).mono hb.size, .inr ⟨w2.heap.size, 0, rfl, hr.lt, fun i hi => by obtain rfl : i = 0 := (by omega); simpa using hr.range⟩⟩
theorem OM.toOut {W2 W3 W4 : World} {v9 : Value} {x : O} {W0 : World} (h : OM Z A g B D w W3 F q c L G U sl dn vo ks) (hg : W3.grownBy W4 vo.ownBlock) (ho : OwnO Z W4 v9 (ks ++ [x])) (hat : v9.ownBlock = vo.ownBlock ∨ v9.ownBlock = some W3.heap.size) (hf : Fresh W0.heap.size W2 x) (h0 : OM Z A g B D w W0 F q c L G U sl dn vo ks) (hb3 : Below W2.heap.size W2 W3) : OM Z A g B D w W4 F q c L G U sl dn v9 (ks ++ [x]) := by
  have hz := h.zlt
  refine h.outPut (h.bel.trans ⟨hg.os, hg.tape, hg.output, hg.size, fun k hk => hg.block k (by omega) (fun e => by have := (own_block h.out e.symm).1; omega)⟩) hg.size hg.block ho (fun k e => by
    rcases hat with e2 | e2
    · exact .inl (by rw [← e2]; exact e)
    · rw [e2] at e; cases e; exact .inr (Nat.le_refl _)) ((hf.1.below hb3).mono hb3.size) (fun a ha => ?_)
  obtain ⟨h1, h2⟩ := hf.2.2 a ha
  exact ⟨by have := hb3.size; omega, by have := h0.kA.lt; omega, by have := h0.kg.lt; omega, by have := h0.kB.lt; omega, by have := h0.kD.lt; omega, fun e => by have := (h0.kh _ e).lt; omega, fun e => by have := (h0.ko _ e).lt; omega, fun y hy e => by have := (h0.ky y hy _ e).lt; omega⟩
theorem OM.toLeft {F2 : Value → Option Value} (h : OM Z A g B D w W F q c L G U sl dn vo ks) (hb : But A W.heap.size W W') (hm : MapAt Try.prog 33 W' A F2) : OM Z A g B D w W' F2 q c L G U sl dn vo ks :=
  h.leftPut (h.bel.trans (hb.below (by have := h.zlt; omega) h.zl.1)) hb.size hb hm
theorem OM.toHeap {X : List Nat} {q2 : Option Addr} {c2 : Nat} {L2 : List Nat} (h : OM Z A g B D w W F q c L G U sl dn vo ks) (hP : PushPost g c q L X W W' q2 c2 L2) : OM Z A g B D w W' F q2 c2 L2 G U sl dn vo ks :=
  h.heap (h.bel.trans ⟨hP.fr.os, hP.fr.tape, hP.fr.output, hP.fr.size, fun k hk => hP.fr.block k (by have := h.zlt; omega) (by have := h.zl; omega) (fun e => by have := (own_block h.hp.own e.symm).1; have := h.zl; omega)⟩) hP.fr.size hP.st hP.fr hP.new
end
open Classical in
theorem OM.toDel {Z A g B D : Nat} {w W W' : World} {F : Value → Option Value} {q : Option Addr} {c : Nat} {L : List Nat} {wt : List (Nat × List Nat)} {sl : List Nat → Value} {dn : List Nat} {vo : Value} {ks : List O} {y : List Nat} (h : OM Z A g B D w W F q c L (wtF wt sl) (waitL wt) sl dn vo ks) (hb : But B W.heap.size W W') (hm : MapSt Try.prog 33 W' B (fnDel (wtF wt sl) (idV y))) :
    OM Z A g B D w W' F q c L (wtF (wt.filter fun e => ! decide (e.2 = y)) sl) (waitL (wt.filter fun e => ! decide (e.2 = y))) sl dn vo ks := by
  rw [wtF_del] at hm
  refine h.waitDel (h.bel.trans (hb.below (by have := h.zlt; omega) h.zl.2.2.1)) hb.size hb hm (fun z hz => ?_)
  rw [waitL_del] at hz ⊢
  by_cases e : z = y
  · simp [e] at hz
  · rw [if_neg e]
theorem obj_idRange {W : World} {b off : Nat} {o : O} (hok : o.ok) (h : W.rangeAt b off (objC o)) : W.rangeAt b off (u8s o.id) := by
  have := range_part h (objC_id hok)
  simpa using this
theorem wait_row {Z g B D : Nat} {w W : World} {F : Value → Option Value} {q : Option Addr} {c : Nat} {L : List Nat} {wt : List (Nat × List Nat)} {sl : List Nat → Value} {dn : List Nat} {vo : Value} {ks : List O} {y : List Nat} {q0 : Option Addr} {c0 : Nat} (h : OM Z Z g B D w W F q c L (wtF wt sl) (waitL wt) sl dn vo ks)
    (hv : (Value.slice q0 (waitL wt y).length c0).ownBlock = none ∨ (waitL wt y ≠ [] ∧ Value.slice q0 (waitL wt y).length c0 = sl y)) (ho : ∀ W' : World, (∀ k, k < W.heap.size → k ≠ B → W'.heap[k]? = W.heap[k]?) → W'.ownsRow Z 3 1 (.slice q0 (waitL wt y).length c0) (waitL wt y).length (ints (waitL wt y))) :
    0 < (waitL wt y).length → ∃ b, q0 = some ⟨b, 0, none⟩ ∧ b ≠ g ∧ some b ≠ (Value.slice q L.length c).ownBlock ∧ IntsAt W b (waitL wt y).length (fnOf (waitL wt y)) := by
  intro hp
  have ho1 := ho W (fun _ _ _ => rfl)
  rcases ho1.2 with ⟨e, e2⟩ | ⟨b, cap, cur, e, h1, h2, h3, h4, h5, h6⟩
  · simp only [Value.slice.injEq] at e; omega
  · cases e
    have hob : (Value.slice (some ⟨b, 0, none⟩) (waitL wt y).length c0).ownBlock = some b := rfl
    rcases hv with hv | ⟨hy, hv⟩
    · rw [hob] at hv; cases hv
    · have hsb : (sl y).ownBlock = some b := by rw [← hv]; exact hob
      refine ⟨b, rfl, fun e => (h.ky y hy b hsb).ne h.kg (by decide) e, fun e => h.wheap y b hy hsb e.symm, ?_⟩
      exact RowI.ints (c := c0) ⟨cur.toList, by simpa [Row] using h2, by simpa using h6, by simpa using h5⟩
theorem wait_few {l : List O} {P L : List Nat} {wt : List (Nat × List Nat)} {left : List (List Nat)} {dn : List Nat} {i len : Nat} (h : OLi l P L wt left dn i) (hlen : len ≤ 100000) (hll : l.length = len) (y : List Nat) : L.length + (waitL wt y).length < 1000000 := by
  have h2 := nodup_le _ (List.range l.length) h.ord.nodup (fun z hz => List.mem_range.2 (h.ord.low z hz))
  have h3 : (waitL wt y).length ≤ wt.length := by unfold waitL; rw [List.length_map]; exact List.length_filter_le _ _
  simp only [List.length_append, List.length_map, List.length_range, List.length_cons] at h2
  omega
open Classical in
theorem wpList_mapDropS {P : Program} {k : TypeId} {w : World} {b : Nat} {f : Value → Option Value} {ops : Array Oper} {rest : List Oper} {o : Oper} {a : Act} {Q : Exit → Act → World → Prop} (n : Nat) (hg : o.guard = none) (m x : Operand) (t e : TypeId) (hop : o.op = Op.call { callee := Callee.builtin Builtin.delete, args := #[m, x], argTypes := #[t, k] }) (K : Keyed P k) (ht : P.underlying t = some (.map k e))
    (hm : a.eval m = .map (some b)) (h : MapSt P k w b f) {key : Value} {kl : Lit} (hx : a.eval x = key) (hkey : keyOf P k key = some kl)
    (hK : ∀ w', MapSt P k w' b (fnDel f key) → But b n w w' → w'.heap.size = w.heap.size → wpList P ops Q rest (a.put o.dst (.tuple #[])) w') : wpList P ops Q (o :: rest) a w := by
  refine wpList_plain hg fun K' hK' => ?_
  obtain ⟨w', hrun, r1, r2, r3⟩ := h.drop K ht hkey o.type n
  unfold Oper.wp execOp
  simp only [hop, resolve, invoke, builtin, Sem.run_bind, Sem.run_pure, Result.andThen_ok, List.map_toArray, List.map_cons, List.map_nil, hm, hx, hrun]
  exact hK' _ _ (hK w' r1 r2 r3)
theorem made_ints (n : Nat) : (madeCells #[Value.int .i64 0] n).toList = ints (List.replicate n 0) := by
  refine List.ext_getElem (by simp [madeCells, ints]) (fun i h1 h2 => ?_)
  have h0 : i % 1 = 0 := Nat.mod_one i
  simp [madeCells, ints, h0]
theorem om_start {w w1 w2 : World} {l : List O} {q : Option Addr} {c len : Nat} {cs : Array Value} (sl : List Nat → Value) (hm1 : MapAt Try.prog 33 w1 w.heap.size (metF (l.map O.id))) (hb1 : Below w.heap.size w w1) (hS : HpS w2 w1.heap.size q c (List.range len)) (hb2 : Below w1.heap.size w1 w2) (hcs : cs.size = len * 34) (hlen : len ≤ 100000) :
    OM w.heap.size w.heap.size w1.heap.size w2.heap.size (w2.heap.size + 1) w (((w2.alloc (.map #[] 0)).alloc (.cells (madeCells #[Value.int .i64 0] len) 3)).alloc (.cells cs 46)) (metF (l.map O.id)) q c (List.range len) (wtF [] sl) (waitL []) sl (List.replicate len 0) (.slice (some ⟨w2.heap.size + 2, 0, none⟩) 0 len) [] := by
  have hz1 : w.heap.size < w1.heap.size := hm1.lt
  have hz2 : w1.heap.size < w2.heap.size := hS.row.lt
  have s3 : (w2.alloc (.map #[] 0)).heap.size = w2.heap.size + 1 := by simp
  have s4 : ((w2.alloc (.map #[] 0)).alloc (.cells (madeCells #[Value.int .i64 0] len) 3)).heap.size = w2.heap.size + 2 := by simp
  have b3 : Below w2.heap.size w2 (w2.alloc (.map #[] 0)) := (Below.refl _ _).alloc (Nat.le_refl _) _
  have hm3 : MapSt Try.prog 33 (w2.alloc (.map #[] 0)) w2.heap.size (wtF [] sl) := by rw [wtF_nil]; exact MapSt.new _ _ _
  have hr4 := Row.newAt (w2.alloc (.map #[] 0)) 3 (madeCells #[Value.int .i64 0] len) s3
  rw [made_ints] at hr4
  have b4 : Below (w2.heap.size + 1) (w2.alloc (.map #[] 0)) ((w2.alloc (.map #[] 0)).alloc (.cells (madeCells #[Value.int .i64 0] len) 3)) := (Below.refl _ _).alloc (by rw [s3]; exact Nat.le_refl _) _
  have hr5 := Row.newAt ((w2.alloc (.map #[] 0)).alloc (.cells (madeCells #[Value.int .i64 0] len) 3)) 46 cs s4
  have b5 : Below (w2.heap.size + 2) ((w2.alloc (.map #[] 0)).alloc (.cells (madeCells #[Value.int .i64 0] len) 3)) (((w2.alloc (.map #[] 0)).alloc (.cells (madeCells #[Value.int .i64 0] len) 3)).alloc (.cells cs 46)) := (Below.refl _ _).alloc (by rw [s4]; exact Nat.le_refl _) _
  have s5 := b5.size
  generalize (w2.alloc (.map #[] 0)) = w3 at *
  generalize (w3.alloc (.cells (madeCells #[Value.int .i64 0] len) 3)) = w4 at *
  generalize (w4.alloc (.cells cs 46)) = w5 at *
  have b25 : Below w2.heap.size w2 w5 := (b3.trans (b4.mono (by omega))).trans (b5.mono (by omega))
  have hh : ∀ k, (Value.slice q (List.range len).length c).ownBlock = some k → k < w2.heap.size := fun k e => (own_block hS.own e).2.1
  exact ⟨(hb1.trans (hb2.mono (by omega))).trans (b25.mono (by omega)), ⟨Nat.le_refl _, by omega, by omega, by omega, by omega⟩, (hm1.below hb2 hz1).below b25 (by omega), hS.later b25, hm3.kept ((b5.block _ (by omega)).trans (b4.block _ (by omega))),
    fun y hy => absurd rfl hy, fun y _ _ hy => absurd rfl hy, fun y _ hy => absurd rfl hy, fun y hy => absurd rfl hy, hr4.below b5 (by omega), fun e => by have := hh _ e; omega,
    ⟨by simp, .inr ⟨w2.heap.size + 2, len, cs, rfl, by omega, by simpa [Row] using hr5, by simp, by simp only [maxLen]; omega, by simpa using hcs, by simp⟩⟩, by simp⟩

set_option maxRecDepth 100000 in
set_option maxHeartbeats 1000000 in
theorem order_any (p : Option Addr) (len cap : Nat) (l : List O) (hlen : len ≤ 100000) (hn : ∀ o ∈ l, o.n ≤ 100000) (w : World) (hI : IsObjs w.heap.size w p len cap l) :
    Calls Try.prog 17 #[.slice p len cap] w fun e w' => ((orderL l = none ∧ e = .returned (.tuple #[.slice none 0 0, .bool false])) ∨ (∃ out ks q n c, orderL l = some out ∧ ks.map O.key = out.map O.key ∧ e = .returned (.tuple #[.slice q n c, .bool true]) ∧ IsObjs w'.heap.size w' q n c ks)) ∧ Below w.heap.size w w' := by
  obtain ⟨j0, hj0, hy0, hy1, hy2⟩ := info_parts info46
  have HI : Hid (IsObjs w.heap.size w p len cap l) := hI
  have hll := hI.1
  have hmk26 := fun W => run_make_row' (P := Try.prog) 26 3 (.int .i64 0) 8 Try.underlying26 info3 rfl .i64 .i64 len (by omega) (by omega) W
  have hmk22 := fun W => run_make (P := Try.prog) W 22 46 j0 _ Try.underlying22 hj0 hy0 .i64 .i64 0 len (Int.le_refl _) (by omega) (by rw [hy2]; omega) (by omega)
  rw [hy1] at hmk22
  have hm22 : ∃ cs, cs.size = len * 34 ∧ ∀ W, (Instr.makeSlice 22 (.int .i64 0) (.int .i64 (len : Nat))).run Try.prog W = .ok (.slice (some ⟨W.heap.size, 0, none⟩) 0 len) (W.alloc (.cells cs 46)) := by
    refine ⟨madeCells (Value.agg (objC noO).toArray).cells (len * 34), ?_, fun W => ?_⟩
    · simp [madeCells, Value.cells]
    · have := hmk22 W
      simpa using this
  obtain ⟨cs, hcs, hmk⟩ := hm22
  have hmm := @run_makeMap Try.prog
  clear hmk22 hI hy0 hy1 hy2 hj0
  go_enter Try.func17, Try.ntmps17
  go_wp2
  go_step3
  go_wp2_with (first
    | (go_at_call 28; refine (idsOf_any p len cap l w HI.out).mono ?_; rintro e w1 ⟨rfl, hm1, hb1⟩)
    | (go_at_call 29; refine (placesOf_any p len cap w1 hlen).mono ?_; rintro e w2 ⟨rfl, q2, c2, hS2, hb2⟩))
  have HOM : Hid (∀ sl, OM w.heap.size w.heap.size w1.heap.size w2.heap.size (w2.heap.size + 1) w (((w2.alloc (.map #[] 0)).alloc (.cells (madeCells #[Value.int .i64 0] len) 3)).alloc (.cells cs 46)) (metF (l.map O.id)) q2 c2 (List.range len) (wtF [] sl) (waitL []) sl (List.replicate len 0) (.slice (some ⟨w2.heap.size + 2, 0, none⟩) 0 len) []) := fun sl => om_start sl hm1 hb1 hS2 hb2 hcs hlen
  generalize hW5 : (((w2.alloc (.map #[] 0)).alloc (.cells (madeCells #[Value.int .i64 0] len) 3)).alloc (.cells cs 46)) = w5 at *
  clear hW5 hm1 hb1 hS2 hb2 hcs
  generalize w1.heap.size = g at *
  generalize w2.heap.size = B at *
  generalize hZ : w.heap.size = Z at *
  have H0 : Hid (OrS Z g B (B + 1) l w (.slice (some ⟨B + 2, 0, none⟩) 0 len) w5) := ⟨[], List.range len, q2, c2, [], _, fun _ => .slice none 0 0, _, [], by rw [← hll]; exact OL.start, by rw [← hll] at *; exact HOM.out _, rfl, by simp⟩
  clear HOM hmk26 hmk hmm
  go_step3
  go_wp2
  go_loopw [8] (fun v8 wr => OrS Z g B (B + 1) l w v8 wr) (fun v8 wr => (len - lenV v8) * (len + 1) + lenC wr g)
  case atStart => exact H0.out
  case round =>
    obtain ⟨P, L, q, c, wt, left, sl, dn, ks, hOL, hOM, hks, hko⟩ := hrel
    have hpk : P.length = ks.length := by have := congrArg List.length hks; simpa [objP] using this.symm
    obtain ⟨q8, c8, rfl⟩ := hOM.out.slice
    have hfew := hOL.ord.few
    by_cases hL : L.length = 0
    · have he : L = [] := List.eq_nil_of_length_eq_zero hL
      subst he
      have hcc := hOM.hp.cellAt
      have hans := hOL.ord.ends
      rw [hpk, hll] at hans
      have HObj : Hid (IsObjs wr.heap.size wr q8 ks.length c8 ks) := hOM.out.objs rfl hko (fun o ho => (hOM.lnk o ho).1)
      have HBl := (show Hid (Below _ _ _) from hOM.bel)
      have HK := (show Hid (_ = _) from hks)
      clear hOL hOM hks hko H0 hpk hL
      simp only [List.length_nil] at hcc
      generalize hkn : ks.length = kn at *
      by_cases hlt : kn < len
      · rw [if_pos hlt] at hans
        have hki : (kn : Int) < (len : Int) := by omega
        go_wp2_with (first
          | (go_at_call 30; refine (len30_any _ _ _ _).mono ?_; rintro e w3 ⟨rfl, rfl⟩))
        rw [Exit.noGoto_ret]
        refine bodyPost_ret (results_tmp2 rfl _ _ _) rfl ?_
        exact ⟨.inl ⟨hans, rfl⟩, by rw [hZ]; exact HBl.out⟩
      · rw [if_neg hlt] at hans
        have hki : ¬ (kn : Int) < (len : Int) := by omega
        go_wp2_with (first
          | (go_at_call 30; refine (len30_any _ _ _ _).mono ?_; rintro e w3 ⟨rfl, rfl⟩))
        rw [Exit.noGoto_ret]
        refine bodyPost_ret (results_tmp2 rfl _ _ _) rfl ?_
        exact ⟨.inr ⟨_, ks, q8, kn, c8, hans, HK.out, rfl, HObj.out⟩, by rw [hZ]; exact HBl.out⟩
    · have hlp : 0 < L.length := by omega
      have hcc := hOM.hp.cellAt
      have hli : (0 : Int) < (L.length : Int) := by omega
      have HOL := (show Hid (OL _ _ _ _ _ _) from hOL)
      have HOM := (show Hid (OM _ _ _ _ _ _ _ _ _ _ _ _ _ _ _ _ _) from hOM)
      have HK := (show Hid (_ = _) from hks)
      have HKO := (show Hid (∀ o ∈ ks, o.ok) from hko)
      have HLC : Hid (lenC wr g = L.length) := hOM.hp.lenC
      clear hOL hOM hks hko H0
      go_wp2_with (first
        | (go_at_call 30; refine (len30_any _ _ _ _).mono ?_; rintro e w3 ⟨rfl, rfl⟩)
        | (go_at_call 31; refine (first31_any g c q L _ HOM.out.hp HOL.out.heap hlp (by omega)).mono ?_; rintro e w4 ⟨x, L2, rfl, hPop⟩))
      have hOi := HOL.out.pop hPop.least hPop.perm hPop.heap
      have hLlen : L.length = L2.length + 1 := by have := hPop.perm.length_eq; simpa using this.symm
      have hOM4 := HOM.out.heap (HOM.out.bel.trans ⟨hPop.fr.os, hPop.fr.tape, hPop.fr.output, hPop.fr.size, fun k hk => hPop.fr.block k (by have := HOM.out.bel.size; have := HOM.out.zl; omega) (by have := HOM.out.zl; omega) (fun e => by have := (own_block HOM.out.hp.own e.symm).1; have := HOM.out.zl; omega)⟩) hPop.fr.size hPop.st hPop.fr (own_len_new q L.length L2.length c _)
      have hxl := hOi.low
      rw [hll] at hxl
      obtain ⟨pb, poff, rfl, hpb, hxr, hok, hxm⟩ := HI.out.at hxl
      have hxi : (x : Int) < (len : Int) := by omega
      have hdx := (hOi.dok x (by rw [hll]; exact hxl)).1
      have hLx : IsIds Z w (l.getD x noO).q (l.getD x noO).n (l.getD x noO).c (l.getD x noO).links := HI.out.2.2.2.2.1 _ hxm
      have hln := hLx.1
      have hlc := hLx.2.1
      have hlcc := hLx.2.2.1
      have honn := hn _ hxm
      obtain ⟨dx, hdxe⟩ : ∃ dx, dn.getD x 0 = dx := ⟨_, rfl⟩
      rw [hdxe, hln] at hdx
      have HF : Hid (∀ W, Below w4.heap.size w4 W → W.cell? ⟨pb, poff + x * 34 + 32, none⟩ = some (.slice (l.getD x noO).q (l.getD x noO).n (l.getD x noO).c) ∧ W.cell? ⟨B + 1, x, none⟩ = some (.int .i64 (dx : Nat))) := fun W hW => by
        constructor
        · exact range_cell (rangeAt_below (hOM4.bel.trans (hW.mono (by have := hOM4.kA.lt; omega))) hpb hxr) (objC_links hok)
        · rw [← hdxe]
          exact (hOM4.done.later hW).cell (ints_at (by rw [hOi.dlen, hll]; exact hxl))
      -- the links that are not looked through yet
      obtain ⟨qs, hqs⟩ : ∃ qs, (if (l.getD x noO).c = dx then (l.getD x noO).q else (l.getD x noO).q.map (fun a => a.add (dx * 32))) = qs := ⟨_, rfl⟩
      have hsl : ∀ W, (Instr.slice 23 (.slice (l.getD x noO).q (l.getD x noO).n (l.getD x noO).c) (some (.int .i64 (dx : Nat))) none none).run Try.prog W = .ok (.slice qs ((l.getD x noO).n - dx) ((l.getD x noO).c - dx)) W := fun W => by
        rw [← hqs]; exact run_cut_ids _ _ _ _ hdx W
      have HQ : Hid (∀ W, Below Z w W → ∀ s, s < (l.getD x noO).n - dx → ∃ yb yo, qs = some ⟨yb, yo, none⟩ ∧ W.rangeAt yb (yo + s * 32) (u8s ((l.getD x noO).links.getD (dx + s) [])) ∧ IsId ((l.getD x noO).links.getD (dx + s) [])) := fun W hW s hs => by
        obtain ⟨yb, yo, ey, hyb, hyr, hyi⟩ := (hLx.below hW).at (show dx + s < (l.getD x noO).n by omega)
        refine ⟨yb, yo + dx * 32, ?_, ?_, hyi⟩
        · rw [← hqs, if_neg (by omega), ey]; simp [Addr.add]
        · rw [show yo + dx * 32 + s * 32 = yo + (dx + s) * 32 by omega]; exact hyr
      have HOM4 := (show Hid (OM _ _ _ _ _ _ _ _ _ _ _ _ _ _ _ _ _) from hOM4)
      have HOi := (show Hid (OLi _ _ _ _ _ _ _) from hOi)
      have HDX : Hid (dn.getD x 0 = dx) := hdxe
      have HX : Hid (x < len) := hxl
      have HXm : Hid (l.getD x noO ∈ l) := hxm
      have HXr : Hid (World.rangeAt w pb (poff + x * 34) (objC (l.getD x noO))) := hxr
      have HOk : Hid ((l.getD x noO).ok) := hok
      have HPB : Hid (pb < Z) := hpb
      have HON : Hid ((l.getD x noO).n ≤ 100000) := honn
      have HLx := (show Hid (IsIds _ _ _ _ _ _) from hLx)
      clear hOM4 hOi hdxe hxl hxm hxr hok hLx hPop hqs HOL HOM
      generalize hog : l.getD x noO = o at *
      have HOg : Hid (l.getD x noO = o) := hog
      clear hog
      have hnd : dx ≤ o.n := hdx
      go_wp2
      refine wp_region_held_drew (S := fun W => Below w4.heap.size w4 W) (by kernel_rfl) (Below.refl _ _).drew (fun hHeld => ?_)
      refine wpAnyH_takesAt 0 12 0 (of_decide_eq_true (by kernel_rfl)) rfl (fun _ _ _ d _ h => by cases d <;> exact h) (by kernel_rfl) (by kernel_rfl) hHeld ?_
      simp only [List.drop_zero, List.take_succ_cons, List.take_zero]
      iterate 12 (refine wpHeld_step (v := ?_) (by rfl) (fun wz hSw => ?_) ?_; rotate_left; (focus ((obtain ⟨hc1, hc2⟩ := HF.out wz hSw; clear hSw); go_simp; try with_reducible rfl)); (simp only [Act.put, List.setIfInBounds_toArray, List.set_cons_zero, List.set_cons_succ]))
      refine wpHeld_nil ?_
      refine wpAnyH_done (by kernel_rfl) ?_ _
      go_wp2
      have H0 : Hid (InS Z g B l w P L2 q c wt left sl x dx (.slice q8 ks.length c8) ks 0 w4.drew) := ⟨dn, HOi.out, by rw [HDX.out]; rfl, HOM4.out.later (HOM4.out.bel.trans ((Below.refl (w.heap.size) w4).drew.mono (by omega))) (Nat.le_refl _) (Below.refl _ _).drew⟩
      go_loopw [45] (fun v45 wr => ∃ (s : Nat), s ≤ o.n - dx ∧ v45 = .int .i64 (s : Nat) ∧ InS Z g B l w P L2 q c wt left sl x dx (.slice q8 ks.length c8) ks s wr) (fun v45 _ => (o.n - dx) - (intOf v45).toNat)
      case atStart => exact ⟨0, Nat.zero_le _, rfl, H0.out⟩
      case round =>
        obtain ⟨s, hs, rfl, dn2, hOi, hds, hOM⟩ := hrel
        by_cases hlt : s < o.n - dx
        · obtain ⟨yb, yo, rfl, hyr, hyi⟩ := HQ.out wr hOM.bel s hlt
          have hym : o.links.getD (dx + s) [] ∈ o.links := by
            have hl2 : dx + s < o.links.length := by rw [HLx.out.1]; omega
            rw [List.getD_eq_getElem?_getD, List.getElem?_eq_getElem hl2]
            exact List.getElem_mem hl2
          have HYR : Hid (World.rangeAt wr yb (yo + s * 32) (u8s (o.links.getD (dx + s) []))) := hyr
          have HYM : Hid (o.links.getD (dx + s) [] ∈ o.links) := hym
          have HYI : Hid (IsId (o.links.getD (dx + s) [])) := hyi
          have HYE : Hid (∃ y, y = o.links.getD (dx + s) []) := ⟨_, rfl⟩
          have hsi : (s : Int) < ((o.n - dx : Nat) : Int) := by omega
          have HOM := (show Hid (OM _ _ _ _ _ _ _ _ _ _ _ _ _ _ _ _ _) from hOM)
          have HOi2 := (show Hid (OLi _ _ _ _ _ _ _) from hOi)
          have HDS : Hid (dn2.getD x 0 = dx + s) := hds
          have HYO : Hid (o.links.getD (dx + s) [] = (l.getD x noO).links.getD (dx + s) []) := by rw [HOg.out]; rfl
          clear hyr hym hyi hOM hOi hds H0
          generalize o.links.getD (dx + s) [] = y at *
          obtain ⟨kl, hkey⟩ := key_id HYI.out
          by_cases hy : y ∈ left
          · have HMk : Hid (metF left (idV y) = some (.agg #[])) := by show _ = _; rw [metF_at, if_pos hy]
            obtain ⟨v0, hv01, hv02⟩ := wait_old HOM.out y
            have HV0 : Hid ((wtF wt sl (idV y)).getD (.slice none 0 0) = v0 ∧ _) := ⟨hv01, hv02⟩
            clear hv01 hv02
            have HWL : Hid ((waitL wt y).length < 1000000) := (show _ < _ by
              have h1 := HOi2.out.ord.nodup
              have h2 := nodup_le _ (List.range l.length) h1 (fun z hz => List.mem_range.2 (HOi2.out.ord.low z hz))
              have h3 : (waitL wt y).length ≤ wt.length := by unfold waitL; rw [List.length_map]; exact List.length_filter_le _ _
              simp only [List.length_append, List.length_map, List.length_range] at h2
              omega)
            go_wp2_with (first
              | ((with_reducible show wpList _ _ _ (Oper.mk (some 48) (Op.load 33 _) _ _ _ _ :: _) _ _); refine wpList_loadId rfl (.tmp 47) rfl rfl HYI.out HYR.out ?_; simp only [Act.put, List.setIfInBounds_toArray, List.set_cons_zero, List.set_cons_succ])
              | ((with_reducible show wpList _ _ _ (Oper.mk (some 11) (Op.alloc 33) _ _ _ _ :: _) _ _); refine wpList_allocId rfl rfl (fun A1 b1 r1 s1 => ?_); have HR1 := (show Hid (Row _ _ _ _) from r1); have HS1 := (show Hid (_ = _) from s1); clear r1 s1; simp only [Act.put, List.setIfInBounds_toArray, List.set_cons_zero, List.set_cons_succ])
              | ((with_reducible show wpList _ _ _ (Oper.mk none (Op.store 33 (.tmp 11) _) _ _ _ _ :: _) _ _); refine wpList_putId rfl (.tmp 11) (.tmp 48) rfl HYI.out rfl rfl HR1.out (by simp) (fun A2 b2 r2 s2 => ?_); have HR2 := (show Hid (Row _ _ _ _) from r2); have hbA : Below wr.heap.size wr A2 := b1.trans (b2.below (by have := b1.size; omega) (Nat.le_refl _)); have HS2 := (show Hid (_ = _) from s2); clear r2 s2; simp only [Act.put])
              | ((with_reducible show wpList _ _ _ (Oper.mk (some 51) (Op.load 33 _) _ _ _ _ :: _) _ _); refine wpList_loadId rfl (.tmp 11) rfl rfl HYI.out HR2.out.range ?_; simp only [Act.put, List.setIfInBounds_toArray, List.set_cons_zero, List.set_cons_succ])
              | ((with_reducible show wpList _ _ _ (Oper.mk _ (Op.lookup 57 _ _ _) _ _ _ _ :: _) _ _); refine wpList_look true (some (.agg #[])) rfl (.tmp 50) (.tmp 51) 57 58 rfl keyed33 Try.underlying57 (zero58 _) rfl (HOM.out.left.below hbA HOM.out.kA.lt) rfl hkey HMk.out ?_; simp only [Act.put, List.setIfInBounds_toArray, List.set_cons_zero, List.set_cons_succ, Option.getD_some, Option.isSome_some, if_true])
              | ((with_reducible show wpList _ _ _ (Oper.mk (some 57) (Op.load 33 _) _ _ _ _ :: _) _ _); have hbB : Below wr.heap.size wr (A2.alloc (.cells #[] 58)) := hbA.alloc hbA.size _; have HR3 : Hid (Row (A2.alloc (.cells #[] 58)) wr.heap.size 33 (u8s y)) := HR2.out.alloc _; generalize (A2.alloc (.cells #[] 58)) = A3 at *; have hbC : Below wr.heap.size wr (A3.alloc (.cells #[.int .i64 (x : Nat)] 3)) := hbB.alloc hbB.size _; have hcx : (A3.alloc (.cells #[.int .i64 (x : Nat)] 3)).cell? ⟨A3.heap.size, 0, none⟩ = some (.int .i64 (x : Nat)) := (Row.new A3 3 #[.int .i64 (x : Nat)]).cell (i := 0) rfl; have hs4 : A3.heap.size < (A3.alloc (.cells #[.int .i64 (x : Nat)] 3)).heap.size := (by rw [World.size_alloc]; exact Nat.lt_succ_self _); obtain ⟨st, A5, hr5, hb5, hs5, hst5⟩ := wait_pre HOM.out.wtm hbC hkey HV0.out.1; have HST := hide hst5; have HS4 := hide hs4; have HCX := hide hcx; have HB5 := hide hb5; have HS5 := hide hs5; clear hst5 hs4 hcx hb5 hs5; refine wpList_loadId rfl (.tmp 11) rfl rfl HYI.out HR3.out.range ?_; simp only [Act.put, List.setIfInBounds_toArray, List.set_cons_zero, List.set_cons_succ])
              | ((with_reducible show wpList _ _ _ (Oper.mk (some 62) _ _ _ _ _ :: _) _ _); have hcx5 : A5.cell? ⟨A3.heap.size, 0, none⟩ = some (.int .i64 (x : Nat)) := (cell_same (HB5.out.block _ HS4.out (by have := HOM.out.kB.lt; have := hbB.size; omega)) _).trans HCX.out; have ho5 := HV0.out.2.2.2 A5 (fun k hk hkB => (HB5.out.block k (by have := hbC.size; omega) hkB).trans (hbC.block k hk)); refine wpList_append_int rfl 26 Try.underlying26 (.tmp 58) (.tmp 60) rfl Z v0 (waitL wt y) rfl ho5 x rfl hcx5 HWL.out (by have := HOM.out.kA.lt; have := hbC.size; have := HB5.out.size; omega) (fun v6 A6 ho6 hg6 hn6 => ?_); obtain ⟨A7, hr7, hm7, hb7, hs7⟩ := HST.out A6 v6 (hg6.block B (by have := HOM.out.kB.lt; have := hbC.size; have := HB5.out.size; omega) (fun e => (HV0.out.2.2.1 _ e.symm).1 rfl)); have HM7 := hide hm7; have HB7 := hide hb7; have HS7 := hide hs7; have HO6 := hide ho6; have HN6 := hide hn6; have HO5 := hide ho5; clear hm7 hb7 hs7 ho6 hn6 hcx5 ho5; simp only [Act.put, List.setIfInBounds_toArray, List.set_cons_zero, List.set_cons_succ]))
            have hfin := wait_fin HOM.out HOi2.out (by rw [HOg.out]; exact HYM.out) hy HK.out HKO.out HV0.out.2.1 HV0.out.2.2.1 hbC HB5.out HO6.out hg6 HN6.out HM7.out HB7.out
            refine ⟨hfin.1, ?_⟩
            rw [hfin.2, HLC.out]
            omega
          · have HMk : Hid (metF left (idV y) = none) := by show _ = _; rw [metF_at, if_neg hy]
            obtain ⟨ds, hde⟩ : ∃ ds, dx + s = ds := ⟨_, rfl⟩
            have hwd : wrap64 ((ds : Int) + 1) = ((ds + 1 : Nat) : Int) := by
              have h1 := HLx.out.1
              rw [IntWalk.wrap64_in _ (by omega)]
              rfl
            have HDE : Hid (dx + s = ds) := hde
            have HDS2 : Hid (dn2.getD x 0 = ds) := (show _ = _ by rw [HDS.out]; exact hde)
            have HHY : Hid (y ∉ left) := hy
            have HDC : Hid (∀ W, Below wr.heap.size wr W → Row W (B + 1) 3 (ints dn2)) := fun W hW => HOM.out.done.later hW
            clear hy hde
            have hxd : x < dn2.length := by have := HOi2.out.dlen; have := HX.out; omega
            go_wp2_with (first
              | ((with_reducible show wpList _ _ _ (Oper.mk (some 48) (Op.load 33 _) _ _ _ _ :: _) _ _); refine wpList_loadId rfl (.tmp 47) rfl rfl HYI.out HYR.out ?_; simp only [Act.put, List.setIfInBounds_toArray, List.set_cons_zero, List.set_cons_succ])
              | ((with_reducible show wpList _ _ _ (Oper.mk (some 11) (Op.alloc 33) _ _ _ _ :: _) _ _); refine wpList_allocId rfl rfl (fun A1 b1 r1 s1 => ?_); have HR1 := (show Hid (Row _ _ _ _) from r1); have HS1 := (show Hid (_ = _) from s1); clear r1 s1; simp only [Act.put, List.setIfInBounds_toArray, List.set_cons_zero, List.set_cons_succ])
              | ((with_reducible show wpList _ _ _ (Oper.mk none (Op.store 33 (.tmp 11) _) _ _ _ _ :: _) _ _); refine wpList_putId rfl (.tmp 11) (.tmp 48) rfl HYI.out rfl rfl HR1.out (by simp) (fun A2 b2 r2 s2 => ?_); have HR2 := (show Hid (Row _ _ _ _) from r2); have hbA : Below wr.heap.size wr A2 := b1.trans (b2.below (by have := b1.size; omega) (Nat.le_refl _)); have HS2 := (show Hid (_ = _) from s2); clear r2 s2; simp only [Act.put])
              | ((with_reducible show wpList _ _ _ (Oper.mk (some 51) (Op.load 33 _) _ _ _ _ :: _) _ _); refine wpList_loadId rfl (.tmp 11) rfl rfl HYI.out HR2.out.range ?_; simp only [Act.put, List.setIfInBounds_toArray, List.set_cons_zero, List.set_cons_succ])
              | ((with_reducible show wpList _ _ _ (Oper.mk _ (Op.lookup 57 _ _ _) _ _ _ _ :: _) _ _); have hbB : Below wr.heap.size wr (A2.alloc (.cells #[] 58)) := hbA.alloc hbA.size _; have hcd : (A2.alloc (.cells #[] 58)).cell? ⟨B + 1, x, none⟩ = some (.int .i64 (ds : Nat)) := (by have h1 := (HDC.out _ hbB).cell (ints_at hxd); rw [HDS2.out] at h1; exact h1); have hfd : (A2.alloc (.cells #[] 58)).frozen? ⟨B + 1, x, none⟩ = false := (HDC.out _ hbB).frozen x; refine wpList_look true none rfl (.tmp 50) (.tmp 51) 57 58 rfl keyed33 Try.underlying57 (zero58 _) rfl (HOM.out.left.below hbA HOM.out.kA.lt) rfl hkey HMk.out ?_; simp only [Act.put, List.setIfInBounds_toArray, List.set_cons_zero, List.set_cons_succ, Option.getD_none, Option.isSome_none, if_true]))
            have hxn : (dn2.set x (ds + 1)).getD x 0 = dx + (s + 1) := by simp [hxd]; have := HDE.out; omega
            have hrow := (HDC.out _ hbB).set x (.int .i64 ((ds + 1 : Nat) : Int))
            rw [ints_set] at hrow
            have hbz : Below Z wr (A2.alloc (.cells #[] 58)) := hbB.mono (by have := HOM.out.kA.lt; omega)
            have hOM9 := (HOM.out.later (HOM.out.bel.trans hbz) hbB.size hbB).donePut (W' := (A2.alloc (.cells #[] 58)).setCell ⟨B + 1, x, none⟩ (.int .i64 ((ds + 1 : Nat) : Int))) ((HOM.out.bel.trans hbz).trans ((But.set (B := B + 1) (n := B + 1) x _).below (by have := HOM.out.zl; omega) (by have := HOM.out.zl; omega))) (But.set (B := B + 1) (n := 0) x _).size (But.set x _) hrow
            refine ⟨⟨s + 1, by omega, by simp, dn2.set x (ds + 1), HOi2.out.more HDS2.out (by rw [HOg.out, HLx.out.1]; have := HDE.out; omega) (by have h1 := HYO.out; rw [HDE.out] at h1; rw [← h1]; exact HHY.out), hxn, by simpa using hOM9⟩, ?_⟩
            simp [intOf]
            omega
        · have hse : s = o.n - dx := by omega
          subst hse
          have HOM := (show Hid (OM _ _ _ _ _ _ _ _ _ _ _ _ _ _ _ _ _) from hOM)
          have HOi2 := (show Hid (OLi _ _ _ _ _ _ _) from hOi)
          have HDS : Hid (dn2.getD x 0 = (l.getD x noO).links.length) := (show _ = _ by rw [HOg.out, hds, HLx.out.1]; omega)
          clear hOM hOi hds H0
          have hzr : Z < wr.heap.size := HOM.out.kA.lt
          have HRo : Hid (∀ W, Below wr.heap.size wr W → World.rangeAt W pb (poff + x * 34) (objC o)) := fun W hW => rangeAt_below (HOM.out.bel.trans (hW.mono (by omega))) HPB.out HXr.out
          have HLo : Hid (IsIds wr.heap.size wr o.q o.n o.c o.links) := (HLx.out.below HOM.out.bel).mono (by omega)
          have hki : (ks.length : Int) ≤ 100000 := by omega
          obtain ⟨kl, hkey⟩ := key_id HOk.out.1
          have hsn : ¬ ((o.n - dx : Nat) : Int) < ((o.n - dx : Nat) : Int) := by omega
          go_wp2_with (first
            | ((with_reducible show wpList _ _ _ (Oper.mk (some 75) (Op.load 46 _) _ _ _ _ :: _) _ _); refine wpList_loadObj rfl (.tmp 74) rfl rfl HOk.out (HRo.out wr (Below.refl _ _)) ?_; simp only [Act.put, List.setIfInBounds_toArray, List.set_cons_zero, List.set_cons_succ])
            | (go_at_call 26; refine (own_any o HOk.out HON.out wr HLo.out).mono ?_; rintro e w2 ⟨o', rfl, hok', hlk', hfr', hbo⟩; have HOK' := hide hok'; have HLK' := hide hlk'; have HFR' := hide hfr'; have HBO := hide hbo; clear hok' hlk' hfr' hbo)
            | ((with_reducible show wpList _ _ _ (Oper.mk (some 77) (Op.buildSlice 22 1 _) _ _ _ _ :: _) _ _); obtain ⟨i0, hi0, hz0, hz1, hz2⟩ := info_parts info46; refine wpList_buildOne rfl 22 46 (.tmp 76) rfl (objC o') rfl i0 _ Try.underlying22 hi0 hz0 (by rw [hz1, objC_length HOK'.out]) (by rw [objC_length HOK'.out]; omega) (by rw [objC_length HOK'.out]; omega) ?_; obtain ⟨w3, hw3⟩ : ∃ w3, w2.alloc (.cells (objC o').toArray 46) = w3 := ⟨_, rfl⟩; rw [hw3]; have HB3 : Hid (Below w2.heap.size w2 w3) := (by rw [← hw3]; exact (Below.refl _ w2).alloc (Nat.le_refl _) _); have HR3 : Hid (Row w3 w2.heap.size 46 (objC o')) := (by rw [← hw3]; exact Row.new' w2 46 _); clear hw3 hi0 hz0 hz1 hz2; have HOM3 := hide (HOM.out.toLater (HBO.out.trans (HB3.out.mono HBO.out.size))); obtain ⟨v9, w4, hr9, ho9, hg9, hat9⟩ := run_append_objs w3 Z (.slice q8 ks.length c8) ks HOM3.out.out (one_obj HOK'.out HFR'.out HB3.out HR3.out) (by omega) (by have := HOM3.out.kA.lt; omega); have HRun := hide hr9; have HO9 := hide ho9; have HG9 := hide hg9; have HAT9 := hide hat9; clear hr9 ho9 hg9 hat9; simp only [Act.put, List.setIfInBounds_toArray, List.set_cons_zero, List.set_cons_succ])
            | ((with_reducible show wpList _ _ _ (Oper.mk (some 78) (_) _ _ _ _ :: _) _ _); refine wpList_plain rfl (fun K hK => wp_append_of (.tmp 71) (.tmp 77) 22 rfl rfl rfl HRun.out (hK _ _ ?_)); have HOM4 := hide (HOM3.out.toOut HG9.out HO9.out HAT9.out HFR'.out HOM.out HB3.out); simp only [Act.put, List.setIfInBounds_toArray, List.set_cons_zero, List.set_cons_succ])
            | ((with_reducible show wpList _ _ _ (Oper.mk (some 83) (Op.load 33 _) _ _ _ _ :: _) _ _); refine wpList_loadId rfl (.tmp 82) rfl rfl HOk.out.1 (off := poff + x * 34) (obj_idRange HOk.out (rangeAt_below HOM4.out.bel HPB.out HXr.out)) ?_; simp only [Act.put, List.setIfInBounds_toArray, List.set_cons_zero, List.set_cons_succ])
            | ((with_reducible show wpList _ _ _ (Oper.mk (some 14) (Op.alloc 33) _ _ _ _ :: _) _ _); refine wpList_allocId rfl rfl (fun w5 b5 r5 s5 => ?_); have HR5 := hide r5; have HS5 := hide s5; have HB5 := hide b5; clear r5 s5 b5; simp only [Act.put, List.setIfInBounds_toArray, List.set_cons_zero, List.set_cons_succ])
            | ((with_reducible show wpList _ _ _ (Oper.mk none (Op.store 33 (.tmp 14) _) _ _ _ _ :: _) _ _); refine wpList_putId rfl (.tmp 14) (.tmp 83) rfl HOk.out.1 rfl rfl HR5.out (by simp) (fun w6 b6 r6 s6 => ?_); have HR6 := hide r6; have HB6 : Hid (Below w4.heap.size w4 w6) := HB5.out.trans (b6.below (by have := HB5.out.size; omega) (Nat.le_refl _)); clear r6 s6 b6; have HOM6 := hide (HOM4.out.toLater HB6.out); simp only [Act.put])
            | ((with_reducible show wpList _ _ _ (Oper.mk (some 85) (Op.load 33 _) _ _ _ _ :: _) _ _); refine wpList_loadId rfl (.tmp 14) rfl rfl HOk.out.1 HR6.out.range ?_; simp only [Act.put, List.setIfInBounds_toArray, List.set_cons_zero, List.set_cons_succ])
            | ((with_reducible show wpList _ _ _ (Oper.mk none (Op.call { callee := .builtin .delete, args := _, argTypes := #[57, 33] }) _ _ _ _ :: _) _ _); refine wpList_mapDrop w6.heap.size rfl (.tmp 84) (.tmp 85) 57 58 rfl keyed33 Try.underlying57 rfl HOM6.out.left rfl hkey (fun w7 hm7 hb7 hs7 => ?_); have HOM7 := hide (HOM6.out.toLeft hb7 hm7); have HR7 : Hid (Row w7 w4.heap.size 33 (u8s o.id)) := hb7.row HR6.out.lt (by have := HOM4.out.kA.lt; omega) HR6.out; obtain ⟨v0, hv0, hvv0, hvk0, hvo0⟩ := wait_old HOM7.out o.id; obtain ⟨q0, c0, rfl⟩ := slice_of_row (hvo0 w7 (fun _ _ _ => rfl)); have HV0 := hide hv0; have HVV0 := hide hvv0; have HVK0 := hide hvk0; have HVO0 := hide hvo0; have HB7 := hide hb7; clear hv0 hvv0 hvk0 hvo0 hm7 hs7 hb7; simp only [Act.put])
            | ((with_reducible show wpList _ _ _ (Oper.mk (some 88) (Op.load 33 _) _ _ _ _ :: _) _ _); refine wpList_loadId rfl (.tmp 14) rfl rfl HOk.out.1 HR7.out.range ?_; simp only [Act.put, List.setIfInBounds_toArray, List.set_cons_zero, List.set_cons_succ])
            | ((with_reducible show wpList _ _ _ (Oper.mk _ (Op.lookup 65 _ _ _) _ _ _ _ :: _) _ _); refine wpList_look_val rfl (.tmp 87) (.tmp 88) 65 26 rfl keyed33 Try.underlying65 (zero26 _) rfl HOM7.out.wtm.at rfl hkey HV0.out ?_; simp only [Act.put, List.setIfInBounds_toArray, List.set_cons_zero, List.set_cons_succ])
            | (go_at_call 32; refine (more32_any g c q L2 w7 HOM7.out.hp HOi2.out.heap q0 (waitL wt o.id).length c0 (waitL wt o.id) rfl (wait_row HOM7.out HVV0.out HVO0.out) (wait_few HOi2.out hlen hll o.id)).mono ?_; rintro e w8 ⟨⟨v8x, rfl⟩, q3, c3, L3, hP⟩; have HOM8 := hide (HOM7.out.toHeap hP); have HR8 : Hid (Row w8 w4.heap.size 33 (u8s o.id)) := (hP.fr.block _ HR7.out.lt (fun e => by have := HOM4.out.kg.lt; omega) (fun e => by have := (HOM4.out.kh _ e.symm).lt; omega)).trans HR7.out; have HP := hide hP; clear hP)
            | ((with_reducible show wpList _ _ _ (Oper.mk (some 92) (Op.load 33 _) _ _ _ _ :: _) _ _); refine wpList_loadId rfl (.tmp 14) rfl rfl HOk.out.1 HR8.out.range ?_; simp only [Act.put, List.setIfInBounds_toArray, List.set_cons_zero, List.set_cons_succ])
            | ((with_reducible show wpList _ _ _ (Oper.mk none (Op.call { callee := .builtin .delete, args := _, argTypes := #[65, 33] }) _ _ _ _ :: _) _ _); refine wpList_mapDropS w8.heap.size rfl (.tmp 91) (.tmp 92) 65 26 rfl keyed33 Try.underlying65 rfl HOM8.out.wtm rfl hkey (fun w9 hm9 hb9 hs9 => ?_); have HOM9 := hide (HOM8.out.toDel hb9 hm9); clear hm9 hb9 hs9; simp only [Act.put]))
          obtain ⟨q9, c9, rfl⟩ := HO9.out.slice
          have hpl := HOi2.out.places (L2 := L3) HDS.out (by rw [HOg.out]; exact HP.out.perm) HP.out.heap
          rw [HOg.out] at hpl
          have hkl : (ks ++ [o']).length = ks.length + 1 := by simp
          have hkeys : (ks ++ [o']).map O.key = (objP l (P ++ [x])).map O.key := by
            have h1 : objP l (P ++ [x]) = objP l P ++ [o] := by simp only [objP, List.map_append, List.map_cons, List.map_nil, HOg.out]
            rw [h1, List.map_append, List.map_append, HK.out, List.map_cons, List.map_cons, List.map_nil, HLK'.out.key]
          have hkos : ∀ z ∈ ks ++ [o'], z.ok := fun z hz => by
            rcases List.mem_append.1 hz with hz | hz
            · exact HKO.out z hz
            · simp only [List.mem_singleton] at hz; subst hz; exact HOK'.out
          have hfew3 := hpl.ord.few
          simp only [List.length_append, List.length_singleton] at hfew3
          refine ⟨⟨P ++ [x], L3, q3, c3, _, _, sl, dn2, ks ++ [o'], hpl, ?_, hkeys, hkos⟩, ?_⟩
          · rw [← metF_del]; exact HOM9.out
          · rw [HOM9.out.hp.lenC, HLC.out, hkl, hLlen]
            show (len - (ks.length + 1)) * (len + 1) + L3.length < (len - ks.length) * (len + 1) + (L2.length + 1)
            obtain ⟨d, hd⟩ : ∃ d, len - ks.length = d + 1 := ⟨len - ks.length - 1, by omega⟩
            rw [hd, show len - (ks.length + 1) = d by omega, Nat.succ_mul]
            omega
end Go.Proofs.Ytfclbdlkpnoceaa
/-
  MarkOrders, walked.
-/
namespace Go.Proofs.Ytfclbdlkpnoceaa
open Go.RowKit Go.Shelf Go.Maps
attribute [local go_sem] Oper.semAt_some

theorem isObjs_nil (m : Nat) (W : World) : IsObjs m W none 0 0 [] := ⟨rfl, Nat.le_refl _, by omega, by simp, by simp, .inl rfl⟩
theorem order_none (p : Option Addr) (len cap : Nat) (l : List O) (hlen : len ≤ 100) (hn : ∀ o ∈ l, o.n ≤ 100000) (ho : orderL l = none) (w : World) (hI : IsObjs w.heap.size w p len cap l) :
    Calls Try.prog 17 #[.slice p len cap] w fun e w' => e = .returned (.tuple #[.slice none 0 0, .bool false]) ∧ Below w.heap.size w w' :=
  (order_any p len cap l (by omega) hn w hI).mono fun e w' ⟨h, hb⟩ => by
    rcases h with ⟨_, h⟩ | ⟨out, ks, q, n, c, h, _⟩
    · exact ⟨h, hb⟩
    · rw [ho] at h; cases h
theorem order_some (p : Option Addr) (len cap : Nat) (l out : List O) (hlen : len ≤ 100) (hn : ∀ o ∈ l, o.n ≤ 100000) (ho : orderL l = some out) (w : World) (hI : IsObjs w.heap.size w p len cap l) :
    Calls Try.prog 17 #[.slice p len cap] w fun e w' => ∃ ks q n c, ks.map O.key = out.map O.key ∧ e = .returned (.tuple #[.slice q n c, .bool true]) ∧ IsObjs w'.heap.size w' q n c ks ∧ Below w.heap.size w w' :=
  (order_any p len cap l (by omega) hn w hI).mono fun e w' ⟨h, hb⟩ => by
    rcases h with ⟨h, _⟩ | ⟨out2, ks, q, n, c, h, hk, he, hi⟩
    · rw [ho] at h; cases h
    · rw [ho] at h; cases h; exact ⟨ks, q, n, c, hk, he, hi, hb⟩
theorem refOrder_none (p : Option Addr) (len cap : Nat) (l : List O) (hlen : len ≤ 100) (ho : orderL l = none) (w : World) (hI : IsObjs w.heap.size w p len cap l) :
    Calls Try.prog 18 #[.slice p len cap] w fun e w' => e = .returned (.tuple #[.slice none 0 0, .bool false]) ∧ Below w.heap.size w w' :=
  (refOrder_any p len cap l hlen w hI).mono fun e w' ⟨h, hb⟩ => by
    rcases h with ⟨_, h⟩ | ⟨out, q, n, c, h, _⟩
    · exact ⟨h, hb⟩
    · rw [ho] at h; cases h
theorem refOrder_some (p : Option Addr) (len cap : Nat) (l out : List O) (hlen : len ≤ 100) (ho : orderL l = some out) (w : World) (hI : IsObjs w.heap.size w p len cap l) :
    Calls Try.prog 18 #[.slice p len cap] w fun e w' => ∃ q n c, e = .returned (.tuple #[.slice q n c, .bool true]) ∧ IsObjs w'.heap.size w' q n c out ∧ Below w.heap.size w w' :=
  (refOrder_any p len cap l hlen w hI).mono fun e w' ⟨h, hb⟩ => by
    rcases h with ⟨h, _⟩ | ⟨out2, q, n, c, h, he, hi⟩
    · rw [ho] at h; cases h
    · rw [ho] at h; cases h; exact ⟨q, n, c, he, hi, hb⟩

set_option maxRecDepth 100000 in
set_option maxHeartbeats 1000000 in
theorem markOrders_walk (p : Option Addr) (len cap : Nat) (l : List O) (w : World) (hI : IsObjs w.heap.size w p len cap l) :
    Calls Try.prog 5 #[.slice p len cap] w fun e w' => e = .returned (.bool true) ∧ Below w.heap.size w w' := by
  have HI : Hid (IsObjs w.heap.size w p len cap l) := hI
  clear hI
  go_enter Try.func5, Try.ntmps5
  go_wp2_with (first
    | (go_at_call 7; refine (awake_any w).mono ?_; rintro e w1 ⟨rfl, b1⟩; have HF : Hid (Calls Try.prog 8 #[.slice p len cap] w1 fun e w' => ∃ b, e = .returned (.bool b) ∧ (b = true → (∀ o ∈ l, o.links.length ≤ 20) ∧ len ≤ 30) ∧ Below w1.heap.size w1 w') := few_any p len cap l w1 ((HI.out.below b1).mono b1.size))
    | (go_at_call 8; refine HF.out.mono ?_; rintro e w2 ⟨b, rfl, hfew, b2⟩; have HFew := (show Hid (b = true → _) from hfew); clear hfew; cases b))
  · go_ret
    exact ⟨rfl, b1.trans (b2.mono b1.size)⟩
  obtain ⟨hln, hlen⟩ := HFew.out (by first | rfl | trivial)
  have b12 : Below w.heap.size w w2 := b1.trans (b2.mono b1.size)
  have hI2 : IsObjs w2.heap.size w2 p len cap l := (HI.out.below b12).mono b12.size
  have HI2 := (show Hid (IsObjs _ _ _ _ _ _) from hI2)
  have HLn : Hid (∀ o ∈ l, o.n ≤ 100000) := fun o ho => by have h1 := hln o ho; have h2 := (hI2.2.2.2.2.1 o ho).1; omega
  clear hI2 HI HF b1 b2 hln HFew
  rcases hol : orderL l with _ | out
  · have HOl := (show Hid (_ = _) from hol)
    clear hol
    go_wp2_with (first
      | (go_at_call 17; refine (order_none p len cap l (by omega) HLn.out HOl.out w2 HI2.out).mono ?_; rintro e w3 ⟨rfl, b3⟩)
      | (go_at_call 18; refine (refOrder_none p len cap l (by omega) HOl.out w3 (HI2.out.later b3)).mono ?_; rintro e w4 ⟨rfl, b4⟩)
      | (go_at_call 16; refine (sameObjs_any none 0 0 [] none 0 [] rfl w4 (isObjs_nil _ _) (isObjs_nil _ _)).mono ?_; rintro e w5 ⟨rfl, b5⟩))
    go_ret
    have s1 := b12.size; have s3 := b3.size; have s4 := b4.size
    exact ⟨rfl, ((b12.trans (b3.mono (by omega))).trans (b4.mono (by omega))).trans (b5.mono (by omega))⟩
  · have HOl := (show Hid (_ = _) from hol)
    clear hol
    go_wp2_with (first
      | (go_at_call 17; refine (order_some p len cap l out (by omega) HLn.out HOl.out w2 HI2.out).mono ?_; rintro e w3 ⟨ks, q1, n1, c1, hkey, rfl, hob, b3⟩; have HOb := (show Hid (IsObjs _ _ _ _ _ _) from hob); have HKey := (show Hid (_ = _) from hkey); clear hob hkey)
      | (go_at_call 18; refine (refOrder_some p len cap l out (by omega) HOl.out w3 (HI2.out.later b3)).mono ?_; rintro e w4 ⟨q3, n3, c3, rfl, hob2, b4⟩; obtain rfl : n3 = n1 := (by have h1 := hob2.1; have h2 := HOb.out.1; have h3 := congrArg List.length HKey.out; simp only [List.length_map] at h3; omega); have HOb2 := (show Hid (IsObjs _ _ _ _ _ _) from hob2); clear hob2)
      | (go_at_call 16; refine (sameObjs_any q1 n3 c1 ks q3 c3 out HKey.out w4 (HOb.out.later b4) HOb2.out).mono ?_; rintro e w5 ⟨rfl, b5⟩))
    go_ret
    have s1 := b12.size; have s3 := b3.size; have s4 := b4.size
    exact ⟨rfl, ((b12.trans (b3.mono (by omega))).trans (b4.mono (by omega))).trans (b5.mono (by omega))⟩
end Go.Proofs.Ytfclbdlkpnoceaa
