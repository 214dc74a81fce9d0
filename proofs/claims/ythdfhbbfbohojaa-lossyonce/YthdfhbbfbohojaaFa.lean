/-
  The fate of the Send that comes now; New.
-/
import Derived.Test.YthdfhbbfbohojaaCl
namespace Go.Proofs.Ythdfhbbfbohojaa
open Go.RowKit Go.Shelf Go.Lib

theorem size47 : (Try.prog.info? 47).map (·.size) = some 2 := by kernel_rfl
theorem size53 : (Try.prog.info? 53).map (·.size) = some 2 := by kernel_rfl
theorem size57 : (Try.prog.info? 57).map (·.size) = some 2 := by kernel_rfl
theorem wpHeld_loadSt {P : Program} {ops : Array Oper} {S : World → Prop} {K : Act → Prop} {a : Act} {o : Oper} {rest : List Oper} (hw : Region.wanted o (yielded ops a.tmps) = true) (ty : TypeId) (x : Operand) (ho : o.op = .load ty x)
    (b off : Nat) (hx : a.eval x = .pointer (some ⟨b, off, none⟩)) (cs : List Value) {d : TypeDesc} (hS : ∀ w, S w → w.rangeAt b off cs) (hu : P.underlying ty = some d) (hd : d.isRow = true) (hi : (P.info? ty).map (·.size) = some cs.length)
    (h : wpHeld P ops S K rest (a.put o.dst (.agg cs.toArray))) : wpHeld P ops S K (o :: rest) a := ⟨_, yieldsIf_load_mid hw ty x ho b off hx cs _ hS hu hd hi, h⟩
def Lk.fate (L : Lk) : Int × Int := L.fs.getD L.n (1, 0)
def fV (f : Int × Int) : Value := .agg #[.int .i64 f.1, .int .i64 f.2]
theorem results_F {fn : Func} {p : Tmp} (h : fn.results = #[.cell p 47]) {tmps : Array Value} {w : World} {g : Nat} (hp : tmps.getD p undef = .pointer (some ⟨g, 0, none⟩)) {f : Int × Int} (hg : Row w g 47 (fC f)) : (results fn tmps).run Try.prog w = .ok (fV f) w := by
  have := results_cell_row h tmps w g 47 (fC f).toArray (0, 0) _ hp hg Try.underlying47 rfl (by simpa [fC] using size47)
  exact this

set_option maxRecDepth 100000 in
set_option maxHeartbeats 1000000 in
theorem fate_any {base p g : Nat} {fv wv : Value} {L : Lk} {w : World} (h : LkAt base w p g fv wv L) :
    Calls Try.prog 16 #[.pointer (some ⟨p, 0, none⟩)] w fun e w' => e = .returned (fV L.fate) ∧ Below w.heap.size w w' := by
  obtain ⟨q, c, rfl, h1, h2, h3⟩ := id h.fates
  have hF : Hid (FatesAt base w (.slice q L.fs.length c) L.fs) := h.fates
  have hc1 := h.row.cell (i := 1) rfl
  have hc2 := h.row.cell (i := 2) rfl
  have hp := h.row.lt
  obtain ⟨w1, hw1⟩ : ∃ w1, w.alloc (.cells #[.int .i64 0, .int .i64 0] 47) = w1 := ⟨_, rfl⟩
  have hb1 : Below w.heap.size w w1 := by rw [← hw1]; exact (Below.refl _ w).alloc (Nat.le_refl _) _
  have hR1 : Row w1 w.heap.size 47 [.int .i64 0, .int .i64 0] := by rw [← hw1]; exact Row.new w 47 _
  have hd1 := (hb1.cell (p := ⟨p, 1, none⟩) hp).trans hc1
  have hd2 := (hb1.cell (p := ⟨p, 2, none⟩) hp).trans hc2
  have HR1 : Hid (Row w1 w.heap.size 47 [.int .i64 0, .int .i64 0]) := hR1
  have HB1 : Hid (Below w.heap.size w w1) := hb1
  have HW1 : Hid (w.alloc (.cells #[.int .i64 0, .int .i64 0] 47) = w1) := hw1
  clear hw1 hR1 hb1 h3
  obtain ⟨k, hk⟩ : ∃ k, k = L.fs.length := ⟨_, rfl⟩
  have HK : Hid (k = L.fs.length) := hk
  obtain ⟨f, hf⟩ : ∃ f, f = L.fate := ⟨_, rfl⟩
  rw [← hf]
  rw [← hk] at hF h1 hd1 hc1
  have HFt : Hid (f = L.fate) := hf
  clear hf hk
  by_cases hlt : L.n < k
  · have hlt' : (L.n : Int) < (k : Int) := by omega
    have hff : L.fs[L.n]? = some f := by
      rw [HFt.out, Lk.fate, List.getD_eq_getElem?_getD, List.getElem?_eq_getElem (by have := HK.out; omega), Option.getD_some]
    obtain ⟨b, o, rfl, hrg⟩ := hF.out.at hff
    have hbl : b < w.heap.size := by
      have := hrg 0 _ rfl
      exact World.block_lt_of_cell? w _ this
    have HRg : Hid (w1.rangeAt b (o + L.n * 2) (fC f)) := fun j v hj => (HB1.out.cell (p := ⟨b, _, none⟩) hbl).trans (hrg j v hj)
    clear hrg hff
    generalize L.n = n at *
    go_enter Try.func16, Try.ntmps16
    have hw1 := HW1.out
    go_wp2_with (go_quiet (fail))
    have mk : ∀ W, Below w.heap.size w1 W → W.cell? ⟨p, 1, none⟩ = some (.slice (some ⟨b, o, none⟩) k c) ∧ W.cell? ⟨p, 2, none⟩ = some (.int .i64 n) ∧ W.rangeAt b (o + n * 2) (fC f) := fun W hW =>
      ⟨(hW.cell (p := ⟨p, 1, none⟩) hp).trans hd1, (hW.cell (p := ⟨p, 2, none⟩) hp).trans hd2, fun j v hj => (hW.cell (p := ⟨b, _, none⟩) hbl).trans (HRg.out j v hj)⟩
    have Hmk : Hid (∀ W, _) := mk
    clear mk
    refine wp_region_held_drew (S := fun W => W.cell? ⟨p, 1, none⟩ = some (.slice (some ⟨b, o, none⟩) k c) ∧ W.cell? ⟨p, 2, none⟩ = some (.int .i64 n) ∧ W.rangeAt b (o + n * 2) (fC f)) (by kernel_rfl) ⟨hd1, hd2, HRg.out⟩ (fun hHeld => ?_)
    refine wpAnyH_takesAt 0 9 2 (of_decide_eq_true (by kernel_rfl)) rfl (fun _ _ _ d _ h => by cases d <;> exact h) (by kernel_rfl) (by kernel_rfl) hHeld ?_
    simp only [List.drop_zero, List.take_succ_cons, List.take_zero]
    iterate 9 (refine wpHeld_step (v := ?_) (by rfl) (fun wz hSw => ?_) ?_; rotate_left; (focus ((try dsimp only at hSw); go_simp; try with_reducible rfl)); (simp only [Act.put, List.setIfInBounds_toArray, List.set_cons_zero, List.set_cons_succ]))
    refine wpHeld_nil ?_
    refine wpAnyH_takesAt 9 1 1 (of_decide_eq_true (by kernel_rfl)) rfl (fun _ _ _ d _ h => by cases d <;> exact h) (by kernel_rfl) (by kernel_rfl) hHeld ?_
    simp only [List.drop_succ_cons, List.drop_zero, List.take_succ_cons, List.take_zero]
    refine wpHeld_loadSt (by rfl) 47 (.tmp 21) rfl b (o + n * 2) rfl (fC f) (fun W hW => hW.2.2) Try.underlying47 rfl size47 ?_
    (simp only [Act.put]; (try simp only [List.setIfInBounds_toArray]); (try simp only [List.set_cons_succ]); (try simp only [List.set_cons_zero]))
    refine wpHeld_nil ?_
    refine wpAnyH_only (i := 10) (by kernel_rfl) rfl (fun K hK => ?_)
    rw [if_pos (by rfl)]
    have hR2 := (HR1.out.drewN nq).drew
    have hb2 := (below_drewN (Below.refl w.heap.size w1) nq).drew
    generalize (w1.drewN nq).drew = w2 at *
    refine wp_store_mid 47 (.tmp 2) (.tmp 22) rfl w.heap.size 0 (fC f).toArray rfl rfl (by have := hR2.there; exact this) (by simpa [fC] using size47) (all_oneCell_toArray (encF.one f)) ?_
    have hR3 : Row (w2.setCells w.heap.size 0 (fC f).toArray.toList) w.heap.size 47 (fC f) := hR2.sets_all (vs := fC f) rfl
    have hb3 : Below w.heap.size w1 (w2.setCells w.heap.size 0 (fC f).toArray.toList) := below_setCells (Nat.le_refl _) _ _ hb2
    refine hK.out _ _ (Hmk.out _ hb3) ?_
    clear hK K
    refine wpAnyH_done (by kernel_rfl) ?_ _
    clear hHeld
    generalize w2.setCells w.heap.size 0 (fC f).toArray.toList = w3 at *
    have HR3 : Hid (Row w3 w.heap.size 47 (fC f)) := hR3
    have HB3 : Hid (Below w.heap.size w1 w3) := hb3
    clear hR3 hb3 hR2
    go_wp2
    refine bodyPost_ret (results_F rfl rfl HR3.out) rfl ?_
    exact ⟨rfl, HB1.out.trans HB3.out⟩
  · have hlt' : ¬ (L.n : Int) < (k : Int) := by omega
    have hff : f = (1, 0) := by
      rw [HFt.out, Lk.fate, List.getD_eq_getElem?_getD, List.getElem?_eq_none (by have := HK.out; omega)]
      rfl
    subst hff
    generalize L.n = n at *
    go_enter Try.func16, Try.ntmps16
    have hw1 := HW1.out
    go_wp2_with (first | (go_quiet (fail)) | ((with_reducible show wpList _ _ _ (Oper.mk _ (Op.store 47 (.tmp 2) (.tmp 23)) _ _ _ _ :: _) _ _); refine wpList_store_Row rfl 47 (.tmp 2) (.tmp 23) rfl (fC (1, 0)) rfl rfl (Row.drewN HR1.out _) size47 rfl (encF.one _) ?_; simp only [Act.put]))
    refine bodyPost_ret (results_F rfl rfl (Row.sets_all (Row.drewN HR1.out _) rfl)) rfl ?_
    exact ⟨rfl, below_setCells (Nat.le_refl _) _ _ (below_drewN HB1.out _)⟩

set_option maxHeartbeats 1000000 in
/-- New: a line on which nothing waits. -/
theorem new_any {base : Nat} {v : Value} {fs : List (Int × Int)} {w : World} (h : FatesAt base w v fs) (hlen : fs.length ≤ 100000) (hb : base ≤ w.heap.size) :
    Calls Try.prog 7 #[v] w fun e w' => ∃ p fv, e = .returned (.pointer (some ⟨p, 0, none⟩)) ∧ w.heap.size ≤ p ∧ LkAt base w' p p fv (.slice none 0 0) ⟨fs, 0, []⟩ ∧ Below w.heap.size w w' := by
  have hcl := cloneF_any h hlen
  have HCl : Hid (Calls Try.prog 15 #[v] w fun e w' => ∃ v', e = .returned v' ∧ FatesAt base w' v' fs ∧ Below w.heap.size w w') := hcl
  clear hcl h
  go_enter Try.func7, Try.ntmps7
  go_wp2_with (go_at_call 15; refine HCl.out.mono ?_; rintro e w1 ⟨v', rfl, hF, hb1⟩; obtain ⟨q', c', rfl, _⟩ := id hF; have HF : Hid (FatesAt base w1 _ fs) := hF; have HB1 : Hid (Below w.heap.size w w1) := hb1; clear hF hb1)
  go_ret
  have hb2 : Below w1.heap.size w1 (w1.alloc (.cells #[.bool true, .slice q' fs.length c', .int .i64 0, .slice none 0 0] 44)) := (Below.refl _ w1).alloc (Nat.le_refl _) _
  have hs := HB1.out.size
  exact ⟨w1.heap.size, _, rfl, hs, ⟨by omega, by omega, Row.new w1 44 _, HF.out.later hb2, ⟨none, 0, rfl, .inl ⟨rfl, rfl, rfl, rfl⟩⟩, fun m hm => by simp at hm⟩, HB1.out.trans (hb2.mono hs)⟩
end Go.Proofs.Ythdfhbbfbohojaa
