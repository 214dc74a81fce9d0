/-
  Several texts in one: Meet, Meet2.
-/
import Derived.Test.YtfclbdlkpnoceaaItAll
/-
  A walk begun: the map of links, of all objects.
-/
namespace Go.Proofs.Ytfclbdlkpnoceaa
open Go.RowKit Go.Shelf Go.Maps
attribute [local go_sem] Oper.semAt_some

theorem low_own {β : Type} {B : Nat} {I : β → World → Prop} (h : Low B I) (hB : ∀ s A, I s A → B ≤ A.heap.size) : OwnFrom B I := fun s A A' row hs hg hr => h s A A' hs ⟨hg.os, hg.tape, hg.output, hg.size, fun k hk => hg.block k (by have := hB s A hs; omega) (fun e => by have := (hr k e.symm).1; omega)⟩
def BeginPost (w : World) (l : List O) (e : Ending) (w' : World) : Prop :=
  ∃ Lm Mm, e = .returned (.agg #[.map (some Lm), .map (some Mm)]) ∧ MapAt Try.prog 33 w' Lm (linkF l) ∧ MapAt Try.prog 33 w' Mm (metF []) ∧ Lm ≠ Mm ∧ w.heap.size ≤ Lm ∧ w.heap.size ≤ Mm ∧ Below w.heap.size w w'
/-- A walk that is begun, under way. -/
def BegI (Z S : Nat) (w : World) (l : List O) (len : Nat) (pre : List Nat) (A : World) : Prop :=
  MapAt Try.prog 33 A (Z + 1) (linkF (l.drop (len - pre.length))) ∧ MapAt Try.prog 33 A (Z + 1 + 1) (metF []) ∧ Row A (Z + 1 + 1 + 1) 75 [.map (some (Z + 1)), .map (some (Z + 1 + 1))] ∧ Row A Z 75 [.map none, .map none] ∧ Below Z w A ∧ S ≤ A.heap.size
theorem keepsFrom_but {n b m : Nat} {A B : World} (h : But b m A B) (hb : b < n) (hm : A.heap.size ≤ m) : KeepsFrom n A B := ⟨h.size, fun k o hk ho _ => (h.block k (by have := (Array.getElem?_eq_some_iff.1 ho).1; omega) (by omega)).trans ho⟩
theorem kpp_but {P : Nat → Obj → Prop} {b m : Nat} {A B : World} (h : But b m A B) (hP : ∀ k o, P k o → A.heap[k]? = some o → k ≠ b) (hm : A.heap.size ≤ m) : KpP P A B := fun k o hp ho => (h.block k (by have := (Array.getElem?_eq_some_iff.1 ho).1; omega) (hP k o hp ho)).trans ho

open Classical in
set_option maxRecDepth 100000 in
set_option maxHeartbeats 4000000 in
theorem begin_in (N : Nat) (hN : 6 ≤ N) (p : Option Addr) (len cap : Nat) (l : List O) (hlen : len ≤ 100000) (w : World) (hI : IsObjs w.heap.size w p len cap l) : CallsIn Fence.wide N Try.prog 35 #[.slice p len cap] w (BeginPost w l) := by
  have h1 : 1 ≤ N := by omega
  have hfn : ∀ f, Fence.wide.fn f := fun _ => trivial
  refine callsIn_of_wp_marks Try.func35 rfl trivial ?_ rfl
  simp only [Try.ntmps35, List.size_toArray, List.length_cons, List.length_nil, Nat.reduceAdd, Nat.reduceSub, Array.replicate_succ, Array.replicate_zero, List.push_toArray, List.append_toArray, List.nil_append, List.cons_append]
  have hmm := @run_makeMap Try.prog
  gi_wp2_with (gi_at_call 48; refine (callsIn_wide.2 (backward_any p len cap _)).mono ?_; rintro e w' ⟨rfl, rfl⟩)
  obtain ⟨w1, hw1⟩ : ∃ w1, w1 = w.alloc (.cells #[.map none, .map none] 75) := ⟨_, rfl⟩
  obtain ⟨w2, hw2⟩ : ∃ w2, w2 = w1.alloc (.map #[] 0) := ⟨_, rfl⟩
  obtain ⟨w3, hw3⟩ : ∃ w3, w3 = w2.alloc (.map #[] 0) := ⟨_, rfl⟩
  obtain ⟨w4, hw4⟩ : ∃ w4, w4 = w3.alloc (.cells #[.map (some (w.heap.size + 1)), .map (some (w.heap.size + 1 + 1))] 75) := ⟨_, rfl⟩
  rw [← hw1, ← hw2, ← hw3, ← hw4]
  have s1 : w1.heap.size = w.heap.size + 1 := by rw [hw1]; simp
  have s2 : w2.heap.size = w.heap.size + 1 + 1 := by rw [hw2, World.size_alloc, s1]
  have s3 : w3.heap.size = w.heap.size + 1 + 1 + 1 := by rw [hw3, World.size_alloc, s2]
  have s4 : w4.heap.size = w.heap.size + 1 + 1 + 1 + 1 := by rw [hw4, World.size_alloc, s3]
  have b1 : Below w.heap.size w w1 := by rw [hw1]; exact (Below.refl _ w).alloc (Nat.le_refl _) _
  have b2 : Below w1.heap.size w1 w2 := by rw [hw2]; exact (Below.refl _ w1).alloc (Nat.le_refl _) _
  have b3 : Below w2.heap.size w2 w3 := by rw [hw3]; exact (Below.refl _ w2).alloc (Nat.le_refl _) _
  have b4 : Below w3.heap.size w3 w4 := by rw [hw4]; exact (Below.refl _ w3).alloc (Nat.le_refl _) _
  have b5 : Below w4.heap.size w4 (w4.alloc (.cells #[.slice p len cap] 22)) := (Below.refl _ w4).alloc (Nat.le_refl _) _
  have s5 : (w4.alloc (.cells #[.slice p len cap] 22)).heap.size = w.heap.size + 1 + 1 + 1 + 1 + 1 := by rw [World.size_alloc, s4]
  have r0 : Row w1 w.heap.size 75 [.map none, .map none] := by rw [hw1]; exact Row.new' w 75 _
  have m1 : MapAt Try.prog 33 w2 (w.heap.size + 1) (fun _ => none) := by rw [← s1, hw2]; exact MapAt.new _ _ _
  have m2 : MapAt Try.prog 33 w3 (w.heap.size + 1 + 1) (fun _ => none) := by rw [← s2, hw3]; exact MapAt.new _ _ _
  have r3 : Row w4 (w.heap.size + 1 + 1 + 1) 75 [.map (some (w.heap.size + 1)), .map (some (w.heap.size + 1 + 1))] := by rw [← s3, hw4]; exact Row.new' _ 75 _
  have bx : Boxed (w4.alloc (.cells #[.slice p len cap] 22)) (w.heap.size + 1 + 1 + 1 + 1) 22 (.slice p len cap) := by rw [← s4]; exact Boxed.new w4 22 _
  generalize w4.alloc (.cells #[.slice p len cap] 22) = w5 at *
  have c34 : Below w3.heap.size w3 w5 := b4.trans (b5.mono (by omega))
  have c24 : Below w2.heap.size w2 w5 := b3.trans (c34.mono (by omega))
  have c14 : Below w1.heap.size w1 w5 := b2.trans (c24.mono (by omega))
  have c04 : Below w.heap.size w w5 := b1.trans (c14.mono (by omega))
  have R0 : Row w5 w.heap.size 75 [.map none, .map none] := r0.below c14 (by omega)
  have M1 : MapAt Try.prog 33 w5 (w.heap.size + 1) (linkF []) := by rw [linkF_nil]; exact m1.below c24 (by omega)
  have M2 : MapAt Try.prog 33 w5 (w.heap.size + 1 + 1) (metF []) := by rw [metF_nil]; exact m2.below c34 (by omega)
  have R3 : Row w5 (w.heap.size + 1 + 1 + 1) 75 [.map (some (w.heap.size + 1)), .map (some (w.heap.size + 1 + 1))] := r3.below b5 (by omega)
  have hI5 : IsObjs w.heap.size w5 p len cap l := hI.below c04
  have hll := hI.1
  clear hw1 hw2 hw3 hw4 b1 b2 b3 b4 b5 c34 c24 c14 r0 m1 m2 r3 s1 s2 s3 s4 hI hmm w1 w2 w3 w4
  generalize hZ : w.heap.size = Z at *
  refine wpIn_rangeFunc_okx rfl h1 (gf := 59) (lb := #[.pointer (some ⟨Z + 1 + 1 + 1 + 1, 0, none⟩)]) rfl trivial (enters_of Try.func59 (by kernel_rfl) rfl)
    (encs := bkV l) (Ok := fun i _ => (l.getD i noO).ok ∧ i < len) (Kp := KpP (fun k _ => k ≠ Z + 1 ∧ k < Z + 5)) (Nx := fun pre i => pre.length + 1 + i = len) (S := fun xs => xs.length = len) (Sp := fun _ => True)
    (fun W' hs hb => backward1_iter (N - 1) (by omega) _ (Z + 1 + 1 + 1 + 1) Z p len cap l _ W' hlen (boxed_below bx hb) (fun _ => by constructor <;> omega) (hI5.below (hb.mono (by omega))) (fun k c t fr hk => by constructor <;> omega))
    KpP.trans (fun A o o' ho hc => KpP.record o' (fun _ h => by have := h.2; omega)) KpP.of_below (fun _ => rfl)
    (fun i A B => ObjAt B A.heap.size (l.getD i noO)) (fun i A B o h hl => ⟨h.ok, TwoRow.put o h.row hl⟩)
    (BegI Z w5.heap.size w l len)
    (fun _ _ _ => False)
    (low_own (fun s A B h hb => ⟨h.1.below hb (by omega), h.2.1.below hb (by omega), h.2.2.1.below hb (by omega), h.2.2.2.1.below hb (by omega), h.2.2.2.2.1.trans (hb.mono (by omega)), Nat.le_trans h.2.2.2.2.2 hb.size⟩) (fun s A h => h.2.2.2.2.2))
    (fun _ _ _ _ _ h _ _ => h.elim)
    (fun _ _ _ _ h _ _ => h)
    ⟨by rw [List.drop_eq_nil_of_le (by simp [hll])]; exact M1, M2, R3, R0, c04, Nat.le_refl _⟩
    (fun i A => { tmps := #[.slice p len cap, undef, .pointer (some ⟨Z, 0, none⟩), .pointer (some ⟨Z + 1 + 1 + 1, 0, none⟩), undef, .pointer (some ⟨A.heap.size, 0, none⟩), .map (some (Z + 1)), .map (some (Z + 1 + 1)), .agg #[.map (some (Z + 1)), .map (some (Z + 1 + 1))], .slice p len cap, .func (.func 59) #[] #[.pointer (some ⟨Z + 1 + 1 + 1 + 1, 0, none⟩)], .int .i64 i, .agg (objC (l.getD i noO)).toArray, undef, undef, undef, undef, undef, undef, undef], defers := [] }) ?assign ?body ?done ?stop
  case assign =>
    rintro li i A K ⟨hok, _⟩ hK
    have HK : Hid (∀ W', Below A.heap.size A W' → ObjAt W' A.heap.size (l.getD i noO) → K _ W') := hK
    clear hK
    unfold bkV
    generalize l.getD i noO = x at *
    gi_wp2_with ((with_reducible show wpListIn _ _ _ _ _ (Oper.mk _ (Op.store 46 (.tmp 5) (.tmp 12)) _ _ _ _ :: _) _ _); rw [zO]; refine wpListIn_storeObj rfl (.tmp 5) (.tmp 12) rfl x hok rfl rfl (fun A2 hb2 hE2 => ?_); have HE2 : Hid (ObjAt A2 A.heap.size x) := hE2; clear hE2; simp only [Act.put])
    exact HK.out A2 hb2 HE2.out
  case body =>
    rintro li pre i A₀ A ⟨hM1, hM2, hR3, hR0, hB, hsz⟩ ⟨hok, hil⟩ hnx hle hE
    have HE : Hid (ObjAt A A₀.heap.size (l.getD i noO)) := hE
    have HM : Hid (MapAt Try.prog 33 A (Z + 1) (linkF (l.drop (len - pre.length)))) := hM1
    have hcl := hE.links
    have hc3 := hR3.cell (i := 0) rfl
    have HF : Hid (∀ A2, MapAt Try.prog 33 A2 (Z + 1) (fnPut (linkF (l.drop (len - pre.length))) (idV (l.getD i noO).id) (.slice (l.getD i noO).q (l.getD i noO).n (l.getD i noO).c)) → But (Z + 1) A.heap.size A A2 → KeepsFrom w5.heap.size A A2 ∧ KpP (fun k _ => k ≠ Z + 1 ∧ k < Z + 5) A A2 ∧ BegI Z w5.heap.size w l len (pre ++ [i]) A2) := by
      intro A2 m hbut
      rw [linkF_cons, show l.getD i noO :: l.drop (len - pre.length) = l.drop (len - (pre ++ [i]).length) by
        rw [show len - (pre ++ [i]).length = i by simp; omega, obj_drop l (k := i) (by omega), show i + 1 = len - pre.length by omega]] at m
      refine ⟨keepsFrom_but hbut (by omega) (Nat.le_refl _), kpp_but hbut (fun k o hp _ => hp.1) (Nat.le_refl _), m, hM2.but hbut (by omega) (by omega), hbut.row (by omega) (by omega) hR3, hbut.row (by omega) (by omega) hR0, ?_, Nat.le_trans hsz hbut.size⟩
      exact hB.trans ⟨hbut.os, hbut.tape, hbut.output, hbut.size, fun k hk => hbut.block k (by omega) (by omega)⟩
    clear hM1 hM2 hR3 hR0 hE
    have hidk : IsId (l.getD i noO).id := hok.1
    generalize l.getD i noO = x at *
    gi_wp2_with (first
      | ((with_reducible show wpListIn _ _ _ _ _ (Oper.mk _ (Op.load 33 (.tmp 15)) _ _ _ _ :: _) _ _); refine wpListIn_loadId rfl (.tmp 15) rfl rfl hidk HE.out.id ?_; simp only [Act.put, List.setIfInBounds_toArray, List.set_cons_zero, List.set_cons_succ])
      | ((with_reducible show wpListIn _ _ _ _ _ (Oper.mk _ (Op.mapUpdate 73 _ _ _) _ _ _ _ :: _) _ _); refine wpListIn_mapStore A.heap.size rfl (.tmp 14) (.tmp 16) (.tmp 18) 73 23 rfl Try.underlying73 rfl HM.out rfl rfl hidk (fun A2 hm2 hbt => ?_); have HFin := HF.out A2 hm2 hbt; simp only [Act.put]))
    exact HFin
  case done =>
    rintro D xs A hD hxs ⟨hM1, hM2, hR3, hR0, hB, hsz⟩ hKD
    have HR3 : Hid (Row A (Z + 1 + 1 + 1) 75 [.map (some (Z + 1)), .map (some (Z + 1 + 1))]) := hR3
    have HR0 : Hid (Row A Z 75 [.map none, .map none]) := hR0
    clear hR3 hR0
    gi_wp2_with (first
      | ((with_reducible show wpListIn _ _ _ _ _ (Oper.mk _ (Op.load 75 (.tmp 3)) _ _ _ _ :: _) _ _); refine wpListIn_loadSt rfl 75 (.tmp 3) rfl (Z + 1 + 1 + 1) 0 rfl _ HR3.out.range Try.underlying75 rfl (by kernel_rfl) ?_; simp only [Act.put, List.setIfInBounds_toArray, List.set_cons_zero, List.set_cons_succ])
      | ((with_reducible show wpListIn _ _ _ _ _ (Oper.mk _ (Op.store 75 (.tmp 2) (.tmp 19)) _ _ _ _ :: _) _ _); refine wpListIn_store_Row rfl 75 (.tmp 2) (.tmp 19) rfl [.map (some (Z + 1)), .map (some (Z + 1 + 1))] rfl rfl HR0.out (by kernel_rfl) rfl (by simp [Value.oneCell']) ?_; simp only [Act.put]))
    have hbt : But Z A.heap.size A (A.setCells Z 0 [.map (some (Z + 1)), .map (some (Z + 1 + 1))]) := But.sets _ _ _
    have hDl := (Array.getElem?_eq_some_iff.1 hKD).1
    have hKD' := (hbt.block D hDl (by omega)).trans hKD
    have hR := HR0.out.sets_all (vs := [.map (some (Z + 1)), .map (some (Z + 1 + 1))]) rfl
    have hbB : Below Z w (A.setCells Z 0 [.map (some (Z + 1)), .map (some (Z + 1 + 1))]) := below_setCells (Nat.le_refl _) _ _ hB
    have m1 := hM1.but hbt (by omega) (by omega)
    have m2 := hM2.but hbt (by omega) (by omega)
    rw [hxs, Nat.sub_self, List.drop_zero] at m1
    generalize A.setCells Z 0 [.map (some (Z + 1)), .map (some (Z + 1 + 1))] = A2 at *
    refine ⟨by simp, .inl ⟨_, _, rfl, run_takeDeferred hKD', ?_⟩⟩
    have hR2 : Row (A2.putObj D (.deferred none)) Z 75 [.map (some (Z + 1)), .map (some (Z + 1 + 1))] := (World.putObj_heap_other (by omega)).trans hR
    refine ⟨_, results_cell_row rfl _ _ Z 75 _ (0, 0) _ rfl hR2 Try.underlying75 rfl (by kernel_rfl), Z + 1, Z + 1 + 1, rfl, m1.kept (World.putObj_heap_other (by omega)), m2.kept (World.putObj_heap_other (by omega)), by omega, by omega, by omega, ?_⟩
    rw [hZ]
    exact hbB.trans (below_putObj _ _ (by omega))
  case stop => exact fun _ _ _ _ _ _ h => h.elim
end Go.Proofs.Ytfclbdlkpnoceaa
/-
  What is met of the ids that an iterator tells.
-/
namespace Go.Proofs.Ytfclbdlkpnoceaa
open Go.RowKit Go.Shelf Go.Maps
attribute [local go_sem] Oper.semAt_some

theorem wpIn_scope_wide {P : Program} {Q : Exit → Act → World → Prop} {m : Nat} {c : Code} {a : Act} {w : World} (h : c.wpIn Fence.wide m P (Exit.noGoto Q) a w) : (Code.scope c).wpIn Fence.wide m P Q a w := wpIn_wide.2 (wp_scope_straight (wpIn_wide.1 h))
theorem metF_look (met : List (List Nat)) (x : List Nat) : (Value.tuple #[(metF met (idV x)).getD (.agg #[]), .bool (metF met (idV x)).isSome]) = .tuple #[.agg #[], .bool (decide (x ∈ met))] := by
  rw [metF_isSome]
  have : (metF met (idV x)).getD (.agg #[]) = .agg #[] := by rw [metF_at]; split <;> rfl
  rw [this]
def MeetPost (w : World) (Mm : Nat) (l : List O) (met xs : List (List Nat)) (e : Ending) (w' : World) : Prop :=
  ∃ v, e = .returned v ∧ OwnIds w.heap.size w' v (meetL l met xs) ∧ MapAt Try.prog 33 w' Mm (metF (met ++ meetL l met xs)) ∧ Buts [Mm] w.heap.size w w'
/-- What the rounds of meet keep. -/
def MtP (Z Mm : Nat) (k : Nat) (o : Obj) : Prop := k < Z ∧ (o.isCells = true ∨ k ≠ Mm)
/-- A meeting under way. -/
def MtI (Z Lm Mm S : Nat) (w : World) (l : List O) (met : List (List Nat)) (pre : List (List Nat)) (A : World) : Prop :=
  (∃ v, Boxed A (Z + 1) 23 v ∧ A.ownsRow Z 33 32 v (meetL l met pre).length (u8s (meetL l met pre).flatten) ∧ True) ∧ (MapAt Try.prog 33 A Mm (metF (met ++ meetL l met pre)) ∧ MapAt Try.prog 33 A Lm (linkF l) ∧ Row A Z 75 [.map (some Lm), .map (some Mm)] ∧ Buts [Mm] Z w A ∧ S ≤ A.heap.size)

open Classical in
set_option maxRecDepth 100000 in
set_option maxHeartbeats 4000000 in
theorem meet_in (N : Nat) (hN : 6 ≤ N) (Lm Mm : Nat) (hne : Lm ≠ Mm) (l : List O) (met xs : List (List Nat)) (hxl : xs.length ≤ 100000) (gf : Nat) (lb : Array Value) (w : World)
    (hM : MapAt Try.prog 33 w Mm (metF met)) (hL : MapAt Try.prog 33 w Lm (linkF l)) (eg : ∀ args w, (callFunc gf args).run Try.prog w = .ok (.enter gf args) w)
    (hit : ∀ (lp : Nat) (W : World), W.heap.size = w.heap.size + 4 → Below w.heap.size w W → IterX Fence.wide (N - 1) Try.prog gf lb (fun x : List Nat => #[idV x]) (fun x _ => IsId x) (KpP (MtP w.heap.size Mm)) (fun pre x => ∃ post, xs = pre ++ x :: post) (fun ys => ys = xs) (fun _ => True) lp W) :
    CallsIn Fence.wide N Try.prog 36 #[.agg #[.map (some Lm), .map (some Mm)], .func (.func gf) #[] lb] w (MeetPost w Mm l met xs) := by
  obtain ⟨i0, hi0, hz0, hz1, hz2⟩ := info_parts info33
  have h1 : 1 ≤ N := by omega
  have hfn : ∀ f, Fence.wide.fn f := fun _ => trivial
  refine callsIn_of_wp_marks Try.func36 rfl trivial ?_ rfl
  simp only [Try.ntmps36, List.size_toArray, List.length_cons, List.length_nil, Nat.reduceAdd, Nat.reduceSub, Array.replicate_succ, Array.replicate_zero, List.push_toArray, List.append_toArray, List.nil_append, List.cons_append]
  gi_wp2
  refine wpIn_scope_wide ?_
  gi_wp2
  refine wpIn_label ?_
  gi_wp2
  have hMl := hM.lt
  have hLl := hL.lt
  obtain ⟨w1, hw1⟩ : ∃ w1, w1 = w.alloc (.cells #[.map (some Lm), .map (some Mm)] 75) := ⟨_, rfl⟩
  rw [← hw1]
  have s1 : w1.heap.size = w.heap.size + 1 := by rw [hw1]; simp
  have b1 : Below w.heap.size w w1 := by rw [hw1]; exact (Below.refl _ w).alloc (Nat.le_refl _) _
  have r0 : Row w1 w.heap.size 75 [.map (some Lm), .map (some Mm)] := by rw [hw1]; exact Row.new' w 75 _
  have b2 : Below w1.heap.size w1 (w1.alloc (.cells #[.slice none 0 0] 23)) := (Below.refl _ w1).alloc (Nat.le_refl _) _
  have s2 : (w1.alloc (.cells #[.slice none 0 0] 23)).heap.size = w.heap.size + 2 := by rw [World.size_alloc, s1]
  have bx : Boxed (w1.alloc (.cells #[.slice none 0 0] 23)) (w.heap.size + 1) 23 (.slice none 0 0) := by rw [← s1]; exact Boxed.new w1 23 _
  generalize w1.alloc (.cells #[.slice none 0 0] 23) = w2 at *
  have c02 : Below w.heap.size w w2 := b1.trans (b2.mono (by omega))
  have R0 : Row w2 w.heap.size 75 [.map (some Lm), .map (some Mm)] := r0.below b2 (by omega)
  have M1 : MapAt Try.prog 33 w2 Mm (metF met) := hM.below c02 hMl
  have M2 : MapAt Try.prog 33 w2 Lm (linkF l) := hL.below c02 hLl
  clear hw1 b1 b2 r0 s1 w1 hM hL
  generalize hZ : w.heap.size = Z at *
  have hOwn : OwnFrom w2.heap.size (MtI Z Lm Mm w2.heap.size w l met) := OwnFrom.and (Own.from (holdsRow_own Z (Z + 1) 23 33 32 (fun pre : List (List Nat) => (meetL l met pre).length) (fun pre => u8s (meetL l met pre).flatten) (fun _ _ => True)) _)
      (low_own (fun s A B h hb => ⟨h.1.below hb (by omega), h.2.1.below hb (by omega), h.2.2.1.below hb (by omega), h.2.2.2.1.trans (Buts.of_below hb (by omega)), Nat.le_trans h.2.2.2.2 hb.size⟩) (fun s A h => h.2.2.2.2))
  have HSkip : Hid (∀ pre x A, MtI Z Lm Mm w2.heap.size w l met pre A → ¬ (hasO l x = true ∧ x ∉ met ++ meetL l met pre) → KeepsFrom w2.heap.size A (A.alloc (.cells #[] 58)) ∧ KpP (MtP Z Mm) A (A.alloc (.cells #[] 58)) ∧ MtI Z Lm Mm w2.heap.size w l met (pre ++ [x]) (A.alloc (.cells #[] 58))) := by
    intro pre x A hA hx
    have hb : Below A.heap.size A (A.alloc (.cells #[] 58)) := (Below.refl _ A).alloc (Nat.le_refl _) _
    refine ⟨keepsFrom_of_below hb, KpP.of_below hb, ?_⟩
    have e : meetL l met (pre ++ [x]) = meetL l met pre := by rw [meetL_snoc, meetS, if_neg hx]
    have h := OwnFrom.grow hOwn hA hb
    unfold MtI at h ⊢
    rw [e]
    exact h
  refine wpIn_rangeFunc_okx rfl h1 (gf := gf) (lb := lb) rfl trivial eg
    (encs := fun x : List Nat => #[idV x]) (Ok := fun x _ => IsId x) (Kp := KpP (MtP Z Mm)) (Nx := fun pre x => ∃ post, xs = pre ++ x :: post) (S := fun ys => ys = xs) (Sp := fun _ => True)
    (fun W' hs hb => hit _ W' (by omega) (c02.trans (hb.mono (by omega))))
    KpP.trans (fun A o o' ho hc => KpP.record o' (fun _ h => by have := h.1; omega)) KpP.of_below (fun _ => rfl)
    (fun x A B => Row B A.heap.size 33 (u8s x)) (fun x A B o h hl => TwoRow.put o h hl)
    (MtI Z Lm Mm w2.heap.size w l met)
    (fun _ _ _ => False)
    hOwn
    (fun _ _ _ _ _ h _ _ => h.elim)
    (fun _ _ _ _ h _ _ => h)
    ⟨⟨_, bx, World.ownsRow_nil _ _ _ _, trivial⟩, by rw [meetL_nil, List.append_nil]; exact M1, M2, R0, Buts.of_below c02 (Nat.le_refl _), Nat.le_refl _⟩
    (fun x A => { tmps := #[.agg #[.map (some Lm), .map (some Mm)], .func (.func gf) #[] lb, .pointer (some ⟨Z, 0, none⟩), undef, .slice none 0 0, .pointer (some ⟨Z + 1, 0, none⟩), .pointer (some ⟨A.heap.size, 0, none⟩), undef, undef, undef, undef, .func (.func gf) #[] lb, idV x, undef, undef, undef, undef, undef, undef, undef, undef, undef, undef, undef, undef, undef, undef, undef, undef, undef, undef, undef, undef, undef, undef, undef, undef, undef, undef, undef, undef], defers := [] }) ?assign ?body ?done ?stop
  case assign =>
    intro li x A K hok hK
    have HK : Hid (∀ W', Below A.heap.size A W' → Row W' A.heap.size 33 (u8s x) → K _ W') := hK
    clear hK
    gi_wp2_with ((with_reducible show wpListIn _ _ _ _ _ (Oper.mk _ (Op.store 33 (.tmp 6) (.tmp 12)) _ _ _ _ :: _) _ _); rw [z32u8]; refine wpListIn_storeId rfl (.tmp 6) (.tmp 12) rfl hok rfl rfl (fun A2 hb2 hR2 => ?_); have HR2 : Hid (Row A2 A.heap.size 33 (u8s x)) := hR2; clear hR2; simp only [Act.put])
    exact HK.out A2 hb2 HR2.out
  case body =>
    rintro li pre x A₀ A hA hid hnx hle hr1
    have HR1 : Hid (Row A A₀.heap.size 33 (u8s x)) := hr1
    obtain ⟨⟨v, hv, hrow, _⟩, hMm, hLm, hR0, hB, hsz⟩ := id hA
    have HL : Hid (MapAt Try.prog 33 A Lm (linkF l)) := hLm
    have HM : Hid (MapAt Try.prog 33 A Mm (metF (met ++ meetL l met pre))) := hMm
    have hc0 := hR0.cell (i := 0) rfl
    have hc1 := hR0.cell (i := 1) rfl
    by_cases hh : hasO l x = true
    · obtain ⟨ob, _, _, hlk, _⟩ := linkF_has hh
      have HLk : Hid ((if true = true then Value.tuple #[(linkF l (idV x)).getD (.slice none 0 0), .bool (linkF l (idV x)).isSome] else (linkF l (idV x)).getD (.slice none 0 0)) = .tuple #[.slice ob.q ob.n ob.c, .bool true]) := by show _ = _; rw [hlk]; rfl
      by_cases hn : x ∈ met ++ meetL l met pre
      · have HMk : Hid ((if true = true then Value.tuple #[(metF (met ++ meetL l met pre) (idV x)).getD (.agg #[]), .bool (metF (met ++ meetL l met pre) (idV x)).isSome] else (metF (met ++ meetL l met pre) (idV x)).getD (.agg #[])) = .tuple #[.agg #[], .bool true]) := by show _ = _; rw [if_pos rfl, metF_look]; simp only [hn, decide_true]
        have HS := HSkip.out pre x A hA (fun h => h.2 hn)
        clear hlk hv hrow hMm hLm hR0 hB hr1 hA hnx hn
        gi_wp2_with (first
          | ((with_reducible show wpListIn _ _ _ _ _ (Oper.mk _ (Op.load 33 (.tmp 6)) _ _ _ _ :: _) _ _); refine wpListIn_loadId rfl (.tmp 6) rfl rfl hid HR1.out.range ?_; simp only [Act.put, List.setIfInBounds_toArray, List.set_cons_zero, List.set_cons_succ])
          | ((with_reducible show wpListIn _ _ _ _ _ (Oper.mk _ (Op.lookup 73 _ _ _) _ _ _ _ :: _) _ _); refine wpListIn_look true rfl (.tmp 15) (.tmp 16) 73 23 rfl Try.underlying73 (zero23 _) rfl HL.out rfl hid _ HLk.out ?_; simp only [Act.put, List.setIfInBounds_toArray, List.set_cons_zero, List.set_cons_succ])
          | ((with_reducible show wpListIn _ _ _ _ _ (Oper.mk _ (Op.lookup 57 _ _ _) _ _ _ _ :: _) _ _); refine wpListIn_look true rfl (.tmp 22) (.tmp 23) 57 58 rfl Try.underlying57 (zero58 _) rfl HM.out rfl hid _ HMk.out ?_; simp only [Act.put, List.setIfInBounds_toArray, List.set_cons_zero, List.set_cons_succ]))
        rw [s2] at HS
        exact HS
      · have HMk : Hid ((if true = true then Value.tuple #[(metF (met ++ meetL l met pre) (idV x)).getD (.agg #[]), .bool (metF (met ++ meetL l met pre) (idV x)).isSome] else (metF (met ++ meetL l met pre) (idV x)).getD (.agg #[])) = .tuple #[.agg #[], .bool false]) := by show _ = _; rw [if_pos rfl, metF_look]; simp only [hn, decide_false]
        have HE : Hid (meetL l met (pre ++ [x]) = meetL l met pre ++ [x]) := by show _ = _; rw [meetL_snoc, meetS, if_pos ⟨hh, hn⟩]
        obtain ⟨A1, hA1⟩ : ∃ A1, A.alloc (.cells #[] 58) = A1 := ⟨_, rfl⟩
        have hb1 : Below A.heap.size A A1 := by rw [← hA1]; exact (Below.refl _ A).alloc (Nat.le_refl _) _
        have HA1 : Hid (A.alloc (.cells #[] 58) = A1) := hA1
        have hlr := hr1.lt
        have hc1' : A1.cell? ⟨Z, 1, none⟩ = some (.map (some Mm)) := (hR0.below hb1 hR0.lt).cell (i := 1) rfl
        have HR1' : Hid (Row A1 A₀.heap.size 33 (u8s x)) := hr1.below hb1 hlr
        have HM1 : Hid (MapAt Try.prog 33 A1 Mm (metF (met ++ meetL l met pre))) := hMm.below hb1 hMm.lt
        have hlen : (meetL l met pre).length ≤ 100000 := by
          obtain ⟨post, hpost⟩ := hnx
          have h2 := nodup_le (meetL l met pre) pre (meetL_nodup _ _ _) (fun y hy => (meetL_mem.1 hy).1)
          have h3 := congrArg List.length hpost
          simp at h3
          omega
        have HFin : Hid (∀ A2, MapAt Try.prog 33 A2 Mm (fnPut (metF (met ++ meetL l met pre)) (idV x) (.agg #[])) → But Mm A1.heap.size A1 A2 →
            ∃ q c W5 q5 l5 c5, A2.cell? ⟨Z + 1, 0, none⟩ = some (.slice q (meetL l met pre).length c) ∧ Row A2 A₀.heap.size 33 (u8s x) ∧
              (Builtin.append_ #[23, 23] 23 #[.slice q (meetL l met pre).length c, .slice (some ⟨A2.heap.size, 0, none⟩) 1 1]).run Try.prog (A2.alloc (.cells (u8s x).toArray 33)) = .ok (.slice q5 l5 c5) W5 ∧ Boxed W5 (Z + 1) 23 (.slice q (meetL l met pre).length c) ∧
              KeepsFrom w2.heap.size A (W5.setCell ⟨Z + 1, 0, none⟩ (.slice q5 l5 c5)) ∧ KpP (MtP Z Mm) A (W5.setCell ⟨Z + 1, 0, none⟩ (.slice q5 l5 c5)) ∧ MtI Z Lm Mm w2.heap.size w l met (pre ++ [x]) (W5.setCell ⟨Z + 1, 0, none⟩ (.slice q5 l5 c5))) := by
          intro A2 hm2 hbt
          obtain ⟨q, c, rfl⟩ := slice_of_row hrow
          have hv1 : Boxed A1 (Z + 1) 23 (.slice q (meetL l met pre).length c) := boxed_below hv hb1
          have hv2 : Boxed A2 (Z + 1) 23 (.slice q (meetL l met pre).length c) := (hbt.block _ (hv1.lt) (by omega)).trans hv1
          have hrow1 : OwnIds Z A1 (.slice q (meetL l met pre).length c) (meetL l met pre) := OwnIds.later hb1 hrow
          have hrow2 : OwnIds Z A2 (.slice q (meetL l met pre).length c) (meetL l met pre) := hrow1.but hbt hMl
          have hr2 : Row A2 A₀.heap.size 33 (u8s x) := hbt.row (by have := hb1.size; omega) (by omega) HR1'.out
          have hs2 : w2.heap.size ≤ A2.heap.size := Nat.le_trans hsz (Nat.le_trans hb1.size hbt.size)
          obtain ⟨W4, hW4⟩ : ∃ W4, A2.alloc (.cells (u8s x).toArray 33) = W4 := ⟨_, rfl⟩
          have hr4 : W4.ownsRow Z 33 32 (.slice q (meetL l met pre).length c) (meetL l met pre).length (u8s (meetL l met pre).flatten) := by rw [← hW4]; exact World.ownsRow.alloc hrow2 _
          have hrg4 : W4.rangeAt A2.heap.size 0 (u8s x) := by rw [← hW4]; exact (Row.new' A2 33 (u8s x)).range
          have hs4 : W4.heap.size = A2.heap.size + 1 := by rw [← hW4]; exact World.size_alloc _ _
          obtain ⟨u5, W5, hrun, ho5, hg5, _, _⟩ := run_append_own_at (P := Try.prog) W4 Z 23 23 33 i0 _ 32 32 Try.underlying23 hi0 hz0 hz1 hz2 (by simp [Value.cells]) (by omega) (.slice q (meetL l met pre).length c) (meetL l met pre).length (u8s (meetL l met pre).flatten) hr4 ⟨A2.heap.size, 0, none⟩ 1 1 (u8s x) (by simp [hid.1]) (fun j u hu => by rw [Addr.add_mid]; exact hrg4 j u hu) (u8s_one _) (by simp only [maxLen]; omega) (by omega) (by omega)
          obtain ⟨q5, l5, c5, rfl⟩ : ∃ q l c, u5 = Value.slice q l c := by obtain ⟨q, c, e⟩ := slice_of_row ho5; exact ⟨q, _, c, e⟩
          have hg5' : (A2.alloc (.cells (u8s x).toArray 33)).grownBy W5 (Value.slice q (meetL l met pre).length c).ownBlock := by rw [hW4]; exact hg5
          obtain ⟨hv5, hv6, hr6, hk6, hb6⟩ := hv2.appended (by decide) hrow2 (by omega) (Nat.le_succ _) ho5 hg5'
          refine ⟨q, c, W5, q5, l5, c5, hv2.cell, hr2, by rw [hW4]; exact hrun, hv5, ?_, ?_, ?_⟩
          · exact ((keepsFrom_of_below hb1).trans (keepsFrom_but hbt (by omega) (Nat.le_refl _))).trans ⟨hk6.size, fun k o _ h1 h2 => hk6.same k o h1 h2⟩
          · refine ((KpP.of_below hb1).trans (kpp_but hbt (fun k o hp ho => ?_) (Nat.le_refl _))).trans (fun k o hp ho => (hb6.block k hp.1).trans ho)
            rcases hp.2 with h | h
            · rintro rfl
              obtain ⟨es, cl, hes, _⟩ := HM1.out
              rw [ho] at hes
              cases hes
              cases h
            · exact h
          · have em : metF (met ++ meetL l met (pre ++ [x])) = fnPut (metF (met ++ meetL l met pre)) (idV x) (.agg #[]) := by rw [HE.out, metF_snoc, List.append_assoc]
            unfold MtI
            rw [em, HE.out]
            refine ⟨⟨_, hv6, ?_, trivial⟩, hm2.below hb6 hMl, ?_, ?_, ?_, Nat.le_trans hs2 hb6.size⟩
            · rw [List.flatten_append, List.length_append, ← u8s_append]
              simpa using hr6
            · exact ((hLm.below hb1 hLm.lt).but hbt (by have := hb1.size; have := hLm.lt; omega) hne).below hb6 hLl
            · have hz2 : Row A2 Z 75 [.map (some Lm), .map (some Mm)] := hbt.row (by have := hb1.size; omega) (by omega) (hR0.below hb1 hR0.lt)
              have hz4 : Row W4 Z 75 [.map (some Lm), .map (some Mm)] := by rw [← hW4]; exact hz2.alloc _
              have hz5 : Row W5 Z 75 [.map (some Lm), .map (some Mm)] := (hg5.block Z hz4.lt (fun e => by
                obtain ⟨c', fr', h'⟩ := row_tag hr4 Z e.symm
                have h4 : W4.heap[Z]? = some (.cells _ 75 _) := hz4
                rw [h'] at h4
                cases h4)).trans hz4
              exact Row.others (by omega) [.slice q5 l5 c5] 0 hz5
            · exact ((hB.trans (Buts.of_below hb1 (by omega))).trans (Buts.of_but hbt (by simp) (by have := hb1.size; omega))).trans (Buts.of_below hb6 (Nat.le_refl _))
        clear hlk hv hrow hMm hLm hR0 hB hr1 hA hnx hn HE
        generalize (meetL l met pre).length = mlen at *
        gi_wp2_with (first
          | ((with_reducible show wpListIn _ _ _ _ _ (Oper.mk (some 16) (Op.load 33 (.tmp 6)) _ _ _ _ :: _) _ _); refine wpListIn_loadId rfl (.tmp 6) rfl rfl hid HR1.out.range ?_; simp only [Act.put, List.setIfInBounds_toArray, List.set_cons_zero, List.set_cons_succ])
          | ((with_reducible show wpListIn _ _ _ _ _ (Oper.mk (some 23) (Op.load 33 (.tmp 6)) _ _ _ _ :: _) _ _); refine wpListIn_loadId rfl (.tmp 6) rfl rfl hid HR1.out.range ?_; simp only [Act.put, List.setIfInBounds_toArray, List.set_cons_zero, List.set_cons_succ])
          | ((with_reducible show wpListIn _ _ _ _ _ (Oper.mk _ (Op.lookup 73 _ _ _) _ _ _ _ :: _) _ _); refine wpListIn_look true rfl (.tmp 15) (.tmp 16) 73 23 rfl Try.underlying73 (zero23 _) rfl HL.out rfl hid _ HLk.out ?_; simp only [Act.put, List.setIfInBounds_toArray, List.set_cons_zero, List.set_cons_succ])
          | ((with_reducible show wpListIn _ _ _ _ _ (Oper.mk _ (Op.lookup 57 _ _ _) _ _ _ _ :: _) _ _); refine wpListIn_look true rfl (.tmp 22) (.tmp 23) 57 58 rfl Try.underlying57 (zero58 _) rfl HM.out rfl hid _ HMk.out ?_; simp only [Act.put, List.setIfInBounds_toArray, List.set_cons_zero, List.set_cons_succ])
          | ((with_reducible show wpListIn _ _ _ _ _ (Oper.mk (some 34) (Op.load 33 (.tmp 6)) _ _ _ _ :: _) _ _); refine wpListIn_loadId rfl (.tmp 6) rfl rfl hid HR1'.out.range ?_; simp only [Act.put, List.setIfInBounds_toArray, List.set_cons_zero, List.set_cons_succ])
          | ((with_reducible show wpListIn _ _ _ _ _ (Oper.mk _ (Op.mapUpdate 57 _ _ _) _ _ _ _ :: _) _ _); refine wpListIn_mapStore A1.heap.size rfl (.tmp 33) (.tmp 34) (.tmp 35) 57 58 rfl Try.underlying57 rfl HM1.out rfl rfl hid (fun A2 hm2 hbt => ?_); obtain ⟨q, c, W5, q5, l5, c5, hcq, hrq, hrun, hbx5, hF⟩ := HFin.out A2 hm2 hbt; have HR2 : Hid (Row A2 A₀.heap.size 33 (u8s x)) := hrq; have HRun : Hid ((Builtin.append_ #[23, 23] 23 #[.slice q mlen c, .slice (some ⟨A2.heap.size, 0, none⟩) 1 1]).run Try.prog (A2.alloc (.cells (u8s x).toArray 33)) = .ok (.slice q5 l5 c5) W5) := hrun; have HF := (show Hid _ from hF); have hcv5 := hbx5.cell; have hfv5 := hbx5.frozen; clear hrq hrun hF hbx5 hm2 hbt; simp only [Act.put])
          | ((with_reducible show wpListIn _ _ _ _ _ (Oper.mk (some 37) (Op.load 33 (.tmp 6)) _ _ _ _ :: _) _ _); refine wpListIn_loadId rfl (.tmp 6) rfl rfl hid HR2.out.range ?_; simp only [Act.put, List.setIfInBounds_toArray, List.set_cons_zero, List.set_cons_succ])
          | ((with_reducible show wpListIn _ _ _ _ _ (Oper.mk (some 38) _ _ _ _ _ :: _) _ _); refine wpListIn_oper rfl (by intro c hc; cases hc) (fun K hK => wp_buildOne 23 33 (.tmp 37) rfl (u8s x) rfl i0 _ Try.underlying23 hi0 hz0 (by rw [hz1, id_len hid]) (by rw [id_len hid]; omega) (by rw [id_len hid]; omega) (hK _ _ ?_)); simp only [Act.put, List.setIfInBounds_toArray, List.set_cons_zero, List.set_cons_succ])
          | ((with_reducible show wpListIn _ _ _ _ _ (Oper.mk (some 39) _ _ _ _ _ :: _) _ _); refine wpListIn_oper rfl (by intro c hc; cases hc) (fun K hK => wp_append_of (.tmp 36) (.tmp 38) 23 rfl rfl rfl HRun.out (hK _ _ ?_)); simp only [Act.put, List.setIfInBounds_toArray, List.set_cons_zero, List.set_cons_succ]))
        have HF2 := HF.out
        rw [s2] at HF2
        exact HF2
    · have hf : hasO l x = false := by simpa using hh
      have HS := HSkip.out pre x A hA (fun h => hh h.1)
      have HLk : Hid ((if true = true then Value.tuple #[(linkF l (idV x)).getD (.slice none 0 0), .bool (linkF l (idV x)).isSome] else (linkF l (idV x)).getD (.slice none 0 0)) = .tuple #[.slice none 0 0, .bool false]) := by show _ = _; rw [linkF_none hf]; rfl
      clear hv hrow hMm hLm hR0 hB hr1 hA hnx
      gi_wp2_with (first
        | ((with_reducible show wpListIn _ _ _ _ _ (Oper.mk _ (Op.load 33 (.tmp 6)) _ _ _ _ :: _) _ _); refine wpListIn_loadId rfl (.tmp 6) rfl rfl hid HR1.out.range ?_; simp only [Act.put, List.setIfInBounds_toArray, List.set_cons_zero, List.set_cons_succ])
        | ((with_reducible show wpListIn _ _ _ _ _ (Oper.mk _ (Op.lookup 73 _ _ _) _ _ _ _ :: _) _ _); refine wpListIn_look true rfl (.tmp 15) (.tmp 16) 73 23 rfl Try.underlying73 (zero23 _) rfl HL.out rfl hid _ HLk.out ?_; simp only [Act.put, List.setIfInBounds_toArray, List.set_cons_zero, List.set_cons_succ])
        | ((with_reducible show wpListIn _ _ _ _ _ (Oper.mk _ (Op.lookup 57 _ _ _) _ _ _ _ :: _) _ _); refine wpListIn_look true rfl (.tmp 22) (.tmp 23) 57 58 rfl Try.underlying57 (zero58 _) rfl HM.out rfl hid _ (metF_look _ _) ?_; simp only [Act.put, List.setIfInBounds_toArray, List.set_cons_zero, List.set_cons_succ]))
      rw [s2] at HS
      exact HS
  case done =>
    rintro D ys A hD rfl ⟨⟨v, hv, hrow, _⟩, hMm, hLm, hR0, hB, hsz⟩ hKD
    obtain ⟨q, c, rfl⟩ := slice_of_row hrow
    have hcU := hv.cell
    have HRow : Hid (OwnIds Z A (.slice q (meetL l met ys).length c) (meetL l met ys)) := hrow
    clear hrow
    gi_wp2
    rw [Exit.noGoto_ret]
    refine ⟨by simp, .inl ⟨_, _, rfl, run_takeDeferred hKD, ?_⟩⟩
    refine ⟨_, results_tmp rfl _ _ _, _, rfl, ?_, hMm.kept (World.putObj_heap_other (by omega)), ?_⟩
    · rw [hZ]; exact ownsRow_putObj HRow.out (.deferred none) hKD rfl
    · rw [hZ]; exact hB.trans (Buts.of_below (below_putObj _ _ (by omega : Z ≤ D)) (Nat.le_refl _))
  case stop => exact fun _ _ _ _ _ _ h => h.elim
end Go.Proofs.Ytfclbdlkpnoceaa
