/-
  A walk begun: the map of links, of all objects.
-/
import Derived.Test.YtfclbdlkpnoceaaIt2
namespace Go.Proofs.Ytfclbdlkpnoceaa
open Go.RowKit Go.Shelf Go.Maps
attribute [local go_sem] Oper.semAt_some

theorem low_own {β : Type} {B : Nat} {I : β → World → Prop} (h : Low B I) (hB : ∀ s A, I s A → B ≤ A.heap.size) : OwnFrom B I := fun s A A' row hs hg hr => h s A A' hs ⟨hg.os, hg.tape, hg.output, hg.size, fun k hk => hg.block k (by have := hB s A hs; omega) (fun e => by have := (hr k e.symm).1; omega)⟩
def BeginPost (w : World) (l : List O) (e : Ending) (w' : World) : Prop :=
  ∃ Lm Mm, e = .returned (.agg #[.map (some Lm), .map (some Mm)]) ∧ MapAt Try.prog 33 w' Lm (linkF l) ∧ MapAt Try.prog 33 w' Mm (metF []) ∧ Lm ≠ Mm ∧ w.heap.size ≤ Lm ∧ w.heap.size ≤ Mm ∧ Below w.heap.size w w'
/-- A walk that is begun, under way. -/
def BegI (Z S : Nat) (w : World) (l : List O) (len : Nat) (pre : List Nat) (A : World) : Prop :=
  MapAt Try.prog 33 A (Z + 1) (linkF (l.drop (len - pre.length))) ∧ MapAt Try.prog 33 A (Z + 1 + 1) (metF []) ∧ Row A (Z + 1 + 1 + 1) 75 [.map (some (Z + 1)), .map (some (Z + 1 + 1))] ∧ Row A Z 75 [.map none, .map none] ∧ Below Z w A ∧ S ≤ A.heap.size
theorem keepsFrom_but {n b m : Nat} {A B : World} (h : But b m A B) (hb : b < n) (hm : A.heap.size ≤ m) : KeepsFrom n A B := ⟨h.size, fun k o hk ho _ => (h.block k (by have := (Array.getElem?_eq_some_iff.1 ho).1; omega) (by omega)).trans ho⟩
theorem kpp_but {P : Nat → Obj → Prop} {b m : Nat} {A B : World} (h : But b m A B) (hP : ∀ k o, P k o → A.heap[k]? = some o → k ≠ b) (hm : A.heap.size ≤ m) : KpP P A B := fun k o hp ho => (h.block k (by have := (Array.getElem?_eq_some_iff.1 ho).1; omega) (hP k o hp ho)).trans ho

open Classical in
set_option maxRecDepth 100000 in
set_option maxHeartbeats 4000000 in
theorem begin_in (N : Nat) (hN : 6 ≤ N) (p : Option Addr) (len cap : Nat) (l : List O) (hlen : len ≤ 100000) (w : World) (hI : IsObjs w.heap.size w p len cap l) : CallsIn Fence.wide N Try.prog 35 #[.slice p len cap] w (BeginPost w l) := by
  have h1 : 1 ≤ N := by omega
  have hfn : ∀ f, Fence.wide.fn f := fun _ => trivial
  refine callsIn_of_wp_marks Try.func35 rfl trivial ?_ rfl
  simp only [Try.ntmps35, List.size_toArray, List.length_cons, List.length_nil, Nat.reduceAdd, Nat.reduceSub, Array.replicate_succ, Array.replicate_zero, List.push_toArray, List.append_toArray, List.nil_append, List.cons_append]
  have hmm := @run_makeMap Try.prog
  gi_wp2_with (gi_at_call 48; refine (callsIn_wide.2 (backward_any p len cap _)).mono ?_; rintro e w' ⟨rfl, rfl⟩)
  obtain ⟨w1, hw1⟩ : ∃ w1, w1 = w.alloc (.cells #[.map none, .map none] 75) := ⟨_, rfl⟩
  obtain ⟨w2, hw2⟩ : ∃ w2, w2 = w1.alloc (.map #[] 0) := ⟨_, rfl⟩
  obtain ⟨w3, hw3⟩ : ∃ w3, w3 = w2.alloc (.map #[] 0) := ⟨_, rfl⟩
  obtain ⟨w4, hw4⟩ : ∃ w4, w4 = w3.alloc (.cells #[.map (some (w.heap.size + 1)), .map (some (w.heap.size + 1 + 1))] 75) := ⟨_, rfl⟩
  rw [← hw1, ← hw2, ← hw3, ← hw4]
  have s1 : w1.heap.size = w.heap.size + 1 := by rw [hw1]; simp
  have s2 : w2.heap.size = w.heap.size + 1 + 1 := by rw [hw2, World.size_alloc, s1]
  have s3 : w3.heap.size = w.heap.size + 1 + 1 + 1 := by rw [hw3, World.size_alloc, s2]
  have s4 : w4.heap.size = w.heap.size + 1 + 1 + 1 + 1 := by rw [hw4, World.size_alloc, s3]
  have b1 : Below w.heap.size w w1 := by rw [hw1]; exact (Below.refl _ w).alloc (Nat.le_refl _) _
  have b2 : Below w1.heap.size w1 w2 := by rw [hw2]; exact (Below.refl _ w1).alloc (Nat.le_refl _) _
  have b3 : Below w2.heap.size w2 w3 := by rw [hw3]; exact (Below.refl _ w2).alloc (Nat.le_refl _) _
  have b4 : Below w3.heap.size w3 w4 := by rw [hw4]; exact (Below.refl _ w3).alloc (Nat.le_refl _) _
  have b5 : Below w4.heap.size w4 (w4.alloc (.cells #[.slice p len cap] 22)) := (Below.refl _ w4).alloc (Nat.le_refl _) _
  have s5 : (w4.alloc (.cells #[.slice p len cap] 22)).heap.size = w.heap.size + 1 + 1 + 1 + 1 + 1 := by rw [World.size_alloc, s4]
  have r0 : Row w1 w.heap.size 75 [.map none, .map none] := by rw [hw1]; exact Row.new' w 75 _
  have m1 : MapAt Try.prog 33 w2 (w.heap.size + 1) (fun _ => none) := by rw [← s1, hw2]; exact MapAt.new _ _ _
  have m2 : MapAt Try.prog 33 w3 (w.heap.size + 1 + 1) (fun _ => none) := by rw [← s2, hw3]; exact MapAt.new _ _ _
  have r3 : Row w4 (w.heap.size + 1 + 1 + 1) 75 [.map (some (w.heap.size + 1)), .map (some (w.heap.size + 1 + 1))] := by rw [← s3, hw4]; exact Row.new' _ 75 _
  have bx : Boxed (w4.alloc (.cells #[.slice p len cap] 22)) (w.heap.size + 1 + 1 + 1 + 1) 22 (.slice p len cap) := by rw [← s4]; exact Boxed.new w4 22 _
  generalize w4.alloc (.cells #[.slice p len cap] 22) = w5 at *
  have c34 : Below w3.heap.size w3 w5 := b4.trans (b5.mono (by omega))
  have c24 : Below w2.heap.size w2 w5 := b3.trans (c34.mono (by omega))
  have c14 : Below w1.heap.size w1 w5 := b2.trans (c24.mono (by omega))
  have c04 : Below w.heap.size w w5 := b1.trans (c14.mono (by omega))
  have R0 : Row w5 w.heap.size 75 [.map none, .map none] := r0.below c14 (by omega)
  have M1 : MapAt Try.prog 33 w5 (w.heap.size + 1) (linkF []) := by rw [linkF_nil]; exact m1.below c24 (by omega)
  have M2 : MapAt Try.prog 33 w5 (w.heap.size + 1 + 1) (metF []) := by rw [metF_nil]; exact m2.below c34 (by omega)
  have R3 : Row w5 (w.heap.size + 1 + 1 + 1) 75 [.map (some (w.heap.size + 1)), .map (some (w.heap.size + 1 + 1))] := r3.below b5 (by omega)
  have hI5 : IsObjs w.heap.size w5 p len cap l := hI.below c04
  have hll := hI.1
  clear hw1 hw2 hw3 hw4 b1 b2 b3 b4 b5 c34 c24 c14 r0 m1 m2 r3 s1 s2 s3 s4 hI hmm w1 w2 w3 w4
  generalize hZ : w.heap.size = Z at *
  refine wpIn_rangeFunc_okx rfl h1 (gf := 59) (lb := #[.pointer (some ⟨Z + 1 + 1 + 1 + 1, 0, none⟩)]) rfl trivial (enters_of Try.func59 (by kernel_rfl) rfl)
    (encs := bkV l) (Ok := fun i _ => (l.getD i noO).ok ∧ i < len) (Kp := KpP (fun k _ => k ≠ Z + 1 ∧ k < Z + 5)) (Nx := fun pre i => pre.length + 1 + i = len) (S := fun xs => xs.length = len) (Sp := fun _ => True)
    (fun W' hs hb => backward1_iter (N - 1) (by omega) _ (Z + 1 + 1 + 1 + 1) Z p len cap l _ W' hlen (boxed_below bx hb) (fun _ => by constructor <;> omega) (hI5.below (hb.mono (by omega))) (fun k c t fr hk => by constructor <;> omega))
    KpP.trans (fun A o o' ho hc => KpP.record o' (fun _ h => by have := h.2; omega)) KpP.of_below (fun _ => rfl)
    (fun i A B => ObjAt B A.heap.size (l.getD i noO)) (fun i A B o h hl => ⟨h.ok, TwoRow.put o h.row hl⟩)
    (BegI Z w5.heap.size w l len)
    (fun _ _ _ => False)
    (low_own (fun s A B h hb => ⟨h.1.below hb (by omega), h.2.1.below hb (by omega), h.2.2.1.below hb (by omega), h.2.2.2.1.below hb (by omega), h.2.2.2.2.1.trans (hb.mono (by omega)), Nat.le_trans h.2.2.2.2.2 hb.size⟩) (fun s A h => h.2.2.2.2.2))
    (fun _ _ _ _ _ h _ _ => h.elim)
    (fun _ _ _ _ h _ _ => h)
    ⟨by rw [List.drop_eq_nil_of_le (by simp [hll])]; exact M1, M2, R3, R0, c04, Nat.le_refl _⟩
    (fun i A => { tmps := #[.slice p len cap, undef, .pointer (some ⟨Z, 0, none⟩), .pointer (some ⟨Z + 1 + 1 + 1, 0, none⟩), undef, .pointer (some ⟨A.heap.size, 0, none⟩), .map (some (Z + 1)), .map (some (Z + 1 + 1)), .agg #[.map (some (Z + 1)), .map (some (Z + 1 + 1))], .slice p len cap, .func (.func 59) #[] #[.pointer (some ⟨Z + 1 + 1 + 1 + 1, 0, none⟩)], .int .i64 i, .agg (objC (l.getD i noO)).toArray, undef, undef, undef, undef, undef, undef, undef], defers := [] }) ?assign ?body ?done ?stop
  case assign =>
    rintro li i A K ⟨hok, _⟩ hK
    have HK : Hid (∀ W', Below A.heap.size A W' → ObjAt W' A.heap.size (l.getD i noO) → K _ W') := hK
    clear hK
    unfold bkV
    generalize l.getD i noO = x at *
    gi_wp2_with ((with_reducible show wpListIn _ _ _ _ _ (Oper.mk _ (Op.store 46 (.tmp 5) (.tmp 12)) _ _ _ _ :: _) _ _); rw [zO]; refine wpListIn_storeObj rfl (.tmp 5) (.tmp 12) rfl x hok rfl rfl (fun A2 hb2 hE2 => ?_); have HE2 : Hid (ObjAt A2 A.heap.size x) := hE2; clear hE2; simp only [Act.put])
    exact HK.out A2 hb2 HE2.out
  case body =>
    rintro li pre i A₀ A ⟨hM1, hM2, hR3, hR0, hB, hsz⟩ ⟨hok, hil⟩ hnx hle hE
    have HE : Hid (ObjAt A A₀.heap.size (l.getD i noO)) := hE
    have HM : Hid (MapAt Try.prog 33 A (Z + 1) (linkF (l.drop (len - pre.length)))) := hM1
    have hcl := hE.links
    have hc3 := hR3.cell (i := 0) rfl
    have HF : Hid (∀ A2, MapAt Try.prog 33 A2 (Z + 1) (fnPut (linkF (l.drop (len - pre.length))) (idV (l.getD i noO).id) (.slice (l.getD i noO).q (l.getD i noO).n (l.getD i noO).c)) → But (Z + 1) A.heap.size A A2 → KeepsFrom w5.heap.size A A2 ∧ KpP (fun k _ => k ≠ Z + 1 ∧ k < Z + 5) A A2 ∧ BegI Z w5.heap.size w l len (pre ++ [i]) A2) := by
      intro A2 m hbut
      rw [linkF_cons, show l.getD i noO :: l.drop (len - pre.length) = l.drop (len - (pre ++ [i]).length) by
        rw [show len - (pre ++ [i]).length = i by simp; omega, obj_drop l (k := i) (by omega), show i + 1 = len - pre.length by omega]] at m
      refine ⟨keepsFrom_but hbut (by omega) (Nat.le_refl _), kpp_but hbut (fun k o hp _ => hp.1) (Nat.le_refl _), m, hM2.but hbut (by omega) (by omega), hbut.row (by omega) (by omega) hR3, hbut.row (by omega) (by omega) hR0, ?_, Nat.le_trans hsz hbut.size⟩
      exact hB.trans ⟨hbut.os, hbut.tape, hbut.output, hbut.size, fun k hk => hbut.block k (by omega) (by omega)⟩
    clear hM1 hM2 hR3 hR0 hE
    have hidk : IsId (l.getD i noO).id := hok.1
    generalize l.getD i noO = x at *
    gi_wp2_with (first
      | ((with_reducible show wpListIn _ _ _ _ _ (Oper.mk _ (Op.load 33 (.tmp 15)) _ _ _ _ :: _) _ _); refine wpListIn_loadId rfl (.tmp 15) rfl rfl hidk HE.out.id ?_; simp only [Act.put, List.setIfInBounds_toArray, List.set_cons_zero, List.set_cons_succ])
      | ((with_reducible show wpListIn _ _ _ _ _ (Oper.mk _ (Op.mapUpdate 73 _ _ _) _ _ _ _ :: _) _ _); refine wpListIn_mapStore A.heap.size rfl (.tmp 14) (.tmp 16) (.tmp 18) 73 23 rfl Try.underlying73 rfl HM.out rfl rfl hidk (fun A2 hm2 hbt => ?_); have HFin := HF.out A2 hm2 hbt; simp only [Act.put]))
    exact HFin
  case done =>
    rintro D xs A hD hxs ⟨hM1, hM2, hR3, hR0, hB, hsz⟩ hKD
    have HR3 : Hid (Row A (Z + 1 + 1 + 1) 75 [.map (some (Z + 1)), .map (some (Z + 1 + 1))]) := hR3
    have HR0 : Hid (Row A Z 75 [.map none, .map none]) := hR0
    clear hR3 hR0
    gi_wp2_with (first
      | ((with_reducible show wpListIn _ _ _ _ _ (Oper.mk _ (Op.load 75 (.tmp 3)) _ _ _ _ :: _) _ _); refine wpListIn_loadSt rfl 75 (.tmp 3) rfl (Z + 1 + 1 + 1) 0 rfl _ HR3.out.range Try.underlying75 rfl (by kernel_rfl) ?_; simp only [Act.put, List.setIfInBounds_toArray, List.set_cons_zero, List.set_cons_succ])
      | ((with_reducible show wpListIn _ _ _ _ _ (Oper.mk _ (Op.store 75 (.tmp 2) (.tmp 19)) _ _ _ _ :: _) _ _); refine wpListIn_store_Row rfl 75 (.tmp 2) (.tmp 19) rfl [.map (some (Z + 1)), .map (some (Z + 1 + 1))] rfl rfl HR0.out (by kernel_rfl) rfl (by simp [Value.oneCell']) ?_; simp only [Act.put]))
    have hbt : But Z A.heap.size A (A.setCells Z 0 [.map (some (Z + 1)), .map (some (Z + 1 + 1))]) := But.sets _ _ _
    have hDl := (Array.getElem?_eq_some_iff.1 hKD).1
    have hKD' := (hbt.block D hDl (by omega)).trans hKD
    have hR := HR0.out.sets_all (vs := [.map (some (Z + 1)), .map (some (Z + 1 + 1))]) rfl
    have hbB : Below Z w (A.setCells Z 0 [.map (some (Z + 1)), .map (some (Z + 1 + 1))]) := below_setCells (Nat.le_refl _) _ _ hB
    have m1 := hM1.but hbt (by omega) (by omega)
    have m2 := hM2.but hbt (by omega) (by omega)
    rw [hxs, Nat.sub_self, List.drop_zero] at m1
    generalize A.setCells Z 0 [.map (some (Z + 1)), .map (some (Z + 1 + 1))] = A2 at *
    refine ⟨by simp, .inl ⟨_, _, rfl, run_takeDeferred hKD', ?_⟩⟩
    have hR2 : Row (A2.putObj D (.deferred none)) Z 75 [.map (some (Z + 1)), .map (some (Z + 1 + 1))] := (World.putObj_heap_other (by omega)).trans hR
    refine ⟨_, results_cell_row rfl _ _ Z 75 _ (0, 0) _ rfl hR2 Try.underlying75 rfl (by kernel_rfl), Z + 1, Z + 1 + 1, rfl, m1.kept (World.putObj_heap_other (by omega)), m2.kept (World.putObj_heap_other (by omega)), by omega, by omega, by omega, ?_⟩
    rw [hZ]
    exact hbB.trans (below_putObj _ _ (by omega))
  case stop => exact fun _ _ _ _ _ _ h => h.elim
end Go.Proofs.Ytfclbdlkpnoceaa
