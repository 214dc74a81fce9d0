/-
  The place of a message that is due then.
-/
import Derived.Test.YthdfhbbfbohojaaBk
namespace Go.Proofs.Ythdfhbbfbohojaa
open Go.RowKit Go.Shelf
attribute [local go_sem] Oper.semAt_some

theorem wpIn_scope_wide {P : Program} {Q : Exit → Act → World → Prop} {m : Nat} {c : Code} {a : Act} {w : World} (h : c.wpIn Fence.wide m P (Exit.noGoto Q) a w) : (Code.scope c).wpIn Fence.wide m P Q a w := wpIn_wide.2 (wp_scope_straight (wpIn_wide.1 h))
theorem Row.put {A : World} {b l : Nat} {t : TypeId} {c : List Value} (h : Row A b t c) (o : Obj) (hl : b ≠ l) : Row (A.putObj l o) b t c := (World.putObj_heap_other hl).trans h
def dueAt (ms : List Msg) (i : Nat) : Int := (ms.getD i noM).due
theorem boxed_at {W W' : World} {n B : Nat} {t : TypeId} {v : Value} (hb : Below n W W') (h : Boxed W B t v) (hn : B < n) : Boxed W' B t v := (hb.block B hn).trans h
/-- place, under way. -/
def PlI (Z S len : Nat) (d : Int) (ms : List Msg) (w : World) (pre : List Nat) (A : World) : Prop :=
  Boxed A (Z + 1) 3 (.int .i64 ((len - pre.length : Nat) : Int)) ∧ Boxed A Z 3 (.int .i64 d) ∧ (∀ j, len - pre.length ≤ j → j < len → d < dueAt ms j) ∧ Below Z w A ∧ S ≤ A.heap.size
/-- A place found. -/
def PlX (Z S len : Nat) (d : Int) (ms : List Msg) (w : World) (A : World) : Prop :=
  ∃ k : Nat, k ≤ len ∧ Boxed A (Z + 1) 3 (.int .i64 (k : Int)) ∧ (∀ j, k ≤ j → j < len → d < dueAt ms j) ∧ (0 < k → dueAt ms (k - 1) ≤ d) ∧ Below Z w A ∧ S ≤ A.heap.size

set_option maxRecDepth 100000 in
set_option maxHeartbeats 4000000 in
theorem place_any {base p g : Nat} {fv wv : Value} {L : Lk} {w : World} (h : LkAt base w p g fv wv L) (d : Int) (hlen : L.ms.length ≤ 100000) :
    Calls Try.prog 19 #[.pointer (some ⟨p, 0, none⟩), .int .i64 d] w fun e w' => ∃ k : Nat, e = .returned (.int .i64 k) ∧ k ≤ L.ms.length ∧ (∀ j, k ≤ j → j < L.ms.length → d < dueAt L.ms j) ∧ (0 < k → dueAt L.ms (k - 1) ≤ d) ∧ Below w.heap.size w w' := by
  rw [← callsIn_wide (n := 9)]
  obtain ⟨q, c, rfl, _⟩ := id h.wait
  have hW := h.wait
  have hc3 := h.row.cell (i := 3) rfl
  have hpl := h.row.lt
  have hgl := h.ntg.lt
  obtain ⟨len, hl⟩ : ∃ len, L.ms.length = len := ⟨_, rfl⟩
  obtain ⟨ms, hms⟩ : ∃ ms, L.ms = ms := ⟨_, rfl⟩
  rw [hms] at hl hW ⊢
  rw [hms] at hc3 hlen
  rw [hl] at hW hc3 hlen ⊢
  have HL : Hid (ms.length = len) := hl
  have h1 : 1 ≤ 9 := by omega
  have hfn : ∀ f, Fence.wide.fn f := fun _ => trivial
  clear h hl hms
  refine callsIn_of_wp_marks Try.func19 rfl trivial ?_ rfl
  simp only [Try.ntmps19, List.size_toArray, List.length_cons, List.length_nil, Nat.reduceAdd, Nat.reduceSub, Array.replicate_succ, Array.replicate_zero, List.push_toArray, List.append_toArray, List.nil_append, List.cons_append]
  gi_wp2
  refine wpIn_scope_wide ?_
  obtain ⟨w1, hw1⟩ : ∃ w1, w1 = w.alloc (.cells #[.int .i64 d] 3) := ⟨_, rfl⟩
  rw [← hw1]
  have s1 : w1.heap.size = w.heap.size + 1 := by rw [hw1]; simp
  have b1 : Below w.heap.size w w1 := by rw [hw1]; exact (Below.refl _ w).alloc (Nat.le_refl _) _
  have x0 : Boxed w1 w.heap.size 3 (.int .i64 d) := by rw [hw1]; exact Boxed.new w 3 _
  have c1 : w1.cell? ⟨p, 3, none⟩ = some (.slice q len c) := (b1.cell (p := ⟨p, 3, none⟩) hpl).trans hc3
  clear hw1
  gi_wp2
  refine wpIn_label ?_
  obtain ⟨w2, hw2⟩ : ∃ w2, w2 = w1.alloc (.cells #[.int .i64 len] 3) := ⟨_, rfl⟩
  rw [← hw2]
  have s2 : w2.heap.size = w.heap.size + 2 := by rw [hw2, World.size_alloc, s1]
  have b2 : Below w1.heap.size w1 w2 := by rw [hw2]; exact (Below.refl _ w1).alloc (Nat.le_refl _) _
  have x1 : Boxed w2 (w.heap.size + 1) 3 (.int .i64 len) := by rw [hw2, ← s1]; exact Boxed.new w1 3 _
  have c2 : w2.cell? ⟨p, 3, none⟩ = some (.slice q len c) := (b2.cell (p := ⟨p, 3, none⟩) (by show p < _; omega)).trans c1
  have c02 : Below w.heap.size w w2 := b1.trans (b2.mono (by omega))
  have x02 : Boxed w2 w.heap.size 3 (.int .i64 d) := boxed_below x0 b2
  clear hw2
  gi_wp2_with (gi_at_call 24; refine (callsIn_wide.2 (backward_any q len c _)).mono ?_; rintro e w' ⟨rfl, rfl⟩)
  have b3 : Below w2.heap.size w2 (w2.alloc (.cells #[.slice q len c] 42)) := (Below.refl _ w2).alloc (Nat.le_refl _) _
  have s3 : (w2.alloc (.cells #[.slice q len c] 42)).heap.size = w.heap.size + 3 := by rw [World.size_alloc, s2]
  have bx : Boxed (w2.alloc (.cells #[.slice q len c] 42)) (w.heap.size + 2) 42 (.slice q len c) := by rw [← s2]; exact Boxed.new w2 42 _
  generalize w2.alloc (.cells #[.slice q len c] 42) = w5 at *
  have c05 : Below w.heap.size w w5 := c02.trans (b3.mono (by omega))
  have X0 : Boxed w5 w.heap.size 3 (.int .i64 d) := boxed_below x02 b3
  have X1 : Boxed w5 (w.heap.size + 1) 3 (.int .i64 len) := boxed_below x1 b3
  have W5 : WaitAt 53 Msg.cD w5 p g (.slice q len c) ms := hW.same (fun h => c05.block g h)
  clear x0 x02 x1 b1 b2 b3 c1 c2 s1 s2 hW hc3 c02 w1 w2
  generalize hZ : w.heap.size = Z at *
  refine wpIn_rangeFunc_okx rfl h1 (gf := 26) (lb := #[.pointer (some ⟨Z + 2, 0, none⟩)]) rfl trivial (enters_of Try.func26 (by kernel_rfl) rfl)
    (encs := bkV ms) (Ok := fun i _ => i < len) (Kp := KpP (fun k _ => k ≠ Z + 1 ∧ k < Z + 3)) (Nx := fun pre i => pre.length + 1 + i = len) (S := fun xs => xs.length = len) (Sp := fun _ => True)
    (fun W' hs hb => backward1_iter (9 - 1) (by omega) _ (Z + 2) q len c p g ms HL.out _ W' hlen (boxed_below bx hb) (fun _ => by constructor <;> omega) (W5.same (fun h => hb.block g h)) (fun c t fr => by constructor <;> omega))
    KpP.trans (fun A o o' ho hc => KpP.record o' (fun _ h => by have := h.2; omega)) KpP.of_below (fun _ => rfl)
    (fun i A B => Row B A.heap.size 53 (ms.getD i noM).cD) (fun i A B o h hl => Row.put h o (by omega))
    (PlI Z w5.heap.size len d ms w)
    (fun c _ A => c = .exit 0 ∧ PlX Z w5.heap.size len d ms w A)
    (low_own (fun s A B h hb => ⟨boxed_at hb h.1 (by omega), boxed_at hb h.2.1 (by omega), h.2.2.1, h.2.2.2.1.trans (hb.mono (by omega)), Nat.le_trans h.2.2.2.2 hb.size⟩) (fun s A h => h.2.2.2.2))
    (fun c => low_own (fun s A B ⟨hc, k, h1, h2, h3, h4, h5, h6⟩ hb => ⟨hc, k, h1, boxed_at hb h2 (by omega), h3, h4, h5.trans (hb.mono (by omega)), Nat.le_trans h6 hb.size⟩) (fun s A ⟨hc, k, h1, h2, h3, h4, h5, h6⟩ => h6))
    (fun _ _ _ _ h _ _ => h)
    ⟨by simpa using X1, X0, fun j h1 h2 => by simp at h1; omega, c05, Nat.le_refl _⟩
    (fun i A => { tmps := #[.pointer (some ⟨p, 0, none⟩), .int .i64 d, undef, .pointer (some ⟨Z, 0, none⟩), .int .i64 0, .pointer (some ⟨Z + 1, 0, none⟩), .int .i64 i, .pointer (some ⟨A.heap.size, 0, none⟩), .pointer (some ⟨p, 0, none⟩), .pointer (some ⟨p, 0, none⟩), .pointer (some ⟨p, 3, none⟩), .slice q len c, .int .i64 len, .pointer (some ⟨p, 0, none⟩), .pointer (some ⟨p, 0, none⟩), .pointer (some ⟨p, 3, none⟩), .slice q len c, .func (.func 26) #[] #[.pointer (some ⟨Z + 2, 0, none⟩)], .int .i64 i, .agg (ms.getD i noM).cD.toArray, undef, undef, undef, undef, undef, undef], defers := [] }) ?assign ?body ?done ?stop
  case assign =>
    rintro li i A K hok hK
    have HK : Hid (∀ W', Below A.heap.size A W' → Row W' A.heap.size 53 (ms.getD i noM).cD → K _ W') := hK
    clear hK
    unfold bkV
    have hsz : (Try.prog.info? 53).map (·.size) = some (ms.getD i noM).cD.length := size53
    have hxl : (ms.getD i noM).cD.length = 2 := rfl
    have hx1 := encD.one (ms.getD i noM)
    generalize (ms.getD i noM).cD = x at *
    gi_wp2_with ((with_reducible show wpListIn _ _ _ _ _ (Oper.mk _ (Op.store 53 (.tmp 7) (.tmp 19)) _ _ _ _ :: _) _ _); refine wpListIn_store_Row rfl 53 (.tmp 7) (.tmp 19) rfl x rfl rfl (Row.new' A 53 [.int .i64 0, .slice none 0 0]) hsz (by rw [hxl]; rfl) hx1 ?_; simp only [Act.put])
    exact HK.out _ (below_setCells (Nat.le_refl _) _ _ ((Below.refl _ A).alloc (Nat.le_refl _) _)) ((Row.new' A 53 [.int .i64 0, .slice none 0 0]).sets_all (by rw [hxl]; rfl))
  case body =>
    rintro li pre i A₀ A ⟨a1, a2, a3, a4, a5⟩ hil hnx hle hE
    have hE0 : A.cell? ⟨A₀.heap.size, 0, none⟩ = some (.int .i64 (dueAt ms i)) := hE.cell (i := 0) rfl
    have hc0 := a2.cell
    have hc1 := a1.cell
    have hf1 := a1.frozen
    have HP : Hid (PlI Z w5.heap.size len d ms w pre A) := ⟨a1, a2, a3, a4, a5⟩
    have HD : Hid (dueAt ms i = dueAt ms i) := rfl
    have hk1 : len - pre.length = i + 1 := by omega
    have HN : Hid (pre.length + 1 + i = len) := hnx
    clear a1 a2 a3 a4 a5 hE hnx
    rw [hk1] at hc1
    clear hk1
    by_cases hle : dueAt ms i ≤ d
    · gi_wp2
      obtain ⟨b1, b2, b3, b4, b5⟩ := HP.out
      have hnx := HN.out
      rw [show len - pre.length = i + 1 by omega] at b1 b3
      exact ⟨KeepsFrom.refl _ _, KpP.refl _ _, rfl, i + 1, by omega, b1, b3, fun _ => by simpa using hle, b4, by omega⟩
    · gi_wp2
      obtain ⟨b1, b2, b3, b4, b5⟩ := HP.out
      have hnx := HN.out
      refine ⟨⟨by simp [World.setCell], fun k o hk ho _ => (Below.heap_setCell _ _ _ _ (by show k ≠ Z + 1; omega)).trans ho⟩, fun k o hp ho => (Below.heap_setCell _ _ _ _ hp.1).trans ho, ?_, ?_, ?_, ?_, ?_⟩
      · rw [show len - (pre ++ [i]).length = i by simp; omega]
        exact b1.set _
      · exact b2.other (by omega) _
      · rw [show len - (pre ++ [i]).length = i by simp; omega]
        intro j h1 h2
        by_cases hj : j = i
        · subst hj; omega
        · exact b3 j (by omega) h2
      · exact b4.setCell (p := ⟨Z + 1, 0, none⟩) (by show Z ≤ Z + 1; omega) _
      · simp [World.setCell]; omega
  case done =>
    rintro D xs A hD hxs ⟨a1, a2, a3, a4, a5⟩ hKD
    rw [hxs, Nat.sub_self] at a1 a3
    have hc1 := a1.cell
    have HB : Hid (Below Z w A) := a4
    have HA : Hid (∀ j, 0 ≤ j → j < len → d < dueAt ms j) := a3
    clear a1 a2 a3 a4 a5
    gi_wp2
    refine ⟨by simp, .inl ⟨_, _, rfl, run_takeDeferred hKD, ?_⟩⟩
    refine ⟨_, results_tmp rfl _ _ _, 0, rfl, Nat.zero_le _, HA.out, by simp, ?_⟩
    rw [hZ]
    exact HB.out.trans (below_putObj _ _ (by omega))
  case stop =>
    rintro D c pre A hD _ ⟨rfl, k, a0, a1, a2, a3, a4, a5⟩ hKD
    have hc1 := a1.cell
    have HB : Hid (Below Z w A) := a4
    have HA : Hid (∀ j, k ≤ j → j < len → d < dueAt ms j) := a2
    have HX : Hid (0 < k → dueAt ms (k - 1) ≤ d) := a3
    clear a1 a2 a3 a4 a5
    gi_wp2
    refine ⟨by simp, .inl ⟨_, _, rfl, run_takeDeferred hKD, ?_⟩⟩
    refine ⟨_, results_tmp rfl _ _ _, k, rfl, a0, HA.out, HX.out, ?_⟩
    rw [hZ]
    exact HB.out.trans (below_putObj _ _ (by omega))
end Go.Proofs.Ythdfhbbfbohojaa
