/-
  A program's line and the document's, side by side.
-/
import Derived.Test.YthdfhbbfbohojaaRRd
import Derived.Test.YthdfhbbfbohojaaAw
import Derived.Test.YthdfhbbfbohojaaArgsL
namespace Go.Proofs.Ythdfhbbfbohojaa
open Go.RowKit Go.Shelf

theorem barg_arg {w A : World} {q : Option Addr} {n c : Nat} {zs : List Nat} (hI : IsBytes w.heap.size w q n c zs) (hB : Below w.heap.size w A) : BArg w.heap.size A q n c zs := by
  refine ⟨(hI.below hB).mono hB.size, ?_⟩
  obtain ⟨_, _, _, _, h | ⟨b, o, rfl, hb, _⟩⟩ := hI
  · exact .inl h
  · exact .inr ⟨b, o, rfl, Nat.lt_of_lt_of_le hb hB.size, .inl hb⟩
/-- Both lines. -/
def Pair (w : World) (px py : Nat) (fx fy : Value) (fs : List (Int × Int)) (k : Nat) (A : World) : Prop :=
  ∃ gx wx mx gy wy my, LkAt w.heap.size A px gx fx wx ⟨fs, k, mx⟩ ∧ RkAt w.heap.size A py gy fy wy ⟨fs, k, my⟩ ∧ keys mx = srtK (keys my) ∧ my.length ≤ 3 * k ∧ Below w.heap.size w A
/-- Sent on the program's alone. -/
def HalfS (w : World) (px py : Nat) (fx fy : Value) (fs : List (Int × Int)) (k : Nat) (zs : List Nat) (A : World) : Prop :=
  ∃ gx wx mx gy wy my, LkAt w.heap.size A px gx fx wx ⟨fs, k + 1, mx⟩ ∧ RkAt w.heap.size A py gy fy wy ⟨fs, k, my⟩ ∧ keys mx = insN (Lk.due ⟨fs, k, []⟩, zs) (Lk.times ⟨fs, k, []⟩) (srtK (keys my)) ∧ my.length ≤ 3 * k ∧ Below w.heap.size w A
/-- Received from the program's alone. -/
def HalfR (w : World) (px py : Nat) (fx fy : Value) (fs : List (Int × Int)) (k : Nat) (m : Msg) (A : World) : Prop :=
  ∃ gx wx mx gy wy my, LkAt w.heap.size A px gx fx wx ⟨fs, k, mx⟩ ∧ RkAt w.heap.size A py gy fy wy ⟨fs, k, my⟩ ∧ m.key :: keys mx = srtK (keys my) ∧ my.length ≤ 3 * k ∧ Below w.heap.size w A ∧ Txt w.heap.size A m
section
variable {w A : World} {px py : Nat} {fx fy : Value} {fs : List (Int × Int)} {k : Nat}
theorem Pair.below (h : Pair w px py fx fy fs k A) : Below w.heap.size w A := by obtain ⟨_, _, _, _, _, _, _, _, _, _, h⟩ := h; exact h
theorem HalfS.below {zs : List Nat} (h : HalfS w px py fx fy fs k zs A) : Below w.heap.size w A := by obtain ⟨_, _, _, _, _, _, _, _, _, _, h⟩ := h; exact h
theorem Pair.len {mx my : List Msg} (h : keys mx = srtK (keys my)) : mx.length = my.length := by
  have := congrArg List.length h
  rwa [keys_length, srtK_length, keys_length] at this
theorem Pair.send1 (h : Pair w px py fx fy fs k A) (hk : k ≤ 100) {q : Option Addr} {len cap : Nat} {zs : List Nat} (hI : IsBytes w.heap.size w q len cap zs) (hz : len ≤ 100) :
    Calls Try.prog 8 #[.pointer (some ⟨px, 0, none⟩), .slice q len cap] A fun e w' => (∃ v, e = .returned v) ∧ HalfS w px py fx fy fs k zs w' := by
  obtain ⟨gx, wx, mx, gy, wy, my, hx, hy, hk2, hm, hB⟩ := h
  have hl := Pair.len hk2
  obtain ⟨a1, a2, a3, a4⟩ := hx.apart hy
  refine (send_any hx (barg_arg hI hB) (by show mx.length ≤ _; omega) (by omega) (by show k ≤ _; omega) (by show Srt (keys mx); rw [hk2]; exact srtK_sorted _) hB.size).mono ?_
  rintro e w' ⟨hv, g', wv, ms, h1, h2, h3, h4⟩
  exact ⟨hv, g', wv, ms, gy, wy, my, h1, hy.other h4 hx.ntp hx.ntg (fun e => a1 e.symm) (fun e => a3 e.symm) (fun e => a2 e.symm) (fun e => a4 e.symm), by rw [h2, show (Lk.ms ⟨fs, k, mx⟩) = mx from rfl, hk2]; rfl, hm, hB.trans (h4.below hx.hp hx.hg hB.size)⟩
theorem HalfS.send2 {zs : List Nat} (h : HalfS w px py fx fy fs k zs A) (hk : k ≤ 100) {q : Option Addr} {len cap : Nat} (hI : IsBytes w.heap.size w q len cap zs) (hz : len ≤ 100) :
    Calls Try.prog 9 #[.pointer (some ⟨py, 0, none⟩), .slice q len cap] A fun e w' => (∃ v, e = .returned v) ∧ Pair w px py fx fy fs (k + 1) w' := by
  obtain ⟨gx, wx, mx, gy, wy, my, hx, hy, hk2, hm, hB⟩ := h
  obtain ⟨a1, a2, a3, a4⟩ := hx.apart hy
  refine (rsend_any hy (barg_arg hI hB) (by show my.length ≤ _; omega) (by omega) (by show k ≤ _; omega) hB.size).mono ?_
  rintro e w' ⟨hv, g', wv, ms, h1, h2, h3, h4⟩
  have hks : keys ms = keys my ++ List.replicate (Lk.times ⟨fs, k, []⟩) (Lk.due ⟨fs, k, []⟩, zs) := h2
  refine ⟨hv, gx, wx, mx, g', wv, ms, hx.other h4 hy.ntp hy.ntg a1 a2 a3 a4, h1, by rw [hk2, hks, srtK_reps], ?_, hB.trans (h4.below hy.hp hy.hg hB.size)⟩
  have := congrArg List.length hks
  rw [keys_length, List.length_append, keys_length, List.length_replicate] at this
  have := (Lk.times_le ⟨fs, k, []⟩).1
  omega
/-- Nothing waits, on both; or a message on both. -/
theorem Pair.cases (h : Pair w px py fx fy fs k A) :
    (Calls Try.prog 10 #[.pointer (some ⟨px, 0, none⟩)] A (fun e w' => e = .returned (.tuple #[.slice none 0 0, .bool false]) ∧ w' = A) ∧ Calls Try.prog 11 #[.pointer (some ⟨py, 0, none⟩)] A (fun e w' => e = .returned (.tuple #[.slice none 0 0, .bool false]) ∧ Pair w px py fx fy fs k w')) ∨
    Calls Try.prog 10 #[.pointer (some ⟨px, 0, none⟩)] A (fun e w' => ∃ m : Msg, e = .returned (.tuple #[.slice m.q m.n m.c, .bool true]) ∧ HalfR w px py fx fy fs k m w') := by
  obtain ⟨gx, wx, mx, gy, wy, my, hx, hy, hk2, hm, hB⟩ := h
  have hl := Pair.len hk2
  obtain ⟨a1, a2, a3, a4⟩ := hx.apart hy
  cases mx with
  | nil =>
    left
    have hm0 : my = [] := List.length_eq_zero_iff.1 (by rw [← hl]; rfl)
    subst hm0
    refine ⟨?_, ?_⟩
    · obtain ⟨q, c, rfl, _⟩ := id hx.wait
      exact receive_none A (hx.row.cell (i := 3) rfl)
    · refine (rreceive_any hy (by simp)).mono ?_
      rintro e w' (⟨_, rfl, hb⟩ | ⟨m, g', wv, ms, _, h2, _⟩)
      · exact ⟨rfl, gx, wx, [], gy, wy, [], hx.later hb, hy.later hb, hk2, hm, hB.trans (hb.mono hB.size)⟩
      · exact absurd (congrArg List.length h2) (by simp [keys, srtK])
  | cons m r =>
    right
    refine (receive_any hx rfl).mono ?_
    rintro e w' ⟨rfl, wv, h1, h2, h3⟩
    refine ⟨m, rfl, gx, wv, r, gy, wy, my, h1, hy.other h3 hx.ntp hx.ntg (fun e => a1 e.symm) (fun e => a3 e.symm) (fun e => a2 e.symm) (fun e => a4 e.symm), ?_, hm, hB.trans (h3.below hx.hp hx.hg hB.size), h2⟩
    rw [← hk2]
    rfl
theorem HalfR.recv2 {m : Msg} (h : HalfR w px py fx fy fs k m A) (hk : k ≤ 100) :
    Calls Try.prog 11 #[.pointer (some ⟨py, 0, none⟩)] A (fun e w' => ∃ m' : Msg, e = .returned (.tuple #[.slice m'.q m'.n m'.c, .bool true]) ∧ Pair w px py fx fy fs k w' ∧ (convert 32 9 (.slice m.q m.n m.c)).run Try.prog w' = .ok (.string (strOf m.zs)) w' ∧ (convert 32 9 (.slice m'.q m'.n m'.c)).run Try.prog w' = .ok (.string (strOf m.zs)) w') := by
  obtain ⟨gx, wx, mx, gy, wy, my, hx, hy, hk2, hm, hB, hT⟩ := h
  obtain ⟨a1, a2, a3, a4⟩ := hx.apart hy
  refine (rreceive_any hy (by show my.length ≤ _; omega)).mono ?_
  rintro e w' (⟨h0, _⟩ | ⟨m', g', wv, ms, rfl, h2, h3, h4, h5, h6⟩)
  · have h0' : my = [] := h0
    rw [h0'] at hk2
    simp [keys, srtK] at hk2
  · have h2' : srtK (keys my) = m'.key :: srtK (keys ms) := h2
    rw [h2'] at hk2
    obtain ⟨e1, e2⟩ := List.cons.inj hk2
    have e3 : m'.zs = m.zs := by have := congrArg Prod.snd e1; exact this.symm
    have hTm := hT.buts h6 hy.ntp hy.ntg
    have hlen : ms.length ≤ 3 * k := by
      have := congrArg List.length h2'
      rw [srtK_length, keys_length, List.length_cons, srtK_length, keys_length] at this
      omega
    refine ⟨m', rfl, ⟨gx, wx, mx, g', wv, ms, hx.other h6 hy.ntp hy.ntg a1 a2 a3 a4, h3, e2, hlen, hB.trans (h6.below hy.hp hy.hg hB.size)⟩, hTm.str.here, ?_⟩
    have := h4.str.here
    rw [e3] at this
    exact this
theorem Pair.waits (h : Pair w px py fx fy fs k A) : ∃ n : Nat, Calls Try.prog 12 #[.pointer (some ⟨px, 0, none⟩)] A (fun e w' => e = .returned (.int .i64 n) ∧ w' = A) ∧ Calls Try.prog 13 #[.pointer (some ⟨py, 0, none⟩)] A (fun e w' => e = .returned (.int .i64 n) ∧ w' = A) := by
  obtain ⟨gx, wx, mx, gy, wy, my, hx, hy, hk2, hm, hB⟩ := h
  have hl := Pair.len hk2
  refine ⟨my.length, ?_, rwaiting_any hy⟩
  have := waiting_any hx
  rw [show (Lk.ms ⟨fs, k, mx⟩).length = my.length from hl] at this
  exact this
end
end Go.Proofs.Ythdfhbbfbohojaa
