/-
  A reader in memory, and what its calls answer and leave. Nothing that lay before a call has turned but the reader.
-/
import Derived.Test.YtedpgdldekkgdaaNumAt
import Derived.Test.YtedpgdldekkgdaaWr
namespace Go.Proofs.Ytedpgdldekkgdaa
open Go.RowKit

/-- Block B is a reader: it has failed, or it has these bytes ahead, which lie in a block before it. -/
def RdAt (W : World) (B : Nat) : Option (List Nat) → Prop
  | none => Row W B 84 [.bool false, .slice none 0 0]
  | some zs => ∃ q len cap, Row W B 84 [.bool true, .slice q len cap] ∧ IsBytes B W q len cap zs ∧ len ≤ 60000
theorem RdAt.lt {W : World} {B : Nat} : ∀ {st : Option (List Nat)}, RdAt W B st → B < W.heap.size
  | none, h => Row.lt h
  | some _, ⟨_, _, _, h, _⟩ => h.lt
theorem RdAt.below {W W' : World} {n B : Nat} (hb : Below n W W') (hn : B < n) : ∀ {st : Option (List Nat)}, RdAt W B st → RdAt W' B st
  | none, h => Row.below h hb hn
  | some _, ⟨q, len, cap, h1, h2, h3⟩ => ⟨q, len, cap, h1.below hb hn, h2.below (hb.mono (by omega)), h3⟩
theorem RdAt.later {W W' : World} {B : Nat} {st : Option (List Nat)} (h : RdAt W B st) (hb : Below W.heap.size W W') : RdAt W' B st := h.below hb h.lt
theorem RdAt.but {W W' : World} {B B' : Nat} {st : Option (List Nat)} (h : RdAt W B st) (hb : But B' W.heap.size W W') (hB : B < B') : RdAt W' B st :=
  h.below (hb.below (m := B + 1) h.lt hB) (by omega)
theorem RdAt.fail {W W2 : World} {B : Nat} {a b : Value} (h : Row W2 B 84 [a, b]) (hb : But B W.heap.size W W2) :
    RdAt ((W2.setCell ⟨B, 0, none⟩ (.bool false)).setCell ⟨B, 1, none⟩ (.slice none 0 0)) B none ∧ But B W.heap.size W ((W2.setCell ⟨B, 0, none⟩ (.bool false)).setCell ⟨B, 1, none⟩ (.slice none 0 0)) :=
  ⟨(h.set (i := 0) _).set (i := 1) _, (hb.trans (But.set 0 _)).trans (But.set 1 _)⟩
/-- Some bytes were read. -/
theorem RdAt.cut {w w2 : World} {B : Nat} {q q2 : Option Addr} {len cap s c2 : Nat} {zs : List Nat} (hr : Row w B 84 [.bool true, .slice q len cap]) (hI : IsBytes B w q len cap zs) (hl : len ≤ 60000) (hs : s ≤ len) (hc : c2 + s = cap)
    (hq : 0 < len - s → ∃ b off, q = some ⟨b, off, none⟩ ∧ q2 = some ⟨b, off + s, none⟩) (hb : Below w.heap.size w w2) :
    RdAt (w2.setCell ⟨B, 1, none⟩ (.slice q2 (len - s) c2)) B (some (zs.drop s)) ∧ But B w.heap.size w (w2.setCell ⟨B, 1, none⟩ (.slice q2 (len - s) c2)) := by
  have hbut : But B w2.heap.size w2 (w2.setCell ⟨B, 1, none⟩ (.slice q2 (len - s) c2)) := But.set 1 _
  have hIr : IsBytes B w q2 (len - s) c2 (zs.drop s) := hI.rest (by omega) hc hq
  have hBl := hr.lt
  have hsz := hb.size
  exact ⟨⟨q2, len - s, c2, (hr.later hb).set (i := 1) _, (hIr.below (hb.mono (by omega))).below (hbut.below (by omega) (Nat.le_refl _)), by omega⟩, (But.of_below hb (Nat.le_refl _)).trans (hbut.mono hsz)⟩
/-- Where the bytes lie. -/
theorem bytes_at {n₀ : Nat} {W : World} {q : Option Addr} {len cap : Nat} {zs : List Nat} (h : IsBytes n₀ W q len cap zs) : len = 0 ∨ ∃ b off, q = some ⟨b, off, none⟩ ∧ b < n₀ := by
  rcases h.2.2.2.2 with h | ⟨b, off, h, hb, _⟩
  · exact .inl h
  · exact .inr ⟨b, off, h, hb⟩

set_option maxHeartbeats 600000 in
/-- failed -/
theorem failed_any (B : Nat) (st : Option (List Nat)) (w : World) (h : RdAt w B st) :
    Calls Try.prog 45 #[.pointer (some ⟨B, 0, none⟩)] w fun e w' => e = .returned (.bool st.isNone) ∧ w' = w := by
  cases st with
  | none =>
    have h : Row w B 84 [.bool false, .slice none 0 0] := h
    have c0 := h.cell (i := 0) rfl
    clear h
    go_enter Try.func45, Try.ntmps45
    go_wp2
    go_ret
    exact ⟨rfl, rfl⟩
  | some zs =>
    obtain ⟨q, len, cap, hr, hI, hl⟩ := h
    have c0 := hr.cell (i := 0) rfl
    clear hr hI
    go_enter Try.func45, Try.ntmps45
    go_wp2
    go_ret
    exact ⟨rfl, rfl⟩
theorem failed_none (w : World) : Calls Try.prog 45 #[.pointer none] w fun e w' => e = .returned (.bool true) ∧ w' = w := by
  go_enter Try.func45, Try.ntmps45
  go_wp2
  go_ret
  exact ⟨rfl, rfl⟩

set_option maxHeartbeats 600000 in
/-- fail -/
theorem fail_any (B : Nat) (st : Option (List Nat)) (w : World) (h : RdAt w B st) :
    Calls Try.prog 47 #[.pointer (some ⟨B, 0, none⟩)] w fun e w' => (∃ v, e = .returned v) ∧ RdAt w' B none ∧ But B w.heap.size w w' := by
  obtain ⟨a, b, hr, ha, hb⟩ : ∃ a b, Row w B 84 [.bool a, b] ∧ w.cell? ⟨B, 0, none⟩ = some (.bool a) ∧ ∃ q l c, b = .slice q l c := by
    cases st with
    | none => exact ⟨_, _, h, Row.cell h (i := 0) rfl, _, _, _, rfl⟩
    | some zs =>
      obtain ⟨q, len, cap, hr, hI, hl⟩ := h
      exact ⟨_, _, hr, hr.cell (i := 0) rfl, _, _, _, rfl⟩
  obtain ⟨q, l, c, rfl⟩ := hb
  have hr1 := hr.set (i := 0) (.bool false)
  have c1 := hr1.cell (i := 1) rfl
  have f0 := hr.frozen 0
  have f1 := hr1.frozen 1
  have HE := RdAt.fail hr (But.refl _ _ _)
  clear hr hr1 h
  go_enter Try.func47, Try.ntmps47
  go_wp2
  go_end0
  exact ⟨⟨_, rfl⟩, HE.1, HE.2⟩
theorem fail_none (w : World) : Calls Try.prog 47 #[.pointer none] w fun e w' => (∃ v, e = .returned v) ∧ w' = w := by
  go_enter Try.func47, Try.ntmps47
  go_wp2
  go_end0
  exact ⟨⟨_, rfl⟩, rfl⟩

set_option maxHeartbeats 600000 in
/-- Read -/
theorem read_any (p : Option Addr) (len cap : Nat) (zs : List Nat) (hlen : len ≤ 60000) (w : World) (hI : IsBytes w.heap.size w p len cap zs) :
    Calls Try.prog 29 #[.slice p len cap] w fun e w' => ∃ B, e = .returned (.pointer (some ⟨B, 0, none⟩)) ∧ w.heap.size ≤ B ∧ RdAt w' B (some zs) ∧ Below w.heap.size w w' := by
  have HI : Hid (IsBytes w.heap.size w p len cap zs) := hI
  clear hI
  go_enter Try.func29, Try.ntmps29
  go_wp2_with (go_at_call 44; refine (own_any p len cap zs (by omega) _ HI.out).mono ?_; rintro e w1 ⟨rfl, hown1, hs1, hb1⟩)
  go_ret
  exact ⟨w1.heap.size, rfl, hb1.size, ⟨_, _, _, Row.new w1 84 _, (hown1.bytes HI.out.2.2.2.1).below ((Below.refl _ w1).alloc (Nat.le_refl _) _), hlen⟩, hb1.alloc hb1.size _⟩

set_option maxHeartbeats 600000 in
/-- End -/
theorem end_any (B : Nat) (st : Option (List Nat)) (w : World) (h : RdAt w B st) :
    Calls Try.prog 33 #[.pointer (some ⟨B, 0, none⟩)] w fun e w' => e = .returned (.int .i64 (endE st)) ∧ w' = w := by
  have HF : Hid (Calls Try.prog 45 #[.pointer (some ⟨B, 0, none⟩)] w fun e w' => e = .returned (.bool st.isNone) ∧ w' = w) := failed_any B st w h
  cases st with
  | none =>
    go_enter Try.func33, Try.ntmps33
    go_wp2_with (go_at_call 45; refine HF.out.mono ?_; rintro e w1 ⟨rfl, hw1⟩; obtain rfl : w = w1 := hw1.symm; clear hw1; rw [Option.isNone_none])
    go_ret
    exact ⟨rfl, rfl⟩
  | some zs =>
    obtain ⟨q, len, cap, hr, hI, hl⟩ := h
    have c1 := hr.cell (i := 1) rfl
    have hl1 := hI.1
    clear hr hI
    by_cases h0 : 0 < len
    · have h0i : (0 : Int) < (len : Int) := by omega
      go_enter Try.func33, Try.ntmps33
      go_wp2_with (go_at_call 45; refine HF.out.mono ?_; rintro e w1 ⟨rfl, hw1⟩; obtain rfl : w = w1 := hw1.symm; clear hw1; rw [Option.isNone_some])
      go_ret
      exact ⟨by rw [endE, hl1, if_pos h0]; rfl, rfl⟩
    · have h0i : ¬ (0 : Int) < (len : Int) := by omega
      go_enter Try.func33, Try.ntmps33
      go_wp2_with (go_at_call 45; refine HF.out.mono ?_; rintro e w1 ⟨rfl, hw1⟩; obtain rfl : w = w1 := hw1.symm; clear hw1; rw [Option.isNone_some])
      go_ret
      exact ⟨by rw [endE, hl1, if_neg h0]; rfl, rfl⟩
theorem end_none (w : World) : Calls Try.prog 33 #[.pointer none] w fun e w' => e = .returned (.int .i64 80) ∧ w' = w := by
  go_enter Try.func33, Try.ntmps33
  go_wp2_with (go_at_call 45; refine (failed_none w).mono ?_; rintro e w1 ⟨rfl, hw1⟩; obtain rfl : w = w1 := hw1.symm; clear hw1)
  go_ret
  exact ⟨rfl, rfl⟩
end Go.Proofs.Ytedpgdldekkgdaa
