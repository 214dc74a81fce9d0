/-
  The reference's reader in memory, and what its N, Raw, Text and End answer and leave. Nothing that lay before a call has turned but the reader.
-/
import Derived.Test.YtedpgdldekkgdaaRd3
namespace Go.Proofs.Ytedpgdldekkgdaa
open Go.RowKit

/-- Block B is a reader of the reference: it has failed, or it has these bytes ahead, which lie in a block below n₀. -/
def RfAt (n₀ : Nat) (W : World) (B : Nat) : Option (List Nat) → Prop
  | none => Row W B 73 [.slice none 0 0, .bool true]
  | some zs => ∃ q len cap, Row W B 73 [.slice q len cap, .bool false] ∧ IsBytes n₀ W q len cap zs ∧ len ≤ 100000
theorem RfAt.lt {n₀ : Nat} {W : World} {B : Nat} : ∀ {st : Option (List Nat)}, RfAt n₀ W B st → B < W.heap.size
  | none, h => Row.lt h
  | some _, ⟨_, _, _, h, _⟩ => h.lt
theorem RfAt.below {n₀ : Nat} {W W' : World} {n B : Nat} (hb : Below n W W') (hn : B < n) (h0 : n₀ ≤ n) : ∀ {st : Option (List Nat)}, RfAt n₀ W B st → RfAt n₀ W' B st
  | none, h => Row.below h hb hn
  | some _, ⟨q, len, cap, h1, h2, h3⟩ => ⟨q, len, cap, h1.below hb hn, h2.below (hb.mono (by omega)), h3⟩
theorem RfAt.later {n₀ : Nat} {W W' : World} {B : Nat} {st : Option (List Nat)} (h : RfAt n₀ W B st) (h0 : n₀ ≤ W.heap.size) (hb : Below W.heap.size W W') : RfAt n₀ W' B st := h.below hb h.lt h0
theorem RfAt.but {n₀ : Nat} {W W' : World} {B B' : Nat} (hb : But B' W.heap.size W W') (hB : B ≠ B') (hn : n₀ ≤ B') (hn' : n₀ ≤ W.heap.size) : ∀ {st : Option (List Nat)}, RfAt n₀ W B st → RfAt n₀ W' B st
  | none, h => hb.row (Row.lt h) hB h
  | some _, ⟨q, len, cap, h1, h2, h3⟩ => ⟨q, len, cap, hb.row h1.lt hB h1, h2.below (hb.below hn' hn), h3⟩
theorem RfAt.fail {n₀ : Nat} {W W2 : World} {B : Nat} {a b : Value} (h : Row W2 B 73 [a, b]) (hb : But B W.heap.size W W2) :
    RfAt n₀ ((W2.setCell ⟨B, 0, none⟩ (.slice none 0 0)).setCell ⟨B, 1, none⟩ (.bool true)) B none ∧ But B W.heap.size W ((W2.setCell ⟨B, 0, none⟩ (.slice none 0 0)).setCell ⟨B, 1, none⟩ (.bool true)) :=
  ⟨(h.set (i := 0) _).set (i := 1) _, (hb.trans (But.set 0 _)).trans (But.set 1 _)⟩
theorem RfAt.cut {n₀ : Nat} {w : World} {B : Nat} {q q2 : Option Addr} {len cap s c2 : Nat} {zs : List Nat} (hr : Row w B 73 [.slice q len cap, .bool false]) (hI : IsBytes n₀ w q len cap zs) (hn : n₀ ≤ B) (hl : len ≤ 100000) (hs : s ≤ len) (hc : c2 + s = cap)
    (hq : 0 < len - s → ∃ b off, q = some ⟨b, off, none⟩ ∧ q2 = some ⟨b, off + s, none⟩) :
    RfAt n₀ (w.setCell ⟨B, 0, none⟩ (.slice q2 (len - s) c2)) B (some (zs.drop s)) ∧ But B w.heap.size w (w.setCell ⟨B, 0, none⟩ (.slice q2 (len - s) c2)) := by
  have hbut : But B w.heap.size w (w.setCell ⟨B, 0, none⟩ (.slice q2 (len - s) c2)) := But.set 0 _
  have hIr : IsBytes n₀ w q2 (len - s) c2 (zs.drop s) := hI.rest (by omega) hc hq
  have hBl := hr.lt
  exact ⟨⟨q2, len - s, c2, hr.set (i := 0) _, hIr.below (hbut.below (by omega) hn), by omega⟩, hbut⟩

set_option maxHeartbeats 1000000 in
/-- fail -/
theorem refFail_any (n₀ B : Nat) (st : Option (List Nat)) (w : World) (h : RfAt n₀ w B st) :
    Calls Try.prog 50 #[.pointer (some ⟨B, 0, none⟩)] w fun e w' => (∃ v, e = .returned v) ∧ RfAt n₀ w' B none ∧ But B w.heap.size w w' := by
  obtain ⟨q, l, c, b, hr⟩ : ∃ q l c b, Row w B 73 [.slice q l c, .bool b] := by
    cases st with
    | none => exact ⟨_, _, _, _, h⟩
    | some zs => obtain ⟨q, len, cap, hr, hI, hl⟩ := h; exact ⟨_, _, _, _, hr⟩
  have hr1 := hr.set (i := 0) (.slice none 0 0)
  have c0 := hr.cell (i := 0) rfl
  have c1 := hr1.cell (i := 1) rfl
  have f0 := hr.frozen 0
  have f1 := hr1.frozen 1
  have HE := RfAt.fail (n₀ := n₀) hr (But.refl _ _ _)
  clear hr hr1 h
  go_enter Try.func50, Try.ntmps50
  go_wp2
  go_end0
  exact ⟨⟨_, rfl⟩, HE.1, HE.2⟩

set_option maxHeartbeats 1000000 in
/-- End -/
theorem refEnd_any (n₀ B : Nat) (st : Option (List Nat)) (w : World) (h : RfAt n₀ w B st) :
    Calls Try.prog 37 #[.pointer (some ⟨B, 0, none⟩)] w fun e w' => e = .returned (.int .i64 (endE st)) ∧ w' = w := by
  cases st with
  | none =>
    have h : Row w B 73 [.slice none 0 0, .bool true] := h
    have c1 := h.cell (i := 1) rfl
    clear h
    go_enter Try.func37, Try.ntmps37
    go_wp2
    go_ret
    exact ⟨rfl, rfl⟩
  | some zs =>
    obtain ⟨q, len, cap, hr, hI, hl⟩ := h
    have c0 := hr.cell (i := 0) rfl
    have c1 := hr.cell (i := 1) rfl
    have hl1 := hI.1
    clear hr hI
    by_cases h0 : 0 < len
    · have h0i : (0 : Int) < (len : Int) := by omega
      go_enter Try.func37, Try.ntmps37
      go_wp2
      go_ret
      exact ⟨by rw [endE, hl1, if_pos h0]; rfl, rfl⟩
    · have h0i : ¬ (0 : Int) < (len : Int) := by omega
      go_enter Try.func37, Try.ntmps37
      go_wp2
      go_ret
      exact ⟨by rw [endE, hl1, if_neg h0]; rfl, rfl⟩

set_option maxRecDepth 100000 in
set_option maxHeartbeats 1000000 in
/-- Raw -/
theorem refRaw_any (n₀ B : Nat) (st : Option (List Nat)) (z : Int) (w : World) (hn0 : n₀ ≤ B) (h : RfAt n₀ w B st) :
    Calls Try.prog 51 #[.pointer (some ⟨B, 0, none⟩), .int .i64 z] w fun e w' => ∃ q l c, e = .returned (.slice q l c) ∧ IsBytes n₀ w' q l c (readRaw z st).1 ∧ RfAt n₀ w' B (readRaw z st).2 ∧ But B w.heap.size w w' := by
  have HFl : Hid (Calls Try.prog 50 #[.pointer (some ⟨B, 0, none⟩)] w fun e w' => (∃ v, e = .returned v) ∧ RfAt n₀ w' B none ∧ But B w.heap.size w w') := refFail_any n₀ B st w h
  have HNil : Hid (∀ W : World, IsBytes n₀ W none 0 0 []) := fun W => ⟨rfl, Nat.le_refl _, by omega, by simp, .inl rfl⟩
  cases st with
  | none =>
    have h : Row w B 73 [.slice none 0 0, .bool true] := h
    have c1 := h.cell (i := 1) rfl
    have HR : Hid (readRaw z none = ([], none)) := rfl
    rw [HR.out]
    clear h
    go_enter Try.func51, Try.ntmps51
    go_wp2_with (go_at_call 50; refine HFl.out.mono ?_; rintro e w1 ⟨⟨v1, rfl⟩, hR1, hb1⟩)
    go_ret
    exact ⟨_, _, _, rfl, HNil.out _, hR1, hb1⟩
  | some zs =>
    obtain ⟨q, len, cap, hr, hI, hl⟩ := h
    have c0 := hr.cell (i := 0) rfl
    have c1 := hr.cell (i := 1) rfl
    have f0 := hr.frozen 0
    have hBl := hr.lt
    by_cases hz : z < 0
    · have HR : Hid (readRaw z (some zs) = ([], none)) := if_pos (.inl hz)
      clear hr hI
      rw [HR.out]
      go_enter Try.func51, Try.ntmps51
      go_wp2_with (go_at_call 50; refine HFl.out.mono ?_; rintro e w1 ⟨⟨v1, rfl⟩, hR1, hb1⟩)
      go_ret
      exact ⟨_, _, _, rfl, HNil.out _, hR1, hb1⟩
    · by_cases hn : (len : Int) < z
      · have HR : Hid (readRaw z (some zs) = ([], none)) := if_pos (.inr (by rw [hI.1]; exact hn))
        clear hr hI
        rw [HR.out]
        go_enter Try.func51, Try.ntmps51
        go_wp2_with (go_at_call 50; refine HFl.out.mono ?_; rintro e w1 ⟨⟨v1, rfl⟩, hR1, hb1⟩)
        go_ret
        exact ⟨_, _, _, rfl, HNil.out _, hR1, hb1⟩
      · obtain ⟨s, rfl⟩ : ∃ s : Nat, z = (s : Int) := ⟨z.toNat, by omega⟩
        have hsl : s ≤ len := by omega
        have HR : Hid (readRaw s (some zs) = (zs.take s, some (zs.drop s))) := readRaw_in (by rw [hI.1]; exact hsl)
        have hlc := hI.2.1
        have hcc := hI.2.2.1
        have hsc : s ≤ cap := by omega
        have HEnd : Hid (∀ q2 c2, c2 + s = cap → (0 < len - s → ∃ b off, q = some ⟨b, off, none⟩ ∧ q2 = some ⟨b, off + s, none⟩) → IsBytes n₀ (w.setCell ⟨B, 0, none⟩ (.slice q2 (len - s) c2)) q s cap (zs.take s) ∧ RfAt n₀ (w.setCell ⟨B, 0, none⟩ (.slice q2 (len - s) c2)) B (some (zs.drop s)) ∧ But B w.heap.size w (w.setCell ⟨B, 0, none⟩ (.slice q2 (len - s) c2))) := fun q2 c2 h1 h2 => by
          have hE := RfAt.cut hr hI hn0 hl hsl h1 h2
          exact ⟨(hI.head hsl hsc (Nat.le_refl _)).below (hE.2.below (by omega) hn0), hE⟩
        have hq := bytes_at hI
        clear hr hI
        rw [HR.out]
        rcases hq with h0 | ⟨b, off, rfl, hbB⟩
        · subst h0
          obtain rfl : s = 0 := by omega
          cases q
          all_goals
            go_enter Try.func51, Try.ntmps51
            go_wp2
            go_ret
            exact ⟨_, _, _, rfl, HEnd.out _ cap (by omega) (by omega)⟩
        · by_cases hcn : cap = s
          · obtain rfl : len = s := by omega
            obtain rfl : cap = len := hcn
            have hE := HEnd.out (some ⟨b, off, none⟩) 0 (by omega) (by omega)
            rw [Nat.sub_self] at hE
            go_enter Try.func51, Try.ntmps51
            go_wp2
            go_ret
            exact ⟨_, _, _, rfl, hE⟩
          · have hcn' : (cap = s) = False := eq_false hcn
            go_enter Try.func51, Try.ntmps51
            go_wp2
            go_ret
            exact ⟨_, _, _, rfl, HEnd.out _ _ (by omega) (fun _ => ⟨b, off, rfl, rfl⟩)⟩
end Go.Proofs.Ytedpgdldekkgdaa
