/-
  What Take makes of a tape: the next bytes, in memory of their own, or an error, and then nothing is taken. Nothing that lay before the call has turned but the tape.
-/
import Derived.Test.YtkpjbleogjmbjaaDoorTape
namespace Go.Proofs.YtkpjbleogjmbjaaDoor
open Go.RowKit

/-- The error; what is taken; what is left. -/
def errT (z : Int) (zs : List Nat) : Int := if z < 0 then 1 else if (zs.length : Int) < z then 60 else 0
def takenT (z : Int) (zs : List Nat) : List Nat := if z < 0 ∨ (zs.length : Int) < z then [] else zs.take z.toNat
def restT (z : Int) (zs : List Nat) : List Nat := if z < 0 ∨ (zs.length : Int) < z then zs else zs.drop z.toNat

set_option maxHeartbeats 1000000 in
theorem take_neg (a : Option Addr) (z : Int) (hz : z < 0) (w : World) :
    Calls Tryd.prog 31 #[.pointer a, .int .i64 z] w fun e w' => e = .returned (.tuple #[.slice none 0 0, .int .i64 1]) ∧ w' = w := by
  go_enter Tryd.func31, Tryd.ntmps31
  go_wp2
  refine bodyPost_ret (results_tmp2 rfl _ _ _) rfl ?_
  exact ⟨rfl, rfl⟩

set_option maxHeartbeats 1000000 in
theorem take_over (a : Option Addr) (n : Nat) (z : Int) (hz : ¬ z < 0) (hn : (n : Int) < z) (w : World) (HL : Hid (Calls Tryd.prog 38 #[.pointer a] w fun e w' => e = .returned (.int .i64 (n : Nat)) ∧ w' = w)) :
    Calls Tryd.prog 31 #[.pointer a, .int .i64 z] w fun e w' => e = .returned (.tuple #[.slice none 0 0, .int .i64 60]) ∧ w' = w := by
  go_enter Tryd.func31, Tryd.ntmps31
  go_wp2_with (go_at_call 38; refine HL.out.mono ?_; rintro e w1 ⟨rfl, hw1⟩; obtain rfl : w = w1 := hw1.symm; clear hw1)
  refine bodyPost_ret (results_tmp2 rfl _ _ _) rfl ?_
  exact ⟨rfl, rfl⟩

set_option maxHeartbeats 1000000 in
theorem take_zero (a : Option Addr) (n : Nat) (w : World) (HL : Hid (Calls Tryd.prog 38 #[.pointer a] w fun e w' => e = .returned (.int .i64 (n : Nat)) ∧ w' = w)) :
    Calls Tryd.prog 31 #[.pointer a, .int .i64 0] w fun e w' => e = .returned (.tuple #[.slice none 0 0, .int .i64 0]) ∧ w' = w := by
  have hn : ¬ (n : Int) < 0 := by omega
  go_enter Tryd.func31, Tryd.ntmps31
  go_wp2_with (go_at_call 38; refine HL.out.mono ?_; rintro e w1 ⟨rfl, hw1⟩; obtain rfl : w = w1 := hw1.symm; clear hw1)
  refine bodyPost_ret (results_tmp2 rfl _ _ _) rfl ?_
  exact ⟨rfl, rfl⟩

set_option maxRecDepth 100000 in
set_option maxHeartbeats 1000000 in
theorem take_some (B Q n : Nat) (zs : List Nat) (h0 : 0 < n) (hn : n ≤ zs.length) (hlen : zs.length ≤ 70000) (w : World) (hT : TapeAt w B Q zs) :
    Calls Tryd.prog 31 #[.pointer (some ⟨B, 0, none⟩), .int .i64 n] w fun e w' => ∃ g, e = .returned (.tuple #[.slice (some ⟨g, 0, none⟩) n n, .int .i64 0]) ∧ Own w.heap.size w' (.slice (some ⟨g, 0, none⟩) n n) (zs.take n) ∧ TapeAt w' B Q (zs.drop n) ∧ But B w.heap.size w w' := by
  have HL : Hid (Calls Tryd.prog 38 #[.pointer (some ⟨B, 0, none⟩)] w fun e w' => e = .returned (.int .i64 (zs.length : Nat)) ∧ w' = w) := left_any B Q zs w hT
  have hBl := hT.lt
  obtain ⟨q, len, cap, hr, hI, hQ⟩ := hT
  have hl := hI.1
  rw [hl] at HL
  have hlc := hI.2.1
  have hcc := hI.2.2.1
  obtain ⟨b, off, rfl, hbB⟩ : ∃ b off, q = some ⟨b, off, none⟩ ∧ b < B := by
    rcases hI.2.2.2.2 with h | ⟨b, off, h, hb, _⟩
    · omega
    · exact ⟨b, off, h, hb⟩
  have c1 := hr.cell (i := 1) rfl
  have HR : Hid (Row w B 52 [.bool true, .slice (some ⟨b, off, none⟩) len cap]) := hr
  have HI : Hid (IsBytes B w (some ⟨b, off, none⟩) len cap zs) := hI
  have hn0 : ¬ (n : Int) < 0 := by omega
  have hn1 : ¬ (len : Int) < (n : Int) := by omega
  have hn2 : ((n : Int) == 0) = false := by simp; omega
  have hnl : n ≤ len := by omega
  have hnc : n ≤ cap := by omega
  have fz := hr.frozen 1
  have HOw : Hid (∀ v, Calls Tryd.prog 12 #[.slice (some ⟨b, off, none⟩) n n] (w.setCell ⟨B, 1, none⟩ v) fun e w' => e = .returned (.slice (some ⟨w.heap.size, 0, none⟩) n n) ∧ Own w.heap.size w' (.slice (some ⟨w.heap.size, 0, none⟩) n n) (zs.take n) ∧ Below w.heap.size (w.setCell ⟨B, 1, none⟩ v) w') := fun v => by
    have hb : Below B w (w.setCell ⟨B, 1, none⟩ v) := (But.set (B := B) (n := w.heap.size) 1 v).below (by omega) (Nat.le_refl _)
    have h := tapeOwn_any (some ⟨b, off, none⟩) n n (zs.take n) (by omega) (w.setCell ⟨B, 1, none⟩ v) (((hI.head hnl (Nat.le_refl _) hnc).below hb).mono (by have := hb.size; omega))
    rw [World.size_setCell] at h
    exact h.mono fun e w' ⟨h1, h2, _, h4⟩ => ⟨h1, h2, h4⟩
  obtain rfl := hQ b off none rfl
  have HEnd : Hid (∀ q2 c2 w', c2 + n = cap → (0 < len - n → q2 = some ⟨b, off + n, none⟩) → (∀ b' off' s', q2 = some ⟨b', off', s'⟩ → b' = b) → Below w.heap.size (w.setCell ⟨B, 1, none⟩ (.slice q2 (len - n) c2)) w' → TapeAt w' B b (zs.drop n) ∧ But B w.heap.size w w') := fun q2 c2 w' hc hq hqq hb => by
    have hbut : But B w.heap.size w (w.setCell ⟨B, 1, none⟩ (.slice q2 (len - n) c2)) := But.set 1 _
    have hIr : IsBytes B w q2 (len - n) c2 (zs.drop n) := hI.rest (by omega) hc (fun h => ⟨b, off, rfl, hq h⟩)
    refine ⟨TapeAt.below (W := w.setCell ⟨B, 1, none⟩ (.slice q2 (len - n) c2)) ⟨q2, len - n, c2, hr.set (i := 1) _, hIr.below (hbut.below (by omega) (Nat.le_refl _)), hqq⟩ hb hBl, hbut.trans (But.of_below hb (Nat.le_refl _))⟩
  clear hr hI HI HR
  by_cases hcn : cap = n
  · have hcn' : (cap = n) = True := eq_true hcn
    go_enter Tryd.func31, Tryd.ntmps31
    go_wp2_with (first
      | (go_at_call 38; refine HL.out.mono ?_; rintro e w1 ⟨rfl, hw1⟩; obtain rfl : w = w1 := hw1.symm; clear hw1)
      | (go_at_call 12; refine (HOw.out _).mono ?_; rintro e w1 ⟨rfl, hown1, hb1⟩))
    refine bodyPost_ret (results_tmp2 rfl _ _ _) rfl ?_
    have hE := HEnd.out _ _ _ (by omega) (by omega) (fun _ _ _ e => by simp at e; first | exact e.1.symm | exact e.elim | cases e) hb1
    exact ⟨_, rfl, hown1, hE⟩
  · have hcn' : (cap = n) = False := eq_false hcn
    go_enter Tryd.func31, Tryd.ntmps31
    go_wp2_with (first
      | (go_at_call 38; refine HL.out.mono ?_; rintro e w1 ⟨rfl, hw1⟩; obtain rfl : w = w1 := hw1.symm; clear hw1)
      | (go_at_call 12; refine (HOw.out _).mono ?_; rintro e w1 ⟨rfl, hown1, hb1⟩))
    refine bodyPost_ret (results_tmp2 rfl _ _ _) rfl ?_
    have hE := HEnd.out _ _ _ (by omega) (fun _ => rfl) (fun _ _ _ e => by simp at e; exact e.1.symm) hb1
    exact ⟨_, rfl, hown1, hE⟩

/-- Take -/
theorem take_any (B Q : Nat) (z : Int) (zs : List Nat) (hlen : zs.length ≤ 70000) (w : World) (hT : TapeAt w B Q zs) :
    Calls Tryd.prog 31 #[.pointer (some ⟨B, 0, none⟩), .int .i64 z] w fun e w' => ∃ v, e = .returned (.tuple #[v, .int .i64 (errT z zs)]) ∧ Own w.heap.size w' v (takenT z zs) ∧ TapeAt w' B Q (restT z zs) ∧ But B w.heap.size w w' := by
  by_cases hz : z < 0
  · rw [errT, if_pos hz, takenT, if_pos (.inl hz), restT, if_pos (.inl hz)]
    refine (take_neg _ z hz w).mono ?_
    rintro e w' ⟨rfl, rfl⟩
    exact ⟨_, rfl, Own.nil _ _, hT, But.refl _ _ _⟩
  · by_cases hn : (zs.length : Int) < z
    · rw [errT, if_neg hz, if_pos hn, takenT, if_pos (.inr hn), restT, if_pos (.inr hn)]
      refine (take_over _ zs.length z hz hn w (left_any B Q zs w hT)).mono ?_
      rintro e w' ⟨rfl, rfl⟩
      exact ⟨_, rfl, Own.nil _ _, hT, But.refl _ _ _⟩
    · rw [errT, if_neg hz, if_neg hn, takenT, if_neg (by omega), restT, if_neg (by omega)]
      obtain ⟨n, rfl⟩ : ∃ n : Nat, z = (n : Int) := ⟨z.toNat, by omega⟩
      rw [Int.toNat_natCast]
      by_cases h0 : n = 0
      · subst h0
        refine (take_zero _ zs.length w (left_any B Q zs w hT)).mono ?_
        rintro e w' ⟨rfl, rfl⟩
        exact ⟨_, rfl, Own.nil _ _, hT, But.refl _ _ _⟩
      · refine (take_some B Q n zs (by omega) (by omega) hlen w hT).mono ?_
        rintro e w' ⟨g, rfl, h⟩
        exact ⟨_, rfl, h⟩

end Go.Proofs.YtkpjbleogjmbjaaDoor
