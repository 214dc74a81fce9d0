/-
  EnvelReads, walked.
-/
import Derived.Test.YtbaokodhoiledaaRefOf
namespace Go.Proofs.Ytbaokodhoiledaa
open Go.RowKit

/-- What comes of bytes, an envelope or none. -/
def oKd (b : List Nat) : Nat := if isEnv b = true then gKd b else 0
def oRl (b : List Nat) : Nat := if isEnv b = true then gRl b else 0
def oEp (b : List Nat) : Nat := if isEnv b = true then gEp b else 0
def oIds (b : List Nat) : List (List Nat) := if isEnv b = true then gIds b else []
def oBs (b : List Nat) : List Nat := if isEnv b = true then gBs b else []
def oErr (b : List Nat) : Int := if isEnv b = true then 0 else 90
/-- .. in one word. -/
def OfAll (w : World) (b : List Nat) (e : Ending) (w' : World) : Prop :=
  ∃ p len cap q lb cb, e = .returned (.tuple #[.agg #[.int .i64 (oKd b : Nat), .int .u32 (oRl b : Nat), .int .u32 (oEp b : Nat), .slice p len cap, .slice q lb cb], .int .i64 (oErr b)]) ∧ IsIds w'.heap.size w' p len cap (oIds b) ∧ IsBytes w'.heap.size w' q lb cb (oBs b) ∧ Below w.heap.size w w'
theorem OfPost.all {w : World} {b : List Nat} {e : Ending} {w' : World} (h : OfPost w b e w') : OfAll w b e w' := by
  rcases h with ⟨h1, p, len, cap, q, lb, cb, h2, h3, h4, h5⟩ | ⟨h1, h2, h3⟩
  · refine ⟨p, len, cap, q, lb, cb, ?_, ?_, ?_, h5⟩
    · rw [h2]; simp [oKd, oRl, oEp, oErr, h1]
    · simpa [oIds, h1] using h3
    · simpa [oBs, h1] using h4
  · refine ⟨none, 0, 0, none, 0, 0, ?_, ?_, ?_, h3⟩
    · rw [h2]; simp [oKd, oRl, oEp, oErr, h1]
    · simpa [oIds, h1] using noIds w'
    · simpa [oBs, h1] using noBytes w'

set_option maxRecDepth 100000 in
set_option maxHeartbeats 2000000 in
theorem reads_small (p : Option Addr) (len cap : Nat) (b : List Nat) (hlen : len ≤ 2000) (w : World) (hI : IsBytes w.heap.size w p len cap b) :
    Calls Try.prog 5 #[.slice p len cap] w fun e w' => e = .returned (.bool true) ∧ Below w.heap.size w w' := by
  have hli : ¬ (2000 : Int) < (len : Int) := by omega
  have HO : Hid (∀ W, Below w.heap.size w W → Calls Try.prog 16 #[.slice p len cap] W (OfAll W b)) := fun W h => (of_env p len cap b (by omega) W ((hI.below h).mono h.size)).mono fun _ _ h => h.all
  have HQ : Hid (∀ W, Below w.heap.size w W → Calls Try.prog 17 #[.slice p len cap] W (OfAll W b)) := fun W h => (refOf_env p len cap b (by omega) W ((hI.below h).mono h.size)).mono fun _ _ h => h.all
  clear hI
  go_enter Try.func5, Try.ntmps5
  go_wp2_with (first
    | (go_at_call 7; refine (awake_any w).mono ?_; rintro e w1 ⟨rfl, hb1⟩)
    | (go_at_call 16; refine (HO.out w1 hb1).mono ?_; rintro e w2 ⟨p2, l2, c2, q2, m2, d2, rfl, hI2, hJ2, hb2⟩; have HI2 : Hid (IsIds w2.heap.size w2 p2 l2 c2 (oIds b)) := hI2; have HJ2 : Hid (IsBytes w2.heap.size w2 q2 m2 d2 (oBs b)) := hJ2; have hB2 : Below w.heap.size w w2 := hb1.trans (hb2.mono hb1.size); clear hI2 hJ2 hb2 hb1)
    | ((with_reducible show wpList _ _ _ (Oper.mk _ (Op.store 31 (.tmp 3) (.tmp 15)) _ _ _ _ :: _) _ _); refine wpList_store_Row rfl 31 (.tmp 3) (.tmp 15) rfl [Value.int .i64 (oKd b : Nat), .int .u32 (oRl b : Nat), .int .u32 (oEp b : Nat), .slice p2 l2 c2, .slice q2 m2 d2] rfl rfl (Row.new w2 31 #[.int .i64 0, .int .u32 0, .int .u32 0, .slice none 0 0, .slice none 0 0]) size31 rfl (env_one _ _ _ _ _ _ _ _ _) ?_; have hr3 := (Row.new w2 31 #[.int .i64 0, .int .u32 0, .int .u32 0, .slice none 0 0, .slice none 0 0]).sets_all (vs := [Value.int .i64 (oKd b : Nat), .int .u32 (oRl b : Nat), .int .u32 (oEp b : Nat), .slice p2 l2 c2, .slice q2 m2 d2]) rfl; have hb3 : Below w2.heap.size w2 ((w2.alloc (.cells #[.int .i64 0, .int .u32 0, .int .u32 0, .slice none 0 0, .slice none 0 0] 31)).setCells w2.heap.size 0 [Value.int .i64 (oKd b : Nat), .int .u32 (oRl b : Nat), .int .u32 (oEp b : Nat), .slice p2 l2 c2, .slice q2 m2 d2]) := below_setCells (Nat.le_refl _) _ _ ((Below.refl _ w2).alloc (Nat.le_refl _) _); generalize (w2.alloc (.cells #[.int .i64 0, .int .u32 0, .int .u32 0, .slice none 0 0, .slice none 0 0] 31)).setCells w2.heap.size 0 [Value.int .i64 (oKd b : Nat), .int .u32 (oRl b : Nat), .int .u32 (oEp b : Nat), .slice p2 l2 c2, .slice q2 m2 d2] = w3 at *; have HR3 : Hid (Row w3 w2.heap.size 31 [Value.int .i64 (oKd b : Nat), .int .u32 (oRl b : Nat), .int .u32 (oEp b : Nat), .slice p2 l2 c2, .slice q2 m2 d2]) := hr3; have hB3 : Below w.heap.size w w3 := hB2.trans (hb3.mono hB2.size); have HI3 : Hid (IsIds w3.heap.size w3 p2 l2 c2 (oIds b)) := (HI2.out.below hb3).mono hb3.size; have HJ3 : Hid (IsBytes w3.heap.size w3 q2 m2 d2 (oBs b)) := (HJ2.out.below hb3).mono hb3.size; clear hr3 hb3 hB2 HI2 HJ2; simp only [Act.put])
    | (go_at_call 17; refine (HQ.out w3 hB3).mono ?_; rintro e w4 ⟨p4, l4, c4, q4, m4, d4, rfl, hI4, hJ4, hb4⟩; have HI4 : Hid (IsIds w4.heap.size w4 p4 l4 c4 (oIds b)) := hI4; have HJ4 : Hid (IsBytes w4.heap.size w4 q4 m4 d4 (oBs b)) := hJ4; have hB4 : Below w.heap.size w w4 := hB3.trans (hb4.mono hB3.size); have HR4 : Hid (Row w4 w2.heap.size 31 [Value.int .i64 (oKd b : Nat), .int .u32 (oRl b : Nat), .int .u32 (oEp b : Nat), .slice p2 l2 c2, .slice q2 m2 d2]) := HR3.out.later hb4; have HI34 : Hid (IsIds w4.heap.size w4 p2 l2 c2 (oIds b)) := (HI3.out.below hb4).mono hb4.size; have HJ34 : Hid (IsBytes w4.heap.size w4 q2 m2 d2 (oBs b)) := (HJ3.out.below hb4).mono hb4.size; clear hI4 hJ4 hb4 hB3 HI3 HJ3 HR3)
    | ((with_reducible show wpList _ _ _ (Oper.mk _ (Op.store 31 (.tmp 5) (.tmp 20)) _ _ _ _ :: _) _ _); refine wpList_store_Row rfl 31 (.tmp 5) (.tmp 20) rfl [Value.int .i64 (oKd b : Nat), .int .u32 (oRl b : Nat), .int .u32 (oEp b : Nat), .slice p4 l4 c4, .slice q4 m4 d4] rfl rfl (Row.new w4 31 #[.int .i64 0, .int .u32 0, .int .u32 0, .slice none 0 0, .slice none 0 0]) size31 rfl (env_one _ _ _ _ _ _ _ _ _) ?_; have hr5 := (Row.new w4 31 #[.int .i64 0, .int .u32 0, .int .u32 0, .slice none 0 0, .slice none 0 0]).sets_all (vs := [Value.int .i64 (oKd b : Nat), .int .u32 (oRl b : Nat), .int .u32 (oEp b : Nat), .slice p4 l4 c4, .slice q4 m4 d4]) rfl; have hb5 : Below w4.heap.size w4 ((w4.alloc (.cells #[.int .i64 0, .int .u32 0, .int .u32 0, .slice none 0 0, .slice none 0 0] 31)).setCells w4.heap.size 0 [Value.int .i64 (oKd b : Nat), .int .u32 (oRl b : Nat), .int .u32 (oEp b : Nat), .slice p4 l4 c4, .slice q4 m4 d4]) := below_setCells (Nat.le_refl _) _ _ ((Below.refl _ w4).alloc (Nat.le_refl _) _); generalize (w4.alloc (.cells #[.int .i64 0, .int .u32 0, .int .u32 0, .slice none 0 0, .slice none 0 0] 31)).setCells w4.heap.size 0 [Value.int .i64 (oKd b : Nat), .int .u32 (oRl b : Nat), .int .u32 (oEp b : Nat), .slice p4 l4 c4, .slice q4 m4 d4] = w5 at *; have x0 := hr5.cell (i := 0) rfl; have x1 := hr5.cell (i := 1) rfl; have x2 := hr5.cell (i := 2) rfl; have x3 := hr5.cell (i := 3) rfl; have x4 := hr5.cell (i := 4) rfl; have hr6 := HR4.out.later hb5; have y0 := hr6.cell (i := 0) rfl; have y1 := hr6.cell (i := 1) rfl; have y2 := hr6.cell (i := 2) rfl; have y3 := hr6.cell (i := 3) rfl; have y4 := hr6.cell (i := 4) rfl; have hB5 : Below w.heap.size w w5 := hB4.trans (hb5.mono hB4.size); have HI5 : Hid (IsIds w5.heap.size w5 p2 l2 c2 (oIds b)) := (HI34.out.below hb5).mono hb5.size; have HJ5 : Hid (IsBytes w5.heap.size w5 q2 m2 d2 (oBs b)) := (HJ34.out.below hb5).mono hb5.size; have HI6 : Hid (IsIds w5.heap.size w5 p4 l4 c4 (oIds b)) := (HI4.out.below hb5).mono hb5.size; have HJ6 : Hid (IsBytes w5.heap.size w5 q4 m4 d4 (oBs b)) := (HJ4.out.below hb5).mono hb5.size; have hl24 : l4 = l2 := HI6.out.1.symm.trans HI5.out.1; have hm24 : m4 = m2 := HJ6.out.1.symm.trans HJ5.out.1; subst hl24 hm24; clear hr5 hr6 hb5 hB4; simp only [Act.put])
    | (go_at_call 18; refine (sameEnv_any (oKd b) (oRl b) (oEp b) p2 _ c2 q2 _ d2 p4 c4 q4 d4 (oIds b) (oBs b) w5 HI5.out HJ5.out HI6.out HJ6.out).mono ?_; rintro e w6 ⟨rfl, hb6⟩))
  go_ret
  exact ⟨rfl, hB5.trans (hb6.mono hB5.size)⟩

set_option maxHeartbeats 1000000 in
theorem reads_great (p : Option Addr) (len cap : Nat) (hlen : ¬ len ≤ 2000) (w : World) :
    Calls Try.prog 5 #[.slice p len cap] w fun e w' => e = .returned (.bool true) ∧ Below w.heap.size w w' := by
  have hli : (2000 : Int) < (len : Int) := by omega
  go_enter Try.func5, Try.ntmps5
  go_wp2_with (go_at_call 7; refine (awake_any w).mono ?_; rintro e w1 ⟨rfl, hb1⟩)
  go_ret
  exact ⟨rfl, hb1⟩

/-- EnvelReads -/
theorem envelReads_walk (p : Option Addr) (len cap : Nat) (b : List Nat) (w : World) (hI : IsBytes w.heap.size w p len cap b) :
    Calls Try.prog 5 #[.slice p len cap] w fun e w' => e = .returned (.bool true) ∧ Below w.heap.size w w' := by
  by_cases h : len ≤ 2000
  · exact reads_small p len cap b h w hI
  · exact reads_great p len cap h w
end Go.Proofs.Ytbaokodhoiledaa
