/-
  The law's awake.
-/
import Derived.Test.YtffngjglgdbncaaEq
import Derived.Test.YtffngjglgdbncaaNew
namespace Go.Proofs.Ytffngjglgdbncaa
open Go.RowKit

def seven2 : List Nat := 7 :: 7 :: List.replicate 62 0
def seven1 : List Nat := 7 :: List.replicate 63 0
theorem isSec_seven2 : IsSec seven2 := ⟨by simp [seven2], fun z hz => by simp [seven2] at hz; omega⟩
theorem isSec_seven1 : IsSec seven1 := ⟨by simp [seven1], fun z hz => by simp [seven1] at hz; omega⟩
theorem built_seven2 : Try.prog.built 29 [(0, .int .u8 7), (1, .int .u8 7)] = some (u8s seven2).toArray := by kernel_rfl
theorem built_seven1 : Try.prog.built 29 [(0, .int .u8 7)] = some (u8s seven1).toArray := by kernel_rfl
def d0 : St := newS 1 [(0, 1)]
theorem d0_err : d0.wErr 0 = 131 := by decide
theorem d0_err2 : (d0.write 0 seven2).start.err 0 = 0 := by decide
theorem d0_read : (d0.write 0 seven2).start.read 0 = seven1 := by decide

set_option maxRecDepth 100000 in
set_option maxHeartbeats 2000000 in
theorem awake_any (w : World) : Calls Try.prog 6 #[] w fun e w' => e = .returned (.bool true) ∧ Below w.heap.size w w' := by
  have HB2 : Hid (Try.prog.built 29 [(0, .int .u8 7), (1, .int .u8 7)] = some (u8s seven2).toArray) := built_seven2
  have HB1 : Hid (Try.prog.built 29 [(0, .int .u8 7)] = some (u8s seven1).toArray) := built_seven1
  have HN : Hid (∀ W : World, Calls Try.prog 7 #[.int .i64 1, .slice (some ⟨W.heap.size, 0, none⟩) 1 1] (W.alloc (.cells #[.int .i64 0, .int .i64 1] 46)) fun e w' => ∃ p g, e = .returned (.pointer (some ⟨p, 0, none⟩)) ∧ W.heap.size ≤ p ∧ W.heap.size ≤ g ∧ DiskAt [p, g] w' p g d0 ∧ Below W.heap.size W w') := fun W => by
    refine (new_any 1 (len := 1) (cap := 1) (cr := [(0, 1)]) (w := W.alloc (.cells #[.int .i64 0, .int .i64 1] 46)) ⟨rfl, Nat.le_refl _, by omega, .inr ⟨W.heap.size, 0, rfl, by simp, by simp, (Row.new W 46 #[.int .i64 0, .int .i64 1]).range⟩⟩ (by omega)).mono ?_
    rintro e w' ⟨p, g, rfl, h1, h2, h3, h4⟩
    rw [World.size_alloc] at h1 h2 h4
    exact ⟨p, g, rfl, by omega, by omega, h3, ((Below.refl _ W).alloc (Nat.le_refl _) _).trans (h4.mono (by omega))⟩
  have HWr : Hid (∀ (W : World) p g, DiskAt [p, g] W p g d0 → Calls Try.prog 9 #[.pointer (some ⟨p, 0, none⟩), .int .i64 0, .agg (u8s seven2).toArray] W fun e w' => e = .returned (.int .i64 131) ∧ DiskAt [p, g] w' p g (d0.write 0 seven2) ∧ Buts [p, g] W.heap.size W w') := fun W p g h => by
    have := write_any h 0 isSec_seven2 (by decide)
    rw [d0_err] at this
    exact this
  have HRd : Hid (∀ (W : World) p g, DiskAt [p, g] W p g (d0.write 0 seven2).start → Calls Try.prog 11 #[.pointer (some ⟨p, 0, none⟩), .int .i64 0] W fun e w' => e = .returned (.tuple #[.agg (u8s seven1).toArray, .int .i64 0]) ∧ Below W.heap.size W w') := fun W p g h => by
    have := read_any h 0
    rw [d0_read, d0_err2] at this
    exact this
  have hq := equal_secs isSec_seven1 isSec_seven1
  rw [decide_eq_true rfl] at hq
  have HL : Hid ((u8s seven1).length = 64) := by show _ = _; simp [seven1]
  have HO : Hid (∀ v ∈ u8s seven1, v.oneCell' = true) := u8s_one _
  generalize u8s seven1 = S1 at *
  generalize u8s seven2 = S2 at *
  go_enter Try.func6, Try.ntmps6
  go_wp2_with (first
    | ((with_reducible show wpList _ _ _ (Oper.mk (some 11) _ _ _ _ _ :: _) _ _); refine wpList_built_want (by rfl) 29 _ rfl _ _ (by simp only [List.map_toArray, List.map_cons, List.map_nil]; rfl) HB2.out ?_; simp only [Act.put, List.setIfInBounds_toArray, List.set_cons_zero, List.set_cons_succ])
    | ((with_reducible show wpList _ _ _ (Oper.mk (some 26) _ _ _ _ _ :: _) _ _); refine wpList_built_want (by rfl) 29 _ rfl _ _ (by simp only [List.map_toArray, List.map_cons, List.map_nil]; rfl) HB1.out ?_; simp only [Act.put, List.setIfInBounds_toArray, List.set_cons_zero, List.set_cons_succ])
    | (go_at_call 7; refine (HN.out _).mono ?_; rintro e w1 ⟨p, g, rfl, hp1, hg1, hD1, hb1⟩; have HD1 : Hid (DiskAt [p, g] w1 p g d0) := hD1; clear hD1)
    | (go_at_call 9; refine (HWr.out _ _ _ HD1.out).mono ?_; rintro e w2 ⟨rfl, hD2, hb2⟩; have HD2 : Hid (DiskAt [p, g] w2 p g _) := hD2; clear hD2)
    | (go_at_call 13; refine (start_any HD2.out).mono ?_; rintro e w3 ⟨⟨v3, rfl⟩, hD3, hb3⟩; have HD3 : Hid (DiskAt [p, g] w3 p g _) := hD3; clear hD3)
    | (go_at_call 11; refine (HRd.out _ _ _ HD3.out).mono ?_; rintro e w4 ⟨rfl, hb4⟩)
    | ((with_reducible show wpList _ _ _ (Oper.mk none (Op.store 29 (.tmp 2) (.tmp 20)) _ _ _ _ :: _) _ _); rw [z64u8]; refine wpList_store_new rfl (.tmp 2) (.tmp 20) rfl S1 HL.out HO.out rfl rfl (fun w5 hb5 hR5 hs5 => ?_); have HR5 : Hid (Row w5 _ 29 S1) := hR5; clear hR5; simp only [Act.put])
    | ((with_reducible show wpList _ _ _ (Oper.mk (some 25) (Op.load 29 (.tmp 2)) _ _ _ _ :: _) _ _); refine wpList_load_want (by rfl) 29 (.tmp 2) rfl _ 0 rfl S1 HR5.out.range Try.underlying29 (by rw [HL.out]; exact size29) ?_; simp only [Act.put, List.setIfInBounds_toArray, List.set_cons_zero, List.set_cons_succ]))
  go_ret
  have s1 := hb1.size
  have s2 := hb2.size
  have s3 := hb3.size
  have s4 := hb4.size
  have hF : ∀ x ∈ [p, g], w.heap.size ≤ x := by simp [hp1, hg1]
  exact ⟨rfl, (((hb1.trans (hb2.below s1 hF)).trans (hb3.below (by omega) hF)).trans (hb4.mono (by omega))).trans (hb5.mono (by omega))⟩
end Go.Proofs.Ytffngjglgdbncaa
