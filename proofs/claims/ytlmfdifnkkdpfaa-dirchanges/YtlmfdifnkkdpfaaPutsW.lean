/-
  DirPuts: the walk; the law's awake.
-/
import Derived.Test.YtlmfdifnkkdpfaaRefPD
import Derived.Test.YtlmfdifnkkdpfaaEntAll
namespace Go.Proofs.Ytlmfdifnkkdpfaa
open Go.RowKit Go.Shelf

theorem noEnts (w : World) : IsEnts w.heap.size w none 0 0 [] := ⟨rfl, Nat.le_refl _, by omega, (fun _ h => by cases h), .inl rfl⟩
theorem goodE_nil : goodE [] = true := by
  simp [goodE, riseB, blindsE, dupB, namesE]
theorem encsE_nil : encsE [] = [0] := by
  rw [encsE]
  show encN 0 ++ [] = [0]
  rw [encN_small (by omega)]; rfl

set_option maxRecDepth 100000 in
set_option maxHeartbeats 1000000 in
theorem awake_any (w : World) : Calls Try.prog 8 #[] w fun e w' => e = .returned (.bool true) ∧ Below w.heap.size w w' := by
  have HP : Calls Try.prog 10 #[.slice none 0 0] w fun e w' => ∃ g c, e = .returned (.tuple #[.slice (some ⟨g, 0, none⟩) 1 c, .int .i64 0]) ∧ w'.cell? ⟨g, 0, none⟩ = some (.int .u8 0) ∧ 1 ≤ c ∧ Below w.heap.size w w' := by
    refine (put_any none 0 0 [] w (noEnts w) (fun _ h => by cases h)).mono ?_
    rintro e w' ⟨v, rfl, hO, hb⟩
    simp only [goodE_nil, encsE_nil, if_true] at hO ⊢
    obtain ⟨q, c, rfl⟩ := own_len hO (n := 1) rfl
    obtain ⟨g, rfl, _, _, hr⟩ := hO.cells (by omega)
    have hI := hO.bytes (by simp)
    exact ⟨g, c, rfl, by have := hr 0 _ (u8s_at (l := [0]) (by simp)); simpa using this, hI.2.1, hb⟩
  go_enter Try.func8, Try.ntmps8
  go_wp2_with (go_at_call 10; refine HP.mono ?_; rintro e w1 ⟨g, c, rfl, hc, hc1, hb⟩; have hcI : (1 : Int) ≤ (c : Int) := by omega)
  go_ret
  exact ⟨rfl, hb⟩

set_option maxRecDepth 100000 in
set_option maxHeartbeats 1000000 in
theorem dirPuts_walk (p : Option Addr) (len cap : Nat) (es : List Ent) (w : World) (hI : IsEnts w.heap.size w p len cap es) :
    Calls Try.prog 3 #[.slice p len cap] w fun e w' => e = .returned (.bool true) ∧ Below w.heap.size w w' := by
  have HI : Hid (IsEnts w.heap.size w p len cap es) := hI
  have HA := awake_any w
  cases hf : fewB es with
  | false =>
    clear hI
    go_enter Try.func3, Try.ntmps3
    go_wp2_with (first
      | (go_at_call 8; refine HA.mono ?_; rintro e w1 ⟨rfl, hb1⟩)
      | (go_at_call 9; refine (few_any p len cap es w1 (HI.out.later hb1)).mono ?_; rintro e w2 ⟨rfl, hb2⟩; rw [hf]))
    go_ret
    exact ⟨rfl, hb1.trans (hb2.mono hb1.size)⟩
  | true =>
    have HN : Hid (∀ e ∈ es, e.name.size ≤ 1000000) := fun e he => by have := few_name hf e he; omega
    clear hI
    generalize hgg : goodE es = g at *
    have HG : Hid (goodE es = g) := hgg
    clear hgg
    go_enter Try.func3, Try.ntmps3
    go_wp2_with (first
      | (go_at_call 8; refine HA.mono ?_; rintro e w1 ⟨rfl, hb1⟩)
      | (go_at_call 9; refine (few_any p len cap es w1 (HI.out.later hb1)).mono ?_; rintro e w2 ⟨rfl, hb2⟩; rw [hf]; have HB2 : Hid (Below w.heap.size w w2) := hb1.trans (hb2.mono hb1.size); clear hb1 hb2)
      | (go_at_call 10; refine (put_any p len cap es w2 (HI.out.later HB2.out) HN.out).mono ?_; rintro e w3 ⟨v3, rfl, hO3, hb3⟩; rw [HG.out] at hO3 ⊢; obtain ⟨q3, l3, c3, hu3⟩ := own_any_slice hO3; subst hu3; have HB3 : Hid (Below w.heap.size w w3) := HB2.out.trans (hb3.mono HB2.out.size); have HS3 : Hid (Str w3 (.slice q3 l3 c3) (strOf (if g then encsE es else []))) := own_str hO3; clear HB2 hb3 hO3)
      | (go_at_call 11; refine (refPutDir_any p len cap es w3 (HI.out.later HB3.out) HN.out).mono ?_; rintro e w4 ⟨v4, rfl, hO4, hb4⟩; rw [HG.out] at hO4 ⊢; obtain ⟨q4, l4, c4, hu4⟩ := own_any_slice hO4; subst hu4; have HB4 : Hid (Below w.heap.size w w4) := HB3.out.trans (hb4.mono HB3.out.size); have HS4 : Hid (Str w4 (.slice q4 l4 c4) (strOf (if g then encsE es else []))) := own_str hO4; have HS34 : Hid (Str w4 (.slice q3 l3 c3) (strOf (if g then encsE es else []))) := HS3.out.later hb4; clear HB3 hb4 hO4 HS3)
      | (go_at_call 12; refine (dgood_any p len cap es w4 (HI.out.later HB4.out) HN.out).mono ?_; rintro e w5 ⟨rfl, hb5⟩; rw [HG.out]; have HB5 : Hid (Below w.heap.size w w5) := HB4.out.trans (hb5.mono HB4.out.size); have HS5 : Hid (Str w5 (.slice q4 l4 c4) (strOf (if g then encsE es else []))) := HS4.out.later hb5; have HS35 : Hid (Str w5 (.slice q3 l3 c3) (strOf (if g then encsE es else []))) := HS34.out.later hb5; clear HB4 hb5 HS4 HS34)
      | (go_at_call 13; refine (refGoodDir_any p len cap es w5 (HI.out.later HB5.out) HN.out).mono ?_; rintro e w6 ⟨rfl, hb6⟩; rw [refGood_eq, HG.out]; have HB6 : Hid (Below w.heap.size w w6) := HB5.out.trans (hb6.mono HB5.out.size); have hs1 := (HS5.out.later hb6).here; have hs2 := (HS35.out.later hb6).here; clear HB5 hb6 HS5 HS35))
    all_goals
      go_ret
      exact ⟨rfl, HB6.out⟩
end Go.Proofs.Ytlmfdifnkkdpfaa
