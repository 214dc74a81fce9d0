/-
  Rows.VecChunksSaid: for every slice of bytes and every two ints, tabulariumlaw01.VecChunks returns true, and the arguments read behind the call as they read before.
-/
import Derived.Test.YthhjjijnjfbibaaRows
import Derived.Test.YthhjjijnjfbibaaAwake
import Derived.Test.YthhjjijnjfbibaaTexts
import Derived.WalkKit
import Derived.ProofKit
import Derived.OpenShut
import Derived.ShutString
import Derived.ChangeOld
import Derived.Below
namespace Go.Proofs.Ythhjjijnjfbibaa.vecChunks
open Go.ChangeShapes Go.WideShapes Go.ChangeAt Go.RowKit

theorem own : ownKnob Try.prog.godebug = none := by kernel_rfl
theorem laidOut : laidOutB Try.prog = true := by kernel_rfl

theorem chCount_le (len m : Nat) : chCount len m ≤ len := by
  unfold chCount
  rcases Nat.eq_zero_or_pos m with rfl | hm
  · simp
  · rcases Nat.eq_zero_or_pos len with rfl | hl
    · rw [Nat.div_eq_of_lt (by omega)]; omega
    · apply Nat.le_of_lt_succ
      rw [Nat.div_lt_iff_lt_mul hm]
      show len + m - 1 < (len + 1) * m
      have h1 : (len + 1) * m = len * m + m := by rw [Nat.add_mul, Nat.one_mul]
      have h2 : len ≤ len * m := Nat.le_mul_of_pos_right len hm
      omega

theorem texts_take {n₀ : Nat} {W : World} {q : Option Addr} {K M c : Nat} {zs : List Nat} {m : Nat} (h : IsTexts n₀ W (.slice q K c) (piecesL zs m K)) (hM : M < K) : IsTexts n₀ W (.slice q M c) (piecesL zs m M) := by
  obtain ⟨vs, hrow, hs⟩ := h
  have hlK : (piecesL zs m K).length = K := by simp [piecesL]
  have hlM : (piecesL zs m M).length = M := by simp [piecesL]
  rw [hlK] at hrow hs
  have hvl := hrow.1
  refine ⟨vs.take M, ?_, fun i hi => ?_⟩
  · rw [hlM]
    refine ⟨by simp; omega, ?_⟩
    rcases hrow.2 with ⟨h', h0⟩ | ⟨g, cap, cur, h', hb, hg, hc1, hc2, hc3, hc4⟩
    · omega
    · simp only [Value.slice.injEq] at h'
      obtain ⟨rfl, _, rfl⟩ := h'
      exact .inr ⟨g, c, cur, rfl, hb, hg, by omega, hc2, hc3, by rw [← hc4, List.take_take]; congr 1; omega⟩
  · rw [hlM] at hi
    have e1 : (vs.take M).getD i undef = vs.getD i undef := by simp [hi]
    have e2 : (piecesL zs m M).getD i [] = (piecesL zs m K).getD i [] := by simp [piecesL, hi, show i < K by omega]
    rw [e1, e2]
    exact hs i (by omega)

theorem texts_cap {n₀ : Nat} {W : World} {q : Option Addr} {K c : Nat} {ts : List (List Nat)} (hl : ts.length = K) (h : IsTexts n₀ W (.slice q K c) ts) : K ≤ c := by
  obtain ⟨vs, hrow, _⟩ := h
  rw [hl] at hrow
  rcases hrow.2 with ⟨h', h0⟩ | ⟨g, cap, cur, h', hb, hg, hc1, _⟩
  · omega
  · simp only [Value.slice.injEq] at h'
    omega

set_option maxRecDepth 100000 in
set_option maxHeartbeats 2000000 in
theorem walkN (p : Option Addr) (len cap : Nat) (zs : List Nat) (hlen : len ≤ 500) (z most : Int) (hz2 : z ≤ 9223372036854775807) (hm0 : 0 ≤ most) (w : World) (hI : IsBytes w.heap.size w p len cap zs) :
    Calls Try.prog 6 #[.slice p len cap, .int .i64 z, .int .i64 most] w fun e w' => e = .returned (.bool true) ∧ Below w.heap.size w w' := by
  have hKl := chCount_le len z.toNat
  have c1 := refChunks_any p len cap zs (by omega) z hz2
  have c2 := told_texts p len cap zs (by omega) z 1000 hz2 (by omega)
  have c3 := told_texts p len cap zs (by omega) z most hz2 hm0
  rw [show min (1000 : Int).toNat (chCount len z.toNat) = chCount len z.toNat by omega] at c2
  obtain ⟨M, rfl⟩ := Int.eq_ofNat_of_zero_le hm0
  rw [Int.toNat_natCast] at c3
  have HI : Hid (IsBytes w.heap.size w p len cap zs) := hI
  clear hI
  generalize chCount len z.toNat = K at *
  generalize hm : z.toNat = m at *
  clear hm hm0
  have C1 : Hid (∀ w : World, IsBytes w.heap.size w p len cap zs → Calls Try.prog 17 #[.slice p len cap, .int .i64 z] w fun e w' => ∃ q c, e = .returned (.slice q K c) ∧ IsTexts w.heap.size w' (.slice q K c) (piecesL zs m K) ∧ Below w.heap.size w w') := c1
  have C2 : Hid (∀ w : World, IsBytes w.heap.size w p len cap zs → Calls Try.prog 18 #[.slice p len cap, .int .i64 z, .int .i64 1000] w fun e w' => ∃ q c, e = .returned (.slice q K c) ∧ IsTexts w.heap.size w' (.slice q K c) (piecesL zs m K) ∧ Below w.heap.size w w') := c2
  have C3 : Hid (∀ w : World, IsBytes w.heap.size w p len cap zs → Calls Try.prog 18 #[.slice p len cap, .int .i64 z, .int .i64 M] w fun e w' => ∃ q c, e = .returned (.slice q (min M K) c) ∧ IsTexts w.heap.size w' (.slice q (min M K) c) (piecesL zs m (min M K)) ∧ Below w.heap.size w w') := c3
  clear c1 c2 c3
  have hlp : ∀ k, (piecesL zs m k).length = k := fun k => by simp [piecesL]
  have HLP : Hid (∀ k, (piecesL zs m k).length = k) := hlp
  clear hlp
  by_cases hMK : M < K
  · have hMi : (M : Int) < (K : Int) := by omega
    have HMI : Hid (min M K = M) := by show _ = _; omega
    go_enter Try.func6, Try.ntmps6
    go_wp2_with (go_at_call 7; refine (awake_any _).mono ?_; rintro e w1 ⟨rfl, hb1⟩)
    refine (C1.out _ (HI.out.later hb1)).mono ?_
    rintro e w2 ⟨qw, cw, rfl, hw, hb2⟩
    have h02 : Below w.heap.size w w2 := hb1.trans (hb2.mono hb1.size)
    go_wp2_with fail
    refine (C2.out _ (HI.out.later h02)).mono ?_
    rintro e w3 ⟨qa, ca, rfl, ha, hb3⟩
    have h03 : Below w.heap.size w w3 := h02.trans (hb3.mono h02.size)
    go_wp2_with fail
    refine (C3.out _ (HI.out.later h03)).mono ?_
    rintro e w4 ⟨qs, cs, rfl, hs, hb4⟩
    have h04 : Below w.heap.size w w4 := h03.trans (hb4.mono h03.size)
    rw [HMI.out] at hs ⊢
    have hcw := texts_cap (HLP.out K) hw
    have hcwi : (M : Int) ≤ (cw : Int) := by omega
    have HW4 : Hid (IsTexts w1.heap.size w4 (.slice qw M cw) (piecesL zs m M)) := texts_take ((hw.later hb3).later hb4) hMK
    have HA4 : Hid (IsTexts w2.heap.size w4 (.slice qa K ca) (piecesL zs m K)) := ha.later hb4
    have HS4 : Hid (IsTexts w3.heap.size w4 (.slice qs M cs) (piecesL zs m M)) := hs
    have H04 : Hid (Below w.heap.size w w4) := h04
    clear hw ha hs hb1 hb2 hb3 hb4 h02 h03 h04
    go_wp2_with fail
    refine (C1.out _ (HI.out.later H04.out)).mono ?_
    rintro e w5 ⟨qr, cr, rfl, hr, hb5⟩
    go_wp2_with fail
    refine (sameTexts_any _ _ qa qr K ca cr _ (HLP.out K) (by omega) w5 (HA4.out.later hb5) hr).mono ?_
    rintro e w6 ⟨rfl, hb6⟩
    have h46 : Below w4.heap.size w4 w6 := hb5.trans (hb6.mono hb5.size)
    go_wp2_with fail
    refine (sameTexts_any _ _ qs qw M cs cw _ (HLP.out M) (by omega) w6 (HS4.out.later h46) (HW4.out.later h46)).mono ?_
    rintro e w7 ⟨rfl, hb7⟩
    have h47 : Below w4.heap.size w4 w7 := h46.trans (hb7.mono h46.size)
    go_wp2
    go_ret
    exact ⟨rfl, H04.out.trans (h47.mono H04.out.size)⟩
  · have hMi : ¬ (M : Int) < (K : Int) := by omega
    have HMI : Hid (min M K = K) := by show _ = _; omega
    go_enter Try.func6, Try.ntmps6
    go_wp2_with (go_at_call 7; refine (awake_any _).mono ?_; rintro e w1 ⟨rfl, hb1⟩)
    refine (C1.out _ (HI.out.later hb1)).mono ?_
    rintro e w2 ⟨qw, cw, rfl, hw, hb2⟩
    have h02 : Below w.heap.size w w2 := hb1.trans (hb2.mono hb1.size)
    go_wp2_with fail
    refine (C2.out _ (HI.out.later h02)).mono ?_
    rintro e w3 ⟨qa, ca, rfl, ha, hb3⟩
    have h03 : Below w.heap.size w w3 := h02.trans (hb3.mono h02.size)
    go_wp2_with fail
    refine (C3.out _ (HI.out.later h03)).mono ?_
    rintro e w4 ⟨qs, cs, rfl, hs, hb4⟩
    have h04 : Below w.heap.size w w4 := h03.trans (hb4.mono h03.size)
    rw [HMI.out] at hs ⊢
    have HW4 : Hid (IsTexts w1.heap.size w4 (.slice qw K cw) (piecesL zs m K)) := (hw.later hb3).later hb4
    have HA4 : Hid (IsTexts w2.heap.size w4 (.slice qa K ca) (piecesL zs m K)) := ha.later hb4
    have HS4 : Hid (IsTexts w3.heap.size w4 (.slice qs K cs) (piecesL zs m K)) := hs
    have H04 : Hid (Below w.heap.size w w4) := h04
    clear hw ha hs hb1 hb2 hb3 hb4 h02 h03 h04
    go_wp2_with fail
    refine (C1.out _ (HI.out.later H04.out)).mono ?_
    rintro e w5 ⟨qr, cr, rfl, hr, hb5⟩
    go_wp2_with fail
    refine (sameTexts_any _ _ qa qr K ca cr _ (HLP.out K) (by omega) w5 (HA4.out.later hb5) hr).mono ?_
    rintro e w6 ⟨rfl, hb6⟩
    have h46 : Below w4.heap.size w4 w6 := hb5.trans (hb6.mono hb5.size)
    go_wp2_with fail
    refine (sameTexts_any _ _ qs qw K cs cw _ (HLP.out K) (by omega) w6 (HS4.out.later h46) (HW4.out.later h46)).mono ?_
    rintro e w7 ⟨rfl, hb7⟩
    have h47 : Below w4.heap.size w4 w7 := h46.trans (hb7.mono h46.size)
    go_wp2
    go_ret
    exact ⟨rfl, H04.out.trans (h47.mono H04.out.size)⟩

set_option maxHeartbeats 1000000 in
theorem walk_out (p : Option Addr) (len cap : Nat) (z most : Int) (w : World) (h : 500 < len ∨ most < 0) :
    Calls Try.prog 6 #[.slice p len cap, .int .i64 z, .int .i64 most] w fun e w' => e = .returned (.bool true) ∧ Below w.heap.size w w' := by
  by_cases h1 : 500 < len
  · have i1 : (500 : Int) < (len : Int) := by omega
    go_enter Try.func6, Try.ntmps6
    go_wp2_with (go_at_call 7; refine (awake_any _).mono ?_; rintro e w1 ⟨rfl, hb1⟩)
    go_ret
    exact ⟨rfl, hb1⟩
  · have i1 : ¬ (500 : Int) < (len : Int) := by omega
    have i2 : most < 0 := by omega
    go_enter Try.func6, Try.ntmps6
    go_wp2_with (go_at_call 7; refine (awake_any _).mono ?_; rintro e w1 ⟨rfl, hb1⟩)
    go_ret
    exact ⟨rfl, hb1⟩

theorem walk (a0 : Option Addr) (len0 cap0 : Nat) (z0 : List Int) (a1 a2 : Int) (w : World) (w0 : IsRow .u8 w a0 len0 cap0 z0) (w1 : (Lit.int .i64 a1).wf = true) :
    Calls Try.prog 6 #[.slice a0 len0 cap0, .int .i64 a1, .int .i64 a2] w fun e w' => e = .returned (.bool true) ∧ Below w.heap.size w w' := by
  by_cases h : 500 < len0 ∨ a2 < 0
  · exact walk_out a0 len0 cap0 a1 a2 w h
  · have hb := bounds_i64 w1
    exact walkN a0 len0 cap0 _ (by omega) a1 a2 (by omega) (by omega) w (bytes_of_row w0)

set_option maxRecDepth 100000 in
theorem lifted (os : Os) (started : os.Started) (H : Type) (enc : TypeId × Value → H) :
    ReturnsInHanded {} Try.checked os 6 .any (Rows.vecChunksSpec.pre6 enc Try.prog Try.f6 Rows.vecChunksRow.domain false) (Rows.vecChunksSpec.post enc Try.prog Try.f6 false true false false) := by
  refine returnsInHanded_of_change (C := Try.checked) own started (by kernel_rfl) Try.func6
    (ChangeSpec.witness6 (enc := enc) (C := Try.checked) false ⟨#[], #[.slice none 0 0, .int .i64 0, .int .i64 0], []⟩ 8 (by kernel_rfl) (by kernel_rfl) (by kernel_rfl) (by kernel_rfl)) ?_
  intro W base args ds gs before hval0 hW hcnd _
  have hval : ∀ (j : Nat) t v, Try.f6.params[j]? = some t → args[j]? = some v → Value.okWide Try.prog W .any base t v := hval0
  have hW' := hW
  obtain ⟨p, q, hA0, hV, rfl, hfz, hnd⟩ := hW
  have hA : DataW.TrodAll enc Try.prog W 0 (fun _ => true) true Try.f6.params.toList args.toList ds p := hA0
  rw [Try.params6] at hA hval
  obtain ⟨v0, vs0, d0, ds0, p0, q0, hargs, rfl, rfl, h0, r0⟩ := trodAll_cons hA
  obtain ⟨v1, vs1, d1, ds1, p1, q1, rfl, rfl, rfl, h1, r1⟩ := trodAll_cons r0
  obtain ⟨v2, vs2, d2, ds2, p2, q2, rfl, rfl, rfl, h2, r2⟩ := trodAll_cons r1
  obtain ⟨rfl, rfl, rfl⟩ := trodAll_nil r2
  obtain rfl : args = #[v0, v1, v2] := by cases args; simp_all
  obtain ⟨rfl, rfl⟩ := trodVars_none hV
  obtain ⟨a0, len0, cap0, rfl⟩ := okWide_slice Try.underlying22 (hval 0 22 v0 rfl rfl)
  have k0 := h0
  have lt0 : ∀ x ∈ p0, x.block < W.heap.size := by obtain ⟨m, hm⟩ := k0; exact DataW.trod_lt m _ _ _ hm
  obtain ⟨z0, w0⟩ : ∃ zs, IsRow .u8 W a0 len0 cap0 zs := by
    obtain ⟨fuel, hf⟩ := h0
    rcases open_ints Try.underlying22 Try.underlying5 (by kernel_rfl) hf with ⟨hcs, _⟩ | ⟨x, l, c, zs, hcs, _, hl, hm, hz, _, hcell, hwz⟩
    · simp [Value.cells] at hcs
      obtain ⟨rfl, rfl, rfl⟩ := hcs
      exact ⟨[], .inl ⟨rfl, rfl, rfl, rfl⟩⟩
    · simp [Value.cells] at hcs
      obtain ⟨rfl, rfl, rfl⟩ := hcs
      exact ⟨zs, .inr ⟨_, rfl, hl, hm, by simpa using hz, hcell, hwz⟩⟩
  obtain ⟨a1, rfl, rfl, rfl, w1⟩ := open_int Try.underlying3 (hval 1 3 v1 rfl rfl) h1
  obtain ⟨a2, rfl, rfl, rfl, w2⟩ := open_int Try.underlying3 (hval 2 3 v2 rfl rfl) h2
  clear hA0 hval0
  refine (walk a0 len0 cap0 z0 a1 a2 W w0 w1).mono fun e W' ⟨he, bel⟩ => ?_
  subst he
  exact ⟨_, rfl, _, _, _, [], _, [], hW', trodAll_mk1 (shut_bool Try.underlying4 _), (trodAll_cons_mk (Below.trod laidOut (by kernel_rfl) (of_decide_eq_true (by kernel_rfl)) k0 bel lt0) (trodAll_cons_mk (shut_int Try.underlying3 w1) (trodAll_cons_mk (shut_int Try.underlying3 w2) trodAll_mk0))), rfl, bel.frame _, fun h => by cases h⟩

theorem over : Rows.vecChunksRow.holds Try.pinned (OpenSpec.ofChange Rows.vecChunksSpec) :=
  OpenClaim.holds_of_wide 6 Try.f6 rfl rfl rfl rfl rfl rfl rfl ⟨rfl, rfl, rfl, rfl, rfl⟩ rfl rfl rfl rfl rfl (by kernel_rfl) Try.func6 (by kernel_rfl)
    (of_decide_eq_true (by kernel_rfl)) (by unfold Func.isWrapper; first | (rw [if_pos (by decide +kernel)]; kernel_rfl) | (rw [if_neg (by decide +kernel)]; exact ⟨rfl, rfl⟩))
    (fun os started H enc _ => lifted os started H enc)

end Go.Proofs.Ythhjjijnjfbibaa.vecChunks
namespace Go.Proofs.Ythhjjijnjfbibaa

/-- The statement. -/
theorem vecChunks_holds : Rows.VecChunksSaid := vecChunks.over
#print axioms vecChunks_holds
end Go.Proofs.Ythhjjijnjfbibaa
