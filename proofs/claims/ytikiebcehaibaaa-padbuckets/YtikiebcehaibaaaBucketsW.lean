/-
  What PadBuckets answers: true, whatever the number. Nothing that lay before the call has turned.
-/
import Derived.Test.YtikiebcehaibaaaBucket
import Derived.Test.YtikiebcehaibaaaHeld
namespace Go.Proofs.Ytikiebcehaibaaa
open Go.RowKit Go.Shelf
attribute [local go_sem] Oper.semAt_some

def InOrder (pre : List Pl) : Prop := pre.map (·.1) = List.range pre.length
def Astray (pre : List Pl) : Prop := ¬ ∃ k, pre.map (·.1) = List.range k

theorem InOrder.snoc {pre : List Pl} {x : Pl} (h : InOrder pre) (hx : x.1 = pre.length) : InOrder (pre ++ [x]) := by
  unfold InOrder at *
  rw [List.map_append, h, List.length_append, List.length_singleton, List.range_succ]
  simp [hx]

theorem astray_of {pre : List Pl} {x : Pl} (hx : x.1 ≠ pre.length) : Astray (pre ++ [x]) := by
  rintro ⟨k, hk⟩
  have hl := congrArg List.length hk
  simp at hl
  have := congrArg (fun l => l[pre.length]?) hk
  simp [← hl] at this
  exact hx this

theorem pow_inj {a b : Nat} (h : 32 * 2 ^ a = 2 * (16 * 2 ^ b)) : a = b := (Nat.pow_right_inj (by decide : 1 < 2)).1 (by omega)

set_option maxRecDepth 100000 in
set_option maxHeartbeats 1000000 in
theorem padBuckets_in (n : Nat) (hn : 4 ≤ n) (z : Int) (hz : -9223372036854775808 ≤ z ∧ z ≤ 9223372036854775807) (w : World) :
    CallsIn Fence.wide n Try.prog 3 #[.int .i64 z] w fun e w' => e = .returned (.bool true) ∧ Below w.heap.size w w' := by
  have hfn : ∀ f, Fence.wide.fn f := fun _ => trivial
  have h1 : 1 ≤ n := by omega
  have HZ : Hid (-9223372036854775808 ≤ z ∧ z ≤ 9223372036854775807) := hz
  clear hz
  obtain ⟨w0, hw0⟩ : ∃ w0, w.alloc (.cells #[.bool false] 4) = w0 := ⟨_, rfl⟩
  have HrR : Hid (Row w0 w.heap.size 4 [.bool false]) := by rw [← hw0]; exact Row.new w 4 #[.bool false]
  have hb0 : Below w.heap.size w w0 := by rw [← hw0]; exact (Below.refl _ w).alloc (Nat.le_refl _) _
  have hs0 : w0.heap.size = w.heap.size + 1 := by rw [← hw0]; simp
  have HW0 : Hid (w.alloc (.cells #[.bool false] 4) = w0) := hw0
  clear hw0
  generalize hbk : bucketN z = bk at *
  refine callsIn_of_wp_marks Try.func3 rfl trivial ?_ rfl
  simp only [Try.ntmps3, List.size_toArray, List.length_cons, List.length_nil, Nat.reduceAdd, Nat.reduceSub, Array.replicate_succ, Array.replicate_zero, List.push_toArray, List.append_toArray, List.nil_append, List.cons_append]
  gi_wp2_with (first
    | (gi_at_call 7; rw [HW0.out]; refine (callsIn_wide.2 (awake_any _)).mono ?_; rintro e wa ⟨rfl, ha⟩)
    | (gi_at_call 8; refine (callsIn_wide.2 (bucket_any _ HZ.out _)).mono ?_; rintro e wb ⟨rfl, hb⟩)
    | (gi_at_call 9; refine (callsIn_wide.2 (refBucket_any _ HZ.out _)).mono ?_; rintro e wc ⟨rfl, hwc⟩; obtain rfl : wb = wc := hwc.symm; clear hwc))
  have hbB : Below w.heap.size w wb := (hb0.trans (ha.mono (by omega))).trans (hb.mono (by have := ha.size; omega))
  have hsB : w.heap.size + 1 ≤ wb.heap.size := by have := ha.size; have := hb.size; omega
  have hrB : Row wb w.heap.size 4 [.bool false] := (HrR.out.below ha (by omega)).below hb (by have := ha.size; omega)
  obtain ⟨w4, hw4⟩ : ∃ w4, (wb.alloc (.cells #[.int .i64 16] 3)).alloc (.cells #[.int .i64 0] 3) = w4 := ⟨_, rfl⟩
  have HL4 : Hid (Row w4 wb.heap.size 3 [.int .i64 16]) := by rw [← hw4]; exact (Row.new wb 3 #[.int .i64 16]).alloc _
  have HC4 : Hid (Row w4 (wb.heap.size + 1) 3 [.int .i64 0]) := by
    have h := Row.new (wb.alloc (.cells #[.int .i64 16] 3)) 3 #[.int .i64 0]
    rw [World.size_alloc] at h
    rw [← hw4]; exact h
  have HR4 : Hid (Row w4 w.heap.size 4 [.bool false]) := by rw [← hw4]; exact (hrB.alloc _).alloc _
  have hs4 : w4.heap.size = wb.heap.size + 1 + 1 := by rw [← hw4]; simp
  have hb4 : Below w.heap.size w w4 := by rw [← hw4]; exact (hbB.alloc (by omega) _).alloc (by simp; omega) _
  rw [hw4]
  refine (buckets_in Fence.wide _ trivial rfl _).mono ?_
  rintro e w5 ⟨rfl, hw5⟩
  obtain rfl : w4 = w5 := hw5.symm
  generalize hB1 : wb.heap.size = B1 at *
  clear hw5 hw4 HrR hb0 hs0 HW0 ha hb hbB hrB hbk HZ hB1
  gi_wp2
  refine wpIn_rangeFunc_low rfl h1 (gf := 15) (lb := #[]) rfl trivial (enters_of Try.func15 (by kernel_rfl) rfl)
    (encs := fun x : Pl => #[plVal x]) (Ok := fun _ _ => True) (Kp := fun _ _ => True)
    (fun W' _ _ => buckets_iter Fence.wide (n - 1) trivial rfl (by omega) _ _ W')
    (fun _ _ => trivial) (fun _ _ _ _ _ => trivial) (fun _ => rfl)
    (fun pre A => (InOrder pre ∧ Row A w.heap.size 4 [.bool false] ∧ Row A B1 3 [.int .i64 (16 * 2 ^ pre.length : Nat)] ∧ Row A (B1 + 1) 3 [.int .i64 pre.length]) ∧ Below w.heap.size w A)
    (fun _ pre _ => Astray pre)
    (fun s A A' ⟨⟨h1, h2, h3, h5⟩, h4⟩ hb => ⟨⟨h1, h2.below hb (by omega), h3.below hb (by omega), h5.below hb (by omega)⟩, h4.trans (hb.mono (by omega))⟩)
    (fun c s A A' h hb => h)
    (fun _ _ _ h _ => h) ⟨⟨rfl, HR4.out, HL4.out, HC4.out⟩, hb4⟩
    (fun x => { tmps := #[.int .i64 z, undef, .pointer (some ⟨w.heap.size, 0, none⟩), .pointer (some ⟨B1, 0, none⟩), .pointer (some ⟨B1 + 1, 0, none⟩), plVal x, .bool true, .bool false, .int .i64 z, .int .i64 bk, .int .i64 z, .int .i64 bk, .bool false, .func (.func 15) #[] #[], plVal x, undef, undef, undef, undef, undef, undef, undef, undef, undef, undef, undef, undef, undef], defers := [] })
    ?assign ?body ?done ?stop
  case assign =>
    intro l x W K hK
    gi_wp2
    exact hK
  case body =>
    rintro l pre x A ⟨⟨hin, hrR, hrL, hrC⟩, hB⟩ _ hlt
    have cr := hrR.cell (i := 0) rfl
    have fr := hrR.frozen 0
    have cl := hrL.cell (i := 0) rfl
    have fl := hrL.frozen 0
    have cc := hrC.cell (i := 0) rfl
    have fc := hrC.frozen 0
    have HI : Hid (InOrder pre) := hin
    have HR : Hid (Row A w.heap.size 4 [.bool false]) := hrR
    have HL : Hid (Row A B1 3 [.int .i64 (16 * 2 ^ pre.length : Nat)]) := hrL
    have HC : Hid (Row A (B1 + 1) 3 [.int .i64 pre.length]) := hrC
    have hx1 := pow_le x.2
    have hx2 := pow_le hlt
    have HQ : Hid (x.1 ≠ pre.length → 32 * 2 ^ x.1 ≠ 2 * (16 * 2 ^ pre.length)) := fun h e => h (pow_inj e)
    have HP : Hid (16 * 2 ^ (pre.length + 1) = 32 * 2 ^ pre.length) := by show _ = _; rw [Nat.pow_succ]; omega
    have hv : plVal x = .int .i64 (32 * 2 ^ x.1 : Nat) := rfl
    simp only [hv]
    clear hrR hrL hrC hin hv
    by_cases hx : x.1 = pre.length
    · have HS : Hid (InOrder (pre ++ [x])) := HI.out.snoc hx
      rw [hx] at hx1 ⊢
      have e1 : IntKind.i64.wrap (2 * ((16 * 2 ^ pre.length : Nat) : Int)) = ((32 * 2 ^ pre.length : Nat) : Int) := by rw [IntKind.wrap_i64]; omega
      have e2 : IntKind.i64.wrap ((pre.length : Int) + 1) = ((pre.length + 1 : Nat) : Int) := by rw [IntKind.wrap_i64]; omega
      generalize hs : 32 * 2 ^ pre.length = s at *
      generalize ht : 16 * 2 ^ pre.length = t at *
      clear hs ht
      have hln : (pre ++ [x]).length = pre.length + 1 := by simp
      gi_wp2
      refine ⟨((KeepsOthers.setCell A _ _).from _).trans ((KeepsOthers.setCell _ _ _).from _), trivial, ⟨HS.out, (HR.out.other (by simp; omega) _).other (by simp; omega) _, ?_, ?_⟩, (hB.setCell (p := ⟨B1, 0, none⟩) (by show w.heap.size ≤ B1; omega) _).setCell (p := ⟨B1 + 1, 0, none⟩) (by show w.heap.size ≤ B1 + 1; omega) _⟩
      · rw [hln, HP.out]; exact (HL.out.set 0 _).other (by simp) _
      · rw [hln]; simpa using (HC.out.other (a := ⟨B1, 0, none⟩) (by simp) (.int .i64 (s : Nat))).set 0 (.int .i64 ((pre.length : Int) + 1))
    · have HS : Hid (Astray (pre ++ [x])) := astray_of hx
      have hq := HQ.out hx
      have e1 : IntKind.i64.wrap (2 * ((16 * 2 ^ pre.length : Nat) : Int)) = ((2 * (16 * 2 ^ pre.length) : Nat) : Int) := by rw [IntKind.wrap_i64]; omega
      generalize hs : 32 * 2 ^ x.1 = s at *
      generalize ht : 16 * 2 ^ pre.length = t at *
      clear hs ht
      have hne : (s : Int) ≠ 2 * (t : Int) := by omega
      gi_wp2
      exact ⟨(KeepsOthers.setCell A _ _).from _, trivial, HS.out⟩
  case done =>
    rintro D ys A hD hys ⟨⟨hin, hrR, hrL, hrC⟩, hB⟩ hK
    have hl : ys.length = 12 := by have := congrArg List.length hys; simpa using this
    rw [hl] at hrL hrC
    have cr := hrR.cell (i := 0) rfl
    have fr := hrR.frozen 0
    have cl : A.cell? ⟨B1, 0, none⟩ = some (.int .i64 65536) := hrL.cell (i := 0) rfl
    have cc : A.cell? ⟨B1 + 1, 0, none⟩ = some (.int .i64 12) := hrC.cell (i := 0) rfl
    have HR : Hid (Row A w.heap.size 4 [.bool false]) := hrR
    clear hrR hrL hrC
    gi_wp2
    refine ⟨by simp, .inl ⟨_, _, rfl, run_takeDeferred (by rw [heap_setCell_other _ _ _ _ (by show D ≠ w.heap.size; omega)]; exact hK), ?_⟩⟩
    refine ⟨_, results_bool rfl rfl ((World.putObj_heap_other (by omega)).trans (HR.out.set 0 _)), rfl, ?_⟩
    exact (hB.setCell (p := ⟨w.heap.size, 0, none⟩) (Nat.le_refl _) _).trans (below_putObj _ _ (by omega))
  case stop =>
    rintro D c pre A hD hk hA hK
    exact absurd hk hA
/-- PadBuckets -/
theorem padBuckets_walk (z : Int) (w : World) (hz : -9223372036854775808 ≤ z ∧ z ≤ 9223372036854775807) :
    Calls Try.prog 3 #[.int .i64 z] w fun e w' => e = .returned (.bool true) ∧ Below w.heap.size w w' := callsIn_wide.1 (padBuckets_in 4 (Nat.le_refl _) z hz w)

end Go.Proofs.Ytikiebcehaibaaa
