/-
  What a reader's Ids answers and leaves.
-/
import Derived.Test.YtkhhlcjjdkldjaaRd3
import Derived.Test.YtkhhlcjjdkldjaaSame
import Derived.Test.YtkhhlcjjdkldjaaBuild
import Derived.Test.YtkhhlcjjdkldjaaChTold
import Derived.Test.YtkhhlcjjdkldjaaRfIds
import Derived.Test.YtkhhlcjjdkldjaaBaseAll
namespace Go.Proofs.Ytkhhlcjjdkldjaa
open Go.RowKit Go.Shelf
attribute [local go_sem] Oper.semAt_some

theorem wp_append_of {P : Program} {o : Oper} {a : Act} {w w' : World} {K : Act → World → Prop} {Q : Exit → Act → World → Prop} (s x : Operand) (t : TypeId) (ho : o.op = .call { callee := .builtin .append, args := #[s, x], argTypes := #[t, t] })
    {vs vx v : Value} (hs : a.eval s = vs) (hx : a.eval x = vx) (hrun : (Builtin.append_ #[t, t] o.type #[vs, vx]).run P w = .ok v w') (h : K (a.put o.dst v) w') : Oper.wp P o a w K Q := by
  unfold Oper.wp
  simp [execOp, ho, resolve, invoke, builtin, hs, hx, hrun, Result.andThen]
  exact h

/-- What the pieces hold, one behind the other. -/
def flatP (Y : List Nat) (pre : List (Nat × Nat)) : List Value := pre.flatMap fun x => u8s (Ch.pieceL Y 32 x.2)
theorem flatP_range (Y : List Nat) (n : Nat) : ∀ {pre : List (Nat × Nat)}, pre.map (·.2) = List.range n → flatP Y pre = u8s (idsOf Y n).flatten := by
  intro pre h
  have e : flatP Y pre = (pre.map (·.2)).flatMap fun j => u8s (Ch.pieceL Y 32 j) := by rw [flatP, List.flatMap_map]
  rw [e, h]
  have e2 : ∀ (l : List Nat), (l.flatMap fun j => u8s (Ch.pieceL Y 32 j)) = u8s (l.map fun j => (Y.drop (32 * j)).take 32).flatten := by
    intro l
    induction l with
    | nil => rfl
    | cons a r ih => rw [List.flatMap_cons, ih, List.map_cons, List.flatten_cons, ← u8s_append]; rfl
  exact e2 _

set_option maxHeartbeats 1000000 in
/-- Ids, where it fails. -/
theorem readerIds_fail (B : Nat) (z : Int) (w : World) (n : Nat) (st' : Option (List Nat))
    (HC : Hid (Calls Try.prog 56 #[.pointer (some ⟨B, 0, none⟩), .int .i64 z] w fun e w' => e = .returned (.int .i64 (n : Nat)) ∧ RdAt w' B st' ∧ But B w.heap.size w w')) (hf : (st' = none ∧ n = 0) ∨ ∃ zs, st' = some zs ∧ zs.length / 32 < n ∧ zs.length ≤ 60000) :
    Calls Try.prog 33 #[.pointer (some ⟨B, 0, none⟩), .int .i64 z] w fun e w' => ∃ v, e = .returned v ∧ OwnIds w.heap.size w' v [] ∧ RdAt w' B none ∧ But B w.heap.size w w' := by
  rcases hf with ⟨rfl, rfl⟩ | ⟨zs, rfl, hlt, hL60⟩
  · go_enter Try.func33, Try.ntmps33
    go_wp2_with (first
      | (go_at_call 56; refine HC.out.mono ?_; rintro e w1 ⟨rfl, hR1, hb1⟩; have HR1 : Hid (RdAt w1 B none) := hR1; clear hR1)
      | (go_at_call 57; refine (rest_any B none w1 HR1.out).mono ?_; rintro e w2 ⟨rfl, hw2⟩; obtain rfl : w1 = w2 := hw2.symm; clear hw2; unfold restN)
      | (go_at_call 59; refine (failed_any B none w1 HR1.out).mono ?_; rintro e w2 ⟨rfl, hw2⟩; obtain rfl : w1 = w2 := hw2.symm; clear hw2; rw [Option.isNone_none]))
    go_ret
    exact ⟨_, rfl, OwnIds.nil _ _, HR1.out, hb1⟩
  · obtain ⟨L, hL⟩ : ∃ L, zs.length = L := ⟨_, rfl⟩
    rw [hL] at hlt hL60
    have hdi : wrap64 ((L : Int) / 32) = ((L / 32 : Nat) : Int) := by unfold wrap64; omega
    have hli : ((L / 32 : Nat) : Int) < (n : Int) := by omega
    have HRest : Hid (restN (some zs) = L) := hL
    clear hL
    go_enter Try.func33, Try.ntmps33
    go_wp2_with (first
      | (go_at_call 56; refine HC.out.mono ?_; rintro e w1 ⟨rfl, hR1, hb1⟩; have HR1 : Hid (RdAt w1 B (some zs)) := hR1; clear hR1)
      | (go_at_call 57; refine (rest_any B (some zs) w1 HR1.out).mono ?_; rintro e w2 ⟨rfl, hw2⟩; obtain rfl : w1 = w2 := hw2.symm; clear hw2; rw [HRest.out])
      | (go_at_call 58; refine (fail_any B (some zs) w1 HR1.out).mono ?_; rintro e w3 ⟨⟨v3, rfl⟩, hR3, hb3⟩; have HR3 : Hid (RdAt w3 B none) := hR3; have hbut := hb1.trans (hb3.mono hb1.size); clear hR3)
      | (go_at_call 59; refine (failed_any B none w3 HR3.out).mono ?_; rintro e w2 ⟨rfl, hw2⟩; obtain rfl : w3 = w2 := hw2.symm; clear hw2; rw [Option.isNone_none]))
    go_ret
    exact ⟨_, rfl, OwnIds.nil _ _, HR3.out, hbut⟩

set_option maxRecDepth 100000 in
set_option maxHeartbeats 4000000 in
/-- Ids, where they are there. -/
theorem readerIds_in (N : Nat) (hN : 7 ≤ N) (B : Nat) (z : Int) (w : World) (n : Nat) (zs : List Nat)
    (HC : Hid (Calls Try.prog 56 #[.pointer (some ⟨B, 0, none⟩), .int .i64 z] w fun e w' => e = .returned (.int .i64 (n : Nat)) ∧ RdAt w' B (some zs) ∧ But B w.heap.size w w')) (hf : ¬ zs.length / 32 < n) (hL60 : zs.length ≤ 60000) (hBw : B < w.heap.size) :
    CallsIn Fence.wide N Try.prog 33 #[.pointer (some ⟨B, 0, none⟩), .int .i64 z] w fun e w' => ∃ v, e = .returned v ∧ OwnIds w.heap.size w' v (idsOf zs n) ∧ RdAt w' B (some (zs.drop (32 * n))) ∧ But B w.heap.size w w' := by
  obtain ⟨i0, hi0, hz0, hz1, hz2⟩ := info_parts info24
  have h1 : 1 ≤ N := by omega
  have hfn : ∀ f, Fence.wide.fn f := fun _ => trivial
  obtain ⟨L, hL⟩ : ∃ L, zs.length = L := ⟨_, rfl⟩
  rw [hL] at hf hL60
  have hdi : wrap64 ((L : Int) / 32) = ((L / 32 : Nat) : Int) := by unfold wrap64; omega
  have hli : ¬ ((L / 32 : Nat) : Int) < (n : Int) := by omega
  have HRest : Hid (restN (some zs) = L) := hL
  have HLz : Hid (zs.length = L) := hL
  have h32 : 32 * n ≤ L := by omega
  clear hL
  have H15 : Hid (∀ W, RdAt W B (some zs) → Calls Try.prog 61 #[.pointer (some ⟨B, 0, none⟩), .int .i64 ((n : Int) * 32)] W fun e w' => ∃ q c, e = .returned (.slice q (32 * n) c) ∧ IsBytes w'.heap.size w' q (32 * n) c (zs.take (32 * n)) ∧ RdAt w' B (some (zs.drop (32 * n))) ∧ But B W.heap.size W w') := fun W hW => by
    have hz256 : ∀ x ∈ zs, x < 256 := by obtain ⟨_, _, _, _, hI0, _⟩ := hW; exact hI0.2.2.2.1
    have hin := readRaw_in (s := 32 * n) (zs := zs) (by rw [HLz.out]; exact h32)
    have h := readerRaw_any B (some zs) ((32 * n : Nat) : Int) W hW
    rw [hin] at h
    rw [show (n : Int) * 32 = ((32 * n : Nat) : Int) by omega]
    refine h.mono ?_
    rintro e w' ⟨v, rfl, h1, h2, h3⟩
    obtain ⟨q, c, rfl⟩ := own_len h1 (n := 32 * n) (by simp [HLz.out]; omega)
    exact ⟨q, c, rfl, h1.bytes (fun x hx => hz256 x (List.mem_of_mem_take hx)), h2, h3⟩
  have hYl : (zs.take (32 * n)).length = 32 * n := by simp [HLz.out]; omega
  have HIds : Hid (idsOf (zs.take (32 * n)) n = idsOf zs n) := by
    show _ = _
    unfold idsOf
    refine List.map_congr_left (fun j hj => ?_)
    have hj : j < n := by simpa using hj
    rw [List.drop_take, List.take_take, show min 32 (32 * n - 32 * j) = 32 by omega]
  obtain ⟨Y, hY⟩ : ∃ Y, zs.take (32 * n) = Y := ⟨_, rfl⟩
  rw [hY] at H15 hYl HIds
  have hYd : Hid (zs.take (32 * n) = Y) := hY
  clear hY
  refine callsIn_of_wp_marks Try.func33 rfl trivial ?_ rfl
  simp only [Try.ntmps33, List.size_toArray, List.length_cons, List.length_nil, Nat.reduceAdd, Nat.reduceSub, Array.replicate_succ, Array.replicate_zero, List.push_toArray, List.append_toArray, List.nil_append, List.cons_append]
  gi_wp2_with (first
    | (gi_at_call 56; refine (callsIn_wide.2 HC.out).mono ?_; rintro e w1 ⟨rfl, hR1, hb1⟩; have HR1 : Hid (RdAt w1 B (some zs)) := hR1; have hs1 := hb1.size; clear hR1)
    | (gi_at_call 57; refine (callsIn_wide.2 (rest_any B (some zs) w1 HR1.out)).mono ?_; rintro e w2 ⟨rfl, hw2⟩; obtain rfl : w1 = w2 := hw2.symm; clear hw2; rw [HRest.out])
    | (gi_at_call 59; refine (callsIn_wide.2 (failed_any B (some zs) w1 HR1.out)).mono ?_; rintro e w2 ⟨rfl, hw2⟩; obtain rfl : w1 = w2 := hw2.symm; clear hw2; rw [Option.isNone_some])
    | (gi_at_make; refine wpListIn_make_own _ rfl _ _ 22 rfl w1.heap.size 24 i0 _ 32 Try.underlying22 hi0 hz0 hz1 _ _ _ n rfl rfl (by omega) (by rw [hz2]; omega) (by simp only [maxLen]; omega) (Nat.le_refl _) ?_; intro w2 hown2 hgrow2; have hb2 : Below w1.heap.size w1 w2 := ((Below.refl _ w1).grown hgrow2 (Nat.le_refl _) (fun k e => by cases e)); have HO2 : Hid (w2.ownsRow w1.heap.size 24 32 (.slice (some ⟨w1.heap.size, 0, none⟩) 0 n) 0 []) := hown2; have hR3 : RdAt (w2.alloc (.cells #[.slice (some ⟨w1.heap.size, 0, none⟩) 0 n] 22)) B (some zs) := HR1.out.later (hb2.alloc hb2.size _); have HR3 : Hid (RdAt (w2.alloc (.cells #[.slice (some ⟨w1.heap.size, 0, none⟩) 0 n] 22)) B (some zs)) := hR3; clear hown2 hgrow2 hR3)
    | (gi_at_call 61; refine (callsIn_wide.2 (H15.out _ HR3.out)).mono ?_; rintro e w4 ⟨q4, c4, rfl, hI4, hR4, hb4⟩; have HI4 : Hid (IsBytes w4.heap.size w4 q4 (32 * n) c4 Y) := hI4; have HR4 : Hid (RdAt w4 B (some (zs.drop (32 * n)))) := hR4; clear hI4 hR4)
    | (gi_at_call 60; refine (callsIn_wide.2 (Ch.chunks_any q4 (32 * n) c4 Y (by omega) 32 w4 HI4.out)).mono ?_; rintro e w5 ⟨Bo, rfl, bO, bZ, hT, hb5⟩))
  obtain ⟨Bx, hBx⟩ : ∃ Bx, w2.heap.size = Bx := ⟨_, rfl⟩
  have hs2 := hb2.size
  have hs4 : Bx + 1 ≤ w4.heap.size := by have := hb4.size; simp at this; omega
  have hs5 := hb5.size
  have hbx3 : Boxed (w2.alloc (.cells #[.slice (some ⟨w1.heap.size, 0, none⟩) 0 n] 22)) Bx 22 (.slice (some ⟨w1.heap.size, 0, none⟩) 0 n) := by rw [← hBx]; exact Boxed.new w2 22 _
  have hbx4 : Boxed w4 Bx 22 (.slice (some ⟨w1.heap.size, 0, none⟩) 0 n) := (hb4.block Bx (by simp; omega) (by omega)).trans hbx3
  have hbx5 := boxed_below hbx4 hb5
  have hO3 : (w2.alloc (.cells #[.slice (some ⟨w1.heap.size, 0, none⟩) 0 n] 22)).ownsRow w1.heap.size 24 32 (.slice (some ⟨w1.heap.size, 0, none⟩) 0 n) 0 [] := World.ownsRow.alloc HO2.out _
  have hO5 : w5.ownsRow w1.heap.size 24 32 (.slice (some ⟨w1.heap.size, 0, none⟩) 0 n) 0 [] := by
    have hO4 : OwnIds w1.heap.size w4 (.slice (some ⟨w1.heap.size, 0, none⟩) 0 n) [] := OwnIds.but hO3 hb4 (by omega)
    exact ownsRow_later hb5 hO4
  have hR5 : Hid (RdAt w5 B (some (zs.drop (32 * n)))) := HR4.out.later hb5
  have hbut5 : Hid (But B w.heap.size w w5) := by
    have ha : But B w.heap.size w1 (w2.alloc (.cells #[.slice (some ⟨w1.heap.size, 0, none⟩) 0 n] 22)) := But.of_below (hb2.alloc hb2.size _) hs1
    exact ((hb1.trans ha).trans (hb4.mono (by simp; omega))).trans (But.of_below hb5 (by omega))
  have hY256 := HI4.out.2.2.2.1
  have hs04 : w.heap.size ≤ w1.heap.size := hs1
  rw [hBx]
  clear HR1 HR3 HR4 HI4 H15 hb1 hb2 hb4 HO2 hO3 hbx3 hbx4 HC HRest
  refine wpIn_rangeFunc_ok rfl h1 (gf := 73) (lb := #[.pointer (some ⟨Bo, 0, none⟩), .pointer (some ⟨w4.heap.size, 0, none⟩)]) rfl trivial (enters_of Try.func73 (by kernel_rfl) rfl)
    (encs := fun x => #[Ch.chVal Y 32 x]) (Ok := Ch.ChOk Y 32) (Kp := Ch.KpT (w5.heap.size + 2)) (S := fun xs => ∃ k, 32 * n ≤ 32 * k ∧ xs.map (·.2) = List.range k) (Sp := fun pre => ∃ k, pre.map (·.2) = List.range k) (N := 32 * n)
    (fun W' hs hb => ?it) Ch.KpT.trans (fun A o o' ho hc => Ch.KpT.record (by omega) o' ho hc) (fun _ => rfl)
    (fun pre A => (∃ v, Boxed A Bx 22 v ∧ A.ownsRow w1.heap.size 24 32 v pre.length (flatP Y pre) ∧ True) ∧ (∀ x ∈ pre, Ch.ChOk Y 32 x A) ∧ Below w1.heap.size w5 A)
    (fun _ _ _ => False)
    (OwnFrom.and (Own.from (holdsRow_own w1.heap.size Bx 22 24 32 (fun pre : List (Nat × Nat) => pre.length) (fun pre => flatP Y pre) (fun _ _ => True)) _)
      (OwnFrom.and (Ch.chOk_all_own Y 32 _) (ownFrom_below (by omega) (by omega))))
    (fun _ _ _ _ _ h _ _ => h.elim)
    (Ch.chOk_own Y 32 _)
    ⟨⟨_, hbx5, hO5, trivial⟩, by simp, Below.refl _ _⟩
    (fun x => { tmps := #[.pointer (some ⟨B, 0, none⟩), .int .i64 z, undef, undef, .slice none 0 0, .int .i64 (n : Nat), .pointer (some ⟨Bx, 0, none⟩), Ch.chVal Y 32 x, .pointer (some ⟨B, 0, none⟩), .int .i64 z, .int .i64 (n : Nat), .int .i64 (n : Nat), .pointer (some ⟨B, 0, none⟩), .int .i64 (L : Nat),
      .int .i64 ((L : Int) / 32), .bool (decide ((L : Int) / 32 < (n : Int))), undef, undef, .pointer (some ⟨B, 0, none⟩), .bool false, .int .i64 (n : Nat), .slice (some ⟨w1.heap.size, 0, none⟩) 0 n, .pointer (some ⟨B, 0, none⟩), .int .i64 (n : Nat), .int .i64 ((n : Int) * 32), .slice q4 (32 * n) c4,
      .func (.func 73) #[] #[.pointer (some ⟨Bo, 0, none⟩), .pointer (some ⟨w4.heap.size, 0, none⟩)], Ch.chVal Y 32 x, undef, undef, undef, undef, undef, undef, undef], defers := [] }) ?assign ?body ?done ?stop
  case it =>
    exact Ch.chunks1_iter (N - 1) (by omega) _ Bo w4.heap.size (w4.heap.size + 1) (32 * n) Y hY256 hYl (by omega) 32 (by omega) (by omega) W' (Ch.KpT (w5.heap.size + 2)) (fun _ _ h => h.1) (fun _ _ h => by rw [hs]; exact h.2) (boxed_below bO hb).cell (boxed_below bZ hb).cell (hT.below hb)
  case assign =>
    intro l x W K hK
    gi_wp2
    exact hK
  case body =>
    rintro li pre x A ⟨⟨v, hv, hrow, _⟩, hok, hB⟩ hox hNn
    have hj : 32 * x.2 < 32 * n := by have := hox.1; omega
    have hPl : (Ch.pieceL Y 32 x.2).length = 32 := by rw [Ch.pieceL_length, hYl]; omega
    have e1 : Ch.chVal Y 32 x = .slice (some ⟨x.1, 0, none⟩) 32 32 := by unfold Ch.chVal; rw [hPl]
    have hpl : pre.length < 32 * n := hNn
    obtain ⟨P, hP⟩ : ∃ P, Ch.pieceL Y 32 x.2 = P := ⟨_, rfl⟩
    have hTx : Row A x.1 5 (u8s P) := by rw [← hP]; exact hox.2
    rw [hP] at hPl
    obtain ⟨q, c, rfl⟩ := slice_of_row hrow
    obtain ⟨W4, hW4⟩ : ∃ W4, A.drew.alloc (.cells (u8s P).toArray 24) = W4 := ⟨_, rfl⟩
    have hrd : A.drew.ownsRow w1.heap.size 24 32 (.slice q pre.length c) pre.length (flatP Y pre) := hrow
    have hr4 : W4.ownsRow w1.heap.size 24 32 (.slice q pre.length c) pre.length (flatP Y pre) := by rw [← hW4]; exact World.ownsRow.alloc hrd _
    have hrg4 : W4.rangeAt A.heap.size 0 (u8s P) := by rw [← hW4]; exact (Row.new' A.drew 24 (u8s P)).range
    have hs4 : W4.heap.size = A.heap.size + 1 := by rw [← hW4]; exact World.size_alloc _ _
    have hBsz := hB.size
    obtain ⟨u5, W5, hrun, ho5, hg5, _, _⟩ := run_append_own_at (P := Try.prog) W4 w1.heap.size 22 22 24 i0 _ 32 32 Try.underlying22 hi0 hz0 hz1 hz2 (by simp [Value.cells]) (by omega) (.slice q pre.length c) pre.length (flatP Y pre) hr4 ⟨A.heap.size, 0, none⟩ 1 1 (u8s P) (by simp [hPl]) (fun j u hu => by rw [Addr.add_mid]; exact hrg4 j u hu) (u8s_one _) (by simp only [maxLen]; omega) (by omega) (by omega)
    obtain ⟨q5, l5, c5, rfl⟩ : ∃ q l c, u5 = Value.slice q l c := by obtain ⟨q, c, e⟩ := slice_of_row ho5; exact ⟨q, _, c, e⟩
    have hg5' : (A.drew.alloc (.cells (u8s P).toArray 24)).grownBy W5 (Value.slice q pre.length c).ownBlock := by rw [hW4]; exact hg5
    have hvd : Boxed A.drew Bx 22 (.slice q pre.length c) := hv
    obtain ⟨hv1, hv2, hr2, hk2, hb2⟩ := hvd.appended (by decide) hrd (show w1.heap.size ≤ A.drew.heap.size by show _ ≤ A.heap.size; omega) (by omega) ho5 hg5'
    have hkp : Ch.KpT (w5.heap.size + 2) A (W5.setCell ⟨Bx, 0, none⟩ (.slice q5 l5 c5)) := by
      have k1 : Ch.KpT (w5.heap.size + 2) A A.drew := ⟨fun k c t fr hk _ => hk, Nat.le_refl _, fun k o _ hk _ => hk⟩
      exact ((k1.trans (Ch.kpT_alloc A.drew _)).trans (Ch.kpT_grown hg5' (fun k e => by obtain ⟨c', fr', h'⟩ := row_tag (World.ownsRow.alloc hrd (.cells (u8s P).toArray 24)) k e; exact ⟨_, _, _, h', by decide, by decide, by decide⟩))).trans (Ch.kpT_set hv1 (by decide) (by decide) (by decide) _)
    have HRg : Hid (A.rangeAt x.1 0 (u8s P)) := hTx.range
    have HRun : Hid ((Builtin.append_ #[22, 22] 22 #[.slice q pre.length c, .slice (some ⟨A.heap.size, 0, none⟩) 1 1]).run Try.prog W4 = .ok (.slice q5 l5 c5) W5) := hrun
    have hrx : ∀ (W : World), Ch.KpT (w5.heap.size + 2) A W → W.rangeAt x.1 0 (u8s P) := fun W hk => (show Row W x.1 5 (u8s P) from hk.1 _ _ _ _ hTx (.inr (.inr rfl))).range
    have HRg4 : Hid (W4.rangeAt x.1 0 (u8s P)) := by
      rw [← hW4]
      exact (hTx.later (show Below A.heap.size A (A.drew.alloc (.cells (u8s P).toArray 24)) from (Below.refl _ A).drew.alloc (Nat.le_refl _) _)).range
    have HRg6 : Hid ((W5.setCell ⟨Bx, 0, none⟩ (.slice q5 l5 c5)).rangeAt x.1 0 (u8s P)) := hrx _ hkp
    have HRg5 : Hid (W5.rangeAt x.1 0 (u8s P)) := by
      have k1 : Ch.KpT (w5.heap.size + 2) A A.drew := ⟨fun k c t fr hk _ => hk, Nat.le_refl _, fun k o _ hk _ => hk⟩
      exact hrx _ ((k1.trans (Ch.kpT_alloc A.drew _)).trans (Ch.kpT_grown hg5' (fun k e => by obtain ⟨c', fr', h'⟩ := row_tag (World.ownsRow.alloc hrd (.cells (u8s P).toArray 24)) k e; exact ⟨_, _, _, h', by decide, by decide, by decide⟩)))
    have hcv := hv.cell
    have hcv4 : W4.cell? ⟨Bx, 0, none⟩ = some (.slice q pre.length c) := by rw [← hW4]; exact (hvd.alloc _).cell
    have hcv5 := hv1.cell
    have hfv5 := hv1.frozen
    have hA := run_arrayAt24 x.1 0 32 32 (Nat.le_refl _)
    have HV : Hid ((u8s P).length = 32) := by show _ = _; rw [u8s_length]; exact hPl
    have HFin : Hid (KeepsFrom w5.heap.size A (W5.setCell ⟨Bx, 0, none⟩ (.slice q5 l5 c5)) ∧ Ch.KpT (w5.heap.size + 2) A (W5.setCell ⟨Bx, 0, none⟩ (.slice q5 l5 c5)) ∧ (∃ v, Boxed (W5.setCell ⟨Bx, 0, none⟩ (.slice q5 l5 c5)) Bx 22 v ∧ (W5.setCell ⟨Bx, 0, none⟩ (.slice q5 l5 c5)).ownsRow w1.heap.size 24 32 v (pre ++ [x]).length (flatP Y (pre ++ [x])) ∧ True) ∧ (∀ y ∈ pre ++ [x], Ch.ChOk Y 32 y (W5.setCell ⟨Bx, 0, none⟩ (.slice q5 l5 c5))) ∧ Below w1.heap.size w5 (W5.setCell ⟨Bx, 0, none⟩ (.slice q5 l5 c5))) := by
      refine ⟨⟨hk2.size, fun k o _ h1 h2 => hk2.same k o h1 h2⟩, hkp, ⟨_, hv2, ?_, trivial⟩, ?_, hB.trans ((Below.refl _ A).drew.trans hb2)⟩
      · have e : flatP Y (pre ++ [x]) = flatP Y pre ++ u8s P := by rw [flatP, List.flatMap_append, ← hP]; simp [flatP]
        rw [e, List.length_append]
        exact hr2
      · intro y hy
        rcases List.mem_append.1 hy with hy | hy
        · exact Ch.chOk_kept hkp (hok y hy)
        · simp at hy; subst hy; exact Ch.chOk_kept hkp hox
    rw [e1]
    clear hTx hrow hrd hr4 hrg4 hg5 hg5' hvd hv hv1 hv2 hr2 hk2 hb2 hkp hrx hok hox hB ho5 hrun hP
    generalize u8s P = V at *
    gi_wp2
    refine wpIn_region_on_round (S := fun W => W.rangeAt x.1 0 V) (by kernel_rfl) (by kernel_rfl) HRg.out (fun hHeld => ?_)
    refine wpAnyH_takesAt 1 2 5 (of_decide_eq_true (by kernel_rfl)) rfl (fun _ _ _ d _ h => by cases d <;> exact h) (by kernel_rfl) (by kernel_rfl) hHeld ?_
    simp only [List.drop_succ_cons, List.drop_zero, List.take_succ_cons, List.take_zero]
    iterate 2 (refine wpHeld_step (v := ?_) (by rfl) (fun wz hSw => ?_) ?_; rotate_left; (focus ((try dsimp only at hSw); go_simp; try with_reducible rfl)); (simp only [Act.put, List.setIfInBounds_toArray, List.set_cons_zero, List.set_cons_succ]))
    refine wpHeld_nil ?_
    refine wpAnyH_takesAt 3 1 4 (of_decide_eq_true (by kernel_rfl)) rfl (fun _ _ _ d _ h => by cases d <;> exact h) (by kernel_rfl) (by kernel_rfl) hHeld ?_
    simp only [List.drop_succ_cons, List.drop_zero, List.take_succ_cons, List.take_zero]
    refine wpHeld_load (by rfl) 24 (.tmp 30) rfl x.1 (0) rfl V (fun W hW => hW) Try.underlying24 (by rw [HV.out]; exact size24) ?_
    (simp only [Act.put]; (try simp only [List.setIfInBounds_toArray]); (try simp only [List.set_cons_succ]); (try simp only [List.set_cons_zero]))
    refine wpHeld_nil ?_
    refine wpAnyH_either (i := 0) (j := 4) (by kernel_rfl) rfl rfl (fun K hK => ?_) (fun K hK => ?_)
    · rw [if_pos (by rfl)]
      go_simp
      refine hK.out _ _ HRg.out ?_
      clear hK K
      refine wpAnyH_only (i := 4) (by kernel_rfl) rfl (fun K hK => ?_)
      rw [if_pos (by rfl)]
      refine wp_buildOne 22 24 (.tmp 31) rfl V rfl i0 _ Try.underlying22 hi0 hz0 (by rw [hz1, HV.out]) (by rw [HV.out]; omega) (by rw [HV.out]; omega) ?_
      rw [hW4]
      refine hK.out _ _ HRg4.out ?_
      clear hK K
      refine wpAnyH_only (i := 5) (by kernel_rfl) rfl (fun K hK => ?_)
      rw [if_pos (by rfl)]
      refine wp_append_of (.tmp 28) (.tmp 32) 22 rfl rfl rfl HRun.out ?_
      refine hK.out _ _ HRg5.out ?_
      clear hK K
      refine wpAnyH_only (i := 6) (by kernel_rfl) rfl (fun K hK => ?_)
      rw [if_pos (by rfl)]
      go_simp
      refine hK.out _ _ HRg6.out ?_
      clear hK K
      refine wpAnyH_done (by kernel_rfl) ?_ _
      refine OnOnly.on ?_
      gi_wp2
      exact HFin.out
    · rw [if_pos (by rfl)]
      refine wp_buildOne 22 24 (.tmp 31) rfl V rfl i0 _ Try.underlying22 hi0 hz0 (by rw [hz1, HV.out]) (by rw [HV.out]; omega) (by rw [HV.out]; omega) ?_
      rw [hW4]
      refine hK.out _ _ HRg4.out ?_
      clear hK K
      refine wpAnyH_only (i := 0) (by kernel_rfl) rfl (fun K hK => ?_)
      rw [if_pos (by rfl)]
      go_simp
      refine hK.out _ _ HRg4.out ?_
      clear hK K
      refine wpAnyH_only (i := 5) (by kernel_rfl) rfl (fun K hK => ?_)
      rw [if_pos (by rfl)]
      refine wp_append_of (.tmp 28) (.tmp 32) 22 rfl rfl rfl HRun.out ?_
      refine hK.out _ _ HRg5.out ?_
      clear hK K
      refine wpAnyH_only (i := 6) (by kernel_rfl) rfl (fun K hK => ?_)
      rw [if_pos (by rfl)]
      go_simp
      refine hK.out _ _ HRg6.out ?_
      clear hK K
      refine wpAnyH_done (by kernel_rfl) ?_ _
      refine OnOnly.on ?_
      gi_wp2
      exact HFin.out
  case done =>
    rintro D xs A hD hS ⟨⟨v, hv, hrow, _⟩, hok, hB⟩ hKD
    obtain ⟨q, c, rfl⟩ := slice_of_row hrow
    have hcU := hv.cell
    obtain ⟨k, hk, hx⟩ := hS
    have hxl : xs.length = k := by have := congrArg List.length hx; simpa using this
    have hkn : k = n := by
      rcases Nat.lt_or_ge n k with h | h
      · exfalso
        have hmem : n ∈ xs.map (·.2) := by rw [hx]; simpa using h
        obtain ⟨x, hxm, hxe⟩ := List.mem_map.1 hmem
        have := (hok x hxm).1
        rw [hxe] at this
        omega
      · omega
    subst hkn
    have hids := flatP_range Y k hx
    rw [HIds.out] at hids
    rw [hids] at hrow
    have HRow : Hid (OwnIds w1.heap.size A (.slice q xs.length c) (idsOf zs k)) := by
      unfold OwnIds
      rw [idsOf_length]
      rw [hxl] at hrow ⊢
      exact hrow
    have hrow2 := hrow
    clear hrow hids hx hok hv
    gi_wp2
    refine ⟨by simp, .inl ⟨_, _, rfl, run_takeDeferred hKD, ?_⟩⟩
    have hbK : Below w1.heap.size w5 (A.putObj D (.deferred none)) := hB.trans (belowK_b (w := w1) (Nat.le_refl _) _ D _ _ (by omega) hKD rfl rfl)
    refine ⟨.slice q k c, ?_, _, rfl, ?_, hR5.out.below hbK (by omega), hbut5.out.trans (But.of_below hbK (by omega))⟩
    · simp [results, Try.f33, go_sem]
    · have h := ownsRow_putObj HRow.out (.deferred none) hKD rfl
      rw [hxl] at h
      exact ownsRow_mono hs1 h
  case stop => exact fun _ _ _ _ _ _ h => h.elim

theorem readN_len {most : Nat} {zs0 zs : List Nat} (h : (readN most (some zs0)).2 = some zs) : zs.length ≤ zs0.length := by
  cases hn : numL zs0 0 0 with
  | none => rw [readN_bad hn] at h; cases h
  | some y =>
    obtain ⟨x, s⟩ := y
    by_cases hm : most < x
    · rw [readN_over hn hm] at h; cases h
    · rw [readN_some hn hm] at h; cases h; simp

/-- Ids -/
theorem readerIds_any (B : Nat) (st : Option (List Nat)) (z : Int) (hz : z ≤ 9223372036854775807) (w : World) (h : RdAt w B st) :
    Calls Try.prog 33 #[.pointer (some ⟨B, 0, none⟩), .int .i64 z] w fun e w' => ∃ v, e = .returned v ∧ OwnIds w.heap.size w' v (readIds z st).1 ∧ RdAt w' B (readIds z st).2 ∧ But B w.heap.size w w' := by
  have HC := count_any B st z hz w h
  have hBl := h.lt
  unfold readIds
  have hlen : ∀ zs, (readCount z st).2 = some zs → zs.length ≤ 60000 := by
    intro zs hzs
    by_cases h0 : z < 0
    · rw [readCount, if_pos h0] at hzs; cases hzs
    · rw [readCount, if_neg h0] at hzs
      cases st with
      | none => cases hzs
      | some zs0 =>
        have h1 := readN_len hzs
        obtain ⟨_, _, _, _, hI0, hl0⟩ := h
        have := hI0.1
        omega
  have hzero : (readCount z st).2 = none → (readCount z st).1 = 0 := by
    intro hn
    by_cases h0 : z < 0
    · rw [readCount, if_pos h0]
    · rw [readCount, if_neg h0] at hn ⊢
      exact readN_zero hn
  generalize (readCount z st).1 = n at *
  cases hst : (readCount z st).2 with
  | none =>
    rw [hst] at HC
    obtain rfl := hzero hst
    exact readerIds_fail B z w 0 none HC (.inl ⟨rfl, rfl⟩)
  | some zs =>
    rw [hst] at HC
    by_cases hlt : zs.length / 32 < n
    · rw [show takeIds n (some zs) = ([], none) from if_pos hlt]
      exact readerIds_fail B z w n (some zs) HC (.inr ⟨zs, rfl, hlt, hlen zs hst⟩)
    · rw [show takeIds n (some zs) = (idsOf zs n, some (zs.drop (32 * n))) from if_neg hlt]
      exact callsIn_wide.1 (readerIds_in 7 (Nat.le_refl _) B z w n zs HC hlt (hlen zs hst) hBl)
end Go.Proofs.Ytkhhlcjjdkldjaa
