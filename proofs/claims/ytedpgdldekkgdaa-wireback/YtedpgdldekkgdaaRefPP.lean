/-
  The reference's PutReply.
-/
import Derived.Test.YtedpgdldekkgdaaPutP
import Derived.Test.YtedpgdldekkgdaaRefPQ
namespace Go.Proofs.Ytedpgdldekkgdaa
open Go.RowKit Go.Shelf

/-- What PutReply answers. -/
def RefPP (w : World) (r : Rep) (b : List Nat) (xs : List ByteArray) (e : Ending) (w' : World) : Prop :=
  ∃ v, e = .returned (.tuple #[v, .int .i64 (if mayP r b xs = true then 0 else 180)]) ∧ Own w.heap.size w' v (if mayP r b xs = true then 2 :: encP r b xs else []) ∧ Below w.heap.size w w'

set_option maxRecDepth 100000 in
set_option maxHeartbeats 2000000 in
theorem refPutP_none (p : Option Addr) (len cap : Nat) (q : Option Addr) (l c : Nat) (r : Rep) (hok : r.ok) (w : World) (hn : ¬ (0 ≤ r.err ∧ r.err ≤ 1000 ∧ len ≤ 110000 ∧ l ≤ 1000)) :
    Calls Try.prog 17 #[.agg (repC (.slice p len cap) (.slice q l c) r).toArray] w fun e w' => e = .returned (.tuple #[.slice none 0 0, .int .i64 180]) ∧ Below w.heap.size w w' := by
  obtain ⟨w0, hw0⟩ : ∃ w0, w.alloc (.cells (repC (.slice p len cap) (.slice q l c) r).toArray 44) = w0 := ⟨_, rfl⟩
  have hb0 : Below w.heap.size w w0 := by rw [← hw0]; exact (Below.refl _ w).alloc (Nat.le_refl _) _
  have hA : RepAt w0 w.heap.size (.slice p len cap) (.slice q l c) r := by rw [← hw0]; exact RepAt.new w _ _ r hok
  have HW0 : Hid (w.alloc (.cells (repC (.slice p len cap) (.slice q l c) r).toArray 44) = w0) := hw0
  have hc2 := hA.err
  have hc5 := hA.body
  have hc6 := hA.names
  have HN : Hid (¬ (0 ≤ r.err ∧ r.err ≤ 1000 ∧ len ≤ 110000 ∧ l ≤ 1000)) := hn
  clear hA hw0 hok hn
  by_cases h1 : r.err < 0
  · go_enter Try.func17, Try.ntmps17
    go_wp2_with (rw [HW0.out])
    refine bodyPost_ret (results_tmp2 rfl _ _ _) rfl ?_
    exact ⟨rfl, hb0⟩
  · by_cases h2 : 1000 < r.err
    · go_enter Try.func17, Try.ntmps17
      go_wp2_with (rw [HW0.out])
      refine bodyPost_ret (results_tmp2 rfl _ _ _) rfl ?_
      exact ⟨rfl, hb0⟩
    · by_cases h3 : 110000 < len
      · have h3' : (110000 : Int) < (len : Int) := by omega
        go_enter Try.func17, Try.ntmps17
        go_wp2_with (rw [HW0.out])
        refine bodyPost_ret (results_tmp2 rfl _ _ _) rfl ?_
        exact ⟨rfl, hb0⟩
      · have h3' : ¬ (110000 : Int) < (len : Int) := by omega
        have h4' : (1000 : Int) < (l : Int) := by
          by_cases h4 : (1000 : Int) < (l : Int)
          · exact h4
          · exact absurd ⟨by omega, by omega, by omega, by omega⟩ HN.out
        go_enter Try.func17, Try.ntmps17
        go_wp2_with (rw [HW0.out])
        refine bodyPost_ret (results_tmp2 rfl _ _ _) rfl ?_
        exact ⟨rfl, hb0⟩

set_option maxRecDepth 100000 in
set_option maxHeartbeats 8000000 in
theorem refPutP_main (p : Option Addr) (len cap : Nat) (b : List Nat) (q : Option Addr) (l c : Nat) (xs : List ByteArray) (r : Rep) (hok : r.ok) (w : World) (hI : IsBytes w.heap.size w p len cap b) (hM : IsStrs w.heap.size w q l c xs) (m1 : 0 ≤ r.err) (m2 : r.err ≤ 1000) (m3 : len ≤ 110000) (m4 : l ≤ 1000) :
    Calls Try.prog 17 #[.agg (repC (.slice p len cap) (.slice q l c) r).toArray] w (RefPP w r b xs) := by
  obtain ⟨wa, hwa⟩ : ∃ wa, w.alloc (.cells (repC (.slice p len cap) (.slice q l c) r).toArray 44) = wa := ⟨_, rfl⟩
  have HBA : Hid (Below w.heap.size w wa) := by rw [← hwa]; exact (Below.refl _ w).alloc (Nat.le_refl _) _
  have HWA : Hid (w.alloc (.cells (repC (.slice p len cap) (.slice q l c) r).toArray 44) = wa) := hwa
  have HCA : Hid (RepAt wa w.heap.size (.slice p len cap) (.slice q l c) r) := by rw [← hwa]; exact RepAt.new w _ _ r hok
  have HSA : Hid (wa.heap.size = w.heap.size + 1) := by show _ = _; rw [← hwa]; simp
  have HCl : Hid (∀ W, Below wa.heap.size wa W → W.cell? ⟨w.heap.size, 0, none⟩ = some (.int .u32 (r.client : Nat)) ∧ W.cell? ⟨w.heap.size, 1, none⟩ = some (.int .u64 (r.seq : Nat)) ∧ W.cell? ⟨w.heap.size, 2, none⟩ = some (.int .i64 r.err) ∧ W.cell? ⟨w.heap.size, 35, none⟩ = some (.int .u64 (r.n : Nat)) ∧ W.cell? ⟨w.heap.size, 36, none⟩ = some (.slice p len cap) ∧ W.cell? ⟨w.heap.size, 37, none⟩ = some (.slice q l c)) := fun W h => ⟨(HCA.out.later h).client, (HCA.out.later h).seq, (HCA.out.later h).err, (HCA.out.later h).n, (HCA.out.later h).body, (HCA.out.later h).names⟩
  have HIa : Hid (IsBytes wa.heap.size wa p len cap b) := (hI.below HBA.out).mono HBA.out.size
  have HMa : Hid (IsStrs wa.heap.size wa q l c xs) := hM.later HBA.out
  have HL : Hid (xs.length = l) := hM.1
  have hlc := hM.2.1
  have hcc := hM.2.2.1
  have HOk : Hid r.ok := hok
  have hbl : b.length ≤ 110000 := by have := hI.1; omega
  obtain ⟨k, hk⟩ : ∃ k : Nat, r.err = (k : Int) := ⟨r.err.toNat, by omega⟩
  have hk64 : k < 18446744073709551616 := by omega
  have hcl64 : r.client < 18446744073709551616 := by have := hok.client; omega
  have hl64 : l < 18446744073709551616 := by omega
  have hsq := hok.seq
  have hnn := hok.n
  have e1 : IntKind.u64.wrap (r.client : Int) = (r.client : Int) := by rw [IntKind.wrap_u64]; omega
  have e3 : IntKind.u64.wrap r.err = (k : Int) := by rw [IntKind.wrap_u64]; omega
  have e4 : IntKind.u64.wrap (l : Int) = (l : Int) := by rw [IntKind.wrap_u64]; omega
  have e5 : (l : Int) % 18446744073709551616 = (l : Int) := by omega
  have t1 : ¬ r.err < 0 := by omega
  have t2 : ¬ 1000 < r.err := by omega
  have t3 : ¬ (110000 : Int) < (len : Int) := by omega
  have t4 : ¬ (1000 : Int) < (l : Int) := by omega
  obtain ⟨Z0, hZ0⟩ : ∃ Z0, [2] ++ encN r.client ++ encN r.seq ++ encN k ++ r.id ++ encN r.n ++ encText b ++ encN l = Z0 := ⟨_, rfl⟩
  have HE : Hid (Z0 ++ encS xs = 2 :: encP r b xs) := by
    show _ = _
    rw [← hZ0, encP, hk, Int.toNat_natCast, hM.1]
    simp
  have n1 := encN_ten hcl64
  have n2 := encN_ten hsq
  have n3 := encN_ten hk64
  have n4 := encN_ten hnn
  have n5 := encN_ten hl64
  have n6 := encText_length b (by omega)
  have n7 := hok.id.1
  have HLa : Hid ((encN r.client).length + (encN r.seq).length + (encN k).length + r.id.length + (encN r.n).length + (encText b).length + (encN l).length ≤ 110200) := by show _ ≤ _; omega
  have HLz : Hid (Z0.length ≤ 110300) := by show _ ≤ _; rw [← hZ0]; simp only [List.length_append, List.length_singleton]; omega
  have Z1 : Hid (∀ z ∈ [2] ++ encN r.client, z < 256) := all_app (fun z hz => by simp at hz; omega) (encN_bytes _)
  have Z2 : Hid (∀ z ∈ [2] ++ encN r.client ++ encN r.seq, z < 256) := all_app Z1.out (encN_bytes _)
  have Z3 : Hid (∀ z ∈ [2] ++ encN r.client ++ encN r.seq ++ encN k, z < 256) := all_app Z2.out (encN_bytes _)
  have Z4 : Hid (∀ z ∈ [2] ++ encN r.client ++ encN r.seq ++ encN k ++ r.id, z < 256) := all_app Z3.out hok.id.2
  have Z5 : Hid (∀ z ∈ [2] ++ encN r.client ++ encN r.seq ++ encN k ++ r.id ++ encN r.n, z < 256) := all_app Z4.out (encN_bytes _)
  have Z6 : Hid (∀ z ∈ [2] ++ encN r.client ++ encN r.seq ++ encN k ++ r.id ++ encN r.n ++ encText b, z < 256) := all_app Z5.out (encText_bytes hI.2.2.2.1)
  have ZZ : Hid (∀ j, ∀ z ∈ Z0 ++ encS (xs.take j), z < 256) := fun j => by rw [← hZ0]; exact all_app (all_app Z6.out (encN_bytes _)) (encS_bytes _)
  have HZ0 : Hid ([2] ++ encN r.client ++ encN r.seq ++ encN k ++ r.id ++ encN r.n ++ encText b ++ encN l = Z0) := hZ0
  have HMay : Hid (mayP r b xs = !xs.any longS) := by
    show _ = _
    rw [mayP, decide_eq_true m1, decide_eq_true m2, decide_eq_true hbl, decide_eq_true (show xs.length ≤ 1000 by rw [hM.1]; exact m4)]
    rfl
  obtain ⟨eR, heR⟩ : ∃ eR : Int, (if mayP r b xs = true then (0 : Int) else 180) = eR := ⟨_, rfl⟩
  obtain ⟨zR, hzR⟩ : ∃ zR : List Nat, (if mayP r b xs = true then 2 :: encP r b xs else []) = zR := ⟨_, rfl⟩
  have HER : Hid ((if mayP r b xs = true then (0 : Int) else 180) = eR) := heR
  have HZR : Hid ((if mayP r b xs = true then 2 :: encP r b xs else []) = zR) := hzR
  unfold RefPP
  rw [heR, hzR]
  have hc2 := HCA.out.err
  have hc5 := HCA.out.body
  have hc6 := HCA.out.names
  clear hwa hI hM hok hZ0 hk m1 m2 n1 n2 n3 n4 n5 n6 n7 heR hzR
  go_enter Try.func17, Try.ntmps17
  go_wp2_with (rw [HWA.out])
  clear hc2 hc5 hc6 t1 t2 t3 t4
  refine wp_region_held_drew (S := fun W => Below wa.heap.size wa W) (by kernel_rfl) (Below.refl _ wa).drew (fun hHeld => ?_)
  refine wpAnyH_takesAt 1 3 10 (of_decide_eq_true (by kernel_rfl)) rfl (fun _ _ _ d _ h => by cases d <;> exact h) (by kernel_rfl) (by kernel_rfl) hHeld ?_
  simp only [List.drop_succ_cons, List.drop_zero, List.take_succ_cons, List.take_zero]
  iterate 3 (refine wpHeld_step (v := ?_) (by rfl) (fun wz hSw => ?_) ?_; rotate_left; (focus (obtain ⟨hc0, hc1, hc2, hc4, hc5, hc6⟩ := HCl.out wz hSw; clear hSw; go_simp; try with_reducible rfl)); (simp only [Act.put, List.setIfInBounds_toArray, List.set_cons_zero, List.set_cons_succ]))
  refine wpHeld_nil ?_
  refine wpAnyH_takesAt 5 2 8 (of_decide_eq_true (by kernel_rfl)) rfl (fun _ _ _ d _ h => by cases d <;> exact h) (by kernel_rfl) (by kernel_rfl) hHeld ?_
  simp only [List.drop_succ_cons, List.drop_zero, List.take_succ_cons, List.take_zero]
  iterate 2 (refine wpHeld_step (v := ?_) (by rfl) (fun wz hSw => ?_) ?_; rotate_left; (focus (obtain ⟨hc0, hc1, hc2, hc4, hc5, hc6⟩ := HCl.out wz hSw; clear hSw; go_simp; try with_reducible rfl)); (simp only [Act.put, List.setIfInBounds_toArray, List.set_cons_zero, List.set_cons_succ]))
  refine wpHeld_nil ?_
  refine wpAnyH_takesAt 8 3 5 (of_decide_eq_true (by kernel_rfl)) rfl (fun _ _ _ d _ h => by cases d <;> exact h) (by kernel_rfl) (by kernel_rfl) hHeld ?_
  simp only [List.drop_succ_cons, List.drop_zero, List.take_succ_cons, List.take_zero]
  iterate 3 (refine wpHeld_step (v := ?_) (by rfl) (fun wz hSw => ?_) ?_; rotate_left; (focus (obtain ⟨hc0, hc1, hc2, hc4, hc5, hc6⟩ := HCl.out wz hSw; clear hSw; go_simp; try with_reducible rfl)); (simp only [Act.put, List.setIfInBounds_toArray, List.set_cons_zero, List.set_cons_succ]))
  refine wpHeld_nil ?_
  have hH0 : Below wa.heap.size wa wa.drew := hHeld
  generalize wa.drew = x0 at *
  refine wpAnyH_only (i := 0) (by kernel_rfl) rfl (fun K hK => ?_)
  rw [if_pos (by rfl)]
  go_simp
  obtain ⟨x1, hx1⟩ : ∃ x1, x0.alloc (.cells #[.int .u8 2] 5) = x1 := ⟨_, rfl⟩
  have hu1 : Below x0.heap.size x0 x1 := by rw [← hx1]; exact (Below.refl _ x0).alloc (Nat.le_refl _) _
  have hI1 : IsBytes x1.heap.size x1 (some ⟨x0.heap.size, 0, none⟩) 1 1 [2] := by rw [← hx1, World.size_alloc]; exact bytes_one x0 2 (by omega)
  have hH1 : Below wa.heap.size wa x1 := hH0.trans (hu1.mono hH0.size)
  rw [hx1]
  refine hK.out _ _ hH1 ?_
  clear hK K hx1 hu1
  refine wpAnyH_only (i := 4) (by kernel_rfl) rfl (fun K hK => ?_)
  rw [if_pos (by rfl)]
  go_simp
  refine (refN_any (some ⟨x0.heap.size, 0, none⟩) 1 1 [2] r.client x1 hcl64 hI1 (by simp)).mono ?_
  rintro e x2 ⟨v2, rfl, hO2', hb2⟩
  obtain ⟨q2, k2, c2, hu2⟩ := own_any_slice hO2'
  subst hu2
  have hO2 := hO2'.mono hH1.size
  have hH2 : Below wa.heap.size wa x2 := hH1.trans (hb2.mono hH1.size)
  refine hK.out _ _ hH2 ?_
  clear hK K hO2' hb2
  refine wpAnyH_only (i := 7) (by kernel_rfl) rfl (fun K hK => ?_)
  rw [if_pos (by rfl)]
  go_simp
  refine (refN_any q2 k2 c2 ([2] ++ encN r.client) r.seq x2 hsq (hO2.bytes Z1.out) (by have := HLa.out; (try simp only [List.length_append, List.length_singleton]); omega)).mono ?_
  rintro e x3 ⟨v3, rfl, hO3', hb3⟩
  obtain ⟨q3, k3, c3, hu3⟩ := own_any_slice hO3'
  subst hu3
  have hO3 := hO3'.mono hH2.size
  have hH3 : Below wa.heap.size wa x3 := hH2.trans (hb3.mono hH2.size)
  refine hK.out _ _ hH3 ?_
  clear hK K hO3' hb3
  refine wpAnyH_only (i := 11) (by kernel_rfl) rfl (fun K hK => ?_)
  rw [if_pos (by rfl)]
  go_simp
  refine (refN_any q3 k3 c3 ([2] ++ encN r.client ++ encN r.seq) k x3 hk64 (hO3.bytes Z2.out) (by have := HLa.out; (try simp only [List.length_append, List.length_singleton]); omega)).mono ?_
  rintro e x4 ⟨v4, rfl, hO4', hb4⟩
  obtain ⟨q4, k4, c4, hu4⟩ := own_any_slice hO4'
  subst hu4
  have hO4 := hO4'.mono hH3.size
  have hH4 : Below wa.heap.size wa x4 := hH3.trans (hb4.mono hH3.size)
  refine hK.out _ _ hH4 ?_
  clear hK K hO4' hb4
  refine wpAnyH_takesAt 12 1 0 (of_decide_eq_true (by kernel_rfl)) rfl (fun _ _ _ d _ h => by cases d <;> exact h) (by kernel_rfl) (by kernel_rfl) hH4 ?_
  simp only [List.drop_succ_cons, List.drop_zero, List.take_succ_cons, List.take_zero]
  iterate 1 (refine wpHeld_step (v := ?_) (by rfl) (fun wz hSw => ?_) ?_; rotate_left; (focus ((try dsimp only at hSw); go_simp; try with_reducible rfl)); ((simp only [Act.put]; (try simp only [List.setIfInBounds_toArray]); (try simp only [List.set_cons_succ]); (try simp only [List.set_cons_zero]))))
  refine wpHeld_nil ?_
  refine wpAnyH_done (by kernel_rfl) ?_ _
  have HH4 : Hid (Below wa.heap.size wa x4) := hH4
  have HO4 : Hid (Own wa.heap.size x4 (.slice q4 k4 c4) ([2] ++ encN r.client ++ encN r.seq ++ encN k)) := hO4
  clear hHeld hH0 hH1 hH2 hH3 hH4 hO2 hO3 hO4 hI1
  go_wp2
  refine wp_region_held_drew (S := fun W => Below wa.heap.size wa W) (by kernel_rfl) HH4.out.drew (fun hHeld => ?_)
  refine wpAnyH_takesAt 0 3 8 (of_decide_eq_true (by kernel_rfl)) rfl (fun _ _ _ d _ h => by cases d <;> exact h) (by kernel_rfl) (by kernel_rfl) hHeld ?_
  simp only [List.drop_zero, List.take_succ_cons, List.take_zero]
  iterate 3 (refine wpHeld_step (v := ?_) (by rfl) (fun wz hSw => ?_) ?_; rotate_left; (focus (obtain ⟨hc0, hc1, hc2, hc4, hc5, hc6⟩ := HCl.out wz hSw; clear hSw; go_simp; try with_reducible rfl)); (simp only [Act.put, List.setIfInBounds_toArray, List.set_cons_zero, List.set_cons_succ]))
  refine wpHeld_nil ?_
  refine wpAnyH_takesAt 4 2 6 (of_decide_eq_true (by kernel_rfl)) rfl (fun _ _ _ d _ h => by cases d <;> exact h) (by kernel_rfl) (by kernel_rfl) hHeld ?_
  simp only [List.drop_succ_cons, List.drop_zero, List.take_succ_cons, List.take_zero]
  iterate 2 (refine wpHeld_step (v := ?_) (by rfl) (fun wz hSw => ?_) ?_; rotate_left; (focus (obtain ⟨hc0, hc1, hc2, hc4, hc5, hc6⟩ := HCl.out wz hSw; clear hSw; go_simp; try with_reducible rfl)); (simp only [Act.put, List.setIfInBounds_toArray, List.set_cons_zero, List.set_cons_succ]))
  refine wpHeld_nil ?_
  refine wpAnyH_takesAt 7 2 4 (of_decide_eq_true (by kernel_rfl)) rfl (fun _ _ _ d _ h => by cases d <;> exact h) (by kernel_rfl) (by kernel_rfl) hHeld ?_
  simp only [List.drop_succ_cons, List.drop_zero, List.take_succ_cons, List.take_zero]
  iterate 2 (refine wpHeld_step (v := ?_) (by rfl) (fun wz hSw => ?_) ?_; rotate_left; (focus (obtain ⟨hc0, hc1, hc2, hc4, hc5, hc6⟩ := HCl.out wz hSw; clear hSw; go_simp; try with_reducible rfl)); (simp only [Act.put, List.setIfInBounds_toArray, List.set_cons_zero, List.set_cons_succ]))
  refine wpHeld_nil ?_
  refine wpAnyH_only (i := 3) (by kernel_rfl) rfl (fun K hK => ?_)
  rw [if_pos (by rfl)]
  refine wp_append_bytes (.tmp 39) (.tmp 41) rfl wa.heap.size (.slice q4 k4 c4) ([2] ++ encN r.client ++ encN r.seq ++ encN k) rfl (HO4.out.later (Below.refl _ _).drew) rfl (bytes_part (n := wa.heap.size) (HCA.out.later hHeld).id HOk.out.id (by have := HSA.out; omega)) (by have := HLa.out; (try simp only [List.length_append, List.length_singleton]); omega) hHeld.size (fun v5 x5 hO5 hg5 => ?_)
  have hH5 : Below wa.heap.size wa x5 := below_own hHeld hHeld.size (HO4.out.later (Below.refl _ _).drew) hg5
  obtain ⟨q5, k5, c5, hu5⟩ := own_any_slice hO5
  subst hu5
  refine hK.out _ _ hH5 ?_
  clear hK K hg5
  change wpAnyH _ _ _ _ _ _ _ (Act.put _ (some 42) _) _
  (simp only [Act.put]; (try simp only [List.setIfInBounds_toArray]); (try simp only [List.set_cons_succ]); (try simp only [List.set_cons_zero]))
  refine wpAnyH_only (i := 6) (by kernel_rfl) rfl (fun K hK => ?_)
  rw [if_pos (by rfl)]
  go_simp
  refine (refN_any q5 k5 c5 ([2] ++ encN r.client ++ encN r.seq ++ encN k ++ r.id) r.n x5 hnn (hO5.bytes Z4.out) (by have := HLa.out; (try simp only [List.length_append, List.length_singleton]); omega)).mono ?_
  rintro e x6 ⟨v6, rfl, hO6', hb6⟩
  obtain ⟨q6, k6, c6, hu6⟩ := own_any_slice hO6'
  subst hu6
  have hO6 := hO6'.mono hH5.size
  have hH6 : Below wa.heap.size wa x6 := hH5.trans (hb6.mono hH5.size)
  refine hK.out _ _ hH6 ?_
  clear hK K hO6' hb6
  refine wpAnyH_only (i := 9) (by kernel_rfl) rfl (fun K hK => ?_)
  rw [if_pos (by rfl)]
  go_simp
  refine (refText_any q6 k6 c6 ([2] ++ encN r.client ++ encN r.seq ++ encN k ++ r.id ++ encN r.n) p len cap b x6 (hO6.bytes Z5.out) ((HIa.out.below hH6).mono hH6.size) (by have := HLa.out; (try simp only [List.length_append, List.length_singleton]); omega)).mono ?_
  rintro e x7 ⟨v7, rfl, hO7', hb7⟩
  obtain ⟨q7, k7, c7, hu7⟩ := own_any_slice hO7'
  subst hu7
  have hO7 := hO7'.mono hH6.size
  have hH7 : Below wa.heap.size wa x7 := hH6.trans (hb7.mono hH6.size)
  refine hK.out _ _ hH7 ?_
  clear hK K hO7' hb7
  refine wpAnyH_takesAt 10 1 0 (of_decide_eq_true (by kernel_rfl)) rfl (fun _ _ _ d _ h => by cases d <;> exact h) (by kernel_rfl) (by kernel_rfl) hH7 ?_
  simp only [List.drop_succ_cons, List.drop_zero, List.take_succ_cons, List.take_zero]
  iterate 1 (refine wpHeld_step (v := ?_) (by rfl) (fun wz hSw => ?_) ?_; rotate_left; (focus ((try dsimp only at hSw); go_simp; try with_reducible rfl)); ((simp only [Act.put]; (try simp only [List.setIfInBounds_toArray]); (try simp only [List.set_cons_succ]); (try simp only [List.set_cons_zero]))))
  refine wpHeld_nil ?_
  refine wpAnyH_done (by kernel_rfl) ?_ _
  have HH7 : Hid (Below wa.heap.size wa x7) := hH7
  have HO7 : Hid (Own wa.heap.size x7 (.slice q7 k7 c7) ([2] ++ encN r.client ++ encN r.seq ++ encN k ++ r.id ++ encN r.n ++ encText b)) := hO7
  obtain ⟨_, _, _, _, _, hcs⟩ := HCl.out x7 hH7
  clear hHeld hH5 hH6 hH7 hO5 hO6 hO7 HO4 HH4
  go_wp2_with (go_at_call 27; refine (refN_any q7 k7 c7 ([2] ++ encN r.client ++ encN r.seq ++ encN k ++ r.id ++ encN r.n ++ encText b) l x7 hl64 (HO7.out.bytes Z6.out) (by have := HLa.out; (try simp only [List.length_append, List.length_singleton]); omega)).mono ?_; rintro e x8 ⟨v8, rfl, hO8, hb8⟩; obtain ⟨q8, k8, c8, hu8⟩ := own_any_slice hO8; subst hu8; rw [HZ0.out] at hO8; have HH8 : Hid (Below wa.heap.size wa x8) := HH7.out.trans (hb8.mono HH7.out.size); have HO8 : Hid (Own wa.heap.size x8 (.slice q8 k8 c8) Z0) := hO8.mono HH7.out.size; have hcs8 := (HCA.out.later HH8.out).names; clear hO8 hb8)
  clear hcs
  go_loopw [4, 58] (fun v i wr => ∃ (j : Nat) (qv : Option Addr) (kv cv : Nat), j ≤ l ∧ i = .int .i64 j ∧ v = .slice qv kv cv ∧ Own wa.heap.size wr v (Z0 ++ encS (xs.take j)) ∧ (xs.take j).any longS = false ∧ Below wa.heap.size wa wr) (fun _ i _ => l - (intOf i).toNat)
  case atStart => exact ⟨0, q8, k8, c8, Nat.zero_le _, rfl, rfl, by simpa [encS] using HO8.out, rfl, HH8.out⟩
  case round =>
    obtain ⟨j, qv, kv, cv, hj, rfl, rfl, hov, hno, hbel⟩ := hrel
    have HOv : Hid (Own wa.heap.size wr (.slice qv kv cv) (Z0 ++ encS (xs.take j))) := hov
    have HBe : Hid (Below wa.heap.size wa wr) := hbel
    have HNo : Hid ((xs.take j).any longS = false) := hno
    clear hov hno
    by_cases hlt : j < l
    · have hji : (j : Int) < (l : Int) := by omega
      have hjx : j < xs.length := by rw [HL.out]; exact hlt
      obtain ⟨bq, off, rfl, hbq, hcell⟩ : ∃ b off, q = some ⟨b, off, none⟩ ∧ b < wa.heap.size ∧ ∀ i (h : i < xs.length), wr.cell? ⟨b, off + i, none⟩ = some (.string xs[i]) := by
        rcases (HMa.out.below hbel).2.2.2 with h | h
        · omega
        · exact h
      have c1 := hcell j hjx
      have HTs : Hid (Z0 ++ encS (xs.take j) ++ encText (nameL xs[j]) = Z0 ++ encS (xs.take (j + 1))) := by show _ = _; rw [List.append_assoc, encS_take hjx]
      have HTn : Hid (longS xs[j] = false → (xs.take (j + 1)).any longS = false) := any_take_no hjx HNo.out
      have HTy : Hid (longS xs[j] = true → xs.any longS = true) := fun h => List.any_eq_true.2 ⟨xs[j], List.getElem_mem hjx, h⟩
      have HLj : Hid ((encS (xs.take j)).length ≤ 74000) := by
        show _ ≤ _
        have h1 := encS_length (xs.take j) (long_no HNo.out)
        have h2 : (xs.take j).length ≤ 1000 := by rw [List.length_take]; omega
        omega
      clear hcell hbel
      generalize xs[j] = x at *
      by_cases hx : 64 < x.size
      · have hxi : (64 : Int) < (x.size : Int) := by omega
        have hm : mayP r b xs = false := by rw [HMay.out, HTy.out (decide_eq_true hx)]; rfl
        have hR : eR = 180 ∧ zR = [] := by
          have hn : ¬ mayP r b xs = true := by rw [hm]; simp
          exact ⟨by rw [← HER.out, if_neg hn], by rw [← HZR.out, if_neg hn]⟩
        have HR : Hid (eR = 180 ∧ zR = []) := hR
        clear hm hR
        go_wp2
        refine bodyPost_ret (results_tmp2 rfl _ _ _) rfl ?_
        exact ⟨.slice none 0 0, by rw [HR.out.1]; rfl, by rw [HR.out.2]; exact Own.nil _ _, HBA.out.trans (HBe.out.mono HBA.out.size)⟩
      · have hxi : ¬ (64 : Int) < (x.size : Int) := by omega
        have HNn : Hid ((xs.take (j + 1)).any longS = false) := HTn.out (decide_eq_false hx)
        obtain ⟨capn, wn, hcv, hbn, hsn, hIn⟩ := bytes_of_name wr x (by omega)
        have HIn : Hid (IsBytes wn.heap.size wn (some ⟨wr.heap.size, 0, none⟩) x.size capn (nameL x)) := (hIn _ (KeepF.refl _)).mono (by omega)
        have HOn : Hid (Own wa.heap.size wn (.slice qv kv cv) (Z0 ++ encS (xs.take j))) := HOv.out.later hbn
        have HBn : Hid (Below wa.heap.size wa wn) := HBe.out.trans (hbn.mono HBe.out.size)
        clear hIn hbn HTn HTy
        go_wp2_with (go_at_call 28; refine (refText_any qv kv cv (Z0 ++ encS (xs.take j)) _ x.size capn (nameL x) wn (HOn.out.bytes (ZZ.out j)) HIn.out (by have := HLz.out; have := HLj.out; simp only [List.length_append]; omega)).mono ?_; rintro e w4 ⟨v4, rfl, hO4, hb4⟩; obtain ⟨q4', k4', c4', hu4⟩ := own_any_slice hO4; subst hu4; rw [HTs.out] at hO4; have HO4' : Hid (Own wa.heap.size w4 (.slice q4' k4' c4') (Z0 ++ encS (xs.take (j + 1)))) := hO4.mono HBn.out.size; have HB4 : Hid (Below wa.heap.size wa w4) := HBn.out.trans (hb4.mono HBn.out.size); clear hO4 hb4)
        go_roundw
        case rel => exact ⟨j + 1, q4', k4', c4', by omega, by go_num, rfl, HO4'.out, HNn.out, HB4.out⟩
        case measure => simp [intOf]; omega
    · obtain rfl : j = l := by omega
      have hR : eR = 0 ∧ zR = Z0 ++ encS (xs.take j) := by
        have h1 := HNo.out
        rw [List.take_of_length_le (by rw [HL.out]; omega)] at h1 ⊢
        have hm : mayP r b xs = true := by rw [HMay.out, h1]; rfl
        exact ⟨by rw [← HER.out, if_pos hm], by rw [← HZR.out, if_pos hm, HE.out]⟩
      have HR : Hid (eR = 0 ∧ zR = Z0 ++ encS (xs.take j)) := hR
      clear hR hbel
      go_wp2
      refine bodyPost_ret (results_tmp2 rfl _ _ _) rfl ?_
      exact ⟨.slice qv kv cv, by rw [HR.out.1]; rfl, by rw [HR.out.2]; exact HOv.out.mono (by have := HSA.out; omega), HBA.out.trans (HBe.out.mono HBA.out.size)⟩

theorem refPutP_any (p : Option Addr) (len cap : Nat) (b : List Nat) (q : Option Addr) (l c : Nat) (xs : List ByteArray) (r : Rep) (hok : r.ok) (w : World) (hI : IsBytes w.heap.size w p len cap b) (hM : IsStrs w.heap.size w q l c xs) :
    Calls Try.prog 17 #[.agg (repC (.slice p len cap) (.slice q l c) r).toArray] w (RefPP w r b xs) := by
  by_cases h : 0 ≤ r.err ∧ r.err ≤ 1000 ∧ len ≤ 110000 ∧ l ≤ 1000
  · exact refPutP_main p len cap b q l c xs r hok w hI hM h.1 h.2.1 h.2.2.1 h.2.2.2
  · refine (refPutP_none p len cap q l c r hok w h).mono ?_
    rintro e w' ⟨rfl, h2⟩
    have hn : ¬ mayP r b xs = true := fun hm => by
      obtain ⟨m1, m2, m3, m4, _⟩ := mayP_facts hm
      exact h ⟨m1, m2, by have := hI.1; omega, by have := hM.1; omega⟩
    exact ⟨_, by rw [if_neg hn], by rw [if_neg hn]; exact Own.nil _ _, h2⟩
theorem putP_any (p : Option Addr) (len cap : Nat) (b : List Nat) (q : Option Addr) (l c : Nat) (xs : List ByteArray) (r : Rep) (hok : r.ok) (w : World) (hI : IsBytes w.heap.size w p len cap b) (hM : IsStrs w.heap.size w q l c xs) :
    Calls Try.prog 16 #[.agg (repC (.slice p len cap) (.slice q l c) r).toArray] w (RefPP w r b xs) := by
  cases hm : mayP r b xs with
  | true =>
    refine (putP_some p len cap b q l c xs r hok hm w hI hM).mono ?_
    rintro e w' ⟨v, rfl, h1, h2⟩
    exact ⟨v, by rw [if_pos hm], by rw [if_pos hm]; exact h1, h2⟩
  | false =>
    have hn : ¬ mayP r b xs = true := by rw [hm]; simp
    refine (putP_none p len cap b q l c xs r hok hm w hI.1 hM).mono ?_
    rintro e w' ⟨rfl, h2⟩
    exact ⟨_, by rw [if_neg hn], by rw [if_neg hn]; exact Own.nil _ _, h2⟩
end Go.Proofs.Ytedpgdldekkgdaa
