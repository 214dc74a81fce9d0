/-
  The reference's PutRequest.
-/
import Derived.Test.YtedpgdldekkgdaaPutQ
namespace Go.Proofs.Ytedpgdldekkgdaa
open Go.RowKit Go.Shelf

theorem all_app {a b : List Nat} (ha : ∀ z ∈ a, z < 256) (hb : ∀ z ∈ b, z < 256) : ∀ z ∈ a ++ b, z < 256 := fun z hz => by
  rcases List.mem_append.1 hz with h | h
  · exact ha z h
  · exact hb z h
/-- What the reference's PutRequest answers. -/
def RefPQ (w : World) (r : Req) (b : List Nat) (e : Ending) (w' : World) : Prop :=
  ∃ v, e = .returned (.tuple #[v, .int .i64 (if mayQ r b = true then 0 else 180)]) ∧ Own w.heap.size w' v (if mayQ r b = true then 1 :: encQ r b else []) ∧ Below w.heap.size w w'

set_option maxRecDepth 100000 in
set_option maxHeartbeats 2000000 in
theorem refPutQ_none (p : Option Addr) (len cap : Nat) (b : List Nat) (r : Req) (hok : r.ok) (w : World) (hl : b.length = len) (hnm : r.name.size ≤ 1000000) (hm : mayQ r b = false) :
    Calls Try.prog 11 #[.agg (reqC (.slice p len cap) r).toArray] w fun e w' => e = .returned (.tuple #[.slice none 0 0, .int .i64 180]) ∧ Below w.heap.size w w' := by
  obtain ⟨w0, hw0⟩ : ∃ w0, w.alloc (.cells (reqC (.slice p len cap) r).toArray 28) = w0 := ⟨_, rfl⟩
  have hb0 : Below w.heap.size w w0 := by rw [← hw0]; exact (Below.refl _ w).alloc (Nat.le_refl _) _
  have hA : ReqAt w0 w.heap.size (.slice p len cap) r := by rw [← hw0]; exact ReqAt.new w _ r hok
  have HW0 : Hid (w.alloc (.cells (reqC (.slice p len cap) r).toArray 28) = w0) := hw0
  have hc2 := hA.kind
  have hc4 := hA.name
  have hc8 := hA.body
  have HM : Hid (¬ (1 ≤ r.kind ∧ r.kind ≤ 10 ∧ r.name.size ≤ 64 ∧ len ≤ 110000)) := fun h => by
    simp [mayQ, h.1, h.2.1, h.2.2.1, hl, h.2.2.2] at hm
  clear hA hw0 hok hl hm
  by_cases h1 : r.kind < 1
  · go_enter Try.func11, Try.ntmps11
    go_wp2_with (rw [HW0.out])
    refine bodyPost_ret (results_tmp2 rfl _ _ _) rfl ?_
    exact ⟨rfl, hb0⟩
  · by_cases h2 : 10 < r.kind
    · go_enter Try.func11, Try.ntmps11
      go_wp2_with (rw [HW0.out])
      refine bodyPost_ret (results_tmp2 rfl _ _ _) rfl ?_
      exact ⟨rfl, hb0⟩
    · by_cases h3 : 64 < r.name.size
      · have h3' : (64 : Int) < (r.name.size : Int) := by omega
        go_enter Try.func11, Try.ntmps11
        go_wp2_with (rw [HW0.out])
        refine bodyPost_ret (results_tmp2 rfl _ _ _) rfl ?_
        exact ⟨rfl, hb0⟩
      · have h3' : ¬ (64 : Int) < (r.name.size : Int) := by omega
        have h4' : (110000 : Int) < (len : Int) := by
          by_cases h4 : (110000 : Int) < (len : Int)
          · exact h4
          · exact absurd ⟨by omega, by omega, by omega, by omega⟩ HM.out
        go_enter Try.func11, Try.ntmps11
        go_wp2_with (rw [HW0.out])
        refine bodyPost_ret (results_tmp2 rfl _ _ _) rfl ?_
        exact ⟨rfl, hb0⟩

set_option maxRecDepth 100000 in
set_option maxHeartbeats 8000000 in
theorem refPutQ_some (p : Option Addr) (len cap : Nat) (b : List Nat) (r : Req) (hok : r.ok) (w : World) (hI : IsBytes w.heap.size w p len cap b) (hm : mayQ r b = true) :
    Calls Try.prog 11 #[.agg (reqC (.slice p len cap) r).toArray] w fun e w' => ∃ v, e = .returned (.tuple #[v, .int .i64 0]) ∧ Own w.heap.size w' v (1 :: encQ r b) ∧ Below w.heap.size w w' := by
  obtain ⟨wa, hwa⟩ : ∃ wa, w.alloc (.cells (reqC (.slice p len cap) r).toArray 28) = wa := ⟨_, rfl⟩
  have HBA : Hid (Below w.heap.size w wa) := by rw [← hwa]; exact (Below.refl _ w).alloc (Nat.le_refl _) _
  have HWA : Hid (w.alloc (.cells (reqC (.slice p len cap) r).toArray 28) = wa) := hwa
  have HCA : Hid (ReqAt wa w.heap.size (.slice p len cap) r) := by rw [← hwa]; exact ReqAt.new w _ r hok
  have HSA : Hid (wa.heap.size = w.heap.size + 1) := by show _ = _; rw [← hwa]; simp
  have HCl : Hid (∀ W, Below wa.heap.size wa W → W.cell? ⟨w.heap.size, 0, none⟩ = some (.int .u32 (r.client : Nat)) ∧ W.cell? ⟨w.heap.size, 1, none⟩ = some (.int .u64 (r.seq : Nat)) ∧ W.cell? ⟨w.heap.size, 2, none⟩ = some (.int .i64 r.kind) ∧ W.cell? ⟨w.heap.size, 3, none⟩ = some (.int .u32 (r.tenant : Nat)) ∧ W.cell? ⟨w.heap.size, 4, none⟩ = some (.string r.name) ∧ W.cell? ⟨w.heap.size, 69, none⟩ = some (.int .u64 (r.n : Nat)) ∧ W.cell? ⟨w.heap.size, 70, none⟩ = some (.slice p len cap)) := fun W h => ⟨(HCA.out.later h).client, (HCA.out.later h).seq, (HCA.out.later h).kind, (HCA.out.later h).tenant, (HCA.out.later h).name, (HCA.out.later h).n, (HCA.out.later h).body⟩
  have HIa : Hid (IsBytes wa.heap.size wa p len cap b) := (hI.below HBA.out).mono HBA.out.size
  have HOk : Hid r.ok := hok
  have hm2 := hm
  simp only [mayQ, Bool.and_eq_true, decide_eq_true_eq] at hm2
  obtain ⟨hk1, hk2, hnm, hbl⟩ := hm2
  have hbl' : len ≤ 110000 := by have := hI.1; omega
  obtain ⟨k, hk⟩ : ∃ k : Nat, r.kind = (k : Int) := ⟨r.kind.toNat, by omega⟩
  have hk64 : k < 18446744073709551616 := by omega
  have hcl64 : r.client < 18446744073709551616 := by have := hok.client; omega
  have hte64 : r.tenant < 18446744073709551616 := by have := hok.tenant; omega
  have hsq := hok.seq
  have hnn := hok.n
  have e1 : (r.client : Int) % 18446744073709551616 = (r.client : Int) := by omega
  have e1' : IntKind.u64.wrap (r.client : Int) = (r.client : Int) := by rw [IntKind.wrap_u64]; omega
  have e2 : IntKind.u64.wrap (r.tenant : Int) = (r.tenant : Int) := by rw [IntKind.wrap_u64]; omega
  have e3 : IntKind.u64.wrap r.kind = (k : Int) := by rw [IntKind.wrap_u64]; omega
  have t1 : ¬ r.kind < 1 := by omega
  have t2 : ¬ 10 < r.kind := by omega
  have t3 : ¬ (64 : Int) < (r.name.size : Int) := by omega
  have t4 : ¬ (110000 : Int) < (len : Int) := by omega
  obtain ⟨N1, hN1⟩ : ∃ N1, [1] ++ encN r.client = N1 := ⟨_, rfl⟩
  have HE : Hid (N1 ++ encN r.seq ++ encN k ++ encN r.tenant ++ encText (nameL r.name) ++ r.id ++ r.old ++ encN r.n ++ encText b = 1 :: encQ r b) := by
    show _ = _
    rw [← hN1, encQ, hk, Int.toNat_natCast]
    simp
  have hLa : (N1 ++ encN r.seq ++ encN k ++ encN r.tenant ++ encText (nameL r.name) ++ r.id ++ r.old ++ encN r.n ++ encText b).length ≤ 120001 := by rw [HE.out, List.length_cons]; have := encQ_length hok hm; omega
  simp only [List.length_append] at hLa
  have HLa : Hid (N1.length + (encN r.seq).length + (encN k).length + (encN r.tenant).length + (encText (nameL r.name)).length + r.id.length + r.old.length + (encN r.n).length + (encText b).length ≤ 120001) := by show _ ≤ _; omega
  have Z1 : Hid (∀ z ∈ N1, z < 256) := by rw [← hN1]; exact all_app (fun z hz => by simp at hz; omega) (encN_bytes _)
  have Z2 : Hid (∀ z ∈ N1 ++ encN r.seq, z < 256) := all_app Z1.out (encN_bytes _)
  have Z3 : Hid (∀ z ∈ N1 ++ encN r.seq ++ encN k, z < 256) := all_app Z2.out (encN_bytes _)
  have Z4 : Hid (∀ z ∈ N1 ++ encN r.seq ++ encN k ++ encN r.tenant, z < 256) := all_app Z3.out (encN_bytes _)
  have Z5 : Hid (∀ z ∈ N1 ++ encN r.seq ++ encN k ++ encN r.tenant ++ encText (nameL r.name), z < 256) := all_app Z4.out (encText_bytes (nameL_lt _))
  have Z7 : Hid (∀ z ∈ N1 ++ encN r.seq ++ encN k ++ encN r.tenant ++ encText (nameL r.name) ++ r.id ++ r.old, z < 256) := all_app (all_app Z5.out hok.id.2) hok.old.2
  have Z8 : Hid (∀ z ∈ N1 ++ encN r.seq ++ encN k ++ encN r.tenant ++ encText (nameL r.name) ++ r.id ++ r.old ++ encN r.n, z < 256) := all_app Z7.out (encN_bytes _)
  have HN1 : Hid ([1] ++ encN r.client = N1) := hN1
  have hc0 := HCA.out.client
  have hc2 := HCA.out.kind
  have hc4 := HCA.out.name
  have hc8 := HCA.out.body
  have hcx := HCA.out.later ((Below.refl _ wa).alloc (Nat.le_refl _) (.cells #[.int .u8 1] 5))
  have hc0' := hcx.client
  have H27 := refN_any (some ⟨wa.heap.size, 0, none⟩) 1 1 [1] r.client (wa.alloc (.cells #[.int .u8 1] 5)) hcl64 (by rw [World.size_alloc]; exact bytes_one wa 1 (by omega)) (by simp)
  have H27h : Hid (Calls Try.prog 27 #[.slice (some ⟨wa.heap.size, 0, none⟩) 1 1, .int .u64 (r.client : Nat)] (wa.alloc (.cells #[.int .u8 1] 5)) fun e w' => ∃ v', e = .returned v' ∧ Own wa.heap.size w' v' N1 ∧ Below wa.heap.size wa w') := H27.mono (by
    rintro e w' ⟨v', h1, h2, h3⟩
    rw [hN1] at h2
    rw [World.size_alloc] at h2 h3
    exact ⟨v', h1, h2.mono (by omega), ((Below.refl _ wa).alloc (Nat.le_refl _) _).trans (h3.mono (by omega))⟩)
  clear hwa hI hok hm hLa hN1 hk hk1 hk2 H27 hcx
  go_enter Try.func11, Try.ntmps11
  go_wp2_with (first
    | (rw [HWA.out])
    | (go_at_call 27; refine H27h.out.mono ?_; rintro e w1 ⟨v1, rfl, hO1, hb1⟩; obtain ⟨q1, k1, c1, hu1⟩ := own_any_slice hO1; subst hu1; have HB1 : Hid (Below wa.heap.size wa w1) := hb1; have HO1 : Hid (Own wa.heap.size w1 (.slice q1 k1 c1) N1) := hO1; clear hO1 hb1))
  clear hc0 hc2 hc4 hc8 hc0' t1 t2 t3 t4 H27h
  refine wp_region_held_drew (S := fun W => Below wa.heap.size wa W) (by kernel_rfl) HB1.out.drew (fun hHeld => ?_)
  refine wpAnyH_takesAt 0 3 10 (of_decide_eq_true (by kernel_rfl)) rfl (fun _ _ _ d _ h => by cases d <;> exact h) (by kernel_rfl) (by kernel_rfl) hHeld ?_
  simp only [List.drop_zero, List.take_succ_cons, List.take_zero]
  iterate 3 (refine wpHeld_step (v := ?_) (by rfl) (fun wz hSw => ?_) ?_; rotate_left; (focus (obtain ⟨hc0, hc1, hc2, hc3, hc4, hc7, hc8⟩ := HCl.out wz hSw; clear hSw; go_simp; try with_reducible rfl)); (simp only [Act.put, List.setIfInBounds_toArray, List.set_cons_zero, List.set_cons_succ]))
  refine wpHeld_nil ?_
  refine wpAnyH_takesAt 4 3 7 (of_decide_eq_true (by kernel_rfl)) rfl (fun _ _ _ d _ h => by cases d <;> exact h) (by kernel_rfl) (by kernel_rfl) hHeld ?_
  simp only [List.drop_succ_cons, List.drop_zero, List.take_succ_cons, List.take_zero]
  iterate 3 (refine wpHeld_step (v := ?_) (by rfl) (fun wz hSw => ?_) ?_; rotate_left; (focus (obtain ⟨hc0, hc1, hc2, hc3, hc4, hc7, hc8⟩ := HCl.out wz hSw; clear hSw; go_simp; try with_reducible rfl)); (simp only [Act.put, List.setIfInBounds_toArray, List.set_cons_zero, List.set_cons_succ]))
  refine wpHeld_nil ?_
  refine wpAnyH_takesAt 8 3 4 (of_decide_eq_true (by kernel_rfl)) rfl (fun _ _ _ d _ h => by cases d <;> exact h) (by kernel_rfl) (by kernel_rfl) hHeld ?_
  simp only [List.drop_succ_cons, List.drop_zero, List.take_succ_cons, List.take_zero]
  iterate 3 (refine wpHeld_step (v := ?_) (by rfl) (fun wz hSw => ?_) ?_; rotate_left; (focus (obtain ⟨hc0, hc1, hc2, hc3, hc4, hc7, hc8⟩ := HCl.out wz hSw; clear hSw; go_simp; try with_reducible rfl)); (simp only [Act.put, List.setIfInBounds_toArray, List.set_cons_zero, List.set_cons_succ]))
  refine wpHeld_nil ?_
  have hO1 : Own wa.heap.size w1.drew (.slice q1 k1 c1) N1 := HO1.out.later (Below.refl _ _).drew
  have hH1 : Below wa.heap.size wa w1.drew := hHeld
  generalize w1.drew = x1 at *
  refine wpAnyH_only (i := 3) (by kernel_rfl) rfl (fun K hK => ?_)
  rw [if_pos (by rfl)]
  go_simp
  refine (refN_any q1 k1 c1 (N1) r.seq x1 hsq (hO1.bytes Z1.out) (by have := HLa.out; (try simp only [List.length_append]); omega)).mono ?_
  rintro e x2 ⟨v2, rfl, hO2', hb2⟩
  obtain ⟨q2, k2, c2, hu2⟩ := own_any_slice hO2'
  subst hu2
  have hO2 := hO2'.mono hH1.size
  have hH2 : Below wa.heap.size wa x2 := hH1.trans (hb2.mono hH1.size)
  refine hK.out _ _ hH2 ?_
  clear hK K hO2' hb2
  refine wpAnyH_only (i := 7) (by kernel_rfl) rfl (fun K hK => ?_)
  rw [if_pos (by rfl)]
  go_simp
  refine (refN_any q2 k2 c2 (N1 ++ encN r.seq) k x2 hk64 (hO2.bytes Z2.out) (by have := HLa.out; (try simp only [List.length_append]); omega)).mono ?_
  rintro e x3 ⟨v3, rfl, hO3', hb3⟩
  obtain ⟨q3, k3, c3, hu3⟩ := own_any_slice hO3'
  subst hu3
  have hO3 := hO3'.mono hH2.size
  have hH3 : Below wa.heap.size wa x3 := hH2.trans (hb3.mono hH2.size)
  refine hK.out _ _ hH3 ?_
  clear hK K hO3' hb3
  refine wpAnyH_only (i := 11) (by kernel_rfl) rfl (fun K hK => ?_)
  rw [if_pos (by rfl)]
  go_simp
  refine (refN_any q3 k3 c3 (N1 ++ encN r.seq ++ encN k) r.tenant x3 hte64 (hO3.bytes Z3.out) (by have := HLa.out; (try simp only [List.length_append]); omega)).mono ?_
  rintro e x4 ⟨v4, rfl, hO4', hb4⟩
  obtain ⟨q4, k4, c4, hu4⟩ := own_any_slice hO4'
  subst hu4
  have hO4 := hO4'.mono hH3.size
  have hH4 : Below wa.heap.size wa x4 := hH3.trans (hb4.mono hH3.size)
  refine hK.out _ _ hH4 ?_
  clear hK K hO4' hb4
  refine wpAnyH_takesAt 12 1 0 (of_decide_eq_true (by kernel_rfl)) rfl (fun _ _ _ d _ h => by cases d <;> exact h) (by kernel_rfl) (by kernel_rfl) hH4 ?_
  simp only [List.drop_succ_cons, List.drop_zero, List.take_succ_cons, List.take_zero]
  iterate 1 (refine wpHeld_step (v := ?_) (by rfl) (fun wz hSw => ?_) ?_; rotate_left; (focus ((try dsimp only at hSw); go_simp; try with_reducible rfl)); ((simp only [Act.put]; (try simp only [List.setIfInBounds_toArray]); (try simp only [List.set_cons_succ]); (try simp only [List.set_cons_zero]))))
  refine wpHeld_nil ?_
  refine wpAnyH_done (by kernel_rfl) ?_ _
  have HH4 : Hid (Below wa.heap.size wa x4) := hH4
  have HO4 : Hid (Own wa.heap.size x4 (.slice q4 k4 c4) (N1 ++ encN r.seq ++ encN k ++ encN r.tenant)) := hO4
  obtain ⟨_, _, _, _, hcn, _, _⟩ := HCl.out x4 hH4
  obtain ⟨cap5, x5, hcv, hb5, hs5, hI5⟩ := bytes_of_name x4 r.name (by omega)
  have HJ5 : Hid (IsBytes x5.heap.size x5 (some ⟨x4.heap.size, 0, none⟩) r.name.size cap5 (nameL r.name)) := (hI5 _ (KeepF.refl _)).mono (by omega)
  have HO5 : Hid (Own wa.heap.size x5 (.slice q4 k4 c4) (N1 ++ encN r.seq ++ encN k ++ encN r.tenant)) := hO4.later hb5
  have HH5 : Hid (Below wa.heap.size wa x5) := hH4.trans (hb5.mono hH4.size)
  clear hHeld hH1 hH2 hH3 hH4 hO1 hO2 hO3 hO4 hb5 hI5 HO4 HH4 HO1 HB1
  go_wp2_with (go_at_call 28; refine (refText_any q4 k4 c4 (N1 ++ encN r.seq ++ encN k ++ encN r.tenant) _ r.name.size cap5 (nameL r.name) x5 (HO5.out.bytes Z4.out) HJ5.out (by have := HLa.out; simp only [List.length_append]; omega)).mono ?_; rintro e x6 ⟨v6, rfl, hO6, hb6⟩; obtain ⟨q6, k6, c6, hu6⟩ := own_any_slice hO6; subst hu6; have HB6 : Hid (Below wa.heap.size wa x6) := HH5.out.trans (hb6.mono HH5.out.size); have HO6 : Hid (Own wa.heap.size x6 (.slice q6 k6 c6) (N1 ++ encN r.seq ++ encN k ++ encN r.tenant ++ encText (nameL r.name))) := hO6.mono HH5.out.size; clear hO6 hb6)
  clear hcv hcn HO5 HH5 HJ5
  refine wp_region_held_drew (S := fun W => Below wa.heap.size wa W) (by kernel_rfl) HB6.out.drew (fun hHeld => ?_)
  refine wpAnyH_takesAt 0 3 5 (of_decide_eq_true (by kernel_rfl)) rfl (fun _ _ _ d _ h => by cases d <;> exact h) (by kernel_rfl) (by kernel_rfl) hHeld ?_
  simp only [List.drop_zero, List.take_succ_cons, List.take_zero]
  iterate 3 (refine wpHeld_step (v := ?_) (by rfl) (fun wz hSw => ?_) ?_; rotate_left; (focus ((try dsimp only at hSw); go_simp; try with_reducible rfl)); (simp only [Act.put, List.setIfInBounds_toArray, List.set_cons_zero, List.set_cons_succ]))
  refine wpHeld_nil ?_
  refine wpAnyH_takesAt 4 2 3 (of_decide_eq_true (by kernel_rfl)) rfl (fun _ _ _ d _ h => by cases d <;> exact h) (by kernel_rfl) (by kernel_rfl) hHeld ?_
  simp only [List.drop_succ_cons, List.drop_zero, List.take_succ_cons, List.take_zero]
  iterate 2 (refine wpHeld_step (v := ?_) (by rfl) (fun wz hSw => ?_) ?_; rotate_left; (focus ((try dsimp only at hSw); go_simp; try with_reducible rfl)); (simp only [Act.put, List.setIfInBounds_toArray, List.set_cons_zero, List.set_cons_succ]))
  refine wpHeld_nil ?_
  refine wpAnyH_only (i := 3) (by kernel_rfl) rfl (fun K hK => ?_)
  rw [if_pos (by rfl)]
  refine wp_append_bytes (.tmp 47) (.tmp 49) rfl wa.heap.size (.slice q6 k6 c6) (N1 ++ encN r.seq ++ encN k ++ encN r.tenant ++ encText (nameL r.name)) rfl (HO6.out.later (Below.refl _ _).drew) rfl (bytes_part (n := wa.heap.size) (HCA.out.later hHeld).id HOk.out.id (by have := HSA.out; omega)) (by have := HLa.out; (try simp only [List.length_append]); omega) hHeld.size (fun v7 w7 ho7 hg7 => ?_)
  have hb7 : Below wa.heap.size wa w7 := below_own hHeld hHeld.size (HO6.out.later (Below.refl _ _).drew) hg7
  obtain ⟨q7, k7, c7, hu7⟩ := own_any_slice ho7
  subst hu7
  refine hK.out _ _ hb7 ?_
  clear hK K
  change wpAnyH _ _ _ _ _ _ _ (Act.put _ (some 50) _) _
  (simp only [Act.put]; (try simp only [List.setIfInBounds_toArray]); (try simp only [List.set_cons_succ]); (try simp only [List.set_cons_zero]))
  refine wpAnyH_only (i := 6) (by kernel_rfl) rfl (fun K hK => ?_)
  rw [if_pos (by rfl)]
  refine wp_append_bytes (.tmp 50) (.tmp 52) rfl wa.heap.size (.slice q7 k7 c7) (N1 ++ encN r.seq ++ encN k ++ encN r.tenant ++ encText (nameL r.name) ++ r.id) rfl ho7 rfl (bytes_part (n := wa.heap.size) (HCA.out.later hb7).old HOk.out.old (by have := HSA.out; omega)) (by have := HLa.out; (try simp only [List.length_append]); omega) hb7.size (fun v8 w8 ho8 hg8 => ?_)
  have hb8 : Below wa.heap.size wa w8 := below_own hb7 hb7.size ho7 hg8
  obtain ⟨q8, k8, c8, hu8⟩ := own_any_slice ho8
  subst hu8
  refine hK.out _ _ hb8 ?_
  clear hK K
  change wpAnyH _ _ _ _ _ _ _ (Act.put _ (some 53) _) _
  (simp only [Act.put]; (try simp only [List.setIfInBounds_toArray]); (try simp only [List.set_cons_succ]); (try simp only [List.set_cons_zero]))
  refine wpAnyH_takesAt 7 1 0 (of_decide_eq_true (by kernel_rfl)) rfl (fun _ _ _ d _ h => by cases d <;> exact h) (by kernel_rfl) (by kernel_rfl) hb8 ?_
  simp only [List.drop_succ_cons, List.drop_zero, List.take_succ_cons, List.take_zero]
  iterate 1 (refine wpHeld_step (v := ?_) (by rfl) (fun wz hSw => ?_) ?_; rotate_left; (focus ((try dsimp only at hSw); go_simp; try with_reducible rfl)); ((simp only [Act.put]; (try simp only [List.setIfInBounds_toArray]); (try simp only [List.set_cons_succ]); (try simp only [List.set_cons_zero]))))
  refine wpHeld_nil ?_
  refine wpAnyH_done (by kernel_rfl) ?_ _
  have HB8 : Hid (Below wa.heap.size wa w8) := hb8
  have HO8 : Hid (Own wa.heap.size w8 (.slice q8 k8 c8) (N1 ++ encN r.seq ++ encN k ++ encN r.tenant ++ encText (nameL r.name) ++ r.id ++ r.old)) := ho8
  clear hHeld hb7 hb8 ho7 ho8 hg7 hg8 HB6 HO6
  go_wp2
  refine wp_region_held_drew (S := fun W => Below wa.heap.size wa W) (by kernel_rfl) HB8.out.drew (fun hHeld => ?_)
  refine wpAnyH_takesAt 0 3 6 (of_decide_eq_true (by kernel_rfl)) rfl (fun _ _ _ d _ h => by cases d <;> exact h) (by kernel_rfl) (by kernel_rfl) hHeld ?_
  simp only [List.drop_zero, List.take_succ_cons, List.take_zero]
  iterate 3 (refine wpHeld_step (v := ?_) (by rfl) (fun wz hSw => ?_) ?_; rotate_left; (focus (obtain ⟨hc0, hc1, hc2, hc3, hc4, hc7, hc8⟩ := HCl.out wz hSw; clear hSw; go_simp; try with_reducible rfl)); (simp only [Act.put, List.setIfInBounds_toArray, List.set_cons_zero, List.set_cons_succ]))
  refine wpHeld_nil ?_
  refine wpAnyH_takesAt 4 2 4 (of_decide_eq_true (by kernel_rfl)) rfl (fun _ _ _ d _ h => by cases d <;> exact h) (by kernel_rfl) (by kernel_rfl) hHeld ?_
  simp only [List.drop_succ_cons, List.drop_zero, List.take_succ_cons, List.take_zero]
  iterate 2 (refine wpHeld_step (v := ?_) (by rfl) (fun wz hSw => ?_) ?_; rotate_left; (focus (obtain ⟨hc0, hc1, hc2, hc3, hc4, hc7, hc8⟩ := HCl.out wz hSw; clear hSw; go_simp; try with_reducible rfl)); (simp only [Act.put, List.setIfInBounds_toArray, List.set_cons_zero, List.set_cons_succ]))
  refine wpHeld_nil ?_
  have hO8 : Own wa.heap.size w8.drew (.slice q8 k8 c8) (N1 ++ encN r.seq ++ encN k ++ encN r.tenant ++ encText (nameL r.name) ++ r.id ++ r.old) := HO8.out.later (Below.refl _ _).drew
  have hH8 : Below wa.heap.size wa w8.drew := hHeld
  refine wpAnyH_only (i := 3) (by kernel_rfl) rfl (fun K hK => ?_)
  rw [if_pos (by rfl)]
  go_simp
  refine (refN_any q8 k8 c8 (N1 ++ encN r.seq ++ encN k ++ encN r.tenant ++ encText (nameL r.name) ++ r.id ++ r.old) r.n w8.drew hnn (hO8.bytes Z7.out) (by have := HLa.out; (try simp only [List.length_append]); omega)).mono ?_
  rintro e x9 ⟨v9, rfl, hO9', hb9⟩
  obtain ⟨q9, k9, c9, hu9⟩ := own_any_slice hO9'
  subst hu9
  have hO9 := hO9'.mono hH8.size
  have hH9 : Below wa.heap.size wa x9 := hH8.trans (hb9.mono hH8.size)
  refine hK.out _ _ hH9 ?_
  clear hK K hO9' hb9
  refine wpAnyH_only (i := 6) (by kernel_rfl) rfl (fun K hK => ?_)
  rw [if_pos (by rfl)]
  go_simp
  refine (refText_any q9 k9 c9 (N1 ++ encN r.seq ++ encN k ++ encN r.tenant ++ encText (nameL r.name) ++ r.id ++ r.old ++ encN r.n) p len cap b x9 (hO9.bytes Z8.out) ((HIa.out.below hH9).mono hH9.size) (by have := HLa.out; simp only [List.length_append]; omega)).mono ?_
  rintro e x10 ⟨v10, rfl, hO10', hb10⟩
  obtain ⟨q10, k10, c10, hu10⟩ := own_any_slice hO10'
  subst hu10
  have hO10 := hO10'.mono hH9.size
  have hH10 : Below wa.heap.size wa x10 := hH9.trans (hb10.mono hH9.size)
  refine hK.out _ _ hH10 ?_
  clear hK K hO10' hb10
  refine wpAnyH_takesAt 7 2 0 (of_decide_eq_true (by kernel_rfl)) rfl (fun _ _ _ d _ h => by cases d <;> exact h) (by kernel_rfl) (by kernel_rfl) hH10 ?_
  simp only [List.drop_succ_cons, List.drop_zero, List.take_succ_cons, List.take_zero]
  iterate 2 (refine wpHeld_step (v := ?_) (by rfl) (fun wz hSw => ?_) ?_; rotate_left; (focus ((try dsimp only at hSw); go_simp; try with_reducible rfl)); (simp only [Act.put, List.setIfInBounds_toArray, List.set_cons_zero, List.set_cons_succ]))
  refine wpHeld_nil ?_
  refine wpAnyH_done (by kernel_rfl) ?_ _
  go_wp2
  refine bodyPost_ret (results_tmp2 rfl _ _ _) rfl ?_
  exact ⟨_, rfl, by rw [← HE.out]; exact hO10.mono (by have := HSA.out; omega), HBA.out.trans (hH10.mono HBA.out.size)⟩

theorem refPutQ_any (p : Option Addr) (len cap : Nat) (b : List Nat) (r : Req) (hok : r.ok) (hnm : r.name.size ≤ 1000000) (w : World) (hI : IsBytes w.heap.size w p len cap b) :
    Calls Try.prog 11 #[.agg (reqC (.slice p len cap) r).toArray] w (RefPQ w r b) := by
  cases hm : mayQ r b with
  | true =>
    refine (refPutQ_some p len cap b r hok w hI hm).mono ?_
    rintro e w' ⟨v, rfl, h1, h2⟩
    exact ⟨v, by rw [if_pos hm], by rw [if_pos hm]; exact h1, h2⟩
  | false =>
    have hn : ¬ mayQ r b = true := by rw [hm]; simp
    refine (refPutQ_none p len cap b r hok w hI.1 hnm hm).mono ?_
    rintro e w' ⟨rfl, h2⟩
    exact ⟨_, by rw [if_neg hn], by rw [if_neg hn]; exact Own.nil _ _, h2⟩
end Go.Proofs.Ytedpgdldekkgdaa
