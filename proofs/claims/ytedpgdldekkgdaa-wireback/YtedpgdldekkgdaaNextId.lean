/-
  nextId: an id, read.
-/
import Derived.Test.YtedpgdldekkgdaaGot
namespace Go.Proofs.Ytedpgdldekkgdaa
open Go.RowKit Go.Shelf

theorem noId_len : noId.length = 32 := by simp [noId]
/-- copy of 32 bytes, or of none, into an id of noughts. -/
theorem wp_copy_id {o : Oper} {a : Act} {w : World} {K : Act → World → Prop} {Q : Exit → Act → World → Prop} (d s : Operand)
    (ho : o.op = .call { callee := .builtin .copy, args := #[d, s], argTypes := #[26, 26] }) {g : Nat} (hd : a.eval d = .slice (some ⟨g, 0, none⟩) 32 32) {n₀ l c : Nat} {q : Option Addr} {zs : List Nat} (hs : a.eval s = .slice q l c)
    (hr : Row w g 25 noId) (hI : IsBytes n₀ w q l c zs) (h32 : zs.length = 32 ∨ zs.length = 0)
    (h : ∀ m w', Row w' g 25 (u8s (if zs.length = 32 then zs else List.replicate 32 0)) → But g w.heap.size w w' → K (a.put o.dst (goInt m)) w') : o.wp Try.prog a w K Q := by
  rcases h32 with h1 | h1
  · have hl : l = 32 := by rw [← hI.1]; exact h1
    subst hl
    obtain ⟨ad, rfl, hsrc⟩ := bytes_src hI (by rw [u8s_length]; omega)
    refine wp_copy_but d s 26 26 ho 5 Try.underlying26 size5 g 0 32 32 ad 32 c hd hs noId 25 hr (u8s zs) (by rw [u8s_length, h1]; rfl) hsrc (by rw [u8s_length, noId_len]; omega) (u8s_one _) (fun w' h2 h3 => ?_)
    refine h _ w' ?_ h3
    rw [if_pos h1]
    have e : splice noId 0 (u8s zs) = u8s zs := by
      simp only [splice, List.take_zero, List.nil_append, Nat.zero_add]
      rw [List.drop_of_length_le (by rw [u8s_length, noId_len]; omega), List.append_nil]
    rw [← e]
    exact h2
  · have hl : l = 0 := by rw [← hI.1]; exact h1
    subst hl
    have hrun := run_copy_none (P := Try.prog) w 26 26 o.type 5 (some ⟨g, 0, none⟩) q 32 32 0 c Try.underlying26 size5 (by rfl)
    unfold Oper.wp
    simp [execOp, ho, resolve, invoke, builtin, hd, hs, hrun, Result.andThen]
    refine h 0 w ?_ (But.refl _ _ _)
    rw [if_neg (by omega), noId_eq]
    exact hr

set_option maxRecDepth 100000 in
set_option maxHeartbeats 1000000 in
theorem nextId_any (B : Nat) (st : Option (List Nat)) (w : World) (h : RdAt w B st) (hz : Ahead st) :
    Calls Try.prog 32 #[.pointer (some ⟨B, 0, none⟩)] w fun e w' => e = .returned (.agg (u8s (idR st)).toArray) ∧ RdAt w' B (readRaw 32 st).2 ∧ But B w.heap.size w w' := by
  have hBl := h.lt
  obtain ⟨w0, hw0⟩ : ∃ w0, (w.alloc (.cells noId.toArray 25)).alloc (.cells noId.toArray 25) = w0 := ⟨_, rfl⟩
  have hb0 : Below w.heap.size w w0 := by rw [← hw0]; exact ((Below.refl _ w).alloc (Nat.le_refl _) _).alloc (by simp) _
  have HR1 : Hid (Row w0 w.heap.size 25 noId) := by rw [← hw0]; exact (Row.new' w 25 noId).alloc _
  have HR2 : Hid (Row w0 (w.heap.size + 1) 25 noId) := by
    rw [← hw0]
    have := Row.new' (w.alloc (.cells noId.toArray 25)) 25 noId
    rwa [World.size_alloc] at this
  have HRd : Hid (RdAt w0 B st) := h.later hb0
  have HRaw := readerRaw_any B st 32 w0.drew (HRd.out.later (Below.refl _ w0).drew)
  have h32 := readRaw32 st
  have hraw : ∀ z ∈ (readRaw 32 st).1, z < 256 := by
    cases st with
    | none => simp [readRaw]
    | some zs =>
      rcases Nat.lt_or_ge zs.length 32 with h' | h'
      · rw [readRaw_out32 h']; simp
      · rw [readRaw_in32 h']; exact fun z hzz => hz zs rfl z (List.mem_of_mem_take hzz)
  have HId : Hid (idR st = if (readRaw 32 st).1.length = 32 then (readRaw 32 st).1 else List.replicate 32 0) := rfl
  have HIdo : Hid (IsId (idR st)) := idR_ok hz
  have HW : Hid ((w.alloc (.cells noId.toArray 25)).alloc (.cells noId.toArray 25) = w0) := hw0
  have HS0 : Hid (w0.heap.size = w.heap.size + 1 + 1) := by show _ = _; rw [← hw0]; simp
  clear h hw0 hz
  generalize (readRaw 32 st).2 = st' at *
  generalize (readRaw 32 st).1 = zs at *
  go_enter Try.func32, Try.ntmps32
  go_wp2
  rw [z32u8, show List.replicate 32 (Value.int .u8 0) = noId from rfl, HW.out]
  refine wp_region_held_drew (S := fun _ => True) (by kernel_rfl) trivial (fun hHeld => ?_)
  refine wpAnyH_takesAt 0 2 2 (of_decide_eq_true (by kernel_rfl)) rfl (fun _ _ _ d _ h => by cases d <;> exact h) (by kernel_rfl) (by kernel_rfl) hHeld ?_
  simp only [List.drop_zero, List.take_succ_cons, List.take_zero]
  iterate 2 (refine wpHeld_step (v := ?_) (by rfl) (fun wz hSw => ?_) ?_; rotate_left; (focus ((try dsimp only at hSw); go_simp; try with_reducible rfl)); (simp only [Act.put, List.setIfInBounds_toArray, List.set_cons_zero, List.set_cons_succ]))
  refine wpHeld_nil ?_
  refine wpAnyH_only (i := 2) (by kernel_rfl) rfl (fun K hK => ?_)
  rw [if_pos (by rfl)]
  go_simp
  refine HRaw.mono ?_
  rintro e w1 ⟨v1, rfl, hO1, hR1, hbu1⟩
  obtain ⟨q1, l1, c1, hu1⟩ := own_any_slice hO1
  subst hu1
  refine hK.out _ _ trivial ?_
  clear hK K
  refine wpAnyH_only (i := 3) (by kernel_rfl) rfl (fun K hK => ?_)
  rw [if_pos (by rfl)]
  have hs0 := HS0.out
  have hd0 : w0.drew.heap.size = w0.heap.size := rfl
  have hrow1 : Row w1 w.heap.size 25 noId := hbu1.row (by rw [hd0]; omega) (by omega) HR1.out.drew
  have hrow2 : Row w1 (w.heap.size + 1) 25 noId := hbu1.row (by rw [hd0]; omega) (by omega) HR2.out.drew
  refine wp_copy_id (.tmp 4) (.tmp 6) rfl rfl rfl hrow2 (hO1.bytes hraw) h32 (fun m w2 hrw hbu2 => ?_)
  rw [← HId.out] at hrw
  have hsz1 := hbu1.size
  have hrow12 : Row w2 w.heap.size 25 noId := hbu2.row hrow1.lt (by omega) hrow1
  have hR2 : RdAt w2 B st' := hR1.but hbu2 (by omega)
  refine hK.out _ _ trivial ?_
  clear hK K
  change wpAnyH _ _ _ _ _ _ _ (Act.put _ (some 7) _) _
  (simp only [Act.put]; (try simp only [List.setIfInBounds_toArray]); (try simp only [List.set_cons_succ]); (try simp only [List.set_cons_zero]))
  refine wpAnyH_done (by kernel_rfl) ?_ _
  have HV : Hid ((u8s (idR st)).length = 32) := by show _ = _; rw [u8s_length]; exact HIdo.out.1
  have HV1 : Hid (∀ v ∈ u8s (idR st), v.oneCell' = true) := u8s_one _
  have HRw : Hid (Row w2 (w.heap.size + 1) 25 (u8s (idR st))) := hrw
  have HR12 : Hid (Row w2 w.heap.size 25 noId) := hrow12
  have hbw2 : But B w.heap.size w w2 := by
    have h1 : But B w.heap.size w w0.drew := But.of_below hb0.drew (Nat.le_refl _)
    have h2 : But B w.heap.size w0.drew w1 := hbu1.mono (by rw [hd0]; omega)
    have h3 : But B w.heap.size w1 w2 := ⟨hbu2.os, hbu2.tape, hbu2.output, hbu2.size, fun k hk hB => hbu2.block k (by rw [hd0] at hsz1; omega) (by omega)⟩
    exact (h1.trans h2).trans h3
  have HB2 : Hid (But B w.heap.size w w2) := hbw2
  have HRd2 : Hid (RdAt w2 B st') := hR2
  clear hrw hrow12 hbw2 hR2 hbu2 hR1 hbu1 hO1 hrow1 hrow2 HRaw HId HIdo hraw h32 HR1 HR2 HRd
  obtain ⟨V, hVe⟩ : ∃ V, u8s (idR st) = V := ⟨_, rfl⟩
  rw [hVe] at HV HV1 HRw
  have HVe : Hid (u8s (idR st) = V) := hVe
  clear hVe
  go_wp2_with (first
    | ((with_reducible show wpList _ _ _ (Oper.mk _ (Op.load 25 (.tmp 3)) _ _ _ _ :: _) _ _); refine wpList_load_mid rfl 25 (.tmp 3) rfl (w.heap.size + 1) 0 rfl V _ HRw.out.range Try.underlying25 rfl (by rw [HV.out]; exact size25) ?_; simp only [Act.put, List.setIfInBounds_toArray, List.set_cons_zero, List.set_cons_succ])
    | ((with_reducible show wpList _ _ _ (Oper.mk _ (Op.store 25 (.tmp 2) (.tmp 8)) _ _ _ _ :: _) _ _); refine wpList_store_Row rfl 25 (.tmp 2) (.tmp 8) rfl V rfl rfl HR12.out (by rw [HV.out]; exact size25) (by rw [HV.out, noId_len]) HV1.out ?_; simp only [Act.put]))
  refine bodyPost_ret (results_Row rfl rfl (HR12.out.sets_all (by rw [HV.out, noId_len])) Try.underlying25 (by rw [HV.out]; exact size25)) rfl ?_
  have hbs : Below w.heap.size w2 (w2.setCells w.heap.size 0 V) := below_setCells (Nat.le_refl _) _ _ (Below.refl _ _)
  exact ⟨by rw [HVe.out], HRd2.out.below hbs (by omega), HB2.out.trans (But.of_below hbs (Nat.le_refl _))⟩

/-- What is held may become more on the way. -/
theorem wpAnyH_strong {P : Program} {md : Region.Mode} {ops : Array Oper} {Q : Exit → Act → World → Prop} {S S' : World → Prop} (hS : ∀ W, S' W → S W) : ∀ (fuel : Nat) (listed : Array Bool) (a : Act) (w : World), wpAnyH P md ops Q S' fuel listed a w → wpAnyH P md ops Q S fuel listed a w
  | 0, _, _, _, h => h
  | fuel + 1, _, _, _, h => ⟨h.1, fun i hi => wpOp_mono (fun a' w' h' => ⟨hS w' h'.1, wpAnyH_strong hS fuel _ a' w' h'.2⟩) (h.2 i hi)⟩

/-- Thirty-two values, one by one. -/
theorem range32 {V : List Value} (h : V.length = 32) : V = (List.range 32).map fun i => V.getD i undef := by
  apply List.ext_getElem (by simp [h])
  intro i h1 h2
  simp [List.getElem?_eq_getElem h1]
end Go.Proofs.Ytedpgdldekkgdaa
