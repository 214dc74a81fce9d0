/-
  Reach: all that is reached.
-/
import Derived.Test.YtfclbdlkpnoceaaWit
namespace Go.Proofs.Ytfclbdlkpnoceaa
open Go.RowKit Go.Shelf Go.Maps
attribute [local go_sem] Oper.semAt_some

/-- An id, appended to a row of one's own whose variable lies below it. -/
theorem append_box {A : World} {Z M : Nat} (hZM : Z < M) {q : Option Addr} {c : Nat} {ids : List (List Nat)} (hv : Boxed A Z 23 (.slice q ids.length c)) (hrow : OwnIds M A (.slice q ids.length c) ids) (hM : M ≤ A.heap.size) {x : List Nat} (hid : IsId x) (hl : ids.length ≤ 100000) :
    ∃ W5 q5 l5 c5, (Builtin.append_ #[23, 23] 23 #[.slice q ids.length c, .slice (some ⟨A.heap.size, 0, none⟩) 1 1]).run Try.prog (A.alloc (.cells (u8s x).toArray 33)) = .ok (.slice q5 l5 c5) W5 ∧ Boxed W5 Z 23 (.slice q ids.length c) ∧ Boxed (W5.setCell ⟨Z, 0, none⟩ (.slice q5 l5 c5)) Z 23 (.slice q5 l5 c5) ∧
      OwnIds M (W5.setCell ⟨Z, 0, none⟩ (.slice q5 l5 c5)) (.slice q5 l5 c5) (ids ++ [x]) ∧ (∀ k o, k < M → k ≠ Z → A.heap[k]? = some o → (W5.setCell ⟨Z, 0, none⟩ (.slice q5 l5 c5)).heap[k]? = some o) ∧ KeepsFrom M A (W5.setCell ⟨Z, 0, none⟩ (.slice q5 l5 c5)) ∧ Below Z A (W5.setCell ⟨Z, 0, none⟩ (.slice q5 l5 c5)) := by
  obtain ⟨i0, hi0, hz0, hz1, hz2⟩ := info_parts info33
  obtain ⟨W4, hW4⟩ : ∃ W4, A.alloc (.cells (u8s x).toArray 33) = W4 := ⟨_, rfl⟩
  have hb4 : Below A.heap.size A W4 := by rw [← hW4]; exact (Below.refl _ A).alloc (Nat.le_refl _) _
  have hr4 : W4.ownsRow M 33 32 (.slice q ids.length c) ids.length (u8s ids.flatten) := by rw [← hW4]; exact World.ownsRow.alloc hrow _
  have hrg4 : W4.rangeAt A.heap.size 0 (u8s x) := by rw [← hW4]; exact (Row.new' A 33 (u8s x)).range
  have hs4 : W4.heap.size = A.heap.size + 1 := by rw [← hW4]; exact World.size_alloc _ _
  obtain ⟨u5, W5, hrun, ho5, hg5, _, _⟩ := run_append_own_at (P := Try.prog) W4 M 23 23 33 i0 _ 32 32 Try.underlying23 hi0 hz0 hz1 hz2 (by simp [Value.cells]) (by omega) (.slice q ids.length c) ids.length (u8s ids.flatten) hr4 ⟨A.heap.size, 0, none⟩ 1 1 (u8s x) (by simp [hid.1]) (fun j u hu => by rw [Addr.add_mid]; exact hrg4 j u hu) (u8s_one _) (by simp only [maxLen]; omega) (by omega) (by omega)
  obtain ⟨q5, l5, c5, rfl⟩ : ∃ q l c, u5 = Value.slice q l c := by obtain ⟨q, c, e⟩ := slice_of_row ho5; exact ⟨q, _, c, e⟩
  have hnb : ∀ k, some k = (Value.slice q ids.length c).ownBlock → M ≤ k ∧ ∃ c' fr', W4.heap[k]? = some (.cells c' 33 fr') := fun k e => by
    rcases hr4.2 with ⟨e', _⟩ | ⟨g, c', cur, e', hgz, hgg, _⟩
    · rw [e'] at e; cases e
    · rw [e'] at e
      obtain rfl : k = g := by cases e; rfl
      exact ⟨hgz, _, _, hgg⟩
  have hset := grownBy_setCell' W5 Z (.slice q5 l5 c5)
  have hlow : ∀ k o, k < M → k ≠ Z → A.heap[k]? = some o → (W5.setCell ⟨Z, 0, none⟩ (.slice q5 l5 c5)).heap[k]? = some o := fun k o hk hkz ho => by
    have h4 : W4.heap[k]? = some o := (hb4.block k (Array.getElem?_eq_some_iff.1 ho).1).trans ho
    have h5 : W5.heap[k]? = some o := (hg5.block k (Array.getElem?_eq_some_iff.1 h4).1 (fun e => by have := (hnb k e).1; omega)).trans h4
    exact (hset.block k (Array.getElem?_eq_some_iff.1 h5).1 (fun e => by cases e; exact hkz rfl)).trans h5
  have hv4 : Boxed W4 Z 23 (.slice q ids.length c) := boxed_below hv hb4
  have hv5 : Boxed W5 Z 23 (.slice q ids.length c) := (hg5.block Z hv4.lt (fun e => by have := (hnb Z e).1; omega)).trans hv4
  refine ⟨W5, q5, l5, c5, by rw [hW4]; exact hrun, hv5, hv5.set _, ?_, hlow, ⟨Nat.le_trans hb4.size (Nat.le_trans hg5.size hset.size), fun k o hk ho hc => ?_⟩, ⟨hset.os.trans (hg5.os.trans hb4.os), hset.tape.trans (hg5.tape.trans hb4.tape), hset.output.trans (hg5.output.trans hb4.output), Nat.le_trans hb4.size (Nat.le_trans hg5.size hset.size), fun k hk => ?_⟩⟩
  · unfold OwnIds
    rw [List.flatten_append, List.length_append, ← u8s_append]
    refine ownsRow_frame (A := W5) (by simpa using ho5) fun k c fr h1 h2 h3 => (hset.block k h2 (fun e => by cases e; omega)).trans h3
  · have h4 : W4.heap[k]? = some o := (hb4.block k (Array.getElem?_eq_some_iff.1 ho).1).trans ho
    have h5 : W5.heap[k]? = some o := (hg5.block k (Array.getElem?_eq_some_iff.1 h4).1 (fun e => by
      obtain ⟨_, c', fr', h'⟩ := hnb k e
      rw [h'] at h4
      cases h4
      cases hc)).trans h4
    exact (hset.block k (Array.getElem?_eq_some_iff.1 h5).1 (fun e => by cases e; omega)).trans h5
  · have hkA : k < A.heap.size := by omega
    rw [Array.getElem?_eq_getElem hkA]
    exact hlow k _ (by omega) (by omega) (Array.getElem?_eq_getElem hkA)

/-- Reach under way. -/
def RcI (Z M : Nat) (w : World) (pre : List (Nat × List Nat)) (A : World) : Prop :=
  (∃ v, Boxed A Z 23 v ∧ A.ownsRow M 33 32 v (pre.map (·.2)).length (u8s (pre.map (·.2)).flatten) ∧ True) ∧ (Below Z w A ∧ M ≤ A.heap.size ∧ ∀ x ∈ pre, IsId x.2)

theorem reach_few (l : List O) (roots : List (List Nat)) : (reachL l roots).length ≤ l.length := by
  have h : ∀ (f : Nat) (met next : List (List Nat)), met.Nodup → (∀ x ∈ met, hasO l x = true) → (met ++ (levF l f met next).flatten).Nodup ∧ ∀ x ∈ met ++ (levF l f met next).flatten, hasO l x = true := by
    intro f
    induction f with
    | zero => intro met next h1 h2; simpa [levF] using ⟨h1, h2⟩
    | succ f ih =>
      intro met next h1 h2
      rw [levF]
      split
      · simpa using ⟨h1, h2⟩
      · rw [List.flatten_cons, ← List.append_assoc]
        exact ih _ _ (by
          rw [List.nodup_append]
          refine ⟨h1, meetL_nodup _ _ _, fun x hx y hy => ?_⟩
          rintro rfl
          exact (meetL_mem.1 hy).2.2 hx) (fun x hx => by
          rcases List.mem_append.1 hx with h | h
          · exact h2 x h
          · exact (meetL_mem.1 h).2.1)
  obtain ⟨h1, h2⟩ := h (l.length + 1) [] roots List.nodup_nil (by simp)
  rw [List.nil_append] at h1 h2
  have := nodup_le (reachL l roots) (l.map (·.id)) h1 (fun x hx => by
    obtain ⟨o, ho, e⟩ := hasO_iff.1 (h2 x hx)
    exact List.mem_map.2 ⟨o, ho, e⟩)
  simpa using this

set_option maxRecDepth 100000 in
set_option maxHeartbeats 1000000 in
theorem reach_any (p : Option Addr) (len cap : Nat) (q : Option Addr) (rl rc : Nat) (l : List O) (roots : List (List Nat)) (hlen : len ≤ 100) (hrl : rl ≤ 1000) (hln : ∀ o ∈ l, o.links.length ≤ 100) (w : World) (hI : IsObjs w.heap.size w p len cap l) (hR : IsIds w.heap.size w q rl rc roots) :
    Calls Try.prog 12 #[.slice p len cap, .slice q rl rc] w (LinksPost w (reachL l roots)) := by
  obtain ⟨i0, hi0, hz0, hz1, hz2⟩ := info_parts info33
  obtain ⟨N, hN⟩ : ∃ N, 20 ≤ N := ⟨20, Nat.le_refl _⟩
  refine (callsIn_wide (n := N)).1 ?_
  have h1 : 1 ≤ N := by omega
  have hfn : ∀ f, Fence.wide.fn f := fun _ => trivial
  have hfew := reach_few l roots
  have hll := hI.1
  refine callsIn_of_wp_marks Try.func12 rfl trivial ?_ rfl
  simp only [Try.ntmps12, List.size_toArray, List.length_cons, List.length_nil, Nat.reduceAdd, Nat.reduceSub, Array.replicate_succ, Array.replicate_zero, List.push_toArray, List.append_toArray, List.nil_append, List.cons_append]
  obtain ⟨w1, hw1⟩ : ∃ w1, w.alloc (.cells #[.slice none 0 0] 23) = w1 := ⟨_, rfl⟩
  have hb1 : Below w.heap.size w w1 := by rw [← hw1]; exact (Below.refl _ w).alloc (Nat.le_refl _) _
  have hs1 : w1.heap.size = w.heap.size + 1 := by rw [← hw1]; simp
  have hbx : Boxed w1 w.heap.size 23 (.slice none 0 0) := by rw [← hw1]; exact Boxed.new w 23 _
  have HW : Hid (Calls Try.prog 10 #[.slice p len cap, .slice q rl rc] w1 fun e w' => ∃ Bf, e = .returned (.func (.func 23) #[] #[.pointer (some ⟨Bf, 0, none⟩)]) ∧ FoundAt w1.heap.size w' Bf (levels l roots) ∧ Below w1.heap.size w1 w') :=
    walk_any p len cap q rl rc l roots hlen hrl hln w1 ((hI.below hb1).mono hb1.size) ((hR.below hb1).mono hb1.size)
  have HBx : Hid (Boxed w1 w.heap.size 23 (.slice none 0 0)) := hbx
  have HS1 : Hid (w1.heap.size = w.heap.size + 1) := hs1
  clear hI hR hbx hs1
  gi_wp2_with (first
    | (gi_at_call 10; refine (callsIn_wide.2 HW.out).mono ?_; rintro e w2 ⟨Bf, rfl, hF, hb2⟩))
  have hs2 := hb2.size
  have hs1 := HS1.out
  generalize hZ : w.heap.size = Z at *
  have hbx2 : Boxed w2 Z 23 (.slice none 0 0) := boxed_below HBx.out hb2
  have hOwn : OwnFrom w2.heap.size (RcI Z w2.heap.size w) := OwnFrom.and (Own.from (holdsRow_own w2.heap.size Z 23 33 32 (fun pre : List (Nat × List Nat) => (pre.map (·.2)).length) (fun pre => u8s (pre.map (·.2)).flatten) (fun _ _ => True)) _)
      (low_own (fun s A B h hb => ⟨h.1.trans (hb.mono (by omega)), Nat.le_trans h.2.1 hb.size, h.2.2⟩) (fun s A h => h.2.1))
  refine wpIn_rangeFunc_okx rfl h1 (gf := 23) (lb := #[.pointer (some ⟨Bf, 0, none⟩)]) rfl trivial (enters_of Try.func23 (by kernel_rfl) rfl)
    (encs := tlV) (Ok := fun x _ => IsId x.2) (Kp := KpP (fun k _ => Z < k ∧ k < w2.heap.size)) (Nx := fun pre x => ∃ post, tellL (levels l roots) = pre ++ x :: post) (S := fun ys => ys = tellL (levels l roots)) (Sp := fun _ => True)
    (fun W' hs hb => walk1_iter (N - 1) (by omega) _ Bf w1.heap.size (levels l roots) (by unfold reachL at hfew; omega) _ w2 W' hF hb (fun k c t fr h1 h2 => ⟨by omega, h2⟩))
    KpP.trans (fun A o o' ho hc => KpP.record o' (fun _ h => by have := h.2; omega)) KpP.of_below (fun _ => rfl)
    (fun x A B => Row B A.heap.size 33 (u8s x.2)) (fun x A B o h hl => TwoRow.put o h hl)
    (RcI Z w2.heap.size w) (fun _ _ _ => False) hOwn (fun _ _ _ _ _ h _ _ => h.elim) (fun _ _ _ _ h _ _ => h)
    ⟨⟨_, hbx2, World.ownsRow_nil _ _ _ _, trivial⟩, hb1.trans (hb2.mono (by omega)), Nat.le_refl _, by simp⟩
    (fun x A => { tmps := #[.slice p len cap, .slice q rl rc, undef, undef, .slice none 0 0, .pointer (some ⟨Z, 0, none⟩), undef, .pointer (some ⟨A.heap.size, 0, none⟩), .slice p len cap, .slice q rl rc, .func (.func 23) #[] #[.pointer (some ⟨Bf, 0, none⟩)], .int .i64 (x.1 : Nat), idV x.2, undef, undef, undef, undef, undef, undef], defers := [] }) ?assign ?body ?done ?stop
  case assign =>
    intro li x A K hok hK
    have HK : Hid (∀ W', Below A.heap.size A W' → Row W' A.heap.size 33 (u8s x.2) → K _ W') := hK
    clear hK
    unfold tlV
    generalize x.2 = y at *
    gi_wp2_with ((with_reducible show wpListIn _ _ _ _ _ (Oper.mk _ (Op.store 33 (.tmp 7) (.tmp 12)) _ _ _ _ :: _) _ _); rw [z32u8]; refine wpListIn_storeId rfl (.tmp 7) (.tmp 12) rfl hok rfl rfl (fun A2 hb2 hR2 => ?_); have HR2 : Hid (Row A2 A.heap.size 33 (u8s y)) := hR2; clear hR2; simp only [Act.put])
    exact HK.out A2 hb2 HR2.out
  case body =>
    rintro li pre x A₀ A ⟨⟨v, hv, hrow, _⟩, hB, hsz, hall⟩ hid ⟨post, hpost⟩ hle hr1
    have HR1 : Hid (Row A A₀.heap.size 33 (u8s x.2)) := hr1
    obtain ⟨qv, cv, rfl⟩ := slice_of_row hrow
    have hlp : (pre.map (·.2)).length ≤ 100000 := by
      have h5 : (levels l roots).flatten = pre.map (·.2) ++ x.2 :: post.map (·.2) := by rw [← tellL_ids, hpost, List.map_append, List.map_cons]
      have h6 := congrArg List.length h5
      rw [List.length_append] at h6
      unfold reachL at hfew
      omega
    obtain ⟨W5, q5, l5, c5, hrun, hv5, hv6, ho6, hlo6, hk6, hb6⟩ := append_box (by omega : Z < w2.heap.size) hv hrow hsz hid hlp
    have HRun : Hid ((Builtin.append_ #[23, 23] 23 #[.slice qv (pre.map (·.2)).length cv, .slice (some ⟨A.heap.size, 0, none⟩) 1 1]).run Try.prog (A.alloc (.cells (u8s x.2).toArray 33)) = .ok (.slice q5 l5 c5) W5) := hrun
    have hcv := hv.cell
    have hcv5 := hv5.cell
    have hfv5 := hv5.frozen
    have HFin : Hid (KeepsFrom w2.heap.size A (W5.setCell ⟨Z, 0, none⟩ (.slice q5 l5 c5)) ∧ KpP (fun k _ => Z < k ∧ k < w2.heap.size) A (W5.setCell ⟨Z, 0, none⟩ (.slice q5 l5 c5)) ∧ RcI Z w2.heap.size w (pre ++ [x]) (W5.setCell ⟨Z, 0, none⟩ (.slice q5 l5 c5))) := by
      refine ⟨hk6, fun k o hp ho => hlo6 k o hp.2 (by omega) ho, ⟨_, hv6, ?_, trivial⟩, hB.trans hb6, Nat.le_trans hsz hk6.size, fun y hy => ?_⟩
      · rw [List.map_append]
        exact ho6
      · rcases List.mem_append.1 hy with h | h
        · exact hall y h
        · simp at h; subst h; exact hid
    clear hr1 hrow hv hv5 hv6 ho6 hlo6 hk6 hb6 hB hall hpost hrun
    generalize (pre.map (·.2)).length = pl at *
    generalize x.2 = y at *
    gi_wp2_with (first
      | ((with_reducible show wpListIn _ _ _ _ _ (Oper.mk _ (Op.load 33 (.tmp 7)) _ _ _ _ :: _) _ _); refine wpListIn_loadId rfl (.tmp 7) rfl rfl hid HR1.out.range ?_; simp only [Act.put, List.setIfInBounds_toArray, List.set_cons_zero, List.set_cons_succ])
      | ((with_reducible show wpListIn _ _ _ _ _ (Oper.mk (some 15) _ _ _ _ _ :: _) _ _); refine wpListIn_oper rfl (by intro c hc; cases hc) (fun K hK => wp_buildOne 23 33 (.tmp 14) rfl (u8s y) rfl i0 _ Try.underlying23 hi0 hz0 (by rw [hz1, id_len hid]) (by rw [id_len hid]; omega) (by rw [id_len hid]; omega) (hK _ _ ?_)); simp only [Act.put, List.setIfInBounds_toArray, List.set_cons_zero, List.set_cons_succ])
      | ((with_reducible show wpListIn _ _ _ _ _ (Oper.mk (some 16) _ _ _ _ _ :: _) _ _); refine wpListIn_oper rfl (by intro c hc; cases hc) (fun K hK => wp_append_of (.tmp 13) (.tmp 15) 23 rfl rfl rfl HRun.out (hK _ _ ?_)); simp only [Act.put, List.setIfInBounds_toArray, List.set_cons_zero, List.set_cons_succ]))
    exact HFin.out
  case done =>
    rintro D xs A hD rfl ⟨⟨v, hv, hrow, _⟩, hB, hsz, hall⟩ hKD
    rw [tellL_ids] at hrow
    obtain ⟨qv, n2, cv, rfl, hn2, hids, _⟩ := own_ids_slice (show OwnIds w2.heap.size A v (levels l roots).flatten from hrow) (fun x hx => by
      rw [← tellL_ids] at hx
      obtain ⟨y, hy, rfl⟩ := List.mem_map.1 hx
      exact hall y hy)
    have hcU := hv.cell
    have HL : Hid (Calls Try.prog 24 #[.slice qv n2 cv] A (LinksPost A (reachL l roots))) := links_any qv n2 cv (reachL l roots) (by unfold reachL at hfew; omega) A hids
    have hDl := (Array.getElem?_eq_some_iff.1 hKD).1
    clear hrow hv hall hids
    gi_wp2_with (first
      | (gi_at_call 24; refine (callsIn_wide.2 HL.out).mono ?_; rintro e A2 ⟨q4, n4, rfl, hI4, hb4⟩))
    have hKD2 := (hb4.block D hDl).trans hKD
    refine ⟨by simp, .inl ⟨_, _, rfl, run_takeDeferred hKD2, ?_⟩⟩
    refine ⟨_, results_tmp rfl _ _ _, q4, n4, rfl, ?_, ?_⟩
    · have hbp : Below D A2 (A2.putObj D (.deferred none)) := below_putObj _ _ (Nat.le_refl _)
      rw [show (A2.putObj D (.deferred none)).heap.size = A2.heap.size by simp [World.putObj]]
      exact hI4.kept fun k c t fr hk hh => (World.putObj_heap_other (fun e => by subst e; rw [hKD2] at hh; cases hh)).trans hh
    · rw [hZ]; exact (hB.trans (hb4.mono (by omega))).trans (below_putObj _ _ (by omega))
  case stop => exact fun _ _ _ _ _ _ h => h.elim
end Go.Proofs.Ytfclbdlkpnoceaa
