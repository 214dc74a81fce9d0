/-
  The reference's Without.
-/
import Derived.Test.YtlmfdifnkkdpfaaWith
namespace Go.Proofs.Ytlmfdifnkkdpfaa
open Go.RowKit Go.Shelf

set_option maxRecDepth 100000 in
set_option maxHeartbeats 1000000 in
theorem refWithout_any (p : Option Addr) (len cap : Nat) (es : List Ent) (s : ByteArray) (w : World) (hI : IsEnts w.heap.size w p len cap es) (hlen : len ≤ 100000) :
    Calls Try.prog 20 #[.slice p len cap, .string s] w fun e w' => ∃ q l c, e = .returned (.slice q l c) ∧ OwnE w.heap.size w' (.slice q l c) (filt (fun x => nameB x s) es) ∧ Below w.heap.size w w' := by
  have HI : Hid (IsEnts w.heap.size w p len cap es) := hI
  have HL : Hid (es.length = len) := hI.1
  obtain ⟨i0, hi0, hz0, hz1, hz2⟩ := info_parts info43
  have hlc := hI.2.1
  have hcc := hI.2.2.1
  clear hI
  go_enter Try.func20, Try.ntmps20
  go_wp2
  go_loopw [5, 10] (fun a i wr => ∃ (k : Nat) (q : Option Addr) (l c : Nat), k ≤ len ∧ i = .int .i64 k ∧ a = .slice q l c ∧ OwnE w.heap.size wr (.slice q l c) (filt (fun x => nameB x s) (es.take k)) ∧ Below w.heap.size w wr) (fun _ i _ => len - (intOf i).toNat)
  case atStart => exact ⟨0, none, 0, 0, Nat.zero_le _, rfl, rfl, OwnE.nil _ _, Below.refl _ _⟩
  case round =>
    obtain ⟨k, q, l, c, hk, rfl, rfl, hown, hbel⟩ := hrel
    have HO : Hid (OwnE w.heap.size wr (.slice q l c) (filt (fun x => nameB x s) (es.take k))) := hown
    clear hown
    by_cases hlt : k < len
    · have hki : (k : Int) < (len : Int) := by omega
      obtain ⟨b, off, rfl, hb, hrg, hok, hmem⟩ := (HI.out.below hbel).at hlt
      have HT : Hid (filt (fun x => nameB x s) (es.take (k + 1)) = filt (fun x => nameB x s) (es.take k) ++ filt (fun x => nameB x s) [es.getD k noEnt]) := by
        show _ = _
        rw [ent_take es (by rw [HL.out]; exact hlt), filt, List.filter_append]; rfl
      have HFl : Hid ((filt (fun x => nameB x s) (es.take k)).length ≤ 100000) := by
        show _ ≤ _
        have := List.length_filter_le (fun x => !nameB x s) (es.take k)
        rw [filt]; simp at this; omega
      have HRg : Hid (wr.rangeAt b (off + k * 100) (entC (es.getD k noEnt))) := hrg
      clear hrg hmem
      generalize es.getD k noEnt = x at *
      have HTs : Hid (filt (fun x => nameB x s) [x] = if nameB x s then [] else [x]) := by show _ = _; cases h : nameB x s <;> simp [filt, h]
      generalize filt (fun x => nameB x s) (es.take k) = F at *
      generalize hT2 : filt (fun x => nameB x s) [x] = Fx at *
      have hsz := hbel.size
      have hokx := hok
      cases hq : x.name.toList == s.toList with
      | true =>
        have HTx : Hid (Fx = []) := by show _ = _; rw [HTs.out, nameB, hq]; rfl
        go_wp2_with (first
          | ((with_reducible show wpList _ _ _ (Oper.mk _ (Op.load 43 (.tmp 12)) _ _ _ _ :: _) _ _); refine wpList_loadEnt rfl (.tmp 12) rfl rfl hok HRg.out ?_; simp only [Act.put, List.setIfInBounds_toArray, List.set_cons_zero, List.set_cons_succ])
          | ((with_reducible show wpList _ _ _ (Oper.mk _ (Op.store 43 (.tmp 7) (.tmp 13)) _ _ _ _ :: _) _ _); refine wpList_storeNew rfl (.tmp 7) (.tmp 13) rfl x hok rfl rfl (fun W2 hb2 hE => ?_); have hcN := hE.name; have hcK := hE.kind; have HE : Hid (EntAt _ _ _) := hE; clear hE; simp only [Act.put])
          | fail)
        go_roundw
        case rel =>
          refine ⟨k + 1, q, l, c, by omega, by go_num, rfl, ?_, hbel.trans (hb2.mono hsz)⟩
          rw [HT.out, HTx.out, List.append_nil]
          exact HO.out.later hb2
        case measure => simp [intOf]; omega
      | false =>
        have HTx : Hid (Fx = [x]) := by show _ = _; rw [HTs.out, nameB, hq]; rfl
        go_wp2_with (first
          | ((with_reducible show wpList _ _ _ (Oper.mk _ (Op.load 43 (.tmp 12)) _ _ _ _ :: _) _ _); refine wpList_loadEnt rfl (.tmp 12) rfl rfl hok HRg.out ?_; simp only [Act.put, List.setIfInBounds_toArray, List.set_cons_zero, List.set_cons_succ])
          | ((with_reducible show wpList _ _ _ (Oper.mk _ (Op.store 43 (.tmp 7) (.tmp 13)) _ _ _ _ :: _) _ _); refine wpList_storeNew rfl (.tmp 7) (.tmp 13) rfl x hok rfl rfl (fun W2 hb2 hE => ?_); have hcN := hE.name; have hcK := hE.kind; have HE : Hid (EntAt _ _ _) := hE; clear hE; simp only [Act.put])
          | ((with_reducible show wpList _ _ _ (Oper.mk _ (Op.load 43 (.tmp 7)) _ _ _ _ :: _) _ _); refine wpList_loadEnt rfl (.tmp 7) rfl rfl hok HE.out.row.range ?_; have HOW : Hid (OwnE w.heap.size W2 (.slice q l c) F) := HO.out.later hb2; have HBW : Hid (Below w.heap.size w W2) := hbel.trans (hb2.mono hsz); simp only [Act.put, List.setIfInBounds_toArray, List.set_cons_zero, List.set_cons_succ])
          | ((with_reducible show wpList _ _ _ (Oper.mk _ (Op.buildSlice 22 1 #[(0, .tmp 19)]) _ _ _ _ :: _) _ _); refine wpList_buildOne rfl 22 43 (.tmp 19) rfl (entC x) rfl i0 _ Try.underlying22 hi0 hz0 (by rw [hz1, entC_length hokx]) (by rw [entC_length hokx]; omega) (by rw [entC_length hokx]; omega) ?_; have hownA : OwnE w.heap.size (W2.alloc (.cells (entC x).toArray 43)) (.slice q l c) F := World.ownsRow.alloc HOW.out _; have hsA := HBW.out.size; have hsB : w.heap.size ≤ (W2.alloc (.cells (entC x).toArray 43)).heap.size := (by rw [World.size_alloc]; omega); obtain ⟨ue, we, hrune, hoe, hge⟩ := run_append_ent (W2.alloc (.cells (entC x).toArray 43)) w.heap.size 22 (.slice q l c) F hownA W2.heap.size x hokx (Row.new' W2 43 _).range HFl.out hsB; have HRune : Hid ((Builtin.append_ #[22, 22] 22 #[.slice q l c, .slice (some ⟨W2.heap.size, 0, none⟩) 1 1]).run Try.prog (W2.alloc (.cells (entC x).toArray 43)) = .ok ue we) := hrune; obtain ⟨qe, ce, hue⟩ := hoe.slice; subst hue; have HOe : Hid (OwnE w.heap.size we (.slice qe (F ++ [x]).length ce) (F ++ [x])) := hoe; have hbe : Below w.heap.size w we := (HBW.out.alloc hsA _).grown hge hsB (fun j ej => (World.ownsRow.lt hownA j ej).1); clear hrune hoe hge hownA hsA hsB; simp only [Act.put, List.setIfInBounds_toArray, List.set_cons_zero, List.set_cons_succ])
          | (at_builtin; refine wpList_plain rfl fun K hK => wp_append_of (.tmp 18) (.tmp 20) 22 rfl rfl rfl HRune.out (hK _ _ ?_); clear hK; simp only [Act.put, List.setIfInBounds_toArray, List.set_cons_zero, List.set_cons_succ]))
        go_roundw
        case rel =>
          refine ⟨k + 1, qe, _, ce, by omega, by go_num, rfl, ?_, hbe⟩
          rw [HT.out, HTx.out]
          exact HOe.out
        case measure => simp [intOf]; omega
    · obtain rfl : k = len := by omega
      have HTk : Hid (filt (fun x => nameB x s) (es.take k) = filt (fun x => nameB x s) es) := by show _ = _; rw [List.take_of_length_le (by rw [HL.out]; exact Nat.le_refl _)]
      have hO := HO.out
      rw [HTk.out] at hO
      have HO2 : Hid (OwnE w.heap.size wr (.slice q l c) (filt (fun x => nameB x s) es)) := hO
      clear HO hO
      go_wp2
      go_ret
      exact ⟨_, _, _, rfl, HO2.out, hbel⟩
end Go.Proofs.Ytlmfdifnkkdpfaa
