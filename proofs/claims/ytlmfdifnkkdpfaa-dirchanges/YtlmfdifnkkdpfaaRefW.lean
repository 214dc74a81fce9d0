/-
  The reference's With.
-/
import Derived.Test.YtlmfdifnkkdpfaaMidL
namespace Go.Proofs.Ytlmfdifnkkdpfaa
open Go.RowKit Go.Shelf

set_option maxRecDepth 100000 in
set_option maxHeartbeats 2000000 in
theorem refWith_any (p : Option Addr) (len cap : Nat) (es : List Ent) (e : Ent) (hoke : e.ok) (w : World) (hI : IsEnts w.heap.size w p len cap es) (hlen : len ≤ 1000) :
    Calls Try.prog 18 #[.slice p len cap, .agg (entC e).toArray] w fun r w' => ∃ q l c, r = .returned (.slice q l c) ∧ OwnE w.heap.size w' (.slice q l c) (withL e es) ∧ Below w.heap.size w w' := by
  obtain ⟨w0, hw0⟩ : ∃ w0, w.alloc (.cells (entC e).toArray 43) = w0 := ⟨_, rfl⟩
  have hb1 : Below w.heap.size w w0 := by rw [← hw0]; exact (Below.refl _ w).alloc (Nat.le_refl _) _
  have HE0 : Hid (EntAt w0 w.heap.size e) := by rw [← hw0]; exact EntAt.new w e hoke
  have HW0 : Hid (w.alloc (.cells (entC e).toArray 43) = w0) := hw0
  have HI : Hid (IsEnts w0.heap.size w0 p len cap es) := hI.later hb1
  have HL : Hid (es.length = len) := hI.1
  obtain ⟨i0, hi0, hz0, hz1, hz2⟩ := info_parts info43
  have hlc := hI.2.1
  have hcc := hI.2.2.1
  have hse : w.heap.size < w0.heap.size := HE0.out.row.lt
  clear hI hw0
  go_enter Try.func18, Try.ntmps18
  go_wp2
  rw [HW0.out]
  go_loopw [5, 6, 11] (fun a d i wr => ∃ (k : Nat) (q : Option Addr) (l c : Nat), k ≤ len ∧ i = .int .i64 k ∧ a = .slice q l c ∧ d = .bool ((filt (withB e) (es.take k)).any (overB e)) ∧ OwnE w0.heap.size wr (.slice q l c) (midL e (filt (withB e) (es.take k))) ∧ Below w0.heap.size w0 wr) (fun _ _ i _ => len - (intOf i).toNat)
  case atStart => exact ⟨0, none, 0, 0, Nat.zero_le _, rfl, rfl, rfl, OwnE.nil _ _, Below.refl _ _⟩
  case round =>
    obtain ⟨k, q, l, c, hk, rfl, rfl, rfl, hown, hbel⟩ := hrel
    have HFl : Hid ((midL e (filt (withB e) (es.take k))).length ≤ 1001) := by
      show _ ≤ _
      have h1 := midL_length e (filt (withB e) (es.take k))
      have h2 := List.length_filter_le (fun x => !withB e x) (es.take k)
      rw [filt] at h1
      simp at h2
      rw [filt]
      omega
    by_cases hlt : k < len
    · have hki : (k : Int) < (len : Int) := by omega
      obtain ⟨b, off, rfl, hb, hrg, hok, hmem⟩ := (HI.out.below hbel).at hlt
      have HT : Hid (filt (withB e) (es.take (k + 1)) = filt (withB e) (es.take k) ++ filt (withB e) [es.getD k noEnt]) := by
        show _ = _
        rw [ent_take es (by rw [HL.out]; exact hlt), filt, List.filter_append]; rfl
      have HRg : Hid (wr.rangeAt b (off + k * 100) (entC (es.getD k noEnt))) := hrg
      clear hrg hmem
      generalize es.getD k noEnt = x at *
      have hokx := hok
      have hsz := hbel.size
      have hq := equal_ids hok.1 hoke.1
      have HS1 : Hid ((Try.prog.info? 39).map (·.size) = some (u8s x.blind).length) := by show _ = _; rw [u8s_length, hok.1.1]; exact size39
      have HS2 : Hid ((Try.prog.info? 39).map (·.size) = some (u8s e.blind).length) := by show _ = _; rw [u8s_length, hoke.1.1]; exact size39
      have HTs : Hid (filt (withB e) [x] = if withB e x then [] else [x]) := by show _ = _; cases h : withB e x <;> simp [filt, h]
      have HWb : Hid (withB e x = ((x.name.toList == e.name.toList) || decide (x.blind = e.blind))) := rfl
      have HMd : Hid ((filt (withB e) (es.take k)).any (overB e) = true → midL e (filt (withB e) (es.take k) ++ [x]) = midL e (filt (withB e) (es.take k)) ++ [x] ∧ (filt (withB e) (es.take k) ++ [x]).any (overB e) = true) := midL_done
      have HMn : Hid ((filt (withB e) (es.take k)).any (overB e) = false → overB e x = true → midL e (filt (withB e) (es.take k) ++ [x]) = (midL e (filt (withB e) (es.take k)) ++ [e]) ++ [x] ∧ (filt (withB e) (es.take k) ++ [x]).any (overB e) = true) := midL_now
      have HMo : Hid ((filt (withB e) (es.take k)).any (overB e) = false → overB e x = false → midL e (filt (withB e) (es.take k) ++ [x]) = midL e (filt (withB e) (es.take k)) ++ [x] ∧ (filt (withB e) (es.take k) ++ [x]).any (overB e) = false) := midL_not
      generalize filt (withB e) [x] = Fx at *
      generalize filt (withB e) (es.take k) = G at *
      obtain ⟨F, hF⟩ : ∃ F, midL e G = F := ⟨_, rfl⟩
      have HFe : Hid (midL e G = F) := hF
      rw [hF] at hown HFl HMd HMn HMo
      have HO : Hid (OwnE w0.heap.size wr (.slice q l c) F) := hown
      clear hown hF
      obtain ⟨dn, hdn⟩ : ∃ dn, G.any (overB e) = dn := ⟨_, rfl⟩
      have HDn : Hid (G.any (overB e) = dn) := hdn
      rw [hdn] at HMd HMn HMo ⊢
      clear hdn
      cases hn : (x.name.toList == e.name.toList) with
      | true =>
        have HTx : Hid (Fx = []) := by show _ = _; rw [HTs.out, HWb.out, hn]; rfl
        clear HTs HWb HMd HMn HMo
        go_wp2_with (first
          | ((with_reducible show wpList _ _ _ (Oper.mk _ (Op.load 43 (.tmp 13)) _ _ _ _ :: _) _ _); refine wpList_loadEnt rfl (.tmp 13) rfl rfl hok HRg.out ?_; simp only [Act.put, List.setIfInBounds_toArray, List.set_cons_zero, List.set_cons_succ])
          | ((with_reducible show wpList _ _ _ (Oper.mk _ (Op.store 43 (.tmp 8) (.tmp 14)) _ _ _ _ :: _) _ _); refine wpList_storeNew rfl (.tmp 8) (.tmp 14) rfl x hok rfl rfl (fun W2 hb2 hE => ?_); have hcN := hE.name; have hcE := (HE0.out.later (hbel.trans (hb2.mono hsz))).name; have HE : Hid (EntAt _ _ _) := hE; have HBW : Hid (Below w0.heap.size w0 W2) := hbel.trans (hb2.mono hsz); have HOW : Hid (OwnE w0.heap.size W2 (.slice q l c) F) := HO.out.later hb2; clear hE; simp only [Act.put]))
        go_roundw
        case rel =>
          refine ⟨k + 1, q, l, c, by omega, by go_num, rfl, ?_, ?_, HBW.out⟩
          · rw [HT.out, HTx.out, List.append_nil, HDn.out]
          · rw [HT.out, HTx.out, List.append_nil, HFe.out]
            exact HOW.out
        case measure => simp [intOf]; omega

      | false =>
        cases hbq : decide (x.blind = e.blind) with
        | true =>
          have HTx : Hid (Fx = []) := by show _ = _; rw [HTs.out, HWb.out, hn, hbq]; rfl
          rw [hbq] at hq
          clear HTs HWb HMd HMn HMo
          go_wp2_with (first
            | ((with_reducible show wpList _ _ _ (Oper.mk _ (Op.load 43 (.tmp 13)) _ _ _ _ :: _) _ _); refine wpList_loadEnt rfl (.tmp 13) rfl rfl hok HRg.out ?_; simp only [Act.put, List.setIfInBounds_toArray, List.set_cons_zero, List.set_cons_succ])
            | ((with_reducible show wpList _ _ _ (Oper.mk _ (Op.store 43 (.tmp 8) (.tmp 14)) _ _ _ _ :: _) _ _); refine wpList_storeNew rfl (.tmp 8) (.tmp 14) rfl x hok rfl rfl (fun W2 hb2 hE => ?_); have hcN := hE.name; have hcE := (HE0.out.later (hbel.trans (hb2.mono hsz))).name; have HE : Hid (EntAt _ _ _) := hE; have HBW : Hid (Below w0.heap.size w0 W2) := hbel.trans (hb2.mono hsz); have HOW : Hid (OwnE w0.heap.size W2 (.slice q l c) F) := HO.out.later hb2; clear hE; simp only [Act.put])
            | ((with_reducible show wpList _ _ _ (Oper.mk _ (Op.load 39 (.tmp 21)) _ _ _ _ :: _) _ _); refine wpList_load_wantMid (by rfl) 39 (.tmp 21) rfl wr.heap.size 0 rfl (u8s x.blind) HE.out.blind Try.underlying39 rfl HS1.out ?_; simp only [Act.put, List.setIfInBounds_toArray, List.set_cons_zero, List.set_cons_succ])
            | ((with_reducible show wpList _ _ _ (Oper.mk _ (Op.load 39 (.tmp 23)) _ _ _ _ :: _) _ _); refine wpList_load_wantMid (by rfl) 39 (.tmp 23) rfl w.heap.size 0 rfl (u8s e.blind) (HE0.out.later (hbel.trans (hb2.mono hsz))).blind Try.underlying39 rfl HS2.out ?_; simp only [Act.put, List.setIfInBounds_toArray, List.set_cons_zero, List.set_cons_succ]))
          go_roundw
          case rel =>
            refine ⟨k + 1, q, l, c, by omega, by go_num, rfl, ?_, ?_, HBW.out⟩
            · rw [HT.out, HTx.out, List.append_nil, HDn.out]
            · rw [HT.out, HTx.out, List.append_nil, HFe.out]
              exact HOW.out
          case measure => simp [intOf]; omega

        | false =>
          have HTx : Hid (Fx = [x]) := by show _ = _; rw [HTs.out, HWb.out, hn, hbq]; rfl
          rw [hbq] at hq
          clear HTs HWb
          cases dn with
          | true =>
            have HM : Hid (_ ∧ _) := HMd.out rfl
            clear HMd HMn HMo
            go_wp2_with (first
              | ((with_reducible show wpList _ _ _ (Oper.mk _ (Op.load 43 (.tmp 13)) _ _ _ _ :: _) _ _); refine wpList_loadEnt rfl (.tmp 13) rfl rfl hok HRg.out ?_; simp only [Act.put, List.setIfInBounds_toArray, List.set_cons_zero, List.set_cons_succ])
              | ((with_reducible show wpList _ _ _ (Oper.mk _ (Op.store 43 (.tmp 8) (.tmp 14)) _ _ _ _ :: _) _ _); refine wpList_storeNew rfl (.tmp 8) (.tmp 14) rfl x hok rfl rfl (fun W2 hb2 hE => ?_); have hcN := hE.name; have hcE := (HE0.out.later (hbel.trans (hb2.mono hsz))).name; have HE : Hid (EntAt _ _ _) := hE; have HBW : Hid (Below w0.heap.size w0 W2) := hbel.trans (hb2.mono hsz); have HOW : Hid (OwnE w0.heap.size W2 (.slice q l c) F) := HO.out.later hb2; clear hE; simp only [Act.put])
              | ((with_reducible show wpList _ _ _ (Oper.mk _ (Op.load 39 (.tmp 21)) _ _ _ _ :: _) _ _); refine wpList_load_wantMid (by rfl) 39 (.tmp 21) rfl wr.heap.size 0 rfl (u8s x.blind) HE.out.blind Try.underlying39 rfl HS1.out ?_; simp only [Act.put, List.setIfInBounds_toArray, List.set_cons_zero, List.set_cons_succ])
              | ((with_reducible show wpList _ _ _ (Oper.mk _ (Op.load 39 (.tmp 23)) _ _ _ _ :: _) _ _); refine wpList_load_wantMid (by rfl) 39 (.tmp 23) rfl w.heap.size 0 rfl (u8s e.blind) (HE0.out.later (hbel.trans (hb2.mono hsz))).blind Try.underlying39 rfl HS2.out ?_; simp only [Act.put, List.setIfInBounds_toArray, List.set_cons_zero, List.set_cons_succ])
              | ((with_reducible show wpList _ _ _ (Oper.mk (some 41) (Op.load 43 (.tmp 8)) _ _ _ _ :: _) _ _); refine wpList_loadEnt rfl (.tmp 8) rfl rfl hokx HE.out.row.range ?_; simp only [Act.put, List.setIfInBounds_toArray, List.set_cons_zero, List.set_cons_succ])
              | ((with_reducible show wpList _ _ _ (Oper.mk _ (Op.buildSlice 22 1 #[(0, .tmp 41)]) _ _ _ _ :: _) _ _); refine wpList_buildOne rfl 22 43 (.tmp 41) rfl (entC x) rfl i0 _ Try.underlying22 hi0 hz0 (by rw [hz1, entC_length hokx]) (by rw [entC_length hokx]; omega) (by rw [entC_length hokx]; omega) ?_; have hownA : OwnE w0.heap.size (W2.alloc (.cells (entC x).toArray 43)) (.slice q l c) F := World.ownsRow.alloc HOW.out _; have hsA := HBW.out.size; have hsB : w0.heap.size ≤ (W2.alloc (.cells (entC x).toArray 43)).heap.size := (by rw [World.size_alloc]; omega); obtain ⟨uB, wB, hrun, hoe, hge⟩ := run_append_ent (W2.alloc (.cells (entC x).toArray 43)) w0.heap.size 22 (.slice q l c) F hownA W2.heap.size x hokx (Row.new' W2 43 _).range (by have := HFl.out; simp; omega) hsB; have HRunB : Hid ((Builtin.append_ #[22, 22] 22 #[.slice q l c, .slice (some ⟨W2.heap.size, 0, none⟩) 1 1]).run Try.prog (W2.alloc (.cells (entC x).toArray 43)) = .ok uB wB) := hrun; obtain ⟨qB, cB, hue⟩ := hoe.slice; subst hue; have HOB : Hid (OwnE w0.heap.size wB (.slice qB (F ++ [x]).length cB) (F ++ [x])) := hoe; have HBB : Hid (Below w0.heap.size w0 wB) := (HBW.out.alloc hsA _).grown hge hsB (fun j ej => (World.ownsRow.lt hownA j ej).1); clear hrun hoe hge hownA hsA hsB; simp only [Act.put, List.setIfInBounds_toArray, List.set_cons_zero, List.set_cons_succ])
              | (at_builtin; refine wpList_plain rfl fun K hK => wp_append_of (.tmp 40) (.tmp 42) 22 rfl rfl rfl HRunB.out (hK _ _ ?_); clear hK; simp only [Act.put, List.setIfInBounds_toArray, List.set_cons_zero, List.set_cons_succ]))
            go_roundw
            case rel =>
              refine ⟨k + 1, qB, _, cB, by omega, by go_num, rfl, ?_, ?_, HBB.out⟩
              · rw [HT.out, HTx.out, HM.out.2]
              · rw [HT.out, HTx.out, HM.out.1]
                exact HOB.out
            case measure => simp [intOf]; omega

          | false =>
            obtain ⟨ov, hov⟩ : ∃ ov, ltB e.blind x.blind = ov := ⟨_, rfl⟩
            have HOv : Hid (ltB e.blind x.blind = ov) := hov
            cases ov with
            | true =>
              have HM : Hid (_ ∧ _) := HMn.out rfl hov
              clear HMd HMn HMo hov
              go_wp2_with (first
                | ((with_reducible show wpList _ _ _ (Oper.mk _ (Op.load 43 (.tmp 13)) _ _ _ _ :: _) _ _); refine wpList_loadEnt rfl (.tmp 13) rfl rfl hok HRg.out ?_; simp only [Act.put, List.setIfInBounds_toArray, List.set_cons_zero, List.set_cons_succ])
                | ((with_reducible show wpList _ _ _ (Oper.mk _ (Op.store 43 (.tmp 8) (.tmp 14)) _ _ _ _ :: _) _ _); refine wpList_storeNew rfl (.tmp 8) (.tmp 14) rfl x hok rfl rfl (fun W2 hb2 hE => ?_); have hcN := hE.name; have hcE := (HE0.out.later (hbel.trans (hb2.mono hsz))).name; have HE : Hid (EntAt _ _ _) := hE; have HBW : Hid (Below w0.heap.size w0 W2) := hbel.trans (hb2.mono hsz); have HOW : Hid (OwnE w0.heap.size W2 (.slice q l c) F) := HO.out.later hb2; clear hE; simp only [Act.put])
                | ((with_reducible show wpList _ _ _ (Oper.mk _ (Op.load 39 (.tmp 21)) _ _ _ _ :: _) _ _); refine wpList_load_wantMid (by rfl) 39 (.tmp 21) rfl wr.heap.size 0 rfl (u8s x.blind) HE.out.blind Try.underlying39 rfl HS1.out ?_; simp only [Act.put, List.setIfInBounds_toArray, List.set_cons_zero, List.set_cons_succ])
                | ((with_reducible show wpList _ _ _ (Oper.mk _ (Op.load 39 (.tmp 23)) _ _ _ _ :: _) _ _); refine wpList_load_wantMid (by rfl) 39 (.tmp 23) rfl w.heap.size 0 rfl (u8s e.blind) (HE0.out.later (hbel.trans (hb2.mono hsz))).blind Try.underlying39 rfl HS2.out ?_; simp only [Act.put, List.setIfInBounds_toArray, List.set_cons_zero, List.set_cons_succ])
                | ((with_reducible show wpList _ _ _ (Oper.mk _ (Op.load 39 (.tmp 30)) _ _ _ _ :: _) _ _); refine wpList_load_wantMid (by rfl) 39 (.tmp 30) rfl w.heap.size 0 rfl (u8s e.blind) (HE0.out.later (hbel.trans (hb2.mono hsz))).blind Try.underlying39 rfl HS2.out ?_; simp only [Act.put, List.setIfInBounds_toArray, List.set_cons_zero, List.set_cons_succ])
                | ((with_reducible show wpList _ _ _ (Oper.mk _ (Op.load 39 (.tmp 32)) _ _ _ _ :: _) _ _); refine wpList_load_wantMid (by rfl) 39 (.tmp 32) rfl wr.heap.size 0 rfl (u8s x.blind) HE.out.blind Try.underlying39 rfl HS1.out ?_; simp only [Act.put, List.setIfInBounds_toArray, List.set_cons_zero, List.set_cons_succ])
                | (go_at_call 40; refine (less_any e.blind x.blind hoke.1 hok.1 W2).mono ?_; rintro r w6 ⟨rfl, q6, hw6⟩; have hb6 : Below W2.heap.size W2 w6 := (by rw [hw6]; exact below_drewN (((Below.refl _ W2).alloc (Nat.le_refl _) _).alloc (by simp) _) _); rw [HOv.out]; have HE6 : Hid (EntAt w6 wr.heap.size x) := HE.out.later hb6; have HB6 : Hid (Below w0.heap.size w0 w6) := HBW.out.trans (hb6.mono HBW.out.size); have HO6 : Hid (OwnE w0.heap.size w6 (.slice q l c) F) := HOW.out.later hb6; have HEe6 : Hid (EntAt w6 w.heap.size e) := HE0.out.later HB6.out; clear hw6)
                | ((with_reducible show wpList _ _ _ (Oper.mk (some 37) (Op.load 43 (.tmp 3)) _ _ _ _ :: _) _ _); refine wpList_loadEnt rfl (.tmp 3) rfl rfl hoke HEe6.out.row.range ?_; simp only [Act.put, List.setIfInBounds_toArray, List.set_cons_zero, List.set_cons_succ])
                | ((with_reducible show wpList _ _ _ (Oper.mk _ (Op.buildSlice 22 1 #[(0, .tmp 37)]) _ _ _ _ :: _) _ _); refine wpList_buildOne rfl 22 43 (.tmp 37) rfl (entC e) rfl i0 _ Try.underlying22 hi0 hz0 (by rw [hz1, entC_length hoke]) (by rw [entC_length hoke]; omega) (by rw [entC_length hoke]; omega) ?_; have hownA : OwnE w0.heap.size (w6.alloc (.cells (entC e).toArray 43)) (.slice q l c) F := World.ownsRow.alloc HO6.out _; have hsA := HB6.out.size; have hsB : w0.heap.size ≤ (w6.alloc (.cells (entC e).toArray 43)).heap.size := (by rw [World.size_alloc]; omega); obtain ⟨uA, wA, hrun, hoe, hge⟩ := run_append_ent (w6.alloc (.cells (entC e).toArray 43)) w0.heap.size 22 (.slice q l c) F hownA w6.heap.size e hoke (Row.new' w6 43 _).range (by have := HFl.out; simp; omega) hsB; have HRunA : Hid ((Builtin.append_ #[22, 22] 22 #[.slice q l c, .slice (some ⟨w6.heap.size, 0, none⟩) 1 1]).run Try.prog (w6.alloc (.cells (entC e).toArray 43)) = .ok uA wA) := hrun; obtain ⟨qA, cA, hue⟩ := hoe.slice; subst hue; have HOA : Hid (OwnE w0.heap.size wA (.slice qA (F ++ [e]).length cA) (F ++ [e])) := hoe; have HBA : Hid (Below w0.heap.size w0 wA) := (HB6.out.alloc hsA _).grown hge hsB (fun j ej => (World.ownsRow.lt hownA j ej).1); have HEXA : Hid (Row wA wr.heap.size 43 (entC x)) := (hge.block wr.heap.size (by have := HE6.out.row.lt; rw [World.size_alloc]; omega) (fun ej => Nat.lt_irrefl _ (World.ownsRow.lt HO.out _ ej.symm).2)).trans (HE6.out.row.alloc _); clear hrun hoe hge hownA hsA hsB; simp only [Act.put, List.setIfInBounds_toArray, List.set_cons_zero, List.set_cons_succ])
                | (at_builtin; refine wpList_plain rfl fun K hK => wp_append_of (.tmp 36) (.tmp 38) 22 rfl rfl rfl HRunA.out (hK _ _ ?_); clear hK; simp only [Act.put, List.setIfInBounds_toArray, List.set_cons_zero, List.set_cons_succ])
                | ((with_reducible show wpList _ _ _ (Oper.mk (some 41) (Op.load 43 (.tmp 8)) _ _ _ _ :: _) _ _); refine wpList_loadEnt rfl (.tmp 8) rfl rfl hokx HEXA.out.range ?_; simp only [Act.put, List.setIfInBounds_toArray, List.set_cons_zero, List.set_cons_succ])
                | ((with_reducible show wpList _ _ _ (Oper.mk _ (Op.buildSlice 22 1 #[(0, .tmp 41)]) _ _ _ _ :: _) _ _); refine wpList_buildOne rfl 22 43 (.tmp 41) rfl (entC x) rfl i0 _ Try.underlying22 hi0 hz0 (by rw [hz1, entC_length hokx]) (by rw [entC_length hokx]; omega) (by rw [entC_length hokx]; omega) ?_; have hownA : OwnE w0.heap.size (wA.alloc (.cells (entC x).toArray 43)) (.slice qA (F ++ [e]).length cA) (F ++ [e]) := World.ownsRow.alloc HOA.out _; have hsA := HBA.out.size; have hsB : w0.heap.size ≤ (wA.alloc (.cells (entC x).toArray 43)).heap.size := (by rw [World.size_alloc]; omega); obtain ⟨uB, wB, hrun, hoe, hge⟩ := run_append_ent (wA.alloc (.cells (entC x).toArray 43)) w0.heap.size 22 (.slice qA (F ++ [e]).length cA) (F ++ [e]) hownA wA.heap.size x hokx (Row.new' wA 43 _).range (by have := HFl.out; simp; omega) hsB; have HRunB : Hid ((Builtin.append_ #[22, 22] 22 #[.slice qA (F ++ [e]).length cA, .slice (some ⟨wA.heap.size, 0, none⟩) 1 1]).run Try.prog (wA.alloc (.cells (entC x).toArray 43)) = .ok uB wB) := hrun; obtain ⟨qB, cB, hue⟩ := hoe.slice; subst hue; have HOB : Hid (OwnE w0.heap.size wB (.slice qB ((F ++ [e]) ++ [x]).length cB) ((F ++ [e]) ++ [x])) := hoe; have HBB : Hid (Below w0.heap.size w0 wB) := (HBA.out.alloc hsA _).grown hge hsB (fun j ej => (World.ownsRow.lt hownA j ej).1); clear hrun hoe hge hownA hsA hsB; simp only [Act.put, List.setIfInBounds_toArray, List.set_cons_zero, List.set_cons_succ])
                | (at_builtin; refine wpList_plain rfl fun K hK => wp_append_of (.tmp 40) (.tmp 42) 22 rfl rfl rfl HRunB.out (hK _ _ ?_); clear hK; simp only [Act.put, List.setIfInBounds_toArray, List.set_cons_zero, List.set_cons_succ]))
              go_roundw
              case rel =>
                refine ⟨k + 1, qB, _, cB, by omega, by go_num, rfl, ?_, ?_, HBB.out⟩
                · rw [HT.out, HTx.out, HM.out.2]
                · rw [HT.out, HTx.out, HM.out.1]
                  exact HOB.out
              case measure => simp [intOf]; omega

            | false =>
              have HM : Hid (_ ∧ _) := HMo.out rfl hov
              clear HMd HMn HMo hov
              go_wp2_with (first
                | ((with_reducible show wpList _ _ _ (Oper.mk _ (Op.load 43 (.tmp 13)) _ _ _ _ :: _) _ _); refine wpList_loadEnt rfl (.tmp 13) rfl rfl hok HRg.out ?_; simp only [Act.put, List.setIfInBounds_toArray, List.set_cons_zero, List.set_cons_succ])
                | ((with_reducible show wpList _ _ _ (Oper.mk _ (Op.store 43 (.tmp 8) (.tmp 14)) _ _ _ _ :: _) _ _); refine wpList_storeNew rfl (.tmp 8) (.tmp 14) rfl x hok rfl rfl (fun W2 hb2 hE => ?_); have hcN := hE.name; have hcE := (HE0.out.later (hbel.trans (hb2.mono hsz))).name; have HE : Hid (EntAt _ _ _) := hE; have HBW : Hid (Below w0.heap.size w0 W2) := hbel.trans (hb2.mono hsz); have HOW : Hid (OwnE w0.heap.size W2 (.slice q l c) F) := HO.out.later hb2; clear hE; simp only [Act.put])
                | ((with_reducible show wpList _ _ _ (Oper.mk _ (Op.load 39 (.tmp 21)) _ _ _ _ :: _) _ _); refine wpList_load_wantMid (by rfl) 39 (.tmp 21) rfl wr.heap.size 0 rfl (u8s x.blind) HE.out.blind Try.underlying39 rfl HS1.out ?_; simp only [Act.put, List.setIfInBounds_toArray, List.set_cons_zero, List.set_cons_succ])
                | ((with_reducible show wpList _ _ _ (Oper.mk _ (Op.load 39 (.tmp 23)) _ _ _ _ :: _) _ _); refine wpList_load_wantMid (by rfl) 39 (.tmp 23) rfl w.heap.size 0 rfl (u8s e.blind) (HE0.out.later (hbel.trans (hb2.mono hsz))).blind Try.underlying39 rfl HS2.out ?_; simp only [Act.put, List.setIfInBounds_toArray, List.set_cons_zero, List.set_cons_succ])
                | ((with_reducible show wpList _ _ _ (Oper.mk _ (Op.load 39 (.tmp 30)) _ _ _ _ :: _) _ _); refine wpList_load_wantMid (by rfl) 39 (.tmp 30) rfl w.heap.size 0 rfl (u8s e.blind) (HE0.out.later (hbel.trans (hb2.mono hsz))).blind Try.underlying39 rfl HS2.out ?_; simp only [Act.put, List.setIfInBounds_toArray, List.set_cons_zero, List.set_cons_succ])
                | ((with_reducible show wpList _ _ _ (Oper.mk _ (Op.load 39 (.tmp 32)) _ _ _ _ :: _) _ _); refine wpList_load_wantMid (by rfl) 39 (.tmp 32) rfl wr.heap.size 0 rfl (u8s x.blind) HE.out.blind Try.underlying39 rfl HS1.out ?_; simp only [Act.put, List.setIfInBounds_toArray, List.set_cons_zero, List.set_cons_succ])
                | (go_at_call 40; refine (less_any e.blind x.blind hoke.1 hok.1 W2).mono ?_; rintro r w6 ⟨rfl, q6, hw6⟩; have hb6 : Below W2.heap.size W2 w6 := (by rw [hw6]; exact below_drewN (((Below.refl _ W2).alloc (Nat.le_refl _) _).alloc (by simp) _) _); rw [HOv.out]; have HE6 : Hid (EntAt w6 wr.heap.size x) := HE.out.later hb6; have HB6 : Hid (Below w0.heap.size w0 w6) := HBW.out.trans (hb6.mono HBW.out.size); have HO6 : Hid (OwnE w0.heap.size w6 (.slice q l c) F) := HOW.out.later hb6; have HEe6 : Hid (EntAt w6 w.heap.size e) := HE0.out.later HB6.out; clear hw6)
                | ((with_reducible show wpList _ _ _ (Oper.mk (some 41) (Op.load 43 (.tmp 8)) _ _ _ _ :: _) _ _); refine wpList_loadEnt rfl (.tmp 8) rfl rfl hokx HE6.out.row.range ?_; simp only [Act.put, List.setIfInBounds_toArray, List.set_cons_zero, List.set_cons_succ])
                | ((with_reducible show wpList _ _ _ (Oper.mk _ (Op.buildSlice 22 1 #[(0, .tmp 41)]) _ _ _ _ :: _) _ _); refine wpList_buildOne rfl 22 43 (.tmp 41) rfl (entC x) rfl i0 _ Try.underlying22 hi0 hz0 (by rw [hz1, entC_length hokx]) (by rw [entC_length hokx]; omega) (by rw [entC_length hokx]; omega) ?_; have hownA : OwnE w0.heap.size (w6.alloc (.cells (entC x).toArray 43)) (.slice q l c) F := World.ownsRow.alloc HO6.out _; have hsA := HB6.out.size; have hsB : w0.heap.size ≤ (w6.alloc (.cells (entC x).toArray 43)).heap.size := (by rw [World.size_alloc]; omega); obtain ⟨uB, wB, hrun, hoe, hge⟩ := run_append_ent (w6.alloc (.cells (entC x).toArray 43)) w0.heap.size 22 (.slice q l c) F hownA w6.heap.size x hokx (Row.new' w6 43 _).range (by have := HFl.out; simp; omega) hsB; have HRunB : Hid ((Builtin.append_ #[22, 22] 22 #[.slice q l c, .slice (some ⟨w6.heap.size, 0, none⟩) 1 1]).run Try.prog (w6.alloc (.cells (entC x).toArray 43)) = .ok uB wB) := hrun; obtain ⟨qB, cB, hue⟩ := hoe.slice; subst hue; have HOB : Hid (OwnE w0.heap.size wB (.slice qB (F ++ [x]).length cB) (F ++ [x])) := hoe; have HBB : Hid (Below w0.heap.size w0 wB) := (HB6.out.alloc hsA _).grown hge hsB (fun j ej => (World.ownsRow.lt hownA j ej).1); clear hrun hoe hge hownA hsA hsB; simp only [Act.put, List.setIfInBounds_toArray, List.set_cons_zero, List.set_cons_succ])
                | (at_builtin; refine wpList_plain rfl fun K hK => wp_append_of (.tmp 40) (.tmp 42) 22 rfl rfl rfl HRunB.out (hK _ _ ?_); clear hK; simp only [Act.put, List.setIfInBounds_toArray, List.set_cons_zero, List.set_cons_succ]))
              go_roundw
              case rel =>
                refine ⟨k + 1, qB, _, cB, by omega, by go_num, rfl, ?_, ?_, HBB.out⟩
                · rw [HT.out, HTx.out, HM.out.2]
                · rw [HT.out, HTx.out, HM.out.1]
                  exact HOB.out
              case measure => simp [intOf]; omega

    · obtain rfl : k = len := by omega
      have HTk : Hid (es.take k = es) := List.take_of_length_le (by rw [HL.out]; exact Nat.le_refl _)
      have HEnd := midL_end e es
      have hbr := hbel
      have HBr : Hid (Below w0.heap.size w0 wr) := hbel
      rw [HTk.out] at hown HFl ⊢
      have HMe : Hid (withL e es = if (filt (withB e) es).any (overB e) then midL e (filt (withB e) es) else midL e (filt (withB e) es) ++ [e]) := HEnd
      clear HEnd
      generalize midL e (filt (withB e) es) = F at *
      have HO : Hid (OwnE w0.heap.size wr (.slice q l c) F) := hown
      have HEr : Hid (EntAt wr w.heap.size e) := HE0.out.later hbel
      clear hown
      cases hd : (filt (withB e) es).any (overB e) with
      | true =>
        rw [hd] at HMe
        go_wp2
        go_ret
        refine ⟨_, _, _, rfl, ?_, hb1.trans (hbr.mono hb1.size)⟩
        have hx : withL e es = F := by rw [HMe.out]; simp
        rw [hx]
        exact HO.out.mono hb1.size
      | false =>
        rw [hd] at HMe
        go_wp2_with (first
          | ((with_reducible show wpList _ _ _ (Oper.mk (some 48) (Op.load 43 (.tmp 3)) _ _ _ _ :: _) _ _); refine wpList_loadEnt rfl (.tmp 3) rfl rfl hoke HEr.out.row.range ?_; simp only [Act.put, List.setIfInBounds_toArray, List.set_cons_zero, List.set_cons_succ])
          | ((with_reducible show wpList _ _ _ (Oper.mk _ (Op.buildSlice 22 1 #[(0, .tmp 48)]) _ _ _ _ :: _) _ _); refine wpList_buildOne rfl 22 43 (.tmp 48) rfl (entC e) rfl i0 _ Try.underlying22 hi0 hz0 (by rw [hz1, entC_length hoke]) (by rw [entC_length hoke]; omega) (by rw [entC_length hoke]; omega) ?_; have hownA : OwnE w0.heap.size (wr.alloc (.cells (entC e).toArray 43)) (.slice q l c) F := World.ownsRow.alloc HO.out _; have hsA := HBr.out.size; have hsB : w0.heap.size ≤ (wr.alloc (.cells (entC e).toArray 43)).heap.size := (by rw [World.size_alloc]; omega); obtain ⟨uB, wB, hrun, hoe, hge⟩ := run_append_ent (wr.alloc (.cells (entC e).toArray 43)) w0.heap.size 22 (.slice q l c) F hownA wr.heap.size e hoke (Row.new' wr 43 _).range (by have := HFl.out; simp; omega) hsB; have HRunB : Hid ((Builtin.append_ #[22, 22] 22 #[.slice q l c, .slice (some ⟨wr.heap.size, 0, none⟩) 1 1]).run Try.prog (wr.alloc (.cells (entC e).toArray 43)) = .ok uB wB) := hrun; obtain ⟨qB, cB, hue⟩ := hoe.slice; subst hue; have HOB : Hid (OwnE w0.heap.size wB (.slice qB (F ++ [e]).length cB) (F ++ [e])) := hoe; have HBB : Hid (Below w0.heap.size w0 wB) := (HBr.out.alloc hsA _).grown hge hsB (fun j ej => (World.ownsRow.lt hownA j ej).1); clear hrun hoe hge hownA hsA hsB; simp only [Act.put, List.setIfInBounds_toArray, List.set_cons_zero, List.set_cons_succ])
          | (at_builtin; refine wpList_plain rfl fun K hK => wp_append_of (.tmp 47) (.tmp 49) 22 rfl rfl rfl HRunB.out (hK _ _ ?_); clear hK; simp only [Act.put, List.setIfInBounds_toArray, List.set_cons_zero, List.set_cons_succ]))
        go_ret
        refine ⟨_, _, _, rfl, ?_, hb1.trans (HBB.out.mono hb1.size)⟩
        have hx : withL e es = F ++ [e] := by rw [HMe.out]; simp
        rw [hx]
        exact HOB.out.mono hb1.size
end Go.Proofs.Ytlmfdifnkkdpfaa
