/-
  own, without, Find, Clip and Without.
-/
import Derived.Test.YtlmfdifnkkdpfaaCl
import Derived.Test.YtlmfdifnkkdpfaaRefOD
namespace Go.Proofs.Ytlmfdifnkkdpfaa
open Go.RowKit Go.Shelf

set_option maxRecDepth 100000 in
set_option maxHeartbeats 1000000 in
/-- dir.own -/
theorem ownE_any (x : Ent) (hok : x.ok) (hn : x.name.size ≤ 1000000) (w : World) :
    Calls Try.prog 55 #[.agg (entC x).toArray] w fun e w' => e = .returned (.agg (entC x).toArray) ∧ Below w.heap.size w w' := by
  obtain ⟨w0, hw0⟩ : ∃ w0, (w.alloc (.cells (entC x).toArray 43)).alloc (.cells Try.zeroCells43 43) = w0 := ⟨_, rfl⟩
  have hb0 : Below w.heap.size w w0 := by rw [← hw0]; exact ((Below.refl _ w).alloc (Nat.le_refl _) _).alloc (by simp) _
  have hE0 : EntAt w0 w.heap.size x := by rw [← hw0]; exact ⟨hok, (Row.new' w 43 (entC x)).alloc _⟩
  have HR0 : Hid (Row w0 (w.heap.size + 1) 43 Try.zeroCells43.toList) := by
    rw [← hw0]
    have := Row.new (w.alloc (.cells (entC x).toArray 43)) 43 Try.zeroCells43
    rwa [World.size_alloc] at this
  have HW : Hid ((w.alloc (.cells (entC x).toArray 43)).alloc (.cells Try.zeroCells43 43) = w0) := hw0
  have hcN : ((w.alloc (.cells (entC x).toArray 43)).alloc (.cells Try.zeroCells43 43)).cell? ⟨w.heap.size, 32, none⟩ = some (.string x.name) := by rw [hw0]; exact hE0.name
  have HE0 : Hid (EntAt w0 w.heap.size x) := hE0
  have HOk : Hid x.ok := hok
  have HC := sclone_any x.name hn w0
  have hl0 : w.heap.size + 1 < w0.heap.size := HR0.out.lt
  clear hw0 hE0 hok
  go_enter Try.func55, Try.ntmps55
  go_wp2_with (first
    | (go_at_call 61; rw [HW.out]; refine HC.mono ?_; rintro e w1 ⟨rfl, hb1⟩; have hE1 := HE0.out.later hb1; have hc1 := hE1.name; have hf1 := hE1.row.frozen 32; have hs1 := hb1.size; have HE2 : Hid (EntAt (w1.setCell ⟨w.heap.size, 32, none⟩ (.string x.name)) w.heap.size x) := ⟨HOk.out, ((put_name HOk.out x.name : (entC x).set 32 (.string x.name) = entC x) ▸ hE1.row.set 32 (.string x.name))⟩; have HR2 : Hid (Row (w1.setCell ⟨w.heap.size, 32, none⟩ (.string x.name)) (w.heap.size + 1) 43 Try.zeroCells43.toList) := ((HR0.out.later hb1).other (a := ⟨w.heap.size, 32, none⟩) (show w.heap.size + 1 ≠ w.heap.size by omega) _); have hb2 : Below w.heap.size w (w1.setCell ⟨w.heap.size, 32, none⟩ (.string x.name)) := (hb0.trans (hb1.mono hb0.size)).setCell (p := ⟨w.heap.size, 32, none⟩) (Nat.le_refl _) _; clear hE1 hb1)
    | ((with_reducible show wpList _ _ _ (Oper.mk _ (Op.load 43 (.tmp 1)) _ _ _ _ :: _) _ _); refine wpList_loadEnt rfl (.tmp 1) rfl rfl HOk.out HE2.out.row.range ?_; simp only [Act.put, List.setIfInBounds_toArray, List.set_cons_zero, List.set_cons_succ])
    | ((with_reducible show wpList _ _ _ (Oper.mk _ (Op.store 43 (.tmp 2) (.tmp 7)) _ _ _ _ :: _) _ _); refine wpList_store_Row rfl 43 (.tmp 2) (.tmp 7) rfl (entC x) rfl rfl HR2.out (size43' HOk.out) (by rw [entC_length HOk.out, zero43_len]) (entC_one x) ?_; simp only [Act.put]))
  refine bodyPost_ret (results_cell_row rfl _ _ (w.heap.size + 1) 43 (entC x).toArray (0, 0) _ rfl (HR2.out.sets_all (by rw [entC_length HOk.out, zero43_len])) Try.underlying43 rfl (by simpa using size43' HOk.out)) rfl ?_
  exact ⟨rfl, below_setCells (Nat.le_succ _) _ _ hb2⟩

def filt (pr : Ent → Bool) (es : List Ent) : List Ent := es.filter fun x => !pr x

set_option maxRecDepth 100000 in
set_option maxHeartbeats 1000000 in
/-- dir.without -/
theorem without_any (p : Option Addr) (len cap : Nat) (es : List Ent) (w : World) (hI : IsEnts w.heap.size w p len cap es) (hnm : ∀ e ∈ es, e.name.size ≤ 1000000) (hlen : len ≤ 100000) (g : Nat) (lb : Array Value) (eg : ∀ args w, (callFunc g args).run Try.prog w = .ok (.enter g args) w) (pr : Ent → Bool)
    (hp : ∀ W, Below w.heap.size w W → ∀ x ∈ es, Calls Try.prog g (#[.agg (entC x).toArray] ++ lb) W fun e W' => e = .returned (.bool (pr x)) ∧ Below W.heap.size W W') :
    Calls Try.prog 49 #[.slice p len cap, .func (.func g) #[] lb] w fun e w' => ∃ q l c, e = .returned (.slice q l c) ∧ OwnE w.heap.size w' (.slice q l c) (filt pr es) ∧ Below w.heap.size w w' := by
  have HI : Hid (IsEnts w.heap.size w p len cap es) := hI
  have HL : Hid (es.length = len) := hI.1
  have HNm : Hid (∀ e ∈ es, e.name.size ≤ 1000000) := hnm
  have HP : Hid (∀ W, Below w.heap.size w W → ∀ x ∈ es, Calls Try.prog g (#[.agg (entC x).toArray] ++ lb) W fun e W' => e = .returned (.bool (pr x)) ∧ Below W.heap.size W W') := hp
  obtain ⟨i0, hi0, hz0, hz1, hz2⟩ := info_parts info43
  have hlc := hI.2.1
  have hcc := hI.2.2.1
  clear hI hp hnm
  go_enter Try.func49, Try.ntmps49
  go_wp2
  go_loopw [5, 10] (fun a i wr => ∃ (k : Nat) (q : Option Addr) (l c : Nat), k ≤ len ∧ i = .int .i64 k ∧ a = .slice q l c ∧ OwnE w.heap.size wr (.slice q l c) (filt pr (es.take k)) ∧ Below w.heap.size w wr) (fun _ i _ => len - (intOf i).toNat)
  case atStart => exact ⟨0, none, 0, 0, Nat.zero_le _, rfl, rfl, OwnE.nil _ _, Below.refl _ _⟩
  case round =>
    obtain ⟨k, q, l, c, hk, rfl, rfl, hown, hbel⟩ := hrel
    have HO : Hid (OwnE w.heap.size wr (.slice q l c) (filt pr (es.take k))) := hown
    clear hown
    by_cases hlt : k < len
    · have hki : (k : Int) < (len : Int) := by omega
      obtain ⟨b, off, rfl, hb, hrg, hok, hmem⟩ := (HI.out.below hbel).at hlt
      have HT : Hid (filt pr (es.take (k + 1)) = filt pr (es.take k) ++ filt pr [es.getD k noEnt]) := by
        show _ = _
        rw [ent_take es (by rw [HL.out]; exact hlt), filt, List.filter_append]; rfl
      have HFl : Hid ((filt pr (es.take k)).length ≤ 100000) := by
        show _ ≤ _
        have := List.length_filter_le (fun x => !pr x) (es.take k)
        rw [filt]; simp at this; omega
      have HRg : Hid (wr.rangeAt b (off + k * 100) (entC (es.getD k noEnt))) := hrg
      have HM : Hid (es.getD k noEnt ∈ es) := hmem
      have HX : Hid ((es.getD k noEnt).name.size ≤ 1000000) := HNm.out _ hmem
      clear hrg hmem
      generalize es.getD k noEnt = x at *
      generalize filt pr (es.take k) = F at *
      have hsz := hbel.size
      cases hq : pr x with
      | true =>
        have HTx : Hid (filt pr [x] = []) := by show _ = _; simp [filt, hq]
        go_wp2_with (first
          | ((with_reducible show wpList _ _ _ (Oper.mk _ (Op.load 43 (.tmp 12)) _ _ _ _ :: _) _ _); refine wpList_loadEnt rfl (.tmp 12) rfl rfl hok HRg.out ?_; simp only [Act.put, List.setIfInBounds_toArray, List.set_cons_zero, List.set_cons_succ])
          | ((with_reducible show wpList _ _ _ (Oper.mk _ (Op.store 43 (.tmp 7) (.tmp 13)) _ _ _ _ :: _) _ _); refine wpList_storeNew rfl (.tmp 7) (.tmp 13) rfl x hok rfl rfl (fun W2 hb2 hE => ?_); have hcN := hE.name; have hcK := hE.kind; have HE : Hid (EntAt _ _ _) := hE; clear hE; simp only [Act.put])
          | ((with_reducible show wpList _ _ _ (Oper.mk _ (Op.load 43 (.tmp 7)) _ _ _ _ :: _) _ _); refine wpList_loadEnt rfl (.tmp 7) rfl rfl hok HE.out.row.range ?_; simp only [Act.put, List.setIfInBounds_toArray, List.set_cons_zero, List.set_cons_succ])
          | (go_at_fn g; refine (HP.out W2 (hbel.trans (hb2.mono hsz)) x HM.out).mono ?_; rintro e w5 ⟨rfl, hb5⟩; rw [hq]))
        go_roundw
        case rel =>
          refine ⟨k + 1, q, l, c, by omega, by go_num, rfl, ?_, (hbel.trans (hb2.mono hsz)).trans (hb5.mono (by have := hb2.size; omega))⟩
          rw [HT.out, HTx.out, List.append_nil]
          exact (HO.out.later hb2).later hb5
        case measure => simp [intOf]; omega
      | false =>
        have HTx : Hid (filt pr [x] = [x]) := by show _ = _; simp [filt, hq]
        go_wp2_with (first
          | ((with_reducible show wpList _ _ _ (Oper.mk _ (Op.load 43 (.tmp 12)) _ _ _ _ :: _) _ _); refine wpList_loadEnt rfl (.tmp 12) rfl rfl hok HRg.out ?_; simp only [Act.put, List.setIfInBounds_toArray, List.set_cons_zero, List.set_cons_succ])
          | ((with_reducible show wpList _ _ _ (Oper.mk _ (Op.store 43 (.tmp 7) (.tmp 13)) _ _ _ _ :: _) _ _); refine wpList_storeNew rfl (.tmp 7) (.tmp 13) rfl x hok rfl rfl (fun W2 hb2 hE => ?_); have hcN := hE.name; have hcK := hE.kind; have HE : Hid (EntAt _ _ _) := hE; clear hE; simp only [Act.put])
          | (go_at_fn g; refine (HP.out W2 (hbel.trans (hb2.mono hsz)) x HM.out).mono ?_; rintro e w5 ⟨rfl, hb5⟩; rw [hq]; have HE5 : Hid (EntAt w5 wr.heap.size x) := HE.out.later hb5; have hb5' : Below w.heap.size w w5 := (hbel.trans (hb2.mono hsz)).trans (hb5.mono (by have := hb2.size; omega)); have HO5 : Hid (OwnE w.heap.size w5 (.slice q l c) F) := (HO.out.later hb2).later hb5; clear hb5)
          | ((with_reducible show wpList _ _ _ (Oper.mk (some 15) (Op.load 43 (.tmp 7)) _ _ _ _ :: _) _ _); refine wpList_loadEnt rfl (.tmp 7) rfl rfl hok HE.out.row.range ?_; simp only [Act.put, List.setIfInBounds_toArray, List.set_cons_zero, List.set_cons_succ])
          | ((with_reducible show wpList _ _ _ (Oper.mk (some 19) (Op.load 43 (.tmp 7)) _ _ _ _ :: _) _ _); refine wpList_loadEnt rfl (.tmp 7) rfl rfl hok HE5.out.row.range ?_; simp only [Act.put, List.setIfInBounds_toArray, List.set_cons_zero, List.set_cons_succ])
          | (go_at_call 55; refine (ownE_any x hok HX.out w5).mono ?_; rintro e w6 ⟨rfl, hb6⟩; have HO6 : Hid (OwnE w.heap.size w6 (.slice q l c) F) := HO5.out.later hb6; have hb6' : Below w.heap.size w w6 := hb5'.trans (hb6.mono hb5'.size); clear hb6)
          | ((with_reducible show wpList _ _ _ (Oper.mk _ (Op.buildSlice 22 1 _) _ _ _ _ :: _) _ _); refine wpList_buildOne rfl 22 43 (.tmp 20) rfl (entC x) rfl i0 _ Try.underlying22 hi0 hz0 (by rw [hz1, entC_length hok]) (by rw [entC_length hok]; omega) (by rw [entC_length hok]; omega) ?_; have hown6 : OwnE w.heap.size (w6.alloc (.cells (entC x).toArray 43)) (.slice q l c) F := World.ownsRow.alloc HO6.out _; have hs6 := hb6'.size; have hsa6 : w.heap.size ≤ (w6.alloc (.cells (entC x).toArray 43)).heap.size := (by rw [World.size_alloc]; omega); obtain ⟨ue, we, hrune, hoe, hge⟩ := run_append_ent (w6.alloc (.cells (entC x).toArray 43)) w.heap.size 22 (.slice q l c) F hown6 w6.heap.size x hok (Row.new' w6 43 _).range HFl.out hsa6; have HRune : Hid ((Builtin.append_ #[22, 22] 22 #[.slice q l c, .slice (some ⟨w6.heap.size, 0, none⟩) 1 1]).run Try.prog (w6.alloc (.cells (entC x).toArray 43)) = .ok ue we) := hrune; obtain ⟨qe, ce, hue⟩ := hoe.slice; subst hue; have HOe : Hid (OwnE w.heap.size we (.slice qe (F ++ [x]).length ce) (F ++ [x])) := hoe; have hbe : Below w.heap.size w we := (hb6'.alloc hs6 _).grown hge hsa6 (fun j ej => (World.ownsRow.lt hown6 j ej).1); clear hrune hoe hge hown6 hs6 hsa6; simp only [Act.put, List.setIfInBounds_toArray, List.set_cons_zero, List.set_cons_succ])
          | (at_builtin; refine wpList_plain rfl fun K hK => wp_append_of (.tmp 18) (.tmp 21) 22 rfl rfl rfl HRune.out (hK _ _ ?_); clear hK; simp only [Act.put, List.setIfInBounds_toArray, List.set_cons_zero, List.set_cons_succ]))
        go_roundw
        case rel =>
          refine ⟨k + 1, qe, _, ce, by omega, by go_num, rfl, ?_, hbe⟩
          rw [HT.out, HTx.out]
          exact HOe.out
        case measure => simp [intOf]; omega
    · obtain rfl : k = len := by omega
      have HTk : Hid (filt pr (es.take k) = filt pr es) := by show _ = _; rw [List.take_of_length_le (by rw [HL.out]; exact Nat.le_refl _)]
      have hO := HO.out
      rw [HTk.out] at hO
      have HO2 : Hid (OwnE w.heap.size wr (.slice q l c) (filt pr es)) := hO
      clear HO hO
      go_wp2
      go_ret
      exact ⟨_, _, _, rfl, HO2.out, hbel⟩
end Go.Proofs.Ytlmfdifnkkdpfaa
