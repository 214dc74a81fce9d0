/-
  What entries link to.
-/
import Derived.Test.YtlmfdifnkkdpfaaWith
import Derived.Test.YtlmfdifnkkdpfaaLinksAll
import Derived.Test.YtlmfdifnkkdpfaaRefLinksAll
namespace Go.Proofs.Ytlmfdifnkkdpfaa
open Go.RowKit Go.Shelf

def idsE (es : List Ent) : List (List Nat) := es.map (·.id)
theorem idsE_ok {es : List Ent} (h : ∀ e ∈ es, e.ok) : Hid (∀ x ∈ idsE es, x.length = 32 ∧ ∀ z ∈ x, z < 256) := fun x hx => by
  obtain ⟨e, he, rfl⟩ := List.mem_map.1 hx
  exact (h e he).2.1

set_option maxRecDepth 100000 in
set_option maxHeartbeats 1000000 in
theorem dirLinks_any (p : Option Addr) (len cap : Nat) (es : List Ent) (w : World) (hI : IsEnts w.heap.size w p len cap es) (hlen : len ≤ 1000) :
    Calls Try.prog 25 #[.slice p len cap] w fun e w' => ∃ q n, e = .returned (.slice q n n) ∧ IsIds w'.heap.size w' q n n (linksL (idsE es)) ∧ Below w.heap.size w w' := by
  have HI : Hid (IsEnts w.heap.size w p len cap es) := hI
  have HL : Hid (es.length = len) := hI.1
  obtain ⟨i0, hi0, hz0, hz1, hz2⟩ := info_parts info39
  have hlc := hI.2.1
  have hcc := hI.2.2.1
  have HEs := idsE_ok hI.2.2.2.1
  have HIl : Hid ((idsE es).length = len) := by show _ = _; simp [idsE, HL.out]
  clear hI
  go_enter Try.func25, Try.ntmps25
  go_wp2_with (at_make; refine wpList_make_own _ rfl _ _ 51 rfl w.heap.size 39 i0 _ 32 Try.underlying51 hi0 hz0 hz1 _ _ _ len rfl rfl (by omega) (by rw [hz2]; omega) (by simp only [maxLen]; omega) (Nat.le_refl _) ?_; intro w1 hown1 hgrow1; have hb1 : Below w.heap.size w w1 := ((Below.refl _ w).grown hgrow1 (Nat.le_refl _) (fun k e => by cases e)); have HO1 : Hid (OwnIds w.heap.size w1 (.slice (some ⟨w.heap.size, 0, none⟩) 0 len) []) := hown1; clear hown1 hgrow1)
  go_loopw [3, 11] (fun a i wr => ∃ (k : Nat) (q : Option Addr) (l c : Nat), k ≤ len ∧ i = .int .i64 k ∧ a = .slice q l c ∧ OwnIds w.heap.size wr (.slice q l c) (idsE (es.take k)) ∧ Below w.heap.size w wr) (fun _ i _ => len - (intOf i).toNat)
  case atStart => exact ⟨0, _, _, _, Nat.zero_le _, rfl, rfl, HO1.out, hb1⟩
  case round =>
    obtain ⟨k, q, l, c, hk, rfl, rfl, hown, hbel⟩ := hrel
    have HO : Hid (OwnIds w.heap.size wr (.slice q l c) (idsE (es.take k))) := hown
    clear hown
    by_cases hlt : k < len
    · have hki : (k : Int) < (len : Int) := by omega
      obtain ⟨b, off, rfl, hb, hrg, hok, hmem⟩ := (HI.out.below hbel).at hlt
      have HT : Hid (idsE (es.take (k + 1)) = idsE (es.take k) ++ [(es.getD k noEnt).id]) := by
        show _ = _
        rw [ent_take es (by rw [HL.out]; exact hlt)]; simp [idsE]
      have HFl : Hid ((idsE (es.take k)).length ≤ 100000) := by show _ ≤ _; simp [idsE]; omega
      have HRg : Hid (wr.rangeAt b (off + k * 100) (entC (es.getD k noEnt))) := hrg
      clear hrg hmem
      generalize es.getD k noEnt = x at *
      generalize idsE (es.take k) = F at *
      have hsz := hbel.size
      have hid : x.id.length = 32 := hok.2.1.1
      have HS : Hid ((Try.prog.info? 39).map (·.size) = some (u8s x.id).length) := by rw [u8s_length, hid]; exact size39
      go_wp2_with (first
        | ((with_reducible show wpList _ _ _ (Oper.mk _ (Op.load 43 (.tmp 13)) _ _ _ _ :: _) _ _); refine wpList_loadEnt rfl (.tmp 13) rfl rfl hok HRg.out ?_; simp only [Act.put, List.setIfInBounds_toArray, List.set_cons_zero, List.set_cons_succ])
        | ((with_reducible show wpList _ _ _ (Oper.mk _ (Op.store 43 (.tmp 5) (.tmp 14)) _ _ _ _ :: _) _ _); refine wpList_storeNew rfl (.tmp 5) (.tmp 14) rfl x hok rfl rfl (fun W2 hb2 hE => ?_); have hcN := hE.name; have hcK := hE.kind; have HE : Hid (EntAt _ _ _) := hE; clear hE; simp only [Act.put])
        | ((with_reducible show wpList _ _ _ (Oper.mk _ (Op.load 39 (.tmp 16)) _ _ _ _ :: _) _ _); refine wpList_load_mid rfl 39 (.tmp 16) rfl wr.heap.size 34 rfl (u8s x.id) _ HE.out.id Try.underlying39 rfl HS.out ?_; have HOW : Hid (OwnIds w.heap.size W2 (.slice q l c) F) := HO.out.later hb2; have HBW : Hid (Below w.heap.size w W2) := hbel.trans (hb2.mono hsz); simp only [Act.put, List.setIfInBounds_toArray, List.set_cons_zero, List.set_cons_succ])
        | ((with_reducible show wpList _ _ _ (Oper.mk _ (Op.buildSlice 51 1 _) _ _ _ _ :: _) _ _); refine wpList_buildOne rfl 51 39 (.tmp 17) rfl (u8s x.id) rfl i0 _ Try.underlying51 hi0 hz0 (by rw [hz1, u8s_length, hid]) (by rw [u8s_length]; omega) (by rw [u8s_length]; omega) ?_; have hownA : OwnIds w.heap.size (W2.alloc (.cells (u8s x.id).toArray 39)) (.slice q l c) F := World.ownsRow.alloc HOW.out _; have hsA := HBW.out.size; have hsB : w.heap.size ≤ (W2.alloc (.cells (u8s x.id).toArray 39)).heap.size := (by rw [World.size_alloc]; omega); obtain ⟨ue, we, hrune, hoe, hge⟩ := run_append_id (W2.alloc (.cells (u8s x.id).toArray 39)) w.heap.size 51 (.slice q l c) F hownA W2.heap.size x.id hid (Row.new' W2 39 _).range HFl.out hsB; have HRune : Hid ((Builtin.append_ #[51, 51] 51 #[.slice q l c, .slice (some ⟨W2.heap.size, 0, none⟩) 1 1]).run Try.prog (W2.alloc (.cells (u8s x.id).toArray 39)) = .ok ue we) := hrune; obtain ⟨qe, ce, hue⟩ := hoe.slice; subst hue; have HOe : Hid (OwnIds w.heap.size we (.slice qe (F ++ [x.id]).length ce) (F ++ [x.id])) := hoe; have hbe : Below w.heap.size w we := (HBW.out.alloc hsA _).grown hge hsB (fun j ej => (World.ownsRow.lt hownA j ej).1); clear hrune hoe hge hownA hsA hsB; simp only [Act.put, List.setIfInBounds_toArray, List.set_cons_zero, List.set_cons_succ])
        | (at_builtin; refine wpList_plain rfl fun K hK => wp_append_of (.tmp 15) (.tmp 18) 51 rfl rfl rfl HRune.out (hK _ _ ?_); clear hK; simp only [Act.put, List.setIfInBounds_toArray, List.set_cons_zero, List.set_cons_succ]))
      go_roundw
      case rel =>
        refine ⟨k + 1, qe, _, ce, by omega, by go_num, rfl, ?_, hbe⟩
        rw [HT.out]
        exact HOe.out
      case measure => simp [intOf]; omega
    · obtain rfl : k = len := by omega
      have HTk : Hid (idsE (es.take k) = idsE es) := by show _ = _; rw [List.take_of_length_le (by rw [HL.out]; exact Nat.le_refl _)]
      have hO := HO.out
      rw [HTk.out] at hO
      obtain rfl : l = k := by
        obtain ⟨_, _, e⟩ := hO.slice
        cases e
        exact HIl.out
      have HJ : Hid (IsIds wr.heap.size wr q l c (idsE es)) := hO.ids HIl.out HEs.out
      clear HO hO
      have hs := hbel.size
      go_wp2_with (go_at_call 59; refine (links_any q l c (idsE es) hlen wr HJ.out).mono ?_; rintro e w3 ⟨q3, n3, rfl, hI3, hb3⟩; have HI3 : Hid (IsIds w3.heap.size w3 q3 n3 n3 (linksL (idsE es))) := hI3; clear hI3)
      go_ret
      exact ⟨_, _, rfl, HI3.out, hbel.trans (hb3.mono hs)⟩

set_option maxRecDepth 100000 in
set_option maxHeartbeats 1000000 in
theorem refDirLinks_any (p : Option Addr) (len cap : Nat) (es : List Ent) (w : World) (hI : IsEnts w.heap.size w p len cap es) (hlen : len ≤ 1000) :
    Calls Try.prog 26 #[.slice p len cap] w fun e w' => ∃ q n c, e = .returned (.slice q n c) ∧ OutAt w' q n c (linksL (idsE es)) ∧ Below w.heap.size w w' := by
  have HI : Hid (IsEnts w.heap.size w p len cap es) := hI
  have HL : Hid (es.length = len) := hI.1
  obtain ⟨i0, hi0, hz0, hz1, hz2⟩ := info_parts info39
  have hlc := hI.2.1
  have hcc := hI.2.2.1
  have HEs := idsE_ok hI.2.2.2.1
  have HIl : Hid ((idsE es).length = len) := by show _ = _; simp [idsE, HL.out]
  clear hI
  go_enter Try.func26, Try.ntmps26
  go_wp2
  go_loopw [3, 8] (fun a i wr => ∃ (k : Nat) (q : Option Addr) (l c : Nat), k ≤ len ∧ i = .int .i64 k ∧ a = .slice q l c ∧ OwnIds w.heap.size wr (.slice q l c) (idsE (es.take k)) ∧ Below w.heap.size w wr) (fun _ i _ => len - (intOf i).toNat)
  case atStart => exact ⟨0, none, 0, 0, Nat.zero_le _, rfl, rfl, OwnIds.nil _ _, Below.refl _ _⟩
  case round =>
    obtain ⟨k, q, l, c, hk, rfl, rfl, hown, hbel⟩ := hrel
    have HO : Hid (OwnIds w.heap.size wr (.slice q l c) (idsE (es.take k))) := hown
    clear hown
    by_cases hlt : k < len
    · have hki : (k : Int) < (len : Int) := by omega
      obtain ⟨b, off, rfl, hb, hrg, hok, hmem⟩ := (HI.out.below hbel).at hlt
      have HT : Hid (idsE (es.take (k + 1)) = idsE (es.take k) ++ [(es.getD k noEnt).id]) := by
        show _ = _
        rw [ent_take es (by rw [HL.out]; exact hlt)]; simp [idsE]
      have HFl : Hid ((idsE (es.take k)).length ≤ 100000) := by show _ ≤ _; simp [idsE]; omega
      have HRg : Hid (wr.rangeAt b (off + k * 100) (entC (es.getD k noEnt))) := hrg
      clear hrg hmem
      generalize es.getD k noEnt = x at *
      generalize idsE (es.take k) = F at *
      have hsz := hbel.size
      have hid : x.id.length = 32 := hok.2.1.1
      have HS : Hid ((Try.prog.info? 39).map (·.size) = some (u8s x.id).length) := by rw [u8s_length, hid]; exact size39
      go_wp2_with (first
        | ((with_reducible show wpList _ _ _ (Oper.mk _ (Op.load 43 (.tmp 10)) _ _ _ _ :: _) _ _); refine wpList_loadEnt rfl (.tmp 10) rfl rfl hok HRg.out ?_; simp only [Act.put, List.setIfInBounds_toArray, List.set_cons_zero, List.set_cons_succ])
        | ((with_reducible show wpList _ _ _ (Oper.mk _ (Op.store 43 (.tmp 5) (.tmp 11)) _ _ _ _ :: _) _ _); refine wpList_storeNew rfl (.tmp 5) (.tmp 11) rfl x hok rfl rfl (fun W2 hb2 hE => ?_); have hcN := hE.name; have hcK := hE.kind; have HE : Hid (EntAt _ _ _) := hE; clear hE; simp only [Act.put])
        | ((with_reducible show wpList _ _ _ (Oper.mk _ (Op.load 39 (.tmp 13)) _ _ _ _ :: _) _ _); refine wpList_load_mid rfl 39 (.tmp 13) rfl wr.heap.size 34 rfl (u8s x.id) _ HE.out.id Try.underlying39 rfl HS.out ?_; have HOW : Hid (OwnIds w.heap.size W2 (.slice q l c) F) := HO.out.later hb2; have HBW : Hid (Below w.heap.size w W2) := hbel.trans (hb2.mono hsz); simp only [Act.put, List.setIfInBounds_toArray, List.set_cons_zero, List.set_cons_succ])
        | ((with_reducible show wpList _ _ _ (Oper.mk _ (Op.buildSlice 51 1 _) _ _ _ _ :: _) _ _); refine wpList_buildOne rfl 51 39 (.tmp 14) rfl (u8s x.id) rfl i0 _ Try.underlying51 hi0 hz0 (by rw [hz1, u8s_length, hid]) (by rw [u8s_length]; omega) (by rw [u8s_length]; omega) ?_; have hownA : OwnIds w.heap.size (W2.alloc (.cells (u8s x.id).toArray 39)) (.slice q l c) F := World.ownsRow.alloc HOW.out _; have hsA := HBW.out.size; have hsB : w.heap.size ≤ (W2.alloc (.cells (u8s x.id).toArray 39)).heap.size := (by rw [World.size_alloc]; omega); obtain ⟨ue, we, hrune, hoe, hge⟩ := run_append_id (W2.alloc (.cells (u8s x.id).toArray 39)) w.heap.size 51 (.slice q l c) F hownA W2.heap.size x.id hid (Row.new' W2 39 _).range HFl.out hsB; have HRune : Hid ((Builtin.append_ #[51, 51] 51 #[.slice q l c, .slice (some ⟨W2.heap.size, 0, none⟩) 1 1]).run Try.prog (W2.alloc (.cells (u8s x.id).toArray 39)) = .ok ue we) := hrune; obtain ⟨qe, ce, hue⟩ := hoe.slice; subst hue; have HOe : Hid (OwnIds w.heap.size we (.slice qe (F ++ [x.id]).length ce) (F ++ [x.id])) := hoe; have hbe : Below w.heap.size w we := (HBW.out.alloc hsA _).grown hge hsB (fun j ej => (World.ownsRow.lt hownA j ej).1); clear hrune hoe hge hownA hsA hsB; simp only [Act.put, List.setIfInBounds_toArray, List.set_cons_zero, List.set_cons_succ])
        | (at_builtin; refine wpList_plain rfl fun K hK => wp_append_of (.tmp 12) (.tmp 15) 51 rfl rfl rfl HRune.out (hK _ _ ?_); clear hK; simp only [Act.put, List.setIfInBounds_toArray, List.set_cons_zero, List.set_cons_succ]))
      go_roundw
      case rel =>
        refine ⟨k + 1, qe, _, ce, by omega, by go_num, rfl, ?_, hbe⟩
        rw [HT.out]
        exact HOe.out
      case measure => simp [intOf]; omega
    · obtain rfl : k = len := by omega
      have HTk : Hid (idsE (es.take k) = idsE es) := by show _ = _; rw [List.take_of_length_le (by rw [HL.out]; exact Nat.le_refl _)]
      have hO := HO.out
      rw [HTk.out] at hO
      obtain rfl : l = k := by
        obtain ⟨_, _, e⟩ := hO.slice
        cases e
        exact HIl.out
      have HJ : Hid (IsIds wr.heap.size wr q l c (idsE es)) := hO.ids HIl.out HEs.out
      clear HO hO
      have hs := hbel.size
      go_wp2_with (go_at_call 60; refine (refLinks_any q l c (idsE es) hlen wr HJ.out).mono ?_; rintro e w3 ⟨q3, n3, c3, rfl, hI3, hb3⟩; have HI3 : Hid (OutAt w3 q3 n3 c3 (linksL (idsE es))) := hI3; clear hI3)
      go_ret
      exact ⟨_, _, _, rfl, HI3.out, hbel.trans (hb3.mono hs)⟩
end Go.Proofs.Ytlmfdifnkkdpfaa
