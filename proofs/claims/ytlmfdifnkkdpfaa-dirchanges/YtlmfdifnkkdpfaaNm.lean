/-
  dir.Names: the names, sorted; what the function that it hands out tells.
-/
import Derived.Test.YtlmfdifnkkdpfaaEnt
import Derived.Test.YtlmfdifnkkdpfaaSLay
import Derived.Test.YtlmfdifnkkdpfaaClone
import Derived.Test.YtlmfdifnkkdpfaaLow2
import Derived.Test.YtlmfdifnkkdpfaaOps
import Derived.Test.YtlmfdifnkkdpfaaGate
import Derived.Sort.OwnSorted
namespace Go.Proofs.Ytlmfdifnkkdpfaa
open Go.RowKit Go.Shelf

/-- Texts, sorted. -/
def sortL (l : List (List UInt8)) : List (List UInt8) := l.mergeSort fun x y => decide (x ≤ y)
def txt (l : List UInt8) : ByteArray := ⟨l.toArray⟩
theorem txt_bytes (s : ByteArray) : txt (bytesOf s) = s := by cases s; rfl
theorem bytes_txt (l : List UInt8) : bytesOf (txt l) = l := rfl
def namesE (es : List Ent) : List ByteArray := es.map (·.name)
def sortedE (es : List Ent) : List ByteArray := (sortL ((namesE es).map bytesOf)).map txt

theorem strs_app (a b : List ByteArray) : strs a ++ strs b = strs (a ++ b) := by simp [strs]
theorem OwnS.at {W : World} {n₀ : Nat} {q : Option Addr} {len c : Nat} {xs : List ByteArray} (h : OwnS n₀ W (.slice q len c) xs) {k : Nat} (hk : k < xs.length) : ∃ g, q = some ⟨g, 0, none⟩ ∧ W.cell? ⟨g, k, none⟩ = some (.string (xs.getD k ⟨#[]⟩)) ∧ len ≤ c := by
  have hl : xs.length = len := h.strs.1
  obtain ⟨g, rfl, h1, h2, h3, h4, h5, cur, h6, h7, h8⟩ := h.row (by omega)
  refine ⟨g, rfl, ?_, h4⟩
  rw [cell_of_row W g k cur 9 (0, 0) h6]
  have : (cur.toList.take len)[k]? = some (.string xs[k]) := by rw [h8, strs_at hk]
  rw [List.getElem?_take, if_pos (by omega)] at this
  rw [List.getD_eq_getElem?_getD, List.getElem?_eq_getElem hk, Option.getD_some]
  simpa using this

set_option maxRecDepth 100000 in
set_option maxHeartbeats 1000000 in
/-- What is told: these texts, one behind the other. -/
theorem names1_iter (n : Nat) (hn : 2 ≤ n) (l n₀ B : Nat) (q : Option Addr) (len c : Nat) (xs : List ByteArray) (W : World) (hbx : Boxed W B 48 (.slice q len c)) (hown : OwnS n₀ W (.slice q len c) xs) :
    IterAt Fence.wide n Try.prog 63 #[.pointer (some ⟨B, 0, none⟩)] (fun x : ByteArray => #[.string x]) (fun _ _ => True) (fun X Y => OwnS n₀ X (.slice q len c) xs → OwnS n₀ Y (.slice q len c) xs) (fun ys => ys = xs) (fun pre => pre <+: xs) len l W := by
  intro J Jx hJ hJx hY h0
  have hfn : ∀ f, Fence.wide.fn f := fun _ => trivial
  have hc := hbx.cell
  have hS := hown.strs
  have hcap : len ≤ 9223372036854775807 := Nat.le_trans hS.2.1 hS.2.2.1
  have HL : Hid (xs.length = len) := hS.1
  refine callsIn_of_wp Try.func63 rfl trivial ?_ rfl
  simp only [Try.ntmps63, List.size_toArray, List.length_cons, List.length_nil, Nat.reduceAdd, Nat.reduceSub, Array.replicate_succ, Array.replicate_zero, List.push_toArray, List.append_toArray, List.nil_append, List.cons_append]
  have HO : Hid (OwnS n₀ W (.slice q len c) xs) := hown
  clear hbx hown hS
  gi_wp2
  gi_loopw [7] (fun i wr => ∃ (k : Nat), k ≤ len ∧ i = .int .i64 k ∧ J (xs.take k) wr ∧ OwnS n₀ wr (.slice q len c) xs) (fun i _ => len - (intOf i).toNat)
  case atStart => exact ⟨0, Nat.zero_le _, rfl, by rw [List.take_zero]; exact h0, HO.out⟩
  case round =>
    obtain ⟨k, hk, rfl, hj, ho⟩ := hrel
    have HO2 : Hid (OwnS n₀ wr (.slice q len c) xs) := ho
    clear HO
    by_cases hlt : k < len
    · have hki : (k : Int) < (len : Int) := by omega
      obtain ⟨g, rfl, hcell, hlc⟩ := ho.at (k := k) (by rw [HL.out]; exact hlt)
      have HT : Hid (xs.take (k + 1) = xs.take k ++ [xs.getD k ⟨#[]⟩]) := by
        show _ = _
        have hl : k < xs.length := by rw [HL.out]; exact hlt
        rw [List.take_succ_eq_append_getElem hl, List.getD_eq_getElem?_getD, List.getElem?_eq_getElem hl, Option.getD_some]
      generalize xs.getD k ⟨#[]⟩ = x at *
      obtain ⟨fn, tmps, assign, body, hy, hR⟩ := hY (xs.take k) x wr hj trivial (by rw [List.length_take, HL.out]; omega)
      clear ho hj
      gi_wp2
      refine ⟨fun _ => by omega, RoundIn.mono hR ?_⟩
      rintro e W3 (⟨rfl, hJ3, hk3⟩ | ⟨rfl, hJ3, hk3⟩)
      · gi_wp2
        go_roundw
        case rel => exact ⟨k + 1, by omega, by go_num, by rw [HT.out]; exact hJ3, hk3 HO2.out⟩
        case measure => simp [intOf]; omega
      · gi_wp2
        refine bodyPost_ret (results_none rfl _ _ _) rfl ?_
        exact ⟨⟨_, rfl⟩, .inr ⟨_, by rw [← HT.out]; exact List.take_prefix _ _, hJ3⟩⟩
    · obtain rfl : k = len := by omega
      gi_wp2
      refine ⟨rfl, _, results_none rfl _ _ _, ?_⟩
      exact ⟨⟨_, rfl⟩, .inl ⟨xs, rfl, by rw [List.take_of_length_le (by rw [HL.out]; exact Nat.le_refl _)] at hj; exact hj⟩⟩

theorem enc_bytes (xs : List ByteArray) : (xs.map bytesOf).map Go.Proofs.encStr = strs xs := by
  rw [List.map_map, strs]
  exact List.map_congr_left (fun x _ => by cases x; rfl)
theorem enc_txt (l : List (List UInt8)) : l.map Go.Proofs.encStr = strs (l.map txt) := by
  rw [strs, List.map_map]; rfl
theorem sortL_length (l : List (List UInt8)) : (sortL l).length = l.length := by simp [sortL]
set_option maxRecDepth 100000 in
/-- slices.Sort of a row of texts. -/
theorem sort_any (n₀ : Nat) (q : Option Addr) (len c : Nat) (xs : List ByteArray) (w : World) (h : OwnS n₀ w (.slice q len c) xs) (hlen : len ≤ 100000) :
    Calls Try.prog 62 #[.slice q len c] w fun e w' => e = .returned (.tuple #[]) ∧ OwnS n₀ w' (.slice q len c) ((sortL (xs.map bytesOf)).map txt) ∧ w.grownBy w' (Value.slice q len c).ownBlock := by
  have hl : xs.length = len := h.strs.1
  by_cases h0 : len = 0
  · subst h0
    obtain rfl := List.length_eq_zero_iff.1 hl
    refine (Any.slices_Sort_string_none sortNames q c w).mono ?_
    rintro e w' ⟨rfl, rfl⟩
    refine ⟨rfl, ?_, ⟨rfl, rfl, rfl, Nat.le_refl _, fun _ _ _ => rfl⟩⟩
    have : (sortL (([] : List ByteArray).map bytesOf)).map txt = [] := by simp [sortL]
    rw [this]
    exact h
  · rcases h.2 with ⟨e, _⟩ | ⟨g, cap, cur, e, hbase, hb, h1, h2, h3, h4⟩
    · cases e; omega
    · cases e
      have hll : (xs.map bytesOf).length = xs.length := by rw [List.length_map]
      have hH : Go.Sort.Holds Go.Proofs.encStr w g 0 (xs.map bytesOf).toArray := holds_of_block hb (by rw [enc_bytes, hll]; simpa using h4)
      have hcon := Any.slices_Sort_string sortNames g 0 c (xs.map bytesOf) w hH (Array.getElem?_eq_some_iff.1 hb).1 (by rw [hll]; omega)
      rw [hll] at hcon
      refine Calls.mono hcon ?_
      rintro e w' ⟨he, n, os, rfl⟩
      refine ⟨he, ?_, grownBy_sorted _⟩
      have h5 := ownsRow_sorted (n := n) (os := os) (ss := xs.map bytesOf) (ts := sortL (xs.map bytesOf)) (sortL_length _) hbase hb (by rw [hll]; exact h1) h2 h3
      unfold OwnS
      rw [enc_txt, hll] at h5
      rw [List.length_map, sortL_length, hll]
      exact h5

/-- The names so far. -/
def NmRel (n₀ B : Nat) (W : World) (xs : List ByteArray) : Prop := ∃ q c, Boxed W B 48 (.slice q xs.length c) ∧ OwnS n₀ W (.slice q xs.length c) xs

set_option maxRecDepth 100000 in
set_option maxHeartbeats 2000000 in
/-- dir.Names -/
theorem names_any (p : Option Addr) (len cap : Nat) (es : List Ent) (w : World) (hI : IsEnts w.heap.size w p len cap es) (hlen : len ≤ 100000) (hnm : ∀ e ∈ es, e.name.size ≤ 1000000) :
    Calls Try.prog 28 #[.slice p len cap] w fun e w' => ∃ B q c, e = .returned (.func (.func 63) #[] #[.pointer (some ⟨B, 0, none⟩)]) ∧ w.heap.size ≤ B ∧ Boxed w' B 48 (.slice q len c) ∧ OwnS w.heap.size w' (.slice q len c) (sortedE es) ∧ Below w.heap.size w w' := by
  have HI : Hid (IsEnts w.heap.size w p len cap es) := hI
  have HL : Hid (es.length = len) := hI.1
  have HNm : Hid (∀ e ∈ es, e.name.size ≤ 1000000) := hnm
  obtain ⟨i0, hi0, hz0, hz1, hz2⟩ := info_parts info9
  clear hI hnm
  go_enter Try.func28, Try.ntmps28
  go_wp2_with (first
    | (at_make; refine wpList_make_own _ rfl _ _ 48 rfl w.heap.size 9 i0 _ 1 Try.underlying48 hi0 hz0 hz1 _ _ _ len rfl rfl (by omega) (by rw [hz2]; omega) (by simp only [maxLen]; omega) (Nat.le_refl _) ?_; intro w1 hown1 hgrow1; have hb1 : Below w.heap.size w w1 := ((Below.refl _ w).grown hgrow1 (Nat.le_refl _) (fun k e => by cases e)); have HO1 : Hid (OwnS w.heap.size w1 (.slice (some ⟨w.heap.size, 0, none⟩) 0 len) []) := hown1; clear hown1 hgrow1))
  have hsz1 := hb1.size
  have H0 : Hid (NmRel w.heap.size w1.heap.size (w1.alloc (.cells #[.slice (some ⟨w.heap.size, 0, none⟩) 0 len] 48)) []) := ⟨_, _, Boxed.new w1 48 _, World.ownsRow.alloc HO1.out _⟩
  have HB0 : Hid (Below w.heap.size w (w1.alloc (.cells #[.slice (some ⟨w.heap.size, 0, none⟩) 0 len] 48))) := hb1.alloc hsz1 _
  have hBlt : w.heap.size ≤ w1.heap.size := hsz1
  clear hb1 HO1
  generalize w1.alloc (.cells #[.slice (some ⟨w.heap.size, 0, none⟩) 0 len] 48) = w2 at *
  generalize w1.heap.size = B at *
  go_loopw [11] (fun i wr => ∃ (k : Nat), k ≤ len ∧ i = .int .i64 k ∧ NmRel w.heap.size B wr (namesE (es.take k)) ∧ Below w.heap.size w wr) (fun i _ => len - (intOf i).toNat)
  case atStart => exact ⟨0, Nat.zero_le _, rfl, H0.out, HB0.out⟩
  case round =>
    obtain ⟨k, hk, rfl, hnr, hbel⟩ := hrel
    have HNR : Hid (NmRel w.heap.size B wr (namesE (es.take k))) := hnr
    clear hnr H0 HB0
    by_cases hlt : k < len
    · have hki : (k : Int) < (len : Int) := by omega
      obtain ⟨b, off, rfl, hb, hrg, hok, hmem⟩ := (HI.out.below hbel).at hlt
      have HT : Hid (namesE (es.take (k + 1)) = namesE (es.take k) ++ [(es.getD k noEnt).name]) := by
        show _ = _
        rw [ent_take es (by rw [HL.out]; exact hlt)]; simp [namesE]
      have HKl : Hid ((namesE (es.take k)).length = k) := by show _ = _; simp [namesE, HL.out]; omega
      have HRg : Hid (wr.rangeAt b (off + k * 100) (entC (es.getD k noEnt))) := hrg
      have HX : Hid ((es.getD k noEnt).name.size ≤ 1000000) := HNm.out _ hmem
      clear hrg hmem
      generalize es.getD k noEnt = x at *
      have hsz := hbel.size
      go_wp2_with (first
        | ((with_reducible show wpList _ _ _ (Oper.mk _ (Op.load 43 (.tmp 13)) _ _ _ _ :: _) _ _); refine wpList_loadEnt rfl (.tmp 13) rfl rfl hok HRg.out ?_; simp only [Act.put, List.setIfInBounds_toArray, List.set_cons_zero, List.set_cons_succ])
        | ((with_reducible show wpList _ _ _ (Oper.mk _ (Op.store 43 (.tmp 5) (.tmp 14)) _ _ _ _ :: _) _ _); refine wpList_storeNew rfl (.tmp 5) (.tmp 14) rfl x hok rfl rfl (fun W2 hb2 hE => ?_); have hcN := hE.name; have hcK := hE.kind; have HE : Hid (EntAt _ _ _) := hE; clear hE; simp only [Act.put])
        )
      generalize namesE (es.take k) = N at *
      obtain ⟨q, c, hbx, how⟩ := HNR.out
      rw [HKl.out] at hbx how
      have hbx2 := boxed_below hbx hb2
      have how2 := how.later hb2
      have hsz2 := hb2.size
      have hblt := hbx.lt
      have hcB : W2.drew.cell? ⟨B, 0, none⟩ = some (.slice q k c) := hbx2.cell
      have hcN2 : W2.drew.cell? ⟨wr.heap.size, 32, none⟩ = some (.string x.name) := hcN
      have hHeld : W2.drew.cell? ⟨B, 0, none⟩ = some (.slice q k c) ∧ W2.drew.cell? ⟨wr.heap.size, 32, none⟩ = some (.string x.name) := ⟨hcB, hcN2⟩
      refine wp_region_noPanic ?_
      refine wp_region_gate' 6 (fun W' => W'.cell? ⟨B, 0, none⟩ = some (.slice q k c) ∧ W'.cell? ⟨wr.heap.size, 32, none⟩ = some (.string x.name)) (by kernel_rfl) ?_
      refine wpAnyG_takesAt 0 3 4 (of_decide_eq_true (by kernel_rfl)) rfl (fun _ _ _ d _ h => by cases d <;> exact h) (by kernel_rfl) (by kernel_rfl) (fun _ => hHeld) ?_
      simp only [List.drop_zero, List.take_succ_cons, List.take_zero]
      iterate 3 (refine wpHeldG_step (v := ?_) (by rfl) (by kernel_rfl) (fun wz hSw => ?_) ?_; rotate_left; (focus ((try dsimp only at hSw); go_simp; try with_reducible rfl)); (simp only [Act.put, List.setIfInBounds_toArray, List.set_cons_zero, List.set_cons_succ]))
      refine wpHeldG_nil ?_
      refine wpAnyG_only (i := 3) (by kernel_rfl) rfl (by rfl) (fun K hK => ?_)
      go_simp
      refine (sclone_any x.name HX.out W2.drew).mono ?_
      rintro e w6 ⟨rfl, hb6⟩
      have hb6' : Below W2.heap.size W2 w6 := (Below.refl _ W2).drew.trans hb6
      have hbx6 := boxed_below hbx2 hb6'
      have how6 := how2.later hb6'
      have hE6 := HE.out.later hb6'
      refine hK.out _ _ (fun _ => ⟨hbx6.cell, hE6.name⟩) ?_
      clear hK K
      have hsz6 := hb6'.size
      have hx7 : (w6.alloc (.cells #[.string x.name] 9)).cell? ⟨w6.heap.size, 0, none⟩ = some (.string x.name) := (Boxed.new w6 9 _).cell
      have hr7 : OwnS w.heap.size (w6.alloc (.cells #[.string x.name] 9)) (.slice q k c) N := World.ownsRow.alloc how6 _
      obtain ⟨u8, w8, hrun, ho8, hg8, hw8⟩ := run_append_str _ w.heap.size 48 (.slice q k c) N hr7 w6.heap.size x.name hx7 (by rw [HKl.out]; omega) (by simp; omega)
      obtain ⟨q8, c8, rfl⟩ := ho8.slice
      obtain ⟨hv1, hv2, hr2, hk2, hb8⟩ := hbx6.appended (by decide) how6 (show w.heap.size ≤ w6.heap.size by omega) hBlt ho8 hg8
      have hE8 : w8.cell? ⟨wr.heap.size, 32, none⟩ = some (.string x.name) := by
        have hl6 := hE6.row.lt
        have hr : Row w8 wr.heap.size 43 (entC x) := by
          refine (hg8.block wr.heap.size (by simp; omega) (fun e => ?_)).trans (hE6.row.alloc _)
          obtain ⟨cc, fr, h'⟩ := row_tag how6 _ e.symm
          rw [show w6.heap[wr.heap.size]? = _ from hE6.row] at h'
          cases h'
        exact hr.cell (entC_name hok)
      have HFin : Hid (NmRel w.heap.size B (w8.setCell ⟨B, 0, none⟩ (.slice q8 (N ++ [x.name]).length c8)) (N ++ [x.name]) ∧ Below w.heap.size w (w8.setCell ⟨B, 0, none⟩ (.slice q8 (N ++ [x.name]).length c8))) := ⟨⟨q8, c8, hv2, hr2⟩, ((hbel.trans (hb2.mono hsz)).trans (hb6'.mono (by omega))).trans hb8⟩
      refine wpAnyG_only (i := 4) (by kernel_rfl) rfl (by rfl) (fun K hK => ?_)
      go_simp
      refine hK.out _ _ (fun _ => ⟨(hbx6.alloc _).cell, (hE6.row.alloc _).cell (entC_name hok)⟩) ?_
      clear hK K
      refine wpAnyG_only (i := 5) (by kernel_rfl) rfl (by rfl) (fun K hK => ?_)
      refine wp_append_of (.tmp 15) (.tmp 19) 48 rfl rfl rfl hrun ?_
      refine hK.out _ _ (fun _ => ⟨hv1.cell, hE8⟩) ?_
      clear hK K
      change wpAnyG _ _ _ _ _ _ _ _ (Act.put _ (some 20) _) _
      (simp only [Act.put]; (try simp only [List.setIfInBounds_toArray]); (try simp only [List.set_cons_succ]); (try simp only [List.set_cons_zero]))
      refine wpAnyG_only (i := 6) (by kernel_rfl) rfl (by rfl) (fun K hK => ?_)
      have c8r := hv1.cell
      have fz8 := hv1.frozen
      go_simp
      refine hK.out _ _ (gone (by kernel_rfl)) ?_
      clear hK K
      refine wpAnyG_done (by kernel_rfl) ?_ _
      refine NoPanic.normal ?_
      have HKl2 : Hid ((N ++ [x.name]).length = k + 1) := by show _ = _; simp [HKl.out]
      clear hrun ho8 hg8 hw8 hv1 hv2 hr2 hk2 hb8 hE8 hr7 hx7 how6 hbx6 hE6 hb6 hb6' hcB hcN2 hHeld how2 hbx2 hbx how c8r fz8 HNR
      have HFin2 := HFin.out
      rw [show (N ++ [x.name]).length = N.length + 1 by simp] at HFin2
      have HFin : Hid _ := HFin2
      clear HFin2
      generalize w8.setCell ⟨B, 0, none⟩ (.slice q8 (N.length + 1) c8) = w9 at *
      go_wp2
      go_roundw
      case rel => exact ⟨k + 1, by omega, by go_num, by rw [HT.out]; exact HFin.out.1, HFin.out.2⟩
      case measure => simp [intOf]; omega
    · obtain rfl : k = len := by omega
      have HTk : Hid (namesE (es.take k) = namesE es) := by show _ = _; rw [List.take_of_length_le (by rw [HL.out]; exact Nat.le_refl _)]
      obtain ⟨q, c, hbx, how⟩ := HNR.out
      rw [HTk.out] at hbx how
      have hnl : (namesE es).length = k := by simp [namesE, HL.out]
      rw [hnl] at hbx how
      have hcB := hbx.cell
      have hfB := hbx.frozen
      have HS := sort_any w.heap.size q k c (namesE es) wr how (by omega)
      have HBx : Hid (Boxed wr B 48 (.slice q k c)) := hbx
      have HOw : Hid (OwnS w.heap.size wr (.slice q k c) (namesE es)) := how
      have hsz := hbel.size
      have hblt := hbx.lt
      clear hbx how HNR hnl
      go_wp2_with (go_at_call 62; refine HS.mono ?_; rintro e w3 ⟨rfl, hO3, hg3⟩)
      have hBx3 : Boxed w3 B 48 (.slice q k c) := HBx.out.kept hg3 (HBx.out.not_row (by decide) HOw.out)
      have hb3 : Below w.heap.size w w3 := hbel.grown hg3 hsz (fun j e => (World.ownsRow.lt HOw.out j e).1)
      go_ret
      exact ⟨B, q, c, rfl, hBlt, hBx3, hO3, hb3⟩
end Go.Proofs.Ytlmfdifnkkdpfaa
