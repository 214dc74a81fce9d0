/-
  Clashes: the program's and the reference's.
-/
import Derived.Test.YtlmfdifnkkdpfaaWith
namespace Go.Proofs.Ytlmfdifnkkdpfaa
open Go.RowKit Go.Shelf

def clashB (e x : Ent) : Bool := decide (x.blind = e.blind) && !nameB x e.name

set_option maxRecDepth 100000 in
set_option maxHeartbeats 1000000 in
theorem clash1_any (B : Nat) (e x : Ent) (hok : x.ok) (w : World) (hB : EntAt w B e) :
    Calls Try.prog 58 #[.agg (entC x).toArray, .pointer (some ⟨B, 0, none⟩)] w fun r w' => r = .returned (.bool (clashB e x)) ∧ Below w.heap.size w w' := by
  have hE := EntAt.new w x hok
  have hb : Below w.heap.size w (w.alloc (.cells (entC x).toArray 43)) := (Below.refl _ w).alloc (Nat.le_refl _) _
  have hE2 := hB.later hb
  have hcN := hE.name
  have hcB := hE2.name
  have HR1 : Hid ((w.alloc (.cells (entC x).toArray 43)).rangeAt w.heap.size 0 (u8s x.blind)) := hE.blind
  have HR2 : Hid ((w.alloc (.cells (entC x).toArray 43)).rangeAt B 0 (u8s e.blind)) := hE2.blind
  have hq := equal_ids hok.1 hB.ok.1
  have HS1 : Hid ((Try.prog.info? 39).map (·.size) = some (u8s x.blind).length) := by show _ = _; rw [u8s_length, hok.1.1]; exact size39
  have HS2 : Hid ((Try.prog.info? 39).map (·.size) = some (u8s e.blind).length) := by show _ = _; rw [u8s_length, hB.ok.1.1]; exact size39
  have HQ : Hid (clashB e x = (decide (x.blind = e.blind) && !(x.name.toList == e.name.toList))) := rfl
  clear hE hE2 hok hB
  generalize entC x = V at *
  generalize u8s x.blind = X at *
  generalize u8s e.blind = Y at *
  cases hn : decide (x.blind = e.blind) with
  | true =>
    rw [hn] at hq HQ
    go_enter Try.func58, Try.ntmps58
    go_wp2_with (first
      | ((with_reducible show wpList _ _ _ (Oper.mk _ (Op.load 39 (.tmp 4)) _ _ _ _ :: _) _ _); refine wpList_load_wantMid (by rfl) 39 (.tmp 4) rfl w.heap.size 0 rfl X HR1.out Try.underlying39 rfl HS1.out ?_; simp only [Act.put, List.setIfInBounds_toArray, List.set_cons_zero, List.set_cons_succ])
      | ((with_reducible show wpList _ _ _ (Oper.mk _ (Op.load 39 (.tmp 6)) _ _ _ _ :: _) _ _); refine wpList_load_wantMid (by rfl) 39 (.tmp 6) rfl B 0 rfl Y HR2.out Try.underlying39 rfl HS2.out ?_; simp only [Act.put, List.setIfInBounds_toArray, List.set_cons_zero, List.set_cons_succ]))
    go_ret
    exact ⟨by rw [HQ.out]; rfl, hb⟩
  | false =>
    rw [hn] at hq HQ
    go_enter Try.func58, Try.ntmps58
    go_wp2_with (first
      | ((with_reducible show wpList _ _ _ (Oper.mk _ (Op.load 39 (.tmp 4)) _ _ _ _ :: _) _ _); refine wpList_load_wantMid (by rfl) 39 (.tmp 4) rfl w.heap.size 0 rfl X HR1.out Try.underlying39 rfl HS1.out ?_; simp only [Act.put, List.setIfInBounds_toArray, List.set_cons_zero, List.set_cons_succ])
      | ((with_reducible show wpList _ _ _ (Oper.mk _ (Op.load 39 (.tmp 6)) _ _ _ _ :: _) _ _); refine wpList_load_wantMid (by rfl) 39 (.tmp 6) rfl B 0 rfl Y HR2.out Try.underlying39 rfl HS2.out ?_; simp only [Act.put, List.setIfInBounds_toArray, List.set_cons_zero, List.set_cons_succ]))
    go_ret
    exact ⟨by rw [HQ.out]; rfl, hb⟩

set_option maxRecDepth 100000 in
set_option maxHeartbeats 1000000 in
/-- dir.Clashes -/
theorem clashes_any (p : Option Addr) (len cap : Nat) (es : List Ent) (x : Ent) (hok : x.ok) (w : World) (hI : IsEnts w.heap.size w p len cap es) :
    Calls Try.prog 22 #[.slice p len cap, .agg (entC x).toArray] w fun e w' => e = .returned (.bool (es.any (clashB x))) ∧ Below w.heap.size w w' := by
  obtain ⟨w0, hw0⟩ : ∃ w0, w.alloc (.cells (entC x).toArray 43) = w0 := ⟨_, rfl⟩
  have hb1 : Below w.heap.size w w0 := by rw [← hw0]; exact (Below.refl _ w).alloc (Nat.le_refl _) _
  have HE0 : Hid (EntAt w0 w.heap.size x) := by rw [← hw0]; exact EntAt.new w x hok
  have HW0 : Hid (w.alloc (.cells (entC x).toArray 43) = w0) := hw0
  have HF := first_any p len cap es w0 (hI.later hb1) 58 #[.pointer (some ⟨w.heap.size, 0, none⟩)] (enters_of Try.func58 (by kernel_rfl) rfl) (clashB x) (fun W hb y hy => clash1_any w.heap.size x y (hI.2.2.2.1 y hy) W (HE0.out.later hb))
  clear hI hw0 hok
  generalize firstN (clashB x) es = fi at *
  generalize es.any (clashB x) = an at *
  go_enter Try.func22, Try.ntmps22
  go_wp2_with (go_at_call 36; rw [HW0.out]; refine HF.mono ?_; rintro e w2 ⟨rfl, hb2⟩)
  go_ret
  exact ⟨rfl, hb1.trans (hb2.mono hb1.size)⟩

set_option maxRecDepth 100000 in
set_option maxHeartbeats 1000000 in
/-- The reference's Clashes -/
theorem refClashes_any (p : Option Addr) (len cap : Nat) (es : List Ent) (e : Ent) (hoke : e.ok) (w : World) (hI : IsEnts w.heap.size w p len cap es) :
    Calls Try.prog 23 #[.slice p len cap, .agg (entC e).toArray] w fun r w' => r = .returned (.bool (es.any (clashB e))) ∧ Below w.heap.size w w' := by
  obtain ⟨w0, hw0⟩ : ∃ w0, w.alloc (.cells (entC e).toArray 43) = w0 := ⟨_, rfl⟩
  have hb1 : Below w.heap.size w w0 := by rw [← hw0]; exact (Below.refl _ w).alloc (Nat.le_refl _) _
  have HE0 : Hid (EntAt w0 w.heap.size e) := by rw [← hw0]; exact EntAt.new w e hoke
  have HW0 : Hid (w.alloc (.cells (entC e).toArray 43) = w0) := hw0
  have HI : Hid (IsEnts w0.heap.size w0 p len cap es) := hI.later hb1
  have HL : Hid (es.length = len) := hI.1
  have hlc := hI.2.1
  have hcc := hI.2.2.1
  have hse : w.heap.size < w0.heap.size := HE0.out.row.lt
  clear hI hw0
  go_enter Try.func23, Try.ntmps23
  go_wp2
  rw [HW0.out]
  go_loopw [9] (fun i wr => ∃ (k : Nat), k ≤ len ∧ i = .int .i64 k ∧ (es.take k).any (clashB e) = false ∧ Below w0.heap.size w0 wr) (fun i _ => len - (intOf i).toNat)
  case atStart => exact ⟨0, Nat.zero_le _, rfl, rfl, Below.refl _ _⟩
  case round =>
    obtain ⟨k, hk, rfl, hany, hbel⟩ := hrel
    have HA : Hid ((es.take k).any (clashB e) = false) := hany
    clear hany
    by_cases hlt : k < len
    · have hki : (k : Int) < (len : Int) := by omega
      obtain ⟨b, off, rfl, hb, hrg, hok, hmem⟩ := (HI.out.below hbel).at hlt
      have HT : Hid (es.take (k + 1) = es.take k ++ [es.getD k noEnt]) := ent_take es (by rw [HL.out]; exact hlt)
      have HRg : Hid (wr.rangeAt b (off + k * 100) (entC (es.getD k noEnt))) := hrg
      have HM : Hid (es.getD k noEnt ∈ es) := hmem
      clear hrg hmem
      generalize es.getD k noEnt = x at *
      have hsz := hbel.size
      have hq := equal_ids hok.1 hoke.1
      have HS1 : Hid ((Try.prog.info? 39).map (·.size) = some (u8s x.blind).length) := by show _ = _; rw [u8s_length, hok.1.1]; exact size39
      have HS2 : Hid ((Try.prog.info? 39).map (·.size) = some (u8s e.blind).length) := by show _ = _; rw [u8s_length, hoke.1.1]; exact size39
      have HQ : Hid (clashB e x = (decide (x.blind = e.blind) && !(x.name.toList == e.name.toList))) := rfl
      cases hn : decide (x.blind = e.blind) with
      | false =>
        rw [hn] at hq HQ
        go_wp2_with (first
          | ((with_reducible show wpList _ _ _ (Oper.mk _ (Op.load 43 (.tmp 11)) _ _ _ _ :: _) _ _); refine wpList_loadEnt rfl (.tmp 11) rfl rfl hok HRg.out ?_; simp only [Act.put, List.setIfInBounds_toArray, List.set_cons_zero, List.set_cons_succ])
          | ((with_reducible show wpList _ _ _ (Oper.mk _ (Op.store 43 (.tmp 6) (.tmp 12)) _ _ _ _ :: _) _ _); refine wpList_storeNew rfl (.tmp 6) (.tmp 12) rfl x hok rfl rfl (fun W2 hb2 hE => ?_); have hcN := hE.name; have hcK := hE.kind; have HE : Hid (EntAt _ _ _) := hE; clear hE; simp only [Act.put])
          | ((with_reducible show wpList _ _ _ (Oper.mk _ (Op.load 39 (.tmp 13)) _ _ _ _ :: _) _ _); refine wpList_load_wantMid (by rfl) 39 (.tmp 13) rfl wr.heap.size 0 rfl (u8s x.blind) HE.out.blind Try.underlying39 rfl HS1.out ?_; simp only [Act.put, List.setIfInBounds_toArray, List.set_cons_zero, List.set_cons_succ])
          | ((with_reducible show wpList _ _ _ (Oper.mk _ (Op.load 39 (.tmp 15)) _ _ _ _ :: _) _ _); refine wpList_load_wantMid (by rfl) 39 (.tmp 15) rfl w.heap.size 0 rfl (u8s e.blind) (HE0.out.later (hbel.trans (hb2.mono hsz))).blind Try.underlying39 rfl HS2.out ?_; simp only [Act.put, List.setIfInBounds_toArray, List.set_cons_zero, List.set_cons_succ]))
        go_roundw
        case rel =>
          refine ⟨k + 1, by omega, by go_num, ?_, hbel.trans (hb2.mono hsz)⟩
          rw [HT.out, List.any_append, HA.out]
          simp [HQ.out]
        case measure => simp [intOf]; omega
      | true =>
        rw [hn] at hq HQ
        cases hnm : (x.name.toList == e.name.toList) with
        | true =>
          rw [hnm] at HQ
          go_wp2_with (first
            | ((with_reducible show wpList _ _ _ (Oper.mk _ (Op.load 43 (.tmp 11)) _ _ _ _ :: _) _ _); refine wpList_loadEnt rfl (.tmp 11) rfl rfl hok HRg.out ?_; simp only [Act.put, List.setIfInBounds_toArray, List.set_cons_zero, List.set_cons_succ])
            | ((with_reducible show wpList _ _ _ (Oper.mk _ (Op.store 43 (.tmp 6) (.tmp 12)) _ _ _ _ :: _) _ _); refine wpList_storeNew rfl (.tmp 6) (.tmp 12) rfl x hok rfl rfl (fun W2 hb2 hE => ?_); have hcN := hE.name; have hcK := hE.kind; have HE : Hid (EntAt _ _ _) := hE; clear hE; simp only [Act.put])
            | ((with_reducible show wpList _ _ _ (Oper.mk _ (Op.load 39 (.tmp 13)) _ _ _ _ :: _) _ _); refine wpList_load_wantMid (by rfl) 39 (.tmp 13) rfl wr.heap.size 0 rfl (u8s x.blind) HE.out.blind Try.underlying39 rfl HS1.out ?_; simp only [Act.put, List.setIfInBounds_toArray, List.set_cons_zero, List.set_cons_succ])
            | ((with_reducible show wpList _ _ _ (Oper.mk _ (Op.load 39 (.tmp 15)) _ _ _ _ :: _) _ _); have hcE := (HE0.out.later (hbel.trans (hb2.mono hsz))).name; refine wpList_load_wantMid (by rfl) 39 (.tmp 15) rfl w.heap.size 0 rfl (u8s e.blind) (HE0.out.later (hbel.trans (hb2.mono hsz))).blind Try.underlying39 rfl HS2.out ?_; simp only [Act.put, List.setIfInBounds_toArray, List.set_cons_zero, List.set_cons_succ]))
          go_roundw
          case rel =>
            refine ⟨k + 1, by omega, by go_num, ?_, hbel.trans (hb2.mono hsz)⟩
            rw [HT.out, List.any_append, HA.out]
            simp [HQ.out]
          case measure => simp [intOf]; omega
        | false =>
          rw [hnm] at HQ
          have HTr : Hid (es.any (clashB e) = true) := List.any_eq_true.2 ⟨x, HM.out, by rw [HQ.out]; rfl⟩
          go_wp2_with (first
            | ((with_reducible show wpList _ _ _ (Oper.mk _ (Op.load 43 (.tmp 11)) _ _ _ _ :: _) _ _); refine wpList_loadEnt rfl (.tmp 11) rfl rfl hok HRg.out ?_; simp only [Act.put, List.setIfInBounds_toArray, List.set_cons_zero, List.set_cons_succ])
            | ((with_reducible show wpList _ _ _ (Oper.mk _ (Op.store 43 (.tmp 6) (.tmp 12)) _ _ _ _ :: _) _ _); refine wpList_storeNew rfl (.tmp 6) (.tmp 12) rfl x hok rfl rfl (fun W2 hb2 hE => ?_); have hcN := hE.name; have hcK := hE.kind; have HE : Hid (EntAt _ _ _) := hE; clear hE; simp only [Act.put])
            | ((with_reducible show wpList _ _ _ (Oper.mk _ (Op.load 39 (.tmp 13)) _ _ _ _ :: _) _ _); refine wpList_load_wantMid (by rfl) 39 (.tmp 13) rfl wr.heap.size 0 rfl (u8s x.blind) HE.out.blind Try.underlying39 rfl HS1.out ?_; simp only [Act.put, List.setIfInBounds_toArray, List.set_cons_zero, List.set_cons_succ])
            | ((with_reducible show wpList _ _ _ (Oper.mk _ (Op.load 39 (.tmp 15)) _ _ _ _ :: _) _ _); have hcE := (HE0.out.later (hbel.trans (hb2.mono hsz))).name; refine wpList_load_wantMid (by rfl) 39 (.tmp 15) rfl w.heap.size 0 rfl (u8s e.blind) (HE0.out.later (hbel.trans (hb2.mono hsz))).blind Try.underlying39 rfl HS2.out ?_; simp only [Act.put, List.setIfInBounds_toArray, List.set_cons_zero, List.set_cons_succ]))
          go_ret
          exact ⟨by rw [HTr.out]; rfl, hb1.trans ((hbel.trans (hb2.mono hsz)).mono hb1.size)⟩
    · obtain rfl : k = len := by omega
      have HTk : Hid (es.take k = es) := List.take_of_length_le (by rw [HL.out]; exact Nat.le_refl _)
      go_wp2
      go_ret
      refine ⟨?_, hb1.trans (hbel.mono hb1.size)⟩
      have := HA.out
      rw [HTk.out] at this
      rw [this]
      rfl
end Go.Proofs.Ytlmfdifnkkdpfaa
