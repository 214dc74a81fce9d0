/-
  dir.With.
-/
import Derived.Test.YtlmfdifnkkdpfaaInsAll
namespace Go.Proofs.Ytlmfdifnkkdpfaa
open Go.RowKit Go.Shelf

def withL (e : Ent) (es : List Ent) : List Ent := insE (filt (withB e) es) ((filt (withB e) es).findIdx (overB e)) e
theorem withL_ok {e : Ent} {es : List Ent} (he : e.ok) (h : ∀ x ∈ es, x.ok) : ∀ x ∈ withL e es, x.ok := insE_ok (filt_ok h) he
theorem findIdx_none {pr : Ent → Bool} {es : List Ent} (h : es.any pr = false) : es.findIdx pr = es.length := by
  rw [List.findIdx_eq_length]
  exact fun x hx => by simpa using List.any_eq_false.1 h x hx
theorem firstN_some {pr : Ent → Bool} {es : List Ent} (h : es.any pr = true) : firstN pr es = es.findIdx pr := by rw [firstN, if_pos h]

set_option maxRecDepth 100000 in
set_option maxHeartbeats 1000000 in
theorem with_any (p : Option Addr) (len cap : Nat) (es : List Ent) (x : Ent) (hok : x.ok) (hxn : x.name.size ≤ 1000000) (w : World) (hI : IsEnts w.heap.size w p len cap es) (hnm : ∀ e ∈ es, e.name.size ≤ 1000000) (hlen : len ≤ 100000) :
    Calls Try.prog 17 #[.slice p len cap, .agg (entC x).toArray] w fun e w' => ∃ q l, e = .returned (.slice q l l) ∧ IsEnts w'.heap.size w' q l l (withL x es) ∧ Below w.heap.size w w' := by
  obtain ⟨w0, hw0⟩ : ∃ w0, w.alloc (.cells (entC x).toArray 43) = w0 := ⟨_, rfl⟩
  have hb1 : Below w.heap.size w w0 := by rw [← hw0]; exact (Below.refl _ w).alloc (Nat.le_refl _) _
  have HE0 : Hid (EntAt w0 w.heap.size x) := by rw [← hw0]; exact EntAt.new w x hok
  have hEs := hI.2.2.2.1
  have HW := without_any p len cap es w0 (hI.later hb1) hnm hlen 50 #[.pointer (some ⟨w.heap.size, 0, none⟩)] (enters_of Try.func50 (by kernel_rfl) rfl) (withB x) (fun W hb y hy => with1_any w.heap.size x y (hEs y hy) W (HE0.out.later hb))
  have HOk : Hid (∀ e ∈ filt (withB x) es, e.ok) := filt_ok hEs
  have HWo : Hid (∀ e ∈ withL x es, e.ok) := withL_ok hok hEs
  have HFl : Hid ((filt (withB x) es).length ≤ len) := by
    show _ ≤ _
    have := List.length_filter_le (fun y => !withB x y) es
    rw [filt, ← hI.1]; exact this
  have HL : Hid (withL x es = insE (filt (withB x) es) ((filt (withB x) es).findIdx (overB x)) x) := rfl
  have hfi : (filt (withB x) es).findIdx (overB x) ≤ (filt (withB x) es).length := List.findIdx_le_length
  have hNo : (filt (withB x) es).any (overB x) = false → (filt (withB x) es).findIdx (overB x) = (filt (withB x) es).length := findIdx_none
  have hYes : (filt (withB x) es).any (overB x) = true → firstN (overB x) (filt (withB x) es) = (filt (withB x) es).findIdx (overB x) := firstN_some
  have HF := fun q l c w2 hb2 hI2 => first_any q l c (filt (withB x) es) w2 hI2 51 #[.pointer (some ⟨w.heap.size, 0, none⟩)] (enters_of Try.func51 (by kernel_rfl) rfl) (overB x) (fun W hb y hy => with2_any w.heap.size x y (HOk.out y hy) W ((HE0.out.later (A := w0) (B := w2) hb2).later hb))
  have HX : Hid x.ok := hok
  have HW0 : Hid (w.alloc (.cells (entC x).toArray 43) = w0) := hw0
  have hl0 : w.heap.size < w0.heap.size := HE0.out.row.lt
  obtain ⟨i0, hi0, hz0, hz1, hz2⟩ := info_parts info43
  clear hw0 hI hnm hEs hok
  generalize withL x es = Lx at *
  generalize filt (withB x) es = F at *
  generalize F.findIdx (overB x) = fi at *
  generalize firstN (overB x) F = fn at *
  generalize F.any (overB x) = an at *
  have HFin : ∀ (i : Nat), i = fi → ∀ (q : Option Addr) (l c : Nat) (w3 : World), OwnE w0.heap.size w3 (.slice q l c) F → Below w0.heap.size w0 w3 → Hid (Calls Try.prog 54 #[.slice q l c, .int .i64 i, .slice (some ⟨w3.heap.size, 0, none⟩) 1 1] (w3.alloc (.cells (entC x).toArray 43)) fun e w' => ∃ q' l' c', e = .returned (.slice q' l' c') ∧ l' ≤ c' ∧ IsEnts w'.heap.size w' q' l' l' Lx ∧ Below w.heap.size w w') := by
    rintro i rfl q l c w3 hO3 hb3
    have hl := hO3.back.1
    have hO4 : OwnE w0.heap.size (w3.alloc (.cells (entC x).toArray 43)) (.slice q l c) F := World.ownsRow.alloc hO3 _
    have hs3 := hb3.size
    have hFl := HFl.out
    refine (insert_any w0.heap.size q l c i F x _ hO4 HOk.out HX.out (by omega) w3.heap.size (Row.new' w3 43 _) ?_ (by omega) (by rw [World.size_alloc]; omega)).mono ?_
    · rintro a rfl
      obtain ⟨_, ⟨h, _⟩ | ⟨g, cur, h, _, hr, _⟩⟩ := hO3.back
      · cases h
      · cases h
        have := hr.lt
        show w3.heap.size ≠ g
        omega
    · rintro e w' ⟨q', l', c', rfl, hO', hb'⟩
      have hE' : IsEnts w'.heap.size w' q' l' c' Lx := by rw [HL.out]; exact hO'.ents (by rw [← HL.out]; exact HWo.out)
      exact ⟨_, _, _, rfl, hE'.2.1, hE'.clip, hb1.trans (((hb3.alloc hs3 _).trans hb').mono hb1.size)⟩
  clear HL HWo
  cases an with
  | true =>
    obtain rfl := hYes rfl
    clear hYes hNo
    go_enter Try.func17, Try.ntmps17
    go_wp2_with (first
      | (go_at_call 49; rw [HW0.out]; refine HW.mono ?_; rintro e w2 ⟨q, l, c, rfl, hO, hb2⟩; have HO2 : Hid (OwnE w0.heap.size w2 (.slice q l c) F) := hO; have HE2 : Hid (IsEnts w2.heap.size w2 q l c F) := hO.ents HOk.out; clear hO)
      | (go_at_call 36; refine (HF q l c w2 hb2 HE2.out).mono ?_; rintro e w3 ⟨rfl, hb3⟩; have HO3 : Hid (OwnE w0.heap.size w3 (.slice q l c) F) := HO2.out.later hb3; have hb3' : Below w0.heap.size w0 w3 := hb2.trans (hb3.mono hb2.size); have HE3 : Hid (EntAt w3 w.heap.size x) := HE0.out.later hb3'; clear hb3)
      | ((with_reducible show wpList _ _ _ (Oper.mk _ (Op.load 43 (.tmp 3)) _ _ _ _ :: _) _ _); refine wpList_loadEnt rfl (.tmp 3) rfl rfl HX.out HE3.out.row.range ?_; simp only [Act.put, List.setIfInBounds_toArray, List.set_cons_zero, List.set_cons_succ])
      | (go_at_call 55; refine (ownE_any x HX.out hxn w3).mono ?_; rintro e w4 ⟨rfl, hb4⟩; have HC := HFin _ rfl q l c w4 (HO3.out.later hb4) (hb3'.trans (hb4.mono hb3'.size)); clear hb4)
      | ((with_reducible show wpList _ _ _ (Oper.mk _ (Op.buildSlice 22 1 _) _ _ _ _ :: _) _ _); refine wpList_buildOne rfl 22 43 (.tmp 24) rfl (entC x) rfl i0 _ Try.underlying22 hi0 hz0 (by rw [hz1, entC_length HX.out]) (by rw [entC_length HX.out]; omega) (by rw [entC_length HX.out]; omega) ?_; simp only [Act.put, List.setIfInBounds_toArray, List.set_cons_zero, List.set_cons_succ])
      | (go_at_call 54; refine HC.out.mono ?_; rintro e w5 ⟨q5, l5, c5, rfl, hlc5, hE5, hb5⟩; have HE5 : Hid (IsEnts w5.heap.size w5 q5 l5 l5 Lx) := hE5; clear hE5)
      | (go_at_call 53; refine (clip_any q5 l5 c5 hlc5 w5).mono ?_; rintro e w6 ⟨rfl, hw6⟩; obtain rfl : w5 = w6 := hw6.symm; clear hw6))
    go_ret
    exact ⟨_, _, rfl, HE5.out, hb5⟩
  | false =>
    obtain rfl := hNo rfl
    clear hYes hNo
    go_enter Try.func17, Try.ntmps17
    go_wp2_with (first
      | (go_at_call 49; rw [HW0.out]; refine HW.mono ?_; rintro e w2 ⟨q, l, c, rfl, hO, hb2⟩; have HO2 : Hid (OwnE w0.heap.size w2 (.slice q l c) F) := hO; have HE2 : Hid (IsEnts w2.heap.size w2 q l c F) := hO.ents HOk.out; have hlF : F.length = l := HE2.out.1; clear hO)
      | (go_at_call 36; refine (HF q l c w2 hb2 HE2.out).mono ?_; rintro e w3 ⟨rfl, hb3⟩; have HO3 : Hid (OwnE w0.heap.size w3 (.slice q l c) F) := HO2.out.later hb3; have hb3' : Below w0.heap.size w0 w3 := hb2.trans (hb3.mono hb2.size); have HE3 : Hid (EntAt w3 w.heap.size x) := HE0.out.later hb3'; clear hb3)
      | ((with_reducible show wpList _ _ _ (Oper.mk _ (Op.load 43 (.tmp 3)) _ _ _ _ :: _) _ _); refine wpList_loadEnt rfl (.tmp 3) rfl rfl HX.out HE3.out.row.range ?_; simp only [Act.put, List.setIfInBounds_toArray, List.set_cons_zero, List.set_cons_succ])
      | (go_at_call 55; refine (ownE_any x HX.out hxn w3).mono ?_; rintro e w4 ⟨rfl, hb4⟩; have HC := HFin l hlF.symm q l c w4 (HO3.out.later hb4) (hb3'.trans (hb4.mono hb3'.size)); clear hb4)
      | ((with_reducible show wpList _ _ _ (Oper.mk _ (Op.buildSlice 22 1 _) _ _ _ _ :: _) _ _); refine wpList_buildOne rfl 22 43 (.tmp 24) rfl (entC x) rfl i0 _ Try.underlying22 hi0 hz0 (by rw [hz1, entC_length HX.out]) (by rw [entC_length HX.out]; omega) (by rw [entC_length HX.out]; omega) ?_; simp only [Act.put, List.setIfInBounds_toArray, List.set_cons_zero, List.set_cons_succ])
      | (go_at_call 54; refine HC.out.mono ?_; rintro e w5 ⟨q5, l5, c5, rfl, hlc5, hE5, hb5⟩; have HE5 : Hid (IsEnts w5.heap.size w5 q5 l5 l5 Lx) := hE5; clear hE5)
      | (go_at_call 53; refine (clip_any q5 l5 c5 hlc5 w5).mono ?_; rintro e w6 ⟨rfl, hw6⟩; obtain rfl : w5 = w6 := hw6.symm; clear hw6))
    go_ret
    exact ⟨_, _, rfl, HE5.out, hb5⟩
end Go.Proofs.Ytlmfdifnkkdpfaa
