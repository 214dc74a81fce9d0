/-
  Clip, Without and Find.
-/
import Derived.Test.YtlmfdifnkkdpfaaWo
namespace Go.Proofs.Ytlmfdifnkkdpfaa
open Go.RowKit Go.Shelf

set_option maxRecDepth 100000 in
set_option maxHeartbeats 1000000 in
theorem clip_any (q : Option Addr) (l c : Nat) (hlc : l ≤ c) (w : World) : Calls Try.prog 53 #[.slice q l c] w fun e w' => e = .returned (.slice q l l) ∧ w' = w := by
  have h1 : (l : Int) ≤ (c : Int) := by omega
  cases q with
  | none =>
    go_enter Try.func53, Try.ntmps53
    go_wp2
    go_ret
    exact ⟨rfl, rfl⟩
  | some a =>
    go_enter Try.func53, Try.ntmps53
    go_wp2
    go_ret
    exact ⟨rfl, rfl⟩
theorem IsEnts.clip {n₀ : Nat} {W : World} {p : Option Addr} {len cap : Nat} {es : List Ent} (h : IsEnts n₀ W p len cap es) : IsEnts n₀ W p len len es := by
  obtain ⟨h1, h2, h3, h4, h5⟩ := h
  exact ⟨h1, Nat.le_refl _, by omega, h4, h5⟩
theorem filt_ok {pr : Ent → Bool} {es : List Ent} (h : ∀ e ∈ es, e.ok) : ∀ e ∈ filt pr es, e.ok := fun e he => h e (List.mem_filter.1 he).1

set_option maxRecDepth 100000 in
set_option maxHeartbeats 1000000 in
/-- dir.Without -/
theorem withoutD_any (p : Option Addr) (len cap : Nat) (es : List Ent) (s : ByteArray) (w : World) (hI : IsEnts w.heap.size w p len cap es) (hnm : ∀ e ∈ es, e.name.size ≤ 1000000) (hlen : len ≤ 100000) :
    Calls Try.prog 19 #[.slice p len cap, .string s] w fun e w' => ∃ q l, e = .returned (.slice q l l) ∧ IsEnts w'.heap.size w' q l l (filt (fun x => nameB x s) es) ∧ Below w.heap.size w w' := by
  have hb1 : Below w.heap.size w (w.alloc (.cells #[.string s] 9)) := (Below.refl _ w).alloc (Nat.le_refl _) _
  have hbx : Boxed (w.alloc (.cells #[.string s] 9)) w.heap.size 9 (.string s) := Boxed.new w 9 _
  have HW := without_any p len cap es (w.alloc (.cells #[.string s] 9)) (hI.later hb1) hnm hlen 56 #[.pointer (some ⟨w.heap.size, 0, none⟩)] (enters_of Try.func56 (by kernel_rfl) rfl) (fun x => nameB x s) (fun W hb x hx => without1_any w.heap.size s x (hI.2.2.2.1 x hx) W (boxed_below hbx hb))
  have HOk : Hid (∀ e ∈ filt (fun x => nameB x s) es, e.ok) := filt_ok hI.2.2.2.1
  clear hI hnm hbx
  go_enter Try.func19, Try.ntmps19
  go_wp2_with (first
    | (go_at_call 49; refine HW.mono ?_; rintro e w2 ⟨q, l, c, rfl, hO, hb2⟩; have HE2 : Hid (IsEnts w2.heap.size w2 q l c (filt (fun x => nameB x s) es)) := hO.ents HOk.out; have hlc := HE2.out.2.1; clear hO)
    | (go_at_call 53; refine (clip_any q l c hlc w2).mono ?_; rintro e w3 ⟨rfl, hw3⟩; obtain rfl : w2 = w3 := hw3.symm; clear hw3))
  go_ret
  exact ⟨_, _, rfl, HE2.out.clip, hb1.trans (hb2.mono hb1.size)⟩

set_option maxRecDepth 100000 in
set_option maxHeartbeats 1000000 in
/-- dir.Find -/
theorem find_any (p : Option Addr) (len cap : Nat) (es : List Ent) (s : ByteArray) (w : World) (hI : IsEnts w.heap.size w p len cap es) :
    Calls Try.prog 21 #[.slice p len cap, .string s] w fun e w' => e = .returned (.tuple #[.int .i64 (firstN (fun x => nameB x s) es : Nat), .bool (es.any fun x => nameB x s)]) ∧ Below w.heap.size w w' := by
  have hb1 : Below w.heap.size w (w.alloc (.cells #[.string s] 9)) := (Below.refl _ w).alloc (Nat.le_refl _) _
  have hbx : Boxed (w.alloc (.cells #[.string s] 9)) w.heap.size 9 (.string s) := Boxed.new w 9 _
  have HF := first_any p len cap es (w.alloc (.cells #[.string s] 9)) (hI.later hb1) 57 #[.pointer (some ⟨w.heap.size, 0, none⟩)] (enters_of Try.func57 (by kernel_rfl) rfl) (fun x => nameB x s) (fun W hb x hx => find1_any w.heap.size s x (hI.2.2.2.1 x hx) W (boxed_below hbx hb))
  clear hI hbx
  generalize firstN (fun x => nameB x s) es = fi at *
  generalize (es.any fun x => nameB x s) = an at *
  go_enter Try.func21, Try.ntmps21
  go_wp2_with (go_at_call 36; refine HF.mono ?_; rintro e w2 ⟨rfl, hb2⟩)
  refine bodyPost_ret (results_tmp2 rfl _ _ _) rfl ?_
  exact ⟨rfl, hb1.trans (hb2.mono hb1.size)⟩
end Go.Proofs.Ytlmfdifnkkdpfaa
