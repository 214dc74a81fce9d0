/-
  asks, of any request.
-/
import Derived.Test.YtedpgdldekkgdaaMayQ
namespace Go.Proofs.Ytedpgdldekkgdaa
open Go.RowKit Go.Shelf
set_option maxRecDepth 100000 in
set_option maxHeartbeats 1000000 in
theorem asks_all (p : Option Addr) (len cap : Nat) (r : Req) (hok : r.ok) (w : World) :
    Calls Try.prog 9 #[.agg (reqC (.slice p len cap) r).toArray] w fun e w' => e = .returned (.bool (fewQ r len)) ∧ Below w.heap.size w w' := by
  obtain ⟨w0, hw0⟩ : ∃ w0, w.alloc (.cells (reqC (.slice p len cap) r).toArray 28) = w0 := ⟨_, rfl⟩
  have hb0 : Below w.heap.size w w0 := by rw [← hw0]; exact (Below.refl _ w).alloc (Nat.le_refl _) _
  have hA : ReqAt w0 w.heap.size (.slice p len cap) r := by rw [← hw0]; exact ReqAt.new w _ r hok
  have HW0 : Hid (w.alloc (.cells (reqC (.slice p len cap) r).toArray 28) = w0) := hw0
  have hc4 := hA.name
  have hc8 := hA.body
  clear hA hw0 hok
  by_cases h3 : r.name.size ≤ 200
  · have h3' : (r.name.size : Int) ≤ 200 := by omega
    by_cases h4 : len ≤ 1000
    · have h4' : (len : Int) ≤ 1000 := by omega
      have HV : Hid (fewQ r len = true) := by show _ = _; rw [fewQ, decide_eq_true h3, decide_eq_true h4]; (try rfl)
      go_enter Try.func9, Try.ntmps9
      go_wp2_with (rw [HW0.out])
      go_ret
      exact ⟨by rw [HV.out]; rfl, hb0⟩
    · have h4' : ¬ (len : Int) ≤ 1000 := by omega
      have HV : Hid (fewQ r len = false) := by show _ = _; rw [fewQ, decide_eq_true h3, decide_eq_false h4]; (try rfl)
      go_enter Try.func9, Try.ntmps9
      go_wp2_with (rw [HW0.out])
      go_ret
      exact ⟨by rw [HV.out]; rfl, hb0⟩
  · have h3' : ¬ (r.name.size : Int) ≤ 200 := by omega
    have HV : Hid (fewQ r len = false) := by show _ = _; rw [fewQ, decide_eq_false h3]; (try rfl)
    go_enter Try.func9, Try.ntmps9
    go_wp2_with (rw [HW0.out])
    go_ret
    exact ⟨by rw [HV.out]; rfl, hb0⟩
end Go.Proofs.Ytedpgdldekkgdaa
