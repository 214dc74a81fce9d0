/-
  SameRequest, of requests that are alike.
-/
import Derived.Test.YtedpgdldekkgdaaReq
import Derived.Test.YtedpgdldekkgdaaGot
namespace Go.Proofs.Ytedpgdldekkgdaa
open Go.RowKit Go.Shelf

theorem eq_id_run {x : List Nat} (hx : IsId x) (w : World) : (Op.equalIn 10000 25 (.agg (u8s x).toArray) (.agg (u8s x).toArray)).run Try.prog w = .ok true w := by
  rw [equal_ids hx hx w, decide_eq_true rfl]

set_option maxRecDepth 100000 in
set_option maxHeartbeats 4000000 in
theorem sameQ_alike (p : Option Addr) (len cap : Nat) (p2 : Option Addr) (cap2 : Nat) (b : List Nat) (r : Req) (hok : r.ok) (w : World) (hI : IsBytes w.heap.size w p len cap b) (hJ : IsBytes w.heap.size w p2 len cap2 b) :
    Calls Try.prog 14 #[.agg (reqC (.slice p len cap) r).toArray, .agg (reqC (.slice p2 len cap2) r).toArray] w fun e w' => e = .returned (.bool true) ∧ Below w.heap.size w w' := by
  obtain ⟨w0, hw0⟩ : ∃ w0, (w.alloc (.cells (reqC (.slice p len cap) r).toArray 28)).alloc (.cells (reqC (.slice p2 len cap2) r).toArray 28) = w0 := ⟨_, rfl⟩
  have hb0 : Below w.heap.size w w0 := by rw [← hw0]; exact ((Below.refl _ w).alloc (Nat.le_refl _) _).alloc (by simp) _
  have hA : ReqAt w0 w.heap.size (.slice p len cap) r := by rw [← hw0]; exact (ReqAt.new w _ r hok).later ((Below.refl _ _).alloc (Nat.le_refl _) _)
  have hB : ReqAt w0 (w.heap.size + 1) (.slice p2 len cap2) r := by
    rw [← hw0]
    have := ReqAt.new (w.alloc (.cells (reqC (.slice p len cap) r).toArray 28)) (.slice p2 len cap2) r hok
    rwa [World.size_alloc] at this
  have HW0 : Hid ((w.alloc (.cells (reqC (.slice p len cap) r).toArray 28)).alloc (.cells (reqC (.slice p2 len cap2) r).toArray 28) = w0) := hw0
  have HA : Hid (ReqAt w0 w.heap.size (.slice p len cap) r) := hA
  have HB : Hid (ReqAt w0 (w.heap.size + 1) (.slice p2 len cap2) r) := hB
  have a0 := hA.client
  have a1 := hA.seq
  have a2 := hA.kind
  have a3 := hA.tenant
  have a4 := hA.name
  have a7 := hA.n
  have a8 := hA.body
  have b0 := hB.client
  have b1 := hB.seq
  have b2 := hB.kind
  have b3 := hB.tenant
  have b4 := hB.name
  have b7 := hB.n
  have b8 := hB.body
  have hs1 := (str_of_bytes ((hI.below hb0).mono hb0.size)).here
  have hs2 := (str_of_bytes ((hJ.below hb0).mono hb0.size)).here
  have q1 := eq_id_run hok.id
  have q2 := eq_id_run hok.old
  have HOk : Hid r.ok := hok
  clear hA hB hw0 hI hJ hok
  go_enter Try.func14, Try.ntmps14
  go_wp2_with (first
    | (rw [HW0.out])
    | ((with_reducible show wpList _ _ _ (Oper.mk (some 40) (Op.load 25 _) _ _ _ _ :: _) _ _); refine wpList_load_want (by rfl) 25 (.tmp 39) rfl w.heap.size 5 rfl (u8s r.id) HA.out.id Try.underlying25 (size25' HOk.out.id) ?_; simp only [Act.put, List.setIfInBounds_toArray, List.set_cons_zero, List.set_cons_succ])
    | ((with_reducible show wpList _ _ _ (Oper.mk (some 42) (Op.load 25 _) _ _ _ _ :: _) _ _); refine wpList_load_want (by rfl) 25 (.tmp 41) rfl (w.heap.size + 1) 5 rfl (u8s r.id) HB.out.id Try.underlying25 (size25' HOk.out.id) ?_; simp only [Act.put, List.setIfInBounds_toArray, List.set_cons_zero, List.set_cons_succ])
    | ((with_reducible show wpList _ _ _ (Oper.mk (some 47) (Op.load 25 _) _ _ _ _ :: _) _ _); refine wpList_load_want (by rfl) 25 (.tmp 46) rfl w.heap.size 37 rfl (u8s r.old) HA.out.old Try.underlying25 (size25' HOk.out.old) ?_; simp only [Act.put, List.setIfInBounds_toArray, List.set_cons_zero, List.set_cons_succ])
    | ((with_reducible show wpList _ _ _ (Oper.mk (some 49) (Op.load 25 _) _ _ _ _ :: _) _ _); refine wpList_load_want (by rfl) 25 (.tmp 48) rfl (w.heap.size + 1) 37 rfl (u8s r.old) HB.out.old Try.underlying25 (size25' HOk.out.old) ?_; simp only [Act.put, List.setIfInBounds_toArray, List.set_cons_zero, List.set_cons_succ]))
  go_ret
  exact ⟨rfl, hb0⟩
end Go.Proofs.Ytedpgdldekkgdaa
