/-
  route.Steps, and what it tells: the names with their places.
-/
import Derived.Test.YtkpjbleogjmbjaaRefSplit
namespace Go.Proofs.Ytkpjbleogjmbjaa
open Go.RowKit Go.Shelf
attribute [local go_sem] Oper.semAt_some

set_option maxHeartbeats 1000000 in
theorem steps_any (s : ByteArray) (hs : s.size ≤ 100000) (w : World) :
    Calls Try.prog 14 #[.string s] w fun e w' => ∃ v B, e = .returned (.func (.func 19) #[] #[.pointer (some ⟨B, 0, none⟩)]) ∧ w.heap.size ≤ B ∧ Boxed w' B 25 v ∧ OwnS w.heap.size w' v ((namesS (bytesOf s)).map txt) ∧ Below w.heap.size w w' := by
  go_enter Try.func14, Try.ntmps14
  go_wp2_with (go_at_call 11; refine (split_any s hs w).mono ?_; rintro e w1 ⟨v, rfl, ho, hb⟩; obtain ⟨q, c, rfl⟩ := ho.slice; rw [List.length_map] at ho)
  go_ret
  exact ⟨_, w1.heap.size, rfl, hb.size, Boxed.new w1 25 _, World.ownsRow.alloc ho _, hb.alloc hb.size _⟩

/-- What is told of the i-th name. -/
def stVal (xs : List ByteArray) (i : Nat) : Array Value := #[.int .i64 (i : Nat), .string (xs.getD i ⟨#[]⟩)]

set_option maxRecDepth 100000 in
set_option maxHeartbeats 2000000 in
theorem steps1_iter (n : Nat) (hn : 2 ≤ n) (l B n₀ : Nat) (v : Value) (xs : List ByteArray) (hx : xs.length ≤ 100000) (W : World) (hB : Boxed W B 25 v) (hO : OwnS n₀ W v xs) :
    IterAt Fence.wide n Try.prog 19 #[.pointer (some ⟨B, 0, none⟩)] (stVal xs) (fun i _ => i < xs.length) (fun X Y => OwnS n₀ X v xs → OwnS n₀ Y v xs) (fun ys => ys = List.range xs.length) (fun pre => ∃ k, k < xs.length ∧ pre = List.range (k + 1)) (xs.length + 1) l W := by
  intro J Jx hJ hJx hY h0
  have hfn : ∀ f, Fence.wide.fn f := fun _ => trivial
  have hc := hB.cell
  obtain ⟨q, c, rfl⟩ := hO.slice
  have hIs := hO.strs
  have hlc := hIs.2.1
  have hcc := hIs.2.2.1
  have HO : Hid (OwnS n₀ W (.slice q xs.length c) xs) := hO
  clear hIs hO
  refine callsIn_of_wp Try.func19 rfl trivial ?_ rfl
  simp only [Try.ntmps19, List.size_toArray, List.length_cons, List.length_nil, Nat.reduceAdd, Nat.reduceSub, Array.replicate_succ, Array.replicate_zero, List.push_toArray, List.append_toArray, List.nil_append, List.cons_append]
  gi_wp2
  gi_loopw [7] (fun r wr => ∃ (k : Nat), k ≤ xs.length ∧ r = .int .i64 k ∧ J (List.range k) wr ∧ OwnS n₀ wr (.slice q xs.length c) xs) (fun r _ => xs.length - (intOf r).toNat)
  case atStart => exact ⟨0, Nat.zero_le _, rfl, h0, HO.out⟩
  case round =>
    obtain ⟨k, hk, rfl, hj, ho⟩ := hrel
    by_cases hlt : k < xs.length
    · have hki : (k : Int) < (xs.length : Int) := by omega
      obtain ⟨g, rfl, _⟩ := ho.row (by omega)
      have hcell : wr.cell? ⟨g, k, none⟩ = some (.string xs[k]) := by
        rcases ho.strs.2.2.2 with h | ⟨b, off, e, _, h⟩
        · omega
        · cases e
          have := h k hlt
          simpa using this
      obtain ⟨fn, tmps, assign, body, hy, hR⟩ := hY (List.range k) k wr hj hlt (by simp; omega)
      unfold stVal at hy
      rw [show xs.getD k ⟨#[]⟩ = xs[k] by rw [List.getD_eq_getElem?_getD, List.getElem?_eq_getElem hlt]; rfl] at hy
      have HO2 : Hid (OwnS n₀ wr (.slice (some ⟨g, 0, none⟩) xs.length c) xs) := ho
      clear ho
      generalize xs[k] = x at *
      gi_wp2
      refine ⟨fun _ => by omega, RoundIn.mono hR ?_⟩
      rintro e W3 (⟨rfl, hJ3, hk3⟩ | ⟨rfl, hJ3, hk3⟩)
      · gi_wp2
        go_roundw
        case rel => exact ⟨k + 1, by omega, by go_num, by rw [List.range_succ]; exact hJ3, hk3 HO2.out⟩
        case measure => simp [intOf]; omega
      · gi_wp2
        refine bodyPost_ret (results_none rfl _ _ _) rfl ?_
        exact ⟨⟨_, rfl⟩, .inr ⟨_, ⟨k, hlt, rfl⟩, by rw [List.range_succ]; exact hJ3⟩⟩
    · obtain rfl : k = xs.length := by omega
      gi_wp2
      go_end0
      exact ⟨⟨_, rfl⟩, .inl ⟨_, rfl, hj⟩⟩
end Go.Proofs.Ytkpjbleogjmbjaa
