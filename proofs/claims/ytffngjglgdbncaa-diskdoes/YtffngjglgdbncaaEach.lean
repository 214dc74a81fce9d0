/-
  Sectors told one behind the other, with their numbers.
-/
import Derived.Test.YtffngjglgdbncaaEq
import Derived.RangeFuncNested
import Derived.RangeFuncBound
import Derived.RangeFuncCalls
import Derived.RangeFuncLeaves
namespace Go.Proofs.Ytffngjglgdbncaa
open Go.RowKit Go.Shelf
attribute [local go_sem] Oper.semAt_some

theorem rangeAt_same {A B : World} {b off : Nat} {cs : List Value} (h : A.rangeAt b off cs) (e : ∀ o, A.heap[b]? = some o → B.heap[b]? = some o) : B.rangeAt b off cs := fun j v hv => by
  obtain ⟨c, t, fr, h1, h2⟩ := cells_of_cell (h j v hv)
  simp [World.cell?, e _ h1, h2]
/-- These sectors, from the beginning of block G on. -/
def SecsR (W : World) (G : Nat) (ss : List (List Nat)) : Prop := ∀ i, i < ss.length → W.rangeAt G (i * 64) (u8s (ss.getD i []))
theorem SecsR.same {A B : World} {G : Nat} {ss : List (List Nat)} (h : SecsR A G ss) (e : ∀ o, A.heap[G]? = some o → B.heap[G]? = some o) : SecsR B G ss := fun i hi => rangeAt_same (h i hi) e
/-- The first k of them, with their numbers. -/
def numd (ss : List (List Nat)) (k : Nat) : List (Nat × List Nat) := (List.range k).map fun i => (i, ss.getD i [])
theorem numd_succ (ss : List (List Nat)) (k : Nat) : numd ss (k + 1) = numd ss k ++ [(k, ss.getD k [])] := by simp [numd, List.range_succ]
theorem numd_last {ss : List (List Nat)} {pre : List (Nat × List Nat)} {x : Nat × List Nat} {k : Nat} (h : pre ++ [x] = numd ss k) : x.1 = pre.length := by
  cases k with
  | zero => simp [numd] at h
  | succ k =>
    rw [numd_succ] at h
    have h1 := List.append_inj' h rfl
    have h2 := congrArg List.length h1.1
    have h3 : x = (k, ss.getD k []) := by simpa using h1.2
    rw [h3, h2]
    simp [numd]
theorem numd_length (ss : List (List Nat)) (k : Nat) : (numd ss k).length = k := by simp [numd]
/-- What is kept while they are told. -/
def KpB (G : Nat) (X Y : World) : Prop := X.heap.size ≤ Y.heap.size ∧ ∀ o, X.heap[G]? = some o → Y.heap[G]? = some o
theorem KpB.trans {G : Nat} {A B C : World} (h : KpB G A B) (k : KpB G B C) : KpB G A C := ⟨Nat.le_trans h.1 k.1, fun o ho => k.2 o (h.2 o ho)⟩
theorem KpB.below {G : Nat} {A B : World} (h : Below A.heap.size A B) : KpB G A B := ⟨h.size, fun _ ho => (h.block G (Array.getElem?_eq_some_iff.1 ho).1).trans ho⟩
theorem KpB.putObj {G l : Nat} (hl : G ≠ l) (A : World) (o : Obj) : KpB G A (A.putObj l o) := ⟨by simp [World.putObj], fun _ ho => (World.putObj_heap_other (by omega)).trans ho⟩

set_option maxHeartbeats 1000000 in
theorem each_any (q : Option Addr) (len cap : Nat) (w : World) : Calls Try.prog 25 #[.slice q len cap] w fun e w' => e = .returned (.func (.func 27) #[] #[.pointer (some ⟨w.heap.size, 0, none⟩)]) ∧ w' = w.alloc (.cells #[.slice q len cap] 40) := by
  go_enter Try.func25, Try.ntmps25
  go_wp2
  go_ret
  exact ⟨rfl, rfl⟩

set_option maxRecDepth 100000 in
set_option maxHeartbeats 1000000 in
theorem each1_iter (n : Nat) (hn : 2 ≤ n) (l B G c : Nat) (ss : List (List Nat)) (hss : ∀ s ∈ ss, IsSec s) (hlen : ss.length ≤ 65536) (W : World) (hbx : Boxed W B 40 (.slice (some ⟨G, 0, none⟩) ss.length c)) (hS : SecsR W G ss) :
    IterLow Fence.wide n Try.prog 27 #[.pointer (some ⟨B, 0, none⟩)] (fun x : Nat × List Nat => #[.int .i64 (x.1 : Nat), .agg (u8s x.2).toArray]) (fun x _ => x.1 < ss.length ∧ x.2 = ss.getD x.1 []) (KpB G) (fun xs => xs = numd ss ss.length) (fun pre => ∃ k, pre = numd ss k) ss.length l W := by
  intro J Jx hJ hJx hY h0
  have hfn : ∀ f, Fence.wide.fn f := fun _ => trivial
  have hc := hbx.cell
  obtain ⟨m, hm⟩ : ∃ m, ss.length = m := ⟨_, rfl⟩
  have HM : Hid (ss.length = m) := hm
  rw [hm] at hlen hc ⊢
  have hY : ∀ pre x W1, J pre W1 → (x.1 < ss.length ∧ x.2 = ss.getD x.1 []) → pre.length < m → YieldAt Fence.wide (n - 1) Try.prog l #[.int .i64 (x.1 : Nat), .agg (u8s x.2).toArray] W1 fun e W' =>
      (e = .returned (.bool true) ∧ J (pre ++ [x]) W' ∧ KpB G W1 W') ∨ (e = .returned (.bool false) ∧ Jx (pre ++ [x]) W' ∧ KpB G W1 W') := fun pre x W1 a b c => hY pre x W1 a b (by rw [hm]; exact c)
  refine callsIn_of_wp Try.func27 rfl trivial ?_ rfl
  simp only [Try.ntmps27, List.size_toArray, List.length_cons, List.length_nil, Nat.reduceAdd, Nat.reduceSub, Array.replicate_succ, Array.replicate_zero, List.push_toArray, List.append_toArray, List.nil_append, List.cons_append]
  have HS : Hid (SecsR W G ss) := hS
  have HSs : Hid (∀ s ∈ ss, IsSec s) := hss
  clear hbx hm hS hss
  gi_wp2
  gi_loopw [7] (fun i wr => ∃ (k : Nat), k ≤ m ∧ i = .int .i64 k ∧ J (numd ss k) wr ∧ KpB G W wr) (fun i _ => m - (intOf i).toNat)
  case atStart => exact ⟨0, Nat.zero_le _, rfl, h0, Nat.le_refl _, fun _ h => h⟩
  case round =>
    obtain ⟨k, hk, rfl, hj, hkp⟩ := hrel
    have HKp : Hid (KpB G W wr) := hkp
    have HSr : Hid (SecsR wr G ss) := HS.out.same hkp.2
    clear hkp
    by_cases hlt : k < m
    · have hki : (k : Int) < (m : Int) := by omega
      have hkl : k < ss.length := by rw [HM.out]; exact hlt
      obtain ⟨x, hx⟩ : ∃ x, ss.getD k [] = x := ⟨_, rfl⟩
      have hxs : IsSec x := by rw [← hx]; exact sec_at HSs.out hkl
      have HRg : Hid (wr.rangeAt G (k * 64) (u8s x)) := by rw [← hx]; exact HSr.out k hkl
      have HT : Hid (numd ss (k + 1) = numd ss k ++ [(k, x)]) := by show _ = _; rw [numd_succ, hx]
      have HL : Hid ((u8s x).length = 64) := by show _ = _; rw [u8s_length]; exact hxs.1
      have HO : Hid (∀ v ∈ u8s x, v.oneCell' = true) := u8s_one _
      have HY : Hid (∀ W1, Below wr.heap.size wr W1 → YieldAt Fence.wide (n - 1) Try.prog l #[.int .i64 (k : Nat), .agg (u8s x).toArray] W1 fun e W' =>
          (e = .returned (.bool true) ∧ J (numd ss k ++ [(k, x)]) W' ∧ KpB G W1 W') ∨ (e = .returned (.bool false) ∧ Jx (numd ss k ++ [(k, x)]) W' ∧ KpB G W1 W')) := fun W1 hb =>
        hY (numd ss k) (k, x) W1 (hJ _ _ _ hj (hb.mono HKp.out.1)) ⟨hkl, hx.symm⟩ (by rw [numd_length]; exact hlt)
      clear hx hxs hkl
      generalize u8s x = V at *
      gi_wp2_with (first
        | ((with_reducible show wpListIn _ _ _ _ _ (Oper.mk _ (Op.load 29 (.tmp 10)) _ _ _ _ :: _) _ _); refine wpListIn_load_mid rfl 29 (.tmp 10) rfl G (k * 64) rfl V HRg.out Try.underlying29 (by rw [HL.out]; exact size29) ?_; simp only [Act.put, List.setIfInBounds_toArray, List.set_cons_zero, List.set_cons_succ])
        | ((with_reducible show wpListIn _ _ _ _ _ (Oper.mk _ (Op.store 29 (.tmp 4) (.tmp 11)) _ _ _ _ :: _) _ _); rw [z64u8]; refine wpListIn_store_new rfl (.tmp 4) (.tmp 11) rfl V HL.out HO.out rfl rfl (fun w5 hb5 hR5 hs5 => ?_); have HR5 : Hid (Row w5 _ 29 V) := hR5; have HY5 := HY.out w5 hb5; have HK5 : Hid (KpB G W w5) := HKp.out.trans (KpB.below hb5); clear hR5; simp only [Act.put])
        | ((with_reducible show wpListIn _ _ _ _ _ (Oper.mk _ (Op.load 29 (.tmp 4)) _ _ _ _ :: _) _ _); refine wpListIn_load_Row rfl 29 (.tmp 4) rfl rfl HR5.out Try.underlying29 (by rw [HL.out]; exact size29) ?_; obtain ⟨fn, tmps, assign, body, hy, hR⟩ := HY5; simp only [Act.put, List.setIfInBounds_toArray, List.set_cons_zero, List.set_cons_succ]))
      refine ⟨fun _ => by omega, RoundIn.mono hR ?_⟩
      rintro e W3 (⟨rfl, hJ3, hk3⟩ | ⟨rfl, hJ3, hk3⟩)
      · gi_wp2
        go_roundw
        case rel => exact ⟨k + 1, by omega, by go_num, by rw [HT.out]; exact hJ3, HK5.out.trans hk3⟩
        case measure => simp [intOf]; omega
      · gi_wp2
        refine bodyPost_ret (results_none rfl _ _ _) rfl ?_
        exact ⟨⟨_, rfl⟩, .inr ⟨_, ⟨k + 1, HT.out.symm⟩, hJ3⟩⟩
    · obtain rfl : k = m := by omega
      gi_wp2
      refine ⟨rfl, _, results_none rfl _ _ _, ?_⟩
      exact ⟨⟨_, rfl⟩, .inl ⟨_, rfl, hj⟩⟩
end Go.Proofs.Ytffngjglgdbncaa
