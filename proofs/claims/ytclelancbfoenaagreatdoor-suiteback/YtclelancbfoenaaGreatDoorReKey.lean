/-
  What chacha.Keystream tells: the blocks of a key, a counter and a nonce, one behind the other, for every loop body that leaves it within N rounds and keeps the boxes and the program's tables.
-/
import Derived.Test.YtclelancbfoenaaGreatDoorMade
import Derived.Test.YtclelancbfoenaaGreatDoorReEver
import Derived.Test.YtclelancbfoenaaGreatDoorReBlock
namespace Go.Proofs.YtclelancbfoenaaGreatDoor.Re
open Go.RowKit Go.Shelf
attribute [local go_sem] Oper.semAt_some

theorem Tab.kept {M : Nat → Prop} {A B : World} (h : ∀ (k : Nat) (c : Array Value) (t : TypeId) (fr : Nat × Nat), ¬ M k → A.heap[k]? = some (Obj.cells c t fr) → B.heap[k]? = some (Obj.cells c t fr)) (h0 : ¬ M 0) (h1 : ¬ M 1) (hT : Tab A) : Tab B := by
  refine ⟨fun i hi => ?_, fun i hi => ?_⟩
  · obtain ⟨c, t, fr, hh, hci⟩ := cells_of_cell (hT.1 i hi)
    rw [cell_of_row B 0 i c t fr (h 0 c t fr h0 hh)]
    exact hci
  · obtain ⟨c, t, fr, hh, hci⟩ := cells_of_cell (hT.2 i hi)
    rw [cell_of_row B 1 i c t fr (h 1 c t fr h1 hh)]
    exact hci

set_option maxRecDepth 100000 in
set_option maxHeartbeats 2000000 in
theorem key1_iter (n : Nat) (hn : 2 ≤ n) (l Bc Bk Bn c N : Nat) (KV NV : List Value) (B : Nat → List Value) (HKl : Hid (KV.length = 32)) (HNl : Hid (NV.length = 12))
    (HBk : Hid (∀ k w, Tab w → Calls Tryz.prog 77 #[.agg KV.toArray, .int .u32 ((c + k) % 4294967296 : Nat), .agg NV.toArray] w fun e w' => e = .returned (.agg (B k).toArray) ∧ Below w.heap.size w w'))
    (W : World) (hc : c < 4294967296) (hN : N ≤ 4294967296) (hT : Tab W) (hrC : Row W Bc 53 [.int .u32 c]) (hrK : Row W Bk 23 KV) (hrN : Row W Bn 54 NV)
    (M : Nat → Prop) (Kp : World → World → Prop) (hK1 : ∀ A B, Kp A B → ∀ (k : Nat) (c : Array Value) (t : TypeId) (fr : Nat × Nat), ¬ M k → A.heap[k]? = some (Obj.cells c t fr) → B.heap[k]? = some (Obj.cells c t fr)) (hK2 : ∀ A B, Kp A B → A.heap.size ≤ B.heap.size)
    (hM0 : ¬ M 0) (hM1 : ¬ M 1) (hMk : ¬ M Bk) (hMn : ¬ M Bn) :
    IterEver Fence.wide n Tryz.prog 76 #[.pointer (some ⟨Bc, 0, none⟩), .pointer (some ⟨Bk, 0, none⟩), .pointer (some ⟨Bn, 0, none⟩)] (fun k => #[.agg (B k).toArray]) Kp N l W := by
  intro J Jx hJ hJx hJN hY h0
  have hfn : ∀ f, Fence.wide.fn f := fun _ => trivial
  have h1 : 1 ≤ n := by omega
  have HK1 : Hid (∀ A B, Kp A B → ∀ (k : Nat) (c : Array Value) (t : TypeId) (fr : Nat × Nat), ¬ M k → A.heap[k]? = some (Obj.cells c t fr) → B.heap[k]? = some (Obj.cells c t fr)) := hK1
  have HK2 : Hid (∀ A B, Kp A B → A.heap.size ≤ B.heap.size) := hK2
  have HJ : Hid (Low W.heap.size J) := hJ
  have HJN : Hid (∀ k W1, J k W1 → k < N) := hJN
  have HY : Hid (∀ k W1, J k W1 → YieldAt Fence.wide (n - 1) Tryz.prog l #[.agg (B k).toArray] W1 fun e W' => (e = .returned (.bool true) ∧ J (k + 1) W' ∧ Kp W1 W') ∨ (e = .returned (.bool false) ∧ Jx (k + 1) W' ∧ Kp W1 W')) := hY
  have HT : Hid (Tab W) := hT
  have HrK : Hid (Row W Bk 23 KV) := hrK
  have HrN : Hid (Row W Bn 54 NV) := hrN
  have H0 : Hid (J 0 W) := h0
  have cc := hrC.cell (i := 0) rfl
  have HC0 : Hid ((c + 0) % 4294967296 = c) := by show _ = _; omega
  clear hK1 hK2 hJ hJx hJN hY hT hrK hrN hrC h0
  refine callsIn_of_wp Tryz.func76 rfl trivial ?_ rfl
  simp only [Tryz.ntmps76, List.size_toArray, List.length_cons, List.length_nil, Nat.reduceAdd, Nat.reduceSub, Array.replicate_succ, Array.replicate_zero, List.push_toArray, List.append_toArray, List.nil_append, List.cons_append]
  gi_wp2
  gi_loopw [5] (fun v wr => ∃ k : Nat, v = .int .u32 ((c + k) % 4294967296 : Nat) ∧ J k wr ∧ Tab wr ∧ Row wr Bk 23 KV ∧ Row wr Bn 54 NV ∧ W.heap.size ≤ wr.heap.size) (fun v _ => N - ((intOf v).toNat + (4294967296 - c)) % 4294967296)
  case atStart => exact ⟨0, by rw [HC0.out], H0.out, HT.out, HrK.out, HrN.out, Nat.le_refl _⟩
  case round =>
    obtain ⟨k, rfl, hJk, hTr, hrK, hrN, hsz⟩ := hrel
    have hkN := HJN.out k wr hJk
    have HJk : Hid (J k wr) := hJk
    have HTr : Hid (Tab wr) := hTr
    have HrK2 : Hid (Row wr Bk 23 KV) := hrK
    have HrN2 : Hid (Row wr Bn 54 NV) := hrN
    have HM : Hid ((((c + k) % 4294967296 + (4294967296 - c)) % 4294967296 = k)) := by show _ = _; omega
    have HA : Hid (((((c + k) % 4294967296 : Nat) : Int) + 1) % 4294967296 = (((c + (k + 1)) % 4294967296 : Nat) : Int)) := by show _ = _; omega
    have HBk2 := HBk.out k
    clear hJk hTr hrK hrN HT HrK HrN H0
    generalize hck : (c + k) % 4294967296 = ck at *
    clear hck
    gi_wp2_with (first
      | ((with_reducible show wpListIn _ _ _ _ _ (Oper.mk _ (Op.load 23 (.tmp 2)) _ _ _ _ :: _) _ _); refine wpListIn_load_Row rfl 23 (.tmp 2) rfl rfl HrK2.out Tryz.underlying23 (by rw [HKl.out]; exact size23) ?_; simp only [Act.put, List.setIfInBounds_toArray, List.set_cons_zero, List.set_cons_succ])
      | ((with_reducible show wpListIn _ _ _ _ _ (Oper.mk _ (Op.load 54 (.tmp 3)) _ _ _ _ :: _) _ _); refine wpListIn_load_Row rfl 54 (.tmp 3) rfl rfl HrN2.out Tryz.underlying54 (by rw [HNl.out]; exact size54) ?_; simp only [Act.put, List.setIfInBounds_toArray, List.set_cons_zero, List.set_cons_succ])
      | (gi_at_call 77; refine (callsIn_wide.2 (HBk2 _ HTr.out)).mono ?_; rintro e w1 ⟨rfl, hb1⟩; have Hb1 : Hid (Below wr.heap.size wr w1) := hb1; clear hb1; obtain ⟨fn, tmps, assign, body, hy, hR⟩ := HY.out k w1 (HJ.out k wr w1 HJk.out (Hb1.out.mono hsz))))
    refine hR.mono ?_
    rintro e W3 (⟨rfl, hJ3, hk3⟩ | ⟨rfl, hJx3, _⟩)
    · have hs3 : W.heap.size ≤ W3.heap.size := Nat.le_trans hsz (Nat.le_trans Hb1.out.size (HK2.out _ _ hk3))
      have HT3 : Hid (Tab W3) := Tab.kept (HK1.out _ _ hk3) hM0 hM1 (HTr.out.later Hb1.out)
      have HK3 : Hid (Row W3 Bk 23 KV) := HK1.out _ _ hk3 _ _ _ _ hMk (HrK2.out.later Hb1.out)
      have HN3 : Hid (Row W3 Bn 54 NV) := HK1.out _ _ hk3 _ _ _ _ hMn (HrN2.out.later Hb1.out)
      have HJ3 : Hid (J (k + 1) W3) := hJ3
      clear hR hy hJ3 hk3
      gi_wp2
      go_roundw
      case rel => exact ⟨k + 1, by rw [HA.out], HJ3.out, HT3.out, HK3.out, HN3.out, hs3⟩
      case measure =>
        have h1 := HM.out
        have h2 := HJN.out (k + 1) W3 HJ3.out
        rw [HA.out]
        simp only [intOf, Int.toNat_natCast]
        rw [h1, show ((c + (k + 1)) % 4294967296 + (4294967296 - c)) % 4294967296 = k + 1 by omega]
        omega
    · clear hR hy
      gi_wp2
      go_end0
      exact ⟨⟨_, rfl⟩, ⟨k + 1, hJx3⟩⟩

set_option maxHeartbeats 1000000 in
/-- chacha.Keystream: the three arguments are boxed; the function value captures the boxes. -/
theorem keystream_any (c : Nat) (KV NV : List Value) (w : World) :
    Calls Tryz.prog 59 #[.agg KV.toArray, .int .u32 c, .agg NV.toArray] w fun e w' =>
      e = .returned (.func (.func 76) #[] #[.pointer (some ⟨w.heap.size + 1, 0, none⟩), .pointer (some ⟨w.heap.size, 0, none⟩), .pointer (some ⟨w.heap.size + 1 + 1, 0, none⟩)]) ∧ Row w' w.heap.size 23 KV ∧ Row w' (w.heap.size + 1) 53 [.int .u32 c] ∧ Row w' (w.heap.size + 1 + 1) 54 NV ∧ Below w.heap.size w w' := by
  go_enter Tryz.func59, Tryz.ntmps59
  go_wp2
  go_ret
  have h2 := Row.new' (w.alloc (.cells KV.toArray 23)) 53 [.int .u32 c]
  rw [World.size_alloc] at h2
  have h3 := Row.new' ((w.alloc (.cells KV.toArray 23)).alloc (.cells [.int .u32 c].toArray 53)) 54 NV
  rw [World.size_alloc, World.size_alloc] at h3
  exact ⟨rfl, ((Row.new' w 23 KV).alloc _).alloc _, h2.alloc _, h3, (((Below.refl _ w).alloc (Nat.le_refl _) _).alloc (by simp) _).alloc (by simp; omega) _⟩
end Go.Proofs.YtclelancbfoenaaGreatDoor.Re
