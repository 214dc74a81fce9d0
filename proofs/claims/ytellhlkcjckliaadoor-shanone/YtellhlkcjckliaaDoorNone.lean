/-
  What the methods of a sum that nobody began answer: More takes nothing, Sum is noughts.
-/
import Derived.Test.YtellhlkcjckliaaDoorAwake
import Derived.Test.YtellhlkcjckliaaDoorEq
import Derived.WalkMore
namespace Go.Proofs.YtellhlkcjckliaaDoor
open Go.RowKit
attribute [local go_sem] Oper.semAt_some

set_option maxHeartbeats 1000000 in
theorem more_nil (v : Value) (w : World) : Calls Tryd.prog 18 #[.pointer none, v] w fun e w' => (∃ u, e = .returned u) ∧ w' = w := by
  go_enter Tryd.func18, Tryd.ntmps18
  go_wp2
  refine bodyPost_ret (results_none rfl _ _ _) rfl ?_
  exact ⟨⟨_, rfl⟩, rfl⟩

set_option maxHeartbeats 1000000 in
theorem more_un (v : Value) (B : Nat) (w : World) (hB : w.cell? ⟨B, 0, none⟩ = some (.bool false)) : Calls Tryd.prog 18 #[.pointer (some ⟨B, 0, none⟩), v] w fun e w' => (∃ u, e = .returned u) ∧ w' = w := by
  go_enter Tryd.func18, Tryd.ntmps18
  go_wp2
  refine bodyPost_ret (results_none rfl _ _ _) rfl ?_
  exact ⟨⟨_, rfl⟩, rfl⟩

set_option maxHeartbeats 1000000 in
theorem rsum_nil (w : World) : Calls Tryd.prog 19 #[.pointer none] w fun e w' => e = .returned (.agg (List.replicate 32 (.int .u8 0)).toArray) ∧ Below w.heap.size w w' := by
  obtain ⟨Z, hZ⟩ : ∃ Z, Z = List.replicate 32 (Value.int .u8 0) := ⟨_, rfl⟩
  rw [← hZ]
  have HZ : Hid (Z = List.replicate 32 (Value.int .u8 0)) := hZ
  have HZl : Hid (Z.length = 32) := by show _ = _; rw [hZ]; rfl
  have HZ1 : Hid (∀ v ∈ Z, v.oneCell' = true) := by intro v hv; rw [hZ] at hv; rw [(List.mem_replicate.1 hv).2]; rfl
  clear hZ
  go_enter Tryd.func19, Tryd.ntmps19
  go_wp2_with ((with_reducible show wpList _ _ _ (Oper.mk _ (Op.store 25 (.tmp 2) (.tmp 14)) _ _ _ _ :: _) _ _); refine wpList_store_Row rfl 25 (.tmp 2) (.tmp 14) rfl Z rfl (by rw [HZ.out]; rfl) (Row.new _ _ _) (by rw [HZl.out]; exact size25) (by rw [HZl.out]; rfl) HZ1.out ?_; simp only [Act.put])
  refine bodyPost_ret (results_Row rfl rfl (Row.sets_all (vs := Z) (Row.new _ _ _) (by rw [HZl.out]; rfl)) Tryd.underlying25 (by rw [HZl.out]; exact size25)) rfl ?_
  exact ⟨rfl, below_setCells (Nat.le_refl _) _ _ ((Below.refl _ w).alloc (Nat.le_refl _) _)⟩

set_option maxHeartbeats 1000000 in
theorem rsum_un (B : Nat) (w : World) (hB : w.cell? ⟨B, 0, none⟩ = some (.bool false)) : Calls Tryd.prog 19 #[.pointer (some ⟨B, 0, none⟩)] w fun e w' => e = .returned (.agg (List.replicate 32 (.int .u8 0)).toArray) ∧ Below w.heap.size w w' := by
  obtain ⟨Z, hZ⟩ : ∃ Z, Z = List.replicate 32 (Value.int .u8 0) := ⟨_, rfl⟩
  rw [← hZ]
  have HZ : Hid (Z = List.replicate 32 (Value.int .u8 0)) := hZ
  have HZl : Hid (Z.length = 32) := by show _ = _; rw [hZ]; rfl
  have HZ1 : Hid (∀ v ∈ Z, v.oneCell' = true) := by intro v hv; rw [hZ] at hv; rw [(List.mem_replicate.1 hv).2]; rfl
  clear hZ
  have hB2 : ∀ o, (w.alloc o).cell? ⟨B, 0, none⟩ = some (.bool false) := fun o => (World.cell?_alloc_lt w o ⟨B, 0, none⟩ (World.block_lt_of_cell? w _ hB)).trans hB
  go_enter Tryd.func19, Tryd.ntmps19
  go_wp2_with ((with_reducible show wpList _ _ _ (Oper.mk _ (Op.store 25 (.tmp 2) (.tmp 14)) _ _ _ _ :: _) _ _); refine wpList_store_Row rfl 25 (.tmp 2) (.tmp 14) rfl Z rfl (by rw [HZ.out]; rfl) (Row.new _ _ _) (by rw [HZl.out]; exact size25) (by rw [HZl.out]; rfl) HZ1.out ?_; simp only [Act.put])
  refine bodyPost_ret (results_Row rfl rfl (Row.sets_all (vs := Z) (Row.new _ _ _) (by rw [HZl.out]; rfl)) Tryd.underlying25 (by rw [HZl.out]; exact size25)) rfl ?_
  exact ⟨rfl, below_setCells (Nat.le_refl _) _ _ ((Below.refl _ w).alloc (Nat.le_refl _) _)⟩

theorem more_none (p : Option Addr) (v : Value) (w : World) (hp : p = none ∨ ∃ B, p = some ⟨B, 0, none⟩ ∧ w.cell? ⟨B, 0, none⟩ = some (.bool false)) : Calls Tryd.prog 18 #[.pointer p, v] w fun e w' => (∃ u, e = .returned u) ∧ w' = w := by
  rcases hp with rfl | ⟨B, rfl, hB⟩
  · exact more_nil v w
  · exact more_un v B w hB
theorem rsum_none (p : Option Addr) (w : World) (hp : p = none ∨ ∃ B, p = some ⟨B, 0, none⟩ ∧ w.cell? ⟨B, 0, none⟩ = some (.bool false)) : Calls Tryd.prog 19 #[.pointer p] w fun e w' => e = .returned (.agg (List.replicate 32 (.int .u8 0)).toArray) ∧ Below w.heap.size w w' := by
  rcases hp with rfl | ⟨B, rfl, hB⟩
  · exact rsum_nil w
  · exact rsum_un B w hB

/-- The cells of a sum that nobody began. -/
def zero49 : List Value := .bool false :: (List.replicate 8 (Value.int .u32 0) ++ (List.replicate 64 (Value.int .u8 0) ++ [.int .u64 0]))
theorem info49 : (Tryd.prog.info? 49).map (fun i => (i.zero, i.size)) = some (some (.agg zero49.toArray), 74) := by kernel_rfl


set_option maxRecDepth 100000 in
set_option maxHeartbeats 1000000 in
/-- ShaNone -/
theorem none_any (v : Value) (w : World) (hT : Tab w) : Calls Tryd.prog 7 #[v] w fun e w' => e = .returned (.bool true) ∧ Below w.heap.size w w' := by
  have HT : Hid (Tab w) := hT
  have hz49 := (zero_of_info info49).1
  have HZ : Hid (zero49[0]? = some (.bool false)) := rfl
  generalize zero49 = Z at *
  clear hT
  go_enter Tryd.func7, Tryd.ntmps7
  go_wp2_with (first
    | (go_at_call 8; refine (awake_any _ HT.out).mono ?_; rintro e w1 ⟨rfl, hb1⟩)
    | (go_at_call 18; refine (more_none _ _ _ (by first | exact .inl rfl | exact .inr ⟨_, rfl, (Row.new' w1 49 Z).cell HZ.out⟩)).mono ?_; rintro e w2 ⟨⟨u, rfl⟩, rfl⟩))
  refine (rsum_none _ _ (.inl rfl)).mono ?_
  rintro e w3 ⟨rfl, hb3⟩
  have c3 := ((Row.new' w1 49 Z).later hb3).cell HZ.out
  have hq : ∀ w : World, (Op.equalIn 10000 25 (.agg #[Value.int .u8 0, Value.int .u8 0, Value.int .u8 0, Value.int .u8 0, Value.int .u8 0, Value.int .u8 0, Value.int .u8 0, Value.int .u8 0, Value.int .u8 0, Value.int .u8 0, Value.int .u8 0, Value.int .u8 0, Value.int .u8 0, Value.int .u8 0, Value.int .u8 0, Value.int .u8 0, Value.int .u8 0, Value.int .u8 0, Value.int .u8 0, Value.int .u8 0, Value.int .u8 0, Value.int .u8 0, Value.int .u8 0, Value.int .u8 0, Value.int .u8 0, Value.int .u8 0, Value.int .u8 0, Value.int .u8 0, Value.int .u8 0, Value.int .u8 0, Value.int .u8 0, Value.int .u8 0]) (.agg #[Value.int .u8 0, Value.int .u8 0, Value.int .u8 0, Value.int .u8 0, Value.int .u8 0, Value.int .u8 0, Value.int .u8 0, Value.int .u8 0, Value.int .u8 0, Value.int .u8 0, Value.int .u8 0, Value.int .u8 0, Value.int .u8 0, Value.int .u8 0, Value.int .u8 0, Value.int .u8 0, Value.int .u8 0, Value.int .u8 0, Value.int .u8 0, Value.int .u8 0, Value.int .u8 0, Value.int .u8 0, Value.int .u8 0, Value.int .u8 0, Value.int .u8 0, Value.int .u8 0, Value.int .u8 0, Value.int .u8 0, Value.int .u8 0, Value.int .u8 0, Value.int .u8 0, Value.int .u8 0])).run Tryd.prog w = .ok true w := fun w => equal25 (u8s (List.replicate 32 0)) (u8s_int _ (by simp)) w
  go_wp2_with (go_at_call 19; refine (rsum_none _ _ (.inr ⟨_, rfl, c3⟩)).mono ?_; rintro e w4 ⟨rfl, hb4⟩)
  go_ret
  have hbA : Below w.heap.size w (w1.alloc (.cells Z.toArray 49)) := hb1.alloc hb1.size _
  have hbB : Below w.heap.size w w3 := hbA.trans (hb3.mono hbA.size)
  exact ⟨rfl, hbB.trans (hb4.mono hbB.size)⟩
end Go.Proofs.YtellhlkcjckliaaDoor
