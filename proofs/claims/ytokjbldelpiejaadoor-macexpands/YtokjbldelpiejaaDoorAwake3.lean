/-
  The laws' own 'awake' of layer 3 answers true: the published HMAC of "Hi There".
-/
import Derived.Test.YtokjbldelpiejaaDoorMac2
import Derived.Test.YtokjbldelpiejaaDoorAwake
import Derived.KernelRfl
import Derived.Lib.SlBytesConst
namespace Go.Proofs.YtokjbldelpiejaaDoor
open Go Go.RowKit

theorem mac_hi : macN (List.replicate 20 11) [72, 105, 32, 84, 104, 101, 114, 101] = [176, 52, 76, 97, 216, 219, 56, 83, 92, 168, 175, 206, 175, 11, 241, 43, 136, 29, 194, 0, 201, 131, 61, 167, 38, 233, 55, 108, 46, 50, 207, 247] := by kernel_rfl

theorem heap_of_row {W : World} {n₀ g n : Nat} {e : TypeId} {xs : List Value} (h : W.ownsRow n₀ e 1 (.slice (some ⟨g, 0, none⟩) n n) n xs) : Row W g e xs := by
  rcases h.2 with ⟨h', _⟩ | ⟨g', cap', cur, h', _, hg, _, _, hcs, htake⟩
  · simp at h'
  · simp only [Value.slice.injEq, Option.some.injEq, Addr.mk.injEq, and_true, true_and] at h'
    obtain ⟨rfl, rfl⟩ := h'
    unfold Row
    rw [hg]
    have : cur.toList = xs := by rw [← htake, List.take_of_length_le (by simp; omega)]
    rw [← this]

/-- The world in which the law calls mac.Sum. -/
def hiW (W : World) : World := ((W.alloc (.cells #[.int .u8 72, .int .u8 105, .int .u8 32] 5 (3, 4))).alloc (.cells #[.int .u8 84, .int .u8 104, .int .u8 101, .int .u8 114, .int .u8 101] 5 (5, 6))).alloc (.cells #[.slice (some ⟨W.heap.size, 0, none⟩) 3 3, .slice (some ⟨W.heap.size + 1, 0, none⟩) 5 5] 22)
theorem hiW_size (W : World) : (hiW W).heap.size = W.heap.size + 3 := by simp [hiW]
theorem hiW_below (W : World) : Below W.heap.size W (hiW W) := (((Below.refl _ W).alloc (Nat.le_refl _) _).alloc (by simp) _).alloc (by simp; omega) _
theorem hiW_1 (W : World) : (hiW W).heap[W.heap.size]? = some (.cells #[.int .u8 72, .int .u8 105, .int .u8 32] 5 (3, 4)) := by
  unfold hiW
  rw [Below.heap_alloc _ _ _ (by simp; omega), Below.heap_alloc _ _ _ (by simp)]
  exact World.alloc_heap_new W _
theorem hiW_2 (W : World) : (hiW W).heap[W.heap.size + 1]? = some (.cells #[.int .u8 84, .int .u8 104, .int .u8 101, .int .u8 114, .int .u8 101] 5 (5, 6)) := by
  unfold hiW
  rw [Below.heap_alloc _ _ _ (by simp)]
  have := World.alloc_heap_new (W.alloc (.cells #[.int .u8 72, .int .u8 105, .int .u8 32] 5 (3, 4))) (.cells #[.int .u8 84, .int .u8 104, .int .u8 101, .int .u8 114, .int .u8 101] 5 (5, 6))
  rwa [World.size_alloc] at this
theorem hiW_3 (W : World) : (hiW W).heap[W.heap.size + 1 + 1]? = some (.cells #[.slice (some ⟨W.heap.size, 0, none⟩) 3 3, .slice (some ⟨W.heap.size + 1, 0, none⟩) 5 5] 22) := by
  unfold hiW
  have := World.alloc_heap_new ((W.alloc (.cells #[.int .u8 72, .int .u8 105, .int .u8 32] 5 (3, 4))).alloc (.cells #[.int .u8 84, .int .u8 104, .int .u8 101, .int .u8 114, .int .u8 101] 5 (5, 6))) (.cells #[.slice (some ⟨W.heap.size, 0, none⟩) 3 3, .slice (some ⟨W.heap.size + 1, 0, none⟩) 5 5] 22)
  rwa [World.size_alloc, World.size_alloc] at this
theorem hiW_lists (W : World) : IsLists (hiW W).heap.size (hiW W) (some ⟨W.heap.size + 1 + 1, 0, none⟩) 2 2 [[72, 105, 32], [84, 104, 101, 114, 101]] := by
  have hs := hiW_size W
  refine ⟨rfl, by omega, .inr ⟨W.heap.size + 1 + 1, 0, rfl, by omega, fun i hi => ?_⟩⟩
  rcases i with _ | _ | i
  · refine ⟨_, _, _, cell_of_row _ _ _ _ _ _ (hiW_3 W), rfl, by omega, by omega, by simp, .inr ⟨W.heap.size, 0, rfl, by omega, fun j hj => ?_⟩⟩
    rw [cell_of_row _ _ _ _ _ _ (hiW_1 W)]
    rcases j with _ | _ | _ | j
    · rfl
    · rfl
    · rfl
    · omega
  · refine ⟨_, _, _, cell_of_row _ _ _ _ _ _ (hiW_3 W), rfl, by omega, by omega, by simp, .inr ⟨W.heap.size + 1, 0, rfl, by omega, fun j hj => ?_⟩⟩
    rw [cell_of_row _ _ _ _ _ _ (hiW_2 W)]
    rcases j with _ | _ | _ | _ | _ | j
    · rfl
    · rfl
    · rfl
    · rfl
    · rfl
    · omega
  · omega

set_option maxRecDepth 100000 in
set_option maxHeartbeats 1000000 in
theorem awake3_any (w : World) (hT : Tab w) : Calls Tryd.prog 18 #[] w fun e w' => e = .returned (.bool true) ∧ Below w.heap.size w w' := by
  obtain ⟨i0, hi, hz0, hz1, hz2⟩ := info_parts info5
  have HT : Hid (Tab w) := hT
  have hcv := fun (w : World) (C : Array Value) (n c : Nat) => Lib.run_convert_bytes_const (P := Tryd.prog) w 22 5 C n c Tryd.underlying22 Tryd.underlying5
  have hcv2 : ∀ (w : World) (o : Obj) (C : Array Value) (n c : Nat), (convert 22 22 (.slice (some ⟨w.heap.size + 1, 0, none⟩) n c)).run Tryd.prog ((w.alloc o).alloc (.cells C 5)) = .ok (.slice (some ⟨w.heap.size + 1, 0, none⟩) n c) ((w.alloc o).alloc (.cells C 5 (C.size, C.size + 1))) := fun w o C n c => by
    have h := hcv (w.alloc o) C n c
    rwa [World.size_alloc] at h
  clear hT
  go_enter Tryd.func18, Tryd.ntmps18
  go_wp2_with (at_make; refine wpList_make_full _ rfl _ _ 22 rfl w.heap.size 5 i0 (.int .u8 0) 1 Tryd.underlying22 hi hz0 hz1 _ _ _ _ 20 rfl rfl (by omega) (by omega) (by rw [hz2]; omega) (by simp only [maxLen]; omega) (Nat.le_refl _) ?_; intro w1 hown1 hgrow1)
  have r1 : Row w1 w.heap.size 5 (fill 20 (.int .u8 0) (u8s (List.replicate 0 11))) := by
    have h := heap_of_row hown1
    have e : (madeCells (Value.int .u8 0).cells (20 * 1)).toList = fill 20 (.int .u8 0) (u8s (List.replicate 0 11)) := by kernel_rfl
    rw [e] at h
    exact h
  have hb1 : Below w.heap.size w w1 := (Below.refl _ w).grown hgrow1 (Nat.le_refl _) (fun k e => by cases e)
  clear hown1 hgrow1
  go_loopw [7] (fun i wr => ∃ k : Nat, k ≤ 20 ∧ i = .int .i64 k ∧ Row wr w.heap.size 5 (fill 20 (.int .u8 0) (u8s (List.replicate k 11))) ∧ Below w.heap.size w wr)
    (fun i _ => 20 - (intOf i).toNat)
  case atStart => exact ⟨0, by omega, rfl, r1, hb1⟩
  case round =>
    clear r1 hb1
    obtain ⟨k, hk, rfl, hrow, hbel⟩ := hrel
    by_cases hlt : k < 20
    · have hki : (k : Int) < 20 := by omega
      have cz := hrow.cell (i := k) (v := .int .u8 0) (fill_rest _ _ _ (by simp) hlt)
      have fz := hrow.frozen k
      have HRow : Hid (Row wr w.heap.size 5 (fill 20 (.int .u8 0) (u8s (List.replicate k 11)))) := hrow
      clear hrow
      go_wp2
      go_roundw
      case rel =>
        have h := HRow.out.set k (.int .u8 (11 : Nat))
        rw [fill_set _ _ _ _ (by simp) hlt, u8s_snoc, ← List.replicate_succ'] at h
        exact ⟨k + 1, by omega, by go_num, h, hbel.setCell (p := ⟨w.heap.size, k, none⟩) (Nat.le_refl _) _⟩
      case measure => simp [intOf]; omega
    · obtain rfl : k = 20 := by omega
      rw [fill_full _ _ _ (by simp)] at hrow
      have HRow : Hid (Row wr w.heap.size 5 (u8s (List.replicate 20 11))) := hrow
      clear hrow
      have HM : Hid (Calls Tryd.prog 19 #[.slice (some ⟨w.heap.size, 0, none⟩) 20 20, .slice (some ⟨wr.heap.size + 1 + 1, 0, none⟩) 2 2] (hiW wr) fun e w' => ∃ S : List Value, e = .returned (.agg S.toArray) ∧ S.length = 32 ∧ (∀ v ∈ S, v.oneCell' = true) ∧ S[0]? = some (.int .u8 176) ∧ S[1]? = some (.int .u8 52) ∧ S[31]? = some (.int .u8 247) ∧ Below (hiW wr).heap.size (hiW wr) w') := by
        have hb := hiW_below wr
        refine (macSum_any (some ⟨w.heap.size, 0, none⟩) 20 20 (List.replicate 20 11) (by omega) _ 2 2 (by omega) [[72, 105, 32], [84, 104, 101, 114, 101]] (by simp) (hiW wr) ((HT.out.below hbel HT.out.pos).later hb) ?_ (hiW_lists wr)).mono ?_
        · refine ⟨by simp, by omega, by omega, fun z hz => by have := (List.mem_replicate.1 hz).2; omega, .inr ⟨w.heap.size, 0, rfl, (HRow.out.later hb).lt, fun j hj => ?_⟩⟩
          rw [Nat.zero_add]
          exact (HRow.out.later hb).cell (u8s_at (by simpa using hj))
        · rintro e w' ⟨rfl, hb'⟩
          refine ⟨_, rfl, by rw [u8s_length]; exact macN_length _ _, u8s_one _, ?_, ?_, ?_, hb'⟩
          · rw [show ([[72, 105, 32], [84, 104, 101, 114, 101]] : List (List Nat)).flatten = [72, 105, 32, 84, 104, 101, 114, 101] from rfl, mac_hi]; rfl
          · rw [show ([[72, 105, 32], [84, 104, 101, 114, 101]] : List (List Nat)).flatten = [72, 105, 32, 84, 104, 101, 114, 101] from rfl, mac_hi]; rfl
          · rw [show ([[72, 105, 32], [84, 104, 101, 114, 101]] : List (List Nat)).flatten = [72, 105, 32, 84, 104, 101, 114, 101] from rfl, mac_hi]; rfl
      have HbW : Hid (Below wr.heap.size wr (hiW wr)) := hiW_below wr
      go_wp2_with (first
        | (go_at_call 19; refine HM.out.mono ?_; rintro e w4 ⟨S, rfl, hSl, hS1, h0, h1, h31, hb4⟩; have c0 := sum_cell w4 S hSl h0; have c1 := sum_cell w4 S hSl h1; have c31 := sum_cell w4 S hSl h31; have HSl : Hid (S.length = 32) := hSl; have HS1 : Hid (∀ v ∈ S, v.oneCell' = true) := hS1; have HbV : Hid (Below w.heap.size w w4) := (hbel.trans (HbW.out.mono hbel.size)).trans (hb4.mono (Nat.le_trans hbel.size HbW.out.size)); clear hSl hS1 h0 h1 h31 hb4)
        | ((with_reducible show wpList _ _ _ (Oper.mk _ (Op.store 25 (.tmp 3) (.tmp 20)) _ _ _ _ :: _) _ _); refine wpList_store_Row rfl 25 (.tmp 3) (.tmp 20) rfl S rfl rfl (Row.new _ _ _) (by rw [HSl.out]; exact size25) (by rw [HSl.out]; rfl) HS1.out ?_; simp only [Act.put]))
      go_ret
      exact ⟨rfl, below_setCells (by have := HbV.out.size; omega) _ _ (HbV.out.alloc (by have := HbV.out.size; omega) _)⟩
end Go.Proofs.YtokjbldelpiejaaDoor
