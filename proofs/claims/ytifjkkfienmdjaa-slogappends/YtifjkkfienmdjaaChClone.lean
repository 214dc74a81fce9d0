/-
  What vec.clone answers: the bytes of any slice, in a block of their own, with no room behind them; nothing that lay before the call has turned.
-/
import Derived.Test.YtifjkkfienmdjaaBaseAll
import Derived.Test.YtifjkkfienmdjaaChPieces
import Derived.Laws.CopyOwn
namespace Go.Proofs.Ytifjkkfienmdjaa.Ch
open Go.RowKit

/-- The bytes, as cells. -/
def cellsOf (zs : List Nat) : List Value := zs.map fun z => .int .u8 (z : Nat)

/-- Block g holds just these bytes. -/
def Text (W : World) (g : Nat) (zs : List Nat) : Prop := W.heap[g]? = some (.cells (cellsOf zs).toArray 5 (0, 0))

theorem Text.lt {W : World} {g : Nat} {zs : List Nat} (h : Text W g zs) : g < W.heap.size := (Array.getElem?_eq_some_iff.1 h).1
theorem Text.below {W W' : World} {g : Nat} {zs : List Nat} (h : Text W g zs) (hb : Below W.heap.size W W') : Text W' g zs := (hb.block g h.lt).trans h
theorem Text.cell {W : World} {g : Nat} {zs : List Nat} (h : Text W g zs) (i : Nat) (hi : i < zs.length) : W.cell? ⟨g, i, none⟩ = some (.int .u8 (zs.getD i 0 : Nat)) := by
  rw [cell_of_row W g i _ 5 (0, 0) h]
  simp [cellsOf, List.getElem?_eq_getElem hi]

theorem heap_of_row {W : World} {n₀ g n : Nat} {e : TypeId} {xs : List Value} (h : W.ownsRow n₀ e 1 (.slice (some ⟨g, 0, none⟩) n n) n xs) : W.heap[g]? = some (.cells xs.toArray e (0, 0)) := by
  rcases h.2 with ⟨h', _⟩ | ⟨g', cap', cur, h', _, hg, _, _, hcs, htake⟩
  · simp at h'
  · simp only [Value.slice.injEq, Option.some.injEq, Addr.mk.injEq, and_true, true_and] at h'
    obtain ⟨rfl, rfl⟩ := h'
    rw [hg]
    have : cur.toList = xs := by rw [← htake, List.take_of_length_le (by simp; omega)]
    rw [← this]

theorem splice_all {α : Type} (L cs : List α) (h : cs.length = L.length) : splice L 0 cs = cs := by
  unfold splice
  rw [List.drop_eq_nil_of_le (by omega)]
  simp

theorem src_ok {w w1 : World} {b off len : Nat} {zs : List Nat} (hl : zs.length = len) (hA : ∀ i, i < len → w.cell? ⟨b, off + i, none⟩ = some (.int .u8 (zs.getD i 0 : Nat))) (hg : w.grownBy w1 none) :
    ∀ j v, (cellsOf zs)[j]? = some v → w1.cell? ((⟨b, off, none⟩ : Addr).add j) = some v := by
  intro j v hj
  have hadd : (⟨b, off, none⟩ : Addr).add j = ⟨b, off + j, none⟩ := by unfold Addr.add; split <;> simp_all
  have hjl : j < zs.length := by
    rcases Nat.lt_or_ge j zs.length with h | h
    · exact h
    · simp [cellsOf, List.getElem?_eq_none h] at hj
  have e : v = .int .u8 (zs.getD j 0 : Nat) := by
    simp [cellsOf, List.getElem?_eq_getElem hjl] at hj
    simp [List.getElem?_eq_getElem hjl, hj]
  rw [hadd, e]
  exact hg.cell (hA j (by omega)) (by simp)

theorem info5s : (Try.prog.info? 5).map (·.size) = some 1 := by kernel_rfl

set_option maxRecDepth 100000 in
set_option maxHeartbeats 1000000 in
theorem clone_some (b off len cap : Nat) (zs : List Nat) (w : World) (hl : zs.length = len) (hlen : len ≤ 60000) (hA : ∀ i, i < len → w.cell? ⟨b, off + i, none⟩ = some (.int .u8 (zs.getD i 0 : Nat))) :
    Calls Try.prog 56 #[.slice (some ⟨b, off, none⟩) len cap] w fun e w' => e = .returned (.slice (some ⟨w.heap.size, 0, none⟩) len len) ∧ Text w' w.heap.size zs ∧ Below w.heap.size w w' := by
  obtain ⟨i0, hi, hz0, hz1, hz2⟩ := info_parts info5
  have HL : Hid (zs.length = len) := hl
  have HA : Hid (∀ i, i < len → w.cell? ⟨b, off + i, none⟩ = some (.int .u8 (zs.getD i 0 : Nat))) := hA
  clear hl hA
  go_enter Try.func56, Try.ntmps56
  go_wp2_with (first
    | (at_make; refine wpList_make_full _ rfl _ _ 25 rfl w.heap.size 5 i0 (.int .u8 0) 1 Try.underlying25 hi hz0 hz1 _ _ _ _ len rfl rfl (by omega) (by omega) (by rw [hz2]; omega) (by simp only [maxLen]; omega) (Nat.le_refl _) ?_; intro w1 hown1 hgrow1; have HO1 : Hid (w1.ownsRow w.heap.size 5 1 (.slice (some ⟨w.heap.size, 0, none⟩) len len) len (madeCells (Value.int IntKind.u8 0).cells (len * 1)).toList) := hown1; clear hown1)
    | (refine wpList_copy_splice rfl (.tmp 7) (.tmp 8) 25 25 rfl 5 Try.underlying25 info5s _ _ _ _ _ _ rfl rfl w.heap.size 0 (madeCells (Value.int IntKind.u8 0).cells (len * 1)).toList 5 (heap_of_row HO1.out) (cellsOf zs) (by have := HL.out; simp [cellsOf]; omega) (fun _ => ⟨rfl, _, rfl, src_ok HL.out HA.out hgrow1⟩) (by have := HL.out; simp [cellsOf, madeCells]; omega) (by simp [cellsOf, Value.oneCell']) w.heap.size w ((Below.refl _ w).grown hgrow1 (Nat.le_refl _) (fun k e => by cases e)) (Nat.le_refl _) ?_; intro w2 HG2 hb2))
  go_ret
  refine ⟨rfl, ?_, hb2⟩
  have h := HG2.out
  rw [splice_all _ _ (by have := HL.out; simp [cellsOf, madeCells]; omega)] at h
  exact h

set_option maxRecDepth 100000 in
set_option maxHeartbeats 1000000 in
theorem clone_none (p : Option Addr) (cap : Nat) (w : World) :
    Calls Try.prog 56 #[.slice p 0 cap] w fun e w' => e = .returned (.slice (some ⟨w.heap.size, 0, none⟩) 0 0) ∧ Text w' w.heap.size [] ∧ Below w.heap.size w w' := by
  obtain ⟨i0, hi, hz0, hz1, hz2⟩ := info_parts info5
  go_enter Try.func56, Try.ntmps56
  go_wp2_with (first
    | (at_make; refine wpList_make_full _ rfl _ _ 25 rfl w.heap.size 5 i0 (.int .u8 0) 1 Try.underlying25 hi hz0 hz1 _ _ _ _ 0 rfl rfl (by omega) (by omega) (by omega) (by simp only [maxLen]; omega) (Nat.le_refl _) ?_; intro w1 hown1 hgrow1; have HO1 : Hid (w1.ownsRow w.heap.size 5 1 (.slice (some ⟨w.heap.size, 0, none⟩) 0 0) 0 (madeCells (Value.int IntKind.u8 0).cells (0 * 1)).toList) := hown1; clear hown1)
    | (refine wpList_copy_nothing rfl (.tmp 7) (.tmp 8) 25 25 rfl 5 Try.underlying25 info5s _ _ _ _ _ _ rfl rfl (by simp) ?_))
  go_ret
  refine ⟨rfl, ?_, (Below.refl _ w).grown hgrow1 (Nat.le_refl _) (fun k e => by cases e)⟩
  have h := heap_of_row HO1.out
  unfold Text
  rw [h]
  simp [madeCells, cellsOf]

/-- vec.clone -/
theorem clone_any (p : Option Addr) (len cap : Nat) (zs : List Nat) (hlen : len ≤ 60000) (w : World) (hI : IsBytes w.heap.size w p len cap zs) :
    Calls Try.prog 56 #[.slice p len cap] w fun e w' => e = .returned (.slice (some ⟨w.heap.size, 0, none⟩) len len) ∧ Text w' w.heap.size zs ∧ Below w.heap.size w w' := by
  obtain ⟨h1, h2, h3, h4, rfl | ⟨b, off, rfl, hb, hc⟩⟩ := hI
  · obtain rfl := List.length_eq_zero_iff.1 h1
    exact clone_none p cap w
  · exact clone_some b off len cap zs w h1 hlen hc
end Go.Proofs.Ytifjkkfienmdjaa.Ch
