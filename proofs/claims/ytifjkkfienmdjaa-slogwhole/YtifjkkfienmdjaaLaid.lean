/-
  The law's Laid: both disks with the same bytes.
-/
import Derived.Test.YtifjkkfienmdjaaBo
namespace Go.Proofs.Ytifjkkfienmdjaa
open Go.RowKit Go.Shelf

/-- A sector of bytes, filled up; a disk with bytes. -/
def secZ (zs : List Nat) (i : Nat) : List Nat := splice zeros64 0 ((zs.drop (64 * i)).take 64)
def laidD (n : Int) (zs : List Nat) : Nat → St
  | 0 => newS n []
  | k + 1 => (laidD n zs k).write (k : Nat) (secZ zs k)
theorem secZ_sec {zs : List Nat} (hz : ∀ z ∈ zs, z < 256) (i : Nat) : IsSec (secZ zs i) := by
  refine ⟨?_, splice_mem isSec_zeros.2 (fun z h => hz z (List.mem_of_mem_drop (List.mem_of_mem_take h)))⟩
  rw [secZ, splice_length (by simp only [zeros64, List.length_replicate, List.length_take]; omega)]
  simp [zeros64]
theorem laidD_wr (n : Int) (zs : List Nat) : ∀ k, (laidD n zs k).wr ≤ k
  | 0 => Nat.le_refl _
  | k + 1 => Nat.le_trans (write_wr' _ _ _) (by have := laidD_wr n zs k; omega)

def LaidPost (n : Int) (len : Nat) (zs : List Nat) (w : World) (e : Ending) (w' : World) : Prop :=
  ∃ p g p' g' k, e = .returned (.tuple #[.pointer (some ⟨p, 0, none⟩), .pointer (some ⟨p', 0, none⟩)]) ∧ k ≤ 60 ∧ Both w.heap.size p g p' g' w' (laidD n zs k) ∧ Below w.heap.size w w' ∧ ¬ ((k : Int) < n ∧ 64 * k < len)

set_option maxRecDepth 100000 in
set_option maxHeartbeats 4000000 in
theorem laid_any (n : Int) (hn : n ≤ 60) (q : Option Addr) (len cap : Nat) (zs : List Nat) (w : World) (hI : IsBytes w.heap.size w q len cap zs) :
    Calls Try.prog 11 #[.int .i64 n, .slice q len cap] w (LaidPost n len zs w) := by
  have HI : Hid (IsBytes w.heap.size w q len cap zs) := hI
  have HLn : Hid (zs.length = len) := hI.1
  have HZ : Hid (∀ z ∈ zs, z < 256) := hI.2.2.2.1
  have hlc := hI.2.1
  have hcc := hI.2.2.1
  clear hI
  go_enter Try.func11, Try.ntmps11
  go_wp2_with (first
    | (go_at_call 17; refine (new_any n (q := none) (len := 0) (cap := 0) (cr := []) ⟨rfl, Nat.le_refl _, by omega, .inl rfl⟩ (by omega)).mono ?_; rintro e w3 ⟨p, g, rfl, hp3, hg3, hD3, hb3⟩; have HD3 : Hid (DiskAt [p, g] w3 p g _) := hD3; clear hD3)
    | (go_at_call 18; refine (refNew_any (F₀ := [p, g]) (q := none) (len := 0) (cap := 0) (cr := []) n ⟨rfl, Nat.le_refl _, by omega, .inl rfl⟩).mono ?_; rintro e w4 ⟨p', g', rfl, hp4, hg4, hR4, hb4⟩; have HR4 : Hid (RefAt [p', g', p, g] w4 p' g' _) := hR4; clear hR4))
  have HB4 : Hid (Below w.heap.size w w4) := hb3.trans (hb4.mono hb3.size)
  have HBo4 : Hid (Both w.heap.size p g p' g' w4 (newS n [])) := by
    have l3 := HD3.out.lt
    have s3 := hb3.size
    refine ⟨(HD3.out.more (fun x hx => ?_) (by simp) (by simp)).later hb4, HR4.out.more (fun x hx => ?_) (by simp) (by simp), ⟨by omega, by omega, by omega, by omega⟩, ⟨by omega, by omega, by omega, by omega⟩⟩
    · simp only [List.mem_cons, List.not_mem_nil, or_false] at hx ⊢
      omega
    · simp only [List.mem_cons, List.not_mem_nil, or_false] at hx ⊢
      omega
  clear HD3 HR4 hb3 hb4
  go_loopw [8] (fun iv wr => ∃ (k : Nat), k ≤ 60 ∧ (k : Int) ≤ max n 0 ∧ iv = .int .i64 k ∧ Both w.heap.size p g p' g' wr (laidD n zs k) ∧ Below w.heap.size w wr) (fun iv _ => 61 - (intOf iv).toNat)
  case atStart => exact ⟨0, by omega, by omega, rfl, HBo4.out, HB4.out⟩
  case round =>
    obtain ⟨k, hk60, hkn, rfl, hbo, hbl⟩ := hrel
    have HBo : Hid (Both w.heap.size p g p' g' wr (laidD n zs k)) := hbo
    have HBl : Hid (Below w.heap.size w wr) := hbl
    clear hbo hbl
    by_cases hlt : (k : Int) < n
    · have g1 : decide ((k : Int) < n) = true := decide_eq_true hlt
      by_cases hb64 : (64 : Int) * (k : Int) < (len : Int)
      · obtain ⟨bb, off, rfl, hbb, hcell⟩ : ∃ bb off, q = some ⟨bb, off, none⟩ ∧ bb < w.heap.size ∧ ∀ i, i < len → w.cell? ⟨bb, off + i, none⟩ = some (.int .u8 (zs.getD i 0 : Nat)) := by
          rcases HI.out.2.2.2.2 with h | h
          · omega
          · exact h
        obtain ⟨w5, HW5, hb5, hs5, hr5⟩ := new29 wr
        have HR5 : Hid (Row w5 wr.heap.size 55 (u8s zeros64)) := hr5
        have HSrc : Hid (∀ W, Below w.heap.size w W → ∀ j v, (u8s ((zs.drop (64 * k)).take 64))[j]? = some v → W.cell? ((⟨bb, off + 64 * k, none⟩ : Addr).add j) = some v) := fun W hb j v hj => by
          have hjl := (List.getElem?_eq_some_iff.1 hj).1
          rw [u8s_length, List.length_take, List.length_drop, HLn.out] at hjl
          obtain ⟨c, t, fr, e1, e2⟩ := cells_of_cell (hcell (64 * k + j) (by omega))
          have e3 := (hb.block bb hbb).trans e1
          have e4 : W.cell? ⟨bb, off + (64 * k + j), none⟩ = some (.int .u8 (zs.getD (64 * k + j) 0 : Nat)) := by simp [World.cell?, e3, e2]
          rw [Addr.add_mid, show off + 64 * k + j = off + (64 * k + j) by omega, e4, ← hj, u8s_at (by rw [List.length_take, List.length_drop, HLn.out]; omega)]
          rw [List.getD_eq_getElem?_getD (l := List.take _ _), List.getElem?_take, if_pos (by omega), List.getElem?_drop, ← List.getD_eq_getElem?_getD]
        have HLs : Hid ((u8s ((zs.drop (64 * k)).take 64)).length = Nat.min (len - 64 * k) 64) := by show _ = _; rw [u8s_length, List.length_take, List.length_drop, HLn.out]; exact Nat.min_comm _ _
        clear hcell hr5
        go_upto_region 6 with (rw [HW5.out])
        refine wp_region_held_drew (S := fun _ => True) (by kernel_rfl) trivial (fun hHeld => ?_)
        refine wpAnyH_takesAt 0 1 5 (of_decide_eq_true (by kernel_rfl)) rfl (fun _ _ _ d _ h => by cases d <;> exact h) (by kernel_rfl) (by kernel_rfl) hHeld ?_
        simp only [List.drop_zero, List.take_succ_cons, List.take_zero]
        iterate 1 (refine wpHeld_step (v := ?_) (by rfl) (fun wz hSw => ?_) ?_; rotate_left; (focus ((try dsimp only at hSw); go_simp; try with_reducible rfl)); ((simp only [Act.put]; (try simp only [List.setIfInBounds_toArray]); (try simp only [List.set_cons_succ]); (try simp only [List.set_cons_zero]))))
        refine wpHeld_nil ?_
        refine wpAnyH_takesAt 1 1 4 (of_decide_eq_true (by kernel_rfl)) rfl (fun _ _ _ d _ h => by cases d <;> exact h) (by kernel_rfl) (by kernel_rfl) hHeld ?_
        simp only [List.drop_succ_cons, List.drop_zero, List.take_succ_cons, List.take_zero]
        iterate 1 (refine wpHeld_step (v := ?_) (by rfl) (fun wz hSw => ?_) ?_; rotate_left; (focus ((try dsimp only at hSw); go_simp; try with_reducible rfl)); ((simp only [Act.put]; (try simp only [List.setIfInBounds_toArray]); (try simp only [List.set_cons_succ]); (try simp only [List.set_cons_zero]))))
        refine wpHeld_nil ?_
        refine wpAnyH_takesAt 2 1 3 (of_decide_eq_true (by kernel_rfl)) rfl (fun _ _ _ d _ h => by cases d <;> exact h) (by kernel_rfl) (by kernel_rfl) hHeld ?_
        simp only [List.drop_succ_cons, List.drop_zero, List.take_succ_cons, List.take_zero]
        iterate 1 (refine wpHeld_step (v := ?_) (by rfl) (fun wz hSw => ?_) ?_; rotate_left; (focus ((try dsimp only at hSw); go_simp; try with_reducible rfl)); ((simp only [Act.put]; (try simp only [List.setIfInBounds_toArray]); (try simp only [List.set_cons_succ]); (try simp only [List.set_cons_zero]))))
        refine wpHeld_nil ?_
        refine wpAnyH_takesAt 3 1 2 (of_decide_eq_true (by kernel_rfl)) rfl (fun _ _ _ d _ h => by cases d <;> exact h) (by kernel_rfl) (by kernel_rfl) hHeld ?_
        simp only [List.drop_succ_cons, List.drop_zero, List.take_succ_cons, List.take_zero]
        iterate 1 (refine wpHeld_step (v := ?_) (by rfl) (fun wz hSw => ?_) ?_; rotate_left; (focus ((try dsimp only at hSw); go_simp; try with_reducible rfl)); ((simp only [Act.put]; (try simp only [List.setIfInBounds_toArray]); (try simp only [List.set_cons_succ]); (try simp only [List.set_cons_zero]))))
        refine wpHeld_nil ?_
        have hne : ¬ cap = 64 * k := by omega
        have hk64 : 64 * k ≤ len := by omega
        refine wpAnyH_takesAt 4 1 1 (of_decide_eq_true (by kernel_rfl)) rfl (fun _ _ _ d _ h => by cases d <;> exact h) (by kernel_rfl) (by kernel_rfl) hHeld ?_
        simp only [List.drop_succ_cons, List.drop_zero, List.take_succ_cons, List.take_zero]
        refine wpHeld_step (v := .slice (some ⟨bb, off + 64 * k, none⟩) (len - 64 * k) (cap - 64 * k)) (by rfl) (fun wz hSw => ?_) ?_
        · clear hSw
          have hwp : IntKind.i64.wrap (64 * (k : Int)) = ((64 * k : Nat) : Int) := by rw [IntKind.wrap_i64]; omega
          go_simp
          rw [if_pos (by omega), show (64 * (k : Int)).toNat = 64 * k by omega, if_neg hne]
        simp only [Act.put]
        (try simp only [List.setIfInBounds_toArray])
        (try simp only [List.set_cons_succ])
        (try simp only [List.set_cons_zero])
        refine wpHeld_nil ?_
        have hB5 : Below w.heap.size w w5 := HBl.out.trans (hb5.mono HBl.out.size)
        refine wpAnyH_only (i := 5) (by kernel_rfl) rfl (fun K hK => ?_)
        rw [if_pos (by rfl)]
        refine wp_copy_but (.tmp 26) (.tmp 30) 25 25 rfl 5 Try.underlying25 size5 wr.heap.size 0 64 64 ⟨bb, off + 64 * k, none⟩ (len - 64 * k) (cap - 64 * k) rfl rfl _ 55 HR5.out.drew (u8s ((zs.drop (64 * k)).take 64)) HLs.out (HSrc.out _ hB5.drew) (by rw [u8s_length, u8s_length, List.length_take, List.length_drop, HLn.out]; simp [zeros64]; omega) (u8s_one _) (fun w6 hrow hbut => ?_)
        refine hK.out _ _ trivial ?_
        clear hK K hHeld
        simp only [Act.put, List.setIfInBounds_toArray]
        refine wpAnyH_done (by kernel_rfl) ?_ _
        rw [splice_u8s] at hrow
        have hb56 : Below wr.heap.size wr w6 := ⟨hbut.os.trans hb5.os, hbut.tape.trans hb5.tape, hbut.output.trans hb5.output, Nat.le_trans hb5.size hbut.size, fun i hi => (hbut.block i (by show i < w5.heap.size; omega) (by omega)).trans (hb5.block i hi)⟩
        have HR6 : Hid (Row w6 wr.heap.size 55 (u8s (secZ zs k))) := hrow
        have HBo6 : Hid (Both w.heap.size p g p' g' w6 (laidD n zs k)) := HBo.out.later hb56
        have HBl6 : Hid (Below w.heap.size w w6) := HBl.out.trans (hb56.mono HBl.out.size)
        have hxs := secZ_sec HZ.out k
        have hwr := laidD_wr n zs k
        have HLt : Hid (p < wr.heap.size ∧ g < wr.heap.size ∧ p' < wr.heap.size ∧ g' < wr.heap.size) := ⟨HBo.out.mine.lt.1, HBo.out.mine.lt.2, HBo.out.other.lt.1, HBo.out.other.lt.2⟩
        have HWm : Hid (Calls Try.prog 25 #[.pointer (some ⟨p, 0, none⟩), .int .i64 (k : Nat), .agg (u8s (secZ zs k)).toArray] w6 fun e w' => e = .returned (.int .i64 ((laidD n zs k).wErr (k : Nat))) ∧ DiskAt [p, g, p', g'] w' p g (laidD n zs (k + 1)) ∧ Buts [p, g] w6.heap.size w6 w') := write_any HBo6.out.mine (k : Nat) hxs (by omega)
        have HWo : Hid (∀ W', RefAt [p, g, p', g'] W' p' g' (laidD n zs k) → Calls Try.prog 27 #[.pointer (some ⟨p', 0, none⟩), .int .i64 (k : Nat), .agg (u8s (secZ zs k)).toArray] W' fun e w' => e = .returned (.int .i64 ((laidD n zs k).wErr (k : Nat))) ∧ RefAt [p, g, p', g'] w' p' g' (laidD n zs (k + 1)) ∧ Buts [p', g'] W'.heap.size W' w') := fun W' h => refWrite_any h (k : Nat) hxs (by omega)
        have HLx : Hid ((u8s (secZ zs k)).length = 64) := by show _ = _; rw [u8s_length]; exact hxs.1
        clear hrow hbut hb56 hxs hwr hB5 hb5
        generalize u8s (secZ zs k) = X at *
        go_wp2_with (first
          | ((with_reducible show wpList _ _ _ (Oper.mk (some 34) (Op.load 55 (.tmp 9)) _ _ _ _ :: _) _ _); refine wpList_load_Row rfl 55 (.tmp 9) rfl rfl HR6.out Try.underlying55 (by rw [HLx.out]; exact size55) ?_; simp only [Act.put, List.setIfInBounds_toArray, List.set_cons_zero, List.set_cons_succ])
          | (go_at_call 25; refine HWm.out.mono ?_; rintro e w7 ⟨rfl, hD7, hb7⟩; have HD7 : Hid (DiskAt [p, g, p', g'] w7 p g _) := hD7; have HRf7 : Hid (RefAt [p, g, p', g'] w7 p' g' (laidD n zs k)) := HBo6.out.first hb7; have HR7 : Hid (Row w7 wr.heap.size 55 X) := hb7.row HR6.out.lt (by have := HLt.out; simp; omega) HR6.out; clear hD7)
          | ((with_reducible show wpList _ _ _ (Oper.mk (some 38) (Op.load 55 (.tmp 9)) _ _ _ _ :: _) _ _); refine wpList_load_Row rfl 55 (.tmp 9) rfl rfl HR7.out Try.underlying55 (by rw [HLx.out]; exact size55) ?_; simp only [Act.put, List.setIfInBounds_toArray, List.set_cons_zero, List.set_cons_succ])
          | (go_at_call 27; refine (HWo.out _ HRf7.out).mono ?_; rintro e w8 ⟨rfl, hR8, hb8⟩; have HBn : Hid (Both w.heap.size p g p' g' w8 (laidD n zs (k + 1))) := HBo6.out.second HD7.out hR8 hb8; have HBln : Hid (Below w.heap.size w w8) := HBo6.out.below hb7 hb8 w rfl HBl6.out; clear hR8 hb7 hb8))
        exact ⟨⟨k + 1, by omega, by omega, by simp, HBn.out, HBln.out⟩, by simp [intOf]; omega⟩
      · go_wp2
        refine bodyPost_ret (results_tmp2 rfl _ _ _) rfl ?_
        exact ⟨p, g, p', g', k, rfl, hk60, HBo.out, HBl.out, by omega⟩
    · have g1 : decide ((k : Int) < n) = false := decide_eq_false hlt
      go_wp2
      refine bodyPost_ret (results_tmp2 rfl _ _ _) rfl ?_
      exact ⟨p, g, p', g', k, rfl, hk60, HBo.out, HBl.out, by omega⟩
end Go.Proofs.Ytifjkkfienmdjaa
