/-
  Several texts in one: ShCompress, ShDigest, ShSum, ShPad, ShRun.
-/
import Derived.Test.YtclelancbfoenaaGreatDoorBaseAll
import Derived.Test.YtclelancbfoenaaGreatDoorShTurned
import Derived.Test.YtclelancbfoenaaGreatDoorShSched
import Derived.Test.YtclelancbfoenaaGreatDoorShA
import Derived.Test.YtclelancbfoenaaGreatDoorShBlk
import Derived.Laws.CopyOwn
/-
  What sha.Compress answers: a block taken into eight words.
-/
namespace Go.Proofs.YtclelancbfoenaaGreatDoor.Sh
open Go.RowKit
attribute [local go_sem] Oper.semAt_some

theorem size86 : (Tryz.prog.info? 86).map (·.size) = some 64 := by kernel_rfl

theorem run_index139 (cs : List Value) (k : Nat) (v : Value) (hk : k < 8) (hv : cs[k]? = some v) (w : World) : (Instr.index 139 (.agg cs.toArray) (.int .i64 (k : Int))).run Tryz.prog w = .ok v w := by
  simp [Instr.index, run_underlying Tryz.underlying139, asIntOf, go_sem, hv]
  omega

/-- The first k of xs with those of ys added. -/
def mixN (xs ys : List Nat) (k : Nat) : List Nat := (List.range 8).map fun i => if i < k then (xs.getD i 0 + ys.getD i 0) % 4294967296 else xs.getD i 0
@[simp] theorem mixN_length (xs ys : List Nat) (k : Nat) : (mixN xs ys k).length = 8 := by simp [mixN]
theorem mixN_at (xs ys : List Nat) (k i : Nat) (hi : i < 8) : (mixN xs ys k).getD i 0 = if i < k then (xs.getD i 0 + ys.getD i 0) % 4294967296 else xs.getD i 0 := by
  simp only [mixN, List.getD_eq_getElem?_getD, List.getElem?_map, List.getElem?_range hi, Option.map_some, Option.getD_some]
theorem mixN_zero (s : St) (ys : List Nat) : mixN s.list ys 0 = s.list := rfl
theorem mixN_set (xs ys : List Nat) (k : Nat) (hk : k < 8) : (u32s (mixN xs ys k)).set k (.int .u32 ((xs.getD k 0 + ys.getD k 0) % 4294967296 : Nat)) = u32s (mixN xs ys (k + 1)) := by
  apply List.ext_getElem?
  intro i
  rw [List.getElem?_set]
  by_cases h : k = i
  · subst h
    simp [u32s, mixN, hk]
  · simp only [h, if_false, u32s, mixN, List.getElem?_map]
    by_cases hi : i < 8
    · rw [List.getElem?_range hi]
      simp only [Option.map_some]
      by_cases h2 : i < k
      · simp [h2, show i < k + 1 by omega]
      · simp [h2, show ¬ i < k + 1 by omega]
    · simp [List.getElem?_eq_none (show (List.range 8).length ≤ i by simp; omega)]

/-- A block taken in. -/
def addN (s r : St) : St := ⟨(s.a + r.a) % 4294967296, (s.b + r.b) % 4294967296, (s.c + r.c) % 4294967296, (s.d + r.d) % 4294967296, (s.e + r.e) % 4294967296, (s.f + r.f) % 4294967296, (s.g + r.g) % 4294967296, (s.h + r.h) % 4294967296⟩
def compressN (s : St) (bs : List Nat) : St := addN s (roundsN (sched bs) 64 s)
theorem mixN_all (s r : St) : mixN s.list r.list 8 = (addN s r).list := rfl
theorem addN_ok (s r : St) : (addN s r).ok := ⟨Nat.mod_lt _ (by decide), Nat.mod_lt _ (by decide), Nat.mod_lt _ (by decide), Nat.mod_lt _ (by decide), Nat.mod_lt _ (by decide), Nat.mod_lt _ (by decide), Nat.mod_lt _ (by decide), Nat.mod_lt _ (by decide)⟩
theorem compressN_ok (s : St) (bs : List Nat) : (compressN s bs).ok := addN_ok _ _
theorem St.list_length (s : St) : s.list.length = 8 := rfl
theorem St.list_lt {s : St} (h : s.ok) : ∀ z ∈ s.list, z < 4294967296 := by
  intro z hz
  simp only [St.list, List.mem_cons, List.not_mem_nil, or_false] at hz
  obtain ⟨h1, h2, h3, h4, h5, h6, h7, h8⟩ := h
  rcases hz with rfl | rfl | rfl | rfl | rfl | rfl | rfl | rfl <;> assumption

set_option maxRecDepth 100000 in
set_option maxHeartbeats 2000000 in
theorem compress_core (s r : St) (hs : s.ok) (hok : r.ok) (bs : List Nat) (hl : bs.length = 64) (SW : List Value) (HSL : Hid (SW.length = 64)) (HS1 : Hid (∀ v ∈ SW, v.oneCell' = true))
    (HTU : Hid (∀ (B : Nat) (w : World), Tab w → Row w B 156 SW → Calls Tryz.prog 97 #[.agg (u32s s.list).toArray, .pointer (some ⟨B, 0, none⟩)] w fun e w' => e = .returned (.agg (u32s r.list).toArray) ∧ Below w.heap.size w w'))
    (HSC : Hid (∀ w, Calls Tryz.prog 96 #[.agg (u8s bs).toArray] w fun e w' => e = .returned (.agg SW.toArray) ∧ Below w.heap.size w w')) (w : World) (hT : Tab w) :
    Calls Tryz.prog 85 #[.agg (u32s s.list).toArray, .agg (u8s bs).toArray] w fun e w' => e = .returned (.agg (u32s (addN s r).list).toArray) ∧ Below w.heap.size w w' := by
  have HT : Hid (Tab w) := hT
  have HBL : Hid ((u8s bs).length = 64) := by show _ = _; rw [u8s_length, hl]
  have HOK : Hid r.ok := hok
  have HSOK : Hid s.ok := hs
  clear hok hs hl hT
  have rH : Row (((w.alloc (.cells (u32s s.list).toArray 139)).alloc (.cells (u8s bs).toArray 86)).alloc (.cells #[.int .u32 0, .int .u32 0, .int .u32 0, .int .u32 0, .int .u32 0, .int .u32 0, .int .u32 0, .int .u32 0] 139)) w.heap.size 139 (u32s s.list) := ((Row.new' w 139 _).alloc _).alloc _
  have rB : Row (((w.alloc (.cells (u32s s.list).toArray 139)).alloc (.cells (u8s bs).toArray 86)).alloc (.cells #[.int .u32 0, .int .u32 0, .int .u32 0, .int .u32 0, .int .u32 0, .int .u32 0, .int .u32 0, .int .u32 0] 139)) (w.heap.size + 1) 86 (u8s bs) := by
    have := Row.new' (w.alloc (.cells (u32s s.list).toArray 139)) 86 (u8s bs)
    rw [World.size_alloc] at this
    exact this.alloc _
  have rR : Row (((w.alloc (.cells (u32s s.list).toArray 139)).alloc (.cells (u8s bs).toArray 86)).alloc (.cells #[.int .u32 0, .int .u32 0, .int .u32 0, .int .u32 0, .int .u32 0, .int .u32 0, .int .u32 0, .int .u32 0] 139)) (w.heap.size + 1 + 1) 139 (List.replicate 8 (.int .u32 0)) := by
    have := Row.new' ((w.alloc (.cells (u32s s.list).toArray 139)).alloc (.cells (u8s bs).toArray 86)) 139 (List.replicate 8 (.int .u32 0))
    rw [World.size_alloc, World.size_alloc] at this
    exact this
  have hb0 : Below w.heap.size w (((w.alloc (.cells (u32s s.list).toArray 139)).alloc (.cells (u8s bs).toArray 86)).alloc (.cells #[.int .u32 0, .int .u32 0, .int .u32 0, .int .u32 0, .int .u32 0, .int .u32 0, .int .u32 0, .int .u32 0] 139)) := (((Below.refl _ w).alloc (Nat.le_refl _) _).alloc (by simp) _).alloc (by simp; omega) _
  have H0 : Hid (Row (((w.alloc (.cells (u32s s.list).toArray 139)).alloc (.cells (u8s bs).toArray 86)).alloc (.cells #[.int .u32 0, .int .u32 0, .int .u32 0, .int .u32 0, .int .u32 0, .int .u32 0, .int .u32 0, .int .u32 0] 139)) w.heap.size 139 (u32s s.list)
    ∧ Row (((w.alloc (.cells (u32s s.list).toArray 139)).alloc (.cells (u8s bs).toArray 86)).alloc (.cells #[.int .u32 0, .int .u32 0, .int .u32 0, .int .u32 0, .int .u32 0, .int .u32 0, .int .u32 0, .int .u32 0] 139)) (w.heap.size + 1) 86 (u8s bs)
    ∧ Row (((w.alloc (.cells (u32s s.list).toArray 139)).alloc (.cells (u8s bs).toArray 86)).alloc (.cells #[.int .u32 0, .int .u32 0, .int .u32 0, .int .u32 0, .int .u32 0, .int .u32 0, .int .u32 0, .int .u32 0] 139)) (w.heap.size + 1 + 1) 139 (List.replicate 8 (.int .u32 0))
    ∧ Below w.heap.size w (((w.alloc (.cells (u32s s.list).toArray 139)).alloc (.cells (u8s bs).toArray 86)).alloc (.cells #[.int .u32 0, .int .u32 0, .int .u32 0, .int .u32 0, .int .u32 0, .int .u32 0, .int .u32 0, .int .u32 0] 139))) := ⟨rH, rB, rR, hb0⟩
  clear rH rB rR hb0
  go_enter Tryz.func85, Tryz.ntmps85
  go_wp2_with (first
    | ((with_reducible show wpList _ _ _ (Oper.mk _ (Op.load 86 (.tmp 3)) _ _ _ _ :: _) _ _); refine wpList_load_Row rfl 86 (.tmp 3) rfl rfl H0.out.2.1 Tryz.underlying86 (by rw [HBL.out]; exact size86) ?_; simp only [Act.put, List.setIfInBounds_toArray, List.set_cons_zero, List.set_cons_succ])
    | (go_at_call 96; refine (HSC.out _).mono ?_; rintro e w1 ⟨rfl, hb1⟩)
    | ((with_reducible show wpList _ _ _ (Oper.mk _ (Op.store 156 (.tmp 5) (.tmp 9)) _ _ _ _ :: _) _ _); refine wpList_store_Row rfl 156 (.tmp 5) (.tmp 9) rfl SW rfl rfl (Row.new _ _ _) (by rw [HSL.out]; exact size156) (by rw [HSL.out]; rfl) HS1.out ?_; simp only [Act.put])
    | ((with_reducible show wpList _ _ _ (Oper.mk _ (Op.load 139 (.tmp 2)) _ _ _ _ :: _) _ _); refine wpList_load_Row rfl 139 (.tmp 2) rfl rfl (Row.others (by have := hb1.size; simp at this; omega) SW 0 ((H0.out.1.later hb1).alloc _)) Tryz.underlying139 (by rw [u32s_length, St.list_length]; exact size139) ?_; simp only [Act.put, List.setIfInBounds_toArray, List.set_cons_zero, List.set_cons_succ])
    | (go_at_call 97; refine (HTU.out _ _ ((HT.out.later H0.out.2.2.2).later hb1 |>.later (below_setCells (Nat.le_refl _) _ _ ((Below.refl _ w1).alloc (Nat.le_refl _) _))) (Row.sets_all (Row.new _ _ _) (by rw [HSL.out]; rfl))).mono ?_; rintro e w2 ⟨rfl, hb2⟩))
  have hs1 := hb1.size
  simp only [World.size_alloc] at hs1
  have hbA : Below w.heap.size w w1 := H0.out.2.2.2.trans (hb1.mono H0.out.2.2.2.size)
  have hbB : Below w.heap.size w w2 := (below_setCells (by omega) SW 0 (hbA.alloc (by omega) _)).trans (hb2.mono (by rw [size_setCells, World.size_alloc]; omega))
  have rH2 : Row w2 w.heap.size 139 (u32s s.list) := (Row.others (by omega) SW 0 ((H0.out.1.later hb1).alloc _)).later hb2
  have rR2 : Row w2 (w.heap.size + 1 + 1) 139 (List.replicate 8 (.int .u32 0)) := (Row.others (by omega) SW 0 ((H0.out.2.2.1.later hb1).alloc _)).later hb2
  clear hbA hb1 hb2 H0 hs1
  go_loopw [12] (fun i wr => ∃ k : Nat, k ≤ 8 ∧ i = .int .i64 k ∧ Row wr w.heap.size 139 (u32s (mixN s.list r.list k)) ∧ Row wr (w.heap.size + 1 + 1) 139 (List.replicate 8 (.int .u32 0)) ∧ Below w.heap.size w wr)
    (fun i _ => 8 - (intOf i).toNat)
  case atStart => exact ⟨0, by omega, rfl, rH2, rR2, hbB⟩
  case round =>
    clear rH2 rR2 hbB
    obtain ⟨k, hk, rfl, hrH, hrR, hBw⟩ := hrel
    by_cases hk8 : k < 8
    · have hki : (k : Int) < 8 := by omega
      have cH := hrH.cell (u32s_at (l := mixN s.list r.list k) (i := k) (by simp; omega))
      rw [mixN_at _ _ _ _ hk8, if_neg (by omega)] at cH
      have cf := hrH.frozen k
      have cR := u32s_at (l := r.list) (i := k) (by rw [St.list_length]; omega)
      have bx : s.list.getD k 0 < 4294967296 := all_getD (by decide) (St.list_lt HSOK.out) _
      have by' : r.list.getD k 0 < 4294967296 := all_getD (by decide) (St.list_lt HOK.out) _
      have HM : Hid ((u32s (mixN s.list r.list k)).set k (.int .u32 ((s.list.getD k 0 + r.list.getD k 0) % 4294967296 : Nat)) = u32s (mixN s.list r.list (k + 1))) := mixN_set s.list r.list k hk8
      have HrH : Hid (Row wr w.heap.size 139 (u32s (mixN s.list r.list k))) := hrH
      have HrR : Hid (Row wr (w.heap.size + 1 + 1) 139 (List.replicate 8 (.int .u32 0))) := hrR
      have cI : ∀ w : World, (Instr.index 139 (.agg (u32s r.list).toArray) (.int .i64 (k : Int))).run Tryz.prog w = .ok (.int .u32 (r.list.getD k 0 : Nat)) w := fun w => run_index139 _ k _ hk8 cR w
      generalize s.list.getD k 0 = x at *
      generalize r.list.getD k 0 = y at *
      clear hrH hrR cR
      go_wp2
      go_roundw
      case rel =>
        have e1 : (((x : Int) + y) % 4294967296) = (((x + y) % 4294967296 : Nat) : Int) := by omega
        refine ⟨k + 1, by omega, by go_num, ?_, HrR.out.other (by simp; omega) _, hBw.setCell (p := ⟨w.heap.size, k, none⟩) (Nat.le_refl _) _⟩
        have h := HrH.out.set k (.int .u32 ((x + y) % 4294967296 : Nat))
        rw [HM.out] at h
        rw [e1]
        exact h
      case measure => simp [intOf]; omega
    · obtain rfl : k = 8 := by omega
      rw [mixN_all] at hrH
      have HrH : Hid (Row wr w.heap.size 139 (u32s (addN s r).list)) := hrH
      have HrR : Hid (Row wr (w.heap.size + 1 + 1) 139 (List.replicate 8 (.int .u32 0))) := hrR
      have HAL : Hid ((u32s (addN s r).list).length = 8) := rfl
      have HA1 : Hid (∀ v ∈ u32s (addN s r).list, v.oneCell' = true) := u32s_one _
      clear hrH hrR
      go_wp2_with (first
        | ((with_reducible show wpList _ _ _ (Oper.mk _ (Op.load 139 (.tmp 2)) _ _ _ _ :: _) _ _); refine wpList_load_Row rfl 139 (.tmp 2) rfl rfl HrH.out Tryz.underlying139 size139 ?_; simp only [Act.put, List.setIfInBounds_toArray, List.set_cons_zero, List.set_cons_succ])
        | ((with_reducible show wpList _ _ _ (Oper.mk _ (Op.store 139 (.tmp 4) (.tmp 23)) _ _ _ _ :: _) _ _); refine wpList_store_Row rfl 139 (.tmp 4) (.tmp 23) rfl (u32s (addN s r).list) rfl rfl HrR.out size139 rfl HA1.out ?_; simp only [Act.put]))
      refine bodyPost_ret (results_Row rfl rfl (HrR.out.sets_all (vs := u32s (addN s r).list) rfl) Tryz.underlying139 size139) rfl ?_
      exact ⟨rfl, below_setCells (by omega) _ _ hBw⟩
theorem compress_any (s : St) (hs : s.ok) (bs : List Nat) (hl : bs.length = 64) (hb : ∀ z ∈ bs, z < 256) (w : World) (hT : Tab w) :
    Calls Tryz.prog 85 #[.agg (u32s s.list).toArray, .agg (u8s bs).toArray] w fun e w' => e = .returned (.agg (u32s (compressN s bs).list).toArray) ∧ Below w.heap.size w w' :=
  compress_core s (roundsN (sched bs) 64 s) hs (roundsN_ok hs 64) bs hl (u32s (sched bs)) ((u32s_length _).trans (sched_length bs)) (u32s_one _) (fun B w hT hr => turned_any s hs B (sched bs) (sched_length bs) (sched_lt bs hb) w hT hr) (fun w => schedule_any bs hl hb w) w hT
end Go.Proofs.YtclelancbfoenaaGreatDoor.Sh
/-
  What sha.digest and sha.firstWords answer: the bytes of eight words, the highest of each ahead; the words that a sum begins with.
-/
namespace Go.Proofs.YtclelancbfoenaaGreatDoor.Sh
open Go.RowKit
attribute [local go_sem] Oper.semAt_some

theorem size39 : (Tryz.prog.info? 39).map (·.size) = some 32 := by kernel_rfl
theorem size139' : (Tryz.prog.info? 139).map (·.size) = some 8 := by kernel_rfl

/-- Byte j of some words, the highest of each ahead. -/
def byteBE (l : List Nat) (j : Nat) : Nat := l.getD (j / 4) 0 / 2 ^ (24 - 8 * (j % 4)) % 256
def bytesBE (l : List Nat) (n : Nat) : List Nat := (List.range n).map (byteBE l)
@[simp] theorem bytesBE_length (l : List Nat) (n : Nat) : (bytesBE l n).length = n := by simp [bytesBE]
theorem bytesBE_succ (l : List Nat) (n : Nat) : bytesBE l n ++ [byteBE l n] = bytesBE l (n + 1) := by simp [bytesBE, List.range_succ]
def digestN (s : St) : List Nat := bytesBE s.list 32
theorem digestN_length (s : St) : (digestN s).length = 32 := bytesBE_length _ _

theorem byteBE_0 (l : List Nat) (k : Nat) : byteBE l (4 * k) = l.getD k 0 / 16777216 % 256 := by
  unfold byteBE; rw [show 4 * k / 4 = k by omega, show 4 * k % 4 = 0 by omega]
theorem byteBE_1 (l : List Nat) (k : Nat) : byteBE l (4 * k + 1) = l.getD k 0 / 65536 % 256 := by
  unfold byteBE; rw [show (4 * k + 1) / 4 = k by omega, show (4 * k + 1) % 4 = 1 by omega]
theorem byteBE_2 (l : List Nat) (k : Nat) : byteBE l (4 * k + 2) = l.getD k 0 / 256 % 256 := by
  unfold byteBE; rw [show (4 * k + 2) / 4 = k by omega, show (4 * k + 2) % 4 = 2 by omega]
theorem byteBE_3 (l : List Nat) (k : Nat) : byteBE l (4 * k + 3) = l.getD k 0 % 256 := by
  unfold byteBE; rw [show (4 * k + 3) / 4 = k by omega, show (4 * k + 3) % 4 = 3 by omega, show 24 - 8 * 3 = 0 from rfl, Nat.pow_zero, Nat.div_one]

theorem four_set (l : List Nat) (k : Nat) (hk : k < 8) :
    ((((fill 32 (.int .u8 0) (u8s (bytesBE l (4 * k)))).set (4 * k) (.int .u8 (l.getD k 0 / 16777216 % 256 : Nat))).set (4 * k + 1) (.int .u8 (l.getD k 0 / 65536 % 256 : Nat))).set (4 * k + 2) (.int .u8 (l.getD k 0 / 256 % 256 : Nat))).set (4 * k + 3) (.int .u8 (l.getD k 0 % 256 : Nat)) = fill 32 (.int .u8 0) (u8s (bytesBE l (4 * (k + 1)))) := by
  rw [fill_set _ _ _ _ (by simp) (by omega), ← byteBE_0, u8s_snoc, bytesBE_succ, fill_set _ _ _ _ (by simp) (by omega), ← byteBE_1, u8s_snoc, bytesBE_succ, fill_set _ _ _ _ (by simp) (by omega), ← byteBE_2, u8s_snoc, bytesBE_succ, fill_set _ _ _ _ (by simp) (by omega), ← byteBE_3, u8s_snoc, bytesBE_succ]
  rfl

theorem run_index139' (cs : List Value) (k : Nat) (v : Value) (hk : k < 8) (hv : cs[k]? = some v) (w : World) : (Instr.index 139 (.agg cs.toArray) (.int .i64 (k : Int))).run Tryz.prog w = .ok v w := by
  simp [Instr.index, run_underlying Tryz.underlying139, asIntOf, go_sem, hv]
  omega

set_option maxRecDepth 100000 in
set_option maxHeartbeats 2000000 in
theorem digest_core (L : List Nat) (hl : L.length = 8) (hx : ∀ z ∈ L, z < 4294967296) (w : World) :
    Calls Tryz.prog 86 #[.agg (u32s L).toArray] w fun e w' => e = .returned (.agg (u8s (bytesBE L 32)).toArray) ∧ Below w.heap.size w w' := by
  have HL : Hid (L.length = 8) := hl
  have HX : Hid (∀ z ∈ L, z < 4294967296) := hx
  have HLV : Hid ((u32s L).length = 8) := by show _ = _; rw [u32s_length, hl]
  clear hl hx
  have H0 : Hid (∀ (w : World) (o o' : Obj), Row (((w.alloc (.cells (u32s L).toArray 139)).alloc o).alloc o') w.heap.size 139 (u32s L)) := fun w o o' => ((Row.new' w 139 _).alloc _).alloc _
  go_enter Tryz.func86, Tryz.ntmps86
  go_wp2_with ((with_reducible show wpList _ _ _ (Oper.mk _ (Op.load 139 (.tmp 1)) _ _ _ _ :: _) _ _); refine wpList_load_Row rfl 139 (.tmp 1) rfl rfl (H0.out _ _ _) Tryz.underlying139 (by rw [HLV.out]; exact size139') ?_; simp only [Act.put, List.setIfInBounds_toArray, List.set_cons_zero, List.set_cons_succ])
  rw [z32u8]
  have rR : Row (((w.alloc (.cells (u32s L).toArray 139)).alloc (.cells (List.replicate 32 (.int .u8 0)).toArray 39)).alloc (.cells (List.replicate 32 (.int .u8 0)).toArray 39)) (w.heap.size + 1) 39 (List.replicate 32 (.int .u8 0)) := by
    have := Row.new' (w.alloc (.cells (u32s L).toArray 139)) 39 (List.replicate 32 (.int .u8 0))
    rw [World.size_alloc] at this
    exact this.alloc _
  have rO : Row (((w.alloc (.cells (u32s L).toArray 139)).alloc (.cells (List.replicate 32 (.int .u8 0)).toArray 39)).alloc (.cells (List.replicate 32 (.int .u8 0)).toArray 39)) (w.heap.size + 1 + 1) 39 (List.replicate 32 (.int .u8 0)) := by
    have := Row.new' ((w.alloc (.cells (u32s L).toArray 139)).alloc (.cells (List.replicate 32 (.int .u8 0)).toArray 39)) 39 (List.replicate 32 (.int .u8 0))
    rw [World.size_alloc, World.size_alloc] at this
    exact this
  have hb0 : Below w.heap.size w (((w.alloc (.cells (u32s L).toArray 139)).alloc (.cells (List.replicate 32 (.int .u8 0)).toArray 39)).alloc (.cells (List.replicate 32 (.int .u8 0)).toArray 39)) := (((Below.refl _ w).alloc (Nat.le_refl _) _).alloc (by simp) _).alloc (by simp; omega) _
  generalize (((w.alloc (.cells (u32s L).toArray 139)).alloc (.cells (List.replicate 32 (.int .u8 0)).toArray 39)).alloc (.cells (List.replicate 32 (.int .u8 0)).toArray 39)) = w3 at *
  go_loopw [7] (fun i wr => ∃ k : Nat, k ≤ 8 ∧ i = .int .i64 k ∧ Row wr (w.heap.size + 1) 39 (List.replicate 32 (.int .u8 0)) ∧ Row wr (w.heap.size + 1 + 1) 39 (fill 32 (.int .u8 0) (u8s (bytesBE L (4 * k)))) ∧ Below w.heap.size w wr)
    (fun i _ => 8 - (intOf i).toNat)
  case atStart => exact ⟨0, by omega, rfl, rR, rO, hb0⟩
  case round =>
    clear rR rO hb0
    obtain ⟨k, hk, rfl, hrR, hrO, hBw⟩ := hrel
    by_cases hk8 : k < 8
    · have hki : (k : Int) < 8 := by omega
      have cR := u32s_at (l := L) (i := k) (by have := HL.out; omega)
      have cI : ∀ w : World, (Instr.index 139 (.agg (u32s L).toArray) (.int .i64 (k : Int))).run Tryz.prog w = .ok (.int .u32 (L.getD k 0 : Nat)) w := fun w => run_index139' _ k _ hk8 cR w
      have bx : L.getD k 0 < 4294967296 := all_getD (by decide) HX.out _
      have HF : Hid (((((fill 32 (.int .u8 0) (u8s (bytesBE L (4 * k)))).set (4 * k) (.int .u8 (L.getD k 0 / 16777216 % 256 : Nat))).set (4 * k + 1) (.int .u8 (L.getD k 0 / 65536 % 256 : Nat))).set (4 * k + 2) (.int .u8 (L.getD k 0 / 256 % 256 : Nat))).set (4 * k + 3) (.int .u8 (L.getD k 0 % 256 : Nat)) = fill 32 (.int .u8 0) (u8s (bytesBE L (4 * (k + 1))))) := four_set L k hk8
      have cc : ∀ i, i < 32 → ∃ v, wr.cell? ⟨w.heap.size + 1 + 1, i, none⟩ = some v := fun i hi => ⟨_, hrO.cell (List.getElem?_eq_getElem (by rw [fill_length _ _ _ (by simp; omega)]; omega))⟩
      obtain ⟨v0, c0⟩ := cc (4 * k) (by omega)
      obtain ⟨v1, c1⟩ := cc (4 * k + 1) (by omega)
      obtain ⟨v2, c2⟩ := cc (4 * k + 2) (by omega)
      obtain ⟨v3, c3⟩ := cc (4 * k + 3) (by omega)
      have f0 := hrO.frozen (4 * k)
      have f1 := hrO.frozen (4 * k + 1)
      have f2 := hrO.frozen (4 * k + 2)
      have f3 := hrO.frozen (4 * k + 3)
      have e0 : IntKind.i64.wrap (4 * (k : Int)) = ((4 * k : Nat) : Int) := by rw [IntKind.wrap_i64]; omega
      have e1 : IntKind.i64.wrap (((4 * k : Nat) : Int) + 1) = ((4 * k + 1 : Nat) : Int) := by rw [IntKind.wrap_i64]; omega
      have e2 : IntKind.i64.wrap (((4 * k : Nat) : Int) + 2) = ((4 * k + 2 : Nat) : Int) := by rw [IntKind.wrap_i64]; omega
      have e3 : IntKind.i64.wrap (((4 * k : Nat) : Int) + 3) = ((4 * k + 3 : Nat) : Int) := by rw [IntKind.wrap_i64]; omega
      have l0 : ((4 * k : Nat) : Int) < 32 := by omega
      have l1 : ((4 * k + 1 : Nat) : Int) < 32 := by omega
      have l2 : ((4 * k + 2 : Nat) : Int) < 32 := by omega
      have l3 : ((4 * k + 3 : Nat) : Int) < 32 := by omega
      have HrR : Hid (Row wr (w.heap.size + 1) 39 (List.replicate 32 (.int .u8 0))) := hrR
      have HrO : Hid (Row wr (w.heap.size + 1 + 1) 39 (fill 32 (.int .u8 0) (u8s (bytesBE L (4 * k))))) := hrO
      have d1 : ∀ u, (wr.setCell ⟨w.heap.size + 1 + 1, 4 * k, none⟩ u).cell? ⟨w.heap.size + 1 + 1, 4 * k + 1, none⟩ = some v1 := fun u => (World.cell?_setCell_other _ _ _ _ (by simp)).trans c1
      have d2 : ∀ u u', ((wr.setCell ⟨w.heap.size + 1 + 1, 4 * k, none⟩ u).setCell ⟨w.heap.size + 1 + 1, 4 * k + 1, none⟩ u').cell? ⟨w.heap.size + 1 + 1, 4 * k + 2, none⟩ = some v2 := fun u u' => (World.cell?_setCell_other _ _ _ _ (by simp)).trans ((World.cell?_setCell_other _ _ _ _ (by simp)).trans c2)
      have d3 : ∀ u u' u'', (((wr.setCell ⟨w.heap.size + 1 + 1, 4 * k, none⟩ u).setCell ⟨w.heap.size + 1 + 1, 4 * k + 1, none⟩ u').setCell ⟨w.heap.size + 1 + 1, 4 * k + 2, none⟩ u'').cell? ⟨w.heap.size + 1 + 1, 4 * k + 3, none⟩ = some v3 := fun u u' u'' => (World.cell?_setCell_other _ _ _ _ (by simp)).trans ((World.cell?_setCell_other _ _ _ _ (by simp)).trans ((World.cell?_setCell_other _ _ _ _ (by simp)).trans c3))
      clear cc hrR hrO cR
      generalize L.getD k 0 = x at *
      generalize u8s (bytesBE L (4 * k)) = D at *
      generalize 4 * k + 1 = m1 at *
      generalize 4 * k + 2 = m2 at *
      generalize 4 * k + 3 = m3 at *
      generalize 4 * k = m0 at *
      clear c1 c2 c3
      go_wp2
      go_roundw
      case rel =>
        have g0 : ((x : Int) / 16777216) = ((x / 16777216 % 256 : Nat) : Int) := by omega
        have g1 : ((x : Int) / 65536 % 256) = ((x / 65536 % 256 : Nat) : Int) := by omega
        have g2 : ((x : Int) / 256 % 256) = ((x / 256 % 256 : Nat) : Int) := by omega
        have g3 : ((x : Int) % 256) = ((x % 256 : Nat) : Int) := by omega
        rw [g0, g1, g2, g3]
        refine ⟨k + 1, by omega, by go_num, (((HrR.out.other (by simp) _).other (by simp) _).other (by simp) _).other (by simp) _, ?_, (((hBw.setCell (p := ⟨w.heap.size + 1 + 1, m0, none⟩) (by show _ ≤ w.heap.size + 1 + 1; omega) _).setCell (p := ⟨w.heap.size + 1 + 1, m1, none⟩) (by show _ ≤ w.heap.size + 1 + 1; omega) _).setCell (p := ⟨w.heap.size + 1 + 1, m2, none⟩) (by show _ ≤ w.heap.size + 1 + 1; omega) _).setCell (p := ⟨w.heap.size + 1 + 1, m3, none⟩) (by show _ ≤ w.heap.size + 1 + 1; omega) _⟩
        have h := (((HrO.out.set m0 (.int .u8 (x / 16777216 % 256 : Nat))).set m1 (.int .u8 (x / 65536 % 256 : Nat))).set m2 (.int .u8 (x / 256 % 256 : Nat))).set m3 (.int .u8 (x % 256 : Nat))
        rw [HF.out] at h
        exact h
      case measure => simp [intOf]; omega
    · obtain rfl : k = 8 := by omega
      have HrR : Hid (Row wr (w.heap.size + 1) 39 (List.replicate 32 (.int .u8 0))) := hrR
      have HrO : Hid (Row wr (w.heap.size + 1 + 1) 39 (u8s (bytesBE L 32))) := by
        rw [fill_full _ _ _ (by simp)] at hrO; exact hrO
      have HOL : Hid ((u8s (bytesBE L 32)).length = 32) := by show _ = _; simp
      clear hrR hrO
      go_wp2_with (first
        | ((with_reducible show wpList _ _ _ (Oper.mk _ (Op.load 39 (.tmp 3)) _ _ _ _ :: _) _ _); refine wpList_load_Row rfl 39 (.tmp 3) rfl rfl HrO.out Tryz.underlying39 (by rw [HOL.out]; exact size39) ?_; simp only [Act.put, List.setIfInBounds_toArray, List.set_cons_zero, List.set_cons_succ])
        | ((with_reducible show wpList _ _ _ (Oper.mk _ (Op.store 39 (.tmp 2) (.tmp 38)) _ _ _ _ :: _) _ _); refine wpList_store_Row rfl 39 (.tmp 2) (.tmp 38) rfl (u8s (bytesBE L 32)) rfl rfl HrR.out (by rw [HOL.out]; exact size39) (by rw [HOL.out]; rfl) (u8s_one _) ?_; simp only [Act.put]))
      refine bodyPost_ret (results_Row rfl rfl (HrR.out.sets_all (vs := u8s (bytesBE L 32)) (by rw [HOL.out]; rfl)) Tryz.underlying39 (by rw [HOL.out]; exact size39)) rfl ?_
      exact ⟨rfl, below_setCells (by omega) _ _ hBw⟩

/-- The first eight words. -/
def first8 : St := ⟨1779033703, 3144134277, 1013904242, 2773480762, 1359893119, 2600822924, 528734635, 1541459225⟩
theorem first8_ok : first8.ok := by unfold St.ok first8; decide

set_option maxHeartbeats 1000000 in
theorem firstWords_any (w : World) : Calls Tryz.prog 83 #[] w fun e w' => e = .returned (.agg (u32s first8.list).toArray) ∧ Below w.heap.size w w' := by
  go_enter Tryz.func83, Tryz.ntmps83
  go_wp2
  refine bodyPost_ret (results_Row rfl rfl (Row.new _ _ _) Tryz.underlying139 size139') rfl ?_
  exact ⟨rfl, (Below.refl _ w).alloc (Nat.le_refl _) _⟩
end Go.Proofs.YtclelancbfoenaaGreatDoor.Sh
/-
  What sha.Sum answers: the sum of any bytes (up to 90,000).
-/
namespace Go.Proofs.YtclelancbfoenaaGreatDoor.Sh
open Go.RowKit Go.Shelf
attribute [local go_sem] Oper.semAt_some

theorem heap_setCells_other {b k : Nat} (hk : k ≠ b) : ∀ (vs : List Value) (o : Nat) (w : World), (w.setCells b o vs).heap[k]? = w.heap[k]?
  | [], _, _ => rfl
  | v :: r, o, w => (heap_setCells_other hk r (o + 1) _).trans (heap_setCell_other w ⟨b, o, none⟩ k v hk)

/-- The words behind some blocks; the sum of some bytes. -/
def wordsN (bl : List (List Nat)) : St := bl.foldl compressN first8
def sumN (zs : List Nat) : List Nat := digestN (wordsN (blocksL zs))
theorem wordsN_nil : wordsN [] = first8 := rfl
theorem wordsN_snoc (bl : List (List Nat)) (x : List Nat) : wordsN (bl ++ [x]) = compressN (wordsN bl) x := by simp [wordsN]
theorem wordsN_ok (bl : List (List Nat)) : (wordsN bl).ok := by
  rcases List.eq_nil_or_concat bl with rfl | ⟨l, x, rfl⟩
  · exact first8_ok
  · rw [List.concat_eq_append, wordsN_snoc]; exact compressN_ok _ _

set_option maxRecDepth 100000 in
set_option maxHeartbeats 2000000 in
theorem sum_in (n : Nat) (hn : 8 ≤ n) (p : Option Addr) (len cap : Nat) (zs : List Nat) (hlen : len ≤ 60000) (w : World) (hT : Tab w) (hI : IsBytes w.heap.size w p len cap zs) :
    CallsIn Fence.wide n Tryz.prog 70 #[.slice p len cap] w fun e w' => e = .returned (.agg (u8s (sumN zs)).toArray) ∧ Below w.heap.size w w' := by
  have h1 : 1 ≤ n := by omega
  have hfn : ∀ f, Fence.wide.fn f := fun _ => trivial
  have HT : Hid (Tab w) := hT
  have HI : Hid (IsBytes w.heap.size w p len cap zs) := hI
  obtain ⟨f8, hf8⟩ : ∃ f8, f8 = u32s first8.list := ⟨_, rfl⟩
  have HF1 : Hid (∀ w, Calls Tryz.prog 83 #[] w fun e w' => e = .returned (.agg f8.toArray) ∧ Below w.heap.size w w') := by rw [hf8]; exact firstWords_any
  have HFl : Hid (f8.length = 8) := by show _ = _; rw [hf8]; rfl
  have HFo : Hid (∀ v ∈ f8, v.oneCell' = true) := by rw [hf8]; exact u32s_one _
  have HF8 : Hid (f8 = u32s first8.list) := hf8
  clear hT hI hf8
  refine callsIn_of_wp_marks Tryz.func70 rfl trivial ?_ rfl
  simp only [Tryz.ntmps70, List.size_toArray, List.length_cons, List.length_nil, Nat.reduceAdd, Nat.reduceSub, Array.replicate_succ, Array.replicate_zero, List.push_toArray, List.append_toArray, List.nil_append, List.cons_append]
  gi_wp2_with (first
    | (gi_at_call 83; refine (callsIn_wide.2 (HF1.out _)).mono ?_; rintro e w1 ⟨rfl, hb1⟩)
    | ((with_reducible show wpListIn _ _ _ _ _ (Oper.mk _ (Op.store 139 (.tmp 3) (.tmp 5)) _ _ _ _ :: _) _ _); refine wpListIn_store_Row rfl 139 (.tmp 3) (.tmp 5) rfl f8 rfl rfl (Row.new _ _ _) (by rw [HFl.out]; exact size139) (by rw [HFl.out]; rfl) HFo.out ?_; simp only [Act.put])
    | (gi_at_call 84; refine (blk_in _ _ _ _ _).mono ?_; rintro e w' ⟨rfl, rfl⟩))
  rw [z32u8] at hb1
  have hs1 : w.heap.size + 1 ≤ w1.heap.size := by have := hb1.size; rwa [World.size_alloc] at this
  have hbA : Below w.heap.size w w1 := ((Below.refl _ w).alloc (Nat.le_refl _) _).trans (hb1.mono (by simp))
  have rR1 : Row w1 w.heap.size 39 (List.replicate 32 (.int .u8 0)) := (Row.new' w 39 _).later hb1
  rw [size_setCells, World.size_alloc]
  have rH : Row ((w1.alloc (.cells #[Value.int .u32 0, Value.int .u32 0, Value.int .u32 0, Value.int .u32 0, Value.int .u32 0, Value.int .u32 0, Value.int .u32 0, Value.int .u32 0] 139)).setCells w1.heap.size 0 f8) w1.heap.size 139 f8 := Row.sets_all (Row.new _ _ _) (by rw [HFl.out]; rfl)
  have rR2 : Row ((w1.alloc (.cells #[Value.int .u32 0, Value.int .u32 0, Value.int .u32 0, Value.int .u32 0, Value.int .u32 0, Value.int .u32 0, Value.int .u32 0, Value.int .u32 0] 139)).setCells w1.heap.size 0 f8) w.heap.size 39 (List.replicate 32 (.int .u8 0)) := Row.others (by omega) _ _ (rR1.alloc _)
  have hbB : Below w.heap.size w ((w1.alloc (.cells #[Value.int .u32 0, Value.int .u32 0, Value.int .u32 0, Value.int .u32 0, Value.int .u32 0, Value.int .u32 0, Value.int .u32 0, Value.int .u32 0] 139)).setCells w1.heap.size 0 f8) := below_setCells (by omega) _ _ (hbA.alloc (by omega) _)
  have hs2 : ((w1.alloc (.cells #[Value.int .u32 0, Value.int .u32 0, Value.int .u32 0, Value.int .u32 0, Value.int .u32 0, Value.int .u32 0, Value.int .u32 0, Value.int .u32 0] 139)).setCells w1.heap.size 0 f8).heap.size = w1.heap.size + 1 := by rw [size_setCells, World.size_alloc]
  generalize (w1.alloc (.cells #[Value.int .u32 0, Value.int .u32 0, Value.int .u32 0, Value.int .u32 0, Value.int .u32 0, Value.int .u32 0, Value.int .u32 0, Value.int .u32 0] 139)).setCells w1.heap.size 0 f8 = w2 at *
  have rB := Row.new w2 24 #[.slice p len cap]
  rw [hs2] at rB
  have H4 : Hid (Row (w2.alloc (.cells #[.slice p len cap] 24)) w1.heap.size 139 f8 ∧ Row (w2.alloc (.cells #[.slice p len cap] 24)) w.heap.size 39 (List.replicate 32 (.int .u8 0)) ∧ Below w.heap.size w (w2.alloc (.cells #[.slice p len cap] 24)) ∧ Row (w2.alloc (.cells #[.slice p len cap] 24)) (w1.heap.size + 1) 24 [.slice p len cap]) := ⟨rH.alloc _, rR2.alloc _, hbB.alloc (by omega) _, rB⟩
  have hs4 : (w2.alloc (.cells #[.slice p len cap] 24)).heap.size = w1.heap.size + 2 := by rw [World.size_alloc, hs2]
  clear rB rH rR2 hbB hbA rR1 hb1 hs2
  generalize w2.alloc (.cells #[.slice p len cap] 24) = w4 at *
  refine wpIn_rangeFunc_arr rfl h1 (gf := 95) (lb := #[.pointer (some ⟨w1.heap.size + 1, 0, none⟩)]) rfl trivial (enters_of Tryz.func95 (by kernel_rfl) rfl)
    (encs := fun x : List Nat => #[.agg (u8s x).toArray]) (Ok := fun x _ => BlockOk x) (Kp := KpM (fun k => k = w1.heap.size) (w4.heap.size + 2)) (S := fun xs => xs = blocksL zs) (Sp := fun pre => ∃ r, pre ++ r = blocksL zs) (N := len + 3)
    (fun W' hs hb => blk1_iter (n - 1) (by omega) _ (w1.heap.size + 1) p len cap zs hlen W' (((HI.out.below H4.out.2.2.1).below (hb.mono (by omega))).mono (by omega)) (H4.out.2.2.2.later hb) (fun k => k = w1.heap.size) _ (fun _ _ h => h.1) (fun _ _ h => by rw [hs]; exact h.2) (fun j hj => by omega) (by omega) (by
      rcases HI.out.2.2.2.2 with h | ⟨b, off, hp, hb', _⟩
      · exact .inl h
      · exact .inr (fun a ha e => by rw [hp] at ha; cases ha; simp at e; omega)))
    KpM.trans (fun A o o' ho hc => KpM.record (by omega) o' ho hc) KpM.of_below (fun _ => rfl) 86 (fun x => u8s x)
    (fun pre A => Row A w1.heap.size 139 (u32s (wordsN pre).list) ∧ Row A w.heap.size 39 (List.replicate 32 (.int .u8 0)) ∧ Below w.heap.size w A)
    (fun _ _ _ => False)
    (Low.and (low_row (by omega) _) (Low.and (low_row (by omega) _) (low_below w (by omega))))
    (fun _ _ _ _ h _ => h)
    (fun _ _ _ h _ => h)
    ⟨by rw [wordsN_nil, ← HF8.out]; exact H4.out.1, H4.out.2.1, H4.out.2.2.1⟩
    (fun x A => { tmps := #[.slice p len cap, undef, .pointer (some ⟨w.heap.size, 0, none⟩), .pointer (some ⟨w1.heap.size, 0, none⟩), .pointer (some ⟨A.heap.size, 0, none⟩), .agg f8.toArray, .slice p len cap, .func (.func 95) #[] #[.pointer (some ⟨w1.heap.size + 1, 0, none⟩)], .agg (u8s x).toArray, undef, undef, undef, undef, undef], defers := [] }) ?assign ?body ?done ?stop
  case assign =>
    intro li x A K hok hK
    have HXL : Hid ((u8s x).length = 64) := by show _ = _; rw [u8s_length]; exact hok.1
    have HX1 : Hid (∀ v ∈ u8s x, v.oneCell' = true) := u8s_one x
    have HK : Hid (∀ W', Below A.heap.size A W' → Row W' A.heap.size 86 (u8s x) → K _ W') := hK
    clear hK
    generalize u8s x = V at *
    gi_wp2_with ((with_reducible show wpListIn _ _ _ _ _ (Oper.mk _ (Op.store 86 (.tmp 4) (.tmp 8)) _ _ _ _ :: _) _ _); refine wpListIn_store_Row rfl 86 (.tmp 4) (.tmp 8) rfl V rfl rfl (Row.new _ _ _) (by rw [HXL.out]; exact size86) (by rw [HXL.out]; rfl) HX1.out ?_; simp only [Act.put])
    exact HK.out _ (below_setCells (Nat.le_refl _) _ _ ((Below.refl _ A).alloc (Nat.le_refl _) _)) (Row.sets_all (Row.new _ _ _) (by rw [HXL.out]; rfl))
  case body =>
    rintro li pre x A₀ A ⟨hrH, hrR, hB⟩ hok hN hle hrow
    have HC : Hid (∀ A, Tab A → Calls Tryz.prog 85 #[.agg (u32s (wordsN pre).list).toArray, .agg (u8s x).toArray] A fun e w' => e = .returned (.agg (u32s (wordsN (pre ++ [x])).list).toArray) ∧ Below A.heap.size A w') := fun A hT => by
      rw [wordsN_snoc]; exact compress_any _ (wordsN_ok pre) x hok.1 hok.2 A hT
    have HXL : Hid ((u8s x).length = 64) := by show _ = _; rw [u8s_length]; exact hok.1
    have HRow : Hid (Row A A₀.heap.size 86 (u8s x)) := hrow
    have HrH : Hid (Row A w1.heap.size 139 (u32s (wordsN pre).list)) := hrH
    have HrR : Hid (Row A w.heap.size 39 (List.replicate 32 (.int .u8 0))) := hrR
    have HHl : Hid ((u32s (wordsN pre).list).length = 8) := by show _ = _; rw [u32s_length, St.list_length]
    have HHl2 : Hid ((u32s (wordsN (pre ++ [x])).list).length = 8) := by show _ = _; rw [u32s_length, St.list_length]
    have HH2o : Hid (∀ v ∈ u32s (wordsN (pre ++ [x])).list, v.oneCell' = true) := u32s_one _
    clear hrow hrH hrR
    generalize u8s x = V at *
    generalize hS2 : u32s (wordsN (pre ++ [x])).list = S2 at *
    have HS2 : Hid (u32s (wordsN (pre ++ [x])).list = S2) := hS2
    clear hS2
    generalize u32s (wordsN pre).list = S1 at *
    gi_wp2_with (first
      | ((with_reducible show wpListIn _ _ _ _ _ (Oper.mk _ (Op.load 139 (.tmp 3)) _ _ _ _ :: _) _ _); refine wpListIn_load_Row rfl 139 (.tmp 3) rfl rfl HrH.out Tryz.underlying139 (by rw [HHl.out]; exact size139) ?_; simp only [Act.put, List.setIfInBounds_toArray, List.set_cons_zero, List.set_cons_succ])
      | ((with_reducible show wpListIn _ _ _ _ _ (Oper.mk _ (Op.load 86 (.tmp 4)) _ _ _ _ :: _) _ _); refine wpListIn_load_Row rfl 86 (.tmp 4) rfl rfl HRow.out Tryz.underlying86 (by rw [HXL.out]; exact size86) ?_; simp only [Act.put, List.setIfInBounds_toArray, List.set_cons_zero, List.set_cons_succ]))
    refine ⟨fun _ => by omega, (CallsIn.inRound li (callsIn_wide.2 (HC.out _ (HT.out.below hB HT.out.pos)))).mono ?_⟩
    rintro e A2 ⟨rfl, hb2⟩
    gi_wp2_with ((with_reducible show wpListIn _ _ _ _ _ (Oper.mk _ (Op.store 139 (.tmp 3) (.tmp 11)) _ _ _ _ :: _) _ _); refine wpListIn_store_Row rfl 139 (.tmp 3) (.tmp 11) rfl S2 rfl rfl (HrH.out.later hb2) (by rw [HHl2.out]; exact size139) (by rw [HHl2.out, HHl.out]) HH2o.out ?_; simp only [Act.put])
    have hkp : KpM (fun k => k = w1.heap.size) (w4.heap.size + 2) A (A2.setCells w1.heap.size 0 S2) := (KpM.of_below hb2).trans (KpM.sets (M := fun k => k = w1.heap.size) rfl _ _ _)
    have hkf : KpM (fun k => k = w1.heap.size) w4.heap.size A (A2.setCells w1.heap.size 0 S2) := (KpM.of_below hb2).trans (KpM.sets (M := fun k => k = w1.heap.size) rfl _ _ _)
    exact ⟨hkf.2, hkp, by rw [HS2.out]; exact (HrH.out.later hb2).sets_all (by rw [HHl2.out, HHl.out]), Row.others (by omega) _ _ (HrR.out.later hb2), below_setCells (by omega) _ _ (hB.trans (hb2.mono (by have := hB.size; omega)))⟩
  case done =>
    rintro D xs A hD rfl ⟨hrH, hrR, hB⟩ hKD
    have HDg : Hid (∀ A, Calls Tryz.prog 86 #[.agg (u32s (wordsN (blocksL zs)).list).toArray] A fun e w' => e = .returned (.agg (u8s (sumN zs)).toArray) ∧ Below A.heap.size A w') := fun A => digest_core _ (St.list_length _) (St.list_lt (wordsN_ok _)) A
    have HrH : Hid (Row A w1.heap.size 139 (u32s (wordsN (blocksL zs)).list)) := hrH
    have HrR : Hid (Row A w.heap.size 39 (List.replicate 32 (.int .u8 0))) := hrR
    have HHl : Hid ((u32s (wordsN (blocksL zs)).list).length = 8) := by show _ = _; rw [u32s_length, St.list_length]
    have HSl : Hid ((u8s (sumN zs)).length = 32) := by show _ = _; rw [u8s_length]; exact digestN_length _
    have HSo : Hid (∀ v ∈ u8s (sumN zs), v.oneCell' = true) := u8s_one _
    clear hrH hrR
    generalize u32s (wordsN (blocksL zs)).list = S1 at *
    gi_wp2_with (first
      | ((with_reducible show wpListIn _ _ _ _ _ (Oper.mk _ (Op.load 139 (.tmp 3)) _ _ _ _ :: _) _ _); refine wpListIn_load_Row rfl 139 (.tmp 3) rfl rfl HrH.out Tryz.underlying139 (by rw [HHl.out]; exact size139) ?_; simp only [Act.put, List.setIfInBounds_toArray, List.set_cons_zero, List.set_cons_succ])
      | (gi_at_call 86; refine (callsIn_wide.2 (HDg.out _)).mono ?_; rintro e A2 ⟨rfl, hb2⟩)
      | ((with_reducible show wpListIn _ _ _ _ _ (Oper.mk _ (Op.store 39 (.tmp 2) (.tmp 13)) _ _ _ _ :: _) _ _); refine wpListIn_store_Row rfl 39 (.tmp 2) (.tmp 13) rfl (u8s (sumN zs)) rfl rfl (HrR.out.later hb2) (by rw [HSl.out]; exact size39) (by rw [HSl.out]; rfl) HSo.out ?_; simp only [Act.put]))
    have hKE := (hb2.block D (Array.getElem?_eq_some_iff.1 hKD).1).trans hKD
    have hKF : (A2.setCells w.heap.size 0 (u8s (sumN zs))).heap[D]? = some (.deferred (some [])) := by
      rw [heap_setCells_other (by omega)]; exact hKE
    refine ⟨by simp, .inl ⟨_, _, rfl, run_takeDeferred hKF, ?_⟩⟩
    have hR3 := ((HrR.out.later hb2).sets_all (vs := u8s (sumN zs)) (by rw [HSl.out]; rfl))
    refine ⟨_, results_Row rfl rfl ((World.putObj_heap_other (by omega)).trans hR3) Tryz.underlying39 (by rw [HSl.out]; exact size39), rfl, ?_⟩
    exact (below_setCells (Nat.le_refl _) _ _ (hB.trans (hb2.mono (by have := hB.size; omega)))).trans (below_putObj _ _ (by omega))
  case stop =>
    rintro D c pre A hD _ h hKD
    exact h.elim

/-- sha.Sum -/
theorem sum_any (p : Option Addr) (len cap : Nat) (zs : List Nat) (hlen : len ≤ 60000) (w : World) (hT : Tab w) (hI : IsBytes w.heap.size w p len cap zs) :
    Calls Tryz.prog 70 #[.slice p len cap] w fun e w' => e = .returned (.agg (u8s (sumN zs)).toArray) ∧ Below w.heap.size w w' :=
  callsIn_wide.1 (sum_in 8 (Nat.le_refl _) p len cap zs hlen w hT hI)
end Go.Proofs.YtclelancbfoenaaGreatDoor.Sh
/-
  A text with all that stands behind it, cut into pieces of 64, is the blocks that sha.blocks tells.
-/
namespace Go.Proofs.YtclelancbfoenaaGreatDoor.Sh
open Go Go.RowKit

/-- What is filled in behind a text: so many noughts. -/
def gapN (len : Nat) : Nat := (119 - len % 64) % 64
/-- A text with all that stands behind it. -/
def padL (zs : List Nat) : List Nat := zs ++ 128 :: List.replicate (gapN zs.length) 0 ++ be8 (8 * zs.length % 18446744073709551616)
theorem padL_length (zs : List Nat) : (padL zs).length = zs.length + 9 + gapN zs.length := by simp [padL, be8_length]; omega
theorem padL_mod (zs : List Nat) : (padL zs).length % 64 = 0 := by rw [padL_length]; unfold gapN; omega

theorem fullL_append (a b : List Nat) (k : Nat) (h : 64 * k ≤ a.length) : fullL (a ++ b) k = fullL a k := by
  unfold fullL
  apply List.map_congr_left
  intro j hj
  have hj' := List.mem_range.1 hj
  rw [List.drop_append_of_le_length (by omega), List.take_append_of_le_length (by simp; omega)]

theorem padL_blocks (zs : List Nat) : fullL (padL zs) ((padL zs).length / 64) = blocksL zs := by
  have hk : 64 * (zs.length / 64) ≤ zs.length := by omega
  have hr : (zs.drop (64 * (zs.length / 64))).length = zs.length % 64 := by simp; omega
  have e0 : ∀ B, (zs ++ B).drop (64 * (zs.length / 64)) = zs.drop (64 * (zs.length / 64)) ++ B := fun B => List.drop_append_of_le_length hk
  have eP : ∃ B, padL zs = zs ++ B ∧ B = 128 :: List.replicate (gapN zs.length) 0 ++ be8 (8 * zs.length % 18446744073709551616) := ⟨_, by simp [padL], rfl⟩
  obtain ⟨B, hB, hBe⟩ := eP
  unfold blocksL lastL
  rw [hr]
  by_cases h : zs.length % 64 < 56
  · have hg : gapN zs.length = 55 - zs.length % 64 := by unfold gapN; omega
    have hl : (padL zs).length / 64 = zs.length / 64 + 1 := by rw [padL_length, hg]; omega
    rw [if_pos h, hl, ← fullL_succ, hB, fullL_append _ _ _ hk, e0]
    congr 2
    rw [List.take_of_length_le (by rw [List.length_append, hr, hBe, hg]; simp [be8_length]; omega), hBe, hg]
    simp
  · have hg : gapN zs.length = 119 - zs.length % 64 := by unfold gapN; omega
    have hl : (padL zs).length / 64 = zs.length / 64 + 1 + 1 := by rw [padL_length, hg]; omega
    rw [if_neg h, hl, ← fullL_succ, ← fullL_succ, hB, fullL_append _ _ _ hk, e0, List.append_assoc]
    have e1 : B = (128 :: List.replicate (63 - zs.length % 64) 0) ++ (List.replicate 56 0 ++ be8 (8 * zs.length % 18446744073709551616)) := by
      rw [hBe, hg, show 119 - zs.length % 64 = (63 - zs.length % 64) + 56 by omega, ← List.replicate_append_replicate]
      simp
    have l1 : (zs.drop (64 * (zs.length / 64)) ++ 128 :: List.replicate (63 - zs.length % 64) 0).length = 64 := by
      rw [List.length_append, hr]; simp; omega
    congr 1
    have e2 : (zs ++ B).drop (64 * (zs.length / 64 + 1)) = List.replicate 56 0 ++ be8 (8 * zs.length % 18446744073709551616) := by
      rw [show 64 * (zs.length / 64 + 1) = 64 * (zs.length / 64) + 64 by omega, ← List.drop_drop, e0, e1, ← List.append_assoc, List.drop_append_of_le_length (by omega), List.drop_eq_nil_of_le (by omega), List.nil_append]
    rw [e2, e1, ← List.append_assoc, List.take_append_of_le_length (by omega), List.take_of_length_le (by omega), List.take_of_length_le (by simp [be8_length])]
    rfl

theorem padL_lt (zs : List Nat) (hz : ∀ z ∈ zs, z < 256) : ∀ z ∈ padL zs, z < 256 := by
  intro z h
  rcases List.mem_append.1 h with h | h
  · rcases List.mem_append.1 h with h | h
    · exact hz z h
    · rcases List.mem_cons.1 h with h | h
      · omega
      · have := (List.mem_replicate.1 h).2; omega
  · exact be8_lt _ z h
theorem full_ok (M : List Nat) (hM : ∀ z ∈ M, z < 256) (k : Nat) (hk : 64 * (k + 1) ≤ M.length) : BlockOk ((M.drop (64 * k)).take 64) :=
  ⟨by simp; omega, fun z hz => hM z (List.mem_of_mem_drop (List.mem_of_mem_take hz))⟩
theorem take_block (M : List Nat) (k : Nat) : M.take (64 * k) ++ (M.drop (64 * k)).take 64 = M.take (64 * (k + 1)) := by
  rw [show 64 * (k + 1) = 64 * k + 64 by omega, List.take_add]
end Go.Proofs.YtclelancbfoenaaGreatDoor.Sh
/-
  A running sum in memory: its words, its rest, its length; what taking more bytes in makes of it.
-/
namespace Go.Proofs.YtclelancbfoenaaGreatDoor.Sh
open Go Go.RowKit

/-- What a running sum keeps of the text cs. -/
def RunOk (s R : List Value) (cs : List Nat) : Prop := s = u32s (wordsN (fullL cs (cs.length / 64))).list ∧ R.length = 64 ∧ R.take (cs.length % 64) = u8s (cs.drop (64 * (cs.length / 64)))

theorem u8s_drop (l : List Nat) (k : Nat) : (u8s l).drop k = u8s (l.drop k) := by simp [u8s]
theorem u8s_take (l : List Nat) (k : Nat) : (u8s l).take k = u8s (l.take k) := by simp [u8s]
theorem u8s_app (a b : List Nat) : u8s (a ++ b) = u8s a ++ u8s b := by simp [u8s]

theorem take_splice {α : Type} (R cs : List α) (h n : Nat) (hh : h ≤ R.length) (hn : n = h + cs.length) : (splice R h cs).take n = R.take h ++ cs := by
  subst hn
  unfold splice
  rw [← List.append_assoc, List.take_append_of_le_length (by simp; omega), List.take_of_length_le (by simp; omega)]

theorem RunOk.part {s R : List Value} {cs new : List Nat} (h : RunOk s R cs) (hn : cs.length % 64 + new.length < 64) : RunOk s (splice R (cs.length % 64) (u8s new)) (cs ++ new) := by
  obtain ⟨h1, h2, h3⟩ := h
  have e1 : (cs ++ new).length / 64 = cs.length / 64 := by rw [List.length_append]; omega
  have e2 : (cs ++ new).length % 64 = cs.length % 64 + new.length := by rw [List.length_append]; omega
  refine ⟨by rw [e1, fullL_append _ _ _ (by omega)]; exact h1, by rw [length_splice _ _ _ (by simp; omega)]; exact h2, ?_⟩
  rw [e1, e2, take_splice R (u8s new) _ _ (by omega) (by simp), h3, List.drop_append_of_le_length (by omega), u8s_app]

theorem RunOk.full {s R : List Value} {cs new : List Nat} (h : RunOk s R cs) (hn : cs.length % 64 + new.length = 64) :
    splice R (cs.length % 64) (u8s new) = u8s (cs.drop (64 * (cs.length / 64)) ++ new) ∧ RunOk (u32s (compressN (wordsN (fullL cs (cs.length / 64))) (cs.drop (64 * (cs.length / 64)) ++ new)).list) (u8s (cs.drop (64 * (cs.length / 64)) ++ new)) (cs ++ new) := by
  obtain ⟨h1, h2, h3⟩ := h
  have e1 : (cs ++ new).length / 64 = cs.length / 64 + 1 := by rw [List.length_append]; omega
  have e2 : (cs ++ new).length % 64 = 0 := by rw [List.length_append]; omega
  have l1 : (cs.drop (64 * (cs.length / 64)) ++ new).length = 64 := by simp; omega
  have e3 : (cs ++ new).drop (64 * (cs.length / 64)) = cs.drop (64 * (cs.length / 64)) ++ new := List.drop_append_of_le_length (by omega)
  have e4 : (cs ++ new).length = 64 * (cs.length / 64 + 1) := by rw [List.length_append]; omega
  refine ⟨?_, ?_, by simpa using l1, ?_⟩
  · have h := take_splice R (u8s new) (cs.length % 64) 64 (by omega) (by simp; omega)
    rw [List.take_of_length_le (by rw [length_splice _ _ _ (by simp; omega)]; omega)] at h
    rw [h, h3, u8s_app]
  · rw [e1, ← fullL_succ, wordsN_snoc, fullL_append _ _ _ (by omega), e3, List.take_of_length_le (by omega)]
  · have e5 : (cs ++ new).drop (64 * (cs.length / 64 + 1)) = [] := List.drop_eq_nil_of_le (by omega)
    rw [e1, e2, e5]
    rfl

/-- The cells of a running sum. -/
def runCells (s R : List Value) (n : Nat) : List Value := .bool true :: (s ++ (R ++ [.int .u64 (n : Nat)]))
theorem runCells_length {s R : List Value} (n : Nat) (hs : s.length = 8) (hR : R.length = 64) : (runCells s R n).length = 74 := by simp [runCells, hs, hR]
theorem runCells_0 (s R : List Value) (n : Nat) : (runCells s R n)[0]? = some (.bool true) := rfl
theorem runCells_73 {s R : List Value} (n : Nat) (hs : s.length = 8) (hR : R.length = 64) : (runCells s R n)[73]? = some (.int .u64 (n : Nat)) := by
  unfold runCells
  rw [List.getElem?_cons_succ, List.getElem?_append_right (by omega), List.getElem?_append_right (by omega)]
  simp [hs, hR]
theorem runCells_set {s R : List Value} (n m : Nat) (hs : s.length = 8) (hR : R.length = 64) : (runCells s R n).set 73 (.int .u64 (m : Nat)) = runCells s R m := by
  unfold runCells
  rw [List.set_cons_succ, List.set_append_right _ _ (by omega), List.set_append_right _ _ (by omega)]
  simp [hs, hR]
theorem runCells_words {W : World} {B : Nat} {s R : List Value} {n : Nat} (h : Row W B 149 (runCells s R n)) : W.rangeAt B 1 s := fun j v hj => h.cell (by
  have hl : j < s.length := by
    rcases Nat.lt_or_ge j s.length with h | h
    · exact h
    · rw [List.getElem?_eq_none h] at hj; cases hj
  unfold runCells
  rw [show 1 + j = j + 1 by omega, List.getElem?_cons_succ, List.getElem?_append_left hl]
  exact hj)
theorem runCells_rest {W : World} {B : Nat} {s R : List Value} {n : Nat} (hs : s.length = 8) (h : Row W B 149 (runCells s R n)) : W.rangeAt B 9 R := fun j v hj => h.cell (by
  have hl : j < R.length := by
    rcases Nat.lt_or_ge j R.length with h | h
    · exact h
    · rw [List.getElem?_eq_none h] at hj; cases hj
  unfold runCells
  rw [show 9 + j = (8 + j) + 1 by omega, List.getElem?_cons_succ, List.getElem?_append_right (by omega), List.getElem?_append_left (by omega)]
  simpa [hs] using hj)
theorem runCells_splice {s R cs : List Value} (n h : Nat) (hs : s.length = 8) (hR : R.length = 64) (hh : h + cs.length ≤ 64) : splice (runCells s R n) (9 + h) cs = runCells s (splice R h cs) n := by
  unfold splice runCells
  rw [show 9 + h = (8 + h) + 1 by omega, List.take_succ_cons, List.take_append, List.take_of_length_le (by omega), show 8 + h - s.length = h by omega, List.take_append_of_le_length (by omega),
    show 8 + h + 1 + cs.length = (8 + (h + cs.length)) + 1 by omega, List.drop_succ_cons, List.drop_append, List.drop_eq_nil_of_le (show s.length ≤ 8 + (h + cs.length) by omega), show 8 + (h + cs.length) - s.length = h + cs.length by omega, List.drop_append_of_le_length (by omega)]
  simp
theorem runCells_put {s s' R : List Value} (n : Nat) (hs : s.length = 8) (hs' : s'.length = 8) : putAt (runCells s R n) 1 s' = runCells s' R n := by
  rw [putAt_eq _ _ _ (by simp [runCells]; omega)]
  unfold runCells
  rw [List.take_succ_cons, List.take_zero, show 1 + s'.length = s'.length + 1 by omega, List.drop_succ_cons, show s'.length = s.length by omega, List.drop_append_of_le_length (by omega), List.drop_eq_nil_of_le (by omega)]
  simp

/-- Block B is a running sum of cs. -/
def RunAt (W : World) (B : Nat) (cs : List Nat) : Prop := ∃ s R, RunOk s R cs ∧ Row W B 149 (runCells s R cs.length)
theorem RunAt.lt {W : World} {B : Nat} {cs : List Nat} (h : RunAt W B cs) : B < W.heap.size := by obtain ⟨_, _, _, h⟩ := h; exact h.lt
theorem RunAt.below {W W' : World} {n B : Nat} {cs : List Nat} (h : RunAt W B cs) (hb : Below n W W') (hn : B < n) : RunAt W' B cs := by obtain ⟨s, R, h1, h2⟩ := h; exact ⟨s, R, h1, h2.below hb hn⟩
theorem RunAt.later {W W' : World} {B : Nat} {cs : List Nat} (h : RunAt W B cs) (hb : Below W.heap.size W W') : RunAt W' B cs := h.below hb h.lt
theorem RunAt.alloc {W : World} {B : Nat} {cs : List Nat} (h : RunAt W B cs) (o : Obj) : RunAt (W.alloc o) B cs := by obtain ⟨s, R, h1, h2⟩ := h; exact ⟨s, R, h1, h2.alloc o⟩
theorem RunOk.len {s R : List Value} {cs : List Nat} (h : RunOk s R cs) : s.length = 8 := by rw [h.1, u32s_length, St.list_length]

theorem _root_.Go.Proofs.YtclelancbfoenaaGreatDoor.But.tab {B n : Nat} {w w' : World} (h : But B n w w') (hB : 2 < B) (hn : 2 < n) (hT : Tab w) : Tab w' := fun i hi => (World.cell?_of_block (a := ⟨2, i, none⟩) (h.block 2 hn (by omega))).trans (hT i hi)
theorem _root_.Go.Proofs.YtclelancbfoenaaGreatDoor.But.bytes {B n n₀ : Nat} {w w' : World} (h : But B n w w') (hn : n₀ ≤ n) {p : Option Addr} {len cap : Nat} {zs : List Nat} (hp : len = 0 ∨ ∀ a, p = some a → a.block ≠ B) : IsBytes n₀ w p len cap zs → IsBytes n₀ w' p len cap zs
  | ⟨h1, h2, h3, h4, .inl e⟩ => ⟨h1, h2, h3, h4, .inl e⟩
  | ⟨h1, h2, h3, h4, .inr ⟨b, off, e, hb, hc⟩⟩ => ⟨h1, h2, h3, h4, .inr ⟨b, off, e, hb, fun i hi => by
      have hbB : b ≠ B := by
        rcases hp with h0 | h0
        · omega
        · exact h0 _ e
      rw [World.cell?_of_block (a := ⟨b, off + i, none⟩) (h.block b (by omega) hbB)]
      exact hc i hi⟩⟩
end Go.Proofs.YtclelancbfoenaaGreatDoor.Sh
