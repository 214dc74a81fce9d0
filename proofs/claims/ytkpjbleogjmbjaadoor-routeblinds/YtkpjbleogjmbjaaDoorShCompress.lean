/-
  What sha.Compress answers: a block taken into eight words.
-/
import Derived.Test.YtkpjbleogjmbjaaDoorBaseAll
import Derived.Test.YtkpjbleogjmbjaaDoorShTurned
import Derived.Test.YtkpjbleogjmbjaaDoorShSched
namespace Go.Proofs.YtkpjbleogjmbjaaDoor.Sh
open Go.RowKit
attribute [local go_sem] Oper.semAt_some

theorem size91 : (Tryd.prog.info? 91).map (·.size) = some 64 := by kernel_rfl

theorem run_index98 (cs : List Value) (k : Nat) (v : Value) (hk : k < 8) (hv : cs[k]? = some v) (w : World) : (Instr.index 98 (.agg cs.toArray) (.int .i64 (k : Int))).run Tryd.prog w = .ok v w := by
  simp [Instr.index, run_underlying Tryd.underlying98, asIntOf, go_sem, hv]
  omega

/-- The first k of xs with those of ys added. -/
def mixN (xs ys : List Nat) (k : Nat) : List Nat := (List.range 8).map fun i => if i < k then (xs.getD i 0 + ys.getD i 0) % 4294967296 else xs.getD i 0
@[simp] theorem mixN_length (xs ys : List Nat) (k : Nat) : (mixN xs ys k).length = 8 := by simp [mixN]
theorem mixN_at (xs ys : List Nat) (k i : Nat) (hi : i < 8) : (mixN xs ys k).getD i 0 = if i < k then (xs.getD i 0 + ys.getD i 0) % 4294967296 else xs.getD i 0 := by
  simp only [mixN, List.getD_eq_getElem?_getD, List.getElem?_map, List.getElem?_range hi, Option.map_some, Option.getD_some]
theorem mixN_zero (s : St) (ys : List Nat) : mixN s.list ys 0 = s.list := rfl
theorem mixN_set (xs ys : List Nat) (k : Nat) (hk : k < 8) : (u32s (mixN xs ys k)).set k (.int .u32 ((xs.getD k 0 + ys.getD k 0) % 4294967296 : Nat)) = u32s (mixN xs ys (k + 1)) := by
  apply List.ext_getElem?
  intro i
  rw [List.getElem?_set]
  by_cases h : k = i
  · subst h
    simp [u32s, mixN, hk]
  · simp only [h, if_false, u32s, mixN, List.getElem?_map]
    by_cases hi : i < 8
    · rw [List.getElem?_range hi]
      simp only [Option.map_some]
      by_cases h2 : i < k
      · simp [h2, show i < k + 1 by omega]
      · simp [h2, show ¬ i < k + 1 by omega]
    · simp [List.getElem?_eq_none (show (List.range 8).length ≤ i by simp; omega)]

/-- A block taken in. -/
def addN (s r : St) : St := ⟨(s.a + r.a) % 4294967296, (s.b + r.b) % 4294967296, (s.c + r.c) % 4294967296, (s.d + r.d) % 4294967296, (s.e + r.e) % 4294967296, (s.f + r.f) % 4294967296, (s.g + r.g) % 4294967296, (s.h + r.h) % 4294967296⟩
def compressN (s : St) (bs : List Nat) : St := addN s (roundsN (sched bs) 64 s)
theorem mixN_all (s r : St) : mixN s.list r.list 8 = (addN s r).list := rfl
theorem addN_ok (s r : St) : (addN s r).ok := ⟨Nat.mod_lt _ (by decide), Nat.mod_lt _ (by decide), Nat.mod_lt _ (by decide), Nat.mod_lt _ (by decide), Nat.mod_lt _ (by decide), Nat.mod_lt _ (by decide), Nat.mod_lt _ (by decide), Nat.mod_lt _ (by decide)⟩
theorem compressN_ok (s : St) (bs : List Nat) : (compressN s bs).ok := addN_ok _ _
theorem St.list_length (s : St) : s.list.length = 8 := rfl
theorem St.list_lt {s : St} (h : s.ok) : ∀ z ∈ s.list, z < 4294967296 := by
  intro z hz
  simp only [St.list, List.mem_cons, List.not_mem_nil, or_false] at hz
  obtain ⟨h1, h2, h3, h4, h5, h6, h7, h8⟩ := h
  rcases hz with rfl | rfl | rfl | rfl | rfl | rfl | rfl | rfl <;> assumption

set_option maxRecDepth 100000 in
set_option maxHeartbeats 2000000 in
theorem compress_core (s r : St) (hs : s.ok) (hok : r.ok) (bs : List Nat) (hl : bs.length = 64) (SW : List Value) (HSL : Hid (SW.length = 64)) (HS1 : Hid (∀ v ∈ SW, v.oneCell' = true))
    (HTU : Hid (∀ (B : Nat) (w : World), Tab w → Row w B 112 SW → Calls Tryd.prog 52 #[.agg (u32s s.list).toArray, .pointer (some ⟨B, 0, none⟩)] w fun e w' => e = .returned (.agg (u32s r.list).toArray) ∧ Below w.heap.size w w'))
    (HSC : Hid (∀ w, Calls Tryd.prog 51 #[.agg (u8s bs).toArray] w fun e w' => e = .returned (.agg SW.toArray) ∧ Below w.heap.size w w')) (w : World) (hT : Tab w) :
    Calls Tryd.prog 42 #[.agg (u32s s.list).toArray, .agg (u8s bs).toArray] w fun e w' => e = .returned (.agg (u32s (addN s r).list).toArray) ∧ Below w.heap.size w w' := by
  have HT : Hid (Tab w) := hT
  have HBL : Hid ((u8s bs).length = 64) := by show _ = _; rw [u8s_length, hl]
  have HOK : Hid r.ok := hok
  have HSOK : Hid s.ok := hs
  clear hok hs hl hT
  have rH : Row (((w.alloc (.cells (u32s s.list).toArray 98)).alloc (.cells (u8s bs).toArray 91)).alloc (.cells #[.int .u32 0, .int .u32 0, .int .u32 0, .int .u32 0, .int .u32 0, .int .u32 0, .int .u32 0, .int .u32 0] 98)) w.heap.size 98 (u32s s.list) := ((Row.new' w 98 _).alloc _).alloc _
  have rB : Row (((w.alloc (.cells (u32s s.list).toArray 98)).alloc (.cells (u8s bs).toArray 91)).alloc (.cells #[.int .u32 0, .int .u32 0, .int .u32 0, .int .u32 0, .int .u32 0, .int .u32 0, .int .u32 0, .int .u32 0] 98)) (w.heap.size + 1) 91 (u8s bs) := by
    have := Row.new' (w.alloc (.cells (u32s s.list).toArray 98)) 91 (u8s bs)
    rw [World.size_alloc] at this
    exact this.alloc _
  have rR : Row (((w.alloc (.cells (u32s s.list).toArray 98)).alloc (.cells (u8s bs).toArray 91)).alloc (.cells #[.int .u32 0, .int .u32 0, .int .u32 0, .int .u32 0, .int .u32 0, .int .u32 0, .int .u32 0, .int .u32 0] 98)) (w.heap.size + 1 + 1) 98 (List.replicate 8 (.int .u32 0)) := by
    have := Row.new' ((w.alloc (.cells (u32s s.list).toArray 98)).alloc (.cells (u8s bs).toArray 91)) 98 (List.replicate 8 (.int .u32 0))
    rw [World.size_alloc, World.size_alloc] at this
    exact this
  have hb0 : Below w.heap.size w (((w.alloc (.cells (u32s s.list).toArray 98)).alloc (.cells (u8s bs).toArray 91)).alloc (.cells #[.int .u32 0, .int .u32 0, .int .u32 0, .int .u32 0, .int .u32 0, .int .u32 0, .int .u32 0, .int .u32 0] 98)) := (((Below.refl _ w).alloc (Nat.le_refl _) _).alloc (by simp) _).alloc (by simp; omega) _
  have H0 : Hid (Row (((w.alloc (.cells (u32s s.list).toArray 98)).alloc (.cells (u8s bs).toArray 91)).alloc (.cells #[.int .u32 0, .int .u32 0, .int .u32 0, .int .u32 0, .int .u32 0, .int .u32 0, .int .u32 0, .int .u32 0] 98)) w.heap.size 98 (u32s s.list)
    ∧ Row (((w.alloc (.cells (u32s s.list).toArray 98)).alloc (.cells (u8s bs).toArray 91)).alloc (.cells #[.int .u32 0, .int .u32 0, .int .u32 0, .int .u32 0, .int .u32 0, .int .u32 0, .int .u32 0, .int .u32 0] 98)) (w.heap.size + 1) 91 (u8s bs)
    ∧ Row (((w.alloc (.cells (u32s s.list).toArray 98)).alloc (.cells (u8s bs).toArray 91)).alloc (.cells #[.int .u32 0, .int .u32 0, .int .u32 0, .int .u32 0, .int .u32 0, .int .u32 0, .int .u32 0, .int .u32 0] 98)) (w.heap.size + 1 + 1) 98 (List.replicate 8 (.int .u32 0))
    ∧ Below w.heap.size w (((w.alloc (.cells (u32s s.list).toArray 98)).alloc (.cells (u8s bs).toArray 91)).alloc (.cells #[.int .u32 0, .int .u32 0, .int .u32 0, .int .u32 0, .int .u32 0, .int .u32 0, .int .u32 0, .int .u32 0] 98))) := ⟨rH, rB, rR, hb0⟩
  clear rH rB rR hb0
  go_enter Tryd.func42, Tryd.ntmps42
  go_wp2_with (first
    | ((with_reducible show wpList _ _ _ (Oper.mk _ (Op.load 91 (.tmp 3)) _ _ _ _ :: _) _ _); refine wpList_load_Row rfl 91 (.tmp 3) rfl rfl H0.out.2.1 Tryd.underlying91 (by rw [HBL.out]; exact size91) ?_; simp only [Act.put, List.setIfInBounds_toArray, List.set_cons_zero, List.set_cons_succ])
    | (go_at_call 51; refine (HSC.out _).mono ?_; rintro e w1 ⟨rfl, hb1⟩)
    | ((with_reducible show wpList _ _ _ (Oper.mk _ (Op.store 112 (.tmp 5) (.tmp 9)) _ _ _ _ :: _) _ _); refine wpList_store_Row rfl 112 (.tmp 5) (.tmp 9) rfl SW rfl rfl (Row.new _ _ _) (by rw [HSL.out]; exact size112) (by rw [HSL.out]; rfl) HS1.out ?_; simp only [Act.put])
    | ((with_reducible show wpList _ _ _ (Oper.mk _ (Op.load 98 (.tmp 2)) _ _ _ _ :: _) _ _); refine wpList_load_Row rfl 98 (.tmp 2) rfl rfl (Row.others (by have := hb1.size; simp at this; omega) SW 0 ((H0.out.1.later hb1).alloc _)) Tryd.underlying98 (by rw [u32s_length, St.list_length]; exact size98) ?_; simp only [Act.put, List.setIfInBounds_toArray, List.set_cons_zero, List.set_cons_succ])
    | (go_at_call 52; refine (HTU.out _ _ ((HT.out.later H0.out.2.2.2).later hb1 |>.later (below_setCells (Nat.le_refl _) _ _ ((Below.refl _ w1).alloc (Nat.le_refl _) _))) (Row.sets_all (Row.new _ _ _) (by rw [HSL.out]; rfl))).mono ?_; rintro e w2 ⟨rfl, hb2⟩))
  have hs1 := hb1.size
  simp only [World.size_alloc] at hs1
  have hbA : Below w.heap.size w w1 := H0.out.2.2.2.trans (hb1.mono H0.out.2.2.2.size)
  have hbB : Below w.heap.size w w2 := (below_setCells (by omega) SW 0 (hbA.alloc (by omega) _)).trans (hb2.mono (by rw [size_setCells, World.size_alloc]; omega))
  have rH2 : Row w2 w.heap.size 98 (u32s s.list) := (Row.others (by omega) SW 0 ((H0.out.1.later hb1).alloc _)).later hb2
  have rR2 : Row w2 (w.heap.size + 1 + 1) 98 (List.replicate 8 (.int .u32 0)) := (Row.others (by omega) SW 0 ((H0.out.2.2.1.later hb1).alloc _)).later hb2
  clear hbA hb1 hb2 H0 hs1
  go_loopw [12] (fun i wr => ∃ k : Nat, k ≤ 8 ∧ i = .int .i64 k ∧ Row wr w.heap.size 98 (u32s (mixN s.list r.list k)) ∧ Row wr (w.heap.size + 1 + 1) 98 (List.replicate 8 (.int .u32 0)) ∧ Below w.heap.size w wr)
    (fun i _ => 8 - (intOf i).toNat)
  case atStart => exact ⟨0, by omega, rfl, rH2, rR2, hbB⟩
  case round =>
    clear rH2 rR2 hbB
    obtain ⟨k, hk, rfl, hrH, hrR, hBw⟩ := hrel
    by_cases hk8 : k < 8
    · have hki : (k : Int) < 8 := by omega
      have cH := hrH.cell (u32s_at (l := mixN s.list r.list k) (i := k) (by simp; omega))
      rw [mixN_at _ _ _ _ hk8, if_neg (by omega)] at cH
      have cf := hrH.frozen k
      have cR := u32s_at (l := r.list) (i := k) (by rw [St.list_length]; omega)
      have bx : s.list.getD k 0 < 4294967296 := all_getD (by decide) (St.list_lt HSOK.out) _
      have by' : r.list.getD k 0 < 4294967296 := all_getD (by decide) (St.list_lt HOK.out) _
      have HM : Hid ((u32s (mixN s.list r.list k)).set k (.int .u32 ((s.list.getD k 0 + r.list.getD k 0) % 4294967296 : Nat)) = u32s (mixN s.list r.list (k + 1))) := mixN_set s.list r.list k hk8
      have HrH : Hid (Row wr w.heap.size 98 (u32s (mixN s.list r.list k))) := hrH
      have HrR : Hid (Row wr (w.heap.size + 1 + 1) 98 (List.replicate 8 (.int .u32 0))) := hrR
      have cI : ∀ w : World, (Instr.index 98 (.agg (u32s r.list).toArray) (.int .i64 (k : Int))).run Tryd.prog w = .ok (.int .u32 (r.list.getD k 0 : Nat)) w := fun w => run_index98 _ k _ hk8 cR w
      generalize s.list.getD k 0 = x at *
      generalize r.list.getD k 0 = y at *
      clear hrH hrR cR
      go_wp2
      go_roundw
      case rel =>
        have e1 : (((x : Int) + y) % 4294967296) = (((x + y) % 4294967296 : Nat) : Int) := by omega
        refine ⟨k + 1, by omega, by go_num, ?_, HrR.out.other (by simp; omega) _, hBw.setCell (p := ⟨w.heap.size, k, none⟩) (Nat.le_refl _) _⟩
        have h := HrH.out.set k (.int .u32 ((x + y) % 4294967296 : Nat))
        rw [HM.out] at h
        rw [e1]
        exact h
      case measure => simp [intOf]; omega
    · obtain rfl : k = 8 := by omega
      rw [mixN_all] at hrH
      have HrH : Hid (Row wr w.heap.size 98 (u32s (addN s r).list)) := hrH
      have HrR : Hid (Row wr (w.heap.size + 1 + 1) 98 (List.replicate 8 (.int .u32 0))) := hrR
      have HAL : Hid ((u32s (addN s r).list).length = 8) := rfl
      have HA1 : Hid (∀ v ∈ u32s (addN s r).list, v.oneCell' = true) := u32s_one _
      clear hrH hrR
      go_wp2_with (first
        | ((with_reducible show wpList _ _ _ (Oper.mk _ (Op.load 98 (.tmp 2)) _ _ _ _ :: _) _ _); refine wpList_load_Row rfl 98 (.tmp 2) rfl rfl HrH.out Tryd.underlying98 size98 ?_; simp only [Act.put, List.setIfInBounds_toArray, List.set_cons_zero, List.set_cons_succ])
        | ((with_reducible show wpList _ _ _ (Oper.mk _ (Op.store 98 (.tmp 4) (.tmp 23)) _ _ _ _ :: _) _ _); refine wpList_store_Row rfl 98 (.tmp 4) (.tmp 23) rfl (u32s (addN s r).list) rfl rfl HrR.out size98 rfl HA1.out ?_; simp only [Act.put]))
      refine bodyPost_ret (results_Row rfl rfl (HrR.out.sets_all (vs := u32s (addN s r).list) rfl) Tryd.underlying98 size98) rfl ?_
      exact ⟨rfl, below_setCells (by omega) _ _ hBw⟩
theorem compress_any (s : St) (hs : s.ok) (bs : List Nat) (hl : bs.length = 64) (hb : ∀ z ∈ bs, z < 256) (w : World) (hT : Tab w) :
    Calls Tryd.prog 42 #[.agg (u32s s.list).toArray, .agg (u8s bs).toArray] w fun e w' => e = .returned (.agg (u32s (compressN s bs).list).toArray) ∧ Below w.heap.size w w' :=
  compress_core s (roundsN (sched bs) 64 s) hs (roundsN_ok hs 64) bs hl (u32s (sched bs)) ((u32s_length _).trans (sched_length bs)) (u32s_one _) (fun B w hT hr => turned_any s hs B (sched bs) (sched_length bs) (sched_lt bs hb) w hT hr) (fun w => schedule_any bs hl hb w) w hT
end Go.Proofs.YtkpjbleogjmbjaaDoor.Sh
