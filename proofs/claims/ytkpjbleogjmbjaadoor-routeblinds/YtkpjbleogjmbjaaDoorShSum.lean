/-
  What sha.Sum answers: the sum of any bytes (up to 104,000).
-/
import Derived.Test.YtkpjbleogjmbjaaDoorBaseAll
import Derived.Test.YtkpjbleogjmbjaaDoorShBlk
import Derived.Test.YtkpjbleogjmbjaaDoorShCompress
import Derived.Test.YtkpjbleogjmbjaaDoorShDigest
namespace Go.Proofs.YtkpjbleogjmbjaaDoor.Sh
open Go.RowKit Go.Shelf
attribute [local go_sem] Oper.semAt_some

theorem heap_setCells_other {b k : Nat} (hk : k ≠ b) : ∀ (vs : List Value) (o : Nat) (w : World), (w.setCells b o vs).heap[k]? = w.heap[k]?
  | [], _, _ => rfl
  | v :: r, o, w => (heap_setCells_other hk r (o + 1) _).trans (heap_setCell_other w ⟨b, o, none⟩ k v hk)

/-- The words behind some blocks; the sum of some bytes. -/
def wordsN (bl : List (List Nat)) : St := bl.foldl compressN first8
def sumN (zs : List Nat) : List Nat := digestN (wordsN (blocksL zs))
theorem wordsN_nil : wordsN [] = first8 := rfl
theorem wordsN_snoc (bl : List (List Nat)) (x : List Nat) : wordsN (bl ++ [x]) = compressN (wordsN bl) x := by simp [wordsN]
theorem wordsN_ok (bl : List (List Nat)) : (wordsN bl).ok := by
  rcases List.eq_nil_or_concat bl with rfl | ⟨l, x, rfl⟩
  · exact first8_ok
  · rw [List.concat_eq_append, wordsN_snoc]; exact compressN_ok _ _

set_option maxRecDepth 100000 in
set_option maxHeartbeats 2000000 in
theorem sum_in (n : Nat) (hn : 8 ≤ n) (p : Option Addr) (len cap : Nat) (zs : List Nat) (hlen : len ≤ 60000) (w : World) (hT : Tab w) (hI : IsBytes w.heap.size w p len cap zs) :
    CallsIn Fence.wide n Tryd.prog 39 #[.slice p len cap] w fun e w' => e = .returned (.agg (u8s (sumN zs)).toArray) ∧ Below w.heap.size w w' := by
  have h1 : 1 ≤ n := by omega
  have hfn : ∀ f, Fence.wide.fn f := fun _ => trivial
  have HT : Hid (Tab w) := hT
  have HI : Hid (IsBytes w.heap.size w p len cap zs) := hI
  obtain ⟨f8, hf8⟩ : ∃ f8, f8 = u32s first8.list := ⟨_, rfl⟩
  have HF1 : Hid (∀ w, Calls Tryd.prog 49 #[] w fun e w' => e = .returned (.agg f8.toArray) ∧ Below w.heap.size w w') := by rw [hf8]; exact firstWords_any
  have HFl : Hid (f8.length = 8) := by show _ = _; rw [hf8]; rfl
  have HFo : Hid (∀ v ∈ f8, v.oneCell' = true) := by rw [hf8]; exact u32s_one _
  have HF8 : Hid (f8 = u32s first8.list) := hf8
  clear hT hI hf8
  refine callsIn_of_wp_marks Tryd.func39 rfl trivial ?_ rfl
  simp only [Tryd.ntmps39, List.size_toArray, List.length_cons, List.length_nil, Nat.reduceAdd, Nat.reduceSub, Array.replicate_succ, Array.replicate_zero, List.push_toArray, List.append_toArray, List.nil_append, List.cons_append]
  gi_wp2_with (first
    | (gi_at_call 49; refine (callsIn_wide.2 (HF1.out _)).mono ?_; rintro e w1 ⟨rfl, hb1⟩)
    | ((with_reducible show wpListIn _ _ _ _ _ (Oper.mk _ (Op.store 98 (.tmp 3) (.tmp 5)) _ _ _ _ :: _) _ _); refine wpListIn_store_Row rfl 98 (.tmp 3) (.tmp 5) rfl f8 rfl rfl (Row.new _ _ _) (by rw [HFl.out]; exact size98) (by rw [HFl.out]; rfl) HFo.out ?_; simp only [Act.put])
    | (gi_at_call 50; refine (blk_in _ _ _ _ _).mono ?_; rintro e w' ⟨rfl, rfl⟩))
  rw [z32u8] at hb1
  have hs1 : w.heap.size + 1 ≤ w1.heap.size := by have := hb1.size; rwa [World.size_alloc] at this
  have hbA : Below w.heap.size w w1 := ((Below.refl _ w).alloc (Nat.le_refl _) _).trans (hb1.mono (by simp))
  have rR1 : Row w1 w.heap.size 34 (List.replicate 32 (.int .u8 0)) := (Row.new' w 34 _).later hb1
  rw [size_setCells, World.size_alloc]
  have rH : Row ((w1.alloc (.cells #[Value.int .u32 0, Value.int .u32 0, Value.int .u32 0, Value.int .u32 0, Value.int .u32 0, Value.int .u32 0, Value.int .u32 0, Value.int .u32 0] 98)).setCells w1.heap.size 0 f8) w1.heap.size 98 f8 := Row.sets_all (Row.new _ _ _) (by rw [HFl.out]; rfl)
  have rR2 : Row ((w1.alloc (.cells #[Value.int .u32 0, Value.int .u32 0, Value.int .u32 0, Value.int .u32 0, Value.int .u32 0, Value.int .u32 0, Value.int .u32 0, Value.int .u32 0] 98)).setCells w1.heap.size 0 f8) w.heap.size 34 (List.replicate 32 (.int .u8 0)) := Row.others (by omega) _ _ (rR1.alloc _)
  have hbB : Below w.heap.size w ((w1.alloc (.cells #[Value.int .u32 0, Value.int .u32 0, Value.int .u32 0, Value.int .u32 0, Value.int .u32 0, Value.int .u32 0, Value.int .u32 0, Value.int .u32 0] 98)).setCells w1.heap.size 0 f8) := below_setCells (by omega) _ _ (hbA.alloc (by omega) _)
  have hs2 : ((w1.alloc (.cells #[Value.int .u32 0, Value.int .u32 0, Value.int .u32 0, Value.int .u32 0, Value.int .u32 0, Value.int .u32 0, Value.int .u32 0, Value.int .u32 0] 98)).setCells w1.heap.size 0 f8).heap.size = w1.heap.size + 1 := by rw [size_setCells, World.size_alloc]
  generalize (w1.alloc (.cells #[Value.int .u32 0, Value.int .u32 0, Value.int .u32 0, Value.int .u32 0, Value.int .u32 0, Value.int .u32 0, Value.int .u32 0, Value.int .u32 0] 98)).setCells w1.heap.size 0 f8 = w2 at *
  have rB := Row.new w2 22 #[.slice p len cap]
  rw [hs2] at rB
  have H4 : Hid (Row (w2.alloc (.cells #[.slice p len cap] 22)) w1.heap.size 98 f8 ∧ Row (w2.alloc (.cells #[.slice p len cap] 22)) w.heap.size 34 (List.replicate 32 (.int .u8 0)) ∧ Below w.heap.size w (w2.alloc (.cells #[.slice p len cap] 22)) ∧ Row (w2.alloc (.cells #[.slice p len cap] 22)) (w1.heap.size + 1) 22 [.slice p len cap]) := ⟨rH.alloc _, rR2.alloc _, hbB.alloc (by omega) _, rB⟩
  have hs4 : (w2.alloc (.cells #[.slice p len cap] 22)).heap.size = w1.heap.size + 2 := by rw [World.size_alloc, hs2]
  clear rB rH rR2 hbB hbA rR1 hb1 hs2
  generalize w2.alloc (.cells #[.slice p len cap] 22) = w4 at *
  refine wpIn_rangeFunc_arr rfl h1 (gf := 54) (lb := #[.pointer (some ⟨w1.heap.size + 1, 0, none⟩)]) rfl trivial (enters_of Tryd.func54 (by kernel_rfl) rfl)
    (encs := fun x : List Nat => #[.agg (u8s x).toArray]) (Ok := fun x _ => BlockOk x) (Kp := KpM (fun k => k = w1.heap.size) (w4.heap.size + 2)) (S := fun xs => xs = blocksL zs) (Sp := fun pre => ∃ r, pre ++ r = blocksL zs) (N := len + 3)
    (fun W' hs hb => blk1_iter (n - 1) (by omega) _ (w1.heap.size + 1) p len cap zs hlen W' (((HI.out.below H4.out.2.2.1).below (hb.mono (by omega))).mono (by omega)) (H4.out.2.2.2.later hb) (fun k => k = w1.heap.size) _ (fun _ _ h => h.1) (fun _ _ h => by rw [hs]; exact h.2) (fun j hj => by omega) (by omega) (by
      rcases HI.out.2.2.2.2 with h | ⟨b, off, hp, hb', _⟩
      · exact .inl h
      · exact .inr (fun a ha e => by rw [hp] at ha; cases ha; simp at e; omega)))
    KpM.trans (fun A o o' ho hc => KpM.record (by omega) o' ho hc) KpM.of_below (fun _ => rfl) 91 (fun x => u8s x)
    (fun pre A => Row A w1.heap.size 98 (u32s (wordsN pre).list) ∧ Row A w.heap.size 34 (List.replicate 32 (.int .u8 0)) ∧ Below w.heap.size w A)
    (fun _ _ _ => False)
    (Low.and (low_row (by omega) _) (Low.and (low_row (by omega) _) (low_below w (by omega))))
    (fun _ _ _ _ h _ => h)
    (fun _ _ _ h _ => h)
    ⟨by rw [wordsN_nil, ← HF8.out]; exact H4.out.1, H4.out.2.1, H4.out.2.2.1⟩
    (fun x A => { tmps := #[.slice p len cap, undef, .pointer (some ⟨w.heap.size, 0, none⟩), .pointer (some ⟨w1.heap.size, 0, none⟩), .pointer (some ⟨A.heap.size, 0, none⟩), .agg f8.toArray, .slice p len cap, .func (.func 54) #[] #[.pointer (some ⟨w1.heap.size + 1, 0, none⟩)], .agg (u8s x).toArray, undef, undef, undef, undef, undef], defers := [] }) ?assign ?body ?done ?stop
  case assign =>
    intro li x A K hok hK
    have HXL : Hid ((u8s x).length = 64) := by show _ = _; rw [u8s_length]; exact hok.1
    have HX1 : Hid (∀ v ∈ u8s x, v.oneCell' = true) := u8s_one x
    have HK : Hid (∀ W', Below A.heap.size A W' → Row W' A.heap.size 91 (u8s x) → K _ W') := hK
    clear hK
    generalize u8s x = V at *
    gi_wp2_with ((with_reducible show wpListIn _ _ _ _ _ (Oper.mk _ (Op.store 91 (.tmp 4) (.tmp 8)) _ _ _ _ :: _) _ _); refine wpListIn_store_Row rfl 91 (.tmp 4) (.tmp 8) rfl V rfl rfl (Row.new _ _ _) (by rw [HXL.out]; exact size91) (by rw [HXL.out]; rfl) HX1.out ?_; simp only [Act.put])
    exact HK.out _ (below_setCells (Nat.le_refl _) _ _ ((Below.refl _ A).alloc (Nat.le_refl _) _)) (Row.sets_all (Row.new _ _ _) (by rw [HXL.out]; rfl))
  case body =>
    rintro li pre x A₀ A ⟨hrH, hrR, hB⟩ hok hN hle hrow
    have HC : Hid (∀ A, Tab A → Calls Tryd.prog 42 #[.agg (u32s (wordsN pre).list).toArray, .agg (u8s x).toArray] A fun e w' => e = .returned (.agg (u32s (wordsN (pre ++ [x])).list).toArray) ∧ Below A.heap.size A w') := fun A hT => by
      rw [wordsN_snoc]; exact compress_any _ (wordsN_ok pre) x hok.1 hok.2 A hT
    have HXL : Hid ((u8s x).length = 64) := by show _ = _; rw [u8s_length]; exact hok.1
    have HRow : Hid (Row A A₀.heap.size 91 (u8s x)) := hrow
    have HrH : Hid (Row A w1.heap.size 98 (u32s (wordsN pre).list)) := hrH
    have HrR : Hid (Row A w.heap.size 34 (List.replicate 32 (.int .u8 0))) := hrR
    have HHl : Hid ((u32s (wordsN pre).list).length = 8) := by show _ = _; rw [u32s_length, St.list_length]
    have HHl2 : Hid ((u32s (wordsN (pre ++ [x])).list).length = 8) := by show _ = _; rw [u32s_length, St.list_length]
    have HH2o : Hid (∀ v ∈ u32s (wordsN (pre ++ [x])).list, v.oneCell' = true) := u32s_one _
    clear hrow hrH hrR
    generalize u8s x = V at *
    generalize hS2 : u32s (wordsN (pre ++ [x])).list = S2 at *
    have HS2 : Hid (u32s (wordsN (pre ++ [x])).list = S2) := hS2
    clear hS2
    generalize u32s (wordsN pre).list = S1 at *
    gi_wp2_with (first
      | ((with_reducible show wpListIn _ _ _ _ _ (Oper.mk _ (Op.load 98 (.tmp 3)) _ _ _ _ :: _) _ _); refine wpListIn_load_Row rfl 98 (.tmp 3) rfl rfl HrH.out Tryd.underlying98 (by rw [HHl.out]; exact size98) ?_; simp only [Act.put, List.setIfInBounds_toArray, List.set_cons_zero, List.set_cons_succ])
      | ((with_reducible show wpListIn _ _ _ _ _ (Oper.mk _ (Op.load 91 (.tmp 4)) _ _ _ _ :: _) _ _); refine wpListIn_load_Row rfl 91 (.tmp 4) rfl rfl HRow.out Tryd.underlying91 (by rw [HXL.out]; exact size91) ?_; simp only [Act.put, List.setIfInBounds_toArray, List.set_cons_zero, List.set_cons_succ]))
    refine ⟨fun _ => by omega, (CallsIn.inRound li (callsIn_wide.2 (HC.out _ (HT.out.below hB HT.out.pos)))).mono ?_⟩
    rintro e A2 ⟨rfl, hb2⟩
    gi_wp2_with ((with_reducible show wpListIn _ _ _ _ _ (Oper.mk _ (Op.store 98 (.tmp 3) (.tmp 11)) _ _ _ _ :: _) _ _); refine wpListIn_store_Row rfl 98 (.tmp 3) (.tmp 11) rfl S2 rfl rfl (HrH.out.later hb2) (by rw [HHl2.out]; exact size98) (by rw [HHl2.out, HHl.out]) HH2o.out ?_; simp only [Act.put])
    have hkp : KpM (fun k => k = w1.heap.size) (w4.heap.size + 2) A (A2.setCells w1.heap.size 0 S2) := (KpM.of_below hb2).trans (KpM.sets (M := fun k => k = w1.heap.size) rfl _ _ _)
    have hkf : KpM (fun k => k = w1.heap.size) w4.heap.size A (A2.setCells w1.heap.size 0 S2) := (KpM.of_below hb2).trans (KpM.sets (M := fun k => k = w1.heap.size) rfl _ _ _)
    exact ⟨hkf.2, hkp, by rw [HS2.out]; exact (HrH.out.later hb2).sets_all (by rw [HHl2.out, HHl.out]), Row.others (by omega) _ _ (HrR.out.later hb2), below_setCells (by omega) _ _ (hB.trans (hb2.mono (by have := hB.size; omega)))⟩
  case done =>
    rintro D xs A hD rfl ⟨hrH, hrR, hB⟩ hKD
    have HDg : Hid (∀ A, Calls Tryd.prog 44 #[.agg (u32s (wordsN (blocksL zs)).list).toArray] A fun e w' => e = .returned (.agg (u8s (sumN zs)).toArray) ∧ Below A.heap.size A w') := fun A => digest_core _ (St.list_length _) (St.list_lt (wordsN_ok _)) A
    have HrH : Hid (Row A w1.heap.size 98 (u32s (wordsN (blocksL zs)).list)) := hrH
    have HrR : Hid (Row A w.heap.size 34 (List.replicate 32 (.int .u8 0))) := hrR
    have HHl : Hid ((u32s (wordsN (blocksL zs)).list).length = 8) := by show _ = _; rw [u32s_length, St.list_length]
    have HSl : Hid ((u8s (sumN zs)).length = 32) := by show _ = _; rw [u8s_length]; exact digestN_length _
    have HSo : Hid (∀ v ∈ u8s (sumN zs), v.oneCell' = true) := u8s_one _
    clear hrH hrR
    generalize u32s (wordsN (blocksL zs)).list = S1 at *
    gi_wp2_with (first
      | ((with_reducible show wpListIn _ _ _ _ _ (Oper.mk _ (Op.load 98 (.tmp 3)) _ _ _ _ :: _) _ _); refine wpListIn_load_Row rfl 98 (.tmp 3) rfl rfl HrH.out Tryd.underlying98 (by rw [HHl.out]; exact size98) ?_; simp only [Act.put, List.setIfInBounds_toArray, List.set_cons_zero, List.set_cons_succ])
      | (gi_at_call 44; refine (callsIn_wide.2 (HDg.out _)).mono ?_; rintro e A2 ⟨rfl, hb2⟩)
      | ((with_reducible show wpListIn _ _ _ _ _ (Oper.mk _ (Op.store 34 (.tmp 2) (.tmp 13)) _ _ _ _ :: _) _ _); refine wpListIn_store_Row rfl 34 (.tmp 2) (.tmp 13) rfl (u8s (sumN zs)) rfl rfl (HrR.out.later hb2) (by rw [HSl.out]; exact size34) (by rw [HSl.out]; rfl) HSo.out ?_; simp only [Act.put]))
    have hKE := (hb2.block D (Array.getElem?_eq_some_iff.1 hKD).1).trans hKD
    have hKF : (A2.setCells w.heap.size 0 (u8s (sumN zs))).heap[D]? = some (.deferred (some [])) := by
      rw [heap_setCells_other (by omega)]; exact hKE
    refine ⟨by simp, .inl ⟨_, _, rfl, run_takeDeferred hKF, ?_⟩⟩
    have hR3 := ((HrR.out.later hb2).sets_all (vs := u8s (sumN zs)) (by rw [HSl.out]; rfl))
    refine ⟨_, results_Row rfl rfl ((World.putObj_heap_other (by omega)).trans hR3) Tryd.underlying34 (by rw [HSl.out]; exact size34), rfl, ?_⟩
    exact (below_setCells (Nat.le_refl _) _ _ (hB.trans (hb2.mono (by have := hB.size; omega)))).trans (below_putObj _ _ (by omega))
  case stop =>
    rintro D c pre A hD _ h hKD
    exact h.elim

/-- sha.Sum -/
theorem sum_any (p : Option Addr) (len cap : Nat) (zs : List Nat) (hlen : len ≤ 60000) (w : World) (hT : Tab w) (hI : IsBytes w.heap.size w p len cap zs) :
    Calls Tryd.prog 39 #[.slice p len cap] w fun e w' => e = .returned (.agg (u8s (sumN zs)).toArray) ∧ Below w.heap.size w w' :=
  callsIn_wide.1 (sum_in 8 (Nat.le_refl _) p len cap zs hlen w hT hI)
end Go.Proofs.YtkpjbleogjmbjaaDoor.Sh
