/-
  What sha.blocks tells: the blocks of a text, with what stands behind it; it may be left behind each.
-/
import Derived.Test.YtkpjbleogjmbjaaDoorBaseAll
import Derived.Test.YtkpjbleogjmbjaaDoorShLast
namespace Go.Proofs.YtkpjbleogjmbjaaDoor.Sh
open Go.RowKit Go.Shelf
attribute [local go_sem] Oper.semAt_some
def blocksL (zs : List Nat) : List (List Nat) := fullL zs (zs.length / 64) ++ lastL (zs.drop (64 * (zs.length / 64))) zs.length
theorem fullL_prefix (zs : List Nat) {k m : Nat} (h : k ≤ m) : ∃ r, fullL zs k ++ r = fullL zs m := by
  refine ⟨(List.range' k (m - k)).map fun j => (zs.drop (64 * j)).take 64, ?_⟩
  unfold fullL
  rw [← List.map_append]
  congr 1
  rw [List.range_eq_range', List.range_eq_range']
  have e := List.range'_append (s := 0) (m := k) (n := m - k) (step := 1)
  rw [Nat.zero_add, Nat.one_mul, Nat.add_sub_cancel' h] at e
  exact e
theorem blocksL_prefix (zs : List Nat) {k : Nat} (h : k ≤ zs.length / 64) : ∃ r, fullL zs k ++ r = blocksL zs := by
  obtain ⟨r, hr⟩ := fullL_prefix zs h
  exact ⟨r ++ lastL (zs.drop (64 * (zs.length / 64))) zs.length, by rw [← List.append_assoc, hr]; rfl⟩
/-- The length in a slot: for a loop's measure. -/
def sliceLen : Value → Nat | .slice _ L _ => L | _ => 0

theorem bytes_range {n₀ : Nat} {W : World} {b off len cap o : Nat} {zs : List Nat} (h : IsBytes n₀ W (some ⟨b, off, none⟩) len cap zs) (ho : o + 64 ≤ len) : W.rangeAt b (off + o) (u8s ((zs.drop o).take 64)) := by
  obtain ⟨h1, h2, h3, h4, h5⟩ := h
  rcases h5 with h5 | ⟨b', off', e, hb, hc⟩
  · omega
  · cases e
    intro j v hj
    have hjl : j < 64 := by
      rcases Nat.lt_or_ge j 64 with h | h
      · exact h
      · rw [List.getElem?_eq_none (by simp; omega)] at hj; cases hj
    rw [u8s_at (by simp; omega)] at hj
    cases hj
    rw [show off + o + j = off + (o + j) by omega, hc (o + j) (by omega)]
    simp [hjl]

theorem run_arrayAt91 (b o L C : Nat) (h : 64 ≤ L) (w : World) : (Instr.arrayAt 91 (.slice (some ⟨b, o, none⟩) L C)).run Tryd.prog w = .ok (.pointer (some ⟨b, o, none⟩)) w := by
  have hi : (64 : Int) ≤ (L : Int) := by omega
  simp [Instr.arrayAt, run_underlying Tryd.underlying91, go_sem, h]

set_option maxRecDepth 100000 in
set_option maxHeartbeats 2000000 in
theorem blk1_iter (n : Nat) (hn : 6 ≤ n) (l Bb : Nat) (p : Option Addr) (len cap : Nat) (zs : List Nat) (hlen : len ≤ 60000) (W : World) (hI : IsBytes W.heap.size W p len cap zs)
    (hcb : Row W Bb 22 [.slice p len cap])
    (M : Nat → Prop) (Kp : World → World → Prop) (hK1 : ∀ A B, Kp A B → ∀ (k : Nat) (c : Array Value) (t : TypeId) (fr : Nat × Nat), ¬ M k → A.heap[k]? = some (Obj.cells c t fr) → B.heap[k]? = some (Obj.cells c t fr)) (hK2 : ∀ A B, Kp A B → KeepsFrom W.heap.size A B)
    (hM : ∀ k, W.heap.size ≤ k → ¬ M k) (hMb : ¬ M Bb) (hMp : len = 0 ∨ ∀ a, p = some a → ¬ M a.block) :
    IterLow Fence.wide n Tryd.prog 54 #[.pointer (some ⟨Bb, 0, none⟩)] (fun x : List Nat => #[.agg (u8s x).toArray]) (fun x _ => BlockOk x) Kp (fun xs => xs = blocksL zs) (fun pre => ∃ r, pre ++ r = blocksL zs) (len + 3) l W := by
  intro J Jx hJ hJx hY h0
  have h1 : 1 ≤ n := by omega
  have hfn : ∀ f, Fence.wide.fn f := fun _ => trivial
  have hcb1 := (hcb.alloc (.cells #[.func (.yield l) #[] #[]] 120)).cell (i := 0) rfl
  refine callsIn_of_wp_marks Tryd.func54 rfl trivial ?_ rfl
  simp only [Tryd.ntmps54, List.size_toArray, List.length_cons, List.length_nil, Nat.reduceAdd, Nat.reduceSub, Array.replicate_succ, Array.replicate_zero, List.push_toArray, List.append_toArray, List.nil_append, List.cons_append]
  gi_wp2
  have rY := Row.new W 120 #[.func (.yield l) #[] #[]]
  have hb0 : Below W.heap.size W (W.alloc (.cells #[.func (.yield l) #[] #[]] 120)) := (Below.refl _ W).alloc (Nat.le_refl _) _
  have HRel : Hid (Row (W.alloc (.cells #[.func (.yield l) #[] #[]] 120)) W.heap.size 120 [.func (.yield l) #[] #[]] ∧ Row (W.alloc (.cells #[.func (.yield l) #[] #[]] 120)) Bb 22 [.slice p len cap] ∧ IsBytes W.heap.size (W.alloc (.cells #[.func (.yield l) #[] #[]] 120)) p len cap zs ∧ J (fullL zs 0) (W.alloc (.cells #[.func (.yield l) #[] #[]] 120))) := ⟨rY, hcb.later hb0, hI.below hb0, hJ _ _ _ h0 hb0⟩
  have HSz : Hid (W.heap.size < (W.alloc (.cells #[.func (.yield l) #[] #[]] 120)).heap.size) := by show _ < _; simp
  have HIL : Hid (zs.length = len ∧ len ≤ cap ∧ cap ≤ 9223372036854775807) := ⟨hI.1, hI.2.1, hI.2.2.1⟩
  clear rY hb0 hcb1 h0 hcb hI
  generalize W.alloc (.cells #[.func (.yield l) #[] #[]] 120) = w1 at *
  gi_loopw [3] (fun r wr => ∃ (k L C : Nat) (q : Option Addr), r = .slice q L C ∧ L + 64 * k = len ∧ C + 64 * k = cap ∧ (0 < L → ∃ b off, p = some ⟨b, off, none⟩ ∧ q = some ⟨b, off + 64 * k, none⟩) ∧ Row wr W.heap.size 120 [.func (.yield l) #[] #[]] ∧ Row wr Bb 22 [.slice p len cap] ∧ IsBytes W.heap.size wr p len cap zs ∧ J (fullL zs k) wr ∧ W.heap.size < wr.heap.size)
    (fun r _ => sliceLen r)
  case atStart => exact ⟨0, len, cap, p, rfl, by omega, by omega, fun hL => by
      rcases HRel.out.2.2.1.2.2.2.2 with h | ⟨b, off, rfl, _⟩
      · omega
      · exact ⟨b, off, rfl, rfl⟩, HRel.out.1, HRel.out.2.1, HRel.out.2.2.1, HRel.out.2.2.2, HSz.out⟩
  case round =>
    obtain ⟨k, L, C, q, rfl, hL, hC, hq, hrY, hrB, hIB, hJs, hsz⟩ := hrel
    obtain ⟨hzl, hlc, hcc⟩ := HIL.out
    by_cases hL64 : 64 ≤ L
    · obtain ⟨b, off, hpe, rfl⟩ := hq (by omega)
      have HPE : Hid (p = some ⟨b, off, none⟩) := hpe
      have hL64i : (64 : Int) ≤ (L : Int) := by omega
      have hLC : L ≤ C := by omega
      have hCc : C ≤ 9223372036854775807 := by omega
      have hA := run_arrayAt91 b (off + 64 * k) L C hL64
      have hrng : wr.rangeAt b (off + 64 * k) (u8s ((zs.drop (64 * k)).take 64)) := by rw [hpe] at hIB; exact bytes_range hIB (by omega)
      have hyc := hrY.cell (i := 0) rfl
      have HVl : Hid ((u8s ((zs.drop (64 * k)).take 64)).length = 64) := by show _ = _; rw [u8s_length, List.length_take, List.length_drop]; omega
      have HYl := fun A (hA : Below wr.heap.size wr A) => hY (fullL zs k) ((zs.drop (64 * k)).take 64) A (hJ _ _ _ hJs (hA.mono (by omega))) ⟨by have := HVl.out; rwa [u8s_length] at this, fun z hz => hIB.2.2.2.1 z (List.mem_of_mem_drop (List.mem_of_mem_take hz))⟩ (by simp; omega)
      have HrY : Hid (Row wr W.heap.size 120 [.func (.yield l) #[] #[]]) := hrY
      have HrB : Hid (Row wr Bb 22 [.slice p len cap]) := hrB
      have HIB : Hid (IsBytes W.heap.size wr p len cap zs) := hIB
      clear hrY hrB hIB hJs hq HRel hpe
      have HRng : Hid (wr.rangeAt b (off + 64 * k) (u8s ((zs.drop (64 * k)).take 64))) := hrng
      rw [fullL_succ] at HYl
      generalize u8s ((zs.drop (64 * k)).take 64) = V at *
      gi_wp2
      refine wpIn_region_any (by kernel_rfl) ?_
      change wpAnyIn _ _ _ _ _ _ _ _ _ wr.drew
      refine wpAnyIn_either (i := 0) (j := 1) (by kernel_rfl) rfl rfl (by rfl) (by rfl) (fun K hK => ?_) (fun K hK => ?_)
      · go_simp
        refine hK.out _ _ ?_
        clear hK K
        refine wpAnyIn_only (i := 1) (by kernel_rfl) rfl (by rfl) (fun K hK => ?_)
        go_simp
        refine hK.out _ _ ?_
        clear hK K
        refine wpAnyIn_only (i := 2) (by kernel_rfl) rfl (by rfl) (fun K hK => ?_)
        go_simp
        refine hK.out _ _ ?_
        clear hK K
        refine wpAnyIn_only (i := 3) (by kernel_rfl) rfl (by rfl) (fun K hK => ?_)
        refine operIn_wide _ (by intro c hc; cases hc) (wp_load_mid 91 (.tmp 11) rfl b (off + 64 * k) rfl V _ HRng.out Tryd.underlying91 rfl (by rw [HVl.out]; exact size91') ?_)
        simp only [Act.put, List.setIfInBounds_toArray]
        refine hK.out _ _ ?_
        clear hK K
        obtain ⟨fn, tmps, assign, body, hy, hR⟩ := HYl wr.drew (Below.refl _ wr).drew
        refine wpAnyIn_only (i := 4) (by kernel_rfl) rfl (by rfl) (fun K hK => ?_)
        go_simp
        refine RoundIn.mono hR ?_
        rintro e W3 (⟨rfl, hJ3, hk3⟩ | ⟨rfl, hJx3, hk3⟩)
        · refine hK.out _ _ ?_
          clear hK K
          refine wpAnyIn_only (i := 5) (by kernel_rfl) rfl (by rfl) (fun K hK => ?_)
          go_simp
          refine hK.out _ _ ⟨by kernel_rfl, ?_⟩
          clear hK K
          have kY : Hid (Row W3 W.heap.size 120 [.func (.yield l) #[] #[]]) := hK1 _ _ hk3 _ _ _ _ (hM _ (Nat.le_refl _)) HrY.out
          have kB : Hid (Row W3 Bb 22 [.slice p len cap]) := hK1 _ _ hk3 _ _ _ _ hMb HrB.out
          have kI : Hid (IsBytes W.heap.size W3 p len cap zs) := IsBytes.kept (A := wr.drew) (hK1 _ _ hk3) hMp HIB.out
          have kS : Hid (W.heap.size < W3.heap.size) := Nat.lt_of_lt_of_le hsz (hK2 _ _ hk3).size
          have KJ : Hid (J (fullL zs (k + 1)) W3) := hJ3
          clear hJ3
          gi_wp2
          go_roundw
          case rel =>
            exact ⟨k + 1, L - 64, C - 64, _, rfl, by omega, by omega, fun hh => ⟨b, off, HPE.out, by rw [if_neg (by omega), Nat.add_assoc]; rfl⟩, kY.out, kB.out, kI.out, KJ.out, kS.out⟩
          case measure => simp only [sliceLen]; omega
        · refine hK.out _ _ ?_
          clear hK K
          refine wpAnyIn_only (i := 5) (by kernel_rfl) rfl (by rfl) (fun K hK => ?_)
          go_simp
          refine hK.out _ _ ⟨by kernel_rfl, ?_⟩
          clear hK K
          have KJ : Hid (Jx (fullL zs (k + 1)) W3) := hJx3
          clear hJx3
          gi_wp2
          exact ⟨_, results_none rfl _ _ _, ⟨_, rfl⟩, .inr ⟨_, blocksL_prefix zs (by omega), KJ.out⟩⟩
      · go_simp
        refine hK.out _ _ ?_
        clear hK K
        refine wpAnyIn_either (i := 0) (j := 2) (by kernel_rfl) rfl rfl (by rfl) (by rfl) (fun K hK => ?_) (fun K hK => ?_)
        · go_simp
          refine hK.out _ _ ?_
          clear hK K
          refine wpAnyIn_only (i := 2) (by kernel_rfl) rfl (by rfl) (fun K hK => ?_)
          go_simp
          refine hK.out _ _ ?_
          clear hK K
          refine wpAnyIn_only (i := 3) (by kernel_rfl) rfl (by rfl) (fun K hK => ?_)
          refine operIn_wide _ (by intro c hc; cases hc) (wp_load_mid 91 (.tmp 11) rfl b (off + 64 * k) rfl V _ HRng.out Tryd.underlying91 rfl (by rw [HVl.out]; exact size91') ?_)
          simp only [Act.put, List.setIfInBounds_toArray]
          refine hK.out _ _ ?_
          clear hK K
          obtain ⟨fn, tmps, assign, body, hy, hR⟩ := HYl wr.drew (Below.refl _ wr).drew
          refine wpAnyIn_only (i := 4) (by kernel_rfl) rfl (by rfl) (fun K hK => ?_)
          go_simp
          refine RoundIn.mono hR ?_
          rintro e W3 (⟨rfl, hJ3, hk3⟩ | ⟨rfl, hJx3, hk3⟩)
          · refine hK.out _ _ ?_
            clear hK K
            refine wpAnyIn_only (i := 5) (by kernel_rfl) rfl (by rfl) (fun K hK => ?_)
            go_simp
            refine hK.out _ _ ⟨by kernel_rfl, ?_⟩
            clear hK K
            have kY : Hid (Row W3 W.heap.size 120 [.func (.yield l) #[] #[]]) := hK1 _ _ hk3 _ _ _ _ (hM _ (Nat.le_refl _)) HrY.out
            have kB : Hid (Row W3 Bb 22 [.slice p len cap]) := hK1 _ _ hk3 _ _ _ _ hMb HrB.out
            have kI : Hid (IsBytes W.heap.size W3 p len cap zs) := IsBytes.kept (A := wr.drew) (hK1 _ _ hk3) hMp HIB.out
            have kS : Hid (W.heap.size < W3.heap.size) := Nat.lt_of_lt_of_le hsz (hK2 _ _ hk3).size
            have KJ : Hid (J (fullL zs (k + 1)) W3) := hJ3
            clear hJ3
            gi_wp2
            go_roundw
            case rel =>
              exact ⟨k + 1, L - 64, C - 64, _, rfl, by omega, by omega, fun hh => ⟨b, off, HPE.out, by rw [if_neg (by omega), Nat.add_assoc]; rfl⟩, kY.out, kB.out, kI.out, KJ.out, kS.out⟩
            case measure => simp only [sliceLen]; omega
          · refine hK.out _ _ ?_
            clear hK K
            refine wpAnyIn_only (i := 5) (by kernel_rfl) rfl (by rfl) (fun K hK => ?_)
            go_simp
            refine hK.out _ _ ⟨by kernel_rfl, ?_⟩
            clear hK K
            have KJ : Hid (Jx (fullL zs (k + 1)) W3) := hJx3
            clear hJx3
            gi_wp2
            exact ⟨_, results_none rfl _ _ _, ⟨_, rfl⟩, .inr ⟨_, blocksL_prefix zs (by omega), KJ.out⟩⟩
        · go_simp
          refine hK.out _ _ ?_
          clear hK K
          refine wpAnyIn_either (i := 0) (j := 3) (by kernel_rfl) rfl rfl (by rfl) (by rfl) (fun K hK => ?_) (fun K hK => ?_)
          · go_simp
            refine hK.out _ _ ?_
            clear hK K
            refine wpAnyIn_only (i := 3) (by kernel_rfl) rfl (by rfl) (fun K hK => ?_)
            refine operIn_wide _ (by intro c hc; cases hc) (wp_load_mid 91 (.tmp 11) rfl b (off + 64 * k) rfl V _ HRng.out Tryd.underlying91 rfl (by rw [HVl.out]; exact size91') ?_)
            simp only [Act.put, List.setIfInBounds_toArray]
            refine hK.out _ _ ?_
            clear hK K
            obtain ⟨fn, tmps, assign, body, hy, hR⟩ := HYl wr.drew (Below.refl _ wr).drew
            refine wpAnyIn_only (i := 4) (by kernel_rfl) rfl (by rfl) (fun K hK => ?_)
            go_simp
            refine RoundIn.mono hR ?_
            rintro e W3 (⟨rfl, hJ3, hk3⟩ | ⟨rfl, hJx3, hk3⟩)
            · refine hK.out _ _ ?_
              clear hK K
              refine wpAnyIn_only (i := 5) (by kernel_rfl) rfl (by rfl) (fun K hK => ?_)
              go_simp
              refine hK.out _ _ ⟨by kernel_rfl, ?_⟩
              clear hK K
              have kY : Hid (Row W3 W.heap.size 120 [.func (.yield l) #[] #[]]) := hK1 _ _ hk3 _ _ _ _ (hM _ (Nat.le_refl _)) HrY.out
              have kB : Hid (Row W3 Bb 22 [.slice p len cap]) := hK1 _ _ hk3 _ _ _ _ hMb HrB.out
              have kI : Hid (IsBytes W.heap.size W3 p len cap zs) := IsBytes.kept (A := wr.drew) (hK1 _ _ hk3) hMp HIB.out
              have kS : Hid (W.heap.size < W3.heap.size) := Nat.lt_of_lt_of_le hsz (hK2 _ _ hk3).size
              have KJ : Hid (J (fullL zs (k + 1)) W3) := hJ3
              clear hJ3
              gi_wp2
              go_roundw
              case rel =>
                exact ⟨k + 1, L - 64, C - 64, _, rfl, by omega, by omega, fun hh => ⟨b, off, HPE.out, by rw [if_neg (by omega), Nat.add_assoc]; rfl⟩, kY.out, kB.out, kI.out, KJ.out, kS.out⟩
              case measure => simp only [sliceLen]; omega
            · refine hK.out _ _ ?_
              clear hK K
              refine wpAnyIn_only (i := 5) (by kernel_rfl) rfl (by rfl) (fun K hK => ?_)
              go_simp
              refine hK.out _ _ ⟨by kernel_rfl, ?_⟩
              clear hK K
              have KJ : Hid (Jx (fullL zs (k + 1)) W3) := hJx3
              clear hJx3
              gi_wp2
              exact ⟨_, results_none rfl _ _ _, ⟨_, rfl⟩, .inr ⟨_, blocksL_prefix zs (by omega), KJ.out⟩⟩
          · refine operIn_wide _ (by intro c hc; cases hc) (wp_load_mid 91 (.tmp 11) rfl b (off + 64 * k) rfl V _ HRng.out Tryd.underlying91 rfl (by rw [HVl.out]; exact size91') ?_)
            simp only [Act.put, List.setIfInBounds_toArray]
            refine hK.out _ _ ?_
            clear hK K
            refine wpAnyIn_only (i := 0) (by kernel_rfl) rfl (by rfl) (fun K hK => ?_)
            go_simp
            refine hK.out _ _ ?_
            clear hK K
            obtain ⟨fn, tmps, assign, body, hy, hR⟩ := HYl wr.drew (Below.refl _ wr).drew
            refine wpAnyIn_only (i := 4) (by kernel_rfl) rfl (by rfl) (fun K hK => ?_)
            go_simp
            refine RoundIn.mono hR ?_
            rintro e W3 (⟨rfl, hJ3, hk3⟩ | ⟨rfl, hJx3, hk3⟩)
            · refine hK.out _ _ ?_
              clear hK K
              refine wpAnyIn_only (i := 5) (by kernel_rfl) rfl (by rfl) (fun K hK => ?_)
              go_simp
              refine hK.out _ _ ⟨by kernel_rfl, ?_⟩
              clear hK K
              have kY : Hid (Row W3 W.heap.size 120 [.func (.yield l) #[] #[]]) := hK1 _ _ hk3 _ _ _ _ (hM _ (Nat.le_refl _)) HrY.out
              have kB : Hid (Row W3 Bb 22 [.slice p len cap]) := hK1 _ _ hk3 _ _ _ _ hMb HrB.out
              have kI : Hid (IsBytes W.heap.size W3 p len cap zs) := IsBytes.kept (A := wr.drew) (hK1 _ _ hk3) hMp HIB.out
              have kS : Hid (W.heap.size < W3.heap.size) := Nat.lt_of_lt_of_le hsz (hK2 _ _ hk3).size
              have KJ : Hid (J (fullL zs (k + 1)) W3) := hJ3
              clear hJ3
              gi_wp2
              go_roundw
              case rel =>
                exact ⟨k + 1, L - 64, C - 64, _, rfl, by omega, by omega, fun hh => ⟨b, off, HPE.out, by rw [if_neg (by omega), Nat.add_assoc]; rfl⟩, kY.out, kB.out, kI.out, KJ.out, kS.out⟩
              case measure => simp only [sliceLen]; omega
            · refine hK.out _ _ ?_
              clear hK K
              refine wpAnyIn_only (i := 5) (by kernel_rfl) rfl (by rfl) (fun K hK => ?_)
              go_simp
              refine hK.out _ _ ⟨by kernel_rfl, ?_⟩
              clear hK K
              have KJ : Hid (Jx (fullL zs (k + 1)) W3) := hJx3
              clear hJx3
              gi_wp2
              exact ⟨_, results_none rfl _ _ _, ⟨_, rfl⟩, .inr ⟨_, blocksL_prefix zs (by omega), KJ.out⟩⟩
    · have hL64i : (L : Int) < 64 := by omega
      have HIr : Hid (IsBytes W.heap.size wr q L C (zs.drop (64 * k))) := hIB.rest hL hC hq
      have HLen : Hid (64 * k = 64 * (zs.length / 64) ∧ k = zs.length / 64) := ⟨by omega, by omega⟩
      have hcB := hrB.cell (i := 0) rfl
      have eU : IntKind.u64.wrap (len : Int) = (len : Int) := by rw [IntKind.wrap_u64]; omega
      have HrY : Hid (Row wr W.heap.size 120 [.func (.yield l) #[] #[]]) := hrY
      have HrB : Hid (Row wr Bb 22 [.slice p len cap]) := hrB
      have HJs : Hid (J (fullL zs k) wr) := hJs
      have HJ : Hid (Low W.heap.size J) := hJ
      have HJx : Hid (Low W.heap.size Jx) := hJx
      clear hq hIB hrY hrB hJs HRel
      gi_wp2_with (gi_at_call 43; refine (last_in _ _ _ _ rfl).mono ?_; rintro e w' ⟨rfl, rfl⟩)
      have rr := Row.new wr 22 #[.slice q L C]
      have rl := Row.new (wr.alloc (.cells #[.slice q L C] 22)) 104 #[.int .u64 (len : Nat)]
      rw [World.size_alloc] at rl
      have HR3 : Hid (Row ((wr.alloc (.cells #[.slice q L C] 22)).alloc (.cells #[.int .u64 (len : Nat)] 104)) wr.heap.size 22 [.slice q L C] ∧ Row ((wr.alloc (.cells #[.slice q L C] 22)).alloc (.cells #[.int .u64 (len : Nat)] 104)) (wr.heap.size + 1) 104 [.int .u64 (len : Nat)]) := ⟨rr.alloc _, rl⟩
      have hb3 : Below wr.heap.size wr ((wr.alloc (.cells #[.slice q L C] 22)).alloc (.cells #[.int .u64 (len : Nat)] 104)) := ((Below.refl _ wr).alloc (Nat.le_refl _) _).alloc (by simp) _
      have hs3 : ((wr.alloc (.cells #[.slice q L C] 22)).alloc (.cells #[.int .u64 (len : Nat)] 104)).heap.size = wr.heap.size + 2 := by simp
      clear rr rl
      generalize (wr.alloc (.cells #[.slice q L C] 22)).alloc (.cells #[.int .u64 (len : Nat)] 104) = w3 at *
      have HI3 : Hid (IsBytes w3.heap.size w3 q L C (zs.drop (64 * k))) := (HIr.out.below (hb3.mono (by omega))).mono (by omega)
      have HY3 : Hid (Row w3 W.heap.size 120 [.func (.yield l) #[] #[]]) := HrY.out.below hb3 hsz
      have HJ3 : Hid (J (fullL zs k) w3) := HJ.out _ _ _ HJs.out (hb3.mono (by omega))
      refine wpIn_rangeFunc_arr rfl h1 (gf := 53) (lb := #[.pointer (some ⟨wr.heap.size, 0, none⟩), .pointer (some ⟨wr.heap.size + 1, 0, none⟩)]) rfl trivial (enters_of Tryd.func53 (by kernel_rfl) rfl)
        (encs := fun x : List Nat => #[.agg (u8s x).toArray]) (Ok := fun x _ => BlockOk x) (Kp := KpM M (w3.heap.size + 2)) (S := fun xs => xs = lastL (zs.drop (64 * k)) len) (Sp := fun pre => ∃ r, pre ++ r = lastL (zs.drop (64 * k)) len) (N := 2)
        (fun W' hs hb => last1_iter (n - 1) (by omega) _ wr.heap.size (wr.heap.size + 1) len q L C (zs.drop (64 * k)) (by omega) W' ((HI3.out.below hb).mono (by omega)) ((HR3.out.1.later hb).cell (i := 0) rfl) (HR3.out.2.later hb) M _ (fun _ _ h => h.1) (fun j hj => hM j (by omega)) (hM _ (by omega)))
        KpM.trans (fun A o o' ho hc => KpM.record (by omega) o' ho hc) KpM.of_below (fun _ => rfl) 91 (fun x => u8s x)
        (fun pre A => J (fullL zs k ++ pre) A ∧ Row A W.heap.size 120 [.func (.yield l) #[] #[]])
        (fun c pre A => c = .ret ∧ Jx (fullL zs k ++ pre) A)
        (Low.and (fun s A B h hb => HJ.out _ _ _ h (hb.mono (by omega))) (low_row (by omega) _))
        (fun c s A B h hb => ⟨h.1, HJx.out _ _ _ h.2 (hb.mono (by omega))⟩)
        (fun _ _ _ h _ => h)
        ⟨by rw [List.append_nil]; exact HJ3.out, HY3.out⟩
        (fun x A => { tmps := #[.func (.yield l) #[] #[], .pointer (some ⟨Bb, 0, none⟩), .pointer (some ⟨W.heap.size, 0, none⟩), .slice q L C, .pointer (some ⟨A.heap.size, 0, none⟩), .slice p len cap, .slice q L C, .int .i64 L, .bool (decide ((64 : Int) ≤ L)), u9, u10, u11, u12, u13, u14, u15, u16, .slice q L C, .slice p len cap, .int .i64 len, .int .u64 len,
          .func (.func 53) #[] #[.pointer (some ⟨wr.heap.size, 0, none⟩), .pointer (some ⟨wr.heap.size + 1, 0, none⟩)], .agg (u8s x).toArray, undef, undef, undef, undef], defers := [] }) ?assign ?body ?done ?stop
      case assign =>
        intro li x A K hok hK
        have hxl : (u8s x).length = 64 := by rw [u8s_length]; exact hok.1
        have HXL : Hid ((u8s x).length = 64) := hxl
        have HX1 : Hid (∀ v ∈ u8s x, v.oneCell' = true) := u8s_one x
        have HK : Hid (∀ W', Below A.heap.size A W' → Row W' A.heap.size 91 (u8s x) → K _ W') := hK
        clear hxl hK
        generalize u8s x = V at *
        gi_wp2_with ((with_reducible show wpListIn _ _ _ _ _ (Oper.mk _ (Op.store 91 (.tmp 4) (.tmp 22)) _ _ _ _ :: _) _ _); refine wpListIn_store_Row rfl 91 (.tmp 4) (.tmp 22) rfl V rfl rfl (Row.new _ _ _) (by rw [HXL.out]; exact size91') (by rw [HXL.out]; rfl) HX1.out ?_; simp only [Act.put])
        exact HK.out _ (below_setCells (Nat.le_refl _) _ _ ((Below.refl _ A).alloc (Nat.le_refl _) _)) (Row.sets_all (Row.new _ _ _) (by rw [HXL.out]; rfl))
      case body =>
        rintro li pre x A₀ A ⟨hJA, hrY⟩ hok hN hle hrow
        have hyc := hrY.cell (i := 0) rfl
        obtain ⟨fn, tmps, assign, body, hy, hR⟩ := hY (fullL zs k ++ pre) x A hJA hok (by simp; omega)
        have HXL : Hid ((u8s x).length = 64) := by show _ = _; rw [u8s_length]; exact hok.1
        have HRow : Hid (Row A A₀.heap.size 91 (u8s x)) := hrow
        have HRY : Hid (Row A W.heap.size 120 [.func (.yield l) #[] #[]]) := hrY
        have HAs : Hid (fullL zs k ++ pre ++ [x] = fullL zs k ++ (pre ++ [x])) := List.append_assoc _ _ _
        rw [HAs.out] at hR
        clear hrow hrY
        generalize u8s x = V at *
        gi_wp2_with ((with_reducible show wpListIn _ _ _ _ _ (Oper.mk _ (Op.load 91 (.tmp 4)) _ _ _ _ :: _) _ _); refine wpListIn_load_Row rfl 91 (.tmp 4) rfl rfl HRow.out Tryd.underlying91 (by rw [HXL.out]; exact size91') ?_; simp only [Act.put, List.setIfInBounds_toArray, List.set_cons_zero, List.set_cons_succ])
        refine ⟨fun _ => by omega, RoundIn.mono (show RoundIn (Fence.wide.inRound li) _ _ _ _ _ _ _ _ _ from ⟨hR.1, fun c cs _ => hR.2 c cs (room_wide _)⟩) ?_⟩
        rintro e A3 (⟨rfl, hJ3, hk3⟩ | ⟨rfl, hJ3, hk3⟩)
        · have kY : Hid (Row A3 W.heap.size 120 [.func (.yield l) #[] #[]]) := hK1 _ _ hk3 _ _ _ _ (hM _ (Nat.le_refl _)) HRY.out
          gi_wp2
          exact ⟨keepsFrom_ge (hK2 _ _ hk3) (by omega), ⟨hK1 _ _ hk3, keepsFrom_ge (hK2 _ _ hk3) (by omega)⟩, hJ3, kY.out⟩
        · gi_wp2
          exact ⟨keepsFrom_ge (hK2 _ _ hk3) (by omega), ⟨hK1 _ _ hk3, keepsFrom_ge (hK2 _ _ hk3) (by omega)⟩, rfl, hJ3⟩
      case done =>
        rintro D xs A hD hS ⟨hJA, hrY⟩ hKD
        have HF : Hid (fullL zs k ++ xs = blocksL zs) := by
          show _ = _
          have := HLen.out
          rw [hS, blocksL, ← this.1, ← this.2, hzl]
        clear hS
        gi_wp2
        refine ⟨by simp, .inl ⟨_, _, rfl, run_takeDeferred hKD, ?_⟩⟩
        exact ⟨_, results_none rfl _ _ _, ⟨_, rfl⟩, .inl ⟨_, HF.out, low_putObj HJ.out _ hJA (by omega)⟩⟩
      case stop =>
        rintro D c pre A hD ⟨r, hr⟩ ⟨rfl, hJA⟩ hKD
        have HF : Hid ((fullL zs k ++ pre) ++ r = blocksL zs) := by
          show _ = _
          have := HLen.out
          rw [List.append_assoc, hr, blocksL, ← this.1, ← this.2, hzl]
        clear hr
        gi_wp2
        refine ⟨by simp, .inl ⟨_, _, rfl, run_takeDeferred hKD, ?_⟩⟩
        exact ⟨_, results_none rfl _ _ _, ⟨_, rfl⟩, .inr ⟨_, ⟨r, HF.out⟩, low_putObj HJx.out _ hJA (by omega)⟩⟩

set_option maxHeartbeats 1000000 in
/-- sha.blocks: the argument is boxed; the function value captures the box. -/
theorem blk_in (n : Nat) (p : Option Addr) (len cap : Nat) (w : World) :
    CallsIn Fence.wide n Tryd.prog 50 #[.slice p len cap] w fun e w' =>
      e = .returned (.func (.func 54) #[] #[.pointer (some ⟨w.heap.size, 0, none⟩)]) ∧ w' = w.alloc (.cells #[.slice p len cap] 22) := by
  refine callsIn_of_wp Tryd.func50 rfl trivial ?_ rfl
  simp only [Tryd.ntmps50, List.size_toArray, List.length_cons, List.length_nil, Nat.reduceAdd, Nat.reduceSub, Array.replicate_succ, Array.replicate_zero, List.push_toArray, List.append_toArray, List.nil_append, List.cons_append]
  gi_wp2
  go_ret
  exact ⟨rfl, rfl⟩

end Go.Proofs.YtkpjbleogjmbjaaDoor.Sh
