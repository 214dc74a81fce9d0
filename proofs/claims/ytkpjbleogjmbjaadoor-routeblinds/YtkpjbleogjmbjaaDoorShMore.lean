/-
  What a running sum's held, Begin and More do: More takes the bytes in behind what is there; nothing else that lay before the call has turned.
-/
import Derived.Test.YtkpjbleogjmbjaaDoorMade
import Derived.Test.YtkpjbleogjmbjaaDoorShRun
import Derived.Test.YtkpjbleogjmbjaaDoorOwn
import Derived.Test.YtkpjbleogjmbjaaDoorBuild
namespace Go.Proofs.YtkpjbleogjmbjaaDoor.Sh
open Go Go.RowKit

set_option maxHeartbeats 1000000 in
/-- held -/
theorem held_any (B n : Nat) (hn : n < 9223372036854775808) (w : World) (hc : w.cell? ⟨B, 73, none⟩ = some (.int .u64 (n : Nat))) :
    Calls Tryd.prog 41 #[.pointer (some ⟨B, 0, none⟩)] w fun e w' => e = .returned (.int .i64 (n % 64 : Nat)) ∧ w' = w := by
  go_enter Tryd.func41, Tryd.ntmps41
  go_wp2
  go_ret
  exact ⟨by go_num, rfl⟩

/-- copy into a row, as one step of a region that draws its order: of all else nothing turns. -/
theorem step_copy_but {P : Program} {ops : Array Oper} {o : Oper} {a : Act} {w : World} {K : Act → World → Prop} {Q : Exit → Act → World → Prop} {E : Prop} (hgd : o.guard = none) (d s : Operand) (dT sT : TypeId)
    (ho : o.op = .call { callee := .builtin .copy, args := #[d, s], argTypes := #[dT, sT] }) (elem : TypeId) (hu : P.underlying dT = some (.slice elem)) (hsz : (P.info? elem).map (·.size) = some 1)
    (g off dLen dCap : Nat) (ad : Addr) (sLen sCap : Nat) (hd : a.eval d = .slice (some ⟨g, off, none⟩) dLen dCap) (hs : a.eval s = .slice (some ad) sLen sCap)
    (cur : List Value) (t : TypeId) (hg : Row w g t cur) (cs : List Value) (hn : cs.length = Nat.min sLen dLen)
    (hsrc : ∀ j v, cs[j]? = some v → w.cell? (ad.add j) = some v) (hfit : off + cs.length ≤ cur.length) (h1 : ∀ v ∈ cs, v.oneCell' = true)
    (h : ∀ w', Row w' g t (splice cur off cs) → But g w.heap.size w w' → K (a.put o.dst (goInt cs.length)) w') :
    if Region.wanted o (yielded ops a.tmps) = true then Oper.wp P o a w K Q else E := by
  have hw : Region.wanted o (yielded ops a.tmps) = true := by simp [Region.wanted, hgd]
  rw [if_pos hw]
  have hrun := run_copy_row (P := P) w dT sT o.type elem g off dLen dCap ad sLen sCap cur.toArray t cs hu hsz hg hn hsrc (by simpa using hfit) h1
  unfold Oper.wp
  simp [execOp, ho, resolve, invoke, builtin, hd, hs, hrun, Result.andThen]
  refine h _ ?_ ⟨rfl, rfl, rfl, by simp [World.setRow], fun k _ hk => setRow_other w g k _ hk⟩
  show _ = _
  simpa [splice] using setRow_heap w g _ _ t _ hg

set_option maxRecDepth 100000 in
set_option maxHeartbeats 4000000 in
theorem more_any (B : Nat) (hB0 : 0 < B) (zs ys : List Nat) (p : Option Addr) (len cap : Nat) (w : World) (hT : Tab w) (hR : RunAt w B zs) (hI : IsBytes w.heap.size w p len cap ys) (hp : len = 0 ∨ ∀ a, p = some a → a.block ≠ B) (hlen : zs.length + len ≤ 100000) (hz : ∀ z ∈ zs, z < 256) :
    Calls Tryd.prog 34 #[.pointer (some ⟨B, 0, none⟩), .slice p len cap] w fun e w' => (∃ v, e = .returned v) ∧ RunAt w' B (zs ++ ys) ∧ But B w.heap.size w w' := by
  have HT : Hid (Tab w) := hT
  have HI : Hid (IsBytes w.heap.size w p len cap ys) := hI
  have HR : Hid (RunAt w B zs) := hR
  have HP : Hid (len = 0 ∨ ∀ a, p = some a → a.block ≠ B) := hp
  have HZ : Hid (∀ z ∈ zs, z < 256) := hz
  have hlc := hI.2.1
  have hcc := hI.2.2.1
  have HYL : Hid (ys.length = len) := hI.1
  have hBl := hR.lt
  obtain ⟨s0, R0, hok0, hrow0⟩ := hR
  have c0 := hrow0.cell (runCells_0 _ _ _)
  clear hT hI hp hz hok0 hrow0
  go_enter Tryd.func34, Tryd.ntmps34
  go_wp2
  go_loopw [1] (fun s wr => ∃ (o L C : Nat) (q : Option Addr), s = .slice q L C ∧ L + o = len ∧ C + o = cap ∧ (0 < L → ∃ b off, p = some ⟨b, off, none⟩ ∧ q = some ⟨b, off + o, none⟩) ∧ RunAt wr B (zs ++ ys.take o) ∧ But B w.heap.size w wr)
    (fun s _ => sliceLen s)
  case atStart => exact ⟨0, len, cap, p, rfl, by omega, by omega, fun hL => by
      rcases HI.out.2.2.2.2 with h | ⟨b, off, rfl, _⟩
      · omega
      · exact ⟨b, off, rfl, rfl⟩, by rw [List.take_zero, List.append_nil]; exact HR.out, But.refl _ _ _⟩
  case round =>
    obtain ⟨o, L, C, q, rfl, hL, hC, hq, hrun, hbut⟩ := hrel
    by_cases hLz : 0 < L
    · obtain ⟨b, off, hpe, rfl⟩ := hq hLz
      have hLi : (0 : Int) < (L : Int) := by omega
      obtain ⟨cs, hcs⟩ : ∃ cs, cs = zs ++ ys.take o := ⟨_, rfl⟩
      rw [← hcs] at hrun
      have hcl : cs.length = zs.length + o := by rw [hcs, List.length_append, List.length_take, HYL.out]; omega
      obtain ⟨s, R, hok, hrow⟩ := hrun
      have HOK : Hid (RunOk s R cs) := hok
      have HRow : Hid (Row wr B 106 (runCells s R cs.length)) := hrow
      obtain ⟨m, hm⟩ : ∃ m, m = cs.length := ⟨_, rfl⟩
      have c73 := hrow.cell (runCells_73 cs.length hok.len hok.2.1)
      rw [← hm] at c73
      have HHeld : Hid (∀ W : World, W.cell? ⟨B, 73, none⟩ = some (.int .u64 (m : Nat)) → Calls Tryd.prog 41 #[.pointer (some ⟨B, 0, none⟩)] W fun e w' => e = .returned (.int .i64 (m % 64 : Nat)) ∧ w' = W) := fun W hc => held_any B m (by omega) W hc
      obtain ⟨n, hn⟩ : ∃ n, n = min L (64 - m % 64) := ⟨_, rfl⟩
      have hIr : IsBytes w.heap.size wr p len cap ys := hbut.bytes (Nat.le_refl _) HP.out HI.out
      have hsrc : ∀ j v, (u8s ((ys.drop o).take n))[j]? = some v → wr.cell? ((⟨b, off + o, none⟩ : Addr).add j) = some v := by
        intro j v hj
        rcases hIr.2.2.2.2 with h | ⟨b', off', e, _, hc⟩
        · omega
        · rw [hpe] at e; cases e
          have hjn : j < n := by
            rcases Nat.lt_or_ge j n with h | h
            · exact h
            · rw [List.getElem?_eq_none (by simp; omega)] at hj; cases hj
          rw [u8s_at (by simp [HYL.out]; omega)] at hj
          cases hj
          rw [Addr.add_mid, Nat.add_assoc, hc (o + j) (by omega)]
          simp [hjn]
      have HSrc : Hid (∀ j v, (u8s ((ys.drop o).take n))[j]? = some v → wr.cell? ((⟨b, off + o, none⟩ : Addr).add j) = some v) := hsrc
      have HNl : Hid (((ys.drop o).take n).length = n) := by show _ = _; simp [HYL.out]; omega
      have HN : Hid (n = min L (64 - m % 64)) := hn
      have HL : Hid (L + o = len ∧ C + o = cap ∧ p = some ⟨b, off, none⟩) := ⟨hL, hC, hpe⟩
      have HCS : Hid (cs = zs ++ ys.take o) := hcs
      have HM : Hid (m = cs.length) := hm
      have hm64 : m % 64 < 64 := by omega
      have hm64i : ((m % 64 : Nat) : Int) ≤ 64 := by omega
      have hnL : n ≤ L := by omega
      have hLC : L ≤ C := by omega
      have hCc : C ≤ 9223372036854775807 := by omega
      have hbB : b ≠ B := by
        rcases HP.out with h | h
        · omega
        · exact h _ hpe
      have HBut : Hid (But B w.heap.size w wr) := hbut
      have hsz := hbut.size
      clear hok hrow hsrc hIr hn hL hC hpe hq hcs hm hbut
      go_wp2
      have eS : IntKind.i64.wrap (64 - ((m % 64 : Nat) : Int)) = ((64 - m % 64 : Nat) : Int) := by rw [IntKind.wrap_i64]; omega
      generalize hh : m % 64 = h at *
      have HH : Hid (m % 64 = h) := hh
      have hne : ¬ 64 = h := by omega
      clear hh
      obtain ⟨NV, hNV⟩ : ∃ NV, NV = u8s ((ys.drop o).take n) := ⟨_, rfl⟩
      have HNV : Hid (NV = u8s ((ys.drop o).take n)) := hNV
      have HNVl : Hid (NV.length = n) := by show _ = _; rw [hNV, u8s_length]; exact HNl.out
      have HNV1 : Hid (∀ v ∈ NV, v.oneCell' = true) := by rw [hNV]; exact u8s_one _
      rw [← hNV] at HSrc
      clear hNV
      refine wp_region_noPanic ?_
      refine wp_region_held_drew (S := fun _ => True) (by kernel_rfl) trivial (fun hHeld => ?_)
      refine wpAnyH_takesAt 0 4 5 (of_decide_eq_true (by kernel_rfl)) rfl (fun _ _ _ _ _ h => h) (by kernel_rfl) (by kernel_rfl) hHeld ?_
      simp only [List.drop_zero, List.take_succ_cons, List.take_zero]
      iterate 4 (refine wpHeld_step (v := ?_) (by rfl) (fun wz hSw => ?_) ?_; rotate_left; (focus ((try dsimp only at hSw); go_simp; try with_reducible rfl)); (simp only [Act.put, List.setIfInBounds_toArray, List.set_cons_zero, List.set_cons_succ]))
      refine wpHeld_nil ?_
      refine wpAnyH_takesAt 6 1 4 (of_decide_eq_true (by kernel_rfl)) rfl (fun _ _ _ _ _ h => h) (by kernel_rfl) (by kernel_rfl) hHeld ?_
      simp only [List.drop_succ_cons, List.drop_zero, List.take_succ_cons, List.take_zero]
      iterate 1 (refine wpHeld_step (v := ?_) (by rfl) (fun wz hSw => ?_) ?_; rotate_left; (focus ((try dsimp only at hSw); go_simp; try with_reducible rfl)); (simp only [Act.put, List.setIfInBounds_toArray, List.set_cons_zero, List.set_cons_succ]))
      refine wpHeld_nil ?_
      refine wpAnyH_only (i := 4) (by kernel_rfl) rfl (fun K hK => ?_)
      rw [if_pos (by rfl)]
      go_simp
      refine (HHeld.out wr.drew c73).mono ?_
      rintro e w2 ⟨rfl, rfl⟩
      refine hK.out _ _ hHeld ?_
      clear hK K
      refine wpAnyH_takesAt 5 1 2 (of_decide_eq_true (by kernel_rfl)) rfl (fun _ _ _ _ _ h => h) (by kernel_rfl) (by kernel_rfl) hHeld ?_
      simp only [List.drop_succ_cons, List.drop_zero, List.take_succ_cons, List.take_zero]
      iterate 1 (refine wpHeld_step (v := ?_) (by rfl) (fun wz hSw => ?_) ?_; rotate_left; (focus ((try dsimp only at hSw); go_simp; try with_reducible rfl)); (simp only [Act.put, List.setIfInBounds_toArray, List.set_cons_zero, List.set_cons_succ]))
      refine wpHeld_nil ?_
      refine wpAnyH_only (i := 7) (by kernel_rfl) rfl (fun K hK => ?_)
      refine step_copy_but rfl (.tmp 22) (.tmp 23) 22 22 rfl 5 Tryd.underlying22 size5 B (9 + h) (64 - h) (64 - h) ⟨b, off + o, none⟩ L C rfl rfl (runCells s R cs.length) 106 HRow.out.drew NV (by rw [HNVl.out, HN.out]) HSrc.out (by rw [runCells_length _ HOK.out.len HOK.out.2.1, HNVl.out]; have := HN.out; omega) HNV1.out (fun w3 hrow3 hbut3 => ?_)
      rw [HNVl.out]
      rw [runCells_splice _ _ HOK.out.len HOK.out.2.1 (by rw [HNVl.out]; have := HN.out; omega)] at hrow3
      refine hK.out _ _ trivial ?_
      clear hK K
      refine wpAnyH_only (i := 8) (by kernel_rfl) rfl (fun K hK => ?_)
      rw [if_pos (by rfl)]
      go_simp
      refine hK.out _ _ trivial ?_
      clear hK K
      refine wpAnyH_done (by kernel_rfl) ?_ _
      refine NoPanic.normal ?_
      have HRow3 : Hid (Row w3 B 106 (runCells s (splice R h NV) cs.length)) := hrow3
      have HBut3 : Hid (But B w.heap.size w w3) := HBut.out.trans ⟨hbut3.os, hbut3.tape, hbut3.output, hbut3.size, fun k hk hB => hbut3.block k (Nat.lt_of_lt_of_le hk hsz) hB⟩
      have hRl : (splice R h NV).length = 64 := by rw [length_splice _ _ _ (by rw [HNVl.out, HOK.out.2.1]; have := HN.out; omega)]; exact HOK.out.2.1
      have HRl : Hid ((splice R h NV).length = 64) := hRl
      have d73 := hrow3.cell (runCells_73 cs.length HOK.out.len hRl)
      have f73 := hrow3.frozen 73
      rw [← HM.out] at d73
      have hmb : m + n ≤ 200000 := by have := HM.out; have := HL.out; omega
      have eU : IntKind.u64.wrap ((m : Int) + (n : Int)) = ((m + n : Nat) : Int) := by rw [IntKind.wrap_u64]; omega
      have hnLi : (n : Int) ≤ (L : Int) := by omega
      clear hrow3 hbut3 hRl c73
      generalize hR2 : splice R h NV = R2 at *
      have HR2 : Hid (splice R h NV = R2) := hR2
      clear hR2
      have HTake : Hid (zs ++ ys.take (o + n) = cs ++ (ys.drop o).take n) := by show _ = _; rw [HCS.out, List.take_add, List.append_assoc]
      have HLen : Hid ((cs ++ (ys.drop o).take n).length = m + n) := by show _ = _; rw [List.length_append, HNl.out, ← HM.out]
      have HRow4 : Hid (Row (w3.setCell ⟨B, 73, none⟩ (.int .u64 ((m : Int) + (n : Int)))) B 106 (runCells s R2 (m + n))) := by
        have h := HRow3.out.set 73 (.int .u64 ((m + n : Nat) : Int))
        rw [runCells_set _ _ HOK.out.len HRl.out] at h
        exact h
      have HBut4 : Hid (But B w.heap.size w (w3.setCell ⟨B, 73, none⟩ (.int .u64 ((m : Int) + (n : Int))))) := HBut3.out.trans (But.set _ _)
      by_cases hfull : (m + n) % 64 = 0
      · have hfi : (((m : Int) + (n : Int)) % 64 == 0) = true := by simp; omega
        have hhn : h + n = 64 := by have := HN.out; have := HH.out; omega
        have HF := HOK.out.full (new := (ys.drop o).take n) (by rw [HNl.out, ← HM.out, HH.out]; exact hhn)
        rw [← HM.out, HH.out, ← HNV.out, HR2.out] at HF
        obtain ⟨X, hX⟩ : ∃ X, X = cs.drop (64 * (m / 64)) ++ (ys.drop o).take n := ⟨_, rfl⟩
        rw [← hX] at HF
        have HXl : Hid (X.length = 64) := by show _ = _; rw [hX, List.length_append, List.length_drop, HNl.out, ← HM.out]; have := HH.out; omega
        have HXb : Hid (∀ z ∈ X, z < 256) := by
          intro z hz'
          rw [hX] at hz'
          rcases List.mem_append.1 hz' with h1 | h1
          · have h2 := List.mem_of_mem_drop h1
            rw [HCS.out] at h2
            rcases List.mem_append.1 h2 with h3 | h3
            · exact HZ.out z h3
            · exact HI.out.2.2.2.1 z (List.mem_of_mem_take h3)
          · exact HI.out.2.2.2.1 z (List.mem_of_mem_drop (List.mem_of_mem_take h1))
        have HRX : Hid (R2 = u8s X) := HF.1
        have HSe : Hid (s = u32s (wordsN (fullL cs (m / 64))).list) := by have h := HOK.out.1; rw [← HM.out] at h; exact h
        have HOK2 : Hid (RunOk (u32s (compressN (wordsN (fullL cs (m / 64))) X).list) (u8s X) (cs ++ (ys.drop o).take n)) := HF.2
        have HC : Hid (∀ A, Tab A → Calls Tryd.prog 42 #[.agg s.toArray, .agg R2.toArray] A fun e w' => e = .returned (.agg (u32s (compressN (wordsN (fullL cs (m / 64))) X).list).toArray) ∧ Below A.heap.size A w') := fun A hT => by
          rw [HSe.out, HRX.out]; exact compress_any _ (wordsN_ok _) X HXl.out HXb.out A hT
        clear HF hX
        generalize hS2 : u32s (compressN (wordsN (fullL cs (m / 64))) X).list = S2 at *
        have HS2l : Hid (S2.length = 8) := by show _ = _; rw [← hS2, u32s_length, St.list_length]
        have HS21 : Hid (∀ v ∈ S2, v.oneCell' = true) := by rw [← hS2]; exact u32s_one _
        clear hS2
        by_cases hCn : C = n
        · go_wp2
          generalize hw4 : w3.setCell ⟨B, 73, none⟩ (.int .u64 ((m : Int) + (n : Int))) = w4 at *
          refine wp_region_noPanic ?_
          refine wp_region_held_drew (S := fun _ => True) (by kernel_rfl) trivial (fun hHeld => ?_)
          refine wpAnyH_takesAt 0 4 9 (of_decide_eq_true (by kernel_rfl)) rfl (fun _ _ _ _ _ h => h) (by kernel_rfl) (by kernel_rfl) hHeld ?_
          simp only [List.drop_zero, List.take_succ_cons, List.take_zero]
          iterate 4 (refine wpHeld_step (v := ?_) (by rfl) (fun wz hSw => ?_) ?_; rotate_left; (focus ((try dsimp only at hSw); go_simp; try with_reducible rfl)); (simp only [Act.put, List.setIfInBounds_toArray, List.set_cons_zero, List.set_cons_succ]))
          refine wpHeld_nil ?_
          refine wpAnyH_takesAt 5 3 6 (of_decide_eq_true (by kernel_rfl)) rfl (fun _ _ _ _ _ h => h) (by kernel_rfl) (by kernel_rfl) hHeld ?_
          simp only [List.drop_succ_cons, List.drop_zero, List.take_succ_cons, List.take_zero]
          iterate 3 (refine wpHeld_step (v := ?_) (by rfl) (fun wz hSw => ?_) ?_; rotate_left; (focus ((try dsimp only at hSw); go_simp; try with_reducible rfl)); (simp only [Act.put, List.setIfInBounds_toArray, List.set_cons_zero, List.set_cons_succ]))
          refine wpHeld_nil ?_
          refine wpAnyH_either (i := 4) (j := 8) (by kernel_rfl) rfl rfl (fun K hK => ?_) (fun K hK => ?_)
          · rw [if_pos (by rfl)]
            refine wp_load_mid 98 (.tmp 43) rfl B 1 rfl s _ (runCells_words HRow4.out.drew) Tryd.underlying98 rfl (by rw [HOK.out.len]; exact size98) ?_
            simp only [Act.put, List.setIfInBounds_toArray]
            refine hK.out _ _ trivial ?_
            clear hK K
            refine wpAnyH_only (i := 8) (by kernel_rfl) rfl (fun K hK => ?_)
            rw [if_pos (by rfl)]
            refine wp_load_mid 91 (.tmp 47) rfl B 9 rfl R2 _ (runCells_rest HOK.out.len HRow4.out.drew) Tryd.underlying91 rfl (by rw [HRl.out]; exact size91') ?_
            simp only [Act.put]
            refine hK.out _ _ trivial ?_
            clear hK K
            refine wpAnyH_only (i := 9) (by kernel_rfl) rfl (fun K hK => ?_)
            rw [if_pos (by rfl)]
            go_simp
            refine (HC.out w4.drew (HBut4.out.drew.tab hB0 (by omega) HT.out)).mono ?_
            rintro e w5 ⟨rfl, hb5⟩
            refine hK.out _ _ trivial ?_
            clear hK K
            have HRow5 : Hid (Row w5 B 106 (runCells s R2 (m + n))) := HRow4.out.drew.later hb5
            have HBut5 : Hid (But B w.heap.size w w5) := HBut4.out.drew.trans (But.of_below hb5 (by have := HBut4.out.size; simpa using this))
            refine wpAnyH_takesAt 10 2 1 (of_decide_eq_true (by kernel_rfl)) rfl (fun _ _ _ _ _ h => h) (by kernel_rfl) (by kernel_rfl) hHeld ?_
            simp only [List.drop_succ_cons, List.drop_zero, List.take_succ_cons, List.take_zero]
            iterate 2 (refine wpHeld_step (v := ?_) (by rfl) (fun wz hSw => ?_) ?_; rotate_left; (focus ((try dsimp only at hSw); go_simp; try with_reducible rfl)); (simp only [Act.put, List.setIfInBounds_toArray, List.set_cons_zero, List.set_cons_succ]))
            refine wpHeld_nil ?_
            refine wpAnyH_only (i := 12) (by kernel_rfl) rfl (fun K hK => ?_)
            rw [if_pos (by rfl)]
            refine wp_store_mid 98 (.tmp 51) (.tmp 49) rfl B 1 S2.toArray rfl rfl (fun j hj => ⟨by rw [HRow5.out.cell (List.getElem?_eq_getElem (by rw [runCells_length _ HOK.out.len HRl.out]; simp [HS2l.out] at hj; omega))]; rfl, HRow5.out.frozen _⟩) (by simpa [HS2l.out] using size98) (all_oneCell_toArray HS21.out) ?_
            simp only [Act.put]
            refine hK.out _ _ trivial ?_
            clear hK K
            refine wpAnyH_done (by kernel_rfl) ?_ _
            refine NoPanic.normal ?_
            have HRow6 : Hid (Row (w5.setCells B 1 S2) B 106 (runCells S2 R2 (m + n))) := by
              have h := Row.sets S2 1 HRow5.out
              rw [runCells_put _ HOK.out.len HS2l.out] at h
              exact h
            have HBut6 : Hid (But B w.heap.size w (w5.setCells B 1 S2)) := HBut5.out.trans (But.sets _ _ _)
            go_wp2
            go_roundw
            case rel =>
              obtain ⟨h1, h2, h3⟩ := HL.out
              exact ⟨o + n, L - n, 0, _, rfl, by omega, by omega, fun hh => by omega, ⟨S2, R2, by rw [HTake.out, HRX.out]; exact HOK2.out, by rw [HTake.out, HLen.out]; exact HRow6.out⟩, HBut6.out⟩
            case measure => have := HN.out; simp only [sliceLen]; omega
          · rw [if_pos (by rfl)]
            refine wp_load_mid 91 (.tmp 47) rfl B 9 rfl R2 _ (runCells_rest HOK.out.len HRow4.out.drew) Tryd.underlying91 rfl (by rw [HRl.out]; exact size91') ?_
            simp only [Act.put, List.setIfInBounds_toArray]
            refine hK.out _ _ trivial ?_
            clear hK K
            refine wpAnyH_only (i := 4) (by kernel_rfl) rfl (fun K hK => ?_)
            rw [if_pos (by rfl)]
            refine wp_load_mid 98 (.tmp 43) rfl B 1 rfl s _ (runCells_words HRow4.out.drew) Tryd.underlying98 rfl (by rw [HOK.out.len]; exact size98) ?_
            simp only [Act.put]
            refine hK.out _ _ trivial ?_
            clear hK K
            refine wpAnyH_only (i := 9) (by kernel_rfl) rfl (fun K hK => ?_)
            rw [if_pos (by rfl)]
            go_simp
            refine (HC.out w4.drew (HBut4.out.drew.tab hB0 (by omega) HT.out)).mono ?_
            rintro e w5 ⟨rfl, hb5⟩
            refine hK.out _ _ trivial ?_
            clear hK K
            have HRow5 : Hid (Row w5 B 106 (runCells s R2 (m + n))) := HRow4.out.drew.later hb5
            have HBut5 : Hid (But B w.heap.size w w5) := HBut4.out.drew.trans (But.of_below hb5 (by have := HBut4.out.size; simpa using this))
            refine wpAnyH_takesAt 10 2 1 (of_decide_eq_true (by kernel_rfl)) rfl (fun _ _ _ _ _ h => h) (by kernel_rfl) (by kernel_rfl) hHeld ?_
            simp only [List.drop_succ_cons, List.drop_zero, List.take_succ_cons, List.take_zero]
            iterate 2 (refine wpHeld_step (v := ?_) (by rfl) (fun wz hSw => ?_) ?_; rotate_left; (focus ((try dsimp only at hSw); go_simp; try with_reducible rfl)); (simp only [Act.put, List.setIfInBounds_toArray, List.set_cons_zero, List.set_cons_succ]))
            refine wpHeld_nil ?_
            refine wpAnyH_only (i := 12) (by kernel_rfl) rfl (fun K hK => ?_)
            rw [if_pos (by rfl)]
            refine wp_store_mid 98 (.tmp 51) (.tmp 49) rfl B 1 S2.toArray rfl rfl (fun j hj => ⟨by rw [HRow5.out.cell (List.getElem?_eq_getElem (by rw [runCells_length _ HOK.out.len HRl.out]; simp [HS2l.out] at hj; omega))]; rfl, HRow5.out.frozen _⟩) (by simpa [HS2l.out] using size98) (all_oneCell_toArray HS21.out) ?_
            simp only [Act.put]
            refine hK.out _ _ trivial ?_
            clear hK K
            refine wpAnyH_done (by kernel_rfl) ?_ _
            refine NoPanic.normal ?_
            have HRow6 : Hid (Row (w5.setCells B 1 S2) B 106 (runCells S2 R2 (m + n))) := by
              have h := Row.sets S2 1 HRow5.out
              rw [runCells_put _ HOK.out.len HS2l.out] at h
              exact h
            have HBut6 : Hid (But B w.heap.size w (w5.setCells B 1 S2)) := HBut5.out.trans (But.sets _ _ _)
            go_wp2
            go_roundw
            case rel =>
              obtain ⟨h1, h2, h3⟩ := HL.out
              exact ⟨o + n, L - n, 0, _, rfl, by omega, by omega, fun hh => by omega, ⟨S2, R2, by rw [HTake.out, HRX.out]; exact HOK2.out, by rw [HTake.out, HLen.out]; exact HRow6.out⟩, HBut6.out⟩
            case measure => have := HN.out; simp only [sliceLen]; omega
        · go_wp2
          generalize hw4 : w3.setCell ⟨B, 73, none⟩ (.int .u64 ((m : Int) + (n : Int))) = w4 at *
          refine wp_region_noPanic ?_
          refine wp_region_held_drew (S := fun _ => True) (by kernel_rfl) trivial (fun hHeld => ?_)
          refine wpAnyH_takesAt 0 4 9 (of_decide_eq_true (by kernel_rfl)) rfl (fun _ _ _ _ _ h => h) (by kernel_rfl) (by kernel_rfl) hHeld ?_
          simp only [List.drop_zero, List.take_succ_cons, List.take_zero]
          iterate 4 (refine wpHeld_step (v := ?_) (by rfl) (fun wz hSw => ?_) ?_; rotate_left; (focus ((try dsimp only at hSw); go_simp; try with_reducible rfl)); (simp only [Act.put, List.setIfInBounds_toArray, List.set_cons_zero, List.set_cons_succ]))
          refine wpHeld_nil ?_
          refine wpAnyH_takesAt 5 3 6 (of_decide_eq_true (by kernel_rfl)) rfl (fun _ _ _ _ _ h => h) (by kernel_rfl) (by kernel_rfl) hHeld ?_
          simp only [List.drop_succ_cons, List.drop_zero, List.take_succ_cons, List.take_zero]
          iterate 3 (refine wpHeld_step (v := ?_) (by rfl) (fun wz hSw => ?_) ?_; rotate_left; (focus ((try dsimp only at hSw); go_simp; try with_reducible rfl)); (simp only [Act.put, List.setIfInBounds_toArray, List.set_cons_zero, List.set_cons_succ]))
          refine wpHeld_nil ?_
          refine wpAnyH_either (i := 4) (j := 8) (by kernel_rfl) rfl rfl (fun K hK => ?_) (fun K hK => ?_)
          · rw [if_pos (by rfl)]
            refine wp_load_mid 98 (.tmp 43) rfl B 1 rfl s _ (runCells_words HRow4.out.drew) Tryd.underlying98 rfl (by rw [HOK.out.len]; exact size98) ?_
            simp only [Act.put, List.setIfInBounds_toArray]
            refine hK.out _ _ trivial ?_
            clear hK K
            refine wpAnyH_only (i := 8) (by kernel_rfl) rfl (fun K hK => ?_)
            rw [if_pos (by rfl)]
            refine wp_load_mid 91 (.tmp 47) rfl B 9 rfl R2 _ (runCells_rest HOK.out.len HRow4.out.drew) Tryd.underlying91 rfl (by rw [HRl.out]; exact size91') ?_
            simp only [Act.put]
            refine hK.out _ _ trivial ?_
            clear hK K
            refine wpAnyH_only (i := 9) (by kernel_rfl) rfl (fun K hK => ?_)
            rw [if_pos (by rfl)]
            go_simp
            refine (HC.out w4.drew (HBut4.out.drew.tab hB0 (by omega) HT.out)).mono ?_
            rintro e w5 ⟨rfl, hb5⟩
            refine hK.out _ _ trivial ?_
            clear hK K
            have HRow5 : Hid (Row w5 B 106 (runCells s R2 (m + n))) := HRow4.out.drew.later hb5
            have HBut5 : Hid (But B w.heap.size w w5) := HBut4.out.drew.trans (But.of_below hb5 (by have := HBut4.out.size; simpa using this))
            refine wpAnyH_takesAt 10 2 1 (of_decide_eq_true (by kernel_rfl)) rfl (fun _ _ _ _ _ h => h) (by kernel_rfl) (by kernel_rfl) hHeld ?_
            simp only [List.drop_succ_cons, List.drop_zero, List.take_succ_cons, List.take_zero]
            iterate 2 (refine wpHeld_step (v := ?_) (by rfl) (fun wz hSw => ?_) ?_; rotate_left; (focus ((try dsimp only at hSw); go_simp; try with_reducible rfl)); (simp only [Act.put, List.setIfInBounds_toArray, List.set_cons_zero, List.set_cons_succ]))
            refine wpHeld_nil ?_
            refine wpAnyH_only (i := 12) (by kernel_rfl) rfl (fun K hK => ?_)
            rw [if_pos (by rfl)]
            refine wp_store_mid 98 (.tmp 51) (.tmp 49) rfl B 1 S2.toArray rfl rfl (fun j hj => ⟨by rw [HRow5.out.cell (List.getElem?_eq_getElem (by rw [runCells_length _ HOK.out.len HRl.out]; simp [HS2l.out] at hj; omega))]; rfl, HRow5.out.frozen _⟩) (by simpa [HS2l.out] using size98) (all_oneCell_toArray HS21.out) ?_
            simp only [Act.put]
            refine hK.out _ _ trivial ?_
            clear hK K
            refine wpAnyH_done (by kernel_rfl) ?_ _
            refine NoPanic.normal ?_
            have HRow6 : Hid (Row (w5.setCells B 1 S2) B 106 (runCells S2 R2 (m + n))) := by
              have h := Row.sets S2 1 HRow5.out
              rw [runCells_put _ HOK.out.len HS2l.out] at h
              exact h
            have HBut6 : Hid (But B w.heap.size w (w5.setCells B 1 S2)) := HBut5.out.trans (But.sets _ _ _)
            go_wp2
            go_roundw
            case rel =>
              obtain ⟨h1, h2, h3⟩ := HL.out
              exact ⟨o + n, L - n, C - n, _, rfl, by omega, by omega, fun hh => ⟨b, off, h3, by rw [Nat.add_assoc]⟩, ⟨S2, R2, by rw [HTake.out, HRX.out]; exact HOK2.out, by rw [HTake.out, HLen.out]; exact HRow6.out⟩, HBut6.out⟩
            case measure => have := HN.out; simp only [sliceLen]; omega
          · rw [if_pos (by rfl)]
            refine wp_load_mid 91 (.tmp 47) rfl B 9 rfl R2 _ (runCells_rest HOK.out.len HRow4.out.drew) Tryd.underlying91 rfl (by rw [HRl.out]; exact size91') ?_
            simp only [Act.put, List.setIfInBounds_toArray]
            refine hK.out _ _ trivial ?_
            clear hK K
            refine wpAnyH_only (i := 4) (by kernel_rfl) rfl (fun K hK => ?_)
            rw [if_pos (by rfl)]
            refine wp_load_mid 98 (.tmp 43) rfl B 1 rfl s _ (runCells_words HRow4.out.drew) Tryd.underlying98 rfl (by rw [HOK.out.len]; exact size98) ?_
            simp only [Act.put]
            refine hK.out _ _ trivial ?_
            clear hK K
            refine wpAnyH_only (i := 9) (by kernel_rfl) rfl (fun K hK => ?_)
            rw [if_pos (by rfl)]
            go_simp
            refine (HC.out w4.drew (HBut4.out.drew.tab hB0 (by omega) HT.out)).mono ?_
            rintro e w5 ⟨rfl, hb5⟩
            refine hK.out _ _ trivial ?_
            clear hK K
            have HRow5 : Hid (Row w5 B 106 (runCells s R2 (m + n))) := HRow4.out.drew.later hb5
            have HBut5 : Hid (But B w.heap.size w w5) := HBut4.out.drew.trans (But.of_below hb5 (by have := HBut4.out.size; simpa using this))
            refine wpAnyH_takesAt 10 2 1 (of_decide_eq_true (by kernel_rfl)) rfl (fun _ _ _ _ _ h => h) (by kernel_rfl) (by kernel_rfl) hHeld ?_
            simp only [List.drop_succ_cons, List.drop_zero, List.take_succ_cons, List.take_zero]
            iterate 2 (refine wpHeld_step (v := ?_) (by rfl) (fun wz hSw => ?_) ?_; rotate_left; (focus ((try dsimp only at hSw); go_simp; try with_reducible rfl)); (simp only [Act.put, List.setIfInBounds_toArray, List.set_cons_zero, List.set_cons_succ]))
            refine wpHeld_nil ?_
            refine wpAnyH_only (i := 12) (by kernel_rfl) rfl (fun K hK => ?_)
            rw [if_pos (by rfl)]
            refine wp_store_mid 98 (.tmp 51) (.tmp 49) rfl B 1 S2.toArray rfl rfl (fun j hj => ⟨by rw [HRow5.out.cell (List.getElem?_eq_getElem (by rw [runCells_length _ HOK.out.len HRl.out]; simp [HS2l.out] at hj; omega))]; rfl, HRow5.out.frozen _⟩) (by simpa [HS2l.out] using size98) (all_oneCell_toArray HS21.out) ?_
            simp only [Act.put]
            refine hK.out _ _ trivial ?_
            clear hK K
            refine wpAnyH_done (by kernel_rfl) ?_ _
            refine NoPanic.normal ?_
            have HRow6 : Hid (Row (w5.setCells B 1 S2) B 106 (runCells S2 R2 (m + n))) := by
              have h := Row.sets S2 1 HRow5.out
              rw [runCells_put _ HOK.out.len HS2l.out] at h
              exact h
            have HBut6 : Hid (But B w.heap.size w (w5.setCells B 1 S2)) := HBut5.out.trans (But.sets _ _ _)
            go_wp2
            go_roundw
            case rel =>
              obtain ⟨h1, h2, h3⟩ := HL.out
              exact ⟨o + n, L - n, C - n, _, rfl, by omega, by omega, fun hh => ⟨b, off, h3, by rw [Nat.add_assoc]⟩, ⟨S2, R2, by rw [HTake.out, HRX.out]; exact HOK2.out, by rw [HTake.out, HLen.out]; exact HRow6.out⟩, HBut6.out⟩
            case measure => have := HN.out; simp only [sliceLen]; omega
      · have hfi : (((m : Int) + (n : Int)) % 64 == 0) = false := by simp; omega
        have hhn : h + n < 64 := by have := HN.out; have := HH.out; omega
        have HOK2 : Hid (RunOk s R2 (cs ++ (ys.drop o).take n)) := by
          have h := HOK.out.part (new := (ys.drop o).take n) (by rw [HNl.out, ← HM.out, HH.out]; exact hhn)
          rw [← HM.out, HH.out, ← HNV.out, HR2.out] at h
          exact h
        go_wp2
        go_roundw
        case rel =>
          obtain ⟨h1, h2, h3⟩ := HL.out
          exact ⟨o + n, L - n, C - n, _, rfl, by omega, by omega, fun hh => ⟨b, off, h3, by rw [if_neg (by omega), Nat.add_assoc]⟩, ⟨s, R2, by rw [HTake.out]; exact HOK2.out, by rw [HTake.out, HLen.out]; exact HRow4.out⟩, HBut4.out⟩
        case measure => have := HN.out; simp only [sliceLen]; omega
    · obtain rfl : L = 0 := by omega
      obtain rfl : o = len := by omega
      rw [List.take_of_length_le (by rw [HYL.out]; exact Nat.le_refl _)] at hrun
      go_wp2
      go_end0
      exact ⟨⟨_, rfl⟩, hrun, hbut⟩
end Go.Proofs.YtkpjbleogjmbjaaDoor.Sh
