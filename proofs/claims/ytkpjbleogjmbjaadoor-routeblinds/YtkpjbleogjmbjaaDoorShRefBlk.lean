/-
  What the reference's Blocks answers: the text with all that stands behind it, in blocks of 64. Nothing that lay before the call has turned.
-/
import Derived.Test.YtkpjbleogjmbjaaDoorBaseAll
import Derived.Test.YtkpjbleogjmbjaaDoorShChunks
import Derived.Test.YtkpjbleogjmbjaaDoorShPad
import Derived.Test.YtkpjbleogjmbjaaDoorBuild
namespace Go.Proofs.YtkpjbleogjmbjaaDoor.Sh
open Go Go.RowKit

theorem info91 : (Tryd.prog.info? 91).map (fun i => (i.zero, i.size, i.bytes)) = some (some (.agg (List.replicate 64 (Value.int .u8 0)).toArray), 64, 64) := by kernel_rfl

set_option maxRecDepth 100000 in
set_option maxHeartbeats 4000000 in
theorem refBlocks_any (p : Option Addr) (len cap : Nat) (zs : List Nat) (w : World) (hlen : len ≤ 50000) (hI : IsBytes w.heap.size w p len cap zs) :
    Calls Tryd.prog 36 #[.slice p len cap] w fun e w' => ∃ q c, e = .returned (.slice q ((padL zs).length / 64) c) ∧ w'.ownsRow w.heap.size 91 64 (.slice q ((padL zs).length / 64) c) ((padL zs).length / 64) (u8s (padL zs)) ∧ Below w.heap.size w w' := by
  obtain ⟨i33, hi33, hz330, hz331, hz332⟩ := info_parts info91
  have HI : Hid (IsBytes w.heap.size w p len cap zs) := hI
  have HZL : Hid (zs.length = len) := hI.1
  have HZ : Hid (∀ z ∈ zs, z < 256) := hI.2.2.2.1
  clear hI
  go_enter Tryd.func36, Tryd.ntmps36
  go_wp2_with (first
    | (at_builtin; refine wpList_append_bytes rfl _ _ rfl w.heap.size (.slice none 0 0) [] rfl (Own.nil _ _) rfl HI.out (by simp; omega) (Nat.le_refl _) ?_; intro u1 w1 hown1 hgrow1; have hb1 : Below w.heap.size w w1 := (Below.refl _ w).grown hgrow1 (Nat.le_refl _) (fun k e => by cases e); rw [List.nil_append] at hown1; have HO1 : Hid (Own w.heap.size w1 u1 zs) := hown1; clear hown1 hgrow1)
    | (at_builtin; refine wpList_append_bytes rfl _ _ rfl w.heap.size u1 zs rfl (HO1.out.alloc _) rfl (bytes_one w1 128 (by omega)) (by rw [HZL.out]; omega) (by have := hb1.size; simp; omega) ?_; intro u2 w2 hown2 hgrow2; have hb2 : Below w.heap.size w w2 := below_own (hb1.alloc hb1.size _) (by have := hb1.size; simp; omega) (HO1.out.alloc _) hgrow2; obtain ⟨q2, c2, hu2⟩ := own_len hown2 (n := len + 1) (by rw [List.length_append, HZL.out]; rfl); subst hu2; have HO2 : Hid (Own w.heap.size w2 (.slice q2 (len + 1) c2) (zs ++ [128])) := hown2; clear hown2 hgrow2))
  go_loopw [3] (fun v wr => ∃ (j : Nat) (q : Option Addr) (c : Nat), j ≤ gapN len ∧ v = .slice q (len + 1 + j) c ∧ Own w.heap.size wr v (zs ++ 128 :: List.replicate j 0) ∧ Below w.heap.size w wr)
    (fun v _ => len + 1 + gapN len - sliceLen v)
  case atStart => exact ⟨0, q2, c2, Nat.zero_le _, rfl, HO2.out, hb2⟩
  case round =>
    obtain ⟨j, q, c, hj, rfl, hown, hbel⟩ := hrel
    have HO : Hid (Own w.heap.size wr (.slice q (len + 1 + j) c) (zs ++ 128 :: List.replicate j 0)) := hown
    have hsz := hbel.size
    clear hown HO1 HO2 hb1 hb2
    have hg : gapN len < 64 := by unfold gapN; omega
    have HJ : Hid (j ≤ gapN len) := hj
    by_cases hlt : j < gapN len
    · have hne : ¬ (len + 1 + j) % 64 = 56 := by unfold gapN at hlt; omega
      have HLt : Hid (j < gapN len) := hlt
      generalize hn : len + 1 + j = n at *
      have HN : Hid (len + 1 + j = n) := hn
      have hnei : (((n : Nat) : Int) % 64 != 56) = true := by simp; omega
      have hnl : n ≤ 60000 := by omega
      clear hn hne hlt hj
      go_wp2_with (at_builtin; refine wpList_append_bytes rfl _ _ rfl w.heap.size (.slice q n c) _ rfl (HO.out.alloc _) rfl (bytes_one wr 0 (by omega)) (by have := HN.out; have := HZL.out; simp; omega) (by simp; omega) ?_; intro u2 w2 hown2 hgrow2; have hb2 : Below w.heap.size w w2 := below_own (hbel.alloc hsz _) (by simp; omega) (HO.out.alloc _) hgrow2; obtain ⟨q3, c3, hu2⟩ := own_len hown2 (n := n + 1) (by have := HN.out; have := HZL.out; simp; omega); subst hu2; have HO2 : Hid (Own w.heap.size w2 (.slice q3 (n + 1) c3) ((zs ++ 128 :: List.replicate j 0) ++ [0])) := hown2; clear hown2 hgrow2)
      go_roundw
      case rel =>
        have h2 := HO2.out
        rw [List.append_assoc, List.cons_append, show List.replicate j 0 ++ [0] = List.replicate (j + 1) 0 from List.replicate_succ'.symm] at h2
        exact ⟨j + 1, q3, c3, by have := HLt.out; omega, by rw [← HN.out]; rfl, h2, hb2⟩
      case measure => have := HN.out; have := HLt.out; simp only [sliceLen]; omega
    · obtain rfl : j = gapN len := by omega
      generalize hn : len + 1 + gapN len = n at *
      have HN : Hid (len + 1 + gapN len = n) := hn
      have hnei : (((n : Nat) : Int) % 64 != 56) = false := by simp; unfold gapN at hn; omega
      clear hn hlt hj
      obtain ⟨m, hm⟩ : ∃ m, m = 8 * len % 18446744073709551616 := ⟨_, rfl⟩
      have em : IntKind.u64.wrap ((len : Int) * 8) = (m : Int) := by rw [IntKind.wrap_u64]; omega
      have HM : Hid (m = 8 * len % 18446744073709551616) := hm
      have hml : m < 18446744073709551616 := by omega
      clear hm
      obtain ⟨X, hX⟩ : ∃ X, X = zs ++ 128 :: List.replicate (gapN len) 0 := ⟨_, rfl⟩
      have HX : Hid (X = zs ++ 128 :: List.replicate (gapN len) 0) := hX
      have HXl : Hid (X.length = n) := by show _ = _; rw [hX, ← HN.out]; have := HZL.out; simp; omega
      rw [← hX] at HO
      clear hX
      go_wp2
      have hnl : n ≤ 50100 := by have := HN.out; omega
      go_loopw [3, 5] (fun v i wr => ∃ (t : Nat) (q : Option Addr) (c : Nat), t ≤ 8 ∧ i = .int .i64 ((t : Int) - 1) ∧ v = .slice q (n + (8 - t)) c ∧ Own w.heap.size wr v (X ++ (be8 m).take (8 - t)) ∧ Below w.heap.size w wr)
        (fun _ i _ => (intOf i + 1).toNat)
      case atStart => exact ⟨8, q, c, by omega, rfl, rfl, by simpa using HO.out, hbel⟩
      case round =>
        clear HO hbel hsz
        obtain ⟨t, q, c, ht, rfl, rfl, hown, hbel⟩ := hrel
        have hsz := hbel.size
        by_cases h0 : t = 0
        · subst h0
          have e8 : (be8 m).take (8 - 0) = be8 m := List.take_of_length_le (by rw [be8_length]; omega)
          rw [e8] at hown
          have HP : Hid (X ++ be8 m = padL zs) := by
            show _ = _
            rw [HX.out, HM.out, padL, HZL.out]
          rw [HP.out] at hown
          have HPl : Hid ((padL zs).length = n + 8) := by show _ = _; rw [← HP.out, List.length_append, HXl.out, be8_length]
          have HPm : Hid ((padL zs).length % 64 = 0) := padL_mod zs
          have HC := refChunks_any q (n + 8) c (padL zs) wr (by omega) (by rw [← HPl.out]; exact HPm.out) (hown.bytes (padL_lt zs HZ.out))
          have HCh : Hid (Calls Tryd.prog 45 #[.slice q (n + 8) c, .int .i64 64] wr fun e w' => ∃ q' c' vs, e = .returned (.slice q' ((n + 8) / 64) c') ∧ w'.ownsRow wr.heap.size 22 1 (.slice q' ((n + 8) / 64) c') ((n + 8) / 64) vs ∧ TextsAt w' vs (fullL (padL zs) ((n + 8) / 64)) ∧ Below wr.heap.size wr w') := HC
          clear HC hown e8
          obtain ⟨K, hK⟩ : ∃ K, K = (n + 8) / 64 := ⟨_, rfl⟩
          have HK : Hid (64 * K = n + 8) := by show _ = _; have h1 := HPl.out; have h2 := HPm.out; omega
          have HKe : Hid ((padL zs).length / 64 = K) := by show _ = _; rw [HPl.out, hK]
          rw [← hK] at HCh
          have hKl : K ≤ 1000 := by omega
          clear hK
          go_wp2_with (go_at_call 45; refine HCh.out.mono ?_; rintro e w3 ⟨q3, c3, vs, rfl, hrow3, hte3, hb3⟩; have HR3 : Hid (w3.ownsRow wr.heap.size 22 1 (.slice q3 K c3) K vs) := hrow3; have HT3 : Hid (TextsAt w3 vs (fullL (padL zs) K)) := hte3; clear hrow3 hte3)
          have hs3 := hb3.size
          have hbe3 : Below w.heap.size w w3 := hbel.trans (hb3.mono hsz)
          go_loopw [6, 39] (fun v i wr' => ∃ k : Nat, k ≤ K ∧ i = .int .i64 k ∧ wr'.ownsRow w.heap.size 91 64 v k (u8s ((padL zs).take (64 * k))) ∧ KeepT 5 w3 wr' ∧ KeepT 22 w3 wr' ∧ Below w.heap.size w wr')
            (fun _ i _ => K - (intOf i).toNat)
          case atStart => exact ⟨0, Nat.zero_le _, rfl, World.ownsRow_nil _ _ _ _, fun _ _ _ h => h, fun _ _ _ h => h, hbe3⟩
          case round =>
            obtain ⟨k, hk, rfl, hown, hk5, hk22, hbw⟩ := hrel
            by_cases hlt : k < K
            · have hki : (k : Int) < (K : Int) := by omega
              have hrow := hk22.own HR3.out
              obtain ⟨g, rfl, hgl⟩ := row_some hrow (by omega)
              have hcell := (hrow.cellAt k (by omega)).trans (row_at hrow hlt)
              have hv : Own 0 wr (vs.getD k undef) (((padL zs).drop (64 * k)).take 64) := by
                have h := hk5.own (HT3.out.2 k (by simpa using hlt))
                have e : (fullL (padL zs) K).getD k [] = ((padL zs).drop (64 * k)).take 64 := by simp [fullL, hlt]
                rw [e] at h
                exact h
              have HBl : Hid ((((padL zs).drop (64 * k)).take 64).length = 64) := by show _ = _; have := HK.out; have := HPl.out; simp; omega
              obtain ⟨q1, c1, hq1⟩ := own_len hv HBl.out
              rw [hq1] at hcell hv
              obtain ⟨g1, rfl, _, hg1, hrng⟩ := hv.cells (by omega)
              have HRng : Hid (wr.rangeAt g1 0 (u8s (((padL zs).drop (64 * k)).take 64))) := hrng
              have HVl : Hid ((u8s (((padL zs).drop (64 * k)).take 64)).length = 64) := by show _ = _; rw [u8s_length]; exact HBl.out
              have HV1 : Hid (∀ v ∈ u8s (((padL zs).drop (64 * k)).take 64), v.oneCell' = true) := u8s_one _
              have HTk : Hid (u8s ((padL zs).take (64 * k)) ++ u8s (((padL zs).drop (64 * k)).take 64) = u8s ((padL zs).take (64 * (k + 1)))) := by show _ = _; rw [u8s_append, take_block]
              have hA := run_arrayAt91 g1 0 64 c1 (by omega)
              have HOw : Hid (wr.ownsRow w.heap.size 91 64 u6 k (u8s ((padL zs).take (64 * k)))) := hown
              have hsw := hbw.size
              clear hv hrng hrow hq1 hown
              generalize u8s (((padL zs).drop (64 * k)).take 64) = V at *
              go_wp2_with (first
                | ((with_reducible show wpList _ _ _ (Oper.mk _ (Op.load 91 (.tmp 45)) _ _ _ _ :: _) _ _); refine wpList_load_mid rfl 91 (.tmp 45) rfl g1 0 rfl V _ HRng.out Tryd.underlying91 rfl (by rw [HVl.out]; exact size91') ?_; simp only [Act.put, List.setIfInBounds_toArray, List.set_cons_zero, List.set_cons_succ])
                | ((with_reducible show wpList _ _ _ (Oper.mk _ (Op.buildSlice 99 1 _) _ _ _ _ :: _) _ _); refine wpList_buildOne rfl 99 91 (.tmp 46) rfl V rfl i33 _ Tryd.underlying99 hi33 hz330 (by rw [HVl.out]; exact hz331) (by rw [HVl.out]; omega) (by rw [HVl.out]; omega) ?_; simp only [Act.put, List.setIfInBounds_toArray, List.set_cons_zero, List.set_cons_succ])
                | (at_builtin; refine wpList_append_lies _ rfl _ _ 99 rfl w.heap.size 91 i33 _ 64 64 Tryd.underlying99 hi33 hz330 hz331 hz332 rfl (by decide) u6 k _ rfl (HOw.out.alloc _) ⟨wr.heap.size, 0, none⟩ 1 1 V rfl (by rw [HVl.out]) (World.news_of_block (cs := V.toArray) (t := 91) (fr := (0, 0)) (heap_alloc_new wr _)) HV1.out (by omega) (by simp only [maxLen]; omega) (by omega) (by simp; omega) (wr.heap.size + 1) (by simp) ?_; intro g2 c2 w4 hown2 hgrow2 hat2 hlt2))
              go_roundw
              case rel =>
                have hkA : KeepT 5 wr w4 := (KeepT.alloc wr _).trans (KeepT.row hgrow2 (HOw.out.alloc _) (by decide))
                have hkB : KeepT 22 wr w4 := (KeepT.alloc wr _).trans (KeepT.row hgrow2 (HOw.out.alloc _) (by decide))
                exact ⟨k + 1, by omega, by go_num, by rw [← HTk.out]; exact hown2, hk5.trans hkA, hk22.trans hkB, (hbw.alloc hsw _).grown hgrow2 (by simp; omega) (fun j e => (HOw.out.lt j e).1)⟩
              case measure => simp [intOf]; omega
            · obtain rfl : k = K := by omega
              have HE : Hid ((padL zs).take (64 * k) = padL zs) := by show _ = _; rw [List.take_of_length_le]; have := HK.out; have := HPl.out; omega
              rw [HE.out] at hown
              obtain ⟨q4, c4, rfl⟩ := slice_of_row hown
              clear HR3 HT3 hk5 hk22
              go_wp2
              go_ret
              exact ⟨_, _, by rw [HKe.out]; rfl, by rw [HKe.out]; exact hown, hbw⟩
        · obtain ⟨j, rfl⟩ : ∃ j, t = j + 1 := ⟨t - 1, by omega⟩
          have HO : Hid (Own w.heap.size wr (.slice q (n + (8 - (j + 1))) c) (X ++ (be8 m).take (8 - (j + 1)))) := hown
          have HB : Hid ((be8 m).take (8 - (j + 1)) ++ [m / 2 ^ (8 * j) % 256] = (be8 m).take (8 - j)) := by
            have h := be8_at m (7 - j) (by omega)
            rw [show 7 - (7 - j) = j by omega, show 7 - j + 1 = 8 - j by omega] at h
            rw [show 8 - (j + 1) = 7 - j by omega]
            exact h
          have hjl : (j : Int) < 8 := by omega
          have HTl : Hid (((be8 m).take (8 - (j + 1))).length = 8 - (j + 1)) := by show _ = _; rw [List.length_take, be8_length]; omega
          have e2 : IntKind.i64.wrap (8 * (j : Int)) = ((8 * j : Nat) : Int) := by rw [IntKind.wrap_i64]; omega
          have HY : Hid (((m / 2 ^ (8 * j) % 256 : Nat) : Int) = (m : Int) / 2 ^ (8 * j) % 256) := by show _ = _; simp
          have hjj : 8 * j < 64 := by omega
          have HJL : Hid (j + 1 ≤ 8) := ht
          clear hown ht h0
          generalize hn' : n + (8 - (j + 1)) = n' at *
          have HN' : Hid (n + (8 - (j + 1)) = n') := hn'
          have hnl' : n' ≤ 60100 := by omega
          clear hn'
          go_wp2_with (at_builtin; refine wpList_append_bytes rfl _ _ rfl w.heap.size (.slice q n' c) _ rfl (HO.out.alloc _) rfl (by rw [← HY.out]; exact bytes_one wr (m / 2 ^ (8 * j) % 256) (Nat.mod_lt _ (by decide))) (by have := HXl.out; have := HTl.out; rw [List.length_append]; omega) (by simp; omega) ?_; intro u2 w2 hown2 hgrow2; have hb2 : Below w.heap.size w w2 := below_own (hbel.alloc hsz _) (by simp; omega) (HO.out.alloc _) hgrow2; obtain ⟨q3, c3, hu2⟩ := own_len hown2 (n := n' + 1) (by have := HN'.out; have := HXl.out; have := HTl.out; rw [List.length_append, List.length_append, List.length_singleton]; omega); subst hu2; have HO2 : Hid (Own w.heap.size w2 (.slice q3 (n' + 1) c3) ((X ++ (be8 m).take (8 - (j + 1))) ++ [m / 2 ^ (8 * j) % 256])) := hown2; clear hown2 hgrow2)
          go_roundw
          case rel =>
            have h2 := HO2.out
            rw [List.append_assoc, HB.out] at h2
            exact ⟨j, q3, c3, by have := HJL.out; omega, by go_num, by rw [← HN'.out]; have := HJL.out; congr 1; omega, h2, hb2⟩
          case measure => simp [intOf]
end Go.Proofs.YtkpjbleogjmbjaaDoor.Sh
