/-
  The law MacBegins, walked: for every key, every bytes and every two numbers it returns true.
-/
import Derived.Test.YtokjbldelpiejaaDoorAwake3
import Derived.Test.YtokjbldelpiejaaDoorExpand
import Derived.Test.YtokjbldelpiejaaDoorStr
namespace Go.Proofs.YtokjbldelpiejaaDoor
open Go.RowKit

theorem IsBytes.take {n₀ : Nat} {W : World} {q : Option Addr} {l c n : Nat} {zs : List Nat} (h : IsBytes n₀ W q l c zs) (hn : n ≤ l) : IsBytes n₀ W q n c (zs.take n) := by
  obtain ⟨h1, h2, h3, h4, h5⟩ := h
  refine ⟨by simp; omega, by omega, h3, fun z hz => h4 z (List.mem_of_mem_take hz), ?_⟩
  rcases h5 with h5 | ⟨b, off, e, hb, hc⟩
  · exact .inl (by omega)
  · exact .inr ⟨b, off, e, hb, fun i hi => by
      rw [hc i (by omega)]
      simp [hi]⟩

set_option maxRecDepth 100000 in
set_option maxHeartbeats 2000000 in
theorem macBegins_walk (ks : List Nat) (p : Option Addr) (len cap : Nat) (info : List Nat) (nz mz : Int) (w : World) (hT : Tab w) (hk : ks.length = 32 ∧ ∀ z ∈ ks, z < 256) (hI : IsBytes w.heap.size w p len cap info) (_hn : -9223372036854775808 ≤ nz ∧ nz ≤ 9223372036854775807) (_hm : -9223372036854775808 ≤ mz ∧ mz ≤ 9223372036854775807) :
    Calls Tryd.prog 9 #[.agg (u8s ks).toArray, .slice p len cap, .int .i64 nz, .int .i64 mz] w fun e w' => e = .returned (.bool true) ∧ Below w.heap.size w w' := by
  have HT : Hid (Tab w) := hT
  have HI : Hid (IsBytes w.heap.size w p len cap info) := hI
  have HK : Hid (ks.length = 32 ∧ ∀ z ∈ ks, z < 256) := hk
  have HKl : Hid ((u8s ks).length = 32) := by show _ = _; rw [u8s_length]; exact hk.1
  clear hT hI hk _hn _hm
  have HbW : Hid (Below w.heap.size w (w.alloc (.cells (u8s ks).toArray 46))) := (Below.refl _ w).alloc (Nat.le_refl _) _
  have HRk : Hid (Row (w.alloc (.cells (u8s ks).toArray 46)) w.heap.size 46 (u8s ks)) := Row.new' w 46 _
  by_cases hlen : len ≤ 300
  · have hli : ¬ (300 : Int) < (len : Int) := by omega
    by_cases hn0 : nz < 0
    · go_enter Tryd.func9, Tryd.ntmps9
      go_wp2_with (go_at_call 18; refine (awake3_any _ (HT.out.later HbW.out)).mono ?_; rintro e w1 ⟨rfl, hb1⟩)
      go_ret
      exact ⟨rfl, HbW.out.trans (hb1.mono HbW.out.size)⟩
    · by_cases hmn : mz < nz
      · go_enter Tryd.func9, Tryd.ntmps9
        go_wp2_with (go_at_call 18; refine (awake3_any _ (HT.out.later HbW.out)).mono ?_; rintro e w1 ⟨rfl, hb1⟩)
        go_ret
        exact ⟨rfl, HbW.out.trans (hb1.mono HbW.out.size)⟩
      · by_cases hm4 : 400 < mz
        · go_enter Tryd.func9, Tryd.ntmps9
          go_wp2_with (go_at_call 18; refine (awake3_any _ (HT.out.later HbW.out)).mono ?_; rintro e w1 ⟨rfl, hb1⟩)
          go_ret
          exact ⟨rfl, HbW.out.trans (hb1.mono HbW.out.size)⟩
        · obtain ⟨n, rfl⟩ := Int.eq_ofNat_of_zero_le (show 0 ≤ nz by omega)
          obtain ⟨m, rfl⟩ := Int.eq_ofNat_of_zero_le (show 0 ≤ mz by omega)
          have hnm : n ≤ m := by omega
          have hnmi : (n : Int) ≤ (m : Int) := by omega
          have H24 : Hid (∀ (W : World) (N : Nat), N ≤ 400 → Below w.heap.size w W → Calls Tryd.prog 24 #[.agg (u8s ks).toArray, .slice p len cap, .int .i64 N] W fun e w' => ∃ g, e = .returned (.tuple #[.slice (some ⟨g, 0, none⟩) N N, .int .i64 0]) ∧ Own W.heap.size w' (.slice (some ⟨g, 0, none⟩) N N) (expandN ks info N) ∧ Below W.heap.size W w') := fun W N hN hb => expand_any ks info HK.out.1 HK.out.2 p len cap (by omega) N (by omega) W (HT.out.later hb) (HI.out.later hb)
          have HEz : Hid (∀ N, ∀ z ∈ expandN ks info N, z < 256) := fun N => expandN_lt ks info N
          have HEt : Hid ((expandN ks info m).take n = expandN ks info n) := by show _ = _; rw [expandN, expandN, List.take_take, Nat.min_eq_left hnm]
          generalize u8s ks = KV at *
          go_enter Tryd.func9, Tryd.ntmps9
          go_wp2_with (first
            | (go_at_call 18; refine (awake3_any _ (HT.out.later HbW.out)).mono ?_; rintro e w1 ⟨rfl, hb1⟩; have HR1 : Hid (Row w1 w.heap.size 46 KV) := HRk.out.later hb1; have hbA := HbW.out.trans (hb1.mono HbW.out.size); clear hb1)
            | ((with_reducible show wpList _ _ _ (Oper.mk (some 32) _ _ _ _ _ :: _) _ _); refine wpList_load_Row rfl 46 (.tmp 4) rfl rfl HR1.out Tryd.underlying46 (by rw [HKl.out]; exact size46) ?_; simp only [Act.put, List.setIfInBounds_toArray, List.set_cons_zero, List.set_cons_succ])
            | ((with_reducible show wpList _ _ _ (Oper.mk (some 39) _ _ _ _ _ :: _) _ _); refine wpList_load_Row rfl 46 (.tmp 4) rfl rfl HR2.out Tryd.underlying46 (by rw [HKl.out]; exact size46) ?_; simp only [Act.put, List.setIfInBounds_toArray, List.set_cons_zero, List.set_cons_succ])
            | (go_at_call 24; have hr1 := HR1.out; clear HR1; refine (H24.out _ n (by omega) hbA).mono ?_; rintro e w2 ⟨ga, rfl, howna, hb2⟩; have HR2 : Hid (Row w2 w.heap.size 46 KV) := hr1.later hb2; have hbB := hbA.trans (hb2.mono hbA.size); have HA2 : Hid (IsBytes w2.heap.size w2 (some ⟨ga, 0, none⟩) n n (expandN ks info n)) := howna.bytes (HEz.out n); clear hb2 hr1 howna)
            | (go_at_call 24; refine (H24.out _ m (by omega) hbB).mono ?_; rintro e w3 ⟨gb, rfl, hownb, hb3⟩; have hbC := hbB.trans (hb3.mono hbB.size); have HA3 : Hid (IsBytes w3.heap.size w3 (some ⟨ga, 0, none⟩) n n (expandN ks info n)) := HA2.out.later hb3; have HB3 : Hid (IsBytes w3.heap.size w3 (some ⟨gb, 0, none⟩) m m (expandN ks info m)) := hownb.bytes (HEz.out m); clear hb3 hownb))
          have SA : Hid (Str w3 (.slice (some ⟨ga, 0, none⟩) n n) (strOf (expandN ks info n))) := str_of_bytes HA3.out
          have SB : Hid (Str w3 (.slice (some ⟨gb, 0, none⟩) n m) (strOf (expandN ks info n))) := by
            have h := str_of_bytes (HB3.out.take hnm)
            rw [HEt.out] at h
            exact h
          generalize strOf (expandN ks info n) = st at *
          refine wp_region_noPanic ?_
          refine wp_region_held_drew (S := fun W => Below w3.heap.size w3 W) (by kernel_rfl) (Below.refl _ _).drew (fun hHeld => ?_)
          refine wpAnyH_takesAt 0 22 0 (of_decide_eq_true (by kernel_rfl)) rfl (fun _ _ _ _ _ h => h) (by kernel_rfl) (by kernel_rfl) hHeld ?_
          simp only [List.drop_zero, List.take_succ_cons, List.take_zero]
          iterate 22 (refine wpHeld_step (v := ?_) (by rfl) (fun wz hSw => ?_) ?_; rotate_left; (focus ((try dsimp only at hSw); have hca := SA.out wz hSw; have hcb := SB.out wz hSw; go_simp; try with_reducible rfl)); (simp only [Act.put, List.setIfInBounds_toArray, List.set_cons_zero, List.set_cons_succ]))
          refine wpHeld_nil ?_
          refine wpAnyH_done (by kernel_rfl) ?_ _
          refine NoPanic.normal ?_
          go_wp2
          go_ret
          exact ⟨by simp, hbC.drew⟩
  · have hli : (300 : Int) < (len : Int) := by omega
    go_enter Tryd.func9, Tryd.ntmps9
    go_wp2_with (go_at_call 18; refine (awake3_any _ (HT.out.later HbW.out)).mono ?_; rintro e w1 ⟨rfl, hb1⟩)
    go_ret
    exact ⟨rfl, HbW.out.trans (hb1.mono HbW.out.size)⟩
end Go.Proofs.YtokjbldelpiejaaDoor
