/-
  What codec.appendNumber and the reference's N make: a row of bytes with a number behind it.
-/
import Derived.Test.YtbaokodhoiledaaEnc
import Derived.Test.YtbaokodhoiledaaMade
namespace Go.Proofs.Ytbaokodhoiledaa
open Go.RowKit

theorem or128_all : ∀ r : Fin 256, bits .or .u8 ((r.1 : Nat) : Int) 128 = ((r.1 % 128 + 128 : Nat) : Int) := by decide +kernel
theorem or128 (m : Nat) : bits .or .u8 ((m : Int) % 256) 128 = ((m % 128 + 128 : Nat) : Int) := by
  have h := or128_all ⟨m % 256, by omega⟩
  simp only at h
  rw [show ((m : Int) % 256) = ((m % 256 : Nat) : Int) by omega, h]
  omega
theorem own_any_slice {W : World} {n₀ : Nat} {v : Value} {zs : List Nat} (h : Own n₀ W v zs) : ∃ q k c, v = .slice q k c := by obtain ⟨q, c, e⟩ := h.slice; exact ⟨q, _, c, e⟩
theorem app_keep {n₀ : Nat} {a : World} {wr w' : World} {v : Value} {zs : List Nat} {o : Obj} (h : ∀ t, t ≠ 5 → KeepT t a wr) (ho : Own n₀ (wr.alloc o) v zs) (hg : (wr.alloc o).grownBy w' v.ownBlock) : Hid (∀ t, t ≠ 5 → KeepT t a w') :=
  fun t ht => ((h t ht).trans (KeepT.alloc _ _)).trans (KeepT.row hg ho (Ne.symm ht))
theorem app_one {n₀ : Nat} {a : World} {wr w' : World} {v : Value} {zs : List Nat} {o : Obj} (h : Below n₀ a wr) (hn : n₀ ≤ wr.heap.size) (ho : Own n₀ (wr.alloc o) v zs) (hg : (wr.alloc o).grownBy w' v.ownBlock) : Below n₀ a w' :=
  below_own (h.alloc hn o) (by simp; omega) ho hg

set_option maxHeartbeats 1000000 in
theorem appendNumber_any (n₀ : Nat) (v : Value) (zs : List Nat) (x : Nat) (w : World) (hx : x < 18446744073709551616) (ho : Own n₀ w v zs) (hn : n₀ ≤ w.heap.size) (hlen : zs.length ≤ 900000) :
    Calls Try.prog 75 #[v, .int .u64 (x : Nat)] w fun e w' => ∃ v', e = .returned v' ∧ Own n₀ w' v' (zs ++ encN x) ∧ Below n₀ w w' ∧ ∀ t, t ≠ 5 → KeepT t w w' := by
  have HO : Hid (Own n₀ w v zs) := ho
  have HL : Hid ((zs ++ encN x).length ≤ 900010) := by
    show _ ≤ _
    have := encN_ten hx
    rw [List.length_append]
    omega
  obtain ⟨q0, c0, rfl⟩ := ho.slice
  clear ho
  go_enter Try.func75, Try.ntmps75
  go_wp2
  go_loopw [0, 1] (fun a y wr => ∃ (m : Nat) (ys : List Nat) (q : Option Addr) (k c : Nat), a = .slice q k c ∧ y = .int .u64 (m : Nat) ∧ m ≤ x ∧ ys ++ encN m = zs ++ encN x ∧ Own n₀ wr (.slice q k c) ys ∧ Below n₀ w wr ∧ ∀ t, t ≠ 5 → KeepT t w wr) (fun _ y _ => (intOf y).toNat)
  case atStart => exact ⟨x, zs, _, _, _, rfl, rfl, Nat.le_refl _, rfl, HO.out, Below.refl _ _, fun _ _ _ _ _ h => h⟩
  case round =>
    obtain ⟨m, ys, q, k, c, rfl, rfl, hm, he, hown, hbel, hkt⟩ := hrel
    have HKt : Hid (∀ t, t ≠ 5 → KeepT t w wr) := hkt
    clear hkt
    have hsz := hbel.size
    have HE : Hid (ys ++ encN m = zs ++ encN x) := he
    have HOwn : Hid (Own n₀ wr (.slice q k c) ys) := hown
    have HYs : Hid (ys.length + 1 ≤ 1000000) := by
      show _ ≤ _
      have h1 := congrArg List.length he
      have h2 := HL.out
      have h3 := encN_pos m
      rw [List.length_append] at h1
      omega
    clear he hown
    by_cases h : m < 128
    · have h1 : ¬ (128 : Int) ≤ (m : Int) := by omega
      have h2 : (m : Int) % 256 = ((m : Nat) : Int) := by omega
      go_wp2_with (at_builtin; refine wpList_append_bytes rfl _ _ rfl n₀ (.slice q k c) ys rfl (HOwn.out.alloc _) rfl (bytes_one wr m (by omega)) HYs.out (by simp; omega) ?_; intro u2 w2 hown2 hgrow2; have hb2 := app_one hbel (by omega) (HOwn.out.alloc _) hgrow2; have HK2 := app_keep HKt.out (HOwn.out.alloc _) hgrow2; clear hgrow2)
      go_ret
      refine ⟨_, rfl, ?_, hb2, HK2.out⟩
      rw [← HE.out, encN_small h]
      exact hown2
    · have h1 : (128 : Int) ≤ (m : Int) := by omega
      have h2 := or128 m
      go_wp2_with (at_builtin; refine wpList_append_bytes rfl _ _ rfl n₀ (.slice q k c) ys rfl (HOwn.out.alloc _) rfl (bytes_one wr (m % 128 + 128) (by omega)) HYs.out (by simp; omega) ?_; intro u2 w2 hown2 hgrow2; have hb2 := app_one hbel (by omega) (HOwn.out.alloc _) hgrow2; have HK2 := app_keep HKt.out (HOwn.out.alloc _) hgrow2; clear hgrow2; obtain ⟨q2, k2, c2, hu2⟩ := own_any_slice hown2; subst hu2)
      go_roundw
      case rel =>
        refine ⟨m / 128, _, q2, _, c2, rfl, ?_, by omega, ?_, hown2, hb2, HK2.out⟩
        · go_num
        · rw [List.append_assoc, ← HE.out, encN_great h]
          rfl
      case measure => simp [intOf]; omega

set_option maxHeartbeats 1000000 in
/-- The reference's N -/
theorem refN_any (p : Option Addr) (len cap : Nat) (zs : List Nat) (x : Nat) (w : World) (hx : x < 18446744073709551616) (hI : IsBytes w.heap.size w p len cap zs) (hlen : zs.length ≤ 900000) :
    Calls Try.prog 32 #[.slice p len cap, .int .u64 (x : Nat)] w fun e w' => ∃ v', e = .returned v' ∧ Own w.heap.size w' v' (zs ++ encN x) ∧ Below w.heap.size w w' := by
  have HI : Hid (IsBytes w.heap.size w p len cap zs) := hI
  have HL : Hid ((zs ++ encN x).length ≤ 900010) := by
    show _ ≤ _
    have := encN_ten hx
    rw [List.length_append]
    omega
  have hl := hI.1
  clear hI
  go_enter Try.func32, Try.ntmps32
  go_wp2_with (at_builtin; refine wpList_append_bytes rfl _ _ rfl w.heap.size (.slice none 0 0) [] rfl (Own.nil _ _) rfl HI.out (by simp; omega) (Nat.le_refl _) ?_; intro u1 w1 hown1 hgrow1; have hb1 : Below w.heap.size w w1 := (Below.refl _ w).grown hgrow1 (Nat.le_refl _) (fun k e => by cases e); clear hgrow1; obtain ⟨q1, k1, c1, hu1⟩ := own_any_slice hown1; subst hu1)
  have HO : Hid (Own w.heap.size w1 (.slice q1 k1 c1) zs) := hown1
  clear hown1
  go_loopw [5, 1] (fun a y wr => ∃ (m : Nat) (ys : List Nat) (q : Option Addr) (k c : Nat), a = .slice q k c ∧ y = .int .u64 (m : Nat) ∧ m ≤ x ∧ ys ++ encN m = zs ++ encN x ∧ Own w.heap.size wr (.slice q k c) ys ∧ Below w.heap.size w wr) (fun _ y _ => (intOf y).toNat)
  case atStart => exact ⟨x, zs, _, _, _, rfl, rfl, Nat.le_refl _, rfl, HO.out, hb1⟩
  case round =>
    clear hb1 HO
    obtain ⟨m, ys, q, k, c, rfl, rfl, hm, he, hown, hbel⟩ := hrel
    have hsz := hbel.size
    have HE : Hid (ys ++ encN m = zs ++ encN x) := he
    have HOwn : Hid (Own w.heap.size wr (.slice q k c) ys) := hown
    have HYs : Hid (ys.length + 1 ≤ 1000000) := by
      show _ ≤ _
      have h1 := congrArg List.length he
      have h2 := HL.out
      have h3 := encN_pos m
      rw [List.length_append] at h1
      omega
    clear he hown
    by_cases h : m < 128
    · have h1 : ¬ (128 : Int) ≤ (m : Int) := by omega
      have h2 : (m : Int) % 256 = ((m : Nat) : Int) := by omega
      go_wp2_with (at_builtin; refine wpList_append_bytes rfl _ _ rfl w.heap.size (.slice q k c) ys rfl (HOwn.out.alloc _) rfl (bytes_one wr m (by omega)) HYs.out (by simp; omega) ?_; intro u2 w2 hown2 hgrow2; have hb2 := app_one hbel (by omega) (HOwn.out.alloc _) hgrow2; clear hgrow2)
      go_ret
      refine ⟨_, rfl, ?_, hb2⟩
      rw [← HE.out, encN_small h]
      exact hown2
    · have h1 : (128 : Int) ≤ (m : Int) := by omega
      have h2 := or128 m
      go_wp2_with (at_builtin; refine wpList_append_bytes rfl _ _ rfl w.heap.size (.slice q k c) ys rfl (HOwn.out.alloc _) rfl (bytes_one wr (m % 128 + 128) (by omega)) HYs.out (by simp; omega) ?_; intro u2 w2 hown2 hgrow2; have hb2 := app_one hbel (by omega) (HOwn.out.alloc _) hgrow2; clear hgrow2; obtain ⟨q2, k2, c2, hu2⟩ := own_any_slice hown2; subst hu2)
      go_roundw
      case rel =>
        refine ⟨m / 128, _, q2, _, c2, rfl, ?_, by omega, ?_, hown2, hb2⟩
        · go_num
        · rw [List.append_assoc, ← HE.out, encN_great h]
          rfl
      case measure => simp [intOf]; omega
end Go.Proofs.Ytbaokodhoiledaa
