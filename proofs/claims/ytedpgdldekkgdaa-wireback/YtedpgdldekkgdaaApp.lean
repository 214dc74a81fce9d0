/-
  What codec.appendNumber and the reference's N make: a row of bytes with a number behind it.
-/
import Derived.Test.YtedpgdldekkgdaaEnc
import Derived.Test.YtedpgdldekkgdaaBaseAll
namespace Go.Proofs.Ytedpgdldekkgdaa
open Go.RowKit

theorem or128_all : ∀ r : Fin 256, bits .or .u8 ((r.1 : Nat) : Int) 128 = ((r.1 % 128 + 128 : Nat) : Int) := by decide +kernel
theorem or128 (m : Nat) : bits .or .u8 ((m : Int) % 256) 128 = ((m % 128 + 128 : Nat) : Int) := by
  have h := or128_all ⟨m % 256, by omega⟩
  simp only at h
  rw [show ((m : Int) % 256) = ((m % 256 : Nat) : Int) by omega, h]
  omega
theorem own_any_slice {W : World} {n₀ : Nat} {v : Value} {zs : List Nat} (h : Own n₀ W v zs) : ∃ q k c, v = .slice q k c := by obtain ⟨q, c, e⟩ := h.slice; exact ⟨q, _, c, e⟩
/-- Blocks that bear a mark are kept. -/
def KeepF (A B : World) : Prop := ∀ (k : Nat) (c : Array Value) (t : TypeId) (fr : Nat × Nat), fr ≠ (0, 0) → A.heap[k]? = some (Obj.cells c t fr) → B.heap[k]? = some (Obj.cells c t fr)
theorem KeepF.refl (A : World) : KeepF A A := fun _ _ _ _ _ h => h
theorem KeepF.trans {A B C : World} (h : KeepF A B) (k : KeepF B C) : KeepF A C := fun i c t fr hf hi => k i c t fr hf (h i c t fr hf hi)
theorem KeepF.of_below {A B : World} (h : Below A.heap.size A B) : KeepF A B := fun k _ _ _ _ hk => (h.block k (Array.getElem?_eq_some_iff.1 hk).1).trans hk
theorem KeepF.row {e : TypeId} {A B : World} {n₀ : Nat} {size : Nat} {v : Value} {n : Nat} {xs : List Value} (hg : A.grownBy B v.ownBlock) (h : A.ownsRow n₀ e size v n xs) : KeepF A B := fun k c t fr hf hk => by
  refine (hg.block k (Array.getElem?_eq_some_iff.1 hk).1 (fun e' => ?_)).trans hk
  rcases h.2 with ⟨rfl, _⟩ | ⟨g, cap, cur, rfl, _, hgb, _⟩
  · simp [Value.ownBlock] at e'
  · simp [Value.ownBlock] at e'
    subst e'
    rw [hk] at hgb
    cases hgb
    exact hf rfl
/-- All blocks but rows of bytes, and all that bear a mark. -/
def Keep5 (A B : World) : Prop := (∀ t, t ≠ 5 → KeepT t A B) ∧ KeepF A B
theorem Keep5.refl (A : World) : Keep5 A A := ⟨fun _ _ _ _ _ h => h, KeepF.refl A⟩
theorem Keep5.row {A B : World} {n₀ : Nat} {size : Nat} {v : Value} {n : Nat} {xs : List Value} (hg : A.grownBy B v.ownBlock) (h : A.ownsRow n₀ 5 size v n xs) : Keep5 A B := ⟨fun _ ht => KeepT.row hg h (Ne.symm ht), KeepF.row hg h⟩
theorem app_keep {n₀ : Nat} {a : World} {wr w' : World} {v : Value} {zs : List Nat} {o : Obj} (h : Keep5 a wr) (ho : Own n₀ (wr.alloc o) v zs) (hg : (wr.alloc o).grownBy w' v.ownBlock) : Hid (Keep5 a w') :=
  ⟨fun t ht => ((h.1 t ht).trans (KeepT.alloc _ _)).trans (KeepT.row hg ho (Ne.symm ht)), (h.2.trans (KeepF.of_below ((Below.refl _ wr).alloc (Nat.le_refl _) _))).trans (KeepF.row hg ho)⟩
theorem app_one {n₀ : Nat} {a : World} {wr w' : World} {v : Value} {zs : List Nat} {o : Obj} (h : Below n₀ a wr) (hn : n₀ ≤ wr.heap.size) (ho : Own n₀ (wr.alloc o) v zs) (hg : (wr.alloc o).grownBy w' v.ownBlock) : Below n₀ a w' :=
  below_own (h.alloc hn o) (by simp; omega) ho hg

set_option maxHeartbeats 1000000 in
theorem appendNumber_any (n₀ : Nat) (v : Value) (zs : List Nat) (x : Nat) (w : World) (hx : x < 18446744073709551616) (ho : Own n₀ w v zs) (hn : n₀ ≤ w.heap.size) (hlen : zs.length ≤ 900000) :
    Calls Try.prog 43 #[v, .int .u64 (x : Nat)] w fun e w' => ∃ v', e = .returned v' ∧ Own n₀ w' v' (zs ++ encN x) ∧ Below n₀ w w' ∧ Keep5 w w' := by
  have HO : Hid (Own n₀ w v zs) := ho
  have HL : Hid ((zs ++ encN x).length ≤ 900010) := by
    show _ ≤ _
    have := encN_ten hx
    rw [List.length_append]
    omega
  obtain ⟨q0, c0, rfl⟩ := ho.slice
  clear ho
  go_enter Try.func43, Try.ntmps43
  go_wp2
  go_loopw [0, 1] (fun a y wr => ∃ (m : Nat) (ys : List Nat) (q : Option Addr) (k c : Nat), a = .slice q k c ∧ y = .int .u64 (m : Nat) ∧ m ≤ x ∧ ys ++ encN m = zs ++ encN x ∧ Own n₀ wr (.slice q k c) ys ∧ Below n₀ w wr ∧ Keep5 w wr) (fun _ y _ => (intOf y).toNat)
  case atStart => exact ⟨x, zs, _, _, _, rfl, rfl, Nat.le_refl _, rfl, HO.out, Below.refl _ _, Keep5.refl _⟩
  case round =>
    obtain ⟨m, ys, q, k, c, rfl, rfl, hm, he, hown, hbel, hkt⟩ := hrel
    have HKt : Hid (Keep5 w wr) := hkt
    clear hkt
    have hsz := hbel.size
    have HE : Hid (ys ++ encN m = zs ++ encN x) := he
    have HOwn : Hid (Own n₀ wr (.slice q k c) ys) := hown
    have HYs : Hid (ys.length + 1 ≤ 1000000) := by
      show _ ≤ _
      have h1 := congrArg List.length he
      have h2 := HL.out
      have h3 := encN_pos m
      rw [List.length_append] at h1
      omega
    clear he hown
    by_cases h : m < 128
    · have h1 : ¬ (128 : Int) ≤ (m : Int) := by omega
      have h2 : (m : Int) % 256 = ((m : Nat) : Int) := by omega
      go_wp2_with (at_builtin; refine wpList_append_bytes rfl _ _ rfl n₀ (.slice q k c) ys rfl (HOwn.out.alloc _) rfl (bytes_one wr m (by omega)) HYs.out (by simp; omega) ?_; intro u2 w2 hown2 hgrow2; have hb2 := app_one hbel (by omega) (HOwn.out.alloc _) hgrow2; have HK2 := app_keep HKt.out (HOwn.out.alloc _) hgrow2; clear hgrow2)
      go_ret
      refine ⟨_, rfl, ?_, hb2, HK2.out⟩
      rw [← HE.out, encN_small h]
      exact hown2
    · have h1 : (128 : Int) ≤ (m : Int) := by omega
      have h2 := or128 m
      go_wp2_with (at_builtin; refine wpList_append_bytes rfl _ _ rfl n₀ (.slice q k c) ys rfl (HOwn.out.alloc _) rfl (bytes_one wr (m % 128 + 128) (by omega)) HYs.out (by simp; omega) ?_; intro u2 w2 hown2 hgrow2; have hb2 := app_one hbel (by omega) (HOwn.out.alloc _) hgrow2; have HK2 := app_keep HKt.out (HOwn.out.alloc _) hgrow2; clear hgrow2; obtain ⟨q2, k2, c2, hu2⟩ := own_any_slice hown2; subst hu2)
      go_roundw
      case rel =>
        refine ⟨m / 128, _, q2, _, c2, rfl, ?_, by omega, ?_, hown2, hb2, HK2.out⟩
        · go_num
        · rw [List.append_assoc, ← HE.out, encN_great h]
          rfl
      case measure => simp [intOf]; omega

set_option maxHeartbeats 1000000 in
/-- The reference's N -/
theorem refN_any (p : Option Addr) (len cap : Nat) (zs : List Nat) (x : Nat) (w : World) (hx : x < 18446744073709551616) (hI : IsBytes w.heap.size w p len cap zs) (hlen : zs.length ≤ 900000) :
    Calls Try.prog 27 #[.slice p len cap, .int .u64 (x : Nat)] w fun e w' => ∃ v', e = .returned v' ∧ Own w.heap.size w' v' (zs ++ encN x) ∧ Below w.heap.size w w' := by
  have HI : Hid (IsBytes w.heap.size w p len cap zs) := hI
  have HL : Hid ((zs ++ encN x).length ≤ 900010) := by
    show _ ≤ _
    have := encN_ten hx
    rw [List.length_append]
    omega
  have hl := hI.1
  clear hI
  go_enter Try.func27, Try.ntmps27
  go_wp2_with (at_builtin; refine wpList_append_bytes rfl _ _ rfl w.heap.size (.slice none 0 0) [] rfl (Own.nil _ _) rfl HI.out (by simp; omega) (Nat.le_refl _) ?_; intro u1 w1 hown1 hgrow1; have hb1 : Below w.heap.size w w1 := (Below.refl _ w).grown hgrow1 (Nat.le_refl _) (fun k e => by cases e); clear hgrow1; obtain ⟨q1, k1, c1, hu1⟩ := own_any_slice hown1; subst hu1)
  have HO : Hid (Own w.heap.size w1 (.slice q1 k1 c1) zs) := hown1
  clear hown1
  go_loopw [5, 1] (fun a y wr => ∃ (m : Nat) (ys : List Nat) (q : Option Addr) (k c : Nat), a = .slice q k c ∧ y = .int .u64 (m : Nat) ∧ m ≤ x ∧ ys ++ encN m = zs ++ encN x ∧ Own w.heap.size wr (.slice q k c) ys ∧ Below w.heap.size w wr) (fun _ y _ => (intOf y).toNat)
  case atStart => exact ⟨x, zs, _, _, _, rfl, rfl, Nat.le_refl _, rfl, HO.out, hb1⟩
  case round =>
    clear hb1 HO
    obtain ⟨m, ys, q, k, c, rfl, rfl, hm, he, hown, hbel⟩ := hrel
    have hsz := hbel.size
    have HE : Hid (ys ++ encN m = zs ++ encN x) := he
    have HOwn : Hid (Own w.heap.size wr (.slice q k c) ys) := hown
    have HYs : Hid (ys.length + 1 ≤ 1000000) := by
      show _ ≤ _
      have h1 := congrArg List.length he
      have h2 := HL.out
      have h3 := encN_pos m
      rw [List.length_append] at h1
      omega
    clear he hown
    by_cases h : m < 128
    · have h1 : ¬ (128 : Int) ≤ (m : Int) := by omega
      have h2 : (m : Int) % 256 = ((m : Nat) : Int) := by omega
      go_wp2_with (at_builtin; refine wpList_append_bytes rfl _ _ rfl w.heap.size (.slice q k c) ys rfl (HOwn.out.alloc _) rfl (bytes_one wr m (by omega)) HYs.out (by simp; omega) ?_; intro u2 w2 hown2 hgrow2; have hb2 := app_one hbel (by omega) (HOwn.out.alloc _) hgrow2; clear hgrow2)
      go_ret
      refine ⟨_, rfl, ?_, hb2⟩
      rw [← HE.out, encN_small h]
      exact hown2
    · have h1 : (128 : Int) ≤ (m : Int) := by omega
      have h2 := or128 m
      go_wp2_with (at_builtin; refine wpList_append_bytes rfl _ _ rfl w.heap.size (.slice q k c) ys rfl (HOwn.out.alloc _) rfl (bytes_one wr (m % 128 + 128) (by omega)) HYs.out (by simp; omega) ?_; intro u2 w2 hown2 hgrow2; have hb2 := app_one hbel (by omega) (HOwn.out.alloc _) hgrow2; clear hgrow2; obtain ⟨q2, k2, c2, hu2⟩ := own_any_slice hown2; subst hu2)
      go_roundw
      case rel =>
        refine ⟨m / 128, _, q2, _, c2, rfl, ?_, by omega, ?_, hown2, hb2⟩
        · go_num
        · rw [List.append_assoc, ← HE.out, encN_great h]
          rfl
      case measure => simp [intOf]; omega
end Go.Proofs.Ytedpgdldekkgdaa
