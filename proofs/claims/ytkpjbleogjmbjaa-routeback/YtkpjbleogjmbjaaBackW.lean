/-
  The walk of RouteBack.
-/
import Derived.Test.YtkpjbleogjmbjaaJoin2
import Derived.Test.YtkpjbleogjmbjaaAwake
namespace Go.Proofs.Ytkpjbleogjmbjaa
open Go.RowKit

/-- Names that are joined are split again. -/
theorem back_names {xs : List ByteArray} (hl : xs.length ≤ 16) (hg : (xs.map bytesOf).all goodL = true) : errS (pathK xs xs.length) = 0 ∧ (namesS (pathK xs xs.length)).map txt = xs := by
  have hp : pathK xs xs.length = joinL (xs.map bytesOf) := by rw [pathK, List.take_length]
  have hns : ∀ a ∈ xs.map bytesOf, ∀ c ∈ a, c ≠ 47 := fun a ha => good_noslash (List.all_eq_true.1 hg a ha)
  have ht : toldL (joinL (xs.map bytesOf)) = xs.map bytesOf := by
    cases xs with
    | nil => simp [joinL, toldL]
    | cons x t =>
      have hj : joinL ((x :: t).map bytesOf) ≠ [] := by
        intro e
        have hc := cut_join ((x :: t).map bytesOf) (by simp) hns
        rw [e] at hc
        have : bytesOf x ∈ (x :: t).map bytesOf := by simp
        rw [← hc] at this
        simp [cutL] at this
        have hgx := List.all_eq_true.1 hg (bytesOf x) (by simp)
        exact good_ne hgx (by simpa [bytesOf] using this)
      rw [toldL, if_neg hj, cut_join _ (by simp) hns]
  have he : errS (joinL (xs.map bytesOf)) = 0 := errS_ok (by rw [ht]; simp; omega) (by rw [ht]; exact hg)
  refine ⟨by rw [hp]; exact he, ?_⟩
  rw [hp, namesS, if_pos he, ht, List.map_map]
  conv => rhs; rw [← List.map_id xs]
  exact List.map_congr_left (fun x _ => txt_bytes x)

set_option maxRecDepth 100000 in
set_option maxHeartbeats 2000000 in
theorem routeBack_walk (p : Option Addr) (len cap : Nat) (xs : List ByteArray) (w : World) (hI : IsStrs w.heap.size w p len cap xs) : Calls Try.prog 5 #[.slice p len cap] w fun e w' => e = .returned (.bool true) ∧ Below w.heap.size w w' := by
  have HI : Hid (IsStrs w.heap.size w p len cap xs) := hI
  have HL : Hid (xs.length = len) := hI.1
  have hlc := hI.2.1
  have hcc := hI.2.2.1
  clear hI
  by_cases h1 : 30 < len
  · have i1 : (30 : Int) < (len : Int) := by omega
    go_enter Try.func5, Try.ntmps5
    go_wp2_with (go_at_call 6; refine (awake_any w).mono ?_; rintro e w1 ⟨rfl, hb1⟩)
    go_ret
    exact ⟨rfl, hb1⟩
  have i1 : ¬ (30 : Int) < (len : Int) := by omega
  go_enter Try.func5, Try.ntmps5
  go_wp2_with (go_at_call 6; refine (awake_any w).mono ?_; rintro e w1 ⟨rfl, hb1⟩)
  have HI1 : Hid (IsStrs w1.heap.size w1 p len cap xs) := HI.out.later hb1
  go_loopw [3, 19] (fun g i wr => ∃ (k : Nat), k ≤ len ∧ i = .int .i64 k ∧ g = .bool (decide (len ≤ 16) && ((xs.take k).map bytesOf).all goodL) ∧ (∀ x ∈ xs.take k, x.size ≤ 200) ∧ wr = w1) (fun _ i _ => len - (intOf i).toNat)
  case atStart => exact ⟨0, Nat.zero_le _, rfl, by simp; omega, by simp, rfl⟩
  case round =>
    obtain ⟨k, hk, rfl, rfl, hsz, rfl⟩ := hrel
    have HZ : Hid (∀ x ∈ xs.take k, x.size ≤ 200) := hsz
    clear hsz
    by_cases hlt : k < len
    · have hki : (k : Int) < (len : Int) := by omega
      have hkx : k < xs.length := by rw [HL.out]; exact hlt
      obtain ⟨b, off, rfl, hb, hcell⟩ : ∃ b off, p = some ⟨b, off, none⟩ ∧ b < wr.heap.size ∧ ∀ i (h : i < xs.length), wr.cell? ⟨b, off + i, none⟩ = some (.string xs[i]) := by
        rcases HI1.out.2.2.2 with h | h
        · omega
        · exact h
      have c1 := hcell k hkx
      clear hcell
      have HTk : Hid (xs.take (k + 1) = xs.take k ++ [xs[k]]) := by show _ = _; rw [List.take_add_one, List.getElem?_eq_getElem hkx]; rfl
      generalize xs[k] = x at *
      by_cases h2 : 200 < x.size
      · have i2 : (200 : Int) < (x.size : Int) := by omega
        go_wp2
        go_ret
        exact ⟨rfl, hb1⟩
      · have i2 : ¬ (200 : Int) < (x.size : Int) := by omega
        have HZ2 : Hid (∀ y ∈ xs.take (k + 1), y.size ≤ 200) := fun y hy => by
          rw [HTk.out] at hy
          rcases List.mem_append.1 hy with hy | hy
          · exact HZ.out y hy
          · simp at hy; subst hy; omega
        have HB2 : Hid ((decide (len ≤ 16) && ((xs.take (k + 1)).map bytesOf).all goodL) = ((decide (len ≤ 16) && ((xs.take k).map bytesOf).all goodL) && goodL (bytesOf x))) := by
          show _ = _
          rw [HTk.out, List.map_append, List.all_append]; simp [Bool.and_assoc]
        generalize (decide (len ≤ 16) && ((xs.take k).map bytesOf).all goodL) = G at *
        have HG : Hid (∀ W, Calls Try.prog 8 #[.string x] W fun e w' => e = .returned (.bool (goodL (bytesOf x))) ∧ w' = W) := fun W => refGood_any x (by omega) W
        generalize goodL (bytesOf x) = X at *
        cases G with
        | false =>
          go_wp2
          go_roundw
          case rel => exact ⟨k + 1, by omega, by go_num, by rw [HB2.out]; rfl, HZ2.out, trivial⟩
          case measure => simp [intOf]; omega
        | true =>
          go_wp2_with (go_at_call 8; refine (HG.out wr).mono ?_; rintro e w' ⟨rfl, hw'⟩; obtain rfl : wr = w' := hw'.symm; clear hw')
          go_roundw
          case rel => exact ⟨k + 1, by omega, by go_num, by rw [HB2.out]; rfl, HZ2.out, trivial⟩
          case measure => simp [intOf]; omega
    · obtain rfl : k = len := by omega
      have HT : Hid (xs.take k = xs) := by show _ = _; rw [← HL.out, List.take_length]
      have HZ3 : Hid (∀ x ∈ xs, x.size ≤ 200) := by have := HZ.out; rwa [HT.out] at this
      have HLp : Hid ((txt (pathK xs k)).size ≤ 100000) := by
        show _ ≤ _
        rw [← bytesOf_length, bytes_txt]
        have := pathK_len HZ3.out k (by rw [HL.out]; exact Nat.le_refl _)
        omega
      have HBk : Hid ((decide (k ≤ 16) && ((xs.take k).map bytesOf).all goodL) = true → errS (bytesOf (txt (pathK xs k))) = 0 ∧ (namesS (bytesOf (txt (pathK xs k)))).map txt = xs) := fun h => by
        rw [HT.out] at h
        simp only [Bool.and_eq_true, decide_eq_true_eq] at h
        rw [bytes_txt]
        have := back_names (by rw [HL.out]; exact h.1) h.2
        rwa [HL.out] at this
      generalize (decide (k ≤ 16) && ((xs.take k).map bytesOf).all goodL) = G at *
      have HJ : Hid (∀ W, IsStrs W.heap.size W p k cap xs → Calls Try.prog 15 #[.slice p k cap] W fun e w' => e = .returned (.string (txt (pathK xs k))) ∧ Below W.heap.size W w') := fun W h => join_any p k cap xs (by omega) HZ3.out W h
      have HK : Hid (∀ W, IsStrs W.heap.size W p k cap xs → Calls Try.prog 16 #[.slice p k cap] W fun e w' => e = .returned (.string (txt (pathK xs k))) ∧ w' = W) := fun W h => refJoin_any p k cap xs (by omega) HZ3.out W h
      have HSp : Hid (∀ W, Calls Try.prog 11 #[.string (txt (pathK xs k))] W fun e w' => ∃ v, e = .returned (.tuple #[v, .int .i64 (errS (bytesOf (txt (pathK xs k))) : Nat)]) ∧ OwnS W.heap.size w' v ((namesS (bytesOf (txt (pathK xs k)))).map txt) ∧ Below W.heap.size W w') := fun W => split_any _ HLp.out W
      generalize txt (pathK xs k) = P at *
      cases G with
      | false =>
        go_wp2_with (first
          | (go_at_call 15; refine (HJ.out wr HI1.out).mono ?_; rintro e w2 ⟨rfl, hb2⟩)
          | (go_at_call 11; refine (HSp.out w2).mono ?_; rintro e w3 ⟨v, rfl, ho, hb3⟩)
          | (go_at_call 16; refine (HK.out w3 ((HI1.out.later hb2).later hb3)).mono ?_; rintro e w4 ⟨rfl, hw4⟩; obtain rfl : w3 = w4 := hw4.symm; clear hw4))
        go_ret
        exact ⟨rfl, (hb1.trans (hb2.mono hb1.size)).trans (hb3.mono (by have := hb1.size; have := hb2.size; omega))⟩
      | true =>
        obtain ⟨hE, hN⟩ := HBk.out rfl
        rw [hE, hN] at HSp
        clear hE hN HBk
        go_wp2_with (first
          | (go_at_call 15; refine (HJ.out wr HI1.out).mono ?_; rintro e w2 ⟨rfl, hb2⟩)
          | (go_at_call 11; refine (HSp.out w2).mono ?_; rintro e w3 ⟨v, rfl, ho, hb3⟩; obtain ⟨q, c, rfl⟩ := ho.slice; rw [HL.out] at ho; rw [HL.out]; have HO : Hid (OwnS w2.heap.size w3 (.slice q k c) xs) := ho; clear ho)
          | (go_at_call 16; refine (HK.out w3 ((HI1.out.later hb2).later hb3)).mono ?_; rintro e w4 ⟨rfl, hw4⟩; obtain rfl : w3 = w4 := hw4.symm; clear hw4)
          | (go_at_call 13; refine (sameNames_any q k c p cap xs w3 HO.out.strs ((HI1.out.later hb2).later hb3)).mono ?_; rintro e w5 ⟨rfl, hb5⟩))
        go_ret
        exact ⟨rfl, ((hb1.trans (hb2.mono hb1.size)).trans (hb3.mono (by have := hb1.size; have := hb2.size; omega))).trans (hb5.mono (by have := hb1.size; have := hb2.size; have := hb3.size; omega))⟩
end Go.Proofs.Ytkpjbleogjmbjaa
