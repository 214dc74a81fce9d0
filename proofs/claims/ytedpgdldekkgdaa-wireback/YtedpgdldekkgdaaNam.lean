/-
  names: an iterator that reads; wire's failed.
-/
import Derived.Test.YtedpgdldekkgdaaGot2
import Derived.Test.YtedpgdldekkgdaaNxB
import Derived.Test.YtedpgdldekkgdaaOps
import Derived.Test.YtedpgdldekkgdaaRd3
namespace Go.Proofs.Ytedpgdldekkgdaa
open Go.RowKit Go.Shelf

theorem bytes_kept {n₀ : Nat} {A A' : World} (h : ∀ k, k < n₀ → k < A.heap.size → A'.heap[k]? = A.heap[k]?) {p : Option Addr} {len cap : Nat} {zs : List Nat} : IsBytes n₀ A p len cap zs → n₀ ≤ A.heap.size → IsBytes n₀ A' p len cap zs
  | ⟨h1, h2, h3, h4, .inl e⟩, _ => ⟨h1, h2, h3, h4, .inl e⟩
  | ⟨h1, h2, h3, h4, .inr ⟨b, off, e, hb, hc⟩⟩, hn => ⟨h1, h2, h3, h4, .inr ⟨b, off, e, hb, fun i hi => (cell_same (h b hb (by omega)) (off + i)).trans (hc i hi)⟩⟩
/-- A reader abides what leaves it and what lies before it. -/
theorem RdAt.kept {A A' : World} {B : Nat} (h : ∀ k, k ≤ B → k < A.heap.size → A'.heap[k]? = A.heap[k]?) : ∀ {st : Option (List Nat)}, RdAt A B st → RdAt A' B st
  | none, hr => (h B (Nat.le_refl _) (Row.lt hr)).trans hr
  | some _, ⟨q, len, cap, h1, h2, h3⟩ => ⟨q, len, cap, (h B (Nat.le_refl _) h1.lt).trans h1, bytes_kept (fun k hk hs => h k (by omega) hs) h2 (by have := h1.lt; omega), h3⟩
theorem KpP.same {P : Nat → Obj → Prop} {A A' : World} (h : KpP P A A') {k : Nat} (hk : ∀ o, P k o) (hs : k < A.heap.size) : A'.heap[k]? = A.heap[k]? := by
  rw [Array.getElem?_eq_getElem hs]
  exact h k _ (hk _) (Array.getElem?_eq_getElem hs)
theorem RdAt.kpp {P : Nat → Obj → Prop} {A A' : World} {B : Nat} (h : KpP P A A') (hP : ∀ k o, k ≤ B → P k o) {st : Option (List Nat)} (hr : RdAt A B st) : RdAt A' B st := hr.kept fun k hk hs => h.same (fun o => hP k o hk) hs
theorem names_any (B : Nat) (w : World) : Calls Try.prog 54 #[.pointer (some ⟨B, 0, none⟩)] w fun e w' => e = .returned (.func (.func 58) #[] #[.pointer (some ⟨w.heap.size, 0, none⟩)]) ∧ w' = w.alloc (.cells #[.pointer (some ⟨B, 0, none⟩)] 65) := by
  go_enter Try.func54, Try.ntmps54
  go_wp2
  go_ret
  exact ⟨rfl, rfl⟩
set_option maxHeartbeats 600000 in
/-- Rest -/
theorem rest_any (B : Nat) (st : Option (List Nat)) (w : World) (h : RdAt w B st) :
    Calls Try.prog 59 #[.pointer (some ⟨B, 0, none⟩)] w fun e w' => e = .returned (.int .i64 (restN st : Nat)) ∧ w' = w := by
  have HF : Hid (Calls Try.prog 45 #[.pointer (some ⟨B, 0, none⟩)] w fun e w' => e = .returned (.bool st.isNone) ∧ w' = w) := failed_any B st w h
  cases st with
  | none =>
    go_enter Try.func59, Try.ntmps59
    go_wp2_with (go_at_call 45; refine HF.out.mono ?_; rintro e w1 ⟨rfl, hw1⟩; obtain rfl : w = w1 := hw1.symm; clear hw1; rw [Option.isNone_none])
    go_ret
    exact ⟨rfl, rfl⟩
  | some zs =>
    obtain ⟨q, len, cap, hr, hI, hl⟩ := h
    have c1 := hr.cell (i := 1) rfl
    have hl1 := hI.1
    clear hr hI
    go_enter Try.func59, Try.ntmps59
    go_wp2_with (go_at_call 45; refine HF.out.mono ?_; rintro e w1 ⟨rfl, hw1⟩; obtain rfl : w = w1 := hw1.symm; clear hw1; rw [Option.isNone_some])
    go_ret
    exact ⟨by rw [restN, hl1]; rfl, rfl⟩
/-- Whether a reader gave up. -/
def goneB : Option (List Nat) → Bool
  | none => true
  | some _ => false
set_option maxHeartbeats 1000000 in
theorem wfailed_any (B : Nat) (st : Option (List Nat)) (w : World) (h : RdAt w B st) : Calls Try.prog 55 #[.pointer (some ⟨B, 0, none⟩)] w fun e w' => e = .returned (.bool (goneB st)) ∧ w' = w := by
  have HR := rest_any B st w h
  have HE := end_any B st w h
  cases st with
  | none =>
    clear h
    have e1 : restN none = 0 := rfl
    have e2 : endE none = 80 := rfl
    rw [e1] at HR
    rw [e2] at HE
    clear e1 e2
    go_enter Try.func55, Try.ntmps55
    go_wp2_with (first
      | (go_at_call 59; refine HR.mono ?_; rintro e w1 ⟨rfl, hw1⟩; obtain rfl : w = w1 := hw1.symm; clear hw1)
      | (go_at_call 33; refine HE.mono ?_; rintro e w1 ⟨rfl, hw1⟩; obtain rfl : w = w1 := hw1.symm; clear hw1))
    go_ret
    exact ⟨rfl, rfl⟩
  | some zs =>
    clear h
    obtain ⟨L, hL⟩ : ∃ L, zs.length = L := ⟨_, rfl⟩
    have e1 : restN (some zs) = L := hL
    have e2 : endE (some zs) = if 0 < L then 80 else 0 := by show (if 0 < zs.length then (80 : Int) else 0) = _; rw [hL]
    rw [e1] at HR
    rw [e2] at HE
    clear e1 e2 hL
    by_cases h0 : 0 < L
    · have h0i : ¬ (L : Int) = 0 := by omega
      rw [if_pos h0] at HE
      go_enter Try.func55, Try.ntmps55
      go_wp2_with (first
        | (go_at_call 59; refine HR.mono ?_; rintro e w1 ⟨rfl, hw1⟩; obtain rfl : w = w1 := hw1.symm; clear hw1)
        | (go_at_call 33; refine HE.mono ?_; rintro e w1 ⟨rfl, hw1⟩; obtain rfl : w = w1 := hw1.symm; clear hw1))
      go_ret
      exact ⟨rfl, rfl⟩
    · obtain rfl : L = 0 := by omega
      rw [if_neg h0] at HE
      go_enter Try.func55, Try.ntmps55
      go_wp2_with (first
        | (go_at_call 59; refine HR.mono ?_; rintro e w1 ⟨rfl, hw1⟩; obtain rfl : w = w1 := hw1.symm; clear hw1)
        | (go_at_call 33; refine HE.mono ?_; rintro e w1 ⟨rfl, hw1⟩; obtain rfl : w = w1 := hw1.symm; clear hw1))
      go_ret
      exact ⟨rfl, rfl⟩

set_option maxRecDepth 100000 in
set_option maxHeartbeats 2000000 in
theorem names1_iter (n : Nat) (hn : 9 ≤ n) (l B bx : Nat) (st : Option (List Nat)) (P : Nat → Obj → Prop) (W : World) (hB : Boxed W bx 65 (.pointer (some ⟨B, 0, none⟩))) (hR : RdAt W B st) (hbx : bx ≠ B) (hP : ∀ k o, k ≤ B ∨ k = bx → P k o) :
    IterB B Fence.wide n Try.prog 58 #[.pointer (some ⟨bx, 0, none⟩)] (fun k : Nat => #[.string (nA k (readN 1000 st).2)]) (fun k A => RdAt A B (nS (k + 1) (readN 1000 st).2)) (KpP P) (fun pre k => k = pre.length ∧ k < (readN 1000 st).1) (fun xs => xs.length = (readN 1000 st).1) (fun pre => pre.length ≤ (readN 1000 st).1) (fun A => RdAt A B (nS (readN 1000 st).1 (readN 1000 st).2)) l W := by
  intro J Jx hJ hJx hY h0
  have h1 : 1 ≤ n := by omega
  have hfn : ∀ f, Fence.wide.fn f := fun _ => trivial
  have hc := hB.cell
  have hbl := hB.lt
  have HB : Hid (Boxed W bx 65 (.pointer (some ⟨B, 0, none⟩))) := hB
  have hBl := hR.lt
  have HN := readerN_any B st 1000 (by omega) W hR
  have hm := readN_le 1000 st
  obtain ⟨m, hme⟩ : ∃ m, (readN 1000 st).1 = m := ⟨_, rfl⟩
  obtain ⟨s1, hse⟩ : ∃ s1, (readN 1000 st).2 = s1 := ⟨_, rfl⟩
  rw [hme] at HN hm
  rw [hse] at HN
  rw [hse, hme] at hY
  have wm : IntKind.i64.wrap (m : Int) = (m : Int) := by rw [IntKind.wrap_i64]; omega
  rw [hme, hse]
  clear hB hR hme hse
  refine callsIn_of_wp Try.func58 rfl trivial ?_ rfl
  simp only [Try.ntmps58, List.size_toArray, List.length_cons, List.length_nil, Nat.reduceAdd, Nat.reduceSub, Array.replicate_succ, Array.replicate_zero, List.push_toArray, List.append_toArray, List.nil_append, List.cons_append]
  gi_wp2_with (gi_at_call 30; refine (callsIn_wide.2 HN).mono ?_; rintro e W1 ⟨rfl, hR1, hu1⟩)
  have hJ1 : J [] W1 := hJ.2 _ _ _ h0 hu1
  have hB1 : Boxed W1 bx 65 (.pointer (some ⟨B, 0, none⟩)) := (hu1.block bx hbl hbx).trans HB.out
  have HJ1 : Hid (J [] W1 ∧ RdAt W1 B s1 ∧ Boxed W1 bx 65 (.pointer (some ⟨B, 0, none⟩))) := ⟨hJ1, hR1, hB1⟩
  clear hJ1 hR1 hu1 hB1 h0 hc HN HB
  gi_loopw [6] (fun i wr => ∃ (k : Nat) (pre : List Nat), k ≤ m ∧ i = .int .i64 k ∧ pre.length = k ∧ J pre wr ∧ RdAt wr B (nS k s1) ∧ Boxed wr bx 65 (.pointer (some ⟨B, 0, none⟩))) (fun i _ => m - (intOf i).toNat)
  case atStart => exact ⟨0, [], Nat.zero_le _, rfl, rfl, HJ1.out.1, HJ1.out.2.1, HJ1.out.2.2⟩
  case round =>
    obtain ⟨k, pre, hk, rfl, hpl, hj, hrd, hbo⟩ := hrel
    have hc := hbo.cell
    have hbl2 := hbo.lt
    have HBo : Hid (Boxed wr bx 65 (.pointer (some ⟨B, 0, none⟩))) := hbo
    have HPl : Hid (pre.length = k) := hpl
    clear hbo hpl
    by_cases hlt : k < m
    · have hki : (k : Int) < (m : Int) := by omega
      have HT := readerText_any B (nS k s1) 64 (by omega) wr hrd
      have HY : Hid (∀ Y, But B wr.heap.size wr Y → RdAt Y B (nS (k + 1) s1) → YieldAt Fence.wide (n - 1) Try.prog l #[.string (nA k s1)] Y fun e W' => (e = .returned (.bool true) ∧ J (pre ++ [k]) W' ∧ KpP P Y W') ∨ (e = .returned (.bool false) ∧ Jx (pre ++ [k]) W' ∧ KpP P Y W')) := fun Y hb hr => hY pre k Y (hJ.2 _ _ _ hj hb) hr ⟨HPl.out.symm, hlt⟩
      have HNa : Hid (strOf (readText 64 (nS k s1)).1 = nA k s1) := rfl
      have HNs : Hid ((readText 64 (nS k s1)).2 = nS (k + 1) s1) := rfl
      clear hY hj hrd
      gi_wp2_with (gi_at_call 31; refine (callsIn_wide.2 HT).mono ?_; clear HT; rintro e W2 ⟨v2, rfl, hO2, hR2, hu2⟩; obtain ⟨q2, l2, c2, hv2⟩ := own_any_slice hO2; subst hv2; have hst := (own_str hO2).here; rw [HNa.out] at hst; rw [HNs.out] at hR2; have HR2 : Hid (RdAt W2 B (nS (k + 1) s1)) := hR2; have HB2 : Hid (Boxed W2 bx 65 (.pointer (some ⟨B, 0, none⟩))) := (hu2.block bx hbl2 hbx).trans HBo.out; obtain ⟨fn, tmps, assign, body, hy, hRd⟩ := HY.out W2 hu2 hR2; clear hO2 hR2)
      refine RoundIn.mono hRd ?_
      rintro e W3 (⟨rfl, hJ3, hk3⟩ | ⟨rfl, hJ3, hk3⟩)
      · have hR3 : RdAt W3 B (nS (k + 1) s1) := HR2.out.kpp hk3 (fun k o h => hP k o (.inl h))
        have hB3 : Boxed W3 bx 65 (.pointer (some ⟨B, 0, none⟩)) := (hk3.same (fun o => hP bx o (.inr rfl)) HB2.out.lt).trans HB2.out
        gi_wp2
        go_roundw
        case rel => exact ⟨k + 1, pre ++ [k], by omega, by go_num, by rw [List.length_append, HPl.out]; rfl, hJ3, hR3, hB3⟩
        case measure => simp [intOf]; omega
      · gi_wp2
        refine bodyPost_ret (results_none rfl _ _ _) rfl ?_
        exact ⟨⟨_, rfl⟩, .inr ⟨_, by rw [List.length_append, HPl.out]; simp; omega, hJ3⟩⟩
    · obtain rfl : k = m := by omega
      gi_wp2
      refine ⟨rfl, _, results_none rfl _ _ _, ?_⟩
      exact ⟨⟨_, rfl⟩, .inl ⟨_, HPl.out, hrd, hj⟩⟩
end Go.Proofs.Ytedpgdldekkgdaa
