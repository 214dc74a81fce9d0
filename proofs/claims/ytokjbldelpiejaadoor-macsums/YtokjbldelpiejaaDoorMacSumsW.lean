/-
  The law MacSums, walked: for every key and every list of texts it returns true.
-/
import Derived.Test.YtokjbldelpiejaaDoorAwake3
import Derived.Test.YtokjbldelpiejaaDoorEq
import Derived.Test.YtokjbldelpiejaaDoorMac3
namespace Go.Proofs.YtokjbldelpiejaaDoor
open Go.RowKit

theorem flat_le (n : Nat) : ∀ (ts : List (List Nat)), (∀ t ∈ ts, t.length ≤ n) → ts.flatten.length ≤ n * ts.length
  | [], _ => by simp
  | t :: r, h => by
    have h1 := flat_le n r (fun u hu => h u (by simp [hu]))
    have h2 := h t (by simp)
    rw [List.flatten_cons, List.length_append, List.length_cons, Nat.mul_succ]
    omega

theorem lists_later {A B : World} {p : Option Addr} {len cap : Nat} {ts : List (List Nat)} (h : IsLists A.heap.size A p len cap ts) (hb : Below A.heap.size A B) : IsLists B.heap.size B p len cap ts := by
  obtain ⟨h1, h0, h2⟩ := h.below hb
  refine ⟨h1, h0, ?_⟩
  rcases h2 with h2 | ⟨b, off, e, hlt, hc⟩
  · exact .inl h2
  · exact .inr ⟨b, off, e, Nat.lt_of_lt_of_le hlt hb.size, fun i hi => by
      obtain ⟨q, l, c, h3, h4⟩ := hc i hi
      exact ⟨q, l, c, h3, h4.mono hb.size⟩⟩

set_option maxRecDepth 100000 in
set_option maxHeartbeats 1000000 in
theorem macSums_walk (p : Option Addr) (len cap : Nat) (ks : List Nat) (pp : Option Addr) (pl pc : Nat) (ts : List (List Nat)) (w : World) (hT : Tab w) (hI : IsBytes w.heap.size w p len cap ks) (hL : IsLists w.heap.size w pp pl pc ts) :
    Calls Tryd.prog 6 #[.slice p len cap, .slice pp pl pc] w fun e w' => e = .returned (.bool true) ∧ Below w.heap.size w w' := by
  have HT : Hid (Tab w) := hT
  have HI : Hid (IsBytes w.heap.size w p len cap ks) := hI
  have HL : Hid (IsLists w.heap.size w pp pl pc ts) := hL
  have HTl : Hid (ts.length = pl) := hL.1
  clear hT hI hL
  by_cases hlen : len ≤ 300
  · have hli : ¬ (300 : Int) < (len : Int) := by omega
    by_cases hpl : pl ≤ 10
    · have hpi : ¬ (10 : Int) < (pl : Int) := by omega
      go_enter Tryd.func6, Tryd.ntmps6
      go_wp2_with (go_at_call 18; refine (awake3_any _ HT.out).mono ?_; rintro e w1 ⟨rfl, hb1⟩)
      go_loopw [19] (fun i wr => ∃ k : Nat, k ≤ pl ∧ i = .int .i64 k ∧ (∀ t ∈ ts.take k, t.length ≤ 300) ∧ Below w.heap.size w wr)
        (fun i _ => pl - (intOf i).toNat)
      case atStart => exact ⟨0, Nat.zero_le _, rfl, by simp, hb1⟩
      case round =>
        clear hb1
        obtain ⟨k, hk, rfl, hall, hbel⟩ := hrel
        by_cases hlt : k < pl
        · have hki : (k : Int) < (pl : Int) := by omega
          obtain ⟨b, off, rfl, hb, hcell⟩ : ∃ b off, pp = some ⟨b, off, none⟩ ∧ b < w.heap.size ∧ ∀ i, i < pl → ∃ q l c, wr.cell? ⟨b, off + i, none⟩ = some (.slice q l c) ∧ IsBytes w.heap.size wr q l c (ts.getD i []) := by
            rcases (HL.out.below hbel).2.2 with h | h
            · omega
            · exact h
          obtain ⟨q1, l1, c1, hc1, hI1⟩ := hcell k hlt
          have HAll : Hid (∀ t ∈ ts.take k, t.length ≤ 300) := hall
          have HL1 : Hid ((ts.getD k []).length = l1) := hI1.1
          clear hcell hI1 hall
          by_cases hl1 : l1 ≤ 300
          · have hl1i : ¬ (300 : Int) < (l1 : Int) := by omega
            go_wp2
            go_roundw
            case rel =>
              refine ⟨k + 1, by omega, by go_num, fun t ht => ?_, hbel⟩
              have hkl : k < ts.length := by rw [HTl.out]; exact hlt
              rw [List.take_succ_eq_append_getElem hkl] at ht
              rcases List.mem_append.1 ht with h | h
              · exact HAll.out t h
              · have e : t = ts.getD k [] := by simp at h; simp [List.getElem?_eq_getElem hkl, h]
                rw [e, HL1.out]; exact hl1
            case measure => simp [intOf]; omega
          · have hl1i : (300 : Int) < (l1 : Int) := by omega
            go_wp2
            go_ret
            exact ⟨rfl, hbel⟩
        · obtain rfl : k = pl := by omega
          have hF : ts.flatten.length ≤ 3000 := by
            have h := flat_le 300 ts (fun t ht => hall t (by rw [List.take_of_length_le (by rw [HTl.out]; exact Nat.le_refl _)]; exact ht))
            rw [HTl.out] at h; omega
          have HFz : Hid (∀ z ∈ ts.flatten, z < 256) := flat_lt HL.out
          have hq := equal25 (u8s (macN ks ts.flatten)) (u8s_int _ (macN_length _ _))
          have H19 : Hid (∀ W, Below w.heap.size w W → Calls Tryd.prog 19 #[.slice p len cap, .slice pp k pc] W fun e w' => e = .returned (.agg (u8s (macN ks ts.flatten)).toArray) ∧ Below W.heap.size W w') := fun W hb => macSum_any p len cap ks (by omega) pp k pc (by omega) ts (by omega) W (HT.out.later hb) (HI.out.later hb) (lists_later HL.out hb)
          have H21 : Hid (∀ W, Below w.heap.size w W → Calls Tryd.prog 21 #[.slice pp k pc] W fun e w' => ∃ q c, e = .returned (.slice q ts.flatten.length c) ∧ Own W.heap.size w' (.slice q ts.flatten.length c) ts.flatten ∧ Below W.heap.size W w') := fun W hb => refCat_any pp k pc (by omega) ts (by omega) W (lists_later HL.out hb)
          have H20 : Hid (∀ W q c, Below w.heap.size w W → IsBytes W.heap.size W q ts.flatten.length c ts.flatten → Calls Tryd.prog 20 #[.slice p len cap, .slice q ts.flatten.length c] W fun e w' => e = .returned (.agg (u8s (macN ks ts.flatten)).toArray) ∧ Below W.heap.size W w') := fun W q c hb hB => refMac_any p len cap ks (by omega) q _ c _ (by omega) W (HI.out.later hb) hB
          generalize u8s (macN ks ts.flatten) = V at *
          generalize ts.flatten = F at *
          generalize hFn : F.length = Fn at *
          clear hFn hall
          go_wp2_with (first
            | (go_at_call 19; refine (H19.out _ hbel).mono ?_; rintro e w2 ⟨rfl, hb2⟩; have hbA := hbel.trans (hb2.mono hbel.size); clear hb2)
            | (go_at_call 21; refine (H21.out _ hbA).mono ?_; rintro e w3 ⟨q3, c3, rfl, hown3, hb3⟩; have hbB := hbA.trans (hb3.mono hbA.size); have HB3 : Hid (IsBytes w3.heap.size w3 q3 Fn c3 F) := hown3.bytes HFz.out; clear hb3 hown3)
            | (go_at_call 20; refine (H20.out _ _ _ hbB HB3.out).mono ?_; rintro e w4 ⟨rfl, hb4⟩; have hbC := hbB.trans (hb4.mono hbB.size)))
          go_ret
          exact ⟨rfl, hbC⟩
    · have hpi : (10 : Int) < (pl : Int) := by omega
      go_enter Tryd.func6, Tryd.ntmps6
      go_wp2_with (go_at_call 18; refine (awake3_any _ HT.out).mono ?_; rintro e w1 ⟨rfl, hb1⟩)
      go_ret
      exact ⟨rfl, hb1⟩
  · have hli : (300 : Int) < (len : Int) := by omega
    go_enter Tryd.func6, Tryd.ntmps6
    go_wp2_with (go_at_call 18; refine (awake3_any _ HT.out).mono ?_; rintro e w1 ⟨rfl, hb1⟩)
    go_ret
    exact ⟨rfl, hb1⟩
end Go.Proofs.YtokjbldelpiejaaDoor
