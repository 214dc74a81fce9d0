/-
  Next, and the reference's.
-/
import Derived.Test.YtkhhlcjjdkldjaaCmt
namespace Go.Proofs.Ytkhhlcjjdkldjaa
open Go.RowKit

def behindN (s : Nat) : Nat := if s = 18446744073709551615 then s else s + 1
def nextN (cs : List (Value × Cmt)) : Nat := cs.foldl (fun n e => max n (behindN e.2.seq)) 0
theorem nextN_snoc (cs : List (Value × Cmt)) (e : Value × Cmt) : nextN (cs ++ [e]) = max (nextN cs) (behindN e.2.seq) := by
  simp [nextN, List.foldl_append]
theorem behind_lt {s : Nat} (h : s < 18446744073709551616) : behindN s < 18446744073709551616 := by
  unfold behindN; split <;> omega
theorem next_lt {cs : List (Value × Cmt)} (h : ∀ e ∈ cs, e.1.oneCell' = true ∧ e.2.ok) : nextN cs < 18446744073709551616 := by
  have key : ∀ (l : List (Value × Cmt)) (n : Nat), (∀ e ∈ l, e.1.oneCell' = true ∧ e.2.ok) → n < 18446744073709551616 → l.foldl (fun n e => max n (behindN e.2.seq)) n < 18446744073709551616 := by
    intro l
    induction l with
    | nil => intro n _ hn; exact hn
    | cons a r ih =>
      intro n hl hn
      have := behind_lt (hl a (by simp)).2.2.2.1
      exact ih _ (fun e he => hl e (by simp [he])) (by simp only [Nat.max_def]; split <;> omega)
  exact key cs 0 h (by omega)
theorem next_ge {cs : List (Value × Cmt)} {e : Value × Cmt} (he : e ∈ cs) : behindN e.2.seq ≤ nextN cs := by
  have key : ∀ (l : List (Value × Cmt)) (n : Nat), n ≤ l.foldl (fun n e => max n (behindN e.2.seq)) n ∧ (e ∈ l → behindN e.2.seq ≤ l.foldl (fun n e => max n (behindN e.2.seq)) n) := by
    intro l
    induction l with
    | nil => intro n; exact ⟨Nat.le_refl _, fun h => by cases h⟩
    | cons a r ih =>
      intro n
      have h := ih (max n (behindN a.2.seq))
      have h1 : n ≤ max n (behindN a.2.seq) := Nat.le_max_left _ _
      have h2 : behindN a.2.seq ≤ max n (behindN a.2.seq) := Nat.le_max_right _ _
      refine ⟨Nat.le_trans h1 h.1, fun hm => ?_⟩
      rcases List.mem_cons.1 hm with rfl | hm
      · exact Nat.le_trans h2 h.1
      · exact h.2 hm
  exact (key cs 0).2 he
theorem next_full {cs : List (Value × Cmt)} (h : ∀ e ∈ cs, e.1.oneCell' = true ∧ e.2.ok) {e : Value × Cmt} (he : e ∈ cs) (hs : e.2.seq = 18446744073709551615) : nextN cs = 18446744073709551615 := by
  have h1 := next_lt h
  have h2 := next_ge he
  rw [behindN, if_pos hs, hs] at h2
  omega

set_option maxRecDepth 100000 in
theorem behind_any (s : Nat) (hs : s < 18446744073709551616) (w : World) : Calls Try.prog 44 #[.int .u64 (s : Nat)] w fun e w' => e = .returned (.int .u64 (behindN s : Nat)) ∧ w' = w := by
  by_cases h : s = 18446744073709551615
  · subst h
    go_enter Try.func44, Try.ntmps44
    go_wp2
    go_ret
    exact ⟨rfl, rfl⟩
  · have hi : ¬ (s : Int) = 18446744073709551615 := by omega
    have HB : Hid (behindN s = s + 1) := by show _ = _; rw [behindN, if_neg h]
    go_enter Try.func44, Try.ntmps44
    go_wp2
    go_ret
    refine ⟨?_, rfl⟩
    rw [HB.out]
    rfl

set_option maxRecDepth 100000 in
set_option maxHeartbeats 1000000 in
theorem next_any (p : Option Addr) (len cap : Nat) (cs : List (Value × Cmt)) (w : World) (hI : IsCmts w.heap.size w p len cap cs) :
    Calls Try.prog 18 #[.slice p len cap] w fun e w' => e = .returned (.int .u64 (nextN cs : Nat)) ∧ Below w.heap.size w w' := by
  have HI : Hid (IsCmts w.heap.size w p len cap cs) := hI
  have HL : Hid (cs.length = len) := hI.1
  have hlc := hI.2.1
  have hcc := hI.2.2.1
  clear hI
  go_enter Try.func18, Try.ntmps18
  go_wp2
  go_loopw [3, 8] (fun v i wr => ∃ (k : Nat), k ≤ len ∧ i = .int .i64 k ∧ v = .int .u64 (nextN (cs.take k) : Nat) ∧ Below w.heap.size w wr) (fun _ i _ => len - (intOf i).toNat)
  case atStart => exact ⟨0, Nat.zero_le _, rfl, rfl, Below.refl _ _⟩
  case round =>
    obtain ⟨k, hk, rfl, rfl, hbel⟩ := hrel
    by_cases hlt : k < len
    · have hki : (k : Int) < (len : Int) := by omega
      obtain ⟨b, off, rfl, hb, hrg, h1c, hok⟩ := (HI.out.below hbel).at hlt
      have HT : Hid (nextN (cs.take (k + 1)) = max (nextN (cs.take k)) (behindN (cs.getD k (undef, noCmt)).2.seq)) := by show _ = _; rw [cmt_take cs (by rw [HL.out]; exact hlt), nextN_snoc]
      have HRg : Hid (wr.rangeAt b (off + k * 68) (cmtC (cs.getD k (undef, noCmt)).1 (cs.getD k (undef, noCmt)).2)) := hrg
      clear hrg
      generalize (cs.getD k (undef, noCmt)).1 = s at *
      generalize (cs.getD k (undef, noCmt)).2 = c at *
      generalize nextN (cs.take k) = n at *
      have hsz := hbel.size
      have HN := behind_any c.seq hok.2.2.1
      generalize behindN c.seq = m at *
      go_wp2_with (first
        | ((with_reducible show wpList _ _ _ (Oper.mk _ (Op.load 29 (.tmp 10)) _ _ _ _ :: _) _ _); refine wpList_loadCmt rfl (.tmp 10) rfl rfl hok HRg.out ?_; simp only [Act.put, List.setIfInBounds_toArray, List.set_cons_zero, List.set_cons_succ])
        | ((with_reducible show wpList _ _ _ (Oper.mk _ (Op.store 29 (.tmp 5) (.tmp 11)) _ _ _ _ :: _) _ _); refine wpList_storeNew rfl (.tmp 5) (.tmp 11) rfl s h1c c hok rfl rfl (fun W2 hb2 hE => ?_); have hcS := hE.seq; clear hE; simp only [Act.put])
        | (go_at_call 44; refine (HN _).mono ?_; rintro e w3 ⟨rfl, rfl⟩))
      go_roundw
      case rel =>
        refine ⟨k + 1, by omega, by go_num, ?_, hbel.trans (hb2.mono hsz)⟩
        rw [HT.out, Nat.max_def]
        split <;> split <;> first | rfl | (congr 1; omega)
      case measure => simp [intOf]; omega
    · obtain rfl : k = len := by omega
      have HE : Hid (nextN (cs.take k) = nextN cs) := by show _ = _; rw [List.take_of_length_le (by rw [HL.out]; exact Nat.le_refl _)]
      go_wp2
      go_ret
      refine ⟨?_, hbel⟩
      rw [← HE.out]
      rfl

set_option maxRecDepth 100000 in
set_option maxHeartbeats 1000000 in
theorem refNext_any (p : Option Addr) (len cap : Nat) (cs : List (Value × Cmt)) (w : World) (hI : IsCmts w.heap.size w p len cap cs) :
    Calls Try.prog 19 #[.slice p len cap] w fun e w' => e = .returned (.int .u64 (nextN cs : Nat)) ∧ Below w.heap.size w w' := by
  have HI : Hid (IsCmts w.heap.size w p len cap cs) := hI
  have HL : Hid (cs.length = len) := hI.1
  have hlc := hI.2.1
  have hcc := hI.2.2.1
  have HF : Hid (∀ k, k < cs.length → (cs.getD k (undef, noCmt)).2.seq = 18446744073709551615 → nextN cs = 18446744073709551615) := fun k hk hs => next_full hI.2.2.2.1 (cmt_mem hk) hs
  clear hI
  go_enter Try.func19, Try.ntmps19
  go_wp2
  go_loopw [3, 8] (fun v i wr => ∃ (k : Nat), k ≤ len ∧ i = .int .i64 k ∧ v = .int .u64 (nextN (cs.take k) : Nat) ∧ Below w.heap.size w wr) (fun _ i _ => len - (intOf i).toNat)
  case atStart => exact ⟨0, Nat.zero_le _, rfl, rfl, Below.refl _ _⟩
  case round =>
    obtain ⟨k, hk, rfl, rfl, hbel⟩ := hrel
    by_cases hlt : k < len
    · have hki : (k : Int) < (len : Int) := by omega
      obtain ⟨b, off, rfl, hb, hrg, h1c, hok⟩ := (HI.out.below hbel).at hlt
      have HT : Hid (nextN (cs.take (k + 1)) = max (nextN (cs.take k)) (behindN (cs.getD k (undef, noCmt)).2.seq)) := by show _ = _; rw [cmt_take cs (by rw [HL.out]; exact hlt), nextN_snoc]
      have HFk := HF.out k (by rw [HL.out]; exact hlt)
      have HRg : Hid (wr.rangeAt b (off + k * 68) (cmtC (cs.getD k (undef, noCmt)).1 (cs.getD k (undef, noCmt)).2)) := hrg
      clear hrg
      generalize (cs.getD k (undef, noCmt)).1 = s at *
      generalize (cs.getD k (undef, noCmt)).2 = c at *
      generalize nextN (cs.take k) = n at *
      have hsz := hbel.size
      by_cases hm : c.seq = 18446744073709551615
      · have hmi : (c.seq : Int) = 18446744073709551615 := by omega
        have HFm : Hid (nextN cs = 18446744073709551615) := HFk hm
        clear HFk
        go_wp2_with (first
          | ((with_reducible show wpList _ _ _ (Oper.mk _ (Op.load 29 (.tmp 10)) _ _ _ _ :: _) _ _); refine wpList_loadCmt rfl (.tmp 10) rfl rfl hok HRg.out ?_; simp only [Act.put, List.setIfInBounds_toArray, List.set_cons_zero, List.set_cons_succ])
          | ((with_reducible show wpList _ _ _ (Oper.mk _ (Op.store 29 (.tmp 5) (.tmp 11)) _ _ _ _ :: _) _ _); refine wpList_storeNew rfl (.tmp 5) (.tmp 11) rfl s h1c c hok rfl rfl (fun W2 hb2 hE => ?_); have hcS := hE.seq; clear hE; simp only [Act.put]))
        go_ret
        refine ⟨?_, hbel.trans (hb2.mono hsz)⟩
        rw [HFm.out]
        rfl
      · have hmi : ¬ (c.seq : Int) = 18446744073709551615 := by omega
        have HB : Hid (behindN c.seq = c.seq + 1) := by show _ = _; rw [behindN, if_neg hm]
        have hsl := hok.2.2.1
        clear HFk
        by_cases hg : n < c.seq + 1
        · have hgi : (n : Int) < (c.seq : Int) + 1 := by omega
          go_wp2_with (first
            | ((with_reducible show wpList _ _ _ (Oper.mk _ (Op.load 29 (.tmp 10)) _ _ _ _ :: _) _ _); refine wpList_loadCmt rfl (.tmp 10) rfl rfl hok HRg.out ?_; simp only [Act.put, List.setIfInBounds_toArray, List.set_cons_zero, List.set_cons_succ])
            | ((with_reducible show wpList _ _ _ (Oper.mk _ (Op.store 29 (.tmp 5) (.tmp 11)) _ _ _ _ :: _) _ _); refine wpList_storeNew rfl (.tmp 5) (.tmp 11) rfl s h1c c hok rfl rfl (fun W2 hb2 hE => ?_); have hcS := hE.seq; clear hE; simp only [Act.put]))
          go_roundw
          case rel =>
            refine ⟨k + 1, by omega, by go_num, ?_, hbel.trans (hb2.mono hsz)⟩
            rw [HT.out, HB.out, Nat.max_def, if_pos (by omega)]
            rfl
          case measure => simp [intOf]; omega
        · have hgi : ¬ (n : Int) < (c.seq : Int) + 1 := by omega
          go_wp2_with (first
            | ((with_reducible show wpList _ _ _ (Oper.mk _ (Op.load 29 (.tmp 10)) _ _ _ _ :: _) _ _); refine wpList_loadCmt rfl (.tmp 10) rfl rfl hok HRg.out ?_; simp only [Act.put, List.setIfInBounds_toArray, List.set_cons_zero, List.set_cons_succ])
            | ((with_reducible show wpList _ _ _ (Oper.mk _ (Op.store 29 (.tmp 5) (.tmp 11)) _ _ _ _ :: _) _ _); refine wpList_storeNew rfl (.tmp 5) (.tmp 11) rfl s h1c c hok rfl rfl (fun W2 hb2 hE => ?_); have hcS := hE.seq; clear hE; simp only [Act.put]))
          go_roundw
          case rel =>
            refine ⟨k + 1, by omega, by go_num, ?_, hbel.trans (hb2.mono hsz)⟩
            rw [HT.out, HB.out, Nat.max_def]
            split
            · congr 1; omega
            · rfl
          case measure => simp [intOf]; omega
    · obtain rfl : k = len := by omega
      have HE : Hid (nextN (cs.take k) = nextN cs) := by show _ = _; rw [List.take_of_length_le (by rw [HL.out]; exact Nat.le_refl _)]
      clear HF
      go_wp2
      go_ret
      refine ⟨?_, hbel⟩
      rw [← HE.out]
      rfl
end Go.Proofs.Ytkhhlcjjdkldjaa
