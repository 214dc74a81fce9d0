/-
  What route.between tells: what stands between the slashes of a path, nothing of the empty one.
-/
import Derived.Test.YtkpjbleogjmbjaaDoorRouteA
import Derived.Test.YtkpjbleogjmbjaaDoorBaseAll
import Derived.RegionIn
namespace Go.Proofs.YtkpjbleogjmbjaaDoor
open Go.RowKit Go.Shelf
attribute [local go_sem] Oper.semAt_some

/-- A scope without a goto, under the widest fence. -/
theorem wpIn_scope_wide {P : Program} {Q : Exit → Act → World → Prop} {m : Nat} {c : Code} {a : Act} {w : World} (h : c.wpIn Fence.wide m P (Exit.noGoto Q) a w) : (Code.scope c).wpIn Fence.wide m P Q a w := wpIn_wide.2 (wp_scope_straight (wpIn_wide.1 h))

/-- The text of some bytes. -/
abbrev txt (l : List UInt8) : ByteArray := ⟨l.toArray⟩
theorem txt_bytes (s : ByteArray) : txt (bytesOf s) = s := by cases s; simp [bytesOf]
theorem bytes_txt (l : List UInt8) : bytesOf (txt l) = l := by simp [bytesOf]

set_option maxHeartbeats 1000000 in
theorem between_any (s : ByteArray) (w : World) :
    Calls Tryd.prog 15 #[.string s] w fun e w' => e = .returned (.func (.func 23) #[] #[.pointer (some ⟨w.heap.size, 0, none⟩)]) ∧ w' = w.alloc (.cells #[.string s] 9) := by
  go_enter Tryd.func15, Tryd.ntmps15
  go_wp2
  go_ret
  exact ⟨rfl, rfl⟩

set_option maxRecDepth 100000 in
set_option maxHeartbeats 2000000 in
theorem between1_some (n : Nat) (hn : 2 ≤ n) (l B : Nat) (s : ByteArray) (hs : s.size ≤ 1000000) (hne : (s.toList == []) = false) (W : World) (hB : Boxed W B 9 (.string s)) :
    IterAt Fence.wide n Tryd.prog 23 #[.pointer (some ⟨B, 0, none⟩)] (fun x : ByteArray => #[.string x]) (fun x _ => x.size ≤ s.size) (fun X Y => Boxed X B 9 (.string s) → Boxed Y B 9 (.string s)) (fun xs => xs.map bytesOf = cutL (bytesOf s)) (fun pre => pre.map bytesOf <+: cutL (bytesOf s)) (s.size + 1) l W := by
  intro J Jx hJ hJx hY h0
  have hfn : ∀ f, Fence.wide.fn f := fun _ => trivial
  have hc := hB.cell
  refine callsIn_of_wp Tryd.func23 rfl trivial ?_ rfl
  simp only [Tryd.ntmps23, List.size_toArray, List.length_cons, List.length_nil, Nat.reduceAdd, Nat.reduceSub, Array.replicate_succ, Array.replicate_zero, List.push_toArray, List.append_toArray, List.nil_append, List.cons_append]
  refine wpIn_scope_wide ?_
  gi_wp2
  refine wpIn_label ?_
  gi_wp2
  gi_loopw [3] (fun r wr => ∃ (f : Nat) (pre : List ByteArray), f ≤ s.size ∧ r = .int .i64 f ∧ pre.map bytesOf ++ cutL ((bytesOf s).drop f) = cutL (bytesOf s) ∧ pre.length ≤ f ∧ J pre wr ∧ Boxed wr B 9 (.string s)) (fun r _ => s.size + 1 - (intOf r).toNat)
  case atStart => exact ⟨0, [], Nat.zero_le _, rfl, by simp, by simp, h0, hB⟩
  case round =>
    obtain ⟨f, pre, hf, rfl, hcut, hpl, hj, hbx⟩ := hrel
    have hc := hbx.cell
    gi_wp2
    obtain ⟨wo, rfl⟩ : ∃ wo, wo = wr := ⟨_, rfl⟩
    have HC : Hid (pre.map bytesOf ++ cutL ((bytesOf s).drop f) = cutL (bytesOf s)) := hcut
    clear hcut
    gi_loopw [3, 4] (fun q r wr => ∃ (t : Nat), f ≤ t ∧ t ≤ s.size ∧ q = .int .i64 f ∧ r = .int .i64 t ∧ (∀ c ∈ ((bytesOf s).drop f).take (t - f), c ≠ 47) ∧ wr = wo) (fun _ r _ => s.size - (intOf r).toNat)
    case atStart => exact ⟨f, Nat.le_refl _, hf, rfl, rfl, by simp, rfl⟩
    case round =>
      obtain ⟨t, hft, hts, rfl, rfl, hns, rfl⟩ := hrel
      have HN : Hid (∀ c ∈ ((bytesOf s).drop f).take (t - f), c ≠ 47) := hns
      clear hns
      by_cases hlt : t < s.size
      · have hti : (t : Int) < (s.size : Int) := by omega
        have HT : Hid ((bytesOf s)[t]? = some (s[t]'hlt)) := bytesOf_at s t hlt
        have HD : Hid ((bytesOf s).drop t = s[t]'hlt :: (bytesOf s).drop (t + 1)) := by
          have hl : t < (bytesOf s).length := by rw [bytesOf_length]; exact hlt
          show _ = _
          rw [List.drop_eq_getElem_cons hl]
          have := HT.out
          rw [List.getElem?_eq_getElem hl] at this
          rw [Option.some.inj this]
        obtain ⟨c, hcc⟩ : ∃ c, s[t]'hlt = c := ⟨_, rfl⟩
        rw [hcc] at HT HD
        have HSp : Hid ((bytesOf s).drop f = ((bytesOf s).drop f).take (t - f) ++ (bytesOf s).drop t) := by
          show _ = _
          have := List.take_append_drop (t - f) ((bytesOf s).drop f)
          rw [List.drop_drop, show f + (t - f) = t by omega] at this
          exact this.symm
        rcases Bool.eq_false_or_eq_true (c == 47) with e1 | e1
        · have h47 : c = 47 := by simpa using e1
          have n47 : ((c.toNat : Int) != 47) = false := by rw [bne, c47, e1]; rfl
          have hfi : (f : Int) ≤ (t : Int) := by omega
          obtain ⟨fn, tmps, assign, body, hy, hR⟩ := hY pre (s.extract f t) wr hj (by rw [extract_size s f t (by omega)]; omega) (by omega)
          have HJ : Hid ((pre ++ [s.extract f t]).map bytesOf ++ cutL ((bytesOf s).drop (t + 1)) = cutL (bytesOf s)) := by
            show _ = _
            rw [List.map_append, List.append_assoc, ← HC.out]
            refine congrArg _ ?_
            show [bytesOf (s.extract f t)] ++ _ = _
            rw [extract_bytes, List.singleton_append, ← cutL_slash _ _ HN.out]
            refine congrArg cutL ?_
            conv => rhs; rw [HSp.out, HD.out, h47]
          clear h47 e1
          gi_wp2
          refine ⟨fun _ => by omega, RoundIn.mono hR ?_⟩
          rintro e W3 (⟨rfl, hJ3, hk3⟩ | ⟨rfl, hJ3, hk3⟩)
          · gi_wp2
            refine ⟨⟨t + 1, pre ++ [s.extract f t], by omega, by push_cast; rfl, HJ.out, by simp; omega, hJ3, hk3 hbx⟩, ?_⟩
            simp only [intOf]; omega
          · gi_wp2
            rw [Exit.noGoto_ret]
            refine bodyPost_ret (results_none rfl _ _ _) rfl ?_
            exact ⟨⟨_, rfl⟩, .inr ⟨_, ⟨_, HJ.out⟩, hJ3⟩⟩
        · have n47 : ((c.toNat : Int) != 47) = true := by rw [bne, c47, e1]; rfl
          have HM : Hid (∀ d ∈ ((bytesOf s).drop f).take (t + 1 - f), d ≠ 47) := fun d hd => by
            rw [HSp.out, HD.out, List.take_append] at hd
            rcases List.mem_append.1 hd with hd | hd
            · exact HN.out d (List.mem_of_mem_take hd)
            · have hl : (((bytesOf s).drop f).take (t - f)).length = t - f := by rw [List.length_take, List.length_drop, bytesOf_length]; omega
              rw [hl, show t + 1 - f - (t - f) = 1 by omega] at hd
              simp at hd
              subst hd
              simpa using e1
          clear e1
          gi_wp2
          go_roundw
          case rel => exact ⟨t + 1, by omega, by omega, rfl, by go_num, HM.out, trivial⟩
          case measure => simp [intOf]; omega
      · obtain rfl : t = s.size := by omega
        obtain ⟨fn, tmps, assign, body, hy, hR⟩ := hY pre (s.extract f s.size) wr hj (by rw [extract_size s f _ (by omega)]; omega) (by omega)
        have HJ : Hid ((pre ++ [s.extract f s.size]).map bytesOf = cutL (bytesOf s)) := by
          show _ = _
          rw [List.map_append, ← HC.out]
          refine congrArg _ ?_
          have e : ((bytesOf s).drop f).take (s.size - f) = (bytesOf s).drop f := List.take_of_length_le (by rw [List.length_drop, bytesOf_length]; exact Nat.le_refl _)
          show [bytesOf (s.extract f s.size)] = _
          have := HN.out
          rw [e] at this
          rw [extract_bytes, e, cutL_none _ this]
        gi_wp2
        refine ⟨fun _ => by omega, RoundIn.mono hR ?_⟩
        rintro e W3 (⟨rfl, hJ3, hk3⟩ | ⟨rfl, hJ3, hk3⟩)
        · gi_wp2
          rw [Exit.noGoto_ret]
          refine bodyPost_ret (results_none rfl _ _ _) rfl ?_
          exact ⟨⟨_, rfl⟩, .inl ⟨_, HJ.out, hJ3⟩⟩
        · gi_wp2
          rw [Exit.noGoto_ret]
          refine bodyPost_ret (results_none rfl _ _ _) rfl ?_
          exact ⟨⟨_, rfl⟩, .inr ⟨_, ⟨[], by rw [HJ.out, List.append_nil]⟩, hJ3⟩⟩

/-- What is told of a path. -/
def toldL (l : List UInt8) : List (List UInt8) := if l = [] then [] else cutL l

set_option maxRecDepth 100000 in
set_option maxHeartbeats 1000000 in
theorem between1_iter (n : Nat) (hn : 2 ≤ n) (l B : Nat) (s : ByteArray) (hs : s.size ≤ 1000000) (W : World) (hB : Boxed W B 9 (.string s)) :
    IterAt Fence.wide n Tryd.prog 23 #[.pointer (some ⟨B, 0, none⟩)] (fun x : ByteArray => #[.string x]) (fun x _ => x.size ≤ s.size) (fun X Y => Boxed X B 9 (.string s) → Boxed Y B 9 (.string s)) (fun xs => xs.map bytesOf = toldL (bytesOf s)) (fun pre => pre.map bytesOf <+: toldL (bytesOf s)) (s.size + 1) l W := by
  rcases Bool.eq_false_or_eq_true (s.toList == []) with e | e
  · intro J Jx hJ hJx hY h0
    have he : Hid (toldL (bytesOf s) = []) := by
      show _ = _
      rw [ByteArray.toList_eq] at e
      rw [toldL, if_pos (by simpa using e)]
    have hfn : ∀ f, Fence.wide.fn f := fun _ => trivial
    have hc := hB.cell
    refine callsIn_of_wp Tryd.func23 rfl trivial ?_ rfl
    simp only [Tryd.ntmps23, List.size_toArray, List.length_cons, List.length_nil, Nat.reduceAdd, Nat.reduceSub, Array.replicate_succ, Array.replicate_zero, List.push_toArray, List.append_toArray, List.nil_append, List.cons_append]
    refine wpIn_scope_wide ?_
    gi_wp2
    refine bodyPost_ret (results_none rfl _ _ _) rfl ?_
    exact ⟨⟨_, rfl⟩, .inl ⟨[], by rw [he.out]; rfl, h0⟩⟩
  · have he : toldL (bytesOf s) = cutL (bytesOf s) := by
      rw [ByteArray.toList_eq] at e
      rw [toldL, if_neg (by simpa using e)]
    rw [he]
    exact between1_some n hn l B s hs e W hB
end Go.Proofs.YtkpjbleogjmbjaaDoor
