/-
  slices.Delete of one place among what was asked: the others stand, one behind the other, in the same row. Nothing else has turned.
-/
import Derived.Test.YtobmcaknfbooiaaDoorIndex
import Derived.ArgAppend
namespace Go.Proofs.YtobmcaknfbooiaaDoor
open Go.RowKit Go.Shelf

/-- Nothing is appended. -/
theorem run_append_none {P : Program} (w : World) (t ty e : TypeId) (i : TypeInfo) (ht : P.underlying t = some (.slice e)) (hi : P.info? e = some i) (b off sLen sCap : Nat) (q : Option Addr) (c : Nat) (h : sLen ≤ sCap) :
    (Builtin.append_ #[t, t] ty #[.slice (some ⟨b, off, none⟩) sLen sCap, .slice q 0 c]).run P w = .ok (.slice (some ⟨b, off, none⟩) sLen sCap) w := by
  cases q with
  | none => simp [Builtin.append_, run_underlying ht, sizeOf, typeInfo, hi, Builtin.lenOf, h, Builtin.firstCells, storeCells]
  | some a =>
    have := run_append_room_cells (P := P) w t ty e i ht hi b off sLen sCap a 0 c [] (by simp) (by simp) (by simp) (by omega) (by simp) (by simp)
    simpa [World.setCells] using this

theorem wp_append_of {P : Program} {o : Oper} {a : Act} {w w' : World} {K : Act → World → Prop} {Q : Exit → Act → World → Prop} (s x : Operand) (t : TypeId) (ho : o.op = .call { callee := .builtin .append, args := #[s, x], argTypes := #[t, t] })
    {vs vx v : Value} (hs : a.eval s = vs) (hx : a.eval x = vx) (hrun : (Builtin.append_ #[t, t] o.type #[vs, vx]).run P w = .ok v w') (h : K (a.put o.dst v) w') : Oper.wp P o a w K Q := by
  unfold Oper.wp
  simp [execOp, ho, resolve, invoke, builtin, hs, hx, hrun, Result.andThen]
  exact h

/-- 34 cells as make leaves them. -/
def noAsked : List Value := List.replicate 32 (.int .u8 0) ++ [.string ByteArray.empty, .string ByteArray.empty]
theorem noAsked_length : noAsked.length = 34 := rfl
theorem noAsked_one : ∀ v ∈ noAsked, v.oneCell' = true := by
  intro v hv
  simp only [noAsked, List.mem_append, List.mem_replicate, List.mem_cons, List.not_mem_nil, or_false] at hv
  rcases hv with ⟨_, rfl⟩ | rfl | rfl <;> rfl
theorem zero72 (w : World) : (zeroValue 72).run Tryd.prog w = .ok (.agg noAsked.toArray) w := by kernel_rfl
theorem zeroCells72 : (Builtin.zeroCells (Value.agg noAsked.toArray).cells 1).toList = noAsked := by kernel_rfl
theorem info72 : (Tryd.prog.info? 72).map (fun i => (i.zero, i.size, i.bytes)) = some (some (.agg noAsked.toArray), 34, 64) := by kernel_rfl

/-- One place is cleared. -/
theorem run_clear_one (w : World) (ty : TypeId) (g o c : Nat) (ht : w.there g o 34) : (Builtin.clear_ #[101] ty #[.slice (some ⟨g, o, none⟩) 1 c]).run Tryd.prog w = .ok (.tuple #[]) (w.setCells g o noAsked) := by
  have hst := run_storeCells_cells (P := Tryd.prog) g o noAsked 0 w (fun j hj => by simpa using (ht j (by rw [noAsked_length] at hj; exact hj)).1) (fun j hj => by simpa using (ht j (by rw [noAsked_length] at hj; exact hj)).2) noAsked_one
  simp only [Nat.add_zero] at hst
  have hz := zero72
  have hc := zeroCells72
  generalize noAsked = N at *
  simp [Builtin.clear_, run_underlying Tryd.underlying101, hz, hc, hst, Result.andThen]

theorem flatten_take {xs : List (List Value)} (h : ∀ c ∈ xs, c.length = 34) : ∀ (i : Nat), i ≤ xs.length → xs.flatten.take (i * 34) = (xs.take i).flatten := by
  induction xs with
  | nil => intro i _; simp
  | cons d xs ih =>
    intro i hi
    cases i with
    | zero => simp
    | succ i =>
      rw [List.flatten_cons, List.take_succ_cons, List.flatten_cons, show (i + 1) * 34 = d.length + i * 34 by rw [h d (by simp)]; omega, List.take_length_add_append, ih (fun e he => h e (by simp [he])) i (by simpa using hi)]
theorem flatten_drop {xs : List (List Value)} (h : ∀ c ∈ xs, c.length = 34) : ∀ (i : Nat), i ≤ xs.length → xs.flatten.drop (i * 34) = (xs.drop i).flatten := by
  induction xs with
  | nil => intro i _; simp
  | cons d xs ih =>
    intro i hi
    cases i with
    | zero => simp
    | succ i =>
      rw [List.flatten_cons, List.drop_succ_cons, show (i + 1) * 34 = d.length + i * 34 by rw [h d (by simp)]; omega, List.drop_length_add_append, ih (fun e he => h e (by simp [he])) i (by simpa using hi)]

/-- The row behind Delete. -/
theorem deleted {xs : List (List Value)} {cur : List Value} {n cap i : Nat} (h : ∀ c ∈ xs, c.length = 34) (hn : xs.length = n) (hi : i < n) (hc : cur.length = cap * 34) (hnc : n ≤ cap) (ht : cur.take (n * 34) = xs.flatten) :
    (putAt (putAt cur (i * 34) (xs.drop (i + 1)).flatten) ((n - 1) * 34) noAsked).take ((n - 1) * 34) = (xs.eraseIdx i).flatten ∧ (putAt (putAt cur (i * 34) (xs.drop (i + 1)).flatten) ((n - 1) * 34) noAsked).length = cap * 34 := by
  have l1 : ((xs.drop (i + 1)).flatten).length = (n - 1 - i) * 34 := by
    rw [flatten_length (fun c hc => h c (List.mem_of_mem_drop hc)), List.length_drop, hn]
    congr 1
    omega
  have e1 := putAt_eq (xs.drop (i + 1)).flatten cur (i * 34) (by rw [l1, hc]; omega)
  have l2 : (putAt cur (i * 34) (xs.drop (i + 1)).flatten).length = cap * 34 := by
    rw [e1]
    simp only [List.length_append, List.length_take, List.length_drop, l1, hc]
    omega
  have e2 := putAt_eq noAsked (putAt cur (i * 34) (xs.drop (i + 1)).flatten) ((n - 1) * 34) (by rw [l2, noAsked_length]; omega)
  refine ⟨?_, ?_⟩
  · rw [e2, List.append_assoc, List.take_left' (by rw [List.length_take, l2]; omega), e1]
    have hti : cur.take (i * 34) = (xs.take i).flatten := by
      rw [← flatten_take h i (by omega), ← ht, List.take_take, Nat.min_eq_left (by omega)]
    rw [hti, List.take_left', List.eraseIdx_eq_take_drop_succ, List.flatten_append]
    rw [List.length_append, l1, flatten_length (fun c hc => h c (List.mem_of_mem_take hc)), List.length_take, hn]
    omega
  · rw [e2]
    simp only [List.length_append, List.length_take, List.length_drop, l2, noAsked_length]
    omega

set_option maxRecDepth 100000 in
set_option maxHeartbeats 2000000 in
theorem delete_one (g cap i : Nat) (xs : List (List Value)) (cur : List Value) (hx : AskedAll xs) (hi : i < xs.length) (hnc : xs.length ≤ cap) (hcb : cap ≤ 9223372036854775807) (hcl : cur.length = cap * 34) (ht : cur.take (xs.length * 34) = xs.flatten) (h1 : ∀ v ∈ xs.flatten, v.oneCell' = true) (w : World) (hr : Row w g 72 cur) :
    Calls Tryd.prog 58 #[.slice (some ⟨g, 0, none⟩) xs.length cap, .int .i64 (i : Nat), .int .i64 (i + 1 : Nat)] w fun e w' => e = .returned (.slice (some ⟨g, 0, none⟩) (xs.length - 1 : Nat) cap) ∧ AskOwn w' (.slice (some ⟨g, 0, none⟩) (xs.length - 1 : Nat) cap) (xs.eraseIdx i) ∧ But g w.heap.size w w' := by
  obtain ⟨n, hn⟩ : ∃ n, xs.length = n := ⟨_, rfl⟩
  obtain ⟨i0, hi0, hz0, hz1, hz2⟩ := info_parts info72
  have hgl := hr.lt
  have hin : i < n := hn ▸ hi
  have hncn : n ≤ cap := hn ▸ hnc
  have hdel := deleted hx.len hn hin hcl hncn (by rw [← hn]; exact ht)
  have hel : (xs.eraseIdx i).length = n - 1 := by rw [List.length_eraseIdx_of_lt hi, hn]
  have hef : (xs.eraseIdx i).flatten.length = (n - 1) * 34 := by rw [flatten_length (fun c hc => hx.len c (List.mem_of_mem_eraseIdx hc)), hel]
  have hnl : ((xs.drop (i + 1)).flatten).length = (n - (i + 1)) * 34 := by rw [flatten_length (fun c hc => hx.len c (List.mem_of_mem_drop hc)), List.length_drop, hn]
  obtain ⟨news, hnews⟩ : ∃ news, (xs.drop (i + 1)).flatten = news := ⟨_, rfl⟩
  have hn1 : ∀ v ∈ news, v.oneCell' = true := fun v hv => h1 v (by
    rw [← hnews, ← flatten_drop hx.len (i + 1) (by omega)] at hv
    exact List.mem_of_mem_drop hv)
  have hsrc : ∀ j u, news[j]? = some u → w.cell? ⟨g, (i + 1) * 34 + j, none⟩ = some u := fun j u hu => by
    have hj : j < (n - (i + 1)) * 34 := by rw [hnews] at hnl; rw [← hnl]; exact (List.getElem?_eq_some_iff.1 hu).1
    refine hr.cell ?_
    have e1 : cur[(i + 1) * 34 + j]? = (cur.take (n * 34))[(i + 1) * 34 + j]? := by
      rw [List.getElem?_take, if_pos (by omega)]
    rw [e1, ← hn, ht, ← List.getElem?_drop, flatten_drop hx.len (i + 1) (by omega), hnews, hu]
  rw [hnews] at hdel hnl
  -- the append, and what is left behind it
  have happ : ∀ ty q c, (n - (i + 1) = 0 ∨ q = some (⟨g, (i + 1) * 34, none⟩ : Addr)) → (Builtin.append_ #[101, 101] ty #[.slice (some ⟨g, 0, none⟩) i cap, .slice q (n - (i + 1) : Nat) c]).run Tryd.prog w.drew = .ok (.slice (some ⟨g, 0, none⟩) (n - 1 : Nat) cap) (w.drew.setCells g (i * 34) news) := fun ty q c hq => by
    by_cases h0 : n - (i + 1) = 0
    · have hnil : news = [] := List.eq_nil_of_length_eq_zero (by rw [hnl, h0])
      rw [h0, hnil, World.setCells, show n - 1 = i by omega]
      exact run_append_none w.drew 101 ty 72 i0 Tryd.underlying101 hi0 g 0 i cap q c (by omega)
    · obtain rfl : q = some ⟨g, (i + 1) * 34, none⟩ := hq.resolve_left h0
      have := run_append_room_cells (P := Tryd.prog) w.drew 101 ty 72 i0 Tryd.underlying101 hi0 g 0 i cap ⟨g, (i + 1) * 34, none⟩ (n - (i + 1)) c news (by rw [hnl, hz1]) (fun j u hu => by rw [Addr.add_mid]; exact hsrc j u hu) hn1 (by omega)
        (fun j hj => by
          have h2 : 0 + i * i0.size + j < cur.length := by rw [hz1, hcl]; rw [hnl] at hj; omega
          have := hr.cell (i := 0 + i * i0.size + j) (List.getElem?_eq_getElem h2)
          show (w.cell? _).isSome = true
          rw [this]; rfl)
        (fun j _ => hr.frozen _)
      rw [hz1, Nat.zero_add] at this
      rw [this]
      congr 2
      omega
  have hrow2 : Row (w.drew.setCells g (i * 34) news) g 72 (putAt cur (i * 34) news) := Row.sets news (i * 34) hr.drew
  have hclear : ∀ ty, (Builtin.clear_ #[101] ty #[.slice (some ⟨g, (n - 1) * 34, none⟩) 1 (cap - (n - 1))]).run Tryd.prog (w.drew.setCells g (i * 34) news) = .ok (.tuple #[]) ((w.drew.setCells g (i * 34) news).setCells g ((n - 1) * 34) noAsked) := fun ty => by
    refine run_clear_one _ ty g _ _ (fun j hj => ?_)
    have hth := hrow2.there ((n - 1) * 34 + j) (by
      have l2 : (putAt cur (i * 34) news).length = cap * 34 := by
        rw [putAt_eq _ _ _ (by rw [hnl, hcl]; omega)]
        simp only [List.length_append, List.length_take, List.length_drop, hnl, hcl]
        omega
      rw [l2]; omega)
    rw [Nat.zero_add] at hth
    exact hth
  have HEnd : Hid (AskOwn ((w.drew.setCells g (i * 34) news).setCells g ((n - 1) * 34) noAsked) (.slice (some ⟨g, 0, none⟩) (n - 1 : Nat) cap) (xs.eraseIdx i) ∧ But g w.heap.size w ((w.drew.setCells g (i * 34) news).setCells g ((n - 1) * 34) noAsked)) := by
    refine ⟨?_, ?_⟩
    · unfold AskOwn
      rw [hel]
      refine ⟨hef, .inr ⟨g, cap, (putAt (putAt cur (i * 34) news) ((n - 1) * 34) noAsked).toArray, rfl, Nat.zero_le _, Row.sets noAsked ((n - 1) * 34) hrow2, by omega, by simpa only [maxLen] using hcb, by simpa using hdel.2, by simpa using hdel.1⟩⟩
    · exact ((But.drew (But.refl g w.heap.size w)).trans (But.sets news _ _)).trans (But.sets noAsked _ _)
  have e1 : IntKind.i64.wrap ((n : Int) - 1) = ((n - 1 : Nat) : Int) := by rw [IntKind.wrap_i64]; omega
  clear hdel hel hef hrow2 hsrc hn1 hr h1 ht hcl hx
  rw [hn] at hi hnc ⊢
  generalize noAsked = NA at *
  have hnz : n ≤ 9223372036854775807 := by omega
  have c0 : (cap = 0) = False := eq_false (by omega)
  have HA : Hid (∀ ty q c, (n - (i + 1) = 0 ∨ q = some (⟨g, (i + 1) * 34, none⟩ : Addr)) → (Builtin.append_ #[101, 101] ty #[.slice (some ⟨g, 0, none⟩) i cap, .slice q (n - (i + 1) : Nat) c]).run Tryd.prog w.drew = .ok (.slice (some ⟨g, 0, none⟩) (n - 1 : Nat) cap) (w.drew.setCells g (i * 34) news)) := happ
  have HC : Hid (∀ ty, (Builtin.clear_ #[101] ty #[.slice (some ⟨g, (n - 1) * 34, none⟩) 1 (cap - (n - 1))]).run Tryd.prog (w.drew.setCells g (i * 34) news) = .ok (.tuple #[]) ((w.drew.setCells g (i * 34) news).setCells g ((n - 1) * 34) NA)) := hclear
  clear happ hclear
  have p1 : (0 : Int) ≤ (i : Int) + 1 := by omega
  have p2 : (i : Int) + 1 ≤ (n : Int) := by omega
  have p3 : (i : Int) ≤ (cap : Int) := by omega
  have p4 : (0 : Int) ≤ (i : Int) := by omega
  go_enter Tryd.func58, Tryd.ntmps58
  by_cases hcap : cap = i + 1
  · have hcap' : (cap = i + 1) = True := eq_true hcap
    have HCap : Hid (cap = i + 1) := hcap
    clear hcap
    go_wp2_with fail
    refine wp_region_noPanic ?_
    refine wp_region_held_drew (S := fun _ => True) (by kernel_rfl) trivial (fun hHeld => ?_)
    refine wpAnyH_takesAt 0 6 2 (of_decide_eq_true (by kernel_rfl)) rfl (fun _ _ _ _ _ h => h) (by kernel_rfl) (by kernel_rfl) hHeld ?_
    simp only [List.drop_zero, List.take_succ_cons, List.take_zero]
    iterate 6 (refine wpHeld_step (v := ?_) (by rfl) (fun wz hSw => ?_) ?_; rotate_left; (focus ((try dsimp only at hSw); go_simp; try with_reducible rfl)); (simp only [Act.put, List.setIfInBounds_toArray, List.set_cons_zero, List.set_cons_succ]))
    refine wpHeld_nil ?_
    refine wpAnyH_only (i := 6) (by kernel_rfl) rfl (fun K hK => ?_)
    rw [if_pos (by rfl)]
    refine wp_append_of (.tmp 22) (.tmp 25) 101 rfl rfl rfl (HA.out _ _ _ (.inl (by have := HCap.out; omega))) ?_
    refine hK.out _ _ trivial ?_
    clear hK K
    refine wpAnyH_takesAt 7 1 0 (of_decide_eq_true (by kernel_rfl)) rfl (fun _ _ _ _ _ h => h) (by kernel_rfl) (by kernel_rfl) hHeld ?_
    simp only [List.drop_succ_cons, List.drop_zero, List.take_succ_cons, List.take_zero]
    iterate 1 (refine wpHeld_step (v := ?_) (by rfl) (fun wz hSw => ?_) ?_; rotate_left; (focus ((try dsimp only at hSw); go_simp; try with_reducible rfl)); ((simp only [Act.put]; (try simp only [List.setIfInBounds_toArray]); (try simp only [List.set_cons_succ]); (try simp only [List.set_cons_zero]))))
    refine wpHeld_nil ?_
    refine wpAnyH_done (by kernel_rfl) ?_ _
    refine NoPanic.normal ?_
    have hclr := HC.out
    have en : n - (n - 1) = 1 := by omega
    go_wp2
    go_ret
    exact ⟨rfl, HEnd.out⟩
  · have hcap' : (cap = i + 1) = False := eq_false hcap
    go_wp2_with fail
    refine wp_region_noPanic ?_
    refine wp_region_held_drew (S := fun _ => True) (by kernel_rfl) trivial (fun hHeld => ?_)
    refine wpAnyH_takesAt 0 6 2 (of_decide_eq_true (by kernel_rfl)) rfl (fun _ _ _ _ _ h => h) (by kernel_rfl) (by kernel_rfl) hHeld ?_
    simp only [List.drop_zero, List.take_succ_cons, List.take_zero]
    iterate 6 (refine wpHeld_step (v := ?_) (by rfl) (fun wz hSw => ?_) ?_; rotate_left; (focus ((try dsimp only at hSw); go_simp; try with_reducible rfl)); (simp only [Act.put, List.setIfInBounds_toArray, List.set_cons_zero, List.set_cons_succ]))
    refine wpHeld_nil ?_
    refine wpAnyH_only (i := 6) (by kernel_rfl) rfl (fun K hK => ?_)
    rw [if_pos (by rfl)]
    refine wp_append_of (.tmp 22) (.tmp 25) 101 rfl rfl rfl (HA.out _ _ _ (.inr rfl)) ?_
    refine hK.out _ _ trivial ?_
    clear hK K
    refine wpAnyH_takesAt 7 1 0 (of_decide_eq_true (by kernel_rfl)) rfl (fun _ _ _ _ _ h => h) (by kernel_rfl) (by kernel_rfl) hHeld ?_
    simp only [List.drop_succ_cons, List.drop_zero, List.take_succ_cons, List.take_zero]
    iterate 1 (refine wpHeld_step (v := ?_) (by rfl) (fun wz hSw => ?_) ?_; rotate_left; (focus ((try dsimp only at hSw); go_simp; try with_reducible rfl)); ((simp only [Act.put]; (try simp only [List.setIfInBounds_toArray]); (try simp only [List.set_cons_succ]); (try simp only [List.set_cons_zero]))))
    refine wpHeld_nil ?_
    refine wpAnyH_done (by kernel_rfl) ?_ _
    refine NoPanic.normal ?_
    have hclr := HC.out
    have en : n - (n - 1) = 1 := by omega
    go_wp2
    go_ret
    exact ⟨rfl, HEnd.out⟩

end Go.Proofs.YtobmcaknfbooiaaDoor
