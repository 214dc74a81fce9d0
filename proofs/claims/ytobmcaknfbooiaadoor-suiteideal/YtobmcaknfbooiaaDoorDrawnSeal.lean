/-
  drawn.seal, walked: what an ideal suite answers to Seal.
-/
import Derived.Test.YtobmcaknfbooiaaDoorSealed
namespace Go.Proofs.YtobmcaknfbooiaaDoor
open Classical
open Go.RowKit Go.Shelf

theorem wpList_build72 {ops : Array Oper} {rest : List Oper} {o : Oper} {a : Act} {w : World} {Q : Exit → Act → World → Prop} (hg : o.guard = none) (x0 x1 x2 : Operand) (ho : o.op = .build 72 #[(0, x0), (1, x1), (2, x2)]) (K : List Value) (ad p : ByteArray) (hK : K.length = 32)
    (h0 : a.eval x0 = .agg K.toArray) (h1 : a.eval x1 = .string ad) (h2 : a.eval x2 = .string p) (h : wpList Tryd.prog ops Q rest (a.put o.dst (.agg (K ++ [Value.string ad, Value.string p]).toArray)) w) : wpList Tryd.prog ops Q (o :: rest) a w := by
  refine wpList_plain hg fun K' hK' => ?_
  have hrun := run_build72 w K ad p hK
  unfold Oper.wp
  simp only [execOp, ho, List.map_toArray, List.map_cons, List.map_nil, h0, h1, h2, Sem.run_bind, hrun, Result.andThen_ok, Sem.run_pure]
  exact hK' _ _ h

theorem IdealAt.monoK {W : World} {F : List Nat} {S D t Q m3 m4 : Nat} {zs : List Nat} {f g : Value → Option Value} {T : List Value → Option (List Nat)} {L : ByteArray → List (List Value)} {K : Nat}
    (h : IdealAt W F S D t Q m3 m4 zs f g T L K) : IdealAt W F S D t Q m3 m4 zs f g T L (K + 1) :=
  ⟨h.lt, h.suite, h.drawn, h.tape, h.bytes, h.long, h.mem, h.ne, h.seals, h.some, h.none, ⟨h.asked.map, h.asked.mem, h.asked.own, h.asked.nil, fun s => ⟨(h.asked.all s).1, Nat.le_succ_of_le (h.asked.all s).2⟩, h.asked.apart⟩⟩

/-- An ideal suite behind putLast. -/
theorem IdealAt.last {W W' : World} {F : List Nat} {S D t Q m3 m4 : Nat} {zs : List Nat} {f g : Value → Option Value} {T : List Value → Option (List Nat)} {L : ByteArray → List (List Value)} {K : Nat} {s : ByteArray} {c : List Value}
    (h : IdealAt W F S D t Q m3 m4 zs f g T L K) (hp : LastPost W F m4 K L s c W') :
    ∃ F2 g2 ys, (∀ b ∈ F2, b ∈ F ∨ W.heap.size ≤ b) ∧ Lasts (L s) c ys ∧ IdealAt W' F2 S D t Q m3 m4 zs f g2 T (putL L s ys) (K + 1) ∧ Buts F W.heap.size W W' := by
  obtain ⟨F2, g2, ys, k1, k2, k3, k4, k5, k6, k7⟩ := hp
  refine ⟨F2, g2, ys, k2, k4, ?_, k6⟩
  obtain ⟨q1, q2, q3, q4, q5⟩ := h.mem
  have hrow : ∀ {b tt cs}, b ∈ F → Row W b tt cs → tt ≠ 72 → W'.heap[b]? = W.heap[b]? := fun {b tt cs} hb hr ht => k7 b (h.lt b hb) (row_map hr h.asked.map) (fun cs' hr' => by
    unfold Row at hr hr'
    rw [hr] at hr'
    cases hr'
    exact ht rfl)
  obtain ⟨gg, hs⟩ := h.suite
  obtain ⟨x1, x2, hD⟩ := h.drawn
  obtain ⟨qc, hQ⟩ := h.bytes
  have ht : ∃ tc, Row W t 57 tc := by obtain ⟨_, _, _, hr, _⟩ := h.tape; exact ⟨_, hr⟩
  obtain ⟨tc, ht⟩ := ht
  have hm3 : W'.heap[m3]? = W.heap[m3]? := k7 m3 (h.lt m3 q5) h.ne (fun cs hr => row_map hr h.seals rfl)
  exact ⟨k3, ⟨gg, (hrow q1 hs (by decide)).trans hs⟩, ⟨x1, x2, (hrow q2 hD (by decide)).trans hD⟩, h.tape.keep (hrow q3 ht (by decide)) (hrow q4 hQ (by decide)), ⟨qc, (hrow q4 hQ (by decide)).trans hQ⟩, h.long, ⟨k1 _ q1, k1 _ q2, k1 _ q3, k1 _ q4, k1 _ q5⟩, h.ne, h.seals.kept hm3,
    fun d ct hd => by
      obtain ⟨b, a1, a2, a3, a4⟩ := h.some d ct hd
      exact ⟨b, a1, k1 b a2, (hrow a2 a3 (by decide)).trans a3, a4⟩, h.none, k5⟩

theorem there34 {w3 : World} {g : Nat} {c : List Value} (h3 : w3.heap.size = g) (hc : c.length = 34) : World.there (w3.alloc (.cells noAsked.toArray 72)) g 0 c.toArray.size := by
  have h := (Row.newAt w3 72 noAsked.toArray h3).there
  rw [List.size_toArray, hc, ← noAsked_length]
  exact h

set_option maxRecDepth 100000 in
set_option maxHeartbeats 1000000 in
theorem drawnSeal_any (S D t Q m3 m4 K n : Nat) (F : List Nat) (zs : List Nat) (f g : Value → Option Value) (T : List Value → Option (List Nat)) (L : ByteArray → List (List Value)) (k : List Nat) (hk : IsKey32 k)
    (pa : Option Addr) (la ca : Nat) (za : List Nat) (pp : Option Addr) (lp cp : Nat) (zp : List Nat) (hla : la ≤ 60000) (hlp : lp ≤ 60000) (hn : sizeN (lp : Int) = n) (hn0 : 0 < n) (hK : K ≤ 1000) (w : World)
    (hIa : IsBytes w.heap.size w pa la ca za) (hIp : IsBytes w.heap.size w pp lp cp zp) (h : IdealAt w F S D t Q m3 m4 zs f g T L K) :
    Calls Tryd.prog 26 #[.pointer (some ⟨D, 0, none⟩), .agg (u8s k).toArray, .slice pa la ca, .slice pp lp cp] w fun e w' => ∃ v, e = .returned (.tuple #[v, .int .i64 (sealE T zs (askedL k (strOf za) (strOf zp)) n)]) ∧ SealPost w F S D t Q m3 m4 zs T L K (askedL k (strOf za) (strOf zp)) n v w' := by
  obtain ⟨c, hc⟩ : ∃ c, askedL k (strOf za) (strOf zp) = c := ⟨_, rfl⟩
  have hA : IsAsked c k (strOf za) (strOf zp) := ⟨hc.symm, hk, by rw [strOf_size]; have := hIa.1; simp only [maxLen]; omega, by rw [strOf_size]; have := hIp.1; simp only [maxLen]; omega⟩
  rw [hc]
  have HKl : Hid ((u8s k).length = 32) := by show _ = _; rw [u8s_length, hk.1]
  have HA : Hid (IsAsked c k (strOf za) (strOf zp)) := hA
  have hstrA : Str w (.slice pa la ca) (strOf za) := str_of_bytes hIa
  have hstrP : Str w (.slice pp lp cp) (strOf zp) := str_of_bytes hIp
  -- the boxes
  obtain ⟨w3, hw3⟩ : ∃ w3, ((w.alloc (.cells #[.pointer (some ⟨D, 0, none⟩)] 51)).alloc (.cells (u8s k).toArray 24)).alloc (.cells #[.slice pp lp cp] 25) = w3 := ⟨_, rfl⟩
  have hb3 : Below w.heap.size w w3 := by rw [← hw3]; exact (((Below.refl _ w).alloc (Nat.le_refl _) _).alloc (by simp) _).alloc (by simp; omega) _
  have hs3 : w3.heap.size = w.heap.size + 1 + 1 + 1 := by rw [← hw3]; simp
  have hr0 : Row w3 w.heap.size 51 [.pointer (some ⟨D, 0, none⟩)] := by rw [← hw3]; exact ((Row.new w 51 #[.pointer (some ⟨D, 0, none⟩)]).alloc _).alloc _
  have hr1 : Row w3 (w.heap.size + 1) 24 (u8s k) := by
    rw [← hw3]
    have h := Row.new' (w.alloc (.cells #[.pointer (some ⟨D, 0, none⟩)] 51)) 24 (u8s k)
    rw [World.size_alloc] at h
    exact h.alloc _
  have hr2 : Row w3 (w.heap.size + 1 + 1) 25 [.slice pp lp cp] := by
    rw [← hw3]
    exact Row.newAt _ 25 #[.slice pp lp cp] (by simp)
  have HW3 : Hid (((w.alloc (.cells #[.pointer (some ⟨D, 0, none⟩)] 51)).alloc (.cells (u8s k).toArray 24)).alloc (.cells #[.slice pp lp cp] 25) = w3) := hw3
  have HR1 : Hid (Row w3 (w.heap.size + 1) 24 (u8s k)) := hr1
  have sA := hstrA w3 hb3
  have sP := hstrP w3 hb3
  have cP := hr2.cell (i := 0) rfl
  have HR0 : Hid (Row w3 w.heap.size 51 [.pointer (some ⟨D, 0, none⟩)]) := hr0
  have HR2 : Hid (Row w3 (w.heap.size + 1 + 1) 25 [.slice pp lp cp]) := hr2
  have HI3 : Hid (IdealAt w3 F S D t Q m3 m4 zs f g T L K) := h.later hb3
  have HFl : Hid (∀ b ∈ F, b < w.heap.size) := h.lt
  have HN34 : Hid (c.length = 34) := hA.len
  have HONE : Hid (∀ v ∈ c, v.oneCell' = true) := asked_one hA
  have HCc : Hid (u8s k ++ [Value.string (strOf za), Value.string (strOf zp)] = c) := hc
  clear hw3 hr0 hr1 hr2 h hc hA hstrA hstrP hIa hIp
  generalize strOf za = sa at *
  generalize strOf zp = sp at *
  go_enter Tryd.func26, Tryd.ntmps26
  go_wp2_with (first
    | ((with_reducible show wpList _ _ _ (Oper.mk (some 13) _ _ _ _ _ :: _) _ _); rw [HW3.out]; refine wpList_load_Row rfl 24 (.tmp 5) rfl rfl HR1.out Tryd.underlying24 (by rw [HKl.out]; exact size24) ?_; simp only [Act.put, List.setIfInBounds_toArray, List.set_cons_zero, List.set_cons_succ])
    | ((with_reducible show wpList _ _ _ (Oper.mk (some 18) _ _ _ _ _ :: _) _ _); refine wpList_build72 rfl _ _ _ rfl (u8s k) sa sp HKl.out rfl rfl rfl ?_; rw [HCc.out])
    | ((with_reducible show wpList _ _ _ (Oper.mk _ (Op.store 72 (.tmp 10) (.tmp 18)) _ _ _ _ :: _) _ _); change wpList _ _ _ _ _ (w3.alloc (.cells noAsked.toArray 72)); refine wpList_store_mid rfl 72 (.tmp 10) (.tmp 18) rfl (w.heap.size + 1 + 1 + 1) 0 c.toArray rfl rfl (there34 hs3 HN34.out) (by rw [List.size_toArray, HN34.out]; exact size72) (all_oneCell_toArray HONE.out) ?_; simp only [Act.put]))
  obtain ⟨w4, hw4⟩ : ∃ w4, (w3.alloc (.cells noAsked.toArray 72)).setCells (w.heap.size + 1 + 1 + 1) 0 c.toArray.toList = w4 := ⟨_, rfl⟩
  have hb4 : Below (w.heap.size + 1 + 1 + 1) w3 w4 := by rw [← hw4]; exact below_setCells (Nat.le_refl _) _ _ ((Below.refl _ w3).alloc (by omega) _)
  have hs4 : w4.heap.size = w.heap.size + 1 + 1 + 1 + 1 := by rw [← hw4, size_setCells, World.size_alloc, hs3]
  have hr4 : Row w4 (w.heap.size + 1 + 1 + 1) 72 c := by
    rw [← hw4]
    exact Row.sets_all (Row.newAt w3 72 noAsked.toArray hs3) (by simp [HN34.out, noAsked_length])
  rw [hw4]
  have HR0' := Row.below HR0.out hb4 (by omega)
  have HR2' := Row.below HR2.out hb4 (by omega)
  have HI4 : IdealAt w4 F S D t Q m3 m4 zs f g T L K := HI3.out.keep (fun b hb => hb4.block b (by have := HFl.out b hb; omega)) (by omega)
  have HS72 : (Tryd.prog.info? 72).map (·.size) = some c.length := by rw [HN34.out]; exact size72
  obtain ⟨x1, x2, hD4⟩ := HI4.drawn
  have HKn : Hid (Calls Tryd.prog 36 #[.map (some m3), .agg c.toArray, .func (.func 37) #[] #[.pointer (some ⟨w.heap.size, 0, none⟩), .pointer (some ⟨w.heap.size + 1 + 1, 0, none⟩)]] w4.drew fun e w' => ∃ v, e = .returned (.tuple #[v, .int .i64 (sealE T zs c n)]) ∧ KnownPost w4.drew F S D t Q m3 m4 zs g T L K c n v w') :=
    known_any S D t Q m3 m4 K n w.heap.size (w.heap.size + 1 + 1) F zs f g T L c k sa sp HA.out pp lp cp hlp hn hn0 w4.drew HR0'.drew HR2'.drew (HI4.keep (fun _ _ => rfl) (Nat.le_refl _))
  have c0 := HR0'.cell (i := 0) rfl
  have c3 := hD4.cell (i := 3) rfl
  refine wp_region_noPanic ?_
  refine wp_region_held_drew (S := fun W' => W'.cell? ⟨w.heap.size, 0, none⟩ = some (.pointer (some ⟨D, 0, none⟩)) ∧ W'.cell? ⟨D, 3, none⟩ = some (.map (some m3)) ∧ W'.rangeAt (w.heap.size + 1 + 1 + 1) 0 c) (by kernel_rfl) ⟨by simpa using c0, by simpa using c3, hr4.drew.range⟩ (fun hHeld => ?_)
  refine wpAnyH_takesAt 0 6 6 (of_decide_eq_true (by kernel_rfl)) rfl (fun _ _ _ _ _ h => h) (by kernel_rfl) (by kernel_rfl) hHeld ?_
  simp only [List.drop_zero, List.take_succ_cons, List.take_zero]
  iterate 4 (refine wpHeld_step (v := ?_) (by rfl) (fun wz hSw => ?_) ?_; rotate_left; (focus ((try dsimp only at hSw); go_simp; try with_reducible rfl)); (simp only [Act.put, List.setIfInBounds_toArray, List.set_cons_zero, List.set_cons_succ]))
  refine wpHeld_loadS (by rfl) 72 (.tmp 10) rfl (w.heap.size + 1 + 1 + 1) 0 rfl c (fun W hW => hW.2.2) Tryd.underlying72 rfl HS72 ?_
  simp only [Act.put, List.setIfInBounds_toArray, List.set_cons_zero, List.set_cons_succ]
  iterate 1 (refine wpHeld_step (v := ?_) (by rfl) (fun wz hSw => ?_) ?_; rotate_left; (focus (clear hSw; go_simp; try with_reducible rfl)); (simp only [Act.put, List.setIfInBounds_toArray, List.set_cons_zero, List.set_cons_succ]))
  refine wpHeld_nil ?_
  clear hHeld
  refine wpAnyH_only (i := 6) (by kernel_rfl) rfl (fun K hK => ?_)
  rw [if_pos (by rfl)]
  go_simp
  refine HKn.out.mono ?_
  rintro e w5 ⟨v, rfl, F1, f1, g1, g2, hI5, hB5, hv5⟩
  have hB5' : Buts F w4.heap.size w4 w5 := ⟨hB5.os, hB5.tape, hB5.output, hB5.size, hB5.block⟩
  have hnF : ∀ b, w.heap.size ≤ b → b ∉ F := fun b hb hm => by have := HFl.out b hm; omega
  have hR0 : Row w5 w.heap.size 51 [.pointer (some ⟨D, 0, none⟩)] := hB5'.row (by omega) (hnF _ (Nat.le_refl _)) HR0'
  have hR10 : Row w5 (w.heap.size + 1 + 1 + 1) 72 c := hB5'.row (by omega) (hnF _ (by omega)) hr4
  obtain ⟨y1, y2, hD5⟩ := hI5.drawn
  refine hK.out _ _ ⟨hR0.cell (i := 0) rfl, hD5.cell (i := 3) rfl, hR10.range⟩ ?_
  clear hK K
  have hH5 : w5.cell? ⟨w.heap.size, 0, none⟩ = some (.pointer (some ⟨D, 0, none⟩)) ∧ w5.cell? ⟨D, 3, none⟩ = some (.map (some m3)) ∧ w5.rangeAt (w.heap.size + 1 + 1 + 1) 0 c := ⟨hR0.cell (i := 0) rfl, hD5.cell (i := 3) rfl, hR10.range⟩
  refine wpAnyH_takesAt 7 5 0 (of_decide_eq_true (by kernel_rfl)) rfl (fun _ _ _ _ _ h => h) (by kernel_rfl) (by kernel_rfl) hH5 ?_
  simp only [List.drop_succ_cons, List.drop_zero, List.take_succ_cons, List.take_zero]
  iterate 5 (refine wpHeld_step (v := ?_) (by rfl) (fun wz hSw => ?_) ?_; rotate_left; (focus ((try dsimp only at hSw); go_simp; try with_reducible rfl)); (simp only [Act.put, List.setIfInBounds_toArray, List.set_cons_zero, List.set_cons_succ]))
  refine wpHeld_nil ?_
  refine wpAnyH_done (by kernel_rfl) ?_ _
  refine NoPanic.normal ?_
  clear hH5 c3 hD4
  have hBw5 : Buts F w.heap.size w w5 := (Buts.of_below (hb3.trans (hb4.mono (by omega))) (Nat.le_refl _)).trans (hB5'.mono (fun _ h => h) (by omega))
  have hF1 : ∀ b ∈ F1, b ∈ F ∨ w.heap.size ≤ b := fun b hb => by
    rcases g2 b hb with h | h
    · exact .inl h
    · right; have h' : w4.heap.size ≤ b := h; omega
  by_cases he : sealE T zs c n = 0
  · obtain ⟨b, hv, hbF, hbr, hbz, hbl⟩ := hv5 he
    have hE : sealE T zs c n = 0 := he
    rw [he, hv]
    have hsz : (strOf (sealC T zs c n)).size ≤ maxLen := by rw [strOf_size]; simp only [maxLen]; omega
    have HPL : Hid (Calls Tryd.prog 39 #[.pointer (some ⟨D, 0, none⟩), .slice (some ⟨b, 0, none⟩) (sealC T zs c n).length (sealC T zs c n).length, .agg c.toArray] w5 fun e w' => e = .returned (.tuple #[]) ∧ LastPost w5 F1 m4 K L (strOf (sealC T zs c n)) c w') :=
      putLast_any D m4 b K _ _ _ _ (sealC T zs c n) c k sa sp HA.out g L F1 hK hsz w5 hD5 hbr hI5.asked hI5.lt
    have HCl : Hid (∀ W, Row W b 5 (u8s (sealC T zs c n)) → Calls Tryd.prog 40 #[.slice (some ⟨b, 0, none⟩) (sealC T zs c n).length (sealC T zs c n).length] W fun e w' => ∃ v, e = .returned v ∧ Own W.heap.size w' v (sealC T zs c n) ∧ Below W.heap.size W w') := fun W hW => clone_any b _ hbl hbz W hW
    have HBr : Hid (Row w5 b 5 (u8s (sealC T zs c n))) := hbr
    have HI5 : Hid (IdealAt w5 F1 S D t Q m3 m4 (sealZ T zs c n) f1 g (sealT T zs c n) L K) := hI5
    have HR10 : Hid (Row w5 (w.heap.size + 1 + 1 + 1) 72 c) := hR10
    have cc0 := hR0.cell (i := 0) rfl
    have HE : Hid (sealE T zs c n = 0) := hE
    have HS : Hid ((Tryd.prog.info? 72).map (·.size) = some c.length) := HS72
    have HEnd : Hid (∀ w6 v w7, LastPost w5 F1 m4 K L (strOf (sealC T zs c n)) c w6 → Own w6.heap.size w7 v (sealC T zs c n) → Below w6.heap.size w6 w7 → SealPost w F S D t Q m3 m4 zs T L K c n v w7) := fun w6 v w7 hp ho hb => by
      obtain ⟨F2, g2', ys, k1, k2, k3, k4⟩ := hI5.last hp
      refine ⟨ho.mono (Nat.le_trans hBw5.size k4.size), F2, f1, g2', _, fun b hb => ?_, fun b hb' hm => ?_, k3.later hb, ?_, .inl ⟨hE, ys, k2, rfl⟩⟩
      · rcases k1 b hb with h | h
        · exact hF1 b h
        · right; have := hBw5.size; omega
      · have h1 := k3.lt b hm
        rcases ho.2 with ⟨rfl, _⟩ | ⟨g', c', cur', rfl, hg, _⟩
        · simp [Value.ownBlock] at hb'
        · simp [Value.ownBlock] at hb'; omega
      · refine (hBw5.trans ⟨k4.os, k4.tape, k4.output, k4.size, fun x hx hF => k4.block x (by have := hBw5.size; omega) (fun hm => ?_)⟩).trans (Buts.of_below hb (Nat.le_trans hBw5.size k4.size))
        rcases hF1 x hm with h | h
        · exact hF h
        · omega
    clear hI5 hD5 hbr hR10 hR0 hB5 hB5' hBw5 hF1 hnF hv5 he hE hr4 HR0' HR2' HI4 HS72 g1 g2
    generalize hct : sealC T zs c n = ct at *
    go_wp2_with (first
      | ((with_reducible show wpList _ _ _ (Oper.mk (some 34) (Op.load 72 (.tmp 10)) _ _ _ _ :: _) _ _); refine wpList_load_mid rfl 72 (.tmp 10) rfl (w.heap.size + 1 + 1 + 1) 0 rfl c _ HR10.out.range Tryd.underlying72 rfl HS.out ?_; simp only [Act.put, List.setIfInBounds_toArray, List.set_cons_zero, List.set_cons_succ])
      | (go_at_call 39; refine HPL.out.mono ?_; rintro e w6 ⟨rfl, hp⟩; have HP : Hid (LastPost w5 F1 m4 K L (strOf ct) c w6) := hp; have HB6 : Hid (Row w6 b 5 (u8s ct)) := (by obtain ⟨_, _, _, _, _, _, _, _, _, k7⟩ := hp; exact (k7 b HBr.out.lt (row_map HBr.out HI5.out.asked.map) (fun cs hr => row_apart hr HBr.out (by decide) rfl)).trans HBr.out); clear hp)
      | (go_at_call 40; refine (HCl.out _ HB6.out).mono ?_; rintro e w7 ⟨v7, rfl, ho7, hb7⟩))
    refine bodyPost_ret (results_tmp2 rfl _ _ _) rfl ?_
    exact ⟨v7, by rw [HE.out]; rfl, HEnd.out _ _ _ HP.out ho7 hb7⟩
  · have hne : (sealE T zs c n == 0) = false := by simp [he]
    have HEnd : Hid (SealPost w F S D t Q m3 m4 zs T L K c n (.slice none 0 0) w5) := by
      have hC : sealC T zs c n = [] := by
        unfold sealE at he
        unfold sealC
        cases hT : T c with
        | some ct => rw [hT] at he; exact absurd rfl he
        | none =>
          rw [hT] at he
          by_cases hle : n ≤ zs.length
          · exact absurd (by simp [hle]) he
          · simp [hle]
      refine ⟨by rw [hC]; exact Own.nil _ _, F1, f1, g, L, hF1, fun b hb => by simp [Value.ownBlock] at hb, hI5.monoK, hBw5, .inr ⟨he, rfl⟩⟩
    clear hI5 hD5 hR10 hR0 hB5 hB5' hBw5 hF1 hnF hv5 he hr4 HR0' HR2' HI4 HS72 g1 g2
    go_wp2
    refine bodyPost_ret (results_tmp2 rfl _ _ _) rfl ?_
    exact ⟨_, rfl, HEnd.out⟩

end Go.Proofs.YtobmcaknfbooiaaDoor
