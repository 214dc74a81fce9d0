/-
  What an ideal suite draws for what it has not answered yet; known's answer. All that turns is the tape and the table.
-/
import Derived.Test.YtobmcaknfbooiaaDoorKeys
namespace Go.Proofs.YtobmcaknfbooiaaDoor
open Classical
open Go.RowKit Go.Shelf

theorem row_apart {W : World} {a b : Nat} {t t' : TypeId} {x y : List Value} (ha : Row W a t x) (hb : Row W b t' y) (ht : t ≠ t') : a ≠ b := fun e => by
  subst e
  unfold Row at ha hb
  rw [ha] at hb
  cases hb
  exact ht rfl
theorem row_map {W : World} {P : Program} {k : TypeId} {a b : Nat} {t : TypeId} {x : List Value} {f : Value → Option Value} (ha : Row W a t x) (hb : MapAt P k W b f) : a ≠ b := fun e => by
  subst e
  obtain ⟨_, _, hb, _⟩ := hb
  unfold Row at ha
  rw [ha] at hb
  cases hb

/-- Take, and how what is taken lies. -/
theorem take_any2 (B Q n : Nat) (zs : List Nat) (hlen : zs.length ≤ 70000) (w : World) (hT : TapeAt w B Q zs) :
    Calls Tryd.prog 38 #[.pointer (some ⟨B, 0, none⟩), .int .i64 (n : Nat)] w fun e w' => ∃ v, e = .returned (.tuple #[v, .int .i64 (errT n zs)]) ∧ (Own w.heap.size w' v (takenT n zs) ∧ (0 < n → n ≤ zs.length → ∃ g, v = .slice (some ⟨g, 0, none⟩) n n)) ∧ TapeAt w' B Q (restT n zs) ∧ But B w.heap.size w w' := by
  by_cases h : 0 < n ∧ n ≤ zs.length
  · have e1 : errT n zs = 0 := by unfold errT; rw [if_neg (by omega), if_neg (by omega)]
    have e2 : takenT n zs = zs.take n := by unfold takenT; rw [if_neg (by omega), Int.toNat_natCast]
    have e3 : restT n zs = zs.drop n := by unfold restT; rw [if_neg (by omega), Int.toNat_natCast]
    rw [e1, e2, e3]
    refine (take_some B Q n zs h.1 h.2 hlen w hT).mono ?_
    rintro e w' ⟨g, rfl, h1, h2, h3⟩
    exact ⟨_, rfl, ⟨h1, fun _ _ => ⟨g, rfl⟩⟩, h2, h3⟩
  · refine (take_any B Q n zs hlen w hT).mono ?_
    rintro e w' ⟨v, rfl, h1, h2, h3⟩
    exact ⟨v, rfl, ⟨h1, fun a b => absurd ⟨a, b⟩ h⟩, h2, h3⟩

set_option maxRecDepth 100000 in
set_option maxHeartbeats 1000000 in
/-- The draws of a sealed text. -/
theorem seal1_any (b0 b1 D t Q n : Nat) (tl : List Value) (zs : List Nat) (p : Option Addr) (len cap : Nat) (hlen : zs.length ≤ 70000) (hl : len ≤ 60000) (hn : sizeN (len : Int) = n) (w : World)
    (hb0 : Row w b0 51 [.pointer (some ⟨D, 0, none⟩)]) (hb1 : Row w b1 25 [.slice p len cap]) (hD : Row w D 70 (.pointer (some ⟨t, 0, none⟩) :: tl)) (hT : TapeAt w t Q zs) :
    Calls Tryd.prog 37 #[.pointer (some ⟨b0, 0, none⟩), .pointer (some ⟨b1, 0, none⟩)] w fun e w' => ∃ v, e = .returned (.tuple #[v, .int .i64 (errT n zs)]) ∧ (Own w.heap.size w' v (takenT n zs) ∧ (0 < n → n ≤ zs.length → ∃ g, v = .slice (some ⟨g, 0, none⟩) n n)) ∧ TapeAt w' t Q (restT n zs) ∧ But t w.heap.size w w' := by
  have hTr : ∃ c, Row w t 57 c := by obtain ⟨_, _, _, h, _⟩ := hT; exact ⟨_, h⟩
  obtain ⟨tc, hTr⟩ := hTr
  have ne0 := row_apart hb0 hTr (by decide)
  have ne1 := row_apart hb1 hTr (by decide)
  have neD := row_apart hD hTr (by decide)
  have hlt0 := hb0.lt
  have hlt1 := hb1.lt
  have hltD := hD.lt
  have hTl := hT.lt
  have c0 := hb0.cell (i := 0) rfl
  have c1 := hb1.cell (i := 0) rfl
  have cD := hD.cell (i := 0) rfl
  have HSz : Hid (∀ W, Calls Tryd.prog 25 #[.int .i64 (len : Int)] W fun e w' => e = .returned (.int .i64 (n : Nat)) ∧ Below W.heap.size W w') := fun W => by rw [← hn]; exact sealedSize_any _ (by omega) W
  have HTk : Hid (∀ W, Below w.heap.size w W → Calls Tryd.prog 38 #[.pointer (some ⟨t, 0, none⟩), .int .i64 (n : Nat)] W fun e w' => ∃ v, e = .returned (.tuple #[v, .int .i64 (errT n zs)]) ∧ (Own W.heap.size w' v (takenT n zs) ∧ (0 < n → n ≤ zs.length → ∃ g, v = .slice (some ⟨g, 0, none⟩) n n)) ∧ TapeAt w' t Q (restT n zs) ∧ But t W.heap.size W w') := fun W hW => take_any2 t Q n zs hlen W (hT.later hW)
  clear hn hTr hT hb0 hb1 hD
  go_enter Tryd.func37, Tryd.ntmps37
  go_wp2_with fail
  refine wp_region_noPanic ?_
  refine wp_region_held_drew (S := fun W' => W'.cell? ⟨b0, 0, none⟩ = some (.pointer (some ⟨D, 0, none⟩)) ∧ W'.cell? ⟨b1, 0, none⟩ = some (.slice p len cap) ∧ W'.cell? ⟨D, 0, none⟩ = some (.pointer (some ⟨t, 0, none⟩))) (by kernel_rfl) ⟨by simpa using c0, by simpa using c1, by simpa using cD⟩ (fun hHeld => ?_)
  refine wpAnyH_takesAt 0 6 6 (of_decide_eq_true (by kernel_rfl)) rfl (fun _ _ _ _ _ h => h) (by kernel_rfl) (by kernel_rfl) hHeld ?_
  simp only [List.drop_zero, List.take_succ_cons, List.take_zero]
  iterate 6 (refine wpHeld_step (v := ?_) (by rfl) (fun wz hSw => ?_) ?_; rotate_left; (focus ((try dsimp only at hSw); go_simp; try with_reducible rfl)); (simp only [Act.put, List.setIfInBounds_toArray, List.set_cons_zero, List.set_cons_succ]))
  refine wpHeld_nil ?_
  refine wpAnyH_only (i := 6) (by kernel_rfl) rfl (fun K hK => ?_)
  rw [if_pos (by rfl)]
  go_simp
  refine (HSz.out _).mono ?_
  rintro e w1 ⟨rfl, hb1⟩
  have hB1 : Below w.heap.size w w1 := ⟨hb1.os, hb1.tape, hb1.output, hb1.size, fun k hk => hb1.block k hk⟩
  have hH1 : w1.cell? ⟨b0, 0, none⟩ = some (.pointer (some ⟨D, 0, none⟩)) ∧ w1.cell? ⟨b1, 0, none⟩ = some (.slice p len cap) ∧ w1.cell? ⟨D, 0, none⟩ = some (.pointer (some ⟨t, 0, none⟩)) := ⟨(hB1.cell (p := ⟨b0, 0, none⟩) hlt0).trans c0, (hB1.cell (p := ⟨b1, 0, none⟩) hlt1).trans c1, (hB1.cell (p := ⟨D, 0, none⟩) hltD).trans cD⟩
  refine hK.out _ _ hH1 ?_
  clear hK K hHeld
  refine wpAnyH_only (i := 7) (by kernel_rfl) rfl (fun K hK => ?_)
  rw [if_pos (by rfl)]
  go_simp
  refine (HTk.out _ hB1).mono ?_
  rintro e w2 ⟨v, rfl, ho2, ht2, hb2⟩
  have hH2 : w2.cell? ⟨b0, 0, none⟩ = some (.pointer (some ⟨D, 0, none⟩)) ∧ w2.cell? ⟨b1, 0, none⟩ = some (.slice p len cap) ∧ w2.cell? ⟨D, 0, none⟩ = some (.pointer (some ⟨t, 0, none⟩)) := by
    have hs := hB1.size
    have hk : ∀ b : Nat, b < w.heap.size → b ≠ t → w2.cell? ⟨b, 0, none⟩ = w1.cell? ⟨b, 0, none⟩ := fun b hb hbt => by
      have := hb2.block b (by omega) hbt
      simp only [World.cell?, this]
    exact ⟨(hk b0 hlt0 ne0).trans hH1.1, (hk b1 hlt1 ne1).trans hH1.2.1, (hk D hltD neD).trans hH1.2.2⟩
  refine hK.out _ _ hH2 ?_
  clear hK K
  refine wpAnyH_takesAt 8 4 0 (of_decide_eq_true (by kernel_rfl)) rfl (fun _ _ _ _ _ h => h) (by kernel_rfl) (by kernel_rfl) hH2 ?_
  simp only [List.drop_succ_cons, List.drop_zero, List.take_succ_cons, List.take_zero]
  iterate 4 (refine wpHeld_step (v := ?_) (by rfl) (fun wz hSw => ?_) ?_; rotate_left; (focus ((try dsimp only at hSw); go_simp; try with_reducible rfl)); (simp only [Act.put, List.setIfInBounds_toArray, List.set_cons_zero, List.set_cons_succ]))
  refine wpHeld_nil ?_
  refine wpAnyH_done (by kernel_rfl) ?_ _
  refine NoPanic.normal ?_
  go_wp2
  refine bodyPost_ret (results_tmp2 rfl _ _ _) rfl ?_
  exact ⟨v, rfl, ⟨ho2.1.mono hB1.size, ho2.2⟩, ht2, (But.of_below hB1 (Nat.le_refl _)).trans (hb2.mono hB1.size)⟩

theorem size72 : (Tryd.prog.info? 72).map (·.size) = some 34 := by kernel_rfl
theorem zero25 (w : World) : (zeroValue 25).run Tryd.prog w = .ok (.slice none 0 0) w := Tryd.zeroValue25 w

set_option maxRecDepth 100000 in
set_option maxHeartbeats 1000000 in
/-- What is known. -/
theorem known_old (m : Nat) (c : List Value) (kl : Lit) (hkey : keyOf Tryd.prog 72 (.agg c.toArray) = some kl) (hc : c.length = 34) (f : Value → Option Value) (v fv : Value) (w : World) (hM : MapAt Tryd.prog 72 w m f) (hf : f (.agg c.toArray) = some v) :
    Calls Tryd.prog 36 #[.map (some m), .agg c.toArray, fv] w fun e w' => e = .returned (.tuple #[v, .int .i64 0]) ∧ Below w.heap.size w w' := by
  have HM : Hid (MapAt Tryd.prog 72 (w.alloc (.cells c.toArray 72)) m f) := hM.below ((Below.refl _ w).alloc (Nat.le_refl _) _) hM.lt
  have HK : Hid (keyOf Tryd.prog 72 (.agg c.toArray) = some kl) := hkey
  have HF : Hid (f (.agg c.toArray) = some v) := hf
  have HR : Hid (Row (w.alloc (.cells c.toArray 72)) w.heap.size 72 c) := Row.new' w 72 c
  have HS : Hid ((Tryd.prog.info? 72).map (·.size) = some c.length) := by show _ = _; rw [hc]; exact size72
  clear hM hkey hf
  go_enter Tryd.func36, Tryd.ntmps36
  go_wp2_with (first
    | ((with_reducible show wpList _ _ _ (Oper.mk _ (Op.load 72 (.tmp 4)) _ _ _ _ :: _) _ _); refine wpList_load_mid rfl 72 (.tmp 4) rfl w.heap.size 0 rfl c _ HR.out.range Tryd.underlying72 rfl HS.out ?_; simp only [Act.put, List.setIfInBounds_toArray, List.set_cons_zero, List.set_cons_succ])
    | (at_lookup; refine wpList_lookOk_some rfl _ _ 67 25 rfl keyed72 Tryd.underlying67 (zero25 _) rfl HM.out rfl HK.out HF.out ?_))
  refine bodyPost_ret (results_tmp2 rfl _ _ _) rfl ?_
  exact ⟨rfl, (Below.refl _ w).alloc (Nat.le_refl _) _⟩

set_option maxRecDepth 100000 in
set_option maxHeartbeats 1000000 in
/-- What is not known, and can't be drawn. -/
theorem known_err (m t : Nat) (c : List Value) (kl : Lit) (hkey : keyOf Tryd.prog 72 (.agg c.toArray) = some kl) (hc : c.length = 34) (f : Value → Option Value) (p0 p1 : Value) (w : World) (hM : MapAt Tryd.prog 72 w m f) (hf : f (.agg c.toArray) = none)
    (Post : World → World → Value → Prop) (HC : Hid (∀ W, Below w.heap.size w W → Calls Tryd.prog 37 #[p0, p1] W fun e w' => ∃ v, e = .returned (.tuple #[v, .int .i64 60]) ∧ Post W w' v ∧ But t W.heap.size W w')) :
    Calls Tryd.prog 36 #[.map (some m), .agg c.toArray, .func (.func 37) #[] #[p0, p1]] w fun e w' => ∃ v W, e = .returned (.tuple #[v, .int .i64 60]) ∧ Below w.heap.size w W ∧ Post W w' v ∧ But t w.heap.size w w' := by
  have HM : Hid (MapAt Tryd.prog 72 (w.alloc (.cells c.toArray 72)) m f) := hM.below ((Below.refl _ w).alloc (Nat.le_refl _) _) hM.lt
  have HK : Hid (keyOf Tryd.prog 72 (.agg c.toArray) = some kl) := hkey
  have HF : Hid (f (.agg c.toArray) = none) := hf
  have HR : Hid (Row (w.alloc (.cells c.toArray 72)) w.heap.size 72 c) := Row.new' w 72 c
  have HS : Hid ((Tryd.prog.info? 72).map (·.size) = some c.length) := by show _ = _; rw [hc]; exact size72
  have hbe : Below w.heap.size w (w.alloc (.cells c.toArray 72)) := (Below.refl _ w).alloc (Nat.le_refl _) _
  clear hM hkey hf
  go_enter Tryd.func36, Tryd.ntmps36
  go_wp2_with (first
    | ((with_reducible show wpList _ _ _ (Oper.mk _ (Op.load 72 (.tmp 4)) _ _ _ _ :: _) _ _); refine wpList_load_mid rfl 72 (.tmp 4) rfl w.heap.size 0 rfl c _ HR.out.range Tryd.underlying72 rfl HS.out ?_; simp only [Act.put, List.setIfInBounds_toArray, List.set_cons_zero, List.set_cons_succ])
    | (at_lookup; refine wpList_lookOk_none rfl _ _ 67 25 rfl keyed72 Tryd.underlying67 (zero25 _) rfl HM.out rfl HK.out HF.out ?_)
    | ((with_reducible show Calls Tryd.prog 37 _ _ _); refine (HC.out _ hbe).mono ?_; rintro e w1 ⟨v, rfl, hp1, hb1⟩))
  refine bodyPost_ret (results_tmp2 rfl _ _ _) rfl ?_
  exact ⟨v, _, rfl, hbe, hp1, (But.of_below hbe (Nat.le_refl _)).trans (hb1.mono hbe.size)⟩

set_option maxRecDepth 100000 in
set_option maxHeartbeats 1000000 in
/-- What is not known, and is drawn. -/
theorem known_new (m t : Nat) (c : List Value) (kl : Lit) (hkey : keyOf Tryd.prog 72 (.agg c.toArray) = some kl) (hc : c.length = 34) (f : Value → Option Value) (p0 p1 : Value) (w : World) (hM : MapAt Tryd.prog 72 w m f) (hf : f (.agg c.toArray) = none) (hmt : m ≠ t) (htl : t < w.heap.size)
    (Post : World → World → Value → Prop) (HC : Hid (∀ W, Below w.heap.size w W → Calls Tryd.prog 37 #[p0, p1] W fun e w' => ∃ v, e = .returned (.tuple #[v, .int .i64 0]) ∧ Post W w' v ∧ But t W.heap.size W w')) :
    Calls Tryd.prog 36 #[.map (some m), .agg c.toArray, .func (.func 37) #[] #[p0, p1]] w fun e w' => ∃ v W W', e = .returned (.tuple #[v, .int .i64 0]) ∧ Below w.heap.size w W ∧ Post W W' v ∧ But t w.heap.size w W' ∧ MapAt Tryd.prog 72 w' m (fnPut f (.agg c.toArray) v) ∧ But m W'.heap.size W' w' := by
  have HM : Hid (MapAt Tryd.prog 72 (w.alloc (.cells c.toArray 72)) m f) := hM.below ((Below.refl _ w).alloc (Nat.le_refl _) _) hM.lt
  have HK : Hid (keyOf Tryd.prog 72 (.agg c.toArray) = some kl) := hkey
  have HF : Hid (f (.agg c.toArray) = none) := hf
  have HR : Hid (Row (w.alloc (.cells c.toArray 72)) w.heap.size 72 c) := Row.new' w 72 c
  have HS : Hid ((Tryd.prog.info? 72).map (·.size) = some c.length) := by show _ = _; rw [hc]; exact size72
  have hbe : Below w.heap.size w (w.alloc (.cells c.toArray 72)) := (Below.refl _ w).alloc (Nat.le_refl _) _
  have hml := hM.lt
  clear hM hkey hf
  go_enter Tryd.func36, Tryd.ntmps36
  go_wp2_with (first
    | ((with_reducible show Calls Tryd.prog 37 _ _ _); refine (HC.out _ hbe).mono ?_; rintro e w1 ⟨v, rfl, hp1, hb1⟩; have hM1 : MapAt Tryd.prog 72 w1 m f := HM.out.but hb1 (by simp; omega) hmt; have hR1 : Row w1 w.heap.size 72 c := hb1.row (by simp) (by omega) HR.out; have HM1 : Hid (MapAt Tryd.prog 72 w1 m f) := hM1; have HR1 : Hid (Row w1 w.heap.size 72 c) := hR1; clear hM1 hR1)
    | ((with_reducible show wpList _ _ _ (Oper.mk (some 14) (Op.load 72 (.tmp 4)) _ _ _ _ :: _) _ _); refine wpList_load_mid rfl 72 (.tmp 4) rfl w.heap.size 0 rfl c _ HR.out.range Tryd.underlying72 rfl HS.out ?_; simp only [Act.put, List.setIfInBounds_toArray, List.set_cons_zero, List.set_cons_succ])
    | ((with_reducible show wpList _ _ _ (Oper.mk (some 28) (Op.load 72 (.tmp 4)) _ _ _ _ :: _) _ _); refine wpList_load_mid rfl 72 (.tmp 4) rfl w.heap.size 0 rfl c _ HR1.out.range Tryd.underlying72 rfl HS.out ?_; simp only [Act.put, List.setIfInBounds_toArray, List.set_cons_zero, List.set_cons_succ])
    | (at_lookup; refine wpList_lookOk_none rfl _ _ 67 25 rfl keyed72 Tryd.underlying67 (zero25 _) rfl HM.out rfl HK.out HF.out ?_)
    | (at_mapUpdate; refine wpList_mapStore w1.heap.size rfl _ _ _ 67 25 rfl keyed72 Tryd.underlying67 rfl HM1.out rfl rfl HK.out ?_; intro w2 hM2 hb2))
  refine bodyPost_ret (results_tmp2 rfl _ _ _) rfl ?_
  exact ⟨v, _, w1, rfl, hbe, hp1, (But.of_below hbe (Nat.le_refl _)).trans (hb1.mono hbe.size), hM2, hb2⟩

end Go.Proofs.YtobmcaknfbooiaaDoor
