/-
  What is received was sent, at most three times; without fates once, in order: the law's walk.
-/
import Derived.Test.YthdfhbbfbohojaaOn
import Derived.Test.YthdfhbbfbohojaaHeldRd
import Derived.Test.YthdfhbbfbohojaaPl
namespace Go.Proofs.Ythdfhbbfbohojaa
open Go.RowKit Go.Shelf
attribute [local go_sem] Oper.semAt_some

set_option maxRecDepth 100000 in
set_option maxHeartbeats 1000000 in
theorem lossyOnce_long (fq : Option Addr) (fl fc : Nat) (lq : Option Addr) (ll lc : Nat) (w : World) (h : (30 : Int) < (fl : Int) ∨ (30 : Int) < (ll : Int)) :
    Calls Try.prog 4 #[.slice fq fl fc, .slice lq ll lc] w fun e w' => e = .returned (.bool true) ∧ Below w.heap.size w w' := by
  obtain ⟨w1, hw1⟩ : ∃ w1, (w.alloc (.cells #[.slice lq ll lc] 23)).alloc (.cells #[.bool false] 4) = w1 := ⟨_, rfl⟩
  have hb1 : Below w.heap.size w w1 := by rw [← hw1]; exact ((Below.refl _ w).alloc (Nat.le_refl _) _).alloc (by simp) _
  have hx1 : Boxed w1 w.heap.size 23 (.slice lq ll lc) := by rw [← hw1]; exact (Boxed.new w 23 _).alloc _
  have hr1 : Row w1 (w.heap.size + 1) 4 [.bool false] := by
    rw [← hw1]
    have := Row.new (w.alloc (.cells #[.slice lq ll lc] 23)) 4 #[.bool false]
    rwa [World.size_alloc] at this
  have HA : Hid (Calls Try.prog 6 #[] w1 fun e w' => e = .returned (.bool true) ∧ Below w1.heap.size w1 w') := awake_any w1
  have early : Hid (∀ w2, Below w1.heap.size w1 w2 → Row (w2.setCell ⟨w.heap.size + 1, 0, none⟩ (.bool true)) (w.heap.size + 1) 4 [.bool true] ∧ Below w.heap.size w (w2.setCell ⟨w.heap.size + 1, 0, none⟩ (.bool true)) ∧ w2.cell? ⟨w.heap.size + 1, 0, none⟩ = some (.bool false) ∧ w2.frozen? ⟨w.heap.size + 1, 0, none⟩ = false ∧ w2.cell? ⟨w.heap.size, 0, none⟩ = some (.slice lq ll lc)) :=
    fun w2 h => ⟨(hr1.later h).set 0 _, (hb1.trans (h.mono hb1.size)).setCell (p := ⟨w.heap.size + 1, 0, none⟩) (by show _ ≤ w.heap.size + 1; omega) _, (hr1.later h).cell (i := 0) rfl, (hr1.later h).frozen 0, (boxed_below hx1 h).cell⟩
  clear hb1 hx1 hr1
  by_cases hf : (30 : Int) < (fl : Int)
  · go_enter Try.func4, Try.ntmps4
    go_wp2_with (go_at_call 6; refine HA.out.mono ?_; rintro e w2 ⟨rfl, hb2⟩; obtain ⟨h1, h2, h3, h4, h5⟩ := early.out w2 hb2; have H1 : Hid (_ ∧ _) := ⟨h1, h2⟩; clear h1 h2 hb2)
    exact bodyPost_ret (results_bool rfl rfl H1.out.1) rfl ⟨rfl, H1.out.2⟩
  · have hl : (30 : Int) < (ll : Int) := h.resolve_left hf
    go_enter Try.func4, Try.ntmps4
    go_wp2_with (go_at_call 6; refine HA.out.mono ?_; rintro e w2 ⟨rfl, hb2⟩; obtain ⟨h1, h2, h3, h4, h5⟩ := early.out w2 hb2; have H1 : Hid (_ ∧ _) := ⟨h1, h2⟩; clear h1 h2 hb2)
    exact bodyPost_ret (results_bool rfl rfl H1.out.1) rfl ⟨rfl, H1.out.2⟩

theorem take_dec (l : List (List Nat)) (z : List Nat) (j : Nat) (hj : j < l.length) (b : Bool) (hb : decide (z ∈ l.take j) = true ∨ b = decide (l.getD j [] = z)) : decide (z ∈ l.take (j + 1)) = (decide (z ∈ l.take j) || b) := by
  have hgd : l.getD j [] = l[j] := by rw [List.getD_eq_getElem?_getD, List.getElem?_eq_getElem hj, Option.getD_some]
  have hi : z ∈ l.take (j + 1) ↔ z ∈ l.take j ∨ z = l[j] := by rw [List.take_succ_eq_append_getElem hj, List.mem_append, List.mem_singleton]
  by_cases h1 : z ∈ l.take j
  · rw [decide_eq_true (hi.2 (.inl h1)), decide_eq_true h1]; rfl
  · rw [decide_eq_false h1] at hb ⊢
    rcases hb with hb | rfl
    · cases hb
    · rw [hgd, Bool.false_or]
      by_cases h2 : l[j] = z
      · rw [decide_eq_true h2, decide_eq_true (hi.2 (.inr h2.symm))]
      · rw [decide_eq_false h2, decide_eq_false (fun h => (hi.1 h).elim h1 (fun e => h2 e.symm))]
theorem key_nth {ms pre post : List Msg} {m : Msg} {l : List (List Nat)} {n : Nat} (hk : keys ms = numK l n) (h : ms = pre ++ m :: post) : m.zs = l.getD pre.length [] ∧ pre.length < n := by
  have hl : pre.length < n := by
    have h1 := congrArg List.length hk
    rw [keys_length, numK_length, h, List.length_append, List.length_cons] at h1
    omega
  refine ⟨?_, hl⟩
  have h2 : (keys ms)[pre.length]? = some m.key := by rw [h]; simp [keys]
  rw [hk] at h2
  simp only [numK, List.getElem?_map, List.getElem?_range hl, Option.map_some, Option.some.injEq] at h2
  exact (congrArg Prod.snd h2).symm
/-- What the rounds of the second Drain know. -/
def OnJ (w : World) (Bn n Bi : Nat) (lq : Option Addr) (ll lc px : Nat) (cx : List Value) (D : Nat) (pre : List Msg) (A : World) : Prop :=
  Boxed A Bi 3 (.int .i64 (pre.length : Nat)) ∧ Boxed A Bn 3 (.int .i64 (n : Nat)) ∧ Row A (w.heap.size + 1) 4 [.bool false] ∧ Boxed A w.heap.size 23 (.slice lq ll lc) ∧ Row A px 44 cx ∧ A.heap[D]? = some (.deferred (some [])) ∧ Below w.heap.size w A ∧ Bi + 2 ≤ A.heap.size
theorem IterB.fi {α : Type} {p0 g0 : Nat} {F : Fence} {n : Nat} {P : Program} {g : Nat} {lb : Array Value} {encs : α → Array Value} {Ok : α → World → Prop} {Kp : World → World → Prop} {Nx : List α → α → Prop} {S Sp : List α → Prop} {Fi : World → Prop} {l : Nat} {W : World} (h : IterB p0 g0 F n P g lb encs Ok Kp Nx S Sp Fi l W) : IterB p0 g0 F n P g lb encs Ok Kp Nx S Sp (fun _ => True) l W := fun J Jx hJ hJx hY h0 => (h J Jx hJ hJx hY h0).mono fun _ _ ⟨a, b⟩ => ⟨a, b.imp (fun ⟨xs, h1, _, h3⟩ => ⟨xs, h1, trivial, h3⟩) id⟩
/-- What the rounds of the first Drain know. -/
def OnI (w : World) (py : Nat) (fy : Value) (ll Bn : Nat) (lq : Option Addr) (lc : Nat) (gy : Nat) (wy : Value) (my : List Msg) (pre : List Msg) (A : World) : Prop :=
  Boxed A Bn 3 (.int .i64 (pre.length : Nat)) ∧ Row A (w.heap.size + 1) 4 [.bool false] ∧ Boxed A w.heap.size 23 (.slice lq ll lc) ∧ LkAt w.heap.size A py gy fy wy ⟨[], ll, my⟩ ∧ Below w.heap.size w A ∧ Bn + 2 ≤ A.heap.size

set_option maxRecDepth 100000 in
set_option maxHeartbeats 8000000 in
theorem lossyOnce_walk (fv : Value) (fs : List (Int × Int)) (lq : Option Addr) (ll lc : Nat) (l : List (List Nat)) (w : World) (hF : FatesAt w.heap.size w fv fs) (hL : WantAt w lq ll lc l) :
    Calls Try.prog 4 #[fv, .slice lq ll lc] w fun e w' => e = .returned (.bool true) ∧ Below w.heap.size w w' := by
  obtain ⟨fq, fc, rfl, hfl, hfm, _⟩ := id hF
  obtain ⟨fl, hfl'⟩ : ∃ fl, fs.length = fl := ⟨_, rfl⟩
  rw [hfl'] at hfl hF ⊢
  by_cases hc1 : (30 : Int) < (fl : Int)
  · exact lossyOnce_long _ _ _ _ _ _ _ (.inl hc1)
  by_cases hc2 : (30 : Int) < (ll : Int)
  · exact lossyOnce_long _ _ _ _ _ _ _ (.inr hc2)
  rw [← callsIn_wide (n := 12)]
  have HF : Hid (FatesAt w.heap.size w (.slice fq fl fc) fs) := hF
  have HFl : Hid (fs.length = fl) := hfl'
  have HL : Hid (WantAt w lq ll lc l) := hL
  have HLl : Hid (l.length = ll) := hL.1
  have h1 : 1 ≤ 12 := by omega
  have hfn : ∀ f, Fence.wide.fn f := fun _ => trivial
  obtain ⟨w1, hw1⟩ : ∃ w1, (w.alloc (.cells #[.slice lq ll lc] 23)).alloc (.cells #[.bool false] 4) = w1 := ⟨_, rfl⟩
  have HA : Hid (Calls Try.prog 6 #[] w1 fun e w' => e = .returned (.bool true) ∧ Below w1.heap.size w1 w') := awake_any w1
  have hb1 : Below w.heap.size w w1 := by rw [← hw1]; exact ((Below.refl _ w).alloc (Nat.le_refl _) _).alloc (by simp) _
  have hx1 : Boxed w1 w.heap.size 23 (.slice lq ll lc) := by rw [← hw1]; exact (Boxed.new w 23 _).alloc _
  have hr1 : Row w1 (w.heap.size + 1) 4 [.bool false] := by
    rw [← hw1]
    have := Row.new (w.alloc (.cells #[.slice lq ll lc] 23)) 4 #[.bool false]
    rwa [World.size_alloc] at this
  have HB1 : Hid (Below w.heap.size w w1) := hb1
  have HX1 : Hid (Boxed w1 w.heap.size 23 (.slice lq ll lc)) := hx1
  have HR1 : Hid (Row w1 (w.heap.size + 1) 4 [.bool false]) := hr1
  have G7 : Hid True := trivial
  clear hF hL hfl' hb1 hx1 hr1
  refine callsIn_of_wp_marks Try.func4 rfl trivial ?_ rfl
  simp only [Try.ntmps4, List.size_toArray, List.length_cons, List.length_nil, Nat.reduceAdd, Nat.reduceSub, Array.replicate_succ, Array.replicate_zero, List.push_toArray, List.append_toArray, List.nil_append, List.cons_append]
  gi_wp2_with (first
    | (gi_at_call 6; refine (callsIn_wide.2 HA.out).mono ?_; rintro e w2 ⟨rfl, hb2⟩; have HB2 : Hid (Below w.heap.size w w2) := HB1.out.trans (hb2.mono HB1.out.size); have HX2 : Hid (Boxed w2 w.heap.size 23 (.slice lq ll lc)) := boxed_below HX1.out hb2; have HR2 : Hid (Row w2 (w.heap.size + 1) 4 [.bool false]) := HR1.out.later hb2; have hcx := HX2.out.cell; clear hb2)
    | (gi_at_call 7; clear G7; refine (callsIn_wide.2 (new_any (HF.out.later (HB2.out.mono (Nat.le_refl _))) (by rw [HFl.out]; omega) HB2.out.size)).mono ?_; rintro e w3 ⟨px, fx, rfl, hpx, hX3, hb3⟩; have HP3 : Hid (LkAt w.heap.size w3 px px fx (.slice none 0 0) ⟨fs, 0, []⟩) := hX3; have HB23 : Hid (Below w2.heap.size w2 w3) := hb3; have hpl3 := hX3.row.lt; clear hX3 hb3)
    | (gi_at_call 7; refine (callsIn_wide.2 (new_any (base := w.heap.size) (fs := []) ⟨none, 0, rfl, Nat.le_refl _, by omega, .inl rfl⟩ (by simp) (Nat.le_trans HB2.out.size HB23.out.size))).mono ?_; rintro e w4 ⟨py, fy, rfl, hpy, hY4, hb4⟩; have HQ4 : Hid (LkAt w.heap.size w4 py py fy (.slice none 0 0) ⟨[], 0, []⟩) := hY4; have HB34 : Hid (Below w3.heap.size w3 w4) := hb4; have hcx4 := (boxed_below HX2.out (HB23.out.trans (hb4.mono HB23.out.size))).cell; clear hY4 hb4))
  have hB24 : Below w2.heap.size w2 w4 := HB23.out.trans (HB34.out.mono HB23.out.size)
  have HX4 : Hid (Boxed w4 w.heap.size 23 (.slice lq ll lc)) := boxed_below HX2.out hB24
  have HR4 : Hid (Row w4 (w.heap.size + 1) 4 [.bool false]) := HR2.out.later hB24
  have HO4 : Hid (OnAt w px py fx fy fs l 0 w4) := ⟨px, _, [], py, _, [], HP3.out.later HB34.out, HQ4.out, by omega, by omega, by omega, by omega, by simp [keys, Srt], by simp, fun m hm => by simp at hm, rfl, HB2.out.trans (hB24.mono HB2.out.size)⟩
  clear hB24 hpx hpy hpl3
  gi_loopw [31] (fun i wr => ∃ k : Nat, k ≤ ll ∧ i = .int .i64 k ∧ OnAt w px py fx fy fs l k wr ∧ Boxed wr w.heap.size 23 (.slice lq ll lc) ∧ Row wr (w.heap.size + 1) 4 [.bool false]) (fun i _ => ll - (RowKit.intOf i).toNat)
  case atStart => exact ⟨0, Nat.zero_le _, rfl, HO4.out, HX4.out, HR4.out⟩
  case round =>
    obtain ⟨k, hk, rfl, hO, hX, hR⟩ := hrel
    by_cases hlt : k < ll
    · have hki : (k : Int) < (ll : Int) := by omega
      have hkw : IntKind.i64.wrap ((k : Int) + 1) = (k : Int) + 1 := by rw [IntKind.wrap_i64]; omega
      obtain ⟨_, hlc, hlm, _, h | ⟨lb, loff, rfl, hlb, hl⟩⟩ := HL.out
      · omega
      obtain ⟨qx, lx, cx, hcl, hI⟩ := hl k hlt
      have hck : wr.cell? ⟨lb, loff + k, none⟩ = some (.slice qx lx cx) := (hO.below.cell (p := ⟨lb, loff + k, none⟩) hlb).trans hcl
      have hcr := hR.cell (i := 0) rfl
      have hfr := hR.frozen 0
      by_cases h100 : (100 : Int) < (lx : Int)
      · have HE : Hid (Row (wr.setCell ⟨w.heap.size + 1, 0, none⟩ (.bool true)) (w.heap.size + 1) 4 [.bool true] ∧ Below w.heap.size w (wr.setCell ⟨w.heap.size + 1, 0, none⟩ (.bool true))) := ⟨hR.set 0 _, hO.below.setCell (p := ⟨w.heap.size + 1, 0, none⟩) (by show _ ≤ w.heap.size + 1; omega) _⟩
        clear hO hX hR hI hcl hl
        gi_wp2
        exact ⟨_, results_bool rfl rfl HE.out.1, rfl, HE.out.2⟩
      · have HI : Hid (IsBytes w.heap.size w qx lx cx (l.getD k [])) := hI
        have HS : Hid (Calls Try.prog 8 #[.pointer (some ⟨px, 0, none⟩), .slice qx lx cx] wr fun e w' => (∃ v, e = .returned v) ∧ OnHalf w px py fx fy fs l k w' ∧ KpE wr w') := hO.send1 (by omega) (by rw [HLl.out]; exact hlt) hI (by omega)
        have HX : Hid (Boxed wr w.heap.size 23 (.slice (some ⟨lb, loff, none⟩) ll lc)) := hX
        have HR : Hid (Row wr (w.heap.size + 1) 4 [.bool false]) := hR
        clear hO hX hR hI hcl hl
        gi_wp2_with (first
          | (gi_at_call 8; clear hcr; refine (callsIn_wide.2 HS.out).mono ?_; rintro e w5 ⟨⟨v5, rfl⟩, hH, hk5⟩; have HH : Hid (OnHalf w px py fx fy fs l k w5) := hH; have HX5 : Hid (Boxed w5 w.heap.size 23 (.slice (some ⟨lb, loff, none⟩) ll lc)) := hk5 _ _ _ _ (by decide) (by decide) HX.out; have HR5 : Hid (Row w5 (w.heap.size + 1) 4 [.bool false]) := hk5 _ _ _ _ (by decide) (by decide) HR.out; clear hH hk5)
          | (gi_at_call 8; refine (callsIn_wide.2 (HH.out.send2 (by omega) HI.out (by omega))).mono ?_; rintro e w6 ⟨⟨v6, rfl⟩, hO6, hk6⟩; have HO6 : Hid (OnAt w px py fx fy fs l (k + 1) w6) := hO6; have HX6 : Hid (Boxed w6 w.heap.size 23 (.slice (some ⟨lb, loff, none⟩) ll lc)) := hk6 _ _ _ _ (by decide) (by decide) HX5.out; have HR6 : Hid (Row w6 (w.heap.size + 1) 4 [.bool false]) := hk6 _ _ _ _ (by decide) (by decide) HR5.out; clear hO6 hk6))
        go_roundw
        case rel => exact ⟨k + 1, by omega, by go_num, HO6.out, HX6.out, HR6.out⟩
        case measure => simp [RowKit.intOf]; omega
    · obtain rfl : ll = k := by omega
      have hcx5 := hX.cell
      gi_wp2_with (gi_at_call 14; refine (callsIn_wide.2 (drain_any px _)).mono ?_; rintro e w' ⟨rfl, rfl⟩)
      obtain ⟨gx, wx, mx, gy, wy, my, hx, hy, a1, a2, a3, a4, hsx, hmx, hinx, hky, hBw⟩ := id hO
      have hZp := hx.hp
      have hZg := hx.hg
      have hZy := hy.hp
      have hwpos := hBw.size
      have hwrl := hR.lt
      obtain ⟨S, hS⟩ : ∃ S, wr.heap.size + 2 = S := ⟨_, rfl⟩
      obtain ⟨w6, hw6⟩ : ∃ w6, (wr.alloc (.cells #[.int .i64 0] 3)).alloc (.cells #[.pointer (some ⟨px, 0, none⟩)] 26) = w6 := ⟨_, rfl⟩
      have hb6 : Below wr.heap.size wr w6 := by rw [← hw6]; exact ((Below.refl _ wr).alloc (Nat.le_refl _) _).alloc (by simp) _
      have hs6 : w6.heap.size = S := by rw [← hw6, ← hS]; simp
      have hN6 : Boxed w6 wr.heap.size 3 (.int .i64 0) := by rw [← hw6]; exact (Boxed.new wr 3 _).alloc _
      have hD6 : Boxed w6 (wr.heap.size + 1) 26 (.pointer (some ⟨px, 0, none⟩)) := by
        rw [← hw6]
        have := Boxed.new (wr.alloc (.cells #[.int .i64 0] 3)) 26 (.pointer (some ⟨px, 0, none⟩))
        rwa [World.size_alloc] at this
      have hX6 : Boxed w6 w.heap.size 23 (.slice lq ll lc) := boxed_below hX hb6
      have hR6 : Row w6 (w.heap.size + 1) 4 [.bool false] := hR.later hb6
      have hx6 := hx.later hb6
      have hy6 := hy.later hb6
      have hIx : InS S px gx fx mx := by have := InS.of hx6; rwa [hs6] at this
      have hDy : LkD (fun b => b < wr.heap.size ∧ b ≠ px ∧ b ≠ gx ∧ (w.heap.size ≤ b → ∃ c t fr, wr.heap[b]? = some (.cells c t fr) ∧ t ≠ 3 ∧ t ≠ 4)) py gy fy my := LkD.apart hy hx (fun e => a1 e.symm) (fun e => a3 e.symm) (fun e => a2 e.symm) (fun e => a4 e.symm)
      have hDy2 : LkD (fun b => b < wr.heap.size ∧ b ≠ px ∧ b ≠ gx ∧ b ≠ w.heap.size + 1) py gy fy my := hDy.mono (fun b ⟨h1, h2, h3, h4⟩ => ⟨h1, h2, h3, fun e => by
        obtain ⟨c, t, fr, h5, h6, h7⟩ := h4 (by omega)
        have := hR
        unfold Row at this
        rw [← e, h5] at this
        cases this
        exact h7 rfl⟩)
      have hB6 : Below w.heap.size w w6 := hBw.trans (hb6.mono hwpos)
      have hpS := hIx.hp
      have hgS := hIx.hg
      have hxr : px ≠ w.heap.size + 1 ∧ gx ≠ w.heap.size + 1 := by
        refine ⟨row_ne hx.row hR (by decide), ?_⟩
        rintro e
        obtain ⟨_, c, t, fr, h2, h3, h4⟩ := hx.ntg
        have hr := hR
        unfold Row at hr
        obtain ⟨q, c', e', ⟨_, _, _, hgp⟩ | ⟨o, cur, _, hrr, _⟩⟩ := hx.wait
        · exact row_ne hx.row hR (by decide) (hgp ▸ e)
        · exact row_ne hrr hR (by decide) e
      have hxz : px ≠ w.heap.size ∧ gx ≠ w.heap.size := by
        have hXr : Row wr w.heap.size 23 [.slice lq ll lc] := hX
        refine ⟨row_ne hx.row hXr (by decide), ?_⟩
        rintro e
        obtain ⟨q, c', e', ⟨_, _, _, hgp⟩ | ⟨o, cur, _, hrr, _⟩⟩ := hx.wait
        · exact row_ne hx.row hXr (by decide) (hgp ▸ e)
        · exact row_ne hrr hXr (by decide) e
      have hpl := hx.row.lt
      have hgl := hx.ntg.lt
      rw [hw6]
      have HMx : Hid (∀ m ∈ mx, m.zs ∈ l) := fun m hm => by have := hinx m hm; rwa [List.take_of_length_le (by rw [HLl.out]; exact Nat.le_refl _)] at this
      have HDy : Hid (LkD (fun b => b < wr.heap.size ∧ b ≠ px ∧ b ≠ gx ∧ b ≠ w.heap.size + 1) py gy fy my) := hDy2
      have HKy : Hid (keys my = numK l ll) := hky
      have HMl : Hid (mx.length ≤ 3 * ll) := hmx
      clear hw6 hO hX hR hDy hDy2 hinx hx hy
      have HI0 : Hid (∀ pre A A', (∀ b, b < wr.heap.size + 2 → b ≠ px → b ≠ gx → A'.heap[b]? = A.heap[b]?) → A.heap.size ≤ A'.heap.size → A'.os = A.os → A'.tape = A.tape → A'.output = A.output → OnI w py fy ll wr.heap.size lq lc gy wy my pre A → OnI w py fy ll wr.heap.size lq lc gy wy my pre A') := fun pre A A' hb hs ho ht hu ⟨b1, b2, b3, b4, b5, b6⟩ => by
        refine ⟨(hb _ (by omega) (by omega) (by omega)).trans b1, (hb _ (by omega) (fun e => hxr.1 e.symm) (fun e => hxr.2 e.symm)).trans b2, (hb _ (by omega) (fun e => hxz.1 e.symm) (fun e => hxz.2 e.symm)).trans b3, b4.keepD HDy.out (fun b o hD hh => (hb b (by have := hD.1; omega) hD.2.1 hD.2.2.1).trans hh) hs, b5.trans ⟨ho, ht, hu, hs, fun b hbl => hb b (by omega) (by omega) (by omega)⟩, by omega⟩
      refine wpIn_rangeFunc_but (p0 := px) (g0 := gx) ⟨by omega, by omega⟩ rfl h1 (gf := 21) (lb := #[.pointer (some ⟨wr.heap.size + 1, 0, none⟩)]) rfl trivial (enters_of Try.func21 (by kernel_rfl) rfl)
        (encs := fun m : Msg => #[.slice m.q m.n m.c]) (Ok := fun m A => Txt w.heap.size A m ∧ ∀ a, m.q = some a → a.block < S) (Kp := fun A A' => KpP (DrP w.heap.size S) A A' ∧ A.heap.size ≤ A'.heap.size) (Nx := fun pre m => ∃ post, mx = pre ++ m :: post) (S := fun xs => xs = mx) (Sp := fun _ => True) (Fi := fun A => ∃ wv', LkAt w.heap.size A px gx fx wv' ⟨fs, ll, []⟩)
        ?hFi
        (fun W' hs hb => by
          have := drain1_iter (12 - 1) (by omega) (w6.heap.size + 1) (wr.heap.size + 1) w.heap.size S px gx fx wx ⟨fs, ll, mx⟩ W' (boxed_below hD6 hb) (by omega) (hx6.later hb) hIx
          exact this)
        (fun h k => ⟨h.1.trans k.1, Nat.le_trans h.2 k.2⟩) (fun A o o' ho hc => ⟨KpP.record o' (fun o h => by rcases h with h | h <;> omega), by simp [World.putObj]⟩) (fun h => ⟨KpP.of_below h, h.size⟩) (fun _ => rfl)
        (fun _ _ _ => True) (fun _ _ _ _ _ _ => trivial)
        (fun pre A => OnI w py fy ll wr.heap.size lq lc gy wy my pre A)
        (fun _ _ _ => False)
        ?hI (fun _ _ _ _ _ h _ _ => h.elim) ?hOk ?h0
        (fun m A => { tmps := #[Value.slice fq fl fc, Value.slice lq ll lc, undef, Value.pointer (some ⟨w.heap.size, 0, none⟩), Value.pointer (some ⟨w.heap.size + 1, 0, none⟩), Value.pointer (some ⟨px, 0, none⟩), Value.pointer (some ⟨py, 0, none⟩), undef, u8, Value.pointer (some ⟨wr.heap.size, 0, none⟩), .slice m.q m.n m.c, undef, undef, undef, undef, undef, Value.bool true, Value.bool false, Value.slice fq fl fc, Value.int IntKind.i64 (fl : Nat), Value.bool (decide ((30 : Int) < (fl : Nat))), Value.bool (decide ((30 : Int) < (fl : Nat))), Value.slice lq ll lc, Value.int IntKind.i64 (ll : Nat), Value.bool (decide ((30 : Int) < (ll : Nat))), Value.bool (decide ((30 : Int) < (fl : Nat)) || decide ((30 : Int) < (ll : Nat))), Value.slice fq fl fc, Value.pointer (some ⟨px, 0, none⟩), Value.pointer (some ⟨py, 0, none⟩), Value.slice lq ll lc, Value.int IntKind.i64 (ll : Nat), Value.int IntKind.i64 (ll : Nat), Value.bool false, u33, u34, u35, u36, u37, u38, u39, u40, u41, u42, u43, u44, Value.pointer (some ⟨px, 0, none⟩), Value.func (Fn.func 21) #[] #[Value.pointer (some ⟨wr.heap.size + 1, 0, none⟩)], .slice m.q m.n m.c, undef, undef, undef, undef, undef, undef, undef, undef, undef, undef, undef, undef, undef, undef, undef, undef, undef, undef, undef, undef, undef, undef, undef, undef, undef, undef, undef, undef, undef, undef, undef, undef, undef, undef, undef, undef, undef, undef, undef, undef, undef, undef, undef, undef, undef, undef, undef, undef, undef, undef, undef, undef, undef, undef], defers := [] }) ?assign ?body ?done ?stop
      case hFi => exact fun _ A A' row ⟨wv', h⟩ hg hr => ⟨wv', h.keepD (LkD.inS (hIx.sub (by simp))) (fun b o hb hh => (hg.block b (Array.getElem?_eq_some_iff.1 hh).1 (fun e => by have := (hr b e.symm).1; omega)).trans hh) hg.size⟩
      case hI => exact ⟨fun pre A A' row h hg hr => HI0.out pre A A' (fun b hb _ _ => hg.block b (by have := h.2.2.2.2.2; omega) (fun e => by have := (hr b e.symm).1; omega)) hg.size hg.os hg.tape hg.output h, fun pre A A' h hb => HI0.out pre A A' (fun b hbl h1 h2 => hb.block b (by have := h.2.2.2.2.2; omega) h1 h2) hb.size hb.os hb.tape hb.output h⟩
      case hOk => exact fun m A A' row ⟨g1, g2⟩ hg hr => ⟨g1.kept g2 (fun k o hp ho => (hg.block k (Array.getElem?_eq_some_iff.1 ho).1 (fun e => by have := (hr k e.symm).1; rcases hp with hp | hp <;> omega)).trans ho), g2⟩
      case h0 => exact ⟨hN6, hR6, hX6, hy6, hB6, by omega⟩
      case assign =>
        intro li m A K hok hK
        gi_wp2
        exact hK A (Below.refl _ _) trivial
      case body =>
        rintro li pre m A₀ A ⟨b1, b2, b3, b4, b5, b6⟩ ⟨hT, hTb⟩ ⟨post, hpost⟩ hle _
        have hcx := b3.cell
        have hcn := b1.cell
        have hfn' := b1.frozen
        have hm3 : m.zs ∈ l := HMx.out m (by rw [hpost]; exact List.mem_append_right _ List.mem_cons_self)
        have hpl3 : pre.length < 3 * ll + 1 := by
          have := congrArg List.length hpost
          rw [List.length_append, List.length_cons] at this
          have := HMl.out
          omega
        have hSt := hT.str.here
        have HSt : Hid ((convert 32 9 (.slice m.q m.n m.c)).run Try.prog A = .ok (.string (strOf m.zs)) A) := hSt
        have HWl : Hid (WantAt A lq ll lc l) := by
          obtain ⟨h1, h2, h3, h3', h4⟩ := HL.out
          refine ⟨h1, h2, h3, h3', h4.imp id ?_⟩
          rintro ⟨b, off, e, hlt, hc⟩
          refine ⟨b, off, e, Nat.lt_of_lt_of_le hlt b5.size, fun i hi => ?_⟩
          obtain ⟨qx, lx, cx, e1, e2⟩ := hc i hi
          exact ⟨qx, lx, cx, (b5.cell (p := ⟨b, off + i, none⟩) hlt).trans e1, (e2.below b5).mono b5.size⟩
        have hz256 : ∀ z ∈ m.zs, z < 256 := hT.2
        have HFin : Hid (KeepsFrom w6.heap.size A (A.setCell ⟨wr.heap.size, 0, none⟩ (.int .i64 ((pre.length : Nat) + 1))) ∧ (KpP (DrP w.heap.size S) A (A.setCell ⟨wr.heap.size, 0, none⟩ (.int .i64 ((pre.length : Nat) + 1))) ∧ A.heap.size ≤ (A.setCell ⟨wr.heap.size, 0, none⟩ (.int .i64 ((pre.length : Nat) + 1))).heap.size) ∧ OnI w py fy ll wr.heap.size lq lc gy wy my (pre ++ [m]) (A.setCell ⟨wr.heap.size, 0, none⟩ (.int .i64 ((pre.length : Nat) + 1)))) := by
          have hsz : (A.setCell ⟨wr.heap.size, 0, none⟩ (.int .i64 ((pre.length : Nat) + 1))).heap.size = A.heap.size := by simp [World.setCell]
          refine ⟨⟨by omega, fun k o hk ho _ => (Below.heap_setCell _ _ _ _ (by show k ≠ wr.heap.size; omega)).trans ho⟩, ⟨fun k o hp ho => (Below.heap_setCell _ _ _ _ (fun e => ?_)).trans ho, by omega⟩, ⟨?_, Row.other b2 (by show _ ≠ wr.heap.size; omega) _, b3.other (by omega) _, b4.keepD HDy.out (fun b o hD hh => (Below.heap_setCell _ _ _ _ (by show b ≠ wr.heap.size; have := hD.1; omega)).trans hh) (by omega), b5.setCell (p := ⟨wr.heap.size, 0, none⟩) (by show _ ≤ wr.heap.size; omega) _, by omega⟩⟩
          · have e' : k = wr.heap.size := e
            rcases hp with hp | ⟨_, c, t, fr, e2, e3, _⟩
            · omega
            · have hb := b1
              unfold Boxed at hb
              rw [e', hb] at ho
              cases ho
              cases e2
              exact e3 rfl
          · rw [List.length_append]
            exact b1.set _
        clear b1 b2 b4 hpost hT hSt
        gi_wp2
        gi_loopw [11, 50] (fun th i A' => ∃ j : Nat, j ≤ ll ∧ i = .int .i64 j ∧ th = .bool (decide (m.zs ∈ l.take j)) ∧ A' = A) (fun _ i _ => ll - (RowKit.intOf i).toNat)
        case atStart => exact ⟨0, Nat.zero_le _, rfl, by simp, rfl⟩
        case round =>
          obtain ⟨j, hj, rfl, rfl, rfl⟩ := hrel
          by_cases hjl : j < ll
          · have hji : (j : Int) < (ll : Int) := by omega
            have hjw : IntKind.i64.wrap ((j : Int) + 1) = (j : Int) + 1 := by rw [IntKind.wrap_i64]; omega
            have hjll : j < l.length := by rw [HLl.out]; exact hjl
            have htk : l.take (j + 1) = l.take j ++ [l[j]] := List.take_succ_eq_append_getElem hjll
            obtain ⟨_, hlc, hlm, hw256, h | ⟨lb, loff, rfl, hlb, hl⟩⟩ := HWl.out
            · omega
            obtain ⟨qx, lx, cx, hcl, hI⟩ := hl j hjl
            have hgd : l.getD j [] = l[j] := by rw [List.getD_eq_getElem?_getD, List.getElem?_eq_getElem hjll, Option.getD_some]
            have hSc := (str_of_bytes hI).here
            have hSb := HSt.out
            have hy256 : ∀ z ∈ l.getD j [], z < 256 := by rw [hgd]; exact hw256 _ (List.getElem_mem hjll)
            have HDec : Hid (∀ b : Bool, decide (m.zs ∈ l.take j) = true ∨ b = decide (l.getD j [] = m.zs) → decide (m.zs ∈ l.take (j + 1)) = (decide (m.zs ∈ l.take j) || b)) := take_dec l m.zs j hjll
            have HEq := strOf_eq (l.getD j []) m.zs hy256 hz256
            generalize l.getD j [] = lj at *
            clear hl hI hgd htk hw256
            by_cases hin : m.zs ∈ l.take j
            · have hd : decide (m.zs ∈ l.take j) = true := decide_eq_true hin
              have hd' : decide (m.zs ∈ l.take (j + 1)) = true := by rw [HDec.out true (.inl hd), hd]; rfl
              rw [hd]
              clear hd hin HEq hSc hSb
              gi_wp2
              go_roundw
              case rel => exact ⟨j + 1, by omega, by go_num, by rw [hd'], trivial⟩
              case measure => simp [RowKit.intOf]; omega
            · have hd : decide (m.zs ∈ l.take j) = false := decide_eq_false hin
              by_cases heq : lj = m.zs
              · have hse : ((strOf lj).toList == (strOf m.zs).toList) = true := by rw [HEq]; exact decide_eq_true heq
                have hd' : decide (m.zs ∈ l.take (j + 1)) = true := by rw [HDec.out true (.inr (by rw [decide_eq_true heq])), hd]; rfl
                rw [hd]
                clear hd hin heq HEq
                gi_wp2
                go_roundw
                case rel => exact ⟨j + 1, by omega, by go_num, by rw [hd'], trivial⟩
                case measure => simp [RowKit.intOf]; omega
              · have hse : ((strOf lj).toList == (strOf m.zs).toList) = false := by rw [HEq]; exact decide_eq_false heq
                have hd' : decide (m.zs ∈ l.take (j + 1)) = false := by rw [HDec.out false (.inr (by rw [decide_eq_false heq])), hd]; rfl
                rw [hd]
                clear hd hin heq HEq
                gi_wp2
                go_roundw
                case rel => exact ⟨j + 1, by omega, by go_num, by rw [hd'], trivial⟩
                case measure => simp [RowKit.intOf]; omega
          · obtain rfl : ll = j := by omega
            have hd : decide (m.zs ∈ l.take ll) = true := by rw [List.take_of_length_le (by rw [HLl.out]; exact Nat.le_refl _)]; exact decide_eq_true hm3
            have hnw : IntKind.i64.wrap (((pre.length : Nat) : Int) + 1) = ((pre.length : Nat) : Int) + 1 := by rw [IntKind.wrap_i64]; omega
            rw [hd]
            clear hd
            gi_wp2
            exact HFin.out
      case done =>
        rintro D xs A hD rfl ⟨wvx, hxE⟩ ⟨b1, b2, b3, b4, b5, b6⟩ hKD
        gi_wp2_with (gi_at_call 14; refine (callsIn_wide.2 (drain_any py _)).mono ?_; rintro e w' ⟨rfl, rfl⟩)
        obtain ⟨S2, hS2⟩ : ∃ S2, A.heap.size + 2 = S2 := ⟨_, rfl⟩
        obtain ⟨w8, hw8⟩ : ∃ w8, (A.alloc (.cells #[.int .i64 0] 3)).alloc (.cells #[.pointer (some ⟨py, 0, none⟩)] 26) = w8 := ⟨_, rfl⟩
        have hb8 : Below A.heap.size A w8 := by rw [← hw8]; exact ((Below.refl _ A).alloc (Nat.le_refl _) _).alloc (by simp) _
        have hs8 : w8.heap.size = S2 := by rw [← hw8, ← hS2]; simp
        have hI8 : Boxed w8 A.heap.size 3 (.int .i64 0) := by rw [← hw8]; exact (Boxed.new A 3 _).alloc _
        have hD8 : Boxed w8 (A.heap.size + 1) 26 (.pointer (some ⟨py, 0, none⟩)) := by
          rw [← hw8]
          have := Boxed.new (A.alloc (.cells #[.int .i64 0] 3)) 26 (.pointer (some ⟨py, 0, none⟩))
          rwa [World.size_alloc] at this
        rw [hw8]
        have hy8 := b4.later hb8
        have hIy : InS S2 py gy fy my := by have := InS.of hy8; rwa [hs8] at this
        obtain ⟨xq, xc, rfl, _⟩ := id hxE.wait
        have hXR : Row A px 44 [.bool true, fx, .int .i64 ll, .slice xq 0 xc] := hxE.row
        have hDl := (Array.getElem?_eq_some_iff.1 hKD).1
        have hZR : Row A w.heap.size 23 [.slice lq ll lc] := b3
        have hyz : py ≠ w.heap.size ∧ gy ≠ w.heap.size := by
          refine ⟨row_ne b4.row hZR (by decide), ?_⟩
          rintro e
          obtain ⟨q, c', e', ⟨_, _, _, hgp⟩ | ⟨o, cur, _, hrr, _⟩⟩ := b4.wait
          · exact row_ne b4.row hZR (by decide) (hgp ▸ e)
          · exact row_ne hrr hZR (by decide) e
        have hyp := HDy.out.hp
        have hyg := HDy.out.hg
        have hxl := hXR.lt
        have hJ0 : OnJ w wr.heap.size xs.length A.heap.size lq ll lc px [.bool true, fx, .int .i64 ll, .slice xq 0 xc] D [] w8 := ⟨hI8, boxed_below b1 hb8, b2.later hb8, boxed_below b3 hb8, hXR.later hb8, (hb8.block D hDl).trans hKD, b5.trans (hb8.mono b5.size), by omega⟩
        have HJ1 : Hid (∀ pre A1 A', (∀ b, b < A.heap.size + 2 → b ≠ py → b ≠ gy → A'.heap[b]? = A1.heap[b]?) → A1.heap.size ≤ A'.heap.size → A'.os = A1.os → A'.tape = A1.tape → A'.output = A1.output → OnJ w wr.heap.size xs.length A.heap.size lq ll lc px [.bool true, fx, .int .i64 ll, .slice xq 0 xc] D pre A1 → OnJ w wr.heap.size xs.length A.heap.size lq ll lc px [.bool true, fx, .int .i64 ll, .slice xq 0 xc] D pre A') := fun pre A1 A' hb hs ho ht hu ⟨c1, c2, c3, c4, c5, c6, c7, c8⟩ =>
          ⟨(hb _ (by omega) (by omega) (by omega)).trans c1, (hb _ (by omega) (by omega) (by omega)).trans c2, (hb _ (by omega) (fun e => hyp.2.2.2 e.symm) (fun e => hyg.2.2.2 e.symm)).trans c3, (hb _ (by omega) (fun e => hyz.1 e.symm) (fun e => hyz.2 e.symm)).trans c4, (hb _ (by omega) a1 a2).trans c5, (hb _ (by omega) (by omega) (by omega)).trans c6, c7.trans ⟨ho, ht, hu, hs, fun b hbl => hb b (by omega) (by omega) (by have := b4.hg; omega)⟩, by omega⟩
        have hpy8 : py < w8.heap.size ∧ gy < w8.heap.size := by omega
        clear hw8 b1 b2 b4 hxE hXR HI0
        refine wpIn_rangeFunc_but (p0 := py) (g0 := gy) hpy8 rfl h1 (gf := 21) (lb := #[.pointer (some ⟨A.heap.size + 1, 0, none⟩)]) rfl trivial (enters_of Try.func21 (by kernel_rfl) rfl)
          (encs := fun m : Msg => #[.slice m.q m.n m.c]) (Ok := fun m A => Txt w.heap.size A m ∧ ∀ a, m.q = some a → a.block < S2) (Kp := fun A A' => KpP (DrP w.heap.size S2) A A' ∧ A.heap.size ≤ A'.heap.size) (Nx := fun pre m => ∃ post, my = pre ++ m :: post) (S := fun xs => xs = my) (Sp := fun _ => True) (Fi := fun _ => True)
          (fun _ _ _ _ _ _ _ => trivial)
          (fun W' hs hb => by
            have := drain1_iter (12 - 1) (by omega) (w8.heap.size + 1) (A.heap.size + 1) w.heap.size S2 py gy fy wy ⟨[], ll, my⟩ W' (boxed_below hD8 hb) (by omega) (hy8.later hb) hIy
            exact this.fi)
          (fun h k => ⟨h.1.trans k.1, Nat.le_trans h.2 k.2⟩) (fun A o o' ho hc => ⟨KpP.record o' (fun o h => by rcases h with h | h <;> omega), by simp [World.putObj]⟩) (fun h => ⟨KpP.of_below h, h.size⟩) (fun _ => rfl)
          (fun _ _ _ => True) (fun _ _ _ _ _ _ => trivial)
          (fun pre A' => OnJ w wr.heap.size xs.length A.heap.size lq ll lc px [.bool true, fx, .int .i64 ll, .slice xq 0 xc] D pre A')
          (fun _ _ _ => False)
          ?hI2 (fun _ _ _ _ _ h _ _ => h.elim) ?hOk2 hJ0
          (fun m A' => { tmps := #[Value.slice fq fl fc, Value.slice lq ll lc, undef, Value.pointer (some ⟨w.heap.size, 0, none⟩), Value.pointer (some ⟨w.heap.size + 1, 0, none⟩), Value.pointer (some ⟨px, 0, none⟩), Value.pointer (some ⟨py, 0, none⟩), undef, u8, Value.pointer (some ⟨wr.heap.size, 0, none⟩), undef, undef, undef, undef, Value.pointer (some ⟨A.heap.size, 0, none⟩), .slice m.q m.n m.c, Value.bool true, Value.bool false, Value.slice fq fl fc, Value.int IntKind.i64 (fl : Nat), Value.bool (decide ((30 : Int) < (fl : Nat))), Value.bool (decide ((30 : Int) < (fl : Nat))), Value.slice lq ll lc, Value.int IntKind.i64 (ll : Nat), Value.bool (decide ((30 : Int) < (ll : Nat))), Value.bool (decide ((30 : Int) < (fl : Nat)) || decide ((30 : Int) < (ll : Nat))), Value.slice fq fl fc, Value.pointer (some ⟨px, 0, none⟩), Value.pointer (some ⟨py, 0, none⟩), Value.slice lq ll lc, Value.int IntKind.i64 (ll : Nat), Value.int IntKind.i64 (ll : Nat), Value.bool false, u33, u34, u35, u36, u37, u38, u39, u40, u41, u42, u43, u44, Value.pointer (some ⟨px, 0, none⟩), Value.func (Fn.func 21) #[] #[Value.pointer (some ⟨wr.heap.size + 1, 0, none⟩)], undef, undef, undef, undef, undef, undef, undef, undef, undef, undef, undef, undef, undef, undef, undef, undef, undef, undef, undef, undef, Value.pointer (some ⟨py, 0, none⟩), Value.func (Fn.func 21) #[] #[Value.pointer (some ⟨A.heap.size + 1, 0, none⟩)], .slice m.q m.n m.c, undef, undef, undef, undef, undef, undef, undef, undef, undef, undef, undef, undef, undef, undef, undef, undef, undef, undef, undef, undef, undef, undef, undef, undef, undef, undef, undef, undef, undef, undef, undef, undef], defers := [] }) ?assign2 ?body2 ?done2 ?stop2
        case hI2 => exact ⟨fun pre A1 A' row h hg hr => HJ1.out pre A1 A' (fun b hb _ _ => hg.block b (by have := h.2.2.2.2.2.2.2; omega) (fun e => by have := (hr b e.symm).1; omega)) hg.size hg.os hg.tape hg.output h, fun pre A1 A' h hb => HJ1.out pre A1 A' (fun b hbl h1 h2 => hb.block b (by have := h.2.2.2.2.2.2.2; omega) h1 h2) hb.size hb.os hb.tape hb.output h⟩
        case hOk2 => exact fun m A1 A' row ⟨g1, g2⟩ hg hr => ⟨g1.kept g2 (fun k o hp ho => (hg.block k (Array.getElem?_eq_some_iff.1 ho).1 (fun e => by have := (hr k e.symm).1; rcases hp with hp | hp <;> omega)).trans ho), g2⟩
        case assign2 =>
          intro li m A' K hok hK
          gi_wp2
          exact hK A' (Below.refl _ _) trivial
        case body2 =>
          rintro li pre m A₀ A' ⟨c1, c2, c3, c4, c5, c6, c7, c8⟩ ⟨hT, hTb⟩ ⟨post, hpost⟩ hle _
          obtain ⟨hzs, hpl⟩ := key_nth HKy.out hpost
          obtain ⟨i, hi⟩ : ∃ i, pre.length = i := ⟨_, rfl⟩
          rw [hi] at hzs hpl c1
          have HWl : Hid (WantAt A' lq ll lc l) := by
            obtain ⟨h1, h2, h3, h3', h4⟩ := HL.out
            refine ⟨h1, h2, h3, h3', h4.imp id ?_⟩
            rintro ⟨b, off, e, hlt, hc⟩
            refine ⟨b, off, e, Nat.lt_of_lt_of_le hlt c7.size, fun i hi => ?_⟩
            obtain ⟨qx, lx, cx, e1, e2⟩ := hc i hi
            exact ⟨qx, lx, cx, (c7.cell (p := ⟨b, off + i, none⟩) hlt).trans e1, (e2.below c7).mono c7.size⟩
          obtain ⟨_, hlc, hlm, hw256, h | ⟨lb, loff, rfl, hlb, hl⟩⟩ := HWl.out
          · omega
          obtain ⟨qx, lx, cx, hcl, hI⟩ := hl i hpl
          rw [← hzs] at hI
          have HSc : Hid (Str A' (.slice qx lx cx) (strOf m.zs)) := str_of_bytes hI
          have HSb : Hid (Str A' (.slice m.q m.n m.c) (strOf m.zs)) := hT.str
          have hkl : (i : Int) < (ll : Int) := by omega
          have hgi : ¬ ((ll : Nat) : Int) ≤ (i : Nat) := by omega
          have hgn : decide (ll ≤ i) = false := decide_eq_false (by omega)
          have hgi2 : decide (((ll : Nat) : Int) ≤ (i : Nat)) = false := decide_eq_false hgi
          have hiw : IntKind.i64.wrap ((i : Int) + 1) = (i : Int) + 1 := by rw [IntKind.wrap_i64]; omega
          have hSe : ((strOf m.zs).toList == (strOf m.zs).toList) = true := beq_self_eq_true _
          have HF : Hid (∀ X, Below A'.heap.size A' X → X.cell? ⟨A.heap.size, 0, none⟩ = some (.int .i64 (i : Nat)) ∧ X.cell? ⟨w.heap.size, 0, none⟩ = some (.slice (some ⟨lb, loff, none⟩) ll lc) ∧ X.cell? ⟨lb, loff + i, none⟩ = some (.slice qx lx cx) ∧ (convert 32 9 (.slice m.q m.n m.c)).run Try.prog X = .ok (.string (strOf m.zs)) X ∧ (convert 32 9 (.slice qx lx cx)).run Try.prog X = .ok (.string (strOf m.zs)) X) := fun X hb => ⟨(boxed_below c1 hb).cell, (boxed_below c4 hb).cell, (hb.cell (p := ⟨lb, loff + i, none⟩) hlb).trans hcl, HSb.out X hb, HSc.out X hb⟩
          have hcN := c1.cell
          have hfN := c1.frozen
          have HGo : Hid (∀ A2, (A'.setCell ⟨A.heap.size, 0, none⟩ (.int .i64 ((i : Nat) + 1))).drew = A2 → KeepsFrom w8.heap.size A' A2 ∧ (KpP (DrP w.heap.size S2) A' A2 ∧ A'.heap.size ≤ A2.heap.size) ∧ OnJ w wr.heap.size xs.length A.heap.size (some ⟨lb, loff, none⟩) ll lc px [.bool true, fx, .int .i64 ll, .slice xq 0 xc] D (pre ++ [m]) A2) := fun A2 e => by
            subst e
            have hsz : (A'.setCell ⟨A.heap.size, 0, none⟩ (.int .i64 ((i : Nat) + 1))).drew.heap.size = A'.heap.size := by simp [World.setCell, World.drew]
            have hot : ∀ k, k ≠ A.heap.size → (A'.setCell ⟨A.heap.size, 0, none⟩ (.int .i64 ((i : Nat) + 1))).drew.heap[k]? = A'.heap[k]? := fun k hk => Below.heap_setCell _ _ _ _ hk
            refine ⟨⟨by omega, fun k o hk ho _ => (hot k (by omega)).trans ho⟩, ⟨fun k o hp ho => (hot k (fun e => ?_)).trans ho, by omega⟩, ⟨?_, (hot _ (by omega)).trans c2, (hot _ (by omega)).trans c3, (hot _ (by omega)).trans c4, (hot _ (by omega)).trans c5, (hot _ (by omega)).trans c6, (c7.setCell (p := ⟨A.heap.size, 0, none⟩) (by show _ ≤ A.heap.size; omega) _).drew, by omega⟩⟩
            · rcases hp with hp | ⟨_, c, t, fr, e2, e3, _⟩
              · omega
              · have hb := c1
                unfold Boxed at hb
                rw [e, hb] at ho
                cases ho
                cases e2
                exact e3 rfl
            · rw [List.length_append, hi]
              exact (c1.set (.int .i64 ((i : Nat) + 1)))
          clear c1 c2 c3 c4 c5 c6 c8 hpost hT hI hl hcl hzs
          gi_wp2
          refine wpIn_region_on_round (S := fun W' => Below A'.heap.size A' W') (by kernel_rfl) (by kernel_rfl) (Below.refl _ _).drew (fun hHeld => ?_)
          refine wpAnyH_takesAt 0 14 0 (of_decide_eq_true (by kernel_rfl)) rfl (fun _ _ _ d _ h => by cases d <;> exact h) (by kernel_rfl) (by kernel_rfl) hHeld ?_
          simp only [List.drop_zero, List.take_succ_cons, List.take_zero]
          iterate 14 (refine wpHeld_step (v := ?_) (by rfl) (fun wz hSw => ?_) ?_; rotate_left; (focus ((obtain ⟨hf1, hf2, hf3, hf4, hf5⟩ := HF.out wz hSw; clear hSw); go_simp; try with_reducible rfl)); (simp only [Act.put, List.setIfInBounds_toArray, List.set_cons_zero, List.set_cons_succ]))
          refine wpHeld_nil ?_
          refine wpAnyH_done (by kernel_rfl) ?_ _
          refine OnOnly.on ?_
          gi_wp2
          exact HGo.out _ rfl
        case done2 =>
          rintro D2 ys A' hD2 hys _ ⟨c1, c2, c3, c4, c5, c6, c7, c8⟩ hKD2
          have hyl : ys.length = ll := by rw [hys, ← keys_length, HKy.out, numK_length]
          rw [hyl] at c1
          have hci := c1.cell
          have hcn := c2.cell
          have hcz := c4.cell
          have hc4 := c3.cell (i := 0) rfl
          have hf4 := c3.frozen 0
          have hcp := c5.cell (i := 3) rfl
          have hmul : IntKind.i64.wrap (3 * (ll : Int)) = 3 * (ll : Int) := by rw [IntKind.wrap_i64]; omega
          have hle3 : (xs.length : Int) ≤ 3 * (ll : Int) := by have := HMl.out; omega
          have HFin : Hid (Row (A'.setCell ⟨w.heap.size + 1, 0, none⟩ (.bool true)) (w.heap.size + 1) 4 [.bool true] ∧ Below w.heap.size w (A'.setCell ⟨w.heap.size + 1, 0, none⟩ (.bool true)) ∧ (A'.setCell ⟨w.heap.size + 1, 0, none⟩ (.bool true)).heap[D]? = some (.deferred (some [])) ∧ (A'.setCell ⟨w.heap.size + 1, 0, none⟩ (.bool true)).heap[D2]? = some (.deferred (some []))) :=
            ⟨c3.set 0 _, c7.setCell (p := ⟨w.heap.size + 1, 0, none⟩) (by show _ ≤ w.heap.size + 1; omega) _, (Below.heap_setCell _ _ _ _ (by show D ≠ w.heap.size + 1; omega)).trans c6, (Below.heap_setCell _ _ _ _ (by show D2 ≠ w.heap.size + 1; omega)).trans hKD2⟩
          have hDD : D2 ≠ D := by omega
          clear c1 c2 c3 c4 c5 c6 c7
          gi_wp2_with (gi_at_call 12; refine (callsIn_wide.2 (waiting_row hcp)).mono ?_; rintro e w9 ⟨rfl, hw9⟩; obtain rfl := hw9.symm; clear hw9)
          obtain ⟨f1, f2, f3, f4⟩ := HFin.out
          generalize A'.setCell ⟨w.heap.size + 1, 0, none⟩ (.bool true) = A9 at *
          have f3' : (A9.putObj D2 (.deferred none)).heap[D]? = some (.deferred (some [])) := (World.putObj_heap_other (fun e => hDD e.symm)).trans f3
          refine ⟨by simp, .inl ⟨_, _, rfl, run_takeDeferred f4, ⟨by simp, .inl ⟨_, _, rfl, run_takeDeferred f3', ?_⟩⟩⟩⟩
          exact ⟨_, results_bool rfl rfl (Row.put (Row.put f1 _ (by omega)) _ (by omega)), rfl, (f2.trans (below_putObj _ _ (by omega))).trans (below_putObj _ _ (by omega))⟩
        case stop2 => exact fun _ _ _ _ _ _ h => h.elim
      case stop => exact fun _ _ _ _ _ _ h => h.elim
end Go.Proofs.Ythdfhbbfbohojaa
