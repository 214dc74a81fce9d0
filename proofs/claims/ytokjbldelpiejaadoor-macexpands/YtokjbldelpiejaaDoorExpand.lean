/-
  What mac.Expand answers: the first bytes of the key's chain, or an error. Nothing that lay before the call has turned.
-/
import Derived.Test.YtokjbldelpiejaaDoorChain
import Derived.Deep.DeepAppendRoom
import Derived.OwnWalkIn
namespace Go.Proofs.YtokjbldelpiejaaDoor
open Go.RowKit Go.Shelf
attribute [local go_sem] Oper.semAt_some

/-- The first N bytes of the chain. -/
def expandN (ks info : List Nat) (N : Nat) : List Nat := (linksL ks info 255).flatten.take N
theorem links_flat (ks info : List Nat) : ∀ k, (linksL ks info k).flatten.length = 32 * k
  | 0 => by simp [linksL]
  | k + 1 => by rw [← linksL_succ, List.flatten_append, List.length_append, links_flat ks info k]; simp [linkN_length]; omega
theorem links_lt (ks info : List Nat) (k : Nat) : ∀ z ∈ (linksL ks info k).flatten, z < 256 := by
  intro z hz
  obtain ⟨t, ht, hzt⟩ := List.mem_flatten.1 hz
  obtain ⟨i, _, rfl⟩ := List.mem_map.1 ht
  exact linkN_lt ks info (i + 1) z hzt
theorem expandN_length (ks info : List Nat) (N : Nat) (h : N ≤ 8160) : (expandN ks info N).length = N := by
  rw [expandN, List.length_take, links_flat]; omega
theorem expandN_lt (ks info : List Nat) (N : Nat) : ∀ z ∈ expandN ks info N, z < 256 := fun z hz => links_lt ks info 255 z (List.mem_of_mem_take hz)
theorem expandN_of (ks info : List Nat) (N k : Nat) (hk : k ≤ 255) (h : N ≤ 32 * k) : (linksL ks info k).flatten.take N = expandN ks info N := by
  obtain ⟨r, hr⟩ := linksL_prefix ks info hk
  rw [expandN, ← hr, List.flatten_append, List.take_append_of_le_length (by rw [links_flat]; exact h)]
theorem pre_links (ks info : List Nat) (pre r : List (List Nat)) (h : pre ++ r = linksL ks info 255) : pre = linksL ks info pre.length ∧ pre.length ≤ 255 := by
  have hl : pre.length ≤ 255 := by have := congrArg List.length h; simp at this; omega
  obtain ⟨r', hr⟩ := linksL_prefix ks info hl
  have h2 := congrArg (List.take pre.length) (h.trans hr.symm)
  rw [List.take_left, List.take_append_of_le_length (by simp), List.take_of_length_le (by simp)] at h2
  exact ⟨h2, hl⟩

/-- A region that draws its order, cut off, in a round. -/
theorem wpIn_region_cutR {P : Program} {ops : Array Oper} {a : Act} {w : World} {Q : Exit → Act → World → Prop} {S : World → Prop} {l m id : Nat} (R : Act → World → Prop) (hm : P.follows .mixedOrders = true) (hd : noDefer ops = true) (hS : S w.drew)
    (h : S w.drew → wpAnyH P .any ops (OnOnly fun _ a w => R a w) S ops.size (Array.replicate ops.size false) a w.drew) (hR : ∀ a' w', R a' w' → Q .normal a' w') : (Code.region id ops true).wpIn (Fence.wide.inRound l) m P Q a w :=
  wpIn_mono (wpIn_region_held_round hm hd OnOnly.not_out hS h) (fun e a' w' h' => by cases e <;> first | exact hR _ _ h' | exact (h' : False).elim)

theorem ownsRow_below {A A' : World} {B g base : Nat} {e : TypeId} {size n c : Nat} {xs : List Value} (hb : Below B A A') (hg : g < B) (h : A.ownsRow base e size (.slice (some ⟨g, 0, none⟩) n c) n xs) : A'.ownsRow base e size (.slice (some ⟨g, 0, none⟩) n c) n xs := by
  refine ⟨h.1, ?_⟩
  rcases h.2 with ⟨h0, _⟩ | ⟨g', cap, cur, h0, hb', hgg, rest⟩
  · cases h0
  · cases h0
    exact .inr ⟨g, c, cur, rfl, hb', (hb.block g hg).trans hgg, rest⟩
theorem KpM.grown {M : Nat → Prop} {n₂ g : Nat} {A B : World} (h : A.grownBy B (some g)) (hM : M g) (hg : g < n₂) : KpM M n₂ A B :=
  ⟨fun k _ _ _ hk hh => (h.block k (Array.getElem?_eq_some_iff.1 hh).1 (fun e => hk (by cases e; exact hM))).trans hh, h.size, fun k _ hk hh _ => (h.block k (Array.getElem?_eq_some_iff.1 hh).1 (fun e => by cases e; omega)).trans hh⟩

set_option maxRecDepth 100000 in
set_option maxHeartbeats 2000000 in
theorem expand_in (n : Nat) (hn : 8 ≤ n) (ks info : List Nat) (hkl : ks.length = 32) (hkz : ∀ z ∈ ks, z < 256) (p : Option Addr) (len cap : Nat) (hlen : len ≤ 20000) (N : Nat) (hN : N ≤ 8160) (w : World) (hT : Tab w) (hI : IsBytes w.heap.size w p len cap info) :
    CallsIn Fence.wide n Tryd.prog 24 #[.agg (u8s ks).toArray, .slice p len cap, .int .i64 N] w fun e w' => ∃ g, e = .returned (.tuple #[.slice (some ⟨g, 0, none⟩) N N, .int .i64 0]) ∧ Own w.heap.size w' (.slice (some ⟨g, 0, none⟩) N N) (expandN ks info N) ∧ Below w.heap.size w w' := by
  obtain ⟨i0, hi, hz0, hz1, hz2⟩ := info_parts info5
  have h1 : 1 ≤ n := by omega
  have hfn : ∀ f, Fence.wide.fn f := fun _ => trivial
  have HT : Hid (Tab w) := hT
  have HI : Hid (IsBytes w.heap.size w p len cap info) := hI
  have HKl : Hid ((u8s ks).length = 32) := by show _ = _; rw [u8s_length]; exact hkl
  have HKz : Hid (∀ z ∈ ks, z < 256) := hkz
  have HKe : Hid (ks.length = 32) := hkl
  have hNi : (N : Int) ≤ 8160 := by omega
  clear hT hI hkl hkz
  generalize hKV : u8s ks = KV at *
  have HKV : Hid (u8s ks = KV) := hKV
  clear hKV
  refine callsIn_of_wp_marks Tryd.func24 rfl trivial ?_ rfl
  simp only [Tryd.ntmps24, List.size_toArray, List.length_cons, List.length_nil, Nat.reduceAdd, Nat.reduceSub, Array.replicate_succ, Array.replicate_zero, List.push_toArray, List.append_toArray, List.nil_append, List.cons_append]
  obtain ⟨w0, hw0⟩ : ∃ w0, w0 = (w.alloc (.cells KV.toArray 46)).alloc (.cells #[.int .i64 N] 3) := ⟨_, rfl⟩
  have hs0 : w0.heap.size = w.heap.size + 2 := by rw [hw0]; simp
  have hb0 : Below w.heap.size w w0 := by rw [hw0]; exact ((Below.refl _ w).alloc (Nat.le_refl _) _).alloc (by simp) _
  have HRk0 : Hid (Row w0 w.heap.size 46 KV) := by rw [hw0]; exact (Row.new' w 46 KV).alloc _
  have HRn0 : Hid (Row w0 (w.heap.size + 1) 3 [.int .i64 N]) := by rw [hw0]; exact Row.newB w _ 3 _
  gi_wp2_with (first
    | (gi_at_make; rw [← hw0]; refine wpListIn_make_own _ rfl _ _ 22 rfl w.heap.size 5 i0 (.int .u8 0) 1 Tryd.underlying22 hi hz0 hz1 _ _ _ N rfl rfl (by omega) (by rw [hz2]; omega) (by simp only [maxLen]; omega) (by omega) ?_; intro w1 hown1 hgrow1; have hb1 : Below w0.heap.size w0 w1 := ((Below.refl _ w0).grown hgrow1 (Nat.le_refl _) (fun k e => by cases e)); have HOw1 : Hid (w1.ownsRow w.heap.size 5 1 (.slice (some ⟨w0.heap.size, 0, none⟩) 0 N) 0 []) := hown1; clear hown1 hgrow1; rw [hs0] at HOw1 ⊢)
    | ((with_reducible show wpListIn _ _ _ _ _ (Oper.mk _ (Op.load 46 (.tmp 3)) _ _ _ _ :: _) _ _); refine wpListIn_load_Row rfl 46 (.tmp 3) rfl rfl ((HRk0.out.later hb1).alloc _) Tryd.underlying46 (by rw [HKl.out]; exact size46) ?_; simp only [Act.put, List.setIfInBounds_toArray, List.set_cons_zero, List.set_cons_succ])
    | (gi_at_call 37; refine (chain_in _ KV HKl.out _ _ _ _).mono ?_; rintro e w' ⟨rfl, rfl⟩))
  have hg0 : w.heap.size + 2 < w1.heap.size := (HOw1.out.lt _ rfl).2
  obtain ⟨w4, hw4⟩ : ∃ w4, w4 = ((w1.alloc (.cells #[.slice (some ⟨w.heap.size + 2, 0, none⟩) 0 N] 22)).alloc (.cells KV.toArray 46)).alloc (.cells #[.slice p len cap] 22) := ⟨_, rfl⟩
  have hb4 : Below w1.heap.size w1 w4 := by rw [hw4]; exact (((Below.refl _ w1).alloc (Nat.le_refl _) _).alloc (by simp) _).alloc (by simp; omega) _
  have hs4 : w4.heap.size = w1.heap.size + 3 := by rw [hw4]; simp
  have HRo : Hid (Row w4 w1.heap.size 22 [.slice (some ⟨w.heap.size + 2, 0, none⟩) 0 N]) := by rw [hw4]; exact ((Row.new w1 22 _).alloc _).alloc _
  have HRk : Hid (Row w4 (w1.heap.size + 1) 46 (u8s ks)) := by rw [hw4, HKV.out]; exact (Row.newB w1 _ 46 KV.toArray).alloc _
  have HRi : Hid (Row w4 (w1.heap.size + 1 + 1) 22 [.slice p len cap]) := by
    rw [hw4]
    have h := Row.newB (w1.alloc (.cells #[.slice (some ⟨w.heap.size + 2, 0, none⟩) 0 N] 22)) (.cells KV.toArray 46) 22 #[.slice p len cap]
    rw [World.size_alloc] at h
    exact h
  have hbw1 : Below w.heap.size w w1 := hb0.trans (hb1.mono hb0.size)
  have hbw4 : Below w.heap.size w w4 := hbw1.trans (hb4.mono hbw1.size)
  have HRn : Hid (Row w4 (w.heap.size + 1) 3 [.int .i64 N]) := (HRn0.out.later hb1).later hb4
  have HOw4 : Hid (w4.ownsRow w.heap.size 5 1 (.slice (some ⟨w.heap.size + 2, 0, none⟩) 0 N) 0 []) := ownsRow_below hb4 hg0 HOw1.out
  have HB4 : Hid (Below w.heap.size w w4) := hbw4
  rw [← hw4]
  clear hw4 hw0 HOw1 HRk0 HRn0 hb4 hb1 hb0 hbw1 hbw4
  obtain ⟨g0, hg0e⟩ : ∃ g0, g0 = w.heap.size + 2 := ⟨_, rfl⟩
  rw [← hg0e] at HRo HOw4 hg0 ⊢
  have HG0 : Hid (g0 = w.heap.size + 2) := hg0e
  have HS4 : Hid (w4.heap.size = w1.heap.size + 3) := hs4
  have HG1 : Hid (g0 < w1.heap.size) := hg0
  have hT0 := HT.out.pos
  clear hg0e hs4 hs0 hg0
  refine wpIn_rangeFunc_arr rfl h1 (gf := 45) (lb := #[.pointer (some ⟨w1.heap.size + 1, 0, none⟩), .pointer (some ⟨w1.heap.size + 1 + 1, 0, none⟩)]) rfl trivial (enters_of Tryd.func45 (by kernel_rfl) rfl)
    (encs := fun x : List Nat => #[.agg (u8s x).toArray]) (Ok := fun x _ => LinkOk x) (Kp := KpM (fun k => k = w1.heap.size ∨ k = g0) (w4.heap.size + 2)) (S := fun xs => xs = linksL ks info 255) (Sp := fun pre => ∃ r, pre ++ r = linksL ks info 255) (N := 255)
    (fun W' hs hb => chain1_iter (n - 1) (by omega) _ (w1.heap.size + 1) (w1.heap.size + 1 + 1) ks info HKe.out HKz.out p len cap hlen W' ((HT.out.later HB4.out).later hb) ((HI.out.later HB4.out).later hb) (HRk.out.later hb) (HRi.out.later hb) (fun k => k = w1.heap.size ∨ k = g0) _ (fun _ _ h => h.1) (fun _ _ h => h.2.size) (fun j hj => by have := HS4.out; have := HG1.out; omega) (by have := HG0.out; have := HG1.out; omega) (by have := HG1.out; omega) (by have := HG1.out; omega) (by
      rcases HI.out.2.2.2.2 with h | ⟨b, off, hp, hb', _⟩
      · exact .inl h
      · exact .inr (fun a ha e => by rw [hp] at ha; cases ha; have := HG0.out; have := HG1.out; simp at e; omega)))
    KpM.trans (fun A o o' ho hc => KpM.record (by omega) o' ho hc) KpM.of_below (fun _ => rfl) 25 (fun x => u8s x)
    (fun pre A => (Row A (w.heap.size + 1) 3 [.int .i64 N] ∧ Row A w1.heap.size 22 [.slice (some ⟨g0, 0, none⟩) (32 * pre.length) N] ∧ A.ownsRow w.heap.size 5 1 (.slice (some ⟨g0, 0, none⟩) (32 * pre.length) N) (32 * pre.length) (u8s pre.flatten) ∧ (pre = [] ∨ 32 * pre.length < N)) ∧ Below w.heap.size w A)
    (fun c pre A => (c = .exit 0 ∧ N ≤ 32 * pre.length ∧ Row A w1.heap.size 22 [.slice (some ⟨g0, 0, none⟩) N N] ∧ A.ownsRow w.heap.size 5 1 (.slice (some ⟨g0, 0, none⟩) N N) N (u8s (pre.flatten.take N))) ∧ Below w.heap.size w A)
    (fun pre A A' ⟨⟨h1, h2, h3, h4⟩, h5⟩ hb => ⟨⟨h1.below hb (by have := HS4.out; have := HG0.out; have := HG1.out; omega), h2.below hb (by have := HS4.out; omega), ownsRow_below hb (by have := HS4.out; have := HG1.out; omega) h3, h4⟩, h5.trans (hb.mono (by have := HS4.out; have := HG0.out; have := HG1.out; omega))⟩)
    (fun _ pre A A' ⟨⟨h0, h1, h2, h3⟩, h5⟩ hb => ⟨⟨h0, h1, h2.below hb (by have := HS4.out; omega), ownsRow_below hb (by have := HS4.out; have := HG1.out; omega) h3⟩, h5.trans (hb.mono (by have := HS4.out; have := HG0.out; have := HG1.out; omega))⟩)
    (fun _ _ _ h _ => h)
    ⟨⟨HRn.out, HRo.out, HOw4.out, .inl rfl⟩, HB4.out⟩
    (fun x A => { tmps := #[.agg KV.toArray, .slice p len cap, .int .i64 N, .pointer (some ⟨w.heap.size, 0, none⟩), undef, .pointer (some ⟨w.heap.size + 1, 0, none⟩), .slice none 0 0, .int .i64 0, .pointer (some ⟨w1.heap.size, 0, none⟩), .pointer (some ⟨A.heap.size, 0, none⟩), .int .i64 N, .bool (decide ((N : Int) < 0)), .bool (decide ((N : Int) < 0)), .int .i64 N, .bool (decide (8160 < (N : Int))), .bool (decide ((N : Int) < 0) || decide (8160 < (N : Int))), .int .i64 N, .slice (some ⟨g0, 0, none⟩) 0 N, .agg KV.toArray, .slice p len cap, .func (.func 45) #[] #[.pointer (some ⟨w1.heap.size + 1, 0, none⟩), .pointer (some ⟨w1.heap.size + 1 + 1, 0, none⟩)], .agg (u8s x).toArray, undef, undef, undef, undef, undef, undef, undef, undef, undef, undef, undef, undef, undef], defers := [] }) ?assign ?body ?done ?stop
  case assign =>
    intro li x A K hok hK
    have HXL : Hid ((u8s x).length = 32) := by show _ = _; rw [u8s_length]; exact hok.1
    have HX1 : Hid (∀ v ∈ u8s x, v.oneCell' = true) := u8s_one x
    have HK : Hid (∀ W', Below A.heap.size A W' → Row W' A.heap.size 25 (u8s x) → K _ W') := hK
    clear hK
    generalize u8s x = V at *
    gi_wp2_with ((with_reducible show wpListIn _ _ _ _ _ (Oper.mk _ (Op.store 25 (.tmp 9) (.tmp 21)) _ _ _ _ :: _) _ _); refine wpListIn_store_Row rfl 25 (.tmp 9) (.tmp 21) rfl V rfl rfl (Row.new _ _ _) (by rw [HXL.out]; exact size25) (by rw [HXL.out]; rfl) HX1.out ?_; simp only [Act.put])
    exact HK.out _ (below_setCells (Nat.le_refl _) _ _ ((Below.refl _ A).alloc (Nat.le_refl _) _)) (Row.sets_all (Row.new _ _ _) (by rw [HXL.out]; rfl))
  case body =>
    rintro li pre x A₀ A ⟨⟨hrN, hrO, hown, hlt⟩, hB⟩ hok hpre hle hrow
    have HX : Hid (LinkOk x) := hok
    obtain ⟨L, hL⟩ : ∃ L, L = 32 * pre.length := ⟨_, rfl⟩
    rw [← hL] at hrO hown hlt
    have HL : Hid (L = 32 * pre.length) := hL
    have hLN : L ≤ N := by
      rcases hlt with h | h
      · rw [h] at hL; simp at hL; omega
      · omega
    obtain ⟨m, hm⟩ : ∃ m, m = min 32 (N - L) := ⟨_, rfl⟩
    have HMm : Hid (m = min 32 (N - L)) := hm
    have HBl : Hid (A.rangeAt A₀.heap.size 0 (u8s (x.take m))) := fun j v hj => by
      refine hrow.range j v ?_
      have hjl : j < m := by
        rcases Nat.lt_or_ge j m with h | h
        · exact h
        · rw [List.getElem?_eq_none (by simp; omega)] at hj; cases hj
      simpa [u8s, List.getElem?_take, hjl] using hj
    have HNl : Hid ((x.take m).length = m) := by show _ = _; rw [List.length_take, hok.1]; omega
    have cN0 := hrN.cell (i := 0) rfl
    have cO0 := hrO.cell (i := 0) rfl
    obtain ⟨d, hd⟩ : ∃ d, d = N - L := ⟨_, rfl⟩
    have eS : IntKind.i64.wrap ((N : Int) - (L : Int)) = (d : Int) := by rw [IntKind.wrap_i64]; omega
    have eMin : (if (d : Int) < 32 then (d : Int) else 32) = (m : Int) := by split <;> omega
    have hm32 : m ≤ 32 := by omega
    have hm32i : (m : Int) ≤ 32 := by omega
    have hroom : L + m ≤ N := by omega
    clear hd
    have HrN : Hid (Row A (w.heap.size + 1) 3 [.int .i64 N]) := hrN
    have HrO : Hid (Row A w1.heap.size 22 [.slice (some ⟨g0, 0, none⟩) L N]) := hrO
    have HOw : Hid (A.ownsRow w.heap.size 5 1 (.slice (some ⟨g0, 0, none⟩) L N) L (u8s pre.flatten)) := hown
    have hlr := hrow.lt
    clear hrN hrO hown hrow hok hm hL
    gi_wp2
    refine wpIn_region_cutR (fun a' V => ∃ (v22 v23 v24 v25 v26 v27 v28 v29 : Value), a' = { tmps := #[.agg KV.toArray, .slice p len cap, .int .i64 N, .pointer (some ⟨w.heap.size, 0, none⟩), undef, .pointer (some ⟨w.heap.size + 1, 0, none⟩), .slice none 0 0, .int .i64 0, .pointer (some ⟨w1.heap.size, 0, none⟩), .pointer (some ⟨A₀.heap.size, 0, none⟩), .int .i64 N, .bool (decide ((N : Int) < 0)), .bool (decide ((N : Int) < 0)), .int .i64 N, .bool (decide (8160 < (N : Int))), .bool (decide ((N : Int) < 0) || decide (8160 < (N : Int))), .int .i64 N, .slice (some ⟨g0, 0, none⟩) 0 N, .agg KV.toArray, .slice p len cap, .func (.func 45) #[] #[.pointer (some ⟨w1.heap.size + 1, 0, none⟩), .pointer (some ⟨w1.heap.size + 1 + 1, 0, none⟩)], .agg (u8s x).toArray, v22, v23, v24, v25, v26, v27, v28, v29, undef, undef, undef, undef, undef], defers := [] } ∧ Row V (w.heap.size + 1) 3 [.int .i64 N] ∧ Row V w1.heap.size 22 [.slice (some ⟨g0, 0, none⟩) (L + m) N] ∧ V.ownsRow w.heap.size 5 1 (.slice (some ⟨g0, 0, none⟩) (L + m) N) (L + m) (u8s (pre.flatten ++ x.take m)) ∧ Below w.heap.size w V ∧ KpM (fun k => k = w1.heap.size ∨ k = g0) w4.heap.size A V) (S := fun W' => W'.cell? ⟨w.heap.size + 1, 0, none⟩ = some (.int .i64 N)) (by kernel_rfl) (by kernel_rfl) cN0 (fun hHeld => ?_) ?_
    · refine wpAnyH_takesAt 1 1 8 (of_decide_eq_true (by kernel_rfl)) rfl (fun _ _ _ _ _ h => h) (by kernel_rfl) (by kernel_rfl) hHeld ?_
      simp only [List.drop_succ_cons, List.drop_zero, List.take_succ_cons, List.take_zero]
      iterate 1 (refine wpHeld_step (v := ?_) (by rfl) (fun wz hSw => ?_) ?_; rotate_left; (focus ((try dsimp only at hSw); go_simp; try with_reducible rfl)); (simp only [Act.put, List.setIfInBounds_toArray, List.set_cons_zero, List.set_cons_succ]))
      refine wpHeld_nil ?_
      refine wpAnyH_either (i := 0) (j := 2) (by kernel_rfl) rfl rfl (fun K hK => ?_) (fun K hK => ?_)
      · rw [if_pos (by rfl)]
        go_simp
        refine hK.out _ _ hHeld ?_
        clear hK K
        refine wpAnyH_only (i := 2) (by kernel_rfl) rfl (fun K hK => ?_)
        rw [if_pos (by rfl)]
        go_simp
        refine hK.out _ _ hHeld ?_
        clear hK K
        refine wpAnyH_takesAt 3 4 2 (of_decide_eq_true (by kernel_rfl)) rfl (fun _ _ _ _ _ h => h) (by kernel_rfl) (by kernel_rfl) hHeld ?_
        simp only [List.drop_succ_cons, List.drop_zero, List.take_succ_cons, List.take_zero]
        iterate 4 (refine wpHeld_step (v := ?_) (by rfl) (fun wz hSw => ?_) ?_; rotate_left; (focus ((try dsimp only at hSw); go_simp; try with_reducible rfl)); (simp only [Act.put, List.setIfInBounds_toArray, List.set_cons_zero, List.set_cons_succ]))
        refine wpHeld_nil ?_
        refine wpAnyH_only (i := 7) (by kernel_rfl) rfl (fun K hK => ?_)
        rw [if_pos (by rfl)]
        refine wp_append_own_spare _ (.tmp 22) (.tmp 28) 22 rfl w.heap.size 5 i0 1 Tryd.underlying22 hi hz1 g0 L N (u8s pre.flatten) rfl HOw.out ⟨A₀.heap.size, 0, none⟩ m 32 (u8s (x.take m)) rfl (by rw [u8s_length, HNl.out, Nat.mul_one]) (fun j v hj => by rw [Addr.add_mid]; exact HBl.out j v hj) (u8s_one _) hroom ?_
        intro V1 hown1 hgrow1
        simp only [Act.put, List.setIfInBounds_toArray]
        have rN1 : Row V1 (w.heap.size + 1) 3 [.int .i64 N] := (hgrow1.block _ HrN.out.lt (fun e => by cases e; have := HG0.out; omega)).trans HrN.out
        have rO1 : Row V1 w1.heap.size 22 [.slice (some ⟨g0, 0, none⟩) L N] := (hgrow1.block _ HrO.out.lt (fun e => by cases e; have := HG1.out; omega)).trans HrO.out
        refine hK.out _ _ (rN1.cell (i := 0) rfl) ?_
        clear hK K
        have cO1 := rO1.cell (i := 0) rfl
        have fO1 := rO1.frozen 0
        refine wpAnyH_only (i := 8) (by kernel_rfl) rfl (fun K hK => ?_)
        rw [if_pos (by rfl)]
        go_simp
        refine hK.out _ _ ((rN1.other (a := ⟨w1.heap.size, 0, none⟩) (by have := HG0.out; have := HG1.out; simp; omega) _).cell (i := 0) rfl) ?_
        clear hK K
        refine wpAnyH_done (by kernel_rfl) ?_ _
        refine OnOnly.on ?_
        have hg1 : A.grownBy V1 (some g0) := ⟨hgrow1.os, hgrow1.tape, hgrow1.output, hgrow1.size, hgrow1.block⟩
        refine ⟨_, _, _, _, _, _, _, _, rfl, rN1.other (a := ⟨w1.heap.size, 0, none⟩) (by have := HG0.out; have := HG1.out; simp; omega) _, rO1.set 0 _, ?_, (hB.grown hg1 hB.size (fun k e => by cases e; have := HG0.out; omega)).setCell (p := ⟨w1.heap.size, 0, none⟩) (by have := HG0.out; have := HG1.out; show _ ≤ w1.heap.size; omega) _, (KpM.grown hg1 (.inr rfl) (by have := HS4.out; have := HG1.out; omega)).trans (KpM.set (a := ⟨w1.heap.size, 0, none⟩) (.inl rfl) _)⟩
        rw [← u8s_append]
        refine ⟨hown1.1, ?_⟩
        rcases hown1.2 with ⟨h0, _⟩ | ⟨g', cap', cur, h0, hb', hgg, rest⟩
        · cases h0
        · exact .inr ⟨g', cap', cur, h0, hb', (heap_setCell_other V1 ⟨w1.heap.size, 0, none⟩ g' _ (by cases h0; have := HG1.out; show g0 ≠ w1.heap.size; omega)).trans hgg, rest⟩
      · rw [if_pos (by rfl)]
        go_simp
        refine hK.out _ _ hHeld ?_
        clear hK K
        refine wpAnyH_takesAt 3 4 3 (of_decide_eq_true (by kernel_rfl)) rfl (fun _ _ _ _ _ h => h) (by kernel_rfl) (by kernel_rfl) hHeld ?_
        simp only [List.drop_succ_cons, List.drop_zero, List.take_succ_cons, List.take_zero]
        iterate 4 (refine wpHeld_step (v := ?_) (by rfl) (fun wz hSw => ?_) ?_; rotate_left; (focus ((try dsimp only at hSw); go_simp; try with_reducible rfl)); (simp only [Act.put, List.setIfInBounds_toArray, List.set_cons_zero, List.set_cons_succ]))
        refine wpHeld_nil ?_
        refine wpAnyH_only (i := 0) (by kernel_rfl) rfl (fun K hK => ?_)
        rw [if_pos (by rfl)]
        go_simp
        refine hK.out _ _ hHeld ?_
        clear hK K
        refine wpAnyH_only (i := 7) (by kernel_rfl) rfl (fun K hK => ?_)
        rw [if_pos (by rfl)]
        refine wp_append_own_spare _ (.tmp 22) (.tmp 28) 22 rfl w.heap.size 5 i0 1 Tryd.underlying22 hi hz1 g0 L N (u8s pre.flatten) rfl HOw.out ⟨A₀.heap.size, 0, none⟩ m 32 (u8s (x.take m)) rfl (by rw [u8s_length, HNl.out, Nat.mul_one]) (fun j v hj => by rw [Addr.add_mid]; exact HBl.out j v hj) (u8s_one _) hroom ?_
        intro V1 hown1 hgrow1
        simp only [Act.put, List.setIfInBounds_toArray]
        have rN1 : Row V1 (w.heap.size + 1) 3 [.int .i64 N] := (hgrow1.block _ HrN.out.lt (fun e => by cases e; have := HG0.out; omega)).trans HrN.out
        have rO1 : Row V1 w1.heap.size 22 [.slice (some ⟨g0, 0, none⟩) L N] := (hgrow1.block _ HrO.out.lt (fun e => by cases e; have := HG1.out; omega)).trans HrO.out
        refine hK.out _ _ (rN1.cell (i := 0) rfl) ?_
        clear hK K
        have cO1 := rO1.cell (i := 0) rfl
        have fO1 := rO1.frozen 0
        refine wpAnyH_only (i := 8) (by kernel_rfl) rfl (fun K hK => ?_)
        rw [if_pos (by rfl)]
        go_simp
        refine hK.out _ _ ((rN1.other (a := ⟨w1.heap.size, 0, none⟩) (by have := HG0.out; have := HG1.out; simp; omega) _).cell (i := 0) rfl) ?_
        clear hK K
        refine wpAnyH_done (by kernel_rfl) ?_ _
        refine OnOnly.on ?_
        have hg1 : A.grownBy V1 (some g0) := ⟨hgrow1.os, hgrow1.tape, hgrow1.output, hgrow1.size, hgrow1.block⟩
        refine ⟨_, _, _, _, _, _, _, _, rfl, rN1.other (a := ⟨w1.heap.size, 0, none⟩) (by have := HG0.out; have := HG1.out; simp; omega) _, rO1.set 0 _, ?_, (hB.grown hg1 hB.size (fun k e => by cases e; have := HG0.out; omega)).setCell (p := ⟨w1.heap.size, 0, none⟩) (by have := HG0.out; have := HG1.out; show _ ≤ w1.heap.size; omega) _, (KpM.grown hg1 (.inr rfl) (by have := HS4.out; have := HG1.out; omega)).trans (KpM.set (a := ⟨w1.heap.size, 0, none⟩) (.inl rfl) _)⟩
        rw [← u8s_append]
        refine ⟨hown1.1, ?_⟩
        rcases hown1.2 with ⟨h0, _⟩ | ⟨g', cap', cur, h0, hb', hgg, rest⟩
        · cases h0
        · exact .inr ⟨g', cap', cur, h0, hb', (heap_setCell_other V1 ⟨w1.heap.size, 0, none⟩ g' _ (by cases h0; have := HG1.out; show g0 ≠ w1.heap.size; omega)).trans hgg, rest⟩
    · rintro a' V ⟨v22, v23, v24, v25, v26, v27, v28, v29, rfl, rN, rO, hown, hbV, hkp⟩
      have cN := rN.cell (i := 0) rfl
      have cO := rO.cell (i := 0) rfl
      have HkF : Hid (KeepsFrom w4.heap.size A V) := hkp.2
      have HkP : Hid (KpM (fun k => k = w1.heap.size ∨ k = g0) (w4.heap.size + 2) A V) := ⟨hkp.1, keepsFrom_ge hkp.2 (by omega)⟩
      have HrN2 : Hid (Row V (w.heap.size + 1) 3 [.int .i64 N]) := rN
      have HrO2 : Hid (Row V w1.heap.size 22 [.slice (some ⟨g0, 0, none⟩) (L + m) N]) := rO
      have HOw2 : Hid (V.ownsRow w.heap.size 5 1 (.slice (some ⟨g0, 0, none⟩) (L + m) N) (L + m) (u8s (pre.flatten ++ x.take m))) := hown
      have HFl : Hid (pre.flatten.length = L) := by have h := HOw.out.1; rw [u8s_length, Nat.mul_one] at h; exact h
      clear rN rO hown hkp
      by_cases hend : L + m = N
      · have hei : (((L + m : Nat) : Int) == (N : Int)) = true := by simp; omega
        rw [hend] at hei HrO2 HOw2 cO
        gi_wp2
        refine ⟨HkF.out, HkP.out, ⟨rfl, ?_, HrO2.out, ?_⟩, hbV⟩
        · have := HL.out; have := HMm.out; rw [List.length_append, List.length_singleton]; omega
        · have e : (pre ++ [x]).flatten.take N = pre.flatten ++ x.take m := by
            rw [List.flatten_append, List.flatten_singleton, List.take_append, List.take_of_length_le (by rw [HFl.out]; omega), HFl.out, show N - L = m by omega]
          rw [e]
          exact HOw2.out
      · have hei : (((L + m : Nat) : Int) == (N : Int)) = false := by simp; omega
        have hmm : m = 32 := by have := HMm.out; omega
        have HE : Hid (L + m = 32 * (pre ++ [x]).length) := by show _ = _; have := HL.out; rw [List.length_append, List.length_singleton]; omega
        have HF : Hid (pre.flatten ++ x.take m = (pre ++ [x]).flatten) := by show _ = _; rw [List.flatten_append, List.flatten_singleton, List.take_of_length_le (by rw [HX.out.1]; omega)]
        have HLt : Hid (L + m < N) := by show _ < _; omega
        generalize L + m = L2 at *
        gi_wp2
        refine ⟨HkF.out, HkP.out, ⟨HrN2.out, ?_, ?_, .inr ?_⟩, hbV⟩
        · rw [← HE.out]; exact HrO2.out
        · rw [← HE.out, ← HF.out]; exact HOw2.out
        · rw [← HE.out]; exact HLt.out
  case done =>
    rintro D xs A hD rfl ⟨⟨_, _, _, h⟩, _⟩ _
    rcases h with h | h
    · have := congrArg List.length h; simp at this
    · simp at h; omega
  case stop =>
    rintro D c pre A hD ⟨r, hr⟩ ⟨⟨rfl, hNk, hrO, hown⟩, hB⟩ hKD
    obtain ⟨hpe, hpl⟩ := pre_links ks info pre r hr
    have HE : Hid (pre.flatten.take N = expandN ks info N) := by
      show _ = _
      conv => lhs; rw [hpe]
      exact expandN_of ks info N pre.length hpl hNk
    rw [HE.out] at hown
    have cO := hrO.cell (i := 0) rfl
    have HOw : Hid (A.ownsRow w.heap.size 5 1 (.slice (some ⟨g0, 0, none⟩) N N) N (u8s (expandN ks info N))) := hown
    have HEl : Hid ((expandN ks info N).length = N) := expandN_length ks info N hN
    clear hown hrO hpe hr
    gi_wp2
    refine ⟨by simp, .inl ⟨_, _, rfl, run_takeDeferred hKD, ?_⟩⟩
    have hbD : Below w4.heap.size A (A.putObj D (.deferred none)) := below_putObj A _ hD
    refine ⟨_, results_tmp2 rfl _ _ _, g0, rfl, ?_, hB.trans (hbD.mono (by have := HS4.out; have := HG0.out; have := HG1.out; omega))⟩
    unfold Own
    rw [HEl.out]
    exact ownsRow_below hbD (by have := HS4.out; have := HG1.out; omega) HOw.out

/-- mac.Expand -/
theorem expand_any (ks info : List Nat) (hkl : ks.length = 32) (hkz : ∀ z ∈ ks, z < 256) (p : Option Addr) (len cap : Nat) (hlen : len ≤ 20000) (N : Nat) (hN : N ≤ 8160) (w : World) (hT : Tab w) (hI : IsBytes w.heap.size w p len cap info) :
    Calls Tryd.prog 24 #[.agg (u8s ks).toArray, .slice p len cap, .int .i64 N] w fun e w' => ∃ g, e = .returned (.tuple #[.slice (some ⟨g, 0, none⟩) N N, .int .i64 0]) ∧ Own w.heap.size w' (.slice (some ⟨g, 0, none⟩) N N) (expandN ks info N) ∧ Below w.heap.size w w' :=
  callsIn_wide.1 (expand_in 8 (Nat.le_refl _) ks info hkl hkz p len cap hlen N hN w hT hI)

set_option maxRecDepth 100000 in
set_option maxHeartbeats 1000000 in
theorem expand_err_in (n : Nat) (KV : List Value) (hK : KV.length = 32) (p : Option Addr) (len cap : Nat) (z : Int) (hz : z < 0 ∨ 8160 < z) (w : World) :
    CallsIn Fence.wide n Tryd.prog 24 #[.agg KV.toArray, .slice p len cap, .int .i64 z] w fun e w' => e = .returned (.tuple #[.slice none 0 0, .int .i64 1]) ∧ Below w.heap.size w w' := by
  have HK : Hid (KV.length = 32) := hK
  have hb : Below w.heap.size w ((w.alloc (.cells KV.toArray 46)).alloc (.cells #[.int .i64 z] 3)) := ((Below.refl _ w).alloc (Nat.le_refl _) _).alloc (by simp) _
  clear hK
  rcases hz with hz | hz
  · refine callsIn_of_wp_marks Tryd.func24 rfl trivial ?_ rfl
    simp only [Tryd.ntmps24, List.size_toArray, List.length_cons, List.length_nil, Nat.reduceAdd, Nat.reduceSub, Array.replicate_succ, Array.replicate_zero, List.push_toArray, List.append_toArray, List.nil_append, List.cons_append]
    gi_wp2
    exact ⟨_, results_tmp2 rfl _ _ _, rfl, hb⟩
  · have hz0 : ¬ z < 0 := by omega
    refine callsIn_of_wp_marks Tryd.func24 rfl trivial ?_ rfl
    simp only [Tryd.ntmps24, List.size_toArray, List.length_cons, List.length_nil, Nat.reduceAdd, Nat.reduceSub, Array.replicate_succ, Array.replicate_zero, List.push_toArray, List.append_toArray, List.nil_append, List.cons_append]
    gi_wp2
    exact ⟨_, results_tmp2 rfl _ _ _, rfl, hb⟩
theorem expand_err (KV : List Value) (hK : KV.length = 32) (p : Option Addr) (len cap : Nat) (z : Int) (hz : z < 0 ∨ 8160 < z) (w : World) :
    Calls Tryd.prog 24 #[.agg KV.toArray, .slice p len cap, .int .i64 z] w fun e w' => e = .returned (.tuple #[.slice none 0 0, .int .i64 1]) ∧ Below w.heap.size w w' :=
  callsIn_wide.1 (expand_err_in 8 KV hK p len cap z hz w)
end Go.Proofs.YtokjbldelpiejaaDoor
