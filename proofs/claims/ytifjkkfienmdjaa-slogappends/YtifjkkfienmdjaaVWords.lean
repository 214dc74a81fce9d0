/-
  What vec.Words answers: of any slice of bytes (up to 60,000) a slice of its own, of the numbers of each four bytes, the lowest ahead; nothing that lay before the call has turned.
-/
import Derived.Test.YtifjkkfienmdjaaChPieces
import Derived.Maps.AppendAt
import Derived.Deep.AppendLies
import Derived.Laws.BitsAllLaws
namespace Go.Proofs.Ytifjkkfienmdjaa.Ch
open Go.RowKit Go.Shelf
attribute [local go_sem] Oper.semAt_some

theorem info26 : (Try.prog.info? 26).map (fun i => (i.zero, i.size, i.bytes)) = some (some (.int .u32 0), 1, 4) := by kernel_rfl

/-- The number of four bytes, the lowest ahead. -/
def wordAt (zs : List Nat) (j : Nat) : Nat := zs.getD (4 * j) 0 + 256 * zs.getD (4 * j + 1) 0 + 65536 * zs.getD (4 * j + 2) 0 + 16777216 * zs.getD (4 * j + 3) 0
def wordVals (zs : List Nat) (k : Nat) : List Value := (List.range k).map fun j => .int .u32 (wordAt zs j : Nat)

theorem wordVals_of (zs : List Nat) {len k : Nat} (ys : List (Pc 4 len)) (h : ys.map (·.1) = List.range k) : ys.map (fun x => Value.int .u32 (wordAt zs x.1 : Nat)) = wordVals zs k := by
  unfold wordVals
  rw [← h, List.map_map]
  rfl

theorem u32_or_comm (x y : Int) : bits .or .u32 x y = bits .or .u32 y x := by simp only [bits, BitVec.or_comm]

theorem u32_join (x y : Nat) (i : Nat) (h1 : x % 2 ^ i = 0) (h2 : y < 2 ^ i) (hx : x < 4294967296) (hy : y < 4294967296) : bits .or .u32 (y : Int) (x : Int) = ((y + x : Nat) : Int) := by
  rw [u32_or_comm, bits_join .u32 32 (by decide) (fun n h0 h1 => by rw [IntKind.wrap_u32]; omega) i x y (by omega) (by exact_mod_cast h1) (by omega) (by omega) (by exact_mod_cast h2) (by omega)]
  omega

theorem word_or (a b c d : Nat) (ha : a < 256) (hb : b < 256) (hc : c < 256) (hd : d < 256) :
    bits .or .u32 (bits .or .u32 (bits .or .u32 (a : Int) (IntKind.u32.wrap ((b : Int) * 256))) (IntKind.u32.wrap ((c : Int) * 65536))) (IntKind.u32.wrap ((d : Int) * 16777216)) = ((a + 256 * b + 65536 * c + 16777216 * d : Nat) : Int) := by
  have e1 : IntKind.u32.wrap ((b : Int) * 256) = ((256 * b : Nat) : Int) := by rw [IntKind.wrap_u32]; omega
  have e2 : IntKind.u32.wrap ((c : Int) * 65536) = ((65536 * c : Nat) : Int) := by rw [IntKind.wrap_u32]; omega
  have e3 : IntKind.u32.wrap ((d : Int) * 16777216) = ((16777216 * d : Nat) : Int) := by rw [IntKind.wrap_u32]; omega
  rw [e1, e2, e3, u32_join _ a 8 (by omega) (by omega) (by omega) (by omega), u32_join _ _ 16 (by omega) (by omega) (by omega) (by omega), u32_join _ _ 24 (by omega) (by omega) (by omega) (by omega)]

theorem getD_of_all {zs : List Nat} (h : ∀ z ∈ zs, z < 256) (i : Nat) : zs.getD i 0 < 256 := by
  by_cases hi : i < zs.length
  · simp only [List.getD_eq_getElem?_getD, List.getElem?_eq_getElem hi, Option.getD_some]; exact h _ (List.getElem_mem hi)
  · simp [List.getElem?_eq_none (show zs.length ≤ i by omega)]

theorem row_of_range (zs : List Nat) {len : Nat} (ys : List (Pc 4 len)) (k : Nat) (h : ys.map (·.1) = List.range k) (hall : ∀ x ∈ ys, 4 * x.1 + 4 ≤ len) (hk : len ≤ 4 * k) {W : World} {n₀ : Nat} {v : Value} :
    W.ownsRow n₀ 26 1 v ys.length (ys.map fun x => .int .u32 (wordAt zs x.1 : Nat)) = W.ownsRow n₀ 26 1 v (len / 4) (wordVals zs (len / 4)) := by
  have hl : ys.length = k := by have := congrArg List.length h; simpa using this
  have e : k = len / 4 := by
    rcases Nat.eq_zero_or_pos k with h0 | h0
    · subst h0; omega
    · have hm : k - 1 ∈ ys.map (·.1) := by rw [h]; simp; omega
      obtain ⟨x, hx, hxe⟩ := List.mem_map.1 hm
      have := hall x hx
      omega
  rw [wordVals_of zs ys h, hl, e]

theorem row_of_stop (zs : List Nat) {len : Nat} (pre : List (Pc 4 len)) (x : Pc 4 len) (k : Nat) (h : (pre ++ [x]).map (·.1) = List.range k) (hx : len < 4 * x.1 + 4) {W : World} {n₀ : Nat} {v : Value} :
    W.ownsRow n₀ 26 1 v pre.length (pre.map fun x => .int .u32 (wordAt zs x.1 : Nat)) = W.ownsRow n₀ 26 1 v (len / 4) (wordVals zs (len / 4)) := by
  have hl : pre.length + 1 = k := by have := congrArg List.length h; simpa using this
  subst hl
  rw [List.range_succ, List.map_append, List.map_singleton] at h
  have h1 := List.append_inj' h rfl
  have hx1 : x.1 = pre.length := by simpa using h1.2
  have := x.2
  have e : pre.length = len / 4 := by omega
  rw [wordVals_of zs pre h1.1, e]

set_option maxRecDepth 100000 in
set_option maxHeartbeats 2000000 in
theorem words_in (n : Nat) (hn : 3 ≤ n) (p : Option Addr) (len cap : Nat) (zs : List Nat) (hlen : len ≤ 60000) (w : World) (hI : IsBytes w.heap.size w p len cap zs) :
    CallsIn Fence.wide n Try.prog 54 #[.slice p len cap] w fun e W' => ∃ v, e = .returned v ∧ W'.ownsRow w.heap.size 26 1 v (len / 4) (wordVals zs (len / 4)) ∧ Below w.heap.size w W' := by
  have hfn : ∀ f, Fence.wide.fn f := fun _ => trivial
  have h1 : 1 ≤ n := by omega
  obtain ⟨i0, hi, hz0, hz1, hz2⟩ := info_parts info26
  refine callsIn_of_wp_marks Try.func54 rfl trivial ?_ rfl
  simp only [Try.ntmps54, List.size_toArray, List.length_cons, List.length_nil, Nat.reduceAdd, Nat.reduceSub, Array.replicate_succ, Array.replicate_zero, List.push_toArray, List.append_toArray, List.nil_append, List.cons_append]
  gi_wp2_with (first | (gi_at_make; refine wpListIn_make_own _ rfl _ _ 101 rfl w.heap.size 26 i0 (.int .u32 0) 1 Try.underlying101 hi hz0 hz1 _ _ _ (len / 4) rfl rfl (by omega) (by rw [hz2]; omega) (by simp only [maxLen]; omega) (Nat.le_refl _) ?_; intro w1 hown1 hgrow1) | (gi_at_call 58; refine (pieces_in Fence.wide _ trivial rfl _ _ _ _ _).mono ?_; rintro e w' ⟨rfl, rfl⟩))
  obtain ⟨hsz0, hsz1⟩ := hown1.lt w.heap.size rfl
  have hB1 : Below w.heap.size w w1 := (Below.refl _ w).grown hgrow1 (Nat.le_refl _) (fun k e => by cases e)
  have bO := Boxed.new w1 101 (.slice (some ⟨w.heap.size, 0, none⟩) 0 (len / 4))
  have bB := Boxed.new (w1.alloc (.cells #[.slice (some ⟨w.heap.size, 0, none⟩) 0 (len / 4)] 101)) 25 (.slice p len cap)
  have bN := Boxed.new ((w1.alloc (.cells #[.slice (some ⟨w.heap.size, 0, none⟩) 0 (len / 4)] 101)).alloc (.cells #[.slice p len cap] 25)) 3 (.int .i64 4)
  simp only [World.size_alloc] at bB bN
  have hB3 : Below w.heap.size w (((w1.alloc (.cells #[.slice (some ⟨w.heap.size, 0, none⟩) 0 (len / 4)] 101)).alloc (.cells #[.slice p len cap] 25)).alloc (.cells #[.int .i64 4] 3)) :=
    ((hB1.alloc (by omega) _).alloc (by simp; omega) _).alloc (by simp; omega) _
  refine wpIn_rangeFunc_ownG rfl h1 (gf := 59) (lb := #[.pointer (some ⟨w1.heap.size + 1 + 1, 0, none⟩), .pointer (some ⟨w1.heap.size + 1, 0, none⟩)]) rfl trivial (enters_of Try.func59 (by kernel_rfl) rfl)
    (pieces_stops Fence.wide (n - 1) trivial rfl (by omega) (w1.heap.size + 1 + 1) (w1.heap.size + 1) w.heap.size p len cap zs 4 (by omega) (by omega) _ (by simp) (by simp <;> omega) (by simp <;> omega) bN.cell (bB.alloc _).cell (hI.below hB3))
    (fun h k => ⟨h.1.trans k.1, fun v hv => k.2 v (h.2 v hv)⟩)
    (fun W l o o' hl ho hc hw => ⟨belowK_b (by simp; omega) W l o o' hl ho hc hw, fun v hv => cell_kept hv (grownBy_putObj' _ l o') (fun r e => by cases e; exact ⟨_, ho, hc⟩)⟩)
    (Below.refl _ _) (fun _ => rfl)
    (fun pre W => (∃ v, Boxed W w1.heap.size 101 v ∧ W.ownsRow w.heap.size 26 1 v pre.length (pre.map fun x => .int .u32 (wordAt zs x.1 : Nat)) ∧ ∀ x ∈ pre, 4 * x.1 + 4 ≤ len) ∧ Boxed W (w1.heap.size + 1 + 1) 3 (.int .i64 4) ∧ Below w.heap.size w W)
    (fun c pre W => (c = .exit 0 ∧ ∃ (pre' : List (Pc 4 len)) (x : Pc 4 len), pre = pre' ++ [x] ∧ len < 4 * x.1 + 4 ∧ ∃ v, Boxed W w1.heap.size 101 v ∧ W.ownsRow w.heap.size 26 1 v pre'.length (pre'.map fun x => .int .u32 (wordAt zs x.1 : Nat)) ∧ True) ∧ Below w.heap.size w W)
    (OwnFrom.and (Own.from (holdsRow_own w.heap.size w1.heap.size 101 26 1 (fun pre : List (Pc 4 len) => pre.length) (fun pre => pre.map fun x => .int .u32 (wordAt zs x.1 : Nat)) (fun pre _ => ∀ x ∈ pre, 4 * x.1 + 4 ≤ len)) _)
      (OwnFrom.and (Own.from (boxed_own _ _ _) _) (ownFrom_below (Nat.le_refl _) (by simp; omega))))
    (fun c => OwnFrom.and (Own.from (fun s A B row hs hg hr => by
      obtain ⟨hc, pre', x, e, hx, hv⟩ := hs
      exact ⟨hc, pre', x, e, hx, holdsRow_own w.heap.size w1.heap.size 101 26 1 (fun pre : List (Pc 4 len) => pre.length) (fun pre => pre.map fun x => .int .u32 (wordAt zs x.1 : Nat)) (fun _ _ => True) pre' A B row hv hg hr⟩) _) (ownFrom_below (Nat.le_refl _) (by simp; omega)))
    ⟨⟨_, (bO.alloc _).alloc _, by simpa using ((hown1.alloc _).alloc _).alloc _, by simp⟩, bN, hB3⟩
    (fun x => { tmps := #[.slice p len cap, undef, .slice none 0 0, .pointer (some ⟨w1.heap.size, 0, none⟩), pcVal (blk p) (offs p) 4 len cap x.1, .slice p len cap, .int .i64 len, .int .i64 (len / 4), .slice (some ⟨w.heap.size, 0, none⟩) 0 (len / 4), .slice p len cap, .func (.func 59) #[] #[.pointer (some ⟨w1.heap.size + 1 + 1, 0, none⟩), .pointer (some ⟨w1.heap.size + 1, 0, none⟩)],
      pcVal (blk p) (offs p) 4 len cap x.1, undef, undef, undef, undef, undef, undef, undef, undef, undef, undef, undef, undef, undef, undef, undef, undef, undef, undef, undef, undef, undef, undef, undef, undef, undef, undef, undef, undef, undef], defers := [] }) ?assign ?body ?done ?stop
  case assign =>
    intro l x W K hK
    gi_wp2
    exact hK
  case body =>
    rintro l pre x W ⟨⟨v, hv, hrow, hall⟩, hbn, hB⟩ hlt
    obtain ⟨j, hj⟩ := x
    obtain ⟨hzl, hlc, hcc, hz256, hl0 | ⟨bb, off, rfl, hbb, hcs⟩⟩ := hI.below hB
    · omega
    simp only [blk, offs]
    by_cases hfull : 4 * j + 4 ≤ len
    · have e : pcVal bb off 4 len cap j = .slice (some ⟨bb, off + 4 * j, none⟩) 4 (cap - 4 * j) := by
        unfold pcVal; rw [show min 4 (len - 4 * j) = 4 by omega]
      rw [e]
      have c0 := hcs (4 * j) (by omega)
      have c1 := hcs (4 * j + 1) (by omega)
      have c2 := hcs (4 * j + 2) (by omega)
      have c3 := hcs (4 * j + 3) (by omega)
      have b0 : zs.getD (4 * j) 0 < 256 := getD_of_all hz256 _
      have b1 : zs.getD (4 * j + 1) 0 < 256 := getD_of_all hz256 _
      have b2 : zs.getD (4 * j + 2) 0 < 256 := getD_of_all hz256 _
      have b3 : zs.getD (4 * j + 3) 0 < 256 := getD_of_all hz256 _
      rw [show off + (4 * j + 1) = off + 4 * j + 1 by omega] at c1
      rw [show off + (4 * j + 2) = off + 4 * j + 2 by omega] at c2
      rw [show off + (4 * j + 3) = off + 4 * j + 3 by omega] at c3
      obtain ⟨w0, hw0⟩ : ∃ z, z = zs.getD (4 * j) 0 := ⟨_, rfl⟩
      obtain ⟨w1', hw1⟩ : ∃ z, z = zs.getD (4 * j + 1) 0 := ⟨_, rfl⟩
      obtain ⟨w2, hw2⟩ : ∃ z, z = zs.getD (4 * j + 2) 0 := ⟨_, rfl⟩
      obtain ⟨w3, hw3⟩ : ∃ z, z = zs.getD (4 * j + 3) 0 := ⟨_, rfl⟩
      have HW : Hid (wordAt zs j = w0 + 256 * w1' + 65536 * w2 + 16777216 * w3) := by
        show _ = _
        rw [hw0, hw1, hw2, hw3]; rfl
      rw [← hw0] at c0 b0
      rw [← hw1] at c1 b1
      rw [← hw2] at c2 b2
      rw [← hw3] at c3 b3
      clear hw0 hw1 hw2 hw3 e hcs hz256
      have HJ : Hid (off + 4 * j = off + 4 * j ∧ 4 * j < len) := ⟨rfl, hj⟩
      generalize off + 4 * j = O at *
      generalize cap - 4 * j = C at *
      have u0 : IntKind.u32.wrap (w0 : Int) = w0 := by rw [IntKind.wrap_u32]; omega
      have u1 : IntKind.u32.wrap (w1' : Int) = w1' := by rw [IntKind.wrap_u32]; omega
      have u2 : IntKind.u32.wrap (w2 : Int) = w2 := by rw [IntKind.wrap_u32]; omega
      have u3 : IntKind.u32.wrap (w3 : Int) = w3 := by rw [IntKind.wrap_u32]; omega
      have HWV : Hid (Value.int .u32 (wordAt zs j : Nat) = .int .u32 (bits .or .u32 (bits .or .u32 (bits .or .u32 w0 (IntKind.u32.wrap (w1' * 256))) (IntKind.u32.wrap (w2 * 65536))) (IntKind.u32.wrap (w3 * 16777216)))) := by
        show _ = _
        rw [HW.out, word_or w0 w1' w2 w3 b0 b1 b2 b3]
      gi_wp2
      refine wpIn_region_held_round (S := fun W' => W'.cell? ⟨bb, O, none⟩ = some (.int .u8 w0) ∧ W'.cell? ⟨bb, O + 1, none⟩ = some (.int .u8 w1') ∧ W'.cell? ⟨bb, O + 2, none⟩ = some (.int .u8 w2) ∧ W'.cell? ⟨bb, O + 3, none⟩ = some (.int .u8 w3))
        (by kernel_rfl) (by kernel_rfl) (fun ⟨_, _, h⟩ => h) ⟨by simpa using c0, by simpa using c1, by simpa using c2, by simpa using c3⟩ (fun hHeld => ?_)
      refine wpAnyH_takesAt 1 22 4 (of_decide_eq_true (by kernel_rfl)) rfl (fun _ _ _ _ _ h => h) (by kernel_rfl) (by kernel_rfl) hHeld ?_
      simp only [List.drop_succ_cons, List.drop_zero, List.take_succ_cons, List.take_zero]
      iterate 22 (refine wpHeld_step (v := ?_) (by rfl) (fun wz hSw => ?_) ?_; rotate_left; (focus ((try dsimp only at hSw); go_simp; try with_reducible rfl)); (simp only [Act.put, List.setIfInBounds_toArray, List.set_cons_zero, List.set_cons_succ]))
      refine wpHeld_nil ?_
      have hc := hv.cell
      have HKeep : Hid (∀ W', Below w.heap.size W W' → W'.cell? ⟨bb, O, none⟩ = some (.int .u8 w0) ∧ W'.cell? ⟨bb, O + 1, none⟩ = some (.int .u8 w1') ∧ W'.cell? ⟨bb, O + 2, none⟩ = some (.int .u8 w2) ∧ W'.cell? ⟨bb, O + 3, none⟩ = some (.int .u8 w3)) := fun W' hb =>
        ⟨(hb.cell (p := ⟨bb, O, none⟩) hbb).trans c0, (hb.cell (p := ⟨bb, O + 1, none⟩) hbb).trans c1, (hb.cell (p := ⟨bb, O + 2, none⟩) hbb).trans c2, (hb.cell (p := ⟨bb, O + 3, none⟩) hbb).trans c3⟩
      refine wpAnyH_either (i := 0) (j := 23) (by kernel_rfl) rfl rfl (fun K hK => ?_) (fun K hK => ?_)
      · rw [if_pos (by rfl)]
        go_simp
        refine hK.out _ _ hHeld ?_
        clear hK K
        refine wpAnyH_only (i := 23) (by kernel_rfl) rfl (fun K hK => ?_)
        rw [if_pos (by rfl)]
        go_simp
        refine hK.out _ _ (HKeep.out _ ((Below.refl _ W).drew.alloc hB.size _)) ?_
        clear hK K
        refine wpAnyH_only (i := 24) (by kernel_rfl) rfl (fun K hK => ?_)
        rw [if_pos (by rfl)]
        refine wp_append_lies _ (.tmp 15) (.tmp 38) 101 (by rfl) w.heap.size 26 i0 (.int .u32 0) 1 4 Try.underlying101 hi hz0 hz1 hz2 rfl (by decide) v pre.length _ (by rfl) ((show W.drew.ownsRow _ _ _ _ _ _ from hrow).alloc _)
          ⟨W.heap.size, 0, none⟩ 1 1 [.int .u32 (wordAt zs j : Nat)] (by rfl) rfl (by rw [HWV.out]; exact cell_one_new _ _ _) (by simp [Value.oneCell']) (by omega) (by simp only [maxLen]; omega) (by omega) (by have := hB.size; simp; omega) (W.heap.size + 1) (by simp) ?_
        intro g cap' w2 hown2 hgrow2 hat hlt2
        obtain ⟨hv1, hv2, hr2, hk2, hb2⟩ := Boxed.appended (W := W.drew) hv (by decide) hrow hB.size (by omega) hown2 hgrow2
        have hbW : Below w.heap.size W w2 := ((Below.refl _ W).drew.alloc hB.size _).grown hgrow2 (by have := hB.size; simp; omega) (fun k e => (hrow.lt k e).1)
        have hbn1 : Boxed w2 (w1.heap.size + 1 + 1) 3 (.int .i64 4) := (Boxed.alloc (W := W.drew) hbn _).kept hgrow2 (hbn.not_row (by decide) hrow)
        refine hK.out _ _ (HKeep.out _ hbW) ?_
        clear hK K
        have hc1 := hv1.cell
        have hf1 := hv1.frozen
        refine wpAnyH_only (i := 25) (by kernel_rfl) rfl (fun K hK => ?_)
        rw [if_pos (by rfl)]
        go_simp
        refine hK.out _ _ (HKeep.out _ (hbW.setCell (p := ⟨w1.heap.size, 0, none⟩) (show w.heap.size ≤ w1.heap.size by omega) _)) ?_
        clear hK K
        refine wpAnyH_done (by kernel_rfl) ?_ _
        have hbd : Below w.heap.size W (w2.setCell ⟨w1.heap.size, 0, none⟩ (.slice (some ⟨g, 0, none⟩) (pre.length + 1) cap')) := (Below.refl _ W).drew.trans hb2
        have hbn2 := hbn1.other (B' := w1.heap.size) (by omega) (.slice (some ⟨g, 0, none⟩) (pre.length + 1) cap')
        refine ⟨((KeepsOthers.drew W).trans hk2).from _, ⟨hbd, fun u hu => ?_⟩, ⟨⟨_, hv2, ?_, ?_⟩, hbn2, hB.trans hbd⟩⟩
        · rw [hbn.cell] at hu; cases hu; exact hbn2.cell
        · simpa using hr2
        · intro y hy
          rcases List.mem_append.1 hy with hy | hy
          · exact hall y hy
          · simp at hy; subst hy; exact hfull
      · rw [if_pos (by rfl)]
        go_simp
        refine hK.out _ _ (HKeep.out _ ((Below.refl _ W).drew.alloc hB.size _)) ?_
        clear hK K
        have hc9 := (hv.alloc (.cells #[.int .u32 (wordAt zs j : Nat)] 26)).cell
        rw [HWV.out] at hc9
        refine wpAnyH_only (i := 0) (by kernel_rfl) rfl (fun K hK => ?_)
        rw [if_pos (by rfl)]
        go_simp
        refine hK.out _ _ (HKeep.out _ ((Below.refl _ W).drew.alloc hB.size _)) ?_
        clear hK K hc9
        refine wpAnyH_only (i := 24) (by kernel_rfl) rfl (fun K hK => ?_)
        rw [if_pos (by rfl)]
        refine wp_append_lies _ (.tmp 15) (.tmp 38) 101 (by rfl) w.heap.size 26 i0 (.int .u32 0) 1 4 Try.underlying101 hi hz0 hz1 hz2 rfl (by decide) v pre.length _ (by rfl) ((show W.drew.ownsRow _ _ _ _ _ _ from hrow).alloc _)
          ⟨W.heap.size, 0, none⟩ 1 1 [.int .u32 (wordAt zs j : Nat)] (by rfl) rfl (by rw [HWV.out]; exact cell_one_new _ _ _) (by simp [Value.oneCell']) (by omega) (by simp only [maxLen]; omega) (by omega) (by have := hB.size; simp; omega) (W.heap.size + 1) (by simp) ?_
        intro g cap' w2 hown2 hgrow2 hat hlt2
        obtain ⟨hv1, hv2, hr2, hk2, hb2⟩ := Boxed.appended (W := W.drew) hv (by decide) hrow hB.size (by omega) hown2 hgrow2
        have hbW : Below w.heap.size W w2 := ((Below.refl _ W).drew.alloc hB.size _).grown hgrow2 (by have := hB.size; simp; omega) (fun k e => (hrow.lt k e).1)
        have hbn1 : Boxed w2 (w1.heap.size + 1 + 1) 3 (.int .i64 4) := (Boxed.alloc (W := W.drew) hbn _).kept hgrow2 (hbn.not_row (by decide) hrow)
        refine hK.out _ _ (HKeep.out _ hbW) ?_
        clear hK K
        have hc1 := hv1.cell
        have hf1 := hv1.frozen
        refine wpAnyH_only (i := 25) (by kernel_rfl) rfl (fun K hK => ?_)
        rw [if_pos (by rfl)]
        go_simp
        refine hK.out _ _ (HKeep.out _ (hbW.setCell (p := ⟨w1.heap.size, 0, none⟩) (show w.heap.size ≤ w1.heap.size by omega) _)) ?_
        clear hK K
        refine wpAnyH_done (by kernel_rfl) ?_ _
        have hbd : Below w.heap.size W (w2.setCell ⟨w1.heap.size, 0, none⟩ (.slice (some ⟨g, 0, none⟩) (pre.length + 1) cap')) := (Below.refl _ W).drew.trans hb2
        have hbn2 := hbn1.other (B' := w1.heap.size) (by omega) (.slice (some ⟨g, 0, none⟩) (pre.length + 1) cap')
        refine ⟨((KeepsOthers.drew W).trans hk2).from _, ⟨hbd, fun u hu => ?_⟩, ⟨⟨_, hv2, ?_, ?_⟩, hbn2, hB.trans hbd⟩⟩
        · rw [hbn.cell] at hu; cases hu; exact hbn2.cell
        · simpa using hr2
        · intro y hy
          rcases List.mem_append.1 hy with hy | hy
          · exact hall y hy
          · simp at hy; subst hy; exact hfull
    · have e : pcVal bb off 4 len cap j = .slice (some ⟨bb, off + 4 * j, none⟩) (len - 4 * j) (cap - 4 * j) := by
        unfold pcVal; rw [show min 4 (len - 4 * j) = len - 4 * j by omega]
      rw [e]
      have hL4 : len - 4 * j < 4 := by omega
      clear e hcs
      generalize off + 4 * j = O at *
      generalize cap - 4 * j = C at *
      generalize len - 4 * j = L at *
      gi_wp2
      exact ⟨KeepsFrom.refl _ _, ⟨rfl, pre, ⟨j, hj⟩, rfl, by show len < 4 * j + 4; omega, v, hv, hrow, trivial⟩, hB⟩
  case done =>
    rintro D ys W hD ⟨k, hk, hys⟩ ⟨⟨v, hv, hrow, hall⟩, hbn, hB⟩ hK
    have hc := hv.cell
    gi_wp2
    refine ⟨by simp, .inl ⟨_, _, rfl, run_takeDeferred hK, ?_⟩⟩
    exact ⟨_, results_tmp rfl _ _ _, v, rfl, by rw [← row_of_range zs ys k hys hall hk]; exact ownsRow_putObj hrow _ hK rfl, hB.trans (belowK_b (w := w) (Nat.le_refl _) W D _ _ (by simp at hD; omega) hK rfl rfl)⟩
  case stop =>
    rintro D c pre W hD ⟨k, hk⟩ ⟨⟨rfl, pre', x, rfl, hx, v, hv, hrow, _⟩, hB⟩ hK
    have hc := hv.cell
    gi_wp2
    refine ⟨by simp, .inl ⟨_, _, rfl, run_takeDeferred hK, ?_⟩⟩
    exact ⟨_, results_tmp rfl _ _ _, v, rfl, by rw [← row_of_stop zs pre' x k hk hx]; exact ownsRow_putObj hrow _ hK rfl, hB.trans (belowK_b (w := w) (Nat.le_refl _) W D _ _ (by simp at hD; omega) hK rfl rfl)⟩

/-- vec.Words, outside every fence. -/
theorem words_any (p : Option Addr) (len cap : Nat) (zs : List Nat) (hlen : len ≤ 60000) (w : World) (hI : IsBytes w.heap.size w p len cap zs) :
    Calls Try.prog 54 #[.slice p len cap] w fun e W' => ∃ v, e = .returned v ∧ W'.ownsRow w.heap.size 26 1 v (len / 4) (wordVals zs (len / 4)) ∧ Below w.heap.size w W' :=
  callsIn_wide.1 (words_in 3 (Nat.le_refl _) p len cap zs hlen w hI)

end Go.Proofs.Ytifjkkfienmdjaa.Ch
