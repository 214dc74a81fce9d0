/-
  Several texts in one: ShLast, ShBlk, ShTurned, ShSched, ShCompress, ShDigest, ShSum.
-/
import Derived.Test.YtbaokodhoiledaaDoorBaseAll
import Derived.Test.YtbaokodhoiledaaDoorChecked
import Derived.RegionIn
import Derived.Test.YtbaokodhoiledaaDoorShA
import Derived.WalkMore
import Derived.Test.YtbaokodhoiledaaDoorWrAll
/-
  What sha.lastBlocks tells: the one or two blocks that end a text; it may be left behind each.
-/
namespace Go.Proofs.YtbaokodhoiledaaDoor.Sh
open Go.RowKit Go.Shelf
attribute [local go_sem] Oper.semAt_some

theorem size105' : (Tryd.prog.info? 105).map (·.size) = some 64 := by kernel_rfl
/-- Eight bytes of a number, the highest ahead. -/
def be8 (m : Nat) : List Nat := (List.range 8).map fun i => m / 2 ^ (8 * (7 - i)) % 256
theorem be8_length (m : Nat) : (be8 m).length = 8 := by simp [be8]
theorem be8_at (m k : Nat) (hk : k < 8) : (be8 m).take k ++ [m / 2 ^ (8 * (7 - k)) % 256] = (be8 m).take (k + 1) := by
  rw [List.take_succ_eq_append_getElem (by rw [be8_length]; exact hk)]
  simp [be8]

/-- The blocks that end a text of N bytes of which zs is left. -/
def lastL (zs : List Nat) (N : Nat) : List (List Nat) :=
  if zs.length < 56 then [(zs ++ 128 :: List.replicate (55 - zs.length) 0) ++ be8 (8 * N % 18446744073709551616)]
  else [zs ++ 128 :: List.replicate (63 - zs.length) 0, List.replicate 56 0 ++ be8 (8 * N % 18446744073709551616)]

/-- What is handed over. -/
def BlockOk (x : List Nat) : Prop := x.length = 64 ∧ ∀ z ∈ x, z < 256

theorem fill_zeros (N m : Nat) (l : List Nat) (h : l.length + m ≤ N) : fill N (.int .u8 0) (u8s (l ++ List.replicate m 0)) = fill N (.int .u8 0) (u8s l) := by
  have e : N - l.length = m + (N - (l.length + m)) := by omega
  simp only [fill, u8s, List.map_append, List.map_replicate, List.length_append, List.length_map, List.length_replicate, List.append_assoc]
  rw [e, ← List.replicate_append_replicate]
  rfl

theorem be8_lt (m : Nat) : ∀ z ∈ be8 m, z < 256 := by
  intro z hz
  obtain ⟨i, _, rfl⟩ := List.mem_map.1 hz
  exact Nat.mod_lt _ (by decide)

theorem splice_fill (zs : List Nat) : splice (List.replicate 64 (Value.int .u8 0)) 0 (u8s zs) = fill 64 (.int .u8 0) (u8s zs) := by
  simp only [splice, fill, List.take_zero, List.nil_append, u8s_length, List.drop_replicate, Nat.zero_add]

theorem src_bytes {w w1 : World} {b off len : Nat} {zs : List Nat} (hl : zs.length = len) (hA : ∀ i, i < len → w.cell? ⟨b, off + i, none⟩ = some (.int .u8 (zs.getD i 0 : Nat))) (hb : b < w.heap.size) (hg : Below w.heap.size w w1) :
    ∀ j v, (u8s zs)[j]? = some v → w1.cell? ((⟨b, off, none⟩ : Addr).add j) = some v := by
  intro j v hj
  have hjl : j < zs.length := by
    rcases Nat.lt_or_ge j zs.length with h | h
    · exact h
    · simp [u8s, List.getElem?_eq_none h] at hj
  rw [Addr.add_mid]
  rw [u8s_at hjl] at hj
  cases hj
  exact (hg.cell (p := ⟨b, off + j, none⟩) hb).trans (hA j (by omega))

set_option maxRecDepth 100000 in
set_option maxHeartbeats 2000000 in
theorem last1_iter (n : Nat) (hn : 2 ≤ n) (l Br Bl N : Nat) (p : Option Addr) (len cap : Nat) (zs : List Nat) (hlen : len < 64) (W : World) (hI : IsBytes W.heap.size W p len cap zs)
    (hcr : W.cell? ⟨Br, 0, none⟩ = some (.slice p len cap)) (hcl : Row W Bl 91 [.int .u64 N])
    (M : Nat → Prop) (Kp : World → World → Prop) (hK1 : ∀ A B, Kp A B → ∀ (k : Nat) (c : Array Value) (t : TypeId) (fr : Nat × Nat), ¬ M k → A.heap[k]? = some (Obj.cells c t fr) → B.heap[k]? = some (Obj.cells c t fr)) (hM : ∀ k, W.heap.size ≤ k → ¬ M k) (hMl : ¬ M Bl) :
    IterLow Fence.wide n Tryd.prog 67 #[.pointer (some ⟨Br, 0, none⟩), .pointer (some ⟨Bl, 0, none⟩)] (fun x : List Nat => #[.agg (u8s x).toArray]) (fun x _ => BlockOk x) Kp (fun xs => xs = lastL zs N) (fun pre => ∃ r, pre ++ r = lastL zs N) 2 l W := by
  intro J Jx hJ hJx hY h0
  have h1 : 1 ≤ n := by omega
  have hfn : ∀ f, Fence.wide.fn f := fun _ => trivial
  have hbr := World.block_lt_of_cell? W _ hcr
  obtain ⟨hzl, hlc, hcap, hz256, hz⟩ := hI
  refine callsIn_of_wp Tryd.func67 rfl trivial ?_ rfl
  simp only [Tryd.ntmps67, List.size_toArray, List.length_cons, List.length_nil, Nat.reduceAdd, Nat.reduceSub, Array.replicate_succ, Array.replicate_zero, List.push_toArray, List.append_toArray, List.nil_append, List.cons_append]
  gi_wp2
  rw [z64u8]
  have rB := Row.new' W 105 (List.replicate 64 (Value.int .u8 0))
  have hbW : Below W.heap.size W (W.alloc (.cells (List.replicate 64 (Value.int .u8 0)).toArray 105)) := (Below.refl _ W).alloc (Nat.le_refl _) _
  have hcr1 := (hbW.cell (p := ⟨Br, 0, none⟩) hbr).trans hcr
  refine wpIn_region_on_wide (S := fun W' => W'.cell? ⟨Br, 0, none⟩ = some (.slice p len cap)) (by kernel_rfl) (by kernel_rfl) hcr1 (fun hHeld => ?_)
  refine wpAnyH_takesAt 0 2 1 (of_decide_eq_true (by kernel_rfl)) rfl (fun _ _ _ _ _ h => h) (by kernel_rfl) (by kernel_rfl) hHeld ?_
  simp only [List.drop_zero, List.take_succ_cons, List.take_zero]
  iterate 2 (refine wpHeld_step (v := ?_) (by rfl) (fun wz hSw => ?_) ?_; rotate_left; (focus ((try dsimp only at hSw); go_simp; try with_reducible rfl)); (simp only [Act.put, List.setIfInBounds_toArray, List.set_cons_zero, List.set_cons_succ]))
  refine wpHeld_nil ?_
  refine wpAnyH_only (i := 2) (by kernel_rfl) rfl (fun K hK => ?_)
  refine step_copy_splice rfl (.tmp 7) (.tmp 8) 22 22 rfl 5 Tryd.underlying22 size5 _ _ _ _ _ _ rfl rfl W.heap.size 0 (List.replicate 64 (Value.int .u8 0)) 105 rB (u8s zs) (by rw [u8s_length, hzl]; show len = min len 64; omega) (fun hpos => ?pos) (by rw [u8s_length]; simp; omega) (u8s_one _) W.heap.size W hbW.drew (Nat.le_refl _) (fun w2 HG2 hb2 => ?_)
  case pos =>
    rw [u8s_length] at hpos
    rcases hz with hz | ⟨b, off, rfl, hb, hc⟩
    · omega
    · exact ⟨rfl, _, rfl, src_bytes hzl hc hb hbW.drew⟩
  refine hK.out _ _ ((hb2.cell (p := ⟨Br, 0, none⟩) hbr).trans hcr) ?_
  clear hK K
  refine wpAnyH_done (by kernel_rfl) ?_ _
  refine OnOnly.on ?_
  have hr2 : Row w2 W.heap.size 105 (fill 64 (.int .u8 0) (u8s zs)) := by
    have h := HG2.out
    rw [splice_fill zs] at h
    exact h
  have hc2 := (hb2.cell (p := ⟨Br, 0, none⟩) hbr).trans hcr
  have hl2 := hcl.later hb2
  have cz := hr2.cell (i := len) (v := .int .u8 0) (fill_rest _ _ _ (by rw [u8s_length]; omega) hlen)
  have fz := hr2.frozen len
  have hli : (len : Int) < 64 := by omega
  have HR2 : Hid (Row (w2.setCell ⟨W.heap.size, len, none⟩ (.int .u8 128)) W.heap.size 105 (fill 64 (.int .u8 0) (u8s (zs ++ [128])))) := by
    have h := hr2.set len (.int .u8 (128 : Nat))
    rw [fill_set _ _ _ _ (by rw [u8s_length]; omega) hlen, u8s_snoc] at h
    exact h
  have HL2 : Hid (Row (w2.setCell ⟨W.heap.size, len, none⟩ (.int .u8 128)) Bl 91 [.int .u64 N]) := hl2.other (by have := hcl.lt; simp; omega) _
  have HB2 : Hid (Below W.heap.size W (w2.setCell ⟨W.heap.size, len, none⟩ (.int .u8 128))) := hb2.setCell (p := ⟨W.heap.size, len, none⟩) (Nat.le_refl _) _
  have HJ : Hid (Low W.heap.size J) := hJ
  have HJx : Hid (Low W.heap.size Jx) := hJx
  have HZL : Hid (zs.length = len) := hzl
  have HZ : Hid (∀ z ∈ zs, z < 256) := hz256
  have H0 : Hid (J [] (w2.setCell ⟨W.heap.size, len, none⟩ (.int .u8 128))) := hJ _ _ _ h0 HB2.out
  have hcr3 := (World.cell?_setCell_far w2 ⟨W.heap.size, len, none⟩ ⟨Br, 0, none⟩ (.int .u8 128) (by simp; omega)).trans hc2
  have hcl3 := HL2.out.cell (i := 0) rfl
  obtain ⟨m, hm⟩ : ∃ m, m = 8 * N % 18446744073709551616 := ⟨_, rfl⟩
  have em : IntKind.u64.wrap (8 * (N : Int)) = (m : Int) := by rw [IntKind.wrap_u64]; omega
  have bm : m < 18446744073709551616 := by omega
  have HM : Hid (m = 8 * N % 18446744073709551616) := hm
  clear rB hbW hcr1 hHeld HG2 hr2 hl2 hb2 hJ hJx hzl hz256 h0 hz hcl hcr hm
  by_cases h56 : len < 56
  · have h56i : (len : Int) < 56 := by omega
    simp only [Act.put, List.setIfInBounds_toArray]
    gi_wp2
    obtain ⟨X, hX⟩ : ∃ X, X = zs ++ 128 :: List.replicate (55 - len) 0 := ⟨_, rfl⟩
    have HX : Hid (X.length = 56) := by
      show _ = _
      have := HZL.out
      rw [hX]; simp; omega
    have HOk : Hid (∀ z ∈ X, z < 256) := by
      intro z hz
      rw [hX] at hz
      rcases List.mem_append.1 hz with h | h
      · exact HZ.out z h
      · rcases List.mem_cons.1 h with h | h
        · omega
        · have := (List.mem_replicate.1 h).2; omega
    have HRow : Hid (Row (w2.setCell ⟨W.heap.size, len, none⟩ (.int .u8 128)) W.heap.size 105 (fill 64 (.int .u8 0) (u8s X))) := by
      have h := HR2.out
      have := HZL.out
      rw [← fill_zeros 64 (55 - len) _ (by simp; omega), List.append_assoc, List.singleton_append, ← hX] at h
      exact h
    have HEq : Hid ([] ++ [X ++ be8 m] = lastL zs N) := by
      show _ = _
      unfold lastL
      rw [if_pos (by rw [HZL.out]; exact h56), HZL.out, ← hX, ← HM.out]
      rfl
    clear hX HR2 HL2 HB2 hcr3 hcl3 cz fz
    generalize w2.setCell ⟨W.heap.size, len, none⟩ (.int .u8 128) = w3 at *
    gi_loopw [6] (fun i wr => ∃ q : Nat, 56 ≤ q ∧ q ≤ 64 ∧ i = .int .i64 q ∧ Row wr W.heap.size 105 (fill 64 (.int .u8 0) (u8s (X ++ (be8 m).take (q - 56)))) ∧ J [] wr)
      (fun i _ => 64 - (intOf i).toNat)
    case atStart => exact ⟨56, by omega, by omega, rfl, by simpa using HRow.out, H0.out⟩
    case round =>
      obtain ⟨q, hq56, hq, rfl, hrB, hJp⟩ := hrel
      by_cases hq64 : q < 64
      · have hqi : (q : Int) < 64 := by omega
        have HTk : Hid ((be8 m).take (q - 56) ++ [m / 2 ^ (8 * (63 - q)) % 256] = (be8 m).take (q + 1 - 56)) := by
          have h := be8_at m (q - 56) (by omega)
          rw [show 7 - (q - 56) = 63 - q by omega, show q - 56 + 1 = q + 1 - 56 by omega] at h
          exact h
        have HLn : Hid ((u8s (X ++ (be8 m).take (q - 56))).length = q) := by
          show _ = _
          have := HX.out
          rw [u8s_length, List.length_append, List.length_take, be8_length]; omega
        have cz := hrB.cell (i := q) (v := .int .u8 0) (fill_rest _ _ _ (by rw [HLn.out]; omega) hq64)
        have fz := hrB.frozen q
        have HrB : Hid (Row wr W.heap.size 105 (fill 64 (.int .u8 0) (u8s (X ++ (be8 m).take (q - 56))))) := hrB
        have e1 : IntKind.i64.wrap (63 - (q : Int)) = ((63 - q : Nat) : Int) := by rw [IntKind.wrap_i64]; omega
        have e2 : IntKind.i64.wrap (8 * ((63 - q : Nat) : Int)) = ((8 * (63 - q) : Nat) : Int) := by rw [IntKind.wrap_i64]; omega
        have l2 : ((8 * (63 - q) : Nat) : Int) < 64 := by omega
        have HJp : Hid (J [] wr) := hJp
        clear hrB hJp
        generalize 8 * (63 - q) = sh at *
        generalize 63 - q = d at *
        gi_wp2
        go_roundw
        case rel =>
          have g1 : ((m : Int) / 2 ^ sh % 256) = ((m / 2 ^ sh % 256 : Nat) : Int) := by simp
          have h := HrB.out.set q (.int .u8 (m / 2 ^ sh % 256 : Nat))
          rw [fill_set _ _ _ _ HLn.out hq64, u8s_snoc, List.append_assoc, HTk.out, ← g1] at h
          exact ⟨q + 1, by omega, by omega, by go_num, h, HJ.out _ _ _ HJp.out ((Below.refl _ wr).setCell (p := ⟨W.heap.size, q, none⟩) (Nat.le_refl _) _)⟩
        case measure => simp [intOf]; omega
      · obtain rfl : q = 64 := by omega
        have HrB : Hid (Row wr W.heap.size 105 (u8s (X ++ be8 m))) := by
          have := HX.out
          rw [show (be8 m).take (64 - 56) = be8 m from List.take_of_length_le (by rw [be8_length]; omega), fill_full _ _ _ (by rw [u8s_length, List.length_append, be8_length]; omega)] at hrB
          exact hrB
        have HLn : Hid ((u8s (X ++ be8 m)).length = 64) := by
          show _ = _
          have := HX.out
          rw [u8s_length, List.length_append, be8_length]; omega
        have HYl := hY [] (X ++ be8 m) wr hJp ⟨by have := HLn.out; rwa [u8s_length] at this, fun z hz => by
          rcases List.mem_append.1 hz with h | h
          · exact HOk.out z h
          · exact be8_lt m z h⟩ (by simp)
        obtain ⟨fn, tmps, assign, body, hy, hR⟩ := HYl
        clear hrB hJp
        generalize u8s (X ++ be8 m) = V at *
        gi_wp2_with ((with_reducible show wpListIn _ _ _ _ _ (Oper.mk _ (Op.load 105 (.tmp 4)) _ _ _ _ :: _) _ _); refine wpListIn_load_Row rfl 105 (.tmp 4) rfl rfl HrB.out Tryd.underlying105 (by rw [HLn.out]; exact size105') ?_; simp only [Act.put, List.setIfInBounds_toArray, List.set_cons_zero, List.set_cons_succ])
        refine hR.mono ?_
        rintro e W3 (⟨rfl, hJ3, hk3⟩ | ⟨rfl, hJx3, hk3⟩)
        · gi_wp2
          go_end0
          exact ⟨⟨_, rfl⟩, .inl ⟨_, HEq.out, hJ3⟩⟩
        · gi_wp2
          go_end0
          exact ⟨⟨_, rfl⟩, .inr ⟨_, ⟨[], by rw [List.append_nil]; exact HEq.out⟩, hJx3⟩⟩
  · have h56i : (56 : Int) ≤ (len : Int) := by omega
    have HLn : Hid ((u8s (zs ++ 128 :: List.replicate (63 - len) 0)).length = 64) := by
      show _ = _
      have := HZL.out
      rw [u8s_length]; simp; omega
    have HRow : Hid (Row (w2.setCell ⟨W.heap.size, len, none⟩ (.int .u8 128)) W.heap.size 105 (u8s (zs ++ 128 :: List.replicate (63 - len) 0))) := by
      have h := HR2.out
      have := HZL.out
      rw [← fill_zeros 64 (63 - len) _ (by simp; omega), List.append_assoc, List.singleton_append, fill_full _ _ _ HLn.out] at h
      exact h
    obtain ⟨x1, hx1⟩ : ∃ x1, x1 = zs ++ 128 :: List.replicate (63 - len) 0 := ⟨_, rfl⟩
    rw [← hx1] at HRow HLn
    have HYl := hY [] x1 _ H0.out ⟨by have := HLn.out; rwa [u8s_length] at this, fun z hz => by
      rw [hx1] at hz
      rcases List.mem_append.1 hz with h | h
      · exact HZ.out z h
      · rcases List.mem_cons.1 h with h | h
        · omega
        · have := (List.mem_replicate.1 h).2; omega⟩ (by decide)
    have HL1 : Hid (lastL zs N = [x1, List.replicate 56 0 ++ be8 m]) := by
      show _ = _
      unfold lastL
      rw [if_neg (by rw [HZL.out]; exact h56), HZL.out, ← hx1, ← HM.out]
    obtain ⟨fn, tmps, assign, body, hy, hR⟩ := HYl
    clear hx1 HR2
    simp only [Act.put, List.setIfInBounds_toArray]
    gi_wp2_with ((with_reducible show wpListIn _ _ _ _ _ (Oper.mk _ (Op.load 105 (.tmp 4)) _ _ _ _ :: _) _ _); refine wpListIn_load_Row rfl 105 (.tmp 4) rfl rfl HRow.out Tryd.underlying105 (by rw [HLn.out]; exact size105') ?_; simp only [Act.put, List.setIfInBounds_toArray, List.set_cons_zero, List.set_cons_succ])
    refine hR.mono ?_
    rintro e W3 (⟨rfl, hJ3, hk3⟩ | ⟨rfl, hJx3, hk3⟩)
    · have HB3 : Hid (Row W3 W.heap.size 105 (u8s x1)) := hK1 _ _ hk3 _ _ _ _ (hM _ (Nat.le_refl _)) HRow.out
      have HL3 : Hid (Row W3 Bl 91 [.int .u64 N]) := hK1 _ _ hk3 _ _ _ _ hMl HL2.out
      obtain ⟨Z, hZ⟩ : ∃ Z, Z = List.replicate 64 (Value.int .u8 0) := ⟨_, rfl⟩
      have HZV : Hid (Z = List.replicate 64 (Value.int .u8 0)) := hZ
      have HZl : Hid (Z.length = 64) := by show _ = _; rw [hZ]; rfl
      have HZ1 : Hid (∀ v ∈ Z, v.oneCell' = true) := by intro v hv; rw [hZ] at hv; rw [(List.mem_replicate.1 hv).2]; rfl
      clear hZ
      have hcl4 := (Row.others (b := W.heap.size) (by have := HL3.out.lt; have := HL2.out.lt; intro e; subst e; have h1 := HL3.out; have h2 := HB3.out; unfold Row at h1 h2; rw [h1] at h2; simp at h2) Z 0 HL3.out).cell (i := 0) rfl
      have HZr : Hid (Row (W3.setCells W.heap.size 0 Z) W.heap.size 105 (fill 64 (.int .u8 0) (u8s (List.replicate 56 0)))) := by
        have h := HB3.out.sets_all (vs := Z) (by rw [HZl.out, HLn.out])
        rw [show fill 64 (.int .u8 0) (u8s (List.replicate 56 0)) = Z from HZV.out.symm]
        exact h
      have HX : Hid ((List.replicate 56 0 : List Nat).length = 56) := rfl
      have HOk : Hid (∀ z ∈ (List.replicate 56 0 : List Nat), z < 256) := by
        intro z hz
        have := (List.mem_replicate.1 hz).2; omega
      have HJ1 : Hid (J ([] ++ [x1]) (W3.setCells W.heap.size 0 Z)) := HJ.out _ _ _ hJ3 (below_setCells (Nat.le_refl _) _ _ (Below.refl _ W3))
      have HEq : Hid (([] ++ [x1]) ++ [List.replicate 56 0 ++ be8 m] = lastL zs N) := by
        show _ = _
        rw [HL1.out]; rfl
      clear hJ3 hk3 HL2 HB2 hcr3 hcl3 cz fz H0 hR hy HRow
      gi_wp2_with ((with_reducible show wpListIn _ _ _ _ _ (Oper.mk _ (Op.store 105 (.tmp 4) (.tmp 20)) _ _ _ _ :: _) _ _); refine wpListIn_store_Row rfl 105 (.tmp 4) (.tmp 20) rfl Z rfl (by rw [HZV.out]; rfl) HB3.out (by rw [HZl.out]; exact size105') (by rw [HZl.out, HLn.out]) HZ1.out ?_; simp only [Act.put])
      generalize W3.setCells W.heap.size 0 Z = w3 at *
      gi_loopw [6] (fun i wr => ∃ q : Nat, 56 ≤ q ∧ q ≤ 64 ∧ i = .int .i64 q ∧ Row wr W.heap.size 105 (fill 64 (.int .u8 0) (u8s ((List.replicate 56 0) ++ (be8 m).take (q - 56)))) ∧ J ([] ++ [x1]) wr)
        (fun i _ => 64 - (intOf i).toNat)
      case atStart => exact ⟨56, by omega, by omega, rfl, by simpa using HZr.out, HJ1.out⟩
      case round =>
        obtain ⟨q, hq56, hq, rfl, hrB, hJp⟩ := hrel
        by_cases hq64 : q < 64
        · have hqi : (q : Int) < 64 := by omega
          have HTk : Hid ((be8 m).take (q - 56) ++ [m / 2 ^ (8 * (63 - q)) % 256] = (be8 m).take (q + 1 - 56)) := by
            have h := be8_at m (q - 56) (by omega)
            rw [show 7 - (q - 56) = 63 - q by omega, show q - 56 + 1 = q + 1 - 56 by omega] at h
            exact h
          have HLn : Hid ((u8s ((List.replicate 56 0) ++ (be8 m).take (q - 56))).length = q) := by
            show _ = _
            have := HX.out
            rw [u8s_length, List.length_append, List.length_take, be8_length]; omega
          have cz := hrB.cell (i := q) (v := .int .u8 0) (fill_rest _ _ _ (by rw [HLn.out]; omega) hq64)
          have fz := hrB.frozen q
          have HrB : Hid (Row wr W.heap.size 105 (fill 64 (.int .u8 0) (u8s ((List.replicate 56 0) ++ (be8 m).take (q - 56))))) := hrB
          have e1 : IntKind.i64.wrap (63 - (q : Int)) = ((63 - q : Nat) : Int) := by rw [IntKind.wrap_i64]; omega
          have e2 : IntKind.i64.wrap (8 * ((63 - q : Nat) : Int)) = ((8 * (63 - q) : Nat) : Int) := by rw [IntKind.wrap_i64]; omega
          have l2 : ((8 * (63 - q) : Nat) : Int) < 64 := by omega
          have HJp : Hid (J ([] ++ [x1]) wr) := hJp
          clear hrB hJp
          generalize 8 * (63 - q) = sh at *
          generalize 63 - q = d at *
          gi_wp2
          go_roundw
          case rel =>
            have g1 : ((m : Int) / 2 ^ sh % 256) = ((m / 2 ^ sh % 256 : Nat) : Int) := by simp
            have h := HrB.out.set q (.int .u8 (m / 2 ^ sh % 256 : Nat))
            rw [fill_set _ _ _ _ HLn.out hq64, u8s_snoc, List.append_assoc, HTk.out, ← g1] at h
            exact ⟨q + 1, by omega, by omega, by go_num, h, HJ.out _ _ _ HJp.out ((Below.refl _ wr).setCell (p := ⟨W.heap.size, q, none⟩) (Nat.le_refl _) _)⟩
          case measure => simp [intOf]; omega
        · obtain rfl : q = 64 := by omega
          have HrB : Hid (Row wr W.heap.size 105 (u8s ((List.replicate 56 0) ++ be8 m))) := by
            have := HX.out
            rw [show (be8 m).take (64 - 56) = be8 m from List.take_of_length_le (by rw [be8_length]; omega), fill_full _ _ _ (by rw [u8s_length, List.length_append, be8_length]; omega)] at hrB
            exact hrB
          have HLn : Hid ((u8s ((List.replicate 56 0) ++ be8 m)).length = 64) := by
            show _ = _
            have := HX.out
            rw [u8s_length, List.length_append, be8_length]; omega
          have HYl := hY ([] ++ [x1]) ((List.replicate 56 0) ++ be8 m) wr hJp ⟨by have := HLn.out; rwa [u8s_length] at this, fun z hz => by
            rcases List.mem_append.1 hz with h | h
            · exact HOk.out z h
            · exact be8_lt m z h⟩ (by simp)
          obtain ⟨fn, tmps, assign, body, hy, hR⟩ := HYl
          clear hrB hJp
          generalize u8s ((List.replicate 56 0) ++ be8 m) = V at *
          gi_wp2_with ((with_reducible show wpListIn _ _ _ _ _ (Oper.mk _ (Op.load 105 (.tmp 4)) _ _ _ _ :: _) _ _); refine wpListIn_load_Row rfl 105 (.tmp 4) rfl rfl HrB.out Tryd.underlying105 (by rw [HLn.out]; exact size105') ?_; simp only [Act.put, List.setIfInBounds_toArray, List.set_cons_zero, List.set_cons_succ])
          refine hR.mono ?_
          rintro e W3 (⟨rfl, hJ3, hk3⟩ | ⟨rfl, hJx3, hk3⟩)
          · gi_wp2
            go_end0
            exact ⟨⟨_, rfl⟩, .inl ⟨_, HEq.out, hJ3⟩⟩
          · gi_wp2
            go_end0
            exact ⟨⟨_, rfl⟩, .inr ⟨_, ⟨[], by rw [List.append_nil]; exact HEq.out⟩, hJx3⟩⟩
    · gi_wp2
      refine bodyPost_ret (results_none rfl _ _ _) rfl ?_
      exact ⟨⟨_, rfl⟩, .inr ⟨_, ⟨[List.replicate 56 0 ++ be8 m], by rw [HL1.out]; rfl⟩, hJx3⟩⟩

set_option maxHeartbeats 1000000 in
/-- sha.lastBlocks: both arguments are boxed; the function value captures the boxes. -/
theorem last_in (n : Nat) (v : Value) (N : Nat) (w : World) (hv : v.oneCell' = true) :
    CallsIn Fence.wide n Tryd.prog 64 #[v, .int .u64 N] w fun e w' =>
      e = .returned (.func (.func 67) #[] #[.pointer (some ⟨w.heap.size, 0, none⟩), .pointer (some ⟨w.heap.size + 1, 0, none⟩)]) ∧ w' = (w.alloc (.cells #[v] 22)).alloc (.cells #[.int .u64 N] 91) := by
  refine callsIn_of_wp Tryd.func64 rfl trivial ?_ rfl
  simp only [Tryd.ntmps64, List.size_toArray, List.length_cons, List.length_nil, Nat.reduceAdd, Nat.reduceSub, Array.replicate_succ, Array.replicate_zero, List.push_toArray, List.append_toArray, List.nil_append, List.cons_append]
  gi_wp2
  go_ret
  exact ⟨rfl, rfl⟩
end Go.Proofs.YtbaokodhoiledaaDoor.Sh
/-
  What sha.blocks tells: the blocks of a text, with what stands behind it; it may be left behind each.
-/
namespace Go.Proofs.YtbaokodhoiledaaDoor.Sh
open Go.RowKit Go.Shelf
attribute [local go_sem] Oper.semAt_some
def blocksL (zs : List Nat) : List (List Nat) := fullL zs (zs.length / 64) ++ lastL (zs.drop (64 * (zs.length / 64))) zs.length
theorem fullL_prefix (zs : List Nat) {k m : Nat} (h : k ≤ m) : ∃ r, fullL zs k ++ r = fullL zs m := by
  refine ⟨(List.range' k (m - k)).map fun j => (zs.drop (64 * j)).take 64, ?_⟩
  unfold fullL
  rw [← List.map_append]
  congr 1
  rw [List.range_eq_range', List.range_eq_range']
  have e := List.range'_append (s := 0) (m := k) (n := m - k) (step := 1)
  rw [Nat.zero_add, Nat.one_mul, Nat.add_sub_cancel' h] at e
  exact e
theorem blocksL_prefix (zs : List Nat) {k : Nat} (h : k ≤ zs.length / 64) : ∃ r, fullL zs k ++ r = blocksL zs := by
  obtain ⟨r, hr⟩ := fullL_prefix zs h
  exact ⟨r ++ lastL (zs.drop (64 * (zs.length / 64))) zs.length, by rw [← List.append_assoc, hr]; rfl⟩
/-- The length in a slot: for a loop's measure. -/
def sliceLen : Value → Nat | .slice _ L _ => L | _ => 0

theorem bytes_range {n₀ : Nat} {W : World} {b off len cap o : Nat} {zs : List Nat} (h : IsBytes n₀ W (some ⟨b, off, none⟩) len cap zs) (ho : o + 64 ≤ len) : W.rangeAt b (off + o) (u8s ((zs.drop o).take 64)) := by
  obtain ⟨h1, h2, h3, h4, h5⟩ := h
  rcases h5 with h5 | ⟨b', off', e, hb, hc⟩
  · omega
  · cases e
    intro j v hj
    have hjl : j < 64 := by
      rcases Nat.lt_or_ge j 64 with h | h
      · exact h
      · rw [List.getElem?_eq_none (by simp; omega)] at hj; cases hj
    rw [u8s_at (by simp; omega)] at hj
    cases hj
    rw [show off + o + j = off + (o + j) by omega, hc (o + j) (by omega)]
    simp [hjl]

theorem run_arrayAt105 (b o L C : Nat) (h : 64 ≤ L) (w : World) : (Instr.arrayAt 105 (.slice (some ⟨b, o, none⟩) L C)).run Tryd.prog w = .ok (.pointer (some ⟨b, o, none⟩)) w := by
  have hi : (64 : Int) ≤ (L : Int) := by omega
  simp [Instr.arrayAt, run_underlying Tryd.underlying105, go_sem, h]

set_option maxRecDepth 100000 in
set_option maxHeartbeats 2000000 in
theorem blk1_iter (n : Nat) (hn : 6 ≤ n) (l Bb : Nat) (p : Option Addr) (len cap : Nat) (zs : List Nat) (hlen : len ≤ 60000) (W : World) (hI : IsBytes W.heap.size W p len cap zs)
    (hcb : Row W Bb 22 [.slice p len cap])
    (M : Nat → Prop) (Kp : World → World → Prop) (hK1 : ∀ A B, Kp A B → ∀ (k : Nat) (c : Array Value) (t : TypeId) (fr : Nat × Nat), ¬ M k → A.heap[k]? = some (Obj.cells c t fr) → B.heap[k]? = some (Obj.cells c t fr)) (hK2 : ∀ A B, Kp A B → KeepsFrom W.heap.size A B)
    (hM : ∀ k, W.heap.size ≤ k → ¬ M k) (hMb : ¬ M Bb) (hMp : len = 0 ∨ ∀ a, p = some a → ¬ M a.block) :
    IterLow Fence.wide n Tryd.prog 63 #[.pointer (some ⟨Bb, 0, none⟩)] (fun x : List Nat => #[.agg (u8s x).toArray]) (fun x _ => BlockOk x) Kp (fun xs => xs = blocksL zs) (fun pre => ∃ r, pre ++ r = blocksL zs) (len + 3) l W := by
  intro J Jx hJ hJx hY h0
  have h1 : 1 ≤ n := by omega
  have hfn : ∀ f, Fence.wide.fn f := fun _ => trivial
  have hcb1 := (hcb.alloc (.cells #[.func (.yield l) #[] #[]] 132)).cell (i := 0) rfl
  refine callsIn_of_wp_marks Tryd.func63 rfl trivial ?_ rfl
  simp only [Tryd.ntmps63, List.size_toArray, List.length_cons, List.length_nil, Nat.reduceAdd, Nat.reduceSub, Array.replicate_succ, Array.replicate_zero, List.push_toArray, List.append_toArray, List.nil_append, List.cons_append]
  gi_wp2
  have rY := Row.new W 132 #[.func (.yield l) #[] #[]]
  have hb0 : Below W.heap.size W (W.alloc (.cells #[.func (.yield l) #[] #[]] 132)) := (Below.refl _ W).alloc (Nat.le_refl _) _
  have HRel : Hid (Row (W.alloc (.cells #[.func (.yield l) #[] #[]] 132)) W.heap.size 132 [.func (.yield l) #[] #[]] ∧ Row (W.alloc (.cells #[.func (.yield l) #[] #[]] 132)) Bb 22 [.slice p len cap] ∧ IsBytes W.heap.size (W.alloc (.cells #[.func (.yield l) #[] #[]] 132)) p len cap zs ∧ J (fullL zs 0) (W.alloc (.cells #[.func (.yield l) #[] #[]] 132))) := ⟨rY, hcb.later hb0, hI.below hb0, hJ _ _ _ h0 hb0⟩
  have HSz : Hid (W.heap.size < (W.alloc (.cells #[.func (.yield l) #[] #[]] 132)).heap.size) := by show _ < _; simp
  have HIL : Hid (zs.length = len ∧ len ≤ cap ∧ cap ≤ 9223372036854775807) := ⟨hI.1, hI.2.1, hI.2.2.1⟩
  clear rY hb0 hcb1 h0 hcb hI
  generalize W.alloc (.cells #[.func (.yield l) #[] #[]] 132) = w1 at *
  gi_loopw [3] (fun r wr => ∃ (k L C : Nat) (q : Option Addr), r = .slice q L C ∧ L + 64 * k = len ∧ C + 64 * k = cap ∧ (0 < L → ∃ b off, p = some ⟨b, off, none⟩ ∧ q = some ⟨b, off + 64 * k, none⟩) ∧ Row wr W.heap.size 132 [.func (.yield l) #[] #[]] ∧ Row wr Bb 22 [.slice p len cap] ∧ IsBytes W.heap.size wr p len cap zs ∧ J (fullL zs k) wr ∧ W.heap.size < wr.heap.size)
    (fun r _ => sliceLen r)
  case atStart => exact ⟨0, len, cap, p, rfl, by omega, by omega, fun hL => by
      rcases HRel.out.2.2.1.2.2.2.2 with h | ⟨b, off, rfl, _⟩
      · omega
      · exact ⟨b, off, rfl, rfl⟩, HRel.out.1, HRel.out.2.1, HRel.out.2.2.1, HRel.out.2.2.2, HSz.out⟩
  case round =>
    obtain ⟨k, L, C, q, rfl, hL, hC, hq, hrY, hrB, hIB, hJs, hsz⟩ := hrel
    obtain ⟨hzl, hlc, hcc⟩ := HIL.out
    by_cases hL64 : 64 ≤ L
    · obtain ⟨b, off, hpe, rfl⟩ := hq (by omega)
      have HPE : Hid (p = some ⟨b, off, none⟩) := hpe
      have hL64i : (64 : Int) ≤ (L : Int) := by omega
      have hLC : L ≤ C := by omega
      have hCc : C ≤ 9223372036854775807 := by omega
      have hA := run_arrayAt105 b (off + 64 * k) L C hL64
      have hrng : wr.rangeAt b (off + 64 * k) (u8s ((zs.drop (64 * k)).take 64)) := by rw [hpe] at hIB; exact bytes_range hIB (by omega)
      have hyc := hrY.cell (i := 0) rfl
      have HVl : Hid ((u8s ((zs.drop (64 * k)).take 64)).length = 64) := by show _ = _; rw [u8s_length, List.length_take, List.length_drop]; omega
      have HYl := fun A (hA : Below wr.heap.size wr A) => hY (fullL zs k) ((zs.drop (64 * k)).take 64) A (hJ _ _ _ hJs (hA.mono (by omega))) ⟨by have := HVl.out; rwa [u8s_length] at this, fun z hz => hIB.2.2.2.1 z (List.mem_of_mem_drop (List.mem_of_mem_take hz))⟩ (by simp; omega)
      have HrY : Hid (Row wr W.heap.size 132 [.func (.yield l) #[] #[]]) := hrY
      have HrB : Hid (Row wr Bb 22 [.slice p len cap]) := hrB
      have HIB : Hid (IsBytes W.heap.size wr p len cap zs) := hIB
      clear hrY hrB hIB hJs hq HRel hpe
      have HRng : Hid (wr.rangeAt b (off + 64 * k) (u8s ((zs.drop (64 * k)).take 64))) := hrng
      rw [fullL_succ] at HYl
      generalize u8s ((zs.drop (64 * k)).take 64) = V at *
      gi_wp2
      refine wpIn_region_any (by kernel_rfl) ?_
      change wpAnyIn _ _ _ _ _ _ _ _ _ wr.drew
      refine wpAnyIn_either (i := 0) (j := 1) (by kernel_rfl) rfl rfl (by rfl) (by rfl) (fun K hK => ?_) (fun K hK => ?_)
      · go_simp
        refine hK.out _ _ ?_
        clear hK K
        refine wpAnyIn_only (i := 1) (by kernel_rfl) rfl (by rfl) (fun K hK => ?_)
        go_simp
        refine hK.out _ _ ?_
        clear hK K
        refine wpAnyIn_only (i := 2) (by kernel_rfl) rfl (by rfl) (fun K hK => ?_)
        go_simp
        refine hK.out _ _ ?_
        clear hK K
        refine wpAnyIn_only (i := 3) (by kernel_rfl) rfl (by rfl) (fun K hK => ?_)
        refine operIn_wide _ (by intro c hc; cases hc) (wp_load_mid 105 (.tmp 11) rfl b (off + 64 * k) rfl V _ HRng.out Tryd.underlying105 rfl (by rw [HVl.out]; exact size105') ?_)
        simp only [Act.put, List.setIfInBounds_toArray]
        refine hK.out _ _ ?_
        clear hK K
        obtain ⟨fn, tmps, assign, body, hy, hR⟩ := HYl wr.drew (Below.refl _ wr).drew
        refine wpAnyIn_only (i := 4) (by kernel_rfl) rfl (by rfl) (fun K hK => ?_)
        go_simp
        refine RoundIn.mono hR ?_
        rintro e W3 (⟨rfl, hJ3, hk3⟩ | ⟨rfl, hJx3, hk3⟩)
        · refine hK.out _ _ ?_
          clear hK K
          refine wpAnyIn_only (i := 5) (by kernel_rfl) rfl (by rfl) (fun K hK => ?_)
          go_simp
          refine hK.out _ _ ⟨by kernel_rfl, ?_⟩
          clear hK K
          have kY : Hid (Row W3 W.heap.size 132 [.func (.yield l) #[] #[]]) := hK1 _ _ hk3 _ _ _ _ (hM _ (Nat.le_refl _)) HrY.out
          have kB : Hid (Row W3 Bb 22 [.slice p len cap]) := hK1 _ _ hk3 _ _ _ _ hMb HrB.out
          have kI : Hid (IsBytes W.heap.size W3 p len cap zs) := IsBytes.kept (A := wr.drew) (hK1 _ _ hk3) hMp HIB.out
          have kS : Hid (W.heap.size < W3.heap.size) := Nat.lt_of_lt_of_le hsz (hK2 _ _ hk3).size
          have KJ : Hid (J (fullL zs (k + 1)) W3) := hJ3
          clear hJ3
          gi_wp2
          go_roundw
          case rel =>
            exact ⟨k + 1, L - 64, C - 64, _, rfl, by omega, by omega, fun hh => ⟨b, off, HPE.out, by rw [if_neg (by omega), Nat.add_assoc]; rfl⟩, kY.out, kB.out, kI.out, KJ.out, kS.out⟩
          case measure => simp only [sliceLen]; omega
        · refine hK.out _ _ ?_
          clear hK K
          refine wpAnyIn_only (i := 5) (by kernel_rfl) rfl (by rfl) (fun K hK => ?_)
          go_simp
          refine hK.out _ _ ⟨by kernel_rfl, ?_⟩
          clear hK K
          have KJ : Hid (Jx (fullL zs (k + 1)) W3) := hJx3
          clear hJx3
          gi_wp2
          exact ⟨_, results_none rfl _ _ _, ⟨_, rfl⟩, .inr ⟨_, blocksL_prefix zs (by omega), KJ.out⟩⟩
      · go_simp
        refine hK.out _ _ ?_
        clear hK K
        refine wpAnyIn_either (i := 0) (j := 2) (by kernel_rfl) rfl rfl (by rfl) (by rfl) (fun K hK => ?_) (fun K hK => ?_)
        · go_simp
          refine hK.out _ _ ?_
          clear hK K
          refine wpAnyIn_only (i := 2) (by kernel_rfl) rfl (by rfl) (fun K hK => ?_)
          go_simp
          refine hK.out _ _ ?_
          clear hK K
          refine wpAnyIn_only (i := 3) (by kernel_rfl) rfl (by rfl) (fun K hK => ?_)
          refine operIn_wide _ (by intro c hc; cases hc) (wp_load_mid 105 (.tmp 11) rfl b (off + 64 * k) rfl V _ HRng.out Tryd.underlying105 rfl (by rw [HVl.out]; exact size105') ?_)
          simp only [Act.put, List.setIfInBounds_toArray]
          refine hK.out _ _ ?_
          clear hK K
          obtain ⟨fn, tmps, assign, body, hy, hR⟩ := HYl wr.drew (Below.refl _ wr).drew
          refine wpAnyIn_only (i := 4) (by kernel_rfl) rfl (by rfl) (fun K hK => ?_)
          go_simp
          refine RoundIn.mono hR ?_
          rintro e W3 (⟨rfl, hJ3, hk3⟩ | ⟨rfl, hJx3, hk3⟩)
          · refine hK.out _ _ ?_
            clear hK K
            refine wpAnyIn_only (i := 5) (by kernel_rfl) rfl (by rfl) (fun K hK => ?_)
            go_simp
            refine hK.out _ _ ⟨by kernel_rfl, ?_⟩
            clear hK K
            have kY : Hid (Row W3 W.heap.size 132 [.func (.yield l) #[] #[]]) := hK1 _ _ hk3 _ _ _ _ (hM _ (Nat.le_refl _)) HrY.out
            have kB : Hid (Row W3 Bb 22 [.slice p len cap]) := hK1 _ _ hk3 _ _ _ _ hMb HrB.out
            have kI : Hid (IsBytes W.heap.size W3 p len cap zs) := IsBytes.kept (A := wr.drew) (hK1 _ _ hk3) hMp HIB.out
            have kS : Hid (W.heap.size < W3.heap.size) := Nat.lt_of_lt_of_le hsz (hK2 _ _ hk3).size
            have KJ : Hid (J (fullL zs (k + 1)) W3) := hJ3
            clear hJ3
            gi_wp2
            go_roundw
            case rel =>
              exact ⟨k + 1, L - 64, C - 64, _, rfl, by omega, by omega, fun hh => ⟨b, off, HPE.out, by rw [if_neg (by omega), Nat.add_assoc]; rfl⟩, kY.out, kB.out, kI.out, KJ.out, kS.out⟩
            case measure => simp only [sliceLen]; omega
          · refine hK.out _ _ ?_
            clear hK K
            refine wpAnyIn_only (i := 5) (by kernel_rfl) rfl (by rfl) (fun K hK => ?_)
            go_simp
            refine hK.out _ _ ⟨by kernel_rfl, ?_⟩
            clear hK K
            have KJ : Hid (Jx (fullL zs (k + 1)) W3) := hJx3
            clear hJx3
            gi_wp2
            exact ⟨_, results_none rfl _ _ _, ⟨_, rfl⟩, .inr ⟨_, blocksL_prefix zs (by omega), KJ.out⟩⟩
        · go_simp
          refine hK.out _ _ ?_
          clear hK K
          refine wpAnyIn_either (i := 0) (j := 3) (by kernel_rfl) rfl rfl (by rfl) (by rfl) (fun K hK => ?_) (fun K hK => ?_)
          · go_simp
            refine hK.out _ _ ?_
            clear hK K
            refine wpAnyIn_only (i := 3) (by kernel_rfl) rfl (by rfl) (fun K hK => ?_)
            refine operIn_wide _ (by intro c hc; cases hc) (wp_load_mid 105 (.tmp 11) rfl b (off + 64 * k) rfl V _ HRng.out Tryd.underlying105 rfl (by rw [HVl.out]; exact size105') ?_)
            simp only [Act.put, List.setIfInBounds_toArray]
            refine hK.out _ _ ?_
            clear hK K
            obtain ⟨fn, tmps, assign, body, hy, hR⟩ := HYl wr.drew (Below.refl _ wr).drew
            refine wpAnyIn_only (i := 4) (by kernel_rfl) rfl (by rfl) (fun K hK => ?_)
            go_simp
            refine RoundIn.mono hR ?_
            rintro e W3 (⟨rfl, hJ3, hk3⟩ | ⟨rfl, hJx3, hk3⟩)
            · refine hK.out _ _ ?_
              clear hK K
              refine wpAnyIn_only (i := 5) (by kernel_rfl) rfl (by rfl) (fun K hK => ?_)
              go_simp
              refine hK.out _ _ ⟨by kernel_rfl, ?_⟩
              clear hK K
              have kY : Hid (Row W3 W.heap.size 132 [.func (.yield l) #[] #[]]) := hK1 _ _ hk3 _ _ _ _ (hM _ (Nat.le_refl _)) HrY.out
              have kB : Hid (Row W3 Bb 22 [.slice p len cap]) := hK1 _ _ hk3 _ _ _ _ hMb HrB.out
              have kI : Hid (IsBytes W.heap.size W3 p len cap zs) := IsBytes.kept (A := wr.drew) (hK1 _ _ hk3) hMp HIB.out
              have kS : Hid (W.heap.size < W3.heap.size) := Nat.lt_of_lt_of_le hsz (hK2 _ _ hk3).size
              have KJ : Hid (J (fullL zs (k + 1)) W3) := hJ3
              clear hJ3
              gi_wp2
              go_roundw
              case rel =>
                exact ⟨k + 1, L - 64, C - 64, _, rfl, by omega, by omega, fun hh => ⟨b, off, HPE.out, by rw [if_neg (by omega), Nat.add_assoc]; rfl⟩, kY.out, kB.out, kI.out, KJ.out, kS.out⟩
              case measure => simp only [sliceLen]; omega
            · refine hK.out _ _ ?_
              clear hK K
              refine wpAnyIn_only (i := 5) (by kernel_rfl) rfl (by rfl) (fun K hK => ?_)
              go_simp
              refine hK.out _ _ ⟨by kernel_rfl, ?_⟩
              clear hK K
              have KJ : Hid (Jx (fullL zs (k + 1)) W3) := hJx3
              clear hJx3
              gi_wp2
              exact ⟨_, results_none rfl _ _ _, ⟨_, rfl⟩, .inr ⟨_, blocksL_prefix zs (by omega), KJ.out⟩⟩
          · refine operIn_wide _ (by intro c hc; cases hc) (wp_load_mid 105 (.tmp 11) rfl b (off + 64 * k) rfl V _ HRng.out Tryd.underlying105 rfl (by rw [HVl.out]; exact size105') ?_)
            simp only [Act.put, List.setIfInBounds_toArray]
            refine hK.out _ _ ?_
            clear hK K
            refine wpAnyIn_only (i := 0) (by kernel_rfl) rfl (by rfl) (fun K hK => ?_)
            go_simp
            refine hK.out _ _ ?_
            clear hK K
            obtain ⟨fn, tmps, assign, body, hy, hR⟩ := HYl wr.drew (Below.refl _ wr).drew
            refine wpAnyIn_only (i := 4) (by kernel_rfl) rfl (by rfl) (fun K hK => ?_)
            go_simp
            refine RoundIn.mono hR ?_
            rintro e W3 (⟨rfl, hJ3, hk3⟩ | ⟨rfl, hJx3, hk3⟩)
            · refine hK.out _ _ ?_
              clear hK K
              refine wpAnyIn_only (i := 5) (by kernel_rfl) rfl (by rfl) (fun K hK => ?_)
              go_simp
              refine hK.out _ _ ⟨by kernel_rfl, ?_⟩
              clear hK K
              have kY : Hid (Row W3 W.heap.size 132 [.func (.yield l) #[] #[]]) := hK1 _ _ hk3 _ _ _ _ (hM _ (Nat.le_refl _)) HrY.out
              have kB : Hid (Row W3 Bb 22 [.slice p len cap]) := hK1 _ _ hk3 _ _ _ _ hMb HrB.out
              have kI : Hid (IsBytes W.heap.size W3 p len cap zs) := IsBytes.kept (A := wr.drew) (hK1 _ _ hk3) hMp HIB.out
              have kS : Hid (W.heap.size < W3.heap.size) := Nat.lt_of_lt_of_le hsz (hK2 _ _ hk3).size
              have KJ : Hid (J (fullL zs (k + 1)) W3) := hJ3
              clear hJ3
              gi_wp2
              go_roundw
              case rel =>
                exact ⟨k + 1, L - 64, C - 64, _, rfl, by omega, by omega, fun hh => ⟨b, off, HPE.out, by rw [if_neg (by omega), Nat.add_assoc]; rfl⟩, kY.out, kB.out, kI.out, KJ.out, kS.out⟩
              case measure => simp only [sliceLen]; omega
            · refine hK.out _ _ ?_
              clear hK K
              refine wpAnyIn_only (i := 5) (by kernel_rfl) rfl (by rfl) (fun K hK => ?_)
              go_simp
              refine hK.out _ _ ⟨by kernel_rfl, ?_⟩
              clear hK K
              have KJ : Hid (Jx (fullL zs (k + 1)) W3) := hJx3
              clear hJx3
              gi_wp2
              exact ⟨_, results_none rfl _ _ _, ⟨_, rfl⟩, .inr ⟨_, blocksL_prefix zs (by omega), KJ.out⟩⟩
    · have hL64i : (L : Int) < 64 := by omega
      have HIr : Hid (IsBytes W.heap.size wr q L C (zs.drop (64 * k))) := hIB.rest hL hC hq
      have HLen : Hid (64 * k = 64 * (zs.length / 64) ∧ k = zs.length / 64) := ⟨by omega, by omega⟩
      have hcB := hrB.cell (i := 0) rfl
      have eU : IntKind.u64.wrap (len : Int) = (len : Int) := by rw [IntKind.wrap_u64]; omega
      have HrY : Hid (Row wr W.heap.size 132 [.func (.yield l) #[] #[]]) := hrY
      have HrB : Hid (Row wr Bb 22 [.slice p len cap]) := hrB
      have HJs : Hid (J (fullL zs k) wr) := hJs
      have HJ : Hid (Low W.heap.size J) := hJ
      have HJx : Hid (Low W.heap.size Jx) := hJx
      clear hq hIB hrY hrB hJs HRel
      gi_wp2_with (gi_at_call 64; refine (last_in _ _ _ _ rfl).mono ?_; rintro e w' ⟨rfl, rfl⟩)
      have rr := Row.new wr 22 #[.slice q L C]
      have rl := Row.new (wr.alloc (.cells #[.slice q L C] 22)) 91 #[.int .u64 (len : Nat)]
      rw [World.size_alloc] at rl
      have HR3 : Hid (Row ((wr.alloc (.cells #[.slice q L C] 22)).alloc (.cells #[.int .u64 (len : Nat)] 91)) wr.heap.size 22 [.slice q L C] ∧ Row ((wr.alloc (.cells #[.slice q L C] 22)).alloc (.cells #[.int .u64 (len : Nat)] 91)) (wr.heap.size + 1) 91 [.int .u64 (len : Nat)]) := ⟨rr.alloc _, rl⟩
      have hb3 : Below wr.heap.size wr ((wr.alloc (.cells #[.slice q L C] 22)).alloc (.cells #[.int .u64 (len : Nat)] 91)) := ((Below.refl _ wr).alloc (Nat.le_refl _) _).alloc (by simp) _
      have hs3 : ((wr.alloc (.cells #[.slice q L C] 22)).alloc (.cells #[.int .u64 (len : Nat)] 91)).heap.size = wr.heap.size + 2 := by simp
      clear rr rl
      generalize (wr.alloc (.cells #[.slice q L C] 22)).alloc (.cells #[.int .u64 (len : Nat)] 91) = w3 at *
      have HI3 : Hid (IsBytes w3.heap.size w3 q L C (zs.drop (64 * k))) := (HIr.out.below (hb3.mono (by omega))).mono (by omega)
      have HY3 : Hid (Row w3 W.heap.size 132 [.func (.yield l) #[] #[]]) := HrY.out.below hb3 hsz
      have HJ3 : Hid (J (fullL zs k) w3) := HJ.out _ _ _ HJs.out (hb3.mono (by omega))
      refine wpIn_rangeFunc_arr rfl h1 (gf := 67) (lb := #[.pointer (some ⟨wr.heap.size, 0, none⟩), .pointer (some ⟨wr.heap.size + 1, 0, none⟩)]) rfl trivial (enters_of Tryd.func67 (by kernel_rfl) rfl)
        (encs := fun x : List Nat => #[.agg (u8s x).toArray]) (Ok := fun x _ => BlockOk x) (Kp := KpM M (w3.heap.size + 2)) (S := fun xs => xs = lastL (zs.drop (64 * k)) len) (Sp := fun pre => ∃ r, pre ++ r = lastL (zs.drop (64 * k)) len) (N := 2)
        (fun W' hs hb => last1_iter (n - 1) (by omega) _ wr.heap.size (wr.heap.size + 1) len q L C (zs.drop (64 * k)) (by omega) W' ((HI3.out.below hb).mono (by omega)) ((HR3.out.1.later hb).cell (i := 0) rfl) (HR3.out.2.later hb) M _ (fun _ _ h => h.1) (fun j hj => hM j (by omega)) (hM _ (by omega)))
        KpM.trans (fun A o o' ho hc => KpM.record (by omega) o' ho hc) KpM.of_below (fun _ => rfl) 105 (fun x => u8s x)
        (fun pre A => J (fullL zs k ++ pre) A ∧ Row A W.heap.size 132 [.func (.yield l) #[] #[]])
        (fun c pre A => c = .ret ∧ Jx (fullL zs k ++ pre) A)
        (Low.and (fun s A B h hb => HJ.out _ _ _ h (hb.mono (by omega))) (low_row (by omega) _))
        (fun c s A B h hb => ⟨h.1, HJx.out _ _ _ h.2 (hb.mono (by omega))⟩)
        (fun _ _ _ h _ => h)
        ⟨by rw [List.append_nil]; exact HJ3.out, HY3.out⟩
        (fun x A => { tmps := #[.func (.yield l) #[] #[], .pointer (some ⟨Bb, 0, none⟩), .pointer (some ⟨W.heap.size, 0, none⟩), .slice q L C, .pointer (some ⟨A.heap.size, 0, none⟩), .slice p len cap, .slice q L C, .int .i64 L, .bool (decide ((64 : Int) ≤ L)), u9, u10, u11, u12, u13, u14, u15, u16, .slice q L C, .slice p len cap, .int .i64 len, .int .u64 len,
          .func (.func 67) #[] #[.pointer (some ⟨wr.heap.size, 0, none⟩), .pointer (some ⟨wr.heap.size + 1, 0, none⟩)], .agg (u8s x).toArray, undef, undef, undef, undef], defers := [] }) ?assign ?body ?done ?stop
      case assign =>
        intro li x A K hok hK
        have hxl : (u8s x).length = 64 := by rw [u8s_length]; exact hok.1
        have HXL : Hid ((u8s x).length = 64) := hxl
        have HX1 : Hid (∀ v ∈ u8s x, v.oneCell' = true) := u8s_one x
        have HK : Hid (∀ W', Below A.heap.size A W' → Row W' A.heap.size 105 (u8s x) → K _ W') := hK
        clear hxl hK
        generalize u8s x = V at *
        gi_wp2_with ((with_reducible show wpListIn _ _ _ _ _ (Oper.mk _ (Op.store 105 (.tmp 4) (.tmp 22)) _ _ _ _ :: _) _ _); refine wpListIn_store_Row rfl 105 (.tmp 4) (.tmp 22) rfl V rfl rfl (Row.new _ _ _) (by rw [HXL.out]; exact size105') (by rw [HXL.out]; rfl) HX1.out ?_; simp only [Act.put])
        exact HK.out _ (below_setCells (Nat.le_refl _) _ _ ((Below.refl _ A).alloc (Nat.le_refl _) _)) (Row.sets_all (Row.new _ _ _) (by rw [HXL.out]; rfl))
      case body =>
        rintro li pre x A₀ A ⟨hJA, hrY⟩ hok hN hle hrow
        have hyc := hrY.cell (i := 0) rfl
        obtain ⟨fn, tmps, assign, body, hy, hR⟩ := hY (fullL zs k ++ pre) x A hJA hok (by simp; omega)
        have HXL : Hid ((u8s x).length = 64) := by show _ = _; rw [u8s_length]; exact hok.1
        have HRow : Hid (Row A A₀.heap.size 105 (u8s x)) := hrow
        have HRY : Hid (Row A W.heap.size 132 [.func (.yield l) #[] #[]]) := hrY
        have HAs : Hid (fullL zs k ++ pre ++ [x] = fullL zs k ++ (pre ++ [x])) := List.append_assoc _ _ _
        rw [HAs.out] at hR
        clear hrow hrY
        generalize u8s x = V at *
        gi_wp2_with ((with_reducible show wpListIn _ _ _ _ _ (Oper.mk _ (Op.load 105 (.tmp 4)) _ _ _ _ :: _) _ _); refine wpListIn_load_Row rfl 105 (.tmp 4) rfl rfl HRow.out Tryd.underlying105 (by rw [HXL.out]; exact size105') ?_; simp only [Act.put, List.setIfInBounds_toArray, List.set_cons_zero, List.set_cons_succ])
        refine ⟨fun _ => by omega, RoundIn.mono (show RoundIn (Fence.wide.inRound li) _ _ _ _ _ _ _ _ _ from ⟨hR.1, fun c cs _ => hR.2 c cs (room_wide _)⟩) ?_⟩
        rintro e A3 (⟨rfl, hJ3, hk3⟩ | ⟨rfl, hJ3, hk3⟩)
        · have kY : Hid (Row A3 W.heap.size 132 [.func (.yield l) #[] #[]]) := hK1 _ _ hk3 _ _ _ _ (hM _ (Nat.le_refl _)) HRY.out
          gi_wp2
          exact ⟨keepsFrom_ge (hK2 _ _ hk3) (by omega), ⟨hK1 _ _ hk3, keepsFrom_ge (hK2 _ _ hk3) (by omega)⟩, hJ3, kY.out⟩
        · gi_wp2
          exact ⟨keepsFrom_ge (hK2 _ _ hk3) (by omega), ⟨hK1 _ _ hk3, keepsFrom_ge (hK2 _ _ hk3) (by omega)⟩, rfl, hJ3⟩
      case done =>
        rintro D xs A hD hS ⟨hJA, hrY⟩ hKD
        have HF : Hid (fullL zs k ++ xs = blocksL zs) := by
          show _ = _
          have := HLen.out
          rw [hS, blocksL, ← this.1, ← this.2, hzl]
        clear hS
        gi_wp2
        refine ⟨by simp, .inl ⟨_, _, rfl, run_takeDeferred hKD, ?_⟩⟩
        exact ⟨_, results_none rfl _ _ _, ⟨_, rfl⟩, .inl ⟨_, HF.out, low_putObj HJ.out _ hJA (by omega)⟩⟩
      case stop =>
        rintro D c pre A hD ⟨r, hr⟩ ⟨rfl, hJA⟩ hKD
        have HF : Hid ((fullL zs k ++ pre) ++ r = blocksL zs) := by
          show _ = _
          have := HLen.out
          rw [List.append_assoc, hr, blocksL, ← this.1, ← this.2, hzl]
        clear hr
        gi_wp2
        refine ⟨by simp, .inl ⟨_, _, rfl, run_takeDeferred hKD, ?_⟩⟩
        exact ⟨_, results_none rfl _ _ _, ⟨_, rfl⟩, .inr ⟨_, ⟨r, HF.out⟩, low_putObj HJx.out _ hJA (by omega)⟩⟩

set_option maxHeartbeats 1000000 in
/-- sha.blocks: the argument is boxed; the function value captures the box. -/
theorem blk_in (n : Nat) (p : Option Addr) (len cap : Nat) (w : World) :
    CallsIn Fence.wide n Tryd.prog 58 #[.slice p len cap] w fun e w' =>
      e = .returned (.func (.func 63) #[] #[.pointer (some ⟨w.heap.size, 0, none⟩)]) ∧ w' = w.alloc (.cells #[.slice p len cap] 22) := by
  refine callsIn_of_wp Tryd.func58 rfl trivial ?_ rfl
  simp only [Tryd.ntmps58, List.size_toArray, List.length_cons, List.length_nil, Nat.reduceAdd, Nat.reduceSub, Array.replicate_succ, Array.replicate_zero, List.push_toArray, List.append_toArray, List.nil_append, List.cons_append]
  gi_wp2
  go_ret
  exact ⟨rfl, rfl⟩

end Go.Proofs.YtbaokodhoiledaaDoor.Sh
/-
  What sha.turned answers: the eight words behind all rounds.
-/
namespace Go.Proofs.YtbaokodhoiledaaDoor.Sh
open Go.RowKit
attribute [local go_sem] Oper.semAt_some

theorem size102 : (Tryd.prog.info? 102).map (·.size) = some 8 := by kernel_rfl

set_option maxRecDepth 100000 in
set_option maxHeartbeats 2000000 in
theorem turned_any (s : St) (hs : s.ok) (B : Nat) (ws : List Nat) (hl : ws.length = 64) (hw : ∀ z ∈ ws, z < 4294967296) (w : World) (hT : Tab w) (hB : Row w B 119 (u32s ws)) :
    Calls Tryd.prog 66 #[.agg (u32s s.list).toArray, .pointer (some ⟨B, 0, none⟩)] w fun e w' => e = .returned (.agg (u32s (roundsN ws 64 s).list).toArray) ∧ Below w.heap.size w w' := by
  obtain ⟨R, hR0, hRs, hRok, hR64⟩ : ∃ R : Nat → St, R 0 = s ∧ (∀ k, R (k + 1) = roundN (kW.getD k 0) (ws.getD k 0) (R k)) ∧ (∀ k, (R k).ok) ∧ R 64 = roundsN ws 64 s := ⟨fun k => roundsN ws k s, rfl, fun _ => rfl, roundsN_ok hs, rfl⟩
  rw [← hR64]
  have HR0 : Hid (R 0 = s) := hR0
  have HRs : Hid (∀ k, R (k + 1) = roundN (kW.getD k 0) (ws.getD k 0) (R k)) := hRs
  have HRok : Hid (∀ k, (R k).ok) := hRok
  clear hR0 hRs hRok hR64
  have HL : Hid (ws.length = 64) := hl
  have HW : Hid (∀ z ∈ ws, z < 4294967296) := hw
  have HT : Hid (Tab w) := hT
  have HB : Hid (Row w B 119 (u32s ws)) := hB
  clear hs hl hw hT hB
  rw [show u32s s.list = [.int .u32 (s.a : Nat), .int .u32 (s.b : Nat), .int .u32 (s.c : Nat), .int .u32 (s.d : Nat), .int .u32 (s.e : Nat), .int .u32 (s.f : Nat), .int .u32 (s.g : Nat), .int .u32 (s.h : Nat)] from rfl]
  go_enter Tryd.func66, Tryd.ntmps66
  go_wp2
  go_step3
  go_wp2
  go_quiet (fail)
  go_wp2
  go_step3
  go_wp2
  rw [z8u32]
  have rR : Row (((w.alloc (Obj.cells #[Value.int .u32 (s.a : Nat), Value.int .u32 (s.b : Nat), Value.int .u32 (s.c : Nat), Value.int .u32 (s.d : Nat), Value.int .u32 (s.e : Nat), Value.int .u32 (s.f : Nat), Value.int .u32 (s.g : Nat), Value.int .u32 (s.h : Nat)] 102)).alloc (Obj.cells (List.replicate 8 (Value.int .u32 0)).toArray 102)).drewN nq) (w.heap.size + 1) 102 (List.replicate 8 (Value.int .u32 0)) := by
    have := Row.new' (w.alloc (Obj.cells #[Value.int .u32 (s.a : Nat), Value.int .u32 (s.b : Nat), Value.int .u32 (s.c : Nat), Value.int .u32 (s.d : Nat), Value.int .u32 (s.e : Nat), Value.int .u32 (s.f : Nat), Value.int .u32 (s.g : Nat), Value.int .u32 (s.h : Nat)] 102)) 102 (List.replicate 8 (Value.int .u32 0))
    rw [World.size_alloc] at this
    exact this.drewN nq
  have hb1 : Below w.heap.size w (((w.alloc (Obj.cells #[Value.int .u32 (s.a : Nat), Value.int .u32 (s.b : Nat), Value.int .u32 (s.c : Nat), Value.int .u32 (s.d : Nat), Value.int .u32 (s.e : Nat), Value.int .u32 (s.f : Nat), Value.int .u32 (s.g : Nat), Value.int .u32 (s.h : Nat)] 102)).alloc (Obj.cells (List.replicate 8 (Value.int .u32 0)).toArray 102)).drewN nq) :=
    below_drewN (((Below.refl _ w).alloc (Nat.le_refl _) _).alloc (by simp) _) nq
  generalize (((w.alloc (Obj.cells #[Value.int .u32 (s.a : Nat), Value.int .u32 (s.b : Nat), Value.int .u32 (s.c : Nat), Value.int .u32 (s.d : Nat), Value.int .u32 (s.e : Nat), Value.int .u32 (s.f : Nat), Value.int .u32 (s.g : Nat), Value.int .u32 (s.h : Nat)] 102)).alloc (Obj.cells (List.replicate 8 (Value.int .u32 0)).toArray 102)).drewN nq) = w3 at *
  go_loopw [5, 6, 7, 8, 9, 10, 11, 12, 13] (fun va vb vc vd ve vf vg vh vi wr => ∃ k : Nat, k ≤ 64 ∧ vi = .int .i64 k ∧ va = .int .u32 ((R k).a : Nat) ∧ vb = .int .u32 ((R k).b : Nat) ∧ vc = .int .u32 ((R k).c : Nat) ∧ vd = .int .u32 ((R k).d : Nat) ∧ ve = .int .u32 ((R k).e : Nat) ∧ vf = .int .u32 ((R k).f : Nat) ∧ vg = .int .u32 ((R k).g : Nat) ∧ vh = .int .u32 ((R k).h : Nat) ∧ Row wr (w.heap.size + 1) 102 (List.replicate 8 (Value.int .u32 0)) ∧ Below w.heap.size w wr)
    (fun _ _ _ _ _ _ _ _ i _ => 64 - (intOf i).toNat)
  case atStart => rw [← HR0.out]; exact ⟨0, by omega, rfl, rfl, rfl, rfl, rfl, rfl, rfl, rfl, rfl, rR, hb1⟩
  case round =>
    obtain ⟨k, hk, rfl, rfl, rfl, rfl, rfl, rfl, rfl, rfl, rfl, hrR, hBw⟩ := hrel
    clear rR hb1
    by_cases hk64 : k < 64
    · have hki : (k : Int) < 64 := by omega
      have hkb : ((k : Int) == 64) = false := by simp; omega
      have ck := (HT.out.later hBw) k hk64
      have cw := ((HB.out.later hBw)).cell (u32s_at (l := ws) (i := k) (by have := HL.out; omega))
      have bk : kW.getD k 0 < 4294967296 := all_getD (by decide) kW_lt _
      have bw : ws.getD k 0 < 4294967296 := all_getD (by decide) HW.out _
      obtain ⟨ba, bb, bc, bd, be, bf, bg, bh⟩ := HRok.out k
      have HR : Hid (R (k + 1) = roundN (kW.getD k 0) (ws.getD k 0) (R k)) := HRs.out k
      generalize kW.getD k 0 = xk at *
      generalize ws.getD k 0 = xw at *
      generalize R k = r at *
      obtain ⟨a, b, c, d, e, f, g, h0⟩ := r
      dsimp only at ba bb bc bd be bf bg bh ⊢
      have HrR : Hid (Row wr (w.heap.size + 1) 102 (List.replicate 8 (Value.int .u32 0))) := hrR
      clear hrR
      go_wp2
      go_quiet ((go_at_call 68; exact Calls.quiet_of_same (ror_int _ _ _ (by assumption) (by omega) (by omega))))
      go_wp2_with (go_at_call 68; refine (ror_int _ _ _ (by assumption) (by omega) (by omega)).mono ?_; rintro e w' ⟨rfl, rfl⟩)
      rw [ch_eq be bf bg, maj_eq ba bb bc, big1_eq be, big0_eq ba]
      go_roundw
      case rel =>
        refine ⟨k + 1, by omega, by go_num, ?_⟩
        rw [HR.out]
        refine ⟨?_, rfl, rfl, rfl, ?_, rfl, rfl, rfl, HrR.out.drewN _, below_drewN hBw _⟩
        · refine congrArg (Value.int .u32) (show _ = ((aN (tN xk xw e f g h0) a b c : Nat) : Int) from ?_)
          unfold aN tN
          omega
        · refine congrArg (Value.int .u32) (show _ = (((d + tN xk xw e f g h0) % 4294967296 : Nat) : Int) from ?_)
          unfold tN
          omega
      case measure => simp [intOf]; omega
    · obtain rfl : k = 64 := by omega
      have HrR : Hid (Row wr (w.heap.size + 1) 102 (List.replicate 8 (Value.int .u32 0))) := hrR
      clear hrR
      generalize hr : R 64 = r
      go_wp2_with ((with_reducible show wpList _ _ _ (Oper.mk _ (Op.store 102 (.tmp 4) (.tmp 108)) _ _ _ _ :: _) _ _); refine wpList_store_Row rfl 102 (.tmp 4) (.tmp 108) rfl [.int .u32 (r.a : Nat), .int .u32 (r.b : Nat), .int .u32 (r.c : Nat), .int .u32 (r.d : Nat), .int .u32 (r.e : Nat), .int .u32 (r.f : Nat), .int .u32 (r.g : Nat), .int .u32 (r.h : Nat)] rfl rfl HrR.out size102 rfl (by simp [Value.oneCell']) ?_; simp only [Act.put])
      rw [Exit.noGoto_ret]
      refine bodyPost_ret (results_Row rfl rfl (HrR.out.sets_all (vs := [.int .u32 (r.a : Nat), .int .u32 (r.b : Nat), .int .u32 (r.c : Nat), .int .u32 (r.d : Nat), .int .u32 (r.e : Nat), .int .u32 (r.f : Nat), .int .u32 (r.g : Nat), .int .u32 (r.h : Nat)]) rfl) Tryd.underlying102 size102) rfl ?_
      exact ⟨by rw [hr, St.cells], below_setCells (by omega) _ _ hBw⟩
end Go.Proofs.YtbaokodhoiledaaDoor.Sh
/-
  What sha.Schedule answers: the words of a block, for every block; nothing that lay before the call has turned.
-/
namespace Go.Proofs.YtbaokodhoiledaaDoor.Sh
open Go.RowKit
attribute [local go_sem] Oper.semAt_some

theorem size119 : (Tryd.prog.info? 119).map (·.size) = some 64 := by kernel_rfl

set_option maxRecDepth 100000 in
set_option maxHeartbeats 2000000 in
theorem schedule_any (bs : List Nat) (hl : bs.length = 64) (hb : ∀ z ∈ bs, z < 256) (w : World) :
    Calls Tryd.prog 65 #[.agg (u8s bs).toArray] w fun e w' => e = .returned (.agg (u32s (sched bs)).toArray) ∧ Below w.heap.size w w' := by
  have HL : Hid (bs.length = 64) := hl
  have HB : Hid (∀ z ∈ bs, z < 256) := hb
  clear hl hb
  go_enter Tryd.func65, Tryd.ntmps65
  go_wp2
  rw [z64u32]
  generalize hw3 : ((w.alloc (Obj.cells (u8s bs).toArray 105)).alloc (Obj.cells (List.replicate 64 (Value.int .u32 0)).toArray 119)).alloc (Obj.cells (List.replicate 64 (Value.int .u32 0)).toArray 119) = w3
  have rB : Row w3 w.heap.size 105 (u8s bs) := by rw [← hw3]; exact ((Row.new' w 105 _).alloc _).alloc _
  have rR : Row w3 (w.heap.size + 1) 119 (List.replicate 64 (Value.int .u32 0)) := by rw [← hw3]; have := Row.new' (w.alloc (Obj.cells (u8s bs).toArray 105)) 119 (List.replicate 64 (Value.int .u32 0)); rw [World.size_alloc] at this; exact this.alloc _
  have rW : Row w3 (w.heap.size + 1 + 1) 119 (List.replicate 64 (Value.int .u32 0)) := by rw [← hw3]; have := Row.new' ((w.alloc (Obj.cells (u8s bs).toArray 105)).alloc (Obj.cells (List.replicate 64 (Value.int .u32 0)).toArray 119)) 119 (List.replicate 64 (Value.int .u32 0)); simpa using this
  have hB3 : Below w.heap.size w w3 := by rw [← hw3]; exact (((Below.refl _ w).alloc (Nat.le_refl _) _).alloc (by simp) _).alloc (by simp; omega) _
  clear hw3
  go_loopw [8] (fun i wr => ∃ k : Nat, k ≤ 16 ∧ i = .int .i64 k ∧ Row wr w.heap.size 105 (u8s bs) ∧ Row wr (w.heap.size + 1) 119 (List.replicate 64 (Value.int .u32 0)) ∧ Row wr (w.heap.size + 1 + 1) 119 (fill 64 (.int .u32 0) (u32s (firstW bs k))) ∧ Below w.heap.size w wr)
    (fun i _ => 16 - (intOf i).toNat)
  case atStart => exact ⟨0, by omega, rfl, rB, rR, rW, hB3⟩
  case round =>
    obtain ⟨k, hk, rfl, hrB, hrR, hrW, hBw⟩ := hrel
    by_cases hk16 : k < 16
    · have hki : (k : Int) < 16 := by omega
      have hkj : (k : Int) < 64 := by omega
      have hbl := HL.out
      have hbb := HB.out
      have c0 := hrB.cell (u8s_at (l := bs) (i := 4 * k) (by omega))
      have c1 := hrB.cell (u8s_at (l := bs) (i := 4 * k + 1) (by omega))
      have c2 := hrB.cell (u8s_at (l := bs) (i := 4 * k + 2) (by omega))
      have c3 := hrB.cell (u8s_at (l := bs) (i := 4 * k + 3) (by omega))
      have b0 : bs.getD (4 * k) 0 < 256 := all_getD (by decide) hbb _
      have b1 : bs.getD (4 * k + 1) 0 < 256 := all_getD (by decide) hbb _
      have b2 : bs.getD (4 * k + 2) 0 < 256 := all_getD (by decide) hbb _
      have b3 : bs.getD (4 * k + 3) 0 < 256 := all_getD (by decide) hbb _
      have HW : Hid (word4 bs k = wordB (bs.getD (4 * k) 0) (bs.getD (4 * k + 1) 0) (bs.getD (4 * k + 2) 0) (bs.getD (4 * k + 3) 0)) := rfl
      generalize bs.getD (4 * k) 0 = x0 at *
      generalize bs.getD (4 * k + 1) 0 = x1 at *
      generalize bs.getD (4 * k + 2) 0 = x2 at *
      generalize bs.getD (4 * k + 3) 0 = x3 at *
      have e0 : IntKind.i64.wrap (4 * (k : Int)) = ((4 * k : Nat) : Int) := by rw [IntKind.wrap_i64]; omega
      have e1 : IntKind.i64.wrap (((4 * k : Nat) : Int) + 1) = ((4 * k + 1 : Nat) : Int) := by rw [IntKind.wrap_i64]; omega
      have e2 : IntKind.i64.wrap (((4 * k : Nat) : Int) + 2) = ((4 * k + 2 : Nat) : Int) := by rw [IntKind.wrap_i64]; omega
      have e3 : IntKind.i64.wrap (((4 * k : Nat) : Int) + 3) = ((4 * k + 3 : Nat) : Int) := by rw [IntKind.wrap_i64]; omega
      have l0 : ((4 * k : Nat) : Int) < 64 := by omega
      have l1 : ((4 * k + 1 : Nat) : Int) < 64 := by omega
      have l2 : ((4 * k + 2 : Nat) : Int) < 64 := by omega
      have l3 : ((4 * k + 3 : Nat) : Int) < 64 := by omega
      generalize 4 * k + 1 = m1 at *
      generalize 4 * k + 2 = m2 at *
      generalize 4 * k + 3 = m3 at *
      generalize 4 * k = m0 at *
      have hWc := hrW.cell (i := k) (v := .int .u32 0) (fill_rest _ _ _ (by simp) (by omega))
      have hWf := hrW.frozen k
      have HrB : Hid (Row wr w.heap.size 105 (u8s bs)) := hrB
      have HrR : Hid (Row wr (w.heap.size + 1) 119 (List.replicate 64 (Value.int .u32 0))) := hrR
      have HrW : Hid (Row wr (w.heap.size + 1 + 1) 119 (fill 64 (.int .u32 0) (u32s (firstW bs k)))) := hrW
      have HV : Hid (Value.int .u32 (word4 bs k : Nat) = .int .u32 (bits .or .u32 (bits .or .u32 (bits .or .u32 (IntKind.u32.wrap ((x0 : Int) * 16777216)) (IntKind.u32.wrap ((x1 : Int) * 65536))) (IntKind.u32.wrap ((x2 : Int) * 256))) (x3 : Int))) := by
        show _ = _
        rw [HW.out, wordB_or x0 x1 x2 x3 b0 b1 b2 b3]
      have u0 : IntKind.u32.wrap (x0 : Int) = x0 := by rw [IntKind.wrap_u32]; omega
      have u1 : IntKind.u32.wrap (x1 : Int) = x1 := by rw [IntKind.wrap_u32]; omega
      have u2 : IntKind.u32.wrap (x2 : Int) = x2 := by rw [IntKind.wrap_u32]; omega
      have u3 : IntKind.u32.wrap (x3 : Int) = x3 := by rw [IntKind.wrap_u32]; omega
      clear hbl hbb hrB hrR hrW HW rB rR rW
      go_wp2
      refine wp_region_noPanic ?_
      refine wp_region_held_drew (S := fun W' => W'.cell? ⟨w.heap.size, m0, none⟩ = some (.int .u8 x0) ∧ W'.cell? ⟨w.heap.size, m1, none⟩ = some (.int .u8 x1) ∧ W'.cell? ⟨w.heap.size, m2, none⟩ = some (.int .u8 x2) ∧ W'.cell? ⟨w.heap.size, m3, none⟩ = some (.int .u8 x3)) (by kernel_rfl) ⟨by simpa using c0, by simpa using c1, by simpa using c2, by simpa using c3⟩ (fun hHeld => ?_)
      refine wpAnyH_takesAt 0 31 1 (of_decide_eq_true (by kernel_rfl)) rfl (fun _ _ _ _ _ h => h) (by kernel_rfl) (by kernel_rfl) hHeld ?_
      simp only [List.drop_zero, List.take_succ_cons, List.take_zero]
      iterate 31 (refine wpHeld_step (v := ?_) (by rfl) (fun wz hSw => ?_) ?_; rotate_left; (focus ((try dsimp only at hSw); go_simp; try with_reducible rfl)); (simp only [Act.put, List.setIfInBounds_toArray, List.set_cons_zero, List.set_cons_succ]))
      refine wpHeld_nil ?_
      refine wpAnyH_only (i := 31) (by kernel_rfl) rfl (fun K hK => ?_)
      rw [if_pos (by rfl)]
      go_simp
      rw [← HV.out]
      refine hK.out _ _ ⟨(World.cell?_setCell_far _ _ _ _ (by simp; omega)).trans c0, (World.cell?_setCell_far _ _ _ _ (by simp; omega)).trans c1, (World.cell?_setCell_far _ _ _ _ (by simp; omega)).trans c2, (World.cell?_setCell_far _ _ _ _ (by simp; omega)).trans c3⟩ ?_
      clear hK K
      refine wpAnyH_done (by kernel_rfl) ?_ _
      refine NoPanic.normal ?_
      have r1 : Hid (Row (wr.setCell ⟨w.heap.size + 1 + 1, k, none⟩ (.int .u32 (word4 bs k : Nat))) (w.heap.size + 1 + 1) 119 (fill 64 (.int .u32 0) (u32s (firstW bs (k + 1))))) := by
        have h := HrW.out.set k (.int .u32 (word4 bs k : Nat))
        rw [fill_set _ _ _ _ (by simp) (by omega), u32s_snoc, ← firstW_succ] at h
        exact h
      have r2 : Hid (Row (wr.setCell ⟨w.heap.size + 1 + 1, k, none⟩ (.int .u32 (word4 bs k : Nat))) w.heap.size 105 (u8s bs)) := HrB.out.other (by simp; omega) _
      have r3 : Hid (Row (wr.setCell ⟨w.heap.size + 1 + 1, k, none⟩ (.int .u32 (word4 bs k : Nat))) (w.heap.size + 1) 119 (List.replicate 64 (Value.int .u32 0))) := HrR.out.other (by simp) _
      have hb2 : Hid (Below w.heap.size w (wr.setCell ⟨w.heap.size + 1 + 1, k, none⟩ (.int .u32 (word4 bs k : Nat)))) := hBw.setCell (p := ⟨w.heap.size + 1 + 1, k, none⟩) (by show _ ≤ w.heap.size + 1 + 1; omega) _
      go_wp2
      go_roundw
      case rel => exact ⟨k + 1, by omega, by go_num, r2.out.drew, r3.out.drew, r1.out.drew, hb2.out.drew⟩
      case measure => simp [intOf]; omega
    · obtain rfl : k = 16 := by omega
      clear rB rR rW hB3
      go_wp2
      rw [show ((16 : Nat) : Int) = 16 from rfl]
      go_loopw [5] (fun i wq => ∃ k : Nat, 16 ≤ k ∧ k ≤ 64 ∧ i = .int .i64 k ∧ Row wq (w.heap.size + 1) 119 (List.replicate 64 (Value.int .u32 0)) ∧ Row wq (w.heap.size + 1 + 1) 119 (fill 64 (.int .u32 0) (u32s (growW bs (k - 16)))) ∧ Below w.heap.size w wq)
        (fun i _ => 64 - (intOf i).toNat)
      case atStart => exact ⟨16, by omega, by omega, rfl, hrR, hrW, hBw⟩
      case round =>
        clear hk hk16 hrB hrR hrW hBw
        obtain ⟨k, hk16, hk, rfl, hrR, hrW, hBw⟩ := hrel
        by_cases hk64 : k < 64
        · have hlen : (growW bs (k - 16)).length = k := by rw [growW_length]; omega
          have hlt := growW_lt bs HB.out (k - 16)
          have HN : Hid (nextW (growW bs (k - 16)) = extN ((growW bs (k - 16)).getD (k - 16) 0) ((growW bs (k - 16)).getD (k - 7) 0) ((growW bs (k - 16)).getD (k - 2) 0) ((growW bs (k - 16)).getD (k - 15) 0)) := by
            show _ = _
            unfold nextW; rw [hlen]
          have HG : Hid (growW bs (k + 1 - 16) = growW bs (k - 16) ++ [nextW (growW bs (k - 16))]) := by
            show _ = _
            rw [show k + 1 - 16 = (k - 16) + 1 by omega]; rfl
          have ca := hrW.cell ((fill_at 64 (.int .u32 0) (u32s (growW bs (k - 16))) (i := k - 16) (by simp)).trans (u32s_at (by omega)))
          have cb := hrW.cell ((fill_at 64 (.int .u32 0) (u32s (growW bs (k - 16))) (i := k - 7) (by simp; omega)).trans (u32s_at (by omega)))
          have cc := hrW.cell ((fill_at 64 (.int .u32 0) (u32s (growW bs (k - 16))) (i := k - 2) (by simp; omega)).trans (u32s_at (by omega)))
          have cd := hrW.cell ((fill_at 64 (.int .u32 0) (u32s (growW bs (k - 16))) (i := k - 15) (by simp; omega)).trans (u32s_at (by omega)))
          have hWc := hrW.cell (i := k) (v := .int .u32 0) (fill_rest _ _ _ (by simp; omega) (by omega))
          have hWf := hrW.frozen k
          have ba : (growW bs (k - 16)).getD (k - 16) 0 < 4294967296 := all_getD (by decide) hlt _
          have bb : (growW bs (k - 16)).getD (k - 7) 0 < 4294967296 := all_getD (by decide) hlt _
          have bc : (growW bs (k - 16)).getD (k - 2) 0 < 4294967296 := all_getD (by decide) hlt _
          have bd : (growW bs (k - 16)).getD (k - 15) 0 < 4294967296 := all_getD (by decide) hlt _
          generalize (growW bs (k - 16)).getD (k - 16) 0 = xa at *
          generalize (growW bs (k - 16)).getD (k - 7) 0 = xb at *
          generalize (growW bs (k - 16)).getD (k - 2) 0 = xc at *
          generalize (growW bs (k - 16)).getD (k - 15) 0 = xd at *
          have hki : (k : Int) < 64 := by omega
          have ea : IntKind.i64.wrap ((k : Int) - 16) = ((k - 16 : Nat) : Int) := by rw [IntKind.wrap_i64]; omega
          have eb : IntKind.i64.wrap ((k : Int) - 7) = ((k - 7 : Nat) : Int) := by rw [IntKind.wrap_i64]; omega
          have ec : IntKind.i64.wrap ((k : Int) - 2) = ((k - 2 : Nat) : Int) := by rw [IntKind.wrap_i64]; omega
          have ed : IntKind.i64.wrap ((k : Int) - 15) = ((k - 15 : Nat) : Int) := by rw [IntKind.wrap_i64]; omega
          have la : ((k - 16 : Nat) : Int) < 64 := by omega
          have lb : ((k - 7 : Nat) : Int) < 64 := by omega
          have lc : ((k - 2 : Nat) : Int) < 64 := by omega
          have ld : ((k - 15 : Nat) : Int) < 64 := by omega
          have na : Hid (k ≠ k - 16) := by show _ ≠ _; omega
          have nb : Hid (k ≠ k - 7) := by show _ ≠ _; omega
          have nc : Hid (k ≠ k - 2) := by show _ ≠ _; omega
          have nd : Hid (k ≠ k - 15) := by show _ ≠ _; omega
          have HrR : Hid (Row wr (w.heap.size + 1) 119 (List.replicate 64 (Value.int .u32 0))) := hrR
          have HrW : Hid (Row wr (w.heap.size + 1 + 1) 119 (fill 64 (.int .u32 0) (u32s (growW bs (k - 16))))) := hrW
          have HL2 : Hid ((growW bs (k - 16)).length = k) := hlen
          generalize growW bs (k - 16) = G at *
          generalize k - 16 = ia at *
          generalize k - 7 = ib at *
          generalize k - 2 = ic at *
          generalize k - 15 = id at *
          have H17 : Hid (∀ w, Calls Tryd.prog 68 #[.int .u32 xc, .int .i64 17] w fun e w' => e = .returned (.int .u32 (ror xc 17 : Nat)) ∧ w' = w) := fun w => ror_any xc 17 w bc (by omega) (by omega)
          have H19 : Hid (∀ w, Calls Tryd.prog 68 #[.int .u32 xc, .int .i64 19] w fun e w' => e = .returned (.int .u32 (ror xc 19 : Nat)) ∧ w' = w) := fun w => ror_any xc 19 w bc (by omega) (by omega)
          have H7 : Hid (∀ w, Calls Tryd.prog 68 #[.int .u32 xd, .int .i64 7] w fun e w' => e = .returned (.int .u32 (ror xd 7 : Nat)) ∧ w' = w) := fun w => ror_any xd 7 w bd (by omega) (by omega)
          have H18 : Hid (∀ w, Calls Tryd.prog 68 #[.int .u32 xd, .int .i64 18] w fun e w' => e = .returned (.int .u32 (ror xd 18 : Nat)) ∧ w' = w) := fun w => ror_any xd 18 w bd (by omega) (by omega)
          clear hrR hrW hlen hlt
          go_wp2
          go_quiet (fail)
          go_wp2
          refine wp_region_noPanic ?_
          refine wp_region_held_drew (S := fun W' => W'.cell? ⟨w.heap.size + 1 + 1, ia, none⟩ = some (.int .u32 xa) ∧ W'.cell? ⟨w.heap.size + 1 + 1, ib, none⟩ = some (.int .u32 xb)) (by kernel_rfl) ⟨by simpa using ca, by simpa using cb⟩ (fun hHeld => ?_)
          refine wpAnyH_takesAt 0 11 19 (of_decide_eq_true (by kernel_rfl)) rfl (fun _ _ _ _ _ h => h) (by kernel_rfl) (by kernel_rfl) hHeld ?_
          simp only [List.drop_zero, List.take_succ_cons, List.take_zero]
          iterate 11 (refine wpHeld_step (v := ?_) (by rfl) (fun wz hSw => ?_) ?_; rotate_left; (focus ((try dsimp only at hSw); go_simp; try with_reducible rfl)); (simp only [Act.put, List.setIfInBounds_toArray, List.set_cons_zero, List.set_cons_succ]))
          refine wpHeld_nil ?_
          refine wpAnyH_takesAt 12 1 18 (of_decide_eq_true (by kernel_rfl)) rfl (fun _ _ _ _ _ h => h) (by kernel_rfl) (by kernel_rfl) hHeld ?_
          simp only [List.drop_succ_cons, List.drop_zero, List.take_succ_cons, List.take_zero]
          iterate 1 (refine wpHeld_step (v := ?_) (by rfl) (fun wz hSw => ?_) ?_; rotate_left; (focus ((try dsimp only at hSw); go_simp; try with_reducible rfl)); (simp only [Act.put, List.setIfInBounds_toArray, List.set_cons_zero, List.set_cons_succ]))
          refine wpHeld_nil ?_
          refine wpAnyH_takesAt 15 2 16 (of_decide_eq_true (by kernel_rfl)) rfl (fun _ _ _ _ _ h => h) (by kernel_rfl) (by kernel_rfl) hHeld ?_
          simp only [List.drop_succ_cons, List.drop_zero, List.take_succ_cons, List.take_zero]
          iterate 2 (refine wpHeld_step (v := ?_) (by rfl) (fun wz hSw => ?_) ?_; rotate_left; (focus ((try dsimp only at hSw); go_simp; try with_reducible rfl)); (simp only [Act.put, List.setIfInBounds_toArray, List.set_cons_zero, List.set_cons_succ]))
          refine wpHeld_nil ?_
          refine wpAnyH_takesAt 19 1 15 (of_decide_eq_true (by kernel_rfl)) rfl (fun _ _ _ _ _ h => h) (by kernel_rfl) (by kernel_rfl) hHeld ?_
          simp only [List.drop_succ_cons, List.drop_zero, List.take_succ_cons, List.take_zero]
          iterate 1 (refine wpHeld_step (v := ?_) (by rfl) (fun wz hSw => ?_) ?_; rotate_left; (focus ((try dsimp only at hSw); go_simp; try with_reducible rfl)); (simp only [Act.put, List.setIfInBounds_toArray, List.set_cons_zero, List.set_cons_succ]))
          refine wpHeld_nil ?_
          refine wpAnyH_takesAt 21 1 14 (of_decide_eq_true (by kernel_rfl)) rfl (fun _ _ _ _ _ h => h) (by kernel_rfl) (by kernel_rfl) hHeld ?_
          simp only [List.drop_succ_cons, List.drop_zero, List.take_succ_cons, List.take_zero]
          iterate 1 (refine wpHeld_step (v := ?_) (by rfl) (fun wz hSw => ?_) ?_; rotate_left; (focus ((try dsimp only at hSw); go_simp; try with_reducible rfl)); (simp only [Act.put, List.setIfInBounds_toArray, List.set_cons_zero, List.set_cons_succ]))
          refine wpHeld_nil ?_
          refine wpAnyH_takesAt 24 2 12 (of_decide_eq_true (by kernel_rfl)) rfl (fun _ _ _ _ _ h => h) (by kernel_rfl) (by kernel_rfl) hHeld ?_
          simp only [List.drop_succ_cons, List.drop_zero, List.take_succ_cons, List.take_zero]
          iterate 2 (refine wpHeld_step (v := ?_) (by rfl) (fun wz hSw => ?_) ?_; rotate_left; (focus ((try dsimp only at hSw); go_simp; try with_reducible rfl)); (simp only [Act.put, List.setIfInBounds_toArray, List.set_cons_zero, List.set_cons_succ]))
          refine wpHeld_nil ?_
          refine wpAnyH_only (i := 11) (by kernel_rfl) rfl (fun K hK => ?_)
          rw [if_pos (by rfl)]
          go_simp
          refine (H17.out _).mono ?_
          rintro e w' ⟨rfl, rfl⟩
          refine hK.out _ _ hHeld ?_
          clear hK K
          refine wpAnyH_only (i := 13) (by kernel_rfl) rfl (fun K hK => ?_)
          rw [if_pos (by rfl)]
          go_simp
          refine (H19.out _).mono ?_
          rintro e w' ⟨rfl, rfl⟩
          refine hK.out _ _ hHeld ?_
          clear hK K
          refine wpAnyH_takesAt 14 1 9 (of_decide_eq_true (by kernel_rfl)) rfl (fun _ _ _ _ _ h => h) (by kernel_rfl) (by kernel_rfl) hHeld ?_
          simp only [List.drop_succ_cons, List.drop_zero, List.take_succ_cons, List.take_zero]
          iterate 1 (refine wpHeld_step (v := ?_) (by rfl) (fun wz hSw => ?_) ?_; rotate_left; (focus ((try dsimp only at hSw); go_simp; try with_reducible rfl)); (simp only [Act.put, List.setIfInBounds_toArray, List.set_cons_zero, List.set_cons_succ]))
          refine wpHeld_nil ?_
          refine wpAnyH_takesAt 17 2 7 (of_decide_eq_true (by kernel_rfl)) rfl (fun _ _ _ _ _ h => h) (by kernel_rfl) (by kernel_rfl) hHeld ?_
          simp only [List.drop_succ_cons, List.drop_zero, List.take_succ_cons, List.take_zero]
          iterate 2 (refine wpHeld_step (v := ?_) (by rfl) (fun wz hSw => ?_) ?_; rotate_left; (focus ((try dsimp only at hSw); go_simp; try with_reducible rfl)); (simp only [Act.put, List.setIfInBounds_toArray, List.set_cons_zero, List.set_cons_succ]))
          refine wpHeld_nil ?_
          refine wpAnyH_only (i := 20) (by kernel_rfl) rfl (fun K hK => ?_)
          rw [if_pos (by rfl)]
          go_simp
          refine (H7.out _).mono ?_
          rintro e w' ⟨rfl, rfl⟩
          refine hK.out _ _ hHeld ?_
          clear hK K
          refine wpAnyH_only (i := 22) (by kernel_rfl) rfl (fun K hK => ?_)
          rw [if_pos (by rfl)]
          go_simp
          refine (H18.out _).mono ?_
          rintro e w' ⟨rfl, rfl⟩
          refine hK.out _ _ hHeld ?_
          clear hK K
          refine wpAnyH_takesAt 23 1 4 (of_decide_eq_true (by kernel_rfl)) rfl (fun _ _ _ _ _ h => h) (by kernel_rfl) (by kernel_rfl) hHeld ?_
          simp only [List.drop_succ_cons, List.drop_zero, List.take_succ_cons, List.take_zero]
          iterate 1 (refine wpHeld_step (v := ?_) (by rfl) (fun wz hSw => ?_) ?_; rotate_left; (focus ((try dsimp only at hSw); go_simp; try with_reducible rfl)); (simp only [Act.put, List.setIfInBounds_toArray, List.set_cons_zero, List.set_cons_succ]))
          refine wpHeld_nil ?_
          refine wpAnyH_takesAt 26 3 1 (of_decide_eq_true (by kernel_rfl)) rfl (fun _ _ _ _ _ h => h) (by kernel_rfl) (by kernel_rfl) hHeld ?_
          simp only [List.drop_succ_cons, List.drop_zero, List.take_succ_cons, List.take_zero]
          iterate 3 (refine wpHeld_step (v := ?_) (by rfl) (fun wz hSw => ?_) ?_; rotate_left; (focus ((try dsimp only at hSw); go_simp; try with_reducible rfl)); (simp only [Act.put, List.setIfInBounds_toArray, List.set_cons_zero, List.set_cons_succ]))
          refine wpHeld_nil ?_
          refine wpAnyH_only (i := 29) (by kernel_rfl) rfl (fun K hK => ?_)
          rw [if_pos (by rfl)]
          go_simp
          have HV : Hid (Value.int .u32 (nextW G : Nat) = .int .u32 (IntKind.u32.wrap (IntKind.u32.wrap (IntKind.u32.wrap ((xa : Int) + xb) + bits .xor .u32 (bits .xor .u32 ((ror xc 17 : Nat) : Int) ((ror xc 19 : Nat) : Int)) ((xc : Int) / 1024)) + bits .xor .u32 (bits .xor .u32 ((ror xd 7 : Nat) : Int) ((ror xd 18 : Nat) : Int)) ((xd : Int) / 8)))) := by
            show _ = _
            rw [ext_eq bc bd, HN.out]
          rw [← HV.out]
          refine hK.out _ _ ⟨(World.cell?_setCell_other _ _ _ _ (by simpa using na.out)).trans ca, (World.cell?_setCell_other _ _ _ _ (by simpa using nb.out)).trans cb⟩ ?_
          clear hK K
          refine wpAnyH_done (by kernel_rfl) ?_ _
          refine NoPanic.normal ?_
          have r1 : Hid (Row ((wr.drewN (nq + 1)).setCell ⟨w.heap.size + 1 + 1, k, none⟩ (.int .u32 (nextW G : Nat))) (w.heap.size + 1 + 1) 119 (fill 64 (.int .u32 0) (u32s (growW bs (k + 1 - 16))))) := by
            have h := (HrW.out.drewN (nq + 1)).set k (.int .u32 (nextW G : Nat))
            rw [fill_set _ _ _ _ (by rw [u32s_length]; exact HL2.out) (by omega), u32s_snoc, ← HG.out] at h
            exact h
          have r3 : Hid (Row ((wr.drewN (nq + 1)).setCell ⟨w.heap.size + 1 + 1, k, none⟩ (.int .u32 (nextW G : Nat))) (w.heap.size + 1) 119 (List.replicate 64 (Value.int .u32 0))) := (HrR.out.drewN (nq + 1)).other (by simp) _
          have hb2 : Hid (Below w.heap.size w ((wr.drewN (nq + 1)).setCell ⟨w.heap.size + 1 + 1, k, none⟩ (.int .u32 (nextW G : Nat)))) := Below.setCell (below_drewN hBw (nq + 1)) (p := ⟨w.heap.size + 1 + 1, k, none⟩) (by show _ ≤ w.heap.size + 1 + 1; omega) _
          go_wp2
          go_roundw
          case rel => exact ⟨k + 1, by omega, by omega, by go_num, r3.out, r1.out, hb2.out⟩
          case measure => simp [intOf]; omega
        · obtain rfl : k = 64 := by omega
          have HrR : Hid (Row wr (w.heap.size + 1) 119 (List.replicate 64 (Value.int .u32 0))) := hrR
          have HrW : Hid (Row wr (w.heap.size + 1 + 1) 119 (u32s (sched bs))) := by
            rw [fill_full _ _ _ (by simp)] at hrW; exact hrW
          clear hrR hrW
          go_wp2_with (first
            | ((with_reducible show wpList _ _ _ (Oper.mk _ (Op.load 119 (.tmp 3)) _ _ _ _ :: _) _ _); refine wpList_load_Row rfl 119 (.tmp 3) rfl rfl HrW.out Tryd.underlying119 (by rw [u32s_length, sched_length]; exact size119) ?_; simp only [Act.put, List.setIfInBounds_toArray, List.set_cons_zero, List.set_cons_succ])
            | ((with_reducible show wpList _ _ _ (Oper.mk _ (Op.store 119 (.tmp 2) (.tmp 84)) _ _ _ _ :: _) _ _); refine wpList_store_Row rfl 119 (.tmp 2) (.tmp 84) rfl (u32s (sched bs)) rfl rfl HrR.out (by rw [u32s_length, sched_length]; exact size119) (by rw [u32s_length, sched_length]; rfl) (u32s_one _) ?_; simp only [Act.put]))
          refine bodyPost_ret (results_Row rfl rfl (HrR.out.sets_all (vs := u32s (sched bs)) (by rw [u32s_length, sched_length]; rfl)) Tryd.underlying119 (by rw [u32s_length, sched_length]; exact size119)) rfl ?_
          exact ⟨rfl, below_setCells (by omega) _ _ hBw⟩
end Go.Proofs.YtbaokodhoiledaaDoor.Sh
/-
  What sha.Compress answers: a block taken into eight words.
-/
namespace Go.Proofs.YtbaokodhoiledaaDoor.Sh
open Go.RowKit
attribute [local go_sem] Oper.semAt_some

theorem size105 : (Tryd.prog.info? 105).map (·.size) = some 64 := by kernel_rfl

theorem run_index102 (cs : List Value) (k : Nat) (v : Value) (hk : k < 8) (hv : cs[k]? = some v) (w : World) : (Instr.index 102 (.agg cs.toArray) (.int .i64 (k : Int))).run Tryd.prog w = .ok v w := by
  simp [Instr.index, run_underlying Tryd.underlying102, asIntOf, go_sem, hv]
  omega

/-- The first k of xs with those of ys added. -/
def mixN (xs ys : List Nat) (k : Nat) : List Nat := (List.range 8).map fun i => if i < k then (xs.getD i 0 + ys.getD i 0) % 4294967296 else xs.getD i 0
@[simp] theorem mixN_length (xs ys : List Nat) (k : Nat) : (mixN xs ys k).length = 8 := by simp [mixN]
theorem mixN_at (xs ys : List Nat) (k i : Nat) (hi : i < 8) : (mixN xs ys k).getD i 0 = if i < k then (xs.getD i 0 + ys.getD i 0) % 4294967296 else xs.getD i 0 := by
  simp only [mixN, List.getD_eq_getElem?_getD, List.getElem?_map, List.getElem?_range hi, Option.map_some, Option.getD_some]
theorem mixN_zero (s : St) (ys : List Nat) : mixN s.list ys 0 = s.list := rfl
theorem mixN_set (xs ys : List Nat) (k : Nat) (hk : k < 8) : (u32s (mixN xs ys k)).set k (.int .u32 ((xs.getD k 0 + ys.getD k 0) % 4294967296 : Nat)) = u32s (mixN xs ys (k + 1)) := by
  apply List.ext_getElem?
  intro i
  rw [List.getElem?_set]
  by_cases h : k = i
  · subst h
    simp [u32s, mixN, hk]
  · simp only [h, if_false, u32s, mixN, List.getElem?_map]
    by_cases hi : i < 8
    · rw [List.getElem?_range hi]
      simp only [Option.map_some]
      by_cases h2 : i < k
      · simp [h2, show i < k + 1 by omega]
      · simp [h2, show ¬ i < k + 1 by omega]
    · simp [List.getElem?_eq_none (show (List.range 8).length ≤ i by simp; omega)]

/-- A block taken in. -/
def addN (s r : St) : St := ⟨(s.a + r.a) % 4294967296, (s.b + r.b) % 4294967296, (s.c + r.c) % 4294967296, (s.d + r.d) % 4294967296, (s.e + r.e) % 4294967296, (s.f + r.f) % 4294967296, (s.g + r.g) % 4294967296, (s.h + r.h) % 4294967296⟩
def compressN (s : St) (bs : List Nat) : St := addN s (roundsN (sched bs) 64 s)
theorem mixN_all (s r : St) : mixN s.list r.list 8 = (addN s r).list := rfl
theorem addN_ok (s r : St) : (addN s r).ok := ⟨Nat.mod_lt _ (by decide), Nat.mod_lt _ (by decide), Nat.mod_lt _ (by decide), Nat.mod_lt _ (by decide), Nat.mod_lt _ (by decide), Nat.mod_lt _ (by decide), Nat.mod_lt _ (by decide), Nat.mod_lt _ (by decide)⟩
theorem compressN_ok (s : St) (bs : List Nat) : (compressN s bs).ok := addN_ok _ _
theorem St.list_length (s : St) : s.list.length = 8 := rfl
theorem St.list_lt {s : St} (h : s.ok) : ∀ z ∈ s.list, z < 4294967296 := by
  intro z hz
  simp only [St.list, List.mem_cons, List.not_mem_nil, or_false] at hz
  obtain ⟨h1, h2, h3, h4, h5, h6, h7, h8⟩ := h
  rcases hz with rfl | rfl | rfl | rfl | rfl | rfl | rfl | rfl <;> assumption

set_option maxRecDepth 100000 in
set_option maxHeartbeats 2000000 in
theorem compress_core (s r : St) (hs : s.ok) (hok : r.ok) (bs : List Nat) (hl : bs.length = 64) (SW : List Value) (HSL : Hid (SW.length = 64)) (HS1 : Hid (∀ v ∈ SW, v.oneCell' = true))
    (HTU : Hid (∀ (B : Nat) (w : World), Tab w → Row w B 119 SW → Calls Tryd.prog 66 #[.agg (u32s s.list).toArray, .pointer (some ⟨B, 0, none⟩)] w fun e w' => e = .returned (.agg (u32s r.list).toArray) ∧ Below w.heap.size w w'))
    (HSC : Hid (∀ w, Calls Tryd.prog 65 #[.agg (u8s bs).toArray] w fun e w' => e = .returned (.agg SW.toArray) ∧ Below w.heap.size w w')) (w : World) (hT : Tab w) :
    Calls Tryd.prog 59 #[.agg (u32s s.list).toArray, .agg (u8s bs).toArray] w fun e w' => e = .returned (.agg (u32s (addN s r).list).toArray) ∧ Below w.heap.size w w' := by
  have HT : Hid (Tab w) := hT
  have HBL : Hid ((u8s bs).length = 64) := by show _ = _; rw [u8s_length, hl]
  have HOK : Hid r.ok := hok
  have HSOK : Hid s.ok := hs
  clear hok hs hl hT
  have rH : Row (((w.alloc (.cells (u32s s.list).toArray 102)).alloc (.cells (u8s bs).toArray 105)).alloc (.cells #[.int .u32 0, .int .u32 0, .int .u32 0, .int .u32 0, .int .u32 0, .int .u32 0, .int .u32 0, .int .u32 0] 102)) w.heap.size 102 (u32s s.list) := ((Row.new' w 102 _).alloc _).alloc _
  have rB : Row (((w.alloc (.cells (u32s s.list).toArray 102)).alloc (.cells (u8s bs).toArray 105)).alloc (.cells #[.int .u32 0, .int .u32 0, .int .u32 0, .int .u32 0, .int .u32 0, .int .u32 0, .int .u32 0, .int .u32 0] 102)) (w.heap.size + 1) 105 (u8s bs) := by
    have := Row.new' (w.alloc (.cells (u32s s.list).toArray 102)) 105 (u8s bs)
    rw [World.size_alloc] at this
    exact this.alloc _
  have rR : Row (((w.alloc (.cells (u32s s.list).toArray 102)).alloc (.cells (u8s bs).toArray 105)).alloc (.cells #[.int .u32 0, .int .u32 0, .int .u32 0, .int .u32 0, .int .u32 0, .int .u32 0, .int .u32 0, .int .u32 0] 102)) (w.heap.size + 1 + 1) 102 (List.replicate 8 (.int .u32 0)) := by
    have := Row.new' ((w.alloc (.cells (u32s s.list).toArray 102)).alloc (.cells (u8s bs).toArray 105)) 102 (List.replicate 8 (.int .u32 0))
    rw [World.size_alloc, World.size_alloc] at this
    exact this
  have hb0 : Below w.heap.size w (((w.alloc (.cells (u32s s.list).toArray 102)).alloc (.cells (u8s bs).toArray 105)).alloc (.cells #[.int .u32 0, .int .u32 0, .int .u32 0, .int .u32 0, .int .u32 0, .int .u32 0, .int .u32 0, .int .u32 0] 102)) := (((Below.refl _ w).alloc (Nat.le_refl _) _).alloc (by simp) _).alloc (by simp; omega) _
  have H0 : Hid (Row (((w.alloc (.cells (u32s s.list).toArray 102)).alloc (.cells (u8s bs).toArray 105)).alloc (.cells #[.int .u32 0, .int .u32 0, .int .u32 0, .int .u32 0, .int .u32 0, .int .u32 0, .int .u32 0, .int .u32 0] 102)) w.heap.size 102 (u32s s.list)
    ∧ Row (((w.alloc (.cells (u32s s.list).toArray 102)).alloc (.cells (u8s bs).toArray 105)).alloc (.cells #[.int .u32 0, .int .u32 0, .int .u32 0, .int .u32 0, .int .u32 0, .int .u32 0, .int .u32 0, .int .u32 0] 102)) (w.heap.size + 1) 105 (u8s bs)
    ∧ Row (((w.alloc (.cells (u32s s.list).toArray 102)).alloc (.cells (u8s bs).toArray 105)).alloc (.cells #[.int .u32 0, .int .u32 0, .int .u32 0, .int .u32 0, .int .u32 0, .int .u32 0, .int .u32 0, .int .u32 0] 102)) (w.heap.size + 1 + 1) 102 (List.replicate 8 (.int .u32 0))
    ∧ Below w.heap.size w (((w.alloc (.cells (u32s s.list).toArray 102)).alloc (.cells (u8s bs).toArray 105)).alloc (.cells #[.int .u32 0, .int .u32 0, .int .u32 0, .int .u32 0, .int .u32 0, .int .u32 0, .int .u32 0, .int .u32 0] 102))) := ⟨rH, rB, rR, hb0⟩
  clear rH rB rR hb0
  go_enter Tryd.func59, Tryd.ntmps59
  go_wp2_with (first
    | ((with_reducible show wpList _ _ _ (Oper.mk _ (Op.load 105 (.tmp 3)) _ _ _ _ :: _) _ _); refine wpList_load_Row rfl 105 (.tmp 3) rfl rfl H0.out.2.1 Tryd.underlying105 (by rw [HBL.out]; exact size105) ?_; simp only [Act.put, List.setIfInBounds_toArray, List.set_cons_zero, List.set_cons_succ])
    | (go_at_call 65; refine (HSC.out _).mono ?_; rintro e w1 ⟨rfl, hb1⟩)
    | ((with_reducible show wpList _ _ _ (Oper.mk _ (Op.store 119 (.tmp 5) (.tmp 9)) _ _ _ _ :: _) _ _); refine wpList_store_Row rfl 119 (.tmp 5) (.tmp 9) rfl SW rfl rfl (Row.new _ _ _) (by rw [HSL.out]; exact size119) (by rw [HSL.out]; rfl) HS1.out ?_; simp only [Act.put])
    | ((with_reducible show wpList _ _ _ (Oper.mk _ (Op.load 102 (.tmp 2)) _ _ _ _ :: _) _ _); refine wpList_load_Row rfl 102 (.tmp 2) rfl rfl (Row.others (by have := hb1.size; simp at this; omega) SW 0 ((H0.out.1.later hb1).alloc _)) Tryd.underlying102 (by rw [u32s_length, St.list_length]; exact size102) ?_; simp only [Act.put, List.setIfInBounds_toArray, List.set_cons_zero, List.set_cons_succ])
    | (go_at_call 66; refine (HTU.out _ _ ((HT.out.later H0.out.2.2.2).later hb1 |>.later (below_setCells (Nat.le_refl _) _ _ ((Below.refl _ w1).alloc (Nat.le_refl _) _))) (Row.sets_all (Row.new _ _ _) (by rw [HSL.out]; rfl))).mono ?_; rintro e w2 ⟨rfl, hb2⟩))
  have hs1 := hb1.size
  simp only [World.size_alloc] at hs1
  have hbA : Below w.heap.size w w1 := H0.out.2.2.2.trans (hb1.mono H0.out.2.2.2.size)
  have hbB : Below w.heap.size w w2 := (below_setCells (by omega) SW 0 (hbA.alloc (by omega) _)).trans (hb2.mono (by rw [size_setCells, World.size_alloc]; omega))
  have rH2 : Row w2 w.heap.size 102 (u32s s.list) := (Row.others (by omega) SW 0 ((H0.out.1.later hb1).alloc _)).later hb2
  have rR2 : Row w2 (w.heap.size + 1 + 1) 102 (List.replicate 8 (.int .u32 0)) := (Row.others (by omega) SW 0 ((H0.out.2.2.1.later hb1).alloc _)).later hb2
  clear hbA hb1 hb2 H0 hs1
  go_loopw [12] (fun i wr => ∃ k : Nat, k ≤ 8 ∧ i = .int .i64 k ∧ Row wr w.heap.size 102 (u32s (mixN s.list r.list k)) ∧ Row wr (w.heap.size + 1 + 1) 102 (List.replicate 8 (.int .u32 0)) ∧ Below w.heap.size w wr)
    (fun i _ => 8 - (intOf i).toNat)
  case atStart => exact ⟨0, by omega, rfl, rH2, rR2, hbB⟩
  case round =>
    clear rH2 rR2 hbB
    obtain ⟨k, hk, rfl, hrH, hrR, hBw⟩ := hrel
    by_cases hk8 : k < 8
    · have hki : (k : Int) < 8 := by omega
      have cH := hrH.cell (u32s_at (l := mixN s.list r.list k) (i := k) (by simp; omega))
      rw [mixN_at _ _ _ _ hk8, if_neg (by omega)] at cH
      have cf := hrH.frozen k
      have cR := u32s_at (l := r.list) (i := k) (by rw [St.list_length]; omega)
      have bx : s.list.getD k 0 < 4294967296 := all_getD (by decide) (St.list_lt HSOK.out) _
      have by' : r.list.getD k 0 < 4294967296 := all_getD (by decide) (St.list_lt HOK.out) _
      have HM : Hid ((u32s (mixN s.list r.list k)).set k (.int .u32 ((s.list.getD k 0 + r.list.getD k 0) % 4294967296 : Nat)) = u32s (mixN s.list r.list (k + 1))) := mixN_set s.list r.list k hk8
      have HrH : Hid (Row wr w.heap.size 102 (u32s (mixN s.list r.list k))) := hrH
      have HrR : Hid (Row wr (w.heap.size + 1 + 1) 102 (List.replicate 8 (.int .u32 0))) := hrR
      have cI : ∀ w : World, (Instr.index 102 (.agg (u32s r.list).toArray) (.int .i64 (k : Int))).run Tryd.prog w = .ok (.int .u32 (r.list.getD k 0 : Nat)) w := fun w => run_index102 _ k _ hk8 cR w
      generalize s.list.getD k 0 = x at *
      generalize r.list.getD k 0 = y at *
      clear hrH hrR cR
      go_wp2
      go_roundw
      case rel =>
        have e1 : (((x : Int) + y) % 4294967296) = (((x + y) % 4294967296 : Nat) : Int) := by omega
        refine ⟨k + 1, by omega, by go_num, ?_, HrR.out.other (by simp; omega) _, hBw.setCell (p := ⟨w.heap.size, k, none⟩) (Nat.le_refl _) _⟩
        have h := HrH.out.set k (.int .u32 ((x + y) % 4294967296 : Nat))
        rw [HM.out] at h
        rw [e1]
        exact h
      case measure => simp [intOf]; omega
    · obtain rfl : k = 8 := by omega
      rw [mixN_all] at hrH
      have HrH : Hid (Row wr w.heap.size 102 (u32s (addN s r).list)) := hrH
      have HrR : Hid (Row wr (w.heap.size + 1 + 1) 102 (List.replicate 8 (.int .u32 0))) := hrR
      have HAL : Hid ((u32s (addN s r).list).length = 8) := rfl
      have HA1 : Hid (∀ v ∈ u32s (addN s r).list, v.oneCell' = true) := u32s_one _
      clear hrH hrR
      go_wp2_with (first
        | ((with_reducible show wpList _ _ _ (Oper.mk _ (Op.load 102 (.tmp 2)) _ _ _ _ :: _) _ _); refine wpList_load_Row rfl 102 (.tmp 2) rfl rfl HrH.out Tryd.underlying102 size102 ?_; simp only [Act.put, List.setIfInBounds_toArray, List.set_cons_zero, List.set_cons_succ])
        | ((with_reducible show wpList _ _ _ (Oper.mk _ (Op.store 102 (.tmp 4) (.tmp 23)) _ _ _ _ :: _) _ _); refine wpList_store_Row rfl 102 (.tmp 4) (.tmp 23) rfl (u32s (addN s r).list) rfl rfl HrR.out size102 rfl HA1.out ?_; simp only [Act.put]))
      refine bodyPost_ret (results_Row rfl rfl (HrR.out.sets_all (vs := u32s (addN s r).list) rfl) Tryd.underlying102 size102) rfl ?_
      exact ⟨rfl, below_setCells (by omega) _ _ hBw⟩
theorem compress_any (s : St) (hs : s.ok) (bs : List Nat) (hl : bs.length = 64) (hb : ∀ z ∈ bs, z < 256) (w : World) (hT : Tab w) :
    Calls Tryd.prog 59 #[.agg (u32s s.list).toArray, .agg (u8s bs).toArray] w fun e w' => e = .returned (.agg (u32s (compressN s bs).list).toArray) ∧ Below w.heap.size w w' :=
  compress_core s (roundsN (sched bs) 64 s) hs (roundsN_ok hs 64) bs hl (u32s (sched bs)) ((u32s_length _).trans (sched_length bs)) (u32s_one _) (fun B w hT hr => turned_any s hs B (sched bs) (sched_length bs) (sched_lt bs hb) w hT hr) (fun w => schedule_any bs hl hb w) w hT
end Go.Proofs.YtbaokodhoiledaaDoor.Sh
/-
  What sha.digest and sha.firstWords answer: the bytes of eight words, the highest of each ahead; the words that a sum begins with.
-/
namespace Go.Proofs.YtbaokodhoiledaaDoor.Sh
open Go.RowKit
attribute [local go_sem] Oper.semAt_some
theorem size102' : (Tryd.prog.info? 102).map (·.size) = some 8 := by kernel_rfl

/-- Byte j of some words, the highest of each ahead. -/
def byteBE (l : List Nat) (j : Nat) : Nat := l.getD (j / 4) 0 / 2 ^ (24 - 8 * (j % 4)) % 256
def bytesBE (l : List Nat) (n : Nat) : List Nat := (List.range n).map (byteBE l)
@[simp] theorem bytesBE_length (l : List Nat) (n : Nat) : (bytesBE l n).length = n := by simp [bytesBE]
theorem bytesBE_succ (l : List Nat) (n : Nat) : bytesBE l n ++ [byteBE l n] = bytesBE l (n + 1) := by simp [bytesBE, List.range_succ]
def digestN (s : St) : List Nat := bytesBE s.list 32
theorem digestN_length (s : St) : (digestN s).length = 32 := bytesBE_length _ _

theorem byteBE_0 (l : List Nat) (k : Nat) : byteBE l (4 * k) = l.getD k 0 / 16777216 % 256 := by
  unfold byteBE; rw [show 4 * k / 4 = k by omega, show 4 * k % 4 = 0 by omega]
theorem byteBE_1 (l : List Nat) (k : Nat) : byteBE l (4 * k + 1) = l.getD k 0 / 65536 % 256 := by
  unfold byteBE; rw [show (4 * k + 1) / 4 = k by omega, show (4 * k + 1) % 4 = 1 by omega]
theorem byteBE_2 (l : List Nat) (k : Nat) : byteBE l (4 * k + 2) = l.getD k 0 / 256 % 256 := by
  unfold byteBE; rw [show (4 * k + 2) / 4 = k by omega, show (4 * k + 2) % 4 = 2 by omega]
theorem byteBE_3 (l : List Nat) (k : Nat) : byteBE l (4 * k + 3) = l.getD k 0 % 256 := by
  unfold byteBE; rw [show (4 * k + 3) / 4 = k by omega, show (4 * k + 3) % 4 = 3 by omega, show 24 - 8 * 3 = 0 from rfl, Nat.pow_zero, Nat.div_one]

theorem four_set (l : List Nat) (k : Nat) (hk : k < 8) :
    ((((fill 32 (.int .u8 0) (u8s (bytesBE l (4 * k)))).set (4 * k) (.int .u8 (l.getD k 0 / 16777216 % 256 : Nat))).set (4 * k + 1) (.int .u8 (l.getD k 0 / 65536 % 256 : Nat))).set (4 * k + 2) (.int .u8 (l.getD k 0 / 256 % 256 : Nat))).set (4 * k + 3) (.int .u8 (l.getD k 0 % 256 : Nat)) = fill 32 (.int .u8 0) (u8s (bytesBE l (4 * (k + 1)))) := by
  rw [fill_set _ _ _ _ (by simp) (by omega), ← byteBE_0, u8s_snoc, bytesBE_succ, fill_set _ _ _ _ (by simp) (by omega), ← byteBE_1, u8s_snoc, bytesBE_succ, fill_set _ _ _ _ (by simp) (by omega), ← byteBE_2, u8s_snoc, bytesBE_succ, fill_set _ _ _ _ (by simp) (by omega), ← byteBE_3, u8s_snoc, bytesBE_succ]
  rfl

theorem run_index102' (cs : List Value) (k : Nat) (v : Value) (hk : k < 8) (hv : cs[k]? = some v) (w : World) : (Instr.index 102 (.agg cs.toArray) (.int .i64 (k : Int))).run Tryd.prog w = .ok v w := by
  simp [Instr.index, run_underlying Tryd.underlying102, asIntOf, go_sem, hv]
  omega

set_option maxRecDepth 100000 in
set_option maxHeartbeats 2000000 in
theorem digest_core (L : List Nat) (hl : L.length = 8) (hx : ∀ z ∈ L, z < 4294967296) (w : World) :
    Calls Tryd.prog 60 #[.agg (u32s L).toArray] w fun e w' => e = .returned (.agg (u8s (bytesBE L 32)).toArray) ∧ Below w.heap.size w w' := by
  have HL : Hid (L.length = 8) := hl
  have HX : Hid (∀ z ∈ L, z < 4294967296) := hx
  have HLV : Hid ((u32s L).length = 8) := by show _ = _; rw [u32s_length, hl]
  clear hl hx
  have H0 : Hid (∀ (w : World) (o o' : Obj), Row (((w.alloc (.cells (u32s L).toArray 102)).alloc o).alloc o') w.heap.size 102 (u32s L)) := fun w o o' => ((Row.new' w 102 _).alloc _).alloc _
  go_enter Tryd.func60, Tryd.ntmps60
  go_wp2_with ((with_reducible show wpList _ _ _ (Oper.mk _ (Op.load 102 (.tmp 1)) _ _ _ _ :: _) _ _); refine wpList_load_Row rfl 102 (.tmp 1) rfl rfl (H0.out _ _ _) Tryd.underlying102 (by rw [HLV.out]; exact size102') ?_; simp only [Act.put, List.setIfInBounds_toArray, List.set_cons_zero, List.set_cons_succ])
  rw [z32u8]
  have rR : Row (((w.alloc (.cells (u32s L).toArray 102)).alloc (.cells (List.replicate 32 (.int .u8 0)).toArray 38)).alloc (.cells (List.replicate 32 (.int .u8 0)).toArray 38)) (w.heap.size + 1) 38 (List.replicate 32 (.int .u8 0)) := by
    have := Row.new' (w.alloc (.cells (u32s L).toArray 102)) 38 (List.replicate 32 (.int .u8 0))
    rw [World.size_alloc] at this
    exact this.alloc _
  have rO : Row (((w.alloc (.cells (u32s L).toArray 102)).alloc (.cells (List.replicate 32 (.int .u8 0)).toArray 38)).alloc (.cells (List.replicate 32 (.int .u8 0)).toArray 38)) (w.heap.size + 1 + 1) 38 (List.replicate 32 (.int .u8 0)) := by
    have := Row.new' ((w.alloc (.cells (u32s L).toArray 102)).alloc (.cells (List.replicate 32 (.int .u8 0)).toArray 38)) 38 (List.replicate 32 (.int .u8 0))
    rw [World.size_alloc, World.size_alloc] at this
    exact this
  have hb0 : Below w.heap.size w (((w.alloc (.cells (u32s L).toArray 102)).alloc (.cells (List.replicate 32 (.int .u8 0)).toArray 38)).alloc (.cells (List.replicate 32 (.int .u8 0)).toArray 38)) := (((Below.refl _ w).alloc (Nat.le_refl _) _).alloc (by simp) _).alloc (by simp; omega) _
  generalize (((w.alloc (.cells (u32s L).toArray 102)).alloc (.cells (List.replicate 32 (.int .u8 0)).toArray 38)).alloc (.cells (List.replicate 32 (.int .u8 0)).toArray 38)) = w3 at *
  go_loopw [7] (fun i wr => ∃ k : Nat, k ≤ 8 ∧ i = .int .i64 k ∧ Row wr (w.heap.size + 1) 38 (List.replicate 32 (.int .u8 0)) ∧ Row wr (w.heap.size + 1 + 1) 38 (fill 32 (.int .u8 0) (u8s (bytesBE L (4 * k)))) ∧ Below w.heap.size w wr)
    (fun i _ => 8 - (intOf i).toNat)
  case atStart => exact ⟨0, by omega, rfl, rR, rO, hb0⟩
  case round =>
    clear rR rO hb0
    obtain ⟨k, hk, rfl, hrR, hrO, hBw⟩ := hrel
    by_cases hk8 : k < 8
    · have hki : (k : Int) < 8 := by omega
      have cR := u32s_at (l := L) (i := k) (by have := HL.out; omega)
      have cI : ∀ w : World, (Instr.index 102 (.agg (u32s L).toArray) (.int .i64 (k : Int))).run Tryd.prog w = .ok (.int .u32 (L.getD k 0 : Nat)) w := fun w => run_index102' _ k _ hk8 cR w
      have bx : L.getD k 0 < 4294967296 := all_getD (by decide) HX.out _
      have HF : Hid (((((fill 32 (.int .u8 0) (u8s (bytesBE L (4 * k)))).set (4 * k) (.int .u8 (L.getD k 0 / 16777216 % 256 : Nat))).set (4 * k + 1) (.int .u8 (L.getD k 0 / 65536 % 256 : Nat))).set (4 * k + 2) (.int .u8 (L.getD k 0 / 256 % 256 : Nat))).set (4 * k + 3) (.int .u8 (L.getD k 0 % 256 : Nat)) = fill 32 (.int .u8 0) (u8s (bytesBE L (4 * (k + 1))))) := four_set L k hk8
      have cc : ∀ i, i < 32 → ∃ v, wr.cell? ⟨w.heap.size + 1 + 1, i, none⟩ = some v := fun i hi => ⟨_, hrO.cell (List.getElem?_eq_getElem (by rw [fill_length _ _ _ (by simp; omega)]; omega))⟩
      obtain ⟨v0, c0⟩ := cc (4 * k) (by omega)
      obtain ⟨v1, c1⟩ := cc (4 * k + 1) (by omega)
      obtain ⟨v2, c2⟩ := cc (4 * k + 2) (by omega)
      obtain ⟨v3, c3⟩ := cc (4 * k + 3) (by omega)
      have f0 := hrO.frozen (4 * k)
      have f1 := hrO.frozen (4 * k + 1)
      have f2 := hrO.frozen (4 * k + 2)
      have f3 := hrO.frozen (4 * k + 3)
      have e0 : IntKind.i64.wrap (4 * (k : Int)) = ((4 * k : Nat) : Int) := by rw [IntKind.wrap_i64]; omega
      have e1 : IntKind.i64.wrap (((4 * k : Nat) : Int) + 1) = ((4 * k + 1 : Nat) : Int) := by rw [IntKind.wrap_i64]; omega
      have e2 : IntKind.i64.wrap (((4 * k : Nat) : Int) + 2) = ((4 * k + 2 : Nat) : Int) := by rw [IntKind.wrap_i64]; omega
      have e3 : IntKind.i64.wrap (((4 * k : Nat) : Int) + 3) = ((4 * k + 3 : Nat) : Int) := by rw [IntKind.wrap_i64]; omega
      have l0 : ((4 * k : Nat) : Int) < 32 := by omega
      have l1 : ((4 * k + 1 : Nat) : Int) < 32 := by omega
      have l2 : ((4 * k + 2 : Nat) : Int) < 32 := by omega
      have l3 : ((4 * k + 3 : Nat) : Int) < 32 := by omega
      have HrR : Hid (Row wr (w.heap.size + 1) 38 (List.replicate 32 (.int .u8 0))) := hrR
      have HrO : Hid (Row wr (w.heap.size + 1 + 1) 38 (fill 32 (.int .u8 0) (u8s (bytesBE L (4 * k))))) := hrO
      have d1 : ∀ u, (wr.setCell ⟨w.heap.size + 1 + 1, 4 * k, none⟩ u).cell? ⟨w.heap.size + 1 + 1, 4 * k + 1, none⟩ = some v1 := fun u => (World.cell?_setCell_other _ _ _ _ (by simp)).trans c1
      have d2 : ∀ u u', ((wr.setCell ⟨w.heap.size + 1 + 1, 4 * k, none⟩ u).setCell ⟨w.heap.size + 1 + 1, 4 * k + 1, none⟩ u').cell? ⟨w.heap.size + 1 + 1, 4 * k + 2, none⟩ = some v2 := fun u u' => (World.cell?_setCell_other _ _ _ _ (by simp)).trans ((World.cell?_setCell_other _ _ _ _ (by simp)).trans c2)
      have d3 : ∀ u u' u'', (((wr.setCell ⟨w.heap.size + 1 + 1, 4 * k, none⟩ u).setCell ⟨w.heap.size + 1 + 1, 4 * k + 1, none⟩ u').setCell ⟨w.heap.size + 1 + 1, 4 * k + 2, none⟩ u'').cell? ⟨w.heap.size + 1 + 1, 4 * k + 3, none⟩ = some v3 := fun u u' u'' => (World.cell?_setCell_other _ _ _ _ (by simp)).trans ((World.cell?_setCell_other _ _ _ _ (by simp)).trans ((World.cell?_setCell_other _ _ _ _ (by simp)).trans c3))
      clear cc hrR hrO cR
      generalize L.getD k 0 = x at *
      generalize u8s (bytesBE L (4 * k)) = D at *
      generalize 4 * k + 1 = m1 at *
      generalize 4 * k + 2 = m2 at *
      generalize 4 * k + 3 = m3 at *
      generalize 4 * k = m0 at *
      clear c1 c2 c3
      go_wp2
      go_roundw
      case rel =>
        have g0 : ((x : Int) / 16777216) = ((x / 16777216 % 256 : Nat) : Int) := by omega
        have g1 : ((x : Int) / 65536 % 256) = ((x / 65536 % 256 : Nat) : Int) := by omega
        have g2 : ((x : Int) / 256 % 256) = ((x / 256 % 256 : Nat) : Int) := by omega
        have g3 : ((x : Int) % 256) = ((x % 256 : Nat) : Int) := by omega
        rw [g0, g1, g2, g3]
        refine ⟨k + 1, by omega, by go_num, (((HrR.out.other (by simp) _).other (by simp) _).other (by simp) _).other (by simp) _, ?_, (((hBw.setCell (p := ⟨w.heap.size + 1 + 1, m0, none⟩) (by show _ ≤ w.heap.size + 1 + 1; omega) _).setCell (p := ⟨w.heap.size + 1 + 1, m1, none⟩) (by show _ ≤ w.heap.size + 1 + 1; omega) _).setCell (p := ⟨w.heap.size + 1 + 1, m2, none⟩) (by show _ ≤ w.heap.size + 1 + 1; omega) _).setCell (p := ⟨w.heap.size + 1 + 1, m3, none⟩) (by show _ ≤ w.heap.size + 1 + 1; omega) _⟩
        have h := (((HrO.out.set m0 (.int .u8 (x / 16777216 % 256 : Nat))).set m1 (.int .u8 (x / 65536 % 256 : Nat))).set m2 (.int .u8 (x / 256 % 256 : Nat))).set m3 (.int .u8 (x % 256 : Nat))
        rw [HF.out] at h
        exact h
      case measure => simp [intOf]; omega
    · obtain rfl : k = 8 := by omega
      have HrR : Hid (Row wr (w.heap.size + 1) 38 (List.replicate 32 (.int .u8 0))) := hrR
      have HrO : Hid (Row wr (w.heap.size + 1 + 1) 38 (u8s (bytesBE L 32))) := by
        rw [fill_full _ _ _ (by simp)] at hrO; exact hrO
      have HOL : Hid ((u8s (bytesBE L 32)).length = 32) := by show _ = _; simp
      clear hrR hrO
      go_wp2_with (first
        | ((with_reducible show wpList _ _ _ (Oper.mk _ (Op.load 38 (.tmp 3)) _ _ _ _ :: _) _ _); refine wpList_load_Row rfl 38 (.tmp 3) rfl rfl HrO.out Tryd.underlying38 (by rw [HOL.out]; exact size38) ?_; simp only [Act.put, List.setIfInBounds_toArray, List.set_cons_zero, List.set_cons_succ])
        | ((with_reducible show wpList _ _ _ (Oper.mk _ (Op.store 38 (.tmp 2) (.tmp 38)) _ _ _ _ :: _) _ _); refine wpList_store_Row rfl 38 (.tmp 2) (.tmp 38) rfl (u8s (bytesBE L 32)) rfl rfl HrR.out (by rw [HOL.out]; exact size38) (by rw [HOL.out]; rfl) (u8s_one _) ?_; simp only [Act.put]))
      refine bodyPost_ret (results_Row rfl rfl (HrR.out.sets_all (vs := u8s (bytesBE L 32)) (by rw [HOL.out]; rfl)) Tryd.underlying38 (by rw [HOL.out]; exact size38)) rfl ?_
      exact ⟨rfl, below_setCells (by omega) _ _ hBw⟩

/-- The first eight words. -/
def first8 : St := ⟨1779033703, 3144134277, 1013904242, 2773480762, 1359893119, 2600822924, 528734635, 1541459225⟩
theorem first8_ok : first8.ok := by unfold St.ok first8; decide

set_option maxHeartbeats 1000000 in
theorem firstWords_any (w : World) : Calls Tryd.prog 57 #[] w fun e w' => e = .returned (.agg (u32s first8.list).toArray) ∧ Below w.heap.size w w' := by
  go_enter Tryd.func57, Tryd.ntmps57
  go_wp2
  refine bodyPost_ret (results_Row rfl rfl (Row.new _ _ _) Tryd.underlying102 size102') rfl ?_
  exact ⟨rfl, (Below.refl _ w).alloc (Nat.le_refl _) _⟩
end Go.Proofs.YtbaokodhoiledaaDoor.Sh
/-
  What sha.Sum answers: the sum of any bytes (up to 91,000).
-/
namespace Go.Proofs.YtbaokodhoiledaaDoor.Sh
open Go.RowKit Go.Shelf
attribute [local go_sem] Oper.semAt_some

theorem heap_setCells_other {b k : Nat} (hk : k ≠ b) : ∀ (vs : List Value) (o : Nat) (w : World), (w.setCells b o vs).heap[k]? = w.heap[k]?
  | [], _, _ => rfl
  | v :: r, o, w => (heap_setCells_other hk r (o + 1) _).trans (heap_setCell_other w ⟨b, o, none⟩ k v hk)

/-- The words behind some blocks; the sum of some bytes. -/
def wordsN (bl : List (List Nat)) : St := bl.foldl compressN first8
def sumN (zs : List Nat) : List Nat := digestN (wordsN (blocksL zs))
theorem wordsN_nil : wordsN [] = first8 := rfl
theorem wordsN_snoc (bl : List (List Nat)) (x : List Nat) : wordsN (bl ++ [x]) = compressN (wordsN bl) x := by simp [wordsN]
theorem wordsN_ok (bl : List (List Nat)) : (wordsN bl).ok := by
  rcases List.eq_nil_or_concat bl with rfl | ⟨l, x, rfl⟩
  · exact first8_ok
  · rw [List.concat_eq_append, wordsN_snoc]; exact compressN_ok _ _

set_option maxRecDepth 100000 in
set_option maxHeartbeats 2000000 in
theorem sum_in (n : Nat) (hn : 8 ≤ n) (p : Option Addr) (len cap : Nat) (zs : List Nat) (hlen : len ≤ 60000) (w : World) (hT : Tab w) (hI : IsBytes w.heap.size w p len cap zs) :
    CallsIn Fence.wide n Tryd.prog 49 #[.slice p len cap] w fun e w' => e = .returned (.agg (u8s (sumN zs)).toArray) ∧ Below w.heap.size w w' := by
  have h1 : 1 ≤ n := by omega
  have hfn : ∀ f, Fence.wide.fn f := fun _ => trivial
  have HT : Hid (Tab w) := hT
  have HI : Hid (IsBytes w.heap.size w p len cap zs) := hI
  obtain ⟨f8, hf8⟩ : ∃ f8, f8 = u32s first8.list := ⟨_, rfl⟩
  have HF1 : Hid (∀ w, Calls Tryd.prog 57 #[] w fun e w' => e = .returned (.agg f8.toArray) ∧ Below w.heap.size w w') := by rw [hf8]; exact firstWords_any
  have HFl : Hid (f8.length = 8) := by show _ = _; rw [hf8]; rfl
  have HFo : Hid (∀ v ∈ f8, v.oneCell' = true) := by rw [hf8]; exact u32s_one _
  have HF8 : Hid (f8 = u32s first8.list) := hf8
  clear hT hI hf8
  refine callsIn_of_wp_marks Tryd.func49 rfl trivial ?_ rfl
  simp only [Tryd.ntmps49, List.size_toArray, List.length_cons, List.length_nil, Nat.reduceAdd, Nat.reduceSub, Array.replicate_succ, Array.replicate_zero, List.push_toArray, List.append_toArray, List.nil_append, List.cons_append]
  gi_wp2_with (first
    | (gi_at_call 57; refine (callsIn_wide.2 (HF1.out _)).mono ?_; rintro e w1 ⟨rfl, hb1⟩)
    | ((with_reducible show wpListIn _ _ _ _ _ (Oper.mk _ (Op.store 102 (.tmp 3) (.tmp 5)) _ _ _ _ :: _) _ _); refine wpListIn_store_Row rfl 102 (.tmp 3) (.tmp 5) rfl f8 rfl rfl (Row.new _ _ _) (by rw [HFl.out]; exact size102) (by rw [HFl.out]; rfl) HFo.out ?_; simp only [Act.put])
    | (gi_at_call 58; refine (blk_in _ _ _ _ _).mono ?_; rintro e w' ⟨rfl, rfl⟩))
  rw [z32u8] at hb1
  have hs1 : w.heap.size + 1 ≤ w1.heap.size := by have := hb1.size; rwa [World.size_alloc] at this
  have hbA : Below w.heap.size w w1 := ((Below.refl _ w).alloc (Nat.le_refl _) _).trans (hb1.mono (by simp))
  have rR1 : Row w1 w.heap.size 38 (List.replicate 32 (.int .u8 0)) := (Row.new' w 38 _).later hb1
  rw [size_setCells, World.size_alloc]
  have rH : Row ((w1.alloc (.cells #[Value.int .u32 0, Value.int .u32 0, Value.int .u32 0, Value.int .u32 0, Value.int .u32 0, Value.int .u32 0, Value.int .u32 0, Value.int .u32 0] 102)).setCells w1.heap.size 0 f8) w1.heap.size 102 f8 := Row.sets_all (Row.new _ _ _) (by rw [HFl.out]; rfl)
  have rR2 : Row ((w1.alloc (.cells #[Value.int .u32 0, Value.int .u32 0, Value.int .u32 0, Value.int .u32 0, Value.int .u32 0, Value.int .u32 0, Value.int .u32 0, Value.int .u32 0] 102)).setCells w1.heap.size 0 f8) w.heap.size 38 (List.replicate 32 (.int .u8 0)) := Row.others (by omega) _ _ (rR1.alloc _)
  have hbB : Below w.heap.size w ((w1.alloc (.cells #[Value.int .u32 0, Value.int .u32 0, Value.int .u32 0, Value.int .u32 0, Value.int .u32 0, Value.int .u32 0, Value.int .u32 0, Value.int .u32 0] 102)).setCells w1.heap.size 0 f8) := below_setCells (by omega) _ _ (hbA.alloc (by omega) _)
  have hs2 : ((w1.alloc (.cells #[Value.int .u32 0, Value.int .u32 0, Value.int .u32 0, Value.int .u32 0, Value.int .u32 0, Value.int .u32 0, Value.int .u32 0, Value.int .u32 0] 102)).setCells w1.heap.size 0 f8).heap.size = w1.heap.size + 1 := by rw [size_setCells, World.size_alloc]
  generalize (w1.alloc (.cells #[Value.int .u32 0, Value.int .u32 0, Value.int .u32 0, Value.int .u32 0, Value.int .u32 0, Value.int .u32 0, Value.int .u32 0, Value.int .u32 0] 102)).setCells w1.heap.size 0 f8 = w2 at *
  have rB := Row.new w2 22 #[.slice p len cap]
  rw [hs2] at rB
  have H4 : Hid (Row (w2.alloc (.cells #[.slice p len cap] 22)) w1.heap.size 102 f8 ∧ Row (w2.alloc (.cells #[.slice p len cap] 22)) w.heap.size 38 (List.replicate 32 (.int .u8 0)) ∧ Below w.heap.size w (w2.alloc (.cells #[.slice p len cap] 22)) ∧ Row (w2.alloc (.cells #[.slice p len cap] 22)) (w1.heap.size + 1) 22 [.slice p len cap]) := ⟨rH.alloc _, rR2.alloc _, hbB.alloc (by omega) _, rB⟩
  have hs4 : (w2.alloc (.cells #[.slice p len cap] 22)).heap.size = w1.heap.size + 2 := by rw [World.size_alloc, hs2]
  clear rB rH rR2 hbB hbA rR1 hb1 hs2
  generalize w2.alloc (.cells #[.slice p len cap] 22) = w4 at *
  refine wpIn_rangeFunc_arr rfl h1 (gf := 63) (lb := #[.pointer (some ⟨w1.heap.size + 1, 0, none⟩)]) rfl trivial (enters_of Tryd.func63 (by kernel_rfl) rfl)
    (encs := fun x : List Nat => #[.agg (u8s x).toArray]) (Ok := fun x _ => BlockOk x) (Kp := KpM (fun k => k = w1.heap.size) (w4.heap.size + 2)) (S := fun xs => xs = blocksL zs) (Sp := fun pre => ∃ r, pre ++ r = blocksL zs) (N := len + 3)
    (fun W' hs hb => blk1_iter (n - 1) (by omega) _ (w1.heap.size + 1) p len cap zs hlen W' (((HI.out.below H4.out.2.2.1).below (hb.mono (by omega))).mono (by omega)) (H4.out.2.2.2.later hb) (fun k => k = w1.heap.size) _ (fun _ _ h => h.1) (fun _ _ h => by rw [hs]; exact h.2) (fun j hj => by omega) (by omega) (by
      rcases HI.out.2.2.2.2 with h | ⟨b, off, hp, hb', _⟩
      · exact .inl h
      · exact .inr (fun a ha e => by rw [hp] at ha; cases ha; simp at e; omega)))
    KpM.trans (fun A o o' ho hc => KpM.record (by omega) o' ho hc) KpM.of_below (fun _ => rfl) 105 (fun x => u8s x)
    (fun pre A => Row A w1.heap.size 102 (u32s (wordsN pre).list) ∧ Row A w.heap.size 38 (List.replicate 32 (.int .u8 0)) ∧ Below w.heap.size w A)
    (fun _ _ _ => False)
    (Low.and (low_row (by omega) _) (Low.and (low_row (by omega) _) (low_below w (by omega))))
    (fun _ _ _ _ h _ => h)
    (fun _ _ _ h _ => h)
    ⟨by rw [wordsN_nil, ← HF8.out]; exact H4.out.1, H4.out.2.1, H4.out.2.2.1⟩
    (fun x A => { tmps := #[.slice p len cap, undef, .pointer (some ⟨w.heap.size, 0, none⟩), .pointer (some ⟨w1.heap.size, 0, none⟩), .pointer (some ⟨A.heap.size, 0, none⟩), .agg f8.toArray, .slice p len cap, .func (.func 63) #[] #[.pointer (some ⟨w1.heap.size + 1, 0, none⟩)], .agg (u8s x).toArray, undef, undef, undef, undef, undef], defers := [] }) ?assign ?body ?done ?stop
  case assign =>
    intro li x A K hok hK
    have HXL : Hid ((u8s x).length = 64) := by show _ = _; rw [u8s_length]; exact hok.1
    have HX1 : Hid (∀ v ∈ u8s x, v.oneCell' = true) := u8s_one x
    have HK : Hid (∀ W', Below A.heap.size A W' → Row W' A.heap.size 105 (u8s x) → K _ W') := hK
    clear hK
    generalize u8s x = V at *
    gi_wp2_with ((with_reducible show wpListIn _ _ _ _ _ (Oper.mk _ (Op.store 105 (.tmp 4) (.tmp 8)) _ _ _ _ :: _) _ _); refine wpListIn_store_Row rfl 105 (.tmp 4) (.tmp 8) rfl V rfl rfl (Row.new _ _ _) (by rw [HXL.out]; exact size105) (by rw [HXL.out]; rfl) HX1.out ?_; simp only [Act.put])
    exact HK.out _ (below_setCells (Nat.le_refl _) _ _ ((Below.refl _ A).alloc (Nat.le_refl _) _)) (Row.sets_all (Row.new _ _ _) (by rw [HXL.out]; rfl))
  case body =>
    rintro li pre x A₀ A ⟨hrH, hrR, hB⟩ hok hN hle hrow
    have HC : Hid (∀ A, Tab A → Calls Tryd.prog 59 #[.agg (u32s (wordsN pre).list).toArray, .agg (u8s x).toArray] A fun e w' => e = .returned (.agg (u32s (wordsN (pre ++ [x])).list).toArray) ∧ Below A.heap.size A w') := fun A hT => by
      rw [wordsN_snoc]; exact compress_any _ (wordsN_ok pre) x hok.1 hok.2 A hT
    have HXL : Hid ((u8s x).length = 64) := by show _ = _; rw [u8s_length]; exact hok.1
    have HRow : Hid (Row A A₀.heap.size 105 (u8s x)) := hrow
    have HrH : Hid (Row A w1.heap.size 102 (u32s (wordsN pre).list)) := hrH
    have HrR : Hid (Row A w.heap.size 38 (List.replicate 32 (.int .u8 0))) := hrR
    have HHl : Hid ((u32s (wordsN pre).list).length = 8) := by show _ = _; rw [u32s_length, St.list_length]
    have HHl2 : Hid ((u32s (wordsN (pre ++ [x])).list).length = 8) := by show _ = _; rw [u32s_length, St.list_length]
    have HH2o : Hid (∀ v ∈ u32s (wordsN (pre ++ [x])).list, v.oneCell' = true) := u32s_one _
    clear hrow hrH hrR
    generalize u8s x = V at *
    generalize hS2 : u32s (wordsN (pre ++ [x])).list = S2 at *
    have HS2 : Hid (u32s (wordsN (pre ++ [x])).list = S2) := hS2
    clear hS2
    generalize u32s (wordsN pre).list = S1 at *
    gi_wp2_with (first
      | ((with_reducible show wpListIn _ _ _ _ _ (Oper.mk _ (Op.load 102 (.tmp 3)) _ _ _ _ :: _) _ _); refine wpListIn_load_Row rfl 102 (.tmp 3) rfl rfl HrH.out Tryd.underlying102 (by rw [HHl.out]; exact size102) ?_; simp only [Act.put, List.setIfInBounds_toArray, List.set_cons_zero, List.set_cons_succ])
      | ((with_reducible show wpListIn _ _ _ _ _ (Oper.mk _ (Op.load 105 (.tmp 4)) _ _ _ _ :: _) _ _); refine wpListIn_load_Row rfl 105 (.tmp 4) rfl rfl HRow.out Tryd.underlying105 (by rw [HXL.out]; exact size105) ?_; simp only [Act.put, List.setIfInBounds_toArray, List.set_cons_zero, List.set_cons_succ]))
    refine ⟨fun _ => by omega, (CallsIn.inRound li (callsIn_wide.2 (HC.out _ (HT.out.below hB HT.out.pos)))).mono ?_⟩
    rintro e A2 ⟨rfl, hb2⟩
    gi_wp2_with ((with_reducible show wpListIn _ _ _ _ _ (Oper.mk _ (Op.store 102 (.tmp 3) (.tmp 11)) _ _ _ _ :: _) _ _); refine wpListIn_store_Row rfl 102 (.tmp 3) (.tmp 11) rfl S2 rfl rfl (HrH.out.later hb2) (by rw [HHl2.out]; exact size102) (by rw [HHl2.out, HHl.out]) HH2o.out ?_; simp only [Act.put])
    have hkp : KpM (fun k => k = w1.heap.size) (w4.heap.size + 2) A (A2.setCells w1.heap.size 0 S2) := (KpM.of_below hb2).trans (KpM.sets (M := fun k => k = w1.heap.size) rfl _ _ _)
    have hkf : KpM (fun k => k = w1.heap.size) w4.heap.size A (A2.setCells w1.heap.size 0 S2) := (KpM.of_below hb2).trans (KpM.sets (M := fun k => k = w1.heap.size) rfl _ _ _)
    exact ⟨hkf.2, hkp, by rw [HS2.out]; exact (HrH.out.later hb2).sets_all (by rw [HHl2.out, HHl.out]), Row.others (by omega) _ _ (HrR.out.later hb2), below_setCells (by omega) _ _ (hB.trans (hb2.mono (by have := hB.size; omega)))⟩
  case done =>
    rintro D xs A hD rfl ⟨hrH, hrR, hB⟩ hKD
    have HDg : Hid (∀ A, Calls Tryd.prog 60 #[.agg (u32s (wordsN (blocksL zs)).list).toArray] A fun e w' => e = .returned (.agg (u8s (sumN zs)).toArray) ∧ Below A.heap.size A w') := fun A => digest_core _ (St.list_length _) (St.list_lt (wordsN_ok _)) A
    have HrH : Hid (Row A w1.heap.size 102 (u32s (wordsN (blocksL zs)).list)) := hrH
    have HrR : Hid (Row A w.heap.size 38 (List.replicate 32 (.int .u8 0))) := hrR
    have HHl : Hid ((u32s (wordsN (blocksL zs)).list).length = 8) := by show _ = _; rw [u32s_length, St.list_length]
    have HSl : Hid ((u8s (sumN zs)).length = 32) := by show _ = _; rw [u8s_length]; exact digestN_length _
    have HSo : Hid (∀ v ∈ u8s (sumN zs), v.oneCell' = true) := u8s_one _
    clear hrH hrR
    generalize u32s (wordsN (blocksL zs)).list = S1 at *
    gi_wp2_with (first
      | ((with_reducible show wpListIn _ _ _ _ _ (Oper.mk _ (Op.load 102 (.tmp 3)) _ _ _ _ :: _) _ _); refine wpListIn_load_Row rfl 102 (.tmp 3) rfl rfl HrH.out Tryd.underlying102 (by rw [HHl.out]; exact size102) ?_; simp only [Act.put, List.setIfInBounds_toArray, List.set_cons_zero, List.set_cons_succ])
      | (gi_at_call 60; refine (callsIn_wide.2 (HDg.out _)).mono ?_; rintro e A2 ⟨rfl, hb2⟩)
      | ((with_reducible show wpListIn _ _ _ _ _ (Oper.mk _ (Op.store 38 (.tmp 2) (.tmp 13)) _ _ _ _ :: _) _ _); refine wpListIn_store_Row rfl 38 (.tmp 2) (.tmp 13) rfl (u8s (sumN zs)) rfl rfl (HrR.out.later hb2) (by rw [HSl.out]; exact size38) (by rw [HSl.out]; rfl) HSo.out ?_; simp only [Act.put]))
    have hKE := (hb2.block D (Array.getElem?_eq_some_iff.1 hKD).1).trans hKD
    have hKF : (A2.setCells w.heap.size 0 (u8s (sumN zs))).heap[D]? = some (.deferred (some [])) := by
      rw [heap_setCells_other (by omega)]; exact hKE
    refine ⟨by simp, .inl ⟨_, _, rfl, run_takeDeferred hKF, ?_⟩⟩
    have hR3 := ((HrR.out.later hb2).sets_all (vs := u8s (sumN zs)) (by rw [HSl.out]; rfl))
    refine ⟨_, results_Row rfl rfl ((World.putObj_heap_other (by omega)).trans hR3) Tryd.underlying38 (by rw [HSl.out]; exact size38), rfl, ?_⟩
    exact (below_setCells (Nat.le_refl _) _ _ (hB.trans (hb2.mono (by have := hB.size; omega)))).trans (below_putObj _ _ (by omega))
  case stop =>
    rintro D c pre A hD _ h hKD
    exact h.elim

/-- sha.Sum -/
theorem sum_any (p : Option Addr) (len cap : Nat) (zs : List Nat) (hlen : len ≤ 60000) (w : World) (hT : Tab w) (hI : IsBytes w.heap.size w p len cap zs) :
    Calls Tryd.prog 49 #[.slice p len cap] w fun e w' => e = .returned (.agg (u8s (sumN zs)).toArray) ∧ Below w.heap.size w w' :=
  callsIn_wide.1 (sum_in 8 (Nat.le_refl _) p len cap zs hlen w hT hI)
end Go.Proofs.YtbaokodhoiledaaDoor.Sh
