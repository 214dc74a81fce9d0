/-
  Several texts in one: ShLast, ShBlk, ShRol, ShSpec, ShRounds, ShTurned, ShSched, ShCompress, ShDigest, ShSum, ShPad, ShRun, ShMore, ShRSum, ShMac1, ShMac2.
-/
import Derived.Test.YtobmcaknfbooiaaDoorMade
import Derived.Test.YtobmcaknfbooiaaDoorLow
import Derived.Test.YtobmcaknfbooiaaDoorChecked
import Derived.RegionIn
import Derived.WalkKit
import Derived.ProofKit
import Derived.Laws.BitsAllLaws
import Derived.Test.YtobmcaknfbooiaaDoorRow
import Derived.WalkMore
import Derived.Laws.CopyOwn
import Derived.Test.YtobmcaknfbooiaaDoorOwn
import Derived.Test.YtobmcaknfbooiaaDoorBuild
import Derived.Test.YtobmcaknfbooiaaDoorArgs2
import Derived.Test.YtobmcaknfbooiaaDoorArgs
/-
  What sha.lastBlocks tells: the one or two blocks that end a text; it may be left behind each.
-/
namespace Go.Proofs.YtobmcaknfbooiaaDoor.Sh
open Go.RowKit Go.Shelf
attribute [local go_sem] Oper.semAt_some

theorem size108' : (Tryd.prog.info? 108).map (·.size) = some 64 := by kernel_rfl
/-- Eight bytes of a number, the highest ahead. -/
def be8 (m : Nat) : List Nat := (List.range 8).map fun i => m / 2 ^ (8 * (7 - i)) % 256
theorem be8_length (m : Nat) : (be8 m).length = 8 := by simp [be8]
theorem be8_at (m k : Nat) (hk : k < 8) : (be8 m).take k ++ [m / 2 ^ (8 * (7 - k)) % 256] = (be8 m).take (k + 1) := by
  rw [List.take_succ_eq_append_getElem (by rw [be8_length]; exact hk)]
  simp [be8]

/-- The blocks that end a text of N bytes of which zs is left. -/
def lastL (zs : List Nat) (N : Nat) : List (List Nat) :=
  if zs.length < 56 then [(zs ++ 128 :: List.replicate (55 - zs.length) 0) ++ be8 (8 * N % 18446744073709551616)]
  else [zs ++ 128 :: List.replicate (63 - zs.length) 0, List.replicate 56 0 ++ be8 (8 * N % 18446744073709551616)]

/-- What is handed over. -/
def BlockOk (x : List Nat) : Prop := x.length = 64 ∧ ∀ z ∈ x, z < 256

theorem fill_zeros (N m : Nat) (l : List Nat) (h : l.length + m ≤ N) : fill N (.int .u8 0) (u8s (l ++ List.replicate m 0)) = fill N (.int .u8 0) (u8s l) := by
  have e : N - l.length = m + (N - (l.length + m)) := by omega
  simp only [fill, u8s, List.map_append, List.map_replicate, List.length_append, List.length_map, List.length_replicate, List.append_assoc]
  rw [e, ← List.replicate_append_replicate]
  rfl

theorem be8_lt (m : Nat) : ∀ z ∈ be8 m, z < 256 := by
  intro z hz
  obtain ⟨i, _, rfl⟩ := List.mem_map.1 hz
  exact Nat.mod_lt _ (by decide)

theorem splice_fill (zs : List Nat) : splice (List.replicate 64 (Value.int .u8 0)) 0 (u8s zs) = fill 64 (.int .u8 0) (u8s zs) := by
  simp only [splice, fill, List.take_zero, List.nil_append, u8s_length, List.drop_replicate, Nat.zero_add]

theorem src_bytes {w w1 : World} {b off len : Nat} {zs : List Nat} (hl : zs.length = len) (hA : ∀ i, i < len → w.cell? ⟨b, off + i, none⟩ = some (.int .u8 (zs.getD i 0 : Nat))) (hb : b < w.heap.size) (hg : Below w.heap.size w w1) :
    ∀ j v, (u8s zs)[j]? = some v → w1.cell? ((⟨b, off, none⟩ : Addr).add j) = some v := by
  intro j v hj
  have hjl : j < zs.length := by
    rcases Nat.lt_or_ge j zs.length with h | h
    · exact h
    · simp [u8s, List.getElem?_eq_none h] at hj
  rw [Addr.add_mid]
  rw [u8s_at hjl] at hj
  cases hj
  exact (hg.cell (p := ⟨b, off + j, none⟩) hb).trans (hA j (by omega))

set_option maxRecDepth 100000 in
set_option maxHeartbeats 2000000 in
theorem last1_iter (n : Nat) (hn : 2 ≤ n) (l Br Bl N : Nat) (p : Option Addr) (len cap : Nat) (zs : List Nat) (hlen : len < 64) (W : World) (hI : IsBytes W.heap.size W p len cap zs)
    (hcr : W.cell? ⟨Br, 0, none⟩ = some (.slice p len cap)) (hcl : Row W Bl 125 [.int .u64 N])
    (M : Nat → Prop) (Kp : World → World → Prop) (hK1 : ∀ A B, Kp A B → ∀ (k : Nat) (c : Array Value) (t : TypeId) (fr : Nat × Nat), ¬ M k → A.heap[k]? = some (Obj.cells c t fr) → B.heap[k]? = some (Obj.cells c t fr)) (hM : ∀ k, W.heap.size ≤ k → ¬ M k) (hMl : ¬ M Bl) :
    IterLow Fence.wide n Tryd.prog 89 #[.pointer (some ⟨Br, 0, none⟩), .pointer (some ⟨Bl, 0, none⟩)] (fun x : List Nat => #[.agg (u8s x).toArray]) (fun x _ => BlockOk x) Kp (fun xs => xs = lastL zs N) (fun pre => ∃ r, pre ++ r = lastL zs N) 2 l W := by
  intro J Jx hJ hJx hY h0
  have h1 : 1 ≤ n := by omega
  have hfn : ∀ f, Fence.wide.fn f := fun _ => trivial
  have hbr := World.block_lt_of_cell? W _ hcr
  obtain ⟨hzl, hlc, hcap, hz256, hz⟩ := hI
  refine callsIn_of_wp Tryd.func89 rfl trivial ?_ rfl
  simp only [Tryd.ntmps89, List.size_toArray, List.length_cons, List.length_nil, Nat.reduceAdd, Nat.reduceSub, Array.replicate_succ, Array.replicate_zero, List.push_toArray, List.append_toArray, List.nil_append, List.cons_append]
  gi_wp2
  rw [z64u8]
  have rB := Row.new' W 108 (List.replicate 64 (Value.int .u8 0))
  have hbW : Below W.heap.size W (W.alloc (.cells (List.replicate 64 (Value.int .u8 0)).toArray 108)) := (Below.refl _ W).alloc (Nat.le_refl _) _
  have hcr1 := (hbW.cell (p := ⟨Br, 0, none⟩) hbr).trans hcr
  refine wpIn_region_on_wide (S := fun W' => W'.cell? ⟨Br, 0, none⟩ = some (.slice p len cap)) (by kernel_rfl) (by kernel_rfl) hcr1 (fun hHeld => ?_)
  refine wpAnyH_takesAt 0 2 1 (of_decide_eq_true (by kernel_rfl)) rfl (fun _ _ _ _ _ h => h) (by kernel_rfl) (by kernel_rfl) hHeld ?_
  simp only [List.drop_zero, List.take_succ_cons, List.take_zero]
  iterate 2 (refine wpHeld_step (v := ?_) (by rfl) (fun wz hSw => ?_) ?_; rotate_left; (focus ((try dsimp only at hSw); go_simp; try with_reducible rfl)); (simp only [Act.put, List.setIfInBounds_toArray, List.set_cons_zero, List.set_cons_succ]))
  refine wpHeld_nil ?_
  refine wpAnyH_only (i := 2) (by kernel_rfl) rfl (fun K hK => ?_)
  refine step_copy_splice rfl (.tmp 7) (.tmp 8) 25 25 rfl 5 Tryd.underlying25 size5 _ _ _ _ _ _ rfl rfl W.heap.size 0 (List.replicate 64 (Value.int .u8 0)) 108 rB (u8s zs) (by rw [u8s_length, hzl]; show len = min len 64; omega) (fun hpos => ?pos) (by rw [u8s_length]; simp; omega) (u8s_one _) W.heap.size W hbW.drew (Nat.le_refl _) (fun w2 HG2 hb2 => ?_)
  case pos =>
    rw [u8s_length] at hpos
    rcases hz with hz | ⟨b, off, rfl, hb, hc⟩
    · omega
    · exact ⟨rfl, _, rfl, src_bytes hzl hc hb hbW.drew⟩
  refine hK.out _ _ ((hb2.cell (p := ⟨Br, 0, none⟩) hbr).trans hcr) ?_
  clear hK K
  refine wpAnyH_done (by kernel_rfl) ?_ _
  refine OnOnly.on ?_
  have hr2 : Row w2 W.heap.size 108 (fill 64 (.int .u8 0) (u8s zs)) := by
    have h := HG2.out
    rw [splice_fill zs] at h
    exact h
  have hc2 := (hb2.cell (p := ⟨Br, 0, none⟩) hbr).trans hcr
  have hl2 := hcl.later hb2
  have cz := hr2.cell (i := len) (v := .int .u8 0) (fill_rest _ _ _ (by rw [u8s_length]; omega) hlen)
  have fz := hr2.frozen len
  have hli : (len : Int) < 64 := by omega
  have HR2 : Hid (Row (w2.setCell ⟨W.heap.size, len, none⟩ (.int .u8 128)) W.heap.size 108 (fill 64 (.int .u8 0) (u8s (zs ++ [128])))) := by
    have h := hr2.set len (.int .u8 (128 : Nat))
    rw [fill_set _ _ _ _ (by rw [u8s_length]; omega) hlen, u8s_snoc] at h
    exact h
  have HL2 : Hid (Row (w2.setCell ⟨W.heap.size, len, none⟩ (.int .u8 128)) Bl 125 [.int .u64 N]) := hl2.other (by have := hcl.lt; simp; omega) _
  have HB2 : Hid (Below W.heap.size W (w2.setCell ⟨W.heap.size, len, none⟩ (.int .u8 128))) := hb2.setCell (p := ⟨W.heap.size, len, none⟩) (Nat.le_refl _) _
  have HJ : Hid (Low W.heap.size J) := hJ
  have HJx : Hid (Low W.heap.size Jx) := hJx
  have HZL : Hid (zs.length = len) := hzl
  have HZ : Hid (∀ z ∈ zs, z < 256) := hz256
  have H0 : Hid (J [] (w2.setCell ⟨W.heap.size, len, none⟩ (.int .u8 128))) := hJ _ _ _ h0 HB2.out
  have hcr3 := (World.cell?_setCell_far w2 ⟨W.heap.size, len, none⟩ ⟨Br, 0, none⟩ (.int .u8 128) (by simp; omega)).trans hc2
  have hcl3 := HL2.out.cell (i := 0) rfl
  obtain ⟨m, hm⟩ : ∃ m, m = 8 * N % 18446744073709551616 := ⟨_, rfl⟩
  have em : IntKind.u64.wrap (8 * (N : Int)) = (m : Int) := by rw [IntKind.wrap_u64]; omega
  have bm : m < 18446744073709551616 := by omega
  have HM : Hid (m = 8 * N % 18446744073709551616) := hm
  clear rB hbW hcr1 hHeld HG2 hr2 hl2 hb2 hJ hJx hzl hz256 h0 hz hcl hcr hm
  by_cases h56 : len < 56
  · have h56i : (len : Int) < 56 := by omega
    simp only [Act.put, List.setIfInBounds_toArray]
    gi_wp2
    obtain ⟨X, hX⟩ : ∃ X, X = zs ++ 128 :: List.replicate (55 - len) 0 := ⟨_, rfl⟩
    have HX : Hid (X.length = 56) := by
      show _ = _
      have := HZL.out
      rw [hX]; simp; omega
    have HOk : Hid (∀ z ∈ X, z < 256) := by
      intro z hz
      rw [hX] at hz
      rcases List.mem_append.1 hz with h | h
      · exact HZ.out z h
      · rcases List.mem_cons.1 h with h | h
        · omega
        · have := (List.mem_replicate.1 h).2; omega
    have HRow : Hid (Row (w2.setCell ⟨W.heap.size, len, none⟩ (.int .u8 128)) W.heap.size 108 (fill 64 (.int .u8 0) (u8s X))) := by
      have h := HR2.out
      have := HZL.out
      rw [← fill_zeros 64 (55 - len) _ (by simp; omega), List.append_assoc, List.singleton_append, ← hX] at h
      exact h
    have HEq : Hid ([] ++ [X ++ be8 m] = lastL zs N) := by
      show _ = _
      unfold lastL
      rw [if_pos (by rw [HZL.out]; exact h56), HZL.out, ← hX, ← HM.out]
      rfl
    clear hX HR2 HL2 HB2 hcr3 hcl3 cz fz
    generalize w2.setCell ⟨W.heap.size, len, none⟩ (.int .u8 128) = w3 at *
    gi_loopw [6] (fun i wr => ∃ q : Nat, 56 ≤ q ∧ q ≤ 64 ∧ i = .int .i64 q ∧ Row wr W.heap.size 108 (fill 64 (.int .u8 0) (u8s (X ++ (be8 m).take (q - 56)))) ∧ J [] wr)
      (fun i _ => 64 - (intOf i).toNat)
    case atStart => exact ⟨56, by omega, by omega, rfl, by simpa using HRow.out, H0.out⟩
    case round =>
      obtain ⟨q, hq56, hq, rfl, hrB, hJp⟩ := hrel
      by_cases hq64 : q < 64
      · have hqi : (q : Int) < 64 := by omega
        have HTk : Hid ((be8 m).take (q - 56) ++ [m / 2 ^ (8 * (63 - q)) % 256] = (be8 m).take (q + 1 - 56)) := by
          have h := be8_at m (q - 56) (by omega)
          rw [show 7 - (q - 56) = 63 - q by omega, show q - 56 + 1 = q + 1 - 56 by omega] at h
          exact h
        have HLn : Hid ((u8s (X ++ (be8 m).take (q - 56))).length = q) := by
          show _ = _
          have := HX.out
          rw [u8s_length, List.length_append, List.length_take, be8_length]; omega
        have cz := hrB.cell (i := q) (v := .int .u8 0) (fill_rest _ _ _ (by rw [HLn.out]; omega) hq64)
        have fz := hrB.frozen q
        have HrB : Hid (Row wr W.heap.size 108 (fill 64 (.int .u8 0) (u8s (X ++ (be8 m).take (q - 56))))) := hrB
        have e1 : IntKind.i64.wrap (63 - (q : Int)) = ((63 - q : Nat) : Int) := by rw [IntKind.wrap_i64]; omega
        have e2 : IntKind.i64.wrap (8 * ((63 - q : Nat) : Int)) = ((8 * (63 - q) : Nat) : Int) := by rw [IntKind.wrap_i64]; omega
        have l2 : ((8 * (63 - q) : Nat) : Int) < 64 := by omega
        have HJp : Hid (J [] wr) := hJp
        clear hrB hJp
        generalize 8 * (63 - q) = sh at *
        generalize 63 - q = d at *
        gi_wp2
        go_roundw
        case rel =>
          have g1 : ((m : Int) / 2 ^ sh % 256) = ((m / 2 ^ sh % 256 : Nat) : Int) := by simp
          have h := HrB.out.set q (.int .u8 (m / 2 ^ sh % 256 : Nat))
          rw [fill_set _ _ _ _ HLn.out hq64, u8s_snoc, List.append_assoc, HTk.out, ← g1] at h
          exact ⟨q + 1, by omega, by omega, by go_num, h, HJ.out _ _ _ HJp.out ((Below.refl _ wr).setCell (p := ⟨W.heap.size, q, none⟩) (Nat.le_refl _) _)⟩
        case measure => simp [intOf]; omega
      · obtain rfl : q = 64 := by omega
        have HrB : Hid (Row wr W.heap.size 108 (u8s (X ++ be8 m))) := by
          have := HX.out
          rw [show (be8 m).take (64 - 56) = be8 m from List.take_of_length_le (by rw [be8_length]; omega), fill_full _ _ _ (by rw [u8s_length, List.length_append, be8_length]; omega)] at hrB
          exact hrB
        have HLn : Hid ((u8s (X ++ be8 m)).length = 64) := by
          show _ = _
          have := HX.out
          rw [u8s_length, List.length_append, be8_length]; omega
        have HYl := hY [] (X ++ be8 m) wr hJp ⟨by have := HLn.out; rwa [u8s_length] at this, fun z hz => by
          rcases List.mem_append.1 hz with h | h
          · exact HOk.out z h
          · exact be8_lt m z h⟩ (by simp)
        obtain ⟨fn, tmps, assign, body, hy, hR⟩ := HYl
        clear hrB hJp
        generalize u8s (X ++ be8 m) = V at *
        gi_wp2_with ((with_reducible show wpListIn _ _ _ _ _ (Oper.mk _ (Op.load 108 (.tmp 4)) _ _ _ _ :: _) _ _); refine wpListIn_load_Row rfl 108 (.tmp 4) rfl rfl HrB.out Tryd.underlying108 (by rw [HLn.out]; exact size108') ?_; simp only [Act.put, List.setIfInBounds_toArray, List.set_cons_zero, List.set_cons_succ])
        refine hR.mono ?_
        rintro e W3 (⟨rfl, hJ3, hk3⟩ | ⟨rfl, hJx3, hk3⟩)
        · gi_wp2
          go_end0
          exact ⟨⟨_, rfl⟩, .inl ⟨_, HEq.out, hJ3⟩⟩
        · gi_wp2
          go_end0
          exact ⟨⟨_, rfl⟩, .inr ⟨_, ⟨[], by rw [List.append_nil]; exact HEq.out⟩, hJx3⟩⟩
  · have h56i : (56 : Int) ≤ (len : Int) := by omega
    have HLn : Hid ((u8s (zs ++ 128 :: List.replicate (63 - len) 0)).length = 64) := by
      show _ = _
      have := HZL.out
      rw [u8s_length]; simp; omega
    have HRow : Hid (Row (w2.setCell ⟨W.heap.size, len, none⟩ (.int .u8 128)) W.heap.size 108 (u8s (zs ++ 128 :: List.replicate (63 - len) 0))) := by
      have h := HR2.out
      have := HZL.out
      rw [← fill_zeros 64 (63 - len) _ (by simp; omega), List.append_assoc, List.singleton_append, fill_full _ _ _ HLn.out] at h
      exact h
    obtain ⟨x1, hx1⟩ : ∃ x1, x1 = zs ++ 128 :: List.replicate (63 - len) 0 := ⟨_, rfl⟩
    rw [← hx1] at HRow HLn
    have HYl := hY [] x1 _ H0.out ⟨by have := HLn.out; rwa [u8s_length] at this, fun z hz => by
      rw [hx1] at hz
      rcases List.mem_append.1 hz with h | h
      · exact HZ.out z h
      · rcases List.mem_cons.1 h with h | h
        · omega
        · have := (List.mem_replicate.1 h).2; omega⟩ (by decide)
    have HL1 : Hid (lastL zs N = [x1, List.replicate 56 0 ++ be8 m]) := by
      show _ = _
      unfold lastL
      rw [if_neg (by rw [HZL.out]; exact h56), HZL.out, ← hx1, ← HM.out]
    obtain ⟨fn, tmps, assign, body, hy, hR⟩ := HYl
    clear hx1 HR2
    simp only [Act.put, List.setIfInBounds_toArray]
    gi_wp2_with ((with_reducible show wpListIn _ _ _ _ _ (Oper.mk _ (Op.load 108 (.tmp 4)) _ _ _ _ :: _) _ _); refine wpListIn_load_Row rfl 108 (.tmp 4) rfl rfl HRow.out Tryd.underlying108 (by rw [HLn.out]; exact size108') ?_; simp only [Act.put, List.setIfInBounds_toArray, List.set_cons_zero, List.set_cons_succ])
    refine hR.mono ?_
    rintro e W3 (⟨rfl, hJ3, hk3⟩ | ⟨rfl, hJx3, hk3⟩)
    · have HB3 : Hid (Row W3 W.heap.size 108 (u8s x1)) := hK1 _ _ hk3 _ _ _ _ (hM _ (Nat.le_refl _)) HRow.out
      have HL3 : Hid (Row W3 Bl 125 [.int .u64 N]) := hK1 _ _ hk3 _ _ _ _ hMl HL2.out
      obtain ⟨Z, hZ⟩ : ∃ Z, Z = List.replicate 64 (Value.int .u8 0) := ⟨_, rfl⟩
      have HZV : Hid (Z = List.replicate 64 (Value.int .u8 0)) := hZ
      have HZl : Hid (Z.length = 64) := by show _ = _; rw [hZ]; rfl
      have HZ1 : Hid (∀ v ∈ Z, v.oneCell' = true) := by intro v hv; rw [hZ] at hv; rw [(List.mem_replicate.1 hv).2]; rfl
      clear hZ
      have hcl4 := (Row.others (b := W.heap.size) (by have := HL3.out.lt; have := HL2.out.lt; intro e; subst e; have h1 := HL3.out; have h2 := HB3.out; unfold Row at h1 h2; rw [h1] at h2; simp at h2) Z 0 HL3.out).cell (i := 0) rfl
      have HZr : Hid (Row (W3.setCells W.heap.size 0 Z) W.heap.size 108 (fill 64 (.int .u8 0) (u8s (List.replicate 56 0)))) := by
        have h := HB3.out.sets_all (vs := Z) (by rw [HZl.out, HLn.out])
        rw [show fill 64 (.int .u8 0) (u8s (List.replicate 56 0)) = Z from HZV.out.symm]
        exact h
      have HX : Hid ((List.replicate 56 0 : List Nat).length = 56) := rfl
      have HOk : Hid (∀ z ∈ (List.replicate 56 0 : List Nat), z < 256) := by
        intro z hz
        have := (List.mem_replicate.1 hz).2; omega
      have HJ1 : Hid (J ([] ++ [x1]) (W3.setCells W.heap.size 0 Z)) := HJ.out _ _ _ hJ3 (below_setCells (Nat.le_refl _) _ _ (Below.refl _ W3))
      have HEq : Hid (([] ++ [x1]) ++ [List.replicate 56 0 ++ be8 m] = lastL zs N) := by
        show _ = _
        rw [HL1.out]; rfl
      clear hJ3 hk3 HL2 HB2 hcr3 hcl3 cz fz H0 hR hy HRow
      gi_wp2_with ((with_reducible show wpListIn _ _ _ _ _ (Oper.mk _ (Op.store 108 (.tmp 4) (.tmp 20)) _ _ _ _ :: _) _ _); refine wpListIn_store_Row rfl 108 (.tmp 4) (.tmp 20) rfl Z rfl (by rw [HZV.out]; rfl) HB3.out (by rw [HZl.out]; exact size108') (by rw [HZl.out, HLn.out]) HZ1.out ?_; simp only [Act.put])
      generalize W3.setCells W.heap.size 0 Z = w3 at *
      gi_loopw [6] (fun i wr => ∃ q : Nat, 56 ≤ q ∧ q ≤ 64 ∧ i = .int .i64 q ∧ Row wr W.heap.size 108 (fill 64 (.int .u8 0) (u8s ((List.replicate 56 0) ++ (be8 m).take (q - 56)))) ∧ J ([] ++ [x1]) wr)
        (fun i _ => 64 - (intOf i).toNat)
      case atStart => exact ⟨56, by omega, by omega, rfl, by simpa using HZr.out, HJ1.out⟩
      case round =>
        obtain ⟨q, hq56, hq, rfl, hrB, hJp⟩ := hrel
        by_cases hq64 : q < 64
        · have hqi : (q : Int) < 64 := by omega
          have HTk : Hid ((be8 m).take (q - 56) ++ [m / 2 ^ (8 * (63 - q)) % 256] = (be8 m).take (q + 1 - 56)) := by
            have h := be8_at m (q - 56) (by omega)
            rw [show 7 - (q - 56) = 63 - q by omega, show q - 56 + 1 = q + 1 - 56 by omega] at h
            exact h
          have HLn : Hid ((u8s ((List.replicate 56 0) ++ (be8 m).take (q - 56))).length = q) := by
            show _ = _
            have := HX.out
            rw [u8s_length, List.length_append, List.length_take, be8_length]; omega
          have cz := hrB.cell (i := q) (v := .int .u8 0) (fill_rest _ _ _ (by rw [HLn.out]; omega) hq64)
          have fz := hrB.frozen q
          have HrB : Hid (Row wr W.heap.size 108 (fill 64 (.int .u8 0) (u8s ((List.replicate 56 0) ++ (be8 m).take (q - 56))))) := hrB
          have e1 : IntKind.i64.wrap (63 - (q : Int)) = ((63 - q : Nat) : Int) := by rw [IntKind.wrap_i64]; omega
          have e2 : IntKind.i64.wrap (8 * ((63 - q : Nat) : Int)) = ((8 * (63 - q) : Nat) : Int) := by rw [IntKind.wrap_i64]; omega
          have l2 : ((8 * (63 - q) : Nat) : Int) < 64 := by omega
          have HJp : Hid (J ([] ++ [x1]) wr) := hJp
          clear hrB hJp
          generalize 8 * (63 - q) = sh at *
          generalize 63 - q = d at *
          gi_wp2
          go_roundw
          case rel =>
            have g1 : ((m : Int) / 2 ^ sh % 256) = ((m / 2 ^ sh % 256 : Nat) : Int) := by simp
            have h := HrB.out.set q (.int .u8 (m / 2 ^ sh % 256 : Nat))
            rw [fill_set _ _ _ _ HLn.out hq64, u8s_snoc, List.append_assoc, HTk.out, ← g1] at h
            exact ⟨q + 1, by omega, by omega, by go_num, h, HJ.out _ _ _ HJp.out ((Below.refl _ wr).setCell (p := ⟨W.heap.size, q, none⟩) (Nat.le_refl _) _)⟩
          case measure => simp [intOf]; omega
        · obtain rfl : q = 64 := by omega
          have HrB : Hid (Row wr W.heap.size 108 (u8s ((List.replicate 56 0) ++ be8 m))) := by
            have := HX.out
            rw [show (be8 m).take (64 - 56) = be8 m from List.take_of_length_le (by rw [be8_length]; omega), fill_full _ _ _ (by rw [u8s_length, List.length_append, be8_length]; omega)] at hrB
            exact hrB
          have HLn : Hid ((u8s ((List.replicate 56 0) ++ be8 m)).length = 64) := by
            show _ = _
            have := HX.out
            rw [u8s_length, List.length_append, be8_length]; omega
          have HYl := hY ([] ++ [x1]) ((List.replicate 56 0) ++ be8 m) wr hJp ⟨by have := HLn.out; rwa [u8s_length] at this, fun z hz => by
            rcases List.mem_append.1 hz with h | h
            · exact HOk.out z h
            · exact be8_lt m z h⟩ (by simp)
          obtain ⟨fn, tmps, assign, body, hy, hR⟩ := HYl
          clear hrB hJp
          generalize u8s ((List.replicate 56 0) ++ be8 m) = V at *
          gi_wp2_with ((with_reducible show wpListIn _ _ _ _ _ (Oper.mk _ (Op.load 108 (.tmp 4)) _ _ _ _ :: _) _ _); refine wpListIn_load_Row rfl 108 (.tmp 4) rfl rfl HrB.out Tryd.underlying108 (by rw [HLn.out]; exact size108') ?_; simp only [Act.put, List.setIfInBounds_toArray, List.set_cons_zero, List.set_cons_succ])
          refine hR.mono ?_
          rintro e W3 (⟨rfl, hJ3, hk3⟩ | ⟨rfl, hJx3, hk3⟩)
          · gi_wp2
            go_end0
            exact ⟨⟨_, rfl⟩, .inl ⟨_, HEq.out, hJ3⟩⟩
          · gi_wp2
            go_end0
            exact ⟨⟨_, rfl⟩, .inr ⟨_, ⟨[], by rw [List.append_nil]; exact HEq.out⟩, hJx3⟩⟩
    · gi_wp2
      refine bodyPost_ret (results_none rfl _ _ _) rfl ?_
      exact ⟨⟨_, rfl⟩, .inr ⟨_, ⟨[List.replicate 56 0 ++ be8 m], by rw [HL1.out]; rfl⟩, hJx3⟩⟩

set_option maxHeartbeats 1000000 in
/-- sha.lastBlocks: both arguments are boxed; the function value captures the boxes. -/
theorem last_in (n : Nat) (v : Value) (N : Nat) (w : World) (hv : v.oneCell' = true) :
    CallsIn Fence.wide n Tryd.prog 80 #[v, .int .u64 N] w fun e w' =>
      e = .returned (.func (.func 89) #[] #[.pointer (some ⟨w.heap.size, 0, none⟩), .pointer (some ⟨w.heap.size + 1, 0, none⟩)]) ∧ w' = (w.alloc (.cells #[v] 25)).alloc (.cells #[.int .u64 N] 125) := by
  refine callsIn_of_wp Tryd.func80 rfl trivial ?_ rfl
  simp only [Tryd.ntmps80, List.size_toArray, List.length_cons, List.length_nil, Nat.reduceAdd, Nat.reduceSub, Array.replicate_succ, Array.replicate_zero, List.push_toArray, List.append_toArray, List.nil_append, List.cons_append]
  gi_wp2
  go_ret
  exact ⟨rfl, rfl⟩
end Go.Proofs.YtobmcaknfbooiaaDoor.Sh
/-
  What sha.blocks tells: the blocks of a text, with what stands behind it; it may be left behind each.
-/
namespace Go.Proofs.YtobmcaknfbooiaaDoor.Sh
open Go.RowKit Go.Shelf
attribute [local go_sem] Oper.semAt_some
def blocksL (zs : List Nat) : List (List Nat) := fullL zs (zs.length / 64) ++ lastL (zs.drop (64 * (zs.length / 64))) zs.length
theorem fullL_prefix (zs : List Nat) {k m : Nat} (h : k ≤ m) : ∃ r, fullL zs k ++ r = fullL zs m := by
  refine ⟨(List.range' k (m - k)).map fun j => (zs.drop (64 * j)).take 64, ?_⟩
  unfold fullL
  rw [← List.map_append]
  congr 1
  rw [List.range_eq_range', List.range_eq_range']
  have e := List.range'_append (s := 0) (m := k) (n := m - k) (step := 1)
  rw [Nat.zero_add, Nat.one_mul, Nat.add_sub_cancel' h] at e
  exact e
theorem blocksL_prefix (zs : List Nat) {k : Nat} (h : k ≤ zs.length / 64) : ∃ r, fullL zs k ++ r = blocksL zs := by
  obtain ⟨r, hr⟩ := fullL_prefix zs h
  exact ⟨r ++ lastL (zs.drop (64 * (zs.length / 64))) zs.length, by rw [← List.append_assoc, hr]; rfl⟩
/-- The length in a slot: for a loop's measure. -/
def sliceLen : Value → Nat | .slice _ L _ => L | _ => 0

theorem bytes_range {n₀ : Nat} {W : World} {b off len cap o : Nat} {zs : List Nat} (h : IsBytes n₀ W (some ⟨b, off, none⟩) len cap zs) (ho : o + 64 ≤ len) : W.rangeAt b (off + o) (u8s ((zs.drop o).take 64)) := by
  obtain ⟨h1, h2, h3, h4, h5⟩ := h
  rcases h5 with h5 | ⟨b', off', e, hb, hc⟩
  · omega
  · cases e
    intro j v hj
    have hjl : j < 64 := by
      rcases Nat.lt_or_ge j 64 with h | h
      · exact h
      · rw [List.getElem?_eq_none (by simp; omega)] at hj; cases hj
    rw [u8s_at (by simp; omega)] at hj
    cases hj
    rw [show off + o + j = off + (o + j) by omega, hc (o + j) (by omega)]
    simp [hjl]

theorem run_arrayAt108 (b o L C : Nat) (h : 64 ≤ L) (w : World) : (Instr.arrayAt 108 (.slice (some ⟨b, o, none⟩) L C)).run Tryd.prog w = .ok (.pointer (some ⟨b, o, none⟩)) w := by
  have hi : (64 : Int) ≤ (L : Int) := by omega
  simp [Instr.arrayAt, run_underlying Tryd.underlying108, go_sem, h]

set_option maxRecDepth 100000 in
set_option maxHeartbeats 2000000 in
theorem blk1_iter (n : Nat) (hn : 6 ≤ n) (l Bb : Nat) (p : Option Addr) (len cap : Nat) (zs : List Nat) (hlen : len ≤ 60000) (W : World) (hI : IsBytes W.heap.size W p len cap zs)
    (hcb : Row W Bb 25 [.slice p len cap])
    (M : Nat → Prop) (Kp : World → World → Prop) (hK1 : ∀ A B, Kp A B → ∀ (k : Nat) (c : Array Value) (t : TypeId) (fr : Nat × Nat), ¬ M k → A.heap[k]? = some (Obj.cells c t fr) → B.heap[k]? = some (Obj.cells c t fr)) (hK2 : ∀ A B, Kp A B → KeepsFrom W.heap.size A B)
    (hM : ∀ k, W.heap.size ≤ k → ¬ M k) (hMb : ¬ M Bb) (hMp : len = 0 ∨ ∀ a, p = some a → ¬ M a.block) :
    IterLow Fence.wide n Tryd.prog 90 #[.pointer (some ⟨Bb, 0, none⟩)] (fun x : List Nat => #[.agg (u8s x).toArray]) (fun x _ => BlockOk x) Kp (fun xs => xs = blocksL zs) (fun pre => ∃ r, pre ++ r = blocksL zs) (len + 3) l W := by
  intro J Jx hJ hJx hY h0
  have h1 : 1 ≤ n := by omega
  have hfn : ∀ f, Fence.wide.fn f := fun _ => trivial
  have hcb1 := (hcb.alloc (.cells #[.func (.yield l) #[] #[]] 126)).cell (i := 0) rfl
  refine callsIn_of_wp_marks Tryd.func90 rfl trivial ?_ rfl
  simp only [Tryd.ntmps90, List.size_toArray, List.length_cons, List.length_nil, Nat.reduceAdd, Nat.reduceSub, Array.replicate_succ, Array.replicate_zero, List.push_toArray, List.append_toArray, List.nil_append, List.cons_append]
  gi_wp2
  have rY := Row.new W 126 #[.func (.yield l) #[] #[]]
  have hb0 : Below W.heap.size W (W.alloc (.cells #[.func (.yield l) #[] #[]] 126)) := (Below.refl _ W).alloc (Nat.le_refl _) _
  have HRel : Hid (Row (W.alloc (.cells #[.func (.yield l) #[] #[]] 126)) W.heap.size 126 [.func (.yield l) #[] #[]] ∧ Row (W.alloc (.cells #[.func (.yield l) #[] #[]] 126)) Bb 25 [.slice p len cap] ∧ IsBytes W.heap.size (W.alloc (.cells #[.func (.yield l) #[] #[]] 126)) p len cap zs ∧ J (fullL zs 0) (W.alloc (.cells #[.func (.yield l) #[] #[]] 126))) := ⟨rY, hcb.later hb0, hI.below hb0, hJ _ _ _ h0 hb0⟩
  have HSz : Hid (W.heap.size < (W.alloc (.cells #[.func (.yield l) #[] #[]] 126)).heap.size) := by show _ < _; simp
  have HIL : Hid (zs.length = len ∧ len ≤ cap ∧ cap ≤ 9223372036854775807) := ⟨hI.1, hI.2.1, hI.2.2.1⟩
  clear rY hb0 hcb1 h0 hcb hI
  generalize W.alloc (.cells #[.func (.yield l) #[] #[]] 126) = w1 at *
  gi_loopw [3] (fun r wr => ∃ (k L C : Nat) (q : Option Addr), r = .slice q L C ∧ L + 64 * k = len ∧ C + 64 * k = cap ∧ (0 < L → ∃ b off, p = some ⟨b, off, none⟩ ∧ q = some ⟨b, off + 64 * k, none⟩) ∧ Row wr W.heap.size 126 [.func (.yield l) #[] #[]] ∧ Row wr Bb 25 [.slice p len cap] ∧ IsBytes W.heap.size wr p len cap zs ∧ J (fullL zs k) wr ∧ W.heap.size < wr.heap.size)
    (fun r _ => sliceLen r)
  case atStart => exact ⟨0, len, cap, p, rfl, by omega, by omega, fun hL => by
      rcases HRel.out.2.2.1.2.2.2.2 with h | ⟨b, off, rfl, _⟩
      · omega
      · exact ⟨b, off, rfl, rfl⟩, HRel.out.1, HRel.out.2.1, HRel.out.2.2.1, HRel.out.2.2.2, HSz.out⟩
  case round =>
    obtain ⟨k, L, C, q, rfl, hL, hC, hq, hrY, hrB, hIB, hJs, hsz⟩ := hrel
    obtain ⟨hzl, hlc, hcc⟩ := HIL.out
    by_cases hL64 : 64 ≤ L
    · obtain ⟨b, off, hpe, rfl⟩ := hq (by omega)
      have HPE : Hid (p = some ⟨b, off, none⟩) := hpe
      have hL64i : (64 : Int) ≤ (L : Int) := by omega
      have hLC : L ≤ C := by omega
      have hCc : C ≤ 9223372036854775807 := by omega
      have hA := run_arrayAt108 b (off + 64 * k) L C hL64
      have hrng : wr.rangeAt b (off + 64 * k) (u8s ((zs.drop (64 * k)).take 64)) := by rw [hpe] at hIB; exact bytes_range hIB (by omega)
      have hyc := hrY.cell (i := 0) rfl
      have HVl : Hid ((u8s ((zs.drop (64 * k)).take 64)).length = 64) := by show _ = _; rw [u8s_length, List.length_take, List.length_drop]; omega
      have HYl := fun A (hA : Below wr.heap.size wr A) => hY (fullL zs k) ((zs.drop (64 * k)).take 64) A (hJ _ _ _ hJs (hA.mono (by omega))) ⟨by have := HVl.out; rwa [u8s_length] at this, fun z hz => hIB.2.2.2.1 z (List.mem_of_mem_drop (List.mem_of_mem_take hz))⟩ (by simp; omega)
      have HrY : Hid (Row wr W.heap.size 126 [.func (.yield l) #[] #[]]) := hrY
      have HrB : Hid (Row wr Bb 25 [.slice p len cap]) := hrB
      have HIB : Hid (IsBytes W.heap.size wr p len cap zs) := hIB
      clear hrY hrB hIB hJs hq HRel hpe
      have HRng : Hid (wr.rangeAt b (off + 64 * k) (u8s ((zs.drop (64 * k)).take 64))) := hrng
      rw [fullL_succ] at HYl
      generalize u8s ((zs.drop (64 * k)).take 64) = V at *
      gi_wp2
      refine wpIn_region_any (by kernel_rfl) ?_
      change wpAnyIn _ _ _ _ _ _ _ _ _ wr.drew
      refine wpAnyIn_either (i := 0) (j := 1) (by kernel_rfl) rfl rfl (by rfl) (by rfl) (fun K hK => ?_) (fun K hK => ?_)
      · go_simp
        refine hK.out _ _ ?_
        clear hK K
        refine wpAnyIn_only (i := 1) (by kernel_rfl) rfl (by rfl) (fun K hK => ?_)
        go_simp
        refine hK.out _ _ ?_
        clear hK K
        refine wpAnyIn_only (i := 2) (by kernel_rfl) rfl (by rfl) (fun K hK => ?_)
        go_simp
        refine hK.out _ _ ?_
        clear hK K
        refine wpAnyIn_only (i := 3) (by kernel_rfl) rfl (by rfl) (fun K hK => ?_)
        refine operIn_wide _ (by intro c hc; cases hc) (wp_load_mid 108 (.tmp 11) rfl b (off + 64 * k) rfl V _ HRng.out Tryd.underlying108 rfl (by rw [HVl.out]; exact size108') ?_)
        simp only [Act.put, List.setIfInBounds_toArray]
        refine hK.out _ _ ?_
        clear hK K
        obtain ⟨fn, tmps, assign, body, hy, hR⟩ := HYl wr.drew (Below.refl _ wr).drew
        refine wpAnyIn_only (i := 4) (by kernel_rfl) rfl (by rfl) (fun K hK => ?_)
        go_simp
        refine RoundIn.mono hR ?_
        rintro e W3 (⟨rfl, hJ3, hk3⟩ | ⟨rfl, hJx3, hk3⟩)
        · refine hK.out _ _ ?_
          clear hK K
          refine wpAnyIn_only (i := 5) (by kernel_rfl) rfl (by rfl) (fun K hK => ?_)
          go_simp
          refine hK.out _ _ ⟨by kernel_rfl, ?_⟩
          clear hK K
          have kY : Hid (Row W3 W.heap.size 126 [.func (.yield l) #[] #[]]) := hK1 _ _ hk3 _ _ _ _ (hM _ (Nat.le_refl _)) HrY.out
          have kB : Hid (Row W3 Bb 25 [.slice p len cap]) := hK1 _ _ hk3 _ _ _ _ hMb HrB.out
          have kI : Hid (IsBytes W.heap.size W3 p len cap zs) := IsBytes.kept (A := wr.drew) (hK1 _ _ hk3) hMp HIB.out
          have kS : Hid (W.heap.size < W3.heap.size) := Nat.lt_of_lt_of_le hsz (hK2 _ _ hk3).size
          have KJ : Hid (J (fullL zs (k + 1)) W3) := hJ3
          clear hJ3
          gi_wp2
          go_roundw
          case rel =>
            exact ⟨k + 1, L - 64, C - 64, _, rfl, by omega, by omega, fun hh => ⟨b, off, HPE.out, by rw [if_neg (by omega), Nat.add_assoc]; rfl⟩, kY.out, kB.out, kI.out, KJ.out, kS.out⟩
          case measure => simp only [sliceLen]; omega
        · refine hK.out _ _ ?_
          clear hK K
          refine wpAnyIn_only (i := 5) (by kernel_rfl) rfl (by rfl) (fun K hK => ?_)
          go_simp
          refine hK.out _ _ ⟨by kernel_rfl, ?_⟩
          clear hK K
          have KJ : Hid (Jx (fullL zs (k + 1)) W3) := hJx3
          clear hJx3
          gi_wp2
          exact ⟨_, results_none rfl _ _ _, ⟨_, rfl⟩, .inr ⟨_, blocksL_prefix zs (by omega), KJ.out⟩⟩
      · go_simp
        refine hK.out _ _ ?_
        clear hK K
        refine wpAnyIn_either (i := 0) (j := 2) (by kernel_rfl) rfl rfl (by rfl) (by rfl) (fun K hK => ?_) (fun K hK => ?_)
        · go_simp
          refine hK.out _ _ ?_
          clear hK K
          refine wpAnyIn_only (i := 2) (by kernel_rfl) rfl (by rfl) (fun K hK => ?_)
          go_simp
          refine hK.out _ _ ?_
          clear hK K
          refine wpAnyIn_only (i := 3) (by kernel_rfl) rfl (by rfl) (fun K hK => ?_)
          refine operIn_wide _ (by intro c hc; cases hc) (wp_load_mid 108 (.tmp 11) rfl b (off + 64 * k) rfl V _ HRng.out Tryd.underlying108 rfl (by rw [HVl.out]; exact size108') ?_)
          simp only [Act.put, List.setIfInBounds_toArray]
          refine hK.out _ _ ?_
          clear hK K
          obtain ⟨fn, tmps, assign, body, hy, hR⟩ := HYl wr.drew (Below.refl _ wr).drew
          refine wpAnyIn_only (i := 4) (by kernel_rfl) rfl (by rfl) (fun K hK => ?_)
          go_simp
          refine RoundIn.mono hR ?_
          rintro e W3 (⟨rfl, hJ3, hk3⟩ | ⟨rfl, hJx3, hk3⟩)
          · refine hK.out _ _ ?_
            clear hK K
            refine wpAnyIn_only (i := 5) (by kernel_rfl) rfl (by rfl) (fun K hK => ?_)
            go_simp
            refine hK.out _ _ ⟨by kernel_rfl, ?_⟩
            clear hK K
            have kY : Hid (Row W3 W.heap.size 126 [.func (.yield l) #[] #[]]) := hK1 _ _ hk3 _ _ _ _ (hM _ (Nat.le_refl _)) HrY.out
            have kB : Hid (Row W3 Bb 25 [.slice p len cap]) := hK1 _ _ hk3 _ _ _ _ hMb HrB.out
            have kI : Hid (IsBytes W.heap.size W3 p len cap zs) := IsBytes.kept (A := wr.drew) (hK1 _ _ hk3) hMp HIB.out
            have kS : Hid (W.heap.size < W3.heap.size) := Nat.lt_of_lt_of_le hsz (hK2 _ _ hk3).size
            have KJ : Hid (J (fullL zs (k + 1)) W3) := hJ3
            clear hJ3
            gi_wp2
            go_roundw
            case rel =>
              exact ⟨k + 1, L - 64, C - 64, _, rfl, by omega, by omega, fun hh => ⟨b, off, HPE.out, by rw [if_neg (by omega), Nat.add_assoc]; rfl⟩, kY.out, kB.out, kI.out, KJ.out, kS.out⟩
            case measure => simp only [sliceLen]; omega
          · refine hK.out _ _ ?_
            clear hK K
            refine wpAnyIn_only (i := 5) (by kernel_rfl) rfl (by rfl) (fun K hK => ?_)
            go_simp
            refine hK.out _ _ ⟨by kernel_rfl, ?_⟩
            clear hK K
            have KJ : Hid (Jx (fullL zs (k + 1)) W3) := hJx3
            clear hJx3
            gi_wp2
            exact ⟨_, results_none rfl _ _ _, ⟨_, rfl⟩, .inr ⟨_, blocksL_prefix zs (by omega), KJ.out⟩⟩
        · go_simp
          refine hK.out _ _ ?_
          clear hK K
          refine wpAnyIn_either (i := 0) (j := 3) (by kernel_rfl) rfl rfl (by rfl) (by rfl) (fun K hK => ?_) (fun K hK => ?_)
          · go_simp
            refine hK.out _ _ ?_
            clear hK K
            refine wpAnyIn_only (i := 3) (by kernel_rfl) rfl (by rfl) (fun K hK => ?_)
            refine operIn_wide _ (by intro c hc; cases hc) (wp_load_mid 108 (.tmp 11) rfl b (off + 64 * k) rfl V _ HRng.out Tryd.underlying108 rfl (by rw [HVl.out]; exact size108') ?_)
            simp only [Act.put, List.setIfInBounds_toArray]
            refine hK.out _ _ ?_
            clear hK K
            obtain ⟨fn, tmps, assign, body, hy, hR⟩ := HYl wr.drew (Below.refl _ wr).drew
            refine wpAnyIn_only (i := 4) (by kernel_rfl) rfl (by rfl) (fun K hK => ?_)
            go_simp
            refine RoundIn.mono hR ?_
            rintro e W3 (⟨rfl, hJ3, hk3⟩ | ⟨rfl, hJx3, hk3⟩)
            · refine hK.out _ _ ?_
              clear hK K
              refine wpAnyIn_only (i := 5) (by kernel_rfl) rfl (by rfl) (fun K hK => ?_)
              go_simp
              refine hK.out _ _ ⟨by kernel_rfl, ?_⟩
              clear hK K
              have kY : Hid (Row W3 W.heap.size 126 [.func (.yield l) #[] #[]]) := hK1 _ _ hk3 _ _ _ _ (hM _ (Nat.le_refl _)) HrY.out
              have kB : Hid (Row W3 Bb 25 [.slice p len cap]) := hK1 _ _ hk3 _ _ _ _ hMb HrB.out
              have kI : Hid (IsBytes W.heap.size W3 p len cap zs) := IsBytes.kept (A := wr.drew) (hK1 _ _ hk3) hMp HIB.out
              have kS : Hid (W.heap.size < W3.heap.size) := Nat.lt_of_lt_of_le hsz (hK2 _ _ hk3).size
              have KJ : Hid (J (fullL zs (k + 1)) W3) := hJ3
              clear hJ3
              gi_wp2
              go_roundw
              case rel =>
                exact ⟨k + 1, L - 64, C - 64, _, rfl, by omega, by omega, fun hh => ⟨b, off, HPE.out, by rw [if_neg (by omega), Nat.add_assoc]; rfl⟩, kY.out, kB.out, kI.out, KJ.out, kS.out⟩
              case measure => simp only [sliceLen]; omega
            · refine hK.out _ _ ?_
              clear hK K
              refine wpAnyIn_only (i := 5) (by kernel_rfl) rfl (by rfl) (fun K hK => ?_)
              go_simp
              refine hK.out _ _ ⟨by kernel_rfl, ?_⟩
              clear hK K
              have KJ : Hid (Jx (fullL zs (k + 1)) W3) := hJx3
              clear hJx3
              gi_wp2
              exact ⟨_, results_none rfl _ _ _, ⟨_, rfl⟩, .inr ⟨_, blocksL_prefix zs (by omega), KJ.out⟩⟩
          · refine operIn_wide _ (by intro c hc; cases hc) (wp_load_mid 108 (.tmp 11) rfl b (off + 64 * k) rfl V _ HRng.out Tryd.underlying108 rfl (by rw [HVl.out]; exact size108') ?_)
            simp only [Act.put, List.setIfInBounds_toArray]
            refine hK.out _ _ ?_
            clear hK K
            refine wpAnyIn_only (i := 0) (by kernel_rfl) rfl (by rfl) (fun K hK => ?_)
            go_simp
            refine hK.out _ _ ?_
            clear hK K
            obtain ⟨fn, tmps, assign, body, hy, hR⟩ := HYl wr.drew (Below.refl _ wr).drew
            refine wpAnyIn_only (i := 4) (by kernel_rfl) rfl (by rfl) (fun K hK => ?_)
            go_simp
            refine RoundIn.mono hR ?_
            rintro e W3 (⟨rfl, hJ3, hk3⟩ | ⟨rfl, hJx3, hk3⟩)
            · refine hK.out _ _ ?_
              clear hK K
              refine wpAnyIn_only (i := 5) (by kernel_rfl) rfl (by rfl) (fun K hK => ?_)
              go_simp
              refine hK.out _ _ ⟨by kernel_rfl, ?_⟩
              clear hK K
              have kY : Hid (Row W3 W.heap.size 126 [.func (.yield l) #[] #[]]) := hK1 _ _ hk3 _ _ _ _ (hM _ (Nat.le_refl _)) HrY.out
              have kB : Hid (Row W3 Bb 25 [.slice p len cap]) := hK1 _ _ hk3 _ _ _ _ hMb HrB.out
              have kI : Hid (IsBytes W.heap.size W3 p len cap zs) := IsBytes.kept (A := wr.drew) (hK1 _ _ hk3) hMp HIB.out
              have kS : Hid (W.heap.size < W3.heap.size) := Nat.lt_of_lt_of_le hsz (hK2 _ _ hk3).size
              have KJ : Hid (J (fullL zs (k + 1)) W3) := hJ3
              clear hJ3
              gi_wp2
              go_roundw
              case rel =>
                exact ⟨k + 1, L - 64, C - 64, _, rfl, by omega, by omega, fun hh => ⟨b, off, HPE.out, by rw [if_neg (by omega), Nat.add_assoc]; rfl⟩, kY.out, kB.out, kI.out, KJ.out, kS.out⟩
              case measure => simp only [sliceLen]; omega
            · refine hK.out _ _ ?_
              clear hK K
              refine wpAnyIn_only (i := 5) (by kernel_rfl) rfl (by rfl) (fun K hK => ?_)
              go_simp
              refine hK.out _ _ ⟨by kernel_rfl, ?_⟩
              clear hK K
              have KJ : Hid (Jx (fullL zs (k + 1)) W3) := hJx3
              clear hJx3
              gi_wp2
              exact ⟨_, results_none rfl _ _ _, ⟨_, rfl⟩, .inr ⟨_, blocksL_prefix zs (by omega), KJ.out⟩⟩
    · have hL64i : (L : Int) < 64 := by omega
      have HIr : Hid (IsBytes W.heap.size wr q L C (zs.drop (64 * k))) := hIB.rest hL hC hq
      have HLen : Hid (64 * k = 64 * (zs.length / 64) ∧ k = zs.length / 64) := ⟨by omega, by omega⟩
      have hcB := hrB.cell (i := 0) rfl
      have eU : IntKind.u64.wrap (len : Int) = (len : Int) := by rw [IntKind.wrap_u64]; omega
      have HrY : Hid (Row wr W.heap.size 126 [.func (.yield l) #[] #[]]) := hrY
      have HrB : Hid (Row wr Bb 25 [.slice p len cap]) := hrB
      have HJs : Hid (J (fullL zs k) wr) := hJs
      have HJ : Hid (Low W.heap.size J) := hJ
      have HJx : Hid (Low W.heap.size Jx) := hJx
      clear hq hIB hrY hrB hJs HRel
      gi_wp2_with (gi_at_call 80; refine (last_in _ _ _ _ rfl).mono ?_; rintro e w' ⟨rfl, rfl⟩)
      have rr := Row.new wr 25 #[.slice q L C]
      have rl := Row.new (wr.alloc (.cells #[.slice q L C] 25)) 125 #[.int .u64 (len : Nat)]
      rw [World.size_alloc] at rl
      have HR3 : Hid (Row ((wr.alloc (.cells #[.slice q L C] 25)).alloc (.cells #[.int .u64 (len : Nat)] 125)) wr.heap.size 25 [.slice q L C] ∧ Row ((wr.alloc (.cells #[.slice q L C] 25)).alloc (.cells #[.int .u64 (len : Nat)] 125)) (wr.heap.size + 1) 125 [.int .u64 (len : Nat)]) := ⟨rr.alloc _, rl⟩
      have hb3 : Below wr.heap.size wr ((wr.alloc (.cells #[.slice q L C] 25)).alloc (.cells #[.int .u64 (len : Nat)] 125)) := ((Below.refl _ wr).alloc (Nat.le_refl _) _).alloc (by simp) _
      have hs3 : ((wr.alloc (.cells #[.slice q L C] 25)).alloc (.cells #[.int .u64 (len : Nat)] 125)).heap.size = wr.heap.size + 2 := by simp
      clear rr rl
      generalize (wr.alloc (.cells #[.slice q L C] 25)).alloc (.cells #[.int .u64 (len : Nat)] 125) = w3 at *
      have HI3 : Hid (IsBytes w3.heap.size w3 q L C (zs.drop (64 * k))) := (HIr.out.below (hb3.mono (by omega))).mono (by omega)
      have HY3 : Hid (Row w3 W.heap.size 126 [.func (.yield l) #[] #[]]) := HrY.out.below hb3 hsz
      have HJ3 : Hid (J (fullL zs k) w3) := HJ.out _ _ _ HJs.out (hb3.mono (by omega))
      refine wpIn_rangeFunc_arr rfl h1 (gf := 89) (lb := #[.pointer (some ⟨wr.heap.size, 0, none⟩), .pointer (some ⟨wr.heap.size + 1, 0, none⟩)]) rfl trivial (enters_of Tryd.func89 (by kernel_rfl) rfl)
        (encs := fun x : List Nat => #[.agg (u8s x).toArray]) (Ok := fun x _ => BlockOk x) (Kp := KpM M (w3.heap.size + 2)) (S := fun xs => xs = lastL (zs.drop (64 * k)) len) (Sp := fun pre => ∃ r, pre ++ r = lastL (zs.drop (64 * k)) len) (N := 2)
        (fun W' hs hb => last1_iter (n - 1) (by omega) _ wr.heap.size (wr.heap.size + 1) len q L C (zs.drop (64 * k)) (by omega) W' ((HI3.out.below hb).mono (by omega)) ((HR3.out.1.later hb).cell (i := 0) rfl) (HR3.out.2.later hb) M _ (fun _ _ h => h.1) (fun j hj => hM j (by omega)) (hM _ (by omega)))
        KpM.trans (fun A o o' ho hc => KpM.record (by omega) o' ho hc) KpM.of_below (fun _ => rfl) 108 (fun x => u8s x)
        (fun pre A => J (fullL zs k ++ pre) A ∧ Row A W.heap.size 126 [.func (.yield l) #[] #[]])
        (fun c pre A => c = .ret ∧ Jx (fullL zs k ++ pre) A)
        (Low.and (fun s A B h hb => HJ.out _ _ _ h (hb.mono (by omega))) (low_row (by omega) _))
        (fun c s A B h hb => ⟨h.1, HJx.out _ _ _ h.2 (hb.mono (by omega))⟩)
        (fun _ _ _ h _ => h)
        ⟨by rw [List.append_nil]; exact HJ3.out, HY3.out⟩
        (fun x A => { tmps := #[.func (.yield l) #[] #[], .pointer (some ⟨Bb, 0, none⟩), .pointer (some ⟨W.heap.size, 0, none⟩), .slice q L C, .pointer (some ⟨A.heap.size, 0, none⟩), .slice p len cap, .slice q L C, .int .i64 L, .bool (decide ((64 : Int) ≤ L)), u9, u10, u11, u12, u13, u14, u15, u16, .slice q L C, .slice p len cap, .int .i64 len, .int .u64 len,
          .func (.func 89) #[] #[.pointer (some ⟨wr.heap.size, 0, none⟩), .pointer (some ⟨wr.heap.size + 1, 0, none⟩)], .agg (u8s x).toArray, undef, undef, undef, undef], defers := [] }) ?assign ?body ?done ?stop
      case assign =>
        intro li x A K hok hK
        have hxl : (u8s x).length = 64 := by rw [u8s_length]; exact hok.1
        have HXL : Hid ((u8s x).length = 64) := hxl
        have HX1 : Hid (∀ v ∈ u8s x, v.oneCell' = true) := u8s_one x
        have HK : Hid (∀ W', Below A.heap.size A W' → Row W' A.heap.size 108 (u8s x) → K _ W') := hK
        clear hxl hK
        generalize u8s x = V at *
        gi_wp2_with ((with_reducible show wpListIn _ _ _ _ _ (Oper.mk _ (Op.store 108 (.tmp 4) (.tmp 22)) _ _ _ _ :: _) _ _); refine wpListIn_store_Row rfl 108 (.tmp 4) (.tmp 22) rfl V rfl rfl (Row.new _ _ _) (by rw [HXL.out]; exact size108') (by rw [HXL.out]; rfl) HX1.out ?_; simp only [Act.put])
        exact HK.out _ (below_setCells (Nat.le_refl _) _ _ ((Below.refl _ A).alloc (Nat.le_refl _) _)) (Row.sets_all (Row.new _ _ _) (by rw [HXL.out]; rfl))
      case body =>
        rintro li pre x A₀ A ⟨hJA, hrY⟩ hok hN hle hrow
        have hyc := hrY.cell (i := 0) rfl
        obtain ⟨fn, tmps, assign, body, hy, hR⟩ := hY (fullL zs k ++ pre) x A hJA hok (by simp; omega)
        have HXL : Hid ((u8s x).length = 64) := by show _ = _; rw [u8s_length]; exact hok.1
        have HRow : Hid (Row A A₀.heap.size 108 (u8s x)) := hrow
        have HRY : Hid (Row A W.heap.size 126 [.func (.yield l) #[] #[]]) := hrY
        have HAs : Hid (fullL zs k ++ pre ++ [x] = fullL zs k ++ (pre ++ [x])) := List.append_assoc _ _ _
        rw [HAs.out] at hR
        clear hrow hrY
        generalize u8s x = V at *
        gi_wp2_with ((with_reducible show wpListIn _ _ _ _ _ (Oper.mk _ (Op.load 108 (.tmp 4)) _ _ _ _ :: _) _ _); refine wpListIn_load_Row rfl 108 (.tmp 4) rfl rfl HRow.out Tryd.underlying108 (by rw [HXL.out]; exact size108') ?_; simp only [Act.put, List.setIfInBounds_toArray, List.set_cons_zero, List.set_cons_succ])
        refine ⟨fun _ => by omega, RoundIn.mono (show RoundIn (Fence.wide.inRound li) _ _ _ _ _ _ _ _ _ from ⟨hR.1, fun c cs _ => hR.2 c cs (room_wide _)⟩) ?_⟩
        rintro e A3 (⟨rfl, hJ3, hk3⟩ | ⟨rfl, hJ3, hk3⟩)
        · have kY : Hid (Row A3 W.heap.size 126 [.func (.yield l) #[] #[]]) := hK1 _ _ hk3 _ _ _ _ (hM _ (Nat.le_refl _)) HRY.out
          gi_wp2
          exact ⟨keepsFrom_ge (hK2 _ _ hk3) (by omega), ⟨hK1 _ _ hk3, keepsFrom_ge (hK2 _ _ hk3) (by omega)⟩, hJ3, kY.out⟩
        · gi_wp2
          exact ⟨keepsFrom_ge (hK2 _ _ hk3) (by omega), ⟨hK1 _ _ hk3, keepsFrom_ge (hK2 _ _ hk3) (by omega)⟩, rfl, hJ3⟩
      case done =>
        rintro D xs A hD hS ⟨hJA, hrY⟩ hKD
        have HF : Hid (fullL zs k ++ xs = blocksL zs) := by
          show _ = _
          have := HLen.out
          rw [hS, blocksL, ← this.1, ← this.2, hzl]
        clear hS
        gi_wp2
        refine ⟨by simp, .inl ⟨_, _, rfl, run_takeDeferred hKD, ?_⟩⟩
        exact ⟨_, results_none rfl _ _ _, ⟨_, rfl⟩, .inl ⟨_, HF.out, low_putObj HJ.out _ hJA (by omega)⟩⟩
      case stop =>
        rintro D c pre A hD ⟨r, hr⟩ ⟨rfl, hJA⟩ hKD
        have HF : Hid ((fullL zs k ++ pre) ++ r = blocksL zs) := by
          show _ = _
          have := HLen.out
          rw [List.append_assoc, hr, blocksL, ← this.1, ← this.2, hzl]
        clear hr
        gi_wp2
        refine ⟨by simp, .inl ⟨_, _, rfl, run_takeDeferred hKD, ?_⟩⟩
        exact ⟨_, results_none rfl _ _ _, ⟨_, rfl⟩, .inr ⟨_, ⟨r, HF.out⟩, low_putObj HJx.out _ hJA (by omega)⟩⟩

set_option maxHeartbeats 1000000 in
/-- sha.blocks: the argument is boxed; the function value captures the box. -/
theorem blk_in (n : Nat) (p : Option Addr) (len cap : Nat) (w : World) :
    CallsIn Fence.wide n Tryd.prog 83 #[.slice p len cap] w fun e w' =>
      e = .returned (.func (.func 90) #[] #[.pointer (some ⟨w.heap.size, 0, none⟩)]) ∧ w' = w.alloc (.cells #[.slice p len cap] 25) := by
  refine callsIn_of_wp Tryd.func83 rfl trivial ?_ rfl
  simp only [Tryd.ntmps83, List.size_toArray, List.length_cons, List.length_nil, Nat.reduceAdd, Nat.reduceSub, Array.replicate_succ, Array.replicate_zero, List.push_toArray, List.append_toArray, List.nil_append, List.cons_append]
  gi_wp2
  go_ret
  exact ⟨rfl, rfl⟩

end Go.Proofs.YtobmcaknfbooiaaDoor.Sh
/-
  What sha.ror, vec.Rol, the reference's Rol and math/bits.RotateLeft32 answer: the word turned up by n modulo 32 bits, for every word and every n; and that turning back by as many bits gives the word again.
-/
namespace Go.Proofs.YtobmcaknfbooiaaDoor.Sh
open Go.RowKit

theorem i64_and31 (n : Int) : bits .and .i64 n 31 = n % 32 := by
  have h31 : (BitVec.ofInt 64 31).toNat = 2 ^ 5 - 1 := by decide
  have key : (BitVec.ofInt 64 n &&& BitVec.ofInt 64 31).toNat = (n % ((2 ^ 64 : Nat) : Int)).toNat % 2 ^ 5 := by
    rw [BitVec.toNat_and, BitVec.toNat_ofInt, h31, Nat.and_two_pow_sub_one_eq_mod]
  show IntKind.i64.wrap ((BitVec.ofInt 64 n &&& BitVec.ofInt 64 31).toNat : Nat) = n % 32
  rw [key, IntKind.wrap_i64]
  omega
theorem u64_and31 (n : Int) : bits .and .u64 (IntKind.u64.wrap n) 31 = n % 32 := by
  have h31 : (BitVec.ofInt 64 31).toNat = 2 ^ 5 - 1 := by decide
  have key : (BitVec.ofInt 64 (IntKind.u64.wrap n) &&& BitVec.ofInt 64 31).toNat = ((IntKind.u64.wrap n) % ((2 ^ 64 : Nat) : Int)).toNat % 2 ^ 5 := by
    rw [BitVec.toNat_and, BitVec.toNat_ofInt, h31, Nat.and_two_pow_sub_one_eq_mod]
  show IntKind.u64.wrap ((BitVec.ofInt 64 (IntKind.u64.wrap n) &&& BitVec.ofInt 64 31).toNat : Nat) = n % 32
  rw [key, IntKind.wrap_u64, IntKind.wrap_u64]
  omega

/-- x, turned up by k bits (k below 32). -/
def rolN (x k : Nat) : Nat := x * 2 ^ k % 4294967296 + x / 2 ^ (32 - k)

theorem pow_split (k : Nat) (hk : k ≤ 32) : 2 ^ k * 2 ^ (32 - k) = 4294967296 := by
  rw [← Nat.pow_add, show k + (32 - k) = 32 by omega]

theorem rolN_eq (x k : Nat) (hk : k ≤ 32) : rolN x k = 2 ^ k * (x % 2 ^ (32 - k)) + x / 2 ^ (32 - k) := by
  unfold rolN
  rw [← pow_split k hk, Nat.mul_comm x, Nat.mul_mod_mul_left]

theorem rolN_lt (x k : Nat) (hx : x < 4294967296) (hk : k ≤ 32) : rolN x k < 4294967296 := by
  rw [rolN_eq x k hk]
  have hb : 0 < 2 ^ (32 - k) := Nat.two_pow_pos _
  have h1 := Nat.mod_lt x hb
  have h2 : x / 2 ^ (32 - k) < 2 ^ k := Nat.div_lt_of_lt_mul (by rw [Nat.mul_comm, pow_split k hk]; exact hx)
  have h3 := pow_split k hk
  have h4 : 2 ^ k * (x % 2 ^ (32 - k)) + 2 ^ k ≤ 2 ^ k * 2 ^ (32 - k) := by
    rw [← Nat.mul_succ]; exact Nat.mul_le_mul_left _ h1
  omega

theorem rolN_back (x k : Nat) (hx : x < 4294967296) (hk : k ≤ 32) : rolN (rolN x k) (32 - k) = x := by
  rw [rolN_eq _ (32 - k) (by omega), show 32 - (32 - k) = k by omega, rolN_eq x k hk]
  have hb : 0 < 2 ^ (32 - k) := Nat.two_pow_pos _
  have ha : 0 < 2 ^ k := Nat.two_pow_pos _
  have h2 : x / 2 ^ (32 - k) < 2 ^ k := Nat.div_lt_of_lt_mul (by rw [Nat.mul_comm, pow_split k hk]; exact hx)
  rw [Nat.mul_add_mod, Nat.mod_eq_of_lt h2, Nat.mul_add_div ha, Nat.div_eq_of_lt h2]
  have := Nat.div_add_mod x (2 ^ (32 - k))
  omega

theorem rolN_zero (x : Nat) (hx : x < 4294967296) : rolN x 0 = x := by
  unfold rolN; omega

theorem or_rolN (X k : Nat) (hX : X < 4294967296) (hk : k ≤ 32) : bits .or .u32 ((X : Int) * 2 ^ k % 4294967296) ((X : Int) / 2 ^ (32 - k)) = ((rolN X k : Nat) : Int) := by
  have h2 : X / 2 ^ (32 - k) < 2 ^ k := Nat.div_lt_of_lt_mul (by rw [Nat.mul_comm, pow_split k hk]; exact hX)
  have hp : 2 ^ k ≤ 4294967296 := by have h := Nat.pow_le_pow_right (n := 2) (by decide) hk; exact h
  have e1 : ((X : Int) * 2 ^ k % 4294967296) = ((X * 2 ^ k % 4294967296 : Nat) : Int) := by simp
  have e2 : ((X : Int) / 2 ^ (32 - k)) = ((X / 2 ^ (32 - k) : Nat) : Int) := by simp
  have h5 : X * 2 ^ k % 4294967296 < 4294967296 := Nat.mod_lt _ (by decide)
  have h7 : X * 2 ^ k % 4294967296 % 2 ^ k = 0 := by
    rw [← pow_split k hk, Nat.mul_comm X, Nat.mul_mod_mul_left]; simp
  have h8 : X / 2 ^ (32 - k) < 4294967296 := by omega
  unfold rolN
  rw [e1, e2]
  clear e1 e2
  generalize X * 2 ^ k % 4294967296 = U at *
  generalize X / 2 ^ (32 - k) = V at *
  rw [bits_join .u32 32 (by decide) (fun n h0 h1 => by rw [IntKind.wrap_u32]; omega) k]
  · simp
  · omega
  · exact_mod_cast h7
  · omega
  · omega
  · exact_mod_cast h2
  · omega


set_option maxHeartbeats 400000 in
theorem rot_any (X : Nat) (n : Int) (k : Nat) (w : World) (h1 : X < 4294967296) (hk : n % 32 = k) (hk2 : k < 32) :
    Calls Tryd.prog 96 #[.int .u32 X, .int .i64 n] w fun e w' => e = .returned (.int .u32 (rolN X k)) ∧ w' = w := by
  have e := u64_and31 n
  rw [hk] at e
  clear hk
  go_enter Tryd.func96, Tryd.ntmps96
  go_wp2
  go_ret
  rw [← or_rolN X k h1 (by omega)]
  exact ⟨rfl, rfl⟩

set_option maxHeartbeats 400000 in
/-- vec.Rol -/
theorem rol_any (X : Nat) (n : Int) (k : Nat) (w : World) (h1 : X < 4294967296) (hk : n % 32 = k) (hk2 : k < 32) :
    Calls Tryd.prog 95 #[.int .u32 X, .int .i64 n] w fun e w' => e = .returned (.int .u32 (rolN X k)) ∧ w' = w := by
  have HK : Hid (n % 32 = k) := hk
  clear hk
  go_enter Tryd.func95, Tryd.ntmps95
  go_wp2_with (go_at_call 96; refine (rot_any X n k _ h1 HK.out hk2).mono ?_; rintro e w' ⟨rfl, rfl⟩)
  go_ret
  exact ⟨rfl, rfl⟩

set_option maxHeartbeats 400000 in
/-- sha.ror -/
theorem ror_any (X n : Nat) (w : World) (h1 : X < 4294967296) (hn0 : 0 < n) (hn : n < 32) :
    Calls Tryd.prog 93 #[.int .u32 X, .int .i64 n] w fun e w' => e = .returned (.int .u32 (rolN X (32 - n) : Nat)) ∧ w' = w := by
  have HC : Hid (∀ w, Calls Tryd.prog 95 #[.int .u32 X, .int .i64 (-(n : Int))] w fun e w' => e = .returned (.int .u32 (rolN X (32 - n) : Nat)) ∧ w' = w) := fun w => rol_any X (-(n : Int)) (32 - n) w h1 (by omega) (by omega)
  go_enter Tryd.func93, Tryd.ntmps93
  go_wp2_with (go_at_call 95; refine (HC.out _).mono ?_; rintro e w' ⟨rfl, rfl⟩)
  go_ret
  exact ⟨rfl, rfl⟩

end Go.Proofs.YtobmcaknfbooiaaDoor.Sh
/-
  SHA-256 on plain numbers: the words of a block, a round, a block taken in; and how the program's and the reference's reckonings in 32 bits are told by it.
-/
namespace Go.Proofs.YtobmcaknfbooiaaDoor.Sh
open Go Go.RowKit

/-- x, turned down by n bits. -/
def ror (x n : Nat) : Nat := rolN x (32 - n)
theorem ror_lt {x n : Nat} (h : x < 4294967296) : ror x n < 4294967296 := rolN_lt x _ h (by omega)

def wordB (a b c d : Nat) : Nat := 16777216 * a + 65536 * b + 256 * c + d
def word4 (bs : List Nat) (i : Nat) : Nat := wordB (bs.getD (4 * i) 0) (bs.getD (4 * i + 1) 0) (bs.getD (4 * i + 2) 0) (bs.getD (4 * i + 3) 0)

def sig1 (x : Nat) : Nat := ror x 17 ^^^ ror x 19 ^^^ x / 1024
def sig0 (x : Nat) : Nat := ror x 7 ^^^ ror x 18 ^^^ x / 8
/-- The next word of a schedule. -/
def extN (a b c d : Nat) : Nat := (a + b + sig1 c + sig0 d) % 4294967296
def nextW (l : List Nat) : Nat := extN (l.getD (l.length - 16) 0) (l.getD (l.length - 7) 0) (l.getD (l.length - 2) 0) (l.getD (l.length - 15) 0)
def firstW (bs : List Nat) (k : Nat) : List Nat := (List.range k).map (word4 bs)
def growW (bs : List Nat) : Nat → List Nat
  | 0 => firstW bs 16
  | k + 1 => growW bs k ++ [nextW (growW bs k)]
/-- The words of a block. -/
def sched (bs : List Nat) : List Nat := growW bs 48

@[simp] theorem firstW_length (bs : List Nat) (k : Nat) : (firstW bs k).length = k := by simp [firstW]
theorem firstW_succ (bs : List Nat) (k : Nat) : firstW bs (k + 1) = firstW bs k ++ [word4 bs k] := by simp [firstW, List.range_succ]
@[simp] theorem growW_length (bs : List Nat) : ∀ k, (growW bs k).length = 16 + k
  | 0 => by simp [growW]
  | k + 1 => by simp [growW, growW_length bs k]; omega

theorem all_getD {l : List Nat} {N : Nat} (hN : 0 < N) (h : ∀ z ∈ l, z < N) (i : Nat) : l.getD i 0 < N := by
  by_cases hi : i < l.length
  · simp only [List.getD_eq_getElem?_getD, List.getElem?_eq_getElem hi, Option.getD_some]; exact h _ (List.getElem_mem hi)
  · simp [List.getElem?_eq_none (show l.length ≤ i by omega), hN]

theorem wordB_lt {a b c d : Nat} (ha : a < 256) (hb : b < 256) (hc : c < 256) (hd : d < 256) : wordB a b c d < 4294967296 := by unfold wordB; omega
theorem extN_lt (a b c d : Nat) : extN a b c d < 4294967296 := Nat.mod_lt _ (by decide)
theorem growW_lt (bs : List Nat) (hb : ∀ z ∈ bs, z < 256) : ∀ k, ∀ z ∈ growW bs k, z < 4294967296
  | 0 => by
    intro z hz
    obtain ⟨i, _, rfl⟩ := List.mem_map.1 hz
    exact wordB_lt (all_getD (by decide) hb _) (all_getD (by decide) hb _) (all_getD (by decide) hb _) (all_getD (by decide) hb _)
  | k + 1 => by
    intro z hz
    rcases List.mem_append.1 hz with h | h
    · exact growW_lt bs hb k z h
    · simp at h; subst h; exact extN_lt _ _ _ _

theorem u32_or_comm (x y : Int) : bits .or .u32 x y = bits .or .u32 y x := by simp only [bits, BitVec.or_comm]
theorem u32_join (x y : Nat) (i : Nat) (h1 : x % 2 ^ i = 0) (h2 : y < 2 ^ i) (hx : x < 4294967296) (hy : y < 4294967296) : bits .or .u32 (x : Int) (y : Int) = ((x + y : Nat) : Int) := by
  rw [bits_join .u32 32 (by decide) (fun n h0 h1 => by rw [IntKind.wrap_u32]; omega) i x y (by omega) (by exact_mod_cast h1) (by omega) (by omega) (by exact_mod_cast h2) (by omega)]
  omega
theorem wordB_or (a b c d : Nat) (ha : a < 256) (hb : b < 256) (hc : c < 256) (hd : d < 256) :
    bits .or .u32 (bits .or .u32 (bits .or .u32 (IntKind.u32.wrap ((a : Int) * 16777216)) (IntKind.u32.wrap ((b : Int) * 65536))) (IntKind.u32.wrap ((c : Int) * 256))) (d : Int) = ((wordB a b c d : Nat) : Int) := by
  have e1 : IntKind.u32.wrap ((a : Int) * 16777216) = ((16777216 * a : Nat) : Int) := by rw [IntKind.wrap_u32]; omega
  have e2 : IntKind.u32.wrap ((b : Int) * 65536) = ((65536 * b : Nat) : Int) := by rw [IntKind.wrap_u32]; omega
  have e3 : IntKind.u32.wrap ((c : Int) * 256) = ((256 * c : Nat) : Int) := by rw [IntKind.wrap_u32]; omega
  unfold wordB
  rw [e1, e2, e3, u32_join _ _ 24 (by omega) (by omega) (by omega) (by omega), u32_join _ _ 16 (by omega) (by omega) (by omega) (by omega), u32_join _ _ 8 (by omega) (by omega) (by omega) (by omega)]

theorem xor_lt {x y : Nat} (hx : x < 4294967296) (hy : y < 4294967296) : x ^^^ y < 4294967296 := Nat.xor_lt_two_pow (n := 32) hx hy
theorem and_lt {x y : Nat} (hx : x < 4294967296) : x &&& y < 4294967296 := Nat.lt_of_le_of_lt Nat.and_le_left hx

theorem sig1_eq {x : Nat} (hx : x < 4294967296) : bits .xor .u32 (bits .xor .u32 ((ror x 17 : Nat) : Int) ((ror x 19 : Nat) : Int)) ((x : Int) / 1024) = ((sig1 x : Nat) : Int) := by
  rw [u32_xor_nat _ _ (ror_lt hx) (ror_lt hx), show ((x : Int) / 1024) = ((x / 1024 : Nat) : Int) by simp, u32_xor_nat _ _ (xor_lt (ror_lt hx) (ror_lt hx)) (by omega)]
  rfl
theorem sig0_eq {x : Nat} (hx : x < 4294967296) : bits .xor .u32 (bits .xor .u32 ((ror x 7 : Nat) : Int) ((ror x 18 : Nat) : Int)) ((x : Int) / 8) = ((sig0 x : Nat) : Int) := by
  rw [u32_xor_nat _ _ (ror_lt hx) (ror_lt hx), show ((x : Int) / 8) = ((x / 8 : Nat) : Int) by simp, u32_xor_nat _ _ (xor_lt (ror_lt hx) (ror_lt hx)) (by omega)]
  rfl
/-- The program's sum. -/
theorem ext_eq {a b c d : Nat} (hc : c < 4294967296) (hd : d < 4294967296) :
    IntKind.u32.wrap (IntKind.u32.wrap (IntKind.u32.wrap ((a : Int) + b) + bits .xor .u32 (bits .xor .u32 ((ror c 17 : Nat) : Int) ((ror c 19 : Nat) : Int)) ((c : Int) / 1024)) + bits .xor .u32 (bits .xor .u32 ((ror d 7 : Nat) : Int) ((ror d 18 : Nat) : Int)) ((d : Int) / 8)) = ((extN a b c d : Nat) : Int) := by
  rw [sig1_eq hc, sig0_eq hd]
  unfold extN
  simp only [IntKind.wrap_u32]
  omega
/-- The reference's sum. -/
theorem ext_eq' {a b c d : Nat} (hc : c < 4294967296) (hd : d < 4294967296) :
    IntKind.u32.wrap (IntKind.u32.wrap (IntKind.u32.wrap (bits .xor .u32 (bits .xor .u32 ((ror c 17 : Nat) : Int) ((ror c 19 : Nat) : Int)) ((c : Int) / 1024) + (b : Int)) + bits .xor .u32 (bits .xor .u32 ((ror d 7 : Nat) : Int) ((ror d 18 : Nat) : Int)) ((d : Int) / 8)) + (a : Int)) = ((extN a b c d : Nat) : Int) := by
  rw [sig1_eq hc, sig0_eq hd]
  unfold extN
  simp only [IntKind.wrap_u32]
  omega
theorem sched_length (bs : List Nat) : (sched bs).length = 64 := growW_length bs 48
theorem sched_lt (bs : List Nat) (hb : ∀ z ∈ bs, z < 256) : ∀ z ∈ sched bs, z < 4294967296 := growW_lt bs hb 48

end Go.Proofs.YtobmcaknfbooiaaDoor.Sh
/-
  The rounds of SHA-256 on plain numbers, and the table of their words.
-/
namespace Go.Proofs.YtobmcaknfbooiaaDoor.Sh
open Go Go.RowKit

/-- The words of the rounds. -/
def kW : List Nat := [1116352408, 1899447441, 3049323471, 3921009573, 961987163, 1508970993, 2453635748, 2870763221, 3624381080, 310598401, 607225278, 1426881987, 1925078388, 2162078206, 2614888103, 3248222580, 3835390401, 4022224774, 264347078, 604807628, 770255983, 1249150122, 1555081692, 1996064986, 2554220882, 2821834349, 2952996808, 3210313671, 3336571891, 3584528711, 113926993, 338241895, 666307205, 773529912, 1294757372, 1396182291, 1695183700, 1986661051, 2177026350, 2456956037, 2730485921, 2820302411, 3259730800, 3345764771, 3516065817, 3600352804, 4094571909, 275423344, 430227734, 506948616, 659060556, 883997877, 958139571, 1322822218, 1537002063, 1747873779, 1955562222, 2024104815, 2227730452, 2361852424, 2428436474, 2756734187, 3204031479, 3329325298]
theorem kW_length : kW.length = 64 := rfl
theorem kW_lt : ∀ z ∈ kW, z < 4294967296 := by decide

/-- The program's table holds them. -/
def Tab (w : World) : Prop := ∀ i, i < 64 → w.cell? ⟨2, i, none⟩ = some (.int .u32 (kW.getD i 0 : Nat))
theorem Tab.below {n : Nat} {w w' : World} (h : Tab w) (hb : Below n w w') (hn : 2 < n) : Tab w' := fun i hi => (hb.cell (p := ⟨2, i, none⟩) hn).trans (h i hi)
theorem Tab.pos {w : World} (h : Tab w) : 2 < w.heap.size := by have := World.block_lt_of_cell? w _ (h 0 (by omega)); exact this
theorem Tab.later {w w' : World} (h : Tab w) (hb : Below w.heap.size w w') : Tab w' := h.below hb h.pos

/-- Eight words. -/
structure St where
  a : Nat
  b : Nat
  c : Nat
  d : Nat
  e : Nat
  f : Nat
  g : Nat
  h : Nat

def St.list (s : St) : List Nat := [s.a, s.b, s.c, s.d, s.e, s.f, s.g, s.h]
theorem St.cells (r : St) : u32s r.list = [.int .u32 (r.a : Nat), .int .u32 (r.b : Nat), .int .u32 (r.c : Nat), .int .u32 (r.d : Nat), .int .u32 (r.e : Nat), .int .u32 (r.f : Nat), .int .u32 (r.g : Nat), .int .u32 (r.h : Nat)] := rfl
def St.ok (s : St) : Prop := s.a < 4294967296 ∧ s.b < 4294967296 ∧ s.c < 4294967296 ∧ s.d < 4294967296 ∧ s.e < 4294967296 ∧ s.f < 4294967296 ∧ s.g < 4294967296 ∧ s.h < 4294967296

def chN (e f g : Nat) : Nat := (e &&& f) ^^^ ((4294967295 ^^^ e) &&& g)
def majN (a b c : Nat) : Nat := (a &&& b) ^^^ (a &&& c) ^^^ (b &&& c)
def big1 (e : Nat) : Nat := ror e 6 ^^^ ror e 11 ^^^ ror e 25
def big0 (a : Nat) : Nat := ror a 2 ^^^ ror a 13 ^^^ ror a 22
def tN (k w e f g h : Nat) : Nat := (h + k + w + chN e f g + big1 e) % 4294967296
def aN (t a b c : Nat) : Nat := (t + majN a b c + big0 a) % 4294967296
def roundN (k w : Nat) (s : St) : St := ⟨aN (tN k w s.e s.f s.g s.h) s.a s.b s.c, s.a, s.b, s.c, (s.d + tN k w s.e s.f s.g s.h) % 4294967296, s.e, s.f, s.g⟩
def roundsN (ws : List Nat) : Nat → St → St
  | 0, s => s
  | i + 1, s => roundN (kW.getD i 0) (ws.getD i 0) (roundsN ws i s)

theorem roundN_ok {k w : Nat} {s : St} (h : s.ok) : (roundN k w s).ok :=
  ⟨Nat.mod_lt _ (by decide), h.1, h.2.1, h.2.2.1, Nat.mod_lt _ (by decide), h.2.2.2.2.1, h.2.2.2.2.2.1, h.2.2.2.2.2.2.1⟩
theorem roundsN_ok {ws : List Nat} {s : St} (h : s.ok) : ∀ i, (roundsN ws i s).ok
  | 0 => h
  | i + 1 => roundN_ok (roundsN_ok h i)

theorem ch_eq {e f g : Nat} (he : e < 4294967296) (hf : f < 4294967296) (hg : g < 4294967296) : bits .xor .u32 (bits .and .u32 (e : Int) f) (bits .and .u32 (bits .xor .u32 IntKind.u32.max (e : Int)) g) = ((chN e f g : Nat) : Int) := by
  rw [show IntKind.u32.max = ((4294967295 : Nat) : Int) from rfl, u32_xor_nat _ _ (by decide) he, u32_and_nat _ _ he hf, u32_and_nat _ _ (xor_lt (by decide) he) hg, u32_xor_nat _ _ (and_lt he) (and_lt (xor_lt (by decide) he))]
  rfl
theorem maj_eq {a b c : Nat} (ha : a < 4294967296) (hb : b < 4294967296) (hc : c < 4294967296) : bits .xor .u32 (bits .xor .u32 (bits .and .u32 (a : Int) b) (bits .and .u32 (a : Int) c)) (bits .and .u32 (b : Int) c) = ((majN a b c : Nat) : Int) := by
  rw [u32_and_nat _ _ ha hb, u32_and_nat _ _ ha hc, u32_and_nat _ _ hb hc, u32_xor_nat _ _ (and_lt ha) (and_lt ha), u32_xor_nat _ _ (xor_lt (and_lt ha) (and_lt ha)) (and_lt hb)]
  rfl
theorem big1_eq {e : Nat} (he : e < 4294967296) : bits .xor .u32 (bits .xor .u32 ((ror e 6 : Nat) : Int) ((ror e 11 : Nat) : Int)) ((ror e 25 : Nat) : Int) = ((big1 e : Nat) : Int) := by
  rw [u32_xor_nat _ _ (ror_lt he) (ror_lt he), u32_xor_nat _ _ (xor_lt (ror_lt he) (ror_lt he)) (ror_lt he)]
  rfl
theorem big0_eq {e : Nat} (he : e < 4294967296) : bits .xor .u32 (bits .xor .u32 ((ror e 2 : Nat) : Int) ((ror e 13 : Nat) : Int)) ((ror e 22 : Nat) : Int) = ((big0 e : Nat) : Int) := by
  rw [u32_xor_nat _ _ (ror_lt he) (ror_lt he), u32_xor_nat _ _ (xor_lt (ror_lt he) (ror_lt he)) (ror_lt he)]
  rfl

theorem ror_int (X : Nat) (n : Int) (w : World) (h1 : X < 4294967296) (hn0 : 0 < n) (hn : n < 32) :
    Calls Tryd.prog 93 #[.int .u32 X, .int .i64 n] w fun e w' => e = .returned (.int .u32 (ror X n.toNat : Nat)) ∧ w' = w := by
  obtain ⟨m, rfl⟩ := Int.eq_ofNat_of_zero_le (show 0 ≤ n by omega)
  exact ror_any X m w h1 (by omega) (by omega)
end Go.Proofs.YtobmcaknfbooiaaDoor.Sh
/-
  What sha.turned answers: the eight words behind all rounds.
-/
namespace Go.Proofs.YtobmcaknfbooiaaDoor.Sh
open Go.RowKit
attribute [local go_sem] Oper.semAt_some

theorem size131 : (Tryd.prog.info? 131).map (·.size) = some 8 := by kernel_rfl

set_option maxRecDepth 100000 in
set_option maxHeartbeats 2000000 in
theorem turned_any (s : St) (hs : s.ok) (B : Nat) (ws : List Nat) (hl : ws.length = 64) (hw : ∀ z ∈ ws, z < 4294967296) (w : World) (hT : Tab w) (hB : Row w B 146 (u32s ws)) :
    Calls Tryd.prog 88 #[.agg (u32s s.list).toArray, .pointer (some ⟨B, 0, none⟩)] w fun e w' => e = .returned (.agg (u32s (roundsN ws 64 s).list).toArray) ∧ Below w.heap.size w w' := by
  obtain ⟨R, hR0, hRs, hRok, hR64⟩ : ∃ R : Nat → St, R 0 = s ∧ (∀ k, R (k + 1) = roundN (kW.getD k 0) (ws.getD k 0) (R k)) ∧ (∀ k, (R k).ok) ∧ R 64 = roundsN ws 64 s := ⟨fun k => roundsN ws k s, rfl, fun _ => rfl, roundsN_ok hs, rfl⟩
  rw [← hR64]
  have HR0 : Hid (R 0 = s) := hR0
  have HRs : Hid (∀ k, R (k + 1) = roundN (kW.getD k 0) (ws.getD k 0) (R k)) := hRs
  have HRok : Hid (∀ k, (R k).ok) := hRok
  clear hR0 hRs hRok hR64
  have HL : Hid (ws.length = 64) := hl
  have HW : Hid (∀ z ∈ ws, z < 4294967296) := hw
  have HT : Hid (Tab w) := hT
  have HB : Hid (Row w B 146 (u32s ws)) := hB
  clear hs hl hw hT hB
  rw [show u32s s.list = [.int .u32 (s.a : Nat), .int .u32 (s.b : Nat), .int .u32 (s.c : Nat), .int .u32 (s.d : Nat), .int .u32 (s.e : Nat), .int .u32 (s.f : Nat), .int .u32 (s.g : Nat), .int .u32 (s.h : Nat)] from rfl]
  go_enter Tryd.func88, Tryd.ntmps88
  go_wp2
  go_step3
  go_wp2
  go_quiet (fail)
  go_wp2
  go_step3
  go_wp2
  rw [z8u32]
  have rR : Row (((w.alloc (Obj.cells #[Value.int .u32 (s.a : Nat), Value.int .u32 (s.b : Nat), Value.int .u32 (s.c : Nat), Value.int .u32 (s.d : Nat), Value.int .u32 (s.e : Nat), Value.int .u32 (s.f : Nat), Value.int .u32 (s.g : Nat), Value.int .u32 (s.h : Nat)] 131)).alloc (Obj.cells (List.replicate 8 (Value.int .u32 0)).toArray 131)).drewN nq) (w.heap.size + 1) 131 (List.replicate 8 (Value.int .u32 0)) := by
    have := Row.new' (w.alloc (Obj.cells #[Value.int .u32 (s.a : Nat), Value.int .u32 (s.b : Nat), Value.int .u32 (s.c : Nat), Value.int .u32 (s.d : Nat), Value.int .u32 (s.e : Nat), Value.int .u32 (s.f : Nat), Value.int .u32 (s.g : Nat), Value.int .u32 (s.h : Nat)] 131)) 131 (List.replicate 8 (Value.int .u32 0))
    rw [World.size_alloc] at this
    exact this.drewN nq
  have hb1 : Below w.heap.size w (((w.alloc (Obj.cells #[Value.int .u32 (s.a : Nat), Value.int .u32 (s.b : Nat), Value.int .u32 (s.c : Nat), Value.int .u32 (s.d : Nat), Value.int .u32 (s.e : Nat), Value.int .u32 (s.f : Nat), Value.int .u32 (s.g : Nat), Value.int .u32 (s.h : Nat)] 131)).alloc (Obj.cells (List.replicate 8 (Value.int .u32 0)).toArray 131)).drewN nq) :=
    below_drewN (((Below.refl _ w).alloc (Nat.le_refl _) _).alloc (by simp) _) nq
  generalize (((w.alloc (Obj.cells #[Value.int .u32 (s.a : Nat), Value.int .u32 (s.b : Nat), Value.int .u32 (s.c : Nat), Value.int .u32 (s.d : Nat), Value.int .u32 (s.e : Nat), Value.int .u32 (s.f : Nat), Value.int .u32 (s.g : Nat), Value.int .u32 (s.h : Nat)] 131)).alloc (Obj.cells (List.replicate 8 (Value.int .u32 0)).toArray 131)).drewN nq) = w3 at *
  go_loopw [5, 6, 7, 8, 9, 10, 11, 12, 13] (fun va vb vc vd ve vf vg vh vi wr => ∃ k : Nat, k ≤ 64 ∧ vi = .int .i64 k ∧ va = .int .u32 ((R k).a : Nat) ∧ vb = .int .u32 ((R k).b : Nat) ∧ vc = .int .u32 ((R k).c : Nat) ∧ vd = .int .u32 ((R k).d : Nat) ∧ ve = .int .u32 ((R k).e : Nat) ∧ vf = .int .u32 ((R k).f : Nat) ∧ vg = .int .u32 ((R k).g : Nat) ∧ vh = .int .u32 ((R k).h : Nat) ∧ Row wr (w.heap.size + 1) 131 (List.replicate 8 (Value.int .u32 0)) ∧ Below w.heap.size w wr)
    (fun _ _ _ _ _ _ _ _ i _ => 64 - (intOf i).toNat)
  case atStart => rw [← HR0.out]; exact ⟨0, by omega, rfl, rfl, rfl, rfl, rfl, rfl, rfl, rfl, rfl, rR, hb1⟩
  case round =>
    obtain ⟨k, hk, rfl, rfl, rfl, rfl, rfl, rfl, rfl, rfl, rfl, hrR, hBw⟩ := hrel
    clear rR hb1
    by_cases hk64 : k < 64
    · have hki : (k : Int) < 64 := by omega
      have hkb : ((k : Int) == 64) = false := by simp; omega
      have ck := (HT.out.later hBw) k hk64
      have cw := ((HB.out.later hBw)).cell (u32s_at (l := ws) (i := k) (by have := HL.out; omega))
      have bk : kW.getD k 0 < 4294967296 := all_getD (by decide) kW_lt _
      have bw : ws.getD k 0 < 4294967296 := all_getD (by decide) HW.out _
      obtain ⟨ba, bb, bc, bd, be, bf, bg, bh⟩ := HRok.out k
      have HR : Hid (R (k + 1) = roundN (kW.getD k 0) (ws.getD k 0) (R k)) := HRs.out k
      generalize kW.getD k 0 = xk at *
      generalize ws.getD k 0 = xw at *
      generalize R k = r at *
      obtain ⟨a, b, c, d, e, f, g, h0⟩ := r
      dsimp only at ba bb bc bd be bf bg bh ⊢
      have HrR : Hid (Row wr (w.heap.size + 1) 131 (List.replicate 8 (Value.int .u32 0))) := hrR
      clear hrR
      go_wp2
      go_quiet ((go_at_call 93; exact Calls.quiet_of_same (ror_int _ _ _ (by assumption) (by omega) (by omega))))
      go_wp2_with (go_at_call 93; refine (ror_int _ _ _ (by assumption) (by omega) (by omega)).mono ?_; rintro e w' ⟨rfl, rfl⟩)
      rw [ch_eq be bf bg, maj_eq ba bb bc, big1_eq be, big0_eq ba]
      go_roundw
      case rel =>
        refine ⟨k + 1, by omega, by go_num, ?_⟩
        rw [HR.out]
        refine ⟨?_, rfl, rfl, rfl, ?_, rfl, rfl, rfl, HrR.out.drewN _, below_drewN hBw _⟩
        · refine congrArg (Value.int .u32) (show _ = ((aN (tN xk xw e f g h0) a b c : Nat) : Int) from ?_)
          unfold aN tN
          omega
        · refine congrArg (Value.int .u32) (show _ = (((d + tN xk xw e f g h0) % 4294967296 : Nat) : Int) from ?_)
          unfold tN
          omega
      case measure => simp [intOf]; omega
    · obtain rfl : k = 64 := by omega
      have HrR : Hid (Row wr (w.heap.size + 1) 131 (List.replicate 8 (Value.int .u32 0))) := hrR
      clear hrR
      generalize hr : R 64 = r
      go_wp2_with ((with_reducible show wpList _ _ _ (Oper.mk _ (Op.store 131 (.tmp 4) (.tmp 108)) _ _ _ _ :: _) _ _); refine wpList_store_Row rfl 131 (.tmp 4) (.tmp 108) rfl [.int .u32 (r.a : Nat), .int .u32 (r.b : Nat), .int .u32 (r.c : Nat), .int .u32 (r.d : Nat), .int .u32 (r.e : Nat), .int .u32 (r.f : Nat), .int .u32 (r.g : Nat), .int .u32 (r.h : Nat)] rfl rfl HrR.out size131 rfl (by simp [Value.oneCell']) ?_; simp only [Act.put])
      rw [Exit.noGoto_ret]
      refine bodyPost_ret (results_Row rfl rfl (HrR.out.sets_all (vs := [.int .u32 (r.a : Nat), .int .u32 (r.b : Nat), .int .u32 (r.c : Nat), .int .u32 (r.d : Nat), .int .u32 (r.e : Nat), .int .u32 (r.f : Nat), .int .u32 (r.g : Nat), .int .u32 (r.h : Nat)]) rfl) Tryd.underlying131 size131) rfl ?_
      exact ⟨by rw [hr, St.cells], below_setCells (by omega) _ _ hBw⟩
end Go.Proofs.YtobmcaknfbooiaaDoor.Sh
/-
  What sha.Schedule answers: the words of a block, for every block; nothing that lay before the call has turned.
-/
namespace Go.Proofs.YtobmcaknfbooiaaDoor.Sh
open Go.RowKit
attribute [local go_sem] Oper.semAt_some

theorem size146 : (Tryd.prog.info? 146).map (·.size) = some 64 := by kernel_rfl

set_option maxRecDepth 100000 in
set_option maxHeartbeats 2000000 in
theorem schedule_any (bs : List Nat) (hl : bs.length = 64) (hb : ∀ z ∈ bs, z < 256) (w : World) :
    Calls Tryd.prog 87 #[.agg (u8s bs).toArray] w fun e w' => e = .returned (.agg (u32s (sched bs)).toArray) ∧ Below w.heap.size w w' := by
  have HL : Hid (bs.length = 64) := hl
  have HB : Hid (∀ z ∈ bs, z < 256) := hb
  clear hl hb
  go_enter Tryd.func87, Tryd.ntmps87
  go_wp2
  rw [z64u32]
  generalize hw3 : ((w.alloc (Obj.cells (u8s bs).toArray 108)).alloc (Obj.cells (List.replicate 64 (Value.int .u32 0)).toArray 146)).alloc (Obj.cells (List.replicate 64 (Value.int .u32 0)).toArray 146) = w3
  have rB : Row w3 w.heap.size 108 (u8s bs) := by rw [← hw3]; exact ((Row.new' w 108 _).alloc _).alloc _
  have rR : Row w3 (w.heap.size + 1) 146 (List.replicate 64 (Value.int .u32 0)) := by rw [← hw3]; have := Row.new' (w.alloc (Obj.cells (u8s bs).toArray 108)) 146 (List.replicate 64 (Value.int .u32 0)); rw [World.size_alloc] at this; exact this.alloc _
  have rW : Row w3 (w.heap.size + 1 + 1) 146 (List.replicate 64 (Value.int .u32 0)) := by rw [← hw3]; have := Row.new' ((w.alloc (Obj.cells (u8s bs).toArray 108)).alloc (Obj.cells (List.replicate 64 (Value.int .u32 0)).toArray 146)) 146 (List.replicate 64 (Value.int .u32 0)); simpa using this
  have hB3 : Below w.heap.size w w3 := by rw [← hw3]; exact (((Below.refl _ w).alloc (Nat.le_refl _) _).alloc (by simp) _).alloc (by simp; omega) _
  clear hw3
  go_loopw [8] (fun i wr => ∃ k : Nat, k ≤ 16 ∧ i = .int .i64 k ∧ Row wr w.heap.size 108 (u8s bs) ∧ Row wr (w.heap.size + 1) 146 (List.replicate 64 (Value.int .u32 0)) ∧ Row wr (w.heap.size + 1 + 1) 146 (fill 64 (.int .u32 0) (u32s (firstW bs k))) ∧ Below w.heap.size w wr)
    (fun i _ => 16 - (intOf i).toNat)
  case atStart => exact ⟨0, by omega, rfl, rB, rR, rW, hB3⟩
  case round =>
    obtain ⟨k, hk, rfl, hrB, hrR, hrW, hBw⟩ := hrel
    by_cases hk16 : k < 16
    · have hki : (k : Int) < 16 := by omega
      have hkj : (k : Int) < 64 := by omega
      have hbl := HL.out
      have hbb := HB.out
      have c0 := hrB.cell (u8s_at (l := bs) (i := 4 * k) (by omega))
      have c1 := hrB.cell (u8s_at (l := bs) (i := 4 * k + 1) (by omega))
      have c2 := hrB.cell (u8s_at (l := bs) (i := 4 * k + 2) (by omega))
      have c3 := hrB.cell (u8s_at (l := bs) (i := 4 * k + 3) (by omega))
      have b0 : bs.getD (4 * k) 0 < 256 := all_getD (by decide) hbb _
      have b1 : bs.getD (4 * k + 1) 0 < 256 := all_getD (by decide) hbb _
      have b2 : bs.getD (4 * k + 2) 0 < 256 := all_getD (by decide) hbb _
      have b3 : bs.getD (4 * k + 3) 0 < 256 := all_getD (by decide) hbb _
      have HW : Hid (word4 bs k = wordB (bs.getD (4 * k) 0) (bs.getD (4 * k + 1) 0) (bs.getD (4 * k + 2) 0) (bs.getD (4 * k + 3) 0)) := rfl
      generalize bs.getD (4 * k) 0 = x0 at *
      generalize bs.getD (4 * k + 1) 0 = x1 at *
      generalize bs.getD (4 * k + 2) 0 = x2 at *
      generalize bs.getD (4 * k + 3) 0 = x3 at *
      have e0 : IntKind.i64.wrap (4 * (k : Int)) = ((4 * k : Nat) : Int) := by rw [IntKind.wrap_i64]; omega
      have e1 : IntKind.i64.wrap (((4 * k : Nat) : Int) + 1) = ((4 * k + 1 : Nat) : Int) := by rw [IntKind.wrap_i64]; omega
      have e2 : IntKind.i64.wrap (((4 * k : Nat) : Int) + 2) = ((4 * k + 2 : Nat) : Int) := by rw [IntKind.wrap_i64]; omega
      have e3 : IntKind.i64.wrap (((4 * k : Nat) : Int) + 3) = ((4 * k + 3 : Nat) : Int) := by rw [IntKind.wrap_i64]; omega
      have l0 : ((4 * k : Nat) : Int) < 64 := by omega
      have l1 : ((4 * k + 1 : Nat) : Int) < 64 := by omega
      have l2 : ((4 * k + 2 : Nat) : Int) < 64 := by omega
      have l3 : ((4 * k + 3 : Nat) : Int) < 64 := by omega
      generalize 4 * k + 1 = m1 at *
      generalize 4 * k + 2 = m2 at *
      generalize 4 * k + 3 = m3 at *
      generalize 4 * k = m0 at *
      have hWc := hrW.cell (i := k) (v := .int .u32 0) (fill_rest _ _ _ (by simp) (by omega))
      have hWf := hrW.frozen k
      have HrB : Hid (Row wr w.heap.size 108 (u8s bs)) := hrB
      have HrR : Hid (Row wr (w.heap.size + 1) 146 (List.replicate 64 (Value.int .u32 0))) := hrR
      have HrW : Hid (Row wr (w.heap.size + 1 + 1) 146 (fill 64 (.int .u32 0) (u32s (firstW bs k)))) := hrW
      have HV : Hid (Value.int .u32 (word4 bs k : Nat) = .int .u32 (bits .or .u32 (bits .or .u32 (bits .or .u32 (IntKind.u32.wrap ((x0 : Int) * 16777216)) (IntKind.u32.wrap ((x1 : Int) * 65536))) (IntKind.u32.wrap ((x2 : Int) * 256))) (x3 : Int))) := by
        show _ = _
        rw [HW.out, wordB_or x0 x1 x2 x3 b0 b1 b2 b3]
      have u0 : IntKind.u32.wrap (x0 : Int) = x0 := by rw [IntKind.wrap_u32]; omega
      have u1 : IntKind.u32.wrap (x1 : Int) = x1 := by rw [IntKind.wrap_u32]; omega
      have u2 : IntKind.u32.wrap (x2 : Int) = x2 := by rw [IntKind.wrap_u32]; omega
      have u3 : IntKind.u32.wrap (x3 : Int) = x3 := by rw [IntKind.wrap_u32]; omega
      clear hbl hbb hrB hrR hrW HW rB rR rW
      go_wp2
      refine wp_region_noPanic ?_
      refine wp_region_held_drew (S := fun W' => W'.cell? ⟨w.heap.size, m0, none⟩ = some (.int .u8 x0) ∧ W'.cell? ⟨w.heap.size, m1, none⟩ = some (.int .u8 x1) ∧ W'.cell? ⟨w.heap.size, m2, none⟩ = some (.int .u8 x2) ∧ W'.cell? ⟨w.heap.size, m3, none⟩ = some (.int .u8 x3)) (by kernel_rfl) ⟨by simpa using c0, by simpa using c1, by simpa using c2, by simpa using c3⟩ (fun hHeld => ?_)
      refine wpAnyH_takesAt 0 31 1 (of_decide_eq_true (by kernel_rfl)) rfl (fun _ _ _ _ _ h => h) (by kernel_rfl) (by kernel_rfl) hHeld ?_
      simp only [List.drop_zero, List.take_succ_cons, List.take_zero]
      iterate 31 (refine wpHeld_step (v := ?_) (by rfl) (fun wz hSw => ?_) ?_; rotate_left; (focus ((try dsimp only at hSw); go_simp; try with_reducible rfl)); (simp only [Act.put, List.setIfInBounds_toArray, List.set_cons_zero, List.set_cons_succ]))
      refine wpHeld_nil ?_
      refine wpAnyH_only (i := 31) (by kernel_rfl) rfl (fun K hK => ?_)
      rw [if_pos (by rfl)]
      go_simp
      rw [← HV.out]
      refine hK.out _ _ ⟨(World.cell?_setCell_far _ _ _ _ (by simp; omega)).trans c0, (World.cell?_setCell_far _ _ _ _ (by simp; omega)).trans c1, (World.cell?_setCell_far _ _ _ _ (by simp; omega)).trans c2, (World.cell?_setCell_far _ _ _ _ (by simp; omega)).trans c3⟩ ?_
      clear hK K
      refine wpAnyH_done (by kernel_rfl) ?_ _
      refine NoPanic.normal ?_
      have r1 : Hid (Row (wr.setCell ⟨w.heap.size + 1 + 1, k, none⟩ (.int .u32 (word4 bs k : Nat))) (w.heap.size + 1 + 1) 146 (fill 64 (.int .u32 0) (u32s (firstW bs (k + 1))))) := by
        have h := HrW.out.set k (.int .u32 (word4 bs k : Nat))
        rw [fill_set _ _ _ _ (by simp) (by omega), u32s_snoc, ← firstW_succ] at h
        exact h
      have r2 : Hid (Row (wr.setCell ⟨w.heap.size + 1 + 1, k, none⟩ (.int .u32 (word4 bs k : Nat))) w.heap.size 108 (u8s bs)) := HrB.out.other (by simp; omega) _
      have r3 : Hid (Row (wr.setCell ⟨w.heap.size + 1 + 1, k, none⟩ (.int .u32 (word4 bs k : Nat))) (w.heap.size + 1) 146 (List.replicate 64 (Value.int .u32 0))) := HrR.out.other (by simp) _
      have hb2 : Hid (Below w.heap.size w (wr.setCell ⟨w.heap.size + 1 + 1, k, none⟩ (.int .u32 (word4 bs k : Nat)))) := hBw.setCell (p := ⟨w.heap.size + 1 + 1, k, none⟩) (by show _ ≤ w.heap.size + 1 + 1; omega) _
      go_wp2
      go_roundw
      case rel => exact ⟨k + 1, by omega, by go_num, r2.out.drew, r3.out.drew, r1.out.drew, hb2.out.drew⟩
      case measure => simp [intOf]; omega
    · obtain rfl : k = 16 := by omega
      clear rB rR rW hB3
      go_wp2
      rw [show ((16 : Nat) : Int) = 16 from rfl]
      go_loopw [5] (fun i wq => ∃ k : Nat, 16 ≤ k ∧ k ≤ 64 ∧ i = .int .i64 k ∧ Row wq (w.heap.size + 1) 146 (List.replicate 64 (Value.int .u32 0)) ∧ Row wq (w.heap.size + 1 + 1) 146 (fill 64 (.int .u32 0) (u32s (growW bs (k - 16)))) ∧ Below w.heap.size w wq)
        (fun i _ => 64 - (intOf i).toNat)
      case atStart => exact ⟨16, by omega, by omega, rfl, hrR, hrW, hBw⟩
      case round =>
        clear hk hk16 hrB hrR hrW hBw
        obtain ⟨k, hk16, hk, rfl, hrR, hrW, hBw⟩ := hrel
        by_cases hk64 : k < 64
        · have hlen : (growW bs (k - 16)).length = k := by rw [growW_length]; omega
          have hlt := growW_lt bs HB.out (k - 16)
          have HN : Hid (nextW (growW bs (k - 16)) = extN ((growW bs (k - 16)).getD (k - 16) 0) ((growW bs (k - 16)).getD (k - 7) 0) ((growW bs (k - 16)).getD (k - 2) 0) ((growW bs (k - 16)).getD (k - 15) 0)) := by
            show _ = _
            unfold nextW; rw [hlen]
          have HG : Hid (growW bs (k + 1 - 16) = growW bs (k - 16) ++ [nextW (growW bs (k - 16))]) := by
            show _ = _
            rw [show k + 1 - 16 = (k - 16) + 1 by omega]; rfl
          have ca := hrW.cell ((fill_at 64 (.int .u32 0) (u32s (growW bs (k - 16))) (i := k - 16) (by simp)).trans (u32s_at (by omega)))
          have cb := hrW.cell ((fill_at 64 (.int .u32 0) (u32s (growW bs (k - 16))) (i := k - 7) (by simp; omega)).trans (u32s_at (by omega)))
          have cc := hrW.cell ((fill_at 64 (.int .u32 0) (u32s (growW bs (k - 16))) (i := k - 2) (by simp; omega)).trans (u32s_at (by omega)))
          have cd := hrW.cell ((fill_at 64 (.int .u32 0) (u32s (growW bs (k - 16))) (i := k - 15) (by simp; omega)).trans (u32s_at (by omega)))
          have hWc := hrW.cell (i := k) (v := .int .u32 0) (fill_rest _ _ _ (by simp; omega) (by omega))
          have hWf := hrW.frozen k
          have ba : (growW bs (k - 16)).getD (k - 16) 0 < 4294967296 := all_getD (by decide) hlt _
          have bb : (growW bs (k - 16)).getD (k - 7) 0 < 4294967296 := all_getD (by decide) hlt _
          have bc : (growW bs (k - 16)).getD (k - 2) 0 < 4294967296 := all_getD (by decide) hlt _
          have bd : (growW bs (k - 16)).getD (k - 15) 0 < 4294967296 := all_getD (by decide) hlt _
          generalize (growW bs (k - 16)).getD (k - 16) 0 = xa at *
          generalize (growW bs (k - 16)).getD (k - 7) 0 = xb at *
          generalize (growW bs (k - 16)).getD (k - 2) 0 = xc at *
          generalize (growW bs (k - 16)).getD (k - 15) 0 = xd at *
          have hki : (k : Int) < 64 := by omega
          have ea : IntKind.i64.wrap ((k : Int) - 16) = ((k - 16 : Nat) : Int) := by rw [IntKind.wrap_i64]; omega
          have eb : IntKind.i64.wrap ((k : Int) - 7) = ((k - 7 : Nat) : Int) := by rw [IntKind.wrap_i64]; omega
          have ec : IntKind.i64.wrap ((k : Int) - 2) = ((k - 2 : Nat) : Int) := by rw [IntKind.wrap_i64]; omega
          have ed : IntKind.i64.wrap ((k : Int) - 15) = ((k - 15 : Nat) : Int) := by rw [IntKind.wrap_i64]; omega
          have la : ((k - 16 : Nat) : Int) < 64 := by omega
          have lb : ((k - 7 : Nat) : Int) < 64 := by omega
          have lc : ((k - 2 : Nat) : Int) < 64 := by omega
          have ld : ((k - 15 : Nat) : Int) < 64 := by omega
          have na : Hid (k ≠ k - 16) := by show _ ≠ _; omega
          have nb : Hid (k ≠ k - 7) := by show _ ≠ _; omega
          have nc : Hid (k ≠ k - 2) := by show _ ≠ _; omega
          have nd : Hid (k ≠ k - 15) := by show _ ≠ _; omega
          have HrR : Hid (Row wr (w.heap.size + 1) 146 (List.replicate 64 (Value.int .u32 0))) := hrR
          have HrW : Hid (Row wr (w.heap.size + 1 + 1) 146 (fill 64 (.int .u32 0) (u32s (growW bs (k - 16))))) := hrW
          have HL2 : Hid ((growW bs (k - 16)).length = k) := hlen
          generalize growW bs (k - 16) = G at *
          generalize k - 16 = ia at *
          generalize k - 7 = ib at *
          generalize k - 2 = ic at *
          generalize k - 15 = id at *
          have H17 : Hid (∀ w, Calls Tryd.prog 93 #[.int .u32 xc, .int .i64 17] w fun e w' => e = .returned (.int .u32 (ror xc 17 : Nat)) ∧ w' = w) := fun w => ror_any xc 17 w bc (by omega) (by omega)
          have H19 : Hid (∀ w, Calls Tryd.prog 93 #[.int .u32 xc, .int .i64 19] w fun e w' => e = .returned (.int .u32 (ror xc 19 : Nat)) ∧ w' = w) := fun w => ror_any xc 19 w bc (by omega) (by omega)
          have H7 : Hid (∀ w, Calls Tryd.prog 93 #[.int .u32 xd, .int .i64 7] w fun e w' => e = .returned (.int .u32 (ror xd 7 : Nat)) ∧ w' = w) := fun w => ror_any xd 7 w bd (by omega) (by omega)
          have H18 : Hid (∀ w, Calls Tryd.prog 93 #[.int .u32 xd, .int .i64 18] w fun e w' => e = .returned (.int .u32 (ror xd 18 : Nat)) ∧ w' = w) := fun w => ror_any xd 18 w bd (by omega) (by omega)
          clear hrR hrW hlen hlt
          go_wp2
          go_quiet (fail)
          go_wp2
          refine wp_region_noPanic ?_
          refine wp_region_held_drew (S := fun W' => W'.cell? ⟨w.heap.size + 1 + 1, ia, none⟩ = some (.int .u32 xa) ∧ W'.cell? ⟨w.heap.size + 1 + 1, ib, none⟩ = some (.int .u32 xb)) (by kernel_rfl) ⟨by simpa using ca, by simpa using cb⟩ (fun hHeld => ?_)
          refine wpAnyH_takesAt 0 11 19 (of_decide_eq_true (by kernel_rfl)) rfl (fun _ _ _ _ _ h => h) (by kernel_rfl) (by kernel_rfl) hHeld ?_
          simp only [List.drop_zero, List.take_succ_cons, List.take_zero]
          iterate 11 (refine wpHeld_step (v := ?_) (by rfl) (fun wz hSw => ?_) ?_; rotate_left; (focus ((try dsimp only at hSw); go_simp; try with_reducible rfl)); (simp only [Act.put, List.setIfInBounds_toArray, List.set_cons_zero, List.set_cons_succ]))
          refine wpHeld_nil ?_
          refine wpAnyH_takesAt 12 1 18 (of_decide_eq_true (by kernel_rfl)) rfl (fun _ _ _ _ _ h => h) (by kernel_rfl) (by kernel_rfl) hHeld ?_
          simp only [List.drop_succ_cons, List.drop_zero, List.take_succ_cons, List.take_zero]
          iterate 1 (refine wpHeld_step (v := ?_) (by rfl) (fun wz hSw => ?_) ?_; rotate_left; (focus ((try dsimp only at hSw); go_simp; try with_reducible rfl)); (simp only [Act.put, List.setIfInBounds_toArray, List.set_cons_zero, List.set_cons_succ]))
          refine wpHeld_nil ?_
          refine wpAnyH_takesAt 15 2 16 (of_decide_eq_true (by kernel_rfl)) rfl (fun _ _ _ _ _ h => h) (by kernel_rfl) (by kernel_rfl) hHeld ?_
          simp only [List.drop_succ_cons, List.drop_zero, List.take_succ_cons, List.take_zero]
          iterate 2 (refine wpHeld_step (v := ?_) (by rfl) (fun wz hSw => ?_) ?_; rotate_left; (focus ((try dsimp only at hSw); go_simp; try with_reducible rfl)); (simp only [Act.put, List.setIfInBounds_toArray, List.set_cons_zero, List.set_cons_succ]))
          refine wpHeld_nil ?_
          refine wpAnyH_takesAt 19 1 15 (of_decide_eq_true (by kernel_rfl)) rfl (fun _ _ _ _ _ h => h) (by kernel_rfl) (by kernel_rfl) hHeld ?_
          simp only [List.drop_succ_cons, List.drop_zero, List.take_succ_cons, List.take_zero]
          iterate 1 (refine wpHeld_step (v := ?_) (by rfl) (fun wz hSw => ?_) ?_; rotate_left; (focus ((try dsimp only at hSw); go_simp; try with_reducible rfl)); (simp only [Act.put, List.setIfInBounds_toArray, List.set_cons_zero, List.set_cons_succ]))
          refine wpHeld_nil ?_
          refine wpAnyH_takesAt 21 1 14 (of_decide_eq_true (by kernel_rfl)) rfl (fun _ _ _ _ _ h => h) (by kernel_rfl) (by kernel_rfl) hHeld ?_
          simp only [List.drop_succ_cons, List.drop_zero, List.take_succ_cons, List.take_zero]
          iterate 1 (refine wpHeld_step (v := ?_) (by rfl) (fun wz hSw => ?_) ?_; rotate_left; (focus ((try dsimp only at hSw); go_simp; try with_reducible rfl)); (simp only [Act.put, List.setIfInBounds_toArray, List.set_cons_zero, List.set_cons_succ]))
          refine wpHeld_nil ?_
          refine wpAnyH_takesAt 24 2 12 (of_decide_eq_true (by kernel_rfl)) rfl (fun _ _ _ _ _ h => h) (by kernel_rfl) (by kernel_rfl) hHeld ?_
          simp only [List.drop_succ_cons, List.drop_zero, List.take_succ_cons, List.take_zero]
          iterate 2 (refine wpHeld_step (v := ?_) (by rfl) (fun wz hSw => ?_) ?_; rotate_left; (focus ((try dsimp only at hSw); go_simp; try with_reducible rfl)); (simp only [Act.put, List.setIfInBounds_toArray, List.set_cons_zero, List.set_cons_succ]))
          refine wpHeld_nil ?_
          refine wpAnyH_only (i := 11) (by kernel_rfl) rfl (fun K hK => ?_)
          rw [if_pos (by rfl)]
          go_simp
          refine (H17.out _).mono ?_
          rintro e w' ⟨rfl, rfl⟩
          refine hK.out _ _ hHeld ?_
          clear hK K
          refine wpAnyH_only (i := 13) (by kernel_rfl) rfl (fun K hK => ?_)
          rw [if_pos (by rfl)]
          go_simp
          refine (H19.out _).mono ?_
          rintro e w' ⟨rfl, rfl⟩
          refine hK.out _ _ hHeld ?_
          clear hK K
          refine wpAnyH_takesAt 14 1 9 (of_decide_eq_true (by kernel_rfl)) rfl (fun _ _ _ _ _ h => h) (by kernel_rfl) (by kernel_rfl) hHeld ?_
          simp only [List.drop_succ_cons, List.drop_zero, List.take_succ_cons, List.take_zero]
          iterate 1 (refine wpHeld_step (v := ?_) (by rfl) (fun wz hSw => ?_) ?_; rotate_left; (focus ((try dsimp only at hSw); go_simp; try with_reducible rfl)); (simp only [Act.put, List.setIfInBounds_toArray, List.set_cons_zero, List.set_cons_succ]))
          refine wpHeld_nil ?_
          refine wpAnyH_takesAt 17 2 7 (of_decide_eq_true (by kernel_rfl)) rfl (fun _ _ _ _ _ h => h) (by kernel_rfl) (by kernel_rfl) hHeld ?_
          simp only [List.drop_succ_cons, List.drop_zero, List.take_succ_cons, List.take_zero]
          iterate 2 (refine wpHeld_step (v := ?_) (by rfl) (fun wz hSw => ?_) ?_; rotate_left; (focus ((try dsimp only at hSw); go_simp; try with_reducible rfl)); (simp only [Act.put, List.setIfInBounds_toArray, List.set_cons_zero, List.set_cons_succ]))
          refine wpHeld_nil ?_
          refine wpAnyH_only (i := 20) (by kernel_rfl) rfl (fun K hK => ?_)
          rw [if_pos (by rfl)]
          go_simp
          refine (H7.out _).mono ?_
          rintro e w' ⟨rfl, rfl⟩
          refine hK.out _ _ hHeld ?_
          clear hK K
          refine wpAnyH_only (i := 22) (by kernel_rfl) rfl (fun K hK => ?_)
          rw [if_pos (by rfl)]
          go_simp
          refine (H18.out _).mono ?_
          rintro e w' ⟨rfl, rfl⟩
          refine hK.out _ _ hHeld ?_
          clear hK K
          refine wpAnyH_takesAt 23 1 4 (of_decide_eq_true (by kernel_rfl)) rfl (fun _ _ _ _ _ h => h) (by kernel_rfl) (by kernel_rfl) hHeld ?_
          simp only [List.drop_succ_cons, List.drop_zero, List.take_succ_cons, List.take_zero]
          iterate 1 (refine wpHeld_step (v := ?_) (by rfl) (fun wz hSw => ?_) ?_; rotate_left; (focus ((try dsimp only at hSw); go_simp; try with_reducible rfl)); (simp only [Act.put, List.setIfInBounds_toArray, List.set_cons_zero, List.set_cons_succ]))
          refine wpHeld_nil ?_
          refine wpAnyH_takesAt 26 3 1 (of_decide_eq_true (by kernel_rfl)) rfl (fun _ _ _ _ _ h => h) (by kernel_rfl) (by kernel_rfl) hHeld ?_
          simp only [List.drop_succ_cons, List.drop_zero, List.take_succ_cons, List.take_zero]
          iterate 3 (refine wpHeld_step (v := ?_) (by rfl) (fun wz hSw => ?_) ?_; rotate_left; (focus ((try dsimp only at hSw); go_simp; try with_reducible rfl)); (simp only [Act.put, List.setIfInBounds_toArray, List.set_cons_zero, List.set_cons_succ]))
          refine wpHeld_nil ?_
          refine wpAnyH_only (i := 29) (by kernel_rfl) rfl (fun K hK => ?_)
          rw [if_pos (by rfl)]
          go_simp
          have HV : Hid (Value.int .u32 (nextW G : Nat) = .int .u32 (IntKind.u32.wrap (IntKind.u32.wrap (IntKind.u32.wrap ((xa : Int) + xb) + bits .xor .u32 (bits .xor .u32 ((ror xc 17 : Nat) : Int) ((ror xc 19 : Nat) : Int)) ((xc : Int) / 1024)) + bits .xor .u32 (bits .xor .u32 ((ror xd 7 : Nat) : Int) ((ror xd 18 : Nat) : Int)) ((xd : Int) / 8)))) := by
            show _ = _
            rw [ext_eq bc bd, HN.out]
          rw [← HV.out]
          refine hK.out _ _ ⟨(World.cell?_setCell_other _ _ _ _ (by simpa using na.out)).trans ca, (World.cell?_setCell_other _ _ _ _ (by simpa using nb.out)).trans cb⟩ ?_
          clear hK K
          refine wpAnyH_done (by kernel_rfl) ?_ _
          refine NoPanic.normal ?_
          have r1 : Hid (Row ((wr.drewN (nq + 1)).setCell ⟨w.heap.size + 1 + 1, k, none⟩ (.int .u32 (nextW G : Nat))) (w.heap.size + 1 + 1) 146 (fill 64 (.int .u32 0) (u32s (growW bs (k + 1 - 16))))) := by
            have h := (HrW.out.drewN (nq + 1)).set k (.int .u32 (nextW G : Nat))
            rw [fill_set _ _ _ _ (by rw [u32s_length]; exact HL2.out) (by omega), u32s_snoc, ← HG.out] at h
            exact h
          have r3 : Hid (Row ((wr.drewN (nq + 1)).setCell ⟨w.heap.size + 1 + 1, k, none⟩ (.int .u32 (nextW G : Nat))) (w.heap.size + 1) 146 (List.replicate 64 (Value.int .u32 0))) := (HrR.out.drewN (nq + 1)).other (by simp) _
          have hb2 : Hid (Below w.heap.size w ((wr.drewN (nq + 1)).setCell ⟨w.heap.size + 1 + 1, k, none⟩ (.int .u32 (nextW G : Nat)))) := Below.setCell (below_drewN hBw (nq + 1)) (p := ⟨w.heap.size + 1 + 1, k, none⟩) (by show _ ≤ w.heap.size + 1 + 1; omega) _
          go_wp2
          go_roundw
          case rel => exact ⟨k + 1, by omega, by omega, by go_num, r3.out, r1.out, hb2.out⟩
          case measure => simp [intOf]; omega
        · obtain rfl : k = 64 := by omega
          have HrR : Hid (Row wr (w.heap.size + 1) 146 (List.replicate 64 (Value.int .u32 0))) := hrR
          have HrW : Hid (Row wr (w.heap.size + 1 + 1) 146 (u32s (sched bs))) := by
            rw [fill_full _ _ _ (by simp)] at hrW; exact hrW
          clear hrR hrW
          go_wp2_with (first
            | ((with_reducible show wpList _ _ _ (Oper.mk _ (Op.load 146 (.tmp 3)) _ _ _ _ :: _) _ _); refine wpList_load_Row rfl 146 (.tmp 3) rfl rfl HrW.out Tryd.underlying146 (by rw [u32s_length, sched_length]; exact size146) ?_; simp only [Act.put, List.setIfInBounds_toArray, List.set_cons_zero, List.set_cons_succ])
            | ((with_reducible show wpList _ _ _ (Oper.mk _ (Op.store 146 (.tmp 2) (.tmp 84)) _ _ _ _ :: _) _ _); refine wpList_store_Row rfl 146 (.tmp 2) (.tmp 84) rfl (u32s (sched bs)) rfl rfl HrR.out (by rw [u32s_length, sched_length]; exact size146) (by rw [u32s_length, sched_length]; rfl) (u32s_one _) ?_; simp only [Act.put]))
          refine bodyPost_ret (results_Row rfl rfl (HrR.out.sets_all (vs := u32s (sched bs)) (by rw [u32s_length, sched_length]; rfl)) Tryd.underlying146 (by rw [u32s_length, sched_length]; exact size146)) rfl ?_
          exact ⟨rfl, below_setCells (by omega) _ _ hBw⟩
end Go.Proofs.YtobmcaknfbooiaaDoor.Sh
/-
  What sha.Compress answers: a block taken into eight words.
-/
namespace Go.Proofs.YtobmcaknfbooiaaDoor.Sh
open Go.RowKit
attribute [local go_sem] Oper.semAt_some

theorem size108 : (Tryd.prog.info? 108).map (·.size) = some 64 := by kernel_rfl

theorem run_index131 (cs : List Value) (k : Nat) (v : Value) (hk : k < 8) (hv : cs[k]? = some v) (w : World) : (Instr.index 131 (.agg cs.toArray) (.int .i64 (k : Int))).run Tryd.prog w = .ok v w := by
  simp [Instr.index, run_underlying Tryd.underlying131, asIntOf, go_sem, hv]
  omega

/-- The first k of xs with those of ys added. -/
def mixN (xs ys : List Nat) (k : Nat) : List Nat := (List.range 8).map fun i => if i < k then (xs.getD i 0 + ys.getD i 0) % 4294967296 else xs.getD i 0
@[simp] theorem mixN_length (xs ys : List Nat) (k : Nat) : (mixN xs ys k).length = 8 := by simp [mixN]
theorem mixN_at (xs ys : List Nat) (k i : Nat) (hi : i < 8) : (mixN xs ys k).getD i 0 = if i < k then (xs.getD i 0 + ys.getD i 0) % 4294967296 else xs.getD i 0 := by
  simp only [mixN, List.getD_eq_getElem?_getD, List.getElem?_map, List.getElem?_range hi, Option.map_some, Option.getD_some]
theorem mixN_zero (s : St) (ys : List Nat) : mixN s.list ys 0 = s.list := rfl
theorem mixN_set (xs ys : List Nat) (k : Nat) (hk : k < 8) : (u32s (mixN xs ys k)).set k (.int .u32 ((xs.getD k 0 + ys.getD k 0) % 4294967296 : Nat)) = u32s (mixN xs ys (k + 1)) := by
  apply List.ext_getElem?
  intro i
  rw [List.getElem?_set]
  by_cases h : k = i
  · subst h
    simp [u32s, mixN, hk]
  · simp only [h, if_false, u32s, mixN, List.getElem?_map]
    by_cases hi : i < 8
    · rw [List.getElem?_range hi]
      simp only [Option.map_some]
      by_cases h2 : i < k
      · simp [h2, show i < k + 1 by omega]
      · simp [h2, show ¬ i < k + 1 by omega]
    · simp [List.getElem?_eq_none (show (List.range 8).length ≤ i by simp; omega)]

/-- A block taken in. -/
def addN (s r : St) : St := ⟨(s.a + r.a) % 4294967296, (s.b + r.b) % 4294967296, (s.c + r.c) % 4294967296, (s.d + r.d) % 4294967296, (s.e + r.e) % 4294967296, (s.f + r.f) % 4294967296, (s.g + r.g) % 4294967296, (s.h + r.h) % 4294967296⟩
def compressN (s : St) (bs : List Nat) : St := addN s (roundsN (sched bs) 64 s)
theorem mixN_all (s r : St) : mixN s.list r.list 8 = (addN s r).list := rfl
theorem addN_ok (s r : St) : (addN s r).ok := ⟨Nat.mod_lt _ (by decide), Nat.mod_lt _ (by decide), Nat.mod_lt _ (by decide), Nat.mod_lt _ (by decide), Nat.mod_lt _ (by decide), Nat.mod_lt _ (by decide), Nat.mod_lt _ (by decide), Nat.mod_lt _ (by decide)⟩
theorem compressN_ok (s : St) (bs : List Nat) : (compressN s bs).ok := addN_ok _ _
theorem St.list_length (s : St) : s.list.length = 8 := rfl
theorem St.list_lt {s : St} (h : s.ok) : ∀ z ∈ s.list, z < 4294967296 := by
  intro z hz
  simp only [St.list, List.mem_cons, List.not_mem_nil, or_false] at hz
  obtain ⟨h1, h2, h3, h4, h5, h6, h7, h8⟩ := h
  rcases hz with rfl | rfl | rfl | rfl | rfl | rfl | rfl | rfl <;> assumption

set_option maxRecDepth 100000 in
set_option maxHeartbeats 2000000 in
theorem compress_core (s r : St) (hs : s.ok) (hok : r.ok) (bs : List Nat) (hl : bs.length = 64) (SW : List Value) (HSL : Hid (SW.length = 64)) (HS1 : Hid (∀ v ∈ SW, v.oneCell' = true))
    (HTU : Hid (∀ (B : Nat) (w : World), Tab w → Row w B 146 SW → Calls Tryd.prog 88 #[.agg (u32s s.list).toArray, .pointer (some ⟨B, 0, none⟩)] w fun e w' => e = .returned (.agg (u32s r.list).toArray) ∧ Below w.heap.size w w'))
    (HSC : Hid (∀ w, Calls Tryd.prog 87 #[.agg (u8s bs).toArray] w fun e w' => e = .returned (.agg SW.toArray) ∧ Below w.heap.size w w')) (w : World) (hT : Tab w) :
    Calls Tryd.prog 79 #[.agg (u32s s.list).toArray, .agg (u8s bs).toArray] w fun e w' => e = .returned (.agg (u32s (addN s r).list).toArray) ∧ Below w.heap.size w w' := by
  have HT : Hid (Tab w) := hT
  have HBL : Hid ((u8s bs).length = 64) := by show _ = _; rw [u8s_length, hl]
  have HOK : Hid r.ok := hok
  have HSOK : Hid s.ok := hs
  clear hok hs hl hT
  have rH : Row (((w.alloc (.cells (u32s s.list).toArray 131)).alloc (.cells (u8s bs).toArray 108)).alloc (.cells #[.int .u32 0, .int .u32 0, .int .u32 0, .int .u32 0, .int .u32 0, .int .u32 0, .int .u32 0, .int .u32 0] 131)) w.heap.size 131 (u32s s.list) := ((Row.new' w 131 _).alloc _).alloc _
  have rB : Row (((w.alloc (.cells (u32s s.list).toArray 131)).alloc (.cells (u8s bs).toArray 108)).alloc (.cells #[.int .u32 0, .int .u32 0, .int .u32 0, .int .u32 0, .int .u32 0, .int .u32 0, .int .u32 0, .int .u32 0] 131)) (w.heap.size + 1) 108 (u8s bs) := by
    have := Row.new' (w.alloc (.cells (u32s s.list).toArray 131)) 108 (u8s bs)
    rw [World.size_alloc] at this
    exact this.alloc _
  have rR : Row (((w.alloc (.cells (u32s s.list).toArray 131)).alloc (.cells (u8s bs).toArray 108)).alloc (.cells #[.int .u32 0, .int .u32 0, .int .u32 0, .int .u32 0, .int .u32 0, .int .u32 0, .int .u32 0, .int .u32 0] 131)) (w.heap.size + 1 + 1) 131 (List.replicate 8 (.int .u32 0)) := by
    have := Row.new' ((w.alloc (.cells (u32s s.list).toArray 131)).alloc (.cells (u8s bs).toArray 108)) 131 (List.replicate 8 (.int .u32 0))
    rw [World.size_alloc, World.size_alloc] at this
    exact this
  have hb0 : Below w.heap.size w (((w.alloc (.cells (u32s s.list).toArray 131)).alloc (.cells (u8s bs).toArray 108)).alloc (.cells #[.int .u32 0, .int .u32 0, .int .u32 0, .int .u32 0, .int .u32 0, .int .u32 0, .int .u32 0, .int .u32 0] 131)) := (((Below.refl _ w).alloc (Nat.le_refl _) _).alloc (by simp) _).alloc (by simp; omega) _
  have H0 : Hid (Row (((w.alloc (.cells (u32s s.list).toArray 131)).alloc (.cells (u8s bs).toArray 108)).alloc (.cells #[.int .u32 0, .int .u32 0, .int .u32 0, .int .u32 0, .int .u32 0, .int .u32 0, .int .u32 0, .int .u32 0] 131)) w.heap.size 131 (u32s s.list)
    ∧ Row (((w.alloc (.cells (u32s s.list).toArray 131)).alloc (.cells (u8s bs).toArray 108)).alloc (.cells #[.int .u32 0, .int .u32 0, .int .u32 0, .int .u32 0, .int .u32 0, .int .u32 0, .int .u32 0, .int .u32 0] 131)) (w.heap.size + 1) 108 (u8s bs)
    ∧ Row (((w.alloc (.cells (u32s s.list).toArray 131)).alloc (.cells (u8s bs).toArray 108)).alloc (.cells #[.int .u32 0, .int .u32 0, .int .u32 0, .int .u32 0, .int .u32 0, .int .u32 0, .int .u32 0, .int .u32 0] 131)) (w.heap.size + 1 + 1) 131 (List.replicate 8 (.int .u32 0))
    ∧ Below w.heap.size w (((w.alloc (.cells (u32s s.list).toArray 131)).alloc (.cells (u8s bs).toArray 108)).alloc (.cells #[.int .u32 0, .int .u32 0, .int .u32 0, .int .u32 0, .int .u32 0, .int .u32 0, .int .u32 0, .int .u32 0] 131))) := ⟨rH, rB, rR, hb0⟩
  clear rH rB rR hb0
  go_enter Tryd.func79, Tryd.ntmps79
  go_wp2_with (first
    | ((with_reducible show wpList _ _ _ (Oper.mk _ (Op.load 108 (.tmp 3)) _ _ _ _ :: _) _ _); refine wpList_load_Row rfl 108 (.tmp 3) rfl rfl H0.out.2.1 Tryd.underlying108 (by rw [HBL.out]; exact size108) ?_; simp only [Act.put, List.setIfInBounds_toArray, List.set_cons_zero, List.set_cons_succ])
    | (go_at_call 87; refine (HSC.out _).mono ?_; rintro e w1 ⟨rfl, hb1⟩)
    | ((with_reducible show wpList _ _ _ (Oper.mk _ (Op.store 146 (.tmp 5) (.tmp 9)) _ _ _ _ :: _) _ _); refine wpList_store_Row rfl 146 (.tmp 5) (.tmp 9) rfl SW rfl rfl (Row.new _ _ _) (by rw [HSL.out]; exact size146) (by rw [HSL.out]; rfl) HS1.out ?_; simp only [Act.put])
    | ((with_reducible show wpList _ _ _ (Oper.mk _ (Op.load 131 (.tmp 2)) _ _ _ _ :: _) _ _); refine wpList_load_Row rfl 131 (.tmp 2) rfl rfl (Row.others (by have := hb1.size; simp at this; omega) SW 0 ((H0.out.1.later hb1).alloc _)) Tryd.underlying131 (by rw [u32s_length, St.list_length]; exact size131) ?_; simp only [Act.put, List.setIfInBounds_toArray, List.set_cons_zero, List.set_cons_succ])
    | (go_at_call 88; refine (HTU.out _ _ ((HT.out.later H0.out.2.2.2).later hb1 |>.later (below_setCells (Nat.le_refl _) _ _ ((Below.refl _ w1).alloc (Nat.le_refl _) _))) (Row.sets_all (Row.new _ _ _) (by rw [HSL.out]; rfl))).mono ?_; rintro e w2 ⟨rfl, hb2⟩))
  have hs1 := hb1.size
  simp only [World.size_alloc] at hs1
  have hbA : Below w.heap.size w w1 := H0.out.2.2.2.trans (hb1.mono H0.out.2.2.2.size)
  have hbB : Below w.heap.size w w2 := (below_setCells (by omega) SW 0 (hbA.alloc (by omega) _)).trans (hb2.mono (by rw [size_setCells, World.size_alloc]; omega))
  have rH2 : Row w2 w.heap.size 131 (u32s s.list) := (Row.others (by omega) SW 0 ((H0.out.1.later hb1).alloc _)).later hb2
  have rR2 : Row w2 (w.heap.size + 1 + 1) 131 (List.replicate 8 (.int .u32 0)) := (Row.others (by omega) SW 0 ((H0.out.2.2.1.later hb1).alloc _)).later hb2
  clear hbA hb1 hb2 H0 hs1
  go_loopw [12] (fun i wr => ∃ k : Nat, k ≤ 8 ∧ i = .int .i64 k ∧ Row wr w.heap.size 131 (u32s (mixN s.list r.list k)) ∧ Row wr (w.heap.size + 1 + 1) 131 (List.replicate 8 (.int .u32 0)) ∧ Below w.heap.size w wr)
    (fun i _ => 8 - (intOf i).toNat)
  case atStart => exact ⟨0, by omega, rfl, rH2, rR2, hbB⟩
  case round =>
    clear rH2 rR2 hbB
    obtain ⟨k, hk, rfl, hrH, hrR, hBw⟩ := hrel
    by_cases hk8 : k < 8
    · have hki : (k : Int) < 8 := by omega
      have cH := hrH.cell (u32s_at (l := mixN s.list r.list k) (i := k) (by simp; omega))
      rw [mixN_at _ _ _ _ hk8, if_neg (by omega)] at cH
      have cf := hrH.frozen k
      have cR := u32s_at (l := r.list) (i := k) (by rw [St.list_length]; omega)
      have bx : s.list.getD k 0 < 4294967296 := all_getD (by decide) (St.list_lt HSOK.out) _
      have by' : r.list.getD k 0 < 4294967296 := all_getD (by decide) (St.list_lt HOK.out) _
      have HM : Hid ((u32s (mixN s.list r.list k)).set k (.int .u32 ((s.list.getD k 0 + r.list.getD k 0) % 4294967296 : Nat)) = u32s (mixN s.list r.list (k + 1))) := mixN_set s.list r.list k hk8
      have HrH : Hid (Row wr w.heap.size 131 (u32s (mixN s.list r.list k))) := hrH
      have HrR : Hid (Row wr (w.heap.size + 1 + 1) 131 (List.replicate 8 (.int .u32 0))) := hrR
      have cI : ∀ w : World, (Instr.index 131 (.agg (u32s r.list).toArray) (.int .i64 (k : Int))).run Tryd.prog w = .ok (.int .u32 (r.list.getD k 0 : Nat)) w := fun w => run_index131 _ k _ hk8 cR w
      generalize s.list.getD k 0 = x at *
      generalize r.list.getD k 0 = y at *
      clear hrH hrR cR
      go_wp2
      go_roundw
      case rel =>
        have e1 : (((x : Int) + y) % 4294967296) = (((x + y) % 4294967296 : Nat) : Int) := by omega
        refine ⟨k + 1, by omega, by go_num, ?_, HrR.out.other (by simp; omega) _, hBw.setCell (p := ⟨w.heap.size, k, none⟩) (Nat.le_refl _) _⟩
        have h := HrH.out.set k (.int .u32 ((x + y) % 4294967296 : Nat))
        rw [HM.out] at h
        rw [e1]
        exact h
      case measure => simp [intOf]; omega
    · obtain rfl : k = 8 := by omega
      rw [mixN_all] at hrH
      have HrH : Hid (Row wr w.heap.size 131 (u32s (addN s r).list)) := hrH
      have HrR : Hid (Row wr (w.heap.size + 1 + 1) 131 (List.replicate 8 (.int .u32 0))) := hrR
      have HAL : Hid ((u32s (addN s r).list).length = 8) := rfl
      have HA1 : Hid (∀ v ∈ u32s (addN s r).list, v.oneCell' = true) := u32s_one _
      clear hrH hrR
      go_wp2_with (first
        | ((with_reducible show wpList _ _ _ (Oper.mk _ (Op.load 131 (.tmp 2)) _ _ _ _ :: _) _ _); refine wpList_load_Row rfl 131 (.tmp 2) rfl rfl HrH.out Tryd.underlying131 size131 ?_; simp only [Act.put, List.setIfInBounds_toArray, List.set_cons_zero, List.set_cons_succ])
        | ((with_reducible show wpList _ _ _ (Oper.mk _ (Op.store 131 (.tmp 4) (.tmp 23)) _ _ _ _ :: _) _ _); refine wpList_store_Row rfl 131 (.tmp 4) (.tmp 23) rfl (u32s (addN s r).list) rfl rfl HrR.out size131 rfl HA1.out ?_; simp only [Act.put]))
      refine bodyPost_ret (results_Row rfl rfl (HrR.out.sets_all (vs := u32s (addN s r).list) rfl) Tryd.underlying131 size131) rfl ?_
      exact ⟨rfl, below_setCells (by omega) _ _ hBw⟩
theorem compress_any (s : St) (hs : s.ok) (bs : List Nat) (hl : bs.length = 64) (hb : ∀ z ∈ bs, z < 256) (w : World) (hT : Tab w) :
    Calls Tryd.prog 79 #[.agg (u32s s.list).toArray, .agg (u8s bs).toArray] w fun e w' => e = .returned (.agg (u32s (compressN s bs).list).toArray) ∧ Below w.heap.size w w' :=
  compress_core s (roundsN (sched bs) 64 s) hs (roundsN_ok hs 64) bs hl (u32s (sched bs)) ((u32s_length _).trans (sched_length bs)) (u32s_one _) (fun B w hT hr => turned_any s hs B (sched bs) (sched_length bs) (sched_lt bs hb) w hT hr) (fun w => schedule_any bs hl hb w) w hT
end Go.Proofs.YtobmcaknfbooiaaDoor.Sh
/-
  What sha.digest and sha.firstWords answer: the bytes of eight words, the highest of each ahead; the words that a sum begins with.
-/
namespace Go.Proofs.YtobmcaknfbooiaaDoor.Sh
open Go.RowKit
attribute [local go_sem] Oper.semAt_some

theorem size40 : (Tryd.prog.info? 40).map (·.size) = some 32 := by kernel_rfl
theorem size131' : (Tryd.prog.info? 131).map (·.size) = some 8 := by kernel_rfl

/-- Byte j of some words, the highest of each ahead. -/
def byteBE (l : List Nat) (j : Nat) : Nat := l.getD (j / 4) 0 / 2 ^ (24 - 8 * (j % 4)) % 256
def bytesBE (l : List Nat) (n : Nat) : List Nat := (List.range n).map (byteBE l)
@[simp] theorem bytesBE_length (l : List Nat) (n : Nat) : (bytesBE l n).length = n := by simp [bytesBE]
theorem bytesBE_succ (l : List Nat) (n : Nat) : bytesBE l n ++ [byteBE l n] = bytesBE l (n + 1) := by simp [bytesBE, List.range_succ]
def digestN (s : St) : List Nat := bytesBE s.list 32
theorem digestN_length (s : St) : (digestN s).length = 32 := bytesBE_length _ _

theorem byteBE_0 (l : List Nat) (k : Nat) : byteBE l (4 * k) = l.getD k 0 / 16777216 % 256 := by
  unfold byteBE; rw [show 4 * k / 4 = k by omega, show 4 * k % 4 = 0 by omega]
theorem byteBE_1 (l : List Nat) (k : Nat) : byteBE l (4 * k + 1) = l.getD k 0 / 65536 % 256 := by
  unfold byteBE; rw [show (4 * k + 1) / 4 = k by omega, show (4 * k + 1) % 4 = 1 by omega]
theorem byteBE_2 (l : List Nat) (k : Nat) : byteBE l (4 * k + 2) = l.getD k 0 / 256 % 256 := by
  unfold byteBE; rw [show (4 * k + 2) / 4 = k by omega, show (4 * k + 2) % 4 = 2 by omega]
theorem byteBE_3 (l : List Nat) (k : Nat) : byteBE l (4 * k + 3) = l.getD k 0 % 256 := by
  unfold byteBE; rw [show (4 * k + 3) / 4 = k by omega, show (4 * k + 3) % 4 = 3 by omega, show 24 - 8 * 3 = 0 from rfl, Nat.pow_zero, Nat.div_one]

theorem four_set (l : List Nat) (k : Nat) (hk : k < 8) :
    ((((fill 32 (.int .u8 0) (u8s (bytesBE l (4 * k)))).set (4 * k) (.int .u8 (l.getD k 0 / 16777216 % 256 : Nat))).set (4 * k + 1) (.int .u8 (l.getD k 0 / 65536 % 256 : Nat))).set (4 * k + 2) (.int .u8 (l.getD k 0 / 256 % 256 : Nat))).set (4 * k + 3) (.int .u8 (l.getD k 0 % 256 : Nat)) = fill 32 (.int .u8 0) (u8s (bytesBE l (4 * (k + 1)))) := by
  rw [fill_set _ _ _ _ (by simp) (by omega), ← byteBE_0, u8s_snoc, bytesBE_succ, fill_set _ _ _ _ (by simp) (by omega), ← byteBE_1, u8s_snoc, bytesBE_succ, fill_set _ _ _ _ (by simp) (by omega), ← byteBE_2, u8s_snoc, bytesBE_succ, fill_set _ _ _ _ (by simp) (by omega), ← byteBE_3, u8s_snoc, bytesBE_succ]
  rfl

theorem run_index131' (cs : List Value) (k : Nat) (v : Value) (hk : k < 8) (hv : cs[k]? = some v) (w : World) : (Instr.index 131 (.agg cs.toArray) (.int .i64 (k : Int))).run Tryd.prog w = .ok v w := by
  simp [Instr.index, run_underlying Tryd.underlying131, asIntOf, go_sem, hv]
  omega

set_option maxRecDepth 100000 in
set_option maxHeartbeats 2000000 in
theorem digest_core (L : List Nat) (hl : L.length = 8) (hx : ∀ z ∈ L, z < 4294967296) (w : World) :
    Calls Tryd.prog 81 #[.agg (u32s L).toArray] w fun e w' => e = .returned (.agg (u8s (bytesBE L 32)).toArray) ∧ Below w.heap.size w w' := by
  have HL : Hid (L.length = 8) := hl
  have HX : Hid (∀ z ∈ L, z < 4294967296) := hx
  have HLV : Hid ((u32s L).length = 8) := by show _ = _; rw [u32s_length, hl]
  clear hl hx
  have H0 : Hid (∀ (w : World) (o o' : Obj), Row (((w.alloc (.cells (u32s L).toArray 131)).alloc o).alloc o') w.heap.size 131 (u32s L)) := fun w o o' => ((Row.new' w 131 _).alloc _).alloc _
  go_enter Tryd.func81, Tryd.ntmps81
  go_wp2_with ((with_reducible show wpList _ _ _ (Oper.mk _ (Op.load 131 (.tmp 1)) _ _ _ _ :: _) _ _); refine wpList_load_Row rfl 131 (.tmp 1) rfl rfl (H0.out _ _ _) Tryd.underlying131 (by rw [HLV.out]; exact size131') ?_; simp only [Act.put, List.setIfInBounds_toArray, List.set_cons_zero, List.set_cons_succ])
  rw [z32u8]
  have rR : Row (((w.alloc (.cells (u32s L).toArray 131)).alloc (.cells (List.replicate 32 (.int .u8 0)).toArray 40)).alloc (.cells (List.replicate 32 (.int .u8 0)).toArray 40)) (w.heap.size + 1) 40 (List.replicate 32 (.int .u8 0)) := by
    have := Row.new' (w.alloc (.cells (u32s L).toArray 131)) 40 (List.replicate 32 (.int .u8 0))
    rw [World.size_alloc] at this
    exact this.alloc _
  have rO : Row (((w.alloc (.cells (u32s L).toArray 131)).alloc (.cells (List.replicate 32 (.int .u8 0)).toArray 40)).alloc (.cells (List.replicate 32 (.int .u8 0)).toArray 40)) (w.heap.size + 1 + 1) 40 (List.replicate 32 (.int .u8 0)) := by
    have := Row.new' ((w.alloc (.cells (u32s L).toArray 131)).alloc (.cells (List.replicate 32 (.int .u8 0)).toArray 40)) 40 (List.replicate 32 (.int .u8 0))
    rw [World.size_alloc, World.size_alloc] at this
    exact this
  have hb0 : Below w.heap.size w (((w.alloc (.cells (u32s L).toArray 131)).alloc (.cells (List.replicate 32 (.int .u8 0)).toArray 40)).alloc (.cells (List.replicate 32 (.int .u8 0)).toArray 40)) := (((Below.refl _ w).alloc (Nat.le_refl _) _).alloc (by simp) _).alloc (by simp; omega) _
  generalize (((w.alloc (.cells (u32s L).toArray 131)).alloc (.cells (List.replicate 32 (.int .u8 0)).toArray 40)).alloc (.cells (List.replicate 32 (.int .u8 0)).toArray 40)) = w3 at *
  go_loopw [7] (fun i wr => ∃ k : Nat, k ≤ 8 ∧ i = .int .i64 k ∧ Row wr (w.heap.size + 1) 40 (List.replicate 32 (.int .u8 0)) ∧ Row wr (w.heap.size + 1 + 1) 40 (fill 32 (.int .u8 0) (u8s (bytesBE L (4 * k)))) ∧ Below w.heap.size w wr)
    (fun i _ => 8 - (intOf i).toNat)
  case atStart => exact ⟨0, by omega, rfl, rR, rO, hb0⟩
  case round =>
    clear rR rO hb0
    obtain ⟨k, hk, rfl, hrR, hrO, hBw⟩ := hrel
    by_cases hk8 : k < 8
    · have hki : (k : Int) < 8 := by omega
      have cR := u32s_at (l := L) (i := k) (by have := HL.out; omega)
      have cI : ∀ w : World, (Instr.index 131 (.agg (u32s L).toArray) (.int .i64 (k : Int))).run Tryd.prog w = .ok (.int .u32 (L.getD k 0 : Nat)) w := fun w => run_index131' _ k _ hk8 cR w
      have bx : L.getD k 0 < 4294967296 := all_getD (by decide) HX.out _
      have HF : Hid (((((fill 32 (.int .u8 0) (u8s (bytesBE L (4 * k)))).set (4 * k) (.int .u8 (L.getD k 0 / 16777216 % 256 : Nat))).set (4 * k + 1) (.int .u8 (L.getD k 0 / 65536 % 256 : Nat))).set (4 * k + 2) (.int .u8 (L.getD k 0 / 256 % 256 : Nat))).set (4 * k + 3) (.int .u8 (L.getD k 0 % 256 : Nat)) = fill 32 (.int .u8 0) (u8s (bytesBE L (4 * (k + 1))))) := four_set L k hk8
      have cc : ∀ i, i < 32 → ∃ v, wr.cell? ⟨w.heap.size + 1 + 1, i, none⟩ = some v := fun i hi => ⟨_, hrO.cell (List.getElem?_eq_getElem (by rw [fill_length _ _ _ (by simp; omega)]; omega))⟩
      obtain ⟨v0, c0⟩ := cc (4 * k) (by omega)
      obtain ⟨v1, c1⟩ := cc (4 * k + 1) (by omega)
      obtain ⟨v2, c2⟩ := cc (4 * k + 2) (by omega)
      obtain ⟨v3, c3⟩ := cc (4 * k + 3) (by omega)
      have f0 := hrO.frozen (4 * k)
      have f1 := hrO.frozen (4 * k + 1)
      have f2 := hrO.frozen (4 * k + 2)
      have f3 := hrO.frozen (4 * k + 3)
      have e0 : IntKind.i64.wrap (4 * (k : Int)) = ((4 * k : Nat) : Int) := by rw [IntKind.wrap_i64]; omega
      have e1 : IntKind.i64.wrap (((4 * k : Nat) : Int) + 1) = ((4 * k + 1 : Nat) : Int) := by rw [IntKind.wrap_i64]; omega
      have e2 : IntKind.i64.wrap (((4 * k : Nat) : Int) + 2) = ((4 * k + 2 : Nat) : Int) := by rw [IntKind.wrap_i64]; omega
      have e3 : IntKind.i64.wrap (((4 * k : Nat) : Int) + 3) = ((4 * k + 3 : Nat) : Int) := by rw [IntKind.wrap_i64]; omega
      have l0 : ((4 * k : Nat) : Int) < 32 := by omega
      have l1 : ((4 * k + 1 : Nat) : Int) < 32 := by omega
      have l2 : ((4 * k + 2 : Nat) : Int) < 32 := by omega
      have l3 : ((4 * k + 3 : Nat) : Int) < 32 := by omega
      have HrR : Hid (Row wr (w.heap.size + 1) 40 (List.replicate 32 (.int .u8 0))) := hrR
      have HrO : Hid (Row wr (w.heap.size + 1 + 1) 40 (fill 32 (.int .u8 0) (u8s (bytesBE L (4 * k))))) := hrO
      have d1 : ∀ u, (wr.setCell ⟨w.heap.size + 1 + 1, 4 * k, none⟩ u).cell? ⟨w.heap.size + 1 + 1, 4 * k + 1, none⟩ = some v1 := fun u => (World.cell?_setCell_other _ _ _ _ (by simp)).trans c1
      have d2 : ∀ u u', ((wr.setCell ⟨w.heap.size + 1 + 1, 4 * k, none⟩ u).setCell ⟨w.heap.size + 1 + 1, 4 * k + 1, none⟩ u').cell? ⟨w.heap.size + 1 + 1, 4 * k + 2, none⟩ = some v2 := fun u u' => (World.cell?_setCell_other _ _ _ _ (by simp)).trans ((World.cell?_setCell_other _ _ _ _ (by simp)).trans c2)
      have d3 : ∀ u u' u'', (((wr.setCell ⟨w.heap.size + 1 + 1, 4 * k, none⟩ u).setCell ⟨w.heap.size + 1 + 1, 4 * k + 1, none⟩ u').setCell ⟨w.heap.size + 1 + 1, 4 * k + 2, none⟩ u'').cell? ⟨w.heap.size + 1 + 1, 4 * k + 3, none⟩ = some v3 := fun u u' u'' => (World.cell?_setCell_other _ _ _ _ (by simp)).trans ((World.cell?_setCell_other _ _ _ _ (by simp)).trans ((World.cell?_setCell_other _ _ _ _ (by simp)).trans c3))
      clear cc hrR hrO cR
      generalize L.getD k 0 = x at *
      generalize u8s (bytesBE L (4 * k)) = D at *
      generalize 4 * k + 1 = m1 at *
      generalize 4 * k + 2 = m2 at *
      generalize 4 * k + 3 = m3 at *
      generalize 4 * k = m0 at *
      clear c1 c2 c3
      go_wp2
      go_roundw
      case rel =>
        have g0 : ((x : Int) / 16777216) = ((x / 16777216 % 256 : Nat) : Int) := by omega
        have g1 : ((x : Int) / 65536 % 256) = ((x / 65536 % 256 : Nat) : Int) := by omega
        have g2 : ((x : Int) / 256 % 256) = ((x / 256 % 256 : Nat) : Int) := by omega
        have g3 : ((x : Int) % 256) = ((x % 256 : Nat) : Int) := by omega
        rw [g0, g1, g2, g3]
        refine ⟨k + 1, by omega, by go_num, (((HrR.out.other (by simp) _).other (by simp) _).other (by simp) _).other (by simp) _, ?_, (((hBw.setCell (p := ⟨w.heap.size + 1 + 1, m0, none⟩) (by show _ ≤ w.heap.size + 1 + 1; omega) _).setCell (p := ⟨w.heap.size + 1 + 1, m1, none⟩) (by show _ ≤ w.heap.size + 1 + 1; omega) _).setCell (p := ⟨w.heap.size + 1 + 1, m2, none⟩) (by show _ ≤ w.heap.size + 1 + 1; omega) _).setCell (p := ⟨w.heap.size + 1 + 1, m3, none⟩) (by show _ ≤ w.heap.size + 1 + 1; omega) _⟩
        have h := (((HrO.out.set m0 (.int .u8 (x / 16777216 % 256 : Nat))).set m1 (.int .u8 (x / 65536 % 256 : Nat))).set m2 (.int .u8 (x / 256 % 256 : Nat))).set m3 (.int .u8 (x % 256 : Nat))
        rw [HF.out] at h
        exact h
      case measure => simp [intOf]; omega
    · obtain rfl : k = 8 := by omega
      have HrR : Hid (Row wr (w.heap.size + 1) 40 (List.replicate 32 (.int .u8 0))) := hrR
      have HrO : Hid (Row wr (w.heap.size + 1 + 1) 40 (u8s (bytesBE L 32))) := by
        rw [fill_full _ _ _ (by simp)] at hrO; exact hrO
      have HOL : Hid ((u8s (bytesBE L 32)).length = 32) := by show _ = _; simp
      clear hrR hrO
      go_wp2_with (first
        | ((with_reducible show wpList _ _ _ (Oper.mk _ (Op.load 40 (.tmp 3)) _ _ _ _ :: _) _ _); refine wpList_load_Row rfl 40 (.tmp 3) rfl rfl HrO.out Tryd.underlying40 (by rw [HOL.out]; exact size40) ?_; simp only [Act.put, List.setIfInBounds_toArray, List.set_cons_zero, List.set_cons_succ])
        | ((with_reducible show wpList _ _ _ (Oper.mk _ (Op.store 40 (.tmp 2) (.tmp 38)) _ _ _ _ :: _) _ _); refine wpList_store_Row rfl 40 (.tmp 2) (.tmp 38) rfl (u8s (bytesBE L 32)) rfl rfl HrR.out (by rw [HOL.out]; exact size40) (by rw [HOL.out]; rfl) (u8s_one _) ?_; simp only [Act.put]))
      refine bodyPost_ret (results_Row rfl rfl (HrR.out.sets_all (vs := u8s (bytesBE L 32)) (by rw [HOL.out]; rfl)) Tryd.underlying40 (by rw [HOL.out]; exact size40)) rfl ?_
      exact ⟨rfl, below_setCells (by omega) _ _ hBw⟩

/-- The first eight words. -/
def first8 : St := ⟨1779033703, 3144134277, 1013904242, 2773480762, 1359893119, 2600822924, 528734635, 1541459225⟩
theorem first8_ok : first8.ok := by unfold St.ok first8; decide

set_option maxHeartbeats 1000000 in
theorem firstWords_any (w : World) : Calls Tryd.prog 82 #[] w fun e w' => e = .returned (.agg (u32s first8.list).toArray) ∧ Below w.heap.size w w' := by
  go_enter Tryd.func82, Tryd.ntmps82
  go_wp2
  refine bodyPost_ret (results_Row rfl rfl (Row.new _ _ _) Tryd.underlying131 size131') rfl ?_
  exact ⟨rfl, (Below.refl _ w).alloc (Nat.le_refl _) _⟩
end Go.Proofs.YtobmcaknfbooiaaDoor.Sh
/-
  What sha.Sum answers: the sum of any bytes (up to 125,000).
-/
namespace Go.Proofs.YtobmcaknfbooiaaDoor.Sh
open Go.RowKit Go.Shelf
attribute [local go_sem] Oper.semAt_some

theorem heap_setCells_other {b k : Nat} (hk : k ≠ b) : ∀ (vs : List Value) (o : Nat) (w : World), (w.setCells b o vs).heap[k]? = w.heap[k]?
  | [], _, _ => rfl
  | v :: r, o, w => (heap_setCells_other hk r (o + 1) _).trans (heap_setCell_other w ⟨b, o, none⟩ k v hk)

/-- The words behind some blocks; the sum of some bytes. -/
def wordsN (bl : List (List Nat)) : St := bl.foldl compressN first8
def sumN (zs : List Nat) : List Nat := digestN (wordsN (blocksL zs))
theorem wordsN_nil : wordsN [] = first8 := rfl
theorem wordsN_snoc (bl : List (List Nat)) (x : List Nat) : wordsN (bl ++ [x]) = compressN (wordsN bl) x := by simp [wordsN]
theorem wordsN_ok (bl : List (List Nat)) : (wordsN bl).ok := by
  rcases List.eq_nil_or_concat bl with rfl | ⟨l, x, rfl⟩
  · exact first8_ok
  · rw [List.concat_eq_append, wordsN_snoc]; exact compressN_ok _ _

set_option maxRecDepth 100000 in
set_option maxHeartbeats 2000000 in
theorem sum_in (n : Nat) (hn : 8 ≤ n) (p : Option Addr) (len cap : Nat) (zs : List Nat) (hlen : len ≤ 60000) (w : World) (hT : Tab w) (hI : IsBytes w.heap.size w p len cap zs) :
    CallsIn Fence.wide n Tryd.prog 71 #[.slice p len cap] w fun e w' => e = .returned (.agg (u8s (sumN zs)).toArray) ∧ Below w.heap.size w w' := by
  have h1 : 1 ≤ n := by omega
  have hfn : ∀ f, Fence.wide.fn f := fun _ => trivial
  have HT : Hid (Tab w) := hT
  have HI : Hid (IsBytes w.heap.size w p len cap zs) := hI
  obtain ⟨f8, hf8⟩ : ∃ f8, f8 = u32s first8.list := ⟨_, rfl⟩
  have HF1 : Hid (∀ w, Calls Tryd.prog 82 #[] w fun e w' => e = .returned (.agg f8.toArray) ∧ Below w.heap.size w w') := by rw [hf8]; exact firstWords_any
  have HFl : Hid (f8.length = 8) := by show _ = _; rw [hf8]; rfl
  have HFo : Hid (∀ v ∈ f8, v.oneCell' = true) := by rw [hf8]; exact u32s_one _
  have HF8 : Hid (f8 = u32s first8.list) := hf8
  clear hT hI hf8
  refine callsIn_of_wp_marks Tryd.func71 rfl trivial ?_ rfl
  simp only [Tryd.ntmps71, List.size_toArray, List.length_cons, List.length_nil, Nat.reduceAdd, Nat.reduceSub, Array.replicate_succ, Array.replicate_zero, List.push_toArray, List.append_toArray, List.nil_append, List.cons_append]
  gi_wp2_with (first
    | (gi_at_call 82; refine (callsIn_wide.2 (HF1.out _)).mono ?_; rintro e w1 ⟨rfl, hb1⟩)
    | ((with_reducible show wpListIn _ _ _ _ _ (Oper.mk _ (Op.store 131 (.tmp 3) (.tmp 5)) _ _ _ _ :: _) _ _); refine wpListIn_store_Row rfl 131 (.tmp 3) (.tmp 5) rfl f8 rfl rfl (Row.new _ _ _) (by rw [HFl.out]; exact size131) (by rw [HFl.out]; rfl) HFo.out ?_; simp only [Act.put])
    | (gi_at_call 83; refine (blk_in _ _ _ _ _).mono ?_; rintro e w' ⟨rfl, rfl⟩))
  rw [z32u8] at hb1
  have hs1 : w.heap.size + 1 ≤ w1.heap.size := by have := hb1.size; rwa [World.size_alloc] at this
  have hbA : Below w.heap.size w w1 := ((Below.refl _ w).alloc (Nat.le_refl _) _).trans (hb1.mono (by simp))
  have rR1 : Row w1 w.heap.size 40 (List.replicate 32 (.int .u8 0)) := (Row.new' w 40 _).later hb1
  rw [size_setCells, World.size_alloc]
  have rH : Row ((w1.alloc (.cells #[Value.int .u32 0, Value.int .u32 0, Value.int .u32 0, Value.int .u32 0, Value.int .u32 0, Value.int .u32 0, Value.int .u32 0, Value.int .u32 0] 131)).setCells w1.heap.size 0 f8) w1.heap.size 131 f8 := Row.sets_all (Row.new _ _ _) (by rw [HFl.out]; rfl)
  have rR2 : Row ((w1.alloc (.cells #[Value.int .u32 0, Value.int .u32 0, Value.int .u32 0, Value.int .u32 0, Value.int .u32 0, Value.int .u32 0, Value.int .u32 0, Value.int .u32 0] 131)).setCells w1.heap.size 0 f8) w.heap.size 40 (List.replicate 32 (.int .u8 0)) := Row.others (by omega) _ _ (rR1.alloc _)
  have hbB : Below w.heap.size w ((w1.alloc (.cells #[Value.int .u32 0, Value.int .u32 0, Value.int .u32 0, Value.int .u32 0, Value.int .u32 0, Value.int .u32 0, Value.int .u32 0, Value.int .u32 0] 131)).setCells w1.heap.size 0 f8) := below_setCells (by omega) _ _ (hbA.alloc (by omega) _)
  have hs2 : ((w1.alloc (.cells #[Value.int .u32 0, Value.int .u32 0, Value.int .u32 0, Value.int .u32 0, Value.int .u32 0, Value.int .u32 0, Value.int .u32 0, Value.int .u32 0] 131)).setCells w1.heap.size 0 f8).heap.size = w1.heap.size + 1 := by rw [size_setCells, World.size_alloc]
  generalize (w1.alloc (.cells #[Value.int .u32 0, Value.int .u32 0, Value.int .u32 0, Value.int .u32 0, Value.int .u32 0, Value.int .u32 0, Value.int .u32 0, Value.int .u32 0] 131)).setCells w1.heap.size 0 f8 = w2 at *
  have rB := Row.new w2 25 #[.slice p len cap]
  rw [hs2] at rB
  have H4 : Hid (Row (w2.alloc (.cells #[.slice p len cap] 25)) w1.heap.size 131 f8 ∧ Row (w2.alloc (.cells #[.slice p len cap] 25)) w.heap.size 40 (List.replicate 32 (.int .u8 0)) ∧ Below w.heap.size w (w2.alloc (.cells #[.slice p len cap] 25)) ∧ Row (w2.alloc (.cells #[.slice p len cap] 25)) (w1.heap.size + 1) 25 [.slice p len cap]) := ⟨rH.alloc _, rR2.alloc _, hbB.alloc (by omega) _, rB⟩
  have hs4 : (w2.alloc (.cells #[.slice p len cap] 25)).heap.size = w1.heap.size + 2 := by rw [World.size_alloc, hs2]
  clear rB rH rR2 hbB hbA rR1 hb1 hs2
  generalize w2.alloc (.cells #[.slice p len cap] 25) = w4 at *
  refine wpIn_rangeFunc_arr rfl h1 (gf := 90) (lb := #[.pointer (some ⟨w1.heap.size + 1, 0, none⟩)]) rfl trivial (enters_of Tryd.func90 (by kernel_rfl) rfl)
    (encs := fun x : List Nat => #[.agg (u8s x).toArray]) (Ok := fun x _ => BlockOk x) (Kp := KpM (fun k => k = w1.heap.size) (w4.heap.size + 2)) (S := fun xs => xs = blocksL zs) (Sp := fun pre => ∃ r, pre ++ r = blocksL zs) (N := len + 3)
    (fun W' hs hb => blk1_iter (n - 1) (by omega) _ (w1.heap.size + 1) p len cap zs hlen W' (((HI.out.below H4.out.2.2.1).below (hb.mono (by omega))).mono (by omega)) (H4.out.2.2.2.later hb) (fun k => k = w1.heap.size) _ (fun _ _ h => h.1) (fun _ _ h => by rw [hs]; exact h.2) (fun j hj => by omega) (by omega) (by
      rcases HI.out.2.2.2.2 with h | ⟨b, off, hp, hb', _⟩
      · exact .inl h
      · exact .inr (fun a ha e => by rw [hp] at ha; cases ha; simp at e; omega)))
    KpM.trans (fun A o o' ho hc => KpM.record (by omega) o' ho hc) KpM.of_below (fun _ => rfl) 108 (fun x => u8s x)
    (fun pre A => Row A w1.heap.size 131 (u32s (wordsN pre).list) ∧ Row A w.heap.size 40 (List.replicate 32 (.int .u8 0)) ∧ Below w.heap.size w A)
    (fun _ _ _ => False)
    (Low.and (low_row (by omega) _) (Low.and (low_row (by omega) _) (low_below w (by omega))))
    (fun _ _ _ _ h _ => h)
    (fun _ _ _ h _ => h)
    ⟨by rw [wordsN_nil, ← HF8.out]; exact H4.out.1, H4.out.2.1, H4.out.2.2.1⟩
    (fun x A => { tmps := #[.slice p len cap, undef, .pointer (some ⟨w.heap.size, 0, none⟩), .pointer (some ⟨w1.heap.size, 0, none⟩), .pointer (some ⟨A.heap.size, 0, none⟩), .agg f8.toArray, .slice p len cap, .func (.func 90) #[] #[.pointer (some ⟨w1.heap.size + 1, 0, none⟩)], .agg (u8s x).toArray, undef, undef, undef, undef, undef], defers := [] }) ?assign ?body ?done ?stop
  case assign =>
    intro li x A K hok hK
    have HXL : Hid ((u8s x).length = 64) := by show _ = _; rw [u8s_length]; exact hok.1
    have HX1 : Hid (∀ v ∈ u8s x, v.oneCell' = true) := u8s_one x
    have HK : Hid (∀ W', Below A.heap.size A W' → Row W' A.heap.size 108 (u8s x) → K _ W') := hK
    clear hK
    generalize u8s x = V at *
    gi_wp2_with ((with_reducible show wpListIn _ _ _ _ _ (Oper.mk _ (Op.store 108 (.tmp 4) (.tmp 8)) _ _ _ _ :: _) _ _); refine wpListIn_store_Row rfl 108 (.tmp 4) (.tmp 8) rfl V rfl rfl (Row.new _ _ _) (by rw [HXL.out]; exact size108) (by rw [HXL.out]; rfl) HX1.out ?_; simp only [Act.put])
    exact HK.out _ (below_setCells (Nat.le_refl _) _ _ ((Below.refl _ A).alloc (Nat.le_refl _) _)) (Row.sets_all (Row.new _ _ _) (by rw [HXL.out]; rfl))
  case body =>
    rintro li pre x A₀ A ⟨hrH, hrR, hB⟩ hok hN hle hrow
    have HC : Hid (∀ A, Tab A → Calls Tryd.prog 79 #[.agg (u32s (wordsN pre).list).toArray, .agg (u8s x).toArray] A fun e w' => e = .returned (.agg (u32s (wordsN (pre ++ [x])).list).toArray) ∧ Below A.heap.size A w') := fun A hT => by
      rw [wordsN_snoc]; exact compress_any _ (wordsN_ok pre) x hok.1 hok.2 A hT
    have HXL : Hid ((u8s x).length = 64) := by show _ = _; rw [u8s_length]; exact hok.1
    have HRow : Hid (Row A A₀.heap.size 108 (u8s x)) := hrow
    have HrH : Hid (Row A w1.heap.size 131 (u32s (wordsN pre).list)) := hrH
    have HrR : Hid (Row A w.heap.size 40 (List.replicate 32 (.int .u8 0))) := hrR
    have HHl : Hid ((u32s (wordsN pre).list).length = 8) := by show _ = _; rw [u32s_length, St.list_length]
    have HHl2 : Hid ((u32s (wordsN (pre ++ [x])).list).length = 8) := by show _ = _; rw [u32s_length, St.list_length]
    have HH2o : Hid (∀ v ∈ u32s (wordsN (pre ++ [x])).list, v.oneCell' = true) := u32s_one _
    clear hrow hrH hrR
    generalize u8s x = V at *
    generalize hS2 : u32s (wordsN (pre ++ [x])).list = S2 at *
    have HS2 : Hid (u32s (wordsN (pre ++ [x])).list = S2) := hS2
    clear hS2
    generalize u32s (wordsN pre).list = S1 at *
    gi_wp2_with (first
      | ((with_reducible show wpListIn _ _ _ _ _ (Oper.mk _ (Op.load 131 (.tmp 3)) _ _ _ _ :: _) _ _); refine wpListIn_load_Row rfl 131 (.tmp 3) rfl rfl HrH.out Tryd.underlying131 (by rw [HHl.out]; exact size131) ?_; simp only [Act.put, List.setIfInBounds_toArray, List.set_cons_zero, List.set_cons_succ])
      | ((with_reducible show wpListIn _ _ _ _ _ (Oper.mk _ (Op.load 108 (.tmp 4)) _ _ _ _ :: _) _ _); refine wpListIn_load_Row rfl 108 (.tmp 4) rfl rfl HRow.out Tryd.underlying108 (by rw [HXL.out]; exact size108) ?_; simp only [Act.put, List.setIfInBounds_toArray, List.set_cons_zero, List.set_cons_succ]))
    refine ⟨fun _ => by omega, (CallsIn.inRound li (callsIn_wide.2 (HC.out _ (HT.out.below hB HT.out.pos)))).mono ?_⟩
    rintro e A2 ⟨rfl, hb2⟩
    gi_wp2_with ((with_reducible show wpListIn _ _ _ _ _ (Oper.mk _ (Op.store 131 (.tmp 3) (.tmp 11)) _ _ _ _ :: _) _ _); refine wpListIn_store_Row rfl 131 (.tmp 3) (.tmp 11) rfl S2 rfl rfl (HrH.out.later hb2) (by rw [HHl2.out]; exact size131) (by rw [HHl2.out, HHl.out]) HH2o.out ?_; simp only [Act.put])
    have hkp : KpM (fun k => k = w1.heap.size) (w4.heap.size + 2) A (A2.setCells w1.heap.size 0 S2) := (KpM.of_below hb2).trans (KpM.sets (M := fun k => k = w1.heap.size) rfl _ _ _)
    have hkf : KpM (fun k => k = w1.heap.size) w4.heap.size A (A2.setCells w1.heap.size 0 S2) := (KpM.of_below hb2).trans (KpM.sets (M := fun k => k = w1.heap.size) rfl _ _ _)
    exact ⟨hkf.2, hkp, by rw [HS2.out]; exact (HrH.out.later hb2).sets_all (by rw [HHl2.out, HHl.out]), Row.others (by omega) _ _ (HrR.out.later hb2), below_setCells (by omega) _ _ (hB.trans (hb2.mono (by have := hB.size; omega)))⟩
  case done =>
    rintro D xs A hD rfl ⟨hrH, hrR, hB⟩ hKD
    have HDg : Hid (∀ A, Calls Tryd.prog 81 #[.agg (u32s (wordsN (blocksL zs)).list).toArray] A fun e w' => e = .returned (.agg (u8s (sumN zs)).toArray) ∧ Below A.heap.size A w') := fun A => digest_core _ (St.list_length _) (St.list_lt (wordsN_ok _)) A
    have HrH : Hid (Row A w1.heap.size 131 (u32s (wordsN (blocksL zs)).list)) := hrH
    have HrR : Hid (Row A w.heap.size 40 (List.replicate 32 (.int .u8 0))) := hrR
    have HHl : Hid ((u32s (wordsN (blocksL zs)).list).length = 8) := by show _ = _; rw [u32s_length, St.list_length]
    have HSl : Hid ((u8s (sumN zs)).length = 32) := by show _ = _; rw [u8s_length]; exact digestN_length _
    have HSo : Hid (∀ v ∈ u8s (sumN zs), v.oneCell' = true) := u8s_one _
    clear hrH hrR
    generalize u32s (wordsN (blocksL zs)).list = S1 at *
    gi_wp2_with (first
      | ((with_reducible show wpListIn _ _ _ _ _ (Oper.mk _ (Op.load 131 (.tmp 3)) _ _ _ _ :: _) _ _); refine wpListIn_load_Row rfl 131 (.tmp 3) rfl rfl HrH.out Tryd.underlying131 (by rw [HHl.out]; exact size131) ?_; simp only [Act.put, List.setIfInBounds_toArray, List.set_cons_zero, List.set_cons_succ])
      | (gi_at_call 81; refine (callsIn_wide.2 (HDg.out _)).mono ?_; rintro e A2 ⟨rfl, hb2⟩)
      | ((with_reducible show wpListIn _ _ _ _ _ (Oper.mk _ (Op.store 40 (.tmp 2) (.tmp 13)) _ _ _ _ :: _) _ _); refine wpListIn_store_Row rfl 40 (.tmp 2) (.tmp 13) rfl (u8s (sumN zs)) rfl rfl (HrR.out.later hb2) (by rw [HSl.out]; exact size40) (by rw [HSl.out]; rfl) HSo.out ?_; simp only [Act.put]))
    have hKE := (hb2.block D (Array.getElem?_eq_some_iff.1 hKD).1).trans hKD
    have hKF : (A2.setCells w.heap.size 0 (u8s (sumN zs))).heap[D]? = some (.deferred (some [])) := by
      rw [heap_setCells_other (by omega)]; exact hKE
    refine ⟨by simp, .inl ⟨_, _, rfl, run_takeDeferred hKF, ?_⟩⟩
    have hR3 := ((HrR.out.later hb2).sets_all (vs := u8s (sumN zs)) (by rw [HSl.out]; rfl))
    refine ⟨_, results_Row rfl rfl ((World.putObj_heap_other (by omega)).trans hR3) Tryd.underlying40 (by rw [HSl.out]; exact size40), rfl, ?_⟩
    exact (below_setCells (Nat.le_refl _) _ _ (hB.trans (hb2.mono (by have := hB.size; omega)))).trans (below_putObj _ _ (by omega))
  case stop =>
    rintro D c pre A hD _ h hKD
    exact h.elim

/-- sha.Sum -/
theorem sum_any (p : Option Addr) (len cap : Nat) (zs : List Nat) (hlen : len ≤ 60000) (w : World) (hT : Tab w) (hI : IsBytes w.heap.size w p len cap zs) :
    Calls Tryd.prog 71 #[.slice p len cap] w fun e w' => e = .returned (.agg (u8s (sumN zs)).toArray) ∧ Below w.heap.size w w' :=
  callsIn_wide.1 (sum_in 8 (Nat.le_refl _) p len cap zs hlen w hT hI)
end Go.Proofs.YtobmcaknfbooiaaDoor.Sh
/-
  A text with all that stands behind it, cut into pieces of 64, is the blocks that sha.blocks tells.
-/
namespace Go.Proofs.YtobmcaknfbooiaaDoor.Sh
open Go Go.RowKit

/-- What is filled in behind a text: so many noughts. -/
def gapN (len : Nat) : Nat := (119 - len % 64) % 64
/-- A text with all that stands behind it. -/
def padL (zs : List Nat) : List Nat := zs ++ 128 :: List.replicate (gapN zs.length) 0 ++ be8 (8 * zs.length % 18446744073709551616)
theorem padL_length (zs : List Nat) : (padL zs).length = zs.length + 9 + gapN zs.length := by simp [padL, be8_length]; omega
theorem padL_mod (zs : List Nat) : (padL zs).length % 64 = 0 := by rw [padL_length]; unfold gapN; omega

theorem fullL_append (a b : List Nat) (k : Nat) (h : 64 * k ≤ a.length) : fullL (a ++ b) k = fullL a k := by
  unfold fullL
  apply List.map_congr_left
  intro j hj
  have hj' := List.mem_range.1 hj
  rw [List.drop_append_of_le_length (by omega), List.take_append_of_le_length (by simp; omega)]

theorem padL_blocks (zs : List Nat) : fullL (padL zs) ((padL zs).length / 64) = blocksL zs := by
  have hk : 64 * (zs.length / 64) ≤ zs.length := by omega
  have hr : (zs.drop (64 * (zs.length / 64))).length = zs.length % 64 := by simp; omega
  have e0 : ∀ B, (zs ++ B).drop (64 * (zs.length / 64)) = zs.drop (64 * (zs.length / 64)) ++ B := fun B => List.drop_append_of_le_length hk
  have eP : ∃ B, padL zs = zs ++ B ∧ B = 128 :: List.replicate (gapN zs.length) 0 ++ be8 (8 * zs.length % 18446744073709551616) := ⟨_, by simp [padL], rfl⟩
  obtain ⟨B, hB, hBe⟩ := eP
  unfold blocksL lastL
  rw [hr]
  by_cases h : zs.length % 64 < 56
  · have hg : gapN zs.length = 55 - zs.length % 64 := by unfold gapN; omega
    have hl : (padL zs).length / 64 = zs.length / 64 + 1 := by rw [padL_length, hg]; omega
    rw [if_pos h, hl, ← fullL_succ, hB, fullL_append _ _ _ hk, e0]
    congr 2
    rw [List.take_of_length_le (by rw [List.length_append, hr, hBe, hg]; simp [be8_length]; omega), hBe, hg]
    simp
  · have hg : gapN zs.length = 119 - zs.length % 64 := by unfold gapN; omega
    have hl : (padL zs).length / 64 = zs.length / 64 + 1 + 1 := by rw [padL_length, hg]; omega
    rw [if_neg h, hl, ← fullL_succ, ← fullL_succ, hB, fullL_append _ _ _ hk, e0, List.append_assoc]
    have e1 : B = (128 :: List.replicate (63 - zs.length % 64) 0) ++ (List.replicate 56 0 ++ be8 (8 * zs.length % 18446744073709551616)) := by
      rw [hBe, hg, show 119 - zs.length % 64 = (63 - zs.length % 64) + 56 by omega, ← List.replicate_append_replicate]
      simp
    have l1 : (zs.drop (64 * (zs.length / 64)) ++ 128 :: List.replicate (63 - zs.length % 64) 0).length = 64 := by
      rw [List.length_append, hr]; simp; omega
    congr 1
    have e2 : (zs ++ B).drop (64 * (zs.length / 64 + 1)) = List.replicate 56 0 ++ be8 (8 * zs.length % 18446744073709551616) := by
      rw [show 64 * (zs.length / 64 + 1) = 64 * (zs.length / 64) + 64 by omega, ← List.drop_drop, e0, e1, ← List.append_assoc, List.drop_append_of_le_length (by omega), List.drop_eq_nil_of_le (by omega), List.nil_append]
    rw [e2, e1, ← List.append_assoc, List.take_append_of_le_length (by omega), List.take_of_length_le (by omega), List.take_of_length_le (by simp [be8_length])]
    rfl

theorem padL_lt (zs : List Nat) (hz : ∀ z ∈ zs, z < 256) : ∀ z ∈ padL zs, z < 256 := by
  intro z h
  rcases List.mem_append.1 h with h | h
  · rcases List.mem_append.1 h with h | h
    · exact hz z h
    · rcases List.mem_cons.1 h with h | h
      · omega
      · have := (List.mem_replicate.1 h).2; omega
  · exact be8_lt _ z h
theorem full_ok (M : List Nat) (hM : ∀ z ∈ M, z < 256) (k : Nat) (hk : 64 * (k + 1) ≤ M.length) : BlockOk ((M.drop (64 * k)).take 64) :=
  ⟨by simp; omega, fun z hz => hM z (List.mem_of_mem_drop (List.mem_of_mem_take hz))⟩
theorem take_block (M : List Nat) (k : Nat) : M.take (64 * k) ++ (M.drop (64 * k)).take 64 = M.take (64 * (k + 1)) := by
  rw [show 64 * (k + 1) = 64 * k + 64 by omega, List.take_add]
end Go.Proofs.YtobmcaknfbooiaaDoor.Sh
/-
  A running sum in memory: its words, its rest, its length; what taking more bytes in makes of it.
-/
namespace Go.Proofs.YtobmcaknfbooiaaDoor.Sh
open Go Go.RowKit

/-- What a running sum keeps of the text cs. -/
def RunOk (s R : List Value) (cs : List Nat) : Prop := s = u32s (wordsN (fullL cs (cs.length / 64))).list ∧ R.length = 64 ∧ R.take (cs.length % 64) = u8s (cs.drop (64 * (cs.length / 64)))

theorem u8s_drop (l : List Nat) (k : Nat) : (u8s l).drop k = u8s (l.drop k) := by simp [u8s]
theorem u8s_take (l : List Nat) (k : Nat) : (u8s l).take k = u8s (l.take k) := by simp [u8s]
theorem u8s_app (a b : List Nat) : u8s (a ++ b) = u8s a ++ u8s b := by simp [u8s]

theorem take_splice {α : Type} (R cs : List α) (h n : Nat) (hh : h ≤ R.length) (hn : n = h + cs.length) : (splice R h cs).take n = R.take h ++ cs := by
  subst hn
  unfold splice
  rw [← List.append_assoc, List.take_append_of_le_length (by simp; omega), List.take_of_length_le (by simp; omega)]

theorem RunOk.part {s R : List Value} {cs new : List Nat} (h : RunOk s R cs) (hn : cs.length % 64 + new.length < 64) : RunOk s (splice R (cs.length % 64) (u8s new)) (cs ++ new) := by
  obtain ⟨h1, h2, h3⟩ := h
  have e1 : (cs ++ new).length / 64 = cs.length / 64 := by rw [List.length_append]; omega
  have e2 : (cs ++ new).length % 64 = cs.length % 64 + new.length := by rw [List.length_append]; omega
  refine ⟨by rw [e1, fullL_append _ _ _ (by omega)]; exact h1, by rw [length_splice _ _ _ (by simp; omega)]; exact h2, ?_⟩
  rw [e1, e2, take_splice R (u8s new) _ _ (by omega) (by simp), h3, List.drop_append_of_le_length (by omega), u8s_app]

theorem RunOk.full {s R : List Value} {cs new : List Nat} (h : RunOk s R cs) (hn : cs.length % 64 + new.length = 64) :
    splice R (cs.length % 64) (u8s new) = u8s (cs.drop (64 * (cs.length / 64)) ++ new) ∧ RunOk (u32s (compressN (wordsN (fullL cs (cs.length / 64))) (cs.drop (64 * (cs.length / 64)) ++ new)).list) (u8s (cs.drop (64 * (cs.length / 64)) ++ new)) (cs ++ new) := by
  obtain ⟨h1, h2, h3⟩ := h
  have e1 : (cs ++ new).length / 64 = cs.length / 64 + 1 := by rw [List.length_append]; omega
  have e2 : (cs ++ new).length % 64 = 0 := by rw [List.length_append]; omega
  have l1 : (cs.drop (64 * (cs.length / 64)) ++ new).length = 64 := by simp; omega
  have e3 : (cs ++ new).drop (64 * (cs.length / 64)) = cs.drop (64 * (cs.length / 64)) ++ new := List.drop_append_of_le_length (by omega)
  have e4 : (cs ++ new).length = 64 * (cs.length / 64 + 1) := by rw [List.length_append]; omega
  refine ⟨?_, ?_, by simpa using l1, ?_⟩
  · have h := take_splice R (u8s new) (cs.length % 64) 64 (by omega) (by simp; omega)
    rw [List.take_of_length_le (by rw [length_splice _ _ _ (by simp; omega)]; omega)] at h
    rw [h, h3, u8s_app]
  · rw [e1, ← fullL_succ, wordsN_snoc, fullL_append _ _ _ (by omega), e3, List.take_of_length_le (by omega)]
  · have e5 : (cs ++ new).drop (64 * (cs.length / 64 + 1)) = [] := List.drop_eq_nil_of_le (by omega)
    rw [e1, e2, e5]
    rfl

/-- The cells of a running sum. -/
def runCells (s R : List Value) (n : Nat) : List Value := .bool true :: (s ++ (R ++ [.int .u64 (n : Nat)]))
theorem runCells_length {s R : List Value} (n : Nat) (hs : s.length = 8) (hR : R.length = 64) : (runCells s R n).length = 74 := by simp [runCells, hs, hR]
theorem runCells_0 (s R : List Value) (n : Nat) : (runCells s R n)[0]? = some (.bool true) := rfl
theorem runCells_73 {s R : List Value} (n : Nat) (hs : s.length = 8) (hR : R.length = 64) : (runCells s R n)[73]? = some (.int .u64 (n : Nat)) := by
  unfold runCells
  rw [List.getElem?_cons_succ, List.getElem?_append_right (by omega), List.getElem?_append_right (by omega)]
  simp [hs, hR]
theorem runCells_set {s R : List Value} (n m : Nat) (hs : s.length = 8) (hR : R.length = 64) : (runCells s R n).set 73 (.int .u64 (m : Nat)) = runCells s R m := by
  unfold runCells
  rw [List.set_cons_succ, List.set_append_right _ _ (by omega), List.set_append_right _ _ (by omega)]
  simp [hs, hR]
theorem runCells_words {W : World} {B : Nat} {s R : List Value} {n : Nat} (h : Row W B 133 (runCells s R n)) : W.rangeAt B 1 s := fun j v hj => h.cell (by
  have hl : j < s.length := by
    rcases Nat.lt_or_ge j s.length with h | h
    · exact h
    · rw [List.getElem?_eq_none h] at hj; cases hj
  unfold runCells
  rw [show 1 + j = j + 1 by omega, List.getElem?_cons_succ, List.getElem?_append_left hl]
  exact hj)
theorem runCells_rest {W : World} {B : Nat} {s R : List Value} {n : Nat} (hs : s.length = 8) (h : Row W B 133 (runCells s R n)) : W.rangeAt B 9 R := fun j v hj => h.cell (by
  have hl : j < R.length := by
    rcases Nat.lt_or_ge j R.length with h | h
    · exact h
    · rw [List.getElem?_eq_none h] at hj; cases hj
  unfold runCells
  rw [show 9 + j = (8 + j) + 1 by omega, List.getElem?_cons_succ, List.getElem?_append_right (by omega), List.getElem?_append_left (by omega)]
  simpa [hs] using hj)
theorem runCells_splice {s R cs : List Value} (n h : Nat) (hs : s.length = 8) (hR : R.length = 64) (hh : h + cs.length ≤ 64) : splice (runCells s R n) (9 + h) cs = runCells s (splice R h cs) n := by
  unfold splice runCells
  rw [show 9 + h = (8 + h) + 1 by omega, List.take_succ_cons, List.take_append, List.take_of_length_le (by omega), show 8 + h - s.length = h by omega, List.take_append_of_le_length (by omega),
    show 8 + h + 1 + cs.length = (8 + (h + cs.length)) + 1 by omega, List.drop_succ_cons, List.drop_append, List.drop_eq_nil_of_le (show s.length ≤ 8 + (h + cs.length) by omega), show 8 + (h + cs.length) - s.length = h + cs.length by omega, List.drop_append_of_le_length (by omega)]
  simp
theorem runCells_put {s s' R : List Value} (n : Nat) (hs : s.length = 8) (hs' : s'.length = 8) : putAt (runCells s R n) 1 s' = runCells s' R n := by
  rw [putAt_eq _ _ _ (by simp [runCells]; omega)]
  unfold runCells
  rw [List.take_succ_cons, List.take_zero, show 1 + s'.length = s'.length + 1 by omega, List.drop_succ_cons, show s'.length = s.length by omega, List.drop_append_of_le_length (by omega), List.drop_eq_nil_of_le (by omega)]
  simp

/-- Block B is a running sum of cs. -/
def RunAt (W : World) (B : Nat) (cs : List Nat) : Prop := ∃ s R, RunOk s R cs ∧ Row W B 133 (runCells s R cs.length)
theorem RunAt.lt {W : World} {B : Nat} {cs : List Nat} (h : RunAt W B cs) : B < W.heap.size := by obtain ⟨_, _, _, h⟩ := h; exact h.lt
theorem RunAt.below {W W' : World} {n B : Nat} {cs : List Nat} (h : RunAt W B cs) (hb : Below n W W') (hn : B < n) : RunAt W' B cs := by obtain ⟨s, R, h1, h2⟩ := h; exact ⟨s, R, h1, h2.below hb hn⟩
theorem RunAt.later {W W' : World} {B : Nat} {cs : List Nat} (h : RunAt W B cs) (hb : Below W.heap.size W W') : RunAt W' B cs := h.below hb h.lt
theorem RunAt.alloc {W : World} {B : Nat} {cs : List Nat} (h : RunAt W B cs) (o : Obj) : RunAt (W.alloc o) B cs := by obtain ⟨s, R, h1, h2⟩ := h; exact ⟨s, R, h1, h2.alloc o⟩
theorem RunOk.len {s R : List Value} {cs : List Nat} (h : RunOk s R cs) : s.length = 8 := by rw [h.1, u32s_length, St.list_length]

theorem _root_.Go.Proofs.YtobmcaknfbooiaaDoor.But.tab {B n : Nat} {w w' : World} (h : But B n w w') (hB : 2 < B) (hn : 2 < n) (hT : Tab w) : Tab w' := fun i hi => (World.cell?_of_block (a := ⟨2, i, none⟩) (h.block 2 hn (by omega))).trans (hT i hi)
theorem _root_.Go.Proofs.YtobmcaknfbooiaaDoor.But.bytes {B n n₀ : Nat} {w w' : World} (h : But B n w w') (hn : n₀ ≤ n) {p : Option Addr} {len cap : Nat} {zs : List Nat} (hp : len = 0 ∨ ∀ a, p = some a → a.block ≠ B) : IsBytes n₀ w p len cap zs → IsBytes n₀ w' p len cap zs
  | ⟨h1, h2, h3, h4, .inl e⟩ => ⟨h1, h2, h3, h4, .inl e⟩
  | ⟨h1, h2, h3, h4, .inr ⟨b, off, e, hb, hc⟩⟩ => ⟨h1, h2, h3, h4, .inr ⟨b, off, e, hb, fun i hi => by
      have hbB : b ≠ B := by
        rcases hp with h0 | h0
        · omega
        · exact h0 _ e
      rw [World.cell?_of_block (a := ⟨b, off + i, none⟩) (h.block b (by omega) hbB)]
      exact hc i hi⟩⟩
end Go.Proofs.YtobmcaknfbooiaaDoor.Sh
/-
  What a running sum's held, Begin and More do: More takes the bytes in behind what is there; nothing else that lay before the call has turned.
-/
namespace Go.Proofs.YtobmcaknfbooiaaDoor.Sh
open Go Go.RowKit

set_option maxHeartbeats 1000000 in
/-- held -/
theorem held_any (B n : Nat) (hn : n < 9223372036854775808) (w : World) (hc : w.cell? ⟨B, 73, none⟩ = some (.int .u64 (n : Nat))) :
    Calls Tryd.prog 78 #[.pointer (some ⟨B, 0, none⟩)] w fun e w' => e = .returned (.int .i64 (n % 64 : Nat)) ∧ w' = w := by
  go_enter Tryd.func78, Tryd.ntmps78
  go_wp2
  go_ret
  exact ⟨by go_num, rfl⟩

/-- copy into a row, as one step of a region that draws its order: of all else nothing turns. -/
theorem step_copy_but {P : Program} {ops : Array Oper} {o : Oper} {a : Act} {w : World} {K : Act → World → Prop} {Q : Exit → Act → World → Prop} {E : Prop} (hgd : o.guard = none) (d s : Operand) (dT sT : TypeId)
    (ho : o.op = .call { callee := .builtin .copy, args := #[d, s], argTypes := #[dT, sT] }) (elem : TypeId) (hu : P.underlying dT = some (.slice elem)) (hsz : (P.info? elem).map (·.size) = some 1)
    (g off dLen dCap : Nat) (ad : Addr) (sLen sCap : Nat) (hd : a.eval d = .slice (some ⟨g, off, none⟩) dLen dCap) (hs : a.eval s = .slice (some ad) sLen sCap)
    (cur : List Value) (t : TypeId) (hg : Row w g t cur) (cs : List Value) (hn : cs.length = Nat.min sLen dLen)
    (hsrc : ∀ j v, cs[j]? = some v → w.cell? (ad.add j) = some v) (hfit : off + cs.length ≤ cur.length) (h1 : ∀ v ∈ cs, v.oneCell' = true)
    (h : ∀ w', Row w' g t (splice cur off cs) → But g w.heap.size w w' → K (a.put o.dst (goInt cs.length)) w') :
    if Region.wanted o (yielded ops a.tmps) = true then Oper.wp P o a w K Q else E := by
  have hw : Region.wanted o (yielded ops a.tmps) = true := by simp [Region.wanted, hgd]
  rw [if_pos hw]
  have hrun := run_copy_row (P := P) w dT sT o.type elem g off dLen dCap ad sLen sCap cur.toArray t cs hu hsz hg hn hsrc (by simpa using hfit) h1
  unfold Oper.wp
  simp [execOp, ho, resolve, invoke, builtin, hd, hs, hrun, Result.andThen]
  refine h _ ?_ ⟨rfl, rfl, rfl, by simp [World.setRow], fun k _ hk => setRow_other w g k _ hk⟩
  show _ = _
  simpa [splice] using setRow_heap w g _ _ t _ hg

set_option maxRecDepth 100000 in
set_option maxHeartbeats 4000000 in
theorem more_any (B : Nat) (hB0 : 2 < B) (zs ys : List Nat) (p : Option Addr) (len cap : Nat) (w : World) (hT : Tab w) (hR : RunAt w B zs) (hI : IsBytes w.heap.size w p len cap ys) (hp : len = 0 ∨ ∀ a, p = some a → a.block ≠ B) (hlen : zs.length + len ≤ 100000) (hz : ∀ z ∈ zs, z < 256) :
    Calls Tryd.prog 67 #[.pointer (some ⟨B, 0, none⟩), .slice p len cap] w fun e w' => (∃ v, e = .returned v) ∧ RunAt w' B (zs ++ ys) ∧ But B w.heap.size w w' := by
  have HT : Hid (Tab w) := hT
  have HI : Hid (IsBytes w.heap.size w p len cap ys) := hI
  have HR : Hid (RunAt w B zs) := hR
  have HP : Hid (len = 0 ∨ ∀ a, p = some a → a.block ≠ B) := hp
  have HZ : Hid (∀ z ∈ zs, z < 256) := hz
  have hlc := hI.2.1
  have hcc := hI.2.2.1
  have HYL : Hid (ys.length = len) := hI.1
  have hBl := hR.lt
  obtain ⟨s0, R0, hok0, hrow0⟩ := hR
  have c0 := hrow0.cell (runCells_0 _ _ _)
  clear hT hI hp hz hok0 hrow0
  go_enter Tryd.func67, Tryd.ntmps67
  go_wp2
  go_loopw [1] (fun s wr => ∃ (o L C : Nat) (q : Option Addr), s = .slice q L C ∧ L + o = len ∧ C + o = cap ∧ (0 < L → ∃ b off, p = some ⟨b, off, none⟩ ∧ q = some ⟨b, off + o, none⟩) ∧ RunAt wr B (zs ++ ys.take o) ∧ But B w.heap.size w wr)
    (fun s _ => sliceLen s)
  case atStart => exact ⟨0, len, cap, p, rfl, by omega, by omega, fun hL => by
      rcases HI.out.2.2.2.2 with h | ⟨b, off, rfl, _⟩
      · omega
      · exact ⟨b, off, rfl, rfl⟩, by rw [List.take_zero, List.append_nil]; exact HR.out, But.refl _ _ _⟩
  case round =>
    obtain ⟨o, L, C, q, rfl, hL, hC, hq, hrun, hbut⟩ := hrel
    by_cases hLz : 0 < L
    · obtain ⟨b, off, hpe, rfl⟩ := hq hLz
      have hLi : (0 : Int) < (L : Int) := by omega
      obtain ⟨cs, hcs⟩ : ∃ cs, cs = zs ++ ys.take o := ⟨_, rfl⟩
      rw [← hcs] at hrun
      have hcl : cs.length = zs.length + o := by rw [hcs, List.length_append, List.length_take, HYL.out]; omega
      obtain ⟨s, R, hok, hrow⟩ := hrun
      have HOK : Hid (RunOk s R cs) := hok
      have HRow : Hid (Row wr B 133 (runCells s R cs.length)) := hrow
      obtain ⟨m, hm⟩ : ∃ m, m = cs.length := ⟨_, rfl⟩
      have c73 := hrow.cell (runCells_73 cs.length hok.len hok.2.1)
      rw [← hm] at c73
      have HHeld : Hid (∀ W : World, W.cell? ⟨B, 73, none⟩ = some (.int .u64 (m : Nat)) → Calls Tryd.prog 78 #[.pointer (some ⟨B, 0, none⟩)] W fun e w' => e = .returned (.int .i64 (m % 64 : Nat)) ∧ w' = W) := fun W hc => held_any B m (by omega) W hc
      obtain ⟨n, hn⟩ : ∃ n, n = min L (64 - m % 64) := ⟨_, rfl⟩
      have hIr : IsBytes w.heap.size wr p len cap ys := hbut.bytes (Nat.le_refl _) HP.out HI.out
      have hsrc : ∀ j v, (u8s ((ys.drop o).take n))[j]? = some v → wr.cell? ((⟨b, off + o, none⟩ : Addr).add j) = some v := by
        intro j v hj
        rcases hIr.2.2.2.2 with h | ⟨b', off', e, _, hc⟩
        · omega
        · rw [hpe] at e; cases e
          have hjn : j < n := by
            rcases Nat.lt_or_ge j n with h | h
            · exact h
            · rw [List.getElem?_eq_none (by simp; omega)] at hj; cases hj
          rw [u8s_at (by simp [HYL.out]; omega)] at hj
          cases hj
          rw [Addr.add_mid, Nat.add_assoc, hc (o + j) (by omega)]
          simp [hjn]
      have HSrc : Hid (∀ j v, (u8s ((ys.drop o).take n))[j]? = some v → wr.cell? ((⟨b, off + o, none⟩ : Addr).add j) = some v) := hsrc
      have HNl : Hid (((ys.drop o).take n).length = n) := by show _ = _; simp [HYL.out]; omega
      have HN : Hid (n = min L (64 - m % 64)) := hn
      have HL : Hid (L + o = len ∧ C + o = cap ∧ p = some ⟨b, off, none⟩) := ⟨hL, hC, hpe⟩
      have HCS : Hid (cs = zs ++ ys.take o) := hcs
      have HM : Hid (m = cs.length) := hm
      have hm64 : m % 64 < 64 := by omega
      have hm64i : ((m % 64 : Nat) : Int) ≤ 64 := by omega
      have hnL : n ≤ L := by omega
      have hLC : L ≤ C := by omega
      have hCc : C ≤ 9223372036854775807 := by omega
      have hbB : b ≠ B := by
        rcases HP.out with h | h
        · omega
        · exact h _ hpe
      have HBut : Hid (But B w.heap.size w wr) := hbut
      have hsz := hbut.size
      clear hok hrow hsrc hIr hn hL hC hpe hq hcs hm hbut
      go_wp2
      have eS : IntKind.i64.wrap (64 - ((m % 64 : Nat) : Int)) = ((64 - m % 64 : Nat) : Int) := by rw [IntKind.wrap_i64]; omega
      generalize hh : m % 64 = h at *
      have HH : Hid (m % 64 = h) := hh
      have hne : ¬ 64 = h := by omega
      clear hh
      obtain ⟨NV, hNV⟩ : ∃ NV, NV = u8s ((ys.drop o).take n) := ⟨_, rfl⟩
      have HNV : Hid (NV = u8s ((ys.drop o).take n)) := hNV
      have HNVl : Hid (NV.length = n) := by show _ = _; rw [hNV, u8s_length]; exact HNl.out
      have HNV1 : Hid (∀ v ∈ NV, v.oneCell' = true) := by rw [hNV]; exact u8s_one _
      rw [← hNV] at HSrc
      clear hNV
      refine wp_region_noPanic ?_
      refine wp_region_held_drew (S := fun _ => True) (by kernel_rfl) trivial (fun hHeld => ?_)
      refine wpAnyH_takesAt 0 4 5 (of_decide_eq_true (by kernel_rfl)) rfl (fun _ _ _ _ _ h => h) (by kernel_rfl) (by kernel_rfl) hHeld ?_
      simp only [List.drop_zero, List.take_succ_cons, List.take_zero]
      iterate 4 (refine wpHeld_step (v := ?_) (by rfl) (fun wz hSw => ?_) ?_; rotate_left; (focus ((try dsimp only at hSw); go_simp; try with_reducible rfl)); (simp only [Act.put, List.setIfInBounds_toArray, List.set_cons_zero, List.set_cons_succ]))
      refine wpHeld_nil ?_
      refine wpAnyH_takesAt 6 1 4 (of_decide_eq_true (by kernel_rfl)) rfl (fun _ _ _ _ _ h => h) (by kernel_rfl) (by kernel_rfl) hHeld ?_
      simp only [List.drop_succ_cons, List.drop_zero, List.take_succ_cons, List.take_zero]
      iterate 1 (refine wpHeld_step (v := ?_) (by rfl) (fun wz hSw => ?_) ?_; rotate_left; (focus ((try dsimp only at hSw); go_simp; try with_reducible rfl)); (simp only [Act.put, List.setIfInBounds_toArray, List.set_cons_zero, List.set_cons_succ]))
      refine wpHeld_nil ?_
      refine wpAnyH_only (i := 4) (by kernel_rfl) rfl (fun K hK => ?_)
      rw [if_pos (by rfl)]
      go_simp
      refine (HHeld.out wr.drew c73).mono ?_
      rintro e w2 ⟨rfl, rfl⟩
      refine hK.out _ _ hHeld ?_
      clear hK K
      refine wpAnyH_takesAt 5 1 2 (of_decide_eq_true (by kernel_rfl)) rfl (fun _ _ _ _ _ h => h) (by kernel_rfl) (by kernel_rfl) hHeld ?_
      simp only [List.drop_succ_cons, List.drop_zero, List.take_succ_cons, List.take_zero]
      iterate 1 (refine wpHeld_step (v := ?_) (by rfl) (fun wz hSw => ?_) ?_; rotate_left; (focus ((try dsimp only at hSw); go_simp; try with_reducible rfl)); (simp only [Act.put, List.setIfInBounds_toArray, List.set_cons_zero, List.set_cons_succ]))
      refine wpHeld_nil ?_
      refine wpAnyH_only (i := 7) (by kernel_rfl) rfl (fun K hK => ?_)
      refine step_copy_but rfl (.tmp 22) (.tmp 23) 25 25 rfl 5 Tryd.underlying25 size5 B (9 + h) (64 - h) (64 - h) ⟨b, off + o, none⟩ L C rfl rfl (runCells s R cs.length) 133 HRow.out.drew NV (by rw [HNVl.out, HN.out]) HSrc.out (by rw [runCells_length _ HOK.out.len HOK.out.2.1, HNVl.out]; have := HN.out; omega) HNV1.out (fun w3 hrow3 hbut3 => ?_)
      rw [HNVl.out]
      rw [runCells_splice _ _ HOK.out.len HOK.out.2.1 (by rw [HNVl.out]; have := HN.out; omega)] at hrow3
      refine hK.out _ _ trivial ?_
      clear hK K
      refine wpAnyH_only (i := 8) (by kernel_rfl) rfl (fun K hK => ?_)
      rw [if_pos (by rfl)]
      go_simp
      refine hK.out _ _ trivial ?_
      clear hK K
      refine wpAnyH_done (by kernel_rfl) ?_ _
      refine NoPanic.normal ?_
      have HRow3 : Hid (Row w3 B 133 (runCells s (splice R h NV) cs.length)) := hrow3
      have HBut3 : Hid (But B w.heap.size w w3) := HBut.out.trans ⟨hbut3.os, hbut3.tape, hbut3.output, hbut3.size, fun k hk hB => hbut3.block k (Nat.lt_of_lt_of_le hk hsz) hB⟩
      have hRl : (splice R h NV).length = 64 := by rw [length_splice _ _ _ (by rw [HNVl.out, HOK.out.2.1]; have := HN.out; omega)]; exact HOK.out.2.1
      have HRl : Hid ((splice R h NV).length = 64) := hRl
      have d73 := hrow3.cell (runCells_73 cs.length HOK.out.len hRl)
      have f73 := hrow3.frozen 73
      rw [← HM.out] at d73
      have hmb : m + n ≤ 200000 := by have := HM.out; have := HL.out; omega
      have eU : IntKind.u64.wrap ((m : Int) + (n : Int)) = ((m + n : Nat) : Int) := by rw [IntKind.wrap_u64]; omega
      have hnLi : (n : Int) ≤ (L : Int) := by omega
      clear hrow3 hbut3 hRl c73
      generalize hR2 : splice R h NV = R2 at *
      have HR2 : Hid (splice R h NV = R2) := hR2
      clear hR2
      have HTake : Hid (zs ++ ys.take (o + n) = cs ++ (ys.drop o).take n) := by show _ = _; rw [HCS.out, List.take_add, List.append_assoc]
      have HLen : Hid ((cs ++ (ys.drop o).take n).length = m + n) := by show _ = _; rw [List.length_append, HNl.out, ← HM.out]
      have HRow4 : Hid (Row (w3.setCell ⟨B, 73, none⟩ (.int .u64 ((m : Int) + (n : Int)))) B 133 (runCells s R2 (m + n))) := by
        have h := HRow3.out.set 73 (.int .u64 ((m + n : Nat) : Int))
        rw [runCells_set _ _ HOK.out.len HRl.out] at h
        exact h
      have HBut4 : Hid (But B w.heap.size w (w3.setCell ⟨B, 73, none⟩ (.int .u64 ((m : Int) + (n : Int))))) := HBut3.out.trans (But.set _ _)
      by_cases hfull : (m + n) % 64 = 0
      · have hfi : (((m : Int) + (n : Int)) % 64 == 0) = true := by simp; omega
        have hhn : h + n = 64 := by have := HN.out; have := HH.out; omega
        have HF := HOK.out.full (new := (ys.drop o).take n) (by rw [HNl.out, ← HM.out, HH.out]; exact hhn)
        rw [← HM.out, HH.out, ← HNV.out, HR2.out] at HF
        obtain ⟨X, hX⟩ : ∃ X, X = cs.drop (64 * (m / 64)) ++ (ys.drop o).take n := ⟨_, rfl⟩
        rw [← hX] at HF
        have HXl : Hid (X.length = 64) := by show _ = _; rw [hX, List.length_append, List.length_drop, HNl.out, ← HM.out]; have := HH.out; omega
        have HXb : Hid (∀ z ∈ X, z < 256) := by
          intro z hz'
          rw [hX] at hz'
          rcases List.mem_append.1 hz' with h1 | h1
          · have h2 := List.mem_of_mem_drop h1
            rw [HCS.out] at h2
            rcases List.mem_append.1 h2 with h3 | h3
            · exact HZ.out z h3
            · exact HI.out.2.2.2.1 z (List.mem_of_mem_take h3)
          · exact HI.out.2.2.2.1 z (List.mem_of_mem_drop (List.mem_of_mem_take h1))
        have HRX : Hid (R2 = u8s X) := HF.1
        have HSe : Hid (s = u32s (wordsN (fullL cs (m / 64))).list) := by have h := HOK.out.1; rw [← HM.out] at h; exact h
        have HOK2 : Hid (RunOk (u32s (compressN (wordsN (fullL cs (m / 64))) X).list) (u8s X) (cs ++ (ys.drop o).take n)) := HF.2
        have HC : Hid (∀ A, Tab A → Calls Tryd.prog 79 #[.agg s.toArray, .agg R2.toArray] A fun e w' => e = .returned (.agg (u32s (compressN (wordsN (fullL cs (m / 64))) X).list).toArray) ∧ Below A.heap.size A w') := fun A hT => by
          rw [HSe.out, HRX.out]; exact compress_any _ (wordsN_ok _) X HXl.out HXb.out A hT
        clear HF hX
        generalize hS2 : u32s (compressN (wordsN (fullL cs (m / 64))) X).list = S2 at *
        have HS2l : Hid (S2.length = 8) := by show _ = _; rw [← hS2, u32s_length, St.list_length]
        have HS21 : Hid (∀ v ∈ S2, v.oneCell' = true) := by rw [← hS2]; exact u32s_one _
        clear hS2
        by_cases hCn : C = n
        · go_wp2
          generalize hw4 : w3.setCell ⟨B, 73, none⟩ (.int .u64 ((m : Int) + (n : Int))) = w4 at *
          refine wp_region_noPanic ?_
          refine wp_region_held_drew (S := fun _ => True) (by kernel_rfl) trivial (fun hHeld => ?_)
          refine wpAnyH_takesAt 0 4 9 (of_decide_eq_true (by kernel_rfl)) rfl (fun _ _ _ _ _ h => h) (by kernel_rfl) (by kernel_rfl) hHeld ?_
          simp only [List.drop_zero, List.take_succ_cons, List.take_zero]
          iterate 4 (refine wpHeld_step (v := ?_) (by rfl) (fun wz hSw => ?_) ?_; rotate_left; (focus ((try dsimp only at hSw); go_simp; try with_reducible rfl)); (simp only [Act.put, List.setIfInBounds_toArray, List.set_cons_zero, List.set_cons_succ]))
          refine wpHeld_nil ?_
          refine wpAnyH_takesAt 5 3 6 (of_decide_eq_true (by kernel_rfl)) rfl (fun _ _ _ _ _ h => h) (by kernel_rfl) (by kernel_rfl) hHeld ?_
          simp only [List.drop_succ_cons, List.drop_zero, List.take_succ_cons, List.take_zero]
          iterate 3 (refine wpHeld_step (v := ?_) (by rfl) (fun wz hSw => ?_) ?_; rotate_left; (focus ((try dsimp only at hSw); go_simp; try with_reducible rfl)); (simp only [Act.put, List.setIfInBounds_toArray, List.set_cons_zero, List.set_cons_succ]))
          refine wpHeld_nil ?_
          refine wpAnyH_either (i := 4) (j := 8) (by kernel_rfl) rfl rfl (fun K hK => ?_) (fun K hK => ?_)
          · rw [if_pos (by rfl)]
            refine wp_load_mid 131 (.tmp 43) rfl B 1 rfl s _ (runCells_words HRow4.out.drew) Tryd.underlying131 rfl (by rw [HOK.out.len]; exact size131) ?_
            simp only [Act.put, List.setIfInBounds_toArray]
            refine hK.out _ _ trivial ?_
            clear hK K
            refine wpAnyH_only (i := 8) (by kernel_rfl) rfl (fun K hK => ?_)
            rw [if_pos (by rfl)]
            refine wp_load_mid 108 (.tmp 47) rfl B 9 rfl R2 _ (runCells_rest HOK.out.len HRow4.out.drew) Tryd.underlying108 rfl (by rw [HRl.out]; exact size108') ?_
            simp only [Act.put]
            refine hK.out _ _ trivial ?_
            clear hK K
            refine wpAnyH_only (i := 9) (by kernel_rfl) rfl (fun K hK => ?_)
            rw [if_pos (by rfl)]
            go_simp
            refine (HC.out w4.drew (HBut4.out.drew.tab hB0 (by have := HT.out.pos; omega) HT.out)).mono ?_
            rintro e w5 ⟨rfl, hb5⟩
            refine hK.out _ _ trivial ?_
            clear hK K
            have HRow5 : Hid (Row w5 B 133 (runCells s R2 (m + n))) := HRow4.out.drew.later hb5
            have HBut5 : Hid (But B w.heap.size w w5) := HBut4.out.drew.trans (But.of_below hb5 (by have := HBut4.out.size; simpa using this))
            refine wpAnyH_takesAt 10 2 1 (of_decide_eq_true (by kernel_rfl)) rfl (fun _ _ _ _ _ h => h) (by kernel_rfl) (by kernel_rfl) hHeld ?_
            simp only [List.drop_succ_cons, List.drop_zero, List.take_succ_cons, List.take_zero]
            iterate 2 (refine wpHeld_step (v := ?_) (by rfl) (fun wz hSw => ?_) ?_; rotate_left; (focus ((try dsimp only at hSw); go_simp; try with_reducible rfl)); (simp only [Act.put, List.setIfInBounds_toArray, List.set_cons_zero, List.set_cons_succ]))
            refine wpHeld_nil ?_
            refine wpAnyH_only (i := 12) (by kernel_rfl) rfl (fun K hK => ?_)
            rw [if_pos (by rfl)]
            refine wp_store_mid 131 (.tmp 51) (.tmp 49) rfl B 1 S2.toArray rfl rfl (fun j hj => ⟨by rw [HRow5.out.cell (List.getElem?_eq_getElem (by rw [runCells_length _ HOK.out.len HRl.out]; simp [HS2l.out] at hj; omega))]; rfl, HRow5.out.frozen _⟩) (by simpa [HS2l.out] using size131) (all_oneCell_toArray HS21.out) ?_
            simp only [Act.put]
            refine hK.out _ _ trivial ?_
            clear hK K
            refine wpAnyH_done (by kernel_rfl) ?_ _
            refine NoPanic.normal ?_
            have HRow6 : Hid (Row (w5.setCells B 1 S2) B 133 (runCells S2 R2 (m + n))) := by
              have h := Row.sets S2 1 HRow5.out
              rw [runCells_put _ HOK.out.len HS2l.out] at h
              exact h
            have HBut6 : Hid (But B w.heap.size w (w5.setCells B 1 S2)) := HBut5.out.trans (But.sets _ _ _)
            go_wp2
            go_roundw
            case rel =>
              obtain ⟨h1, h2, h3⟩ := HL.out
              exact ⟨o + n, L - n, 0, _, rfl, by omega, by omega, fun hh => by omega, ⟨S2, R2, by rw [HTake.out, HRX.out]; exact HOK2.out, by rw [HTake.out, HLen.out]; exact HRow6.out⟩, HBut6.out⟩
            case measure => have := HN.out; simp only [sliceLen]; omega
          · rw [if_pos (by rfl)]
            refine wp_load_mid 108 (.tmp 47) rfl B 9 rfl R2 _ (runCells_rest HOK.out.len HRow4.out.drew) Tryd.underlying108 rfl (by rw [HRl.out]; exact size108') ?_
            simp only [Act.put, List.setIfInBounds_toArray]
            refine hK.out _ _ trivial ?_
            clear hK K
            refine wpAnyH_only (i := 4) (by kernel_rfl) rfl (fun K hK => ?_)
            rw [if_pos (by rfl)]
            refine wp_load_mid 131 (.tmp 43) rfl B 1 rfl s _ (runCells_words HRow4.out.drew) Tryd.underlying131 rfl (by rw [HOK.out.len]; exact size131) ?_
            simp only [Act.put]
            refine hK.out _ _ trivial ?_
            clear hK K
            refine wpAnyH_only (i := 9) (by kernel_rfl) rfl (fun K hK => ?_)
            rw [if_pos (by rfl)]
            go_simp
            refine (HC.out w4.drew (HBut4.out.drew.tab hB0 (by have := HT.out.pos; omega) HT.out)).mono ?_
            rintro e w5 ⟨rfl, hb5⟩
            refine hK.out _ _ trivial ?_
            clear hK K
            have HRow5 : Hid (Row w5 B 133 (runCells s R2 (m + n))) := HRow4.out.drew.later hb5
            have HBut5 : Hid (But B w.heap.size w w5) := HBut4.out.drew.trans (But.of_below hb5 (by have := HBut4.out.size; simpa using this))
            refine wpAnyH_takesAt 10 2 1 (of_decide_eq_true (by kernel_rfl)) rfl (fun _ _ _ _ _ h => h) (by kernel_rfl) (by kernel_rfl) hHeld ?_
            simp only [List.drop_succ_cons, List.drop_zero, List.take_succ_cons, List.take_zero]
            iterate 2 (refine wpHeld_step (v := ?_) (by rfl) (fun wz hSw => ?_) ?_; rotate_left; (focus ((try dsimp only at hSw); go_simp; try with_reducible rfl)); (simp only [Act.put, List.setIfInBounds_toArray, List.set_cons_zero, List.set_cons_succ]))
            refine wpHeld_nil ?_
            refine wpAnyH_only (i := 12) (by kernel_rfl) rfl (fun K hK => ?_)
            rw [if_pos (by rfl)]
            refine wp_store_mid 131 (.tmp 51) (.tmp 49) rfl B 1 S2.toArray rfl rfl (fun j hj => ⟨by rw [HRow5.out.cell (List.getElem?_eq_getElem (by rw [runCells_length _ HOK.out.len HRl.out]; simp [HS2l.out] at hj; omega))]; rfl, HRow5.out.frozen _⟩) (by simpa [HS2l.out] using size131) (all_oneCell_toArray HS21.out) ?_
            simp only [Act.put]
            refine hK.out _ _ trivial ?_
            clear hK K
            refine wpAnyH_done (by kernel_rfl) ?_ _
            refine NoPanic.normal ?_
            have HRow6 : Hid (Row (w5.setCells B 1 S2) B 133 (runCells S2 R2 (m + n))) := by
              have h := Row.sets S2 1 HRow5.out
              rw [runCells_put _ HOK.out.len HS2l.out] at h
              exact h
            have HBut6 : Hid (But B w.heap.size w (w5.setCells B 1 S2)) := HBut5.out.trans (But.sets _ _ _)
            go_wp2
            go_roundw
            case rel =>
              obtain ⟨h1, h2, h3⟩ := HL.out
              exact ⟨o + n, L - n, 0, _, rfl, by omega, by omega, fun hh => by omega, ⟨S2, R2, by rw [HTake.out, HRX.out]; exact HOK2.out, by rw [HTake.out, HLen.out]; exact HRow6.out⟩, HBut6.out⟩
            case measure => have := HN.out; simp only [sliceLen]; omega
        · go_wp2
          generalize hw4 : w3.setCell ⟨B, 73, none⟩ (.int .u64 ((m : Int) + (n : Int))) = w4 at *
          refine wp_region_noPanic ?_
          refine wp_region_held_drew (S := fun _ => True) (by kernel_rfl) trivial (fun hHeld => ?_)
          refine wpAnyH_takesAt 0 4 9 (of_decide_eq_true (by kernel_rfl)) rfl (fun _ _ _ _ _ h => h) (by kernel_rfl) (by kernel_rfl) hHeld ?_
          simp only [List.drop_zero, List.take_succ_cons, List.take_zero]
          iterate 4 (refine wpHeld_step (v := ?_) (by rfl) (fun wz hSw => ?_) ?_; rotate_left; (focus ((try dsimp only at hSw); go_simp; try with_reducible rfl)); (simp only [Act.put, List.setIfInBounds_toArray, List.set_cons_zero, List.set_cons_succ]))
          refine wpHeld_nil ?_
          refine wpAnyH_takesAt 5 3 6 (of_decide_eq_true (by kernel_rfl)) rfl (fun _ _ _ _ _ h => h) (by kernel_rfl) (by kernel_rfl) hHeld ?_
          simp only [List.drop_succ_cons, List.drop_zero, List.take_succ_cons, List.take_zero]
          iterate 3 (refine wpHeld_step (v := ?_) (by rfl) (fun wz hSw => ?_) ?_; rotate_left; (focus ((try dsimp only at hSw); go_simp; try with_reducible rfl)); (simp only [Act.put, List.setIfInBounds_toArray, List.set_cons_zero, List.set_cons_succ]))
          refine wpHeld_nil ?_
          refine wpAnyH_either (i := 4) (j := 8) (by kernel_rfl) rfl rfl (fun K hK => ?_) (fun K hK => ?_)
          · rw [if_pos (by rfl)]
            refine wp_load_mid 131 (.tmp 43) rfl B 1 rfl s _ (runCells_words HRow4.out.drew) Tryd.underlying131 rfl (by rw [HOK.out.len]; exact size131) ?_
            simp only [Act.put, List.setIfInBounds_toArray]
            refine hK.out _ _ trivial ?_
            clear hK K
            refine wpAnyH_only (i := 8) (by kernel_rfl) rfl (fun K hK => ?_)
            rw [if_pos (by rfl)]
            refine wp_load_mid 108 (.tmp 47) rfl B 9 rfl R2 _ (runCells_rest HOK.out.len HRow4.out.drew) Tryd.underlying108 rfl (by rw [HRl.out]; exact size108') ?_
            simp only [Act.put]
            refine hK.out _ _ trivial ?_
            clear hK K
            refine wpAnyH_only (i := 9) (by kernel_rfl) rfl (fun K hK => ?_)
            rw [if_pos (by rfl)]
            go_simp
            refine (HC.out w4.drew (HBut4.out.drew.tab hB0 (by have := HT.out.pos; omega) HT.out)).mono ?_
            rintro e w5 ⟨rfl, hb5⟩
            refine hK.out _ _ trivial ?_
            clear hK K
            have HRow5 : Hid (Row w5 B 133 (runCells s R2 (m + n))) := HRow4.out.drew.later hb5
            have HBut5 : Hid (But B w.heap.size w w5) := HBut4.out.drew.trans (But.of_below hb5 (by have := HBut4.out.size; simpa using this))
            refine wpAnyH_takesAt 10 2 1 (of_decide_eq_true (by kernel_rfl)) rfl (fun _ _ _ _ _ h => h) (by kernel_rfl) (by kernel_rfl) hHeld ?_
            simp only [List.drop_succ_cons, List.drop_zero, List.take_succ_cons, List.take_zero]
            iterate 2 (refine wpHeld_step (v := ?_) (by rfl) (fun wz hSw => ?_) ?_; rotate_left; (focus ((try dsimp only at hSw); go_simp; try with_reducible rfl)); (simp only [Act.put, List.setIfInBounds_toArray, List.set_cons_zero, List.set_cons_succ]))
            refine wpHeld_nil ?_
            refine wpAnyH_only (i := 12) (by kernel_rfl) rfl (fun K hK => ?_)
            rw [if_pos (by rfl)]
            refine wp_store_mid 131 (.tmp 51) (.tmp 49) rfl B 1 S2.toArray rfl rfl (fun j hj => ⟨by rw [HRow5.out.cell (List.getElem?_eq_getElem (by rw [runCells_length _ HOK.out.len HRl.out]; simp [HS2l.out] at hj; omega))]; rfl, HRow5.out.frozen _⟩) (by simpa [HS2l.out] using size131) (all_oneCell_toArray HS21.out) ?_
            simp only [Act.put]
            refine hK.out _ _ trivial ?_
            clear hK K
            refine wpAnyH_done (by kernel_rfl) ?_ _
            refine NoPanic.normal ?_
            have HRow6 : Hid (Row (w5.setCells B 1 S2) B 133 (runCells S2 R2 (m + n))) := by
              have h := Row.sets S2 1 HRow5.out
              rw [runCells_put _ HOK.out.len HS2l.out] at h
              exact h
            have HBut6 : Hid (But B w.heap.size w (w5.setCells B 1 S2)) := HBut5.out.trans (But.sets _ _ _)
            go_wp2
            go_roundw
            case rel =>
              obtain ⟨h1, h2, h3⟩ := HL.out
              exact ⟨o + n, L - n, C - n, _, rfl, by omega, by omega, fun hh => ⟨b, off, h3, by rw [Nat.add_assoc]⟩, ⟨S2, R2, by rw [HTake.out, HRX.out]; exact HOK2.out, by rw [HTake.out, HLen.out]; exact HRow6.out⟩, HBut6.out⟩
            case measure => have := HN.out; simp only [sliceLen]; omega
          · rw [if_pos (by rfl)]
            refine wp_load_mid 108 (.tmp 47) rfl B 9 rfl R2 _ (runCells_rest HOK.out.len HRow4.out.drew) Tryd.underlying108 rfl (by rw [HRl.out]; exact size108') ?_
            simp only [Act.put, List.setIfInBounds_toArray]
            refine hK.out _ _ trivial ?_
            clear hK K
            refine wpAnyH_only (i := 4) (by kernel_rfl) rfl (fun K hK => ?_)
            rw [if_pos (by rfl)]
            refine wp_load_mid 131 (.tmp 43) rfl B 1 rfl s _ (runCells_words HRow4.out.drew) Tryd.underlying131 rfl (by rw [HOK.out.len]; exact size131) ?_
            simp only [Act.put]
            refine hK.out _ _ trivial ?_
            clear hK K
            refine wpAnyH_only (i := 9) (by kernel_rfl) rfl (fun K hK => ?_)
            rw [if_pos (by rfl)]
            go_simp
            refine (HC.out w4.drew (HBut4.out.drew.tab hB0 (by have := HT.out.pos; omega) HT.out)).mono ?_
            rintro e w5 ⟨rfl, hb5⟩
            refine hK.out _ _ trivial ?_
            clear hK K
            have HRow5 : Hid (Row w5 B 133 (runCells s R2 (m + n))) := HRow4.out.drew.later hb5
            have HBut5 : Hid (But B w.heap.size w w5) := HBut4.out.drew.trans (But.of_below hb5 (by have := HBut4.out.size; simpa using this))
            refine wpAnyH_takesAt 10 2 1 (of_decide_eq_true (by kernel_rfl)) rfl (fun _ _ _ _ _ h => h) (by kernel_rfl) (by kernel_rfl) hHeld ?_
            simp only [List.drop_succ_cons, List.drop_zero, List.take_succ_cons, List.take_zero]
            iterate 2 (refine wpHeld_step (v := ?_) (by rfl) (fun wz hSw => ?_) ?_; rotate_left; (focus ((try dsimp only at hSw); go_simp; try with_reducible rfl)); (simp only [Act.put, List.setIfInBounds_toArray, List.set_cons_zero, List.set_cons_succ]))
            refine wpHeld_nil ?_
            refine wpAnyH_only (i := 12) (by kernel_rfl) rfl (fun K hK => ?_)
            rw [if_pos (by rfl)]
            refine wp_store_mid 131 (.tmp 51) (.tmp 49) rfl B 1 S2.toArray rfl rfl (fun j hj => ⟨by rw [HRow5.out.cell (List.getElem?_eq_getElem (by rw [runCells_length _ HOK.out.len HRl.out]; simp [HS2l.out] at hj; omega))]; rfl, HRow5.out.frozen _⟩) (by simpa [HS2l.out] using size131) (all_oneCell_toArray HS21.out) ?_
            simp only [Act.put]
            refine hK.out _ _ trivial ?_
            clear hK K
            refine wpAnyH_done (by kernel_rfl) ?_ _
            refine NoPanic.normal ?_
            have HRow6 : Hid (Row (w5.setCells B 1 S2) B 133 (runCells S2 R2 (m + n))) := by
              have h := Row.sets S2 1 HRow5.out
              rw [runCells_put _ HOK.out.len HS2l.out] at h
              exact h
            have HBut6 : Hid (But B w.heap.size w (w5.setCells B 1 S2)) := HBut5.out.trans (But.sets _ _ _)
            go_wp2
            go_roundw
            case rel =>
              obtain ⟨h1, h2, h3⟩ := HL.out
              exact ⟨o + n, L - n, C - n, _, rfl, by omega, by omega, fun hh => ⟨b, off, h3, by rw [Nat.add_assoc]⟩, ⟨S2, R2, by rw [HTake.out, HRX.out]; exact HOK2.out, by rw [HTake.out, HLen.out]; exact HRow6.out⟩, HBut6.out⟩
            case measure => have := HN.out; simp only [sliceLen]; omega
      · have hfi : (((m : Int) + (n : Int)) % 64 == 0) = false := by simp; omega
        have hhn : h + n < 64 := by have := HN.out; have := HH.out; omega
        have HOK2 : Hid (RunOk s R2 (cs ++ (ys.drop o).take n)) := by
          have h := HOK.out.part (new := (ys.drop o).take n) (by rw [HNl.out, ← HM.out, HH.out]; exact hhn)
          rw [← HM.out, HH.out, ← HNV.out, HR2.out] at h
          exact h
        go_wp2
        go_roundw
        case rel =>
          obtain ⟨h1, h2, h3⟩ := HL.out
          exact ⟨o + n, L - n, C - n, _, rfl, by omega, by omega, fun hh => ⟨b, off, h3, by rw [if_neg (by omega), Nat.add_assoc]⟩, ⟨s, R2, by rw [HTake.out]; exact HOK2.out, by rw [HTake.out, HLen.out]; exact HRow4.out⟩, HBut4.out⟩
        case measure => have := HN.out; simp only [sliceLen]; omega
    · obtain rfl : L = 0 := by omega
      obtain rfl : o = len := by omega
      rw [List.take_of_length_le (by rw [HYL.out]; exact Nat.le_refl _)] at hrun
      go_wp2
      go_end0
      exact ⟨⟨_, rfl⟩, hrun, hbut⟩
end Go.Proofs.YtobmcaknfbooiaaDoor.Sh
/-
  What a running sum's Begin and Sum answer: a sum of nothing yet; the sum of all that was taken in. Nothing that lay before the call has turned.
-/
namespace Go.Proofs.YtobmcaknfbooiaaDoor.Sh
open Go.RowKit Go.Shelf
attribute [local go_sem] Oper.semAt_some

theorem first8_cells : u32s first8.list = [.int .u32 1779033703, .int .u32 3144134277, .int .u32 1013904242, .int .u32 2773480762, .int .u32 1359893119, .int .u32 2600822924, .int .u32 528734635, .int .u32 1541459225] := rfl

theorem wpList_build_as {P : Program} {ops : Array Oper} {rest : List Oper} {o : Oper} {a : Act} {w : World} {Q : Exit → Act → World → Prop} (hg : o.guard = none) (t : TypeId) (parts : Array (Nat × Operand)) (ho : o.op = .build t parts) (vs : List (Nat × Value)) (hv : (parts.map fun (i, x) => (i, a.eval x)).toList = vs)
    (cells : Array Value) (hf : P.built t vs = some cells) (h : wpList P ops Q rest (a.put o.dst (.agg cells)) w) : wpList P ops Q (o :: rest) a w := by
  refine wpList_build hg t parts ho (by rw [hv, hf]; rfl) ?_
  rw [hv, hf]
  exact h

theorem built63 : Tryd.prog.built 133 [(0, .bool true), (1, .agg (u32s first8.list).toArray)] = some (runCells (u32s first8.list) (List.replicate 64 (.int .u8 0)) 0).toArray := by kernel_rfl

set_option maxRecDepth 100000 in
set_option maxHeartbeats 1000000 in
/-- Begin -/
theorem begin_any (w : World) : Calls Tryd.prog 77 #[] w fun e w' => ∃ B, e = .returned (.pointer (some ⟨B, 0, none⟩)) ∧ w.heap.size ≤ B ∧ RunAt w' B [] ∧ Below w.heap.size w w' := by
  have HB := built63
  have HF : Hid (∀ w, Calls Tryd.prog 82 #[] w fun e w' => e = .returned (.agg (u32s first8.list).toArray) ∧ Below w.heap.size w w') := firstWords_any
  obtain ⟨f8, hf8⟩ : ∃ f8, f8 = u32s first8.list := ⟨_, rfl⟩
  rw [← hf8] at HF HB
  have HF8 : Hid (f8 = u32s first8.list) := hf8
  obtain ⟨Z, hZ⟩ : ∃ Z, Z = runCells f8 (List.replicate 64 (.int .u8 0)) 0 := ⟨_, rfl⟩
  rw [← hZ] at HB
  have HBu : Hid (Tryd.prog.built 133 [(0, .bool true), (1, .agg f8.toArray)] = some Z.toArray) := HB
  have HZ : Hid (Z = runCells f8 (List.replicate 64 (.int .u8 0)) 0) := hZ
  clear hf8 hZ HB
  go_enter Tryd.func77, Tryd.ntmps77
  go_wp2_with (first
    | (go_at_call 82; refine (HF.out _).mono ?_; rintro e w1 ⟨rfl, hb1⟩)
    | ((with_reducible show wpList _ _ _ (Oper.mk _ (Op.build 133 _) _ _ _ _ :: _) _ _); refine wpList_build_as rfl 133 _ rfl [(0, .bool true), (1, .agg f8.toArray)] (by simp only [List.map_toArray, List.map_cons, List.map_nil]; rfl) Z.toArray HBu.out ?_; simp only [Act.put, List.setIfInBounds_toArray, List.set_cons_zero, List.set_cons_succ]))
  go_ret
  refine ⟨w1.heap.size, rfl, hb1.size, ⟨f8, List.replicate 64 (.int .u8 0), ⟨HF8.out, rfl, rfl⟩, ?_⟩, hb1.alloc hb1.size _⟩
  have h := Row.new' w1 133 Z
  rw [HZ.out] at h ⊢
  exact h

/-- The bytes that wait. -/
theorem rest_bytes {W : World} {B : Nat} {s R : List Value} {cs : List Nat} (hok : RunOk s R cs) (hr : Row W B 133 (runCells s R cs.length)) (hz : ∀ z ∈ cs, z < 256) : IsBytes W.heap.size W (some ⟨B, 9, none⟩) (cs.length % 64) 64 (cs.drop (64 * (cs.length / 64))) := by
  refine ⟨by simp; omega, by omega, by omega, fun z h => hz z (List.mem_of_mem_drop h), .inr ⟨B, 9, rfl, hr.lt, fun i hi => ?_⟩⟩
  refine runCells_rest hok.len hr i _ ?_
  have h := congrArg (fun l => l[i]?) hok.2.2
  simp only [List.getElem?_take, hi, if_true] at h
  rw [h, u8s_at (by simp; omega)]

theorem _root_.Go.Proofs.YtobmcaknfbooiaaDoor.Row.newB (W : World) (o : Obj) (t : TypeId) (c : Array Value) : Row ((W.alloc o).alloc (.cells c t)) (W.heap.size + 1) t c.toList := by
  have := Row.new (W.alloc o) t c
  rwa [World.size_alloc] at this
theorem wpListIn_load_mid {F : Fence} {n : Nat} {P : Program} {ops : Array Oper} {rest : List Oper} {o : Oper} {a : Act} {w : World} {Q : Exit → Act → World → Prop} (hgd : o.guard = none) (ty : TypeId) (x : Operand) (ho : o.op = .load ty x)
    (g off : Nat) (hx : a.eval x = .pointer (some ⟨g, off, none⟩)) (cs : List Value) (hg : w.rangeAt g off cs) {m : Nat} {e : TypeId} (hu : P.underlying ty = some (.array m e)) (hi : (P.info? ty).map (·.size) = some cs.length)
    (h : wpListIn F n P ops Q rest (a.put o.dst (.agg cs.toArray)) w) : wpListIn F n P ops Q (o :: rest) a w := by
  refine wpListIn_plain hgd fun K hK => ?_
  unfold Oper.wpIn
  refine ⟨by simp [Oper.about, ho], ?_⟩
  rw [Oper.semAt_plain F _ _ (by rw [ho]; intro c hc; cases hc)]
  simp only [execOp, ho, hx, Instr.loadAt, Instr.sureAddr, Sem.run_bind, Sem.run_pure, Result.andThen_ok, run_loadVar_mid w g off ty cs _ hg hu rfl hi]
  exact hK _ _ h

set_option maxRecDepth 100000 in
set_option maxHeartbeats 2000000 in
theorem rsum_in (n : Nat) (hn : 8 ≤ n) (B : Nat) (cs : List Nat) (hcl : cs.length ≤ 100000) (hz : ∀ z ∈ cs, z < 256) (w : World) (hT : Tab w) (hR : RunAt w B cs) :
    CallsIn Fence.wide n Tryd.prog 68 #[.pointer (some ⟨B, 0, none⟩)] w fun e w' => e = .returned (.agg (u8s (sumN cs)).toArray) ∧ Below w.heap.size w w' := by
  have h1 : 1 ≤ n := by omega
  have hfn : ∀ f, Fence.wide.fn f := fun _ => trivial
  have HT : Hid (Tab w) := hT
  have hBl := hR.lt
  obtain ⟨s, R, hok, hrow⟩ := hR
  have HOK : Hid (RunOk s R cs) := hok
  have HRow : Hid (Row w B 133 (runCells s R cs.length)) := hrow
  have HZ : Hid (∀ z ∈ cs, z < 256) := hz
  have c0 := hrow.cell (runCells_0 _ _ _)
  have c0' := fun o => (hrow.alloc o).cell (runCells_0 _ _ _)
  obtain ⟨m, hm⟩ : ∃ m, m = cs.length := ⟨_, rfl⟩
  have HM : Hid (m = cs.length) := hm
  have hmb : m ≤ 100000 := by omega
  have HSl : Hid (s.length = 8) := hok.len
  have HS1 : Hid (∀ v ∈ s, v.oneCell' = true) := by rw [hok.1]; exact u32s_one _
  clear hT hok hrow hz hm hcl
  refine callsIn_of_wp_marks Tryd.func68 rfl trivial ?_ rfl
  simp only [Tryd.ntmps68, List.size_toArray, List.length_cons, List.length_nil, Nat.reduceAdd, Nat.reduceSub, Array.replicate_succ, Array.replicate_zero, List.push_toArray, List.append_toArray, List.nil_append, List.cons_append]
  gi_wp2_with (first
    | ((with_reducible show wpListIn _ _ _ _ _ (Oper.mk _ (Op.load 131 (.tmp 17)) _ _ _ _ :: _) _ _); refine wpListIn_load_mid rfl 131 (.tmp 17) rfl B 1 rfl s (runCells_words (HRow.out.alloc _)) Tryd.underlying131 (by rw [HSl.out]; exact size131) ?_; simp only [Act.put, List.setIfInBounds_toArray, List.set_cons_zero, List.set_cons_succ])
    | ((with_reducible show wpListIn _ _ _ _ _ (Oper.mk _ (Op.store 131 (.tmp 3) (.tmp 18)) _ _ _ _ :: _) _ _); refine wpListIn_store_Row rfl 131 (.tmp 3) (.tmp 18) rfl s rfl rfl (Row.newB _ _ _ _) (by rw [HSl.out]; exact size131) (by rw [HSl.out]; rfl) HS1.out ?_; simp only [Act.put]))
  rw [z32u8, z8u32]
  have rR : Row (((w.alloc (.cells (List.replicate 32 (Value.int .u8 0)).toArray 40)).alloc (.cells (List.replicate 8 (Value.int .u32 0)).toArray 131)).setCells (w.heap.size + 1) 0 s) w.heap.size 40 (List.replicate 32 (.int .u8 0)) := Row.others (by omega) _ _ ((Row.new' w 40 _).alloc _)
  have rH : Row (((w.alloc (.cells (List.replicate 32 (Value.int .u8 0)).toArray 40)).alloc (.cells (List.replicate 8 (Value.int .u32 0)).toArray 131)).setCells (w.heap.size + 1) 0 s) (w.heap.size + 1) 131 s := Row.sets_all (Row.newB _ _ _ _) (by rw [HSl.out]; rfl)
  have hbA : Below w.heap.size w (((w.alloc (.cells (List.replicate 32 (Value.int .u8 0)).toArray 40)).alloc (.cells (List.replicate 8 (Value.int .u32 0)).toArray 131)).setCells (w.heap.size + 1) 0 s) := below_setCells (by omega) _ _ (((Below.refl _ w).alloc (Nat.le_refl _) _).alloc (by simp) _)
  have hsA : (((w.alloc (.cells (List.replicate 32 (Value.int .u8 0)).toArray 40)).alloc (.cells (List.replicate 8 (Value.int .u32 0)).toArray 131)).setCells (w.heap.size + 1) 0 s).heap.size = w.heap.size + 2 := by rw [size_setCells, World.size_alloc, World.size_alloc]
  generalize (((w.alloc (.cells (List.replicate 32 (Value.int .u8 0)).toArray 40)).alloc (.cells (List.replicate 8 (Value.int .u32 0)).toArray 131)).setCells (w.heap.size + 1) 0 s) = w2 at *
  have HRow2 : Hid (Row w2 B 133 (runCells s R cs.length)) := HRow.out.later hbA
  have c73 := HRow2.out.cell (runCells_73 cs.length HOK.out.len HOK.out.2.1)
  rw [← HM.out] at c73
  have HHeld : Hid (∀ W : World, W.cell? ⟨B, 73, none⟩ = some (.int .u64 (m : Nat)) → Calls Tryd.prog 78 #[.pointer (some ⟨B, 0, none⟩)] W fun e w' => e = .returned (.int .i64 (m % 64 : Nat)) ∧ w' = W) := fun W hc => held_any B m (by omega) W hc
  have hm64 : m % 64 < 64 := by omega
  have hm64i : ((m % 64 : Nat) : Int) ≤ 64 := by omega
  clear c0 c0'
  generalize hh : m % 64 = h at *
  have HH : Hid (m % 64 = h) := hh
  clear hh
  refine wpIn_region_on_wide (S := fun W' => W'.cell? ⟨B, 73, none⟩ = some (.int .u64 (m : Nat))) (by kernel_rfl) (by kernel_rfl) c73 (fun hHeld => ?_)
  refine wpAnyH_takesAt 0 4 7 (of_decide_eq_true (by kernel_rfl)) rfl (fun _ _ _ _ _ h => h) (by kernel_rfl) (by kernel_rfl) hHeld ?_
  simp only [List.drop_zero, List.take_succ_cons, List.take_zero]
  iterate 4 (refine wpHeld_step (v := ?_) (by rfl) (fun wz hSw => ?_) ?_; rotate_left; (focus ((try dsimp only at hSw); go_simp; try with_reducible rfl)); (simp only [Act.put, List.setIfInBounds_toArray, List.set_cons_zero, List.set_cons_succ]))
  refine wpHeld_nil ?_
  refine wpAnyH_takesAt 6 4 3 (of_decide_eq_true (by kernel_rfl)) rfl (fun _ _ _ _ _ h => h) (by kernel_rfl) (by kernel_rfl) hHeld ?_
  simp only [List.drop_succ_cons, List.drop_zero, List.take_succ_cons, List.take_zero]
  iterate 4 (refine wpHeld_step (v := ?_) (by rfl) (fun wz hSw => ?_) ?_; rotate_left; (focus ((try dsimp only at hSw); go_simp; try with_reducible rfl)); (simp only [Act.put, List.setIfInBounds_toArray, List.set_cons_zero, List.set_cons_succ]))
  refine wpHeld_nil ?_
  refine wpAnyH_only (i := 4) (by kernel_rfl) rfl (fun K hK => ?_)
  rw [if_pos (by rfl)]
  go_simp
  refine (HHeld.out w2.drew c73).mono ?_
  rintro e w3 ⟨rfl, rfl⟩
  refine hK.out _ _ hHeld ?_
  clear hK K
  refine wpAnyH_takesAt 5 1 1 (of_decide_eq_true (by kernel_rfl)) rfl (fun _ _ _ _ _ h => h) (by kernel_rfl) (by kernel_rfl) hHeld ?_
  simp only [List.drop_succ_cons, List.drop_zero, List.take_succ_cons, List.take_zero]
  iterate 1 (refine wpHeld_step (v := ?_) (by rfl) (fun wz hSw => ?_) ?_; rotate_left; (focus ((try dsimp only at hSw); go_simp; try with_reducible rfl)); (simp only [Act.put, List.setIfInBounds_toArray, List.set_cons_zero, List.set_cons_succ]))
  refine wpHeld_nil ?_
  refine wpAnyH_only (i := 10) (by kernel_rfl) rfl (fun K hK => ?_)
  rw [if_pos (by rfl)]
  go_simp
  refine (callsIn_wide.1 (last_in 8 (.slice (some ⟨B, 9, none⟩) h 64) m w2.drew rfl)).mono ?_
  rintro e w3 ⟨rfl, rfl⟩
  refine hK.out _ _ (((HRow2.out.drew.alloc _).alloc _).cell (by rw [HM.out]; exact runCells_73 cs.length HOK.out.len HOK.out.2.1)) ?_
  clear hK K
  refine wpAnyH_done (by kernel_rfl) ?_ _
  refine OnOnly.on ?_
  have hs4 : ((w2.drew.alloc (Obj.cells #[Value.slice (some ⟨B, 9, none⟩) h 64] 25)).alloc (Obj.cells #[Value.int IntKind.u64 (m : Nat)] 125)).heap.size = w2.heap.size + 2 := by simp
  have H4 : Hid (Row ((w2.drew.alloc (Obj.cells #[Value.slice (some ⟨B, 9, none⟩) h 64] 25)).alloc (Obj.cells #[Value.int IntKind.u64 (m : Nat)] 125)) (w.heap.size + 1) 131 s ∧ Row ((w2.drew.alloc (Obj.cells #[Value.slice (some ⟨B, 9, none⟩) h 64] 25)).alloc (Obj.cells #[Value.int IntKind.u64 (m : Nat)] 125)) w.heap.size 40 (List.replicate 32 (.int .u8 0)) ∧ Below w.heap.size w ((w2.drew.alloc (Obj.cells #[Value.slice (some ⟨B, 9, none⟩) h 64] 25)).alloc (Obj.cells #[Value.int IntKind.u64 (m : Nat)] 125)) ∧ Row ((w2.drew.alloc (Obj.cells #[Value.slice (some ⟨B, 9, none⟩) h 64] 25)).alloc (Obj.cells #[Value.int IntKind.u64 (m : Nat)] 125)) w2.heap.size 25 [.slice (some ⟨B, 9, none⟩) h 64] ∧ Row ((w2.drew.alloc (Obj.cells #[Value.slice (some ⟨B, 9, none⟩) h 64] 25)).alloc (Obj.cells #[Value.int IntKind.u64 (m : Nat)] 125)) (w2.heap.size + 1) 125 [.int .u64 (m : Nat)] ∧ Row ((w2.drew.alloc (Obj.cells #[Value.slice (some ⟨B, 9, none⟩) h 64] 25)).alloc (Obj.cells #[Value.int IntKind.u64 (m : Nat)] 125)) B 133 (runCells s R cs.length)) :=
    ⟨(rH.drew.alloc _).alloc _, (rR.drew.alloc _).alloc _, (hbA.drew.alloc (by show _ ≤ w2.heap.size; omega) _).alloc (by simp; omega) _, (Row.new w2.drew 25 _).alloc _, Row.newB w2.drew _ 125 _, (HRow2.out.drew.alloc _).alloc _⟩
  clear rR rH hbA HRow2 c73 hHeld HRow
  generalize ((w2.drew.alloc (Obj.cells #[Value.slice (some ⟨B, 9, none⟩) h 64] 25)).alloc (Obj.cells #[Value.int IntKind.u64 (m : Nat)] 125)) = w4 at *
  rw [show w2.drew.heap.size = w2.heap.size from rfl]
  gi_wp2
  have HF0 : Hid (s = u32s (wordsN (fullL cs (m / 64))).list) := by have h := HOK.out.1; rw [← HM.out] at h; exact h
  have HBlk : Hid (fullL cs (m / 64) ++ lastL (cs.drop (64 * (m / 64))) m = blocksL cs) := by show _ = _; rw [blocksL, ← HM.out]
  have HWsn : Hid (∀ (pre : List (List Nat)) (x : List Nat), wordsN (fullL cs (m / 64) ++ (pre ++ [x])) = compressN (wordsN (fullL cs (m / 64) ++ pre)) x) := fun pre x => by rw [← List.append_assoc, wordsN_snoc]
  have HIr : Hid (IsBytes w4.heap.size w4 (some ⟨B, 9, none⟩) h 64 (cs.drop (64 * (m / 64)))) := by
    have h := rest_bytes HOK.out H4.out.2.2.2.2.2 HZ.out
    rw [← HM.out, HH.out] at h
    exact h
  have HOkL : Hid (h < 64) := hm64
  clear HOK HHeld
  refine wpIn_rangeFunc_arr rfl h1 (gf := 89) (lb := #[.pointer (some ⟨w2.heap.size, 0, none⟩), .pointer (some ⟨w2.heap.size + 1, 0, none⟩)]) rfl trivial (enters_of Tryd.func89 (by kernel_rfl) rfl)
    (encs := fun x : List Nat => #[.agg (u8s x).toArray]) (Ok := fun x _ => BlockOk x) (Kp := KpM (fun k => k = w.heap.size + 1) (w4.heap.size + 2)) (S := fun xs => xs = lastL (cs.drop (64 * (m / 64))) m) (Sp := fun pre => ∃ r, pre ++ r = lastL (cs.drop (64 * (m / 64))) m) (N := 2)
    (fun W' hs hb => last1_iter (n - 1) (by omega) _ w2.heap.size (w2.heap.size + 1) m (some ⟨B, 9, none⟩) h 64 (cs.drop (64 * (m / 64))) HOkL.out W' (HIr.out.later hb) ((H4.out.2.2.2.1.later hb).cell (i := 0) rfl) (H4.out.2.2.2.2.1.later hb) (fun k => k = w.heap.size + 1) _ (fun _ _ h => h.1) (fun j hj => by omega) (by omega))
    KpM.trans (fun A o o' ho hc => KpM.record (by omega) o' ho hc) KpM.of_below (fun _ => rfl) 108 (fun x => u8s x)
    (fun pre A => Row A (w.heap.size + 1) 131 (u32s (wordsN (fullL cs (m / 64) ++ pre)).list) ∧ Row A w.heap.size 40 (List.replicate 32 (.int .u8 0)) ∧ Below w.heap.size w A)
    (fun _ _ _ => False)
    (Low.and (low_row (by omega) _) (Low.and (low_row (by omega) _) (low_below w (by omega))))
    (fun _ _ _ _ h _ => h)
    (fun _ _ _ h _ => h)
    ⟨by rw [List.append_nil, ← HF0.out]; exact H4.out.1, H4.out.2.1, H4.out.2.2.1⟩
    (fun x A => { tmps := #[.pointer (some ⟨B, 0, none⟩), undef, .pointer (some ⟨w.heap.size, 0, none⟩), .pointer (some ⟨w.heap.size + 1, 0, none⟩), .pointer (some ⟨A.heap.size, 0, none⟩), .pointer (some ⟨B, 0, none⟩), .bool false, .bool false, .pointer (some ⟨B, 0, none⟩), .pointer (some ⟨B, 0, none⟩), .pointer (some ⟨B, 0, none⟩), .bool true, .bool false, .bool false, undef, .pointer (some ⟨B, 0, none⟩), .pointer (some ⟨B, 0, none⟩), .pointer (some ⟨B, 1, none⟩), .agg s.toArray, .pointer (some ⟨B, 0, none⟩), .pointer (some ⟨B, 0, none⟩), .pointer (some ⟨B, 9, none⟩), .pointer (some ⟨B, 0, none⟩), .int .i64 h, .slice (some ⟨B, 9, none⟩) h 64, .pointer (some ⟨B, 0, none⟩), .pointer (some ⟨B, 0, none⟩), .pointer (some ⟨B, 73, none⟩), .int .u64 m, .func (.func 89) #[] #[.pointer (some ⟨w2.heap.size, 0, none⟩), .pointer (some ⟨w2.heap.size + 1, 0, none⟩)], .agg (u8s x).toArray, undef, undef, undef, undef, undef], defers := [] }) ?assign ?body ?done ?stop
  case assign =>
    intro li x A K hok hK
    clear hsA hs4
    have HXL : Hid ((u8s x).length = 64) := by show _ = _; rw [u8s_length]; exact hok.1
    have HX1 : Hid (∀ v ∈ u8s x, v.oneCell' = true) := u8s_one x
    have HK : Hid (∀ W', Below A.heap.size A W' → Row W' A.heap.size 108 (u8s x) → K _ W') := hK
    clear hK
    generalize u8s x = V at *
    gi_wp2_with ((with_reducible show wpListIn _ _ _ _ _ (Oper.mk _ (Op.store 108 (.tmp 4) (.tmp 30)) _ _ _ _ :: _) _ _); refine wpListIn_store_Row rfl 108 (.tmp 4) (.tmp 30) rfl V rfl rfl (Row.new _ _ _) (by rw [HXL.out]; exact size108') (by rw [HXL.out]; rfl) HX1.out ?_; simp only [Act.put])
    exact HK.out _ (below_setCells (Nat.le_refl _) _ _ ((Below.refl _ A).alloc (Nat.le_refl _) _)) (Row.sets_all (Row.new _ _ _) (by rw [HXL.out]; rfl))
  case body =>
    rintro li pre x A₀ A ⟨hrH, hrR, hB⟩ hok hN hle hrow
    have HC : Hid (∀ A, Tab A → Calls Tryd.prog 79 #[.agg (u32s (wordsN (fullL cs (m / 64) ++ pre)).list).toArray, .agg (u8s x).toArray] A fun e w' => e = .returned (.agg (u32s (wordsN (fullL cs (m / 64) ++ (pre ++ [x]))).list).toArray) ∧ Below A.heap.size A w') := fun A hT => by
      rw [HWsn.out]; exact compress_any _ (wordsN_ok _) x hok.1 hok.2 A hT
    have HXL : Hid ((u8s x).length = 64) := by show _ = _; rw [u8s_length]; exact hok.1
    have HRow : Hid (Row A A₀.heap.size 108 (u8s x)) := hrow
    have HrH : Hid (Row A (w.heap.size + 1) 131 (u32s (wordsN (fullL cs (m / 64) ++ pre)).list)) := hrH
    have HrR : Hid (Row A w.heap.size 40 (List.replicate 32 (.int .u8 0))) := hrR
    have HHl : Hid ((u32s (wordsN (fullL cs (m / 64) ++ pre)).list).length = 8) := by show _ = _; rw [u32s_length, St.list_length]
    have HHl2 : Hid ((u32s (wordsN (fullL cs (m / 64) ++ (pre ++ [x]))).list).length = 8) := by show _ = _; rw [u32s_length, St.list_length]
    have HH2o : Hid (∀ v ∈ u32s (wordsN (fullL cs (m / 64) ++ (pre ++ [x]))).list, v.oneCell' = true) := u32s_one _
    clear hrow hrH hrR
    generalize u8s x = V at *
    generalize hS2 : u32s (wordsN (fullL cs (m / 64) ++ (pre ++ [x]))).list = S2 at *
    have HS2 : Hid (u32s (wordsN (fullL cs (m / 64) ++ (pre ++ [x]))).list = S2) := hS2
    clear hS2
    generalize u32s (wordsN (fullL cs (m / 64) ++ pre)).list = S1 at *
    gi_wp2_with (first
      | ((with_reducible show wpListIn _ _ _ _ _ (Oper.mk _ (Op.load 131 (.tmp 3)) _ _ _ _ :: _) _ _); refine wpListIn_load_Row rfl 131 (.tmp 3) rfl rfl HrH.out Tryd.underlying131 (by rw [HHl.out]; exact size131) ?_; simp only [Act.put, List.setIfInBounds_toArray, List.set_cons_zero, List.set_cons_succ])
      | ((with_reducible show wpListIn _ _ _ _ _ (Oper.mk _ (Op.load 108 (.tmp 4)) _ _ _ _ :: _) _ _); refine wpListIn_load_Row rfl 108 (.tmp 4) rfl rfl HRow.out Tryd.underlying108 (by rw [HXL.out]; exact size108') ?_; simp only [Act.put, List.setIfInBounds_toArray, List.set_cons_zero, List.set_cons_succ]))
    refine ⟨fun _ => by omega, (CallsIn.inRound li (callsIn_wide.2 (HC.out _ (HT.out.below hB HT.out.pos)))).mono ?_⟩
    rintro e A2 ⟨rfl, hb2⟩
    gi_wp2_with ((with_reducible show wpListIn _ _ _ _ _ (Oper.mk _ (Op.store 131 (.tmp 3) (.tmp 33)) _ _ _ _ :: _) _ _); refine wpListIn_store_Row rfl 131 (.tmp 3) (.tmp 33) rfl S2 rfl rfl (HrH.out.later hb2) (by rw [HHl2.out]; exact size131) (by rw [HHl2.out, HHl.out]) HH2o.out ?_; simp only [Act.put])
    have hkp : KpM (fun k => k = w.heap.size + 1) (w4.heap.size + 2) A (A2.setCells (w.heap.size + 1) 0 S2) := (KpM.of_below hb2).trans (KpM.sets (M := fun k => k = w.heap.size + 1) rfl _ _ _)
    have hkf : KpM (fun k => k = w.heap.size + 1) w4.heap.size A (A2.setCells (w.heap.size + 1) 0 S2) := (KpM.of_below hb2).trans (KpM.sets (M := fun k => k = w.heap.size + 1) rfl _ _ _)
    exact ⟨hkf.2, hkp, by rw [HS2.out]; exact (HrH.out.later hb2).sets_all (by rw [HHl2.out, HHl.out]), Row.others (by omega) _ _ (HrR.out.later hb2), below_setCells (by omega) _ _ (hB.trans (hb2.mono (by have := hB.size; omega)))⟩
  case done =>
    rintro D xs A hD rfl ⟨hrH, hrR, hB⟩ hKD
    rw [HBlk.out] at hrH
    have HDg : Hid (∀ A, Calls Tryd.prog 81 #[.agg (u32s (wordsN (blocksL cs)).list).toArray] A fun e w' => e = .returned (.agg (u8s (sumN cs)).toArray) ∧ Below A.heap.size A w') := fun A => digest_core _ (St.list_length _) (St.list_lt (wordsN_ok _)) A
    have HrH : Hid (Row A (w.heap.size + 1) 131 (u32s (wordsN (blocksL cs)).list)) := hrH
    have HrR : Hid (Row A w.heap.size 40 (List.replicate 32 (.int .u8 0))) := hrR
    have HHl : Hid ((u32s (wordsN (blocksL cs)).list).length = 8) := by show _ = _; rw [u32s_length, St.list_length]
    have HSl2 : Hid ((u8s (sumN cs)).length = 32) := by show _ = _; rw [u8s_length]; exact digestN_length _
    have HSo : Hid (∀ v ∈ u8s (sumN cs), v.oneCell' = true) := u8s_one _
    clear hrH hrR
    generalize u32s (wordsN (blocksL cs)).list = S1 at *
    gi_wp2_with (first
      | ((with_reducible show wpListIn _ _ _ _ _ (Oper.mk _ (Op.load 131 (.tmp 3)) _ _ _ _ :: _) _ _); refine wpListIn_load_Row rfl 131 (.tmp 3) rfl rfl HrH.out Tryd.underlying131 (by rw [HHl.out]; exact size131) ?_; simp only [Act.put, List.setIfInBounds_toArray, List.set_cons_zero, List.set_cons_succ])
      | (gi_at_call 81; refine (callsIn_wide.2 (HDg.out _)).mono ?_; rintro e A2 ⟨rfl, hb2⟩)
      | ((with_reducible show wpListIn _ _ _ _ _ (Oper.mk _ (Op.store 40 (.tmp 2) (.tmp 35)) _ _ _ _ :: _) _ _); refine wpListIn_store_Row rfl 40 (.tmp 2) (.tmp 35) rfl (u8s (sumN cs)) rfl rfl (HrR.out.later hb2) (by rw [HSl2.out]; exact size40) (by rw [HSl2.out]; rfl) HSo.out ?_; simp only [Act.put]))
    have hKE := (hb2.block D (Array.getElem?_eq_some_iff.1 hKD).1).trans hKD
    have hKF : (A2.setCells w.heap.size 0 (u8s (sumN cs))).heap[D]? = some (.deferred (some [])) := by
      rw [heap_setCells_other (by omega)]; exact hKE
    refine ⟨by simp, .inl ⟨_, _, rfl, run_takeDeferred hKF, ?_⟩⟩
    have hR3 := ((HrR.out.later hb2).sets_all (vs := u8s (sumN cs)) (by rw [HSl2.out]; rfl))
    refine ⟨_, results_Row rfl rfl ((World.putObj_heap_other (by omega)).trans hR3) Tryd.underlying40 (by rw [HSl2.out]; exact size40), rfl, ?_⟩
    exact (below_setCells (Nat.le_refl _) _ _ (hB.trans (hb2.mono (by have := hB.size; omega)))).trans (below_putObj _ _ (by omega))
  case stop =>
    rintro D c pre A hD _ h hKD
    exact h.elim

/-- Running.Sum -/
theorem rsum_any (B : Nat) (cs : List Nat) (hcl : cs.length ≤ 100000) (hz : ∀ z ∈ cs, z < 256) (w : World) (hT : Tab w) (hR : RunAt w B cs) :
    Calls Tryd.prog 68 #[.pointer (some ⟨B, 0, none⟩)] w fun e w' => e = .returned (.agg (u8s (sumN cs)).toArray) ∧ Below w.heap.size w w' :=
  callsIn_wide.1 (rsum_in 8 (Nat.le_refl _) B cs hcl hz w hT hR)
end Go.Proofs.YtobmcaknfbooiaaDoor.Sh
/-
  HMAC on plain numbers; what mac.filledKey and mac.begun answer: the key, filled up to a block; a running sum that has taken in the filled key with the mark. Nothing that lay before a call has turned.
-/
namespace Go.Proofs.YtobmcaknfbooiaaDoor.Sh
open Go Go.RowKit

/-- Filled up to 64 with noughts. -/
def fill64 (l : List Nat) : List Nat := l ++ List.replicate (64 - l.length) 0
/-- The key of a block. -/
def keyL (ks : List Nat) : List Nat := fill64 (if 64 < ks.length then sumN ks else ks)
def xorL (l : List Nat) (m : Nat) : List Nat := l.map (· ^^^ m)
/-- HMAC. -/
def macN (ks ts : List Nat) : List Nat := sumN (xorL (keyL ks) 92 ++ sumN (xorL (keyL ks) 54 ++ ts))

theorem byteBE_lt (l : List Nat) (j : Nat) : byteBE l j < 256 := Nat.mod_lt _ (by decide)
theorem sumN_lt (zs : List Nat) : ∀ z ∈ sumN zs, z < 256 := by
  intro z hz
  obtain ⟨i, _, rfl⟩ := List.mem_map.1 hz
  exact byteBE_lt _ _
theorem sumN_length (zs : List Nat) : (sumN zs).length = 32 := digestN_length _
theorem fill64_length (l : List Nat) (h : l.length ≤ 64) : (fill64 l).length = 64 := by simp [fill64]; omega
theorem fill64_lt (l : List Nat) (h : ∀ z ∈ l, z < 256) : ∀ z ∈ fill64 l, z < 256 := by
  intro z hz
  rcases List.mem_append.1 hz with h1 | h1
  · exact h z h1
  · have := (List.mem_replicate.1 h1).2; omega
theorem keyL_length (ks : List Nat) : (keyL ks).length = 64 := by
  unfold keyL
  split
  · exact fill64_length _ (by rw [sumN_length]; omega)
  · exact fill64_length _ (by omega)
theorem keyL_lt (ks : List Nat) (h : ∀ z ∈ ks, z < 256) : ∀ z ∈ keyL ks, z < 256 := by
  unfold keyL
  split
  · exact fill64_lt _ (sumN_lt _)
  · exact fill64_lt _ h
@[simp] theorem xorL_length (l : List Nat) (m : Nat) : (xorL l m).length = l.length := by simp [xorL]
theorem xorL_lt (l : List Nat) (m : Nat) (hm : m < 256) (h : ∀ z ∈ l, z < 256) : ∀ z ∈ xorL l m, z < 256 := by
  intro z hz
  obtain ⟨x, hx, rfl⟩ := List.mem_map.1 hz
  exact Nat.xor_lt_two_pow (n := 8) (h x hx) hm
theorem macN_length (ks ts : List Nat) : (macN ks ts).length = 32 := sumN_length _
theorem macN_lt (ks ts : List Nat) : ∀ z ∈ macN ks ts, z < 256 := sumN_lt _

theorem fill_u8s (l : List Nat) : fill 64 (.int .u8 0) (u8s l) = u8s (fill64 l) := by
  simp [fill, fill64, u8s]

set_option maxRecDepth 100000 in
set_option maxHeartbeats 2000000 in
/-- mac.filledKey -/
theorem filledKey_any (p : Option Addr) (len cap : Nat) (ks : List Nat) (hlen : len ≤ 60000) (w : World) (hT : Tab w) (hI : IsBytes w.heap.size w p len cap ks) :
    Calls Tryd.prog 65 #[.slice p len cap] w fun e w' => e = .returned (.agg (u8s (keyL ks)).toArray) ∧ Below w.heap.size w w' := by
  have HT : Hid (Tab w) := hT
  have HI : Hid (IsBytes w.heap.size w p len cap ks) := hI
  have HKl : Hid ((u8s (keyL ks)).length = 64) := by show _ = _; rw [u8s_length]; exact keyL_length ks
  have HK1 : Hid (∀ v ∈ u8s (keyL ks), v.oneCell' = true) := u8s_one _
  clear hT hI
  by_cases h64 : 64 < len
  · have h64i : (64 : Int) < (len : Int) := by omega
    have HKe : Hid (splice (List.replicate 64 (Value.int .u8 0)) 0 (u8s (sumN ks)) = u8s (keyL ks)) := by show _ = _; rw [splice_fill, fill_u8s, keyL, if_pos (by rw [HI.out.1]; exact h64)]
    have H11 : Hid (∀ W, Below w.heap.size w W → Calls Tryd.prog 71 #[.slice p len cap] W fun e w' => e = .returned (.agg (u8s (sumN ks)).toArray) ∧ Below W.heap.size W w') := fun W hb => sum_any p len cap ks hlen W (HT.out.later hb) (HI.out.later hb)
    have HSl : Hid ((u8s (sumN ks)).length = 32) := by show _ = _; rw [u8s_length]; exact sumN_length _
    have HSo : Hid (∀ v ∈ u8s (sumN ks), v.oneCell' = true) := u8s_one _
    generalize hKV : u8s (keyL ks) = KV at *
    have HKV : Hid (u8s (keyL ks) = KV) := hKV
    clear hKV
    generalize u8s (sumN ks) = SV at *
    go_enter Tryd.func65, Tryd.ntmps65
    go_wp2_with (first
      | (go_at_call 71; refine (H11.out _ (((Below.refl _ w).alloc (Nat.le_refl _) _).alloc (by simp) _)).mono ?_; rintro e w1 ⟨rfl, hb1⟩; have Hb1 : Hid (Below _ _ w1) := hb1; have hs1 : w.heap.size + 2 ≤ w1.heap.size := (by have h := hb1.size; simp only [World.size_alloc] at h; omega); clear hb1)
      | ((with_reducible show wpList _ _ _ (Oper.mk _ (Op.store 40 (.tmp 4) (.tmp 9)) _ _ _ _ :: _) _ _); refine wpList_store_Row rfl 40 (.tmp 4) (.tmp 9) rfl SV rfl rfl (Row.new _ _ _) (by rw [HSl.out]; exact size40) (by rw [HSl.out]; rfl) HSo.out ?_; simp only [Act.put])
      | ((with_reducible show wpList _ _ _ (Oper.mk (some 13) _ _ _ _ _ :: _) _ _); refine wpList_copy_splice rfl (.tmp 11) (.tmp 12) 25 25 rfl 5 Tryd.underlying25 size5 _ _ _ _ _ _ rfl rfl (w.heap.size + 1) 0 (List.replicate 64 (.int .u8 0)) 108 (Row.others (by omega) SV 0 (((Row.newB w _ 108 _).later Hb1.out).alloc _)) SV (by rw [HSl.out]; rfl) (fun _ => ⟨rfl, _, rfl, fun j v hj => by rw [Addr.add_mid, Nat.zero_add]; exact (Row.sets_all (vs := SV) (Row.new w1 40 _) (by rw [HSl.out]; rfl)).cell hj⟩) (by rw [HSl.out]; simp) HSo.out (w.heap.size + 1) _ (Below.refl _ _) (Nat.le_refl _) ?_; intro w2 HG2 hb2; rw [HKe.out] at HG2; have HR2 : Hid (Row w2 (w.heap.size + 1) 108 KV) := HG2; have HZ2 : Hid (Row w2 w.heap.size 108 (List.replicate 64 (.int .u8 0))) := (Row.below (Row.others (by omega) SV 0 ((((Row.new w 108 _).alloc _).later Hb1.out).alloc _)) hb2 (by omega)); have hb3 : Below w.heap.size w w2 := (below_setCells (by omega) SV 0 (((((Below.refl _ w).alloc (Nat.le_refl _) _).alloc (by simp) _).trans (Hb1.out.mono (by simp; omega))).alloc (by omega) _)).trans (hb2.mono (by omega)); clear hb2 HG2)
      | ((with_reducible show wpList _ _ _ (Oper.mk _ (Op.load 108 (.tmp 3)) _ _ _ _ :: _) _ _); refine wpList_load_Row rfl 108 (.tmp 3) rfl rfl HR2.out Tryd.underlying108 (by rw [HKl.out]; exact size108') ?_; simp only [Act.put, List.setIfInBounds_toArray, List.set_cons_zero, List.set_cons_succ])
      | ((with_reducible show wpList _ _ _ (Oper.mk _ (Op.store 108 (.tmp 2) (.tmp 14)) _ _ _ _ :: _) _ _); refine wpList_store_Row rfl 108 (.tmp 2) (.tmp 14) rfl KV rfl rfl HZ2.out (by rw [HKl.out]; exact size108') (by rw [HKl.out]; rfl) HK1.out ?_; simp only [Act.put]))
    refine bodyPost_ret (results_Row rfl rfl (Row.sets_all (vs := KV) HZ2.out (by rw [HKl.out]; rfl)) Tryd.underlying108 (by rw [HKl.out]; exact size108')) rfl ?_
    exact ⟨rfl, below_setCells (Nat.le_refl _) _ _ hb3⟩
  · have h64i : ¬ (64 : Int) < (len : Int) := by omega
    have HKe : Hid (splice (List.replicate 64 (Value.int .u8 0)) 0 (u8s ks) = u8s (keyL ks)) := by show _ = _; rw [splice_fill, fill_u8s, keyL, if_neg (by rw [HI.out.1]; exact h64)]
    have HSl : Hid ((u8s ks).length = len) := by show _ = _; rw [u8s_length]; exact HI.out.1
    have HSo : Hid (∀ v ∈ u8s ks, v.oneCell' = true) := u8s_one _
    have HSrc : Hid (∀ W, Below w.heap.size w W → 0 < (u8s ks).length → ∃ ad, p = some ad ∧ ∀ j v, (u8s ks)[j]? = some v → W.cell? (ad.add j) = some v) := fun W hb h0 => by
      rcases HI.out.2.2.2.2 with h | ⟨b, off, rfl, hbb, hc⟩
      · rw [HSl.out] at h0; omega
      · exact ⟨_, rfl, src_bytes HI.out.1 hc hbb hb⟩
    generalize hKV : u8s (keyL ks) = KV at *
    have HKV : Hid (u8s (keyL ks) = KV) := hKV
    clear hKV
    generalize u8s ks = SV at *
    go_enter Tryd.func65, Tryd.ntmps65
    go_wp2_with (first
      | ((with_reducible show wpList _ _ _ (Oper.mk (some 13) _ _ _ _ _ :: _) _ _); refine wpList_copy_splice rfl (.tmp 11) (.tmp 12) 25 25 rfl 5 Tryd.underlying25 size5 _ _ _ _ _ _ rfl rfl (w.heap.size + 1) 0 (List.replicate 64 (.int .u8 0)) 108 (Row.newB w _ 108 _) SV (by rw [HSl.out]; exact (Nat.min_eq_left (by omega)).symm) (fun h0 => ⟨rfl, HSrc.out _ (((Below.refl _ w).alloc (Nat.le_refl _) _).alloc (by simp) _) h0⟩) (by rw [HSl.out]; simp; omega) HSo.out (w.heap.size + 1) _ (Below.refl _ _) (Nat.le_refl _) ?_; intro w2 HG2 hb2; rw [HKe.out] at HG2; have HR2 : Hid (Row w2 (w.heap.size + 1) 108 KV) := HG2; have HZ2 : Hid (Row w2 w.heap.size 108 (List.replicate 64 (.int .u8 0))) := (Row.below ((Row.new w 108 _).alloc _) hb2 (by omega)); have hb3 : Below w.heap.size w w2 := (((Below.refl _ w).alloc (Nat.le_refl _) _).alloc (by simp) _).trans (hb2.mono (by omega)); clear hb2 HG2)
      | ((with_reducible show wpList _ _ _ (Oper.mk _ (Op.load 108 (.tmp 3)) _ _ _ _ :: _) _ _); refine wpList_load_Row rfl 108 (.tmp 3) rfl rfl HR2.out Tryd.underlying108 (by rw [HKl.out]; exact size108') ?_; simp only [Act.put, List.setIfInBounds_toArray, List.set_cons_zero, List.set_cons_succ])
      | ((with_reducible show wpList _ _ _ (Oper.mk _ (Op.store 108 (.tmp 2) (.tmp 14)) _ _ _ _ :: _) _ _); refine wpList_store_Row rfl 108 (.tmp 2) (.tmp 14) rfl KV rfl rfl HZ2.out (by rw [HKl.out]; exact size108') (by rw [HKl.out]; rfl) HK1.out ?_; simp only [Act.put]))
    refine bodyPost_ret (results_Row rfl rfl (Row.sets_all (vs := KV) HZ2.out (by rw [HKl.out]; rfl)) Tryd.underlying108 (by rw [HKl.out]; exact size108')) rfl ?_
    exact ⟨rfl, below_setCells (Nat.le_refl _) _ _ hb3⟩

/-- The first k bytes have the mark. -/
def markL (l : List Nat) (m k : Nat) : List Nat := xorL (l.take k) m ++ l.drop k
theorem markL_length (l : List Nat) (m k : Nat) : (markL l m k).length = l.length := by simp [markL]; omega
theorem markL_zero (l : List Nat) (m : Nat) : markL l m 0 = l := by simp [markL, xorL]
theorem markL_all (l : List Nat) (m : Nat) (k : Nat) (h : l.length ≤ k) : markL l m k = xorL l m := by simp [markL, List.take_of_length_le h, List.drop_eq_nil_of_le h]
theorem markL_at (l : List Nat) (m k : Nat) : (markL l m k).getD k 0 = l.getD k 0 := by
  unfold markL
  by_cases h : k < l.length
  · have hl : (xorL (l.take k) m).length = k := by simp; omega
    rw [List.getD_eq_getElem?_getD, List.getElem?_append_right (by omega), hl, List.getElem?_drop]
    simp
  · rw [List.drop_eq_nil_of_le (by omega), List.append_nil]
    simp [List.getElem?_eq_none (show (xorL (l.take k) m).length ≤ k by simp; omega), List.getElem?_eq_none (show l.length ≤ k by omega)]
theorem xorL_snoc (l : List Nat) (x m : Nat) : xorL (l ++ [x]) m = xorL l m ++ [x ^^^ m] := by simp [xorL]
theorem u8s_cons (x : Nat) (l : List Nat) : u8s (x :: l) = .int .u8 (x : Nat) :: u8s l := rfl
theorem markL_set (l : List Nat) (m k : Nat) (h : k < l.length) : (u8s (markL l m k)).set k (.int .u8 ((l.getD k 0 ^^^ m : Nat) : Int)) = u8s (markL l m (k + 1)) := by
  have hl : (xorL (l.take k) m).length = k := by simp; omega
  have e : l.getD k 0 = l[k] := by simp [List.getElem?_eq_getElem h]
  unfold markL
  rw [u8s_app, List.set_append_right _ _ (by rw [u8s_length]; omega), u8s_length, hl, Nat.sub_self, List.drop_eq_getElem_cons h, u8s_cons, List.set_cons_zero, List.take_succ_eq_append_getElem h, xorL_snoc, e, u8s_app, u8s_app, List.append_assoc]
  rfl

set_option maxRecDepth 100000 in
set_option maxHeartbeats 2000000 in
/-- mac.begun -/
theorem begun_any (ks : List Nat) (hl : ks.length = 64) (hz : ∀ z ∈ ks, z < 256) (m : Nat) (hm : m < 256) (w : World) (hT : Tab w) :
    Calls Tryd.prog 66 #[.agg (u8s ks).toArray, .int .u8 m] w fun e w' => ∃ B, e = .returned (.pointer (some ⟨B, 0, none⟩)) ∧ w.heap.size ≤ B ∧ RunAt w' B (xorL ks m) ∧ Below w.heap.size w w' := by
  have HT : Hid (Tab w) := hT
  have HL : Hid (ks.length = 64) := hl
  have HZ : Hid (∀ z ∈ ks, z < 256) := hz
  clear hT hl hz
  go_enter Tryd.func66, Tryd.ntmps66
  go_wp2
  have r0 := Row.new' w 108 (u8s ks)
  have hb0 : Below w.heap.size w (w.alloc (.cells (u8s ks).toArray 108)) := (Below.refl _ w).alloc (Nat.le_refl _) _
  generalize w.alloc (.cells (u8s ks).toArray 108) = w0 at *
  go_loopw [7] (fun i wr => ∃ k : Nat, k ≤ 64 ∧ i = .int .i64 k ∧ Row wr w.heap.size 108 (u8s (markL ks m k)) ∧ Below w.heap.size w wr)
    (fun i _ => 64 - (intOf i).toNat)
  case atStart => exact ⟨0, by omega, rfl, by rw [markL_zero]; exact r0, hb0⟩
  case round =>
    clear r0 hb0
    obtain ⟨k, hk, rfl, hrow, hbel⟩ := hrel
    by_cases hlt : k < 64
    · have hki : (k : Int) < 64 := by omega
      have cz := hrow.cell (u8s_at (l := markL ks m k) (i := k) (by rw [markL_length, HL.out]; omega))
      have fz := hrow.frozen k
      rw [markL_at] at cz
      have hx : ks.getD k 0 < 256 := all_getD (by decide) HZ.out k
      have HX := u8_xor_nat (ks.getD k 0) m hx hm
      have HS : Hid ((u8s (markL ks m k)).set k (.int .u8 ((ks.getD k 0 ^^^ m : Nat) : Int)) = u8s (markL ks m (k + 1))) := markL_set ks m k (by rw [HL.out]; omega)
      have HRow : Hid (Row wr w.heap.size 108 (u8s (markL ks m k))) := hrow
      clear hrow
      generalize ks.getD k 0 ^^^ m = y at *
      generalize ks.getD k 0 = x at *
      go_wp2
      go_roundw
      case rel =>
        have h := HRow.out.set k (.int .u8 (y : Int))
        rw [HS.out] at h
        exact ⟨k + 1, by omega, by go_num, h, hbel.setCell (p := ⟨w.heap.size, k, none⟩) (Nat.le_refl _) _⟩
      case measure => simp [intOf]; omega
    · obtain rfl : k = 64 := by omega
      rw [markL_all _ _ _ (by rw [HL.out]; omega)] at hrow
      have HRow : Hid (Row wr w.heap.size 108 (u8s (xorL ks m))) := hrow
      have hlr := hrow.lt
      clear hrow
      go_wp2_with (first
        | (go_at_call 77; refine (begin_any _).mono ?_; rintro e w2 ⟨B, rfl, hBs, hrun2, hb2⟩; have hb3 : Below w.heap.size w w2 := hbel.trans (hb2.mono hbel.size); have HRun2 : Hid (RunAt w2 B []) := hrun2; have HRow2 : Hid (Row w2 w.heap.size 108 (u8s (xorL ks m))) := HRow.out.later hb2; clear hrun2 hb2)
        | (go_at_call 67; refine (more_any B (by have := HT.out.pos; omega) [] (xorL ks m) _ 64 64 _ (HT.out.below hb3 HT.out.pos) HRun2.out ⟨by rw [xorL_length, HL.out], by omega, by omega, xorL_lt _ _ hm HZ.out, .inr ⟨w.heap.size, 0, rfl, HRow2.out.lt, fun i hi => by rw [Nat.zero_add]; exact HRow2.out.cell (u8s_at (by rw [xorL_length, HL.out]; exact hi))⟩⟩ (.inr (fun a ha => by cases ha; show w.heap.size ≠ B; omega)) (by simp) (by simp)).mono ?_; rintro e w4 ⟨⟨v4, rfl⟩, hrun4, hbut4⟩))
      go_ret
      exact ⟨B, rfl, by omega, hrun4, hb3.trans (hbut4.below (by have := hb3.size; omega) (by omega))⟩
end Go.Proofs.YtobmcaknfbooiaaDoor.Sh
/-
  What mac.Sum answers: the HMAC of the parts, one behind the other. Nothing that lay before the call has turned.
-/
namespace Go.Proofs.YtobmcaknfbooiaaDoor.Sh
open Go Go.RowKit

theorem flat_succ (ts : List (List Nat)) (k : Nat) (hk : k < ts.length) : (ts.take k).flatten ++ ts.getD k [] = (ts.take (k + 1)).flatten := by
  rw [List.take_succ_eq_append_getElem hk, List.flatten_append]
  simp [List.getElem?_eq_getElem hk]
theorem flat_lt {n₀ : Nat} {W : World} {p : Option Addr} {len cap : Nat} {ts : List (List Nat)} (h : IsLists n₀ W p len cap ts) : ∀ z ∈ ts.flatten, z < 256 := by
  intro z hz
  obtain ⟨t, ht, hzt⟩ := List.mem_flatten.1 hz
  obtain ⟨i, hi, rfl⟩ := List.mem_iff_getElem.1 ht
  rcases h.2.2 with h0 | ⟨b, off, _, _, hc⟩
  · have := h.1; omega
  · obtain ⟨q, l, c, _, hI⟩ := hc i (by have := h.1; omega)
    refine hI.2.2.2.1 z ?_
    simpa [List.getElem?_eq_getElem hi] using hzt

theorem flat_take_le (ts : List (List Nat)) (k : Nat) : (ts.take k).flatten.length ≤ ts.flatten.length := by
  have h := congrArg (fun l => l.flatten.length) (List.take_append_drop k ts)
  simp only [List.flatten_append, List.length_append] at h
  omega

set_option maxRecDepth 100000 in
set_option maxHeartbeats 400000 in
/-- mac.Sum -/
theorem macSum_any (p : Option Addr) (len cap : Nat) (ks : List Nat) (hlen : len ≤ 60000) (pp : Option Addr) (pl pc : Nat) (hpl : pl ≤ 1000) (ts : List (List Nat)) (hts : ts.flatten.length ≤ 50000) (w : World) (hT : Tab w) (hI : IsBytes w.heap.size w p len cap ks) (hL : IsLists w.heap.size w pp pl pc ts) :
    Calls Tryd.prog 51 #[.slice p len cap, .slice pp pl pc] w fun e w' => e = .returned (.agg (u8s (macN ks ts.flatten)).toArray) ∧ Below w.heap.size w w' := by
  have HT : Hid (Tab w) := hT
  have HL : Hid (IsLists w.heap.size w pp pl pc ts) := hL
  have HFz : Hid (∀ z ∈ ts.flatten, z < 256) := flat_lt hL
  have HTl : Hid (ts.length = pl) := hL.1
  have HKz : Hid (∀ z ∈ keyL ks, z < 256) := keyL_lt ks hI.2.2.2.1
  have HKn : Hid ((keyL ks).length = 64) := keyL_length ks
  have H34 : Hid (∀ W, Below w.heap.size w W → Calls Tryd.prog 65 #[.slice p len cap] W fun e w' => e = .returned (.agg (u8s (keyL ks)).toArray) ∧ Below W.heap.size W w') := fun W hb => filledKey_any p len cap ks hlen W (hT.later hb) (hI.later hb)
  have H35 : Hid (∀ (W : World) (m : Nat), m < 256 → Tab W → Calls Tryd.prog 66 #[.agg (u8s (keyL ks)).toArray, .int .u8 m] W fun e w' => ∃ B, e = .returned (.pointer (some ⟨B, 0, none⟩)) ∧ W.heap.size ≤ B ∧ RunAt w' B (xorL (keyL ks) m) ∧ Below W.heap.size W w') := fun W m hm hT => begun_any (keyL ks) HKn.out HKz.out m hm W hT
  have HKl : Hid ((u8s (keyL ks)).length = 64) := by show _ = _; rw [u8s_length]; exact HKn.out
  have HK1 : Hid (∀ v ∈ u8s (keyL ks), v.oneCell' = true) := u8s_one _
  obtain ⟨X, hX⟩ : ∃ X, X = xorL (keyL ks) 54 := ⟨_, rfl⟩
  have HXl : Hid (X.length = 64) := by show _ = _; rw [hX, xorL_length, HKn.out]
  have HXz : Hid (∀ z ∈ X, z < 256) := by rw [hX]; exact xorL_lt _ _ (by decide) HKz.out
  obtain ⟨Y, hY⟩ : ∃ Y, Y = xorL (keyL ks) 92 := ⟨_, rfl⟩
  have HYl : Hid (Y.length = 64) := by show _ = _; rw [hY, xorL_length, HKn.out]
  have HYz : Hid (∀ z ∈ Y, z < 256) := by rw [hY]; exact xorL_lt _ _ (by decide) HKz.out
  have HMac : Hid (macN ks ts.flatten = sumN (Y ++ sumN (X ++ ts.flatten))) := by show _ = _; rw [hX, hY, macN]
  have H35a : Hid (∀ W, Tab W → Calls Tryd.prog 66 #[.agg (u8s (keyL ks)).toArray, .int .u8 54] W fun e w' => ∃ B, e = .returned (.pointer (some ⟨B, 0, none⟩)) ∧ W.heap.size ≤ B ∧ RunAt w' B X ∧ Below W.heap.size W w') := fun W hT => by rw [hX]; exact H35.out W 54 (by omega) hT
  have H35b : Hid (∀ W, Tab W → Calls Tryd.prog 66 #[.agg (u8s (keyL ks)).toArray, .int .u8 92] W fun e w' => ∃ B, e = .returned (.pointer (some ⟨B, 0, none⟩)) ∧ W.heap.size ≤ B ∧ RunAt w' B Y ∧ Below W.heap.size W w') := fun W hT => by rw [hY]; exact H35.out W 92 (by omega) hT
  clear hT hI hL hX hY H35
  generalize u8s (keyL ks) = KV at *
  go_enter Tryd.func51, Tryd.ntmps51
  go_wp2_with (first
    | (go_at_call 65; refine (H34.out _ ((Below.refl _ w).alloc (Nat.le_refl _) _)).mono ?_; rintro e w1 ⟨rfl, hb1⟩; have hs1 : w.heap.size + 1 ≤ w1.heap.size := (by have h := hb1.size; rwa [World.size_alloc] at h); have HbA : Hid (Below w.heap.size w w1) := ((Below.refl _ w).alloc (Nat.le_refl _) _).trans (hb1.mono (by simp)); have HZ1 : Hid (Row w1 w.heap.size 40 (List.replicate 32 (.int .u8 0))) := (Row.new w 40 _).later hb1; clear hb1)
    | ((with_reducible show wpList _ _ _ (Oper.mk _ (Op.store 108 (.tmp 5) (.tmp 12)) _ _ _ _ :: _) _ _); refine wpList_store_Row rfl 108 (.tmp 5) (.tmp 12) rfl KV rfl rfl (Row.new _ _ _) (by rw [HKl.out]; exact size108') (by rw [HKl.out]; rfl) HK1.out ?_; simp only [Act.put])
    | ((with_reducible show wpList _ _ _ (Oper.mk _ (Op.load 108 (.tmp 5)) _ _ _ _ :: _) _ _); refine wpList_load_Row rfl 108 (.tmp 5) rfl rfl (Row.sets_all (Row.new w1 _ _) (by rw [HKl.out]; rfl)) Tryd.underlying108 (by rw [HKl.out]; exact size108') ?_; simp only [Act.put, List.setIfInBounds_toArray, List.set_cons_zero, List.set_cons_succ])
    | (go_at_call 66; refine (H35a.out _ (HT.out.below (below_setCells (by omega) _ _ (HbA.out.alloc HbA.out.size _)) HT.out.pos)).mono ?_; rintro e w2 ⟨B, rfl, hBs, hrun2, hb2⟩; have HRun2 : Hid (RunAt w2 B X) := hrun2; have Hb2 : Hid (Below _ _ w2) := hb2; have hBw : w1.heap.size + 1 ≤ B := (by rwa [size_setCells, World.size_alloc] at hBs); clear hrun2 hb2 hBs))
  have hb2 := Hb2.out
  have rZ2 : Row w2 w.heap.size 40 (List.replicate 32 (.int .u8 0)) := (Row.others (by omega) KV 0 (HZ1.out.alloc _)).later hb2
  have rK2 : Row w2 w1.heap.size 108 KV := (Row.sets_all (Row.new w1 _ _) (by rw [HKl.out]; rfl)).later hb2
  have hbB : Below w.heap.size w w2 := (below_setCells (by omega) _ _ (HbA.out.alloc HbA.out.size _)).trans (hb2.mono (by rw [size_setCells, World.size_alloc]; omega))
  clear hb2 Hb2 HZ1 HbA
  go_loopw [17] (fun i wr => ∃ k : Nat, k ≤ pl ∧ i = .int .i64 k ∧ RunAt wr B (X ++ (ts.take k).flatten) ∧ Row wr w.heap.size 40 (List.replicate 32 (.int .u8 0)) ∧ Row wr w1.heap.size 108 KV ∧ Below w.heap.size w wr)
    (fun i _ => pl - (intOf i).toNat)
  case atStart => exact ⟨0, Nat.zero_le _, rfl, by simpa using HRun2.out, rZ2, rK2, hbB⟩
  case round =>
    clear rZ2 rK2 hbB HRun2
    obtain ⟨k, hk, rfl, hrun, hrZ, hrK, hbel⟩ := hrel
    have hsz := hbel.size
    by_cases hlt : k < pl
    · have hki : (k : Int) < (pl : Int) := by omega
      obtain ⟨b, off, rfl, hb, hcell⟩ : ∃ b off, pp = some ⟨b, off, none⟩ ∧ b < w.heap.size ∧ ∀ i, i < pl → ∃ q l c, wr.cell? ⟨b, off + i, none⟩ = some (.slice q l c) ∧ IsBytes w.heap.size wr q l c (ts.getD i []) := by
        rcases (HL.out.below hbel).2.2 with h | h
        · omega
        · exact h
      obtain ⟨q1, l1, c1, hc1, hI1⟩ := hcell k hlt
      have HFs : Hid ((X ++ (ts.take k).flatten) ++ ts.getD k [] = X ++ (ts.take (k + 1)).flatten) := by show _ = _; rw [List.append_assoc, flat_succ ts k (by rw [HTl.out]; exact hlt)]
      have hl1 := flat_take_le ts (k + 1)
      have hl2 := congrArg List.length HFs.out
      simp only [List.length_append, hI1.1, HXl.out] at hl2
      have HM : Hid (Calls Tryd.prog 67 #[.pointer (some ⟨B, 0, none⟩), .slice q1 l1 c1] wr fun e w' => (∃ v, e = .returned v) ∧ RunAt w' B (X ++ (ts.take (k + 1)).flatten) ∧ But B wr.heap.size wr w') := by
        rw [← HFs.out]
        exact more_any B (by have := HT.out.pos; omega) _ _ q1 l1 c1 wr (HT.out.below hbel HT.out.pos) hrun (hI1.mono hsz) (by
          rcases hI1.2.2.2.2 with h | ⟨b', off', e, hb', _⟩
          · exact .inl h
          · exact .inr (fun a ha => by rw [e] at ha; cases ha; show b' ≠ B; omega)) (by rw [List.length_append, HXl.out]; omega) (fun z hz => by
          rcases List.mem_append.1 hz with h | h
          · exact HXz.out z h
          · obtain ⟨t, ht, hzt⟩ := List.mem_flatten.1 h
            exact HFz.out z (List.mem_flatten.2 ⟨t, List.mem_of_mem_take ht, hzt⟩))
      have HrZ : Hid (Row wr w.heap.size 40 (List.replicate 32 (.int .u8 0))) := hrZ
      have HrK : Hid (Row wr w1.heap.size 108 KV) := hrK
      have hlZ := hrZ.lt
      have hlK := hrK.lt
      clear hrun hrZ hrK hcell hI1 hl1 hl2
      go_wp2_with (go_at_call 67; refine HM.out.mono ?_; rintro e w5 ⟨⟨v5, rfl⟩, hrun5, hbut5⟩; have Hrun5 : Hid (RunAt w5 B (X ++ (ts.take (k + 1)).flatten)) := hrun5; have Hbut5 : Hid (But B wr.heap.size wr w5) := hbut5; clear hrun5 hbut5)
      go_roundw
      case rel => exact ⟨k + 1, by omega, by go_num, Hrun5.out, Hbut5.out.row hlZ (by omega) HrZ.out, Hbut5.out.row hlK (by omega) HrK.out, hbel.trans (Hbut5.out.below hsz (by omega))⟩
      case measure => simp [intOf]; omega
    · obtain rfl : k = pl := by omega
      rw [List.take_of_length_le (by rw [HTl.out]; exact Nat.le_refl _)] at hrun
      obtain ⟨IN, hIN⟩ : ∃ IN, IN = sumN (X ++ ts.flatten) := ⟨_, rfl⟩
      have HINl : Hid (IN.length = 32) := by show _ = _; rw [hIN]; exact sumN_length _
      have HINz : Hid (∀ z ∈ IN, z < 256) := by rw [hIN]; exact sumN_lt _
      have H17a : Hid (Calls Tryd.prog 68 #[.pointer (some ⟨B, 0, none⟩)] wr fun e w' => e = .returned (.agg (u8s IN).toArray) ∧ Below wr.heap.size wr w') := by
        rw [hIN]
        exact rsum_any B _ (by rw [List.length_append, HXl.out]; omega) (fun z hz => by
          rcases List.mem_append.1 hz with h | h
          · exact HXz.out z h
          · exact HFz.out z h) wr (HT.out.below hbel HT.out.pos) hrun
      have H17b : Hid (∀ W B', Tab W → RunAt W B' (Y ++ IN) → Calls Tryd.prog 68 #[.pointer (some ⟨B', 0, none⟩)] W fun e w' => e = .returned (.agg (u8s (macN ks ts.flatten)).toArray) ∧ Below W.heap.size W w') := fun W B' hT hR => by
        rw [HMac.out, ← hIN]
        exact rsum_any B' _ (by rw [List.length_append, HYl.out, HINl.out]; omega) (fun z hz => by
          rcases List.mem_append.1 hz with h | h
          · exact HYz.out z h
          · exact HINz.out z h) W hT hR
      have HIl : Hid ((u8s IN).length = 32) := by show _ = _; rw [u8s_length]; exact HINl.out
      have HI1 : Hid (∀ v ∈ u8s IN, v.oneCell' = true) := u8s_one _
      have HVl : Hid ((u8s (macN ks ts.flatten)).length = 32) := by show _ = _; rw [u8s_length]; exact macN_length _ _
      have HV1 : Hid (∀ v ∈ u8s (macN ks ts.flatten), v.oneCell' = true) := u8s_one _
      generalize hVV : u8s (macN ks ts.flatten) = VV at *
      have HVV : Hid (u8s (macN ks ts.flatten) = VV) := hVV
      have HrZ : Hid (Row wr w.heap.size 40 (List.replicate 32 (.int .u8 0))) := hrZ
      have HrK : Hid (Row wr w1.heap.size 108 KV) := hrK
      have hlZ := hrZ.lt
      have hlK := hrK.lt
      clear hrun hrZ hrK hIN hVV HMac
      generalize hIV : u8s IN = IV at *
      have HIV : Hid (u8s IN = IV) := hIV
      clear hIV
      go_wp2_with (first
        | (go_at_call 68; have h17 := H17a.out; clear H17a; refine h17.mono ?_; clear h17; rintro e w3 ⟨rfl, hb3⟩; have Hb3 : Hid (Below wr.heap.size wr w3) := hb3; have hs3 := hb3.size; clear hb3)
        | ((with_reducible show wpList _ _ _ (Oper.mk _ (Op.store 40 (.tmp 9) (.tmp 26)) _ _ _ _ :: _) _ _); refine wpList_store_Row rfl 40 (.tmp 9) (.tmp 26) rfl IV rfl rfl (Row.new _ _ _) (by rw [HIl.out]; exact size40) (by rw [HIl.out]; rfl) HI1.out ?_; simp only [Act.put])
        | ((with_reducible show wpList _ _ _ (Oper.mk _ (Op.load 108 (.tmp 5)) _ _ _ _ :: _) _ _); refine wpList_load_Row rfl 108 (.tmp 5) rfl rfl (Row.others (by omega) IV 0 ((HrK.out.later Hb3.out).alloc _)) Tryd.underlying108 (by rw [HKl.out]; exact size108') ?_; simp only [Act.put, List.setIfInBounds_toArray, List.set_cons_zero, List.set_cons_succ])
        | (go_at_call 66; refine (H35b.out _ (HT.out.below (below_setCells (b := w3.heap.size) (by omega) IV 0 ((hbel.trans (Hb3.out.mono hsz)).alloc (by omega) _)) HT.out.pos)).mono ?_; rintro e w4 ⟨B2, rfl, hBs4, hrun4, hb4⟩; have HRun4 : Hid (RunAt w4 B2 Y) := hrun4; have HI4 : Hid (Row w4 w3.heap.size 40 IV) := (Row.sets_all (vs := IV) (Row.new w3 _ _) (by rw [HIl.out]; rfl)).later hb4; have HZ4 : Hid (Row w4 w.heap.size 40 (List.replicate 32 (.int .u8 0))) := (Row.others (by omega) IV 0 ((HrZ.out.later Hb3.out).alloc _)).later hb4; have HbF : Hid (Below w.heap.size w w4) := (below_setCells (b := w3.heap.size) (by omega) IV 0 ((hbel.trans (Hb3.out.mono hsz)).alloc (by omega) _)).trans (hb4.mono (by rw [size_setCells, World.size_alloc]; omega)); rw [size_setCells, World.size_alloc] at hBs4; clear hrun4 hb4)
        | (go_at_call 67; refine (more_any B2 (by have := HT.out.pos; omega) Y IN _ 32 32 _ (HT.out.below HbF.out HT.out.pos) HRun4.out ⟨HINl.out, by omega, by omega, HINz.out, .inr ⟨w3.heap.size, 0, rfl, HI4.out.lt, fun i hi => by rw [Nat.zero_add]; exact HI4.out.cell (by rw [← HIV.out]; exact u8s_at (by rw [HINl.out]; exact hi))⟩⟩ (.inr (fun a ha => by cases ha; show w3.heap.size ≠ B2; omega)) (by rw [HYl.out]; omega) HYz.out).mono ?_; rintro e w5 ⟨⟨v5, rfl⟩, hrun5, hbut5⟩; have HRun5 : Hid (RunAt w5 B2 (Y ++ IN)) := hrun5; have HZ5 : Hid (Row w5 w.heap.size 40 (List.replicate 32 (.int .u8 0))) := hbut5.row HZ4.out.lt (by omega) HZ4.out; have HbG : Hid (Below w.heap.size w w5) := HbF.out.trans (hbut5.below HbF.out.size (by omega)); clear hrun5 hbut5)
        | (go_at_call 68; refine (H17b.out _ _ (HT.out.below HbG.out HT.out.pos) HRun5.out).mono ?_; rintro e w6 ⟨rfl, hb6⟩; have HZ6 : Hid (Row w6 w.heap.size 40 (List.replicate 32 (.int .u8 0))) := HZ5.out.later hb6; have HbH : Hid (Below w.heap.size w w6) := HbG.out.trans (hb6.mono HbG.out.size); clear hb6)
        | ((with_reducible show wpList _ _ _ (Oper.mk _ (Op.store 40 (.tmp 4) (.tmp 33)) _ _ _ _ :: _) _ _); refine wpList_store_Row rfl 40 (.tmp 4) (.tmp 33) rfl VV rfl rfl HZ6.out (by rw [HVl.out]; exact size40) (by rw [HVl.out]; rfl) HV1.out ?_; simp only [Act.put]))
      refine bodyPost_ret (results_Row rfl rfl (Row.sets_all (vs := VV) HZ6.out (by rw [HVl.out]; rfl)) Tryd.underlying40 (by rw [HVl.out]; exact size40)) rfl ?_
      exact ⟨by rw [HVV.out], below_setCells (Nat.le_refl _) _ _ HbH.out⟩
end Go.Proofs.YtobmcaknfbooiaaDoor.Sh
