/-
  What sha.lastBlocks tells: the one or two blocks that end a text; it may be left behind each.
-/
import Derived.Test.YtkpjbleogjmbjaaDoorBaseAll
import Derived.Test.YtkpjbleogjmbjaaDoorChecked
import Derived.RegionIn
namespace Go.Proofs.YtkpjbleogjmbjaaDoor.Sh
open Go.RowKit Go.Shelf
attribute [local go_sem] Oper.semAt_some

theorem size91' : (Tryd.prog.info? 91).map (·.size) = some 64 := by kernel_rfl
/-- Eight bytes of a number, the highest ahead. -/
def be8 (m : Nat) : List Nat := (List.range 8).map fun i => m / 2 ^ (8 * (7 - i)) % 256
theorem be8_length (m : Nat) : (be8 m).length = 8 := by simp [be8]
theorem be8_at (m k : Nat) (hk : k < 8) : (be8 m).take k ++ [m / 2 ^ (8 * (7 - k)) % 256] = (be8 m).take (k + 1) := by
  rw [List.take_succ_eq_append_getElem (by rw [be8_length]; exact hk)]
  simp [be8]

/-- The blocks that end a text of N bytes of which zs is left. -/
def lastL (zs : List Nat) (N : Nat) : List (List Nat) :=
  if zs.length < 56 then [(zs ++ 128 :: List.replicate (55 - zs.length) 0) ++ be8 (8 * N % 18446744073709551616)]
  else [zs ++ 128 :: List.replicate (63 - zs.length) 0, List.replicate 56 0 ++ be8 (8 * N % 18446744073709551616)]

/-- What is handed over. -/
def BlockOk (x : List Nat) : Prop := x.length = 64 ∧ ∀ z ∈ x, z < 256

theorem fill_zeros (N m : Nat) (l : List Nat) (h : l.length + m ≤ N) : fill N (.int .u8 0) (u8s (l ++ List.replicate m 0)) = fill N (.int .u8 0) (u8s l) := by
  have e : N - l.length = m + (N - (l.length + m)) := by omega
  simp only [fill, u8s, List.map_append, List.map_replicate, List.length_append, List.length_map, List.length_replicate, List.append_assoc]
  rw [e, ← List.replicate_append_replicate]
  rfl

theorem be8_lt (m : Nat) : ∀ z ∈ be8 m, z < 256 := by
  intro z hz
  obtain ⟨i, _, rfl⟩ := List.mem_map.1 hz
  exact Nat.mod_lt _ (by decide)

theorem splice_fill (zs : List Nat) : splice (List.replicate 64 (Value.int .u8 0)) 0 (u8s zs) = fill 64 (.int .u8 0) (u8s zs) := by
  simp only [splice, fill, List.take_zero, List.nil_append, u8s_length, List.drop_replicate, Nat.zero_add]

theorem src_bytes {w w1 : World} {b off len : Nat} {zs : List Nat} (hl : zs.length = len) (hA : ∀ i, i < len → w.cell? ⟨b, off + i, none⟩ = some (.int .u8 (zs.getD i 0 : Nat))) (hb : b < w.heap.size) (hg : Below w.heap.size w w1) :
    ∀ j v, (u8s zs)[j]? = some v → w1.cell? ((⟨b, off, none⟩ : Addr).add j) = some v := by
  intro j v hj
  have hjl : j < zs.length := by
    rcases Nat.lt_or_ge j zs.length with h | h
    · exact h
    · simp [u8s, List.getElem?_eq_none h] at hj
  rw [Addr.add_mid]
  rw [u8s_at hjl] at hj
  cases hj
  exact (hg.cell (p := ⟨b, off + j, none⟩) hb).trans (hA j (by omega))

set_option maxRecDepth 100000 in
set_option maxHeartbeats 2000000 in
theorem last1_iter (n : Nat) (hn : 2 ≤ n) (l Br Bl N : Nat) (p : Option Addr) (len cap : Nat) (zs : List Nat) (hlen : len < 64) (W : World) (hI : IsBytes W.heap.size W p len cap zs)
    (hcr : W.cell? ⟨Br, 0, none⟩ = some (.slice p len cap)) (hcl : Row W Bl 104 [.int .u64 N])
    (M : Nat → Prop) (Kp : World → World → Prop) (hK1 : ∀ A B, Kp A B → ∀ (k : Nat) (c : Array Value) (t : TypeId) (fr : Nat × Nat), ¬ M k → A.heap[k]? = some (Obj.cells c t fr) → B.heap[k]? = some (Obj.cells c t fr)) (hM : ∀ k, W.heap.size ≤ k → ¬ M k) (hMl : ¬ M Bl) :
    IterLow Fence.wide n Tryd.prog 53 #[.pointer (some ⟨Br, 0, none⟩), .pointer (some ⟨Bl, 0, none⟩)] (fun x : List Nat => #[.agg (u8s x).toArray]) (fun x _ => BlockOk x) Kp (fun xs => xs = lastL zs N) (fun pre => ∃ r, pre ++ r = lastL zs N) 2 l W := by
  intro J Jx hJ hJx hY h0
  have h1 : 1 ≤ n := by omega
  have hfn : ∀ f, Fence.wide.fn f := fun _ => trivial
  have hbr := World.block_lt_of_cell? W _ hcr
  obtain ⟨hzl, hlc, hcap, hz256, hz⟩ := hI
  refine callsIn_of_wp Tryd.func53 rfl trivial ?_ rfl
  simp only [Tryd.ntmps53, List.size_toArray, List.length_cons, List.length_nil, Nat.reduceAdd, Nat.reduceSub, Array.replicate_succ, Array.replicate_zero, List.push_toArray, List.append_toArray, List.nil_append, List.cons_append]
  gi_wp2
  rw [z64u8]
  have rB := Row.new' W 91 (List.replicate 64 (Value.int .u8 0))
  have hbW : Below W.heap.size W (W.alloc (.cells (List.replicate 64 (Value.int .u8 0)).toArray 91)) := (Below.refl _ W).alloc (Nat.le_refl _) _
  have hcr1 := (hbW.cell (p := ⟨Br, 0, none⟩) hbr).trans hcr
  refine wpIn_region_on_wide (S := fun W' => W'.cell? ⟨Br, 0, none⟩ = some (.slice p len cap)) (by kernel_rfl) (by kernel_rfl) hcr1 (fun hHeld => ?_)
  refine wpAnyH_takesAt 0 2 1 (of_decide_eq_true (by kernel_rfl)) rfl (fun _ _ _ _ _ h => h) (by kernel_rfl) (by kernel_rfl) hHeld ?_
  simp only [List.drop_zero, List.take_succ_cons, List.take_zero]
  iterate 2 (refine wpHeld_step (v := ?_) (by rfl) (fun wz hSw => ?_) ?_; rotate_left; (focus ((try dsimp only at hSw); go_simp; try with_reducible rfl)); (simp only [Act.put, List.setIfInBounds_toArray, List.set_cons_zero, List.set_cons_succ]))
  refine wpHeld_nil ?_
  refine wpAnyH_only (i := 2) (by kernel_rfl) rfl (fun K hK => ?_)
  refine step_copy_splice rfl (.tmp 7) (.tmp 8) 22 22 rfl 5 Tryd.underlying22 size5 _ _ _ _ _ _ rfl rfl W.heap.size 0 (List.replicate 64 (Value.int .u8 0)) 91 rB (u8s zs) (by rw [u8s_length, hzl]; show len = min len 64; omega) (fun hpos => ?pos) (by rw [u8s_length]; simp; omega) (u8s_one _) W.heap.size W hbW.drew (Nat.le_refl _) (fun w2 HG2 hb2 => ?_)
  case pos =>
    rw [u8s_length] at hpos
    rcases hz with hz | ⟨b, off, rfl, hb, hc⟩
    · omega
    · exact ⟨rfl, _, rfl, src_bytes hzl hc hb hbW.drew⟩
  refine hK.out _ _ ((hb2.cell (p := ⟨Br, 0, none⟩) hbr).trans hcr) ?_
  clear hK K
  refine wpAnyH_done (by kernel_rfl) ?_ _
  refine OnOnly.on ?_
  have hr2 : Row w2 W.heap.size 91 (fill 64 (.int .u8 0) (u8s zs)) := by
    have h := HG2.out
    rw [splice_fill zs] at h
    exact h
  have hc2 := (hb2.cell (p := ⟨Br, 0, none⟩) hbr).trans hcr
  have hl2 := hcl.later hb2
  have cz := hr2.cell (i := len) (v := .int .u8 0) (fill_rest _ _ _ (by rw [u8s_length]; omega) hlen)
  have fz := hr2.frozen len
  have hli : (len : Int) < 64 := by omega
  have HR2 : Hid (Row (w2.setCell ⟨W.heap.size, len, none⟩ (.int .u8 128)) W.heap.size 91 (fill 64 (.int .u8 0) (u8s (zs ++ [128])))) := by
    have h := hr2.set len (.int .u8 (128 : Nat))
    rw [fill_set _ _ _ _ (by rw [u8s_length]; omega) hlen, u8s_snoc] at h
    exact h
  have HL2 : Hid (Row (w2.setCell ⟨W.heap.size, len, none⟩ (.int .u8 128)) Bl 104 [.int .u64 N]) := hl2.other (by have := hcl.lt; simp; omega) _
  have HB2 : Hid (Below W.heap.size W (w2.setCell ⟨W.heap.size, len, none⟩ (.int .u8 128))) := hb2.setCell (p := ⟨W.heap.size, len, none⟩) (Nat.le_refl _) _
  have HJ : Hid (Low W.heap.size J) := hJ
  have HJx : Hid (Low W.heap.size Jx) := hJx
  have HZL : Hid (zs.length = len) := hzl
  have HZ : Hid (∀ z ∈ zs, z < 256) := hz256
  have H0 : Hid (J [] (w2.setCell ⟨W.heap.size, len, none⟩ (.int .u8 128))) := hJ _ _ _ h0 HB2.out
  have hcr3 := (World.cell?_setCell_far w2 ⟨W.heap.size, len, none⟩ ⟨Br, 0, none⟩ (.int .u8 128) (by simp; omega)).trans hc2
  have hcl3 := HL2.out.cell (i := 0) rfl
  obtain ⟨m, hm⟩ : ∃ m, m = 8 * N % 18446744073709551616 := ⟨_, rfl⟩
  have em : IntKind.u64.wrap (8 * (N : Int)) = (m : Int) := by rw [IntKind.wrap_u64]; omega
  have bm : m < 18446744073709551616 := by omega
  have HM : Hid (m = 8 * N % 18446744073709551616) := hm
  clear rB hbW hcr1 hHeld HG2 hr2 hl2 hb2 hJ hJx hzl hz256 h0 hz hcl hcr hm
  by_cases h56 : len < 56
  · have h56i : (len : Int) < 56 := by omega
    simp only [Act.put, List.setIfInBounds_toArray]
    gi_wp2
    obtain ⟨X, hX⟩ : ∃ X, X = zs ++ 128 :: List.replicate (55 - len) 0 := ⟨_, rfl⟩
    have HX : Hid (X.length = 56) := by
      show _ = _
      have := HZL.out
      rw [hX]; simp; omega
    have HOk : Hid (∀ z ∈ X, z < 256) := by
      intro z hz
      rw [hX] at hz
      rcases List.mem_append.1 hz with h | h
      · exact HZ.out z h
      · rcases List.mem_cons.1 h with h | h
        · omega
        · have := (List.mem_replicate.1 h).2; omega
    have HRow : Hid (Row (w2.setCell ⟨W.heap.size, len, none⟩ (.int .u8 128)) W.heap.size 91 (fill 64 (.int .u8 0) (u8s X))) := by
      have h := HR2.out
      have := HZL.out
      rw [← fill_zeros 64 (55 - len) _ (by simp; omega), List.append_assoc, List.singleton_append, ← hX] at h
      exact h
    have HEq : Hid ([] ++ [X ++ be8 m] = lastL zs N) := by
      show _ = _
      unfold lastL
      rw [if_pos (by rw [HZL.out]; exact h56), HZL.out, ← hX, ← HM.out]
      rfl
    clear hX HR2 HL2 HB2 hcr3 hcl3 cz fz
    generalize w2.setCell ⟨W.heap.size, len, none⟩ (.int .u8 128) = w3 at *
    gi_loopw [6] (fun i wr => ∃ q : Nat, 56 ≤ q ∧ q ≤ 64 ∧ i = .int .i64 q ∧ Row wr W.heap.size 91 (fill 64 (.int .u8 0) (u8s (X ++ (be8 m).take (q - 56)))) ∧ J [] wr)
      (fun i _ => 64 - (intOf i).toNat)
    case atStart => exact ⟨56, by omega, by omega, rfl, by simpa using HRow.out, H0.out⟩
    case round =>
      obtain ⟨q, hq56, hq, rfl, hrB, hJp⟩ := hrel
      by_cases hq64 : q < 64
      · have hqi : (q : Int) < 64 := by omega
        have HTk : Hid ((be8 m).take (q - 56) ++ [m / 2 ^ (8 * (63 - q)) % 256] = (be8 m).take (q + 1 - 56)) := by
          have h := be8_at m (q - 56) (by omega)
          rw [show 7 - (q - 56) = 63 - q by omega, show q - 56 + 1 = q + 1 - 56 by omega] at h
          exact h
        have HLn : Hid ((u8s (X ++ (be8 m).take (q - 56))).length = q) := by
          show _ = _
          have := HX.out
          rw [u8s_length, List.length_append, List.length_take, be8_length]; omega
        have cz := hrB.cell (i := q) (v := .int .u8 0) (fill_rest _ _ _ (by rw [HLn.out]; omega) hq64)
        have fz := hrB.frozen q
        have HrB : Hid (Row wr W.heap.size 91 (fill 64 (.int .u8 0) (u8s (X ++ (be8 m).take (q - 56))))) := hrB
        have e1 : IntKind.i64.wrap (63 - (q : Int)) = ((63 - q : Nat) : Int) := by rw [IntKind.wrap_i64]; omega
        have e2 : IntKind.i64.wrap (8 * ((63 - q : Nat) : Int)) = ((8 * (63 - q) : Nat) : Int) := by rw [IntKind.wrap_i64]; omega
        have l2 : ((8 * (63 - q) : Nat) : Int) < 64 := by omega
        have HJp : Hid (J [] wr) := hJp
        clear hrB hJp
        generalize 8 * (63 - q) = sh at *
        generalize 63 - q = d at *
        gi_wp2
        go_roundw
        case rel =>
          have g1 : ((m : Int) / 2 ^ sh % 256) = ((m / 2 ^ sh % 256 : Nat) : Int) := by simp
          have h := HrB.out.set q (.int .u8 (m / 2 ^ sh % 256 : Nat))
          rw [fill_set _ _ _ _ HLn.out hq64, u8s_snoc, List.append_assoc, HTk.out, ← g1] at h
          exact ⟨q + 1, by omega, by omega, by go_num, h, HJ.out _ _ _ HJp.out ((Below.refl _ wr).setCell (p := ⟨W.heap.size, q, none⟩) (Nat.le_refl _) _)⟩
        case measure => simp [intOf]; omega
      · obtain rfl : q = 64 := by omega
        have HrB : Hid (Row wr W.heap.size 91 (u8s (X ++ be8 m))) := by
          have := HX.out
          rw [show (be8 m).take (64 - 56) = be8 m from List.take_of_length_le (by rw [be8_length]; omega), fill_full _ _ _ (by rw [u8s_length, List.length_append, be8_length]; omega)] at hrB
          exact hrB
        have HLn : Hid ((u8s (X ++ be8 m)).length = 64) := by
          show _ = _
          have := HX.out
          rw [u8s_length, List.length_append, be8_length]; omega
        have HYl := hY [] (X ++ be8 m) wr hJp ⟨by have := HLn.out; rwa [u8s_length] at this, fun z hz => by
          rcases List.mem_append.1 hz with h | h
          · exact HOk.out z h
          · exact be8_lt m z h⟩ (by simp)
        obtain ⟨fn, tmps, assign, body, hy, hR⟩ := HYl
        clear hrB hJp
        generalize u8s (X ++ be8 m) = V at *
        gi_wp2_with ((with_reducible show wpListIn _ _ _ _ _ (Oper.mk _ (Op.load 91 (.tmp 4)) _ _ _ _ :: _) _ _); refine wpListIn_load_Row rfl 91 (.tmp 4) rfl rfl HrB.out Tryd.underlying91 (by rw [HLn.out]; exact size91') ?_; simp only [Act.put, List.setIfInBounds_toArray, List.set_cons_zero, List.set_cons_succ])
        refine hR.mono ?_
        rintro e W3 (⟨rfl, hJ3, hk3⟩ | ⟨rfl, hJx3, hk3⟩)
        · gi_wp2
          go_end0
          exact ⟨⟨_, rfl⟩, .inl ⟨_, HEq.out, hJ3⟩⟩
        · gi_wp2
          go_end0
          exact ⟨⟨_, rfl⟩, .inr ⟨_, ⟨[], by rw [List.append_nil]; exact HEq.out⟩, hJx3⟩⟩
  · have h56i : (56 : Int) ≤ (len : Int) := by omega
    have HLn : Hid ((u8s (zs ++ 128 :: List.replicate (63 - len) 0)).length = 64) := by
      show _ = _
      have := HZL.out
      rw [u8s_length]; simp; omega
    have HRow : Hid (Row (w2.setCell ⟨W.heap.size, len, none⟩ (.int .u8 128)) W.heap.size 91 (u8s (zs ++ 128 :: List.replicate (63 - len) 0))) := by
      have h := HR2.out
      have := HZL.out
      rw [← fill_zeros 64 (63 - len) _ (by simp; omega), List.append_assoc, List.singleton_append, fill_full _ _ _ HLn.out] at h
      exact h
    obtain ⟨x1, hx1⟩ : ∃ x1, x1 = zs ++ 128 :: List.replicate (63 - len) 0 := ⟨_, rfl⟩
    rw [← hx1] at HRow HLn
    have HYl := hY [] x1 _ H0.out ⟨by have := HLn.out; rwa [u8s_length] at this, fun z hz => by
      rw [hx1] at hz
      rcases List.mem_append.1 hz with h | h
      · exact HZ.out z h
      · rcases List.mem_cons.1 h with h | h
        · omega
        · have := (List.mem_replicate.1 h).2; omega⟩ (by decide)
    have HL1 : Hid (lastL zs N = [x1, List.replicate 56 0 ++ be8 m]) := by
      show _ = _
      unfold lastL
      rw [if_neg (by rw [HZL.out]; exact h56), HZL.out, ← hx1, ← HM.out]
    obtain ⟨fn, tmps, assign, body, hy, hR⟩ := HYl
    clear hx1 HR2
    simp only [Act.put, List.setIfInBounds_toArray]
    gi_wp2_with ((with_reducible show wpListIn _ _ _ _ _ (Oper.mk _ (Op.load 91 (.tmp 4)) _ _ _ _ :: _) _ _); refine wpListIn_load_Row rfl 91 (.tmp 4) rfl rfl HRow.out Tryd.underlying91 (by rw [HLn.out]; exact size91') ?_; simp only [Act.put, List.setIfInBounds_toArray, List.set_cons_zero, List.set_cons_succ])
    refine hR.mono ?_
    rintro e W3 (⟨rfl, hJ3, hk3⟩ | ⟨rfl, hJx3, hk3⟩)
    · have HB3 : Hid (Row W3 W.heap.size 91 (u8s x1)) := hK1 _ _ hk3 _ _ _ _ (hM _ (Nat.le_refl _)) HRow.out
      have HL3 : Hid (Row W3 Bl 104 [.int .u64 N]) := hK1 _ _ hk3 _ _ _ _ hMl HL2.out
      obtain ⟨Z, hZ⟩ : ∃ Z, Z = List.replicate 64 (Value.int .u8 0) := ⟨_, rfl⟩
      have HZV : Hid (Z = List.replicate 64 (Value.int .u8 0)) := hZ
      have HZl : Hid (Z.length = 64) := by show _ = _; rw [hZ]; rfl
      have HZ1 : Hid (∀ v ∈ Z, v.oneCell' = true) := by intro v hv; rw [hZ] at hv; rw [(List.mem_replicate.1 hv).2]; rfl
      clear hZ
      have hcl4 := (Row.others (b := W.heap.size) (by have := HL3.out.lt; have := HL2.out.lt; intro e; subst e; have h1 := HL3.out; have h2 := HB3.out; unfold Row at h1 h2; rw [h1] at h2; simp at h2) Z 0 HL3.out).cell (i := 0) rfl
      have HZr : Hid (Row (W3.setCells W.heap.size 0 Z) W.heap.size 91 (fill 64 (.int .u8 0) (u8s (List.replicate 56 0)))) := by
        have h := HB3.out.sets_all (vs := Z) (by rw [HZl.out, HLn.out])
        rw [show fill 64 (.int .u8 0) (u8s (List.replicate 56 0)) = Z from HZV.out.symm]
        exact h
      have HX : Hid ((List.replicate 56 0 : List Nat).length = 56) := rfl
      have HOk : Hid (∀ z ∈ (List.replicate 56 0 : List Nat), z < 256) := by
        intro z hz
        have := (List.mem_replicate.1 hz).2; omega
      have HJ1 : Hid (J ([] ++ [x1]) (W3.setCells W.heap.size 0 Z)) := HJ.out _ _ _ hJ3 (below_setCells (Nat.le_refl _) _ _ (Below.refl _ W3))
      have HEq : Hid (([] ++ [x1]) ++ [List.replicate 56 0 ++ be8 m] = lastL zs N) := by
        show _ = _
        rw [HL1.out]; rfl
      clear hJ3 hk3 HL2 HB2 hcr3 hcl3 cz fz H0 hR hy HRow
      gi_wp2_with ((with_reducible show wpListIn _ _ _ _ _ (Oper.mk _ (Op.store 91 (.tmp 4) (.tmp 20)) _ _ _ _ :: _) _ _); refine wpListIn_store_Row rfl 91 (.tmp 4) (.tmp 20) rfl Z rfl (by rw [HZV.out]; rfl) HB3.out (by rw [HZl.out]; exact size91') (by rw [HZl.out, HLn.out]) HZ1.out ?_; simp only [Act.put])
      generalize W3.setCells W.heap.size 0 Z = w3 at *
      gi_loopw [6] (fun i wr => ∃ q : Nat, 56 ≤ q ∧ q ≤ 64 ∧ i = .int .i64 q ∧ Row wr W.heap.size 91 (fill 64 (.int .u8 0) (u8s ((List.replicate 56 0) ++ (be8 m).take (q - 56)))) ∧ J ([] ++ [x1]) wr)
        (fun i _ => 64 - (intOf i).toNat)
      case atStart => exact ⟨56, by omega, by omega, rfl, by simpa using HZr.out, HJ1.out⟩
      case round =>
        obtain ⟨q, hq56, hq, rfl, hrB, hJp⟩ := hrel
        by_cases hq64 : q < 64
        · have hqi : (q : Int) < 64 := by omega
          have HTk : Hid ((be8 m).take (q - 56) ++ [m / 2 ^ (8 * (63 - q)) % 256] = (be8 m).take (q + 1 - 56)) := by
            have h := be8_at m (q - 56) (by omega)
            rw [show 7 - (q - 56) = 63 - q by omega, show q - 56 + 1 = q + 1 - 56 by omega] at h
            exact h
          have HLn : Hid ((u8s ((List.replicate 56 0) ++ (be8 m).take (q - 56))).length = q) := by
            show _ = _
            have := HX.out
            rw [u8s_length, List.length_append, List.length_take, be8_length]; omega
          have cz := hrB.cell (i := q) (v := .int .u8 0) (fill_rest _ _ _ (by rw [HLn.out]; omega) hq64)
          have fz := hrB.frozen q
          have HrB : Hid (Row wr W.heap.size 91 (fill 64 (.int .u8 0) (u8s ((List.replicate 56 0) ++ (be8 m).take (q - 56))))) := hrB
          have e1 : IntKind.i64.wrap (63 - (q : Int)) = ((63 - q : Nat) : Int) := by rw [IntKind.wrap_i64]; omega
          have e2 : IntKind.i64.wrap (8 * ((63 - q : Nat) : Int)) = ((8 * (63 - q) : Nat) : Int) := by rw [IntKind.wrap_i64]; omega
          have l2 : ((8 * (63 - q) : Nat) : Int) < 64 := by omega
          have HJp : Hid (J ([] ++ [x1]) wr) := hJp
          clear hrB hJp
          generalize 8 * (63 - q) = sh at *
          generalize 63 - q = d at *
          gi_wp2
          go_roundw
          case rel =>
            have g1 : ((m : Int) / 2 ^ sh % 256) = ((m / 2 ^ sh % 256 : Nat) : Int) := by simp
            have h := HrB.out.set q (.int .u8 (m / 2 ^ sh % 256 : Nat))
            rw [fill_set _ _ _ _ HLn.out hq64, u8s_snoc, List.append_assoc, HTk.out, ← g1] at h
            exact ⟨q + 1, by omega, by omega, by go_num, h, HJ.out _ _ _ HJp.out ((Below.refl _ wr).setCell (p := ⟨W.heap.size, q, none⟩) (Nat.le_refl _) _)⟩
          case measure => simp [intOf]; omega
        · obtain rfl : q = 64 := by omega
          have HrB : Hid (Row wr W.heap.size 91 (u8s ((List.replicate 56 0) ++ be8 m))) := by
            have := HX.out
            rw [show (be8 m).take (64 - 56) = be8 m from List.take_of_length_le (by rw [be8_length]; omega), fill_full _ _ _ (by rw [u8s_length, List.length_append, be8_length]; omega)] at hrB
            exact hrB
          have HLn : Hid ((u8s ((List.replicate 56 0) ++ be8 m)).length = 64) := by
            show _ = _
            have := HX.out
            rw [u8s_length, List.length_append, be8_length]; omega
          have HYl := hY ([] ++ [x1]) ((List.replicate 56 0) ++ be8 m) wr hJp ⟨by have := HLn.out; rwa [u8s_length] at this, fun z hz => by
            rcases List.mem_append.1 hz with h | h
            · exact HOk.out z h
            · exact be8_lt m z h⟩ (by simp)
          obtain ⟨fn, tmps, assign, body, hy, hR⟩ := HYl
          clear hrB hJp
          generalize u8s ((List.replicate 56 0) ++ be8 m) = V at *
          gi_wp2_with ((with_reducible show wpListIn _ _ _ _ _ (Oper.mk _ (Op.load 91 (.tmp 4)) _ _ _ _ :: _) _ _); refine wpListIn_load_Row rfl 91 (.tmp 4) rfl rfl HrB.out Tryd.underlying91 (by rw [HLn.out]; exact size91') ?_; simp only [Act.put, List.setIfInBounds_toArray, List.set_cons_zero, List.set_cons_succ])
          refine hR.mono ?_
          rintro e W3 (⟨rfl, hJ3, hk3⟩ | ⟨rfl, hJx3, hk3⟩)
          · gi_wp2
            go_end0
            exact ⟨⟨_, rfl⟩, .inl ⟨_, HEq.out, hJ3⟩⟩
          · gi_wp2
            go_end0
            exact ⟨⟨_, rfl⟩, .inr ⟨_, ⟨[], by rw [List.append_nil]; exact HEq.out⟩, hJx3⟩⟩
    · gi_wp2
      refine bodyPost_ret (results_none rfl _ _ _) rfl ?_
      exact ⟨⟨_, rfl⟩, .inr ⟨_, ⟨[List.replicate 56 0 ++ be8 m], by rw [HL1.out]; rfl⟩, hJx3⟩⟩

set_option maxHeartbeats 1000000 in
/-- sha.lastBlocks: both arguments are boxed; the function value captures the boxes. -/
theorem last_in (n : Nat) (v : Value) (N : Nat) (w : World) (hv : v.oneCell' = true) :
    CallsIn Fence.wide n Tryd.prog 43 #[v, .int .u64 N] w fun e w' =>
      e = .returned (.func (.func 53) #[] #[.pointer (some ⟨w.heap.size, 0, none⟩), .pointer (some ⟨w.heap.size + 1, 0, none⟩)]) ∧ w' = (w.alloc (.cells #[v] 22)).alloc (.cells #[.int .u64 N] 104) := by
  refine callsIn_of_wp Tryd.func43 rfl trivial ?_ rfl
  simp only [Tryd.ntmps43, List.size_toArray, List.length_cons, List.length_nil, Nat.reduceAdd, Nat.reduceSub, Array.replicate_succ, Array.replicate_zero, List.push_toArray, List.append_toArray, List.nil_append, List.cons_append]
  gi_wp2
  go_ret
  exact ⟨rfl, rfl⟩
end Go.Proofs.YtkpjbleogjmbjaaDoor.Sh
