/-
  The links that a key gives for some bytes, on plain numbers; what mac.chain tells: the links, one behind the other; it may be left behind each.
-/
import Derived.Test.YtokjbldelpiejaaDoorMac2
namespace Go.Proofs.YtokjbldelpiejaaDoor
open Go.RowKit Go.Shelf
attribute [local go_sem] Oper.semAt_some

/-- Link i; there is none ahead of the first. -/
def linkN (ks info : List Nat) : Nat → List Nat
  | 0 => []
  | i + 1 => macN ks (linkN ks info i ++ info ++ [(i + 1) % 256])
def linksL (ks info : List Nat) (k : Nat) : List (List Nat) := (List.range k).map fun i => linkN ks info (i + 1)
theorem linksL_succ (ks info : List Nat) (k : Nat) : linksL ks info k ++ [linkN ks info (k + 1)] = linksL ks info (k + 1) := by simp [linksL, List.range_succ]
@[simp] theorem linksL_length (ks info : List Nat) (k : Nat) : (linksL ks info k).length = k := by simp [linksL]
theorem linkN_length (ks info : List Nat) (i : Nat) : (linkN ks info (i + 1)).length = 32 := macN_length _ _
theorem linkN_le (ks info : List Nat) : ∀ i, (linkN ks info i).length ≤ 32
  | 0 => by simp [linkN]
  | i + 1 => by rw [linkN_length]; omega
theorem linkN_lt (ks info : List Nat) : ∀ i, ∀ z ∈ linkN ks info i, z < 256
  | 0 => by simp [linkN]
  | _ + 1 => macN_lt _ _
theorem linksL_prefix (ks info : List Nat) {k m : Nat} (h : k ≤ m) : ∃ r, linksL ks info k ++ r = linksL ks info m := by
  refine ⟨(List.range' k (m - k)).map fun i => linkN ks info (i + 1), ?_⟩
  unfold linksL
  rw [← List.map_append]
  congr 1
  rw [List.range_eq_range', List.range_eq_range']
  have e := List.range'_append (s := 0) (m := k) (n := m - k) (step := 1)
  rw [Nat.zero_add, Nat.one_mul, Nat.add_sub_cancel' h] at e
  exact e

/-- What is handed over. -/
def LinkOk (x : List Nat) : Prop := x.length = 32 ∧ ∀ z ∈ x, z < 256

theorem Tab.kept {M : Nat → Prop} {A B : World} (h : ∀ (k : Nat) (c : Array Value) (t : TypeId) (fr : Nat × Nat), ¬ M k → A.heap[k]? = some (Obj.cells c t fr) → B.heap[k]? = some (Obj.cells c t fr)) (h0 : ¬ M 0) (hT : Tab A) : Tab B := fun i hi => by
  obtain ⟨c, t, fr, hh, hci⟩ := cells_of_cell (hT i hi)
  rw [cell_of_row B 0 i c t fr (h 0 c t fr h0 hh)]
  exact hci

theorem size46 : (Tryd.prog.info? 46).map (·.size) = some 32 := by kernel_rfl

/-- What lies ahead of a link. -/
def Ahead (n₀ : Nat) (W : World) (v : Value) (x : List Nat) : Prop := (v = .slice none 0 0 ∧ x = []) ∨ ∃ g, v = .slice (some ⟨g, 0, none⟩) 32 32 ∧ n₀ ≤ g ∧ Row W g 25 (u8s x) ∧ LinkOk x
theorem Ahead.bytes {n₀ : Nat} {W : World} {v : Value} {x : List Nat} (h : Ahead n₀ W v x) : ∃ q l c, v = .slice q l c ∧ l ≤ 32 ∧ IsBytes W.heap.size W q l c x := by
  rcases h with ⟨rfl, rfl⟩ | ⟨g, rfl, _, hr, hl, hz⟩
  · exact ⟨none, 0, 0, rfl, by omega, rfl, by omega, by omega, by simp, .inl rfl⟩
  · exact ⟨_, 32, 32, rfl, by omega, hl, by omega, by omega, hz, .inr ⟨g, 0, rfl, hr.lt, fun i hi => by rw [Nat.zero_add]; exact hr.cell (u8s_at (by omega))⟩⟩

/-- The three parts of a link. -/
theorem parts_lists {V : World} {g1 g2 : Nat} {q1 q2 : Option Addr} {l1 c1 l2 c2 y : Nat} {a b : List Nat} (r1 : Row V g1 5 [.int .u8 (y : Nat)]) (r2 : Row V g2 22 [.slice q1 l1 c1, .slice q2 l2 c2, .slice (some ⟨g1, 0, none⟩) 1 1]) (h1 : IsBytes V.heap.size V q1 l1 c1 a) (h2 : IsBytes V.heap.size V q2 l2 c2 b) (hy : y < 256) :
    IsLists V.heap.size V (some ⟨g2, 0, none⟩) 3 3 [a, b, [y]] := by
  refine ⟨rfl, by omega, .inr ⟨g2, 0, rfl, r2.lt, fun i hi => ?_⟩⟩
  rcases i with _ | _ | _ | i
  · exact ⟨q1, l1, c1, r2.cell rfl, h1⟩
  · exact ⟨q2, l2, c2, r2.cell rfl, h2⟩
  · refine ⟨_, 1, 1, r2.cell rfl, rfl, by omega, by omega, by simpa using hy, .inr ⟨g1, 0, rfl, r1.lt, fun j hj => ?_⟩⟩
    obtain rfl : j = 0 := by omega
    exact r1.cell rfl
  · omega

/-- A region that draws its order, cut off: what it leaves is R. -/
theorem wpIn_region_cut {P : Program} {ops : Array Oper} {a : Act} {w : World} {Q : Exit → Act → World → Prop} {S : World → Prop} {m id : Nat} (R : Act → World → Prop) (hm : P.follows .mixedOrders = true) (hd : noDefer ops = true) (hS : S w.drew)
    (h : S w.drew → wpAnyH P .any ops (OnOnly fun _ a w => R a w) S ops.size (Array.replicate ops.size false) a w.drew) (hR : ∀ a' w', R a' w' → Q .normal a' w') : (Code.region id ops true).wpIn Fence.wide m P Q a w :=
  wpIn_mono (wpIn_region_held_wide hm hd OnOnly.not_out hS h) (fun e a' w' h' => by cases e <;> first | exact hR _ _ h' | exact (h' : False).elim)

set_option maxRecDepth 100000 in
set_option maxHeartbeats 2000000 in
theorem chain1_iter (n : Nat) (hn : 2 ≤ n) (l Bk Bi : Nat) (ks info : List Nat) (hkl : ks.length = 32) (hkz : ∀ z ∈ ks, z < 256) (p : Option Addr) (len cap : Nat) (hlen : len ≤ 20000) (W : World) (hT : Tab W) (hI : IsBytes W.heap.size W p len cap info)
    (hk : Row W Bk 46 (u8s ks)) (hi : Row W Bi 22 [.slice p len cap])
    (M : Nat → Prop) (Kp : World → World → Prop) (hK1 : ∀ A B, Kp A B → ∀ (k : Nat) (c : Array Value) (t : TypeId) (fr : Nat × Nat), ¬ M k → A.heap[k]? = some (Obj.cells c t fr) → B.heap[k]? = some (Obj.cells c t fr)) (hK2 : ∀ A B, Kp A B → A.heap.size ≤ B.heap.size)
    (hM : ∀ k, W.heap.size ≤ k → ¬ M k) (hM0 : ¬ M 0) (hMk : ¬ M Bk) (hMi : ¬ M Bi) (hMp : len = 0 ∨ ∀ a, p = some a → ¬ M a.block) :
    IterLow Fence.wide n Tryd.prog 45 #[.pointer (some ⟨Bk, 0, none⟩), .pointer (some ⟨Bi, 0, none⟩)] (fun x : List Nat => #[.agg (u8s x).toArray]) (fun x _ => LinkOk x) Kp (fun xs => xs = linksL ks info 255) (fun pre => ∃ r, pre ++ r = linksL ks info 255) 255 l W := by
  intro J Jx hJ hJx hY h0
  have h1 : 1 ≤ n := by omega
  have hfn : ∀ f, Fence.wide.fn f := fun _ => trivial
  have HKl : Hid (ks.length = 32) := hkl
  have HKz : Hid (∀ z ∈ ks, z < 256) := hkz
  refine callsIn_of_wp Tryd.func45 rfl trivial ?_ rfl
  simp only [Tryd.ntmps45, List.size_toArray, List.length_cons, List.length_nil, Nat.reduceAdd, Nat.reduceSub, Array.replicate_succ, Array.replicate_zero, List.push_toArray, List.append_toArray, List.nil_append, List.cons_append]
  gi_wp2
  gi_loopw [4, 5] (fun v i wr => ∃ j : Nat, j ≤ 255 ∧ i = .int .i64 ((j : Int) + 1) ∧ Ahead W.heap.size wr v (linkN ks info j) ∧ Row wr Bk 46 (u8s ks) ∧ Row wr Bi 22 [.slice p len cap] ∧ IsBytes W.heap.size wr p len cap info ∧ Tab wr ∧ J (linksL ks info j) wr ∧ W.heap.size ≤ wr.heap.size)
    (fun _ i _ => 256 - (intOf i).toNat)
  case atStart => exact ⟨0, by omega, rfl, .inl ⟨rfl, rfl⟩, hk, hi, hI, hT, h0, Nat.le_refl _⟩
  case round =>
    clear hk hi hI hT h0 hkl hkz
    obtain ⟨j, hj, rfl, hah, hrk, hri, hI, hT, hJj, hsz⟩ := hrel
    by_cases hlt : j < 255
    · have hji : (j : Int) + 1 ≤ 255 := by omega
      obtain ⟨qa, la, ca, rfl, hla, hIa⟩ := hah.bytes
      have ci := hri.cell (i := 0) rfl
      have ey : IntKind.u8.wrap ((j : Int) + 1) = (j : Int) + 1 := by rw [IntKind.wrap_u8]; omega
      have HIn : Hid (IsBytes W.heap.size wr p len cap info) := hI
      have HM : Hid (∀ V g1 g2, Below wr.heap.size wr V → Row V g1 5 [.int .u8 ((j : Int) + 1)] → Row V g2 22 [.slice qa la ca, .slice p len cap, .slice (some ⟨g1, 0, none⟩) 1 1] → Calls Tryd.prog 19 #[.slice (some ⟨Bk, 0, none⟩) 32 32, .slice (some ⟨g2, 0, none⟩) 3 3] V fun e w' => e = .returned (.agg (u8s (linkN ks info (j + 1))).toArray) ∧ Below V.heap.size V w') := fun V g1 g2 hb r1 r2 => by
        have h := macSum_any (some ⟨Bk, 0, none⟩) 32 32 ks (by omega) (some ⟨g2, 0, none⟩) 3 3 (by omega) [linkN ks info j, info, [j + 1]] (by
          have h1 := linkN_le ks info j
          have h2 := HIn.out.1
          simp; omega) V (hT.later hb) ?_ (parts_lists (y := j + 1) r1 r2 (hIa.later hb) ((hI.mono hsz).later hb) (by omega))
        · rw [linkN, show (j + 1) % 256 = j + 1 by omega]
          have e3 : ([linkN ks info j, info, [j + 1]] : List (List Nat)).flatten = linkN ks info j ++ info ++ [j + 1] := by simp
          rw [e3] at h
          exact h
        · refine ⟨HKl.out, by omega, by omega, HKz.out, .inr ⟨Bk, 0, rfl, (hrk.later hb).lt, fun i hi => ?_⟩⟩
          rw [Nat.zero_add]
          exact (hrk.later hb).cell (u8s_at (by rw [HKl.out]; exact hi))
      have HX : Hid (LinkOk (linkN ks info (j + 1))) := ⟨linkN_length ks info j, linkN_lt ks info (j + 1)⟩
      have HLs : Hid (linksL ks info j ++ [linkN ks info (j + 1)] = linksL ks info (j + 1)) := linksL_succ ks info j
      have HLVl : Hid ((u8s (linkN ks info (j + 1))).length = 32) := by show _ = _; rw [u8s_length]; exact HX.out.1
      have HLV1 : Hid (∀ v ∈ u8s (linkN ks info (j + 1)), v.oneCell' = true) := u8s_one _
      have hB0 : Row wr.drew Bi 22 [.slice p len cap] := hri.drew
      have bW0 : Below wr.heap.size wr wr.drew := (Below.refl _ wr).drew
      have HJj : Hid (J (linksL ks info j) wr) := hJj
      have Hrk : Hid (Row wr Bk 46 (u8s ks)) := hrk
      have Hri : Hid (Row wr Bi 22 [.slice p len cap]) := hri
      have HTr : Hid (Tab wr) := hT
      have hiB := hri.lt
      clear hah hIa hrk hri hI hT hJj
      generalize hLV : u8s (linkN ks info (j + 1)) = LV at *
      have HLV : Hid (u8s (linkN ks info (j + 1)) = LV) := hLV
      clear hLV
      generalize hXe : linkN ks info (j + 1) = X at *
      have HXe : Hid (linkN ks info (j + 1) = X) := hXe
      clear hXe
      gi_wp2
      refine wpIn_region_cut (fun a' V => ∃ (gL : Nat) (v16 v17 : Value) (u : Value), a' = { tmps := #[.func (.yield l) #[] #[], .pointer (some ⟨Bk, 0, none⟩), .pointer (some ⟨Bi, 0, none⟩), undef, .slice qa la ca, .int .i64 ((j : Int) + 1), .pointer (some ⟨gL, 0, none⟩), .int .i64 ((j : Int) + 1), .bool true, u9, u10, .slice (some ⟨Bk, 0, none⟩) 32 32, .slice qa la ca, .slice p len cap, .int .i64 ((j : Int) + 1), u, v16, v17, .agg LV.toArray, u19, u20, u21, u22, u23], defers := [] } ∧ wr.heap.size ≤ gL ∧ Row V gL 25 LV ∧ Below wr.heap.size wr V) (S := fun W' => Row W' Bi 22 [.slice p len cap]) (by kernel_rfl) (by kernel_rfl) hB0 (fun hHeld => ?_) ?_
      · obtain ⟨V0, hV0⟩ : ∃ V0, V0 = wr.drew := ⟨_, rfl⟩
        rw [← hV0] at hHeld hB0 bW0 ⊢
        clear hV0
        refine wpAnyH_takesAt 0 5 5 (of_decide_eq_true (by kernel_rfl)) rfl (fun _ _ _ _ _ h => h) (by kernel_rfl) (by kernel_rfl) hHeld ?_
        simp only [List.drop_zero, List.take_succ_cons, List.take_zero]
        iterate 5 (refine wpHeld_step (v := ?_) (by rfl) (fun wz hSw => ?_) ?_; rotate_left; (focus ((try dsimp only at hSw); have hci := Row.cell hSw (i := 0) rfl; go_simp; try with_reducible rfl)); (simp only [Act.put, List.setIfInBounds_toArray, List.set_cons_zero, List.set_cons_succ]))
        refine wpHeld_nil ?_
        refine wpAnyH_either (i := 5) (j := 8) (by kernel_rfl) rfl rfl (fun K hK => ?_) (fun K hK => ?_)
        · rw [if_pos (by rfl)]
          go_simp
          refine hK.out _ _ (Row.alloc hB0 _) ?_
          clear hK K
          obtain ⟨V1, hV1⟩ : ∃ V, V = V0.alloc (.cells #[.int .u8 ((j : Int) + 1)] 5) := ⟨_, rfl⟩
          obtain ⟨g1, hg1⟩ : ∃ g, g = V0.heap.size := ⟨_, rfl⟩
          rw [← hV1, ← hg1]
          have hB1 : Row V1 Bi 22 [.slice p len cap] := by rw [hV1]; exact Row.alloc hB0 _
          have bW1 : Below wr.heap.size wr V1 := by rw [hV1]; exact bW0.alloc bW0.size _
          have rY1 : Row V1 g1 5 [.int .u8 ((j : Int) + 1)] := by rw [hV1, hg1]; exact Row.new V0 5 _
          clear hV1 hg1
          refine wpAnyH_either (i := 6) (j := 8) (by kernel_rfl) rfl rfl (fun K hK => ?_) (fun K hK => ?_)
          · rw [if_pos (by rfl)]
            go_simp
            refine hK.out _ _ (Row.alloc hB1 _) ?_
            clear hK K
            obtain ⟨V2, hV2⟩ : ∃ V, V = V1.alloc (.cells #[.slice qa la ca, .slice p len cap, .slice (some ⟨g1, 0, none⟩) 1 1] 22) := ⟨_, rfl⟩
            obtain ⟨g2, hg2⟩ : ∃ g, g = V1.heap.size := ⟨_, rfl⟩
            rw [← hV2, ← hg2]
            have hB2 : Row V2 Bi 22 [.slice p len cap] := by rw [hV2]; exact Row.alloc hB1 _
            have bW2 : Below wr.heap.size wr V2 := by rw [hV2]; exact bW1.alloc bW1.size _
            have rY2 : Row V2 g1 5 [.int .u8 ((j : Int) + 1)] := by rw [hV2]; exact Row.alloc rY1 _
            have rP2 : Row V2 g2 22 [.slice qa la ca, .slice p len cap, .slice (some ⟨g1, 0, none⟩) 1 1] := by rw [hV2, hg2]; exact Row.new V1 22 _
            clear hV2 hg2
            refine wpAnyH_either (i := 7) (j := 8) (by kernel_rfl) rfl rfl (fun K hK => ?_) (fun K hK => ?_)
            · rw [if_pos (by rfl)]
              go_simp
              refine (HM.out V2 g1 g2 bW2 rY2 rP2).mono ?_
              rintro e V3 ⟨rfl, hc3⟩
              refine hK.out _ _ (Row.later hB2 hc3) ?_
              clear hK K
              have hB3 := Row.later hB2 hc3
              have bW3 : Below wr.heap.size wr V3 := bW2.trans (hc3.mono bW2.size)
              refine wpAnyH_only (i := 8) (by kernel_rfl) rfl (fun K hK => ?_)
              rw [if_pos (by rfl)]
              go_simp
              refine hK.out _ _ (Row.alloc hB3 _) ?_
              clear hK K
              rw [z32u8]
              obtain ⟨V4, hV4⟩ : ∃ V, V = V3.alloc (.cells (List.replicate 32 (Value.int .u8 0)).toArray 25) := ⟨_, rfl⟩
              obtain ⟨gL, hgL⟩ : ∃ g, g = V3.heap.size := ⟨_, rfl⟩
              rw [← hV4, ← hgL]
              have hB4 : Row V4 Bi 22 [.slice p len cap] := by rw [hV4]; exact Row.alloc hB3 _
              have bW4 : Below wr.heap.size wr V4 := by rw [hV4]; exact bW3.alloc bW3.size _
              have rL4 : Row V4 gL 25 (List.replicate 32 (.int .u8 0)) := by rw [hV4, hgL]; exact Row.new' V3 25 _
              have lL : wr.heap.size ≤ gL := by rw [hgL]; exact bW3.size
              clear hV4 hgL
              refine wpAnyH_only (i := 9) (by kernel_rfl) rfl (fun K hK => ?_)
              rw [if_pos (by rfl)]
              refine wp_store_mid 25 (.tmp 6) (.tmp 18) rfl gL 0 LV.toArray rfl rfl (by simpa [HLVl.out] using rL4.there) (by simpa [HLVl.out] using size25) (all_oneCell_toArray HLV1.out) ?_
              simp only [Act.put]
              refine hK.out _ _ (Row.others (by omega) LV 0 hB4) ?_
              clear hK K
              refine wpAnyH_done (by kernel_rfl) ?_ _
              refine OnOnly.on ?_
              exact ⟨gL, _, _, _, rfl, lL, rL4.sets_all (by rw [HLVl.out]; rfl), below_setCells lL LV 0 bW4⟩
            · rw [if_pos (by rfl)]
              go_simp
              refine hK.out _ _ (Row.alloc hB2 _) ?_
              clear hK K
              rw [z32u8]
              obtain ⟨V3, hV3⟩ : ∃ V, V = V2.alloc (.cells (List.replicate 32 (Value.int .u8 0)).toArray 25) := ⟨_, rfl⟩
              obtain ⟨gL, hgL⟩ : ∃ g, g = V2.heap.size := ⟨_, rfl⟩
              rw [← hV3, ← hgL]
              have hB3 : Row V3 Bi 22 [.slice p len cap] := by rw [hV3]; exact Row.alloc hB2 _
              have bW3 : Below wr.heap.size wr V3 := by rw [hV3]; exact bW2.alloc bW2.size _
              have rY3 : Row V3 g1 5 [.int .u8 ((j : Int) + 1)] := by rw [hV3]; exact Row.alloc rY2 _
              have rP3 : Row V3 g2 22 [.slice qa la ca, .slice p len cap, .slice (some ⟨g1, 0, none⟩) 1 1] := by rw [hV3]; exact Row.alloc rP2 _
              have rL3 : Row V3 gL 25 (List.replicate 32 (.int .u8 0)) := by rw [hV3, hgL]; exact Row.new' V2 25 _
              have lL : wr.heap.size ≤ gL := by rw [hgL]; exact bW2.size
              clear hV3 hgL
              refine wpAnyH_only (i := 7) (by kernel_rfl) rfl (fun K hK => ?_)
              rw [if_pos (by rfl)]
              go_simp
              refine (HM.out V3 g1 g2 bW3 rY3 rP3).mono ?_
              rintro e V4 ⟨rfl, hc4⟩
              refine hK.out _ _ (Row.later hB3 hc4) ?_
              clear hK K
              have hB4 := Row.later hB3 hc4
              have bW4 : Below wr.heap.size wr V4 := bW3.trans (hc4.mono bW3.size)
              have rL4 := Row.later rL3 hc4
              refine wpAnyH_only (i := 9) (by kernel_rfl) rfl (fun K hK => ?_)
              rw [if_pos (by rfl)]
              refine wp_store_mid 25 (.tmp 6) (.tmp 18) rfl gL 0 LV.toArray rfl rfl (by simpa [HLVl.out] using rL4.there) (by simpa [HLVl.out] using size25) (all_oneCell_toArray HLV1.out) ?_
              simp only [Act.put]
              refine hK.out _ _ (Row.others (by omega) LV 0 hB4) ?_
              clear hK K
              refine wpAnyH_done (by kernel_rfl) ?_ _
              refine OnOnly.on ?_
              exact ⟨gL, _, _, _, rfl, lL, rL4.sets_all (by rw [HLVl.out]; rfl), below_setCells lL LV 0 bW4⟩
          · rw [if_pos (by rfl)]
            go_simp
            refine hK.out _ _ (Row.alloc hB1 _) ?_
            clear hK K
            rw [z32u8]
            obtain ⟨V2, hV2⟩ : ∃ V, V = V1.alloc (.cells (List.replicate 32 (Value.int .u8 0)).toArray 25) := ⟨_, rfl⟩
            obtain ⟨gL, hgL⟩ : ∃ g, g = V1.heap.size := ⟨_, rfl⟩
            rw [← hV2, ← hgL]
            have hB2 : Row V2 Bi 22 [.slice p len cap] := by rw [hV2]; exact Row.alloc hB1 _
            have bW2 : Below wr.heap.size wr V2 := by rw [hV2]; exact bW1.alloc bW1.size _
            have rY2 : Row V2 g1 5 [.int .u8 ((j : Int) + 1)] := by rw [hV2]; exact Row.alloc rY1 _
            have rL2 : Row V2 gL 25 (List.replicate 32 (.int .u8 0)) := by rw [hV2, hgL]; exact Row.new' V1 25 _
            have lL : wr.heap.size ≤ gL := by rw [hgL]; exact bW1.size
            clear hV2 hgL
            refine wpAnyH_only (i := 6) (by kernel_rfl) rfl (fun K hK => ?_)
            rw [if_pos (by rfl)]
            go_simp
            refine hK.out _ _ (Row.alloc hB2 _) ?_
            clear hK K
            obtain ⟨V3, hV3⟩ : ∃ V, V = V2.alloc (.cells #[.slice qa la ca, .slice p len cap, .slice (some ⟨g1, 0, none⟩) 1 1] 22) := ⟨_, rfl⟩
            obtain ⟨g2, hg2⟩ : ∃ g, g = V2.heap.size := ⟨_, rfl⟩
            rw [← hV3, ← hg2]
            have hB3 : Row V3 Bi 22 [.slice p len cap] := by rw [hV3]; exact Row.alloc hB2 _
            have bW3 : Below wr.heap.size wr V3 := by rw [hV3]; exact bW2.alloc bW2.size _
            have rY3 : Row V3 g1 5 [.int .u8 ((j : Int) + 1)] := by rw [hV3]; exact Row.alloc rY2 _
            have rL3 : Row V3 gL 25 (List.replicate 32 (.int .u8 0)) := by rw [hV3]; exact Row.alloc rL2 _
            have rP3 : Row V3 g2 22 [.slice qa la ca, .slice p len cap, .slice (some ⟨g1, 0, none⟩) 1 1] := by rw [hV3, hg2]; exact Row.new V2 22 _
            clear hV3 hg2
            refine wpAnyH_only (i := 7) (by kernel_rfl) rfl (fun K hK => ?_)
            rw [if_pos (by rfl)]
            go_simp
            refine (HM.out V3 g1 g2 bW3 rY3 rP3).mono ?_
            rintro e V4 ⟨rfl, hc4⟩
            refine hK.out _ _ (Row.later hB3 hc4) ?_
            clear hK K
            have hB4 := Row.later hB3 hc4
            have bW4 : Below wr.heap.size wr V4 := bW3.trans (hc4.mono bW3.size)
            have rL4 := Row.later rL3 hc4
            refine wpAnyH_only (i := 9) (by kernel_rfl) rfl (fun K hK => ?_)
            rw [if_pos (by rfl)]
            refine wp_store_mid 25 (.tmp 6) (.tmp 18) rfl gL 0 LV.toArray rfl rfl (by simpa [HLVl.out] using rL4.there) (by simpa [HLVl.out] using size25) (all_oneCell_toArray HLV1.out) ?_
            simp only [Act.put]
            refine hK.out _ _ (Row.others (by omega) LV 0 hB4) ?_
            clear hK K
            refine wpAnyH_done (by kernel_rfl) ?_ _
            refine OnOnly.on ?_
            exact ⟨gL, _, _, _, rfl, lL, rL4.sets_all (by rw [HLVl.out]; rfl), below_setCells lL LV 0 bW4⟩
        · rw [if_pos (by rfl)]
          go_simp
          refine hK.out _ _ (Row.alloc hB0 _) ?_
          clear hK K
          rw [z32u8]
          obtain ⟨V1, hV1⟩ : ∃ V, V = V0.alloc (.cells (List.replicate 32 (Value.int .u8 0)).toArray 25) := ⟨_, rfl⟩
          obtain ⟨gL, hgL⟩ : ∃ g, g = V0.heap.size := ⟨_, rfl⟩
          rw [← hV1, ← hgL]
          have hB1 : Row V1 Bi 22 [.slice p len cap] := by rw [hV1]; exact Row.alloc hB0 _
          have bW1 : Below wr.heap.size wr V1 := by rw [hV1]; exact bW0.alloc bW0.size _
          have rL1 : Row V1 gL 25 (List.replicate 32 (.int .u8 0)) := by rw [hV1, hgL]; exact Row.new' V0 25 _
          have lL : wr.heap.size ≤ gL := by rw [hgL]; exact bW0.size
          clear hV1 hgL
          refine wpAnyH_only (i := 5) (by kernel_rfl) rfl (fun K hK => ?_)
          rw [if_pos (by rfl)]
          go_simp
          refine hK.out _ _ (Row.alloc hB1 _) ?_
          clear hK K
          obtain ⟨V2, hV2⟩ : ∃ V, V = V1.alloc (.cells #[.int .u8 ((j : Int) + 1)] 5) := ⟨_, rfl⟩
          obtain ⟨g1, hg1⟩ : ∃ g, g = V1.heap.size := ⟨_, rfl⟩
          rw [← hV2, ← hg1]
          have hB2 : Row V2 Bi 22 [.slice p len cap] := by rw [hV2]; exact Row.alloc hB1 _
          have bW2 : Below wr.heap.size wr V2 := by rw [hV2]; exact bW1.alloc bW1.size _
          have rL2 : Row V2 gL 25 (List.replicate 32 (.int .u8 0)) := by rw [hV2]; exact Row.alloc rL1 _
          have rY2 : Row V2 g1 5 [.int .u8 ((j : Int) + 1)] := by rw [hV2, hg1]; exact Row.new V1 5 _
          clear hV2 hg1
          refine wpAnyH_only (i := 6) (by kernel_rfl) rfl (fun K hK => ?_)
          rw [if_pos (by rfl)]
          go_simp
          refine hK.out _ _ (Row.alloc hB2 _) ?_
          clear hK K
          obtain ⟨V3, hV3⟩ : ∃ V, V = V2.alloc (.cells #[.slice qa la ca, .slice p len cap, .slice (some ⟨g1, 0, none⟩) 1 1] 22) := ⟨_, rfl⟩
          obtain ⟨g2, hg2⟩ : ∃ g, g = V2.heap.size := ⟨_, rfl⟩
          rw [← hV3, ← hg2]
          have hB3 : Row V3 Bi 22 [.slice p len cap] := by rw [hV3]; exact Row.alloc hB2 _
          have bW3 : Below wr.heap.size wr V3 := by rw [hV3]; exact bW2.alloc bW2.size _
          have rY3 : Row V3 g1 5 [.int .u8 ((j : Int) + 1)] := by rw [hV3]; exact Row.alloc rY2 _
          have rL3 : Row V3 gL 25 (List.replicate 32 (.int .u8 0)) := by rw [hV3]; exact Row.alloc rL2 _
          have rP3 : Row V3 g2 22 [.slice qa la ca, .slice p len cap, .slice (some ⟨g1, 0, none⟩) 1 1] := by rw [hV3, hg2]; exact Row.new V2 22 _
          clear hV3 hg2
          refine wpAnyH_only (i := 7) (by kernel_rfl) rfl (fun K hK => ?_)
          rw [if_pos (by rfl)]
          go_simp
          refine (HM.out V3 g1 g2 bW3 rY3 rP3).mono ?_
          rintro e V4 ⟨rfl, hc4⟩
          refine hK.out _ _ (Row.later hB3 hc4) ?_
          clear hK K
          have hB4 := Row.later hB3 hc4
          have bW4 : Below wr.heap.size wr V4 := bW3.trans (hc4.mono bW3.size)
          have rL4 := Row.later rL3 hc4
          refine wpAnyH_only (i := 9) (by kernel_rfl) rfl (fun K hK => ?_)
          rw [if_pos (by rfl)]
          refine wp_store_mid 25 (.tmp 6) (.tmp 18) rfl gL 0 LV.toArray rfl rfl (by simpa [HLVl.out] using rL4.there) (by simpa [HLVl.out] using size25) (all_oneCell_toArray HLV1.out) ?_
          simp only [Act.put]
          refine hK.out _ _ (Row.others (by omega) LV 0 hB4) ?_
          clear hK K
          refine wpAnyH_done (by kernel_rfl) ?_ _
          refine OnOnly.on ?_
          exact ⟨gL, _, _, _, rfl, lL, rL4.sets_all (by rw [HLVl.out]; rfl), below_setCells lL LV 0 bW4⟩
      · rintro a' V ⟨gL, v16, v17, u, rfl, hgL, hrL, hbV⟩
        have HrL : Hid (Row V gL 25 LV) := hrL
        have HYl := hY (linksL ks info j) X V (hJ _ _ _ HJj.out (hbV.mono hsz)) HX.out (by simp; omega)
        rw [HLs.out] at HYl
        have HrkV : Hid (Row V Bk 46 (u8s ks)) := Hrk.out.later hbV
        have HriV : Hid (Row V Bi 22 [.slice p len cap]) := Hri.out.later hbV
        have HTV : Hid (Tab V) := HTr.out.later hbV
        have HIV : Hid (IsBytes W.heap.size V p len cap info) := HIn.out.below (hbV.mono hsz)
        have hsV : wr.heap.size ≤ V.heap.size := hbV.size
        obtain ⟨fn, tmps, assign, body, hy, hR⟩ := HYl
        rw [HLV.out] at hy
        clear hrL hbV bW0 hB0
        gi_wp2_with ((with_reducible show wpListIn _ _ _ _ _ (Oper.mk _ (Op.load 25 (.tmp 6)) _ _ _ _ :: _) _ _); refine wpListIn_load_Row rfl 25 (.tmp 6) rfl rfl HrL.out Tryd.underlying25 (by rw [HLVl.out]; exact size25) ?_; simp only [Act.put, List.setIfInBounds_toArray, List.set_cons_zero, List.set_cons_succ])
        refine hR.mono ?_
        rintro e W3 (⟨rfl, hJ3, hk3⟩ | ⟨rfl, hJx3, hk3⟩)
        · have kL : Hid (Row W3 gL 25 LV) := hK1 _ _ hk3 _ _ _ _ (hM _ (by omega)) HrL.out
          have kk : Hid (Row W3 Bk 46 (u8s ks)) := hK1 _ _ hk3 _ _ _ _ hMk HrkV.out
          have ki : Hid (Row W3 Bi 22 [.slice p len cap]) := hK1 _ _ hk3 _ _ _ _ hMi HriV.out
          have kT : Hid (Tab W3) := Tab.kept (hK1 _ _ hk3) hM0 HTV.out
          have kI : Hid (IsBytes W.heap.size W3 p len cap info) := IsBytes.kept (hK1 _ _ hk3) hMp HIV.out
          have kS : Hid (W.heap.size ≤ W3.heap.size) := by have := hK2 _ _ hk3; show _ ≤ _; omega
          have KJ : Hid (J (linksL ks info (j + 1)) W3) := hJ3
          have HGL : Hid (W.heap.size ≤ gL) := by show _ ≤ _; omega
          clear hJ3
          gi_wp2
          go_roundw
          case rel => exact ⟨j + 1, by omega, by go_num, .inr ⟨gL, rfl, HGL.out, by rw [HXe.out, HLV.out]; exact kL.out, by rw [HXe.out]; exact HX.out⟩, kk.out, ki.out, kI.out, kT.out, KJ.out, kS.out⟩
          case measure => simp [intOf]; omega
        · have KJ : Hid (Jx (linksL ks info (j + 1)) W3) := hJx3
          clear hJx3
          gi_wp2
          refine bodyPost_ret (results_none rfl _ _ _) rfl ?_
          exact ⟨⟨_, rfl⟩, .inr ⟨_, linksL_prefix ks info (by omega), KJ.out⟩⟩
    · obtain rfl : j = 255 := by omega
      clear hah hrk hri hI hT
      gi_wp2
      go_end0
      exact ⟨⟨_, rfl⟩, .inl ⟨_, rfl, hJj⟩⟩

set_option maxHeartbeats 1000000 in
/-- mac.chain: both arguments are boxed; the function value captures the boxes. -/
theorem chain_in (n : Nat) (KV : List Value) (hK : KV.length = 32) (p : Option Addr) (len cap : Nat) (w : World) :
    CallsIn Fence.wide n Tryd.prog 37 #[.agg KV.toArray, .slice p len cap] w fun e w' =>
      e = .returned (.func (.func 45) #[] #[.pointer (some ⟨w.heap.size, 0, none⟩), .pointer (some ⟨w.heap.size + 1, 0, none⟩)]) ∧ w' = (w.alloc (.cells KV.toArray 46)).alloc (.cells #[.slice p len cap] 22) := by
  have HK : Hid (KV.length = 32) := hK
  clear hK
  refine callsIn_of_wp Tryd.func37 rfl trivial ?_ rfl
  simp only [Tryd.ntmps37, List.size_toArray, List.length_cons, List.length_nil, Nat.reduceAdd, Nat.reduceSub, Array.replicate_succ, Array.replicate_zero, List.push_toArray, List.append_toArray, List.nil_append, List.cons_append]
  gi_wp2
  go_ret
  exact ⟨rfl, rfl⟩
end Go.Proofs.YtokjbldelpiejaaDoor
