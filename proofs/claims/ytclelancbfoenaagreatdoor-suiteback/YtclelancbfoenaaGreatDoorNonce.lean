/-
  nonceOf: the nonce of the words beside a text and the padded text.
-/
import Derived.Test.YtclelancbfoenaaGreatDoorTag
namespace Go.Proofs.YtclelancbfoenaaGreatDoor
open Go.RowKit Go.Shelf

section
variable {P : Program} {ops : Array Oper} {Q : Exit → Act → World → Prop} {S : World → Prop} {md : Region.Mode}
/-- Whatever order: operation i, j or k may come up. -/
theorem wpAnyH_three {i j k fuel : Nat} {listed : Array Bool} {oi oj ok : Oper} {a : Act} {w : World} (hr : Region.ready md ops listed = [i, j, k]) (hi : ops[i]? = some oi) (hj : ops[j]? = some oj) (hk : ops[k]? = some ok)
    (h : ∀ K' : Act → World → Prop, Hid (∀ a w, S w → wpAnyH P md ops Q S fuel (listed.setIfInBounds i true) a w → K' a w) → if Region.wanted oi (yielded ops a.tmps) = true then Oper.wp P oi a w K' Q else K' (a.put oi.dst undef) w)
    (h' : ∀ K' : Act → World → Prop, Hid (∀ a w, S w → wpAnyH P md ops Q S fuel (listed.setIfInBounds j true) a w → K' a w) → if Region.wanted oj (yielded ops a.tmps) = true then Oper.wp P oj a w K' Q else K' (a.put oj.dst undef) w)
    (h'' : ∀ K' : Act → World → Prop, Hid (∀ a w, S w → wpAnyH P md ops Q S fuel (listed.setIfInBounds k true) a w → K' a w) → if Region.wanted ok (yielded ops a.tmps) = true then Oper.wp P ok a w K' Q else K' (a.put ok.dst undef) w) :
    wpAnyH P md ops Q S (fuel + 1) listed a w :=
  wpAnyH_all hr (by simp) (fun x hx => by
    rcases List.mem_cons.1 hx with rfl | hx
    · exact wpOp_step hi (fun K' hK => h K' (fun a w hS hW => hK a w ⟨hS, hW⟩))
    · rcases List.mem_cons.1 hx with rfl | hx
      · exact wpOp_step hj (fun K' hK => h' K' (fun a w hS hW => hK a w ⟨hS, hW⟩))
      · have : x = k := by simpa using hx
        subst this
        exact wpOp_step hk (fun K' hK => h'' K' (fun a w hS hW => hK a w ⟨hS, hW⟩)))
/-- A region that draws its order, cut off. -/
theorem wp_region_cut {a : Act} {w : World} {id : Nat} (R : Act → World → Prop) (hm : P.follows .mixedOrders = true) (hS : S w.drew)
    (h : S w.drew → wpAnyH P .any ops (OnOnly fun _ a w => R a w) S ops.size (Array.replicate ops.size false) a w.drew) (hR : ∀ a' w', R a' w' → Q .normal a' w') : (Code.region id ops true).wp P Q a w :=
  Code.wp_mono (fun e a' w' h' => by cases e <;> first | exact hR _ _ h' | exact (h' : False).elim) (wp_region_held_drew hm hS h)
end

theorem IsLists.later {A B : World} (h : Below A.heap.size A B) {p : Option Addr} {len cap : Nat} {ts : List (List Nat)} (hL : IsLists A.heap.size A p len cap ts) : IsLists B.heap.size B p len cap ts := by
  obtain ⟨h1, h0, h2⟩ := IsLists.below h hL
  refine ⟨h1, h0, ?_⟩
  rcases h2 with e | ⟨b, off, e, hb, hc⟩
  · exact .inl e
  · refine .inr ⟨b, off, e, Nat.lt_of_lt_of_le hb h.size, fun i hi => ?_⟩
    obtain ⟨q, l, c, h3, h4⟩ := hc i hi
    exact ⟨q, l, c, h3, h4.mono h.size⟩

/-- No nonce. -/
def noNonce : List Value := List.replicate 12 (.int .u8 0)
/-- The nonce. -/
def nonceN (k a p : List Nat) : List Nat := (Sh.macN k (110 :: (lenB a.length ++ a ++ p))).take 12
theorem nonceN_length (k a p : List Nat) : (nonceN k a p).length = 12 := by unfold nonceN; rw [List.length_take, Sh.macN_length]; rfl
theorem nonceN_lt (k a p : List Nat) : ∀ z ∈ nonceN k a p, z < 256 := fun z hz => Sh.macN_lt _ _ z (List.mem_of_mem_take hz)
theorem run_arrayAt54 (b o L C : Nat) (h : 12 ≤ L) (w : World) : (Instr.arrayAt 54 (.slice (some ⟨b, o, none⟩) L C)).run Tryz.prog w = .ok (.pointer (some ⟨b, o, none⟩)) w := by
  have h : ¬ L < 12 := by omega
  simp [Instr.arrayAt, run_underlying Tryz.underlying54, go_sem, h]

set_option maxRecDepth 100000 in
set_option maxHeartbeats 4000000 in
theorem nonceOf_any (k : List Nat) (hk : IsKey32 k) (pa : Option Addr) (la ca : Nat) (za : List Nat) (hla : la ≤ 10000) (pp : Option Addr) (lp cp : Nat) (zp : List Nat) (hlp : lp ≤ 30000) (w : World) (hT : Sh.Tab w)
    (hIa : IsBytes w.heap.size w pa la ca za) (hIp : IsBytes w.heap.size w pp lp cp zp) :
    Calls Tryz.prog 32 #[.agg (u8s k).toArray, .slice pa la ca, .slice pp lp cp] w fun e w' => e = .returned (.agg (u8s (nonceN k za zp)).toArray) ∧ Below w.heap.size w w' := by
  obtain ⟨V, hV⟩ : ∃ V, u8s (Sh.macN k (110 :: (lenB za.length ++ za ++ zp))) = V := ⟨_, rfl⟩
  have HV : Hid (V.length = 32) := by show _ = _; rw [← hV, u8s_length, Sh.macN_length]
  have HV1 : Hid (∀ v ∈ V, v.oneCell' = true) := by rw [← hV]; exact u8s_one _
  obtain ⟨N, hN⟩ : ∃ N, u8s (nonceN k za zp) = N := ⟨_, rfl⟩
  have HN : Hid (N.length = 12) := by show _ = _; rw [← hN, u8s_length, nonceN_length]
  have HN1 : Hid (∀ v ∈ N, v.oneCell' = true) := by rw [← hN]; exact u8s_one _
  have HNV : Hid (N = V.take 12) := by show _ = _; rw [← hN, ← hV]; unfold nonceN; simp [u8s, List.map_take]
  rw [hN]
  obtain ⟨w0, hw0⟩ : ∃ w0, ((w.alloc (.cells (u8s k).toArray 23)).alloc (.cells noNonce.toArray 54)) = w0 := ⟨_, rfl⟩
  have HW0 : Hid (((w.alloc (.cells (u8s k).toArray 23)).alloc (.cells noNonce.toArray 54)) = w0) := hw0
  have hb0 : Below w.heap.size w w0 := by rw [← hw0]; exact ((Below.refl _ w).alloc (Nat.le_refl _) _).alloc (by simp) _
  have hk0 : Row w0 w.heap.size 23 (u8s k) := by rw [← hw0]; exact (Row.new' w 23 (u8s k)).alloc _
  have hz0 : Row w0 (w.heap.size + 1) 54 noNonce := by rw [← hw0]; exact Row.newAt (w.alloc (.cells (u8s k).toArray 23)) 54 noNonce.toArray (by simp)
  have HM : Hid (∀ W b6, Below w.heap.size w W → Row W w.heap.size 23 (u8s k) → IsLists W.heap.size W (some ⟨b6, 0, none⟩) 4 4 [[110], lenB la, za, zp] → Calls Tryz.prog 57 #[.slice (some ⟨w.heap.size, 0, none⟩) 32 32, .slice (some ⟨b6, 0, none⟩) 4 4] W fun e w' => e = .returned (.agg V.toArray) ∧ Below W.heap.size W w') := fun W b6 hW hkW hL => by
    have h := Sh.macSum_any _ 32 32 k (by omega) _ 4 4 (by omega) [[110], lenB la, za, zp] (by have := hIa.1; have := hIp.1; simp [lenB_length]; omega) W (hT.later hW) (bytes_of_box hkW hk.1 (by omega) hk.2) hL
    have e : [[110], lenB la, za, zp].flatten = 110 :: (lenB za.length ++ za ++ zp) := by rw [hIa.1]; simp [List.append_assoc]
    rw [e, hV] at h
    exact h
  have hac := hIa.2.1
  have hac2 := hIa.2.2.1
  have Ia : Hid (∀ W, Below w.heap.size w W → IsBytes W.heap.size W pa la ca za) := fun W hW => hIa.later hW
  have Ip : Hid (∀ W, Below w.heap.size w W → IsBytes W.heap.size W pp lp cp zp) := fun W hW => hIp.later hW
  clear hw0 hIa hIp hV hN
  go_enter Tryz.func32, Tryz.ntmps32
  go_wp2
  change Code.wp _ _ _ _ ((w.alloc (.cells (u8s k).toArray 23)).alloc (.cells noNonce.toArray 54))
  rw [HW0.out]
  refine wp_region_cut (S := fun _ => True) (fun a' w' => ∃ (b8 : Nat) (s9 s11 s14 : Value), a' = { tmps := #[.agg (u8s k).toArray, .slice pa la ca, .slice pp lp cp, .pointer (some ⟨w.heap.size, 0, none⟩), undef, undef, .pointer (some ⟨w.heap.size + 1, 0, none⟩), .pointer (some ⟨b8, 0, none⟩), .slice (some ⟨w.heap.size, 0, none⟩) 32 32, s9, .slice pa la ca, s11, .slice pa la ca, .slice pp lp cp, s14, .agg V.toArray, undef, undef, undef], defers := [] } ∧ w.heap.size ≤ b8 ∧ b8 ≠ w.heap.size + 1 ∧ Row w' b8 39 V ∧ Row w' (w.heap.size + 1) 54 noNonce ∧ Below w.heap.size w w') (by kernel_rfl) trivial ?body ?tail
  case body =>
    intro hHeld
    have B0 : Below w.heap.size w w0.drew := below_drewN hb0 1
    have K0 : Row w0.drew w.heap.size 23 (u8s k) := hk0
    have Z0 : Row w0.drew (w.heap.size + 1) 54 noNonce := hz0
    clear hk0 hz0 hb0
    generalize w0.drew = W0 at *
    refine wpAnyH_takesAt 0 1 9 (of_decide_eq_true (by kernel_rfl)) rfl (fun _ _ _ _ _ h => h) (by kernel_rfl) (by kernel_rfl) hHeld ?_
    simp only [List.drop_zero, List.take_succ_cons, List.take_zero]
    iterate 1 (refine wpHeld_step (v := ?_) (by rfl) (fun wz hSw => ?_) ?_; rotate_left; (focus ((try dsimp only at hSw); go_simp; try with_reducible rfl)); ((simp only [Act.put]; (try simp only [List.setIfInBounds_toArray]); (try simp only [List.set_cons_succ]); (try simp only [List.set_cons_zero]))))
    refine wpHeld_nil ?_
    refine wpAnyH_takesAt 2 1 8 (of_decide_eq_true (by kernel_rfl)) rfl (fun _ _ _ _ _ h => h) (by kernel_rfl) (by kernel_rfl) hHeld ?_
    simp only [List.drop_succ_cons, List.drop_zero, List.take_succ_cons, List.take_zero]
    iterate 1 (refine wpHeld_step (v := ?_) (by rfl) (fun wz hSw => ?_) ?_; rotate_left; (focus ((try dsimp only at hSw); go_simp; try with_reducible rfl)); ((simp only [Act.put]; (try simp only [List.setIfInBounds_toArray]); (try simp only [List.set_cons_succ]); (try simp only [List.set_cons_zero]))))
    refine wpHeld_nil ?_
    refine wpAnyH_takesAt 4 2 6 (of_decide_eq_true (by kernel_rfl)) rfl (fun _ _ _ _ _ h => h) (by kernel_rfl) (by kernel_rfl) hHeld ?_
    simp only [List.drop_succ_cons, List.drop_zero, List.take_succ_cons, List.take_zero]
    iterate 2 (refine wpHeld_step (v := ?_) (by rfl) (fun wz hSw => ?_) ?_; rotate_left; (focus ((try dsimp only at hSw); go_simp; try with_reducible rfl)); (simp only [Act.put, List.setIfInBounds_toArray, List.set_cons_zero, List.set_cons_succ]))
    refine wpHeld_nil ?_
    refine wpAnyH_three (i := 1) (j := 3) (k := 8) (by kernel_rfl) rfl rfl rfl (fun K hK => ?_) (fun K hK => ?_) (fun K hK => ?_)
    · rw [if_pos (by rfl)]
      go_simp
      refine hK.out _ _ trivial ?_
      clear hK K
      obtain ⟨W1, hW⟩ : ∃ W1, W0.alloc (.cells #[.int .u8 110] 5) = W1 := ⟨_, rfl⟩
      have hb : Below W0.heap.size W0 W1 := by rw [← hW]; exact (Below.refl _ W0).alloc (Nat.le_refl _) _
      have B1 : Below w.heap.size w W1 := B0.trans (hb.mono B0.size)
      have K1 : Row W1 w.heap.size 23 (u8s k) := K0.later hb
      have Z1 : Row W1 (w.heap.size + 1) 54 noNonce := Z0.later hb
      have I1 : IsBytes W1.heap.size W1 (some ⟨W0.heap.size, 0, none⟩) 1 1 [110] := by rw [← hW]; exact bytes_of_box (t := 5) (k := [110]) (Row.new' W0 5 [.int .u8 110]) rfl (by omega) (by simp)
      rw [hW]
      generalize W0.heap.size = b1 at I1 ⊢
      clear hW hb B0 K0 Z0
      refine wpAnyH_either (i := 3) (j := 8) (by kernel_rfl) rfl rfl (fun K hK => ?_) (fun K hK => ?_)
      · rw [if_pos (by rfl)]
        go_simp
        refine (lengthB_any pa la ca (by omega) hac hac2 _).mono ?_
        rintro e W2 ⟨v3, rfl, hO, hb⟩
        obtain ⟨q3, c3, rfl⟩ := own_len hO (lenB_length la)
        have J2 : IsBytes W2.heap.size W2 q3 8 c3 (lenB la) := hO.bytes (lenB_lt la)
        have B2 : Below w.heap.size w W2 := B1.trans (hb.mono B1.size)
        have K2 : Row W2 w.heap.size 23 (u8s k) := K1.later hb
        have Z2 : Row W2 (w.heap.size + 1) 54 noNonce := Z1.later hb
        have I2 := I1.later hb
        refine hK.out _ _ trivial ?_
        clear hK K
        clear hO hb B1 K1 Z1 I1
        refine wpAnyH_either (i := 6) (j := 8) (by kernel_rfl) rfl rfl (fun K hK => ?_) (fun K hK => ?_)
        · rw [if_pos (by rfl)]
          go_simp
          refine hK.out _ _ trivial ?_
          clear hK K
          have hL := lists_four I2 J2 (Ia.out _ B2) (Ip.out _ B2)
          obtain ⟨W3, hW⟩ : ∃ W3, W2.alloc (.cells #[.slice (some ⟨b1, 0, none⟩) 1 1, .slice q3 8 c3, .slice pa la ca, .slice pp lp cp] 24) = W3 := ⟨_, rfl⟩
          have hb : Below W2.heap.size W2 W3 := by rw [← hW]; exact (Below.refl _ W2).alloc (Nat.le_refl _) _
          have L3 : IsLists W3.heap.size W3 (some ⟨W2.heap.size, 0, none⟩) 4 4 [[110], lenB la, za, zp] := by rw [← hW, World.size_alloc]; exact hL
          have B3 : Below w.heap.size w W3 := B2.trans (hb.mono B2.size)
          have K3 : Row W3 w.heap.size 23 (u8s k) := K2.later hb
          have Z3 : Row W3 (w.heap.size + 1) 54 noNonce := Z2.later hb
          have I3 := I2.later hb
          have J3 := J2.later hb
          rw [hW]
          generalize W2.heap.size = b6 at L3 ⊢
          clear hW hb hL B2 K2 Z2 I2 J2
          refine wpAnyH_either (i := 7) (j := 8) (by kernel_rfl) rfl rfl (fun K hK => ?_) (fun K hK => ?_)
          · rw [if_pos (by rfl)]
            go_simp
            refine (HM.out _ b6 B3 K3 L3).mono ?_
            rintro e W4 ⟨rfl, hb⟩
            have B4 : Below w.heap.size w W4 := B3.trans (hb.mono B3.size)
            have K4 : Row W4 w.heap.size 23 (u8s k) := K3.later hb
            have Z4 : Row W4 (w.heap.size + 1) 54 noNonce := Z3.later hb
            have I4 := I3.later hb
            have J4 := J3.later hb
            refine hK.out _ _ trivial ?_
            clear hK K
            clear hb B3 K3 Z3 I3 J3 L3
            refine wpAnyH_only (i := 8) (by kernel_rfl) rfl (fun K hK => ?_)
            rw [if_pos (by rfl)]
            go_simp
            refine hK.out _ (W4.alloc (.cells noKey.toArray 39)) trivial ?_
            clear hK K
            obtain ⟨W5, hW⟩ : ∃ W5, W4.alloc (.cells noKey.toArray 39) = W5 := ⟨_, rfl⟩
            have hb : Below W4.heap.size W4 W5 := by rw [← hW]; exact (Below.refl _ W4).alloc (Nat.le_refl _) _
            have hb8 : w.heap.size ≤ W4.heap.size := B4.size
            have hne8 : W4.heap.size ≠ w.heap.size + 1 := by have := Z4.lt; omega
            have R5 : Row W5 W4.heap.size 39 noKey := by rw [← hW]; exact Row.new' _ _ _
            have B5 : Below w.heap.size w W5 := B4.trans (hb.mono B4.size)
            have K5 : Row W5 w.heap.size 23 (u8s k) := K4.later hb
            have Z5 : Row W5 (w.heap.size + 1) 54 noNonce := Z4.later hb
            have I5 := I4.later hb
            have J5 := J4.later hb
            rw [hW]
            generalize W4.heap.size = b8 at R5 hb8 hne8 ⊢
            clear hW hb B4 K4 Z4 I4 J4
            refine wpAnyH_only (i := 9) (by kernel_rfl) rfl (fun K hK => ?_)
            rw [if_pos (by rfl)]
            refine wp_store_mid 39 (.tmp 7) (.tmp 15) rfl b8 0 V.toArray rfl rfl (by have h := Row.there R5; show World.there _ _ 0 V.length; rw [HV.out]; exact h) (by show _ = some V.length; rw [HV.out]; kernel_rfl) (by rw [List.all_toArray]; exact List.all_eq_true.2 HV1.out) ?_
            refine hK.out _ _ trivial ?_
            clear hK K
            refine wpAnyH_done (by kernel_rfl) ?_ _
            exact ⟨b8, _, _, _, rfl, hb8, hne8, Row.sets_all (vs := V) R5 (by rw [HV.out]; rfl), Row.others (Ne.symm hne8) _ 0 Z5, below_setCells hb8 _ _ B5⟩
          · rw [if_pos (by rfl)]
            go_simp
            refine hK.out _ (W3.alloc (.cells noKey.toArray 39)) trivial ?_
            clear hK K
            obtain ⟨W4, hW⟩ : ∃ W4, W3.alloc (.cells noKey.toArray 39) = W4 := ⟨_, rfl⟩
            have hb : Below W3.heap.size W3 W4 := by rw [← hW]; exact (Below.refl _ W3).alloc (Nat.le_refl _) _
            have hb8 : w.heap.size ≤ W3.heap.size := B3.size
            have hne8 : W3.heap.size ≠ w.heap.size + 1 := by have := Z3.lt; omega
            have R4 : Row W4 W3.heap.size 39 noKey := by rw [← hW]; exact Row.new' _ _ _
            have B4 : Below w.heap.size w W4 := B3.trans (hb.mono B3.size)
            have K4 : Row W4 w.heap.size 23 (u8s k) := K3.later hb
            have Z4 : Row W4 (w.heap.size + 1) 54 noNonce := Z3.later hb
            have I4 := I3.later hb
            have J4 := J3.later hb
            have L4 := IsLists.later hb L3
            rw [hW]
            generalize W3.heap.size = b8 at R4 hb8 hne8 ⊢
            clear hW hb B3 K3 Z3 I3 J3 L3
            refine wpAnyH_only (i := 7) (by kernel_rfl) rfl (fun K hK => ?_)
            rw [if_pos (by rfl)]
            go_simp
            refine (HM.out _ b6 B4 K4 L4).mono ?_
            rintro e W5 ⟨rfl, hb⟩
            have B5 : Below w.heap.size w W5 := B4.trans (hb.mono B4.size)
            have K5 : Row W5 w.heap.size 23 (u8s k) := K4.later hb
            have Z5 : Row W5 (w.heap.size + 1) 54 noNonce := Z4.later hb
            have I5 := I4.later hb
            have J5 := J4.later hb
            have R5 := R4.later hb
            refine hK.out _ _ trivial ?_
            clear hK K
            clear hb B4 K4 Z4 I4 J4 R4 L4
            refine wpAnyH_only (i := 9) (by kernel_rfl) rfl (fun K hK => ?_)
            rw [if_pos (by rfl)]
            refine wp_store_mid 39 (.tmp 7) (.tmp 15) rfl b8 0 V.toArray rfl rfl (by have h := Row.there R5; show World.there _ _ 0 V.length; rw [HV.out]; exact h) (by show _ = some V.length; rw [HV.out]; kernel_rfl) (by rw [List.all_toArray]; exact List.all_eq_true.2 HV1.out) ?_
            refine hK.out _ _ trivial ?_
            clear hK K
            refine wpAnyH_done (by kernel_rfl) ?_ _
            exact ⟨b8, _, _, _, rfl, hb8, hne8, Row.sets_all (vs := V) R5 (by rw [HV.out]; rfl), Row.others (Ne.symm hne8) _ 0 Z5, below_setCells hb8 _ _ B5⟩
        · rw [if_pos (by rfl)]
          go_simp
          refine hK.out _ (W2.alloc (.cells noKey.toArray 39)) trivial ?_
          clear hK K
          obtain ⟨W3, hW⟩ : ∃ W3, W2.alloc (.cells noKey.toArray 39) = W3 := ⟨_, rfl⟩
          have hb : Below W2.heap.size W2 W3 := by rw [← hW]; exact (Below.refl _ W2).alloc (Nat.le_refl _) _
          have hb8 : w.heap.size ≤ W2.heap.size := B2.size
          have hne8 : W2.heap.size ≠ w.heap.size + 1 := by have := Z2.lt; omega
          have R3 : Row W3 W2.heap.size 39 noKey := by rw [← hW]; exact Row.new' _ _ _
          have B3 : Below w.heap.size w W3 := B2.trans (hb.mono B2.size)
          have K3 : Row W3 w.heap.size 23 (u8s k) := K2.later hb
          have Z3 : Row W3 (w.heap.size + 1) 54 noNonce := Z2.later hb
          have I3 := I2.later hb
          have J3 := J2.later hb
          rw [hW]
          generalize W2.heap.size = b8 at R3 hb8 hne8 ⊢
          clear hW hb B2 K2 Z2 I2 J2
          refine wpAnyH_only (i := 6) (by kernel_rfl) rfl (fun K hK => ?_)
          rw [if_pos (by rfl)]
          go_simp
          refine hK.out _ _ trivial ?_
          clear hK K
          have hL := lists_four I3 J3 (Ia.out _ B3) (Ip.out _ B3)
          obtain ⟨W4, hW⟩ : ∃ W4, W3.alloc (.cells #[.slice (some ⟨b1, 0, none⟩) 1 1, .slice q3 8 c3, .slice pa la ca, .slice pp lp cp] 24) = W4 := ⟨_, rfl⟩
          have hb : Below W3.heap.size W3 W4 := by rw [← hW]; exact (Below.refl _ W3).alloc (Nat.le_refl _) _
          have L4 : IsLists W4.heap.size W4 (some ⟨W3.heap.size, 0, none⟩) 4 4 [[110], lenB la, za, zp] := by rw [← hW, World.size_alloc]; exact hL
          have B4 : Below w.heap.size w W4 := B3.trans (hb.mono B3.size)
          have K4 : Row W4 w.heap.size 23 (u8s k) := K3.later hb
          have Z4 : Row W4 (w.heap.size + 1) 54 noNonce := Z3.later hb
          have I4 := I3.later hb
          have J4 := J3.later hb
          have R4 := R3.later hb
          rw [hW]
          generalize W3.heap.size = b6 at L4 ⊢
          clear hW hb hL B3 K3 Z3 I3 J3 R3
          refine wpAnyH_only (i := 7) (by kernel_rfl) rfl (fun K hK => ?_)
          rw [if_pos (by rfl)]
          go_simp
          refine (HM.out _ b6 B4 K4 L4).mono ?_
          rintro e W5 ⟨rfl, hb⟩
          have B5 : Below w.heap.size w W5 := B4.trans (hb.mono B4.size)
          have K5 : Row W5 w.heap.size 23 (u8s k) := K4.later hb
          have Z5 : Row W5 (w.heap.size + 1) 54 noNonce := Z4.later hb
          have I5 := I4.later hb
          have J5 := J4.later hb
          have R5 := R4.later hb
          refine hK.out _ _ trivial ?_
          clear hK K
          clear hb B4 K4 Z4 I4 J4 R4 L4
          refine wpAnyH_only (i := 9) (by kernel_rfl) rfl (fun K hK => ?_)
          rw [if_pos (by rfl)]
          refine wp_store_mid 39 (.tmp 7) (.tmp 15) rfl b8 0 V.toArray rfl rfl (by have h := Row.there R5; show World.there _ _ 0 V.length; rw [HV.out]; exact h) (by show _ = some V.length; rw [HV.out]; kernel_rfl) (by rw [List.all_toArray]; exact List.all_eq_true.2 HV1.out) ?_
          refine hK.out _ _ trivial ?_
          clear hK K
          refine wpAnyH_done (by kernel_rfl) ?_ _
          exact ⟨b8, _, _, _, rfl, hb8, hne8, Row.sets_all (vs := V) R5 (by rw [HV.out]; rfl), Row.others (Ne.symm hne8) _ 0 Z5, below_setCells hb8 _ _ B5⟩
      · rw [if_pos (by rfl)]
        go_simp
        refine hK.out _ (W1.alloc (.cells noKey.toArray 39)) trivial ?_
        clear hK K
        obtain ⟨W2, hW⟩ : ∃ W2, W1.alloc (.cells noKey.toArray 39) = W2 := ⟨_, rfl⟩
        have hb : Below W1.heap.size W1 W2 := by rw [← hW]; exact (Below.refl _ W1).alloc (Nat.le_refl _) _
        have hb8 : w.heap.size ≤ W1.heap.size := B1.size
        have hne8 : W1.heap.size ≠ w.heap.size + 1 := by have := Z1.lt; omega
        have R2 : Row W2 W1.heap.size 39 noKey := by rw [← hW]; exact Row.new' _ _ _
        have B2 : Below w.heap.size w W2 := B1.trans (hb.mono B1.size)
        have K2 : Row W2 w.heap.size 23 (u8s k) := K1.later hb
        have Z2 : Row W2 (w.heap.size + 1) 54 noNonce := Z1.later hb
        have I2 := I1.later hb
        rw [hW]
        generalize W1.heap.size = b8 at R2 hb8 hne8 ⊢
        clear hW hb B1 K1 Z1 I1
        refine wpAnyH_only (i := 3) (by kernel_rfl) rfl (fun K hK => ?_)
        rw [if_pos (by rfl)]
        go_simp
        refine (lengthB_any pa la ca (by omega) hac hac2 _).mono ?_
        rintro e W3 ⟨v3, rfl, hO, hb⟩
        obtain ⟨q3, c3, rfl⟩ := own_len hO (lenB_length la)
        have J3 : IsBytes W3.heap.size W3 q3 8 c3 (lenB la) := hO.bytes (lenB_lt la)
        have B3 : Below w.heap.size w W3 := B2.trans (hb.mono B2.size)
        have K3 : Row W3 w.heap.size 23 (u8s k) := K2.later hb
        have Z3 : Row W3 (w.heap.size + 1) 54 noNonce := Z2.later hb
        have I3 := I2.later hb
        have R3 := R2.later hb
        refine hK.out _ _ trivial ?_
        clear hK K
        clear hO hb B2 K2 Z2 I2 R2
        refine wpAnyH_only (i := 6) (by kernel_rfl) rfl (fun K hK => ?_)
        rw [if_pos (by rfl)]
        go_simp
        refine hK.out _ _ trivial ?_
        clear hK K
        have hL := lists_four I3 J3 (Ia.out _ B3) (Ip.out _ B3)
        obtain ⟨W4, hW⟩ : ∃ W4, W3.alloc (.cells #[.slice (some ⟨b1, 0, none⟩) 1 1, .slice q3 8 c3, .slice pa la ca, .slice pp lp cp] 24) = W4 := ⟨_, rfl⟩
        have hb : Below W3.heap.size W3 W4 := by rw [← hW]; exact (Below.refl _ W3).alloc (Nat.le_refl _) _
        have L4 : IsLists W4.heap.size W4 (some ⟨W3.heap.size, 0, none⟩) 4 4 [[110], lenB la, za, zp] := by rw [← hW, World.size_alloc]; exact hL
        have B4 : Below w.heap.size w W4 := B3.trans (hb.mono B3.size)
        have K4 : Row W4 w.heap.size 23 (u8s k) := K3.later hb
        have Z4 : Row W4 (w.heap.size + 1) 54 noNonce := Z3.later hb
        have I4 := I3.later hb
        have J4 := J3.later hb
        have R4 := R3.later hb
        rw [hW]
        generalize W3.heap.size = b6 at L4 ⊢
        clear hW hb hL B3 K3 Z3 I3 J3 R3
        refine wpAnyH_only (i := 7) (by kernel_rfl) rfl (fun K hK => ?_)
        rw [if_pos (by rfl)]
        go_simp
        refine (HM.out _ b6 B4 K4 L4).mono ?_
        rintro e W5 ⟨rfl, hb⟩
        have B5 : Below w.heap.size w W5 := B4.trans (hb.mono B4.size)
        have K5 : Row W5 w.heap.size 23 (u8s k) := K4.later hb
        have Z5 : Row W5 (w.heap.size + 1) 54 noNonce := Z4.later hb
        have I5 := I4.later hb
        have J5 := J4.later hb
        have R5 := R4.later hb
        refine hK.out _ _ trivial ?_
        clear hK K
        clear hb B4 K4 Z4 I4 J4 R4 L4
        refine wpAnyH_only (i := 9) (by kernel_rfl) rfl (fun K hK => ?_)
        rw [if_pos (by rfl)]
        refine wp_store_mid 39 (.tmp 7) (.tmp 15) rfl b8 0 V.toArray rfl rfl (by have h := Row.there R5; show World.there _ _ 0 V.length; rw [HV.out]; exact h) (by show _ = some V.length; rw [HV.out]; kernel_rfl) (by rw [List.all_toArray]; exact List.all_eq_true.2 HV1.out) ?_
        refine hK.out _ _ trivial ?_
        clear hK K
        refine wpAnyH_done (by kernel_rfl) ?_ _
        exact ⟨b8, _, _, _, rfl, hb8, hne8, Row.sets_all (vs := V) R5 (by rw [HV.out]; rfl), Row.others (Ne.symm hne8) _ 0 Z5, below_setCells hb8 _ _ B5⟩
    · rw [if_pos (by rfl)]
      go_simp
      refine (lengthB_any pa la ca (by omega) hac hac2 _).mono ?_
      rintro e W1 ⟨v3, rfl, hO, hb⟩
      obtain ⟨q3, c3, rfl⟩ := own_len hO (lenB_length la)
      have J1 : IsBytes W1.heap.size W1 q3 8 c3 (lenB la) := hO.bytes (lenB_lt la)
      have B1 : Below w.heap.size w W1 := B0.trans (hb.mono B0.size)
      have K1 : Row W1 w.heap.size 23 (u8s k) := K0.later hb
      have Z1 : Row W1 (w.heap.size + 1) 54 noNonce := Z0.later hb
      refine hK.out _ _ trivial ?_
      clear hK K
      clear hO hb B0 K0 Z0
      refine wpAnyH_either (i := 1) (j := 8) (by kernel_rfl) rfl rfl (fun K hK => ?_) (fun K hK => ?_)
      · rw [if_pos (by rfl)]
        go_simp
        refine hK.out _ _ trivial ?_
        clear hK K
        obtain ⟨W2, hW⟩ : ∃ W2, W1.alloc (.cells #[.int .u8 110] 5) = W2 := ⟨_, rfl⟩
        have hb : Below W1.heap.size W1 W2 := by rw [← hW]; exact (Below.refl _ W1).alloc (Nat.le_refl _) _
        have B2 : Below w.heap.size w W2 := B1.trans (hb.mono B1.size)
        have K2 : Row W2 w.heap.size 23 (u8s k) := K1.later hb
        have Z2 : Row W2 (w.heap.size + 1) 54 noNonce := Z1.later hb
        have J2 := J1.later hb
        have I2 : IsBytes W2.heap.size W2 (some ⟨W1.heap.size, 0, none⟩) 1 1 [110] := by rw [← hW]; exact bytes_of_box (t := 5) (k := [110]) (Row.new' W1 5 [.int .u8 110]) rfl (by omega) (by simp)
        rw [hW]
        generalize W1.heap.size = b1 at I2 ⊢
        clear hW hb B1 K1 Z1 J1
        refine wpAnyH_either (i := 6) (j := 8) (by kernel_rfl) rfl rfl (fun K hK => ?_) (fun K hK => ?_)
        · rw [if_pos (by rfl)]
          go_simp
          refine hK.out _ _ trivial ?_
          clear hK K
          have hL := lists_four I2 J2 (Ia.out _ B2) (Ip.out _ B2)
          obtain ⟨W3, hW⟩ : ∃ W3, W2.alloc (.cells #[.slice (some ⟨b1, 0, none⟩) 1 1, .slice q3 8 c3, .slice pa la ca, .slice pp lp cp] 24) = W3 := ⟨_, rfl⟩
          have hb : Below W2.heap.size W2 W3 := by rw [← hW]; exact (Below.refl _ W2).alloc (Nat.le_refl _) _
          have L3 : IsLists W3.heap.size W3 (some ⟨W2.heap.size, 0, none⟩) 4 4 [[110], lenB la, za, zp] := by rw [← hW, World.size_alloc]; exact hL
          have B3 : Below w.heap.size w W3 := B2.trans (hb.mono B2.size)
          have K3 : Row W3 w.heap.size 23 (u8s k) := K2.later hb
          have Z3 : Row W3 (w.heap.size + 1) 54 noNonce := Z2.later hb
          have I3 := I2.later hb
          have J3 := J2.later hb
          rw [hW]
          generalize W2.heap.size = b6 at L3 ⊢
          clear hW hb hL B2 K2 Z2 I2 J2
          refine wpAnyH_either (i := 7) (j := 8) (by kernel_rfl) rfl rfl (fun K hK => ?_) (fun K hK => ?_)
          · rw [if_pos (by rfl)]
            go_simp
            refine (HM.out _ b6 B3 K3 L3).mono ?_
            rintro e W4 ⟨rfl, hb⟩
            have B4 : Below w.heap.size w W4 := B3.trans (hb.mono B3.size)
            have K4 : Row W4 w.heap.size 23 (u8s k) := K3.later hb
            have Z4 : Row W4 (w.heap.size + 1) 54 noNonce := Z3.later hb
            have I4 := I3.later hb
            have J4 := J3.later hb
            refine hK.out _ _ trivial ?_
            clear hK K
            clear hb B3 K3 Z3 I3 J3 L3
            refine wpAnyH_only (i := 8) (by kernel_rfl) rfl (fun K hK => ?_)
            rw [if_pos (by rfl)]
            go_simp
            refine hK.out _ (W4.alloc (.cells noKey.toArray 39)) trivial ?_
            clear hK K
            obtain ⟨W5, hW⟩ : ∃ W5, W4.alloc (.cells noKey.toArray 39) = W5 := ⟨_, rfl⟩
            have hb : Below W4.heap.size W4 W5 := by rw [← hW]; exact (Below.refl _ W4).alloc (Nat.le_refl _) _
            have hb8 : w.heap.size ≤ W4.heap.size := B4.size
            have hne8 : W4.heap.size ≠ w.heap.size + 1 := by have := Z4.lt; omega
            have R5 : Row W5 W4.heap.size 39 noKey := by rw [← hW]; exact Row.new' _ _ _
            have B5 : Below w.heap.size w W5 := B4.trans (hb.mono B4.size)
            have K5 : Row W5 w.heap.size 23 (u8s k) := K4.later hb
            have Z5 : Row W5 (w.heap.size + 1) 54 noNonce := Z4.later hb
            have I5 := I4.later hb
            have J5 := J4.later hb
            rw [hW]
            generalize W4.heap.size = b8 at R5 hb8 hne8 ⊢
            clear hW hb B4 K4 Z4 I4 J4
            refine wpAnyH_only (i := 9) (by kernel_rfl) rfl (fun K hK => ?_)
            rw [if_pos (by rfl)]
            refine wp_store_mid 39 (.tmp 7) (.tmp 15) rfl b8 0 V.toArray rfl rfl (by have h := Row.there R5; show World.there _ _ 0 V.length; rw [HV.out]; exact h) (by show _ = some V.length; rw [HV.out]; kernel_rfl) (by rw [List.all_toArray]; exact List.all_eq_true.2 HV1.out) ?_
            refine hK.out _ _ trivial ?_
            clear hK K
            refine wpAnyH_done (by kernel_rfl) ?_ _
            exact ⟨b8, _, _, _, rfl, hb8, hne8, Row.sets_all (vs := V) R5 (by rw [HV.out]; rfl), Row.others (Ne.symm hne8) _ 0 Z5, below_setCells hb8 _ _ B5⟩
          · rw [if_pos (by rfl)]
            go_simp
            refine hK.out _ (W3.alloc (.cells noKey.toArray 39)) trivial ?_
            clear hK K
            obtain ⟨W4, hW⟩ : ∃ W4, W3.alloc (.cells noKey.toArray 39) = W4 := ⟨_, rfl⟩
            have hb : Below W3.heap.size W3 W4 := by rw [← hW]; exact (Below.refl _ W3).alloc (Nat.le_refl _) _
            have hb8 : w.heap.size ≤ W3.heap.size := B3.size
            have hne8 : W3.heap.size ≠ w.heap.size + 1 := by have := Z3.lt; omega
            have R4 : Row W4 W3.heap.size 39 noKey := by rw [← hW]; exact Row.new' _ _ _
            have B4 : Below w.heap.size w W4 := B3.trans (hb.mono B3.size)
            have K4 : Row W4 w.heap.size 23 (u8s k) := K3.later hb
            have Z4 : Row W4 (w.heap.size + 1) 54 noNonce := Z3.later hb
            have I4 := I3.later hb
            have J4 := J3.later hb
            have L4 := IsLists.later hb L3
            rw [hW]
            generalize W3.heap.size = b8 at R4 hb8 hne8 ⊢
            clear hW hb B3 K3 Z3 I3 J3 L3
            refine wpAnyH_only (i := 7) (by kernel_rfl) rfl (fun K hK => ?_)
            rw [if_pos (by rfl)]
            go_simp
            refine (HM.out _ b6 B4 K4 L4).mono ?_
            rintro e W5 ⟨rfl, hb⟩
            have B5 : Below w.heap.size w W5 := B4.trans (hb.mono B4.size)
            have K5 : Row W5 w.heap.size 23 (u8s k) := K4.later hb
            have Z5 : Row W5 (w.heap.size + 1) 54 noNonce := Z4.later hb
            have I5 := I4.later hb
            have J5 := J4.later hb
            have R5 := R4.later hb
            refine hK.out _ _ trivial ?_
            clear hK K
            clear hb B4 K4 Z4 I4 J4 R4 L4
            refine wpAnyH_only (i := 9) (by kernel_rfl) rfl (fun K hK => ?_)
            rw [if_pos (by rfl)]
            refine wp_store_mid 39 (.tmp 7) (.tmp 15) rfl b8 0 V.toArray rfl rfl (by have h := Row.there R5; show World.there _ _ 0 V.length; rw [HV.out]; exact h) (by show _ = some V.length; rw [HV.out]; kernel_rfl) (by rw [List.all_toArray]; exact List.all_eq_true.2 HV1.out) ?_
            refine hK.out _ _ trivial ?_
            clear hK K
            refine wpAnyH_done (by kernel_rfl) ?_ _
            exact ⟨b8, _, _, _, rfl, hb8, hne8, Row.sets_all (vs := V) R5 (by rw [HV.out]; rfl), Row.others (Ne.symm hne8) _ 0 Z5, below_setCells hb8 _ _ B5⟩
        · rw [if_pos (by rfl)]
          go_simp
          refine hK.out _ (W2.alloc (.cells noKey.toArray 39)) trivial ?_
          clear hK K
          obtain ⟨W3, hW⟩ : ∃ W3, W2.alloc (.cells noKey.toArray 39) = W3 := ⟨_, rfl⟩
          have hb : Below W2.heap.size W2 W3 := by rw [← hW]; exact (Below.refl _ W2).alloc (Nat.le_refl _) _
          have hb8 : w.heap.size ≤ W2.heap.size := B2.size
          have hne8 : W2.heap.size ≠ w.heap.size + 1 := by have := Z2.lt; omega
          have R3 : Row W3 W2.heap.size 39 noKey := by rw [← hW]; exact Row.new' _ _ _
          have B3 : Below w.heap.size w W3 := B2.trans (hb.mono B2.size)
          have K3 : Row W3 w.heap.size 23 (u8s k) := K2.later hb
          have Z3 : Row W3 (w.heap.size + 1) 54 noNonce := Z2.later hb
          have I3 := I2.later hb
          have J3 := J2.later hb
          rw [hW]
          generalize W2.heap.size = b8 at R3 hb8 hne8 ⊢
          clear hW hb B2 K2 Z2 I2 J2
          refine wpAnyH_only (i := 6) (by kernel_rfl) rfl (fun K hK => ?_)
          rw [if_pos (by rfl)]
          go_simp
          refine hK.out _ _ trivial ?_
          clear hK K
          have hL := lists_four I3 J3 (Ia.out _ B3) (Ip.out _ B3)
          obtain ⟨W4, hW⟩ : ∃ W4, W3.alloc (.cells #[.slice (some ⟨b1, 0, none⟩) 1 1, .slice q3 8 c3, .slice pa la ca, .slice pp lp cp] 24) = W4 := ⟨_, rfl⟩
          have hb : Below W3.heap.size W3 W4 := by rw [← hW]; exact (Below.refl _ W3).alloc (Nat.le_refl _) _
          have L4 : IsLists W4.heap.size W4 (some ⟨W3.heap.size, 0, none⟩) 4 4 [[110], lenB la, za, zp] := by rw [← hW, World.size_alloc]; exact hL
          have B4 : Below w.heap.size w W4 := B3.trans (hb.mono B3.size)
          have K4 : Row W4 w.heap.size 23 (u8s k) := K3.later hb
          have Z4 : Row W4 (w.heap.size + 1) 54 noNonce := Z3.later hb
          have I4 := I3.later hb
          have J4 := J3.later hb
          have R4 := R3.later hb
          rw [hW]
          generalize W3.heap.size = b6 at L4 ⊢
          clear hW hb hL B3 K3 Z3 I3 J3 R3
          refine wpAnyH_only (i := 7) (by kernel_rfl) rfl (fun K hK => ?_)
          rw [if_pos (by rfl)]
          go_simp
          refine (HM.out _ b6 B4 K4 L4).mono ?_
          rintro e W5 ⟨rfl, hb⟩
          have B5 : Below w.heap.size w W5 := B4.trans (hb.mono B4.size)
          have K5 : Row W5 w.heap.size 23 (u8s k) := K4.later hb
          have Z5 : Row W5 (w.heap.size + 1) 54 noNonce := Z4.later hb
          have I5 := I4.later hb
          have J5 := J4.later hb
          have R5 := R4.later hb
          refine hK.out _ _ trivial ?_
          clear hK K
          clear hb B4 K4 Z4 I4 J4 R4 L4
          refine wpAnyH_only (i := 9) (by kernel_rfl) rfl (fun K hK => ?_)
          rw [if_pos (by rfl)]
          refine wp_store_mid 39 (.tmp 7) (.tmp 15) rfl b8 0 V.toArray rfl rfl (by have h := Row.there R5; show World.there _ _ 0 V.length; rw [HV.out]; exact h) (by show _ = some V.length; rw [HV.out]; kernel_rfl) (by rw [List.all_toArray]; exact List.all_eq_true.2 HV1.out) ?_
          refine hK.out _ _ trivial ?_
          clear hK K
          refine wpAnyH_done (by kernel_rfl) ?_ _
          exact ⟨b8, _, _, _, rfl, hb8, hne8, Row.sets_all (vs := V) R5 (by rw [HV.out]; rfl), Row.others (Ne.symm hne8) _ 0 Z5, below_setCells hb8 _ _ B5⟩
      · rw [if_pos (by rfl)]
        go_simp
        refine hK.out _ (W1.alloc (.cells noKey.toArray 39)) trivial ?_
        clear hK K
        obtain ⟨W2, hW⟩ : ∃ W2, W1.alloc (.cells noKey.toArray 39) = W2 := ⟨_, rfl⟩
        have hb : Below W1.heap.size W1 W2 := by rw [← hW]; exact (Below.refl _ W1).alloc (Nat.le_refl _) _
        have hb8 : w.heap.size ≤ W1.heap.size := B1.size
        have hne8 : W1.heap.size ≠ w.heap.size + 1 := by have := Z1.lt; omega
        have R2 : Row W2 W1.heap.size 39 noKey := by rw [← hW]; exact Row.new' _ _ _
        have B2 : Below w.heap.size w W2 := B1.trans (hb.mono B1.size)
        have K2 : Row W2 w.heap.size 23 (u8s k) := K1.later hb
        have Z2 : Row W2 (w.heap.size + 1) 54 noNonce := Z1.later hb
        have J2 := J1.later hb
        rw [hW]
        generalize W1.heap.size = b8 at R2 hb8 hne8 ⊢
        clear hW hb B1 K1 Z1 J1
        refine wpAnyH_only (i := 1) (by kernel_rfl) rfl (fun K hK => ?_)
        rw [if_pos (by rfl)]
        go_simp
        refine hK.out _ _ trivial ?_
        clear hK K
        obtain ⟨W3, hW⟩ : ∃ W3, W2.alloc (.cells #[.int .u8 110] 5) = W3 := ⟨_, rfl⟩
        have hb : Below W2.heap.size W2 W3 := by rw [← hW]; exact (Below.refl _ W2).alloc (Nat.le_refl _) _
        have B3 : Below w.heap.size w W3 := B2.trans (hb.mono B2.size)
        have K3 : Row W3 w.heap.size 23 (u8s k) := K2.later hb
        have Z3 : Row W3 (w.heap.size + 1) 54 noNonce := Z2.later hb
        have J3 := J2.later hb
        have R3 := R2.later hb
        have I3 : IsBytes W3.heap.size W3 (some ⟨W2.heap.size, 0, none⟩) 1 1 [110] := by rw [← hW]; exact bytes_of_box (t := 5) (k := [110]) (Row.new' W2 5 [.int .u8 110]) rfl (by omega) (by simp)
        rw [hW]
        generalize W2.heap.size = b1 at I3 ⊢
        clear hW hb B2 K2 Z2 J2 R2
        refine wpAnyH_only (i := 6) (by kernel_rfl) rfl (fun K hK => ?_)
        rw [if_pos (by rfl)]
        go_simp
        refine hK.out _ _ trivial ?_
        clear hK K
        have hL := lists_four I3 J3 (Ia.out _ B3) (Ip.out _ B3)
        obtain ⟨W4, hW⟩ : ∃ W4, W3.alloc (.cells #[.slice (some ⟨b1, 0, none⟩) 1 1, .slice q3 8 c3, .slice pa la ca, .slice pp lp cp] 24) = W4 := ⟨_, rfl⟩
        have hb : Below W3.heap.size W3 W4 := by rw [← hW]; exact (Below.refl _ W3).alloc (Nat.le_refl _) _
        have L4 : IsLists W4.heap.size W4 (some ⟨W3.heap.size, 0, none⟩) 4 4 [[110], lenB la, za, zp] := by rw [← hW, World.size_alloc]; exact hL
        have B4 : Below w.heap.size w W4 := B3.trans (hb.mono B3.size)
        have K4 : Row W4 w.heap.size 23 (u8s k) := K3.later hb
        have Z4 : Row W4 (w.heap.size + 1) 54 noNonce := Z3.later hb
        have I4 := I3.later hb
        have J4 := J3.later hb
        have R4 := R3.later hb
        rw [hW]
        generalize W3.heap.size = b6 at L4 ⊢
        clear hW hb hL B3 K3 Z3 I3 J3 R3
        refine wpAnyH_only (i := 7) (by kernel_rfl) rfl (fun K hK => ?_)
        rw [if_pos (by rfl)]
        go_simp
        refine (HM.out _ b6 B4 K4 L4).mono ?_
        rintro e W5 ⟨rfl, hb⟩
        have B5 : Below w.heap.size w W5 := B4.trans (hb.mono B4.size)
        have K5 : Row W5 w.heap.size 23 (u8s k) := K4.later hb
        have Z5 : Row W5 (w.heap.size + 1) 54 noNonce := Z4.later hb
        have I5 := I4.later hb
        have J5 := J4.later hb
        have R5 := R4.later hb
        refine hK.out _ _ trivial ?_
        clear hK K
        clear hb B4 K4 Z4 I4 J4 R4 L4
        refine wpAnyH_only (i := 9) (by kernel_rfl) rfl (fun K hK => ?_)
        rw [if_pos (by rfl)]
        refine wp_store_mid 39 (.tmp 7) (.tmp 15) rfl b8 0 V.toArray rfl rfl (by have h := Row.there R5; show World.there _ _ 0 V.length; rw [HV.out]; exact h) (by show _ = some V.length; rw [HV.out]; kernel_rfl) (by rw [List.all_toArray]; exact List.all_eq_true.2 HV1.out) ?_
        refine hK.out _ _ trivial ?_
        clear hK K
        refine wpAnyH_done (by kernel_rfl) ?_ _
        exact ⟨b8, _, _, _, rfl, hb8, hne8, Row.sets_all (vs := V) R5 (by rw [HV.out]; rfl), Row.others (Ne.symm hne8) _ 0 Z5, below_setCells hb8 _ _ B5⟩
    · rw [if_pos (by rfl)]
      go_simp
      refine hK.out _ (W0.alloc (.cells noKey.toArray 39)) trivial ?_
      clear hK K
      obtain ⟨W1, hW⟩ : ∃ W1, W0.alloc (.cells noKey.toArray 39) = W1 := ⟨_, rfl⟩
      have hb : Below W0.heap.size W0 W1 := by rw [← hW]; exact (Below.refl _ W0).alloc (Nat.le_refl _) _
      have hb8 : w.heap.size ≤ W0.heap.size := B0.size
      have hne8 : W0.heap.size ≠ w.heap.size + 1 := by have := Z0.lt; omega
      have R1 : Row W1 W0.heap.size 39 noKey := by rw [← hW]; exact Row.new' _ _ _
      have B1 : Below w.heap.size w W1 := B0.trans (hb.mono B0.size)
      have K1 : Row W1 w.heap.size 23 (u8s k) := K0.later hb
      have Z1 : Row W1 (w.heap.size + 1) 54 noNonce := Z0.later hb
      rw [hW]
      generalize W0.heap.size = b8 at R1 hb8 hne8 ⊢
      clear hW hb B0 K0 Z0
      refine wpAnyH_either (i := 1) (j := 3) (by kernel_rfl) rfl rfl (fun K hK => ?_) (fun K hK => ?_)
      · rw [if_pos (by rfl)]
        go_simp
        refine hK.out _ _ trivial ?_
        clear hK K
        obtain ⟨W2, hW⟩ : ∃ W2, W1.alloc (.cells #[.int .u8 110] 5) = W2 := ⟨_, rfl⟩
        have hb : Below W1.heap.size W1 W2 := by rw [← hW]; exact (Below.refl _ W1).alloc (Nat.le_refl _) _
        have B2 : Below w.heap.size w W2 := B1.trans (hb.mono B1.size)
        have K2 : Row W2 w.heap.size 23 (u8s k) := K1.later hb
        have Z2 : Row W2 (w.heap.size + 1) 54 noNonce := Z1.later hb
        have R2 := R1.later hb
        have I2 : IsBytes W2.heap.size W2 (some ⟨W1.heap.size, 0, none⟩) 1 1 [110] := by rw [← hW]; exact bytes_of_box (t := 5) (k := [110]) (Row.new' W1 5 [.int .u8 110]) rfl (by omega) (by simp)
        rw [hW]
        generalize W1.heap.size = b1 at I2 ⊢
        clear hW hb B1 K1 Z1 R1
        refine wpAnyH_only (i := 3) (by kernel_rfl) rfl (fun K hK => ?_)
        rw [if_pos (by rfl)]
        go_simp
        refine (lengthB_any pa la ca (by omega) hac hac2 _).mono ?_
        rintro e W3 ⟨v3, rfl, hO, hb⟩
        obtain ⟨q3, c3, rfl⟩ := own_len hO (lenB_length la)
        have J3 : IsBytes W3.heap.size W3 q3 8 c3 (lenB la) := hO.bytes (lenB_lt la)
        have B3 : Below w.heap.size w W3 := B2.trans (hb.mono B2.size)
        have K3 : Row W3 w.heap.size 23 (u8s k) := K2.later hb
        have Z3 : Row W3 (w.heap.size + 1) 54 noNonce := Z2.later hb
        have I3 := I2.later hb
        have R3 := R2.later hb
        refine hK.out _ _ trivial ?_
        clear hK K
        clear hO hb B2 K2 Z2 I2 R2
        refine wpAnyH_only (i := 6) (by kernel_rfl) rfl (fun K hK => ?_)
        rw [if_pos (by rfl)]
        go_simp
        refine hK.out _ _ trivial ?_
        clear hK K
        have hL := lists_four I3 J3 (Ia.out _ B3) (Ip.out _ B3)
        obtain ⟨W4, hW⟩ : ∃ W4, W3.alloc (.cells #[.slice (some ⟨b1, 0, none⟩) 1 1, .slice q3 8 c3, .slice pa la ca, .slice pp lp cp] 24) = W4 := ⟨_, rfl⟩
        have hb : Below W3.heap.size W3 W4 := by rw [← hW]; exact (Below.refl _ W3).alloc (Nat.le_refl _) _
        have L4 : IsLists W4.heap.size W4 (some ⟨W3.heap.size, 0, none⟩) 4 4 [[110], lenB la, za, zp] := by rw [← hW, World.size_alloc]; exact hL
        have B4 : Below w.heap.size w W4 := B3.trans (hb.mono B3.size)
        have K4 : Row W4 w.heap.size 23 (u8s k) := K3.later hb
        have Z4 : Row W4 (w.heap.size + 1) 54 noNonce := Z3.later hb
        have I4 := I3.later hb
        have J4 := J3.later hb
        have R4 := R3.later hb
        rw [hW]
        generalize W3.heap.size = b6 at L4 ⊢
        clear hW hb hL B3 K3 Z3 I3 J3 R3
        refine wpAnyH_only (i := 7) (by kernel_rfl) rfl (fun K hK => ?_)
        rw [if_pos (by rfl)]
        go_simp
        refine (HM.out _ b6 B4 K4 L4).mono ?_
        rintro e W5 ⟨rfl, hb⟩
        have B5 : Below w.heap.size w W5 := B4.trans (hb.mono B4.size)
        have K5 : Row W5 w.heap.size 23 (u8s k) := K4.later hb
        have Z5 : Row W5 (w.heap.size + 1) 54 noNonce := Z4.later hb
        have I5 := I4.later hb
        have J5 := J4.later hb
        have R5 := R4.later hb
        refine hK.out _ _ trivial ?_
        clear hK K
        clear hb B4 K4 Z4 I4 J4 R4 L4
        refine wpAnyH_only (i := 9) (by kernel_rfl) rfl (fun K hK => ?_)
        rw [if_pos (by rfl)]
        refine wp_store_mid 39 (.tmp 7) (.tmp 15) rfl b8 0 V.toArray rfl rfl (by have h := Row.there R5; show World.there _ _ 0 V.length; rw [HV.out]; exact h) (by show _ = some V.length; rw [HV.out]; kernel_rfl) (by rw [List.all_toArray]; exact List.all_eq_true.2 HV1.out) ?_
        refine hK.out _ _ trivial ?_
        clear hK K
        refine wpAnyH_done (by kernel_rfl) ?_ _
        exact ⟨b8, _, _, _, rfl, hb8, hne8, Row.sets_all (vs := V) R5 (by rw [HV.out]; rfl), Row.others (Ne.symm hne8) _ 0 Z5, below_setCells hb8 _ _ B5⟩
      · rw [if_pos (by rfl)]
        go_simp
        refine (lengthB_any pa la ca (by omega) hac hac2 _).mono ?_
        rintro e W2 ⟨v3, rfl, hO, hb⟩
        obtain ⟨q3, c3, rfl⟩ := own_len hO (lenB_length la)
        have J2 : IsBytes W2.heap.size W2 q3 8 c3 (lenB la) := hO.bytes (lenB_lt la)
        have B2 : Below w.heap.size w W2 := B1.trans (hb.mono B1.size)
        have K2 : Row W2 w.heap.size 23 (u8s k) := K1.later hb
        have Z2 : Row W2 (w.heap.size + 1) 54 noNonce := Z1.later hb
        have R2 := R1.later hb
        refine hK.out _ _ trivial ?_
        clear hK K
        clear hO hb B1 K1 Z1 R1
        refine wpAnyH_only (i := 1) (by kernel_rfl) rfl (fun K hK => ?_)
        rw [if_pos (by rfl)]
        go_simp
        refine hK.out _ _ trivial ?_
        clear hK K
        obtain ⟨W3, hW⟩ : ∃ W3, W2.alloc (.cells #[.int .u8 110] 5) = W3 := ⟨_, rfl⟩
        have hb : Below W2.heap.size W2 W3 := by rw [← hW]; exact (Below.refl _ W2).alloc (Nat.le_refl _) _
        have B3 : Below w.heap.size w W3 := B2.trans (hb.mono B2.size)
        have K3 : Row W3 w.heap.size 23 (u8s k) := K2.later hb
        have Z3 : Row W3 (w.heap.size + 1) 54 noNonce := Z2.later hb
        have J3 := J2.later hb
        have R3 := R2.later hb
        have I3 : IsBytes W3.heap.size W3 (some ⟨W2.heap.size, 0, none⟩) 1 1 [110] := by rw [← hW]; exact bytes_of_box (t := 5) (k := [110]) (Row.new' W2 5 [.int .u8 110]) rfl (by omega) (by simp)
        rw [hW]
        generalize W2.heap.size = b1 at I3 ⊢
        clear hW hb B2 K2 Z2 J2 R2
        refine wpAnyH_only (i := 6) (by kernel_rfl) rfl (fun K hK => ?_)
        rw [if_pos (by rfl)]
        go_simp
        refine hK.out _ _ trivial ?_
        clear hK K
        have hL := lists_four I3 J3 (Ia.out _ B3) (Ip.out _ B3)
        obtain ⟨W4, hW⟩ : ∃ W4, W3.alloc (.cells #[.slice (some ⟨b1, 0, none⟩) 1 1, .slice q3 8 c3, .slice pa la ca, .slice pp lp cp] 24) = W4 := ⟨_, rfl⟩
        have hb : Below W3.heap.size W3 W4 := by rw [← hW]; exact (Below.refl _ W3).alloc (Nat.le_refl _) _
        have L4 : IsLists W4.heap.size W4 (some ⟨W3.heap.size, 0, none⟩) 4 4 [[110], lenB la, za, zp] := by rw [← hW, World.size_alloc]; exact hL
        have B4 : Below w.heap.size w W4 := B3.trans (hb.mono B3.size)
        have K4 : Row W4 w.heap.size 23 (u8s k) := K3.later hb
        have Z4 : Row W4 (w.heap.size + 1) 54 noNonce := Z3.later hb
        have I4 := I3.later hb
        have J4 := J3.later hb
        have R4 := R3.later hb
        rw [hW]
        generalize W3.heap.size = b6 at L4 ⊢
        clear hW hb hL B3 K3 Z3 I3 J3 R3
        refine wpAnyH_only (i := 7) (by kernel_rfl) rfl (fun K hK => ?_)
        rw [if_pos (by rfl)]
        go_simp
        refine (HM.out _ b6 B4 K4 L4).mono ?_
        rintro e W5 ⟨rfl, hb⟩
        have B5 : Below w.heap.size w W5 := B4.trans (hb.mono B4.size)
        have K5 : Row W5 w.heap.size 23 (u8s k) := K4.later hb
        have Z5 : Row W5 (w.heap.size + 1) 54 noNonce := Z4.later hb
        have I5 := I4.later hb
        have J5 := J4.later hb
        have R5 := R4.later hb
        refine hK.out _ _ trivial ?_
        clear hK K
        clear hb B4 K4 Z4 I4 J4 R4 L4
        refine wpAnyH_only (i := 9) (by kernel_rfl) rfl (fun K hK => ?_)
        rw [if_pos (by rfl)]
        refine wp_store_mid 39 (.tmp 7) (.tmp 15) rfl b8 0 V.toArray rfl rfl (by have h := Row.there R5; show World.there _ _ 0 V.length; rw [HV.out]; exact h) (by show _ = some V.length; rw [HV.out]; kernel_rfl) (by rw [List.all_toArray]; exact List.all_eq_true.2 HV1.out) ?_
        refine hK.out _ _ trivial ?_
        clear hK K
        refine wpAnyH_done (by kernel_rfl) ?_ _
        exact ⟨b8, _, _, _, rfl, hb8, hne8, Row.sets_all (vs := V) R5 (by rw [HV.out]; rfl), Row.others (Ne.symm hne8) _ 0 Z5, below_setCells hb8 _ _ B5⟩
  case tail =>
    rintro a' w' ⟨b8, s9, s11, s14, rfl, hb8, hne8, r8, rz, hB⟩
    have HR8 : Hid (w'.rangeAt b8 0 N) := by rw [HNV.out]; exact fun j v hv => by rw [Nat.zero_add]; exact r8.cell (by rw [List.getElem?_take] at hv; split at hv <;> first | exact hv | cases hv)
    have HZ : Hid (Row w' (w.heap.size + 1) 54 noNonce) := rz
    have hAt := run_arrayAt54 b8 0 12 32 (Nat.le_refl _)
    clear r8 rz
    go_wp2_with (first
      | ((with_reducible show wpList _ _ _ (Oper.mk _ (Op.load 54 (.tmp 17)) _ _ _ _ :: _) _ _); refine wpList_load_mid rfl 54 (.tmp 17) rfl b8 0 rfl N _ HR8.out Tryz.underlying54 rfl (by rw [HN.out]; exact size54) ?_; simp only [Act.put, List.setIfInBounds_toArray, List.set_cons_zero, List.set_cons_succ])
      | ((with_reducible show wpList _ _ _ (Oper.mk _ (Op.store 54 (.tmp 6) (.tmp 18)) _ _ _ _ :: _) _ _); refine wpList_store_Row rfl 54 (.tmp 6) (.tmp 18) rfl N rfl rfl HZ.out (by rw [HN.out]; exact size54) (by rw [HN.out]; rfl) HN1.out ?_; simp only [Act.put]))
    refine bodyPost_ret (results_Row rfl rfl (Row.sets_all (vs := N) HZ.out (by rw [HN.out]; rfl)) Tryz.underlying54 (by rw [HN.out]; exact size54)) rfl ?_
    exact ⟨rfl, below_setCells (by omega) _ _ hB⟩

end Go.Proofs.YtclelancbfoenaaGreatDoor
