/-
  The reference's seal: nonce, turned text, tag.
-/
import Derived.Test.YtclelancbfoenaaGreatDoorRefSub
import Derived.Test.YtclelancbfoenaaGreatDoorReRefStream
import Derived.Test.YtclelancbfoenaaGreatDoorReE
namespace Go.Proofs.YtclelancbfoenaaGreatDoor
open Go.RowKit Go.Shelf

theorem lenB_put (n : Nat) (_hn : n < 4294967296) : Re.byteVals (Re.byteAt n) 8 = u8s (lenB n) := by
  rw [← lenB_vals]
  unfold Re.byteVals
  refine List.map_congr_left (fun i hi => ?_)
  have hi8 : i < 8 := by simpa using hi
  have h : Re.byteAt n i = Re.bytesOf [n, n / 4294967296] i := by
    unfold Re.bytesOf
    match i, hi8 with
    | 0, _ | 1, _ | 2, _ | 3, _ => rfl
    | 4, _ | 5, _ | 6, _ | 7, _ => simp [Re.byteAt, Nat.div_div_eq_div_mul]
  rw [h]
theorem row_take {W : World} {b : Nat} {t : TypeId} {V : List Value} (h : Row W b t V) (n : Nat) : W.rangeAt b 0 (V.take n) := fun j v hv => by
  rw [Nat.zero_add]
  refine h.cell ?_
  rw [List.getElem?_take] at hv
  split at hv
  · exact hv
  · cases hv
theorem u8s_take (l : List Nat) (n : Nat) : u8s (l.take n) = (u8s l).take n := by simp [u8s, List.map_take]
/-- The first bytes of an array, as a slice. -/
theorem bytes_of_head {W : World} {b m n : Nat} {t : TypeId} {k : List Nat} (h : Row W b t (u8s k)) (hl : k.length = m) (hm : m ≤ 1000) (hz : ∀ z ∈ k, z < 256) (hn : n ≤ m) : IsBytes W.heap.size W (some ⟨b, 0, none⟩) n m (k.take n) :=
  IsBytes.head (bytes_of_box h hl (by omega) hz) hn hn (Nat.le_refl _)
theorem lists_three {W : World} {q0 q1 q2 : Option Addr} {l0 c0 l1 c1 l2 c2 : Nat} {t0 t1 t2 : List Nat} (h0 : IsBytes W.heap.size W q0 l0 c0 t0) (h1 : IsBytes W.heap.size W q1 l1 c1 t1) (h2 : IsBytes W.heap.size W q2 l2 c2 t2) :
    IsLists (W.heap.size + 1) (W.alloc (.cells #[.slice q0 l0 c0, .slice q1 l1 c1, .slice q2 l2 c2] 24)) (some ⟨W.heap.size, 0, none⟩) 3 3 [t0, t1, t2] := by
  have hb : Below W.heap.size W (W.alloc (.cells #[.slice q0 l0 c0, .slice q1 l1 c1, .slice q2 l2 c2] 24)) := (Below.refl _ W).alloc (Nat.le_refl _) _
  have hr := Row.new W 24 #[.slice q0 l0 c0, .slice q1 l1 c1, .slice q2 l2 c2]
  refine ⟨rfl, Nat.le_refl _, .inr ⟨W.heap.size, 0, rfl, by omega, fun i hi => ?_⟩⟩
  rw [Nat.zero_add]
  match i, hi with
  | 0, _ => exact ⟨_, _, _, hr.cell (i := 0) rfl, (h0.below hb).mono (by omega)⟩
  | 1, _ => exact ⟨_, _, _, hr.cell (i := 1) rfl, (h1.below hb).mono (by omega)⟩
  | 2, _ => exact ⟨_, _, _, hr.cell (i := 2) rfl, (h2.below hb).mono (by omega)⟩

/-- A literal's row, marked as a text's. -/
theorem conv_row {W : World} {g : Nat} {k : List Nat} (n c : Nat) (h : Row W g 5 (u8s k)) (hl : k.length = n) (hn : n ≤ 1000) (hz : ∀ z ∈ k, z < 256) (hc : n = c := by rfl) :
    ∃ W', (convert 24 24 (.slice (some ⟨g, 0, none⟩) n c)).run Tryz.prog W = .ok (.slice (some ⟨g, 0, none⟩) n c) W' ∧ IsBytes W'.heap.size W' (some ⟨g, 0, none⟩) n c k ∧ But g W.heap.size W W' := by
  subst hc
  have hsh : W.shape? g = some (5, (u8s k).toArray.size) := by
    unfold World.shape?
    rw [show W.heap[g]? = some (.cells (u8s k).toArray 5) from h]
  have hlt := h.lt
  have hg : (W.freeze ⟨g, (u8s k).toArray.size, none⟩ 1).heap[g]? = some (.cells (u8s k).toArray 5 ((u8s k).toArray.size, (u8s k).toArray.size + 1)) := by
    have h' : W.heap[g]? = some (.cells (u8s k).toArray 5) := h
    unfold World.freeze
    rw [if_neg (by decide)]
    simp only [Array.getElem?_modify, if_true, h', Option.map_some]
    rfl
  have hbut : But g W.heap.size W (W.freeze ⟨g, (u8s k).toArray.size, none⟩ 1) := by
    unfold World.freeze
    rw [if_neg (by decide)]
    refine ⟨rfl, rfl, rfl, by simp, fun x _ hx => ?_⟩
    simp only [Array.getElem?_modify]
    rw [if_neg (fun e => hx e.symm)]
  refine ⟨W.freeze ⟨g, (u8s k).toArray.size, none⟩ 1, ?_, ⟨hl, Nat.le_refl _, by omega, hz, .inr ⟨g, 0, rfl, by have := hbut.size; omega, fun i hi => ?_⟩⟩, hbut⟩
  · simp [convert, run_underlying Tryz.underlying24, run_underlying Tryz.underlying5, markStringish, hsh]
  · rw [Nat.zero_add, cell_of_row _ g i _ 5 _ hg]
    simpa using u8s_at (l := k) (i := i) (by omega)
theorem bytes_of_nn {W : World} {b : Nat} {mm nn : List Nat} (h : Row W b 39 (u8s mm)) (hl : mm.length = 32) (hz : ∀ z ∈ mm, z < 256) (hn : mm.take 12 = nn) : IsBytes W.heap.size W (some ⟨b, 0, none⟩) 12 32 nn := by
  rw [← hn]
  exact bytes_of_head h hl (by omega) hz (by omega)
theorem rangeAt_below {n b : Nat} {A B : World} (h : Below n A B) (hb : b < n) {o : Nat} {cs : List Value} (hr : A.rangeAt b o cs) : B.rangeAt b o cs := fun j v hv => (h.cell (p := ⟨b, o + j, none⟩) hb).trans (hr j v hv)

set_option maxRecDepth 100000 in
set_option maxHeartbeats 8000000 in
theorem refSeal_any (k : List Nat) (hk : IsKey32 k) (pa : Option Addr) (la ca : Nat) (za : List Nat) (hla : la ≤ 1000) (pp : Option Addr) (lp cp : Nat) (zp : List Nat) (hlp : lp ≤ 10000) (hbk : bucketN (lp : Int) ≤ 12000) (w : World)
    (hIa : IsBytes w.heap.size w pa la ca za) (hIp : IsBytes w.heap.size w pp lp cp zp) :
    Calls Tryz.prog 22 #[.agg (u8s k).toArray, .slice pa la ca, .slice pp lp cp] w fun e w' => ∃ v, e = .returned v ∧ Own w.heap.size w' v (sealN k za zp) ∧ Below w.heap.size w w' := by
  obtain ⟨bN, hbN⟩ : ∃ bN, bucketN (lp : Int) = bN := ⟨_, rfl⟩
  obtain ⟨zq, hzq⟩ : ∃ zq, Re.padL zp = zq := ⟨_, rfl⟩
  have HQl : Hid (zq.length = bN) := by show _ = _; rw [← hzq, ← hbN, ← hIp.1]; exact Re.padL_length (by rw [hIp.1]; omega)
  have HQz : Hid (∀ z ∈ zq, z < 256) := by rw [← hzq]; exact Re.padL_lt hIp.2.2.2.1
  obtain ⟨mm, hmm⟩ : ∃ mm, Sh.macN k (110 :: (lenB za.length ++ za ++ zq)) = mm := ⟨_, rfl⟩
  have HMl : Hid (mm.length = 32 ∧ ∀ z ∈ mm, z < 256) := by rw [← hmm]; exact ⟨Sh.macN_length _ _, Sh.macN_lt _ _⟩
  have hnn : nonceN k za zq = mm.take 12 := by unfold nonceN; rw [hmm]
  obtain ⟨nn, hn12⟩ : ∃ nn, mm.take 12 = nn := ⟨_, rfl⟩
  have HNl : Hid (nn.length = 12 ∧ ∀ z ∈ nn, z < 256) := by rw [← hn12]; exact ⟨by rw [List.length_take, HMl.out.1]; rfl, fun z hz => HMl.out.2 z (List.mem_of_mem_take hz)⟩
  obtain ⟨cc, hcc⟩ : ∃ cc, Re.streamN (useN k 101) 1 nn zq = cc := ⟨_, rfl⟩
  have HCl : Hid (cc.length = bN ∧ ∀ z ∈ cc, z < 256) := by rw [← hcc]; exact ⟨by rw [Re.streamN_length]; exact HQl.out, Re.streamN_lt _ _ _ HQz.out⟩
  obtain ⟨tt, htt⟩ : ∃ tt, tagN k za nn cc = tt := ⟨_, rfl⟩
  have HTl : Hid (tt.length = 32 ∧ ∀ z ∈ tt, z < 256) := by rw [← htt]; exact ⟨tagN_length _ _ _ _, tagN_lt _ _ _ _⟩
  have HSeal : Hid (sealN k za zp = nn ++ cc ++ tt) := by
    show _ = _
    unfold sealN turnedN
    rw [hzq, hnn, hn12, hcc, htt]
  have hb12 : bN ≤ 12000 := by omega
  have HVl : Hid ((u8s mm).length = 32) := by show _ = _; rw [u8s_length]; exact HMl.out.1
  have HV1 : Hid (∀ v ∈ u8s mm, v.oneCell' = true) := u8s_one _
  have HTv : Hid ((u8s tt).length = 32) := by show _ = _; rw [u8s_length]; exact HTl.out.1
  have HT1 : Hid (∀ v ∈ u8s tt, v.oneCell' = true) := u8s_one _
  have HKl : Hid ((u8s k).length = 32) := by show _ = _; rw [u8s_length]; exact hk.1
  have hac := hIa.2.1
  have hac2 := hIa.2.2.1
  have Ia : Hid (∀ W, Below w.heap.size w W → IsBytes W.heap.size W pa la ca za) := fun W hW => hIa.later hW
  have HPad : Hid (∀ W, Below w.heap.size w W → Calls Tryz.prog 45 #[.slice pp lp cp] W fun e w' => ∃ q c, e = .returned (.tuple #[.slice q bN c, .int .i64 0]) ∧ IsBytes w'.heap.size w' q bN c zq ∧ Below W.heap.size W w') := fun W hW => by
    refine (Re.refPad_some pp lp cp zp (by omega) W (hIp.later hW)).mono ?_
    rintro e w' ⟨q, c, rfl, hO, hb⟩
    rw [hbN] at hO ⊢
    rw [hzq] at hO
    exact ⟨q, c, rfl, hO.bytes HQz.out, hb⟩
  have HPut : Hid (∀ W, Calls Tryz.prog 46 #[.int .u64 (la : Nat), .int .i64 8] W fun e w' => ∃ q c, e = .returned (.slice q 8 c) ∧ IsBytes w'.heap.size w' q 8 c (lenB la) ∧ Below W.heap.size W w') := fun W => by
    refine (Re.put_any la 8 (by omega) W).mono ?_
    rintro e w' ⟨v, rfl, ho, hb⟩
    rw [lenB_put la (by omega)] at ho
    have hO : Own W.heap.size w' v (lenB la) := by unfold Own; rw [lenB_length]; exact ho
    obtain ⟨q, c, rfl⟩ := own_len hO (lenB_length la)
    exact ⟨q, c, rfl, hO.bytes (lenB_lt la), hb⟩
  have HM3 : Hid (∀ W q c, Row W w.heap.size 23 (u8s k) → IsBytes W.heap.size W q (1 + 8 + la + bN) c (110 :: (lenB za.length ++ za ++ zq)) → Calls Tryz.prog 43 #[.slice (some ⟨w.heap.size, 0, none⟩) 32 32, .slice q (1 + 8 + la + bN) c] W fun e w' => e = .returned (.agg (u8s mm).toArray) ∧ Below W.heap.size W w') := fun W q c hkW hL => by
    have h := Sh.refMac_any _ 32 32 k (by omega) q _ c _ (by omega) W (bytes_of_box hkW hk.1 (by omega) hk.2) hL
    rw [hmm] at h
    exact h
  have HC3 : Hid (∀ W b6, IsLists W.heap.size W (some ⟨b6, 0, none⟩) 4 4 [[110], lenB la, za, zq] → Calls Tryz.prog 47 #[.slice (some ⟨b6, 0, none⟩) 4 4] W fun e w' => ∃ q c, e = .returned (.slice q (1 + 8 + la + bN) c) ∧ IsBytes w'.heap.size w' q (1 + 8 + la + bN) c (110 :: (lenB za.length ++ za ++ zq)) ∧ Below W.heap.size W w') := fun W b6 hL => by
    have hzl := hIa.1
    have hzz := hIa.2.2.2.1
    have hfl : [[110], lenB la, za, zq].flatten.length = 1 + 8 + la + bN := by simp [lenB_length, hzl, HQl.out]; omega
    have e : [[110], lenB la, za, zq].flatten = 110 :: (lenB za.length ++ za ++ zq) := by rw [hzl]; simp [List.append_assoc]
    refine (Sh.refCat_any _ 4 4 (by omega) [[110], lenB la, za, zq] (by omega) W hL).mono ?_
    rintro e' w' ⟨q, c, rfl, hO, hb⟩
    rw [hfl] at hO ⊢
    refine ⟨q, c, rfl, ?_, hb⟩
    rw [← e]
    exact hO.bytes (fun z hz => by
      rw [e] at hz
      rcases List.mem_cons.1 hz with rfl | hz
      · omega
      · rcases List.mem_append.1 hz with hz | hz
        · rcases List.mem_append.1 hz with hz | hz
          · exact lenB_lt _ z hz
          · exact hzz z hz
        · exact HQz.out z hz)
  have HSt : Hid (∀ W q c, IsBytes W.heap.size W q bN c zq → Calls Tryz.prog 19 #[.agg (u8s (useN k 101)).toArray, .int .u32 1, .agg (u8s nn).toArray, .slice q bN c] W fun e w' => ∃ q2 c2, e = .returned (.slice q2 bN c2) ∧ IsBytes w'.heap.size w' q2 bN c2 cc ∧ Below W.heap.size W w') := fun W q c hL => by
    refine (Re.refStream_any (useN k 101) 1 nn (useN_key k 101) (by omega) HNl.out q bN c zq (by omega) W hL).mono ?_
    rintro e w' ⟨v, rfl, hO, hb⟩
    rw [hcc] at hO
    obtain ⟨q2, c2, rfl⟩ := own_len hO HCl.out.1
    exact ⟨q2, c2, rfl, hO.bytes HCl.out.2, hb⟩
  have HC5 : Hid (∀ W b6, IsLists W.heap.size W (some ⟨b6, 0, none⟩) 4 4 [lenB la, za, nn, cc] → Calls Tryz.prog 47 #[.slice (some ⟨b6, 0, none⟩) 4 4] W fun e w' => ∃ q c, e = .returned (.slice q (8 + la + 12 + bN) c) ∧ IsBytes w'.heap.size w' q (8 + la + 12 + bN) c (lenB za.length ++ za ++ nn ++ cc) ∧ Below W.heap.size W w') := fun W b6 hL => by
    have hzl := hIa.1
    have hzz := hIa.2.2.2.1
    have hfl : [lenB la, za, nn, cc].flatten.length = 8 + la + 12 + bN := by simp [lenB_length, hzl, HNl.out.1, HCl.out.1]; omega
    have e : [lenB la, za, nn, cc].flatten = lenB za.length ++ za ++ nn ++ cc := by rw [hzl]; simp [List.append_assoc]
    refine (Sh.refCat_any _ 4 4 (by omega) [lenB la, za, nn, cc] (by omega) W hL).mono ?_
    rintro e' w' ⟨q, c, rfl, hO, hb⟩
    rw [hfl] at hO ⊢
    refine ⟨q, c, rfl, ?_, hb⟩
    rw [← e]
    exact hO.bytes (fun z hz => by
      rw [e] at hz
      rcases List.mem_append.1 hz with hz | hz
      · rcases List.mem_append.1 hz with hz | hz
        · rcases List.mem_append.1 hz with hz | hz
          · exact lenB_lt _ z hz
          · exact hzz z hz
        · exact HNl.out.2 z hz
      · exact HCl.out.2 z hz)
  have HM5 : Hid (∀ W b1 q c, Row W b1 39 (u8s (useN k 109)) → IsBytes W.heap.size W q (8 + la + 12 + bN) c (lenB za.length ++ za ++ nn ++ cc) → Calls Tryz.prog 43 #[.slice (some ⟨b1, 0, none⟩) 32 32, .slice q (8 + la + 12 + bN) c] W fun e w' => e = .returned (.agg (u8s tt).toArray) ∧ Below W.heap.size W w') := fun W b1 q c hkW hL => by
    have h := Sh.refMac_any _ 32 32 (useN k 109) (by omega) q _ c _ (by omega) W (bytes_of_box hkW (useN_key k 109).1 (by omega) (useN_key k 109).2) hL
    rw [show Sh.macN (useN k 109) (lenB za.length ++ za ++ nn ++ cc) = tt from htt] at h
    exact h
  have HC6 : Hid (∀ W b6, IsLists W.heap.size W (some ⟨b6, 0, none⟩) 3 3 [nn, cc, tt] → Calls Tryz.prog 47 #[.slice (some ⟨b6, 0, none⟩) 3 3] W fun e w' => ∃ v, e = .returned v ∧ Own W.heap.size w' v (sealN k za zp) ∧ Below W.heap.size W w') := fun W b6 hL => by
    have hfl : [nn, cc, tt].flatten.length = 12 + bN + 32 := by simp [HNl.out.1, HCl.out.1, HTl.out.1]; omega
    have e : [nn, cc, tt].flatten = sealN k za zp := by rw [HSeal.out]; simp [List.append_assoc]
    refine (Sh.refCat_any _ 3 3 (by omega) [nn, cc, tt] (by omega) W hL).mono ?_
    rintro e' w' ⟨q, c, rfl, hO, hb⟩
    rw [e] at hO
    exact ⟨_, rfl, by rw [e]; exact hO, hb⟩
  have HU : Hid (∀ W, Calls Tryz.prog 20 #[.agg (u8s k).toArray, .string ⟨#[101]⟩] W fun e w' => ∃ g, e = .returned (.slice (some ⟨g, 0, none⟩) 32 32) ∧ W.heap.size ≤ g ∧ Row w' g 39 (u8s (useN k 101)) ∧ Below W.heap.size W w') := fun W => sub_any k hk 101 W
  have HU2 : Hid (∀ W, Calls Tryz.prog 20 #[.agg (u8s k).toArray, .string ⟨#[109]⟩] W fun e w' => ∃ g, e = .returned (.slice (some ⟨g, 0, none⟩) 32 32) ∧ W.heap.size ≤ g ∧ Row w' g 39 (u8s (useN k 109)) ∧ Below W.heap.size W w') := fun W => sub_any k hk 109 W
  have HN12 : Hid (mm.take 12 = nn) := hn12
  obtain ⟨w0, hw0⟩ : ∃ w0, w.alloc (.cells (u8s k).toArray 23) = w0 := ⟨_, rfl⟩
  have HW0 : Hid (w.alloc (.cells (u8s k).toArray 23) = w0) := hw0
  have hb0 : Below w.heap.size w w0 := by rw [← hw0]; exact (Below.refl _ w).alloc (Nat.le_refl _) _
  have HK0 : Hid (Row w0 w.heap.size 23 (u8s k)) := by rw [← hw0]; exact Row.new' w 23 (u8s k)
  have e64 : (la : Int) % 18446744073709551616 = (la : Int) := by omega
  clear hw0 hIa hIp hmm hnn hn12 hcc htt hzq hbN
  go_enter Tryz.func22, Tryz.ntmps22
  go_wp2_with (first
    | (go_at_call 45; rw [HW0.out]; refine (HPad.out w0 hb0).mono ?_; rintro e w1 ⟨qp, kp, rfl, hI1, hb1⟩; have HP1 : Hid (IsBytes w1.heap.size w1 qp bN kp zq) := hI1; have HK1 : Hid (Row w1 w.heap.size 23 (u8s k)) := Row.later HK0.out hb1; have hB1 : Below w.heap.size w w1 := hb0.trans (hb1.mono hb0.size); clear hI1 hb1 hb0 HK0)
    | (go_at_call 46; refine (HPut.out w1).mono ?_; rintro e w2 ⟨ql, kl, rfl, hI2, hb2⟩; have HL2 : Hid (IsBytes w2.heap.size w2 ql 8 kl (lenB la)) := hI2; have HP2 : Hid (IsBytes w2.heap.size w2 qp bN kp zq) := HP1.out.later hb2; have HK2 : Hid (Row w2 w.heap.size 23 (u8s k)) := Row.later HK1.out hb2; have hB2 : Below w.heap.size w w2 := hB1.trans (hb2.mono hB1.size); clear hI2 hb2 hB1 HP1 HK1))
  refine wp_region_cut (S := fun _ => True) (fun a' w' => ∃ (b9 : Nat) (s23 s24 s28 s29 : Value), a' = { tmps := #[.agg (u8s k).toArray, .slice pa la ca, .slice pp lp cp, .pointer (some ⟨w.heap.size, 0, none⟩), undef, undef, .slice none 0 0, .slice qp bN kp, .int .i64 0, .slice ql 8 kl, .pointer (some ⟨b9, 0, none⟩), undef, undef, .tuple #[.slice qp bN kp, .int .i64 0], .slice pp lp cp, .tuple #[.slice qp bN kp, .int .i64 0], .slice qp bN kp, .int .i64 0, .slice pa la ca, .int .i64 (la : Nat), .int .u64 (la : Nat), .slice ql 8 kl, .slice (some ⟨w.heap.size, 0, none⟩) 32 32, s23, s24, .slice ql 8 kl, .slice pa la ca, .slice qp bN kp, s28, s29, .agg (u8s mm).toArray, undef, undef, undef, undef, undef, undef, undef, undef, undef, undef, undef, undef, undef, undef, undef, undef, undef, undef, undef, undef, undef, undef, undef], defers := [] } ∧ w2.heap.size ≤ b9 ∧ Row w' b9 39 (u8s mm) ∧ Below w2.heap.size w2 w') (by kernel_rfl) trivial ?body3 ?tail3
  case body3 =>
    intro hHeld
    have B0 : Below w2.heap.size w2 w2.drew := (Below.refl _ w2).drew
    generalize w2.drew = W0 at *
    refine wpAnyH_takesAt 0 1 10 (of_decide_eq_true (by kernel_rfl)) rfl (fun _ _ _ d _ h => by cases d <;> exact h) (by kernel_rfl) (by kernel_rfl) hHeld ?_
    simp only [List.drop_zero, List.take_succ_cons, List.take_zero]
    iterate 1 (refine wpHeld_step (v := ?_) (by rfl) (fun wz hSw => ?_) ?_; rotate_left; (focus ((try dsimp only at hSw); go_simp; try with_reducible rfl)); ((simp only [Act.put]; (try simp only [List.setIfInBounds_toArray]); (try simp only [List.set_cons_succ]); (try simp only [List.set_cons_zero]))))
    refine wpHeld_nil ?_
    refine wpAnyH_takesAt 3 3 7 (of_decide_eq_true (by kernel_rfl)) rfl (fun _ _ _ d _ h => by cases d <;> exact h) (by kernel_rfl) (by kernel_rfl) hHeld ?_
    simp only [List.drop_succ_cons, List.drop_zero, List.take_succ_cons, List.take_zero]
    iterate 3 (refine wpHeld_step (v := ?_) (by rfl) (fun wz hSw => ?_) ?_; rotate_left; (focus ((try dsimp only at hSw); go_simp; try with_reducible rfl)); (simp only [Act.put, List.setIfInBounds_toArray, List.set_cons_zero, List.set_cons_succ]))
    refine wpHeld_nil ?_
    refine wpAnyH_either (i := 1) (j := 9) (by kernel_rfl) rfl rfl (fun K hK => ?_) (fun K hK => ?_)
    · rw [if_pos (by rfl)]
      go_simp
      refine hK.out _ _ trivial ?_
      clear hK K
      obtain ⟨W1, hW⟩ : ∃ W1, W0.alloc (.cells #[.int .u8 110] 5) = W1 := ⟨_, rfl⟩
      have hb : Below W0.heap.size W0 W1 := by rw [← hW]; exact (Below.refl _ W0).alloc (Nat.le_refl _) _
      have hb1 : w2.heap.size ≤ W0.heap.size := B0.size
      have B1 : Below w2.heap.size w2 W1 := B0.trans (hb.mono B0.size)
      have I1 : Row W1 W0.heap.size 5 (u8s [110]) := by rw [← hW]; exact Row.new' W0 5 [.int .u8 110]
      rw [hW]
      generalize W0.heap.size = b1 at I1 hb1 ⊢
      clear hW hb B0
      refine wpAnyH_either (i := 2) (j := 9) (by kernel_rfl) rfl rfl (fun K hK => ?_) (fun K hK => ?_)
      · rw [if_pos (by rfl)]
        obtain ⟨W2, hcv, hI, hbut⟩ := conv_row 1 1 I1 rfl (by omega) (by simp)
        go_simp
        refine hK.out _ _ trivial ?_
        clear hK K hcv
        have B2 : Below w2.heap.size w2 W2 := B1.trans (hbut.below B1.size hb1)
        have I2 : IsBytes W2.heap.size W2 (some ⟨b1, 0, none⟩) 1 1 [110] := hI
        clear hbut hI B1 I1
        refine wpAnyH_either (i := 6) (j := 9) (by kernel_rfl) rfl rfl (fun K hK => ?_) (fun K hK => ?_)
        · rw [if_pos (by rfl)]
          go_simp
          refine hK.out _ _ trivial ?_
          clear hK K
          have hL := lists_four I2 (HL2.out.later B2) (Ia.out _ (hB2.trans (B2.mono hB2.size))) (HP2.out.later B2)
          obtain ⟨W3, hW⟩ : ∃ W3, W2.alloc (.cells #[.slice (some ⟨b1, 0, none⟩) 1 1, .slice ql 8 kl, .slice pa la ca, .slice qp bN kp] 24) = W3 := ⟨_, rfl⟩
          have hb : Below W2.heap.size W2 W3 := by rw [← hW]; exact (Below.refl _ W2).alloc (Nat.le_refl _) _
          have L3 : IsLists W3.heap.size W3 (some ⟨W2.heap.size, 0, none⟩) 4 4 [[110], lenB la, za, zq] := by rw [← hW, World.size_alloc]; exact hL
          have B3 : Below w2.heap.size w2 W3 := B2.trans (hb.mono B2.size)
          rw [hW]
          generalize W2.heap.size = b6 at L3 ⊢
          clear hW hb hL I2 B2
          refine wpAnyH_either (i := 7) (j := 9) (by kernel_rfl) rfl rfl (fun K hK => ?_) (fun K hK => ?_)
          · rw [if_pos (by rfl)]
            go_simp
            refine (HC3.out _ b6 L3).mono ?_
            rintro e W4 ⟨q7, k7, rfl, hC, hb⟩
            have C4 : IsBytes W4.heap.size W4 q7 (1 + 8 + la + bN) k7 (110 :: (lenB za.length ++ za ++ zq)) := hC
            have B4 : Below w2.heap.size w2 W4 := B3.trans (hb.mono B3.size)
            refine hK.out _ _ trivial ?_
            clear hK K
            clear hb hC L3 B3
            refine wpAnyH_either (i := 8) (j := 9) (by kernel_rfl) rfl rfl (fun K hK => ?_) (fun K hK => ?_)
            · rw [if_pos (by rfl)]
              go_simp
              refine (HM3.out _ q7 k7 (Row.later HK2.out B4) C4).mono ?_
              rintro e W5 ⟨rfl, hb⟩
              have B5 : Below w2.heap.size w2 W5 := B4.trans (hb.mono B4.size)
              refine hK.out _ _ trivial ?_
              clear hK K
              clear hb C4 B4
              refine wpAnyH_only (i := 9) (by kernel_rfl) rfl (fun K hK => ?_)
              rw [if_pos (by rfl)]
              go_simp
              refine hK.out _ (W5.alloc (.cells noKey.toArray 39)) trivial ?_
              clear hK K
              obtain ⟨W6, hW⟩ : ∃ W6, W5.alloc (.cells noKey.toArray 39) = W6 := ⟨_, rfl⟩
              have hb : Below W5.heap.size W5 W6 := by rw [← hW]; exact (Below.refl _ W5).alloc (Nat.le_refl _) _
              have hb9 : w2.heap.size ≤ W5.heap.size := B5.size
              have R6 : Row W6 W5.heap.size 39 noKey := by rw [← hW]; exact Row.new' _ _ _
              have B6 : Below w2.heap.size w2 W6 := B5.trans (hb.mono B5.size)
              rw [hW]
              generalize W5.heap.size = b9 at R6 hb9 ⊢
              clear hW hb B5
              refine wpAnyH_only (i := 10) (by kernel_rfl) rfl (fun K hK => ?_)
              rw [if_pos (by rfl)]
              refine wp_store_mid 39 (.tmp 10) (.tmp 30) rfl b9 0 (u8s mm).toArray rfl rfl (by have h := Row.there R6; show World.there _ _ 0 (u8s mm).length; rw [HVl.out]; exact h) (by show _ = some (u8s mm).length; rw [HVl.out]; kernel_rfl) (by rw [List.all_toArray]; exact List.all_eq_true.2 HV1.out) ?_
              refine hK.out _ _ trivial ?_
              clear hK K
              refine wpAnyH_done (by kernel_rfl) ?_ _
              exact ⟨b9, _, _, _, _, rfl, hb9, Row.sets_all (vs := u8s mm) R6 (by rw [HVl.out]; rfl), below_setCells hb9 _ _ B6⟩
            · rw [if_pos (by rfl)]
              go_simp
              refine hK.out _ (W4.alloc (.cells noKey.toArray 39)) trivial ?_
              clear hK K
              obtain ⟨W5, hW⟩ : ∃ W5, W4.alloc (.cells noKey.toArray 39) = W5 := ⟨_, rfl⟩
              have hb : Below W4.heap.size W4 W5 := by rw [← hW]; exact (Below.refl _ W4).alloc (Nat.le_refl _) _
              have hb9 : w2.heap.size ≤ W4.heap.size := B4.size
              have R5 : Row W5 W4.heap.size 39 noKey := by rw [← hW]; exact Row.new' _ _ _
              have B5 : Below w2.heap.size w2 W5 := B4.trans (hb.mono B4.size)
              have C5 := IsBytes.later hb C4
              rw [hW]
              generalize W4.heap.size = b9 at R5 hb9 ⊢
              clear hW hb B4 C4
              refine wpAnyH_only (i := 8) (by kernel_rfl) rfl (fun K hK => ?_)
              rw [if_pos (by rfl)]
              go_simp
              refine (HM3.out _ q7 k7 (Row.later HK2.out B5) C5).mono ?_
              rintro e W6 ⟨rfl, hb⟩
              have B6 : Below w2.heap.size w2 W6 := B5.trans (hb.mono B5.size)
              have R6 := Row.later R5 hb
              refine hK.out _ _ trivial ?_
              clear hK K
              clear hb C5 B5 R5
              refine wpAnyH_only (i := 10) (by kernel_rfl) rfl (fun K hK => ?_)
              rw [if_pos (by rfl)]
              refine wp_store_mid 39 (.tmp 10) (.tmp 30) rfl b9 0 (u8s mm).toArray rfl rfl (by have h := Row.there R6; show World.there _ _ 0 (u8s mm).length; rw [HVl.out]; exact h) (by show _ = some (u8s mm).length; rw [HVl.out]; kernel_rfl) (by rw [List.all_toArray]; exact List.all_eq_true.2 HV1.out) ?_
              refine hK.out _ _ trivial ?_
              clear hK K
              refine wpAnyH_done (by kernel_rfl) ?_ _
              exact ⟨b9, _, _, _, _, rfl, hb9, Row.sets_all (vs := u8s mm) R6 (by rw [HVl.out]; rfl), below_setCells hb9 _ _ B6⟩
          · rw [if_pos (by rfl)]
            go_simp
            refine hK.out _ (W3.alloc (.cells noKey.toArray 39)) trivial ?_
            clear hK K
            obtain ⟨W4, hW⟩ : ∃ W4, W3.alloc (.cells noKey.toArray 39) = W4 := ⟨_, rfl⟩
            have hb : Below W3.heap.size W3 W4 := by rw [← hW]; exact (Below.refl _ W3).alloc (Nat.le_refl _) _
            have hb9 : w2.heap.size ≤ W3.heap.size := B3.size
            have R4 : Row W4 W3.heap.size 39 noKey := by rw [← hW]; exact Row.new' _ _ _
            have B4 : Below w2.heap.size w2 W4 := B3.trans (hb.mono B3.size)
            have L4 := IsLists.later hb L3
            rw [hW]
            generalize W3.heap.size = b9 at R4 hb9 ⊢
            clear hW hb B3 L3
            refine wpAnyH_only (i := 7) (by kernel_rfl) rfl (fun K hK => ?_)
            rw [if_pos (by rfl)]
            go_simp
            refine (HC3.out _ b6 L4).mono ?_
            rintro e W5 ⟨q7, k7, rfl, hC, hb⟩
            have C5 : IsBytes W5.heap.size W5 q7 (1 + 8 + la + bN) k7 (110 :: (lenB za.length ++ za ++ zq)) := hC
            have B5 : Below w2.heap.size w2 W5 := B4.trans (hb.mono B4.size)
            have R5 := Row.later R4 hb
            refine hK.out _ _ trivial ?_
            clear hK K
            clear hb hC L4 B4 R4
            refine wpAnyH_only (i := 8) (by kernel_rfl) rfl (fun K hK => ?_)
            rw [if_pos (by rfl)]
            go_simp
            refine (HM3.out _ q7 k7 (Row.later HK2.out B5) C5).mono ?_
            rintro e W6 ⟨rfl, hb⟩
            have B6 : Below w2.heap.size w2 W6 := B5.trans (hb.mono B5.size)
            have R6 := Row.later R5 hb
            refine hK.out _ _ trivial ?_
            clear hK K
            clear hb C5 B5 R5
            refine wpAnyH_only (i := 10) (by kernel_rfl) rfl (fun K hK => ?_)
            rw [if_pos (by rfl)]
            refine wp_store_mid 39 (.tmp 10) (.tmp 30) rfl b9 0 (u8s mm).toArray rfl rfl (by have h := Row.there R6; show World.there _ _ 0 (u8s mm).length; rw [HVl.out]; exact h) (by show _ = some (u8s mm).length; rw [HVl.out]; kernel_rfl) (by rw [List.all_toArray]; exact List.all_eq_true.2 HV1.out) ?_
            refine hK.out _ _ trivial ?_
            clear hK K
            refine wpAnyH_done (by kernel_rfl) ?_ _
            exact ⟨b9, _, _, _, _, rfl, hb9, Row.sets_all (vs := u8s mm) R6 (by rw [HVl.out]; rfl), below_setCells hb9 _ _ B6⟩
        · rw [if_pos (by rfl)]
          go_simp
          refine hK.out _ (W2.alloc (.cells noKey.toArray 39)) trivial ?_
          clear hK K
          obtain ⟨W3, hW⟩ : ∃ W3, W2.alloc (.cells noKey.toArray 39) = W3 := ⟨_, rfl⟩
          have hb : Below W2.heap.size W2 W3 := by rw [← hW]; exact (Below.refl _ W2).alloc (Nat.le_refl _) _
          have hb9 : w2.heap.size ≤ W2.heap.size := B2.size
          have R3 : Row W3 W2.heap.size 39 noKey := by rw [← hW]; exact Row.new' _ _ _
          have B3 : Below w2.heap.size w2 W3 := B2.trans (hb.mono B2.size)
          have I3 := IsBytes.later hb I2
          rw [hW]
          generalize W2.heap.size = b9 at R3 hb9 ⊢
          clear hW hb B2 I2
          refine wpAnyH_only (i := 6) (by kernel_rfl) rfl (fun K hK => ?_)
          rw [if_pos (by rfl)]
          go_simp
          refine hK.out _ _ trivial ?_
          clear hK K
          have hL := lists_four I3 (HL2.out.later B3) (Ia.out _ (hB2.trans (B3.mono hB2.size))) (HP2.out.later B3)
          obtain ⟨W4, hW⟩ : ∃ W4, W3.alloc (.cells #[.slice (some ⟨b1, 0, none⟩) 1 1, .slice ql 8 kl, .slice pa la ca, .slice qp bN kp] 24) = W4 := ⟨_, rfl⟩
          have hb : Below W3.heap.size W3 W4 := by rw [← hW]; exact (Below.refl _ W3).alloc (Nat.le_refl _) _
          have L4 : IsLists W4.heap.size W4 (some ⟨W3.heap.size, 0, none⟩) 4 4 [[110], lenB la, za, zq] := by rw [← hW, World.size_alloc]; exact hL
          have B4 : Below w2.heap.size w2 W4 := B3.trans (hb.mono B3.size)
          have R4 := Row.later R3 hb
          rw [hW]
          generalize W3.heap.size = b6 at L4 ⊢
          clear hW hb hL I3 B3 R3
          refine wpAnyH_only (i := 7) (by kernel_rfl) rfl (fun K hK => ?_)
          rw [if_pos (by rfl)]
          go_simp
          refine (HC3.out _ b6 L4).mono ?_
          rintro e W5 ⟨q7, k7, rfl, hC, hb⟩
          have C5 : IsBytes W5.heap.size W5 q7 (1 + 8 + la + bN) k7 (110 :: (lenB za.length ++ za ++ zq)) := hC
          have B5 : Below w2.heap.size w2 W5 := B4.trans (hb.mono B4.size)
          have R5 := Row.later R4 hb
          refine hK.out _ _ trivial ?_
          clear hK K
          clear hb hC L4 B4 R4
          refine wpAnyH_only (i := 8) (by kernel_rfl) rfl (fun K hK => ?_)
          rw [if_pos (by rfl)]
          go_simp
          refine (HM3.out _ q7 k7 (Row.later HK2.out B5) C5).mono ?_
          rintro e W6 ⟨rfl, hb⟩
          have B6 : Below w2.heap.size w2 W6 := B5.trans (hb.mono B5.size)
          have R6 := Row.later R5 hb
          refine hK.out _ _ trivial ?_
          clear hK K
          clear hb C5 B5 R5
          refine wpAnyH_only (i := 10) (by kernel_rfl) rfl (fun K hK => ?_)
          rw [if_pos (by rfl)]
          refine wp_store_mid 39 (.tmp 10) (.tmp 30) rfl b9 0 (u8s mm).toArray rfl rfl (by have h := Row.there R6; show World.there _ _ 0 (u8s mm).length; rw [HVl.out]; exact h) (by show _ = some (u8s mm).length; rw [HVl.out]; kernel_rfl) (by rw [List.all_toArray]; exact List.all_eq_true.2 HV1.out) ?_
          refine hK.out _ _ trivial ?_
          clear hK K
          refine wpAnyH_done (by kernel_rfl) ?_ _
          exact ⟨b9, _, _, _, _, rfl, hb9, Row.sets_all (vs := u8s mm) R6 (by rw [HVl.out]; rfl), below_setCells hb9 _ _ B6⟩
      · rw [if_pos (by rfl)]
        go_simp
        refine hK.out _ (W1.alloc (.cells noKey.toArray 39)) trivial ?_
        clear hK K
        obtain ⟨W2, hW⟩ : ∃ W2, W1.alloc (.cells noKey.toArray 39) = W2 := ⟨_, rfl⟩
        have hb : Below W1.heap.size W1 W2 := by rw [← hW]; exact (Below.refl _ W1).alloc (Nat.le_refl _) _
        have hb9 : w2.heap.size ≤ W1.heap.size := B1.size
        have hne : W1.heap.size ≠ b1 := by have := I1.lt; omega
        have R2 : Row W2 W1.heap.size 39 noKey := by rw [← hW]; exact Row.new' _ _ _
        have B2 : Below w2.heap.size w2 W2 := B1.trans (hb.mono B1.size)
        have I2 := Row.later I1 hb
        rw [hW]
        generalize W1.heap.size = b9 at R2 hb9 hne ⊢
        clear hW hb B1 I1
        refine wpAnyH_only (i := 2) (by kernel_rfl) rfl (fun K hK => ?_)
        rw [if_pos (by rfl)]
        obtain ⟨W3, hcv, hI, hbut⟩ := conv_row 1 1 I2 rfl (by omega) (by simp)
        go_simp
        refine hK.out _ _ trivial ?_
        clear hK K hcv
        have B3 : Below w2.heap.size w2 W3 := B2.trans (hbut.below B2.size hb1)
        have I3 : IsBytes W3.heap.size W3 (some ⟨b1, 0, none⟩) 1 1 [110] := hI
        have R3 := hbut.row R2.lt hne R2
        clear hbut hI B2 I2 R2
        refine wpAnyH_only (i := 6) (by kernel_rfl) rfl (fun K hK => ?_)
        rw [if_pos (by rfl)]
        go_simp
        refine hK.out _ _ trivial ?_
        clear hK K
        have hL := lists_four I3 (HL2.out.later B3) (Ia.out _ (hB2.trans (B3.mono hB2.size))) (HP2.out.later B3)
        obtain ⟨W4, hW⟩ : ∃ W4, W3.alloc (.cells #[.slice (some ⟨b1, 0, none⟩) 1 1, .slice ql 8 kl, .slice pa la ca, .slice qp bN kp] 24) = W4 := ⟨_, rfl⟩
        have hb : Below W3.heap.size W3 W4 := by rw [← hW]; exact (Below.refl _ W3).alloc (Nat.le_refl _) _
        have L4 : IsLists W4.heap.size W4 (some ⟨W3.heap.size, 0, none⟩) 4 4 [[110], lenB la, za, zq] := by rw [← hW, World.size_alloc]; exact hL
        have B4 : Below w2.heap.size w2 W4 := B3.trans (hb.mono B3.size)
        have R4 := Row.later R3 hb
        rw [hW]
        generalize W3.heap.size = b6 at L4 ⊢
        clear hW hb hL I3 B3 R3
        refine wpAnyH_only (i := 7) (by kernel_rfl) rfl (fun K hK => ?_)
        rw [if_pos (by rfl)]
        go_simp
        refine (HC3.out _ b6 L4).mono ?_
        rintro e W5 ⟨q7, k7, rfl, hC, hb⟩
        have C5 : IsBytes W5.heap.size W5 q7 (1 + 8 + la + bN) k7 (110 :: (lenB za.length ++ za ++ zq)) := hC
        have B5 : Below w2.heap.size w2 W5 := B4.trans (hb.mono B4.size)
        have R5 := Row.later R4 hb
        refine hK.out _ _ trivial ?_
        clear hK K
        clear hb hC L4 B4 R4
        refine wpAnyH_only (i := 8) (by kernel_rfl) rfl (fun K hK => ?_)
        rw [if_pos (by rfl)]
        go_simp
        refine (HM3.out _ q7 k7 (Row.later HK2.out B5) C5).mono ?_
        rintro e W6 ⟨rfl, hb⟩
        have B6 : Below w2.heap.size w2 W6 := B5.trans (hb.mono B5.size)
        have R6 := Row.later R5 hb
        refine hK.out _ _ trivial ?_
        clear hK K
        clear hb C5 B5 R5
        refine wpAnyH_only (i := 10) (by kernel_rfl) rfl (fun K hK => ?_)
        rw [if_pos (by rfl)]
        refine wp_store_mid 39 (.tmp 10) (.tmp 30) rfl b9 0 (u8s mm).toArray rfl rfl (by have h := Row.there R6; show World.there _ _ 0 (u8s mm).length; rw [HVl.out]; exact h) (by show _ = some (u8s mm).length; rw [HVl.out]; kernel_rfl) (by rw [List.all_toArray]; exact List.all_eq_true.2 HV1.out) ?_
        refine hK.out _ _ trivial ?_
        clear hK K
        refine wpAnyH_done (by kernel_rfl) ?_ _
        exact ⟨b9, _, _, _, _, rfl, hb9, Row.sets_all (vs := u8s mm) R6 (by rw [HVl.out]; rfl), below_setCells hb9 _ _ B6⟩
    · rw [if_pos (by rfl)]
      go_simp
      refine hK.out _ (W0.alloc (.cells noKey.toArray 39)) trivial ?_
      clear hK K
      obtain ⟨W1, hW⟩ : ∃ W1, W0.alloc (.cells noKey.toArray 39) = W1 := ⟨_, rfl⟩
      have hb : Below W0.heap.size W0 W1 := by rw [← hW]; exact (Below.refl _ W0).alloc (Nat.le_refl _) _
      have hb9 : w2.heap.size ≤ W0.heap.size := B0.size
      have R1 : Row W1 W0.heap.size 39 noKey := by rw [← hW]; exact Row.new' _ _ _
      have B1 : Below w2.heap.size w2 W1 := B0.trans (hb.mono B0.size)
      rw [hW]
      generalize W0.heap.size = b9 at R1 hb9 ⊢
      clear hW hb B0
      refine wpAnyH_only (i := 1) (by kernel_rfl) rfl (fun K hK => ?_)
      rw [if_pos (by rfl)]
      go_simp
      refine hK.out _ _ trivial ?_
      clear hK K
      obtain ⟨W2, hW⟩ : ∃ W2, W1.alloc (.cells #[.int .u8 110] 5) = W2 := ⟨_, rfl⟩
      have hb : Below W1.heap.size W1 W2 := by rw [← hW]; exact (Below.refl _ W1).alloc (Nat.le_refl _) _
      have hb1 : w2.heap.size ≤ W1.heap.size := B1.size
      have hne : b9 ≠ W1.heap.size := by have := R1.lt; omega
      have B2 : Below w2.heap.size w2 W2 := B1.trans (hb.mono B1.size)
      have R2 := Row.later R1 hb
      have I2 : Row W2 W1.heap.size 5 (u8s [110]) := by rw [← hW]; exact Row.new' W1 5 [.int .u8 110]
      rw [hW]
      generalize W1.heap.size = b1 at I2 hb1 hne ⊢
      clear hW hb B1 R1
      refine wpAnyH_only (i := 2) (by kernel_rfl) rfl (fun K hK => ?_)
      rw [if_pos (by rfl)]
      obtain ⟨W3, hcv, hI, hbut⟩ := conv_row 1 1 I2 rfl (by omega) (by simp)
      go_simp
      refine hK.out _ _ trivial ?_
      clear hK K hcv
      have B3 : Below w2.heap.size w2 W3 := B2.trans (hbut.below B2.size hb1)
      have I3 : IsBytes W3.heap.size W3 (some ⟨b1, 0, none⟩) 1 1 [110] := hI
      have R3 := hbut.row R2.lt hne R2
      clear hbut hI B2 I2 R2
      refine wpAnyH_only (i := 6) (by kernel_rfl) rfl (fun K hK => ?_)
      rw [if_pos (by rfl)]
      go_simp
      refine hK.out _ _ trivial ?_
      clear hK K
      have hL := lists_four I3 (HL2.out.later B3) (Ia.out _ (hB2.trans (B3.mono hB2.size))) (HP2.out.later B3)
      obtain ⟨W4, hW⟩ : ∃ W4, W3.alloc (.cells #[.slice (some ⟨b1, 0, none⟩) 1 1, .slice ql 8 kl, .slice pa la ca, .slice qp bN kp] 24) = W4 := ⟨_, rfl⟩
      have hb : Below W3.heap.size W3 W4 := by rw [← hW]; exact (Below.refl _ W3).alloc (Nat.le_refl _) _
      have L4 : IsLists W4.heap.size W4 (some ⟨W3.heap.size, 0, none⟩) 4 4 [[110], lenB la, za, zq] := by rw [← hW, World.size_alloc]; exact hL
      have B4 : Below w2.heap.size w2 W4 := B3.trans (hb.mono B3.size)
      have R4 := Row.later R3 hb
      rw [hW]
      generalize W3.heap.size = b6 at L4 ⊢
      clear hW hb hL I3 B3 R3
      refine wpAnyH_only (i := 7) (by kernel_rfl) rfl (fun K hK => ?_)
      rw [if_pos (by rfl)]
      go_simp
      refine (HC3.out _ b6 L4).mono ?_
      rintro e W5 ⟨q7, k7, rfl, hC, hb⟩
      have C5 : IsBytes W5.heap.size W5 q7 (1 + 8 + la + bN) k7 (110 :: (lenB za.length ++ za ++ zq)) := hC
      have B5 : Below w2.heap.size w2 W5 := B4.trans (hb.mono B4.size)
      have R5 := Row.later R4 hb
      refine hK.out _ _ trivial ?_
      clear hK K
      clear hb hC L4 B4 R4
      refine wpAnyH_only (i := 8) (by kernel_rfl) rfl (fun K hK => ?_)
      rw [if_pos (by rfl)]
      go_simp
      refine (HM3.out _ q7 k7 (Row.later HK2.out B5) C5).mono ?_
      rintro e W6 ⟨rfl, hb⟩
      have B6 : Below w2.heap.size w2 W6 := B5.trans (hb.mono B5.size)
      have R6 := Row.later R5 hb
      refine hK.out _ _ trivial ?_
      clear hK K
      clear hb C5 B5 R5
      refine wpAnyH_only (i := 10) (by kernel_rfl) rfl (fun K hK => ?_)
      rw [if_pos (by rfl)]
      refine wp_store_mid 39 (.tmp 10) (.tmp 30) rfl b9 0 (u8s mm).toArray rfl rfl (by have h := Row.there R6; show World.there _ _ 0 (u8s mm).length; rw [HVl.out]; exact h) (by show _ = some (u8s mm).length; rw [HVl.out]; kernel_rfl) (by rw [List.all_toArray]; exact List.all_eq_true.2 HV1.out) ?_
      refine hK.out _ _ trivial ?_
      clear hK K
      refine wpAnyH_done (by kernel_rfl) ?_ _
      exact ⟨b9, _, _, _, _, rfl, hb9, Row.sets_all (vs := u8s mm) R6 (by rw [HVl.out]; rfl), below_setCells hb9 _ _ B6⟩
  case tail3 =>
    rintro a' w3 ⟨b9, s23, s24, s28, s29, rfl, hb9, r9, hb3⟩
    have HN3 : Hid (Row w3 b9 39 (u8s mm)) := r9
    have HK3 : Hid (Row w3 w.heap.size 23 (u8s k)) := Row.later HK2.out hb3
    have HL3 : Hid (IsBytes w3.heap.size w3 ql 8 kl (lenB la)) := HL2.out.later hb3
    have HP3 : Hid (IsBytes w3.heap.size w3 qp bN kp zq) := HP2.out.later hb3
    have hB3 : Below w.heap.size w w3 := hB2.trans (hb3.mono hB2.size)
    have HNv : Hid ((u8s nn).length = 12) := by show _ = _; rw [u8s_length]; exact HNl.out.1
    have HNr : Hid (w3.rangeAt b9 0 (u8s nn)) := by rw [← HN12.out, u8s_take]; exact row_take HN3.out 12
    have h9l := r9.lt
    have hkl := (Row.later HK2.out hb3).lt
    have hAt := run_arrayAt54 b9 0 12 32 (Nat.le_refl _)
    clear r9 hb3 hB2 HK2 HL2 HP2 hb9
    go_wp2
    refine wp_region_held_drew (S := fun W => Below w3.heap.size w3 W) (by kernel_rfl) (Below.refl _ _).drew (fun hHeld => ?_)
    refine wpAnyH_takesAt 0 1 9 (of_decide_eq_true (by kernel_rfl)) rfl (fun _ _ _ d _ h => by cases d <;> exact h) (by kernel_rfl) (by kernel_rfl) hHeld ?_
    simp only [List.drop_zero, List.take_succ_cons, List.take_zero]
    refine wpHeld_load (by rfl) 23 (.tmp 3) rfl w.heap.size (0) rfl (u8s k) (fun W hW => (Row.later HK3.out hW).range) Tryz.underlying23 (by rw [HKl.out]; exact size23) ?_
    (simp only [Act.put]; (try simp only [List.setIfInBounds_toArray]); (try simp only [List.set_cons_succ]); (try simp only [List.set_cons_zero]))
    refine wpHeld_nil ?_
    refine wpAnyH_takesAt 4 2 7 (of_decide_eq_true (by kernel_rfl)) rfl (fun _ _ _ d _ h => by cases d <;> exact h) (by kernel_rfl) (by kernel_rfl) hHeld ?_
    simp only [List.drop_succ_cons, List.drop_zero, List.take_succ_cons, List.take_zero]
    iterate 2 (refine wpHeld_step (v := ?_) (by rfl) (fun wz hSw => ?_) ?_; rotate_left; (focus ((try dsimp only at hSw); go_simp; try with_reducible rfl)); (simp only [Act.put, List.setIfInBounds_toArray, List.set_cons_zero, List.set_cons_succ]))
    refine wpHeld_nil ?_
    refine wpAnyH_takesAt 6 1 6 (of_decide_eq_true (by kernel_rfl)) rfl (fun _ _ _ d _ h => by cases d <;> exact h) (by kernel_rfl) (by kernel_rfl) hHeld ?_
    simp only [List.drop_succ_cons, List.drop_zero, List.take_succ_cons, List.take_zero]
    refine wpHeld_load (by rfl) 54 (.tmp 36) rfl b9 (0) rfl (u8s nn) (fun W hW => rangeAt_below hW h9l HNr.out) Tryz.underlying54 (by rw [HNv.out]; exact size54) ?_
    (simp only [Act.put]; (try simp only [List.setIfInBounds_toArray]); (try simp only [List.set_cons_succ]); (try simp only [List.set_cons_zero]))
    refine wpHeld_nil ?_
    refine wpAnyH_takesAt 7 1 5 (of_decide_eq_true (by kernel_rfl)) rfl (fun _ _ _ d _ h => by cases d <;> exact h) (by kernel_rfl) (by kernel_rfl) hHeld ?_
    simp only [List.drop_succ_cons, List.drop_zero, List.take_succ_cons, List.take_zero]
    iterate 1 (refine wpHeld_step (v := ?_) (by rfl) (fun wz hSw => ?_) ?_; rotate_left; (focus ((try dsimp only at hSw); go_simp; try with_reducible rfl)); ((simp only [Act.put]; (try simp only [List.setIfInBounds_toArray]); (try simp only [List.set_cons_succ]); (try simp only [List.set_cons_zero]))))
    refine wpHeld_nil ?_
    refine wpAnyH_only (i := 1) (by kernel_rfl) rfl (fun K hK => ?_)
    rw [if_pos (by rfl)]
    go_simp
    refine (HU.out w3.drew).mono ?_
    rintro e w4' ⟨g1, rfl, hg1, hU1, hb4'⟩
    have h34 : Below w3.heap.size w3 w4' := (Below.refl _ w3).drew.trans hb4'
    refine hK.out _ _ h34 ?_
    clear hK K hHeld
    refine wpAnyH_more (S' := fun W => Below w4'.heap.size w4' W) (fun W h => h34.trans (h.mono h34.size)) _ _ _ _ ?_
    have hHeld := Below.refl w4'.heap.size w4'
    have hAt2 := run_arrayAt23 g1 0 32 32 (Nat.le_refl _)
    have HUv : Hid ((u8s (useN k 101)).length = 32) := by show _ = _; rw [u8s_length]; exact (useN_key k 101).1
    refine wpAnyH_takesAt 2 1 3 (of_decide_eq_true (by kernel_rfl)) rfl (fun _ _ _ d _ h => by cases d <;> exact h) (by kernel_rfl) (by kernel_rfl) hHeld ?_
    simp only [List.drop_succ_cons, List.drop_zero, List.take_succ_cons, List.take_zero]
    iterate 1 (refine wpHeld_step (v := ?_) (by rfl) (fun wz hSw => ?_) ?_; rotate_left; (focus ((try dsimp only at hSw); go_simp; try with_reducible rfl)); ((simp only [Act.put]; (try simp only [List.setIfInBounds_toArray]); (try simp only [List.set_cons_succ]); (try simp only [List.set_cons_zero]))))
    refine wpHeld_nil ?_
    refine wpAnyH_takesAt 3 1 2 (of_decide_eq_true (by kernel_rfl)) rfl (fun _ _ _ d _ h => by cases d <;> exact h) (by kernel_rfl) (by kernel_rfl) hHeld ?_
    simp only [List.drop_succ_cons, List.drop_zero, List.take_succ_cons, List.take_zero]
    refine wpHeld_load (by rfl) 23 (.tmp 33) rfl g1 (0) rfl (u8s (useN k 101)) (fun W hW => (Row.later hU1 hW).range) Tryz.underlying23 (by rw [HUv.out]; exact size23) ?_
    (simp only [Act.put]; (try simp only [List.setIfInBounds_toArray]); (try simp only [List.set_cons_succ]); (try simp only [List.set_cons_zero]))
    refine wpHeld_nil ?_
    refine wpAnyH_only (i := 8) (by kernel_rfl) rfl (fun K hK => ?_)
    rw [if_pos (by rfl)]
    go_simp
    refine (HSt.out w4' qp kp (HP3.out.later h34)).mono ?_
    rintro e w4 ⟨qc, kc, rfl, hC4, hb4⟩
    have h3w4 : Below w3.heap.size w3 w4 := h34.trans (hb4.mono h34.size)
    have HC4 : Hid (IsBytes w4.heap.size w4 qc bN kc cc) := hC4
    have HN4 : Hid (Row w4 b9 39 (u8s mm)) := Row.later HN3.out h3w4
    have HK4 : Hid (Row w4 w.heap.size 23 (u8s k)) := Row.later HK3.out h3w4
    have HL4 : Hid (IsBytes w4.heap.size w4 ql 8 kl (lenB la)) := HL3.out.later h3w4
    have hB4 : Below w.heap.size w w4 := hB3.trans (h3w4.mono hB3.size)
    refine hK.out _ _ hb4 ?_
    clear hK K hHeld
    have hHeld := hb4
    refine wpAnyH_takesAt 9 1 0 (of_decide_eq_true (by kernel_rfl)) rfl (fun _ _ _ d _ h => by cases d <;> exact h) (by kernel_rfl) (by kernel_rfl) hHeld ?_
    simp only [List.drop_succ_cons, List.drop_zero, List.take_succ_cons, List.take_zero]
    iterate 1 (refine wpHeld_step (v := ?_) (by rfl) (fun wz hSw => ?_) ?_; rotate_left; (focus ((try dsimp only at hSw); go_simp; try with_reducible rfl)); ((simp only [Act.put]; (try simp only [List.setIfInBounds_toArray]); (try simp only [List.set_cons_succ]); (try simp only [List.set_cons_zero]))))
    refine wpHeld_nil ?_
    refine wpAnyH_done (by kernel_rfl) ?_ _
    clear hHeld hb4 h34 hb4' hU1 hg1 hC4 h3w4 HN3 HK3 HL3 HP3 hB3 HNr hAt hAt2 HU HSt
    go_wp2
    refine wp_region_cut (S := fun W => Below w4.heap.size w4 W) (fun a' w' => ∃ (b12 : Nat) (s41 s46 s47 : Value), a' = { tmps := #[.agg (u8s k).toArray, .slice pa la ca, .slice pp lp cp, .pointer (some ⟨w.heap.size, 0, none⟩), undef, undef, .slice none 0 0, .slice qp bN kp, .int .i64 0, .slice ql 8 kl, .pointer (some ⟨b9, 0, none⟩), .slice qc bN kc, .pointer (some ⟨b12, 0, none⟩), .tuple #[.slice qp bN kp, .int .i64 0], .slice pp lp cp, .tuple #[.slice qp bN kp, .int .i64 0], .slice qp bN kp, .int .i64 0, .slice pa la ca, .int .i64 (la : Nat), .int .u64 (la : Nat), .slice ql 8 kl, .slice (some ⟨w.heap.size, 0, none⟩) 32 32, s23, s24, .slice ql 8 kl, .slice pa la ca, .slice qp bN kp, s28, s29, .agg (u8s mm).toArray, .agg (u8s k).toArray, .slice (some ⟨g1, 0, none⟩) 32 32, .pointer (some ⟨g1, 0, none⟩), .agg (u8s (useN k 101)).toArray, .slice (some ⟨b9, 0, none⟩) 12 32, .pointer (some ⟨b9, 0, none⟩), .agg (u8s nn).toArray, .slice qp bN kp, .slice qc bN kc, .agg (u8s k).toArray, s41, .slice ql 8 kl, .slice pa la ca, .slice (some ⟨b9, 0, none⟩) 12 32, .slice qc bN kc, s46, s47, .agg (u8s tt).toArray, undef, undef, undef, undef, undef], defers := [] } ∧ w4.heap.size ≤ b12 ∧ Row w' b12 39 (u8s tt) ∧ Below w4.heap.size w4 w') (by kernel_rfl) (Below.refl _ _).drew ?body5 ?tail5
    case body5 =>
      intro hHeld
      refine wpAnyH_takesAt 0 1 10 (of_decide_eq_true (by kernel_rfl)) rfl (fun _ _ _ d _ h => by cases d <;> exact h) (by kernel_rfl) (by kernel_rfl) hHeld ?_
      simp only [List.drop_zero, List.take_succ_cons, List.take_zero]
      refine wpHeld_load (by rfl) 23 (.tmp 3) rfl w.heap.size (0) rfl (u8s k) (fun W hW => (Row.later HK4.out hW).range) Tryz.underlying23 (by rw [HKl.out]; exact size23) ?_
      (simp only [Act.put]; (try simp only [List.setIfInBounds_toArray]); (try simp only [List.set_cons_succ]); (try simp only [List.set_cons_zero]))
      refine wpHeld_nil ?_
      refine wpAnyH_takesAt 2 4 6 (of_decide_eq_true (by kernel_rfl)) rfl (fun _ _ _ d _ h => by cases d <;> exact h) (by kernel_rfl) (by kernel_rfl) hHeld ?_
      simp only [List.drop_succ_cons, List.drop_zero, List.take_succ_cons, List.take_zero]
      iterate 4 (refine wpHeld_step (v := ?_) (by rfl) (fun wz hSw => ?_) ?_; rotate_left; (focus ((try dsimp only at hSw); go_simp; try with_reducible rfl)); (simp only [Act.put, List.setIfInBounds_toArray, List.set_cons_zero, List.set_cons_succ]))
      refine wpHeld_nil ?_
      have B0 : Below w4.heap.size w4 w4.drew := (Below.refl _ w4).drew
      clear hHeld
      generalize w4.drew = W0 at *
      refine wpAnyH_three (i := 1) (j := 6) (k := 9) (by kernel_rfl) rfl rfl rfl (fun K hK => ?_) (fun K hK => ?_) (fun K hK => ?_)
      · rw [if_pos (by rfl)]
        go_simp
        refine (HU2.out W0).mono ?_
        rintro e W1 ⟨b1, rfl, _, hU, hb⟩
        have B1 : Below w4.heap.size w4 W1 := B0.trans (hb.mono B0.size)
        have U1 : Row W1 b1 39 (u8s (useN k 109)) := hU
        refine hK.out _ _ B1 ?_
        clear hK K
        clear hb hU B0
        refine wpAnyH_either (i := 6) (j := 9) (by kernel_rfl) rfl rfl (fun K hK => ?_) (fun K hK => ?_)
        · rw [if_pos (by rfl)]
          go_simp
          refine hK.out _ _ (B1.trans (((Below.refl _ W1).alloc (Nat.le_refl _) _).mono B1.size)) ?_
          clear hK K
          have hL := lists_four (HL4.out.later B1) (Ia.out _ (hB4.trans (B1.mono hB4.size))) (bytes_of_nn (Row.later HN4.out B1) HMl.out.1 HMl.out.2 HN12.out) (HC4.out.later B1)
          obtain ⟨W2, hW⟩ : ∃ W2, W1.alloc (.cells #[.slice ql 8 kl, .slice pa la ca, .slice (some ⟨b9, 0, none⟩) 12 32, .slice qc bN kc] 24) = W2 := ⟨_, rfl⟩
          have hb : Below W1.heap.size W1 W2 := by rw [← hW]; exact (Below.refl _ W1).alloc (Nat.le_refl _) _
          have L2 : IsLists W2.heap.size W2 (some ⟨W1.heap.size, 0, none⟩) 4 4 [lenB la, za, nn, cc] := by rw [← hW, World.size_alloc]; exact hL
          have B2 : Below w4.heap.size w4 W2 := B1.trans (hb.mono B1.size)
          have U2 := Row.later U1 hb
          rw [hW]
          generalize W1.heap.size = b6 at L2 ⊢
          clear hW hb hL B1 U1
          refine wpAnyH_either (i := 7) (j := 9) (by kernel_rfl) rfl rfl (fun K hK => ?_) (fun K hK => ?_)
          · rw [if_pos (by rfl)]
            go_simp
            refine (HC5.out _ b6 L2).mono ?_
            rintro e W3 ⟨q7, k7, rfl, hC, hb⟩
            have C3 : IsBytes W3.heap.size W3 q7 (8 + la + 12 + bN) k7 (lenB za.length ++ za ++ nn ++ cc) := hC
            have B3 : Below w4.heap.size w4 W3 := B2.trans (hb.mono B2.size)
            have U3 := Row.later U2 hb
            refine hK.out _ _ B3 ?_
            clear hK K
            clear hb hC L2 B2 U2
            refine wpAnyH_either (i := 8) (j := 9) (by kernel_rfl) rfl rfl (fun K hK => ?_) (fun K hK => ?_)
            · rw [if_pos (by rfl)]
              go_simp
              refine (HM5.out _ b1 q7 k7 U3 C3).mono ?_
              rintro e W4 ⟨rfl, hb⟩
              have B4 : Below w4.heap.size w4 W4 := B3.trans (hb.mono B3.size)
              refine hK.out _ _ B4 ?_
              clear hK K
              clear hb C3 U3 B3
              refine wpAnyH_only (i := 9) (by kernel_rfl) rfl (fun K hK => ?_)
              rw [if_pos (by rfl)]
              go_simp
              refine hK.out _ (W4.alloc (.cells noKey.toArray 39)) (B4.trans (((Below.refl _ W4).alloc (Nat.le_refl _) _).mono B4.size)) ?_
              clear hK K
              obtain ⟨W5, hW⟩ : ∃ W5, W4.alloc (.cells noKey.toArray 39) = W5 := ⟨_, rfl⟩
              have hb : Below W4.heap.size W4 W5 := by rw [← hW]; exact (Below.refl _ W4).alloc (Nat.le_refl _) _
              have hb12 : w4.heap.size ≤ W4.heap.size := B4.size
              have R5 : Row W5 W4.heap.size 39 noKey := by rw [← hW]; exact Row.new' _ _ _
              have B5 : Below w4.heap.size w4 W5 := B4.trans (hb.mono B4.size)
              rw [hW]
              generalize W4.heap.size = b12 at R5 hb12 ⊢
              clear hW hb B4
              refine wpAnyH_only (i := 10) (by kernel_rfl) rfl (fun K hK => ?_)
              rw [if_pos (by rfl)]
              refine wp_store_mid 39 (.tmp 12) (.tmp 48) rfl b12 0 (u8s tt).toArray rfl rfl (by have h := Row.there R5; show World.there _ _ 0 (u8s tt).length; rw [HTv.out]; exact h) (by show _ = some (u8s tt).length; rw [HTv.out]; kernel_rfl) (by rw [List.all_toArray]; exact List.all_eq_true.2 HT1.out) ?_
              refine hK.out _ _ (below_setCells hb12 _ _ B5) ?_
              clear hK K
              refine wpAnyH_done (by kernel_rfl) ?_ _
              exact ⟨b12, _, _, _, rfl, hb12, Row.sets_all (vs := u8s tt) R5 (by rw [HTv.out]; rfl), below_setCells hb12 _ _ B5⟩
            · rw [if_pos (by rfl)]
              go_simp
              refine hK.out _ (W3.alloc (.cells noKey.toArray 39)) (B3.trans (((Below.refl _ W3).alloc (Nat.le_refl _) _).mono B3.size)) ?_
              clear hK K
              obtain ⟨W4, hW⟩ : ∃ W4, W3.alloc (.cells noKey.toArray 39) = W4 := ⟨_, rfl⟩
              have hb : Below W3.heap.size W3 W4 := by rw [← hW]; exact (Below.refl _ W3).alloc (Nat.le_refl _) _
              have hb12 : w4.heap.size ≤ W3.heap.size := B3.size
              have R4 : Row W4 W3.heap.size 39 noKey := by rw [← hW]; exact Row.new' _ _ _
              have B4 : Below w4.heap.size w4 W4 := B3.trans (hb.mono B3.size)
              have U4 := Row.later U3 hb
              have C4 := IsBytes.later hb C3
              rw [hW]
              generalize W3.heap.size = b12 at R4 hb12 ⊢
              clear hW hb B3 U3 C3
              refine wpAnyH_only (i := 8) (by kernel_rfl) rfl (fun K hK => ?_)
              rw [if_pos (by rfl)]
              go_simp
              refine (HM5.out _ b1 q7 k7 U4 C4).mono ?_
              rintro e W5 ⟨rfl, hb⟩
              have B5 : Below w4.heap.size w4 W5 := B4.trans (hb.mono B4.size)
              have R5 := Row.later R4 hb
              refine hK.out _ _ B5 ?_
              clear hK K
              clear hb C4 U4 B4 R4
              refine wpAnyH_only (i := 10) (by kernel_rfl) rfl (fun K hK => ?_)
              rw [if_pos (by rfl)]
              refine wp_store_mid 39 (.tmp 12) (.tmp 48) rfl b12 0 (u8s tt).toArray rfl rfl (by have h := Row.there R5; show World.there _ _ 0 (u8s tt).length; rw [HTv.out]; exact h) (by show _ = some (u8s tt).length; rw [HTv.out]; kernel_rfl) (by rw [List.all_toArray]; exact List.all_eq_true.2 HT1.out) ?_
              refine hK.out _ _ (below_setCells hb12 _ _ B5) ?_
              clear hK K
              refine wpAnyH_done (by kernel_rfl) ?_ _
              exact ⟨b12, _, _, _, rfl, hb12, Row.sets_all (vs := u8s tt) R5 (by rw [HTv.out]; rfl), below_setCells hb12 _ _ B5⟩
          · rw [if_pos (by rfl)]
            go_simp
            refine hK.out _ (W2.alloc (.cells noKey.toArray 39)) (B2.trans (((Below.refl _ W2).alloc (Nat.le_refl _) _).mono B2.size)) ?_
            clear hK K
            obtain ⟨W3, hW⟩ : ∃ W3, W2.alloc (.cells noKey.toArray 39) = W3 := ⟨_, rfl⟩
            have hb : Below W2.heap.size W2 W3 := by rw [← hW]; exact (Below.refl _ W2).alloc (Nat.le_refl _) _
            have hb12 : w4.heap.size ≤ W2.heap.size := B2.size
            have R3 : Row W3 W2.heap.size 39 noKey := by rw [← hW]; exact Row.new' _ _ _
            have B3 : Below w4.heap.size w4 W3 := B2.trans (hb.mono B2.size)
            have U3 := Row.later U2 hb
            have L3 := IsLists.later hb L2
            rw [hW]
            generalize W2.heap.size = b12 at R3 hb12 ⊢
            clear hW hb B2 U2 L2
            refine wpAnyH_only (i := 7) (by kernel_rfl) rfl (fun K hK => ?_)
            rw [if_pos (by rfl)]
            go_simp
            refine (HC5.out _ b6 L3).mono ?_
            rintro e W4 ⟨q7, k7, rfl, hC, hb⟩
            have C4 : IsBytes W4.heap.size W4 q7 (8 + la + 12 + bN) k7 (lenB za.length ++ za ++ nn ++ cc) := hC
            have B4 : Below w4.heap.size w4 W4 := B3.trans (hb.mono B3.size)
            have U4 := Row.later U3 hb
            have R4 := Row.later R3 hb
            refine hK.out _ _ B4 ?_
            clear hK K
            clear hb hC L3 B3 U3 R3
            refine wpAnyH_only (i := 8) (by kernel_rfl) rfl (fun K hK => ?_)
            rw [if_pos (by rfl)]
            go_simp
            refine (HM5.out _ b1 q7 k7 U4 C4).mono ?_
            rintro e W5 ⟨rfl, hb⟩
            have B5 : Below w4.heap.size w4 W5 := B4.trans (hb.mono B4.size)
            have R5 := Row.later R4 hb
            refine hK.out _ _ B5 ?_
            clear hK K
            clear hb C4 U4 B4 R4
            refine wpAnyH_only (i := 10) (by kernel_rfl) rfl (fun K hK => ?_)
            rw [if_pos (by rfl)]
            refine wp_store_mid 39 (.tmp 12) (.tmp 48) rfl b12 0 (u8s tt).toArray rfl rfl (by have h := Row.there R5; show World.there _ _ 0 (u8s tt).length; rw [HTv.out]; exact h) (by show _ = some (u8s tt).length; rw [HTv.out]; kernel_rfl) (by rw [List.all_toArray]; exact List.all_eq_true.2 HT1.out) ?_
            refine hK.out _ _ (below_setCells hb12 _ _ B5) ?_
            clear hK K
            refine wpAnyH_done (by kernel_rfl) ?_ _
            exact ⟨b12, _, _, _, rfl, hb12, Row.sets_all (vs := u8s tt) R5 (by rw [HTv.out]; rfl), below_setCells hb12 _ _ B5⟩
        · rw [if_pos (by rfl)]
          go_simp
          refine hK.out _ (W1.alloc (.cells noKey.toArray 39)) (B1.trans (((Below.refl _ W1).alloc (Nat.le_refl _) _).mono B1.size)) ?_
          clear hK K
          obtain ⟨W2, hW⟩ : ∃ W2, W1.alloc (.cells noKey.toArray 39) = W2 := ⟨_, rfl⟩
          have hb : Below W1.heap.size W1 W2 := by rw [← hW]; exact (Below.refl _ W1).alloc (Nat.le_refl _) _
          have hb12 : w4.heap.size ≤ W1.heap.size := B1.size
          have R2 : Row W2 W1.heap.size 39 noKey := by rw [← hW]; exact Row.new' _ _ _
          have B2 : Below w4.heap.size w4 W2 := B1.trans (hb.mono B1.size)
          have U2 := Row.later U1 hb
          rw [hW]
          generalize W1.heap.size = b12 at R2 hb12 ⊢
          clear hW hb B1 U1
          refine wpAnyH_only (i := 6) (by kernel_rfl) rfl (fun K hK => ?_)
          rw [if_pos (by rfl)]
          go_simp
          refine hK.out _ _ (B2.trans (((Below.refl _ W2).alloc (Nat.le_refl _) _).mono B2.size)) ?_
          clear hK K
          have hL := lists_four (HL4.out.later B2) (Ia.out _ (hB4.trans (B2.mono hB4.size))) (bytes_of_nn (Row.later HN4.out B2) HMl.out.1 HMl.out.2 HN12.out) (HC4.out.later B2)
          obtain ⟨W3, hW⟩ : ∃ W3, W2.alloc (.cells #[.slice ql 8 kl, .slice pa la ca, .slice (some ⟨b9, 0, none⟩) 12 32, .slice qc bN kc] 24) = W3 := ⟨_, rfl⟩
          have hb : Below W2.heap.size W2 W3 := by rw [← hW]; exact (Below.refl _ W2).alloc (Nat.le_refl _) _
          have L3 : IsLists W3.heap.size W3 (some ⟨W2.heap.size, 0, none⟩) 4 4 [lenB la, za, nn, cc] := by rw [← hW, World.size_alloc]; exact hL
          have B3 : Below w4.heap.size w4 W3 := B2.trans (hb.mono B2.size)
          have U3 := Row.later U2 hb
          have R3 := Row.later R2 hb
          rw [hW]
          generalize W2.heap.size = b6 at L3 ⊢
          clear hW hb hL B2 U2 R2
          refine wpAnyH_only (i := 7) (by kernel_rfl) rfl (fun K hK => ?_)
          rw [if_pos (by rfl)]
          go_simp
          refine (HC5.out _ b6 L3).mono ?_
          rintro e W4 ⟨q7, k7, rfl, hC, hb⟩
          have C4 : IsBytes W4.heap.size W4 q7 (8 + la + 12 + bN) k7 (lenB za.length ++ za ++ nn ++ cc) := hC
          have B4 : Below w4.heap.size w4 W4 := B3.trans (hb.mono B3.size)
          have U4 := Row.later U3 hb
          have R4 := Row.later R3 hb
          refine hK.out _ _ B4 ?_
          clear hK K
          clear hb hC L3 B3 U3 R3
          refine wpAnyH_only (i := 8) (by kernel_rfl) rfl (fun K hK => ?_)
          rw [if_pos (by rfl)]
          go_simp
          refine (HM5.out _ b1 q7 k7 U4 C4).mono ?_
          rintro e W5 ⟨rfl, hb⟩
          have B5 : Below w4.heap.size w4 W5 := B4.trans (hb.mono B4.size)
          have R5 := Row.later R4 hb
          refine hK.out _ _ B5 ?_
          clear hK K
          clear hb C4 U4 B4 R4
          refine wpAnyH_only (i := 10) (by kernel_rfl) rfl (fun K hK => ?_)
          rw [if_pos (by rfl)]
          refine wp_store_mid 39 (.tmp 12) (.tmp 48) rfl b12 0 (u8s tt).toArray rfl rfl (by have h := Row.there R5; show World.there _ _ 0 (u8s tt).length; rw [HTv.out]; exact h) (by show _ = some (u8s tt).length; rw [HTv.out]; kernel_rfl) (by rw [List.all_toArray]; exact List.all_eq_true.2 HT1.out) ?_
          refine hK.out _ _ (below_setCells hb12 _ _ B5) ?_
          clear hK K
          refine wpAnyH_done (by kernel_rfl) ?_ _
          exact ⟨b12, _, _, _, rfl, hb12, Row.sets_all (vs := u8s tt) R5 (by rw [HTv.out]; rfl), below_setCells hb12 _ _ B5⟩
      · rw [if_pos (by rfl)]
        go_simp
        refine hK.out _ _ (B0.trans (((Below.refl _ W0).alloc (Nat.le_refl _) _).mono B0.size)) ?_
        clear hK K
        have hL := lists_four (HL4.out.later B0) (Ia.out _ (hB4.trans (B0.mono hB4.size))) (bytes_of_nn (Row.later HN4.out B0) HMl.out.1 HMl.out.2 HN12.out) (HC4.out.later B0)
        obtain ⟨W1, hW⟩ : ∃ W1, W0.alloc (.cells #[.slice ql 8 kl, .slice pa la ca, .slice (some ⟨b9, 0, none⟩) 12 32, .slice qc bN kc] 24) = W1 := ⟨_, rfl⟩
        have hb : Below W0.heap.size W0 W1 := by rw [← hW]; exact (Below.refl _ W0).alloc (Nat.le_refl _) _
        have L1 : IsLists W1.heap.size W1 (some ⟨W0.heap.size, 0, none⟩) 4 4 [lenB la, za, nn, cc] := by rw [← hW, World.size_alloc]; exact hL
        have B1 : Below w4.heap.size w4 W1 := B0.trans (hb.mono B0.size)
        rw [hW]
        generalize W0.heap.size = b6 at L1 ⊢
        clear hW hb hL B0
        refine wpAnyH_either (i := 1) (j := 9) (by kernel_rfl) rfl rfl (fun K hK => ?_) (fun K hK => ?_)
        · rw [if_pos (by rfl)]
          go_simp
          refine (HU2.out W1).mono ?_
          rintro e W2 ⟨b1, rfl, _, hU, hb⟩
          have B2 : Below w4.heap.size w4 W2 := B1.trans (hb.mono B1.size)
          have L2 := IsLists.later hb L1
          have U2 : Row W2 b1 39 (u8s (useN k 109)) := hU
          refine hK.out _ _ B2 ?_
          clear hK K
          clear hb hU B1 L1
          refine wpAnyH_either (i := 7) (j := 9) (by kernel_rfl) rfl rfl (fun K hK => ?_) (fun K hK => ?_)
          · rw [if_pos (by rfl)]
            go_simp
            refine (HC5.out _ b6 L2).mono ?_
            rintro e W3 ⟨q7, k7, rfl, hC, hb⟩
            have C3 : IsBytes W3.heap.size W3 q7 (8 + la + 12 + bN) k7 (lenB za.length ++ za ++ nn ++ cc) := hC
            have B3 : Below w4.heap.size w4 W3 := B2.trans (hb.mono B2.size)
            have U3 := Row.later U2 hb
            refine hK.out _ _ B3 ?_
            clear hK K
            clear hb hC L2 B2 U2
            refine wpAnyH_either (i := 8) (j := 9) (by kernel_rfl) rfl rfl (fun K hK => ?_) (fun K hK => ?_)
            · rw [if_pos (by rfl)]
              go_simp
              refine (HM5.out _ b1 q7 k7 U3 C3).mono ?_
              rintro e W4 ⟨rfl, hb⟩
              have B4 : Below w4.heap.size w4 W4 := B3.trans (hb.mono B3.size)
              refine hK.out _ _ B4 ?_
              clear hK K
              clear hb C3 U3 B3
              refine wpAnyH_only (i := 9) (by kernel_rfl) rfl (fun K hK => ?_)
              rw [if_pos (by rfl)]
              go_simp
              refine hK.out _ (W4.alloc (.cells noKey.toArray 39)) (B4.trans (((Below.refl _ W4).alloc (Nat.le_refl _) _).mono B4.size)) ?_
              clear hK K
              obtain ⟨W5, hW⟩ : ∃ W5, W4.alloc (.cells noKey.toArray 39) = W5 := ⟨_, rfl⟩
              have hb : Below W4.heap.size W4 W5 := by rw [← hW]; exact (Below.refl _ W4).alloc (Nat.le_refl _) _
              have hb12 : w4.heap.size ≤ W4.heap.size := B4.size
              have R5 : Row W5 W4.heap.size 39 noKey := by rw [← hW]; exact Row.new' _ _ _
              have B5 : Below w4.heap.size w4 W5 := B4.trans (hb.mono B4.size)
              rw [hW]
              generalize W4.heap.size = b12 at R5 hb12 ⊢
              clear hW hb B4
              refine wpAnyH_only (i := 10) (by kernel_rfl) rfl (fun K hK => ?_)
              rw [if_pos (by rfl)]
              refine wp_store_mid 39 (.tmp 12) (.tmp 48) rfl b12 0 (u8s tt).toArray rfl rfl (by have h := Row.there R5; show World.there _ _ 0 (u8s tt).length; rw [HTv.out]; exact h) (by show _ = some (u8s tt).length; rw [HTv.out]; kernel_rfl) (by rw [List.all_toArray]; exact List.all_eq_true.2 HT1.out) ?_
              refine hK.out _ _ (below_setCells hb12 _ _ B5) ?_
              clear hK K
              refine wpAnyH_done (by kernel_rfl) ?_ _
              exact ⟨b12, _, _, _, rfl, hb12, Row.sets_all (vs := u8s tt) R5 (by rw [HTv.out]; rfl), below_setCells hb12 _ _ B5⟩
            · rw [if_pos (by rfl)]
              go_simp
              refine hK.out _ (W3.alloc (.cells noKey.toArray 39)) (B3.trans (((Below.refl _ W3).alloc (Nat.le_refl _) _).mono B3.size)) ?_
              clear hK K
              obtain ⟨W4, hW⟩ : ∃ W4, W3.alloc (.cells noKey.toArray 39) = W4 := ⟨_, rfl⟩
              have hb : Below W3.heap.size W3 W4 := by rw [← hW]; exact (Below.refl _ W3).alloc (Nat.le_refl _) _
              have hb12 : w4.heap.size ≤ W3.heap.size := B3.size
              have R4 : Row W4 W3.heap.size 39 noKey := by rw [← hW]; exact Row.new' _ _ _
              have B4 : Below w4.heap.size w4 W4 := B3.trans (hb.mono B3.size)
              have U4 := Row.later U3 hb
              have C4 := IsBytes.later hb C3
              rw [hW]
              generalize W3.heap.size = b12 at R4 hb12 ⊢
              clear hW hb B3 U3 C3
              refine wpAnyH_only (i := 8) (by kernel_rfl) rfl (fun K hK => ?_)
              rw [if_pos (by rfl)]
              go_simp
              refine (HM5.out _ b1 q7 k7 U4 C4).mono ?_
              rintro e W5 ⟨rfl, hb⟩
              have B5 : Below w4.heap.size w4 W5 := B4.trans (hb.mono B4.size)
              have R5 := Row.later R4 hb
              refine hK.out _ _ B5 ?_
              clear hK K
              clear hb C4 U4 B4 R4
              refine wpAnyH_only (i := 10) (by kernel_rfl) rfl (fun K hK => ?_)
              rw [if_pos (by rfl)]
              refine wp_store_mid 39 (.tmp 12) (.tmp 48) rfl b12 0 (u8s tt).toArray rfl rfl (by have h := Row.there R5; show World.there _ _ 0 (u8s tt).length; rw [HTv.out]; exact h) (by show _ = some (u8s tt).length; rw [HTv.out]; kernel_rfl) (by rw [List.all_toArray]; exact List.all_eq_true.2 HT1.out) ?_
              refine hK.out _ _ (below_setCells hb12 _ _ B5) ?_
              clear hK K
              refine wpAnyH_done (by kernel_rfl) ?_ _
              exact ⟨b12, _, _, _, rfl, hb12, Row.sets_all (vs := u8s tt) R5 (by rw [HTv.out]; rfl), below_setCells hb12 _ _ B5⟩
          · rw [if_pos (by rfl)]
            go_simp
            refine hK.out _ (W2.alloc (.cells noKey.toArray 39)) (B2.trans (((Below.refl _ W2).alloc (Nat.le_refl _) _).mono B2.size)) ?_
            clear hK K
            obtain ⟨W3, hW⟩ : ∃ W3, W2.alloc (.cells noKey.toArray 39) = W3 := ⟨_, rfl⟩
            have hb : Below W2.heap.size W2 W3 := by rw [← hW]; exact (Below.refl _ W2).alloc (Nat.le_refl _) _
            have hb12 : w4.heap.size ≤ W2.heap.size := B2.size
            have R3 : Row W3 W2.heap.size 39 noKey := by rw [← hW]; exact Row.new' _ _ _
            have B3 : Below w4.heap.size w4 W3 := B2.trans (hb.mono B2.size)
            have U3 := Row.later U2 hb
            have L3 := IsLists.later hb L2
            rw [hW]
            generalize W2.heap.size = b12 at R3 hb12 ⊢
            clear hW hb B2 U2 L2
            refine wpAnyH_only (i := 7) (by kernel_rfl) rfl (fun K hK => ?_)
            rw [if_pos (by rfl)]
            go_simp
            refine (HC5.out _ b6 L3).mono ?_
            rintro e W4 ⟨q7, k7, rfl, hC, hb⟩
            have C4 : IsBytes W4.heap.size W4 q7 (8 + la + 12 + bN) k7 (lenB za.length ++ za ++ nn ++ cc) := hC
            have B4 : Below w4.heap.size w4 W4 := B3.trans (hb.mono B3.size)
            have U4 := Row.later U3 hb
            have R4 := Row.later R3 hb
            refine hK.out _ _ B4 ?_
            clear hK K
            clear hb hC L3 B3 U3 R3
            refine wpAnyH_only (i := 8) (by kernel_rfl) rfl (fun K hK => ?_)
            rw [if_pos (by rfl)]
            go_simp
            refine (HM5.out _ b1 q7 k7 U4 C4).mono ?_
            rintro e W5 ⟨rfl, hb⟩
            have B5 : Below w4.heap.size w4 W5 := B4.trans (hb.mono B4.size)
            have R5 := Row.later R4 hb
            refine hK.out _ _ B5 ?_
            clear hK K
            clear hb C4 U4 B4 R4
            refine wpAnyH_only (i := 10) (by kernel_rfl) rfl (fun K hK => ?_)
            rw [if_pos (by rfl)]
            refine wp_store_mid 39 (.tmp 12) (.tmp 48) rfl b12 0 (u8s tt).toArray rfl rfl (by have h := Row.there R5; show World.there _ _ 0 (u8s tt).length; rw [HTv.out]; exact h) (by show _ = some (u8s tt).length; rw [HTv.out]; kernel_rfl) (by rw [List.all_toArray]; exact List.all_eq_true.2 HT1.out) ?_
            refine hK.out _ _ (below_setCells hb12 _ _ B5) ?_
            clear hK K
            refine wpAnyH_done (by kernel_rfl) ?_ _
            exact ⟨b12, _, _, _, rfl, hb12, Row.sets_all (vs := u8s tt) R5 (by rw [HTv.out]; rfl), below_setCells hb12 _ _ B5⟩
        · rw [if_pos (by rfl)]
          go_simp
          refine hK.out _ (W1.alloc (.cells noKey.toArray 39)) (B1.trans (((Below.refl _ W1).alloc (Nat.le_refl _) _).mono B1.size)) ?_
          clear hK K
          obtain ⟨W2, hW⟩ : ∃ W2, W1.alloc (.cells noKey.toArray 39) = W2 := ⟨_, rfl⟩
          have hb : Below W1.heap.size W1 W2 := by rw [← hW]; exact (Below.refl _ W1).alloc (Nat.le_refl _) _
          have hb12 : w4.heap.size ≤ W1.heap.size := B1.size
          have R2 : Row W2 W1.heap.size 39 noKey := by rw [← hW]; exact Row.new' _ _ _
          have B2 : Below w4.heap.size w4 W2 := B1.trans (hb.mono B1.size)
          have L2 := IsLists.later hb L1
          rw [hW]
          generalize W1.heap.size = b12 at R2 hb12 ⊢
          clear hW hb B1 L1
          refine wpAnyH_only (i := 1) (by kernel_rfl) rfl (fun K hK => ?_)
          rw [if_pos (by rfl)]
          go_simp
          refine (HU2.out W2).mono ?_
          rintro e W3 ⟨b1, rfl, _, hU, hb⟩
          have B3 : Below w4.heap.size w4 W3 := B2.trans (hb.mono B2.size)
          have L3 := IsLists.later hb L2
          have R3 := Row.later R2 hb
          have U3 : Row W3 b1 39 (u8s (useN k 109)) := hU
          refine hK.out _ _ B3 ?_
          clear hK K
          clear hb hU B2 L2 R2
          refine wpAnyH_only (i := 7) (by kernel_rfl) rfl (fun K hK => ?_)
          rw [if_pos (by rfl)]
          go_simp
          refine (HC5.out _ b6 L3).mono ?_
          rintro e W4 ⟨q7, k7, rfl, hC, hb⟩
          have C4 : IsBytes W4.heap.size W4 q7 (8 + la + 12 + bN) k7 (lenB za.length ++ za ++ nn ++ cc) := hC
          have B4 : Below w4.heap.size w4 W4 := B3.trans (hb.mono B3.size)
          have U4 := Row.later U3 hb
          have R4 := Row.later R3 hb
          refine hK.out _ _ B4 ?_
          clear hK K
          clear hb hC L3 B3 U3 R3
          refine wpAnyH_only (i := 8) (by kernel_rfl) rfl (fun K hK => ?_)
          rw [if_pos (by rfl)]
          go_simp
          refine (HM5.out _ b1 q7 k7 U4 C4).mono ?_
          rintro e W5 ⟨rfl, hb⟩
          have B5 : Below w4.heap.size w4 W5 := B4.trans (hb.mono B4.size)
          have R5 := Row.later R4 hb
          refine hK.out _ _ B5 ?_
          clear hK K
          clear hb C4 U4 B4 R4
          refine wpAnyH_only (i := 10) (by kernel_rfl) rfl (fun K hK => ?_)
          rw [if_pos (by rfl)]
          refine wp_store_mid 39 (.tmp 12) (.tmp 48) rfl b12 0 (u8s tt).toArray rfl rfl (by have h := Row.there R5; show World.there _ _ 0 (u8s tt).length; rw [HTv.out]; exact h) (by show _ = some (u8s tt).length; rw [HTv.out]; kernel_rfl) (by rw [List.all_toArray]; exact List.all_eq_true.2 HT1.out) ?_
          refine hK.out _ _ (below_setCells hb12 _ _ B5) ?_
          clear hK K
          refine wpAnyH_done (by kernel_rfl) ?_ _
          exact ⟨b12, _, _, _, rfl, hb12, Row.sets_all (vs := u8s tt) R5 (by rw [HTv.out]; rfl), below_setCells hb12 _ _ B5⟩
      · rw [if_pos (by rfl)]
        go_simp
        refine hK.out _ (W0.alloc (.cells noKey.toArray 39)) (B0.trans (((Below.refl _ W0).alloc (Nat.le_refl _) _).mono B0.size)) ?_
        clear hK K
        obtain ⟨W1, hW⟩ : ∃ W1, W0.alloc (.cells noKey.toArray 39) = W1 := ⟨_, rfl⟩
        have hb : Below W0.heap.size W0 W1 := by rw [← hW]; exact (Below.refl _ W0).alloc (Nat.le_refl _) _
        have hb12 : w4.heap.size ≤ W0.heap.size := B0.size
        have R1 : Row W1 W0.heap.size 39 noKey := by rw [← hW]; exact Row.new' _ _ _
        have B1 : Below w4.heap.size w4 W1 := B0.trans (hb.mono B0.size)
        rw [hW]
        generalize W0.heap.size = b12 at R1 hb12 ⊢
        clear hW hb B0
        refine wpAnyH_either (i := 1) (j := 6) (by kernel_rfl) rfl rfl (fun K hK => ?_) (fun K hK => ?_)
        · rw [if_pos (by rfl)]
          go_simp
          refine (HU2.out W1).mono ?_
          rintro e W2 ⟨b1, rfl, _, hU, hb⟩
          have B2 : Below w4.heap.size w4 W2 := B1.trans (hb.mono B1.size)
          have R2 := Row.later R1 hb
          have U2 : Row W2 b1 39 (u8s (useN k 109)) := hU
          refine hK.out _ _ B2 ?_
          clear hK K
          clear hb hU B1 R1
          refine wpAnyH_only (i := 6) (by kernel_rfl) rfl (fun K hK => ?_)
          rw [if_pos (by rfl)]
          go_simp
          refine hK.out _ _ (B2.trans (((Below.refl _ W2).alloc (Nat.le_refl _) _).mono B2.size)) ?_
          clear hK K
          have hL := lists_four (HL4.out.later B2) (Ia.out _ (hB4.trans (B2.mono hB4.size))) (bytes_of_nn (Row.later HN4.out B2) HMl.out.1 HMl.out.2 HN12.out) (HC4.out.later B2)
          obtain ⟨W3, hW⟩ : ∃ W3, W2.alloc (.cells #[.slice ql 8 kl, .slice pa la ca, .slice (some ⟨b9, 0, none⟩) 12 32, .slice qc bN kc] 24) = W3 := ⟨_, rfl⟩
          have hb : Below W2.heap.size W2 W3 := by rw [← hW]; exact (Below.refl _ W2).alloc (Nat.le_refl _) _
          have L3 : IsLists W3.heap.size W3 (some ⟨W2.heap.size, 0, none⟩) 4 4 [lenB la, za, nn, cc] := by rw [← hW, World.size_alloc]; exact hL
          have B3 : Below w4.heap.size w4 W3 := B2.trans (hb.mono B2.size)
          have U3 := Row.later U2 hb
          have R3 := Row.later R2 hb
          rw [hW]
          generalize W2.heap.size = b6 at L3 ⊢
          clear hW hb hL B2 U2 R2
          refine wpAnyH_only (i := 7) (by kernel_rfl) rfl (fun K hK => ?_)
          rw [if_pos (by rfl)]
          go_simp
          refine (HC5.out _ b6 L3).mono ?_
          rintro e W4 ⟨q7, k7, rfl, hC, hb⟩
          have C4 : IsBytes W4.heap.size W4 q7 (8 + la + 12 + bN) k7 (lenB za.length ++ za ++ nn ++ cc) := hC
          have B4 : Below w4.heap.size w4 W4 := B3.trans (hb.mono B3.size)
          have U4 := Row.later U3 hb
          have R4 := Row.later R3 hb
          refine hK.out _ _ B4 ?_
          clear hK K
          clear hb hC L3 B3 U3 R3
          refine wpAnyH_only (i := 8) (by kernel_rfl) rfl (fun K hK => ?_)
          rw [if_pos (by rfl)]
          go_simp
          refine (HM5.out _ b1 q7 k7 U4 C4).mono ?_
          rintro e W5 ⟨rfl, hb⟩
          have B5 : Below w4.heap.size w4 W5 := B4.trans (hb.mono B4.size)
          have R5 := Row.later R4 hb
          refine hK.out _ _ B5 ?_
          clear hK K
          clear hb C4 U4 B4 R4
          refine wpAnyH_only (i := 10) (by kernel_rfl) rfl (fun K hK => ?_)
          rw [if_pos (by rfl)]
          refine wp_store_mid 39 (.tmp 12) (.tmp 48) rfl b12 0 (u8s tt).toArray rfl rfl (by have h := Row.there R5; show World.there _ _ 0 (u8s tt).length; rw [HTv.out]; exact h) (by show _ = some (u8s tt).length; rw [HTv.out]; kernel_rfl) (by rw [List.all_toArray]; exact List.all_eq_true.2 HT1.out) ?_
          refine hK.out _ _ (below_setCells hb12 _ _ B5) ?_
          clear hK K
          refine wpAnyH_done (by kernel_rfl) ?_ _
          exact ⟨b12, _, _, _, rfl, hb12, Row.sets_all (vs := u8s tt) R5 (by rw [HTv.out]; rfl), below_setCells hb12 _ _ B5⟩
        · rw [if_pos (by rfl)]
          go_simp
          refine hK.out _ _ (B1.trans (((Below.refl _ W1).alloc (Nat.le_refl _) _).mono B1.size)) ?_
          clear hK K
          have hL := lists_four (HL4.out.later B1) (Ia.out _ (hB4.trans (B1.mono hB4.size))) (bytes_of_nn (Row.later HN4.out B1) HMl.out.1 HMl.out.2 HN12.out) (HC4.out.later B1)
          obtain ⟨W2, hW⟩ : ∃ W2, W1.alloc (.cells #[.slice ql 8 kl, .slice pa la ca, .slice (some ⟨b9, 0, none⟩) 12 32, .slice qc bN kc] 24) = W2 := ⟨_, rfl⟩
          have hb : Below W1.heap.size W1 W2 := by rw [← hW]; exact (Below.refl _ W1).alloc (Nat.le_refl _) _
          have L2 : IsLists W2.heap.size W2 (some ⟨W1.heap.size, 0, none⟩) 4 4 [lenB la, za, nn, cc] := by rw [← hW, World.size_alloc]; exact hL
          have B2 : Below w4.heap.size w4 W2 := B1.trans (hb.mono B1.size)
          have R2 := Row.later R1 hb
          rw [hW]
          generalize W1.heap.size = b6 at L2 ⊢
          clear hW hb hL B1 R1
          refine wpAnyH_only (i := 1) (by kernel_rfl) rfl (fun K hK => ?_)
          rw [if_pos (by rfl)]
          go_simp
          refine (HU2.out W2).mono ?_
          rintro e W3 ⟨b1, rfl, _, hU, hb⟩
          have B3 : Below w4.heap.size w4 W3 := B2.trans (hb.mono B2.size)
          have L3 := IsLists.later hb L2
          have R3 := Row.later R2 hb
          have U3 : Row W3 b1 39 (u8s (useN k 109)) := hU
          refine hK.out _ _ B3 ?_
          clear hK K
          clear hb hU B2 L2 R2
          refine wpAnyH_only (i := 7) (by kernel_rfl) rfl (fun K hK => ?_)
          rw [if_pos (by rfl)]
          go_simp
          refine (HC5.out _ b6 L3).mono ?_
          rintro e W4 ⟨q7, k7, rfl, hC, hb⟩
          have C4 : IsBytes W4.heap.size W4 q7 (8 + la + 12 + bN) k7 (lenB za.length ++ za ++ nn ++ cc) := hC
          have B4 : Below w4.heap.size w4 W4 := B3.trans (hb.mono B3.size)
          have U4 := Row.later U3 hb
          have R4 := Row.later R3 hb
          refine hK.out _ _ B4 ?_
          clear hK K
          clear hb hC L3 B3 U3 R3
          refine wpAnyH_only (i := 8) (by kernel_rfl) rfl (fun K hK => ?_)
          rw [if_pos (by rfl)]
          go_simp
          refine (HM5.out _ b1 q7 k7 U4 C4).mono ?_
          rintro e W5 ⟨rfl, hb⟩
          have B5 : Below w4.heap.size w4 W5 := B4.trans (hb.mono B4.size)
          have R5 := Row.later R4 hb
          refine hK.out _ _ B5 ?_
          clear hK K
          clear hb C4 U4 B4 R4
          refine wpAnyH_only (i := 10) (by kernel_rfl) rfl (fun K hK => ?_)
          rw [if_pos (by rfl)]
          refine wp_store_mid 39 (.tmp 12) (.tmp 48) rfl b12 0 (u8s tt).toArray rfl rfl (by have h := Row.there R5; show World.there _ _ 0 (u8s tt).length; rw [HTv.out]; exact h) (by show _ = some (u8s tt).length; rw [HTv.out]; kernel_rfl) (by rw [List.all_toArray]; exact List.all_eq_true.2 HT1.out) ?_
          refine hK.out _ _ (below_setCells hb12 _ _ B5) ?_
          clear hK K
          refine wpAnyH_done (by kernel_rfl) ?_ _
          exact ⟨b12, _, _, _, rfl, hb12, Row.sets_all (vs := u8s tt) R5 (by rw [HTv.out]; rfl), below_setCells hb12 _ _ B5⟩
    case tail5 =>
      rintro a' w5 ⟨b12, s41, s46, s47, rfl, hb12', r12, hb5⟩
      have hB5 : Below w.heap.size w w5 := hB4.trans (hb5.mono hB4.size)
      have HN5 : Hid (IsBytes w5.heap.size w5 (some ⟨b9, 0, none⟩) 12 32 nn) := bytes_of_nn (Row.later HN4.out hb5) HMl.out.1 HMl.out.2 HN12.out
      have HC5' : Hid (IsBytes w5.heap.size w5 qc bN kc cc) := HC4.out.later hb5
      have HT5 : Hid (IsBytes w5.heap.size w5 (some ⟨b12, 0, none⟩) 32 32 tt) := bytes_of_box r12 HTl.out.1 (by omega) HTl.out.2
      clear r12 hb5 hB4 HN4 HC4 HK4 HL4 hb12'
      go_wp2
      refine wp_region_held_drew (S := fun _ => True) (by kernel_rfl) trivial (fun hHeld => ?_)
      have B0 : Below w5.heap.size w5 w5.drew := (Below.refl _ w5).drew
      generalize w5.drew = W0 at *
      refine wpAnyH_takesAt 0 3 3 (of_decide_eq_true (by kernel_rfl)) rfl (fun _ _ _ d _ h => by cases d <;> exact h) (by kernel_rfl) (by kernel_rfl) hHeld ?_
      simp only [List.drop_zero, List.take_succ_cons, List.take_zero]
      iterate 3 (refine wpHeld_step (v := ?_) (by rfl) (fun wz hSw => ?_) ?_; rotate_left; (focus ((try dsimp only at hSw); go_simp; try with_reducible rfl)); (simp only [Act.put, List.setIfInBounds_toArray, List.set_cons_zero, List.set_cons_succ]))
      refine wpHeld_nil ?_
      refine wpAnyH_only (i := 3) (by kernel_rfl) rfl (fun K hK => ?_)
      rw [if_pos (by rfl)]
      go_simp
      have hL := lists_three (HN5.out.later B0) (HC5'.out.later B0) (HT5.out.later B0)
      refine hK.out _ _ trivial ?_
      clear hK K
      obtain ⟨W1, hW⟩ : ∃ W1, W0.alloc (.cells #[.slice (some ⟨b9, 0, none⟩) 12 32, .slice qc bN kc, .slice (some ⟨b12, 0, none⟩) 32 32] 24) = W1 := ⟨_, rfl⟩
      have hb : Below W0.heap.size W0 W1 := by rw [← hW]; exact (Below.refl _ W0).alloc (Nat.le_refl _) _
      have L1 : IsLists W1.heap.size W1 (some ⟨W0.heap.size, 0, none⟩) 3 3 [nn, cc, tt] := by rw [← hW, World.size_alloc]; exact hL
      have B1 : Below w5.heap.size w5 W1 := B0.trans (hb.mono B0.size)
      rw [hW]
      generalize W0.heap.size = b6 at L1 ⊢
      refine wpAnyH_only (i := 4) (by kernel_rfl) rfl (fun K hK => ?_)
      rw [if_pos (by rfl)]
      go_simp
      refine (HC6.out W1 b6 L1).mono ?_
      rintro e W2 ⟨v, rfl, hO, hb2⟩
      have hBE : Below w.heap.size w W2 := hB5.trans ((B1.trans (hb2.mono B1.size)).mono hB5.size)
      have hOE : Own w.heap.size W2 v (sealN k za zp) := Own.mono (Nat.le_trans hB5.size B1.size) hO
      refine hK.out _ _ trivial ?_
      clear hK K
      refine wpAnyH_takesAt 5 1 0 (of_decide_eq_true (by kernel_rfl)) rfl (fun _ _ _ d _ h => by cases d <;> exact h) (by kernel_rfl) (by kernel_rfl) hHeld ?_
      simp only [List.drop_succ_cons, List.drop_zero, List.take_succ_cons, List.take_zero]
      iterate 1 (refine wpHeld_step (v := ?_) (by rfl) (fun wz hSw => ?_) ?_; rotate_left; (focus ((try dsimp only at hSw); go_simp; try with_reducible rfl)); ((simp only [Act.put]; (try simp only [List.setIfInBounds_toArray]); (try simp only [List.set_cons_succ]); (try simp only [List.set_cons_zero]))))
      refine wpHeld_nil ?_
      refine wpAnyH_done (by kernel_rfl) ?_ _
      go_wp2
      go_ret
      exact ⟨_, rfl, hOE, hBE⟩
end Go.Proofs.YtclelancbfoenaaGreatDoor
