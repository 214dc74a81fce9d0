/-
  Several texts in one: Real1, Tag, Nonce, Stream, SLen, RSeal, ROpen, SReal, Nil, Wrap, Tabs, WrapsW, WrapsI.
-/
import Derived.Test.YtobmcaknfbooiaaDoorReAll
import Derived.Test.YtobmcaknfbooiaaDoorShAll
import Derived.Test.YtobmcaknfbooiaaDoorKeys
import Derived.Test.YtobmcaknfbooiaaDoorKey
import Derived.Test.YtobmcaknfbooiaaDoorArgs2
import Derived.Test.YtobmcaknfbooiaaDoorHeld
import Derived.Test.YtobmcaknfbooiaaDoorStr
import Derived.Laws.BitsAllLaws
import Derived.Test.YtobmcaknfbooiaaDoorBucket
import Derived.Test.YtobmcaknfbooiaaDoorLast
import Derived.Test.YtobmcaknfbooiaaDoorIdealW
import Derived.Test.YtobmcaknfbooiaaDoorSuite
import Derived.Test.YtobmcaknfbooiaaDoorSuiteOpen
import Derived.Lib.SlBytesConst
import Derived.Test.YtobmcaknfbooiaaDoorLaid
/-
  The real suite's parts: the length of the words beside the text, the keys for one use.
-/
namespace Go.Proofs.YtobmcaknfbooiaaDoor
open Go.RowKit Go.Shelf

/-- A length as eight bytes. -/
def lenB (n : Nat) : List Nat := (List.range 8).map (Re.bytesOf [n, n / 4294967296])
theorem lenB_length (n : Nat) : (lenB n).length = 8 := by simp [lenB]
theorem lenB_lt (n : Nat) : ∀ z ∈ lenB n, z < 256 := fun z hz => by
  obtain ⟨i, _, rfl⟩ := List.mem_map.1 hz
  exact Re.byteAt_lt _ _
theorem lenB_vals (n : Nat) : Re.byteVals (Re.bytesOf [n, n / 4294967296]) 8 = u8s (lenB n) := by
  simp [lenB, u8s, Re.byteVals, List.map_map]

set_option maxHeartbeats 1000000 in
theorem lengthB_any (p : Option Addr) (len cap : Nat) (hlen : len ≤ 60000) (hc : len ≤ cap) (hc2 : cap ≤ 9223372036854775807) (w : World) :
    Calls Tryd.prog 60 #[.slice p len cap] w fun e w' => ∃ v, e = .returned v ∧ Own w.heap.size w' v (lenB len) ∧ Below w.heap.size w w' := by
  go_enter Tryd.func60, Tryd.ntmps60
  go_wp2_with (go_at_call 59; refine (Re.bytes_some w.heap.size 0 2 2 [len, len / 4294967296] _ (by omega) (by simp) (fun i hi => ?_)).mono ?_; rotate_left; rintro e w1 ⟨v, rfl, ho, hb⟩)
  · go_ret
    have hb0 : Below w.heap.size w (w.alloc (.cells #[.int .u32 (len : Int), .int .u32 ((len : Int) / 4294967296)] 22)) := (Below.refl _ w).alloc (Nat.le_refl _) _
    rw [World.size_alloc] at ho hb
    rw [lenB_vals] at ho
    refine ⟨_, rfl, ?_, hb0.trans (hb.mono (by omega))⟩
    unfold Own
    rw [lenB_length]
    exact ownsRow_mono (by omega) ho
  · rw [Nat.zero_add]
    have h := Row.new w 22 #[.int .u32 (len : Int), .int .u32 ((len : Int) / 4294967296)]
    match i, hi with
    | 0, _ => exact h.cell (i := 0) rfl
    | 1, _ => exact h.cell (i := 1) rfl

theorem bytes_of_box {W : World} {b n : Nat} {t : TypeId} {k : List Nat} (h : Row W b t (u8s k)) (hl : k.length = n) (hn : n ≤ 9223372036854775807) (hz : ∀ z ∈ k, z < 256) : IsBytes W.heap.size W (some ⟨b, 0, none⟩) n n k :=
  ⟨hl, Nat.le_refl _, hn, hz, .inr ⟨b, 0, rfl, h.lt, fun i hi => by rw [Nat.zero_add]; exact h.cell (u8s_at (by omega))⟩⟩

theorem lists_one {W : World} {q : Option Addr} {l c : Nat} {t : List Nat} (h : IsBytes W.heap.size W q l c t) : IsLists (W.heap.size + 1) (W.alloc (.cells #[.slice q l c] 25)) (some ⟨W.heap.size, 0, none⟩) 1 1 [t] := by
  refine ⟨rfl, Nat.le_refl _, .inr ⟨W.heap.size, 0, rfl, by omega, fun i hi => ?_⟩⟩
  obtain rfl : i = 0 := by omega
  exact ⟨q, l, c, (Row.new W 25 #[.slice q l c]).cell (i := 0) rfl, (h.below ((Below.refl _ W).alloc (Nat.le_refl _) _)).mono (by omega)⟩
theorem lists_four {W : World} {q0 q1 q2 q3 : Option Addr} {l0 c0 l1 c1 l2 c2 l3 c3 : Nat} {t0 t1 t2 t3 : List Nat} (h0 : IsBytes W.heap.size W q0 l0 c0 t0) (h1 : IsBytes W.heap.size W q1 l1 c1 t1) (h2 : IsBytes W.heap.size W q2 l2 c2 t2) (h3 : IsBytes W.heap.size W q3 l3 c3 t3) :
    IsLists (W.heap.size + 1) (W.alloc (.cells #[.slice q0 l0 c0, .slice q1 l1 c1, .slice q2 l2 c2, .slice q3 l3 c3] 25)) (some ⟨W.heap.size, 0, none⟩) 4 4 [t0, t1, t2, t3] := by
  have hb : Below W.heap.size W (W.alloc (.cells #[.slice q0 l0 c0, .slice q1 l1 c1, .slice q2 l2 c2, .slice q3 l3 c3] 25)) := (Below.refl _ W).alloc (Nat.le_refl _) _
  have hr := Row.new W 25 #[.slice q0 l0 c0, .slice q1 l1 c1, .slice q2 l2 c2, .slice q3 l3 c3]
  refine ⟨rfl, Nat.le_refl _, .inr ⟨W.heap.size, 0, rfl, by omega, fun i hi => ?_⟩⟩
  rw [Nat.zero_add]
  match i, hi with
  | 0, _ => exact ⟨_, _, _, hr.cell (i := 0) rfl, (h0.below hb).mono (by omega)⟩
  | 1, _ => exact ⟨_, _, _, hr.cell (i := 1) rfl, (h1.below hb).mono (by omega)⟩
  | 2, _ => exact ⟨_, _, _, hr.cell (i := 2) rfl, (h2.below hb).mono (by omega)⟩
  | 3, _ => exact ⟨_, _, _, hr.cell (i := 3) rfl, (h3.below hb).mono (by omega)⟩

/-- The key that k gives for one use. -/
def useN (k : List Nat) (m : Nat) : List Nat := Sh.macN k [m]
theorem useN_key (k : List Nat) (m : Nat) : IsKey32 (useN k m) := ⟨Sh.macN_length _ _, Sh.macN_lt _ _⟩

set_option maxRecDepth 100000 in
set_option maxHeartbeats 1000000 in
theorem useKey_any (k : List Nat) (hk : IsKey32 k) (m : Nat) (hm : m < 256) (w : World) (hT : Sh.Tab w) :
    Calls Tryd.prog 44 #[.agg (u8s k).toArray, .int .u8 (m : Nat)] w fun e w' => e = .returned (.agg (u8s (useN k m)).toArray) ∧ Below w.heap.size w w' := by
  obtain ⟨w0, hw0⟩ : ∃ w0, (((w.alloc (.cells (u8s k).toArray 24)).alloc (.cells noKey.toArray 24)).alloc (.cells #[.int .u8 (m : Nat)] 5)) = w0 := ⟨_, rfl⟩
  have HW0 : Hid ((((w.alloc (.cells (u8s k).toArray 24)).alloc (.cells noKey.toArray 24)).alloc (.cells #[.int .u8 (m : Nat)] 5)) = w0) := hw0
  have hb0 : Below w.heap.size w w0 := by rw [← hw0]; exact (((Below.refl _ w).alloc (Nat.le_refl _) _).alloc (by simp) _).alloc (by simp; omega) _
  have hs0 : w0.heap.size = w.heap.size + 1 + 1 + 1 := by rw [← hw0]; simp
  have hk0 : Row w0 w.heap.size 24 (u8s k) := by rw [← hw0]; exact ((Row.new' w 24 (u8s k)).alloc _).alloc _
  have hz0 : Row w0 (w.heap.size + 1) 24 noKey := by rw [← hw0]; exact (Row.newAt (w.alloc (.cells (u8s k).toArray 24)) 24 noKey.toArray (by simp)).alloc _
  have hm0 : Row w0 (w.heap.size + 1 + 1) 5 [.int .u8 (m : Nat)] := by rw [← hw0]; exact Row.newAt _ 5 #[.int .u8 (m : Nat)] (by simp)
  have hI0 : IsBytes w0.heap.size w0 (some ⟨w.heap.size + 1 + 1, 0, none⟩) 1 1 [m] := bytes_of_box (t := 5) (k := [m]) hm0 rfl (by omega) (by simpa using hm)
  obtain ⟨w1, hw1⟩ : ∃ w1, w0.alloc (.cells #[.slice (some ⟨w.heap.size + 1 + 1, 0, none⟩) 1 1] 25) = w1 := ⟨_, rfl⟩
  have hb1 : Below w0.heap.size w0 w1 := by rw [← hw1]; exact (Below.refl _ w0).alloc (Nat.le_refl _) _
  have hL1 : IsLists w1.heap.size w1 (some ⟨w0.heap.size, 0, none⟩) 1 1 [[m]] := by rw [← hw1, World.size_alloc]; exact lists_one hI0
  have hB1 : Below w.heap.size w w1 := hb0.trans (hb1.mono hb0.size)
  have HC : Hid (Calls Tryd.prog 51 #[.slice (some ⟨w.heap.size, 0, none⟩) 32 32, .slice (some ⟨w.heap.size + 1 + 1 + 1, 0, none⟩) 1 1] w1 fun e w' => e = .returned (.agg (u8s (useN k m)).toArray) ∧ Below w1.heap.size w1 w') :=
    by rw [← hs0]; exact Sh.macSum_any _ 32 32 k (by omega) _ 1 1 (by omega) [[m]] (by simp) w1 (hT.later hB1) (bytes_of_box (hk0.later hb1) hk.1 (by omega) hk.2) hL1
  have HW1 : Hid (w0.alloc (.cells #[.slice (some ⟨w.heap.size + 1 + 1, 0, none⟩) 1 1] 25) = w1) := hw1
  have HZ1 : Hid (Row w1 (w.heap.size + 1) 24 noKey) := hz0.later hb1
  have HV : Hid ((u8s (useN k m)).length = 32) := by show _ = _; rw [u8s_length, (useN_key k m).1]
  have HV1 : Hid (∀ v ∈ u8s (useN k m), v.oneCell' = true) := u8s_one _
  have HS0 : Hid (w0.heap.size = w.heap.size + 1 + 1 + 1) := hs0
  clear hw0 hw1 hk0 hz0 hm0 hI0 hL1 hs0
  generalize u8s (useN k m) = V at *
  go_enter Tryd.func44, Tryd.ntmps44
  go_wp2_with (first
    | (go_at_call 51; change Calls Tryd.prog 51 _ ((((w.alloc (.cells (u8s k).toArray 24)).alloc (.cells noKey.toArray 24)).alloc (.cells #[.int .u8 (m : Nat)] 5)).alloc (.cells #[.slice (some ⟨w.heap.size + 1 + 1, 0, none⟩) 1 1] 25)) _; rw [HW0.out, HW1.out]; refine HC.out.mono ?_; rintro e w2 ⟨rfl, hb2⟩; have HZ2 : Hid (Row w2 (w.heap.size + 1) 24 noKey) := Row.later HZ1.out hb2)
    | ((with_reducible show wpList _ _ _ (Oper.mk _ (Op.store 24 (.tmp 4) (.tmp 9)) _ _ _ _ :: _) _ _); refine wpList_store_Row rfl 24 (.tmp 4) (.tmp 9) rfl V rfl rfl HZ2.out (by rw [HV.out]; exact size24) (by rw [HV.out]; rfl) HV1.out ?_; simp only [Act.put]))
  refine bodyPost_ret (results_Row rfl rfl (Row.sets_all (vs := V) HZ2.out (by rw [HV.out]; rfl)) Tryd.underlying24 (by rw [HV.out]; exact size24)) rfl ?_
  exact ⟨rfl, below_setCells (by omega) _ _ (hB1.trans (hb2.mono hB1.size))⟩

end Go.Proofs.YtobmcaknfbooiaaDoor
/-
  tagOf: the tag of the words beside a text, the nonce and the turned text.
-/
namespace Go.Proofs.YtobmcaknfbooiaaDoor
open Go.RowKit Go.Shelf

theorem size78 : (Tryd.prog.info? 78).map (·.size) = some 12 := by kernel_rfl
/-- The tag. -/
def tagN (k a n c : List Nat) : List Nat := Sh.macN (useN k 109) (lenB a.length ++ a ++ n ++ c)
theorem tagN_length (k a n c : List Nat) : (tagN k a n c).length = 32 := Sh.macN_length _ _
theorem tagN_lt (k a n c : List Nat) : ∀ z ∈ tagN k a n c, z < 256 := Sh.macN_lt _ _

set_option maxRecDepth 100000 in
set_option maxHeartbeats 1000000 in
theorem tagOf_any (k : List Nat) (hk : IsKey32 k) (pa : Option Addr) (la ca : Nat) (za : List Nat) (hla : la ≤ 10000) (nn : List Nat) (hnl : nn.length = 12) (hnz : ∀ z ∈ nn, z < 256) (pc : Option Addr) (lc cc : Nat) (zc : List Nat) (hlc : lc ≤ 30000) (w : World) (hT : Sh.Tab w)
    (hIa : IsBytes w.heap.size w pa la ca za) (hIc : IsBytes w.heap.size w pc lc cc zc) :
    Calls Tryd.prog 45 #[.agg (u8s k).toArray, .slice pa la ca, .agg (u8s nn).toArray, .slice pc lc cc] w fun e w' => e = .returned (.agg (u8s (tagN k za nn zc)).toArray) ∧ Below w.heap.size w w' := by
  obtain ⟨V, hV⟩ : ∃ V, u8s (tagN k za nn zc) = V := ⟨_, rfl⟩
  have HV : Hid (V.length = 32) := by show _ = _; rw [← hV, u8s_length, tagN_length]
  have HV1 : Hid (∀ v ∈ V, v.oneCell' = true) := by rw [← hV]; exact u8s_one _
  have HVe : Hid (u8s (tagN k za nn zc) = V) := hV
  rw [hV]
  clear hV
  obtain ⟨w0, hw0⟩ : ∃ w0, (((w.alloc (.cells (u8s k).toArray 24)).alloc (.cells (u8s nn).toArray 78)).alloc (.cells noKey.toArray 40)) = w0 := ⟨_, rfl⟩
  have HW0 : Hid ((((w.alloc (.cells (u8s k).toArray 24)).alloc (.cells (u8s nn).toArray 78)).alloc (.cells noKey.toArray 40)) = w0) := hw0
  have hb0 : Below w.heap.size w w0 := by rw [← hw0]; exact (((Below.refl _ w).alloc (Nat.le_refl _) _).alloc (by simp) _).alloc (by simp; omega) _
  have hk0 : Row w0 w.heap.size 24 (u8s k) := by rw [← hw0]; exact ((Row.new' w 24 (u8s k)).alloc _).alloc _
  have hn0 : Row w0 (w.heap.size + 1) 78 (u8s nn) := by rw [← hw0]; exact (Row.newAt (w.alloc (.cells (u8s k).toArray 24)) 78 (u8s nn).toArray (by simp)).alloc _
  have hz0 : Row w0 (w.heap.size + 1 + 1) 40 noKey := by rw [← hw0]; exact Row.newAt _ 40 noKey.toArray (by simp)
  have HU : Hid (Calls Tryd.prog 44 #[.agg (u8s k).toArray, .int .u8 109] w0 fun e w' => e = .returned (.agg (u8s (useN k 109)).toArray) ∧ Below w0.heap.size w0 w') := useKey_any k hk 109 (by omega) w0 (hT.later hb0)
  have HK0 : Hid (Row w0 w.heap.size 24 (u8s k)) := hk0
  have HN0 : Hid (Row w0 (w.heap.size + 1) 78 (u8s nn)) := hn0
  have HZ0 : Hid (Row w0 (w.heap.size + 1 + 1) 40 noKey) := hz0
  have HKl : Hid ((u8s k).length = 32) := by show _ = _; rw [u8s_length, hk.1]
  have HUl : Hid ((u8s (useN k 109)).length = 32) := by show _ = _; rw [u8s_length, (useN_key k 109).1]
  have HU1 : Hid (∀ v ∈ u8s (useN k 109), v.oneCell' = true) := u8s_one _
  have HIa : Hid (IsBytes w.heap.size w pa la ca za) := hIa
  have HIc : Hid (IsBytes w.heap.size w pc lc cc zc) := hIc
  have hac := hIa.2.1
  have hac2 := hIa.2.2.1
  clear hw0 hk0 hn0 hz0 hIa hIc
  go_enter Tryd.func45, Tryd.ntmps45
  go_wp2_with (first
    | ((with_reducible show wpList _ _ _ (Oper.mk _ (Op.load 24 (.tmp 4)) _ _ _ _ :: _) _ _); change wpList _ _ _ _ _ (((w.alloc (.cells (u8s k).toArray 24)).alloc (.cells (u8s nn).toArray 78)).alloc (.cells noKey.toArray 40)); rw [HW0.out]; refine wpList_load_Row rfl 24 (.tmp 4) rfl rfl HK0.out Tryd.underlying24 (by rw [HKl.out]; exact size24) ?_; simp only [Act.put, List.setIfInBounds_toArray, List.set_cons_zero, List.set_cons_succ])
    | (go_at_call 44; refine HU.out.mono ?_; rintro e w1 ⟨rfl, hb1⟩; have hB1 : Below w.heap.size w w1 := hb0.trans (hb1.mono hb0.size); have HN1 : Hid (Row w1 (w.heap.size + 1) 78 (u8s nn)) := Row.later HN0.out hb1; have HZ1 : Hid (Row w1 (w.heap.size + 1 + 1) 40 noKey) := Row.later HZ0.out hb1; clear hb1)
    | ((with_reducible show wpList _ _ _ (Oper.mk _ (Op.store 24 (.tmp 9) (.tmp 11)) _ _ _ _ :: _) _ _); change wpList _ _ _ _ _ (w1.alloc (.cells noKey.toArray 24)); refine wpList_store_Row rfl 24 (.tmp 9) (.tmp 11) rfl (u8s (useN k 109)) rfl rfl (Row.new' _ _ _) (by rw [HUl.out]; exact size24) (by rw [HUl.out]; rfl) HU1.out ?_; simp only [Act.put]))
  obtain ⟨w2, hw2⟩ : ∃ w2, (w1.alloc (.cells noKey.toArray 24)).setCells w1.heap.size 0 (u8s (useN k 109)) = w2 := ⟨_, rfl⟩
  have hb2 : Below w1.heap.size w1 w2 := by rw [← hw2]; exact below_setCells (Nat.le_refl _) _ _ ((Below.refl _ w1).alloc (Nat.le_refl _) _)
  have hu2 : Row w2 w1.heap.size 24 (u8s (useN k 109)) := by rw [← hw2]; exact Row.sets_all (Row.new' _ _ _) (by rw [HUl.out]; rfl)
  rw [hw2]
  have HU2 : Hid (Row w2 w1.heap.size 24 (u8s (useN k 109))) := hu2
  have HN2 : Hid (Row w2 (w.heap.size + 1) 78 (u8s nn)) := Row.later HN1.out hb2
  have HZ2 : Hid (Row w2 (w.heap.size + 1 + 1) 40 noKey) := Row.later HZ1.out hb2
  have hB2 : Below w.heap.size w w2 := hB1.trans (hb2.mono hB1.size)
  clear hw2 hu2 HN1 HZ1 HU HN0 HZ0
  refine wp_region_noPanic ?_
  refine wp_region_held_drew (S := fun _ => True) (by kernel_rfl) trivial (fun hHeld => ?_)
  refine wpAnyH_takesAt 0 2 7 (of_decide_eq_true (by kernel_rfl)) rfl (fun _ _ _ _ _ h => h) (by kernel_rfl) (by kernel_rfl) hHeld ?_
  simp only [List.drop_zero, List.take_succ_cons, List.take_zero]
  iterate 2 (refine wpHeld_step (v := ?_) (by rfl) (fun wz hSw => ?_) ?_; rotate_left; (focus ((try dsimp only at hSw); go_simp; try with_reducible rfl)); (simp only [Act.put, List.setIfInBounds_toArray, List.set_cons_zero, List.set_cons_succ]))
  refine wpHeld_nil ?_
  refine wpAnyH_takesAt 3 3 4 (of_decide_eq_true (by kernel_rfl)) rfl (fun _ _ _ _ _ h => h) (by kernel_rfl) (by kernel_rfl) hHeld ?_
  simp only [List.drop_succ_cons, List.drop_zero, List.take_succ_cons, List.take_zero]
  iterate 3 (refine wpHeld_step (v := ?_) (by rfl) (fun wz hSw => ?_) ?_; rotate_left; (focus ((try dsimp only at hSw); go_simp; try with_reducible rfl)); (simp only [Act.put, List.setIfInBounds_toArray, List.set_cons_zero, List.set_cons_succ]))
  refine wpHeld_nil ?_
  refine wpAnyH_only (i := 2) (by kernel_rfl) rfl (fun K hK => ?_)
  rw [if_pos (by rfl)]
  go_simp
  refine (lengthB_any pa la ca (by omega) hac hac2 _).mono ?_
  rintro e w3 ⟨v3, rfl, hO3, hb3⟩
  have hB2d : Below w.heap.size w w2.drew := below_drewN hB2 1
  have hB3 : Below w.heap.size w w3 := hB2d.trans (hb3.mono hB2d.size)
  obtain ⟨q3, c3, rfl⟩ := own_len hO3 (lenB_length la)
  refine hK.out _ _ trivial ?_
  clear hK K
  refine wpAnyH_only (i := 6) (by kernel_rfl) rfl (fun K hK => ?_)
  rw [if_pos (by rfl)]
  go_simp
  have hb23 : Below w2.heap.size w2 w3 := (below_drewN (Below.refl _ w2) 1).trans hb3
  have hL4 := lists_four (hO3.bytes (lenB_lt la)) ((HIa.out.below hB3).mono hB3.size) (bytes_of_box (Row.later HN2.out hb23) hnl (by omega) hnz) ((HIc.out.below hB3).mono hB3.size)
  refine hK.out _ _ trivial ?_
  clear hK K
  obtain ⟨w4, hw4⟩ : ∃ w4, w3.alloc (.cells #[.slice q3 8 c3, .slice pa la ca, .slice (some ⟨w.heap.size + 1, 0, none⟩) 12 12, .slice pc lc cc] 25) = w4 := ⟨_, rfl⟩
  have hb4 : Below w3.heap.size w3 w4 := by rw [← hw4]; exact (Below.refl _ w3).alloc (Nat.le_refl _) _
  have hs4 : w4.heap.size = w3.heap.size + 1 := by rw [← hw4]; simp
  rw [hw4, ← hs4] at hL4
  rw [hw4]
  have hb24 : Below w2.heap.size w2 w4 := hb23.trans (hb4.mono hb23.size)
  have hB4 : Below w.heap.size w w4 := hB3.trans (hb4.mono hB3.size)
  have HM : Hid (Calls Tryd.prog 51 #[.slice (some ⟨w1.heap.size, 0, none⟩) 32 32, .slice (some ⟨w3.heap.size, 0, none⟩) 4 4] w4 fun e w' => e = .returned (.agg V.toArray) ∧ Below w4.heap.size w4 w') := by
    have h := Sh.macSum_any _ 32 32 (useN k 109) (by omega) _ 4 4 (by omega) [lenB la, za, nn, zc] (by have := HIa.out.1; have := HIc.out.1; simp [lenB_length]; omega) w4 (hT.later hB4) (bytes_of_box (Row.later HU2.out hb24) (useN_key k 109).1 (by omega) (useN_key k 109).2) hL4
    have e : Sh.macN (useN k 109) [lenB la, za, nn, zc].flatten = tagN k za nn zc := by unfold tagN; rw [HIa.out.1]; simp [List.append_assoc]
    rw [e, HVe.out] at h
    exact h
  have HZ4 : Hid (Row w4 (w.heap.size + 1 + 1) 40 noKey) := Row.later HZ2.out hb24
  clear hw4 hL4 hs4 hO3
  refine wpAnyH_only (i := 7) (by kernel_rfl) rfl (fun K hK => ?_)
  rw [if_pos (by rfl)]
  go_simp
  refine HM.out.mono ?_
  rintro e w5 ⟨rfl, hb5⟩
  have HZ5 : Hid (Row w5 (w.heap.size + 1 + 1) 40 noKey) := Row.later HZ4.out hb5
  refine hK.out _ _ trivial ?_
  clear hK K
  refine wpAnyH_only (i := 8) (by kernel_rfl) rfl (fun K hK => ?_)
  rw [if_pos (by rfl)]
  refine wp_store_mid 40 (.tmp 8) (.tmp 19) rfl (w.heap.size + 1 + 1) 0 V.toArray rfl rfl (by have h := Row.there HZ5.out; show World.there _ _ 0 V.length; rw [HV.out]; exact h) (by show _ = some V.length; rw [HV.out]; kernel_rfl) (by rw [List.all_toArray]; exact List.all_eq_true.2 HV1.out) ?_
  refine hK.out _ _ trivial ?_
  clear hK K
  refine wpAnyH_done (by kernel_rfl) ?_ _
  refine NoPanic.normal ?_
  go_wp2
  refine bodyPost_ret (results_Row rfl rfl (Row.sets_all (vs := V) HZ5.out (by rw [HV.out]; rfl)) Tryd.underlying40 (by rw [HV.out]; kernel_rfl)) rfl ?_
  exact ⟨rfl, below_setCells (by omega) _ _ (hB4.trans (hb5.mono hB4.size))⟩

end Go.Proofs.YtobmcaknfbooiaaDoor
/-
  nonceOf: the nonce of the words beside a text and the padded text.
-/
namespace Go.Proofs.YtobmcaknfbooiaaDoor
open Go.RowKit Go.Shelf

section
variable {P : Program} {ops : Array Oper} {Q : Exit → Act → World → Prop} {S : World → Prop} {md : Region.Mode}
/-- Whatever order: operation i, j or k may come up. -/
theorem wpAnyH_three {i j k fuel : Nat} {listed : Array Bool} {oi oj ok : Oper} {a : Act} {w : World} (hr : Region.ready md ops listed = [i, j, k]) (hi : ops[i]? = some oi) (hj : ops[j]? = some oj) (hk : ops[k]? = some ok)
    (h : ∀ K' : Act → World → Prop, Hid (∀ a w, S w → wpAnyH P md ops Q S fuel (listed.setIfInBounds i true) a w → K' a w) → if Region.wanted oi (yielded ops a.tmps) = true then Oper.wp P oi a w K' Q else K' (a.put oi.dst undef) w)
    (h' : ∀ K' : Act → World → Prop, Hid (∀ a w, S w → wpAnyH P md ops Q S fuel (listed.setIfInBounds j true) a w → K' a w) → if Region.wanted oj (yielded ops a.tmps) = true then Oper.wp P oj a w K' Q else K' (a.put oj.dst undef) w)
    (h'' : ∀ K' : Act → World → Prop, Hid (∀ a w, S w → wpAnyH P md ops Q S fuel (listed.setIfInBounds k true) a w → K' a w) → if Region.wanted ok (yielded ops a.tmps) = true then Oper.wp P ok a w K' Q else K' (a.put ok.dst undef) w) :
    wpAnyH P md ops Q S (fuel + 1) listed a w :=
  wpAnyH_all hr (by simp) (fun x hx => by
    rcases List.mem_cons.1 hx with rfl | hx
    · exact wpOp_step hi (fun K' hK => h K' (fun a w hS hW => hK a w ⟨hS, hW⟩))
    · rcases List.mem_cons.1 hx with rfl | hx
      · exact wpOp_step hj (fun K' hK => h' K' (fun a w hS hW => hK a w ⟨hS, hW⟩))
      · have : x = k := by simpa using hx
        subst this
        exact wpOp_step hk (fun K' hK => h'' K' (fun a w hS hW => hK a w ⟨hS, hW⟩)))
/-- A region that draws its order, cut off. -/
theorem wp_region_cut {a : Act} {w : World} {id : Nat} (R : Act → World → Prop) (hm : P.follows .mixedOrders = true) (hS : S w.drew)
    (h : S w.drew → wpAnyH P .any ops (OnOnly fun _ a w => R a w) S ops.size (Array.replicate ops.size false) a w.drew) (hR : ∀ a' w', R a' w' → Q .normal a' w') : (Code.region id ops true).wp P Q a w :=
  Code.wp_mono (fun e a' w' h' => by cases e <;> first | exact hR _ _ h' | exact (h' : False).elim) (wp_region_held_drew hm hS h)
end

theorem IsLists.later {A B : World} (h : Below A.heap.size A B) {p : Option Addr} {len cap : Nat} {ts : List (List Nat)} (hL : IsLists A.heap.size A p len cap ts) : IsLists B.heap.size B p len cap ts := by
  obtain ⟨h1, h0, h2⟩ := IsLists.below h hL
  refine ⟨h1, h0, ?_⟩
  rcases h2 with e | ⟨b, off, e, hb, hc⟩
  · exact .inl e
  · refine .inr ⟨b, off, e, Nat.lt_of_lt_of_le hb h.size, fun i hi => ?_⟩
    obtain ⟨q, l, c, h3, h4⟩ := hc i hi
    exact ⟨q, l, c, h3, h4.mono h.size⟩

/-- No nonce. -/
def noNonce : List Value := List.replicate 12 (.int .u8 0)
/-- The nonce. -/
def nonceN (k a p : List Nat) : List Nat := (Sh.macN k (110 :: (lenB a.length ++ a ++ p))).take 12
theorem nonceN_length (k a p : List Nat) : (nonceN k a p).length = 12 := by unfold nonceN; rw [List.length_take, Sh.macN_length]; rfl
theorem nonceN_lt (k a p : List Nat) : ∀ z ∈ nonceN k a p, z < 256 := fun z hz => Sh.macN_lt _ _ z (List.mem_of_mem_take hz)
theorem run_arrayAt78 (b o L C : Nat) (h : 12 ≤ L) (w : World) : (Instr.arrayAt 78 (.slice (some ⟨b, o, none⟩) L C)).run Tryd.prog w = .ok (.pointer (some ⟨b, o, none⟩)) w := by
  have h : ¬ L < 12 := by omega
  simp [Instr.arrayAt, run_underlying Tryd.underlying78, go_sem, h]

set_option maxRecDepth 100000 in
set_option maxHeartbeats 4000000 in
theorem nonceOf_any (k : List Nat) (hk : IsKey32 k) (pa : Option Addr) (la ca : Nat) (za : List Nat) (hla : la ≤ 10000) (pp : Option Addr) (lp cp : Nat) (zp : List Nat) (hlp : lp ≤ 30000) (w : World) (hT : Sh.Tab w)
    (hIa : IsBytes w.heap.size w pa la ca za) (hIp : IsBytes w.heap.size w pp lp cp zp) :
    Calls Tryd.prog 42 #[.agg (u8s k).toArray, .slice pa la ca, .slice pp lp cp] w fun e w' => e = .returned (.agg (u8s (nonceN k za zp)).toArray) ∧ Below w.heap.size w w' := by
  obtain ⟨V, hV⟩ : ∃ V, u8s (Sh.macN k (110 :: (lenB za.length ++ za ++ zp))) = V := ⟨_, rfl⟩
  have HV : Hid (V.length = 32) := by show _ = _; rw [← hV, u8s_length, Sh.macN_length]
  have HV1 : Hid (∀ v ∈ V, v.oneCell' = true) := by rw [← hV]; exact u8s_one _
  obtain ⟨N, hN⟩ : ∃ N, u8s (nonceN k za zp) = N := ⟨_, rfl⟩
  have HN : Hid (N.length = 12) := by show _ = _; rw [← hN, u8s_length, nonceN_length]
  have HN1 : Hid (∀ v ∈ N, v.oneCell' = true) := by rw [← hN]; exact u8s_one _
  have HNV : Hid (N = V.take 12) := by show _ = _; rw [← hN, ← hV]; unfold nonceN; simp [u8s, List.map_take]
  rw [hN]
  obtain ⟨w0, hw0⟩ : ∃ w0, ((w.alloc (.cells (u8s k).toArray 24)).alloc (.cells noNonce.toArray 78)) = w0 := ⟨_, rfl⟩
  have HW0 : Hid (((w.alloc (.cells (u8s k).toArray 24)).alloc (.cells noNonce.toArray 78)) = w0) := hw0
  have hb0 : Below w.heap.size w w0 := by rw [← hw0]; exact ((Below.refl _ w).alloc (Nat.le_refl _) _).alloc (by simp) _
  have hk0 : Row w0 w.heap.size 24 (u8s k) := by rw [← hw0]; exact (Row.new' w 24 (u8s k)).alloc _
  have hz0 : Row w0 (w.heap.size + 1) 78 noNonce := by rw [← hw0]; exact Row.newAt (w.alloc (.cells (u8s k).toArray 24)) 78 noNonce.toArray (by simp)
  have HM : Hid (∀ W b6, Below w.heap.size w W → Row W w.heap.size 24 (u8s k) → IsLists W.heap.size W (some ⟨b6, 0, none⟩) 4 4 [[110], lenB la, za, zp] → Calls Tryd.prog 51 #[.slice (some ⟨w.heap.size, 0, none⟩) 32 32, .slice (some ⟨b6, 0, none⟩) 4 4] W fun e w' => e = .returned (.agg V.toArray) ∧ Below W.heap.size W w') := fun W b6 hW hkW hL => by
    have h := Sh.macSum_any _ 32 32 k (by omega) _ 4 4 (by omega) [[110], lenB la, za, zp] (by have := hIa.1; have := hIp.1; simp [lenB_length]; omega) W (hT.later hW) (bytes_of_box hkW hk.1 (by omega) hk.2) hL
    have e : [[110], lenB la, za, zp].flatten = 110 :: (lenB za.length ++ za ++ zp) := by rw [hIa.1]; simp [List.append_assoc]
    rw [e, hV] at h
    exact h
  have hac := hIa.2.1
  have hac2 := hIa.2.2.1
  have Ia : Hid (∀ W, Below w.heap.size w W → IsBytes W.heap.size W pa la ca za) := fun W hW => hIa.later hW
  have Ip : Hid (∀ W, Below w.heap.size w W → IsBytes W.heap.size W pp lp cp zp) := fun W hW => hIp.later hW
  clear hw0 hIa hIp hV hN
  go_enter Tryd.func42, Tryd.ntmps42
  go_wp2
  change Code.wp _ _ _ _ ((w.alloc (.cells (u8s k).toArray 24)).alloc (.cells noNonce.toArray 78))
  rw [HW0.out]
  refine wp_region_cut (S := fun _ => True) (fun a' w' => ∃ (b8 : Nat) (s9 s11 s14 : Value), a' = { tmps := #[.agg (u8s k).toArray, .slice pa la ca, .slice pp lp cp, .pointer (some ⟨w.heap.size, 0, none⟩), undef, undef, .pointer (some ⟨w.heap.size + 1, 0, none⟩), .pointer (some ⟨b8, 0, none⟩), .slice (some ⟨w.heap.size, 0, none⟩) 32 32, s9, .slice pa la ca, s11, .slice pa la ca, .slice pp lp cp, s14, .agg V.toArray, undef, undef, undef], defers := [] } ∧ w.heap.size ≤ b8 ∧ b8 ≠ w.heap.size + 1 ∧ Row w' b8 40 V ∧ Row w' (w.heap.size + 1) 78 noNonce ∧ Below w.heap.size w w') (by kernel_rfl) trivial ?body ?tail
  case body =>
    intro hHeld
    have B0 : Below w.heap.size w w0.drew := below_drewN hb0 1
    have K0 : Row w0.drew w.heap.size 24 (u8s k) := hk0
    have Z0 : Row w0.drew (w.heap.size + 1) 78 noNonce := hz0
    clear hk0 hz0 hb0
    generalize w0.drew = W0 at *
    refine wpAnyH_takesAt 0 1 9 (of_decide_eq_true (by kernel_rfl)) rfl (fun _ _ _ _ _ h => h) (by kernel_rfl) (by kernel_rfl) hHeld ?_
    simp only [List.drop_zero, List.take_succ_cons, List.take_zero]
    iterate 1 (refine wpHeld_step (v := ?_) (by rfl) (fun wz hSw => ?_) ?_; rotate_left; (focus ((try dsimp only at hSw); go_simp; try with_reducible rfl)); ((simp only [Act.put]; (try simp only [List.setIfInBounds_toArray]); (try simp only [List.set_cons_succ]); (try simp only [List.set_cons_zero]))))
    refine wpHeld_nil ?_
    refine wpAnyH_takesAt 2 1 8 (of_decide_eq_true (by kernel_rfl)) rfl (fun _ _ _ _ _ h => h) (by kernel_rfl) (by kernel_rfl) hHeld ?_
    simp only [List.drop_succ_cons, List.drop_zero, List.take_succ_cons, List.take_zero]
    iterate 1 (refine wpHeld_step (v := ?_) (by rfl) (fun wz hSw => ?_) ?_; rotate_left; (focus ((try dsimp only at hSw); go_simp; try with_reducible rfl)); ((simp only [Act.put]; (try simp only [List.setIfInBounds_toArray]); (try simp only [List.set_cons_succ]); (try simp only [List.set_cons_zero]))))
    refine wpHeld_nil ?_
    refine wpAnyH_takesAt 4 2 6 (of_decide_eq_true (by kernel_rfl)) rfl (fun _ _ _ _ _ h => h) (by kernel_rfl) (by kernel_rfl) hHeld ?_
    simp only [List.drop_succ_cons, List.drop_zero, List.take_succ_cons, List.take_zero]
    iterate 2 (refine wpHeld_step (v := ?_) (by rfl) (fun wz hSw => ?_) ?_; rotate_left; (focus ((try dsimp only at hSw); go_simp; try with_reducible rfl)); (simp only [Act.put, List.setIfInBounds_toArray, List.set_cons_zero, List.set_cons_succ]))
    refine wpHeld_nil ?_
    refine wpAnyH_three (i := 1) (j := 3) (k := 8) (by kernel_rfl) rfl rfl rfl (fun K hK => ?_) (fun K hK => ?_) (fun K hK => ?_)
    · rw [if_pos (by rfl)]
      go_simp
      refine hK.out _ _ trivial ?_
      clear hK K
      obtain ⟨W1, hW⟩ : ∃ W1, W0.alloc (.cells #[.int .u8 110] 5) = W1 := ⟨_, rfl⟩
      have hb : Below W0.heap.size W0 W1 := by rw [← hW]; exact (Below.refl _ W0).alloc (Nat.le_refl _) _
      have B1 : Below w.heap.size w W1 := B0.trans (hb.mono B0.size)
      have K1 : Row W1 w.heap.size 24 (u8s k) := K0.later hb
      have Z1 : Row W1 (w.heap.size + 1) 78 noNonce := Z0.later hb
      have I1 : IsBytes W1.heap.size W1 (some ⟨W0.heap.size, 0, none⟩) 1 1 [110] := by rw [← hW]; exact bytes_of_box (t := 5) (k := [110]) (Row.new' W0 5 [.int .u8 110]) rfl (by omega) (by simp)
      rw [hW]
      generalize W0.heap.size = b1 at I1 ⊢
      clear hW hb B0 K0 Z0
      refine wpAnyH_either (i := 3) (j := 8) (by kernel_rfl) rfl rfl (fun K hK => ?_) (fun K hK => ?_)
      · rw [if_pos (by rfl)]
        go_simp
        refine (lengthB_any pa la ca (by omega) hac hac2 _).mono ?_
        rintro e W2 ⟨v3, rfl, hO, hb⟩
        obtain ⟨q3, c3, rfl⟩ := own_len hO (lenB_length la)
        have J2 : IsBytes W2.heap.size W2 q3 8 c3 (lenB la) := hO.bytes (lenB_lt la)
        have B2 : Below w.heap.size w W2 := B1.trans (hb.mono B1.size)
        have K2 : Row W2 w.heap.size 24 (u8s k) := K1.later hb
        have Z2 : Row W2 (w.heap.size + 1) 78 noNonce := Z1.later hb
        have I2 := I1.later hb
        refine hK.out _ _ trivial ?_
        clear hK K
        clear hO hb B1 K1 Z1 I1
        refine wpAnyH_either (i := 6) (j := 8) (by kernel_rfl) rfl rfl (fun K hK => ?_) (fun K hK => ?_)
        · rw [if_pos (by rfl)]
          go_simp
          refine hK.out _ _ trivial ?_
          clear hK K
          have hL := lists_four I2 J2 (Ia.out _ B2) (Ip.out _ B2)
          obtain ⟨W3, hW⟩ : ∃ W3, W2.alloc (.cells #[.slice (some ⟨b1, 0, none⟩) 1 1, .slice q3 8 c3, .slice pa la ca, .slice pp lp cp] 25) = W3 := ⟨_, rfl⟩
          have hb : Below W2.heap.size W2 W3 := by rw [← hW]; exact (Below.refl _ W2).alloc (Nat.le_refl _) _
          have L3 : IsLists W3.heap.size W3 (some ⟨W2.heap.size, 0, none⟩) 4 4 [[110], lenB la, za, zp] := by rw [← hW, World.size_alloc]; exact hL
          have B3 : Below w.heap.size w W3 := B2.trans (hb.mono B2.size)
          have K3 : Row W3 w.heap.size 24 (u8s k) := K2.later hb
          have Z3 : Row W3 (w.heap.size + 1) 78 noNonce := Z2.later hb
          have I3 := I2.later hb
          have J3 := J2.later hb
          rw [hW]
          generalize W2.heap.size = b6 at L3 ⊢
          clear hW hb hL B2 K2 Z2 I2 J2
          refine wpAnyH_either (i := 7) (j := 8) (by kernel_rfl) rfl rfl (fun K hK => ?_) (fun K hK => ?_)
          · rw [if_pos (by rfl)]
            go_simp
            refine (HM.out _ b6 B3 K3 L3).mono ?_
            rintro e W4 ⟨rfl, hb⟩
            have B4 : Below w.heap.size w W4 := B3.trans (hb.mono B3.size)
            have K4 : Row W4 w.heap.size 24 (u8s k) := K3.later hb
            have Z4 : Row W4 (w.heap.size + 1) 78 noNonce := Z3.later hb
            have I4 := I3.later hb
            have J4 := J3.later hb
            refine hK.out _ _ trivial ?_
            clear hK K
            clear hb B3 K3 Z3 I3 J3 L3
            refine wpAnyH_only (i := 8) (by kernel_rfl) rfl (fun K hK => ?_)
            rw [if_pos (by rfl)]
            go_simp
            refine hK.out _ (W4.alloc (.cells noKey.toArray 40)) trivial ?_
            clear hK K
            obtain ⟨W5, hW⟩ : ∃ W5, W4.alloc (.cells noKey.toArray 40) = W5 := ⟨_, rfl⟩
            have hb : Below W4.heap.size W4 W5 := by rw [← hW]; exact (Below.refl _ W4).alloc (Nat.le_refl _) _
            have hb8 : w.heap.size ≤ W4.heap.size := B4.size
            have hne8 : W4.heap.size ≠ w.heap.size + 1 := by have := Z4.lt; omega
            have R5 : Row W5 W4.heap.size 40 noKey := by rw [← hW]; exact Row.new' _ _ _
            have B5 : Below w.heap.size w W5 := B4.trans (hb.mono B4.size)
            have K5 : Row W5 w.heap.size 24 (u8s k) := K4.later hb
            have Z5 : Row W5 (w.heap.size + 1) 78 noNonce := Z4.later hb
            have I5 := I4.later hb
            have J5 := J4.later hb
            rw [hW]
            generalize W4.heap.size = b8 at R5 hb8 hne8 ⊢
            clear hW hb B4 K4 Z4 I4 J4
            refine wpAnyH_only (i := 9) (by kernel_rfl) rfl (fun K hK => ?_)
            rw [if_pos (by rfl)]
            refine wp_store_mid 40 (.tmp 7) (.tmp 15) rfl b8 0 V.toArray rfl rfl (by have h := Row.there R5; show World.there _ _ 0 V.length; rw [HV.out]; exact h) (by show _ = some V.length; rw [HV.out]; kernel_rfl) (by rw [List.all_toArray]; exact List.all_eq_true.2 HV1.out) ?_
            refine hK.out _ _ trivial ?_
            clear hK K
            refine wpAnyH_done (by kernel_rfl) ?_ _
            exact ⟨b8, _, _, _, rfl, hb8, hne8, Row.sets_all (vs := V) R5 (by rw [HV.out]; rfl), Row.others (Ne.symm hne8) _ 0 Z5, below_setCells hb8 _ _ B5⟩
          · rw [if_pos (by rfl)]
            go_simp
            refine hK.out _ (W3.alloc (.cells noKey.toArray 40)) trivial ?_
            clear hK K
            obtain ⟨W4, hW⟩ : ∃ W4, W3.alloc (.cells noKey.toArray 40) = W4 := ⟨_, rfl⟩
            have hb : Below W3.heap.size W3 W4 := by rw [← hW]; exact (Below.refl _ W3).alloc (Nat.le_refl _) _
            have hb8 : w.heap.size ≤ W3.heap.size := B3.size
            have hne8 : W3.heap.size ≠ w.heap.size + 1 := by have := Z3.lt; omega
            have R4 : Row W4 W3.heap.size 40 noKey := by rw [← hW]; exact Row.new' _ _ _
            have B4 : Below w.heap.size w W4 := B3.trans (hb.mono B3.size)
            have K4 : Row W4 w.heap.size 24 (u8s k) := K3.later hb
            have Z4 : Row W4 (w.heap.size + 1) 78 noNonce := Z3.later hb
            have I4 := I3.later hb
            have J4 := J3.later hb
            have L4 := IsLists.later hb L3
            rw [hW]
            generalize W3.heap.size = b8 at R4 hb8 hne8 ⊢
            clear hW hb B3 K3 Z3 I3 J3 L3
            refine wpAnyH_only (i := 7) (by kernel_rfl) rfl (fun K hK => ?_)
            rw [if_pos (by rfl)]
            go_simp
            refine (HM.out _ b6 B4 K4 L4).mono ?_
            rintro e W5 ⟨rfl, hb⟩
            have B5 : Below w.heap.size w W5 := B4.trans (hb.mono B4.size)
            have K5 : Row W5 w.heap.size 24 (u8s k) := K4.later hb
            have Z5 : Row W5 (w.heap.size + 1) 78 noNonce := Z4.later hb
            have I5 := I4.later hb
            have J5 := J4.later hb
            have R5 := R4.later hb
            refine hK.out _ _ trivial ?_
            clear hK K
            clear hb B4 K4 Z4 I4 J4 R4 L4
            refine wpAnyH_only (i := 9) (by kernel_rfl) rfl (fun K hK => ?_)
            rw [if_pos (by rfl)]
            refine wp_store_mid 40 (.tmp 7) (.tmp 15) rfl b8 0 V.toArray rfl rfl (by have h := Row.there R5; show World.there _ _ 0 V.length; rw [HV.out]; exact h) (by show _ = some V.length; rw [HV.out]; kernel_rfl) (by rw [List.all_toArray]; exact List.all_eq_true.2 HV1.out) ?_
            refine hK.out _ _ trivial ?_
            clear hK K
            refine wpAnyH_done (by kernel_rfl) ?_ _
            exact ⟨b8, _, _, _, rfl, hb8, hne8, Row.sets_all (vs := V) R5 (by rw [HV.out]; rfl), Row.others (Ne.symm hne8) _ 0 Z5, below_setCells hb8 _ _ B5⟩
        · rw [if_pos (by rfl)]
          go_simp
          refine hK.out _ (W2.alloc (.cells noKey.toArray 40)) trivial ?_
          clear hK K
          obtain ⟨W3, hW⟩ : ∃ W3, W2.alloc (.cells noKey.toArray 40) = W3 := ⟨_, rfl⟩
          have hb : Below W2.heap.size W2 W3 := by rw [← hW]; exact (Below.refl _ W2).alloc (Nat.le_refl _) _
          have hb8 : w.heap.size ≤ W2.heap.size := B2.size
          have hne8 : W2.heap.size ≠ w.heap.size + 1 := by have := Z2.lt; omega
          have R3 : Row W3 W2.heap.size 40 noKey := by rw [← hW]; exact Row.new' _ _ _
          have B3 : Below w.heap.size w W3 := B2.trans (hb.mono B2.size)
          have K3 : Row W3 w.heap.size 24 (u8s k) := K2.later hb
          have Z3 : Row W3 (w.heap.size + 1) 78 noNonce := Z2.later hb
          have I3 := I2.later hb
          have J3 := J2.later hb
          rw [hW]
          generalize W2.heap.size = b8 at R3 hb8 hne8 ⊢
          clear hW hb B2 K2 Z2 I2 J2
          refine wpAnyH_only (i := 6) (by kernel_rfl) rfl (fun K hK => ?_)
          rw [if_pos (by rfl)]
          go_simp
          refine hK.out _ _ trivial ?_
          clear hK K
          have hL := lists_four I3 J3 (Ia.out _ B3) (Ip.out _ B3)
          obtain ⟨W4, hW⟩ : ∃ W4, W3.alloc (.cells #[.slice (some ⟨b1, 0, none⟩) 1 1, .slice q3 8 c3, .slice pa la ca, .slice pp lp cp] 25) = W4 := ⟨_, rfl⟩
          have hb : Below W3.heap.size W3 W4 := by rw [← hW]; exact (Below.refl _ W3).alloc (Nat.le_refl _) _
          have L4 : IsLists W4.heap.size W4 (some ⟨W3.heap.size, 0, none⟩) 4 4 [[110], lenB la, za, zp] := by rw [← hW, World.size_alloc]; exact hL
          have B4 : Below w.heap.size w W4 := B3.trans (hb.mono B3.size)
          have K4 : Row W4 w.heap.size 24 (u8s k) := K3.later hb
          have Z4 : Row W4 (w.heap.size + 1) 78 noNonce := Z3.later hb
          have I4 := I3.later hb
          have J4 := J3.later hb
          have R4 := R3.later hb
          rw [hW]
          generalize W3.heap.size = b6 at L4 ⊢
          clear hW hb hL B3 K3 Z3 I3 J3 R3
          refine wpAnyH_only (i := 7) (by kernel_rfl) rfl (fun K hK => ?_)
          rw [if_pos (by rfl)]
          go_simp
          refine (HM.out _ b6 B4 K4 L4).mono ?_
          rintro e W5 ⟨rfl, hb⟩
          have B5 : Below w.heap.size w W5 := B4.trans (hb.mono B4.size)
          have K5 : Row W5 w.heap.size 24 (u8s k) := K4.later hb
          have Z5 : Row W5 (w.heap.size + 1) 78 noNonce := Z4.later hb
          have I5 := I4.later hb
          have J5 := J4.later hb
          have R5 := R4.later hb
          refine hK.out _ _ trivial ?_
          clear hK K
          clear hb B4 K4 Z4 I4 J4 R4 L4
          refine wpAnyH_only (i := 9) (by kernel_rfl) rfl (fun K hK => ?_)
          rw [if_pos (by rfl)]
          refine wp_store_mid 40 (.tmp 7) (.tmp 15) rfl b8 0 V.toArray rfl rfl (by have h := Row.there R5; show World.there _ _ 0 V.length; rw [HV.out]; exact h) (by show _ = some V.length; rw [HV.out]; kernel_rfl) (by rw [List.all_toArray]; exact List.all_eq_true.2 HV1.out) ?_
          refine hK.out _ _ trivial ?_
          clear hK K
          refine wpAnyH_done (by kernel_rfl) ?_ _
          exact ⟨b8, _, _, _, rfl, hb8, hne8, Row.sets_all (vs := V) R5 (by rw [HV.out]; rfl), Row.others (Ne.symm hne8) _ 0 Z5, below_setCells hb8 _ _ B5⟩
      · rw [if_pos (by rfl)]
        go_simp
        refine hK.out _ (W1.alloc (.cells noKey.toArray 40)) trivial ?_
        clear hK K
        obtain ⟨W2, hW⟩ : ∃ W2, W1.alloc (.cells noKey.toArray 40) = W2 := ⟨_, rfl⟩
        have hb : Below W1.heap.size W1 W2 := by rw [← hW]; exact (Below.refl _ W1).alloc (Nat.le_refl _) _
        have hb8 : w.heap.size ≤ W1.heap.size := B1.size
        have hne8 : W1.heap.size ≠ w.heap.size + 1 := by have := Z1.lt; omega
        have R2 : Row W2 W1.heap.size 40 noKey := by rw [← hW]; exact Row.new' _ _ _
        have B2 : Below w.heap.size w W2 := B1.trans (hb.mono B1.size)
        have K2 : Row W2 w.heap.size 24 (u8s k) := K1.later hb
        have Z2 : Row W2 (w.heap.size + 1) 78 noNonce := Z1.later hb
        have I2 := I1.later hb
        rw [hW]
        generalize W1.heap.size = b8 at R2 hb8 hne8 ⊢
        clear hW hb B1 K1 Z1 I1
        refine wpAnyH_only (i := 3) (by kernel_rfl) rfl (fun K hK => ?_)
        rw [if_pos (by rfl)]
        go_simp
        refine (lengthB_any pa la ca (by omega) hac hac2 _).mono ?_
        rintro e W3 ⟨v3, rfl, hO, hb⟩
        obtain ⟨q3, c3, rfl⟩ := own_len hO (lenB_length la)
        have J3 : IsBytes W3.heap.size W3 q3 8 c3 (lenB la) := hO.bytes (lenB_lt la)
        have B3 : Below w.heap.size w W3 := B2.trans (hb.mono B2.size)
        have K3 : Row W3 w.heap.size 24 (u8s k) := K2.later hb
        have Z3 : Row W3 (w.heap.size + 1) 78 noNonce := Z2.later hb
        have I3 := I2.later hb
        have R3 := R2.later hb
        refine hK.out _ _ trivial ?_
        clear hK K
        clear hO hb B2 K2 Z2 I2 R2
        refine wpAnyH_only (i := 6) (by kernel_rfl) rfl (fun K hK => ?_)
        rw [if_pos (by rfl)]
        go_simp
        refine hK.out _ _ trivial ?_
        clear hK K
        have hL := lists_four I3 J3 (Ia.out _ B3) (Ip.out _ B3)
        obtain ⟨W4, hW⟩ : ∃ W4, W3.alloc (.cells #[.slice (some ⟨b1, 0, none⟩) 1 1, .slice q3 8 c3, .slice pa la ca, .slice pp lp cp] 25) = W4 := ⟨_, rfl⟩
        have hb : Below W3.heap.size W3 W4 := by rw [← hW]; exact (Below.refl _ W3).alloc (Nat.le_refl _) _
        have L4 : IsLists W4.heap.size W4 (some ⟨W3.heap.size, 0, none⟩) 4 4 [[110], lenB la, za, zp] := by rw [← hW, World.size_alloc]; exact hL
        have B4 : Below w.heap.size w W4 := B3.trans (hb.mono B3.size)
        have K4 : Row W4 w.heap.size 24 (u8s k) := K3.later hb
        have Z4 : Row W4 (w.heap.size + 1) 78 noNonce := Z3.later hb
        have I4 := I3.later hb
        have J4 := J3.later hb
        have R4 := R3.later hb
        rw [hW]
        generalize W3.heap.size = b6 at L4 ⊢
        clear hW hb hL B3 K3 Z3 I3 J3 R3
        refine wpAnyH_only (i := 7) (by kernel_rfl) rfl (fun K hK => ?_)
        rw [if_pos (by rfl)]
        go_simp
        refine (HM.out _ b6 B4 K4 L4).mono ?_
        rintro e W5 ⟨rfl, hb⟩
        have B5 : Below w.heap.size w W5 := B4.trans (hb.mono B4.size)
        have K5 : Row W5 w.heap.size 24 (u8s k) := K4.later hb
        have Z5 : Row W5 (w.heap.size + 1) 78 noNonce := Z4.later hb
        have I5 := I4.later hb
        have J5 := J4.later hb
        have R5 := R4.later hb
        refine hK.out _ _ trivial ?_
        clear hK K
        clear hb B4 K4 Z4 I4 J4 R4 L4
        refine wpAnyH_only (i := 9) (by kernel_rfl) rfl (fun K hK => ?_)
        rw [if_pos (by rfl)]
        refine wp_store_mid 40 (.tmp 7) (.tmp 15) rfl b8 0 V.toArray rfl rfl (by have h := Row.there R5; show World.there _ _ 0 V.length; rw [HV.out]; exact h) (by show _ = some V.length; rw [HV.out]; kernel_rfl) (by rw [List.all_toArray]; exact List.all_eq_true.2 HV1.out) ?_
        refine hK.out _ _ trivial ?_
        clear hK K
        refine wpAnyH_done (by kernel_rfl) ?_ _
        exact ⟨b8, _, _, _, rfl, hb8, hne8, Row.sets_all (vs := V) R5 (by rw [HV.out]; rfl), Row.others (Ne.symm hne8) _ 0 Z5, below_setCells hb8 _ _ B5⟩
    · rw [if_pos (by rfl)]
      go_simp
      refine (lengthB_any pa la ca (by omega) hac hac2 _).mono ?_
      rintro e W1 ⟨v3, rfl, hO, hb⟩
      obtain ⟨q3, c3, rfl⟩ := own_len hO (lenB_length la)
      have J1 : IsBytes W1.heap.size W1 q3 8 c3 (lenB la) := hO.bytes (lenB_lt la)
      have B1 : Below w.heap.size w W1 := B0.trans (hb.mono B0.size)
      have K1 : Row W1 w.heap.size 24 (u8s k) := K0.later hb
      have Z1 : Row W1 (w.heap.size + 1) 78 noNonce := Z0.later hb
      refine hK.out _ _ trivial ?_
      clear hK K
      clear hO hb B0 K0 Z0
      refine wpAnyH_either (i := 1) (j := 8) (by kernel_rfl) rfl rfl (fun K hK => ?_) (fun K hK => ?_)
      · rw [if_pos (by rfl)]
        go_simp
        refine hK.out _ _ trivial ?_
        clear hK K
        obtain ⟨W2, hW⟩ : ∃ W2, W1.alloc (.cells #[.int .u8 110] 5) = W2 := ⟨_, rfl⟩
        have hb : Below W1.heap.size W1 W2 := by rw [← hW]; exact (Below.refl _ W1).alloc (Nat.le_refl _) _
        have B2 : Below w.heap.size w W2 := B1.trans (hb.mono B1.size)
        have K2 : Row W2 w.heap.size 24 (u8s k) := K1.later hb
        have Z2 : Row W2 (w.heap.size + 1) 78 noNonce := Z1.later hb
        have J2 := J1.later hb
        have I2 : IsBytes W2.heap.size W2 (some ⟨W1.heap.size, 0, none⟩) 1 1 [110] := by rw [← hW]; exact bytes_of_box (t := 5) (k := [110]) (Row.new' W1 5 [.int .u8 110]) rfl (by omega) (by simp)
        rw [hW]
        generalize W1.heap.size = b1 at I2 ⊢
        clear hW hb B1 K1 Z1 J1
        refine wpAnyH_either (i := 6) (j := 8) (by kernel_rfl) rfl rfl (fun K hK => ?_) (fun K hK => ?_)
        · rw [if_pos (by rfl)]
          go_simp
          refine hK.out _ _ trivial ?_
          clear hK K
          have hL := lists_four I2 J2 (Ia.out _ B2) (Ip.out _ B2)
          obtain ⟨W3, hW⟩ : ∃ W3, W2.alloc (.cells #[.slice (some ⟨b1, 0, none⟩) 1 1, .slice q3 8 c3, .slice pa la ca, .slice pp lp cp] 25) = W3 := ⟨_, rfl⟩
          have hb : Below W2.heap.size W2 W3 := by rw [← hW]; exact (Below.refl _ W2).alloc (Nat.le_refl _) _
          have L3 : IsLists W3.heap.size W3 (some ⟨W2.heap.size, 0, none⟩) 4 4 [[110], lenB la, za, zp] := by rw [← hW, World.size_alloc]; exact hL
          have B3 : Below w.heap.size w W3 := B2.trans (hb.mono B2.size)
          have K3 : Row W3 w.heap.size 24 (u8s k) := K2.later hb
          have Z3 : Row W3 (w.heap.size + 1) 78 noNonce := Z2.later hb
          have I3 := I2.later hb
          have J3 := J2.later hb
          rw [hW]
          generalize W2.heap.size = b6 at L3 ⊢
          clear hW hb hL B2 K2 Z2 I2 J2
          refine wpAnyH_either (i := 7) (j := 8) (by kernel_rfl) rfl rfl (fun K hK => ?_) (fun K hK => ?_)
          · rw [if_pos (by rfl)]
            go_simp
            refine (HM.out _ b6 B3 K3 L3).mono ?_
            rintro e W4 ⟨rfl, hb⟩
            have B4 : Below w.heap.size w W4 := B3.trans (hb.mono B3.size)
            have K4 : Row W4 w.heap.size 24 (u8s k) := K3.later hb
            have Z4 : Row W4 (w.heap.size + 1) 78 noNonce := Z3.later hb
            have I4 := I3.later hb
            have J4 := J3.later hb
            refine hK.out _ _ trivial ?_
            clear hK K
            clear hb B3 K3 Z3 I3 J3 L3
            refine wpAnyH_only (i := 8) (by kernel_rfl) rfl (fun K hK => ?_)
            rw [if_pos (by rfl)]
            go_simp
            refine hK.out _ (W4.alloc (.cells noKey.toArray 40)) trivial ?_
            clear hK K
            obtain ⟨W5, hW⟩ : ∃ W5, W4.alloc (.cells noKey.toArray 40) = W5 := ⟨_, rfl⟩
            have hb : Below W4.heap.size W4 W5 := by rw [← hW]; exact (Below.refl _ W4).alloc (Nat.le_refl _) _
            have hb8 : w.heap.size ≤ W4.heap.size := B4.size
            have hne8 : W4.heap.size ≠ w.heap.size + 1 := by have := Z4.lt; omega
            have R5 : Row W5 W4.heap.size 40 noKey := by rw [← hW]; exact Row.new' _ _ _
            have B5 : Below w.heap.size w W5 := B4.trans (hb.mono B4.size)
            have K5 : Row W5 w.heap.size 24 (u8s k) := K4.later hb
            have Z5 : Row W5 (w.heap.size + 1) 78 noNonce := Z4.later hb
            have I5 := I4.later hb
            have J5 := J4.later hb
            rw [hW]
            generalize W4.heap.size = b8 at R5 hb8 hne8 ⊢
            clear hW hb B4 K4 Z4 I4 J4
            refine wpAnyH_only (i := 9) (by kernel_rfl) rfl (fun K hK => ?_)
            rw [if_pos (by rfl)]
            refine wp_store_mid 40 (.tmp 7) (.tmp 15) rfl b8 0 V.toArray rfl rfl (by have h := Row.there R5; show World.there _ _ 0 V.length; rw [HV.out]; exact h) (by show _ = some V.length; rw [HV.out]; kernel_rfl) (by rw [List.all_toArray]; exact List.all_eq_true.2 HV1.out) ?_
            refine hK.out _ _ trivial ?_
            clear hK K
            refine wpAnyH_done (by kernel_rfl) ?_ _
            exact ⟨b8, _, _, _, rfl, hb8, hne8, Row.sets_all (vs := V) R5 (by rw [HV.out]; rfl), Row.others (Ne.symm hne8) _ 0 Z5, below_setCells hb8 _ _ B5⟩
          · rw [if_pos (by rfl)]
            go_simp
            refine hK.out _ (W3.alloc (.cells noKey.toArray 40)) trivial ?_
            clear hK K
            obtain ⟨W4, hW⟩ : ∃ W4, W3.alloc (.cells noKey.toArray 40) = W4 := ⟨_, rfl⟩
            have hb : Below W3.heap.size W3 W4 := by rw [← hW]; exact (Below.refl _ W3).alloc (Nat.le_refl _) _
            have hb8 : w.heap.size ≤ W3.heap.size := B3.size
            have hne8 : W3.heap.size ≠ w.heap.size + 1 := by have := Z3.lt; omega
            have R4 : Row W4 W3.heap.size 40 noKey := by rw [← hW]; exact Row.new' _ _ _
            have B4 : Below w.heap.size w W4 := B3.trans (hb.mono B3.size)
            have K4 : Row W4 w.heap.size 24 (u8s k) := K3.later hb
            have Z4 : Row W4 (w.heap.size + 1) 78 noNonce := Z3.later hb
            have I4 := I3.later hb
            have J4 := J3.later hb
            have L4 := IsLists.later hb L3
            rw [hW]
            generalize W3.heap.size = b8 at R4 hb8 hne8 ⊢
            clear hW hb B3 K3 Z3 I3 J3 L3
            refine wpAnyH_only (i := 7) (by kernel_rfl) rfl (fun K hK => ?_)
            rw [if_pos (by rfl)]
            go_simp
            refine (HM.out _ b6 B4 K4 L4).mono ?_
            rintro e W5 ⟨rfl, hb⟩
            have B5 : Below w.heap.size w W5 := B4.trans (hb.mono B4.size)
            have K5 : Row W5 w.heap.size 24 (u8s k) := K4.later hb
            have Z5 : Row W5 (w.heap.size + 1) 78 noNonce := Z4.later hb
            have I5 := I4.later hb
            have J5 := J4.later hb
            have R5 := R4.later hb
            refine hK.out _ _ trivial ?_
            clear hK K
            clear hb B4 K4 Z4 I4 J4 R4 L4
            refine wpAnyH_only (i := 9) (by kernel_rfl) rfl (fun K hK => ?_)
            rw [if_pos (by rfl)]
            refine wp_store_mid 40 (.tmp 7) (.tmp 15) rfl b8 0 V.toArray rfl rfl (by have h := Row.there R5; show World.there _ _ 0 V.length; rw [HV.out]; exact h) (by show _ = some V.length; rw [HV.out]; kernel_rfl) (by rw [List.all_toArray]; exact List.all_eq_true.2 HV1.out) ?_
            refine hK.out _ _ trivial ?_
            clear hK K
            refine wpAnyH_done (by kernel_rfl) ?_ _
            exact ⟨b8, _, _, _, rfl, hb8, hne8, Row.sets_all (vs := V) R5 (by rw [HV.out]; rfl), Row.others (Ne.symm hne8) _ 0 Z5, below_setCells hb8 _ _ B5⟩
        · rw [if_pos (by rfl)]
          go_simp
          refine hK.out _ (W2.alloc (.cells noKey.toArray 40)) trivial ?_
          clear hK K
          obtain ⟨W3, hW⟩ : ∃ W3, W2.alloc (.cells noKey.toArray 40) = W3 := ⟨_, rfl⟩
          have hb : Below W2.heap.size W2 W3 := by rw [← hW]; exact (Below.refl _ W2).alloc (Nat.le_refl _) _
          have hb8 : w.heap.size ≤ W2.heap.size := B2.size
          have hne8 : W2.heap.size ≠ w.heap.size + 1 := by have := Z2.lt; omega
          have R3 : Row W3 W2.heap.size 40 noKey := by rw [← hW]; exact Row.new' _ _ _
          have B3 : Below w.heap.size w W3 := B2.trans (hb.mono B2.size)
          have K3 : Row W3 w.heap.size 24 (u8s k) := K2.later hb
          have Z3 : Row W3 (w.heap.size + 1) 78 noNonce := Z2.later hb
          have I3 := I2.later hb
          have J3 := J2.later hb
          rw [hW]
          generalize W2.heap.size = b8 at R3 hb8 hne8 ⊢
          clear hW hb B2 K2 Z2 I2 J2
          refine wpAnyH_only (i := 6) (by kernel_rfl) rfl (fun K hK => ?_)
          rw [if_pos (by rfl)]
          go_simp
          refine hK.out _ _ trivial ?_
          clear hK K
          have hL := lists_four I3 J3 (Ia.out _ B3) (Ip.out _ B3)
          obtain ⟨W4, hW⟩ : ∃ W4, W3.alloc (.cells #[.slice (some ⟨b1, 0, none⟩) 1 1, .slice q3 8 c3, .slice pa la ca, .slice pp lp cp] 25) = W4 := ⟨_, rfl⟩
          have hb : Below W3.heap.size W3 W4 := by rw [← hW]; exact (Below.refl _ W3).alloc (Nat.le_refl _) _
          have L4 : IsLists W4.heap.size W4 (some ⟨W3.heap.size, 0, none⟩) 4 4 [[110], lenB la, za, zp] := by rw [← hW, World.size_alloc]; exact hL
          have B4 : Below w.heap.size w W4 := B3.trans (hb.mono B3.size)
          have K4 : Row W4 w.heap.size 24 (u8s k) := K3.later hb
          have Z4 : Row W4 (w.heap.size + 1) 78 noNonce := Z3.later hb
          have I4 := I3.later hb
          have J4 := J3.later hb
          have R4 := R3.later hb
          rw [hW]
          generalize W3.heap.size = b6 at L4 ⊢
          clear hW hb hL B3 K3 Z3 I3 J3 R3
          refine wpAnyH_only (i := 7) (by kernel_rfl) rfl (fun K hK => ?_)
          rw [if_pos (by rfl)]
          go_simp
          refine (HM.out _ b6 B4 K4 L4).mono ?_
          rintro e W5 ⟨rfl, hb⟩
          have B5 : Below w.heap.size w W5 := B4.trans (hb.mono B4.size)
          have K5 : Row W5 w.heap.size 24 (u8s k) := K4.later hb
          have Z5 : Row W5 (w.heap.size + 1) 78 noNonce := Z4.later hb
          have I5 := I4.later hb
          have J5 := J4.later hb
          have R5 := R4.later hb
          refine hK.out _ _ trivial ?_
          clear hK K
          clear hb B4 K4 Z4 I4 J4 R4 L4
          refine wpAnyH_only (i := 9) (by kernel_rfl) rfl (fun K hK => ?_)
          rw [if_pos (by rfl)]
          refine wp_store_mid 40 (.tmp 7) (.tmp 15) rfl b8 0 V.toArray rfl rfl (by have h := Row.there R5; show World.there _ _ 0 V.length; rw [HV.out]; exact h) (by show _ = some V.length; rw [HV.out]; kernel_rfl) (by rw [List.all_toArray]; exact List.all_eq_true.2 HV1.out) ?_
          refine hK.out _ _ trivial ?_
          clear hK K
          refine wpAnyH_done (by kernel_rfl) ?_ _
          exact ⟨b8, _, _, _, rfl, hb8, hne8, Row.sets_all (vs := V) R5 (by rw [HV.out]; rfl), Row.others (Ne.symm hne8) _ 0 Z5, below_setCells hb8 _ _ B5⟩
      · rw [if_pos (by rfl)]
        go_simp
        refine hK.out _ (W1.alloc (.cells noKey.toArray 40)) trivial ?_
        clear hK K
        obtain ⟨W2, hW⟩ : ∃ W2, W1.alloc (.cells noKey.toArray 40) = W2 := ⟨_, rfl⟩
        have hb : Below W1.heap.size W1 W2 := by rw [← hW]; exact (Below.refl _ W1).alloc (Nat.le_refl _) _
        have hb8 : w.heap.size ≤ W1.heap.size := B1.size
        have hne8 : W1.heap.size ≠ w.heap.size + 1 := by have := Z1.lt; omega
        have R2 : Row W2 W1.heap.size 40 noKey := by rw [← hW]; exact Row.new' _ _ _
        have B2 : Below w.heap.size w W2 := B1.trans (hb.mono B1.size)
        have K2 : Row W2 w.heap.size 24 (u8s k) := K1.later hb
        have Z2 : Row W2 (w.heap.size + 1) 78 noNonce := Z1.later hb
        have J2 := J1.later hb
        rw [hW]
        generalize W1.heap.size = b8 at R2 hb8 hne8 ⊢
        clear hW hb B1 K1 Z1 J1
        refine wpAnyH_only (i := 1) (by kernel_rfl) rfl (fun K hK => ?_)
        rw [if_pos (by rfl)]
        go_simp
        refine hK.out _ _ trivial ?_
        clear hK K
        obtain ⟨W3, hW⟩ : ∃ W3, W2.alloc (.cells #[.int .u8 110] 5) = W3 := ⟨_, rfl⟩
        have hb : Below W2.heap.size W2 W3 := by rw [← hW]; exact (Below.refl _ W2).alloc (Nat.le_refl _) _
        have B3 : Below w.heap.size w W3 := B2.trans (hb.mono B2.size)
        have K3 : Row W3 w.heap.size 24 (u8s k) := K2.later hb
        have Z3 : Row W3 (w.heap.size + 1) 78 noNonce := Z2.later hb
        have J3 := J2.later hb
        have R3 := R2.later hb
        have I3 : IsBytes W3.heap.size W3 (some ⟨W2.heap.size, 0, none⟩) 1 1 [110] := by rw [← hW]; exact bytes_of_box (t := 5) (k := [110]) (Row.new' W2 5 [.int .u8 110]) rfl (by omega) (by simp)
        rw [hW]
        generalize W2.heap.size = b1 at I3 ⊢
        clear hW hb B2 K2 Z2 J2 R2
        refine wpAnyH_only (i := 6) (by kernel_rfl) rfl (fun K hK => ?_)
        rw [if_pos (by rfl)]
        go_simp
        refine hK.out _ _ trivial ?_
        clear hK K
        have hL := lists_four I3 J3 (Ia.out _ B3) (Ip.out _ B3)
        obtain ⟨W4, hW⟩ : ∃ W4, W3.alloc (.cells #[.slice (some ⟨b1, 0, none⟩) 1 1, .slice q3 8 c3, .slice pa la ca, .slice pp lp cp] 25) = W4 := ⟨_, rfl⟩
        have hb : Below W3.heap.size W3 W4 := by rw [← hW]; exact (Below.refl _ W3).alloc (Nat.le_refl _) _
        have L4 : IsLists W4.heap.size W4 (some ⟨W3.heap.size, 0, none⟩) 4 4 [[110], lenB la, za, zp] := by rw [← hW, World.size_alloc]; exact hL
        have B4 : Below w.heap.size w W4 := B3.trans (hb.mono B3.size)
        have K4 : Row W4 w.heap.size 24 (u8s k) := K3.later hb
        have Z4 : Row W4 (w.heap.size + 1) 78 noNonce := Z3.later hb
        have I4 := I3.later hb
        have J4 := J3.later hb
        have R4 := R3.later hb
        rw [hW]
        generalize W3.heap.size = b6 at L4 ⊢
        clear hW hb hL B3 K3 Z3 I3 J3 R3
        refine wpAnyH_only (i := 7) (by kernel_rfl) rfl (fun K hK => ?_)
        rw [if_pos (by rfl)]
        go_simp
        refine (HM.out _ b6 B4 K4 L4).mono ?_
        rintro e W5 ⟨rfl, hb⟩
        have B5 : Below w.heap.size w W5 := B4.trans (hb.mono B4.size)
        have K5 : Row W5 w.heap.size 24 (u8s k) := K4.later hb
        have Z5 : Row W5 (w.heap.size + 1) 78 noNonce := Z4.later hb
        have I5 := I4.later hb
        have J5 := J4.later hb
        have R5 := R4.later hb
        refine hK.out _ _ trivial ?_
        clear hK K
        clear hb B4 K4 Z4 I4 J4 R4 L4
        refine wpAnyH_only (i := 9) (by kernel_rfl) rfl (fun K hK => ?_)
        rw [if_pos (by rfl)]
        refine wp_store_mid 40 (.tmp 7) (.tmp 15) rfl b8 0 V.toArray rfl rfl (by have h := Row.there R5; show World.there _ _ 0 V.length; rw [HV.out]; exact h) (by show _ = some V.length; rw [HV.out]; kernel_rfl) (by rw [List.all_toArray]; exact List.all_eq_true.2 HV1.out) ?_
        refine hK.out _ _ trivial ?_
        clear hK K
        refine wpAnyH_done (by kernel_rfl) ?_ _
        exact ⟨b8, _, _, _, rfl, hb8, hne8, Row.sets_all (vs := V) R5 (by rw [HV.out]; rfl), Row.others (Ne.symm hne8) _ 0 Z5, below_setCells hb8 _ _ B5⟩
    · rw [if_pos (by rfl)]
      go_simp
      refine hK.out _ (W0.alloc (.cells noKey.toArray 40)) trivial ?_
      clear hK K
      obtain ⟨W1, hW⟩ : ∃ W1, W0.alloc (.cells noKey.toArray 40) = W1 := ⟨_, rfl⟩
      have hb : Below W0.heap.size W0 W1 := by rw [← hW]; exact (Below.refl _ W0).alloc (Nat.le_refl _) _
      have hb8 : w.heap.size ≤ W0.heap.size := B0.size
      have hne8 : W0.heap.size ≠ w.heap.size + 1 := by have := Z0.lt; omega
      have R1 : Row W1 W0.heap.size 40 noKey := by rw [← hW]; exact Row.new' _ _ _
      have B1 : Below w.heap.size w W1 := B0.trans (hb.mono B0.size)
      have K1 : Row W1 w.heap.size 24 (u8s k) := K0.later hb
      have Z1 : Row W1 (w.heap.size + 1) 78 noNonce := Z0.later hb
      rw [hW]
      generalize W0.heap.size = b8 at R1 hb8 hne8 ⊢
      clear hW hb B0 K0 Z0
      refine wpAnyH_either (i := 1) (j := 3) (by kernel_rfl) rfl rfl (fun K hK => ?_) (fun K hK => ?_)
      · rw [if_pos (by rfl)]
        go_simp
        refine hK.out _ _ trivial ?_
        clear hK K
        obtain ⟨W2, hW⟩ : ∃ W2, W1.alloc (.cells #[.int .u8 110] 5) = W2 := ⟨_, rfl⟩
        have hb : Below W1.heap.size W1 W2 := by rw [← hW]; exact (Below.refl _ W1).alloc (Nat.le_refl _) _
        have B2 : Below w.heap.size w W2 := B1.trans (hb.mono B1.size)
        have K2 : Row W2 w.heap.size 24 (u8s k) := K1.later hb
        have Z2 : Row W2 (w.heap.size + 1) 78 noNonce := Z1.later hb
        have R2 := R1.later hb
        have I2 : IsBytes W2.heap.size W2 (some ⟨W1.heap.size, 0, none⟩) 1 1 [110] := by rw [← hW]; exact bytes_of_box (t := 5) (k := [110]) (Row.new' W1 5 [.int .u8 110]) rfl (by omega) (by simp)
        rw [hW]
        generalize W1.heap.size = b1 at I2 ⊢
        clear hW hb B1 K1 Z1 R1
        refine wpAnyH_only (i := 3) (by kernel_rfl) rfl (fun K hK => ?_)
        rw [if_pos (by rfl)]
        go_simp
        refine (lengthB_any pa la ca (by omega) hac hac2 _).mono ?_
        rintro e W3 ⟨v3, rfl, hO, hb⟩
        obtain ⟨q3, c3, rfl⟩ := own_len hO (lenB_length la)
        have J3 : IsBytes W3.heap.size W3 q3 8 c3 (lenB la) := hO.bytes (lenB_lt la)
        have B3 : Below w.heap.size w W3 := B2.trans (hb.mono B2.size)
        have K3 : Row W3 w.heap.size 24 (u8s k) := K2.later hb
        have Z3 : Row W3 (w.heap.size + 1) 78 noNonce := Z2.later hb
        have I3 := I2.later hb
        have R3 := R2.later hb
        refine hK.out _ _ trivial ?_
        clear hK K
        clear hO hb B2 K2 Z2 I2 R2
        refine wpAnyH_only (i := 6) (by kernel_rfl) rfl (fun K hK => ?_)
        rw [if_pos (by rfl)]
        go_simp
        refine hK.out _ _ trivial ?_
        clear hK K
        have hL := lists_four I3 J3 (Ia.out _ B3) (Ip.out _ B3)
        obtain ⟨W4, hW⟩ : ∃ W4, W3.alloc (.cells #[.slice (some ⟨b1, 0, none⟩) 1 1, .slice q3 8 c3, .slice pa la ca, .slice pp lp cp] 25) = W4 := ⟨_, rfl⟩
        have hb : Below W3.heap.size W3 W4 := by rw [← hW]; exact (Below.refl _ W3).alloc (Nat.le_refl _) _
        have L4 : IsLists W4.heap.size W4 (some ⟨W3.heap.size, 0, none⟩) 4 4 [[110], lenB la, za, zp] := by rw [← hW, World.size_alloc]; exact hL
        have B4 : Below w.heap.size w W4 := B3.trans (hb.mono B3.size)
        have K4 : Row W4 w.heap.size 24 (u8s k) := K3.later hb
        have Z4 : Row W4 (w.heap.size + 1) 78 noNonce := Z3.later hb
        have I4 := I3.later hb
        have J4 := J3.later hb
        have R4 := R3.later hb
        rw [hW]
        generalize W3.heap.size = b6 at L4 ⊢
        clear hW hb hL B3 K3 Z3 I3 J3 R3
        refine wpAnyH_only (i := 7) (by kernel_rfl) rfl (fun K hK => ?_)
        rw [if_pos (by rfl)]
        go_simp
        refine (HM.out _ b6 B4 K4 L4).mono ?_
        rintro e W5 ⟨rfl, hb⟩
        have B5 : Below w.heap.size w W5 := B4.trans (hb.mono B4.size)
        have K5 : Row W5 w.heap.size 24 (u8s k) := K4.later hb
        have Z5 : Row W5 (w.heap.size + 1) 78 noNonce := Z4.later hb
        have I5 := I4.later hb
        have J5 := J4.later hb
        have R5 := R4.later hb
        refine hK.out _ _ trivial ?_
        clear hK K
        clear hb B4 K4 Z4 I4 J4 R4 L4
        refine wpAnyH_only (i := 9) (by kernel_rfl) rfl (fun K hK => ?_)
        rw [if_pos (by rfl)]
        refine wp_store_mid 40 (.tmp 7) (.tmp 15) rfl b8 0 V.toArray rfl rfl (by have h := Row.there R5; show World.there _ _ 0 V.length; rw [HV.out]; exact h) (by show _ = some V.length; rw [HV.out]; kernel_rfl) (by rw [List.all_toArray]; exact List.all_eq_true.2 HV1.out) ?_
        refine hK.out _ _ trivial ?_
        clear hK K
        refine wpAnyH_done (by kernel_rfl) ?_ _
        exact ⟨b8, _, _, _, rfl, hb8, hne8, Row.sets_all (vs := V) R5 (by rw [HV.out]; rfl), Row.others (Ne.symm hne8) _ 0 Z5, below_setCells hb8 _ _ B5⟩
      · rw [if_pos (by rfl)]
        go_simp
        refine (lengthB_any pa la ca (by omega) hac hac2 _).mono ?_
        rintro e W2 ⟨v3, rfl, hO, hb⟩
        obtain ⟨q3, c3, rfl⟩ := own_len hO (lenB_length la)
        have J2 : IsBytes W2.heap.size W2 q3 8 c3 (lenB la) := hO.bytes (lenB_lt la)
        have B2 : Below w.heap.size w W2 := B1.trans (hb.mono B1.size)
        have K2 : Row W2 w.heap.size 24 (u8s k) := K1.later hb
        have Z2 : Row W2 (w.heap.size + 1) 78 noNonce := Z1.later hb
        have R2 := R1.later hb
        refine hK.out _ _ trivial ?_
        clear hK K
        clear hO hb B1 K1 Z1 R1
        refine wpAnyH_only (i := 1) (by kernel_rfl) rfl (fun K hK => ?_)
        rw [if_pos (by rfl)]
        go_simp
        refine hK.out _ _ trivial ?_
        clear hK K
        obtain ⟨W3, hW⟩ : ∃ W3, W2.alloc (.cells #[.int .u8 110] 5) = W3 := ⟨_, rfl⟩
        have hb : Below W2.heap.size W2 W3 := by rw [← hW]; exact (Below.refl _ W2).alloc (Nat.le_refl _) _
        have B3 : Below w.heap.size w W3 := B2.trans (hb.mono B2.size)
        have K3 : Row W3 w.heap.size 24 (u8s k) := K2.later hb
        have Z3 : Row W3 (w.heap.size + 1) 78 noNonce := Z2.later hb
        have J3 := J2.later hb
        have R3 := R2.later hb
        have I3 : IsBytes W3.heap.size W3 (some ⟨W2.heap.size, 0, none⟩) 1 1 [110] := by rw [← hW]; exact bytes_of_box (t := 5) (k := [110]) (Row.new' W2 5 [.int .u8 110]) rfl (by omega) (by simp)
        rw [hW]
        generalize W2.heap.size = b1 at I3 ⊢
        clear hW hb B2 K2 Z2 J2 R2
        refine wpAnyH_only (i := 6) (by kernel_rfl) rfl (fun K hK => ?_)
        rw [if_pos (by rfl)]
        go_simp
        refine hK.out _ _ trivial ?_
        clear hK K
        have hL := lists_four I3 J3 (Ia.out _ B3) (Ip.out _ B3)
        obtain ⟨W4, hW⟩ : ∃ W4, W3.alloc (.cells #[.slice (some ⟨b1, 0, none⟩) 1 1, .slice q3 8 c3, .slice pa la ca, .slice pp lp cp] 25) = W4 := ⟨_, rfl⟩
        have hb : Below W3.heap.size W3 W4 := by rw [← hW]; exact (Below.refl _ W3).alloc (Nat.le_refl _) _
        have L4 : IsLists W4.heap.size W4 (some ⟨W3.heap.size, 0, none⟩) 4 4 [[110], lenB la, za, zp] := by rw [← hW, World.size_alloc]; exact hL
        have B4 : Below w.heap.size w W4 := B3.trans (hb.mono B3.size)
        have K4 : Row W4 w.heap.size 24 (u8s k) := K3.later hb
        have Z4 : Row W4 (w.heap.size + 1) 78 noNonce := Z3.later hb
        have I4 := I3.later hb
        have J4 := J3.later hb
        have R4 := R3.later hb
        rw [hW]
        generalize W3.heap.size = b6 at L4 ⊢
        clear hW hb hL B3 K3 Z3 I3 J3 R3
        refine wpAnyH_only (i := 7) (by kernel_rfl) rfl (fun K hK => ?_)
        rw [if_pos (by rfl)]
        go_simp
        refine (HM.out _ b6 B4 K4 L4).mono ?_
        rintro e W5 ⟨rfl, hb⟩
        have B5 : Below w.heap.size w W5 := B4.trans (hb.mono B4.size)
        have K5 : Row W5 w.heap.size 24 (u8s k) := K4.later hb
        have Z5 : Row W5 (w.heap.size + 1) 78 noNonce := Z4.later hb
        have I5 := I4.later hb
        have J5 := J4.later hb
        have R5 := R4.later hb
        refine hK.out _ _ trivial ?_
        clear hK K
        clear hb B4 K4 Z4 I4 J4 R4 L4
        refine wpAnyH_only (i := 9) (by kernel_rfl) rfl (fun K hK => ?_)
        rw [if_pos (by rfl)]
        refine wp_store_mid 40 (.tmp 7) (.tmp 15) rfl b8 0 V.toArray rfl rfl (by have h := Row.there R5; show World.there _ _ 0 V.length; rw [HV.out]; exact h) (by show _ = some V.length; rw [HV.out]; kernel_rfl) (by rw [List.all_toArray]; exact List.all_eq_true.2 HV1.out) ?_
        refine hK.out _ _ trivial ?_
        clear hK K
        refine wpAnyH_done (by kernel_rfl) ?_ _
        exact ⟨b8, _, _, _, rfl, hb8, hne8, Row.sets_all (vs := V) R5 (by rw [HV.out]; rfl), Row.others (Ne.symm hne8) _ 0 Z5, below_setCells hb8 _ _ B5⟩
  case tail =>
    rintro a' w' ⟨b8, s9, s11, s14, rfl, hb8, hne8, r8, rz, hB⟩
    have HR8 : Hid (w'.rangeAt b8 0 N) := by rw [HNV.out]; exact fun j v hv => by rw [Nat.zero_add]; exact r8.cell (by rw [List.getElem?_take] at hv; split at hv <;> first | exact hv | cases hv)
    have HZ : Hid (Row w' (w.heap.size + 1) 78 noNonce) := rz
    have hAt := run_arrayAt78 b8 0 12 32 (Nat.le_refl _)
    clear r8 rz
    go_wp2_with (first
      | ((with_reducible show wpList _ _ _ (Oper.mk _ (Op.load 78 (.tmp 17)) _ _ _ _ :: _) _ _); refine wpList_load_mid rfl 78 (.tmp 17) rfl b8 0 rfl N _ HR8.out Tryd.underlying78 rfl (by rw [HN.out]; exact size78) ?_; simp only [Act.put, List.setIfInBounds_toArray, List.set_cons_zero, List.set_cons_succ])
      | ((with_reducible show wpList _ _ _ (Oper.mk _ (Op.store 78 (.tmp 6) (.tmp 18)) _ _ _ _ :: _) _ _); refine wpList_store_Row rfl 78 (.tmp 6) (.tmp 18) rfl N rfl rfl HZ.out (by rw [HN.out]; exact size78) (by rw [HN.out]; rfl) HN1.out ?_; simp only [Act.put]))
    refine bodyPost_ret (results_Row rfl rfl (Row.sets_all (vs := N) HZ.out (by rw [HN.out]; rfl)) Tryd.underlying78 (by rw [HN.out]; exact size78)) rfl ?_
    exact ⟨rfl, below_setCells (by omega) _ _ hB⟩

end Go.Proofs.YtobmcaknfbooiaaDoor
/-
  chacha.Stream on lists: the bytes, turned by the blocks of a key, a counter and a nonce.
-/
namespace Go.Proofs.YtobmcaknfbooiaaDoor.Re
open Go.RowKit

theorem streamN_at (key : List Nat) (c : Nat) (nonce b : List Nat) {j : Nat} (h : j < b.length) : (streamN key c nonce b).getD j 0 = b.getD j 0 ^^^ (blockN key ((c + j / 64) % 4294967296) nonce).getD (j % 64) 0 := by
  unfold streamN
  rw [List.getD_eq_getElem?_getD, turnN_at _ _ h, Option.getD_some]

theorem stream_any (key : List Nat) (c : Nat) (nonce : List Nat) (hk : key.length = 32 ∧ ∀ z ∈ key, z < 256) (hc : c < 4294967296) (hn : nonce.length = 12 ∧ ∀ z ∈ nonce, z < 256) (p : Option Addr) (len cap : Nat) (zs : List Nat) (hlen : len ≤ 50000) (w : World) (hT : Tab w) (hI : IsBytes w.heap.size w p len cap zs) :
    Calls Tryd.prog 43 #[.agg (u8s key).toArray, .int .u32 c, .agg (u8s nonce).toArray, .slice p len cap] w fun e w' => ∃ g, e = .returned (.slice (some ⟨g, 0, none⟩) len len) ∧ w.heap.size ≤ g ∧ Row w' g 5 (u8s (streamN key c nonce zs)) ∧ Below w.heap.size w w' :=
  callsIn_wide.1 (stream_in 12 (by omega) c (u8s key) (u8s nonce) (fun k => blockN key ((c + k) % 4294967296) nonce) ((u8s_length _).trans hk.1) ((u8s_length _).trans hn.1) (fun k => blockN_length _ _ _) hc
    (fun k w hT => block_any key _ nonce hk.1 hk.2 (Nat.mod_lt _ (by decide)) hn.1 hn.2 w hT) p len cap zs (streamN key c nonce zs)
    (fun k i hi hl => by
      rw [u8_xor_nat _ _ (getD_of_all hI.2.2.2.1 _) (getD_of_all (blockN_lt _ _ _) _), streamN_at key c nonce zs (by rw [hI.1]; exact hl), show (64 * k + i) / 64 = k by omega, show (64 * k + i) % 64 = i by omega])
    (by rw [streamN_length, hI.1]) hlen w hT hI)
end Go.Proofs.YtobmcaknfbooiaaDoor.Re
/-
  isSealedLength: a sealed text's length is one.
-/
namespace Go.Proofs.YtobmcaknfbooiaaDoor
open Go.RowKit Go.Shelf
attribute [local go_sem] Oper.semAt_some

def ShortS (n : Nat) (pre : List Pl) : Prop := ∀ x ∈ pre, 44 + 32 * 2 ^ x.1 < n
def FoundS (n : Nat) (b : Nat) (pre : List Pl) (A : World) : Prop :=
  ∃ pre' x, pre = pre' ++ [x] ∧ (∀ y ∈ pre', 44 + 32 * 2 ^ y.1 < n) ∧ ((44 + 32 * 2 ^ x.1 = n ∧ Row A b 4 [.bool true]) ∨ (n < 44 + 32 * 2 ^ x.1 ∧ Row A b 4 [.bool false]))

set_option maxRecDepth 100000 in
set_option maxHeartbeats 1000000 in
theorem sealedLen_in (n : Nat) (hn : 3 ≤ n) (k0 z : Nat) (hk0 : k0 < 12) (hz : z = 44 + 32 * 2 ^ k0) (w : World) :
    CallsIn Fence.wide n Tryd.prog 47 #[.int .i64 (z : Nat)] w fun e w' => e = .returned (.bool true) ∧ Below w.heap.size w w' := by
  have h1 : 1 ≤ n := by omega
  have hzl : z ≤ 70000 := by have := pow_le hk0; omega
  obtain ⟨w0, hw0⟩ : ∃ w0, (w.alloc (.cells #[.int .i64 (z : Nat)] 3)).alloc (.cells #[.bool false] 4) = w0 := ⟨_, rfl⟩
  have HrN : Hid (Row w0 w.heap.size 3 [.int .i64 (z : Nat)]) := by rw [← hw0]; exact (Row.new w 3 #[.int .i64 (z : Nat)]).alloc _
  have HrF : Hid (Row w0 (w.heap.size + 1) 4 [.bool false]) := by
    have h := Row.new (w.alloc (.cells #[.int .i64 (z : Nat)] 3)) 4 #[.bool false]
    rw [World.size_alloc] at h
    rw [← hw0]; exact h
  have hb0 : Below w.heap.size w w0 := by rw [← hw0]; exact ((Below.refl _ w).alloc (Nat.le_refl _) _).alloc (by simp) _
  have hs0 : w0.heap.size = w.heap.size + 1 + 1 := by rw [← hw0]; simp
  have HW0 : Hid ((w.alloc (.cells #[.int .i64 (z : Nat)] 3)).alloc (.cells #[.bool false] 4) = w0) := hw0
  have HZ : Hid (z = 44 + 32 * 2 ^ k0) := hz
  clear hw0 hz
  refine callsIn_of_wp_marks Tryd.func47 rfl trivial ?_ rfl
  simp only [Tryd.ntmps47, List.size_toArray, List.length_cons, List.length_nil, Nat.reduceAdd, Nat.reduceSub, Array.replicate_succ, Array.replicate_zero, List.push_toArray, List.append_toArray, List.nil_append, List.cons_append]
  gi_wp2
  refine wpIn_scope_wide ?_
  gi_wp2
  refine wpIn_label ?_
  rw [HW0.out]
  gi_wp2
  refine ⟨trivial, (buckets_in Fence.wide _ trivial rfl _).mono ?_⟩
  rintro e w1 ⟨rfl, hw1⟩
  obtain rfl : w0 = w1 := hw1.symm
  clear hw1
  gi_wp2
  refine wpIn_rangeFunc_low rfl h1 (gf := 72) (lb := #[]) rfl trivial (enters_of Tryd.func72 (by kernel_rfl) rfl)
    (encs := fun x : Pl => #[plVal x]) (Ok := fun _ _ => True) (Kp := fun _ _ => True)
    (fun W' _ _ => buckets_iter Fence.wide (n - 1) trivial rfl (by omega) _ _ W')
    (fun _ _ => trivial) (fun _ _ _ _ _ => trivial) (fun _ => rfl)
    (fun pre A => (ShortS z pre ∧ Row A w.heap.size 3 [.int .i64 (z : Nat)] ∧ Row A (w.heap.size + 1) 4 [.bool false]) ∧ Below w.heap.size w A)
    (fun c pre A => (c = .exit 0 ∧ FoundS z (w.heap.size + 1) pre A) ∧ Below w.heap.size w A)
    (fun s A A' ⟨⟨h1, h2, h3⟩, h4⟩ hb => ⟨⟨h1, h2.below hb (by omega), h3.below hb (by omega)⟩, h4.trans (hb.mono (by omega))⟩)
    (fun c s A A' ⟨⟨h0, pre', x, h5, h6, h1⟩, h4⟩ hb => ⟨⟨h0, pre', x, h5, h6, by
      rcases h1 with ⟨h2, h3⟩ | ⟨h2, h3⟩
      · exact .inl ⟨h2, h3.below hb (by omega)⟩
      · exact .inr ⟨h2, h3.below hb (by omega)⟩⟩, h4.trans (hb.mono (by omega))⟩)
    (fun _ _ _ h _ => h) ⟨⟨fun x hx => by simp at hx, HrN.out, HrF.out⟩, hb0⟩
    (fun x => { tmps := #[.int .i64 (z : Nat), .pointer (some ⟨w.heap.size, 0, none⟩), .bool false, .pointer (some ⟨w.heap.size + 1, 0, none⟩), plVal x, .func (.func 72) #[] #[], plVal x, undef, undef, undef, undef, undef, undef, undef, undef, undef, undef, undef], defers := [] })
    ?assign ?body ?done ?stop
  case assign =>
    intro l x W K hK
    gi_wp2
    exact hK
  case body =>
    rintro l pre x A ⟨⟨hall, hrN, hrF⟩, hB⟩ _ hlt
    have cn := hrN.cell (i := 0) rfl
    have cf := hrF.cell (i := 0) rfl
    have ff := hrF.frozen 0
    have HN : Hid (Row A w.heap.size 3 [.int .i64 (z : Nat)]) := hrN
    have HF : Hid (Row A (w.heap.size + 1) 4 [.bool false]) := hrF
    have HA : Hid (ShortS z pre) := hall
    clear hrN hrF hall
    have hx1 := pow_le x.2
    obtain ⟨s, hs⟩ : ∃ s, 32 * 2 ^ x.1 = s := ⟨_, rfl⟩
    rw [hs] at hx1
    have e1 : IntKind.i64.wrap (44 + (s : Int)) = 44 + (s : Int) := by rw [IntKind.wrap_i64]; omega
    have hv : plVal x = .int .i64 (s : Nat) := by unfold plVal; rw [hs]
    have HS : Hid (32 * 2 ^ x.1 = s) := hs
    simp only [hv]
    clear hs
    by_cases h0 : 44 + s = z
    · have h0' : ((z : Int) == 44 + (s : Int)) = true := by simp; omega
      gi_wp2
      exact ⟨(KeepsOthers.setCell A _ _).from _, trivial, ⟨rfl, pre, x, rfl, HA.out, .inl ⟨by rw [HS.out]; exact h0, HF.out.set 0 _⟩⟩, hB.setCell (p := ⟨w.heap.size + 1, 0, none⟩) (by show _ ≤ w.heap.size + 1; omega) _⟩
    · have h0' : ((z : Int) == 44 + (s : Int)) = false := by simp; omega
      by_cases hle : z < 44 + s
      · have hle' : (z : Int) < 44 + (s : Int) := by omega
        gi_wp2
        exact ⟨KeepsFrom.refl _ _, trivial, ⟨rfl, pre, x, rfl, HA.out, .inr ⟨by rw [HS.out]; exact hle, HF.out⟩⟩, hB⟩
      · have hle' : ¬ (z : Int) < 44 + (s : Int) := by omega
        gi_wp2
        refine ⟨KeepsFrom.refl _ _, trivial, ⟨?_, HN.out, HF.out⟩, hB⟩
        intro y hy
        rcases List.mem_append.1 hy with hy | hy
        · exact HA.out y hy
        · simp at hy; subst hy; rw [HS.out]; omega
  case done =>
    rintro D ys A hD hys ⟨⟨hall, hrN, hrF⟩, hB⟩ hK
    exfalso
    have hm : k0 ∈ ys.map (·.1) := by rw [hys]; exact List.mem_range.2 hk0
    obtain ⟨x, hx, h11⟩ := List.mem_map.1 hm
    have := hall x hx
    rw [h11, ← HZ.out] at this
    omega
  case stop =>
    rintro D c pre A hD ⟨k, hk⟩ ⟨⟨rfl, pre', x, rfl, h6, h⟩, hB⟩ hK
    have hr : Row A (w.heap.size + 1) 4 [.bool true] := by
      rcases h with ⟨_, h⟩ | ⟨h2, _⟩
      · exact h
      · exfalso
        have hl := congrArg List.length hk
        simp at hl
        have hx : x.1 = pre'.length := by
          have := congrArg (fun l => l[pre'.length]?) hk
          simp [← hl] at this
          exact this
        have hlt : k0 < x.1 := by
          rw [HZ.out] at h2
          exact (Nat.pow_lt_pow_iff_right (by decide)).1 (show 2 ^ k0 < 2 ^ x.1 by omega)
        have hm : k0 ∈ pre'.map (·.1) := by
          have : pre'.map (·.1) = List.range pre'.length := by
            rw [← hl, List.map_append, List.range_succ] at hk
            exact (List.append_inj' hk rfl).1
          rw [this]; exact List.mem_range.2 (by omega)
        obtain ⟨y, hy, rfl⟩ := List.mem_map.1 hm
        have := h6 y hy
        rw [HZ.out] at this
        omega
    have cf := hr.cell (i := 0) rfl
    gi_wp2
    refine ⟨by simp, .inl ⟨_, _, rfl, run_takeDeferred hK, ?_⟩⟩
    exact ⟨_, results_tmp rfl _ _ _, rfl, hB.trans (below_putObj _ _ (by omega))⟩

theorem firstB_is {z : Int} (h1 : z ≤ 65532) : ∀ (m j : Nat), j + (m + 1) = 12 → ∃ k, k < 12 ∧ firstB z (m + 1) j = 32 * 2 ^ k
  | m, j, h => by
    rw [firstB]
    by_cases e : z + 4 ≤ ((32 * 2 ^ j : Nat) : Int)
    · rw [if_pos e]; exact ⟨j, by omega, rfl⟩
    · rw [if_neg e]
      match m, h with
      | 0, h =>
        obtain rfl : j = 11 := by omega
        exact absurd (show z + 4 ≤ ((32 * 2 ^ 11 : Nat) : Int) by simp only [Nat.reducePow, Nat.reduceMul]; omega) e
      | m + 1, h => exact firstB_is h1 m (j + 1) (by omega)
/-- What a text is padded to is one of the lengths. -/
theorem bucketN_some {n : Nat} (h : n ≤ 60000) : ∃ k, k < 12 ∧ bucketN (n : Int) = 32 * 2 ^ k := by
  unfold bucketN
  rw [if_neg (by omega)]
  exact firstB_is (by omega) 11 0 (by omega)

theorem sealedLen_any (n : Nat) (hn : n ≤ 60000) (w : World) : Calls Tryd.prog 47 #[.int .i64 ((44 + bucketN (n : Int) : Nat) : Int)] w fun e w' => e = .returned (.bool true) ∧ Below w.heap.size w w' := by
  obtain ⟨k, hk, e⟩ := bucketN_some hn
  rw [e]
  exact callsIn_wide.1 (sealedLen_in 3 (Nat.le_refl _) k _ hk rfl w)

end Go.Proofs.YtobmcaknfbooiaaDoor
/-
  realSeal: nonce, turned text, tag.
-/
namespace Go.Proofs.YtobmcaknfbooiaaDoor
open Go.RowKit Go.Shelf

/-- The text, padded and turned. -/
def turnedN (k a p : List Nat) : List Nat := Re.streamN (useN k 101) 1 (nonceN k a (Re.padL p)) (Re.padL p)
/-- What is sealed. -/
def sealN (k a p : List Nat) : List Nat := nonceN k a (Re.padL p) ++ turnedN k a p ++ tagN k a (nonceN k a (Re.padL p)) (turnedN k a p)

set_option maxRecDepth 100000 in
set_option maxHeartbeats 2000000 in
theorem realSeal_any (k : List Nat) (hk : IsKey32 k) (pa : Option Addr) (la ca : Nat) (za : List Nat) (hla : la ≤ 10000) (pp : Option Addr) (lp cp : Nat) (zp : List Nat) (hlp : lp ≤ 60000) (hbk : bucketN (lp : Int) ≤ 30000) (w : World) (hT : Sh.Tab w) (hTr : Re.Tab w)
    (hIa : IsBytes w.heap.size w pa la ca za) (hIp : IsBytes w.heap.size w pp lp cp zp) :
    Calls Tryd.prog 27 #[.agg (u8s k).toArray, .slice pa la ca, .slice pp lp cp] w fun e w' => ∃ v, e = .returned (.tuple #[v, .int .i64 0]) ∧ Own w.heap.size w' v (sealN k za zp) ∧ Below w.heap.size w w' := by
  obtain ⟨i0, hi, hz0, hz1, hz2⟩ := info_parts info5
  obtain ⟨bN, hbN⟩ : ∃ bN, bucketN (lp : Int) = bN := ⟨_, rfl⟩
  obtain ⟨zq, hzq⟩ : ∃ zq, Re.padL zp = zq := ⟨_, rfl⟩
  have HQl : Hid (zq.length = bN) := by show _ = _; rw [← hzq, ← hbN, ← hIp.1]; exact Re.padL_length (by rw [hIp.1]; omega)
  have HQz : Hid (∀ z ∈ zq, z < 256) := by rw [← hzq]; exact Re.padL_lt hIp.2.2.2.1
  have hSeal : sealN k za zp = nonceN k za zq ++ Re.streamN (useN k 101) 1 (nonceN k za zq) zq ++ tagN k za (nonceN k za zq) (Re.streamN (useN k 101) 1 (nonceN k za zq) zq) := by unfold sealN turnedN; rw [hzq]
  obtain ⟨nn, hnn⟩ : ∃ nn, nonceN k za zq = nn := ⟨_, rfl⟩
  have HNl : Hid (nn.length = 12 ∧ ∀ z ∈ nn, z < 256) := by rw [← hnn]; exact ⟨nonceN_length _ _ _, nonceN_lt _ _ _⟩
  obtain ⟨cc, hcc⟩ : ∃ cc, Re.streamN (useN k 101) 1 nn zq = cc := ⟨_, rfl⟩
  have HCl : Hid (cc.length = bN ∧ ∀ z ∈ cc, z < 256) := by rw [← hcc]; exact ⟨by rw [Re.streamN_length]; exact HQl.out, Re.streamN_lt _ _ _ HQz.out⟩
  obtain ⟨tt, htt⟩ : ∃ tt, tagN k za nn cc = tt := ⟨_, rfl⟩
  have HTl : Hid (tt.length = 32 ∧ ∀ z ∈ tt, z < 256) := by rw [← htt]; exact ⟨tagN_length _ _ _ _, tagN_lt _ _ _ _⟩
  rw [hSeal, hnn, hcc, htt]
  obtain ⟨w0, hw0⟩ : ∃ w0, w.alloc (.cells (u8s k).toArray 24) = w0 := ⟨_, rfl⟩
  have HW0 : Hid (w.alloc (.cells (u8s k).toArray 24) = w0) := hw0
  have hb0 : Below w.heap.size w w0 := by rw [← hw0]; exact (Below.refl _ w).alloc (Nat.le_refl _) _
  have hk0 : Row w0 w.heap.size 24 (u8s k) := by rw [← hw0]; exact Row.new' w 24 (u8s k)
  have HP : Hid (Calls Tryd.prog 41 #[.slice pp lp cp] w0 fun e w' => ∃ g, e = .returned (.tuple #[.slice (some ⟨g, 0, none⟩) bN bN, .int .i64 0]) ∧ IsBytes w'.heap.size w' (some ⟨g, 0, none⟩) bN bN zq ∧ Below w0.heap.size w0 w') := by
    have h := Re.put_some pp lp cp zp (by omega) w0 (hIp.later hb0)
    rw [hbN, hzq] at h
    exact h.mono fun e w' ⟨g, h1, h2, h3⟩ => ⟨g, h1, h2.bytes HQz.out, h3⟩
  have HNo : Hid (∀ W g, Below w.heap.size w W → IsBytes W.heap.size W (some ⟨g, 0, none⟩) bN bN zq → Calls Tryd.prog 42 #[.agg (u8s k).toArray, .slice pa la ca, .slice (some ⟨g, 0, none⟩) bN bN] W fun e w' => e = .returned (.agg (u8s nn).toArray) ∧ Below W.heap.size W w') := fun W g hW hI => by
    have h := nonceOf_any k hk pa la ca za hla (some ⟨g, 0, none⟩) bN bN zq (by omega) W (hT.later hW) (hIa.later hW) hI
    rw [hnn] at h
    exact h
  have HUs : Hid (∀ W, Below w.heap.size w W → Calls Tryd.prog 44 #[.agg (u8s k).toArray, .int .u8 101] W fun e w' => e = .returned (.agg (u8s (useN k 101)).toArray) ∧ Below W.heap.size W w') := fun W hW => useKey_any k hk 101 (by omega) W (hT.later hW)
  have HSt : Hid (∀ W g, Below w.heap.size w W → IsBytes W.heap.size W (some ⟨g, 0, none⟩) bN bN zq → Calls Tryd.prog 43 #[.agg (u8s (useN k 101)).toArray, .int .u32 1, .agg (u8s nn).toArray, .slice (some ⟨g, 0, none⟩) bN bN] W fun e w' => ∃ g', e = .returned (.slice (some ⟨g', 0, none⟩) bN bN) ∧ IsBytes w'.heap.size w' (some ⟨g', 0, none⟩) bN bN cc ∧ Below W.heap.size W w') := fun W g hW hI => by
    have h := Re.stream_any (useN k 101) 1 nn (useN_key k 101) (by omega) HNl.out (some ⟨g, 0, none⟩) bN bN zq (by omega) W (hTr.later hW) hI
    rw [hcc] at h
    exact h.mono fun e w' ⟨g', h1, _, h3, h4⟩ => ⟨g', h1, bytes_of_box h3 HCl.out.1 (by omega) HCl.out.2, h4⟩
  have HTa : Hid (∀ W g, Below w.heap.size w W → IsBytes W.heap.size W (some ⟨g, 0, none⟩) bN bN cc → Calls Tryd.prog 45 #[.agg (u8s k).toArray, .slice pa la ca, .agg (u8s nn).toArray, .slice (some ⟨g, 0, none⟩) bN bN] W fun e w' => e = .returned (.agg (u8s tt).toArray) ∧ Below W.heap.size W w') := fun W g hW hI => by
    have h := tagOf_any k hk pa la ca za hla nn HNl.out.1 HNl.out.2 (some ⟨g, 0, none⟩) bN bN cc (by omega) W (hT.later hW) (hIa.later hW) hI
    rw [htt] at h
    exact h
  have HK0 : Hid (Row w0 w.heap.size 24 (u8s k)) := hk0
  have HKl : Hid ((u8s k).length = 32) := by show _ = _; rw [u8s_length, hk.1]
  have HNv : Hid ((u8s nn).length = 12) := by show _ = _; rw [u8s_length, HNl.out.1]
  have HNv1 : Hid (∀ v ∈ u8s nn, v.oneCell' = true) := u8s_one _
  have HTv : Hid ((u8s tt).length = 32) := by show _ = _; rw [u8s_length, HTl.out.1]
  have HTv1 : Hid (∀ v ∈ u8s tt, v.oneCell' = true) := u8s_one _
  rw [hbN] at hbk
  clear hw0 hk0 hSeal hnn hcc htt hzq hbN hIa hIp
  go_enter Tryd.func27, Tryd.ntmps27
  go_wp2_with (first
    | (go_at_call 41; rw [HW0.out]; refine HP.out.mono ?_; rintro e w1 ⟨g1, rfl, hI1, hb1⟩; have HI1 : Hid (IsBytes w1.heap.size w1 (some ⟨g1, 0, none⟩) bN bN zq) := hI1; have hB1 : Below w.heap.size w w1 := hb0.trans (hb1.mono hb0.size); have HK1 : Hid (Row w1 w.heap.size 24 (u8s k)) := Row.later HK0.out hb1; clear hI1 hb1)
    | ((with_reducible show wpList _ _ _ (Oper.mk (some 22) _ _ _ _ _ :: _) _ _); refine wpList_load_Row rfl 24 (.tmp 3) rfl rfl HK1.out Tryd.underlying24 (by rw [HKl.out]; exact size24) ?_; simp only [Act.put, List.setIfInBounds_toArray, List.set_cons_zero, List.set_cons_succ])
    | (go_at_call 42; refine (HNo.out _ _ hB1 HI1.out).mono ?_; rintro e w2 ⟨rfl, hb2⟩; have HI2 : Hid (IsBytes w2.heap.size w2 (some ⟨g1, 0, none⟩) bN bN zq) := IsBytes.later hb2 HI1.out; have hB2 : Below w.heap.size w w2 := hB1.trans (hb2.mono hB1.size); have HK2 : Hid (Row w2 w.heap.size 24 (u8s k)) := Row.later HK1.out hb2; clear HI1 HK1 hB1 hb2)
    | ((with_reducible show wpList _ _ _ (Oper.mk _ (Op.store 78 (.tmp 10) (.tmp 25)) _ _ _ _ :: _) _ _); change wpList _ _ _ _ _ (w2.alloc (.cells noNonce.toArray 78)); refine wpList_store_Row rfl 78 (.tmp 10) (.tmp 25) rfl (u8s nn) rfl rfl (Row.new' _ _ _) (by rw [HNv.out]; exact size78) (by rw [HNv.out]; rfl) HNv1.out ?_; simp only [Act.put]))
  obtain ⟨w3, hw3⟩ : ∃ w3, (w2.alloc (.cells noNonce.toArray 78)).setCells w2.heap.size 0 (u8s nn) = w3 := ⟨_, rfl⟩
  have hb3 : Below w2.heap.size w2 w3 := by rw [← hw3]; exact below_setCells (Nat.le_refl _) _ _ ((Below.refl _ w2).alloc (Nat.le_refl _) _)
  have hn3 : Row w3 w2.heap.size 78 (u8s nn) := by rw [← hw3]; exact Row.sets_all (Row.new' _ _ _) (by rw [HNv.out]; rfl)
  rw [hw3]
  have HN3 : Hid (Row w3 w2.heap.size 78 (u8s nn)) := hn3
  have HI3 : Hid (IsBytes w3.heap.size w3 (some ⟨g1, 0, none⟩) bN bN zq) := IsBytes.later hb3 HI2.out
  have HK3 : Hid (Row w3 w.heap.size 24 (u8s k)) := Row.later HK2.out hb3
  have hB3 : Below w.heap.size w w3 := hB2.trans (hb3.mono hB2.size)
  generalize w2.heap.size = bn at *
  clear hw3 hn3 HI2 HK2 hB2 hb3
  refine wp_region_noPanic ?_
  refine wp_region_held_drew (S := fun W' => W'.rangeAt w.heap.size 0 (u8s k) ∧ W'.rangeAt bn 0 (u8s nn)) (by kernel_rfl) ⟨(Row.drew HK3.out).range, (Row.drew HN3.out).range⟩ (fun hHeld => ?_)
  refine wpAnyH_takesAt 0 1 5 (of_decide_eq_true (by kernel_rfl)) rfl (fun _ _ _ _ _ h => h) (by kernel_rfl) (by kernel_rfl) hHeld ?_
  simp only [List.drop_zero, List.take_succ_cons, List.take_zero]
  refine wpHeld_loadS (by rfl) 24 (.tmp 3) rfl w.heap.size 0 rfl (u8s k) (fun W hW => hW.1) Tryd.underlying24 rfl (by rw [HKl.out]; exact size24) ?_
  simp only [Act.put, List.setIfInBounds_toArray, List.set_cons_zero, List.set_cons_succ]
  refine wpHeld_nil ?_
  refine wpAnyH_takesAt 2 2 3 (of_decide_eq_true (by kernel_rfl)) rfl (fun _ _ _ _ _ h => h) (by kernel_rfl) (by kernel_rfl) hHeld ?_
  simp only [List.drop_succ_cons, List.drop_zero, List.take_succ_cons, List.take_zero]
  refine wpHeld_loadS (by rfl) 78 (.tmp 10) rfl bn 0 rfl (u8s nn) (fun W hW => hW.2) Tryd.underlying78 rfl (by rw [HNv.out]; exact size78) ?_
  simp only [Act.put, List.setIfInBounds_toArray, List.set_cons_zero, List.set_cons_succ]
  iterate 1 (refine wpHeld_step (v := ?_) (by rfl) (fun wz hSw => ?_) ?_; rotate_left; (focus (clear hSw; go_simp; try with_reducible rfl)); (simp only [Act.put, List.setIfInBounds_toArray, List.set_cons_zero, List.set_cons_succ]))
  refine wpHeld_nil ?_
  clear hHeld
  refine wpAnyH_only (i := 1) (by kernel_rfl) rfl (fun K hK => ?_)
  rw [if_pos (by rfl)]
  go_simp
  have hB3d : Below w.heap.size w w3.drew := below_drewN hB3 1
  refine (HUs.out _ hB3d).mono ?_
  rintro e w4 ⟨rfl, hb4⟩
  have hb34 : Below w3.heap.size w3 w4 := (below_drewN (Below.refl _ w3) 1).trans hb4
  have HN4 : Hid (Row w4 bn 78 (u8s nn)) := Row.later HN3.out hb34
  have HI4 : Hid (IsBytes w4.heap.size w4 (some ⟨g1, 0, none⟩) bN bN zq) := IsBytes.later hb34 HI3.out
  have HK4 : Hid (Row w4 w.heap.size 24 (u8s k)) := Row.later HK3.out hb34
  have hB4 : Below w.heap.size w w4 := hB3.trans (hb34.mono hB3.size)
  refine hK.out _ _ ⟨HK4.out.range, HN4.out.range⟩ ?_
  clear hK K
  refine wpAnyH_only (i := 4) (by kernel_rfl) rfl (fun K hK => ?_)
  rw [if_pos (by rfl)]
  go_simp
  refine (HSt.out _ g1 hB4 HI4.out).mono ?_
  rintro e w5 ⟨g5, rfl, hI5, hb5⟩
  have HN5 : Hid (Row w5 bn 78 (u8s nn)) := Row.later HN4.out hb5
  have HI5 : Hid (IsBytes w5.heap.size w5 (some ⟨g5, 0, none⟩) bN bN cc) := hI5
  have HK5 : Hid (Row w5 w.heap.size 24 (u8s k)) := Row.later HK4.out hb5
  have hB5 : Below w.heap.size w w5 := hB4.trans (hb5.mono hB4.size)
  have hH5 : w5.rangeAt w.heap.size 0 (u8s k) ∧ w5.rangeAt bn 0 (u8s nn) := ⟨HK5.out.range, HN5.out.range⟩
  refine hK.out _ _ hH5 ?_
  clear hK K
  refine wpAnyH_takesAt 5 1 0 (of_decide_eq_true (by kernel_rfl)) rfl (fun _ _ _ _ _ h => h) (by kernel_rfl) (by kernel_rfl) hH5 ?_
  simp only [List.drop_succ_cons, List.drop_zero, List.take_succ_cons, List.take_zero]
  iterate 1 (refine wpHeld_step (v := ?_) (by rfl) (fun wz hSw => ?_) ?_; rotate_left; (focus ((try dsimp only at hSw); go_simp; try with_reducible rfl)); ((simp only [Act.put]; (try simp only [List.setIfInBounds_toArray]); (try simp only [List.set_cons_succ]); (try simp only [List.set_cons_zero]))))
  refine wpHeld_nil ?_
  refine wpAnyH_done (by kernel_rfl) ?_ _
  refine NoPanic.normal ?_
  clear HK3 HN3 HI3 hB3 hB3d hb4 hb34 HN4 HI4 HK4 hB4 hb5 hI5 hH5
  go_wp2_with (first
    | ((with_reducible show wpList _ _ _ (Oper.mk (some 31) _ _ _ _ _ :: _) _ _); refine wpList_load_Row rfl 24 (.tmp 3) rfl rfl HK5.out Tryd.underlying24 (by rw [HKl.out]; exact size24) ?_; simp only [Act.put, List.setIfInBounds_toArray, List.set_cons_zero, List.set_cons_succ])
    | ((with_reducible show wpList _ _ _ (Oper.mk (some 33) _ _ _ _ _ :: _) _ _); refine wpList_load_Row rfl 78 (.tmp 10) rfl rfl HN5.out Tryd.underlying78 (by rw [HNv.out]; exact size78) ?_; simp only [Act.put, List.setIfInBounds_toArray, List.set_cons_zero, List.set_cons_succ])
    | (go_at_call 45; refine (HTa.out _ g5 hB5 HI5.out).mono ?_; rintro e w6 ⟨rfl, hb6⟩; have HN6 : Hid (Row w6 bn 78 (u8s nn)) := Row.later HN5.out hb6; have HI6 : Hid (IsBytes w6.heap.size w6 (some ⟨g5, 0, none⟩) bN bN cc) := IsBytes.later hb6 HI5.out; have hB6 : Below w.heap.size w w6 := hB5.trans (hb6.mono hB5.size); clear hb6)
    | ((with_reducible show wpList _ _ _ (Oper.mk _ (Op.store 40 (.tmp 12) (.tmp 35)) _ _ _ _ :: _) _ _); change wpList _ _ _ _ _ (w6.alloc (.cells noKey.toArray 40)); refine wpList_store_Row rfl 40 (.tmp 12) (.tmp 35) rfl (u8s tt) rfl rfl (Row.new' _ _ _) (by rw [HTv.out]; kernel_rfl) (by rw [HTv.out]; rfl) HTv1.out ?_; simp only [Act.put]; obtain ⟨w7, hw7⟩ : ∃ w7, (w6.alloc (.cells noKey.toArray 40)).setCells w6.heap.size 0 (u8s tt) = w7 := ⟨_, rfl⟩; have hb7 : Below w6.heap.size w6 w7 := (by rw [← hw7]; exact below_setCells (Nat.le_refl _) _ _ ((Below.refl _ w6).alloc (Nat.le_refl _) _)); have HT7 : Hid (Row w7 w6.heap.size 40 (u8s tt)) := (by rw [← hw7]; exact Row.sets_all (Row.new' _ _ _) (by rw [HTv.out]; rfl)); rw [hw7]; have HN7 : Hid (Row w7 bn 78 (u8s nn)) := Row.later HN6.out hb7; have HI7 : Hid (IsBytes w7.heap.size w7 (some ⟨g5, 0, none⟩) bN bN cc) := IsBytes.later hb7 HI6.out; have hB7 : Below w.heap.size w w7 := hB6.trans (hb7.mono hB6.size); generalize w6.heap.size = bt at HT7 ⊢; clear hw7 hb7)
    | (at_make; refine wpList_make_own _ rfl _ _ 25 rfl w7.heap.size 5 i0 (.int .u8 0) 1 Tryd.underlying25 hi hz0 hz1 _ _ _ (44 + bN) rfl rfl (by push_cast; rfl) (by rw [hz2]; omega) (by simp only [maxLen]; omega) (Nat.le_refl _) ?_; intro w8 hown8 hgrow8; have HO8 : Hid (Own w7.heap.size w8 (.slice (some ⟨w7.heap.size, 0, none⟩) 0 (44 + bN)) []) := hown8; have hb8 : Below w7.heap.size w7 w8 := (Below.refl _ w7).grown hgrow8 (Nat.le_refl _) (fun k e => by cases e); clear hown8 hgrow8)
    | ((with_reducible show wpList _ _ _ (Oper.mk (some 42) _ _ _ _ _ :: _) _ _); refine wpList_append_bytes rfl _ _ rfl w7.heap.size _ [] rfl HO8.out rfl (bytes_of_box (Row.later HN7.out hb8) HNl.out.1 (by omega) HNl.out.2) (by simp) hb8.size ?_; intro v9 w9 hown9 hgrow9; have hb9 : Below w7.heap.size w7 w9 := below_own hb8 hb8.size HO8.out hgrow9; have HO9 : Hid (Own w7.heap.size w9 v9 ([] ++ nn)) := hown9; clear hown9 hgrow9)
    | ((with_reducible show wpList _ _ _ (Oper.mk (some 45) _ _ _ _ _ :: _) _ _); refine wpList_append_bytes rfl _ _ rfl w7.heap.size v9 ([] ++ nn) rfl HO9.out rfl (IsBytes.later hb9 HI7.out) (by have := HNl.out.1; simp; omega) hb9.size ?_; intro v10 w10 hown10 hgrow10; have hb10 : Below w7.heap.size w7 w10 := below_own hb9 hb9.size HO9.out hgrow10; have HO10 : Hid (Own w7.heap.size w10 v10 ([] ++ nn ++ cc)) := hown10; clear hown10 hgrow10)
    | ((with_reducible show wpList _ _ _ (Oper.mk (some 48) _ _ _ _ _ :: _) _ _); refine wpList_append_bytes rfl _ _ rfl w7.heap.size v10 ([] ++ nn ++ cc) rfl HO10.out rfl (bytes_of_box (Row.later HT7.out hb10) HTl.out.1 (by omega) HTl.out.2) (by have := HNl.out.1; have := HCl.out.1; simp; omega) hb10.size ?_; intro v11 w11 hown11 hgrow11; have hb11 : Below w7.heap.size w7 w11 := below_own hb10 hb10.size HO10.out hgrow11; have HO11 : Hid (Own w7.heap.size w11 v11 ([] ++ nn ++ cc ++ tt)) := hown11; clear hown11 hgrow11))
  refine bodyPost_ret (results_tmp2 rfl _ _ _) rfl ?_
  exact ⟨v11, rfl, Own.mono hB7.size HO11.out, hB7.trans (hb11.mono hB7.size)⟩

end Go.Proofs.YtobmcaknfbooiaaDoor
/-
  realOpen of what realSeal answered: the text.
-/
namespace Go.Proofs.YtobmcaknfbooiaaDoor
open Go.RowKit Go.Shelf

namespace Re
/-- Of, of a padded text. -/
theorem of_padL (p : Option Addr) (cap : Nat) (zs : List Nat) (hl : zs.length ≤ 60000) (hlen : (padL zs).length ≤ 60000) (w : World) (hI : IsBytes w.heap.size w p (padL zs).length cap (padL zs)) :
    Calls Tryd.prog 49 #[.slice p (padL zs).length cap] w fun e w' => ∃ v, e = .returned (.tuple #[v, .int .i64 0]) ∧ Own w.heap.size w' v zs ∧ Below w.heap.size w w' := by
  obtain ⟨hp, ht⟩ := isPad_padL (zs := zs) (by omega)
  obtain ⟨cs, hcs0⟩ : ∃ cs, padL zs = cs := ⟨_, rfl⟩
  rw [hcs0] at hp ht hI hlen ⊢
  have hb := hp.bucket (by omega)
  obtain ⟨len, hlenE⟩ : ∃ len, cs.length = len := ⟨_, rfl⟩
  rw [hlenE] at hI hlen hb ⊢
  have h4 : 4 ≤ len := by rw [← hlenE]; exact hp.1
  obtain ⟨hn1, hn2⟩ := fits_of_bucket hb h4
  have hcl := hI.1
  have hT : (toldL cs).length = wordAt cs 0 := toldL_length (by omega)
  have hTz : ∀ z ∈ toldL cs, z < 256 := toldL_lt hI.2.2.2.1
  have h32 : 4 < len := by
    have := bucketN_pos (z := (wordAt cs 0 : Int)) (by omega) (by omega)
    omega
  obtain ⟨b, off, rfl, hbb, hcs⟩ : ∃ b off, p = some ⟨b, off, none⟩ ∧ b < w.heap.size ∧ ∀ i, i < len → w.cell? ⟨b, off + i, none⟩ = some (.int .u8 (cs.getD i 0 : Nat)) := by
    rcases hI.2.2.2.2 with h | h
    · omega
    · exact h
  refine (of_core b off len cap (wordAt cs 0) (toldL cs) (padL (toldL cs)) true w hn2 h32 hlen hI.2.1 hI.2.2.1 hT hTz ?_ ?_ ?_ ?_).mono ?_
  · intro W hW j v hv
    have hj : j < (toldL cs).length := by
      rcases Nat.lt_or_ge j (toldL cs).length with h | h
      · exact h
      · rw [List.getElem?_eq_none (by simpa using h)] at hv; cases hv
    rw [u8s_at hj] at hv
    cases hv
    have hj' : j < wordAt cs 0 := by rw [← hT]; exact hj
    rw [Addr.add_mid, hW.cell (p := ⟨b, off + 4 + j, none⟩) hbb, show off + 4 + j = off + (4 + j) by omega, hcs (4 + j) (by omega)]
    simp [toldL, hj']
  · have h := lengthOf_some _ len cap cs h4 w hI
    rw [decide_eq_true hb] at h
    exact h
  · intro g W h
    have h := put_some _ _ _ _ hn1 W h
    rw [hb] at h
    exact h
  · intro n₀ g W hW ho
    have h := equal_any _ _ _ _ _ _ _ _ W hlen hlen (ho.bytes (padL_lt hTz)) ((hI.below hW).mono hW.size)
    rw [decide_eq_true hp.2.2] at h
    exact h
  · rintro e w' ⟨v, rfl, h1, h2, hbel⟩
    refine ⟨v, rfl, ?_, hbel⟩
    have := h1 rfl
    rw [ht] at this
    exact this
end Re

/-- A part of bytes. -/
theorem part_bytes {W : World} {n₀ b off len cap : Nat} {zs : List Nat} (h : IsBytes n₀ W (some ⟨b, off, none⟩) len cap zs) (hl0 : 0 < len) {i l c : Nat} (hil : i + l ≤ len) (hc : l ≤ c) (hc2 : c ≤ cap) {ys : List Nat} (hy : (zs.drop i).take l = ys) : IsBytes n₀ W (some ⟨b, off + i, none⟩) l c ys := by
  obtain ⟨h1, h2, h3, h4, h5⟩ := h
  subst hy
  refine ⟨by simp; omega, hc, by omega, fun z hz => h4 z (List.mem_of_mem_drop (List.mem_of_mem_take hz)), .inr ?_⟩
  rcases h5 with h5 | ⟨b', off', e, hb, hcs⟩
  · omega
  · cases e
    refine ⟨b, off + i, rfl, hb, fun j hj => ?_⟩
    rw [Nat.add_assoc, hcs (i + j) (by omega)]
    congr 2
    simp [List.getD_eq_getElem?_getD, List.getElem?_drop, hj]

set_option maxRecDepth 100000 in
set_option maxHeartbeats 2000000 in
theorem realOpen_any (k : List Nat) (hk : IsKey32 k) (pa : Option Addr) (la ca : Nat) (za : List Nat) (hla : la ≤ 10000) (zp : List Nat) (hlp : zp.length ≤ 20000) (hzp : ∀ z ∈ zp, z < 256) (hbk : bucketN (zp.length : Int) ≤ 30000) (b off lc cap : Nat) (w : World) (hT : Sh.Tab w) (hTr : Re.Tab w)
    (hIa : IsBytes w.heap.size w pa la ca za) (hIc : IsBytes w.heap.size w (some ⟨b, off, none⟩) lc cap (sealN k za zp)) :
    Calls Tryd.prog 29 #[.agg (u8s k).toArray, .slice pa la ca, .slice (some ⟨b, off, none⟩) lc cap] w fun e w' => ∃ v, e = .returned (.tuple #[v, .int .i64 0]) ∧ Own w.heap.size w' v zp ∧ Below w.heap.size w w' := by
  obtain ⟨bN, hbN⟩ : ∃ bN, bucketN (zp.length : Int) = bN := ⟨_, rfl⟩
  obtain ⟨zq, hzq⟩ : ∃ zq, Re.padL zp = zq := ⟨_, rfl⟩
  have HQl : Hid (zq.length = bN) := by show _ = _; rw [← hzq, ← hbN]; exact Re.padL_length (by omega)
  have HQz : Hid (∀ z ∈ zq, z < 256) := by rw [← hzq]; exact Re.padL_lt hzp
  have hSeal : sealN k za zp = nonceN k za zq ++ Re.streamN (useN k 101) 1 (nonceN k za zq) zq ++ tagN k za (nonceN k za zq) (Re.streamN (useN k 101) 1 (nonceN k za zq) zq) := by unfold sealN turnedN; rw [hzq]
  obtain ⟨nn, hnn⟩ : ∃ nn, nonceN k za zq = nn := ⟨_, rfl⟩
  have HNl : Hid (nn.length = 12 ∧ ∀ z ∈ nn, z < 256) := by rw [← hnn]; exact ⟨nonceN_length _ _ _, nonceN_lt _ _ _⟩
  obtain ⟨cc, hcc⟩ : ∃ cc, Re.streamN (useN k 101) 1 nn zq = cc := ⟨_, rfl⟩
  have HCl : Hid (cc.length = bN ∧ ∀ z ∈ cc, z < 256) := by rw [← hcc]; exact ⟨by rw [Re.streamN_length]; exact HQl.out, Re.streamN_lt _ _ _ HQz.out⟩
  obtain ⟨tt, htt⟩ : ∃ tt, tagN k za nn cc = tt := ⟨_, rfl⟩
  have HTl : Hid (tt.length = 32 ∧ ∀ z ∈ tt, z < 256) := by rw [← htt]; exact ⟨tagN_length _ _ _ _, tagN_lt _ _ _ _⟩
  rw [hnn, hcc, htt] at hSeal
  have hlc : lc = 44 + bN := by
    have := hIc.1
    rw [hSeal] at this
    have e1 := HNl.out.1
    have e2 := HCl.out.1
    have e3 := HTl.out.1
    simp at this
    omega
  have hbp : 32 ≤ bN := by rw [← hbN]; exact (bucketN_pos (by omega) (by omega)).2.1
  obtain ⟨tA, htA⟩ : ∃ tA, 12 + bN = tA := ⟨_, rfl⟩
  have HtA : Hid (12 + bN = tA ∧ tA + 32 = lc) := ⟨htA, by omega⟩
  have hcap := hIc.2.1
  have hcap2 := hIc.2.2.1
  have e1 : IntKind.i64.wrap ((lc : Int) - 32) = (tA : Int) := by rw [IntKind.wrap_i64]; omega
  have q1 : (12 : Int) ≤ (tA : Int) := by omega
  have q2 : (tA : Int) ≤ (cap : Int) := by omega
  have q3 : (cap = 12) = False := by simp; omega
  have q4 : (tA : Int) ≤ (lc : Int) := by omega
  have q5 : (cap = tA) = False := by simp; omega
  have IN : Hid (∀ W, Below w.heap.size w W → IsBytes W.heap.size W (some ⟨b, off + 12, none⟩) bN (cap - 12) cc) := fun W hW => part_bytes (hIc.later hW) (by omega) (i := 12) (l := bN) (by omega) (by omega) (by omega) (by rw [hSeal]; rw [List.append_assoc, List.drop_append_of_le_length (by rw [HNl.out.1]; omega), List.drop_of_length_le (by rw [HNl.out.1]; omega), List.nil_append, List.take_append_of_le_length (by rw [HCl.out.1]; omega), List.take_of_length_le (by rw [HCl.out.1]; omega)])
  have IT : Hid (∀ W, Below w.heap.size w W → IsBytes W.heap.size W (some ⟨b, off + tA, none⟩) 32 (cap - tA) tt) := fun W hW => part_bytes (hIc.later hW) (by omega) (i := tA) (l := 32) (by omega) (by omega) (by omega) (by rw [hSeal]; rw [List.drop_append_of_le_length (by rw [List.length_append, HNl.out.1, HCl.out.1]; omega), List.drop_of_length_le (by rw [List.length_append, HNl.out.1, HCl.out.1]; omega), List.nil_append, List.take_of_length_le (by rw [HTl.out.1]; omega)])
  have HNr : Hid (∀ W, Below w.heap.size w W → W.rangeAt b off (u8s nn)) := fun W hW j v hv => by
    have hj : j < nn.length := by
      rcases Nat.lt_or_ge j nn.length with h | h
      · exact h
      · rw [List.getElem?_eq_none (by simpa using h)] at hv; cases hv
    rw [u8s_at hj] at hv
    cases hv
    obtain ⟨_, _, _, _, h5⟩ := hIc.later hW
    rcases h5 with h5 | ⟨b', off', e, hb, hcs⟩
    · omega
    · cases e
      have hl := HNl.out.1
      rw [hcs j (by omega), hSeal]
      congr 2
      simp [List.getD_eq_getElem?_getD, List.getElem?_append, hj]
  have HLen : Hid (∀ W, Calls Tryd.prog 47 #[.int .i64 (lc : Nat)] W fun e w' => e = .returned (.bool true) ∧ Below W.heap.size W w') := fun W => by
    have h := sealedLen_any zp.length (by omega) W
    rw [hbN, ← hlc] at h
    exact h
  have HUs : Hid (∀ W, Below w.heap.size w W → Calls Tryd.prog 44 #[.agg (u8s k).toArray, .int .u8 101] W fun e w' => e = .returned (.agg (u8s (useN k 101)).toArray) ∧ Below W.heap.size W w') := fun W hW => useKey_any k hk 101 (by omega) W (hT.later hW)
  have HSt : Hid (∀ W, Below w.heap.size w W → Calls Tryd.prog 43 #[.agg (u8s (useN k 101)).toArray, .int .u32 1, .agg (u8s nn).toArray, .slice (some ⟨b, off + 12, none⟩) bN (cap - 12)] W fun e w' => ∃ g', e = .returned (.slice (some ⟨g', 0, none⟩) bN bN) ∧ IsBytes w'.heap.size w' (some ⟨g', 0, none⟩) bN bN zq ∧ Below W.heap.size W w') := fun W hW => by
    have h := Re.stream_any (useN k 101) 1 nn (useN_key k 101) (by omega) HNl.out (some ⟨b, off + 12, none⟩) bN (cap - 12) cc (by omega) W (hTr.later hW) (IN.out W hW)
    rw [← hcc, Re.streamN_back] at h
    exact h.mono fun e w' ⟨g', h1, _, h3, h4⟩ => ⟨g', h1, bytes_of_box h3 HQl.out (by omega) HQz.out, h4⟩
  have HTa : Hid (∀ W, Below w.heap.size w W → Calls Tryd.prog 45 #[.agg (u8s k).toArray, .slice pa la ca, .agg (u8s nn).toArray, .slice (some ⟨b, off + 12, none⟩) bN (cap - 12)] W fun e w' => e = .returned (.agg (u8s tt).toArray) ∧ Below W.heap.size W w') := fun W hW => by
    have h := tagOf_any k hk pa la ca za hla nn HNl.out.1 HNl.out.2 (some ⟨b, off + 12, none⟩) bN (cap - 12) cc (by omega) W (hT.later hW) (hIa.later hW) (IN.out W hW)
    rw [htt] at h
    exact h
  have HOf : Hid (∀ W g, Below w.heap.size w W → IsBytes W.heap.size W (some ⟨g, 0, none⟩) bN bN zq → Calls Tryd.prog 49 #[.slice (some ⟨g, 0, none⟩) bN bN] W fun e w' => ∃ v, e = .returned (.tuple #[v, .int .i64 0]) ∧ Own W.heap.size w' v zp ∧ Below W.heap.size W w') := fun W g hW hI => by
    have hl : (Re.padL zp).length = bN := by rw [hzq]; exact HQl.out
    have h := Re.of_padL (some ⟨g, 0, none⟩) bN zp (by omega) (by omega) W (by rw [hl, hzq]; exact hI)
    rw [hl] at h
    exact h
  have HSe : Hid (∀ W q c, Below w.heap.size w W → IsBytes W.heap.size W q zp.length c zp → Calls Tryd.prog 27 #[.agg (u8s k).toArray, .slice pa la ca, .slice q zp.length c] W fun e w' => ∃ v, e = .returned (.tuple #[v, .int .i64 0]) ∧ Own W.heap.size w' v (sealN k za zp) ∧ Below W.heap.size W w') := fun W q c hW hI =>
    realSeal_any k hk pa la ca za hla q zp.length c zp (by omega) (by rw [hbN]; omega) W (hT.later hW) (hTr.later hW) (hIa.later hW) hI
  have HEq : Hid (∀ W v n₀, Below w.heap.size w W → Own n₀ W v (sealN k za zp) → Calls Tryd.prog 48 #[v, .slice (some ⟨b, off, none⟩) lc cap] W fun e w' => e = .returned (.bool true) ∧ Below W.heap.size W w') := fun W v n₀ hW hO => by
    obtain ⟨q, c, rfl⟩ := own_len hO hIc.1
    have h := Re.equal_any q (some ⟨b, off, none⟩) c cap lc lc (sealN k za zp) (sealN k za zp) W (by omega) (by omega) (hO.bytes hIc.2.2.2.1) (hIc.later hW)
    rw [decide_eq_true rfl] at h
    exact h
  have HEt : Hid (∀ W bt, Below w.heap.size w W → Row W bt 40 (u8s tt) → Calls Tryd.prog 48 #[.slice (some ⟨bt, 0, none⟩) 32 32, .slice (some ⟨b, off + tA, none⟩) 32 (cap - tA)] W fun e w' => e = .returned (.bool true) ∧ Below W.heap.size W w') := fun W bt hW hR => by
    have h := Re.equal_any (some ⟨bt, 0, none⟩) (some ⟨b, off + tA, none⟩) 32 (cap - tA) 32 32 tt tt W (by omega) (by omega) (bytes_of_box hR HTl.out.1 (by omega) HTl.out.2) (IT.out W hW)
    rw [decide_eq_true rfl] at h
    exact h
  obtain ⟨w0, hw0⟩ : ∃ w0, w.alloc (.cells (u8s k).toArray 24) = w0 := ⟨_, rfl⟩
  have HW0 : Hid (w.alloc (.cells (u8s k).toArray 24) = w0) := hw0
  have hb0 : Below w.heap.size w w0 := by rw [← hw0]; exact (Below.refl _ w).alloc (Nat.le_refl _) _
  have HK0 : Hid (Row w0 w.heap.size 24 (u8s k)) := by rw [← hw0]; exact Row.new' w 24 (u8s k)
  have HKl : Hid ((u8s k).length = 32) := by show _ = _; rw [u8s_length, hk.1]
  have HNv : Hid ((u8s nn).length = 12) := by show _ = _; rw [u8s_length, HNl.out.1]
  have HNv1 : Hid (∀ v ∈ u8s nn, v.oneCell' = true) := u8s_one _
  have HTv : Hid ((u8s tt).length = 32) := by show _ = _; rw [u8s_length, HTl.out.1]
  have HTv1 : Hid (∀ v ∈ u8s tt, v.oneCell' = true) := u8s_one _
  have hAt := run_arrayAt78 b off lc cap (by omega)
  have HLC : Hid (lc = 44 + bN) := hlc
  have hlc2 : lc ≤ 60000 := by omega
  clear hw0 hSeal hnn hcc htt hzq hbN hIa hIc htA hlc hbk
  go_enter Tryd.func29, Tryd.ntmps29
  go_wp2_with (first
    | (go_at_call 47; rw [HW0.out]; refine (HLen.out _).mono ?_; rintro e w1 ⟨rfl, hb1⟩; have hB1 : Below w.heap.size w w1 := hb0.trans (hb1.mono hb0.size); have HK1 : Hid (Row w1 w.heap.size 24 (u8s k)) := Row.later HK0.out hb1; clear hb1)
    | ((with_reducible show wpList _ _ _ (Oper.mk (some 23) _ _ _ _ _ :: _) _ _); refine wpList_load_mid rfl 78 (.tmp 22) rfl b off rfl (u8s nn) _ (HNr.out _ hB1) Tryd.underlying78 rfl (by rw [HNv.out]; exact size78) ?_; simp only [Act.put, List.setIfInBounds_toArray, List.set_cons_zero, List.set_cons_succ])
    | ((with_reducible show wpList _ _ _ (Oper.mk _ (Op.store 78 (.tmp 8) (.tmp 23)) _ _ _ _ :: _) _ _); change wpList _ _ _ _ _ (w1.alloc (.cells noNonce.toArray 78)); refine wpList_store_Row rfl 78 (.tmp 8) (.tmp 23) rfl (u8s nn) rfl rfl (Row.new' _ _ _) (by rw [HNv.out]; exact size78) (by rw [HNv.out]; rfl) HNv1.out ?_; simp only [Act.put]))
  obtain ⟨w3, hw3⟩ : ∃ w3, (w1.alloc (.cells noNonce.toArray 78)).setCells w1.heap.size 0 (u8s nn) = w3 := ⟨_, rfl⟩
  have hb3 : Below w1.heap.size w1 w3 := by rw [← hw3]; exact below_setCells (Nat.le_refl _) _ _ ((Below.refl _ w1).alloc (Nat.le_refl _) _)
  have hn3 : Row w3 w1.heap.size 78 (u8s nn) := by rw [← hw3]; exact Row.sets_all (Row.new' _ _ _) (by rw [HNv.out]; rfl)
  rw [hw3]
  have HN3 : Hid (Row w3 w1.heap.size 78 (u8s nn)) := hn3
  have HK3 : Hid (Row w3 w.heap.size 24 (u8s k)) := Row.later HK1.out hb3
  have hB3 : Below w.heap.size w w3 := hB1.trans (hb3.mono hB1.size)
  generalize w1.heap.size = bn at *
  clear hw3 hn3 HK1 hB1 hb3
  refine wp_region_noPanic ?_
  refine wp_region_held_drew (S := fun _ => True) (by kernel_rfl) trivial (fun hHeld => ?_)
  refine wpAnyH_takesAt 0 8 0 (of_decide_eq_true (by kernel_rfl)) rfl (fun _ _ _ _ _ h => h) (by kernel_rfl) (by kernel_rfl) hHeld ?_
  simp only [List.drop_zero, List.take_succ_cons, List.take_zero]
  iterate 8 (refine wpHeld_step (v := ?_) (by rfl) (fun wz hSw => ?_) ?_; rotate_left; (focus ((try dsimp only at hSw); go_simp; try with_reducible rfl)); (simp only [Act.put, List.setIfInBounds_toArray, List.set_cons_zero, List.set_cons_succ]))
  refine wpHeld_nil ?_
  refine wpAnyH_done (by kernel_rfl) ?_ _
  refine NoPanic.normal ?_
  clear hHeld
  rw [show tA - 12 = bN by have := HtA.out; omega, show lc - tA = 32 by have := HtA.out; omega]
  have HN4 : Hid (Row w3.drew bn 78 (u8s nn)) := HN3.out
  have HK4 : Hid (Row w3.drew w.heap.size 24 (u8s k)) := HK3.out
  have hB4 : Below w.heap.size w w3.drew := below_drewN hB3 1
  generalize w3.drew = w4 at *
  clear HN3 HK3 hB3 q1 q2 q3 q4 q5 e1 hAt
  go_wp2_with (first
    | ((with_reducible show wpList _ _ _ (Oper.mk (some 33) _ _ _ _ _ :: _) _ _); refine wpList_load_Row rfl 24 (.tmp 3) rfl rfl HK4.out Tryd.underlying24 (by rw [HKl.out]; exact size24) ?_; simp only [Act.put, List.setIfInBounds_toArray, List.set_cons_zero, List.set_cons_succ])
    | ((with_reducible show wpList _ _ _ (Oper.mk (some 35) _ _ _ _ _ :: _) _ _); refine wpList_load_Row rfl 78 (.tmp 8) rfl rfl HN4.out Tryd.underlying78 (by rw [HNv.out]; exact size78) ?_; simp only [Act.put, List.setIfInBounds_toArray, List.set_cons_zero, List.set_cons_succ])
    | (go_at_call 45; refine (HTa.out _ hB4).mono ?_; rintro e w5 ⟨rfl, hb5⟩; have HN5 : Hid (Row w5 bn 78 (u8s nn)) := Row.later HN4.out hb5; have HK5 : Hid (Row w5 w.heap.size 24 (u8s k)) := Row.later HK4.out hb5; have hB5 : Below w.heap.size w w5 := hB4.trans (hb5.mono hB4.size); clear hb5)
    | ((with_reducible show wpList _ _ _ (Oper.mk _ (Op.store 40 (.tmp 12) (.tmp 37)) _ _ _ _ :: _) _ _); change wpList _ _ _ _ _ (w5.alloc (.cells noKey.toArray 40)); refine wpList_store_Row rfl 40 (.tmp 12) (.tmp 37) rfl (u8s tt) rfl rfl (Row.new' _ _ _) (by rw [HTv.out]; kernel_rfl) (by rw [HTv.out]; rfl) HTv1.out ?_; simp only [Act.put]; obtain ⟨w6, hw6⟩ : ∃ w6, (w5.alloc (.cells noKey.toArray 40)).setCells w5.heap.size 0 (u8s tt) = w6 := ⟨_, rfl⟩; have hb6 : Below w5.heap.size w5 w6 := (by rw [← hw6]; exact below_setCells (Nat.le_refl _) _ _ ((Below.refl _ w5).alloc (Nat.le_refl _) _)); have HT6 : Hid (Row w6 w5.heap.size 40 (u8s tt)) := (by rw [← hw6]; exact Row.sets_all (Row.new' _ _ _) (by rw [HTv.out]; rfl)); rw [hw6]; have HN6 : Hid (Row w6 bn 78 (u8s nn)) := Row.later HN5.out hb6; have HK6 : Hid (Row w6 w.heap.size 24 (u8s k)) := Row.later HK5.out hb6; have hB6 : Below w.heap.size w w6 := hB5.trans (hb6.mono hB5.size); generalize w5.heap.size = bt at HT6 ⊢; clear hw6 hb6)
    | (go_at_call 48; refine (HEt.out _ _ hB6 HT6.out).mono ?_; rintro e w7 ⟨rfl, hb7⟩; have HN7 : Hid (Row w7 bn 78 (u8s nn)) := Row.later HN6.out hb7; have HK7 : Hid (Row w7 w.heap.size 24 (u8s k)) := Row.later HK6.out hb7; have hB7 : Below w.heap.size w w7 := hB6.trans (hb7.mono hB6.size); clear hb7))
  clear HK4 HN4 hB4 HK5 HN5 hB5 HK6 HN6 hB6 HT6
  refine wp_region_noPanic ?_
  refine wp_region_held_drew (S := fun W' => W'.rangeAt w.heap.size 0 (u8s k) ∧ W'.rangeAt bn 0 (u8s nn)) (by kernel_rfl) ⟨(Row.drew HK7.out).range, (Row.drew HN7.out).range⟩ (fun hHeld => ?_)
  refine wpAnyH_takesAt 0 1 10 (of_decide_eq_true (by kernel_rfl)) rfl (fun _ _ _ _ _ h => h) (by kernel_rfl) (by kernel_rfl) hHeld ?_
  simp only [List.drop_zero, List.take_succ_cons, List.take_zero]
  refine wpHeld_loadS (by rfl) 24 (.tmp 3) rfl w.heap.size 0 rfl (u8s k) (fun W hW => hW.1) Tryd.underlying24 rfl (by rw [HKl.out]; exact size24) ?_
  simp only [Act.put, List.setIfInBounds_toArray, List.set_cons_zero, List.set_cons_succ]
  refine wpHeld_nil ?_
  refine wpAnyH_takesAt 2 2 8 (of_decide_eq_true (by kernel_rfl)) rfl (fun _ _ _ _ _ h => h) (by kernel_rfl) (by kernel_rfl) hHeld ?_
  simp only [List.drop_succ_cons, List.drop_zero, List.take_succ_cons, List.take_zero]
  refine wpHeld_loadS (by rfl) 78 (.tmp 8) rfl bn 0 rfl (u8s nn) (fun W hW => hW.2) Tryd.underlying78 rfl (by rw [HNv.out]; exact size78) ?_
  simp only [Act.put, List.setIfInBounds_toArray, List.set_cons_zero, List.set_cons_succ]
  iterate 1 (refine wpHeld_step (v := ?_) (by rfl) (fun wz hSw => ?_) ?_; rotate_left; (focus (clear hSw; go_simp; try with_reducible rfl)); (simp only [Act.put, List.setIfInBounds_toArray, List.set_cons_zero, List.set_cons_succ]))
  refine wpHeld_nil ?_
  clear hHeld
  refine wpAnyH_only (i := 1) (by kernel_rfl) rfl (fun K hK => ?_)
  rw [if_pos (by rfl)]
  go_simp
  have hB7d : Below w.heap.size w w7.drew := below_drewN hB7 1
  refine (HUs.out _ hB7d).mono ?_
  rintro e w8 ⟨rfl, hb8⟩
  have hb78 : Below w7.heap.size w7 w8 := (below_drewN (Below.refl _ w7) 1).trans hb8
  have HN8 : Hid (Row w8 bn 78 (u8s nn)) := Row.later HN7.out hb78
  have HK8 : Hid (Row w8 w.heap.size 24 (u8s k)) := Row.later HK7.out hb78
  have hB8 : Below w.heap.size w w8 := hB7.trans (hb78.mono hB7.size)
  refine hK.out _ _ ⟨HK8.out.range, HN8.out.range⟩ ?_
  clear hK K
  refine wpAnyH_only (i := 4) (by kernel_rfl) rfl (fun K hK => ?_)
  rw [if_pos (by rfl)]
  go_simp
  refine (HSt.out _ hB8).mono ?_
  rintro e w9 ⟨g9, rfl, hI9, hb9⟩
  have HN9 : Hid (Row w9 bn 78 (u8s nn)) := Row.later HN8.out hb9
  have HK9 : Hid (Row w9 w.heap.size 24 (u8s k)) := Row.later HK8.out hb9
  have hB9 : Below w.heap.size w w9 := hB8.trans (hb9.mono hB8.size)
  refine hK.out _ _ ⟨HK9.out.range, HN9.out.range⟩ ?_
  clear hK K
  refine wpAnyH_only (i := 5) (by kernel_rfl) rfl (fun K hK => ?_)
  rw [if_pos (by rfl)]
  go_simp
  refine (HOf.out _ g9 hB9 hI9).mono ?_
  rintro e w10 ⟨v10, rfl, hO10, hb10⟩
  have HN10 : Hid (Row w10 bn 78 (u8s nn)) := Row.later HN9.out hb10
  have HK10 : Hid (Row w10 w.heap.size 24 (u8s k)) := Row.later HK9.out hb10
  have hB10 : Below w.heap.size w w10 := hB9.trans (hb10.mono hB9.size)
  obtain ⟨q10, c10, rfl⟩ := own_len hO10 rfl
  have HO10 : Hid (Own w.heap.size w10 (.slice q10 zp.length c10) zp) := Own.mono hB9.size hO10
  have hH10 : w10.rangeAt w.heap.size 0 (u8s k) ∧ w10.rangeAt bn 0 (u8s nn) := ⟨HK10.out.range, HN10.out.range⟩
  refine hK.out _ _ hH10 ?_
  clear hK K
  refine wpAnyH_takesAt 6 5 0 (of_decide_eq_true (by kernel_rfl)) rfl (fun _ _ _ _ _ h => h) (by kernel_rfl) (by kernel_rfl) hH10 ?_
  simp only [List.drop_succ_cons, List.drop_zero, List.take_succ_cons, List.take_zero]
  iterate 5 (refine wpHeld_step (v := ?_) (by rfl) (fun wz hSw => ?_) ?_; rotate_left; (focus ((try dsimp only at hSw); go_simp; try with_reducible rfl)); (simp only [Act.put, List.setIfInBounds_toArray, List.set_cons_zero, List.set_cons_succ]))
  refine wpHeld_nil ?_
  refine wpAnyH_done (by kernel_rfl) ?_ _
  refine NoPanic.normal ?_
  clear HK7 HN7 hB7 hB7d hb8 hb78 HN8 HK8 hB8 hb9 hI9 hH10 HN9 HK9 hB9 hO10 hb10
  obtain ⟨lz, hlz⟩ : ∃ lz, zp.length = lz := ⟨_, rfl⟩
  rw [hlz] at HO10 HSe ⊢
  have HLZ : Hid (zp.length = lz) := hlz
  clear hlz
  go_wp2_with (first
    | ((with_reducible show wpList _ _ _ (Oper.mk (some 54) _ _ _ _ _ :: _) _ _); refine wpList_load_Row rfl 24 (.tmp 3) rfl rfl HK10.out Tryd.underlying24 (by rw [HKl.out]; exact size24) ?_; simp only [Act.put, List.setIfInBounds_toArray, List.set_cons_zero, List.set_cons_succ])
    | (go_at_call 27; refine (HSe.out _ _ _ hB10 (Own.bytes HO10.out hzp)).mono ?_; rintro e w11 ⟨v11, rfl, hO11, hb11⟩; have hB11 : Below w.heap.size w w11 := hB10.trans (hb11.mono hB10.size); have HE : Hid (Calls Tryd.prog 48 #[v11, .slice (some ⟨b, off, none⟩) lc cap] w11 fun e w' => e = .returned (.bool true) ∧ Below w11.heap.size w11 w') := HEq.out _ _ _ hB11 hO11; have HO11 : Hid (Own w.heap.size w11 (.slice q10 lz c10) zp) := own_later HO10.out hb11; clear hO11 hb11)
    | (go_at_call 48; refine HE.out.mono ?_; rintro e w12 ⟨rfl, hb12⟩; have HO12 : Hid (Own w.heap.size w12 (.slice q10 lz c10) zp) := own_later HO11.out hb12; have hB12 : Below w.heap.size w w12 := hB11.trans (hb12.mono hB11.size); clear hb12))
  refine bodyPost_ret (results_tmp2 rfl _ _ _) rfl ?_
  exact ⟨_, rfl, HO12.out, hB12⟩

end Go.Proofs.YtobmcaknfbooiaaDoor
/-
  Seal and Open of a real suite.
-/
namespace Go.Proofs.YtobmcaknfbooiaaDoor
open Go.RowKit Go.Shelf

set_option maxRecDepth 100000 in
set_option maxHeartbeats 1000000 in
theorem seal_real (S : Nat) (t d gg : Option Addr) (k : List Nat) (hk : IsKey32 k) (pa : Option Addr) (la ca : Nat) (za : List Nat) (hla : la ≤ 10000) (pp : Option Addr) (lp cp : Nat) (zp : List Nat) (hlp : lp ≤ 60000) (hbk : bucketN (lp : Int) ≤ 30000) (w : World) (hT : Sh.Tab w) (hTr : Re.Tab w)
    (hs : SuiteAt w S 0 t d gg) (hIa : IsBytes w.heap.size w pa la ca za) (hIp : IsBytes w.heap.size w pp lp cp zp) :
    Calls Tryd.prog 11 #[.pointer (some ⟨S, 0, none⟩), .agg (u8s k).toArray, .slice pa la ca, .slice pp lp cp] w fun e w' => ∃ v, e = .returned (.tuple #[v, .int .i64 0]) ∧ Own w.heap.size w' v (sealN k za zp) ∧ Below w.heap.size w w' := by
  have HDS : Hid (∀ W, Below w.heap.size w W → Calls Tryd.prog 27 #[.agg (u8s k).toArray, .slice pa la ca, .slice pp lp cp] W fun e w' => ∃ v, e = .returned (.tuple #[v, .int .i64 0]) ∧ Own W.heap.size w' v (sealN k za zp) ∧ Below W.heap.size W w') := fun W hW =>
    realSeal_any k hk pa la ca za hla pp lp cp zp hlp hbk W (hT.later hW) (hTr.later hW) (hIa.later hW) (hIp.later hW)
  have HM : Hid (∀ W, Below w.heap.size w W → Calls Tryd.prog 24 #[.pointer (some ⟨S, 0, none⟩)] W fun e w' => e = .returned (.bool true) ∧ w' = W) := fun W hW => isMade_some S 0 _ _ gg W (hs.later hW)
  obtain ⟨n, hn⟩ : ∃ n, sizeN (lp : Int) = n := ⟨_, rfl⟩
  have hn0 : 0 < n := by rw [← hn]; exact sizeN_pos hlp
  have HSz : Hid (∀ W, Calls Tryd.prog 25 #[.int .i64 (lp : Int)] W fun e w' => e = .returned (.int .i64 (n : Nat)) ∧ Below W.heap.size W w') := fun W => by rw [← hn]; exact sealedSize_any _ (by omega) W
  have HKl : Hid ((u8s k).length = 32) := by show _ = _; rw [u8s_length, hk.1]
  have HS : Hid (∀ W, Below w.heap.size w W → SuiteAt W S 0 t d gg) := fun W hW => hs.later hW
  have hn' : ((n : Int) == 0) = false := by simp; omega
  have hcp1 : lp ≤ cp := hIp.2.1
  have hcp2 : cp ≤ 9223372036854775807 := hIp.2.2.1
  clear hs hIa hIp hn
  go_enter Tryd.func11, Tryd.ntmps11
  go_wp2_with (first
    | (go_at_call 24; refine (HM.out _ ((Below.refl _ w).alloc (Nat.le_refl _) _)).mono ?_; rintro e w1 ⟨rfl, hw1⟩; obtain ⟨w0, hw0⟩ : ∃ w0, w.alloc (.cells (u8s k).toArray 24) = w0 := ⟨_, rfl⟩; have hb0 : Below w.heap.size w w0 := (by rw [← hw0]; exact (Below.refl _ w).alloc (Nat.le_refl _) _); have HR0 : Hid (Row w0 w.heap.size 24 (u8s k)) := (by rw [← hw0]; exact Row.new' w 24 (u8s k)); rw [hw1, hw0]; clear hw1 hw0)
    | (go_at_call 25; refine (HSz.out _).mono ?_; rintro e w1 ⟨rfl, hb1⟩; have hB1 : Below w.heap.size w w1 := hb0.trans (hb1.mono hb0.size); have HR1 : Hid (Row w1 w.heap.size 24 (u8s k)) := Row.later HR0.out hb1; have HS1 : Hid (SuiteAt w1 S 0 t d gg) := HS.out _ hB1; have cs1 := Row.cell HS1.out (i := 1) rfl; clear hb1 hb0)
    | ((with_reducible show wpList _ _ _ (Oper.mk (some 23) _ _ _ _ _ :: _) _ _); refine wpList_load_Row rfl 24 (.tmp 5) rfl rfl HR1.out Tryd.underlying24 (by rw [HKl.out]; exact size24) ?_; simp only [Act.put, List.setIfInBounds_toArray, List.set_cons_zero, List.set_cons_succ])
    | (go_at_call 27; refine (HDS.out _ hB1).mono ?_; rintro e w2 ⟨v2, rfl, hO2, hb2⟩; have HO2 : Hid (Own w.heap.size w2 v2 (sealN k za zp)) := Own.mono hB1.size hO2; have hB2 : Below w.heap.size w w2 := hB1.trans (hb2.mono hB1.size); clear hO2 hb2))
  refine bodyPost_ret (results_tmp2 rfl _ _ _) rfl ?_
  exact ⟨v2, rfl, HO2.out, hB2⟩

set_option maxRecDepth 100000 in
set_option maxHeartbeats 1000000 in
theorem open_real (S : Nat) (t d gg : Option Addr) (k : List Nat) (hk : IsKey32 k) (pa : Option Addr) (la ca : Nat) (za : List Nat) (hla : la ≤ 10000) (zp : List Nat) (hlp : zp.length ≤ 20000) (hzp : ∀ z ∈ zp, z < 256) (hbk : bucketN (zp.length : Int) ≤ 30000) (b off lc cap : Nat) (w : World) (hT : Sh.Tab w) (hTr : Re.Tab w)
    (hs : SuiteAt w S 0 t d gg) (hIa : IsBytes w.heap.size w pa la ca za) (hIc : IsBytes w.heap.size w (some ⟨b, off, none⟩) lc cap (sealN k za zp)) :
    Calls Tryd.prog 12 #[.pointer (some ⟨S, 0, none⟩), .agg (u8s k).toArray, .slice pa la ca, .slice (some ⟨b, off, none⟩) lc cap] w fun e w' => ∃ v, e = .returned (.tuple #[v, .int .i64 0]) ∧ Own w.heap.size w' v zp ∧ Below w.heap.size w w' := by
  have HDO : Hid (∀ W, Below w.heap.size w W → Calls Tryd.prog 29 #[.agg (u8s k).toArray, .slice pa la ca, .slice (some ⟨b, off, none⟩) lc cap] W fun e w' => ∃ v, e = .returned (.tuple #[v, .int .i64 0]) ∧ Own W.heap.size w' v zp ∧ Below W.heap.size W w') := fun W hW =>
    realOpen_any k hk pa la ca za hla zp hlp hzp hbk b off lc cap W (hT.later hW) (hTr.later hW) (hIa.later hW) (hIc.later hW)
  have HM : Hid (∀ W, Below w.heap.size w W → Calls Tryd.prog 24 #[.pointer (some ⟨S, 0, none⟩)] W fun e w' => e = .returned (.bool true) ∧ w' = W) := fun W hW => isMade_some S 0 _ _ gg W (hs.later hW)
  have HKl : Hid ((u8s k).length = 32) := by show _ = _; rw [u8s_length, hk.1]
  have HS : Hid (∀ W, Below w.heap.size w W → SuiteAt W S 0 t d gg) := fun W hW => hs.later hW
  clear hs hIa hIc
  go_enter Tryd.func12, Tryd.ntmps12
  go_wp2_with (first
    | ((go_at_call 24; refine (HM.out _ ((Below.refl _ w).alloc (Nat.le_refl _) _)).mono ?_; rintro e w1' ⟨rfl, hw1⟩; obtain ⟨w1, hw0⟩ : ∃ w1, w.alloc (.cells (u8s k).toArray 24) = w1 := ⟨_, rfl⟩; have hB1 : Below w.heap.size w w1 := (by rw [← hw0]; exact (Below.refl _ w).alloc (Nat.le_refl _) _); have HR1 : Hid (Row w1 w.heap.size 24 (u8s k)) := (by rw [← hw0]; exact Row.new' w 24 (u8s k)); have HS1 : Hid (SuiteAt w1 S 0 t d gg) := HS.out _ hB1; have cs1 := Row.cell HS1.out (i := 1) rfl; rw [hw1, hw0]; clear hw1 hw0))
    | ((with_reducible show wpList _ _ _ (Oper.mk (some 17) _ _ _ _ _ :: _) _ _); refine wpList_load_Row rfl 24 (.tmp 5) rfl rfl HR1.out Tryd.underlying24 (by rw [HKl.out]; exact size24) ?_; simp only [Act.put, List.setIfInBounds_toArray, List.set_cons_zero, List.set_cons_succ])
    | (go_at_call 29; refine (HDO.out _ hB1).mono ?_; rintro e w2 ⟨v2, rfl, hO2, hb2⟩; have HO2 : Hid (Own w.heap.size w2 v2 zp) := Own.mono hB1.size hO2; have hB2 : Below w.heap.size w w2 := hB1.trans (hb2.mono hB1.size); clear hO2 hb2))
  refine bodyPost_ret (results_tmp2 rfl _ _ _) rfl ?_
  exact ⟨v2, rfl, HO2.out, hB2⟩

end Go.Proofs.YtobmcaknfbooiaaDoor
/-
  A suite that nobody made: every answer says so.
-/
namespace Go.Proofs.YtobmcaknfbooiaaDoor
open Go.RowKit

set_option maxRecDepth 100000 in
set_option maxHeartbeats 1000000 in
theorem prf_none (k : Array Value) (l : Int) (pp : Option Addr) (lp cp : Nat) (w : World) : Calls Tryd.prog 13 #[.pointer none, .agg k, .int .u8 l, .slice pp lp cp] w fun e w' => e = .returned (.tuple #[.agg noKey.toArray, .int .i64 1]) ∧ Below w.heap.size w w' := by
  obtain ⟨w0, hw0⟩ : ∃ w0, (w.alloc (.cells k 24)).alloc (.cells noKey.toArray 24) = w0 := ⟨_, rfl⟩
  have HW0 : Hid ((w.alloc (.cells k 24)).alloc (.cells noKey.toArray 24) = w0) := hw0
  have hb0 : Below w.heap.size w w0 := by rw [← hw0]; exact ((Below.refl _ w).alloc (Nat.le_refl _) _).alloc (by simp) _
  have HZ0 : Hid (Row w0 (w.heap.size + 1) 24 noKey) := by rw [← hw0]; exact Row.newAt (w.alloc (.cells k 24)) 24 noKey.toArray (by simp)
  clear hw0
  go_enter Tryd.func13, Tryd.ntmps13
  go_wp2_with (first
    | (go_at_call 24; change Calls _ _ _ ((w.alloc (.cells k 24)).alloc (.cells noKey.toArray 24)) _; rw [HW0.out]; refine (isMade_none _).mono ?_; rintro e w1 ⟨rfl, hw1⟩; rw [hw1]; clear hw1)
    | ((with_reducible show wpList _ _ _ (Oper.mk _ (Op.store 24 (.tmp 8) (.tmp 13)) _ _ _ _ :: _) _ _); refine wpList_store_Row rfl 24 (.tmp 8) (.tmp 13) rfl noKey rfl rfl HZ0.out size24 rfl (by decide) ?_; simp only [Act.put]))
  refine bodyPost_ret (results_Row_tmp rfl rfl (Row.sets_all HZ0.out rfl) Tryd.underlying24 size24) rfl ?_
  exact ⟨rfl, below_setCells (by omega) _ _ hb0⟩

set_option maxRecDepth 100000 in
set_option maxHeartbeats 1000000 in
theorem draw_none (w : World) : Calls Tryd.prog 15 #[.pointer none] w fun e w' => e = .returned (.tuple #[.agg noKey.toArray, .int .i64 1]) ∧ Below w.heap.size w w' := by
  obtain ⟨w0, hw0⟩ : ∃ w0, w.alloc (.cells noKey.toArray 24) = w0 := ⟨_, rfl⟩
  have HW0 : Hid (w.alloc (.cells noKey.toArray 24) = w0) := hw0
  have hb0 : Below w.heap.size w w0 := by rw [← hw0]; exact (Below.refl _ w).alloc (Nat.le_refl _) _
  have HZ0 : Hid (Row w0 w.heap.size 24 noKey) := by rw [← hw0]; exact Row.new' _ _ _
  clear hw0
  go_enter Tryd.func15, Tryd.ntmps15
  go_wp2_with (first
    | (go_at_call 24; change Calls _ _ _ (w.alloc (.cells noKey.toArray 24)) _; rw [HW0.out]; refine (isMade_none _).mono ?_; rintro e w1 ⟨rfl, hw1⟩; rw [hw1]; clear hw1)
    | ((with_reducible show wpList _ _ _ (Oper.mk _ (Op.store 24 (.tmp 2) (.tmp 7)) _ _ _ _ :: _) _ _); refine wpList_store_Row rfl 24 (.tmp 2) (.tmp 7) rfl noKey rfl rfl HZ0.out size24 rfl (by decide) ?_; simp only [Act.put]))
  refine bodyPost_ret (results_Row_tmp rfl rfl (Row.sets_all HZ0.out rfl) Tryd.underlying24 size24) rfl ?_
  exact ⟨rfl, below_setCells (Nat.le_refl _) _ _ hb0⟩

theorem sizeId : (Tryd.prog.info? 40).map (·.size) = some 32 := by kernel_rfl
set_option maxRecDepth 100000 in
set_option maxHeartbeats 1000000 in
theorem digest_none (pp : Option Addr) (lp cp : Nat) (w : World) : Calls Tryd.prog 14 #[.pointer none, .slice pp lp cp] w fun e w' => e = .returned (.tuple #[.agg noKey.toArray, .int .i64 1]) ∧ Below w.heap.size w w' := by
  obtain ⟨w0, hw0⟩ : ∃ w0, w.alloc (.cells noKey.toArray 40) = w0 := ⟨_, rfl⟩
  have HW0 : Hid (w.alloc (.cells noKey.toArray 40) = w0) := hw0
  have hb0 : Below w.heap.size w w0 := by rw [← hw0]; exact (Below.refl _ w).alloc (Nat.le_refl _) _
  have HZ0 : Hid (Row w0 w.heap.size 40 noKey) := by rw [← hw0]; exact Row.new' _ _ _
  clear hw0
  go_enter Tryd.func14, Tryd.ntmps14
  go_wp2_with (first
    | (go_at_call 24; change Calls _ _ _ (w.alloc (.cells noKey.toArray 40)) _; rw [HW0.out]; refine (isMade_none _).mono ?_; rintro e w1 ⟨rfl, hw1⟩; rw [hw1]; clear hw1)
    | ((with_reducible show wpList _ _ _ (Oper.mk _ (Op.store 40 (.tmp 4) (.tmp 12)) _ _ _ _ :: _) _ _); refine wpList_store_Row rfl 40 (.tmp 4) (.tmp 12) rfl noKey rfl rfl HZ0.out sizeId rfl (by decide) ?_; simp only [Act.put]))
  refine bodyPost_ret (results_Row_tmp rfl rfl (Row.sets_all HZ0.out rfl) Tryd.underlying40 sizeId) rfl ?_
  exact ⟨rfl, below_setCells (Nat.le_refl _) _ _ hb0⟩

set_option maxHeartbeats 1000000 in
theorem seal_none (k : Array Value) (pa : Option Addr) (la ca : Nat) (pp : Option Addr) (lp cp : Nat) (w : World) : Calls Tryd.prog 11 #[.pointer none, .agg k, .slice pa la ca, .slice pp lp cp] w fun e w' => e = .returned (.tuple #[.slice none 0 0, .int .i64 1]) ∧ Below w.heap.size w w' := by
  go_enter Tryd.func11, Tryd.ntmps11
  go_wp2_with (go_at_call 24; refine (isMade_none _).mono ?_; rintro e w1 ⟨rfl, hw1⟩; rw [hw1]; clear hw1)
  refine bodyPost_ret (results_tmp2 rfl _ _ _) rfl ?_
  exact ⟨rfl, (Below.refl _ w).alloc (Nat.le_refl _) _⟩
set_option maxHeartbeats 1000000 in
theorem open_none (k : Array Value) (pa : Option Addr) (la ca : Nat) (pp : Option Addr) (lp cp : Nat) (w : World) : Calls Tryd.prog 12 #[.pointer none, .agg k, .slice pa la ca, .slice pp lp cp] w fun e w' => e = .returned (.tuple #[.slice none 0 0, .int .i64 1]) ∧ Below w.heap.size w w' := by
  go_enter Tryd.func12, Tryd.ntmps12
  go_wp2_with (go_at_call 24; refine (isMade_none _).mono ?_; rintro e w1 ⟨rfl, hw1⟩; rw [hw1]; clear hw1)
  refine bodyPost_ret (results_tmp2 rfl _ _ _) rfl ?_
  exact ⟨rfl, (Below.refl _ w).alloc (Nat.le_refl _) _⟩

end Go.Proofs.YtobmcaknfbooiaaDoor
/-
  Wrap and Unwrap, by what Seal and Open tell.
-/
namespace Go.Proofs.YtobmcaknfbooiaaDoor
open Go.RowKit Go.Shelf

/-- The words beside a wrapped key. -/
def wrapL : List Nat := [119, 114, 97, 112]
theorem bytes_marked (W : World) : IsBytes (W.heap.size + 1) (W.alloc (.cells (u8s wrapL).toArray 5 (4, 5))) (some ⟨W.heap.size, 0, none⟩) 4 4 wrapL := by
  refine ⟨rfl, by omega, by omega, by decide, .inr ⟨W.heap.size, 0, rfl, by omega, fun i hi => ?_⟩⟩
  rw [Nat.zero_add, cell_of_row _ W.heap.size i _ 5 (4, 5) (heap_alloc_last W _)]
  have h := u8s_at (show i < wrapL.length from hi)
  rw [← h]
  simp

set_option maxRecDepth 100000 in
set_option maxHeartbeats 1000000 in
theorem wrap_of (S : Nat) (k : List Nat) (hk : IsKey32 k) (key : List Nat) (hkey : IsKey32 key) (R : Value → World → Prop) (w : World)
    (HS : Hid (∀ W b, Below w.heap.size w W → Row W w.heap.size 24 (u8s k) → IsBytes W.heap.size W (some ⟨b, 0, none⟩) 4 4 wrapL → IsBytes W.heap.size W (some ⟨w.heap.size + 1, 0, none⟩) 32 32 key → Calls Tryd.prog 11 #[.pointer (some ⟨S, 0, none⟩), .agg (u8s k).toArray, .slice (some ⟨b, 0, none⟩) 4 4, .slice (some ⟨w.heap.size + 1, 0, none⟩) 32 32] W fun e w' => ∃ v, e = .returned (.tuple #[v, .int .i64 0]) ∧ R v w' ∧ Row w' w.heap.size 24 (u8s k))) :
    Calls Tryd.prog 17 #[.pointer (some ⟨S, 0, none⟩), .agg (u8s k).toArray, .agg (u8s key).toArray] w fun e w' => ∃ v, e = .returned (.tuple #[v, .int .i64 0]) ∧ R v w' := by
  obtain ⟨w0, hw0⟩ : ∃ w0, (w.alloc (.cells (u8s k).toArray 24)).alloc (.cells (u8s key).toArray 24) = w0 := ⟨_, rfl⟩
  have HW0 : Hid ((w.alloc (.cells (u8s k).toArray 24)).alloc (.cells (u8s key).toArray 24) = w0) := hw0
  have hb0 : Below w.heap.size w w0 := by rw [← hw0]; exact ((Below.refl _ w).alloc (Nat.le_refl _) _).alloc (by simp) _
  have HK0 : Hid (Row w0 w.heap.size 24 (u8s k)) := by rw [← hw0]; exact (Row.new' w 24 (u8s k)).alloc _
  have HY0 : Hid (Row w0 (w.heap.size + 1) 24 (u8s key)) := by rw [← hw0]; exact Row.newAt (w.alloc (.cells (u8s k).toArray 24)) 24 (u8s key).toArray (by simp)
  have HKl : Hid ((u8s k).length = 32) := by show _ = _; rw [u8s_length, hk.1]
  clear hw0
  go_enter Tryd.func17, Tryd.ntmps17
  go_wp2
  rw [HW0.out]
  refine wp_region_noPanic ?_
  refine wp_region_held_drew (S := fun W' => W'.rangeAt w.heap.size 0 (u8s k)) (by kernel_rfl) (Row.drew HK0.out).range (fun hHeld => ?_)
  have B0 : Below w.heap.size w w0.drew := below_drewN hb0 1
  have K0 : Row w0.drew w.heap.size 24 (u8s k) := HK0.out
  have Y0 : Row w0.drew (w.heap.size + 1) 24 (u8s key) := HY0.out
  clear hb0 HK0 HY0
  generalize w0.drew = W0 at *
  refine wpAnyH_takesAt 0 2 8 (of_decide_eq_true (by kernel_rfl)) rfl (fun _ _ _ _ _ h => h) (by kernel_rfl) (by kernel_rfl) hHeld ?_
  simp only [List.drop_zero, List.take_succ_cons, List.take_zero]
  iterate 1 (refine wpHeld_step (v := ?_) (by rfl) (fun wz hSw => ?_) ?_; rotate_left; (focus (clear hSw; go_simp; try with_reducible rfl)); (simp only [Act.put, List.setIfInBounds_toArray, List.set_cons_zero, List.set_cons_succ]))
  refine wpHeld_loadS (by rfl) 24 (.tmp 4) rfl w.heap.size 0 rfl (u8s k) (fun W hW => hW) Tryd.underlying24 rfl (by rw [HKl.out]; exact size24) ?_
  simp only [Act.put, List.setIfInBounds_toArray, List.set_cons_zero, List.set_cons_succ]
  refine wpHeld_nil ?_
  refine wpAnyH_takesAt 4 1 7 (of_decide_eq_true (by kernel_rfl)) rfl (fun _ _ _ _ _ h => h) (by kernel_rfl) (by kernel_rfl) hHeld ?_
  simp only [List.drop_succ_cons, List.drop_zero, List.take_succ_cons, List.take_zero]
  iterate 1 (refine wpHeld_step (v := ?_) (by rfl) (fun wz hSw => ?_) ?_; rotate_left; (focus ((try dsimp only at hSw); go_simp; try with_reducible rfl)); ((simp only [Act.put]; (try simp only [List.setIfInBounds_toArray]); (try simp only [List.set_cons_succ]); (try simp only [List.set_cons_zero]))))
  refine wpHeld_nil ?_
  clear hHeld
  refine wpAnyH_only (i := 2) (by kernel_rfl) rfl (fun K hK => ?_)
  rw [if_pos (by rfl)]
  go_simp
  refine hK.out _ (W0.alloc (.cells (u8s wrapL).toArray 5)) (K0.alloc _).range ?_
  clear hK K
  have hcv := Lib.run_convert_bytes_const (P := Tryd.prog) W0 25 5 (u8s wrapL).toArray 4 4 Tryd.underlying25 Tryd.underlying5
  have hsz : (u8s wrapL).toArray.size = 4 := rfl
  rw [hsz] at hcv
  refine wpAnyH_only (i := 3) (by kernel_rfl) rfl (fun K hK => ?_)
  rw [if_pos (by rfl)]
  obtain ⟨W1, hW1⟩ : ∃ W1, W0.alloc (.cells (u8s wrapL).toArray 5 (4, 4 + 1)) = W1 := ⟨_, rfl⟩
  have hb1 : Below W0.heap.size W0 W1 := by rw [← hW1]; exact (Below.refl _ W0).alloc (Nat.le_refl _) _
  have hI1 : IsBytes W1.heap.size W1 (some ⟨W0.heap.size, 0, none⟩) 4 4 wrapL := by rw [← hW1, World.size_alloc]; exact bytes_marked W0
  rw [hW1] at hcv
  generalize (u8s wrapL).toArray = WA at *
  go_simp
  refine hK.out _ _ (K0.later hb1).range ?_
  clear hK K hcv hW1
  refine wpAnyH_only (i := 5) (by kernel_rfl) rfl (fun K hK => ?_)
  rw [if_pos (by rfl)]
  go_simp
  refine (HS.out W1 _ (B0.trans (hb1.mono B0.size)) (K0.later hb1) hI1 (bytes_of_box (Y0.later hb1) hkey.1 (by omega) hkey.2)).mono ?_
  rintro e W2 ⟨v, rfl, hR, hK2⟩
  have hH2 : W2.rangeAt w.heap.size 0 (u8s k) := hK2.range
  refine hK.out _ _ hH2 ?_
  clear hK K
  refine wpAnyH_takesAt 6 4 0 (of_decide_eq_true (by kernel_rfl)) rfl (fun _ _ _ _ _ h => h) (by kernel_rfl) (by kernel_rfl) hH2 ?_
  simp only [List.drop_succ_cons, List.drop_zero, List.take_succ_cons, List.take_zero]
  iterate 4 (refine wpHeld_step (v := ?_) (by rfl) (fun wz hSw => ?_) ?_; rotate_left; (focus ((try dsimp only at hSw); go_simp; try with_reducible rfl)); (simp only [Act.put, List.setIfInBounds_toArray, List.set_cons_zero, List.set_cons_succ]))
  refine wpHeld_nil ?_
  refine wpAnyH_done (by kernel_rfl) ?_ _
  refine NoPanic.normal ?_
  have HR : Hid (R v W2) := hR
  clear hR hH2
  go_wp2
  refine bodyPost_ret (results_tmp2 rfl _ _ _) rfl ?_
  exact ⟨v, rfl, HR.out⟩

set_option maxRecDepth 100000 in
set_option maxHeartbeats 1000000 in
theorem unwrap_of (S : Nat) (k : List Nat) (hk : IsKey32 k) (key : List Nat) (hkey : IsKey32 key) (pc : Option Addr) (lc cc : Nat) (w : World)
    (HO : Hid (∀ W b, Below w.heap.size w W → IsBytes W.heap.size W (some ⟨b, 0, none⟩) 4 4 wrapL → Calls Tryd.prog 12 #[.pointer (some ⟨S, 0, none⟩), .agg (u8s k).toArray, .slice (some ⟨b, 0, none⟩) 4 4, .slice pc lc cc] W fun e w' => ∃ g c, e = .returned (.tuple #[.slice (some ⟨g, 0, none⟩) 32 c, .int .i64 0]) ∧ w'.rangeAt g 0 (u8s key) ∧ Below W.heap.size W w')) :
    Calls Tryd.prog 18 #[.pointer (some ⟨S, 0, none⟩), .agg (u8s k).toArray, .slice pc lc cc] w fun e w' => e = .returned (.tuple #[.agg (u8s key).toArray, .int .i64 0]) ∧ Below w.heap.size w w' := by
  obtain ⟨w0, hw0⟩ : ∃ w0, (w.alloc (.cells (u8s k).toArray 24)).alloc (.cells noKey.toArray 24) = w0 := ⟨_, rfl⟩
  have HW0 : Hid ((w.alloc (.cells (u8s k).toArray 24)).alloc (.cells noKey.toArray 24) = w0) := hw0
  have hb0 : Below w.heap.size w w0 := by rw [← hw0]; exact ((Below.refl _ w).alloc (Nat.le_refl _) _).alloc (by simp) _
  have hk0 : Row w0 w.heap.size 24 (u8s k) := by rw [← hw0]; exact (Row.new' w 24 (u8s k)).alloc _
  have hz0 : Row w0 (w.heap.size + 1) 24 noKey := by rw [← hw0]; exact Row.newAt (w.alloc (.cells (u8s k).toArray 24)) 24 noKey.toArray (by simp)
  have hcv := Lib.run_convert_bytes_const (P := Tryd.prog) w0 25 5 #[.int .u8 119, .int .u8 114, .int .u8 97, .int .u8 112] 4 4 Tryd.underlying25 Tryd.underlying5
  obtain ⟨W1, hW1⟩ : ∃ W1, w0.alloc (.cells #[.int .u8 119, .int .u8 114, .int .u8 97, .int .u8 112] 5 (4, 4 + 1)) = W1 := ⟨_, rfl⟩
  have hb1 : Below w0.heap.size w0 W1 := by rw [← hW1]; exact (Below.refl _ w0).alloc (Nat.le_refl _) _
  have hI1 : IsBytes W1.heap.size W1 (some ⟨w0.heap.size, 0, none⟩) 4 4 wrapL := by rw [← hW1, World.size_alloc]; exact bytes_marked w0
  have hcv' : (convert 25 25 (.slice (some ⟨w0.heap.size, 0, none⟩) 4 4)).run Tryd.prog (w0.alloc (.cells #[.int .u8 119, .int .u8 114, .int .u8 97, .int .u8 112] 5)) = .ok (.slice (some ⟨w0.heap.size, 0, none⟩) 4 4) W1 := by rw [← hW1]; exact hcv
  have HK0 : Hid (Row w0 w.heap.size 24 (u8s k)) := hk0
  have HZ1 : Hid (Row W1 (w.heap.size + 1) 24 noKey) := hz0.later hb1
  have hB1 : Below w.heap.size w W1 := hb0.trans (hb1.mono hb0.size)
  have HC : Hid (Calls Tryd.prog 12 #[.pointer (some ⟨S, 0, none⟩), .agg (u8s k).toArray, .slice (some ⟨w0.heap.size, 0, none⟩) 4 4, .slice pc lc cc] W1 fun e w' => ∃ g c, e = .returned (.tuple #[.slice (some ⟨g, 0, none⟩) 32 c, .int .i64 0]) ∧ w'.rangeAt g 0 (u8s key) ∧ Below W1.heap.size W1 w') := HO.out W1 _ hB1 hI1
  have HKl : Hid ((u8s k).length = 32) := by show _ = _; rw [u8s_length, hk.1]
  have HYl : Hid ((u8s key).length = 32) := by show _ = _; rw [u8s_length, hkey.1]
  have HY1 : Hid (∀ v ∈ u8s key, v.oneCell' = true) := u8s_one _
  clear hw0 hk0 hz0 hW1 hI1 hcv
  go_enter Tryd.func18, Tryd.ntmps18
  go_wp2_with (first
    | ((with_reducible show wpList _ _ _ (Oper.mk (some 12) _ _ _ _ _ :: _) _ _); change wpList _ _ _ _ _ ((w.alloc (.cells (u8s k).toArray 24)).alloc (.cells noKey.toArray 24)); rw [HW0.out]; refine wpList_load_Row rfl 24 (.tmp 4) rfl rfl HK0.out Tryd.underlying24 (by rw [HKl.out]; exact size24) ?_; simp only [Act.put, List.setIfInBounds_toArray, List.set_cons_zero, List.set_cons_succ])
    | (go_at_call 12; refine HC.out.mono ?_; rintro e W2 ⟨g2, c2, rfl, hr2, hb2⟩; have HR2 : Hid (W2.rangeAt g2 0 (u8s key)) := hr2; have HZ2 : Hid (Row W2 (w.heap.size + 1) 24 noKey) := Row.later HZ1.out hb2; have hB2 : Below w.heap.size w W2 := hB1.trans (hb2.mono hB1.size); have hAt := run_arrayAt24 g2 0 32 c2 (Nat.le_refl _); clear hr2 hb2)
    | ((with_reducible show wpList _ _ _ (Oper.mk (some 21) _ _ _ _ _ :: _) _ _); refine wpList_load_mid rfl 24 (.tmp 20) rfl g2 0 rfl (u8s key) _ HR2.out Tryd.underlying24 rfl (by rw [HYl.out]; exact size24) ?_; simp only [Act.put, List.setIfInBounds_toArray, List.set_cons_zero, List.set_cons_succ])
    | ((with_reducible show wpList _ _ _ (Oper.mk _ (Op.store 24 (.tmp 6) (.tmp 21)) _ _ _ _ :: _) _ _); refine wpList_store_Row rfl 24 (.tmp 6) (.tmp 21) rfl (u8s key) rfl rfl HZ2.out (by rw [HYl.out]; exact size24) (by rw [HYl.out]; rfl) HY1.out ?_; simp only [Act.put]))
  refine bodyPost_ret (results_Row_tmp rfl rfl (Row.sets_all (vs := u8s key) HZ2.out (by rw [HYl.out]; rfl)) Tryd.underlying24 (by rw [HYl.out]; exact size24)) rfl ?_
  exact ⟨rfl, below_setCells (by omega) _ _ hB2⟩

end Go.Proofs.YtobmcaknfbooiaaDoor
/-
  What the rows' condition gives: the program's tables lie where the program reads them.
-/
namespace Go.Proofs.YtobmcaknfbooiaaDoor.tabs
open Go.ChangeShapes Go.WideShapes Go.ChangeAt Go.RowKit

theorem gFixed : Tryd.prog.globalNamed "tabularium/chacha.fixedWords" = some 0 := by kernel_rfl
theorem tFixed : (Tryd.prog.globals[0]?).map (·.type) = some 150 := by kernel_rfl
theorem gQuar : Tryd.prog.globalNamed "tabularium/chacha.quarters" = some 1 := by kernel_rfl
theorem tQuar : (Tryd.prog.globals[1]?).map (·.type) = some 152 := by kernel_rfl
theorem gRound : Tryd.prog.globalNamed "tabularium/sha.roundWords" = some 2 := by kernel_rfl
theorem tRound : (Tryd.prog.globals[2]?).map (·.type) = some 146 := by kernel_rfl
theorem cells22 : Tryd.prog.cellsOf 22 = 1 := by kernel_rfl
theorem cells5 : Tryd.prog.cellsOf 5 = 1 := by kernel_rfl
theorem cells151 : Tryd.prog.cellsOf 151 = 4 := by kernel_rfl

theorem fixed_list : Rows.laid_tabularium_chacha_fixedWords (H := Unit) = .agg (Re.fixedL.map fun z => .lit (.int .u32 (z : Nat))) := rfl
theorem quar_list : Rows.laid_tabularium_chacha_quarters (H := Unit) = .agg ((List.range 8).map fun j => .agg ((Re.quarRow j).map fun z => .lit (.int .u8 (z : Nat)))) := rfl
theorem quar_at : ∀ j, j < 8 → ∀ i, i < 4 → (Re.quarRow j)[i]? = some (Re.quarL.getD (j * 4 + i) 0) := by decide

theorem fixed_of {W : World} {t0 : TypeId} {cs0 : Array Value} {f0 : Nat} {p0 : List MemPlace} (ht : t0 = 150) (hv : W.var? Tryd.prog "tabularium/chacha.fixedWords" = some cs0)
    (hd : DataW.trod (fun _ => ()) Tryd.prog W 0 (fun _ => true) false f0 t0 cs0.toList = some (Rows.laid_tabularium_chacha_fixedWords, p0)) :
    ∀ i, i < 4 → W.cell? ⟨0, i, none⟩ = some (.int .u32 (Re.fixedL.getD i 0 : Nat)) := by
  subst ht
  obtain ⟨xs, m1, rfl, hx1, hlen, hn, hel⟩ := DataW.trod_array Tryd.underlying150 hd
  rw [fixed_list] at hx1
  simp only [Prod.mk.injEq, DataW.agg.injEq] at hx1
  intro i hi
  have h0 := hel i hi
  rw [cells22, Nat.mul_one, List.getElem?_eq_getElem (by omega : i < xs.length)] at h0
  obtain ⟨k, e1, e2, _⟩ := DataW.trod_int Tryd.underlying22 h0
  have hk := congrArg (fun l => l[i]?) hx1.1
  have hik : i < Re.fixedL.length := hi
  simp only [List.getElem?_map, List.getElem?_eq_getElem (by omega : i < xs.length), Option.map_some, e2, List.getElem?_eq_getElem hik, Option.some.injEq, DataW.lit.injEq, Lit.int.injEq, true_and] at hk
  have hc := World.var?_cell gFixed hv i
  have hci := congrArg (fun l => l[0]?) e1
  simp only [List.getElem?_take, List.getElem?_drop, Nat.add_zero] at hci
  rw [hc]
  have : cs0[i]? = some (.int .u32 k) := by simpa using hci
  rw [this, ← hk]
  simp [List.getElem?_eq_getElem hik]

theorem quar_of {W : World} {t0 : TypeId} {cs0 : Array Value} {f0 : Nat} {p0 : List MemPlace} (ht : t0 = 152) (hv : W.var? Tryd.prog "tabularium/chacha.quarters" = some cs0)
    (hd : DataW.trod (fun _ => ()) Tryd.prog W 0 (fun _ => true) false f0 t0 cs0.toList = some (Rows.laid_tabularium_chacha_quarters, p0)) :
    ∀ i, i < 32 → W.cell? ⟨1, i, none⟩ = some (.int .u8 (Re.quarL.getD i 0 : Nat)) := by
  subst ht
  obtain ⟨xs, m1, rfl, hx1, hlen, hn, hel⟩ := DataW.trod_array Tryd.underlying152 hd
  rw [quar_list] at hx1
  simp only [Prod.mk.injEq, DataW.agg.injEq] at hx1
  intro i hi
  have hj : i / 4 < 8 := by omega
  have h0 := hel (i / 4) hj
  rw [cells151, List.getElem?_eq_getElem (by omega : i / 4 < xs.length)] at h0
  obtain ⟨ys, m2, hy1, hy2, hlen2, hn2, hel2⟩ := DataW.trod_array Tryd.underlying151 h0
  have h1 := hel2 (i % 4) (by omega)
  rw [cells5, Nat.mul_one, List.getElem?_eq_getElem (by omega : i % 4 < ys.length)] at h1
  obtain ⟨k, e1, e2, _⟩ := DataW.trod_int Tryd.underlying5 h1
  have hk := congrArg (fun l => l[i / 4]?) hx1.1
  simp only [List.getElem?_map, List.getElem?_eq_getElem (by omega : i / 4 < xs.length), Option.map_some, hy2, List.getElem?_range hj, Option.some.injEq, DataW.agg.injEq] at hk
  have hk2 := congrArg (fun l => l[i % 4]?) hk
  simp only [List.getElem?_map, List.getElem?_eq_getElem (by omega : i % 4 < ys.length), Option.map_some, e2, quar_at (i / 4) hj (i % 4) (by omega), Option.some.injEq, DataW.lit.injEq, Lit.int.injEq, true_and] at hk2
  rw [show i / 4 * 4 + i % 4 = i by omega] at hk2
  have hc := World.var?_cell gQuar hv i
  have hci := congrArg (fun l => l[0]?) e1
  simp only [List.getElem?_take, List.getElem?_drop, Nat.add_zero, show i / 4 * 4 + i % 4 = i by omega] at hci
  rw [hc]
  have : cs0[i]? = some (.int .u8 k) := by
    have hm : i % 4 < 4 := by omega
    simpa [hm] using hci
  rw [this, ← hk2]

theorem datum_list : Rows.laid_tabularium_sha_roundWords (H := Unit) = .agg (Sh.kW.map fun z => .lit (.int .u32 (z : Nat))) := rfl
theorem round_of {W : World} {t0 : TypeId} {cs0 : Array Value} {f0 : Nat} {p0 : List MemPlace} (ht : t0 = 146) (hv0 : W.var? Tryd.prog "tabularium/sha.roundWords" = some cs0)
    (hd0 : DataW.trod (fun _ => ()) Tryd.prog W 0 (fun _ => true) false f0 t0 cs0.toList = some (Rows.laid_tabularium_sha_roundWords, p0)) : Sh.Tab W := by
  subst ht
  obtain ⟨xs, m1, rfl, hx1, hlen, hn, hel⟩ := DataW.trod_array Tryd.underlying146 hd0
  rw [datum_list] at hx1
  simp only [Prod.mk.injEq, DataW.agg.injEq] at hx1
  intro i hi
  have h0 := hel i hi
  rw [cells22, Nat.mul_one, List.getElem?_eq_getElem (by omega : i < xs.length)] at h0
  obtain ⟨k, e1, e2, _⟩ := DataW.trod_int Tryd.underlying22 h0
  have hk := congrArg (fun l => l[i]?) hx1.1
  simp only [List.getElem?_map, List.getElem?_eq_getElem (by omega : i < xs.length), Option.map_some, e2] at hk
  have hik : i < Sh.kW.length := hi
  rw [List.getElem?_eq_getElem hik] at hk
  simp only [Option.map_some, Option.some.injEq, DataW.lit.injEq, Lit.int.injEq, true_and] at hk
  have hc := World.var?_cell gRound hv0 i
  have hci := congrArg (fun l => l[0]?) e1
  simp only [List.getElem?_take, List.getElem?_drop, Nat.add_zero] at hci
  rw [hc]
  have : cs0[i]? = some (.int .u32 k) := by simpa using hci
  rw [this, ← hk]
  simp [List.getElem?_eq_getElem hik]

theorem all {W : World} (h : laidMetH Tryd.prog laidAll W) : Sh.Tab W ∧ Re.Tab W := by
  rw [MakeChecks.laidMetH_plain _ _ _ (by kernel_rfl)] at h
  obtain ⟨ps, ⟨g0, t0, cs0, f0, p0, q0, hg0, ht0, hv0, hd0, hrest⟩, _, _⟩ := h
  obtain ⟨g1, t1, cs1, f1, p1, q1, hg1, ht1, hv1, hd1, hrest1⟩ := hrest.1
  obtain ⟨g2, t2, cs2, f2, p2, q2, hg2, ht2, hv2, hd2, _⟩ := hrest1.1
  obtain rfl := Option.some.inj (gFixed.symm.trans hg0)
  obtain rfl := Option.some.inj (gQuar.symm.trans hg1)
  obtain rfl := Option.some.inj (gRound.symm.trans hg2)
  exact ⟨round_of (Option.some.inj (ht2.symm.trans tRound)) hv2 hd2, fixed_of (Option.some.inj (ht0.symm.trans tFixed)) hv0 hd0, quar_of (Option.some.inj (ht1.symm.trans tQuar)) hv1 hd1⟩
end Go.Proofs.YtobmcaknfbooiaaDoor.tabs
namespace Go.Proofs.YtobmcaknfbooiaaDoor
open Go.ChangeShapes Go.WideShapes Go.ChangeAt Go.RowKit
theorem tabs_of_laid {W : World} (h : laidMetH Tryd.prog laidAll W) : Sh.Tab W ∧ Re.Tab W := tabs.all h
end Go.Proofs.YtobmcaknfbooiaaDoor
/-
  What SuiteWraps answers: true, whatever the mode, the word that the draws come from, the keys and the text. Nothing that lay before the call has turned.
-/
namespace Go.Proofs.YtobmcaknfbooiaaDoor
open Go.RowKit Go.Shelf

theorem i64_and1 (n : Int) : bits .and .i64 n 1 = n % 2 := by
  have h31 : (BitVec.ofInt 64 1).toNat = 2 ^ 1 - 1 := by decide
  have key : (BitVec.ofInt 64 n &&& BitVec.ofInt 64 1).toNat = (n % ((2 ^ 64 : Nat) : Int)).toNat % 2 ^ 1 := by
    rw [BitVec.toNat_and, BitVec.toNat_ofInt, h31, Nat.and_two_pow_sub_one_eq_mod]
  show IntKind.i64.wrap ((BitVec.ofInt 64 n &&& BitVec.ofInt 64 1).toNat : Nat) = n % 2
  rw [key, IntKind.wrap_i64]
  omega

/-- A whole array's load by an operation whose guard stands. -/
theorem wpList_load_want {P : Program} {ops : Array Oper} {rest : List Oper} {o : Oper} {a : Act} {w : World} {Q : Exit → Act → World → Prop} (hw : Region.wanted o (yielded ops a.tmps) = true) (ty : TypeId) (x : Operand) (ho : o.op = .load ty x)
    {g : Nat} (hx : a.eval x = .pointer (some ⟨g, 0, none⟩)) {t : TypeId} {cs : List Value} (hg : Row w g t cs) {n : Nat} {e : TypeId} (hu : P.underlying ty = some (.array n e)) (hi : (P.info? ty).map (·.size) = some cs.length)
    (h : wpList P ops Q rest (a.put o.dst (.agg cs.toArray)) w) : wpList P ops Q (o :: rest) a w := by
  unfold wpList
  rw [if_pos hw]
  exact .inl (wp_load_row ty x ho g hx t cs.toArray (0, 0) _ hg hu rfl (by simpa using hi) h)

theorem bytesOf_strOf {zs : List Nat} (h : ∀ z ∈ zs, z < 256) : bytesOf (strOf zs) = zs := strOf_inj (fun z hz => by
  obtain ⟨a, _, rfl⟩ := List.mem_map.1 hz
  exact a.toNat_lt) h (strOf_bytesOf _)

/-- What the law needs of a suite. -/
structure Wraps (w : World) (k k2 : List Nat) (m : Int) (J : Nat → World → Prop) (J2 : Nat → Value → World → Prop) : Prop where
  new : ∀ W t Q zs, Below w.heap.size w W → w.heap.size + 1 < Q → Q < t → zs.length = 1600 → TapeAt W t Q zs ∧ Row W Q 5 (u8s zs) → Calls Tryd.prog 8 #[.int .i64 m, .pointer (some ⟨t, 0, none⟩)] W fun e w' => ∃ S, e = .returned (.pointer (some ⟨S, 0, none⟩)) ∧ J S w' ∧ Below W.heap.size W w'
  wrap : ∀ S W, J S W → Below w.heap.size w W → w.heap.size + 1 < W.heap.size → Calls Tryd.prog 17 #[.pointer (some ⟨S, 0, none⟩), .agg (u8s k).toArray, .agg (u8s k2).toArray] W fun e w' => ∃ v, e = .returned (.tuple #[v, .int .i64 0]) ∧ J2 S v w' ∧ Below (w.heap.size + 2) W w'
  unwrap : ∀ S v W, J2 S v W → Below w.heap.size w W → Calls Tryd.prog 18 #[.pointer (some ⟨S, 0, none⟩), .agg (u8s k).toArray, v] W fun e w' => e = .returned (.tuple #[.agg (u8s k2).toArray, .int .i64 0]) ∧ Below W.heap.size W w'

set_option maxRecDepth 100000 in
set_option maxHeartbeats 2000000 in
theorem suiteWraps_core (z m : Int) (x : Nat) (k k2 : List Nat) (a4 : Option Addr) (len4 cap4 : Nat) (z4 : List Nat) (w : World) (hm : bits .and .i64 z 1 = m)
    (hk : IsKey32 k) (hk2 : IsKey32 k2) (hI4 : IsBytes w.heap.size w a4 len4 cap4 z4) (h4 : len4 ≤ 300) (J : Nat → World → Prop) (J2 : Nat → Value → World → Prop) (hJ : Wraps w k k2 m J J2) :
    Calls Tryd.prog 5 #[.int .i64 z, .int .u32 (x : Nat), .agg (u8s k).toArray, .agg (u8s k2).toArray, .slice a4 len4 cap4] w fun e w' => e = .returned (.bool true) ∧ Below w.heap.size w w' := by
  have i4 : ¬ (300 : Int) < (len4 : Int) := by omega
  obtain ⟨wb, hwb⟩ : ∃ wb, (w.alloc (.cells (u8s k).toArray 24)).alloc (.cells (u8s k2).toArray 24) = wb := ⟨_, rfl⟩
  have HWB : Hid ((w.alloc (.cells (u8s k).toArray 24)).alloc (.cells (u8s k2).toArray 24) = wb) := hwb
  have hbb : Below w.heap.size w wb := by rw [← hwb]; exact ((Below.refl _ w).alloc (Nat.le_refl _) _).alloc (by simp) _
  have hRB : Row wb w.heap.size 24 (u8s k) ∧ Row wb (w.heap.size + 1) 24 (u8s k2) := by rw [← hwb]; exact ⟨(Row.new' w 24 (u8s k)).alloc _, Row.newAt (w.alloc (.cells (u8s k).toArray 24)) 24 (u8s k2).toArray (by simp)⟩
  have HRB : Hid (Row wb w.heap.size 24 (u8s k) ∧ Row wb (w.heap.size + 1) 24 (u8s k2)) := hRB
  -- the boxes in a later world
  obtain ⟨G, hG⟩ : ∃ G : World → Prop, G = fun W => Row W w.heap.size 24 (u8s k) ∧ Row W (w.heap.size + 1) 24 (u8s k2) ∧ Below w.heap.size w W := ⟨_, rfl⟩
  have G1 : Hid (∀ W, G W → Row W w.heap.size 24 (u8s k)) := fun W h => by rw [hG] at h; exact h.1
  have G2 : Hid (∀ W, G W → Row W (w.heap.size + 1) 24 (u8s k2)) := fun W h => by rw [hG] at h; exact h.2.1
  have G3 : Hid (∀ W, G W → Below w.heap.size w W) := fun W h => by rw [hG] at h; exact h.2.2
  have GL : Hid (∀ W W', G W → Below W.heap.size W W' → G W') := fun W W' h hb => by rw [hG] at h ⊢; exact ⟨h.1.later hb, h.2.1.later hb, h.2.2.trans (hb.mono h.2.2.size)⟩
  have GM : Hid (∀ W W', G W → Below (w.heap.size + 2) W W' → G W') := fun W W' h hb => by rw [hG] at h ⊢; exact ⟨h.1.below hb (by omega), h.2.1.below hb (by omega), h.2.2.trans (hb.mono (by omega))⟩
  have GS : Hid (∀ W (t : TypeId) (V : List Value), G W → G ((W.alloc (.cells noKey.toArray t)).setCells W.heap.size 0 V)) := fun W t V h => GL.out W _ h (below_setCells (Nat.le_refl _) _ _ ((Below.refl _ W).alloc (Nat.le_refl _) _))
  have g0 : G wb := by rw [hG]; exact ⟨hRB.1, hRB.2, hbb⟩
  clear hwb hRB hG
  have c4 := hI4.2.1
  have c4' := hI4.2.2.1
  have HKl : Hid ((u8s k).length = 32) := by show _ = _; rw [u8s_length, hk.1]
  have HKl2 : Hid ((u8s k2).length = 32) := by show _ = _; rw [u8s_length, hk2.1]
  have HK21 : Hid (∀ v ∈ u8s k2, v.oneCell' = true) := u8s_one _
  have HT0 : Hid (∀ W, Calls Tryd.prog 10 #[.int .u32 (x : Nat), .int .i64 400] W fun e w' => ∃ q c zs, e = .returned (.slice q 1600 c) ∧ zs.length = 1600 ∧ IsBytes w'.heap.size w' q 1600 c zs ∧ Below W.heap.size W w') := fun W => lawTape_any x 400 (by omega) W
  have HJ : Hid (Wraps w k k2 m J J2) := hJ
  clear hI4 hJ
  go_enter Tryd.func5, Tryd.ntmps5
  go_wp2_with (first
    | (go_at_call 7; rw [HWB.out]; refine (awake_any _).mono ?_; rintro e w1 ⟨rfl, hb1⟩; have g1 : G w1 := GL.out _ _ g0 hb1; clear hb1 g0)
    | ((with_reducible show wpList _ _ _ (Oper.mk (some 32) _ _ _ _ _ :: _) _ _); refine wpList_load_Row rfl 24 (.tmp 8) rfl rfl (G2.out _ g1) Tryd.underlying24 (by rw [HKl2.out]; exact size24) ?_; simp only [Act.put, List.setIfInBounds_toArray, List.set_cons_zero, List.set_cons_succ])
    | (go_at_call 13; refine (prf_none _ _ _ _ _ _).mono ?_; rintro e w2 ⟨rfl, hb2⟩; have g2 : G w2 := GL.out _ _ g1 hb2; clear hb2 g1)
    | ((with_reducible show wpList _ _ _ (Oper.mk _ (Op.store 24 (.tmp 12) (.tmp 35)) _ _ _ _ :: _) _ _); change wpList _ _ _ _ _ (w2.alloc (.cells noKey.toArray 24)); refine wpList_store_Row rfl 24 (.tmp 12) (.tmp 35) rfl noKey rfl rfl (Row.new' _ _ _) size24 rfl (by decide) ?_; simp only [Act.put]; obtain ⟨w3, hw3⟩ : ∃ w3, (w2.alloc (.cells noKey.toArray 24)).setCells w2.heap.size 0 noKey = w3 := ⟨_, rfl⟩; have g3 : G w3 := (by rw [← hw3]; exact GS.out _ _ _ g2); rw [hw3]; clear hw3 g2)
    | (go_at_call 14; refine (digest_none _ _ _ _).mono ?_; rintro e w4 ⟨rfl, hb4⟩; have g4 : G w4 := GL.out _ _ g3 hb4; clear hb4 g3)
    | ((with_reducible show wpList _ _ _ (Oper.mk _ (Op.store 40 (.tmp 14) (.tmp 41)) _ _ _ _ :: _) _ _); change wpList _ _ _ _ _ (w4.alloc (.cells noKey.toArray 40)); refine wpList_store_Row rfl 40 (.tmp 14) (.tmp 41) rfl noKey rfl rfl (Row.new' _ _ _) sizeId rfl (by decide) ?_; simp only [Act.put]; obtain ⟨w5, hw5⟩ : ∃ w5, (w4.alloc (.cells noKey.toArray 40)).setCells w4.heap.size 0 noKey = w5 := ⟨_, rfl⟩; have g5 : G w5 := (by rw [← hw5]; exact GS.out _ _ _ g4); rw [hw5]; clear hw5 g4)
    | ((with_reducible show wpList _ _ _ (Oper.mk (some 45) _ _ _ _ _ :: _) _ _); refine wpList_load_Row rfl 24 (.tmp 8) rfl rfl (G2.out _ g5) Tryd.underlying24 (by rw [HKl2.out]; exact size24) ?_; simp only [Act.put, List.setIfInBounds_toArray, List.set_cons_zero, List.set_cons_succ])
    | (go_at_call 11; refine (seal_none _ _ _ _ _ _ _ _).mono ?_; rintro e w6 ⟨rfl, hb6⟩; have g6 : G w6 := GL.out _ _ g5 hb6; clear hb6 g5)
    | ((with_reducible show wpList _ _ _ (Oper.mk (some 53) _ _ _ _ _ :: _) _ _); refine wpList_load_Row rfl 24 (.tmp 8) rfl rfl (G2.out _ g6) Tryd.underlying24 (by rw [HKl2.out]; exact size24) ?_; simp only [Act.put, List.setIfInBounds_toArray, List.set_cons_zero, List.set_cons_succ])
    | (go_at_call 12; refine (open_none _ _ _ _ _ _ _ _).mono ?_; rintro e w7 ⟨rfl, hb7⟩; have g7 : G w7 := GL.out _ _ g6 hb7; clear hb7 g6)
    | (go_at_call 15; refine (draw_none _).mono ?_; rintro e w8 ⟨rfl, hb8⟩; have g8 : G w8 := GL.out _ _ g7 hb8; clear hb8 g7)
    | ((with_reducible show wpList _ _ _ (Oper.mk _ (Op.store 24 (.tmp 20) (.tmp 62)) _ _ _ _ :: _) _ _); change wpList _ _ _ _ _ (w8.alloc (.cells noKey.toArray 24)); refine wpList_store_Row rfl 24 (.tmp 20) (.tmp 62) rfl noKey rfl rfl (Row.new' _ _ _) size24 rfl (by decide) ?_; simp only [Act.put]; obtain ⟨w9, hw9⟩ : ∃ w9, (w8.alloc (.cells noKey.toArray 24)).setCells w8.heap.size 0 noKey = w9 := ⟨_, rfl⟩; have g9 : G w9 := (by rw [← hw9]; exact GS.out _ _ _ g8); rw [hw9]; clear hw9 g8)
    | (go_at_call 16; refine (size_none _ _).mono ?_; rintro e w10 ⟨rfl, hw10⟩; obtain rfl : w9 = w10 := hw10.symm; clear hw10)
    | (go_at_call 10; refine (HT0.out _).mono ?_; rintro e w11 ⟨qt, ct0, zs, rfl, hzl, hIt, hb11⟩; have HIt : Hid (IsBytes w11.heap.size w11 qt 1600 ct0 zs) := hIt; have g11 : G w11 := GL.out _ _ g9 hb11; clear hIt hb11 g9)
    | (go_at_call 9; refine (new_any qt 1600 ct0 zs (by omega) w11 HIt.out).mono ?_; rintro e w12 ⟨t, rfl, ht, hT12, hb12⟩; have HT12 : Hid (TapeAt w12 t w11.heap.size zs ∧ Row w12 w11.heap.size 5 (u8s zs)) := hT12; have g12 : G w12 := GL.out _ _ g11 hb12; have hq11 : w.heap.size + 1 < w11.heap.size := Row.lt (G2.out _ g11); clear hT12 hb12 g11 HIt)
    | (go_at_call 8; refine (HJ.out.new w12 t w11.heap.size zs (G3.out _ g12) hq11 ht hzl HT12.out).mono ?_; rintro e w13 ⟨S, rfl, hj13, hb13⟩; have g13 : G w13 := GL.out _ _ g12 hb13; have HJ13 : Hid (J S w13) := hj13; clear hb13 g12 hj13 HT12 hq11)
    | ((with_reducible show wpList _ _ _ (Oper.mk (some 95) _ _ _ _ _ :: _) _ _); refine wpList_load_Row rfl 24 (.tmp 7) rfl rfl (G1.out _ g13) Tryd.underlying24 (by rw [HKl.out]; exact size24) ?_; simp only [Act.put, List.setIfInBounds_toArray, List.set_cons_zero, List.set_cons_succ])
    | ((with_reducible show wpList _ _ _ (Oper.mk (some 96) _ _ _ _ _ :: _) _ _); refine wpList_load_Row rfl 24 (.tmp 8) rfl rfl (G2.out _ g13) Tryd.underlying24 (by rw [HKl2.out]; exact size24) ?_; simp only [Act.put, List.setIfInBounds_toArray, List.set_cons_zero, List.set_cons_succ])
    | (go_at_call 17; refine (HJ.out.wrap S w13 HJ13.out (G3.out _ g13) (Row.lt (G2.out _ g13))).mono ?_; rintro e w14 ⟨v14, rfl, hj14, hb14⟩; have g14 : G w14 := GM.out _ _ g13 hb14; have HJ14 : Hid (J2 S v14 w14) := hj14; clear hb14 g13 hj14 HJ13)
    | ((with_reducible show wpList _ _ _ (Oper.mk (some 102) _ _ _ _ _ :: _) _ _); refine wpList_load_Row rfl 24 (.tmp 7) rfl rfl (G1.out _ g14) Tryd.underlying24 (by rw [HKl.out]; exact size24) ?_; simp only [Act.put, List.setIfInBounds_toArray, List.set_cons_zero, List.set_cons_succ])
    | (go_at_call 18; refine (HJ.out.unwrap S _ w14 HJ14.out (G3.out _ g14)).mono ?_; rintro e w15 ⟨rfl, hb15⟩; have g15 : G w15 := GL.out _ _ g14 hb15; clear hb15 g14 HJ14)
    | ((with_reducible show wpList _ _ _ (Oper.mk _ (Op.store 24 (.tmp 24) (.tmp 105)) _ _ _ _ :: _) _ _); change wpList _ _ _ _ _ (w15.alloc (.cells noKey.toArray 24)); refine wpList_store_Row rfl 24 (.tmp 24) (.tmp 105) rfl (u8s k2) rfl rfl (Row.new' _ _ _) (by rw [HKl2.out]; exact size24) (by rw [HKl2.out]; rfl) HK21.out ?_; simp only [Act.put]; obtain ⟨w16, hw16⟩ : ∃ w16, (w15.alloc (.cells noKey.toArray 24)).setCells w15.heap.size 0 (u8s k2) = w16 := ⟨_, rfl⟩; have g16 : G w16 := (by rw [← hw16]; exact GS.out _ _ _ g15); have HR16 : Hid (Row w16 w15.heap.size 24 (u8s k2)) := (by rw [← hw16]; exact Row.sets_all (Row.new' _ _ _) (by rw [HKl2.out]; rfl)); have heq : (Op.equalIn 10000 24 (.agg (u8s k2).toArray) (.agg (u8s k2).toArray)).run Tryd.prog w16 = .ok true w16 := (by have h := equal24 hk2 hk2 w16; rw [decide_eq_true rfl] at h; exact h); rw [hw16]; generalize w15.heap.size = b24 at HR16 ⊢; clear hw16 g15)
    | ((with_reducible show wpList _ _ _ (Oper.mk (some 114) _ _ _ _ _ :: _) _ _); refine wpList_load_want (by rfl) 24 (.tmp 24) rfl rfl HR16.out Tryd.underlying24 (by rw [HKl2.out]; exact size24) ?_; simp only [Act.put, List.setIfInBounds_toArray, List.set_cons_zero, List.set_cons_succ])
    | ((with_reducible show wpList _ _ _ (Oper.mk (some 115) _ _ _ _ _ :: _) _ _); refine wpList_load_want (by rfl) 24 (.tmp 8) rfl rfl (G2.out _ g16) Tryd.underlying24 (by rw [HKl2.out]; exact size24) ?_; simp only [Act.put, List.setIfInBounds_toArray, List.set_cons_zero, List.set_cons_succ]))
  go_ret
  exact ⟨rfl, G3.out _ g16⟩

end Go.Proofs.YtobmcaknfbooiaaDoor
/-
  SuiteWraps: a real suite, an ideal one.
-/
namespace Go.Proofs.YtobmcaknfbooiaaDoor
open Classical
open Go.RowKit Go.Shelf

theorem own_some {W : World} {n₀ : Nat} {v : Value} {zs : List Nat} {n : Nat} (h : Own n₀ W v zs) (hl : zs.length = n) (hn : 0 < n) : ∃ g c, v = .slice (some ⟨g, 0, none⟩) n c ∧ W.rangeAt g 0 (u8s zs) := by
  obtain ⟨q, c, rfl⟩ := own_len h hl
  obtain ⟨g, rfl, _, _, _⟩ := own_set h hn
  refine ⟨g, c, rfl, fun j v hv => ?_⟩
  have hj : j < zs.length := by
    rcases Nat.lt_or_ge j zs.length with h | h
    · exact h
    · rw [List.getElem?_eq_none (by simpa using h)] at hv; cases hv
  rw [u8s_at hj] at hv
  cases hv
  obtain ⟨g', e, _, hc, _⟩ := own_set h (show j < n by omega)
  cases e
  rw [Nat.zero_add]
  exact hc

theorem bucket32 : bucketN ((32 : Nat) : Int) = 64 := by decide

theorem sealN_length (k a p : List Nat) (hp : p.length ≤ 60000) : (sealN k a p).length = 44 + bucketN (p.length : Int) := by
  unfold sealN turnedN
  rw [List.length_append, List.length_append, nonceN_length, Re.streamN_length, tagN_length, Re.padL_length (by omega)]
  omega

set_option maxHeartbeats 1000000 in
theorem wraps_real (w : World) (k k2 : List Nat) (hk : IsKey32 k) (hk2 : IsKey32 k2) (hT : Sh.Tab w) (hTr : Re.Tab w) :
    Wraps w k k2 0 (fun S W => ∃ t g, SuiteAt W S 0 t none g) (fun S v W => (∃ t g, SuiteAt W S 0 t none g) ∧ ∃ b lc cap, v = .slice (some ⟨b, 0, none⟩) lc cap ∧ IsBytes W.heap.size W (some ⟨b, 0, none⟩) lc cap (sealN k wrapL k2)) where
  new := fun W t Q zs _ _ _ _ _ => (newReal_any (some ⟨t, 0, none⟩) W).mono fun e w' ⟨S, g, h1, _, h3, h4⟩ => ⟨S, h1, ⟨_, g, h3⟩, h4⟩
  wrap := fun S W ⟨t, g, hS⟩ hB hlt => by
    refine (wrap_of S k hk k2 hk2 (fun v w' => ((∃ t g, SuiteAt w' S 0 t none g) ∧ ∃ b lc cap, v = .slice (some ⟨b, 0, none⟩) lc cap ∧ IsBytes w'.heap.size w' (some ⟨b, 0, none⟩) lc cap (sealN k wrapL k2)) ∧ Below (w.heap.size + 2) W w') W (fun W2 b hb hr hI1 hI2 => ?_)).mono fun e w' ⟨v, h1, h2, h3⟩ => ⟨v, h1, h2, h3⟩
    have hB2 : Below w.heap.size w W2 := hB.trans (hb.mono hB.size)
    refine (seal_real S t none g k hk (some ⟨b, 0, none⟩) 4 4 wrapL (by omega) (some ⟨W.heap.size + 1, 0, none⟩) 32 32 k2 (by omega) (by rw [bucket32]; omega) W2 (hT.later hB2) (hTr.later hB2) (hS.later hb) hI1 hI2).mono ?_
    rintro e w' ⟨v, he, hO, hb'⟩
    have hz : ∀ z ∈ sealN k wrapL k2, z < 256 := fun z hz => by
      unfold sealN at hz
      rcases List.mem_append.1 hz with hz | hz
      · rcases List.mem_append.1 hz with hz | hz
        · exact nonceN_lt _ _ _ z hz
        · exact Re.streamN_lt _ _ _ (Re.padL_lt hk2.2) z hz
      · exact tagN_lt _ _ _ _ z hz
    obtain ⟨g', c', rfl, _⟩ := own_some hO rfl (by rw [sealN_length _ _ _ (by rw [hk2.1]; omega)]; omega)
    have hbb : Below W.heap.size W w' := hb.trans (hb'.mono hb.size)
    exact ⟨_, he, ⟨⟨⟨t, g, hS.later hbb⟩, g', _, c', rfl, hO.bytes hz⟩, hbb.mono (by omega)⟩, hr.later hb'⟩
  unwrap := fun S v W ⟨⟨t, g, hS⟩, b, lc, cap, hv, hI⟩ hB => by
    subst hv
    refine unwrap_of S k hk k2 hk2 (some ⟨b, 0, none⟩) lc cap W (fun W2 b2 hb hI1 => ?_)
    have hB2 : Below w.heap.size w W2 := hB.trans (hb.mono hB.size)
    refine (open_real S t none g k hk (some ⟨b2, 0, none⟩) 4 4 wrapL (by omega) k2 (by rw [hk2.1]; omega) hk2.2 (by rw [hk2.1, bucket32]; omega) b 0 lc cap W2 (hT.later hB2) (hTr.later hB2) (hS.later hb) hI1 (hI.later hb)).mono ?_
    rintro e w' ⟨v, he, hO, hb'⟩
    obtain ⟨g', c', rfl, hr⟩ := own_some hO hk2.1 (by omega)
    exact ⟨g', c', he, hr, hb'⟩

set_option maxHeartbeats 1000000 in
theorem wraps_ideal (w : World) (k k2 : List Nat) (hk : IsKey32 k) (hk2 : IsKey32 k2) :
    Wraps w k k2 1 (fun S W => ∃ D t Q m3 m4 F f g zs, IdealAt W F S D t Q m3 m4 zs f g (fun _ => none) (fun _ => []) 0 ∧ zs.length = 1600 ∧ (∀ b ∈ F, w.heap.size + 1 < b))
      (fun S v W => ∃ D t Q m3 m4 F f g zs T L ct q n c, IdealAt W F S D t Q m3 m4 zs f g T L 1 ∧ L (strOf ct) = [askedL k (strOf wrapL) (strOf k2)] ∧ v = .slice q n c ∧ IsBytes W.heap.size W q n c ct ∧ n ≤ 60000) where
  new := fun W t Q zs hB hQ ht hl hTp => (newIdeal_any (some ⟨t, 0, none⟩) W).mono fun e w' ⟨h1, h2, h3, h4⟩ => by
    have htl := hTp.1.lt
    refine ⟨W.heap.size + 7, h1, ⟨_, t, Q, _, _, _, _, _, zs, FreshAt.ideal h2 rfl (by omega) (hTp.1.later h3) (hTp.2.later h3) (by omega), hl, fun b hb => ?_⟩, h3⟩
    simp only [List.mem_cons, List.not_mem_nil, or_false] at hb
    omega
  wrap := fun S W ⟨D, t, Q, m3, m4, F, f, g, zs, hI, hl, hF⟩ hB hlt => by
    refine (wrap_of S k hk k2 hk2 (fun v w' => (∃ D t Q m3 m4 F f g zs T L ct q n c, IdealAt w' F S D t Q m3 m4 zs f g T L 1 ∧ L (strOf ct) = [askedL k (strOf wrapL) (strOf k2)] ∧ v = .slice q n c ∧ IsBytes w'.heap.size w' q n c ct ∧ n ≤ 60000) ∧ Below (w.heap.size + 2) W w') W (fun W2 b hb hr hI1 hI2 => ?_)).mono fun e w' ⟨v, h1, h2, h3⟩ => ⟨v, h1, h2, h3⟩
    obtain ⟨n, hn⟩ : ∃ n, sizeN ((32 : Nat) : Int) = n := ⟨_, rfl⟩
    have hnl : n ≤ 1600 := by rw [← hn]; exact sizeN_small (by omega)
    have hn0 : 0 < n := by rw [← hn]; exact sizeN_pos (by omega)
    have hI' := hI.later hb
    refine (seal_ideal S D t Q m3 m4 0 n F zs f g (fun _ => none) (fun _ => []) k hk (some ⟨b, 0, none⟩) 4 4 wrapL (some ⟨W.heap.size + 1, 0, none⟩) 32 32 k2 (by omega) (by omega) hn hn0 (by omega) W2 hI1 hI2 hI').mono ?_
    obtain ⟨c, hc⟩ : ∃ c, askedL k (strOf wrapL) (strOf k2) = c := ⟨_, rfl⟩
    rw [hc]
    rintro e w' ⟨v, he, o1, F', f', g', L', u1, u2, u3, u4, u5⟩
    have e1 : sealE (fun _ => none) zs c n = 0 := by simp [sealE, hl, hnl]
    have e2 : sealC (fun _ => none) zs c n = zs.take n := by simp [sealC, hl, hnl]
    rw [e1] at he u5
    rw [e2] at o1 u5
    have htb := hI.tape.bytes
    obtain ⟨q, cp, rfl⟩ := own_len o1 (n := n) (by rw [List.length_take]; omega)
    rcases u5 with ⟨_, ys, hys, rfl⟩ | ⟨h, _⟩
    · obtain rfl := hys.first
      have hbB : Below (w.heap.size + 2) W2 w' := u4.below (by have := hb.size; omega) (fun x hx => by have := hF x hx; omega)
      exact ⟨_, he, ⟨⟨D, t, Q, m3, m4, F', f', g', _, _, _, zs.take n, q, n, cp, u3, by simp [putL], rfl, o1.bytes (fun z hz => htb z (List.mem_of_mem_take hz)), by omega⟩, (hb.mono (by omega)).trans hbB⟩, u4.row hr.lt (fun hm => by have := hI.lt _ hm; omega) hr⟩
    · exact absurd rfl h
  unwrap := fun S v W ⟨D, t, Q, m3, m4, F, f, g, zs, T, L, ct, q, n, c, hI, hL, hv, hIb, hn⟩ hB => by
    subst hv
    refine unwrap_of S k hk k2 hk2 q n c W (fun W2 b2 hb hI1 => ?_)
    refine (open_ideal S D t Q m3 m4 1 F zs f g T L k hk (some ⟨b2, 0, none⟩) 4 4 wrapL q n c ct (by omega) hn (by omega) W2 hI1 (hIb.later hb) (hI.later hb)).mono ?_
    rintro e w' ⟨v, er, he, hr, hb'⟩
    rw [hL] at hr
    rcases hr with ⟨_, _, h⟩ | ⟨rfl, p', g', cap', hm, rfl, hcs⟩
    · exact absurd rfl (h (askedL k (strOf wrapL) (strOf k2)) (by simp) (strOf k2))
    · simp only [List.mem_cons, List.not_mem_nil, or_false] at hm
      obtain ⟨_, _, rfl⟩ := askedL_inj rfl hm
      rw [strOf_size, hk2.1] at he hcs
      rw [bytesOf_strOf hk2.2] at hcs
      refine ⟨g', cap', he, fun j v hv => ?_, hb'⟩
      have hj : j < k2.length := by
        rcases Nat.lt_or_ge j k2.length with h | h
        · exact h
        · rw [List.getElem?_eq_none (by simpa using h)] at hv; cases hv
      rw [u8s_at hj] at hv
      cases hv
      rw [Nat.zero_add]
      exact hcs j (by rw [← hk2.1]; exact hj)

set_option maxHeartbeats 1000000 in
theorem suiteWraps_long (z : Int) (x : Nat) (k k2 : List Nat) (a4 : Option Addr) (len4 cap4 : Nat) (w : World) (h : 300 < len4) :
    Calls Tryd.prog 5 #[.int .i64 z, .int .u32 (x : Nat), .agg (u8s k).toArray, .agg (u8s k2).toArray, .slice a4 len4 cap4] w fun e w' => e = .returned (.bool true) ∧ Below w.heap.size w w' := by
  have hb : Below w.heap.size w ((w.alloc (.cells (u8s k).toArray 24)).alloc (.cells (u8s k2).toArray 24)) := ((Below.refl _ w).alloc (Nat.le_refl _) _).alloc (by simp) _
  have HA : Hid (Calls Tryd.prog 7 #[] ((w.alloc (.cells (u8s k).toArray 24)).alloc (.cells (u8s k2).toArray 24)) fun e w' => e = .returned (.bool true) ∧ Below w.heap.size w w') := (awake_any _).mono fun e w' ⟨h1, h2⟩ => ⟨h1, hb.trans (h2.mono hb.size)⟩
  have i0 : (300 : Int) < (len4 : Int) := by omega
  clear h
  go_enter Tryd.func5, Tryd.ntmps5
  go_wp2_with (go_at_call 7; refine HA.out.mono ?_; rintro e w1 ⟨rfl, hb1⟩)
  go_ret
  exact ⟨rfl, hb1⟩

theorem suiteWraps_walk (z : Int) (x : Nat) (k k2 : List Nat) (a4 : Option Addr) (len4 cap4 : Nat) (z4 : List Nat) (w : World) (hT : Sh.Tab w ∧ Re.Tab w) (_hz : -9223372036854775808 ≤ z ∧ z ≤ 9223372036854775807) (_hx : x < 4294967296)
    (hk : IsKey32 k) (hk2 : IsKey32 k2) (hI4 : IsBytes w.heap.size w a4 len4 cap4 z4) :
    Calls Tryd.prog 5 #[.int .i64 z, .int .u32 (x : Nat), .agg (u8s k).toArray, .agg (u8s k2).toArray, .slice a4 len4 cap4] w fun e w' => e = .returned (.bool true) ∧ Below w.heap.size w w' := by
  by_cases h : 300 < len4
  · exact suiteWraps_long z x k k2 a4 len4 cap4 w h
  · have hm := i64_and1 z
    rcases (show z % 2 = 0 ∨ z % 2 = 1 by omega) with h2 | h2
    · rw [h2] at hm
      exact suiteWraps_core z 0 x k k2 a4 len4 cap4 z4 w hm hk hk2 hI4 (by omega) _ _ (wraps_real w k k2 hk hk2 hT.1 hT.2)
    · rw [h2] at hm
      exact suiteWraps_core z 1 x k k2 a4 len4 cap4 z4 w hm hk hk2 hI4 (by omega) _ _ (wraps_ideal w k k2 hk hk2)

end Go.Proofs.YtobmcaknfbooiaaDoor
