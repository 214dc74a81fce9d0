/-
  The real suite's parts: the length of the words beside the text, the keys for one use.
-/
import Derived.Test.YtclelancbfoenaaGreatDoorReStream
import Derived.Test.YtclelancbfoenaaGreatDoorReC
import Derived.Test.YtclelancbfoenaaGreatDoorReB
import Derived.Test.YtclelancbfoenaaGreatDoorShC
import Derived.Test.YtclelancbfoenaaGreatDoorTapeAll
namespace Go.Proofs.YtclelancbfoenaaGreatDoor
open Go.RowKit Go.Shelf

/-- A length as eight bytes. -/
def lenB (n : Nat) : List Nat := (List.range 8).map (Re.bytesOf [n, n / 4294967296])
theorem lenB_length (n : Nat) : (lenB n).length = 8 := by simp [lenB]
theorem lenB_lt (n : Nat) : ∀ z ∈ lenB n, z < 256 := fun z hz => by
  obtain ⟨i, _, rfl⟩ := List.mem_map.1 hz
  exact Re.byteAt_lt _ _
theorem lenB_vals (n : Nat) : Re.byteVals (Re.bytesOf [n, n / 4294967296]) 8 = u8s (lenB n) := by
  simp [lenB, u8s, Re.byteVals, List.map_map]

set_option maxHeartbeats 1000000 in
theorem lengthB_any (p : Option Addr) (len cap : Nat) (hlen : len ≤ 60000) (hc : len ≤ cap) (hc2 : cap ≤ 9223372036854775807) (w : World) :
    Calls Tryz.prog 58 #[.slice p len cap] w fun e w' => ∃ v, e = .returned v ∧ Own w.heap.size w' v (lenB len) ∧ Below w.heap.size w w' := by
  go_enter Tryz.func58, Tryz.ntmps58
  go_wp2_with (go_at_call 56; refine (Re.bytes_some w.heap.size 0 2 2 [len, len / 4294967296] _ (by omega) (by simp) (fun i hi => ?_)).mono ?_; rotate_left; rintro e w1 ⟨v, rfl, ho, hb⟩)
  · go_ret
    have hb0 : Below w.heap.size w (w.alloc (.cells #[.int .u32 (len : Int), .int .u32 ((len : Int) / 4294967296)] 53)) := (Below.refl _ w).alloc (Nat.le_refl _) _
    rw [World.size_alloc] at ho hb
    rw [lenB_vals] at ho
    refine ⟨_, rfl, ?_, hb0.trans (hb.mono (by omega))⟩
    unfold Own
    rw [lenB_length]
    exact ownsRow_mono (by omega) ho
  · rw [Nat.zero_add]
    have h := Row.new w 53 #[.int .u32 (len : Int), .int .u32 ((len : Int) / 4294967296)]
    match i, hi with
    | 0, _ => exact h.cell (i := 0) rfl
    | 1, _ => exact h.cell (i := 1) rfl

theorem bytes_of_box {W : World} {b n : Nat} {t : TypeId} {k : List Nat} (h : Row W b t (u8s k)) (hl : k.length = n) (hn : n ≤ 9223372036854775807) (hz : ∀ z ∈ k, z < 256) : IsBytes W.heap.size W (some ⟨b, 0, none⟩) n n k :=
  ⟨hl, Nat.le_refl _, hn, hz, .inr ⟨b, 0, rfl, h.lt, fun i hi => by rw [Nat.zero_add]; exact h.cell (u8s_at (by omega))⟩⟩

theorem lists_one {W : World} {q : Option Addr} {l c : Nat} {t : List Nat} (h : IsBytes W.heap.size W q l c t) : IsLists (W.heap.size + 1) (W.alloc (.cells #[.slice q l c] 24)) (some ⟨W.heap.size, 0, none⟩) 1 1 [t] := by
  refine ⟨rfl, Nat.le_refl _, .inr ⟨W.heap.size, 0, rfl, by omega, fun i hi => ?_⟩⟩
  obtain rfl : i = 0 := by omega
  exact ⟨q, l, c, (Row.new W 24 #[.slice q l c]).cell (i := 0) rfl, (h.below ((Below.refl _ W).alloc (Nat.le_refl _) _)).mono (by omega)⟩
theorem lists_four {W : World} {q0 q1 q2 q3 : Option Addr} {l0 c0 l1 c1 l2 c2 l3 c3 : Nat} {t0 t1 t2 t3 : List Nat} (h0 : IsBytes W.heap.size W q0 l0 c0 t0) (h1 : IsBytes W.heap.size W q1 l1 c1 t1) (h2 : IsBytes W.heap.size W q2 l2 c2 t2) (h3 : IsBytes W.heap.size W q3 l3 c3 t3) :
    IsLists (W.heap.size + 1) (W.alloc (.cells #[.slice q0 l0 c0, .slice q1 l1 c1, .slice q2 l2 c2, .slice q3 l3 c3] 24)) (some ⟨W.heap.size, 0, none⟩) 4 4 [t0, t1, t2, t3] := by
  have hb : Below W.heap.size W (W.alloc (.cells #[.slice q0 l0 c0, .slice q1 l1 c1, .slice q2 l2 c2, .slice q3 l3 c3] 24)) := (Below.refl _ W).alloc (Nat.le_refl _) _
  have hr := Row.new W 24 #[.slice q0 l0 c0, .slice q1 l1 c1, .slice q2 l2 c2, .slice q3 l3 c3]
  refine ⟨rfl, Nat.le_refl _, .inr ⟨W.heap.size, 0, rfl, by omega, fun i hi => ?_⟩⟩
  rw [Nat.zero_add]
  match i, hi with
  | 0, _ => exact ⟨_, _, _, hr.cell (i := 0) rfl, (h0.below hb).mono (by omega)⟩
  | 1, _ => exact ⟨_, _, _, hr.cell (i := 1) rfl, (h1.below hb).mono (by omega)⟩
  | 2, _ => exact ⟨_, _, _, hr.cell (i := 2) rfl, (h2.below hb).mono (by omega)⟩
  | 3, _ => exact ⟨_, _, _, hr.cell (i := 3) rfl, (h3.below hb).mono (by omega)⟩

/-- The key that k gives for one use. -/
def useN (k : List Nat) (m : Nat) : List Nat := Sh.macN k [m]
theorem useN_key (k : List Nat) (m : Nat) : IsKey32 (useN k m) := ⟨Sh.macN_length _ _, Sh.macN_lt _ _⟩

set_option maxRecDepth 100000 in
set_option maxHeartbeats 1000000 in
theorem useKey_any (k : List Nat) (hk : IsKey32 k) (m : Nat) (hm : m < 256) (w : World) (hT : Sh.Tab w) :
    Calls Tryz.prog 34 #[.agg (u8s k).toArray, .int .u8 (m : Nat)] w fun e w' => e = .returned (.agg (u8s (useN k m)).toArray) ∧ Below w.heap.size w w' := by
  obtain ⟨w0, hw0⟩ : ∃ w0, (((w.alloc (.cells (u8s k).toArray 23)).alloc (.cells noKey.toArray 23)).alloc (.cells #[.int .u8 (m : Nat)] 5)) = w0 := ⟨_, rfl⟩
  have HW0 : Hid ((((w.alloc (.cells (u8s k).toArray 23)).alloc (.cells noKey.toArray 23)).alloc (.cells #[.int .u8 (m : Nat)] 5)) = w0) := hw0
  have hb0 : Below w.heap.size w w0 := by rw [← hw0]; exact (((Below.refl _ w).alloc (Nat.le_refl _) _).alloc (by simp) _).alloc (by simp; omega) _
  have hs0 : w0.heap.size = w.heap.size + 1 + 1 + 1 := by rw [← hw0]; simp
  have hk0 : Row w0 w.heap.size 23 (u8s k) := by rw [← hw0]; exact ((Row.new' w 23 (u8s k)).alloc _).alloc _
  have hz0 : Row w0 (w.heap.size + 1) 23 noKey := by rw [← hw0]; exact (Row.newAt (w.alloc (.cells (u8s k).toArray 23)) 23 noKey.toArray (by simp)).alloc _
  have hm0 : Row w0 (w.heap.size + 1 + 1) 5 [.int .u8 (m : Nat)] := by rw [← hw0]; exact Row.newAt _ 5 #[.int .u8 (m : Nat)] (by simp)
  have hI0 : IsBytes w0.heap.size w0 (some ⟨w.heap.size + 1 + 1, 0, none⟩) 1 1 [m] := bytes_of_box (t := 5) (k := [m]) hm0 rfl (by omega) (by simpa using hm)
  obtain ⟨w1, hw1⟩ : ∃ w1, w0.alloc (.cells #[.slice (some ⟨w.heap.size + 1 + 1, 0, none⟩) 1 1] 24) = w1 := ⟨_, rfl⟩
  have hb1 : Below w0.heap.size w0 w1 := by rw [← hw1]; exact (Below.refl _ w0).alloc (Nat.le_refl _) _
  have hL1 : IsLists w1.heap.size w1 (some ⟨w0.heap.size, 0, none⟩) 1 1 [[m]] := by rw [← hw1, World.size_alloc]; exact lists_one hI0
  have hB1 : Below w.heap.size w w1 := hb0.trans (hb1.mono hb0.size)
  have HC : Hid (Calls Tryz.prog 57 #[.slice (some ⟨w.heap.size, 0, none⟩) 32 32, .slice (some ⟨w.heap.size + 1 + 1 + 1, 0, none⟩) 1 1] w1 fun e w' => e = .returned (.agg (u8s (useN k m)).toArray) ∧ Below w1.heap.size w1 w') :=
    by rw [← hs0]; exact Sh.macSum_any _ 32 32 k (by omega) _ 1 1 (by omega) [[m]] (by simp) w1 (hT.later hB1) (bytes_of_box (hk0.later hb1) hk.1 (by omega) hk.2) hL1
  have HW1 : Hid (w0.alloc (.cells #[.slice (some ⟨w.heap.size + 1 + 1, 0, none⟩) 1 1] 24) = w1) := hw1
  have HZ1 : Hid (Row w1 (w.heap.size + 1) 23 noKey) := hz0.later hb1
  have HV : Hid ((u8s (useN k m)).length = 32) := by show _ = _; rw [u8s_length, (useN_key k m).1]
  have HV1 : Hid (∀ v ∈ u8s (useN k m), v.oneCell' = true) := u8s_one _
  have HS0 : Hid (w0.heap.size = w.heap.size + 1 + 1 + 1) := hs0
  clear hw0 hw1 hk0 hz0 hm0 hI0 hL1 hs0
  generalize u8s (useN k m) = V at *
  go_enter Tryz.func34, Tryz.ntmps34
  go_wp2_with (first
    | (go_at_call 57; change Calls Tryz.prog 57 _ ((((w.alloc (.cells (u8s k).toArray 23)).alloc (.cells noKey.toArray 23)).alloc (.cells #[.int .u8 (m : Nat)] 5)).alloc (.cells #[.slice (some ⟨w.heap.size + 1 + 1, 0, none⟩) 1 1] 24)) _; rw [HW0.out, HW1.out]; refine HC.out.mono ?_; rintro e w2 ⟨rfl, hb2⟩; have HZ2 : Hid (Row w2 (w.heap.size + 1) 23 noKey) := Row.later HZ1.out hb2)
    | ((with_reducible show wpList _ _ _ (Oper.mk _ (Op.store 23 (.tmp 4) (.tmp 9)) _ _ _ _ :: _) _ _); refine wpList_store_Row rfl 23 (.tmp 4) (.tmp 9) rfl V rfl rfl HZ2.out (by rw [HV.out]; exact size23) (by rw [HV.out]; rfl) HV1.out ?_; simp only [Act.put]))
  refine bodyPost_ret (results_Row rfl rfl (Row.sets_all (vs := V) HZ2.out (by rw [HV.out]; rfl)) Tryz.underlying23 (by rw [HV.out]; exact size23)) rfl ?_
  exact ⟨rfl, below_setCells (by omega) _ _ (hB1.trans (hb2.mono hB1.size))⟩

end Go.Proofs.YtclelancbfoenaaGreatDoor
