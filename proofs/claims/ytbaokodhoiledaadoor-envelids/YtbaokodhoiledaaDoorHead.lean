/-
  head, Ad, Put: an envelope as bytes.
-/
import Derived.Test.YtbaokodhoiledaaDoorEnv
namespace Go.Proofs.YtbaokodhoiledaaDoor
open Go.RowKit

/-- All of an envelope but its body, as bytes; all of it. -/
def headL (kd rl ep : Nat) (ids : List (List Nat)) : List Nat := encN kd ++ encN rl ++ encN ep ++ encIds ids
def putE (kd rl ep : Nat) (ids : List (List Nat)) (bs : List Nat) : List Nat := headL kd rl ep ids ++ encText bs

theorem flat_bytes {ids : List (List Nat)} (h : ∀ x ∈ ids, x.length = 32 ∧ ∀ z ∈ x, z < 256) : ∀ z ∈ ids.flatten, z < 256 := by
  intro z hz
  obtain ⟨x, hx, hzx⟩ := List.mem_flatten.1 hz
  exact (h x hx).2 z hzx
theorem headL_bytes (kd rl ep : Nat) {ids : List (List Nat)} (h : ∀ x ∈ ids, x.length = 32 ∧ ∀ z ∈ x, z < 256) : ∀ z ∈ headL kd rl ep ids, z < 256 := by
  intro z hz
  unfold headL encIds at hz
  simp only [List.mem_append] at hz
  rcases hz with ((hz | hz) | hz) | (hz | hz)
  · exact encN_bytes _ z hz
  · exact encN_bytes _ z hz
  · exact encN_bytes _ z hz
  · exact encN_bytes _ z hz
  · exact flat_bytes h z hz
theorem putE_bytes (kd rl ep : Nat) {ids : List (List Nat)} (h : ∀ x ∈ ids, x.length = 32 ∧ ∀ z ∈ x, z < 256) {bs : List Nat} (hb : ∀ z ∈ bs, z < 256) : ∀ z ∈ putE kd rl ep ids bs, z < 256 := by
  intro z hz
  unfold putE encText at hz
  simp only [List.mem_append] at hz
  rcases hz with hz | hz | hz
  · exact headL_bytes kd rl ep h z hz
  · exact encN_bytes _ z hz
  · exact hb z hz
theorem headL_length {kd rl ep : Nat} {ids : List (List Nat)} (h : ∀ x ∈ ids, x.length = 32 ∧ ∀ z ∈ x, z < 256) (h1 : kd < 18446744073709551616) (h2 : rl < 18446744073709551616) (h3 : ep < 18446744073709551616) (hn : ids.length ≤ 1000) : (headL kd rl ep ids).length ≤ 33000 := by
  have g1 := encN_ten h1
  have g2 := encN_ten h2
  have g3 := encN_ten h3
  have g4 := encN_ten (n := ids.length) (by omega)
  have g5 := flat_ids h ids.length
  rw [List.take_length] at g5
  unfold headL encIds
  simp only [List.length_append]
  omega
theorem IsNums.three (w : World) (x y z : Nat) (hx : x < 18446744073709551616) (hy : y < 18446744073709551616) (hz : z < 18446744073709551616) : IsNums (w.alloc (.cells #[.int .u64 (x : Nat), .int .u64 (y : Nat), .int .u64 (z : Nat)] 91)) (some ⟨w.heap.size, 0, none⟩) 3 [x, y, z] := by
  have hr := Row.new w 91 #[.int .u64 (x : Nat), .int .u64 (y : Nat), .int .u64 (z : Nat)]
  refine ⟨rfl, by simp [hx, hy, hz], .inr ⟨w.heap.size, 0, _, _, rfl, hr, fun i hi => ?_⟩⟩
  rcases (show i = 0 ∨ i = 1 ∨ i = 2 by omega) with rfl | rfl | rfl
  · exact hr.cell (i := 0) rfl
  · exact hr.cell (i := 1) rfl
  · exact hr.cell (i := 2) rfl
theorem encs_three (x y z : Nat) : encs [x, y, z] = encN x ++ encN y ++ encN z := by simp [encs]

set_option maxRecDepth 100000 in
set_option maxHeartbeats 1000000 in
/-- head -/
theorem head_any (kd rl ep : Nat) (p : Option Addr) (len cap : Nat) (ids : List (List Nat)) (q : Option Addr) (lb cb : Nat) (hkd : kd < 9223372036854775808) (hrl : rl < 4294967296) (hep : ep < 4294967296) (hlen : len ≤ 1000) (w : World) (hI : IsIds w.heap.size w p len cap ids) :
    Calls Tryd.prog 18 #[.agg #[.int .i64 (kd : Nat), .int .u32 (rl : Nat), .int .u32 (ep : Nat), .slice p len cap, .slice q lb cb]] w fun e w' => ∃ B, e = .returned (.pointer (some ⟨B, 0, none⟩)) ∧ w.heap.size ≤ B ∧ WrAt w' B (headL kd rl ep ids) ∧ Below w.heap.size w w' := by
  have e1 : (kd : Int) % 18446744073709551616 = (kd : Int) := by omega
  have e2 : (rl : Int) % 18446744073709551616 = (rl : Int) := by omega
  have e3 : (ep : Int) % 18446744073709551616 = (ep : Int) := by omega
  obtain ⟨wa, hwa⟩ : ∃ wa, w.alloc (.cells #[.int .i64 (kd : Nat), .int .u32 (rl : Nat), .int .u32 (ep : Nat), .slice p len cap, .slice q lb cb] 26) = wa := ⟨_, rfl⟩
  have hba : Below w.heap.size w wa := by rw [← hwa]; exact (Below.refl _ w).alloc (Nat.le_refl _) _
  have hsa : wa.heap.size = w.heap.size + 1 := by rw [← hwa]; simp
  have hrE : Row wa w.heap.size 26 [.int .i64 (kd : Nat), .int .u32 (rl : Nat), .int .u32 (ep : Nat), .slice p len cap, .slice q lb cb] := by rw [← hwa]; exact Row.new w 26 _
  obtain ⟨wb, hwb⟩ : ∃ wb, wa.alloc (.cells #[.slice none 0 0] 89) = wb := ⟨_, rfl⟩
  have hbb : Below wa.heap.size wa wb := by rw [← hwb]; exact (Below.refl _ wa).alloc (Nat.le_refl _) _
  have hsb : wb.heap.size = w.heap.size + 1 + 1 := by rw [← hwb]; simp [hsa]
  have hwr : WrAt wb (w.heap.size + 1) [] := by rw [← hwb, ← hsa]; exact WrAt.new wa
  have HN : Hid (Calls Tryd.prog 31 #[.pointer (some ⟨w.heap.size + 1, 0, none⟩), .slice (some ⟨w.heap.size + 1 + 1, 0, none⟩) 3 3] (wb.alloc (.cells #[.int .u64 (kd : Nat), .int .u64 (rl : Nat), .int .u64 (ep : Nat)] 91)) fun e w' => (∃ v, e = .returned v) ∧ WrAt w' (w.heap.size + 1) (encN kd ++ encN rl ++ encN ep) ∧ Below (w.heap.size + 1) wb w') := by
    have h3 := IsNums.three wb kd rl ep (by omega) (by omega) (by omega)
    rw [hsb] at h3
    refine (writerN_any (w.heap.size + 1) [] [kd, rl, ep] _ 3 3 _ (hwr.alloc _) h3 (by simp) (by omega)).mono ?_
    rintro e w' ⟨g1, g2, g3⟩
    rw [encs_three, List.nil_append] at g2
    exact ⟨g1, g2, ((Below.refl _ wb).alloc (by omega) _).trans g3.1⟩
  have hcE : ∀ i v, [Value.int .i64 (kd : Nat), .int .u32 (rl : Nat), .int .u32 (ep : Nat), .slice p len cap, .slice q lb cb][i]? = some v → wb.cell? ⟨w.heap.size, i, none⟩ = some v := fun i v h => (hrE.later hbb).cell h
  have c0 := hcE 0 _ rfl
  have c1 := hcE 1 _ rfl
  have c2 := hcE 2 _ rfl
  have HIb : Hid (IsIds w.heap.size wb p len cap ids) := (hI.below hba).below (hbb.mono (by omega))
  have HRE : Hid (Row wb w.heap.size 26 [.int .i64 (kd : Nat), .int .u32 (rl : Nat), .int .u32 (ep : Nat), .slice p len cap, .slice q lb cb]) := hrE.later hbb
  have HL : Hid ((encN kd ++ encN rl ++ encN ep).length ≤ 30) := by
    show _ ≤ _
    have g1 := encN_ten (n := kd) (by omega)
    have g2 := encN_ten (n := rl) (by omega)
    have g3 := encN_ten (n := ep) (by omega)
    simp only [List.length_append]
    omega
  have HB : Hid (Below w.heap.size w wb) := hba.trans (hbb.mono (by omega))
  have HWA : Hid (w.alloc (.cells #[.int .i64 (kd : Nat), .int .u32 (rl : Nat), .int .u32 (ep : Nat), .slice p len cap, .slice q lb cb] 26) = wa) := hwa
  have HWB : Hid (wa.alloc (.cells #[.slice none 0 0] 89) = wb) := hwb
  have HSB : Hid (wb.heap.size = w.heap.size + 1 + 1) := hsb
  clear hI hcE hrE hba hbb hwr c0 c1 c2 hwa hwb hsa hsb
  go_enter Tryd.func18, Tryd.ntmps18
  go_wp2_with (first
    | (go_at_call 31; rw [HWA.out, HWB.out]; refine HN.out.mono ?_; rintro e w1 ⟨⟨v1, rfl⟩, hW1, hb1⟩; have HW1 : Hid (WrAt w1 (w.heap.size + 1) (encN kd ++ encN rl ++ encN ep)) := hW1; have c3 := (HRE.out.below hb1 (Nat.lt_succ_self _)).cell (i := 3) rfl; have hI1 := (HIb.out.below (hb1.mono (Nat.le_succ _))).mono (Nat.le_succ _); have HI1 : Hid (IsIds (w.heap.size + 1) w1 p len cap ids) := hI1; clear hW1 hI1)
    | (go_at_call 32; refine (writerIds_any (w.heap.size + 1) _ ids p len cap w1 HW1.out HI1.out (by have := HL.out; omega)).mono ?_; rintro e w2 ⟨⟨v2, rfl⟩, hW2, hb2⟩))
  go_ret
  exact ⟨w.heap.size + 1, rfl, Nat.le_succ _, hW2, HB.out.trans ((hb1.trans hb2).mono (Nat.le_succ _))⟩

set_option maxRecDepth 100000 in
set_option maxHeartbeats 1000000 in
/-- Put, of what may be. -/
theorem put_some (kd rl ep : Nat) (p : Option Addr) (len cap : Nat) (ids : List (List Nat)) (q : Option Addr) (lb cb : Nat) (bs : List Nat) (hk : okKind kd = true) (hr : riseB ids = true) (hrl : rl < 4294967296) (hep : ep < 4294967296) (hlen : len ≤ 1000) (hlb : lb ≤ 70000) (w : World)
    (hI : IsIds w.heap.size w p len cap ids) (hJ : IsBytes w.heap.size w q lb cb bs) :
    Calls Tryd.prog 10 #[.agg #[.int .i64 (kd : Nat), .int .u32 (rl : Nat), .int .u32 (ep : Nat), .slice p len cap, .slice q lb cb]] w fun e w' => ∃ v, e = .returned (.tuple #[v, .int .i64 0]) ∧ Own w.heap.size w' v (putE kd rl ep ids bs) ∧ Below w.heap.size w w' := by
  have hkd : kd < 9223372036854775808 := by simp [okKind] at hk; omega
  obtain ⟨wa, hwa⟩ : ∃ wa, w.alloc (.cells #[.int .i64 (kd : Nat), .int .u32 (rl : Nat), .int .u32 (ep : Nat), .slice p len cap, .slice q lb cb] 26) = wa := ⟨_, rfl⟩
  have HBA : Hid (Below w.heap.size w wa) := by rw [← hwa]; exact (Below.refl _ w).alloc (Nat.le_refl _) _
  have HWA : Hid (w.alloc (.cells #[.int .i64 (kd : Nat), .int .u32 (rl : Nat), .int .u32 (ep : Nat), .slice p len cap, .slice q lb cb] 26) = wa) := hwa
  have hsa : wa.heap.size = w.heap.size + 1 := by rw [← hwa]; simp
  have HSA : Hid (wa.heap.size = w.heap.size + 1) := hsa
  have HRE : Hid (Row wa w.heap.size 26 [.int .i64 (kd : Nat), .int .u32 (rl : Nat), .int .u32 (ep : Nat), .slice p len cap, .slice q lb cb]) := by rw [← hwa]; exact Row.new w 26 _
  have HIa : Hid (IsIds wa.heap.size wa p len cap ids) := (hI.below HBA.out).mono HBA.out.size
  have HM : Hid (Calls Tryd.prog 17 #[.agg #[.int .i64 (kd : Nat), .int .u32 (rl : Nat), .int .u32 (ep : Nat), .slice p len cap, .slice q lb cb]] wa fun e w' => e = .returned (.bool true) ∧ Below wa.heap.size wa w') := by
    have := mayBe_any kd rl ep p len cap ids q lb cb hlen hlb wa HIa.out
    rw [hk, hr] at this
    exact this
  have HH : Hid (∀ W, Below wa.heap.size wa W → Calls Tryd.prog 18 #[.agg #[.int .i64 (kd : Nat), .int .u32 (rl : Nat), .int .u32 (ep : Nat), .slice p len cap, .slice q lb cb]] W fun e w' => ∃ B, e = .returned (.pointer (some ⟨B, 0, none⟩)) ∧ W.heap.size ≤ B ∧ WrAt w' B (headL kd rl ep ids) ∧ Below W.heap.size W w') := fun W hW =>
    head_any kd rl ep p len cap ids q lb cb hkd hrl hep hlen W ((HIa.out.below hW).mono hW.size)
  have HJa : Hid (IsBytes wa.heap.size wa q lb cb bs) := (hJ.below HBA.out).mono HBA.out.size
  have HZ : Hid (∀ z ∈ headL kd rl ep ids ++ encText bs, z < 256) := putE_bytes kd rl ep hI.2.2.2.1 hJ.2.2.2.1
  have HL : Hid ((headL kd rl ep ids).length ≤ 33000) := headL_length hI.2.2.2.1 (by omega) (by omega) (by omega) (by rw [hI.1]; exact hlen)
  have HL2 : Hid ((headL kd rl ep ids ++ encText bs).length ≤ 1000000) := by
    have h1 := HL.out
    have h2 := encN_ten (n := bs.length) (by rw [hJ.1]; omega)
    have h3 := hJ.1
    show _ ≤ _
    rw [encText]
    simp only [List.length_append]
    omega
  have HP : Hid (putE kd rl ep ids bs = headL kd rl ep ids ++ encText bs) := rfl
  rw [HP.out]
  clear hI hJ hwa hk hr HP hsa
  generalize headL kd rl ep ids = X at *
  go_enter Tryd.func10, Tryd.ntmps10
  go_wp2_with (first
    | (go_at_call 17; rw [HWA.out]; refine HM.out.mono ?_; rintro e w1 ⟨rfl, hb1⟩; have hr1 := HRE.out.later hb1; have hc0 := hr1.cell (i := 0) rfl; have hc1 := hr1.cell (i := 1) rfl; have hc2 := hr1.cell (i := 2) rfl; have hc3 := hr1.cell (i := 3) rfl; have hc4 := hr1.cell (i := 4) rfl; have HR1 : Hid (Row w1 w.heap.size 26 [.int .i64 (kd : Nat), .int .u32 (rl : Nat), .int .u32 (ep : Nat), .slice p len cap, .slice q lb cb]) := hr1; clear hr1)
    | (go_at_call 18; refine (HH.out w1 hb1).mono ?_; rintro e w2 ⟨B, rfl, hB2, hW2, hb2⟩; have HW2 : Hid (WrAt w2 B X) := hW2; have hc24 := (HR1.out.later hb2).cell (i := 4) rfl; have HJ2 : Hid (IsBytes B w2 q lb cb bs) := ((HJa.out.below hb1).below (hb2.mono hb1.size)).mono (by have := hb1.size; omega); clear hW2)
    | (go_at_call 19; refine (writerText_one B X bs w2.heap.size q lb cb _ (HW2.out.alloc _) (Row.new w2 22 #[.slice q lb cb]) (HJ2.out.below ((Below.refl _ w2).alloc (by have := HW2.out.lt; omega) _)) (by have := HL.out; omega)).mono ?_; rintro e w3 ⟨⟨v3, rfl⟩, hW3, hb3⟩; have HW3 : Hid (WrAt w3 B (X ++ encText bs)) := hW3; clear hW3)
    | (go_at_call 20; refine (writerBytes_any B _ w3 HW3.out HZ.out HL2.out).mono ?_; rintro e w4 ⟨v4, rfl, hown4, hb4⟩))
  refine bodyPost_ret (results_tmp2 rfl _ _ _) rfl ?_
  have hs := HSA.out
  have hs1 := hb1.size
  have hs2 := hb2.size
  have hB3 : Below B w2 w3 := ((Below.refl _ w2).alloc (by have := HW2.out.lt; omega) _).trans hb3
  have hs3 := hB3.size
  exact ⟨_, rfl, hown4.mono (by omega), HBA.out.trans ((hb1.mono (by omega)).trans ((hb2.mono (by omega)).trans ((hB3.mono (by omega)).trans (hb4.mono (by omega)))))⟩

set_option maxRecDepth 100000 in
set_option maxHeartbeats 1000000 in
/-- Put, of what may not be. -/
theorem put_none (kd : Int) (rl ep : Nat) (p : Option Addr) (len cap : Nat) (ids : List (List Nat)) (q : Option Addr) (lb cb : Nat) (hk : (okKind kd && riseB ids) = false) (hlen : len ≤ 1000) (hlb : lb ≤ 70000) (w : World) (hI : IsIds w.heap.size w p len cap ids) :
    Calls Tryd.prog 10 #[.agg #[.int .i64 kd, .int .u32 (rl : Nat), .int .u32 (ep : Nat), .slice p len cap, .slice q lb cb]] w fun e w' => e = .returned (.tuple #[.slice none 0 0, .int .i64 90]) ∧ Below w.heap.size w w' := by
  obtain ⟨wa, hwa⟩ : ∃ wa, w.alloc (.cells #[.int .i64 kd, .int .u32 (rl : Nat), .int .u32 (ep : Nat), .slice p len cap, .slice q lb cb] 26) = wa := ⟨_, rfl⟩
  have HBA : Hid (Below w.heap.size w wa) := by rw [← hwa]; exact (Below.refl _ w).alloc (Nat.le_refl _) _
  have HWA : Hid (w.alloc (.cells #[.int .i64 kd, .int .u32 (rl : Nat), .int .u32 (ep : Nat), .slice p len cap, .slice q lb cb] 26) = wa) := hwa
  have HM : Hid (Calls Tryd.prog 17 #[.agg #[.int .i64 kd, .int .u32 (rl : Nat), .int .u32 (ep : Nat), .slice p len cap, .slice q lb cb]] wa fun e w' => e = .returned (.bool false) ∧ Below w.heap.size w w') := by
    have := mayBe_any kd rl ep p len cap ids q lb cb hlen hlb wa ((hI.below HBA.out).mono HBA.out.size)
    rw [hk] at this
    exact this.mono fun e w' h => ⟨h.1, HBA.out.trans (h.2.mono HBA.out.size)⟩
  clear hI hwa hk
  go_enter Tryd.func10, Tryd.ntmps10
  go_wp2_with (go_at_call 17; rw [HWA.out]; refine HM.out.mono ?_; rintro e w1 ⟨rfl, hb1⟩)
  refine bodyPost_ret (results_tmp2 rfl _ _ _) rfl ?_
  exact ⟨rfl, hb1⟩
end Go.Proofs.YtbaokodhoiledaaDoor
