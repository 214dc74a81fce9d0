/-
  Several texts in one: RePadSpec, RePut, ReLenOf, ReVEq, ReOf.
-/
import Derived.Test.YtclelancbfoenaaGreatDoorBaseAll
import Derived.Test.YtclelancbfoenaaGreatDoorTapeAll
import Derived.Test.YtclelancbfoenaaGreatDoorReB
import Derived.Laws.CopyOwn
import Derived.Test.YtclelancbfoenaaGreatDoorReA
import Derived.Deep.RegionHeld3
import Derived.Laws.BitsAllLaws
/-
  A text filled up, on numbers: its length as four bytes, the text, zeros up to its bucket; and which bytes are a text filled up.
-/
namespace Go.Proofs.YtclelancbfoenaaGreatDoor.Re
open Go.RowKit

/-- Four bytes, the lowest ahead. -/
def lenL (n : Nat) : List Nat := [byteAt n 0, byteAt n 1, byteAt n 2, byteAt n 3]
/-- The text filled up (where it has a bucket). -/
def padL (zs : List Nat) : List Nat := lenL zs.length ++ zs ++ List.replicate (bucketN zs.length - (zs.length + 4)) 0

theorem byteAt_lt (n i : Nat) : byteAt n i < 256 := Nat.mod_lt _ (by decide)
@[simp] theorem lenL_length (n : Nat) : (lenL n).length = 4 := rfl
theorem lenL_lt (n : Nat) : ∀ z ∈ lenL n, z < 256 := by
  intro z hz
  simp only [lenL, List.mem_cons, List.not_mem_nil, or_false] at hz
  rcases hz with rfl | rfl | rfl | rfl <;> exact byteAt_lt _ _
theorem byteVals_len (n : Nat) : byteVals (byteAt n) 4 = u8s (lenL n) := rfl
theorem bytesOf_len (n : Nat) : byteVals (bytesOf [n]) 4 = u8s (lenL n) := rfl

theorem padL_length {zs : List Nat} (h : zs.length ≤ 65532) : (padL zs).length = bucketN zs.length := by
  have := bucketN_pos (z := (zs.length : Int)) (by omega) (by omega)
  simp [padL]
  omega
theorem padL_lt {zs : List Nat} (h : ∀ z ∈ zs, z < 256) : ∀ z ∈ padL zs, z < 256 := by
  intro z hz
  simp only [padL, List.mem_append, List.mem_replicate] at hz
  rcases hz with (hz | hz) | ⟨_, rfl⟩
  · exact lenL_lt _ z hz
  · exact h z hz
  · decide

/-- The number that four bytes are. -/
theorem wordAt_lenL (n : Nat) (h : n < 4294967296) (r : List Nat) : wordAt (lenL n ++ r) 0 = n := by
  simp [wordAt, lenL, byteAt]
  omega

end Go.Proofs.YtclelancbfoenaaGreatDoor.Re
/-
  pad.Put: the text filled up in fresh memory, or ErrLong. Nothing that lay before the call has turned.
-/
namespace Go.Proofs.YtclelancbfoenaaGreatDoor.Re
open Go.RowKit
theorem splice_pad (n K : Nat) (zs : List Nat) (hn : zs.length = n) (hK : n + 4 ≤ K) : splice (splice (u8s (List.replicate K 0)) 0 (u8s (lenL n))) 4 (u8s zs) = u8s (lenL n ++ zs ++ List.replicate (K - (n + 4)) 0) := by
  have h1 : splice (u8s (List.replicate K 0)) 0 (u8s (lenL n)) = u8s (lenL n) ++ u8s (List.replicate (K - 4) 0) := by
    simp [splice, u8s]
  rw [h1]
  simp only [splice, u8s_length, hn]
  rw [List.take_append_of_le_length (by simp), List.take_of_length_le (by simp), List.drop_append, List.drop_eq_nil_of_le (by simp), ← List.append_assoc, List.nil_append, ← u8s_append, ← u8s_append]
  congr 1
  simp [u8s]
  omega

set_option maxHeartbeats 1000000 in
theorem put_long (p : Option Addr) (len cap : Nat) (hlen : 65532 < len) (hl2 : len ≤ 9223372036854775807) (w : World) :
    Calls Tryz.prog 31 #[.slice p len cap] w fun e w' => e = .returned (.tuple #[.slice none 0 0, .int .i64 2]) ∧ Below w.heap.size w w' := by
  have b0 : bucketN (len : Int) = 0 := bucketN_none (.inr (by omega))
  go_enter Tryz.func31, Tryz.ntmps31
  go_wp2_with (go_at_call 25; refine (bucket_any _ (by omega) _).mono ?_; rintro e w1 ⟨rfl, hb⟩; rw [b0])
  refine bodyPost_ret (results_tmp2 rfl _ _ _) rfl ?_
  exact ⟨rfl, hb⟩

set_option maxRecDepth 100000 in
set_option maxHeartbeats 1000000 in
theorem put_some (p : Option Addr) (len cap : Nat) (zs : List Nat) (hlen : len ≤ 65532) (w : World) (hI : IsBytes w.heap.size w p len cap zs) :
    Calls Tryz.prog 31 #[.slice p len cap] w fun e w' => ∃ g, e = .returned (.tuple #[.slice (some ⟨g, 0, none⟩) (bucketN len) (bucketN len), .int .i64 0]) ∧
      Own w.heap.size w' (.slice (some ⟨g, 0, none⟩) (bucketN len) (bucketN len)) (padL zs) ∧ Below w.heap.size w w' := by
  obtain ⟨i0, hi, hz0, hz1, hz2⟩ := info_parts info5
  have hpos := bucketN_pos (z := (len : Int)) (by omega) (by omega)
  have HI : Hid (IsBytes w.heap.size w p len cap zs) := hI
  have HP : Hid (padL zs = lenL len ++ zs ++ List.replicate (bucketN len - (len + 4)) 0) := by show _ = _; rw [padL, hI.1]
  clear hI
  have HBk : Hid (∀ w, Calls Tryz.prog 25 #[.int .i64 len] w fun e w' => e = .returned (.int .i64 (bucketN len : Nat)) ∧ Below w.heap.size w w') := fun w => bucket_any _ (by omega) _
  generalize bucketN (len : Int) = K at *
  obtain ⟨hk1, hk2, hk3⟩ := hpos
  have hk0 : ((K : Int) == 0) = false := by simp; omega
  have hk4 : (K = 4) = False := by simp; omega
  have hk5 : (4 : Int) ≤ (K : Int) := by omega
  have e1 : IntKind.u32.wrap (len : Int) = (len : Int) := by rw [IntKind.wrap_u32]; omega
  have HK : Hid (len + 4 ≤ K) := by show len + 4 ≤ K; omega
  go_enter Tryz.func31, Tryz.ntmps31
  go_wp2_with (first
    | (go_at_call 25; refine (HBk.out _).mono ?_; rintro e w1 ⟨rfl, hb1⟩)
    | (at_make; refine wpList_make_full _ rfl _ _ 24 rfl w1.heap.size 5 i0 (.int .u8 0) 1 Tryz.underlying24 hi hz0 hz1 _ _ _ _ K rfl rfl (by omega) (by omega) (by rw [hz2]; omega) (by simp only [maxLen]; omega) (Nat.le_refl _) ?_; intro w2 hown2 hgrow2; rw [made_zeros] at hown2; have HR2 : Hid (Row w2 w1.heap.size 5 (u8s (List.replicate K 0))) := row_of_made hown2; have hb2 : Below w1.heap.size w1 w2 := ((Below.refl _ w1).grown hgrow2 (Nat.le_refl _) (fun k e => by cases e)); clear hown2 hgrow2)
    | (go_at_call 56; refine (bytes_some w2.heap.size 0 1 1 [len] _ (by decide) (by simp) (fun i hi => by obtain rfl : i = 0 := (by omega); exact (Row.new w2 53 #[.int .u32 (len : Nat)]).cell (i := 0) rfl)).mono ?_; rintro e w3 ⟨v3, rfl, hown3, hb3⟩; rw [show 4 * 1 = 4 from rfl, bytesOf_len] at hown3; obtain ⟨q3, c3, rfl⟩ := slice_of_row hown3; have HI3 : Hid (IsBytes w3.heap.size w3 q3 4 c3 (lenL len)) := Own.bytes (zs := lenL len) hown3 (lenL_lt _); have HR3 : Hid (Row w3 w1.heap.size 5 (u8s (List.replicate K 0))) := (HR2.out.alloc _).later hb3; have hb13 : Below w1.heap.size w1 w3 := ((hb2.alloc hb2.size _).trans (hb3.mono (by have := hb2.size; simp only [World.size_alloc]; omega))); clear hown3 hb3)
    | ((with_reducible show wpList _ _ _ (Oper.mk (some 19) _ _ _ _ _ :: _) _ _); refine wpList_copy_splice rfl (.tmp 13) (.tmp 18) 24 24 rfl 5 Tryz.underlying24 size5 _ _ _ _ _ _ rfl rfl w1.heap.size 0 (u8s (List.replicate K 0)) 5 HR3.out (u8s (lenL len)) (by rw [u8s_length, lenL_length]; exact (Nat.min_eq_left (by omega)).symm) (fun h0 => ⟨rfl, bytes_src HI3.out h0⟩) (by simp; omega) (u8s_one _) w1.heap.size w1 hb13 (Nat.le_refl _) ?_; intro w4 HG4 hb4; rw [u8s_length, lenL_length])
    | ((with_reducible show wpList _ _ _ (Oper.mk (some 23) _ _ _ _ _ :: _) _ _); refine wpList_copy_splice rfl (.tmp 21) (.tmp 22) 24 24 rfl 5 Tryz.underlying24 size5 _ _ _ _ _ _ rfl rfl w1.heap.size 4 (splice (u8s (List.replicate K 0)) 0 (u8s (lenL len))) 5 HG4.out (u8s zs) (by rw [u8s_length, HI.out.1]; exact (Nat.min_eq_left (by omega)).symm) (fun h0 => ⟨rfl, bytes_src ((HI.out.later hb1).below hb4) h0⟩) (by rw [length_splice _ _ _ (by simp; omega)]; have := HI.out.1; simp; omega) (u8s_one _) w1.heap.size w1 hb4 (Nat.le_refl _) ?_; intro w5 HG5 hb5; rw [u8s_length, HI.out.1]))
  refine bodyPost_ret (results_tmp2 rfl _ _ _) rfl ?_
  have hg := HG5.out
  rw [splice_pad len K zs HI.out.1 HK.out, ← HP.out] at hg
  have hl : (padL zs).length = K := by rw [HP.out]; have := HI.out.1; simp; omega
  have ho := own_of_row (W := w5) (n₀ := w.heap.size) (g := w1.heap.size) (zs := padL zs) hg hb1.size (by omega)
  rw [hl] at ho
  exact ⟨w1.heap.size, rfl, ho, hb1.trans (hb5.mono hb1.size)⟩

end Go.Proofs.YtclelancbfoenaaGreatDoor.Re
/-
  pad.lengthOf: the length that bytes tell, and whether they are as long as a text of that length filled up. Nothing that lay before the call has turned.
-/
namespace Go.Proofs.YtclelancbfoenaaGreatDoor.Re
open Go.RowKit

theorem wordAt_take (cs : List Nat) : wordAt (cs.take 4) 0 = wordAt cs 0 := by
  simp [wordAt]

set_option maxHeartbeats 1000000 in
theorem lengthOf_short (p : Option Addr) (len cap : Nat) (hlen : len < 4) (w : World) :
    Calls Tryz.prog 62 #[.slice p len cap] w fun e w' => e = .returned (.tuple #[.int .i64 0, .bool false]) ∧ Below w.heap.size w w' := by
  have h4 : (len : Int) < 4 := by omega
  go_enter Tryz.func62, Tryz.ntmps62
  go_wp2
  refine bodyPost_ret (results_tmp2 rfl _ _ _) rfl ?_
  exact ⟨rfl, Below.refl _ _⟩

set_option maxRecDepth 100000 in
set_option maxHeartbeats 1000000 in
theorem lengthOf_some (p : Option Addr) (len cap : Nat) (cs : List Nat) (hlen : 4 ≤ len) (w : World) (hI : IsBytes w.heap.size w p len cap cs) :
    Calls Tryz.prog 62 #[.slice p len cap] w fun e w' => e = .returned (.tuple #[.int .i64 (wordAt cs 0 : Nat), .bool (decide (bucketN (wordAt cs 0) = len))]) ∧ Below w.heap.size w w' := by
  have h4 : ¬ (len : Int) < 4 := by omega
  have hcap : 4 ≤ cap := by have := hI.2.1; omega
  have hcap2 : cap ≤ 9223372036854775807 := hI.2.2.1
  have HH : Hid (IsBytes w.heap.size w p 4 cap (cs.take 4)) := hI.head hlen (by have := hI.2.1; omega) (Nat.le_refl _)
  have hn : wordAt cs 0 < 4294967296 := wordAt_lt cs hI.2.2.2.1 0
  obtain ⟨b, off, rfl⟩ : ∃ b off, p = some ⟨b, off, none⟩ := by
    rcases hI.2.2.2.2 with h | ⟨b, off, h, _⟩
    · omega
    · exact ⟨b, off, h⟩
  clear hI
  have HW : Hid (wordVals (cs.take 4) 1 = [.int .u32 (wordAt cs 0 : Nat)]) := by show _ = _; simp only [wordVals, List.range_one, List.map_cons, List.map_nil, wordAt_take]
  generalize wordAt cs 0 = n at *
  have hq : ((bucketN (n : Int) : Int) == (len : Int)) = decide (bucketN (n : Int) = len) := by
    rw [Bool.eq_iff_iff]; simp; omega
  have e1 : IntKind.i64.wrap (n : Int) = (n : Int) := by rw [IntKind.wrap_i64]; omega
  have HBk : Hid (∀ w, Calls Tryz.prog 25 #[.int .i64 n] w fun e w' => e = .returned (.int .i64 (bucketN n : Nat)) ∧ Below w.heap.size w w') := fun w => bucket_any _ (by omega) _
  generalize bucketN (n : Int) = K at *
  go_enter Tryz.func62, Tryz.ntmps62
  go_wp2_with (first
    | (go_at_call 79; refine (words_any _ 4 cap _ (by decide) _ HH.out).mono ?_; rintro e w1 ⟨v1, rfl, hown1, hb1⟩; rw [show 4 / 4 = 1 from rfl, HW.out] at hown1; obtain ⟨q1, c1, rfl⟩ := slice_of_row hown1; obtain ⟨g1, cur1, rfl, hg1, hr1, ht1⟩ := row_of_own hown1 (by decide); have hc1 : w1.cell? ⟨g1, 0, none⟩ = some (.int .u32 (n : Nat)) := hown1.cellAt 0 (by decide); clear hown1 hr1 ht1)
    | (go_at_call 25; refine (HBk.out _).mono ?_; rintro e w2 ⟨rfl, hb2⟩))
  refine bodyPost_ret (results_tmp2 rfl _ _ _) rfl ?_
  exact ⟨by rw [← hq]; rfl, hb1.trans (hb2.mono hb1.size)⟩

end Go.Proofs.YtclelancbfoenaaGreatDoor.Re
/-
  What vec.Equal answers: whether the bytes are alike. Nothing that lay before the call has turned.
-/
namespace Go.Proofs.YtclelancbfoenaaGreatDoor.Re
open Go.RowKit

def xorAt (za zb : List Nat) (i : Nat) : Nat := za.getD i 0 ^^^ zb.getD i 0
theorem u8_xor_getD (za zb : List Nat) (hza : ∀ z ∈ za, z < 256) (hzb : ∀ z ∈ zb, z < 256) (i : Nat) : bits .xor .u8 ((za.getD i 0 : Nat) : Int) ((zb.getD i 0 : Nat) : Int) = ((xorAt za zb i : Nat) : Int) :=
  u8_xor_nat _ _ (all_getD (by decide) hza i) (all_getD (by decide) hzb i)

/-- What has come together of the first k bytes that are unlike. -/
def orTo (za zb : List Nat) : Nat → Nat
  | 0 => 0
  | k + 1 => orTo za zb k ||| xorAt za zb k

theorem orTo_lt (za zb : List Nat) (hza : ∀ z ∈ za, z < 256) (hzb : ∀ z ∈ zb, z < 256) : ∀ k, orTo za zb k < 256
  | 0 => by simp [orTo]
  | k + 1 => Nat.or_lt_two_pow (n := 8) (orTo_lt za zb hza hzb k) (Nat.xor_lt_two_pow (n := 8) (all_getD (by decide) hza k) (all_getD (by decide) hzb k))

theorem xor_zero_iff (a b : Nat) : a ^^^ b = 0 ↔ a = b := by
  constructor
  · intro h
    have : (a ^^^ b) ^^^ b = 0 ^^^ b := by rw [h]
    simpa [Nat.xor_assoc] using this
  · rintro rfl; simp

theorem orTo_zero (za zb : List Nat) : ∀ k, orTo za zb k = 0 ↔ ∀ i, i < k → za.getD i 0 = zb.getD i 0
  | 0 => by simp [orTo]
  | k + 1 => by
    rw [orTo, Nat.or_eq_zero_iff, orTo_zero za zb k, xorAt, xor_zero_iff]
    constructor
    · rintro ⟨h1, h2⟩ i hi
      by_cases h : i = k
      · subst h; exact h2
      · exact h1 i (by omega)
    · intro h
      exact ⟨fun i hi => h i (by omega), h k (by omega)⟩

theorem orTo_eq (za zb : List Nat) (h : za.length = zb.length) : (((orTo za zb za.length : Nat) : Int) == 0) = decide (za = zb) := by
  rw [Bool.eq_iff_iff]
  simp only [beq_iff_eq, decide_eq_true_eq]
  rw [show (((orTo za zb za.length : Nat) : Int) = 0 ↔ orTo za zb za.length = 0) by omega, orTo_zero]
  constructor
  · intro H
    apply List.ext_getElem h
    intro i h1 h2
    have := H i h1
    simpa [List.getElem?_eq_getElem h1, List.getElem?_eq_getElem h2] using this
  · rintro rfl i _; rfl

theorem or_step (za zb : List Nat) (hza : ∀ z ∈ za, z < 256) (hzb : ∀ z ∈ zb, z < 256) (k : Nat) : bits .or .u8 ((orTo za zb k : Nat) : Int) ((xorAt za zb k : Nat) : Int) = ((orTo za zb (k + 1) : Nat) : Int) :=
  u8_or_nat _ _ (orTo_lt za zb hza hzb k) (Nat.xor_lt_two_pow (n := 8) (all_getD (by decide) hza k) (all_getD (by decide) hzb k))

set_option maxRecDepth 100000 in
set_option maxHeartbeats 1000000 in
theorem equal_some (ba oa ca bb ob cb la : Nat) (za zb : List Nat) (hzl : za.length = la) (hzl' : zb.length = la) (w : World) (hla : la ≤ 60000) (hba : ba < w.heap.size) (hbb : bb < w.heap.size) (hza : ∀ z ∈ za, z < 256) (hzb : ∀ z ∈ zb, z < 256)
    (hA : ∀ i, i < la → w.cell? ⟨ba, oa + i, none⟩ = some (.int .u8 (za.getD i 0 : Nat))) (hB : ∀ i, i < la → w.cell? ⟨bb, ob + i, none⟩ = some (.int .u8 (zb.getD i 0 : Nat))) :
    Calls Tryz.prog 38 #[.slice (some ⟨ba, oa, none⟩) la ca, .slice (some ⟨bb, ob, none⟩) la cb] w fun e w' => e = .returned (.bool (decide (za = zb))) ∧ Below w.heap.size w w' := by
  have HE : Hid ((((orTo za zb la : Nat) : Int) == 0) = decide (za = zb)) := by
    have := orTo_eq za zb (by omega)
    rwa [hzl] at this
  clear hzl hzl'
  go_enter Tryz.func38, Tryz.ntmps38
  go_wp2
  go_loopw [5, 14] (fun u i wr => ∃ k : Nat, k ≤ la ∧ i = .int .i64 k ∧ u = .int .u8 (orTo za zb k : Nat) ∧ Below w.heap.size w wr)
    (fun _ i _ => la - (intOf i).toNat)
  case atStart => exact ⟨0, Nat.zero_le _, rfl, rfl, Below.refl _ _⟩
  case round =>
    obtain ⟨k, hk, rfl, rfl, hbel⟩ := hrel
    by_cases hlt : k < la
    · have cA := (hbel.cell (p := ⟨ba, oa + k, none⟩) hba).trans (hA k hlt)
      have cB := (hbel.cell (p := ⟨bb, ob + k, none⟩) hbb).trans (hB k hlt)
      have hx := u8_xor_getD za zb hza hzb k
      have ho := or_step za zb hza hzb k
      have i1 : (k : Int) < (la : Int) := by omega
      have HB : Hid (Below w.heap.size w wr) := hbel
      clear hbel hA hB hza hzb
      generalize za.getD k 0 = x at *
      generalize zb.getD k 0 = y at *
      go_wp2
      go_region_held3 (fun w' => w'.cell? ⟨ba, oa + k, none⟩ = some (.int .u8 x) ∧ w'.cell? ⟨bb, ob + k, none⟩ = some (.int .u8 y)) (go_keep) (fail)
      go_wp2
      go_roundw
      case rel => exact ⟨k + 1, by omega, by go_num, rfl, HB.out.drew⟩
      case measure => simp [intOf]; omega
    · obtain rfl : k = la := by omega
      go_wp2
      go_ret
      exact ⟨by rw [← HE.out]; rfl, hbel⟩

set_option maxHeartbeats 1000000 in
theorem equal_unlike (pa pb : Option Addr) (ca cb la lb : Nat) (hne : la ≠ lb) (w : World) :
    Calls Tryz.prog 38 #[.slice pa la ca, .slice pb lb cb] w fun e w' => e = .returned (.bool false) ∧ Below w.heap.size w w' := by
  have hne' : ((la : Int) == (lb : Int)) = false := by simp; omega
  have hne2 : ((la : Int) != (lb : Int)) = true := by simp; omega
  go_enter Tryz.func38, Tryz.ntmps38
  go_wp2
  go_ret
  exact ⟨rfl, Below.refl _ _⟩

set_option maxRecDepth 100000 in
set_option maxHeartbeats 1000000 in
theorem equal_none (pa pb : Option Addr) (ca cb : Nat) (w : World) :
    Calls Tryz.prog 38 #[.slice pa 0 ca, .slice pb 0 cb] w fun e w' => e = .returned (.bool true) ∧ Below w.heap.size w w' := by
  go_enter Tryz.func38, Tryz.ntmps38
  go_wp2
  go_loopw [5, 14] (fun u i wr => u = .int .u8 0 ∧ i = .int .i64 0 ∧ wr = w) (fun _ _ _ => 0)
  case atStart => exact ⟨rfl, rfl, rfl⟩
  case round =>
    obtain ⟨rfl, rfl, rfl⟩ := hrel
    go_wp2
    go_ret
    exact ⟨rfl, Below.refl _ _⟩

/-- vec.Equal -/
theorem equal_any (pa pb : Option Addr) (ca cb la lb : Nat) (za zb : List Nat) (w : World) (hla : la ≤ 60000) (hlb : lb ≤ 60000) (hA : IsBytes w.heap.size w pa la ca za) (hB : IsBytes w.heap.size w pb lb cb zb) :
    Calls Tryz.prog 38 #[.slice pa la ca, .slice pb lb cb] w fun e w' => e = .returned (.bool (decide (za = zb))) ∧ Below w.heap.size w w' := by
  by_cases hl : la = lb
  · subst hl
    obtain ⟨h1, _, _, hza, ha⟩ := hA
    obtain ⟨h2, _, _, hzb, hb⟩ := hB
    by_cases h0 : la = 0
    · subst h0
      obtain rfl := List.length_eq_zero_iff.1 h1
      obtain rfl := List.length_eq_zero_iff.1 h2
      exact equal_none pa pb ca cb w
    · rcases ha with h | ⟨ba, oa, rfl, hba, hca⟩
      · omega
      rcases hb with h | ⟨bb, ob, rfl, hbb, hcb⟩
      · omega
      exact equal_some ba oa ca bb ob cb la za zb h1 h2 w hla hba hbb hza hzb hca hcb
  · have e : decide (za = zb) = false := by
      simp only [decide_eq_false_iff_not]
      rintro rfl
      exact hl (hA.1.symm.trans hB.1)
    rw [e]
    exact equal_unlike pa pb ca cb la lb hl w

end Go.Proofs.YtclelancbfoenaaGreatDoor.Re
/-
  pad.Of: the text that bytes are filled up from, in fresh memory, or ErrPad. Nothing that lay before the call has turned.
-/
namespace Go.Proofs.YtclelancbfoenaaGreatDoor.Re
open Go.RowKit

/-- The text that these bytes tell. -/
def toldL (cs : List Nat) : List Nat := (cs.drop 4).take (wordAt cs 0)
/-- Whether they are that text, filled up. -/
abbrev IsPad (cs : List Nat) : Prop := 4 ≤ cs.length ∧ wordAt cs 0 + 4 ≤ cs.length ∧ padL (toldL cs) = cs
def textU (cs : List Nat) : List Nat := if IsPad cs then toldL cs else []
def errU (cs : List Nat) : Int := if IsPad cs then 0 else 50

theorem toldL_length {cs : List Nat} (h : wordAt cs 0 + 4 ≤ cs.length) : (toldL cs).length = wordAt cs 0 := by
  simp [toldL]; omega
theorem toldL_lt {cs : List Nat} (h : ∀ z ∈ cs, z < 256) : ∀ z ∈ toldL cs, z < 256 := fun z hz => h z (List.mem_of_mem_drop (List.mem_of_mem_take hz))
theorem IsPad.bucket {cs : List Nat} (h : IsPad cs) (hl : cs.length ≤ 65536) : bucketN (wordAt cs 0) = cs.length := by
  obtain ⟨_, h2, h3⟩ := h
  have h4 := padL_length (zs := toldL cs) (by rw [toldL_length h2]; omega)
  rw [h3, toldL_length h2] at h4
  exact h4.symm
theorem fits_of_bucket {n len : Nat} (h : bucketN n = len) (hl : 4 ≤ len) : n ≤ 65532 ∧ n + 4 ≤ len := by
  by_cases h2 : 65532 < n
  · rw [bucketN_none (.inr (by omega))] at h; omega
  · have := bucketN_pos (z := (n : Int)) (by omega) (by omega)
    omega
theorem textU_pos {cs : List Nat} (h : IsPad cs) : textU cs = toldL cs := if_pos h
theorem textU_neg {cs : List Nat} (h : ¬ IsPad cs) : textU cs = [] := if_neg h
theorem errU_pos {cs : List Nat} (h : IsPad cs) : errU cs = 0 := if_pos h
theorem errU_neg {cs : List Nat} (h : ¬ IsPad cs) : errU cs = 50 := if_neg h

/-- A text filled up is one. -/
theorem isPad_padL {zs : List Nat} (h : zs.length ≤ 65532) : IsPad (padL zs) ∧ toldL (padL zs) = zs := by
  have hw : wordAt (padL zs) 0 = zs.length := by
    unfold padL
    rw [List.append_assoc]
    exact wordAt_lenL _ (by omega) _
  have ht : toldL (padL zs) = zs := by
    unfold toldL
    rw [hw]
    unfold padL
    rw [List.append_assoc, List.drop_append_of_le_length (by simp), List.drop_of_length_le (by simp), List.nil_append, List.take_append_of_le_length (by simp), List.take_of_length_le (by simp)]
  have hp := bucketN_pos (z := (zs.length : Int)) (by omega) (by omega)
  have hl := padL_length h
  exact ⟨⟨by omega, by omega, by rw [ht]⟩, ht⟩

theorem splice_all (ts : List Nat) (n : Nat) (h : ts.length = n) : splice (u8s (List.replicate n 0)) 0 (u8s ts) = u8s ts := by
  simp [splice, u8s, h]

theorem bytes_of_row5 {W : World} {g n : Nat} {zs : List Nat} (hr : Row W g 5 (u8s zs)) (hl : zs.length = n) (hn : n ≤ 9223372036854775807) (hz : ∀ z ∈ zs, z < 256) : IsBytes W.heap.size W (some ⟨g, 0, none⟩) n n zs :=
  ⟨hl, Nat.le_refl _, hn, hz, .inr ⟨g, 0, rfl, hr.lt, fun i hi => by rw [Nat.zero_add]; exact hr.cell (u8s_at (by omega))⟩⟩

set_option maxRecDepth 100000 in
set_option maxHeartbeats 1000000 in
/-- The walk: the text ts of n bytes, filled up pd, is alike with what came in or not (r). -/
theorem of_core (b off len cap n : Nat) (ts pd : List Nat) (r : Bool) (w : World) (h32 : n + 4 ≤ len) (h4 : 4 < len) (hlen : len ≤ 60000) (hcap : len ≤ cap) (hcap2 : cap ≤ 9223372036854775807)
    (HT : Hid (ts.length = n)) (HTz : Hid (∀ z ∈ ts, z < 256))
    (HS : Hid (∀ W, Below w.heap.size w W → ∀ j v, (u8s ts)[j]? = some v → W.cell? ((⟨b, off + 4, none⟩ : Addr).add j) = some v))
    (HLo : Hid (Calls Tryz.prog 62 #[.slice (some ⟨b, off, none⟩) len cap] w fun e w' => e = .returned (.tuple #[.int .i64 (n : Nat), .bool true]) ∧ Below w.heap.size w w'))
    (HPu : Hid (∀ g W, IsBytes W.heap.size W (some ⟨g, 0, none⟩) n n ts → Calls Tryz.prog 31 #[.slice (some ⟨g, 0, none⟩) n n] W fun e w' => ∃ g, e = .returned (.tuple #[.slice (some ⟨g, 0, none⟩) len len, .int .i64 0]) ∧
      Own W.heap.size w' (.slice (some ⟨g, 0, none⟩) len len) pd ∧ Below W.heap.size W w'))
    (HEq : Hid (∀ n₀ g W, Below w.heap.size w W → Own n₀ W (.slice (some ⟨g, 0, none⟩) len len) pd → Calls Tryz.prog 38 #[.slice (some ⟨g, 0, none⟩) len len, .slice (some ⟨b, off, none⟩) len cap] W fun e w' => e = .returned (.bool r) ∧ Below W.heap.size W w')) :
    Calls Tryz.prog 39 #[.slice (some ⟨b, off, none⟩) len cap] w fun e w' => ∃ v, e = .returned (.tuple #[v, .int .i64 (if r then 0 else 50)]) ∧ (r = true → Own w.heap.size w' v ts) ∧ (r = false → v = .slice none 0 0) ∧ Below w.heap.size w w' := by
  obtain ⟨i0, hi, hz0, hz1, hz2⟩ := info_parts info5
  have hc4 : (cap = 4) = False := by simp; omega
  have hc5 : (4 : Int) ≤ (len : Int) := by omega
  cases r
  all_goals
    go_enter Tryz.func39, Tryz.ntmps39
    go_wp2_with (first
      | (go_at_call 62; refine HLo.out.mono ?_; rintro e w1 ⟨rfl, hb1⟩)
      | (at_make; refine wpList_make_full _ rfl _ _ 24 rfl w1.heap.size 5 i0 (.int .u8 0) 1 Tryz.underlying24 hi hz0 hz1 _ _ _ _ n rfl rfl (by omega) (by omega) (by rw [hz2]; omega) (by simp only [maxLen]; omega) (Nat.le_refl _) ?_; intro w2 hown2 hgrow2; rw [made_zeros] at hown2; have HR2 : Hid (Row w2 w1.heap.size 5 (u8s (List.replicate n 0))) := row_of_made hown2; have hb2 : Below w1.heap.size w1 w2 := ((Below.refl _ w1).grown hgrow2 (Nat.le_refl _) (fun k e => by cases e)); clear hown2 hgrow2)
      | ((with_reducible show wpList _ _ _ (Oper.mk (some 21) _ _ _ _ _ :: _) _ _); refine wpList_copy_splice rfl (.tmp 18) (.tmp 20) 24 24 rfl 5 Tryz.underlying24 size5 _ _ _ _ _ _ rfl rfl w1.heap.size 0 (u8s (List.replicate n 0)) 5 HR2.out (u8s ts) (by rw [u8s_length, HT.out]; exact (Nat.min_eq_right (by omega)).symm) (fun _ => ⟨rfl, _, rfl, HS.out _ (hb1.trans (hb2.mono hb1.size))⟩) (by have := HT.out; simp; omega) (u8s_one _) w1.heap.size w1 hb2 (Nat.le_refl _) ?_; intro w3 HG3 hb3; rw [u8s_length, HT.out]; rw [splice_all ts n HT.out] at HG3; have HI3 : Hid (IsBytes w3.heap.size w3 (some ⟨w1.heap.size, 0, none⟩) n n ts) := bytes_of_row5 HG3.out HT.out (by omega) HTz.out)
      | (go_at_call 31; refine (HPu.out _ _ HI3.out).mono ?_; rintro e w4 ⟨g4, rfl, hown4, hb4⟩)
      | (go_at_call 38; refine (HEq.out _ _ _ ((hb1.trans (hb3.mono hb1.size)).trans (hb4.mono (by have := hb1.size; have := hb3.size; omega))) hown4).mono ?_; rintro e w5 ⟨rfl, hb5⟩))
    refine bodyPost_ret (results_tmp2 rfl _ _ _) rfl ?_
    have hbb : Below w.heap.size w w5 := ((hb1.trans (hb3.mono hb1.size)).trans (hb4.mono (by have := hb1.size; have := hb3.size; omega))).trans (hb5.mono (by have := hb1.size; have := hb3.size; have := hb4.size; omega))
  · exact ⟨_, rfl, rfl, hbb⟩
  · refine ⟨_, rfl, ?_, hbb⟩
    have ho := own_of_row (n₀ := w.heap.size) (zs := ts) HG3.out hb1.size (by have := HT.out; omega)
    rw [HT.out] at ho
    exact (ho.later hb4).later hb5

/-- .. of bytes that are as long as they tell. -/
theorem of_some (p : Option Addr) (len cap : Nat) (cs : List Nat) (h4 : 4 ≤ len) (hlen : len ≤ 60000) (hb : bucketN (wordAt cs 0) = len) (w : World) (hI : IsBytes w.heap.size w p len cap cs) :
    Calls Tryz.prog 39 #[.slice p len cap] w fun e w' => ∃ v, e = .returned (.tuple #[v, .int .i64 (errU cs)]) ∧ Str w' v (strOf (textU cs)) ∧ Below w.heap.size w w' := by
  obtain ⟨hn1, hn2⟩ := fits_of_bucket hb h4
  have hcl := hI.1
  have hT : (toldL cs).length = wordAt cs 0 := toldL_length (by omega)
  have hTz : ∀ z ∈ toldL cs, z < 256 := toldL_lt hI.2.2.2.1
  have h32 : 4 < len := by
    have := bucketN_pos (z := (wordAt cs 0 : Int)) (by omega) (by omega)
    omega
  obtain ⟨b, off, rfl, hbb, hcs⟩ : ∃ b off, p = some ⟨b, off, none⟩ ∧ b < w.heap.size ∧ ∀ i, i < len → w.cell? ⟨b, off + i, none⟩ = some (.int .u8 (cs.getD i 0 : Nat)) := by
    rcases hI.2.2.2.2 with h | h
    · omega
    · exact h
  have hp : IsPad cs ↔ padL (toldL cs) = cs := ⟨fun h => h.2.2, fun h => ⟨by omega, by omega, h⟩⟩
  refine (of_core b off len cap (wordAt cs 0) (toldL cs) (padL (toldL cs)) (decide (padL (toldL cs) = cs)) w hn2 h32 hlen hI.2.1 hI.2.2.1 hT hTz ?_ ?_ ?_ ?_).mono ?_
  · intro W hW j v hv
    have hj : j < (toldL cs).length := by
      rcases Nat.lt_or_ge j (toldL cs).length with h | h
      · exact h
      · rw [List.getElem?_eq_none (by simpa using h)] at hv; cases hv
    rw [u8s_at hj] at hv
    cases hv
    have hj' : j < wordAt cs 0 := by rw [← hT]; exact hj
    rw [Addr.add_mid, hW.cell (p := ⟨b, off + 4 + j, none⟩) hbb, show off + 4 + j = off + (4 + j) by omega, hcs (4 + j) (by omega)]
    simp [toldL, hj']
  · have h := lengthOf_some _ len cap cs h4 w hI
    rw [decide_eq_true hb] at h
    exact h
  · intro g W h
    have h := put_some _ _ _ _ hn1 W h
    rw [hb] at h
    exact h
  · intro n₀ g W hW ho
    exact equal_any _ _ _ _ _ _ _ _ W hlen hlen (ho.bytes (padL_lt hTz)) ((hI.below hW).mono hW.size)
  · rintro e w' ⟨v, rfl, h1, h2, hbel⟩
    by_cases he : padL (toldL cs) = cs
    · rw [decide_eq_true he] at h1
      rw [errU_pos (hp.2 he), textU_pos (hp.2 he), decide_eq_true he]
      exact ⟨v, rfl, str_of_row rfl (h1 rfl), hbel⟩
    · rw [decide_eq_false he] at h2
      rw [errU_neg (fun h => he (hp.1 h)), textU_neg (fun h => he (hp.1 h)), decide_eq_false he, h2 rfl]
      exact ⟨_, rfl, str_none _ _ _, hbel⟩

set_option maxHeartbeats 1000000 in
theorem of_none (p : Option Addr) (len cap n : Nat) (w : World) (HLo : Hid (Calls Tryz.prog 62 #[.slice p len cap] w fun e w' => e = .returned (.tuple #[.int .i64 (n : Nat), .bool false]) ∧ Below w.heap.size w w')) :
    Calls Tryz.prog 39 #[.slice p len cap] w fun e w' => e = .returned (.tuple #[.slice none 0 0, .int .i64 50]) ∧ Below w.heap.size w w' := by
  go_enter Tryz.func39, Tryz.ntmps39
  go_wp2_with (go_at_call 62; refine HLo.out.mono ?_; rintro e w1 ⟨rfl, hb1⟩)
  refine bodyPost_ret (results_tmp2 rfl _ _ _) rfl ?_
  exact ⟨rfl, hb1⟩

/-- pad.Of -/
theorem of_any (p : Option Addr) (len cap : Nat) (cs : List Nat) (hlen : len ≤ 60000) (w : World) (hI : IsBytes w.heap.size w p len cap cs) :
    Calls Tryz.prog 39 #[.slice p len cap] w fun e w' => ∃ v, e = .returned (.tuple #[v, .int .i64 (errU cs)]) ∧ Str w' v (strOf (textU cs)) ∧ Below w.heap.size w w' := by
  have hcl := hI.1
  by_cases h4 : 4 ≤ len
  · by_cases hb : bucketN (wordAt cs 0) = len
    · exact of_some p len cap cs h4 hlen hb w hI
    · have hp : ¬ IsPad cs := fun h => hb ((h.bucket (by omega)).trans hcl)
      rw [errU_neg hp, textU_neg hp]
      refine (of_none p len cap (wordAt cs 0) w ?_).mono ?_
      · have h := lengthOf_some _ len cap cs h4 w hI
        rw [decide_eq_false hb] at h
        exact h
      · rintro e w' ⟨rfl, hbel⟩
        exact ⟨_, rfl, str_none _ _ _, hbel⟩
  · have hp : ¬ IsPad cs := fun h => h4 (by have := h.1; omega)
    rw [errU_neg hp, textU_neg hp]
    refine (of_none p len cap 0 w (lengthOf_short p len cap (by omega) w)).mono ?_
    rintro e w' ⟨rfl, hbel⟩
    exact ⟨_, rfl, str_none _ _ _, hbel⟩

end Go.Proofs.YtclelancbfoenaaGreatDoor.Re
