/-
  What vec.Xor, the reference's Xor and vec.Equal answer, for any two slices of bytes (of up to 60,000): the bytes put together bit by bit, in memory of their own; whether the bytes are alike. Nothing that lay before the call has turned.
-/
import Derived.Test.YthhjjijnjfbibaaWords
import Derived.Deep.RegionHeld3
import Derived.Deep.AppendLies
import Derived.Laws.BytesArg
import Derived.ProofKit
namespace Go.Proofs.Ythhjjijnjfbibaa
open Go.RowKit

theorem info5 : (Try.prog.info? 5).map (fun i => (i.zero, i.size, i.bytes)) = some (some (.int .u8 0), 1, 1) := by kernel_rfl

/-- f 0, .., f (k - 1), as bytes. -/
def byteVals (f : Nat → Nat) (k : Nat) : List Value := (List.range k).map fun i => .int .u8 (f i : Nat)
/-- .. the first k of n; noughts behind. -/
def partVals (f : Nat → Nat) (k n : Nat) : List Value := (List.range n).map fun i => if i < k then .int .u8 (f i : Nat) else .int .u8 0

theorem partVals_zero (f : Nat → Nat) (n : Nat) : partVals f 0 n = List.replicate n (.int .u8 0) := by
  apply List.ext_getElem <;> simp [partVals]
theorem partVals_full (f : Nat → Nat) (n : Nat) : partVals f n n = byteVals f n := by
  apply List.map_congr_left
  intro i hi
  simp at hi
  simp [hi]
theorem partVals_set (f : Nat → Nat) (k n : Nat) : (partVals f k n).set k (.int .u8 (f k : Nat)) = partVals f (k + 1) n := by
  apply List.ext_getElem
  · simp [partVals]
  · intro i h1 h2
    simp only [partVals, List.getElem_set, List.getElem_map, List.getElem_range]
    by_cases h : k = i
    · subst h; simp
    · rw [if_neg h]
      by_cases h3 : i < k
      · rw [if_pos h3, if_pos (by omega)]
      · rw [if_neg h3, if_neg (by omega)]
theorem partVals_at (f : Nat → Nat) (k n : Nat) (h : k < n) : (partVals f k n)[k]? = some (.int .u8 0) := by simp [partVals, h]

def xorAt (za zb : List Nat) (i : Nat) : Nat := za.getD i 0 ^^^ zb.getD i 0

theorem u8_xor_getD (za zb : List Nat) (hza : ∀ z ∈ za, z < 256) (hzb : ∀ z ∈ zb, z < 256) (i : Nat) : bits .xor .u8 ((za.getD i 0 : Nat) : Int) ((zb.getD i 0 : Nat) : Int) = ((xorAt za zb i : Nat) : Int) :=
  u8_xor_nat _ _ (getD_of_all hza i) (getD_of_all hzb i)

set_option maxRecDepth 100000 in
set_option maxHeartbeats 1000000 in
theorem xor_some (ba oa ca bb ob cb la lb : Nat) (za zb : List Nat) (N : Nat) (hN : N = min la lb) (w : World) (hla : la ≤ 60000) (hba : ba < w.heap.size) (hbb : bb < w.heap.size) (hza : ∀ z ∈ za, z < 256) (hzb : ∀ z ∈ zb, z < 256)
    (hA : ∀ i, i < la → w.cell? ⟨ba, oa + i, none⟩ = some (.int .u8 (za.getD i 0 : Nat))) (hB : ∀ i, i < lb → w.cell? ⟨bb, ob + i, none⟩ = some (.int .u8 (zb.getD i 0 : Nat))) :
    Calls Try.prog 8 #[.slice (some ⟨ba, oa, none⟩) la ca, .slice (some ⟨bb, ob, none⟩) lb cb] w fun e w' =>
      ∃ v, e = .returned v ∧ w'.ownsRow w.heap.size 5 1 v N (byteVals (xorAt za zb) N) ∧ Below w.heap.size w w' := by
  obtain ⟨i0, hi, hz0, hz1, hz2⟩ := info_parts info5
  have HN : Hid (N = min la lb) := hN
  have hNl : N ≤ 60000 := by omega
  have hNa : N ≤ la := by omega
  have hNb : N ≤ lb := by omega
  clear hN
  go_enter Try.func8, Try.ntmps8
  go_wp2_with (at_make; refine wpList_make_full _ rfl _ _ 22 rfl w.heap.size 5 i0 (.int .u8 0) 1 Try.underlying22 hi hz0 hz1 _ _ _ _ N rfl rfl (by have := HN.out; omega) (by have := HN.out; omega) (by rw [hz2]; omega) (by simp only [maxLen]; omega) (Nat.le_refl _) ?_; intro w1 hown1 hgrow1)
  all_goals
    have hB1 : Below w.heap.size w w1 := (Below.refl _ w).grown hgrow1 (Nat.le_refl _) (fun k e => by cases e)
    have hown2 : w1.ownsRow w.heap.size 5 1 (.slice (some ⟨w.heap.size, 0, none⟩) N N) N (partVals (xorAt za zb) 0 N) := by
      rw [partVals_zero]
      have e := toList_madeCells_one (.int .u8 0) N
      rw [← e]
      simpa [Value.cells] using hown1
    clear hown1 hgrow1
    go_loopw [15] (fun i wr => ∃ k : Nat, k ≤ N ∧ i = .int .i64 k ∧ wr.ownsRow w.heap.size 5 1 (.slice (some ⟨w.heap.size, 0, none⟩) N N) N (partVals (xorAt za zb) k N) ∧ Below w.heap.size w wr)
      (fun i _ => N - (intOf i).toNat)
    case atStart => exact ⟨0, Nat.zero_le _, rfl, hown2, hB1⟩
    case round =>
      obtain ⟨k, hk, rfl, hown, hbel⟩ := hrel
      by_cases hlt : k < N
      · have cA := (hbel.cell (p := ⟨ba, oa + k, none⟩) hba).trans (hA k (by omega))
        have cB := (hbel.cell (p := ⟨bb, ob + k, none⟩) hbb).trans (hB k (by omega))
        have cO := (hown.cellAt k (by omega)).trans (partVals_at _ k N hlt)
        have fO := hown.frozenAt k
        have hx := u8_xor_getD za zb hza hzb k
        have hna : w.heap.size ≠ ba := by omega
        have hnb : w.heap.size ≠ bb := by omega
        have i1 : (k : Int) < (la : Int) := by omega
        have i2 : (k : Int) < (lb : Int) := by omega
        have i3 : (k : Int) < (N : Int) := by omega
        have HB : Hid (Below w.heap.size w wr) := hbel
        have HO : Hid (wr.ownsRow w.heap.size 5 1 (.slice (some ⟨w.heap.size, 0, none⟩) N N) N (partVals (xorAt za zb) k N)) := hown
        clear hbel hown hown2 hB1 hA hB hza hzb
        generalize za.getD k 0 = x at *
        generalize zb.getD k 0 = y at *
        go_wp2
        go_region_held3 (fun w' => w'.cell? ⟨ba, oa + k, none⟩ = some (.int .u8 x) ∧ w'.cell? ⟨bb, ob + k, none⟩ = some (.int .u8 y)) (go_keep) (fail)
        go_wp2
        go_roundw
        case rel =>
          exact ⟨k + 1, by omega, by go_num, by rw [← partVals_set]; exact (HO.out.stored k _).1.drew, (HB.out.setCell (p := ⟨w.heap.size, k, none⟩) (Nat.le_refl _) _).drew⟩
        case measure => simp [intOf]; omega
      · obtain rfl : k = N := by omega
        go_wp2
        go_ret
        exact ⟨_, rfl, by rw [← partVals_full]; exact hown, hbel⟩

set_option maxRecDepth 100000 in
set_option maxHeartbeats 1000000 in
theorem xor_none (pa pb : Option Addr) (ca cb la lb : Nat) (hz : min la lb = 0) (hla : la ≤ 60000) (hlb : lb ≤ 60000) (w : World) :
    Calls Try.prog 8 #[.slice pa la ca, .slice pb lb cb] w fun e w' => ∃ v, e = .returned v ∧ w'.ownsRow w.heap.size 5 1 v 0 [] ∧ Below w.heap.size w w' := by
  obtain ⟨i0, hi, hz0, hz1, hz2⟩ := info_parts info5
  have HZ : Hid (min la lb = 0) := hz
  clear hz
  go_enter Try.func8, Try.ntmps8
  go_wp2_with (at_make; refine wpList_make_full _ rfl _ _ 22 rfl w.heap.size 5 i0 (.int .u8 0) 1 Try.underlying22 hi hz0 hz1 _ _ _ _ 0 rfl rfl (by have := HZ.out; omega) (by have := HZ.out; omega) (by omega) (by simp only [maxLen]; omega) (Nat.le_refl _) ?_; intro w1 hown1 hgrow1)
  all_goals
    have hB1 : Below w.heap.size w w1 := (Below.refl _ w).grown hgrow1 (Nat.le_refl _) (fun k e => by cases e)
    have hown2 : w1.ownsRow w.heap.size 5 1 (.slice (some ⟨w.heap.size, 0, none⟩) 0 0) 0 [] := by simpa [madeCells] using hown1
    clear hown1 hgrow1
    go_loopw [15] (fun i wr => i = .int .i64 0 ∧ wr = w1) (fun _ _ => 0)
    case atStart => exact ⟨rfl, rfl⟩
    case round =>
      obtain ⟨rfl, rfl⟩ := hrel
      go_wp2
      go_ret
      exact ⟨_, rfl, hown2, hB1⟩

/-- vec.Xor -/
theorem xor_any (pa pb : Option Addr) (ca cb la lb : Nat) (za zb : List Nat) (w : World) (hla : la ≤ 60000) (hlb : lb ≤ 60000) (hA : IsBytes w.heap.size w pa la ca za) (hB : IsBytes w.heap.size w pb lb cb zb) :
    Calls Try.prog 8 #[.slice pa la ca, .slice pb lb cb] w fun e w' =>
      ∃ v, e = .returned v ∧ w'.ownsRow w.heap.size 5 1 v (min la lb) (byteVals (xorAt za zb) (min la lb)) ∧ Below w.heap.size w w' := by
  obtain ⟨_, _, _, hza, rfl | ⟨ba, oa, rfl, hba, hca⟩⟩ := hA
  · rw [show min 0 lb = 0 by omega]
    exact xor_none _ _ _ _ _ _ (by omega) hla hlb w
  obtain ⟨_, _, _, hzb, rfl | ⟨bb, ob, rfl, hbb, hcb⟩⟩ := hB
  · rw [show min la 0 = 0 by omega]
    exact xor_none _ _ _ _ _ _ (by omega) hla hlb w
  exact xor_some ba oa ca bb ob cb la lb za zb _ rfl w hla hba hbb hza hzb hca hcb

theorem byteVals_succ (f : Nat → Nat) (k : Nat) : byteVals f k ++ [.int .u8 (f k : Nat)] = byteVals f (k + 1) := by simp [byteVals, List.range_succ]

set_option maxRecDepth 100000 in
set_option maxHeartbeats 1000000 in
theorem refXor_some (ba oa ca bb ob cb la lb : Nat) (za zb : List Nat) (N : Nat) (hN : N = min la lb) (w : World) (hla : la ≤ 60000) (hba : ba < w.heap.size) (hbb : bb < w.heap.size) (hza : ∀ z ∈ za, z < 256) (hzb : ∀ z ∈ zb, z < 256)
    (hA : ∀ i, i < la → w.cell? ⟨ba, oa + i, none⟩ = some (.int .u8 (za.getD i 0 : Nat))) (hB : ∀ i, i < lb → w.cell? ⟨bb, ob + i, none⟩ = some (.int .u8 (zb.getD i 0 : Nat))) :
    Calls Try.prog 9 #[.slice (some ⟨ba, oa, none⟩) la ca, .slice (some ⟨bb, ob, none⟩) lb cb] w fun e w' =>
      ∃ v, e = .returned v ∧ w'.ownsRow w.heap.size 5 1 v N (byteVals (xorAt za zb) N) ∧ Below w.heap.size w w' := by
  obtain ⟨i0, hi, hz0, hz1, hz2⟩ := info_parts info5
  have HN : Hid (N = min la lb) := hN
  have hNl : N ≤ 60000 := by omega
  have hNa : N ≤ la := by omega
  have hNb : N ≤ lb := by omega
  clear hN
  go_enter Try.func9, Try.ntmps9
  go_wp2
  go_loopw [5, 6] (fun v i wr => ∃ k : Nat, k ≤ N ∧ i = .int .i64 k ∧ wr.ownsRow w.heap.size 5 1 v k (byteVals (xorAt za zb) k) ∧ Below w.heap.size w wr)
    (fun _ i _ => N - (intOf i).toNat)
  case atStart => exact ⟨0, Nat.zero_le _, rfl, World.ownsRow_nil _ _ _ _, Below.refl _ _⟩
  case round =>
    obtain ⟨k, hk, rfl, hown, hbel⟩ := hrel
    by_cases hlt : k < N
    · have cA := (hbel.cell (p := ⟨ba, oa + k, none⟩) hba).trans (hA k (by omega))
      have cB := (hbel.cell (p := ⟨bb, ob + k, none⟩) hbb).trans (hB k (by omega))
      have hx := u8_xor_getD za zb hza hzb k
      have i1 : (k : Int) < (la : Int) := by omega
      have i2 : (k : Int) < (lb : Int) := by omega
      have hsz := hbel.size
      have hne : ∀ b, b < w.heap.size → some b ≠ u5.ownBlock := fun b hb e => by have := (hown.lt b e.symm).1; omega
      have hnA := hne ba hba
      have hnB := hne bb hbb
      have HB : Hid (Below w.heap.size w wr) := hbel
      have HO : Hid (wr.ownsRow w.heap.size 5 1 u5 k (byteVals (xorAt za zb) k)) := hown
      clear hbel hown hA hB hza hzb hne
      generalize za.getD k 0 = x at *
      generalize zb.getD k 0 = y at *
      go_wp2
      go_region_held3 (fun w' => w'.cell? ⟨ba, oa + k, none⟩ = some (.int .u8 x) ∧ w'.cell? ⟨bb, ob + k, none⟩ = some (.int .u8 y))
        (first
          | go_keep
          | (go_split_ands
             refine ⟨?_, ?_⟩
             · (rw [hgrow.cell_far _ (by simp; omega) hnA]; assumption)
             · (rw [hgrow.cell_far _ (by simp; omega) hnB]; assumption)))
        ((refine step_append_lies _ (by rfl) _ _ _ (by rfl) w.heap.size 5 i0 _ 1 1 Try.underlying22 hi hz0 hz1 hz2 rfl (by omega) u5 k _ (by rfl) ((HO.out.alloc _).drew)
            ⟨wr.heap.size, 0, none⟩ 1 1 [.int .u8 (xorAt za zb k : Nat)] (by rfl) (by rfl) (World.news_of_block (cs := #[.int .u8 (xorAt za zb k : Nat)]) (t := 5) (fr := (0, 0)) (heap_alloc_new wr _)) (by simp [Value.oneCell'])
            (by omega) (by simp only [maxLen]; omega) (by omega) (by simp; omega) (wr.heap.size + 1) (by simp) ?_; intro gg cap w1 hown1 hgrow hat hlt1))
      go_wp2
      go_roundw
      case rel =>
        exact ⟨k + 1, by omega, by go_num, by rw [← byteVals_succ]; exact hown1, ((HB.out.alloc hsz _).drew).grown hgrow (by simp; omega) (fun j e => (HO.out.lt j e).1)⟩
      case measure => simp [intOf]; omega
    · obtain rfl : k = N := by omega
      by_cases i1 : la ≤ k
      · have i1' : ¬ (k : Int) < (la : Int) := by omega
        go_wp2
        go_ret
        exact ⟨_, rfl, hown, hbel⟩
      · have i1' : (k : Int) < (la : Int) := by omega
        have i2' : ¬ (k : Int) < (lb : Int) := by have := HN.out; omega
        go_wp2
        go_ret
        exact ⟨_, rfl, hown, hbel⟩

set_option maxRecDepth 100000 in
set_option maxHeartbeats 1000000 in
theorem refXor_none (pa pb : Option Addr) (ca cb la lb : Nat) (hz : la = 0 ∨ lb = 0) (hla : la ≤ 60000) (hlb : lb ≤ 60000) (w : World) :
    Calls Try.prog 9 #[.slice pa la ca, .slice pb lb cb] w fun e w' => ∃ v, e = .returned v ∧ w'.ownsRow w.heap.size 5 1 v 0 [] ∧ Below w.heap.size w w' := by
  have H : ∀ la lb : Nat, la ≤ 60000 → lb ≤ 60000 → (la = 0 ∨ ((0 : Int) < (la : Int) ∧ lb = 0)) → Calls Try.prog 9 #[.slice pa la ca, .slice pb lb cb] w fun e w' => ∃ v, e = .returned v ∧ w'.ownsRow w.heap.size 5 1 v 0 [] ∧ Below w.heap.size w w' := by
    intro la lb hla hlb h
    rcases h with rfl | ⟨h, rfl⟩
    all_goals
      go_enter Try.func9, Try.ntmps9
      go_wp2
      go_loopw [5, 6] (fun v i wr => v = .slice none 0 0 ∧ i = .int .i64 0 ∧ wr = w) (fun _ _ _ => 0)
      case atStart => exact ⟨rfl, rfl, rfl⟩
      case round =>
        obtain ⟨rfl, rfl, rfl⟩ := hrel
        go_wp2
        go_ret
        exact ⟨_, rfl, World.ownsRow_nil _ _ _ _, Below.refl _ _⟩
  exact H la lb hla hlb (by omega)

/-- the reference's Xor -/
theorem refXor_any (pa pb : Option Addr) (ca cb la lb : Nat) (za zb : List Nat) (w : World) (hla : la ≤ 60000) (hlb : lb ≤ 60000) (hA : IsBytes w.heap.size w pa la ca za) (hB : IsBytes w.heap.size w pb lb cb zb) :
    Calls Try.prog 9 #[.slice pa la ca, .slice pb lb cb] w fun e w' =>
      ∃ v, e = .returned v ∧ w'.ownsRow w.heap.size 5 1 v (min la lb) (byteVals (xorAt za zb) (min la lb)) ∧ Below w.heap.size w w' := by
  obtain ⟨_, _, _, hza, rfl | ⟨ba, oa, rfl, hba, hca⟩⟩ := hA
  · rw [show min 0 lb = 0 by omega]
    exact refXor_none _ _ _ _ _ _ (by omega) hla hlb w
  obtain ⟨_, _, _, hzb, rfl | ⟨bb, ob, rfl, hbb, hcb⟩⟩ := hB
  · rw [show min la 0 = 0 by omega]
    exact refXor_none _ _ _ _ _ _ (by omega) hla hlb w
  exact refXor_some ba oa ca bb ob cb la lb za zb _ rfl w hla hba hbb hza hzb hca hcb

/-- What has come together of the first k bytes that are unlike. -/
def orTo (za zb : List Nat) : Nat → Nat
  | 0 => 0
  | k + 1 => orTo za zb k ||| xorAt za zb k

theorem orTo_lt (za zb : List Nat) (hza : ∀ z ∈ za, z < 256) (hzb : ∀ z ∈ zb, z < 256) : ∀ k, orTo za zb k < 256
  | 0 => by simp [orTo]
  | k + 1 => Nat.or_lt_two_pow (n := 8) (orTo_lt za zb hza hzb k) (Nat.xor_lt_two_pow (n := 8) (getD_of_all hza k) (getD_of_all hzb k))

theorem xor_zero_iff (a b : Nat) : a ^^^ b = 0 ↔ a = b := by
  constructor
  · intro h
    have : (a ^^^ b) ^^^ b = 0 ^^^ b := by rw [h]
    simpa [Nat.xor_assoc] using this
  · rintro rfl; simp

theorem orTo_zero (za zb : List Nat) : ∀ k, orTo za zb k = 0 ↔ ∀ i, i < k → za.getD i 0 = zb.getD i 0
  | 0 => by simp [orTo]
  | k + 1 => by
    rw [orTo, Nat.or_eq_zero_iff, orTo_zero za zb k, xorAt, xor_zero_iff]
    constructor
    · rintro ⟨h1, h2⟩ i hi
      by_cases h : i = k
      · subst h; exact h2
      · exact h1 i (by omega)
    · intro h
      exact ⟨fun i hi => h i (by omega), h k (by omega)⟩

theorem orTo_eq (za zb : List Nat) (h : za.length = zb.length) : (((orTo za zb za.length : Nat) : Int) == 0) = decide (za = zb) := by
  rw [Bool.eq_iff_iff]
  simp only [beq_iff_eq, decide_eq_true_eq]
  rw [show (((orTo za zb za.length : Nat) : Int) = 0 ↔ orTo za zb za.length = 0) by omega, orTo_zero]
  constructor
  · intro H
    apply List.ext_getElem h
    intro i h1 h2
    have := H i h1
    simpa [List.getElem?_eq_getElem h1, List.getElem?_eq_getElem h2] using this
  · rintro rfl i _; rfl

theorem or_step (za zb : List Nat) (hza : ∀ z ∈ za, z < 256) (hzb : ∀ z ∈ zb, z < 256) (k : Nat) : bits .or .u8 ((orTo za zb k : Nat) : Int) ((xorAt za zb k : Nat) : Int) = ((orTo za zb (k + 1) : Nat) : Int) :=
  u8_or_nat _ _ (orTo_lt za zb hza hzb k) (Nat.xor_lt_two_pow (n := 8) (getD_of_all hza k) (getD_of_all hzb k))

set_option maxRecDepth 100000 in
set_option maxHeartbeats 1000000 in
theorem equal_some (ba oa ca bb ob cb la : Nat) (za zb : List Nat) (hzl : za.length = la) (hzl' : zb.length = la) (w : World) (hla : la ≤ 60000) (hba : ba < w.heap.size) (hbb : bb < w.heap.size) (hza : ∀ z ∈ za, z < 256) (hzb : ∀ z ∈ zb, z < 256)
    (hA : ∀ i, i < la → w.cell? ⟨ba, oa + i, none⟩ = some (.int .u8 (za.getD i 0 : Nat))) (hB : ∀ i, i < la → w.cell? ⟨bb, ob + i, none⟩ = some (.int .u8 (zb.getD i 0 : Nat))) :
    Calls Try.prog 10 #[.slice (some ⟨ba, oa, none⟩) la ca, .slice (some ⟨bb, ob, none⟩) la cb] w fun e w' => e = .returned (.bool (decide (za = zb))) ∧ Below w.heap.size w w' := by
  have HE : Hid ((((orTo za zb la : Nat) : Int) == 0) = decide (za = zb)) := by
    have := orTo_eq za zb (by omega)
    rwa [hzl] at this
  clear hzl hzl'
  go_enter Try.func10, Try.ntmps10
  go_wp2
  go_loopw [5, 14] (fun u i wr => ∃ k : Nat, k ≤ la ∧ i = .int .i64 k ∧ u = .int .u8 (orTo za zb k : Nat) ∧ Below w.heap.size w wr)
    (fun _ i _ => la - (intOf i).toNat)
  case atStart => exact ⟨0, Nat.zero_le _, rfl, rfl, Below.refl _ _⟩
  case round =>
    obtain ⟨k, hk, rfl, rfl, hbel⟩ := hrel
    by_cases hlt : k < la
    · have cA := (hbel.cell (p := ⟨ba, oa + k, none⟩) hba).trans (hA k hlt)
      have cB := (hbel.cell (p := ⟨bb, ob + k, none⟩) hbb).trans (hB k hlt)
      have hx := u8_xor_getD za zb hza hzb k
      have ho := or_step za zb hza hzb k
      have i1 : (k : Int) < (la : Int) := by omega
      have HB : Hid (Below w.heap.size w wr) := hbel
      clear hbel hA hB hza hzb
      generalize za.getD k 0 = x at *
      generalize zb.getD k 0 = y at *
      go_wp2
      go_region_held3 (fun w' => w'.cell? ⟨ba, oa + k, none⟩ = some (.int .u8 x) ∧ w'.cell? ⟨bb, ob + k, none⟩ = some (.int .u8 y)) (go_keep) (fail)
      go_wp2
      go_roundw
      case rel => exact ⟨k + 1, by omega, by go_num, rfl, HB.out.drew⟩
      case measure => simp [intOf]; omega
    · obtain rfl : k = la := by omega
      go_wp2
      go_ret
      exact ⟨by rw [← HE.out]; rfl, hbel⟩

set_option maxHeartbeats 1000000 in
theorem equal_unlike (pa pb : Option Addr) (ca cb la lb : Nat) (hne : la ≠ lb) (w : World) :
    Calls Try.prog 10 #[.slice pa la ca, .slice pb lb cb] w fun e w' => e = .returned (.bool false) ∧ Below w.heap.size w w' := by
  have hne' : ((la : Int) == (lb : Int)) = false := by simp; omega
  have hne2 : ((la : Int) != (lb : Int)) = true := by simp; omega
  go_enter Try.func10, Try.ntmps10
  go_wp2
  go_ret
  exact ⟨rfl, Below.refl _ _⟩

set_option maxRecDepth 100000 in
set_option maxHeartbeats 1000000 in
theorem equal_none (pa pb : Option Addr) (ca cb : Nat) (w : World) :
    Calls Try.prog 10 #[.slice pa 0 ca, .slice pb 0 cb] w fun e w' => e = .returned (.bool true) ∧ Below w.heap.size w w' := by
  go_enter Try.func10, Try.ntmps10
  go_wp2
  go_loopw [5, 14] (fun u i wr => u = .int .u8 0 ∧ i = .int .i64 0 ∧ wr = w) (fun _ _ _ => 0)
  case atStart => exact ⟨rfl, rfl, rfl⟩
  case round =>
    obtain ⟨rfl, rfl, rfl⟩ := hrel
    go_wp2
    go_ret
    exact ⟨rfl, Below.refl _ _⟩

/-- vec.Equal -/
theorem equal_any (pa pb : Option Addr) (ca cb la lb : Nat) (za zb : List Nat) (w : World) (hla : la ≤ 60000) (hlb : lb ≤ 60000) (hA : IsBytes w.heap.size w pa la ca za) (hB : IsBytes w.heap.size w pb lb cb zb) :
    Calls Try.prog 10 #[.slice pa la ca, .slice pb lb cb] w fun e w' => e = .returned (.bool (decide (za = zb))) ∧ Below w.heap.size w w' := by
  by_cases hl : la = lb
  · subst hl
    obtain ⟨h1, _, _, hza, ha⟩ := hA
    obtain ⟨h2, _, _, hzb, hb⟩ := hB
    by_cases h0 : la = 0
    · subst h0
      obtain rfl := List.length_eq_zero_iff.1 h1
      obtain rfl := List.length_eq_zero_iff.1 h2
      exact equal_none pa pb ca cb w
    · rcases ha with h | ⟨ba, oa, rfl, hba, hca⟩
      · omega
      rcases hb with h | ⟨bb, ob, rfl, hbb, hcb⟩
      · omega
      exact equal_some ba oa ca bb ob cb la za zb h1 h2 w hla hba hbb hza hzb hca hcb
  · have e : decide (za = zb) = false := by
      simp only [decide_eq_false_iff_not]
      rintro rfl
      exact hl (hA.1.symm.trans hB.1)
    rw [e]
    exact equal_unlike pa pb ca cb la lb hl w

end Go.Proofs.Ythhjjijnjfbibaa
