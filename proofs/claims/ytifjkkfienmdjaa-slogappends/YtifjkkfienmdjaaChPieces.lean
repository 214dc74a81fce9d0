/-
  What vec.pieces tells: the pieces of a text by m bytes, in their order, for every loop body that keeps what lies below a bound and the cell that holds m; nothing of a nil slice, and nothing where m is below 1.
-/
import Derived.Test.YtifjkkfienmdjaaBaseAll
import Derived.Shelf.Abstract
import Derived.Shelf.RegionOpen
import Derived.WalkKit
import Derived.OwnWalkIn
import Derived.TacticsInMore
import Derived.LoopNIn
import Derived.LoopIn
import Derived.Test.YtifjkkfienmdjaaChecked
namespace Go.Proofs.Ytifjkkfienmdjaa.Ch
open Go.RowKit Go.Shelf
attribute [local go_sem] Oper.semAt_some

/-- The pieces of a text of len bytes by m: their numbers. -/
abbrev Pc (m len : Nat) : Type := { j : Nat // m * j < len }

def pcVal (bb off m len cap j : Nat) : Value := .slice (some ⟨bb, off + m * j, none⟩) (min m (len - m * j)) (cap - m * j)

/-- The length in a slot: for a loop's measure. -/
def sliceLen : Value → Nat | .slice _ L _ => L | _ => 0

/-- What a round that goes on keeps. -/
def Keeps (n₀ Bn : Nat) (W W' : World) : Prop := Below n₀ W W' ∧ ∀ v, W.cell? ⟨Bn, 0, none⟩ = some v → W'.cell? ⟨Bn, 0, none⟩ = some v

set_option maxRecDepth 100000 in
set_option maxHeartbeats 2000000 in
theorem pieces1_in (F : Fence) (n : Nat) (h24 : F.fn 59) (hro : F.round = none) (hn : 1 ≤ n) (l Bn Bb bb off len cap m : Nat) (Kp : World → World → Prop) (hKp : ∀ A B v, Kp A B → A.cell? ⟨Bn, 0, none⟩ = some v → B.cell? ⟨Bn, 0, none⟩ = some v) (hm1 : 1 ≤ m) (hm2 : (m : Int) ≤ 9223372036854775807)
    (hlc : len ≤ cap) (hcap : cap ≤ 9223372036854775807) (J Jx : List (Pc m len) → World → Prop)
    (hY : ∀ pre x W, J pre W → pre.length < len → YieldAt F (n - 1) Try.prog l #[pcVal bb off m len cap x.1] W fun e W' =>
      (e = .returned (.bool true) ∧ J (pre ++ [x]) W' ∧ Kp W W') ∨ (e = .returned (.bool false) ∧ Jx (pre ++ [x]) W'))
    (W : World) (hBn : W.cell? ⟨Bn, 0, none⟩ = some (.int .i64 m)) (hBb : W.cell? ⟨Bb, 0, none⟩ = some (.slice (some ⟨bb, off, none⟩) len cap)) (h0 : J [] W) :
    CallsIn F n Try.prog 59 #[.func (.yield l) #[] #[], .pointer (some ⟨Bn, 0, none⟩), .pointer (some ⟨Bb, 0, none⟩)] W fun e W' => (∃ v, e = .returned v) ∧
      ((∃ ys : List (Pc m len), (∃ k, len ≤ m * k ∧ ys.map (·.1) = List.range k) ∧ J ys W') ∨ (∃ pre : List (Pc m len), (∃ k, pre.map (·.1) = List.range k) ∧ Jx pre W')) := by
  refine callsIn_of_wp Try.func59 rfl h24 ?_ hro
  simp only [Try.ntmps59, List.size_toArray, List.length_cons, List.length_nil, Nat.reduceAdd, Nat.reduceSub, Array.replicate_succ, Array.replicate_zero, List.push_toArray, List.append_toArray, List.nil_append, List.cons_append]
  have hm1' : (1 : Int) ≤ (m : Int) := by omega
  have HKp : Hid (∀ A B v, Kp A B → A.cell? ⟨Bn, 0, none⟩ = some v → B.cell? ⟨Bn, 0, none⟩ = some v) := hKp
  clear hKp
  gi_wp2
  gi_loopw [4] (fun r wr => ∃ (k o L C : Nat) (p : Option Addr) (pre : List (Pc m len)), r = .slice p L C ∧ (0 < L → p = some ⟨bb, off + o, none⟩) ∧ o = min (m * k) len ∧ L + o = len ∧ C + o = cap ∧ pre.map (·.1) = List.range k ∧ J pre wr ∧ wr.cell? ⟨Bn, 0, none⟩ = some (.int .i64 m))
    (fun r _ => sliceLen r)
  case atStart => exact ⟨0, 0, len, cap, _, [], rfl, fun _ => rfl, by simp, rfl, rfl, rfl, h0, hBn⟩
  case round =>
    obtain ⟨k, o, L, C, p, pre, rfl, hp, ho, hL, hC, hpre, hJs, hcn⟩ := hrel
    have HO : Hid (o = min (m * k) len ∧ L + o = len ∧ C + o = cap) := ⟨ho, hL, hC⟩
    have HP : Hid (pre.map (·.1) = List.range k) := hpre
    have hLC : L ≤ C := by omega
    have hCc : C ≤ 9223372036854775807 := by omega
    clear ho hpre hL hC
    by_cases hLz : 0 < L
    · obtain rfl := hp hLz
      have hok : m * k < len := by have := HO.out; omega
      have hpl : pre.length = k := by have := congrArg List.length HP.out; simpa using this
      have hkl : k < len := by have := Nat.le_mul_of_pos_left k (show 0 < m by omega); omega
      have hLi : (0 : Int) < (L : Int) := by omega
      obtain ⟨x, hx⟩ : ∃ x : Pc m len, x.1 = k := ⟨⟨k, hok⟩, rfl⟩
      obtain ⟨fn, tmps, assign, body, hy, hR⟩ := hY pre x wr hJs (by omega)
      have HP2 : Hid ((pre ++ [x]).map (·.1) = List.range (k + 1)) := by
        show _ = _
        rw [List.map_append, HP.out, List.range_succ]; simp [hx]
      rw [hx] at hy
      have HOK : Hid (m * k < len) := hok
      clear hok hpl hx hkl HP hY hp
      by_cases hmL : m ≤ L
      · have hmLi : (m : Int) ≤ (L : Int) := by omega
        have e : pcVal bb off m len cap k = .slice (some ⟨bb, off + o, none⟩) m C := by
          have := HO.out; have := HOK.out; unfold pcVal; rw [show m * k = o by omega, show min m (len - o) = m by omega, show cap - o = C by omega]
        rw [e] at hy
        clear e
        gi_wp2
        refine hR.mono ?_
        rintro e W3 (⟨rfl, hJ3, hk3⟩ | ⟨rfl, hJx3⟩)
        · have hcn3 := HKp.out _ _ _ hk3 hcn
          gi_wp2
          go_roundw
          case rel =>
            have h1 := HO.out
            have h2 := HOK.out
            have h3 : m * (k + 1) = m * k + m := Nat.mul_succ m k
            exact ⟨k + 1, o + m, L - m, C - m, _, pre ++ [x], rfl, fun hh => by rw [if_neg (by omega), Nat.add_assoc], by omega, by omega, by omega, HP2.out, hJ3, hcn3⟩
          case measure => simp only [sliceLen]; omega
        · gi_wp2
          refine bodyPost_ret (results_none rfl _ _ _) rfl ?_
          exact ⟨⟨_, rfl⟩, .inr ⟨pre ++ [x], ⟨_, HP2.out⟩, hJx3⟩⟩
      · have hmLi : ¬ (m : Int) ≤ (L : Int) := by omega
        have hmLj : (L : Int) < (m : Int) := by omega
        have e : pcVal bb off m len cap k = .slice (some ⟨bb, off + o, none⟩) L C := by
          have := HO.out; have := HOK.out; unfold pcVal; rw [show m * k = o by omega, show min m (len - o) = L by omega, show cap - o = C by omega]
        rw [e] at hy
        clear e
        gi_wp2
        refine hR.mono ?_
        rintro e W3 (⟨rfl, hJ3, hk3⟩ | ⟨rfl, hJx3⟩)
        · have hcn3 := HKp.out _ _ _ hk3 hcn
          gi_wp2
          go_roundw
          case rel =>
            have h1 := HO.out
            have h2 := HOK.out
            have h3 : m * (k + 1) = m * k + m := Nat.mul_succ m k
            exact ⟨k + 1, len, 0, C - L, _, pre ++ [x], rfl, fun hh => by omega, by omega, by omega, by omega, HP2.out, hJ3, hcn3⟩
          case measure => simp only [sliceLen]; omega
        · gi_wp2
          refine bodyPost_ret (results_none rfl _ _ _) rfl ?_
          exact ⟨⟨_, rfl⟩, .inr ⟨pre ++ [x], ⟨_, HP2.out⟩, hJx3⟩⟩
    · obtain rfl : L = 0 := by omega
      gi_wp2
      go_end0
      exact ⟨⟨_, rfl⟩, .inl ⟨pre, ⟨k, by have := HO.out; omega, HP.out⟩, hJs⟩⟩

set_option maxRecDepth 100000 in
set_option maxHeartbeats 1000000 in
/-- .. of no bytes: no round. -/
theorem pieces1_none_in (F : Fence) (n : Nat) (h24 : F.fn 59) (hro : F.round = none) (l Bn Bb m : Nat) (hm1 : 1 ≤ m) (hm2 : (m : Int) ≤ 9223372036854775807) (p : Option Addr) (c : Nat) (J : World → Prop)
    (W : World) (hBn : W.cell? ⟨Bn, 0, none⟩ = some (.int .i64 m)) (hBb : W.cell? ⟨Bb, 0, none⟩ = some (.slice p 0 c)) (h0 : J W) :
    CallsIn F n Try.prog 59 #[.func (.yield l) #[] #[], .pointer (some ⟨Bn, 0, none⟩), .pointer (some ⟨Bb, 0, none⟩)] W fun e W' => (∃ v, e = .returned v) ∧ J W' := by
  refine callsIn_of_wp Try.func59 rfl h24 ?_ hro
  simp only [Try.ntmps59, List.size_toArray, List.length_cons, List.length_nil, Nat.reduceAdd, Nat.reduceSub, Array.replicate_succ, Array.replicate_zero, List.push_toArray, List.append_toArray, List.nil_append, List.cons_append]
  have hm1' : (1 : Int) ≤ (m : Int) := by omega
  gi_wp2
  gi_loopw [4] (fun r wr => r = .slice p 0 c ∧ J wr) (fun _ _ => 0)
  case atStart => exact ⟨rfl, h0⟩
  case round =>
    obtain ⟨rfl, hJs⟩ := hrel
    gi_wp2
    go_end0
    exact ⟨⟨_, rfl⟩, hJs⟩

set_option maxRecDepth 100000 in
set_option maxHeartbeats 1000000 in
/-- .. by a number below 1: no round. -/
theorem pieces1_low_in (F : Fence) (n : Nat) (h24 : F.fn 59) (hro : F.round = none) (l Bn Bb : Nat) (z : Int) (hz : z < 1) (J : World → Prop)
    (W : World) (hBn : W.cell? ⟨Bn, 0, none⟩ = some (.int .i64 z)) (h0 : J W) :
    CallsIn F n Try.prog 59 #[.func (.yield l) #[] #[], .pointer (some ⟨Bn, 0, none⟩), .pointer (some ⟨Bb, 0, none⟩)] W fun e W' => (∃ v, e = .returned v) ∧ J W' := by
  refine callsIn_of_wp Try.func59 rfl h24 ?_ hro
  simp only [Try.ntmps59, List.size_toArray, List.length_cons, List.length_nil, Nat.reduceAdd, Nat.reduceSub, Array.replicate_succ, Array.replicate_zero, List.push_toArray, List.append_toArray, List.nil_append, List.cons_append]
  gi_wp2
  refine bodyPost_ret (results_none rfl _ _ _) rfl ?_
  exact ⟨⟨_, rfl⟩, h0⟩

set_option maxHeartbeats 1000000 in
/-- vec.pieces: both arguments are boxed; the function value captures the boxes. -/
theorem pieces_in (F : Fence) (n : Nat) (h20 : F.fn 58) (hro : F.round = none) (p : Option Addr) (len cap : Nat) (z : Int) (w : World) :
    CallsIn F n Try.prog 58 #[.slice p len cap, .int .i64 z] w fun e w' =>
      e = .returned (.func (.func 59) #[] #[.pointer (some ⟨w.heap.size + 1, 0, none⟩), .pointer (some ⟨w.heap.size, 0, none⟩)]) ∧ w' = (w.alloc (.cells #[.slice p len cap] 25)).alloc (.cells #[.int .i64 z] 3) := by
  refine callsIn_of_wp Try.func58 rfl h20 ?_ hro
  simp only [Try.ntmps58, List.size_toArray, List.length_cons, List.length_nil, Nat.reduceAdd, Nat.reduceSub, Array.replicate_succ, Array.replicate_zero, List.push_toArray, List.append_toArray, List.nil_append, List.cons_append]
  gi_wp2
  go_ret
  exact ⟨rfl, rfl⟩

/-- The block and the offset of a slice. -/
def blk : Option Addr → Nat | some a => a.block | none => 0
def offs : Option Addr → Nat | some a => a.off | none => 0

/-- The function value that vec.pieces hands back tells the pieces. -/
theorem pieces_stops (F : Fence) (n : Nat) (h24 : F.fn 59) (hro : F.round = none) (hn : 1 ≤ n) (Bn Bb n₀ : Nat) (p : Option Addr) (len cap : Nat) (zs : List Nat) (m : Nat) (hm1 : 1 ≤ m) (hm2 : (m : Int) ≤ 9223372036854775807) (w : World)
    (hBn : Bn < w.heap.size) (hBb : Bb < w.heap.size) (hn₀ : n₀ ≤ w.heap.size)
    (hcn : w.cell? ⟨Bn, 0, none⟩ = some (.int .i64 m)) (hcb : w.cell? ⟨Bb, 0, none⟩ = some (.slice p len cap)) (hI : IsBytes n₀ w p len cap zs) :
    SeqStopsK F n Try.prog 59 #[.pointer (some ⟨Bn, 0, none⟩), .pointer (some ⟨Bb, 0, none⟩)] (fun x : Pc m len => #[pcVal (blk p) (offs p) m len cap x.1]) (Keeps n₀ Bn)
      (fun ys => ∃ k, len ≤ m * k ∧ ys.map (·.1) = List.range k) (fun pre => ∃ k, pre.map (·.1) = List.range k) len w := fun l J Jx W hW _ _ hY h0 => by
  have hcn' := (hW.cell (p := ⟨Bn, 0, none⟩) hBn).trans hcn
  have hcb' := (hW.cell (p := ⟨Bb, 0, none⟩) hBb).trans hcb
  rcases hI.below (hW.mono hn₀) with ⟨_, h2, h3, _, rfl | ⟨b, off, rfl, hb, hcs⟩⟩
  · exact (pieces1_none_in F n h24 hro l Bn Bb m hm1 hm2 p cap (J []) W hcn' hcb' h0).mono fun e W' ⟨he, hj⟩ => ⟨he, .inl ⟨[], ⟨0, by simp, rfl⟩, hj⟩⟩
  · exact pieces1_in F n h24 hro hn l Bn Bb b off len cap m (Keeps n₀ Bn) (fun _ _ v h => h.2 v) hm1 hm2 h2 h3 J Jx hY W hcn' hcb' h0


/-- The same, told to a loop whose iterator may itself be within another one: nothing is asked of a round but that it keeps the cell that holds m. -/
theorem pieces_iter (F : Fence) (n : Nat) (h24 : F.fn 59) (hro : F.round = none) (hn : 1 ≤ n) (l Bn Bb : Nat) (p : Option Addr) (len cap : Nat) (m : Nat) (hm1 : 1 ≤ m) (hm2 : (m : Int) ≤ 9223372036854775807)
    (Kp : World → World → Prop) (hKp : ∀ A B v, Kp A B → A.cell? ⟨Bn, 0, none⟩ = some v → B.cell? ⟨Bn, 0, none⟩ = some v) (W : World)
    (hcn : W.cell? ⟨Bn, 0, none⟩ = some (.int .i64 m)) (hcb : W.cell? ⟨Bb, 0, none⟩ = some (.slice p len cap)) (hlc : len ≤ cap) (hcap : cap ≤ 9223372036854775807) (hp : len = 0 ∨ ∃ b off, p = some ⟨b, off, none⟩) :
    IterAt F n Try.prog 59 #[.pointer (some ⟨Bn, 0, none⟩), .pointer (some ⟨Bb, 0, none⟩)] (fun x : Pc m len => #[pcVal (blk p) (offs p) m len cap x.1]) (fun _ _ => True) Kp
      (fun ys => ∃ k, len ≤ m * k ∧ ys.map (·.1) = List.range k) (fun pre => ∃ k, pre.map (·.1) = List.range k) len l W := fun J Jx _ _ hY h0 => by
  rcases hp with rfl | ⟨b, off, rfl⟩
  · exact (pieces1_none_in F n h24 hro l Bn Bb m hm1 hm2 p cap (J []) W hcn hcb h0).mono fun e W' ⟨he, hj⟩ => ⟨he, .inl ⟨[], ⟨0, by simp, rfl⟩, hj⟩⟩
  · exact pieces1_in F n h24 hro hn l Bn Bb b off len cap m Kp hKp hm1 hm2 hlc hcap J Jx (fun pre x W1 hj hlt => by
      obtain ⟨fn, tmps, assign, body, hy, hR⟩ := hY pre x W1 hj trivial hlt
      exact ⟨fn, tmps, assign, body, hy, hR.mono fun e W' h => by
        rcases h with h | h
        · exact .inl h
        · exact .inr ⟨h.1, h.2.1⟩⟩) W hcn hcb h0

end Go.Proofs.Ytifjkkfienmdjaa.Ch
