/-
  What TapeTakes answers: true, whatever the bytes and the numbers. Nothing that lay before the call has turned.
-/
import Derived.Test.YtfkhabiahfchaaaAwake
import Derived.Test.YtfkhabiahfchaaaRefTake
import Derived.Deep.QuietTactic
import Derived.BigQuiet
import Derived.OpenShut
import Derived.ChangeOld
namespace Go.Proofs.Ytfkhabiahfchaaa
open Go.ChangeShapes Go.WideShapes Go.ChangeAt Go.RowKit

/-- A slice of numbers. -/
def IsInts (n₀ : Nat) (W : World) (p : Option Addr) (len cap : Nat) (zs : List Int) : Prop :=
  zs.length = len ∧ len ≤ cap ∧ (len = 0 ∨ ∃ b off, p = some ⟨b, off, none⟩ ∧ b < n₀ ∧ ∀ i, i < len → W.cell? ⟨b, off + i, none⟩ = some (.int .i64 (zs.getD i 0)))
theorem IsInts.below {n₀ : Nat} {A B : World} (h : Below n₀ A B) {p : Option Addr} {len cap : Nat} {zs : List Int} : IsInts n₀ A p len cap zs → IsInts n₀ B p len cap zs
  | ⟨h1, h2, .inl e⟩ => ⟨h1, h2, .inl e⟩
  | ⟨h1, h2, .inr ⟨b, off, e, hb, hc⟩⟩ => ⟨h1, h2, .inr ⟨b, off, e, hb, fun i hi => (h.cell (p := ⟨b, off + i, none⟩) hb).trans (hc i hi)⟩⟩

theorem below_but2 {n m B : Nat} {a b c : World} (h : Below n a b) (hb : But B m b c) (hB : n ≤ B) (hm : n ≤ m) : Below n a c := h.trans (hb.below hm hB)

theorem restT_len (z : Int) (zs : List Nat) : (restT z zs).length ≤ zs.length := by
  unfold restT
  split
  · exact Nat.le_refl _
  · simp

theorem drewN_below (n : Nat) (w : World) : Below w.heap.size w (w.drewN n) := ⟨rfl, rfl, rfl, Nat.le_refl _, fun _ _ => rfl⟩

set_option maxHeartbeats 1000000 in
theorem tapeTakes_long (p : Option Addr) (len cap : Nat) (p2 : Option Addr) (len2 cap2 : Nat) (hlen : 500 < len ∨ 40 < len2) (w : World) :
    Calls Try.prog 3 #[.slice p len cap, .slice p2 len2 cap2] w fun e w' => e = .returned (.bool true) ∧ Below w.heap.size w w' := by
  by_cases h1 : 500 < len
  · have h : (500 : Int) < (len : Int) := by omega
    go_enter Try.func3, Try.ntmps3
    go_wp2_with (go_at_call 6; refine (awake_any _).mono ?_; rintro e w1 ⟨rfl, hb1⟩)
    go_ret
    exact ⟨rfl, hb1⟩
  · have h : ¬ (500 : Int) < (len : Int) := by omega
    have h' : (40 : Int) < (len2 : Int) := by omega
    go_enter Try.func3, Try.ntmps3
    go_wp2_with (go_at_call 6; refine (awake_any _).mono ?_; rintro e w1 ⟨rfl, hb1⟩)
    go_ret
    exact ⟨rfl, hb1⟩

set_option maxRecDepth 100000 in
set_option maxHeartbeats 2000000 in
theorem tapeTakes_some (p : Option Addr) (len cap : Nat) (zs : List Nat) (p2 : Option Addr) (len2 cap2 : Nat) (ns : List Int) (hlen : len ≤ 500) (hlen2 : len2 ≤ 40) (w : World) (hI : IsBytes w.heap.size w p len cap zs) (hN : IsInts w.heap.size w p2 len2 cap2 ns) :
    Calls Try.prog 3 #[.slice p len cap, .slice p2 len2 cap2] w fun e w' => e = .returned (.bool true) ∧ Below w.heap.size w w' := by
  have h : ¬ (500 : Int) < (len : Int) := by omega
  have h' : ¬ (40 : Int) < (len2 : Int) := by omega
  have HZ : Hid (zs.length ≤ 500) := by show _ ≤ _; have := hI.1; omega
  have HI : Hid (IsBytes w.heap.size w p len cap zs) := hI
  have HNs : Hid (IsInts w.heap.size w p2 len2 cap2 ns) := hN
  clear hI hN
  go_enter Try.func3, Try.ntmps3
  go_wp2_with (first
    | (go_at_call 6; refine (awake_any _).mono ?_; rintro e w1 ⟨rfl, hb1⟩)
    | (go_at_call 7; refine (new_any p len cap zs (by omega) _ (HI.out.later hb1)).mono ?_; rintro e w2 ⟨B, rfl, hB, hT2, hb2⟩; have hbA := hb1.trans (hb2.mono hb1.size); have hwB : w.heap.size ≤ B := Nat.le_trans hb1.size hB; have HT2 : Hid (TapeAt w2 B zs) := hT2; have hBR : B < w2.heap.size := hT2.lt; clear hT2 hb1 hb2 hB))
  have hbC : Below w.heap.size w (w2.alloc (.cells #[.int .i64 0, .slice p len cap, .slice none 0 0, .slice none 0 0, .slice none 0 0, .bool false] 30)) := hbA.alloc hbA.size _
  have HS3 : Hid (SuiteAt w.heap.size (w2.alloc (.cells #[.int .i64 0, .slice p len cap, .slice none 0 0, .slice none 0 0, .slice none 0 0, .bool false] 30)) w2.heap.size zs) := ⟨p, len, cap, Row.new w2 30 _, HI.out.below hbC⟩
  have HT3 : Hid (TapeAt (w2.alloc (.cells #[.int .i64 0, .slice p len cap, .slice none 0 0, .slice none 0 0, .slice none 0 0, .bool false] 30)) B zs) := HT2.out.later ((Below.refl _ w2).alloc (Nat.le_refl _) _)
  clear hbA HT2
  generalize w2.heap.size = R at *
  go_loopw [30] (fun i wr => ∃ (k : Nat) (ts : List Nat), k ≤ len2 ∧ i = .int .i64 k ∧ Hid (ts.length ≤ 500) ∧ Hid (TapeAt wr B ts) ∧ Hid (SuiteAt w.heap.size wr R ts) ∧ Below w.heap.size w wr)
    (fun i _ => len2 - (intOf i).toNat)
  case atStart => exact ⟨0, zs, Nat.zero_le _, rfl, HZ.out, HT3.out, HS3.out, hbC⟩
  case round =>
    clear HT3 HS3 hbC HZ
    obtain ⟨k, ts, hk, rfl, HTl, HT, HS, hbel⟩ := hrel
    by_cases hlt : k < len2
    · have hki : (k : Int) < (len2 : Int) := by omega
      obtain ⟨b, off, rfl, hb, hcell⟩ : ∃ b off, p2 = some ⟨b, off, none⟩ ∧ b < w.heap.size ∧ ∀ i, i < len2 → wr.cell? ⟨b, off + i, none⟩ = some (.int .i64 (ns.getD i 0)) := by
        rcases (HNs.out.below hbel).2.2 with h | h
        · omega
        · exact h
      have hc := hcell k hlt
      generalize ns.getD k 0 = z at *
      have HRl : Hid ((restT z ts).length ≤ 500) := Nat.le_trans (restT_len z ts) HTl.out
      have H8 : Hid (Calls Try.prog 8 #[.pointer (some ⟨B, 0, none⟩), .int .i64 z] wr fun e w' => ∃ v, e = .returned (.tuple #[v, .int .i64 (errT z ts)]) ∧ Own wr.heap.size w' v (takenT z ts) ∧ TapeAt w' B (restT z ts) ∧ But B wr.heap.size wr w') := take_any B z ts (by have := HTl.out; omega) wr HT.out
      have H9 : Hid (∀ W, SuiteAt w.heap.size W R ts → Calls Try.prog 9 #[.pointer (some ⟨R, 0, none⟩), .int .i64 z] W fun e w' => ∃ v, e = .returned (.tuple #[v, .int .i64 (errT z ts)]) ∧ Own W.heap.size w' v (takenT z ts) ∧ SuiteAt w.heap.size w' R (restT z ts) ∧ But R W.heap.size W w') := fun W hS => refTake_any _ R z ts (by have := HTl.out; omega) W (by omega) hS
      generalize errT z ts = E at *
      generalize takenT z ts = T at *
      generalize restT z ts = ts' at *
      have hsz := hbel.size
      clear hcell
      go_wp2_with (first
        | (go_at_call 8; refine H8.out.mono ?_; rintro e w3 ⟨v3, rfl, hown3, hT3, hb3⟩; have HS3 : Hid (SuiteAt w.heap.size w3 R ts) := HS.out.but hb3 (by omega) hwB hsz; have hBl := HT.out.lt; have hRl := HS.out.lt)
        | (go_at_call 9; refine (H9.out _ HS3.out).mono ?_; rintro e w4 ⟨v4, rfl, hown4, hS4, hb4⟩; have HT4 : Hid (TapeAt w4 B ts') := hT3.but hb4 hBR; have HO3 : Hid (Own wr.heap.size w4 v3 T) := hown3.but hb4 hRl; have HO4 : Hid (Own w3.heap.size w4 v4 T) := hown4; have HS4 : Hid (SuiteAt w.heap.size w4 R ts') := hS4; have hbE : Below w.heap.size w w4 := below_but2 (below_but2 hbel hb3 hwB hsz) hb4 (by omega) (by have := hb3.size; omega); clear hown3 hown4 hT3 hS4 hb3 hb4))
      have HL : Hid (∀ n, Calls Try.prog 10 #[.pointer (some ⟨B, 0, none⟩)] (w4.drewN n) fun e w' => e = .returned (.int .i64 (ts'.length : Nat)) ∧ w' = w4.drewN n) := fun n => left_any B ts' _ (HT4.out.later (drewN_below n w4))
      have s3 := fun n => (own_str HO3.out) (w4.drewN n) (drewN_below n w4)
      have s4 := fun n => (own_str HO4.out) (w4.drewN n) (drewN_below n w4)
      obtain ⟨q, l, c, hrS, hIS⟩ := id HS4.out
      have cS := hrS.cell (i := 1) rfl
      have hlS : ts'.length = l := hIS.1
      rw [hlS] at HL
      clear hrS hIS
      go_quiet ((go_at_call 10; exact Calls.mono (HL.out _) (fun _ _ h => ⟨h.1, _, h.2⟩)))
      go_wp2
      refine ⟨⟨k + 1, ts', by omega, by go_num, HRl.out, HT4.out.later (drewN_below _ _), ?_, hbE.trans ((drewN_below _ _).mono hbE.size)⟩, by simp [intOf]; omega⟩
      obtain ⟨q, l, c, h1, h2⟩ := HS4.out
      exact ⟨q, l, c, h1, h2.below ((drewN_below _ w4).mono hbE.size)⟩
    · have hk2 : ¬ (k : Int) < (len2 : Int) := by omega
      go_wp2
      go_ret
      exact ⟨rfl, hbel⟩

/-- TapeTakes -/
theorem tapeTakes_walk (p : Option Addr) (len cap : Nat) (zs : List Nat) (p2 : Option Addr) (len2 cap2 : Nat) (ns : List Int) (w : World) (hI : IsBytes w.heap.size w p len cap zs) (hN : IsInts w.heap.size w p2 len2 cap2 ns) :
    Calls Try.prog 3 #[.slice p len cap, .slice p2 len2 cap2] w fun e w' => e = .returned (.bool true) ∧ Below w.heap.size w w' := by
  by_cases h : 500 < len ∨ 40 < len2
  · exact tapeTakes_long p len cap p2 len2 cap2 h w
  · exact tapeTakes_some p len cap zs p2 len2 cap2 ns (by omega) (by omega) w hI hN

/-- A slice of numbers that came in. -/
theorem open_nums {H : Type} {enc : TypeId × Value → H} {W : World} {base : Nat} {v : Value} {x : DataW H} {p : List MemPlace} (hv : Value.okWide Try.prog W .any base 23 v) (h : ∃ fuel, DataW.trod enc Try.prog W 0 (fun _ => true) true fuel 23 v.cells.toList = some (x, p)) :
    ∃ a len cap zs, v = .slice a len cap ∧ IsInts W.heap.size W a len cap zs := by
  obtain ⟨a, len, cap, rfl⟩ := okWide_slice Try.underlying23 hv
  obtain ⟨fuel, hf⟩ := h
  rcases open_ints Try.underlying23 Try.underlying3 (by kernel_rfl) hf with ⟨hcs, _⟩ | ⟨x, l, c, zs, hcs, _, hl, hm, hz, _, hcell, hwz⟩
  · simp [Value.cells] at hcs
    obtain ⟨rfl, rfl, rfl⟩ := hcs
    exact ⟨_, _, _, [], rfl, rfl, Nat.le_refl _, .inl rfl⟩
  · simp [Value.cells] at hcs
    obtain ⟨rfl, rfl, rfl⟩ := hcs
    have hz' : zs.length = cap := by simpa using hz
    refine ⟨_, _, _, zs.take len, rfl, by simp; omega, hl, ?_⟩
    by_cases h0 : len = 0
    · exact .inl h0
    · obtain ⟨b, off, spot⟩ := x
      have hc0 := hcell 0 (by omega)
      have hspot : spot = none := by simpa [Addr.add] using World.cell?_spot hc0
      subst hspot
      refine .inr ⟨b, off, rfl, ?_, fun i hi => ?_⟩
      · rw [Addr.add_mid] at hc0
        exact World.block_lt_of_cell? W _ hc0
      · have hi' : i < zs.length := by omega
        have h1 := hcell i hi'
        rw [Addr.add_mid] at h1
        rw [h1]
        simp [List.getElem?_eq_getElem hi', hi]

end Go.Proofs.Ytfkhabiahfchaaa
