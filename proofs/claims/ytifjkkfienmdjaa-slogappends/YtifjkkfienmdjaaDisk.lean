/-
  Disks: as data, and as they lie in memory, the program's and the reference's. Worlds of which some blocks have turned.
-/
import Derived.Test.YtifjkkfienmdjaaGate
import Derived.Test.YtifjkkfienmdjaaBuild
import Derived.Test.YtifjkkfienmdjaaHeldIn
import Derived.Great.BuildSlice
import Derived.BigQuiet
namespace Go.Proofs.Ytifjkkfienmdjaa
open Go.RowKit

/-- All below n but the blocks of S is as it was. -/
structure Buts (S : List Nat) (n : Nat) (w w' : World) : Prop where
  os : w'.os = w.os
  tape : w'.tape = w.tape
  output : w'.output = w.output
  size : w.heap.size ≤ w'.heap.size
  block : ∀ k, k < n → k ∉ S → w'.heap[k]? = w.heap[k]?
theorem Buts.refl (S : List Nat) (n : Nat) (w : World) : Buts S n w w := ⟨rfl, rfl, rfl, Nat.le_refl _, fun _ _ _ => rfl⟩
theorem Buts.trans {S : List Nat} {n : Nat} {a b c : World} (h : Buts S n a b) (k : Buts S n b c) : Buts S n a c := ⟨k.os.trans h.os, k.tape.trans h.tape, k.output.trans h.output, Nat.le_trans h.size k.size, fun i hi hB => (k.block i hi hB).trans (h.block i hi hB)⟩
theorem Buts.of_below {S : List Nat} {n m : Nat} {w w' : World} (h : Below m w w') (hm : n ≤ m) : Buts S n w w' := ⟨h.os, h.tape, h.output, h.size, fun k hk _ => h.block k (by omega)⟩
theorem Buts.of_but {S : List Nat} {B n m : Nat} {w w' : World} (h : But B m w w') (hB : B ∈ S) (hm : n ≤ m) : Buts S n w w' := ⟨h.os, h.tape, h.output, h.size, fun k hk hS => h.block k (by omega) (fun e => hS (e ▸ hB))⟩
theorem Buts.mono {S S' : List Nat} {n m : Nat} {w w' : World} (h : Buts S n w w') (hS : ∀ x ∈ S, x ∈ S') (hm : m ≤ n) : Buts S' m w w' := ⟨h.os, h.tape, h.output, h.size, fun k hk hS' => h.block k (by omega) (fun e => hS' (hS k e))⟩
theorem Buts.below {S : List Nat} {n m : Nat} {w w' : World} (h : Buts S n w w') (hn : m ≤ n) (hS : ∀ x ∈ S, m ≤ x) : Below m w w' := ⟨h.os, h.tape, h.output, h.size, fun k hk => h.block k (by omega) (fun e => by have := hS k e; omega)⟩
theorem Buts.row {S : List Nat} {n b : Nat} {w w' : World} {t : TypeId} {c : List Value} (h : Buts S n w w') (hn : b < n) (hb : b ∉ S) (hr : Row w b t c) : Row w' b t c := (h.block b hn hb).trans hr
theorem Buts.drew {S : List Nat} {n : Nat} {a w : World} (h : Buts S n a w) : Buts S n a w.drew := ⟨h.os, h.tape, h.output, h.size, h.block⟩
theorem Buts.set {S : List Nat} {n : Nat} {a w : World} (h : Buts S n a w) {B : Nat} (hB : B ∈ S) (i : Nat) (v : Value) : Buts S n a (w.setCell ⟨B, i, none⟩ v) := h.trans (Buts.of_but (But.set (B := B) (n := n) i v) hB (Nat.le_refl _))
theorem Buts.sets {S : List Nat} {n : Nat} {a w : World} (h : Buts S n a w) {B : Nat} (hB : B ∈ S) (i : Nat) (vs : List Value) : Buts S n a (w.setCells B i vs) := h.trans (Buts.of_but (But.sets (B := B) (n := n) vs i w) hB (Nat.le_refl _))
theorem Buts.range {S : List Nat} {n b : Nat} {w w' : World} (h : Buts S n w w') (hn : b < n) (hb : b ∉ S) {off : Nat} {cs : List Value} (hr : w.rangeAt b off cs) : w'.rangeAt b off cs := fun j v hv => by
  obtain ⟨c, t, fr, h1, h2⟩ := cells_of_cell (hr j v hv)
  have := (h.block b hn hb).trans h1
  simp [World.cell?, this, h2]

/-- A sector's bytes. -/
def IsSec (s : List Nat) : Prop := s.length = 64 ∧ ∀ z ∈ s, z < 256
def zeros64 : List Nat := List.replicate 64 0
theorem isSec_zeros : IsSec zeros64 := ⟨by simp [zeros64], fun z hz => by rw [List.eq_of_mem_replicate hz]; omega⟩
theorem sec_at {ss : List (List Nat)} (h : ∀ s ∈ ss, IsSec s) {i : Nat} (hi : i < ss.length) : IsSec (ss.getD i []) := by
  rw [List.getD_eq_getElem?_getD, List.getElem?_eq_getElem hi, Option.getD_some]
  exact h _ (List.getElem_mem hi)
theorem flat_length : ∀ {ss : List (List Nat)}, (∀ s ∈ ss, IsSec s) → ss.flatten.length = ss.length * 64
  | [], _ => rfl
  | s :: r, h => by
    rw [List.flatten_cons, List.length_append, flat_length (fun x hx => h x (List.mem_cons_of_mem _ hx)), (h s (List.mem_cons_self ..)).1, List.length_cons]
    omega
theorem flat_split {ss : List (List Nat)} {i : Nat} (hi : i < ss.length) : ss.flatten = (ss.take i).flatten ++ (ss.getD i [] ++ (ss.drop (i + 1)).flatten) := by
  conv => lhs; rw [← List.take_append_drop i ss, List.flatten_append, List.drop_eq_getElem_cons hi, List.flatten_cons]
  rw [List.getD_eq_getElem?_getD, List.getElem?_eq_getElem hi, Option.getD_some]
theorem flat_head {ss : List (List Nat)} (h : ∀ s ∈ ss, IsSec s) {i : Nat} (hi : i < ss.length) : (ss.take i).flatten.length = i * 64 := by
  rw [flat_length (fun s hs => h s (List.mem_of_mem_take hs)), List.length_take, Nat.min_eq_left (by omega)]
theorem flat_at {ss : List (List Nat)} (h : ∀ s ∈ ss, IsSec s) {i : Nat} (hi : i < ss.length) : (ss.flatten.drop (i * 64)).take 64 = ss.getD i [] := by
  rw [flat_split hi, List.drop_append, List.drop_of_length_le (by rw [flat_head h hi]; omega), List.nil_append, flat_head h hi, Nat.sub_self, List.drop_zero, List.take_append_of_le_length (by rw [(sec_at h hi).1]; omega), List.take_of_length_le (by rw [(sec_at h hi).1]; omega)]
theorem flat_set {ss : List (List Nat)} {i : Nat} (hi : i < ss.length) (s : List Nat) : (ss.set i s).flatten = (ss.take i).flatten ++ (s ++ (ss.drop (i + 1)).flatten) := by
  rw [flat_split (ss := ss.set i s) (i := i) (by simpa using hi), List.take_set_of_le (Nat.le_refl _), List.drop_set_of_lt (by omega)]
  simp [List.getD, hi]
/-- The first of the bytes of a sector turned to others. -/
theorem flat_put {ss : List (List Nat)} (h : ∀ s ∈ ss, IsSec s) {i : Nat} (hi : i < ss.length) {s : List Nat} {k : Nat} (hk : k ≤ 64) (hs : s.length = k) :
    putAt (u8s ss.flatten) (i * 64) (u8s s) = u8s (ss.set i (s ++ (ss.getD i []).drop k)).flatten := by
  have l1 := flat_head h hi
  have l2 := (sec_at h hi).1
  have l3 := flat_length h
  have hm : i * 64 + 64 ≤ ss.length * 64 := by omega
  rw [putAt_eq _ _ _ (by rw [u8s_length, u8s_length, l3, hs]; omega), u8s_length, hs, flat_set hi]
  simp only [u8s, ← List.map_take, ← List.map_drop, ← List.map_append]
  congr 1
  rw [flat_split hi, List.take_left' l1, List.drop_append, List.drop_of_length_le (by rw [l1]; omega), List.nil_append, l1, show i * 64 + k - i * 64 = k by omega, List.drop_append_of_le_length (by omega)]
  simp [List.append_assoc]
theorem flat_put_all {ss : List (List Nat)} (h : ∀ s ∈ ss, IsSec s) {i : Nat} (hi : i < ss.length) {s : List Nat} (hs : s.length = 64) :
    putAt (u8s ss.flatten) (i * 64) (u8s s) = u8s (ss.set i s).flatten := by
  rw [flat_put h hi (Nat.le_refl 64) hs, List.drop_of_length_le (by rw [(sec_at h hi).1]; omega), List.append_nil]

/-- A disk: its sectors, the crashes that are left, how many writes, whether there is no power. -/
structure St where
  ss : List (List Nat)
  cr : List (Int × Int)
  wr : Nat
  dead : Bool
structure St.ok (d : St) : Prop where
  secs : ∀ s ∈ d.ss, IsSec s
  few : d.ss.length ≤ 65536
def keepN (k : Int) : Nat := (min (max k 0) 64).toNat
theorem keepN_le (k : Int) : keepN k ≤ 64 := by unfold keepN; omega
def tear (old s : List Nat) (k : Int) : List Nat := s.take (keepN k) ++ old.drop (keepN k)
theorem tear_sec {old s : List Nat} (ho : IsSec old) (hs : IsSec s) (k : Int) : IsSec (tear old s k) := by
  have := keepN_le k
  refine ⟨?_, fun z hz => ?_⟩
  · simp [tear, ho.1, hs.1]; omega
  · rcases List.mem_append.1 hz with h | h
    · exact hs.2 z (List.mem_of_mem_take h)
    · exact ho.2 z (List.mem_of_mem_drop h)
def St.err (d : St) (i : Int) : Int := if d.dead = true then 131 else if i < 0 ∨ (d.ss.length : Int) ≤ i then 130 else 0
def St.strikes (d : St) : Bool := match d.cr with | [] => false | c :: _ => decide (c.1 = (d.wr : Int))
def St.keep (d : St) : Int := match d.cr with | [] => 0 | c :: _ => c.2
def St.wErr (d : St) (i : Int) : Int := if d.err i ≠ 0 then d.err i else if d.strikes = true then 131 else 0
def St.write (d : St) (i : Int) (s : List Nat) : St := if d.err i ≠ 0 then d else if d.strikes = true then { d with ss := d.ss.set i.toNat (tear (d.ss.getD i.toNat []) s d.keep), dead := true } else { d with ss := d.ss.set i.toNat s, wr := d.wr + 1 }
def St.start (d : St) : St := { d with wr := 0, dead := false, cr := d.cr.drop 1 }
def St.read (d : St) (i : Int) : List Nat := if d.err i ≠ 0 then zeros64 else d.ss.getD i.toNat []
def sizeS (n : Int) : Nat := (min (max n 0) 65536).toNat
def newS (n : Int) (cr : List (Int × Int)) : St := ⟨List.replicate (sizeS n) zeros64, cr, 0, false⟩
theorem newS_ok (n : Int) (cr : List (Int × Int)) : (newS n cr).ok := ⟨fun s hs => by rw [List.eq_of_mem_replicate hs]; exact isSec_zeros, by simp [newS, sizeS]; omega⟩
theorem err_zero {d : St} {i : Int} (h : d.err i = 0) : d.dead = false ∧ 0 ≤ i ∧ i.toNat < d.ss.length := by
  unfold St.err at h
  split at h
  · omega
  · rename_i h1
    split at h
    · omega
    · rename_i h2
      exact ⟨by simpa using h1, by omega, by omega⟩
theorem St.ok.write {d : St} (h : d.ok) (i : Int) {s : List Nat} (hs : IsSec s) : (d.write i s).ok := by
  unfold St.write
  split
  · exact h
  · rename_i he
    have hi := (err_zero (d := d) (i := i) (by omega)).2.2
    split
    · refine ⟨fun x hx => ?_, by simpa using h.few⟩
      rcases List.mem_or_eq_of_mem_set hx with hx | rfl
      · exact h.secs x hx
      · exact tear_sec (sec_at h.secs hi) hs _
    · refine ⟨fun x hx => ?_, by simpa using h.few⟩
      rcases List.mem_or_eq_of_mem_set hx with hx | rfl
      · exact h.secs x hx
      · exact hs
theorem St.ok.start {d : St} (h : d.ok) : d.start.ok := ⟨h.secs, h.few⟩
theorem St.ok.read {d : St} (h : d.ok) (i : Int) : IsSec (d.read i) := by
  unfold St.read
  split
  · exact isSec_zeros
  · exact sec_at h.secs (err_zero (d := d) (i := i) (by omega)).2.2

/-- Crashes in memory, outside the blocks of F. -/
def crC (cr : List (Int × Int)) : List Value := cr.flatMap fun c => [.int .i64 c.1, .int .i64 c.2]
theorem crC_length : ∀ cr : List (Int × Int), (crC cr).length = cr.length * 2
  | [] => rfl
  | c :: r => by
    have := crC_length r
    simp only [crC, List.flatMap_cons, List.length_append, List.length_cons, List.length_nil] at this ⊢
    omega
theorem crC_one (cr : List (Int × Int)) : ∀ v ∈ crC cr, v.oneCell' = true := by
  intro v hv
  simp only [crC, List.mem_flatMap, List.mem_cons, List.not_mem_nil, or_false] at hv
  obtain ⟨c, _, rfl | rfl⟩ := hv <;> rfl
def CrAt (F : List Nat) (W : World) (q : Option Addr) (len cap : Nat) (cr : List (Int × Int)) : Prop :=
  cr.length = len ∧ len ≤ cap ∧ cap ≤ 9223372036854775807 ∧ (len = 0 ∨ ∃ b off, q = some ⟨b, off, none⟩ ∧ b < W.heap.size ∧ b ∉ F ∧ W.rangeAt b off (crC cr))
theorem CrAt.buts {F S : List Nat} {W W' : World} {q : Option Addr} {len cap : Nat} {cr : List (Int × Int)} (h : CrAt F W q len cap cr) (hb : Buts S W.heap.size W W') (hS : ∀ x ∈ S, x ∈ F) : CrAt F W' q len cap cr := by
  obtain ⟨h1, h2, h3, h4⟩ := h
  refine ⟨h1, h2, h3, ?_⟩
  rcases h4 with h | ⟨b, off, e, hl, hF, hr⟩
  · exact .inl h
  · exact .inr ⟨b, off, e, Nat.lt_of_lt_of_le hl hb.size, hF, hb.range hl (fun hx => hF (hS b hx)) hr⟩
theorem CrAt.later {F : List Nat} {W W' : World} {q : Option Addr} {len cap : Nat} {cr : List (Int × Int)} (h : CrAt F W q len cap cr) (hb : Below W.heap.size W W') : CrAt F W' q len cap cr := h.buts (S := []) (Buts.of_below hb (Nat.le_refl _)) (by simp)
theorem CrAt.more {F F' : List Nat} {W : World} {q : Option Addr} {len cap : Nat} {cr : List (Int × Int)} (h : CrAt F W q len cap cr) (hF : ∀ x ∈ F', x ∈ F ∨ W.heap.size ≤ x) : CrAt F' W q len cap cr := by
  obtain ⟨h1, h2, h3, h4⟩ := h
  refine ⟨h1, h2, h3, ?_⟩
  rcases h4 with h | ⟨b, off, e, hl, hn, hr⟩
  · exact .inl h
  · exact .inr ⟨b, off, e, hl, fun hx => by rcases hF b hx with h | h; exact hn h; omega, hr⟩
theorem CrAt.first {F : List Nat} {W : World} {q : Option Addr} {len cap : Nat} {a k : Int} {cr : List (Int × Int)} (h : CrAt F W q len cap ((a, k) :: cr)) : ∃ b off, q = some ⟨b, off, none⟩ ∧ len = cr.length + 1 ∧ W.cell? ⟨b, off, none⟩ = some (.int .i64 a) ∧ W.cell? ⟨b, off + 1, none⟩ = some (.int .i64 k) := by
  obtain ⟨h1, h2, h3, h4⟩ := h
  rcases h4 with h | ⟨b, off, e, hl, hF, hr⟩
  · rw [h] at h1; simp at h1
  · exact ⟨b, off, e, by rw [← h1]; rfl, hr 0 _ rfl, hr 1 _ rfl⟩

/-- The program's disk: its cells in block p, its sectors in block g. -/
def DiskAt (F : List Nat) (W : World) (p g : Nat) (d : St) : Prop :=
  d.ok ∧ p ≠ g ∧ p ∈ F ∧ g ∈ F ∧ Row W g 55 (u8s d.ss.flatten) ∧ ∃ q len cap, Row W p 83 [.bool true, .bool (!d.dead), .slice (some ⟨g, 0, none⟩) d.ss.length d.ss.length, .int .i64 (d.wr : Nat), .slice q len cap] ∧ CrAt F W q len cap d.cr
/-- The reference's. -/
def RefAt (F : List Nat) (W : World) (p g : Nat) (d : St) : Prop :=
  d.ok ∧ p ≠ g ∧ p ∈ F ∧ g ∈ F ∧ Row W g 55 (u8s d.ss.flatten) ∧ ∃ q len cap, Row W p 85 [.slice (some ⟨g, 0, none⟩) d.ss.length d.ss.length, .slice q len cap, .int .i64 (d.wr : Nat), .bool d.dead] ∧ CrAt F W q len cap d.cr
theorem DiskAt.buts {F S : List Nat} {W W' : World} {p g : Nat} {d : St} (h : DiskAt F W p g d) (hb : Buts S W.heap.size W W') (hS : ∀ x ∈ S, x ∈ F) (hp : p ∉ S) (hg : g ∉ S) : DiskAt F W' p g d := by
  obtain ⟨h1, h2, h3, h4, h5, q, len, cap, h6, h7⟩ := h
  exact ⟨h1, h2, h3, h4, hb.row h5.lt hg h5, q, len, cap, hb.row h6.lt hp h6, h7.buts hb hS⟩
theorem DiskAt.later {F : List Nat} {W W' : World} {p g : Nat} {d : St} (h : DiskAt F W p g d) (hb : Below W.heap.size W W') : DiskAt F W' p g d := h.buts (S := []) (Buts.of_below hb (Nat.le_refl _)) (by simp) (by simp) (by simp)
theorem DiskAt.more {F F' : List Nat} {W : World} {p g : Nat} {d : St} (h : DiskAt F W p g d) (hF : ∀ x ∈ F', x ∈ F ∨ W.heap.size ≤ x) (hp : p ∈ F') (hg : g ∈ F') : DiskAt F' W p g d := by
  obtain ⟨h1, h2, h3, h4, h5, q, len, cap, h6, h7⟩ := h
  exact ⟨h1, h2, hp, hg, h5, q, len, cap, h6, h7.more hF⟩
theorem RefAt.buts {F S : List Nat} {W W' : World} {p g : Nat} {d : St} (h : RefAt F W p g d) (hb : Buts S W.heap.size W W') (hS : ∀ x ∈ S, x ∈ F) (hp : p ∉ S) (hg : g ∉ S) : RefAt F W' p g d := by
  obtain ⟨h1, h2, h3, h4, h5, q, len, cap, h6, h7⟩ := h
  exact ⟨h1, h2, h3, h4, hb.row h5.lt hg h5, q, len, cap, hb.row h6.lt hp h6, h7.buts hb hS⟩
theorem RefAt.later {F : List Nat} {W W' : World} {p g : Nat} {d : St} (h : RefAt F W p g d) (hb : Below W.heap.size W W') : RefAt F W' p g d := h.buts (S := []) (Buts.of_below hb (Nat.le_refl _)) (by simp) (by simp) (by simp)
theorem RefAt.more {F F' : List Nat} {W : World} {p g : Nat} {d : St} (h : RefAt F W p g d) (hF : ∀ x ∈ F', x ∈ F ∨ W.heap.size ≤ x) (hp : p ∈ F') (hg : g ∈ F') : RefAt F' W p g d := by
  obtain ⟨h1, h2, h3, h4, h5, q, len, cap, h6, h7⟩ := h
  exact ⟨h1, h2, hp, hg, h5, q, len, cap, h6, h7.more hF⟩
theorem DiskAt.lt {F : List Nat} {W : World} {p g : Nat} {d : St} (h : DiskAt F W p g d) : p < W.heap.size ∧ g < W.heap.size := by
  obtain ⟨h1, h2, h3, h4, h5, q, len, cap, h6, h7⟩ := h
  exact ⟨h6.lt, h5.lt⟩
theorem RefAt.lt {F : List Nat} {W : World} {p g : Nat} {d : St} (h : RefAt F W p g d) : p < W.heap.size ∧ g < W.heap.size := by
  obtain ⟨h1, h2, h3, h4, h5, q, len, cap, h6, h7⟩ := h
  exact ⟨h6.lt, h5.lt⟩
theorem size55 : (Try.prog.info? 55).map (·.size) = some 64 := by kernel_rfl
theorem size55' {s : List Nat} (h : s.length = 64) : (Try.prog.info? 55).map (·.size) = some (u8s s).length := by rw [u8s_length, h]; exact size55
theorem sec_range {W : World} {g : Nat} {ss : List (List Nat)} (h : Row W g 55 (u8s ss.flatten)) (hs : ∀ s ∈ ss, IsSec s) {i : Nat} (hi : i < ss.length) : W.rangeAt g (i * 64) (u8s (ss.getD i [])) := by
  have hx : ((u8s ss.flatten).drop (i * 64)).take 64 = u8s (ss.getD i []) := by
    simp only [u8s, ← List.map_drop, ← List.map_take, flat_at hs hi]
  intro j v hj
  rw [← hx] at hj
  have hjl : j < 64 := by
    rcases Nat.lt_or_ge j 64 with h | h
    · exact h
    · rw [List.getElem?_eq_none (by simp; omega)] at hj; cases hj
  rw [List.getElem?_take, if_pos hjl, List.getElem?_drop] at hj
  exact h.cell hj
end Go.Proofs.Ytifjkkfienmdjaa
