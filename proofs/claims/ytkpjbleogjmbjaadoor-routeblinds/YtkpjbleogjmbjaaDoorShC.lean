/-
  Several texts in one: ShRun, ShMore, ShRSum.
-/
import Derived.Test.YtkpjbleogjmbjaaDoorBaseAll
import Derived.Test.YtkpjbleogjmbjaaDoorShPad
import Derived.Laws.CopyOwn
import Derived.Test.YtkpjbleogjmbjaaDoorBuild
/-
  A running sum in memory: its words, its rest, its length; what taking more bytes in makes of it.
-/
namespace Go.Proofs.YtkpjbleogjmbjaaDoor.Sh
open Go Go.RowKit

/-- What a running sum keeps of the text cs. -/
def RunOk (s R : List Value) (cs : List Nat) : Prop := s = u32s (wordsN (fullL cs (cs.length / 64))).list ∧ R.length = 64 ∧ R.take (cs.length % 64) = u8s (cs.drop (64 * (cs.length / 64)))

theorem u8s_drop (l : List Nat) (k : Nat) : (u8s l).drop k = u8s (l.drop k) := by simp [u8s]
theorem u8s_take (l : List Nat) (k : Nat) : (u8s l).take k = u8s (l.take k) := by simp [u8s]
theorem u8s_app (a b : List Nat) : u8s (a ++ b) = u8s a ++ u8s b := by simp [u8s]

theorem take_splice {α : Type} (R cs : List α) (h n : Nat) (hh : h ≤ R.length) (hn : n = h + cs.length) : (splice R h cs).take n = R.take h ++ cs := by
  subst hn
  unfold splice
  rw [← List.append_assoc, List.take_append_of_le_length (by simp; omega), List.take_of_length_le (by simp; omega)]

theorem RunOk.part {s R : List Value} {cs new : List Nat} (h : RunOk s R cs) (hn : cs.length % 64 + new.length < 64) : RunOk s (splice R (cs.length % 64) (u8s new)) (cs ++ new) := by
  obtain ⟨h1, h2, h3⟩ := h
  have e1 : (cs ++ new).length / 64 = cs.length / 64 := by rw [List.length_append]; omega
  have e2 : (cs ++ new).length % 64 = cs.length % 64 + new.length := by rw [List.length_append]; omega
  refine ⟨by rw [e1, fullL_append _ _ _ (by omega)]; exact h1, by rw [length_splice _ _ _ (by simp; omega)]; exact h2, ?_⟩
  rw [e1, e2, take_splice R (u8s new) _ _ (by omega) (by simp), h3, List.drop_append_of_le_length (by omega), u8s_app]

theorem RunOk.full {s R : List Value} {cs new : List Nat} (h : RunOk s R cs) (hn : cs.length % 64 + new.length = 64) :
    splice R (cs.length % 64) (u8s new) = u8s (cs.drop (64 * (cs.length / 64)) ++ new) ∧ RunOk (u32s (compressN (wordsN (fullL cs (cs.length / 64))) (cs.drop (64 * (cs.length / 64)) ++ new)).list) (u8s (cs.drop (64 * (cs.length / 64)) ++ new)) (cs ++ new) := by
  obtain ⟨h1, h2, h3⟩ := h
  have e1 : (cs ++ new).length / 64 = cs.length / 64 + 1 := by rw [List.length_append]; omega
  have e2 : (cs ++ new).length % 64 = 0 := by rw [List.length_append]; omega
  have l1 : (cs.drop (64 * (cs.length / 64)) ++ new).length = 64 := by simp; omega
  have e3 : (cs ++ new).drop (64 * (cs.length / 64)) = cs.drop (64 * (cs.length / 64)) ++ new := List.drop_append_of_le_length (by omega)
  have e4 : (cs ++ new).length = 64 * (cs.length / 64 + 1) := by rw [List.length_append]; omega
  refine ⟨?_, ?_, by simpa using l1, ?_⟩
  · have h := take_splice R (u8s new) (cs.length % 64) 64 (by omega) (by simp; omega)
    rw [List.take_of_length_le (by rw [length_splice _ _ _ (by simp; omega)]; omega)] at h
    rw [h, h3, u8s_app]
  · rw [e1, ← fullL_succ, wordsN_snoc, fullL_append _ _ _ (by omega), e3, List.take_of_length_le (by omega)]
  · have e5 : (cs ++ new).drop (64 * (cs.length / 64 + 1)) = [] := List.drop_eq_nil_of_le (by omega)
    rw [e1, e2, e5]
    rfl

/-- The cells of a running sum. -/
def runCells (s R : List Value) (n : Nat) : List Value := .bool true :: (s ++ (R ++ [.int .u64 (n : Nat)]))
theorem runCells_length {s R : List Value} (n : Nat) (hs : s.length = 8) (hR : R.length = 64) : (runCells s R n).length = 74 := by simp [runCells, hs, hR]
theorem runCells_0 (s R : List Value) (n : Nat) : (runCells s R n)[0]? = some (.bool true) := rfl
theorem runCells_73 {s R : List Value} (n : Nat) (hs : s.length = 8) (hR : R.length = 64) : (runCells s R n)[73]? = some (.int .u64 (n : Nat)) := by
  unfold runCells
  rw [List.getElem?_cons_succ, List.getElem?_append_right (by omega), List.getElem?_append_right (by omega)]
  simp [hs, hR]
theorem runCells_set {s R : List Value} (n m : Nat) (hs : s.length = 8) (hR : R.length = 64) : (runCells s R n).set 73 (.int .u64 (m : Nat)) = runCells s R m := by
  unfold runCells
  rw [List.set_cons_succ, List.set_append_right _ _ (by omega), List.set_append_right _ _ (by omega)]
  simp [hs, hR]
theorem runCells_words {W : World} {B : Nat} {s R : List Value} {n : Nat} (h : Row W B 106 (runCells s R n)) : W.rangeAt B 1 s := fun j v hj => h.cell (by
  have hl : j < s.length := by
    rcases Nat.lt_or_ge j s.length with h | h
    · exact h
    · rw [List.getElem?_eq_none h] at hj; cases hj
  unfold runCells
  rw [show 1 + j = j + 1 by omega, List.getElem?_cons_succ, List.getElem?_append_left hl]
  exact hj)
theorem runCells_rest {W : World} {B : Nat} {s R : List Value} {n : Nat} (hs : s.length = 8) (h : Row W B 106 (runCells s R n)) : W.rangeAt B 9 R := fun j v hj => h.cell (by
  have hl : j < R.length := by
    rcases Nat.lt_or_ge j R.length with h | h
    · exact h
    · rw [List.getElem?_eq_none h] at hj; cases hj
  unfold runCells
  rw [show 9 + j = (8 + j) + 1 by omega, List.getElem?_cons_succ, List.getElem?_append_right (by omega), List.getElem?_append_left (by omega)]
  simpa [hs] using hj)
theorem runCells_splice {s R cs : List Value} (n h : Nat) (hs : s.length = 8) (hR : R.length = 64) (hh : h + cs.length ≤ 64) : splice (runCells s R n) (9 + h) cs = runCells s (splice R h cs) n := by
  unfold splice runCells
  rw [show 9 + h = (8 + h) + 1 by omega, List.take_succ_cons, List.take_append, List.take_of_length_le (by omega), show 8 + h - s.length = h by omega, List.take_append_of_le_length (by omega),
    show 8 + h + 1 + cs.length = (8 + (h + cs.length)) + 1 by omega, List.drop_succ_cons, List.drop_append, List.drop_eq_nil_of_le (show s.length ≤ 8 + (h + cs.length) by omega), show 8 + (h + cs.length) - s.length = h + cs.length by omega, List.drop_append_of_le_length (by omega)]
  simp
theorem runCells_put {s s' R : List Value} (n : Nat) (hs : s.length = 8) (hs' : s'.length = 8) : putAt (runCells s R n) 1 s' = runCells s' R n := by
  rw [putAt_eq _ _ _ (by simp [runCells]; omega)]
  unfold runCells
  rw [List.take_succ_cons, List.take_zero, show 1 + s'.length = s'.length + 1 by omega, List.drop_succ_cons, show s'.length = s.length by omega, List.drop_append_of_le_length (by omega), List.drop_eq_nil_of_le (by omega)]
  simp

/-- Block B is a running sum of cs. -/
def RunAt (W : World) (B : Nat) (cs : List Nat) : Prop := ∃ s R, RunOk s R cs ∧ Row W B 106 (runCells s R cs.length)
theorem RunAt.lt {W : World} {B : Nat} {cs : List Nat} (h : RunAt W B cs) : B < W.heap.size := by obtain ⟨_, _, _, h⟩ := h; exact h.lt
theorem RunAt.below {W W' : World} {n B : Nat} {cs : List Nat} (h : RunAt W B cs) (hb : Below n W W') (hn : B < n) : RunAt W' B cs := by obtain ⟨s, R, h1, h2⟩ := h; exact ⟨s, R, h1, h2.below hb hn⟩
theorem RunAt.later {W W' : World} {B : Nat} {cs : List Nat} (h : RunAt W B cs) (hb : Below W.heap.size W W') : RunAt W' B cs := h.below hb h.lt
theorem RunAt.alloc {W : World} {B : Nat} {cs : List Nat} (h : RunAt W B cs) (o : Obj) : RunAt (W.alloc o) B cs := by obtain ⟨s, R, h1, h2⟩ := h; exact ⟨s, R, h1, h2.alloc o⟩
theorem RunOk.len {s R : List Value} {cs : List Nat} (h : RunOk s R cs) : s.length = 8 := by rw [h.1, u32s_length, St.list_length]

theorem _root_.Go.Proofs.YtkpjbleogjmbjaaDoor.But.tab {B n : Nat} {w w' : World} (h : But B n w w') (hB : 0 < B) (hn : 0 < n) (hT : Tab w) : Tab w' := fun i hi => (World.cell?_of_block (a := ⟨0, i, none⟩) (h.block 0 hn (by omega))).trans (hT i hi)
theorem _root_.Go.Proofs.YtkpjbleogjmbjaaDoor.But.bytes {B n n₀ : Nat} {w w' : World} (h : But B n w w') (hn : n₀ ≤ n) {p : Option Addr} {len cap : Nat} {zs : List Nat} (hp : len = 0 ∨ ∀ a, p = some a → a.block ≠ B) : IsBytes n₀ w p len cap zs → IsBytes n₀ w' p len cap zs
  | ⟨h1, h2, h3, h4, .inl e⟩ => ⟨h1, h2, h3, h4, .inl e⟩
  | ⟨h1, h2, h3, h4, .inr ⟨b, off, e, hb, hc⟩⟩ => ⟨h1, h2, h3, h4, .inr ⟨b, off, e, hb, fun i hi => by
      have hbB : b ≠ B := by
        rcases hp with h0 | h0
        · omega
        · exact h0 _ e
      rw [World.cell?_of_block (a := ⟨b, off + i, none⟩) (h.block b (by omega) hbB)]
      exact hc i hi⟩⟩
end Go.Proofs.YtkpjbleogjmbjaaDoor.Sh
/-
  What a running sum's held, Begin and More do: More takes the bytes in behind what is there; nothing else that lay before the call has turned.
-/
namespace Go.Proofs.YtkpjbleogjmbjaaDoor.Sh
open Go Go.RowKit

set_option maxHeartbeats 1000000 in
/-- held -/
theorem held_any (B n : Nat) (hn : n < 9223372036854775808) (w : World) (hc : w.cell? ⟨B, 73, none⟩ = some (.int .u64 (n : Nat))) :
    Calls Tryd.prog 41 #[.pointer (some ⟨B, 0, none⟩)] w fun e w' => e = .returned (.int .i64 (n % 64 : Nat)) ∧ w' = w := by
  go_enter Tryd.func41, Tryd.ntmps41
  go_wp2
  go_ret
  exact ⟨by go_num, rfl⟩

/-- copy into a row, as one step of a region that draws its order: of all else nothing turns. -/
theorem step_copy_but {P : Program} {ops : Array Oper} {o : Oper} {a : Act} {w : World} {K : Act → World → Prop} {Q : Exit → Act → World → Prop} {E : Prop} (hgd : o.guard = none) (d s : Operand) (dT sT : TypeId)
    (ho : o.op = .call { callee := .builtin .copy, args := #[d, s], argTypes := #[dT, sT] }) (elem : TypeId) (hu : P.underlying dT = some (.slice elem)) (hsz : (P.info? elem).map (·.size) = some 1)
    (g off dLen dCap : Nat) (ad : Addr) (sLen sCap : Nat) (hd : a.eval d = .slice (some ⟨g, off, none⟩) dLen dCap) (hs : a.eval s = .slice (some ad) sLen sCap)
    (cur : List Value) (t : TypeId) (hg : Row w g t cur) (cs : List Value) (hn : cs.length = Nat.min sLen dLen)
    (hsrc : ∀ j v, cs[j]? = some v → w.cell? (ad.add j) = some v) (hfit : off + cs.length ≤ cur.length) (h1 : ∀ v ∈ cs, v.oneCell' = true)
    (h : ∀ w', Row w' g t (splice cur off cs) → But g w.heap.size w w' → K (a.put o.dst (goInt cs.length)) w') :
    if Region.wanted o (yielded ops a.tmps) = true then Oper.wp P o a w K Q else E := by
  have hw : Region.wanted o (yielded ops a.tmps) = true := by simp [Region.wanted, hgd]
  rw [if_pos hw]
  have hrun := run_copy_row (P := P) w dT sT o.type elem g off dLen dCap ad sLen sCap cur.toArray t cs hu hsz hg hn hsrc (by simpa using hfit) h1
  unfold Oper.wp
  simp [execOp, ho, resolve, invoke, builtin, hd, hs, hrun, Result.andThen]
  refine h _ ?_ ⟨rfl, rfl, rfl, by simp [World.setRow], fun k _ hk => setRow_other w g k _ hk⟩
  show _ = _
  simpa [splice] using setRow_heap w g _ _ t _ hg

set_option maxRecDepth 100000 in
set_option maxHeartbeats 4000000 in
theorem more_any (B : Nat) (hB0 : 0 < B) (zs ys : List Nat) (p : Option Addr) (len cap : Nat) (w : World) (hT : Tab w) (hR : RunAt w B zs) (hI : IsBytes w.heap.size w p len cap ys) (hp : len = 0 ∨ ∀ a, p = some a → a.block ≠ B) (hlen : zs.length + len ≤ 100000) (hz : ∀ z ∈ zs, z < 256) :
    Calls Tryd.prog 34 #[.pointer (some ⟨B, 0, none⟩), .slice p len cap] w fun e w' => (∃ v, e = .returned v) ∧ RunAt w' B (zs ++ ys) ∧ But B w.heap.size w w' := by
  have HT : Hid (Tab w) := hT
  have HI : Hid (IsBytes w.heap.size w p len cap ys) := hI
  have HR : Hid (RunAt w B zs) := hR
  have HP : Hid (len = 0 ∨ ∀ a, p = some a → a.block ≠ B) := hp
  have HZ : Hid (∀ z ∈ zs, z < 256) := hz
  have hlc := hI.2.1
  have hcc := hI.2.2.1
  have HYL : Hid (ys.length = len) := hI.1
  have hBl := hR.lt
  obtain ⟨s0, R0, hok0, hrow0⟩ := hR
  have c0 := hrow0.cell (runCells_0 _ _ _)
  clear hT hI hp hz hok0 hrow0
  go_enter Tryd.func34, Tryd.ntmps34
  go_wp2
  go_loopw [1] (fun s wr => ∃ (o L C : Nat) (q : Option Addr), s = .slice q L C ∧ L + o = len ∧ C + o = cap ∧ (0 < L → ∃ b off, p = some ⟨b, off, none⟩ ∧ q = some ⟨b, off + o, none⟩) ∧ RunAt wr B (zs ++ ys.take o) ∧ But B w.heap.size w wr)
    (fun s _ => sliceLen s)
  case atStart => exact ⟨0, len, cap, p, rfl, by omega, by omega, fun hL => by
      rcases HI.out.2.2.2.2 with h | ⟨b, off, rfl, _⟩
      · omega
      · exact ⟨b, off, rfl, rfl⟩, by rw [List.take_zero, List.append_nil]; exact HR.out, But.refl _ _ _⟩
  case round =>
    obtain ⟨o, L, C, q, rfl, hL, hC, hq, hrun, hbut⟩ := hrel
    by_cases hLz : 0 < L
    · obtain ⟨b, off, hpe, rfl⟩ := hq hLz
      have hLi : (0 : Int) < (L : Int) := by omega
      obtain ⟨cs, hcs⟩ : ∃ cs, cs = zs ++ ys.take o := ⟨_, rfl⟩
      rw [← hcs] at hrun
      have hcl : cs.length = zs.length + o := by rw [hcs, List.length_append, List.length_take, HYL.out]; omega
      obtain ⟨s, R, hok, hrow⟩ := hrun
      have HOK : Hid (RunOk s R cs) := hok
      have HRow : Hid (Row wr B 106 (runCells s R cs.length)) := hrow
      obtain ⟨m, hm⟩ : ∃ m, m = cs.length := ⟨_, rfl⟩
      have c73 := hrow.cell (runCells_73 cs.length hok.len hok.2.1)
      rw [← hm] at c73
      have HHeld : Hid (∀ W : World, W.cell? ⟨B, 73, none⟩ = some (.int .u64 (m : Nat)) → Calls Tryd.prog 41 #[.pointer (some ⟨B, 0, none⟩)] W fun e w' => e = .returned (.int .i64 (m % 64 : Nat)) ∧ w' = W) := fun W hc => held_any B m (by omega) W hc
      obtain ⟨n, hn⟩ : ∃ n, n = min L (64 - m % 64) := ⟨_, rfl⟩
      have hIr : IsBytes w.heap.size wr p len cap ys := hbut.bytes (Nat.le_refl _) HP.out HI.out
      have hsrc : ∀ j v, (u8s ((ys.drop o).take n))[j]? = some v → wr.cell? ((⟨b, off + o, none⟩ : Addr).add j) = some v := by
        intro j v hj
        rcases hIr.2.2.2.2 with h | ⟨b', off', e, _, hc⟩
        · omega
        · rw [hpe] at e; cases e
          have hjn : j < n := by
            rcases Nat.lt_or_ge j n with h | h
            · exact h
            · rw [List.getElem?_eq_none (by simp; omega)] at hj; cases hj
          rw [u8s_at (by simp [HYL.out]; omega)] at hj
          cases hj
          rw [Addr.add_mid, Nat.add_assoc, hc (o + j) (by omega)]
          simp [hjn]
      have HSrc : Hid (∀ j v, (u8s ((ys.drop o).take n))[j]? = some v → wr.cell? ((⟨b, off + o, none⟩ : Addr).add j) = some v) := hsrc
      have HNl : Hid (((ys.drop o).take n).length = n) := by show _ = _; simp [HYL.out]; omega
      have HN : Hid (n = min L (64 - m % 64)) := hn
      have HL : Hid (L + o = len ∧ C + o = cap ∧ p = some ⟨b, off, none⟩) := ⟨hL, hC, hpe⟩
      have HCS : Hid (cs = zs ++ ys.take o) := hcs
      have HM : Hid (m = cs.length) := hm
      have hm64 : m % 64 < 64 := by omega
      have hm64i : ((m % 64 : Nat) : Int) ≤ 64 := by omega
      have hnL : n ≤ L := by omega
      have hLC : L ≤ C := by omega
      have hCc : C ≤ 9223372036854775807 := by omega
      have hbB : b ≠ B := by
        rcases HP.out with h | h
        · omega
        · exact h _ hpe
      have HBut : Hid (But B w.heap.size w wr) := hbut
      have hsz := hbut.size
      clear hok hrow hsrc hIr hn hL hC hpe hq hcs hm hbut
      go_wp2
      have eS : IntKind.i64.wrap (64 - ((m % 64 : Nat) : Int)) = ((64 - m % 64 : Nat) : Int) := by rw [IntKind.wrap_i64]; omega
      generalize hh : m % 64 = h at *
      have HH : Hid (m % 64 = h) := hh
      have hne : ¬ 64 = h := by omega
      clear hh
      obtain ⟨NV, hNV⟩ : ∃ NV, NV = u8s ((ys.drop o).take n) := ⟨_, rfl⟩
      have HNV : Hid (NV = u8s ((ys.drop o).take n)) := hNV
      have HNVl : Hid (NV.length = n) := by show _ = _; rw [hNV, u8s_length]; exact HNl.out
      have HNV1 : Hid (∀ v ∈ NV, v.oneCell' = true) := by rw [hNV]; exact u8s_one _
      rw [← hNV] at HSrc
      clear hNV
      refine wp_region_noPanic ?_
      refine wp_region_held_drew (S := fun _ => True) (by kernel_rfl) trivial (fun hHeld => ?_)
      refine wpAnyH_takesAt 0 4 5 (of_decide_eq_true (by kernel_rfl)) rfl (fun _ _ _ _ _ h => h) (by kernel_rfl) (by kernel_rfl) hHeld ?_
      simp only [List.drop_zero, List.take_succ_cons, List.take_zero]
      iterate 4 (refine wpHeld_step (v := ?_) (by rfl) (fun wz hSw => ?_) ?_; rotate_left; (focus ((try dsimp only at hSw); go_simp; try with_reducible rfl)); (simp only [Act.put, List.setIfInBounds_toArray, List.set_cons_zero, List.set_cons_succ]))
      refine wpHeld_nil ?_
      refine wpAnyH_takesAt 6 1 4 (of_decide_eq_true (by kernel_rfl)) rfl (fun _ _ _ _ _ h => h) (by kernel_rfl) (by kernel_rfl) hHeld ?_
      simp only [List.drop_succ_cons, List.drop_zero, List.take_succ_cons, List.take_zero]
      iterate 1 (refine wpHeld_step (v := ?_) (by rfl) (fun wz hSw => ?_) ?_; rotate_left; (focus ((try dsimp only at hSw); go_simp; try with_reducible rfl)); (simp only [Act.put, List.setIfInBounds_toArray, List.set_cons_zero, List.set_cons_succ]))
      refine wpHeld_nil ?_
      refine wpAnyH_only (i := 4) (by kernel_rfl) rfl (fun K hK => ?_)
      rw [if_pos (by rfl)]
      go_simp
      refine (HHeld.out wr.drew c73).mono ?_
      rintro e w2 ⟨rfl, rfl⟩
      refine hK.out _ _ hHeld ?_
      clear hK K
      refine wpAnyH_takesAt 5 1 2 (of_decide_eq_true (by kernel_rfl)) rfl (fun _ _ _ _ _ h => h) (by kernel_rfl) (by kernel_rfl) hHeld ?_
      simp only [List.drop_succ_cons, List.drop_zero, List.take_succ_cons, List.take_zero]
      iterate 1 (refine wpHeld_step (v := ?_) (by rfl) (fun wz hSw => ?_) ?_; rotate_left; (focus ((try dsimp only at hSw); go_simp; try with_reducible rfl)); (simp only [Act.put, List.setIfInBounds_toArray, List.set_cons_zero, List.set_cons_succ]))
      refine wpHeld_nil ?_
      refine wpAnyH_only (i := 7) (by kernel_rfl) rfl (fun K hK => ?_)
      refine step_copy_but rfl (.tmp 22) (.tmp 23) 22 22 rfl 5 Tryd.underlying22 size5 B (9 + h) (64 - h) (64 - h) ⟨b, off + o, none⟩ L C rfl rfl (runCells s R cs.length) 106 HRow.out.drew NV (by rw [HNVl.out, HN.out]) HSrc.out (by rw [runCells_length _ HOK.out.len HOK.out.2.1, HNVl.out]; have := HN.out; omega) HNV1.out (fun w3 hrow3 hbut3 => ?_)
      rw [HNVl.out]
      rw [runCells_splice _ _ HOK.out.len HOK.out.2.1 (by rw [HNVl.out]; have := HN.out; omega)] at hrow3
      refine hK.out _ _ trivial ?_
      clear hK K
      refine wpAnyH_only (i := 8) (by kernel_rfl) rfl (fun K hK => ?_)
      rw [if_pos (by rfl)]
      go_simp
      refine hK.out _ _ trivial ?_
      clear hK K
      refine wpAnyH_done (by kernel_rfl) ?_ _
      refine NoPanic.normal ?_
      have HRow3 : Hid (Row w3 B 106 (runCells s (splice R h NV) cs.length)) := hrow3
      have HBut3 : Hid (But B w.heap.size w w3) := HBut.out.trans ⟨hbut3.os, hbut3.tape, hbut3.output, hbut3.size, fun k hk hB => hbut3.block k (Nat.lt_of_lt_of_le hk hsz) hB⟩
      have hRl : (splice R h NV).length = 64 := by rw [length_splice _ _ _ (by rw [HNVl.out, HOK.out.2.1]; have := HN.out; omega)]; exact HOK.out.2.1
      have HRl : Hid ((splice R h NV).length = 64) := hRl
      have d73 := hrow3.cell (runCells_73 cs.length HOK.out.len hRl)
      have f73 := hrow3.frozen 73
      rw [← HM.out] at d73
      have hmb : m + n ≤ 200000 := by have := HM.out; have := HL.out; omega
      have eU : IntKind.u64.wrap ((m : Int) + (n : Int)) = ((m + n : Nat) : Int) := by rw [IntKind.wrap_u64]; omega
      have hnLi : (n : Int) ≤ (L : Int) := by omega
      clear hrow3 hbut3 hRl c73
      generalize hR2 : splice R h NV = R2 at *
      have HR2 : Hid (splice R h NV = R2) := hR2
      clear hR2
      have HTake : Hid (zs ++ ys.take (o + n) = cs ++ (ys.drop o).take n) := by show _ = _; rw [HCS.out, List.take_add, List.append_assoc]
      have HLen : Hid ((cs ++ (ys.drop o).take n).length = m + n) := by show _ = _; rw [List.length_append, HNl.out, ← HM.out]
      have HRow4 : Hid (Row (w3.setCell ⟨B, 73, none⟩ (.int .u64 ((m : Int) + (n : Int)))) B 106 (runCells s R2 (m + n))) := by
        have h := HRow3.out.set 73 (.int .u64 ((m + n : Nat) : Int))
        rw [runCells_set _ _ HOK.out.len HRl.out] at h
        exact h
      have HBut4 : Hid (But B w.heap.size w (w3.setCell ⟨B, 73, none⟩ (.int .u64 ((m : Int) + (n : Int))))) := HBut3.out.trans (But.set _ _)
      by_cases hfull : (m + n) % 64 = 0
      · have hfi : (((m : Int) + (n : Int)) % 64 == 0) = true := by simp; omega
        have hhn : h + n = 64 := by have := HN.out; have := HH.out; omega
        have HF := HOK.out.full (new := (ys.drop o).take n) (by rw [HNl.out, ← HM.out, HH.out]; exact hhn)
        rw [← HM.out, HH.out, ← HNV.out, HR2.out] at HF
        obtain ⟨X, hX⟩ : ∃ X, X = cs.drop (64 * (m / 64)) ++ (ys.drop o).take n := ⟨_, rfl⟩
        rw [← hX] at HF
        have HXl : Hid (X.length = 64) := by show _ = _; rw [hX, List.length_append, List.length_drop, HNl.out, ← HM.out]; have := HH.out; omega
        have HXb : Hid (∀ z ∈ X, z < 256) := by
          intro z hz'
          rw [hX] at hz'
          rcases List.mem_append.1 hz' with h1 | h1
          · have h2 := List.mem_of_mem_drop h1
            rw [HCS.out] at h2
            rcases List.mem_append.1 h2 with h3 | h3
            · exact HZ.out z h3
            · exact HI.out.2.2.2.1 z (List.mem_of_mem_take h3)
          · exact HI.out.2.2.2.1 z (List.mem_of_mem_drop (List.mem_of_mem_take h1))
        have HRX : Hid (R2 = u8s X) := HF.1
        have HSe : Hid (s = u32s (wordsN (fullL cs (m / 64))).list) := by have h := HOK.out.1; rw [← HM.out] at h; exact h
        have HOK2 : Hid (RunOk (u32s (compressN (wordsN (fullL cs (m / 64))) X).list) (u8s X) (cs ++ (ys.drop o).take n)) := HF.2
        have HC : Hid (∀ A, Tab A → Calls Tryd.prog 42 #[.agg s.toArray, .agg R2.toArray] A fun e w' => e = .returned (.agg (u32s (compressN (wordsN (fullL cs (m / 64))) X).list).toArray) ∧ Below A.heap.size A w') := fun A hT => by
          rw [HSe.out, HRX.out]; exact compress_any _ (wordsN_ok _) X HXl.out HXb.out A hT
        clear HF hX
        generalize hS2 : u32s (compressN (wordsN (fullL cs (m / 64))) X).list = S2 at *
        have HS2l : Hid (S2.length = 8) := by show _ = _; rw [← hS2, u32s_length, St.list_length]
        have HS21 : Hid (∀ v ∈ S2, v.oneCell' = true) := by rw [← hS2]; exact u32s_one _
        clear hS2
        by_cases hCn : C = n
        · go_wp2
          generalize hw4 : w3.setCell ⟨B, 73, none⟩ (.int .u64 ((m : Int) + (n : Int))) = w4 at *
          refine wp_region_noPanic ?_
          refine wp_region_held_drew (S := fun _ => True) (by kernel_rfl) trivial (fun hHeld => ?_)
          refine wpAnyH_takesAt 0 4 9 (of_decide_eq_true (by kernel_rfl)) rfl (fun _ _ _ _ _ h => h) (by kernel_rfl) (by kernel_rfl) hHeld ?_
          simp only [List.drop_zero, List.take_succ_cons, List.take_zero]
          iterate 4 (refine wpHeld_step (v := ?_) (by rfl) (fun wz hSw => ?_) ?_; rotate_left; (focus ((try dsimp only at hSw); go_simp; try with_reducible rfl)); (simp only [Act.put, List.setIfInBounds_toArray, List.set_cons_zero, List.set_cons_succ]))
          refine wpHeld_nil ?_
          refine wpAnyH_takesAt 5 3 6 (of_decide_eq_true (by kernel_rfl)) rfl (fun _ _ _ _ _ h => h) (by kernel_rfl) (by kernel_rfl) hHeld ?_
          simp only [List.drop_succ_cons, List.drop_zero, List.take_succ_cons, List.take_zero]
          iterate 3 (refine wpHeld_step (v := ?_) (by rfl) (fun wz hSw => ?_) ?_; rotate_left; (focus ((try dsimp only at hSw); go_simp; try with_reducible rfl)); (simp only [Act.put, List.setIfInBounds_toArray, List.set_cons_zero, List.set_cons_succ]))
          refine wpHeld_nil ?_
          refine wpAnyH_either (i := 4) (j := 8) (by kernel_rfl) rfl rfl (fun K hK => ?_) (fun K hK => ?_)
          · rw [if_pos (by rfl)]
            refine wp_load_mid 98 (.tmp 43) rfl B 1 rfl s _ (runCells_words HRow4.out.drew) Tryd.underlying98 rfl (by rw [HOK.out.len]; exact size98) ?_
            simp only [Act.put, List.setIfInBounds_toArray]
            refine hK.out _ _ trivial ?_
            clear hK K
            refine wpAnyH_only (i := 8) (by kernel_rfl) rfl (fun K hK => ?_)
            rw [if_pos (by rfl)]
            refine wp_load_mid 91 (.tmp 47) rfl B 9 rfl R2 _ (runCells_rest HOK.out.len HRow4.out.drew) Tryd.underlying91 rfl (by rw [HRl.out]; exact size91') ?_
            simp only [Act.put]
            refine hK.out _ _ trivial ?_
            clear hK K
            refine wpAnyH_only (i := 9) (by kernel_rfl) rfl (fun K hK => ?_)
            rw [if_pos (by rfl)]
            go_simp
            refine (HC.out w4.drew (HBut4.out.drew.tab hB0 (by omega) HT.out)).mono ?_
            rintro e w5 ⟨rfl, hb5⟩
            refine hK.out _ _ trivial ?_
            clear hK K
            have HRow5 : Hid (Row w5 B 106 (runCells s R2 (m + n))) := HRow4.out.drew.later hb5
            have HBut5 : Hid (But B w.heap.size w w5) := HBut4.out.drew.trans (But.of_below hb5 (by have := HBut4.out.size; simpa using this))
            refine wpAnyH_takesAt 10 2 1 (of_decide_eq_true (by kernel_rfl)) rfl (fun _ _ _ _ _ h => h) (by kernel_rfl) (by kernel_rfl) hHeld ?_
            simp only [List.drop_succ_cons, List.drop_zero, List.take_succ_cons, List.take_zero]
            iterate 2 (refine wpHeld_step (v := ?_) (by rfl) (fun wz hSw => ?_) ?_; rotate_left; (focus ((try dsimp only at hSw); go_simp; try with_reducible rfl)); (simp only [Act.put, List.setIfInBounds_toArray, List.set_cons_zero, List.set_cons_succ]))
            refine wpHeld_nil ?_
            refine wpAnyH_only (i := 12) (by kernel_rfl) rfl (fun K hK => ?_)
            rw [if_pos (by rfl)]
            refine wp_store_mid 98 (.tmp 51) (.tmp 49) rfl B 1 S2.toArray rfl rfl (fun j hj => ⟨by rw [HRow5.out.cell (List.getElem?_eq_getElem (by rw [runCells_length _ HOK.out.len HRl.out]; simp [HS2l.out] at hj; omega))]; rfl, HRow5.out.frozen _⟩) (by simpa [HS2l.out] using size98) (all_oneCell_toArray HS21.out) ?_
            simp only [Act.put]
            refine hK.out _ _ trivial ?_
            clear hK K
            refine wpAnyH_done (by kernel_rfl) ?_ _
            refine NoPanic.normal ?_
            have HRow6 : Hid (Row (w5.setCells B 1 S2) B 106 (runCells S2 R2 (m + n))) := by
              have h := Row.sets S2 1 HRow5.out
              rw [runCells_put _ HOK.out.len HS2l.out] at h
              exact h
            have HBut6 : Hid (But B w.heap.size w (w5.setCells B 1 S2)) := HBut5.out.trans (But.sets _ _ _)
            go_wp2
            go_roundw
            case rel =>
              obtain ⟨h1, h2, h3⟩ := HL.out
              exact ⟨o + n, L - n, 0, _, rfl, by omega, by omega, fun hh => by omega, ⟨S2, R2, by rw [HTake.out, HRX.out]; exact HOK2.out, by rw [HTake.out, HLen.out]; exact HRow6.out⟩, HBut6.out⟩
            case measure => have := HN.out; simp only [sliceLen]; omega
          · rw [if_pos (by rfl)]
            refine wp_load_mid 91 (.tmp 47) rfl B 9 rfl R2 _ (runCells_rest HOK.out.len HRow4.out.drew) Tryd.underlying91 rfl (by rw [HRl.out]; exact size91') ?_
            simp only [Act.put, List.setIfInBounds_toArray]
            refine hK.out _ _ trivial ?_
            clear hK K
            refine wpAnyH_only (i := 4) (by kernel_rfl) rfl (fun K hK => ?_)
            rw [if_pos (by rfl)]
            refine wp_load_mid 98 (.tmp 43) rfl B 1 rfl s _ (runCells_words HRow4.out.drew) Tryd.underlying98 rfl (by rw [HOK.out.len]; exact size98) ?_
            simp only [Act.put]
            refine hK.out _ _ trivial ?_
            clear hK K
            refine wpAnyH_only (i := 9) (by kernel_rfl) rfl (fun K hK => ?_)
            rw [if_pos (by rfl)]
            go_simp
            refine (HC.out w4.drew (HBut4.out.drew.tab hB0 (by omega) HT.out)).mono ?_
            rintro e w5 ⟨rfl, hb5⟩
            refine hK.out _ _ trivial ?_
            clear hK K
            have HRow5 : Hid (Row w5 B 106 (runCells s R2 (m + n))) := HRow4.out.drew.later hb5
            have HBut5 : Hid (But B w.heap.size w w5) := HBut4.out.drew.trans (But.of_below hb5 (by have := HBut4.out.size; simpa using this))
            refine wpAnyH_takesAt 10 2 1 (of_decide_eq_true (by kernel_rfl)) rfl (fun _ _ _ _ _ h => h) (by kernel_rfl) (by kernel_rfl) hHeld ?_
            simp only [List.drop_succ_cons, List.drop_zero, List.take_succ_cons, List.take_zero]
            iterate 2 (refine wpHeld_step (v := ?_) (by rfl) (fun wz hSw => ?_) ?_; rotate_left; (focus ((try dsimp only at hSw); go_simp; try with_reducible rfl)); (simp only [Act.put, List.setIfInBounds_toArray, List.set_cons_zero, List.set_cons_succ]))
            refine wpHeld_nil ?_
            refine wpAnyH_only (i := 12) (by kernel_rfl) rfl (fun K hK => ?_)
            rw [if_pos (by rfl)]
            refine wp_store_mid 98 (.tmp 51) (.tmp 49) rfl B 1 S2.toArray rfl rfl (fun j hj => ⟨by rw [HRow5.out.cell (List.getElem?_eq_getElem (by rw [runCells_length _ HOK.out.len HRl.out]; simp [HS2l.out] at hj; omega))]; rfl, HRow5.out.frozen _⟩) (by simpa [HS2l.out] using size98) (all_oneCell_toArray HS21.out) ?_
            simp only [Act.put]
            refine hK.out _ _ trivial ?_
            clear hK K
            refine wpAnyH_done (by kernel_rfl) ?_ _
            refine NoPanic.normal ?_
            have HRow6 : Hid (Row (w5.setCells B 1 S2) B 106 (runCells S2 R2 (m + n))) := by
              have h := Row.sets S2 1 HRow5.out
              rw [runCells_put _ HOK.out.len HS2l.out] at h
              exact h
            have HBut6 : Hid (But B w.heap.size w (w5.setCells B 1 S2)) := HBut5.out.trans (But.sets _ _ _)
            go_wp2
            go_roundw
            case rel =>
              obtain ⟨h1, h2, h3⟩ := HL.out
              exact ⟨o + n, L - n, 0, _, rfl, by omega, by omega, fun hh => by omega, ⟨S2, R2, by rw [HTake.out, HRX.out]; exact HOK2.out, by rw [HTake.out, HLen.out]; exact HRow6.out⟩, HBut6.out⟩
            case measure => have := HN.out; simp only [sliceLen]; omega
        · go_wp2
          generalize hw4 : w3.setCell ⟨B, 73, none⟩ (.int .u64 ((m : Int) + (n : Int))) = w4 at *
          refine wp_region_noPanic ?_
          refine wp_region_held_drew (S := fun _ => True) (by kernel_rfl) trivial (fun hHeld => ?_)
          refine wpAnyH_takesAt 0 4 9 (of_decide_eq_true (by kernel_rfl)) rfl (fun _ _ _ _ _ h => h) (by kernel_rfl) (by kernel_rfl) hHeld ?_
          simp only [List.drop_zero, List.take_succ_cons, List.take_zero]
          iterate 4 (refine wpHeld_step (v := ?_) (by rfl) (fun wz hSw => ?_) ?_; rotate_left; (focus ((try dsimp only at hSw); go_simp; try with_reducible rfl)); (simp only [Act.put, List.setIfInBounds_toArray, List.set_cons_zero, List.set_cons_succ]))
          refine wpHeld_nil ?_
          refine wpAnyH_takesAt 5 3 6 (of_decide_eq_true (by kernel_rfl)) rfl (fun _ _ _ _ _ h => h) (by kernel_rfl) (by kernel_rfl) hHeld ?_
          simp only [List.drop_succ_cons, List.drop_zero, List.take_succ_cons, List.take_zero]
          iterate 3 (refine wpHeld_step (v := ?_) (by rfl) (fun wz hSw => ?_) ?_; rotate_left; (focus ((try dsimp only at hSw); go_simp; try with_reducible rfl)); (simp only [Act.put, List.setIfInBounds_toArray, List.set_cons_zero, List.set_cons_succ]))
          refine wpHeld_nil ?_
          refine wpAnyH_either (i := 4) (j := 8) (by kernel_rfl) rfl rfl (fun K hK => ?_) (fun K hK => ?_)
          · rw [if_pos (by rfl)]
            refine wp_load_mid 98 (.tmp 43) rfl B 1 rfl s _ (runCells_words HRow4.out.drew) Tryd.underlying98 rfl (by rw [HOK.out.len]; exact size98) ?_
            simp only [Act.put, List.setIfInBounds_toArray]
            refine hK.out _ _ trivial ?_
            clear hK K
            refine wpAnyH_only (i := 8) (by kernel_rfl) rfl (fun K hK => ?_)
            rw [if_pos (by rfl)]
            refine wp_load_mid 91 (.tmp 47) rfl B 9 rfl R2 _ (runCells_rest HOK.out.len HRow4.out.drew) Tryd.underlying91 rfl (by rw [HRl.out]; exact size91') ?_
            simp only [Act.put]
            refine hK.out _ _ trivial ?_
            clear hK K
            refine wpAnyH_only (i := 9) (by kernel_rfl) rfl (fun K hK => ?_)
            rw [if_pos (by rfl)]
            go_simp
            refine (HC.out w4.drew (HBut4.out.drew.tab hB0 (by omega) HT.out)).mono ?_
            rintro e w5 ⟨rfl, hb5⟩
            refine hK.out _ _ trivial ?_
            clear hK K
            have HRow5 : Hid (Row w5 B 106 (runCells s R2 (m + n))) := HRow4.out.drew.later hb5
            have HBut5 : Hid (But B w.heap.size w w5) := HBut4.out.drew.trans (But.of_below hb5 (by have := HBut4.out.size; simpa using this))
            refine wpAnyH_takesAt 10 2 1 (of_decide_eq_true (by kernel_rfl)) rfl (fun _ _ _ _ _ h => h) (by kernel_rfl) (by kernel_rfl) hHeld ?_
            simp only [List.drop_succ_cons, List.drop_zero, List.take_succ_cons, List.take_zero]
            iterate 2 (refine wpHeld_step (v := ?_) (by rfl) (fun wz hSw => ?_) ?_; rotate_left; (focus ((try dsimp only at hSw); go_simp; try with_reducible rfl)); (simp only [Act.put, List.setIfInBounds_toArray, List.set_cons_zero, List.set_cons_succ]))
            refine wpHeld_nil ?_
            refine wpAnyH_only (i := 12) (by kernel_rfl) rfl (fun K hK => ?_)
            rw [if_pos (by rfl)]
            refine wp_store_mid 98 (.tmp 51) (.tmp 49) rfl B 1 S2.toArray rfl rfl (fun j hj => ⟨by rw [HRow5.out.cell (List.getElem?_eq_getElem (by rw [runCells_length _ HOK.out.len HRl.out]; simp [HS2l.out] at hj; omega))]; rfl, HRow5.out.frozen _⟩) (by simpa [HS2l.out] using size98) (all_oneCell_toArray HS21.out) ?_
            simp only [Act.put]
            refine hK.out _ _ trivial ?_
            clear hK K
            refine wpAnyH_done (by kernel_rfl) ?_ _
            refine NoPanic.normal ?_
            have HRow6 : Hid (Row (w5.setCells B 1 S2) B 106 (runCells S2 R2 (m + n))) := by
              have h := Row.sets S2 1 HRow5.out
              rw [runCells_put _ HOK.out.len HS2l.out] at h
              exact h
            have HBut6 : Hid (But B w.heap.size w (w5.setCells B 1 S2)) := HBut5.out.trans (But.sets _ _ _)
            go_wp2
            go_roundw
            case rel =>
              obtain ⟨h1, h2, h3⟩ := HL.out
              exact ⟨o + n, L - n, C - n, _, rfl, by omega, by omega, fun hh => ⟨b, off, h3, by rw [Nat.add_assoc]⟩, ⟨S2, R2, by rw [HTake.out, HRX.out]; exact HOK2.out, by rw [HTake.out, HLen.out]; exact HRow6.out⟩, HBut6.out⟩
            case measure => have := HN.out; simp only [sliceLen]; omega
          · rw [if_pos (by rfl)]
            refine wp_load_mid 91 (.tmp 47) rfl B 9 rfl R2 _ (runCells_rest HOK.out.len HRow4.out.drew) Tryd.underlying91 rfl (by rw [HRl.out]; exact size91') ?_
            simp only [Act.put, List.setIfInBounds_toArray]
            refine hK.out _ _ trivial ?_
            clear hK K
            refine wpAnyH_only (i := 4) (by kernel_rfl) rfl (fun K hK => ?_)
            rw [if_pos (by rfl)]
            refine wp_load_mid 98 (.tmp 43) rfl B 1 rfl s _ (runCells_words HRow4.out.drew) Tryd.underlying98 rfl (by rw [HOK.out.len]; exact size98) ?_
            simp only [Act.put]
            refine hK.out _ _ trivial ?_
            clear hK K
            refine wpAnyH_only (i := 9) (by kernel_rfl) rfl (fun K hK => ?_)
            rw [if_pos (by rfl)]
            go_simp
            refine (HC.out w4.drew (HBut4.out.drew.tab hB0 (by omega) HT.out)).mono ?_
            rintro e w5 ⟨rfl, hb5⟩
            refine hK.out _ _ trivial ?_
            clear hK K
            have HRow5 : Hid (Row w5 B 106 (runCells s R2 (m + n))) := HRow4.out.drew.later hb5
            have HBut5 : Hid (But B w.heap.size w w5) := HBut4.out.drew.trans (But.of_below hb5 (by have := HBut4.out.size; simpa using this))
            refine wpAnyH_takesAt 10 2 1 (of_decide_eq_true (by kernel_rfl)) rfl (fun _ _ _ _ _ h => h) (by kernel_rfl) (by kernel_rfl) hHeld ?_
            simp only [List.drop_succ_cons, List.drop_zero, List.take_succ_cons, List.take_zero]
            iterate 2 (refine wpHeld_step (v := ?_) (by rfl) (fun wz hSw => ?_) ?_; rotate_left; (focus ((try dsimp only at hSw); go_simp; try with_reducible rfl)); (simp only [Act.put, List.setIfInBounds_toArray, List.set_cons_zero, List.set_cons_succ]))
            refine wpHeld_nil ?_
            refine wpAnyH_only (i := 12) (by kernel_rfl) rfl (fun K hK => ?_)
            rw [if_pos (by rfl)]
            refine wp_store_mid 98 (.tmp 51) (.tmp 49) rfl B 1 S2.toArray rfl rfl (fun j hj => ⟨by rw [HRow5.out.cell (List.getElem?_eq_getElem (by rw [runCells_length _ HOK.out.len HRl.out]; simp [HS2l.out] at hj; omega))]; rfl, HRow5.out.frozen _⟩) (by simpa [HS2l.out] using size98) (all_oneCell_toArray HS21.out) ?_
            simp only [Act.put]
            refine hK.out _ _ trivial ?_
            clear hK K
            refine wpAnyH_done (by kernel_rfl) ?_ _
            refine NoPanic.normal ?_
            have HRow6 : Hid (Row (w5.setCells B 1 S2) B 106 (runCells S2 R2 (m + n))) := by
              have h := Row.sets S2 1 HRow5.out
              rw [runCells_put _ HOK.out.len HS2l.out] at h
              exact h
            have HBut6 : Hid (But B w.heap.size w (w5.setCells B 1 S2)) := HBut5.out.trans (But.sets _ _ _)
            go_wp2
            go_roundw
            case rel =>
              obtain ⟨h1, h2, h3⟩ := HL.out
              exact ⟨o + n, L - n, C - n, _, rfl, by omega, by omega, fun hh => ⟨b, off, h3, by rw [Nat.add_assoc]⟩, ⟨S2, R2, by rw [HTake.out, HRX.out]; exact HOK2.out, by rw [HTake.out, HLen.out]; exact HRow6.out⟩, HBut6.out⟩
            case measure => have := HN.out; simp only [sliceLen]; omega
      · have hfi : (((m : Int) + (n : Int)) % 64 == 0) = false := by simp; omega
        have hhn : h + n < 64 := by have := HN.out; have := HH.out; omega
        have HOK2 : Hid (RunOk s R2 (cs ++ (ys.drop o).take n)) := by
          have h := HOK.out.part (new := (ys.drop o).take n) (by rw [HNl.out, ← HM.out, HH.out]; exact hhn)
          rw [← HM.out, HH.out, ← HNV.out, HR2.out] at h
          exact h
        go_wp2
        go_roundw
        case rel =>
          obtain ⟨h1, h2, h3⟩ := HL.out
          exact ⟨o + n, L - n, C - n, _, rfl, by omega, by omega, fun hh => ⟨b, off, h3, by rw [if_neg (by omega), Nat.add_assoc]⟩, ⟨s, R2, by rw [HTake.out]; exact HOK2.out, by rw [HTake.out, HLen.out]; exact HRow4.out⟩, HBut4.out⟩
        case measure => have := HN.out; simp only [sliceLen]; omega
    · obtain rfl : L = 0 := by omega
      obtain rfl : o = len := by omega
      rw [List.take_of_length_le (by rw [HYL.out]; exact Nat.le_refl _)] at hrun
      go_wp2
      go_end0
      exact ⟨⟨_, rfl⟩, hrun, hbut⟩
end Go.Proofs.YtkpjbleogjmbjaaDoor.Sh
/-
  What a running sum's Begin and Sum answer: a sum of nothing yet; the sum of all that was taken in. Nothing that lay before the call has turned.
-/
namespace Go.Proofs.YtkpjbleogjmbjaaDoor.Sh
open Go.RowKit Go.Shelf
attribute [local go_sem] Oper.semAt_some

theorem first8_cells : u32s first8.list = [.int .u32 1779033703, .int .u32 3144134277, .int .u32 1013904242, .int .u32 2773480762, .int .u32 1359893119, .int .u32 2600822924, .int .u32 528734635, .int .u32 1541459225] := rfl

theorem wpList_build_as {P : Program} {ops : Array Oper} {rest : List Oper} {o : Oper} {a : Act} {w : World} {Q : Exit → Act → World → Prop} (hg : o.guard = none) (t : TypeId) (parts : Array (Nat × Operand)) (ho : o.op = .build t parts) (vs : List (Nat × Value)) (hv : (parts.map fun (i, x) => (i, a.eval x)).toList = vs)
    (cells : Array Value) (hf : P.built t vs = some cells) (h : wpList P ops Q rest (a.put o.dst (.agg cells)) w) : wpList P ops Q (o :: rest) a w := by
  refine wpList_build hg t parts ho (by rw [hv, hf]; rfl) ?_
  rw [hv, hf]
  exact h

theorem built63 : Tryd.prog.built 106 [(0, .bool true), (1, .agg (u32s first8.list).toArray)] = some (runCells (u32s first8.list) (List.replicate 64 (.int .u8 0)) 0).toArray := by kernel_rfl

set_option maxRecDepth 100000 in
set_option maxHeartbeats 1000000 in
/-- Begin -/
theorem begin_any (w : World) : Calls Tryd.prog 40 #[] w fun e w' => ∃ B, e = .returned (.pointer (some ⟨B, 0, none⟩)) ∧ w.heap.size ≤ B ∧ RunAt w' B [] ∧ Below w.heap.size w w' := by
  have HB := built63
  have HF : Hid (∀ w, Calls Tryd.prog 49 #[] w fun e w' => e = .returned (.agg (u32s first8.list).toArray) ∧ Below w.heap.size w w') := firstWords_any
  obtain ⟨f8, hf8⟩ : ∃ f8, f8 = u32s first8.list := ⟨_, rfl⟩
  rw [← hf8] at HF HB
  have HF8 : Hid (f8 = u32s first8.list) := hf8
  obtain ⟨Z, hZ⟩ : ∃ Z, Z = runCells f8 (List.replicate 64 (.int .u8 0)) 0 := ⟨_, rfl⟩
  rw [← hZ] at HB
  have HBu : Hid (Tryd.prog.built 106 [(0, .bool true), (1, .agg f8.toArray)] = some Z.toArray) := HB
  have HZ : Hid (Z = runCells f8 (List.replicate 64 (.int .u8 0)) 0) := hZ
  clear hf8 hZ HB
  go_enter Tryd.func40, Tryd.ntmps40
  go_wp2_with (first
    | (go_at_call 49; refine (HF.out _).mono ?_; rintro e w1 ⟨rfl, hb1⟩)
    | ((with_reducible show wpList _ _ _ (Oper.mk _ (Op.build 106 _) _ _ _ _ :: _) _ _); refine wpList_build_as rfl 106 _ rfl [(0, .bool true), (1, .agg f8.toArray)] (by simp only [List.map_toArray, List.map_cons, List.map_nil]; rfl) Z.toArray HBu.out ?_; simp only [Act.put, List.setIfInBounds_toArray, List.set_cons_zero, List.set_cons_succ]))
  go_ret
  refine ⟨w1.heap.size, rfl, hb1.size, ⟨f8, List.replicate 64 (.int .u8 0), ⟨HF8.out, rfl, rfl⟩, ?_⟩, hb1.alloc hb1.size _⟩
  have h := Row.new' w1 106 Z
  rw [HZ.out] at h ⊢
  exact h

/-- The bytes that wait. -/
theorem rest_bytes {W : World} {B : Nat} {s R : List Value} {cs : List Nat} (hok : RunOk s R cs) (hr : Row W B 106 (runCells s R cs.length)) (hz : ∀ z ∈ cs, z < 256) : IsBytes W.heap.size W (some ⟨B, 9, none⟩) (cs.length % 64) 64 (cs.drop (64 * (cs.length / 64))) := by
  refine ⟨by simp; omega, by omega, by omega, fun z h => hz z (List.mem_of_mem_drop h), .inr ⟨B, 9, rfl, hr.lt, fun i hi => ?_⟩⟩
  refine runCells_rest hok.len hr i _ ?_
  have h := congrArg (fun l => l[i]?) hok.2.2
  simp only [List.getElem?_take, hi, if_true] at h
  rw [h, u8s_at (by simp; omega)]

theorem _root_.Go.Proofs.YtkpjbleogjmbjaaDoor.Row.newB (W : World) (o : Obj) (t : TypeId) (c : Array Value) : Row ((W.alloc o).alloc (.cells c t)) (W.heap.size + 1) t c.toList := by
  have := Row.new (W.alloc o) t c
  rwa [World.size_alloc] at this
theorem wpListIn_load_mid {F : Fence} {n : Nat} {P : Program} {ops : Array Oper} {rest : List Oper} {o : Oper} {a : Act} {w : World} {Q : Exit → Act → World → Prop} (hgd : o.guard = none) (ty : TypeId) (x : Operand) (ho : o.op = .load ty x)
    (g off : Nat) (hx : a.eval x = .pointer (some ⟨g, off, none⟩)) (cs : List Value) (hg : w.rangeAt g off cs) {m : Nat} {e : TypeId} (hu : P.underlying ty = some (.array m e)) (hi : (P.info? ty).map (·.size) = some cs.length)
    (h : wpListIn F n P ops Q rest (a.put o.dst (.agg cs.toArray)) w) : wpListIn F n P ops Q (o :: rest) a w := by
  refine wpListIn_plain hgd fun K hK => ?_
  unfold Oper.wpIn
  refine ⟨by simp [Oper.about, ho], ?_⟩
  rw [Oper.semAt_plain F _ _ (by rw [ho]; intro c hc; cases hc)]
  simp only [execOp, ho, hx, Instr.loadAt, Instr.sureAddr, Sem.run_bind, Sem.run_pure, Result.andThen_ok, run_loadVar_mid w g off ty cs _ hg hu rfl hi]
  exact hK _ _ h

set_option maxRecDepth 100000 in
set_option maxHeartbeats 2000000 in
theorem rsum_in (n : Nat) (hn : 8 ≤ n) (B : Nat) (cs : List Nat) (hcl : cs.length ≤ 100000) (hz : ∀ z ∈ cs, z < 256) (w : World) (hT : Tab w) (hR : RunAt w B cs) :
    CallsIn Fence.wide n Tryd.prog 35 #[.pointer (some ⟨B, 0, none⟩)] w fun e w' => e = .returned (.agg (u8s (sumN cs)).toArray) ∧ Below w.heap.size w w' := by
  have h1 : 1 ≤ n := by omega
  have hfn : ∀ f, Fence.wide.fn f := fun _ => trivial
  have HT : Hid (Tab w) := hT
  have hBl := hR.lt
  obtain ⟨s, R, hok, hrow⟩ := hR
  have HOK : Hid (RunOk s R cs) := hok
  have HRow : Hid (Row w B 106 (runCells s R cs.length)) := hrow
  have HZ : Hid (∀ z ∈ cs, z < 256) := hz
  have c0 := hrow.cell (runCells_0 _ _ _)
  have c0' := fun o => (hrow.alloc o).cell (runCells_0 _ _ _)
  obtain ⟨m, hm⟩ : ∃ m, m = cs.length := ⟨_, rfl⟩
  have HM : Hid (m = cs.length) := hm
  have hmb : m ≤ 100000 := by omega
  have HSl : Hid (s.length = 8) := hok.len
  have HS1 : Hid (∀ v ∈ s, v.oneCell' = true) := by rw [hok.1]; exact u32s_one _
  clear hT hok hrow hz hm hcl
  refine callsIn_of_wp_marks Tryd.func35 rfl trivial ?_ rfl
  simp only [Tryd.ntmps35, List.size_toArray, List.length_cons, List.length_nil, Nat.reduceAdd, Nat.reduceSub, Array.replicate_succ, Array.replicate_zero, List.push_toArray, List.append_toArray, List.nil_append, List.cons_append]
  gi_wp2_with (first
    | ((with_reducible show wpListIn _ _ _ _ _ (Oper.mk _ (Op.load 98 (.tmp 17)) _ _ _ _ :: _) _ _); refine wpListIn_load_mid rfl 98 (.tmp 17) rfl B 1 rfl s (runCells_words (HRow.out.alloc _)) Tryd.underlying98 (by rw [HSl.out]; exact size98) ?_; simp only [Act.put, List.setIfInBounds_toArray, List.set_cons_zero, List.set_cons_succ])
    | ((with_reducible show wpListIn _ _ _ _ _ (Oper.mk _ (Op.store 98 (.tmp 3) (.tmp 18)) _ _ _ _ :: _) _ _); refine wpListIn_store_Row rfl 98 (.tmp 3) (.tmp 18) rfl s rfl rfl (Row.newB _ _ _ _) (by rw [HSl.out]; exact size98) (by rw [HSl.out]; rfl) HS1.out ?_; simp only [Act.put]))
  rw [z32u8, z8u32]
  have rR : Row (((w.alloc (.cells (List.replicate 32 (Value.int .u8 0)).toArray 34)).alloc (.cells (List.replicate 8 (Value.int .u32 0)).toArray 98)).setCells (w.heap.size + 1) 0 s) w.heap.size 34 (List.replicate 32 (.int .u8 0)) := Row.others (by omega) _ _ ((Row.new' w 34 _).alloc _)
  have rH : Row (((w.alloc (.cells (List.replicate 32 (Value.int .u8 0)).toArray 34)).alloc (.cells (List.replicate 8 (Value.int .u32 0)).toArray 98)).setCells (w.heap.size + 1) 0 s) (w.heap.size + 1) 98 s := Row.sets_all (Row.newB _ _ _ _) (by rw [HSl.out]; rfl)
  have hbA : Below w.heap.size w (((w.alloc (.cells (List.replicate 32 (Value.int .u8 0)).toArray 34)).alloc (.cells (List.replicate 8 (Value.int .u32 0)).toArray 98)).setCells (w.heap.size + 1) 0 s) := below_setCells (by omega) _ _ (((Below.refl _ w).alloc (Nat.le_refl _) _).alloc (by simp) _)
  have hsA : (((w.alloc (.cells (List.replicate 32 (Value.int .u8 0)).toArray 34)).alloc (.cells (List.replicate 8 (Value.int .u32 0)).toArray 98)).setCells (w.heap.size + 1) 0 s).heap.size = w.heap.size + 2 := by rw [size_setCells, World.size_alloc, World.size_alloc]
  generalize (((w.alloc (.cells (List.replicate 32 (Value.int .u8 0)).toArray 34)).alloc (.cells (List.replicate 8 (Value.int .u32 0)).toArray 98)).setCells (w.heap.size + 1) 0 s) = w2 at *
  have HRow2 : Hid (Row w2 B 106 (runCells s R cs.length)) := HRow.out.later hbA
  have c73 := HRow2.out.cell (runCells_73 cs.length HOK.out.len HOK.out.2.1)
  rw [← HM.out] at c73
  have HHeld : Hid (∀ W : World, W.cell? ⟨B, 73, none⟩ = some (.int .u64 (m : Nat)) → Calls Tryd.prog 41 #[.pointer (some ⟨B, 0, none⟩)] W fun e w' => e = .returned (.int .i64 (m % 64 : Nat)) ∧ w' = W) := fun W hc => held_any B m (by omega) W hc
  have hm64 : m % 64 < 64 := by omega
  have hm64i : ((m % 64 : Nat) : Int) ≤ 64 := by omega
  clear c0 c0'
  generalize hh : m % 64 = h at *
  have HH : Hid (m % 64 = h) := hh
  clear hh
  refine wpIn_region_on_wide (S := fun W' => W'.cell? ⟨B, 73, none⟩ = some (.int .u64 (m : Nat))) (by kernel_rfl) (by kernel_rfl) c73 (fun hHeld => ?_)
  refine wpAnyH_takesAt 0 4 7 (of_decide_eq_true (by kernel_rfl)) rfl (fun _ _ _ _ _ h => h) (by kernel_rfl) (by kernel_rfl) hHeld ?_
  simp only [List.drop_zero, List.take_succ_cons, List.take_zero]
  iterate 4 (refine wpHeld_step (v := ?_) (by rfl) (fun wz hSw => ?_) ?_; rotate_left; (focus ((try dsimp only at hSw); go_simp; try with_reducible rfl)); (simp only [Act.put, List.setIfInBounds_toArray, List.set_cons_zero, List.set_cons_succ]))
  refine wpHeld_nil ?_
  refine wpAnyH_takesAt 6 4 3 (of_decide_eq_true (by kernel_rfl)) rfl (fun _ _ _ _ _ h => h) (by kernel_rfl) (by kernel_rfl) hHeld ?_
  simp only [List.drop_succ_cons, List.drop_zero, List.take_succ_cons, List.take_zero]
  iterate 4 (refine wpHeld_step (v := ?_) (by rfl) (fun wz hSw => ?_) ?_; rotate_left; (focus ((try dsimp only at hSw); go_simp; try with_reducible rfl)); (simp only [Act.put, List.setIfInBounds_toArray, List.set_cons_zero, List.set_cons_succ]))
  refine wpHeld_nil ?_
  refine wpAnyH_only (i := 4) (by kernel_rfl) rfl (fun K hK => ?_)
  rw [if_pos (by rfl)]
  go_simp
  refine (HHeld.out w2.drew c73).mono ?_
  rintro e w3 ⟨rfl, rfl⟩
  refine hK.out _ _ hHeld ?_
  clear hK K
  refine wpAnyH_takesAt 5 1 1 (of_decide_eq_true (by kernel_rfl)) rfl (fun _ _ _ _ _ h => h) (by kernel_rfl) (by kernel_rfl) hHeld ?_
  simp only [List.drop_succ_cons, List.drop_zero, List.take_succ_cons, List.take_zero]
  iterate 1 (refine wpHeld_step (v := ?_) (by rfl) (fun wz hSw => ?_) ?_; rotate_left; (focus ((try dsimp only at hSw); go_simp; try with_reducible rfl)); (simp only [Act.put, List.setIfInBounds_toArray, List.set_cons_zero, List.set_cons_succ]))
  refine wpHeld_nil ?_
  refine wpAnyH_only (i := 10) (by kernel_rfl) rfl (fun K hK => ?_)
  rw [if_pos (by rfl)]
  go_simp
  refine (callsIn_wide.1 (last_in 8 (.slice (some ⟨B, 9, none⟩) h 64) m w2.drew rfl)).mono ?_
  rintro e w3 ⟨rfl, rfl⟩
  refine hK.out _ _ (((HRow2.out.drew.alloc _).alloc _).cell (by rw [HM.out]; exact runCells_73 cs.length HOK.out.len HOK.out.2.1)) ?_
  clear hK K
  refine wpAnyH_done (by kernel_rfl) ?_ _
  refine OnOnly.on ?_
  have hs4 : ((w2.drew.alloc (Obj.cells #[Value.slice (some ⟨B, 9, none⟩) h 64] 22)).alloc (Obj.cells #[Value.int IntKind.u64 (m : Nat)] 104)).heap.size = w2.heap.size + 2 := by simp
  have H4 : Hid (Row ((w2.drew.alloc (Obj.cells #[Value.slice (some ⟨B, 9, none⟩) h 64] 22)).alloc (Obj.cells #[Value.int IntKind.u64 (m : Nat)] 104)) (w.heap.size + 1) 98 s ∧ Row ((w2.drew.alloc (Obj.cells #[Value.slice (some ⟨B, 9, none⟩) h 64] 22)).alloc (Obj.cells #[Value.int IntKind.u64 (m : Nat)] 104)) w.heap.size 34 (List.replicate 32 (.int .u8 0)) ∧ Below w.heap.size w ((w2.drew.alloc (Obj.cells #[Value.slice (some ⟨B, 9, none⟩) h 64] 22)).alloc (Obj.cells #[Value.int IntKind.u64 (m : Nat)] 104)) ∧ Row ((w2.drew.alloc (Obj.cells #[Value.slice (some ⟨B, 9, none⟩) h 64] 22)).alloc (Obj.cells #[Value.int IntKind.u64 (m : Nat)] 104)) w2.heap.size 22 [.slice (some ⟨B, 9, none⟩) h 64] ∧ Row ((w2.drew.alloc (Obj.cells #[Value.slice (some ⟨B, 9, none⟩) h 64] 22)).alloc (Obj.cells #[Value.int IntKind.u64 (m : Nat)] 104)) (w2.heap.size + 1) 104 [.int .u64 (m : Nat)] ∧ Row ((w2.drew.alloc (Obj.cells #[Value.slice (some ⟨B, 9, none⟩) h 64] 22)).alloc (Obj.cells #[Value.int IntKind.u64 (m : Nat)] 104)) B 106 (runCells s R cs.length)) :=
    ⟨(rH.drew.alloc _).alloc _, (rR.drew.alloc _).alloc _, (hbA.drew.alloc (by show _ ≤ w2.heap.size; omega) _).alloc (by simp; omega) _, (Row.new w2.drew 22 _).alloc _, Row.newB w2.drew _ 104 _, (HRow2.out.drew.alloc _).alloc _⟩
  clear rR rH hbA HRow2 c73 hHeld HRow
  generalize ((w2.drew.alloc (Obj.cells #[Value.slice (some ⟨B, 9, none⟩) h 64] 22)).alloc (Obj.cells #[Value.int IntKind.u64 (m : Nat)] 104)) = w4 at *
  rw [show w2.drew.heap.size = w2.heap.size from rfl]
  gi_wp2
  have HF0 : Hid (s = u32s (wordsN (fullL cs (m / 64))).list) := by have h := HOK.out.1; rw [← HM.out] at h; exact h
  have HBlk : Hid (fullL cs (m / 64) ++ lastL (cs.drop (64 * (m / 64))) m = blocksL cs) := by show _ = _; rw [blocksL, ← HM.out]
  have HWsn : Hid (∀ (pre : List (List Nat)) (x : List Nat), wordsN (fullL cs (m / 64) ++ (pre ++ [x])) = compressN (wordsN (fullL cs (m / 64) ++ pre)) x) := fun pre x => by rw [← List.append_assoc, wordsN_snoc]
  have HIr : Hid (IsBytes w4.heap.size w4 (some ⟨B, 9, none⟩) h 64 (cs.drop (64 * (m / 64)))) := by
    have h := rest_bytes HOK.out H4.out.2.2.2.2.2 HZ.out
    rw [← HM.out, HH.out] at h
    exact h
  have HOkL : Hid (h < 64) := hm64
  clear HOK HHeld
  refine wpIn_rangeFunc_arr rfl h1 (gf := 53) (lb := #[.pointer (some ⟨w2.heap.size, 0, none⟩), .pointer (some ⟨w2.heap.size + 1, 0, none⟩)]) rfl trivial (enters_of Tryd.func53 (by kernel_rfl) rfl)
    (encs := fun x : List Nat => #[.agg (u8s x).toArray]) (Ok := fun x _ => BlockOk x) (Kp := KpM (fun k => k = w.heap.size + 1) (w4.heap.size + 2)) (S := fun xs => xs = lastL (cs.drop (64 * (m / 64))) m) (Sp := fun pre => ∃ r, pre ++ r = lastL (cs.drop (64 * (m / 64))) m) (N := 2)
    (fun W' hs hb => last1_iter (n - 1) (by omega) _ w2.heap.size (w2.heap.size + 1) m (some ⟨B, 9, none⟩) h 64 (cs.drop (64 * (m / 64))) HOkL.out W' (HIr.out.later hb) ((H4.out.2.2.2.1.later hb).cell (i := 0) rfl) (H4.out.2.2.2.2.1.later hb) (fun k => k = w.heap.size + 1) _ (fun _ _ h => h.1) (fun j hj => by omega) (by omega))
    KpM.trans (fun A o o' ho hc => KpM.record (by omega) o' ho hc) KpM.of_below (fun _ => rfl) 91 (fun x => u8s x)
    (fun pre A => Row A (w.heap.size + 1) 98 (u32s (wordsN (fullL cs (m / 64) ++ pre)).list) ∧ Row A w.heap.size 34 (List.replicate 32 (.int .u8 0)) ∧ Below w.heap.size w A)
    (fun _ _ _ => False)
    (Low.and (low_row (by omega) _) (Low.and (low_row (by omega) _) (low_below w (by omega))))
    (fun _ _ _ _ h _ => h)
    (fun _ _ _ h _ => h)
    ⟨by rw [List.append_nil, ← HF0.out]; exact H4.out.1, H4.out.2.1, H4.out.2.2.1⟩
    (fun x A => { tmps := #[.pointer (some ⟨B, 0, none⟩), undef, .pointer (some ⟨w.heap.size, 0, none⟩), .pointer (some ⟨w.heap.size + 1, 0, none⟩), .pointer (some ⟨A.heap.size, 0, none⟩), .pointer (some ⟨B, 0, none⟩), .bool false, .bool false, .pointer (some ⟨B, 0, none⟩), .pointer (some ⟨B, 0, none⟩), .pointer (some ⟨B, 0, none⟩), .bool true, .bool false, .bool false, undef, .pointer (some ⟨B, 0, none⟩), .pointer (some ⟨B, 0, none⟩), .pointer (some ⟨B, 1, none⟩), .agg s.toArray, .pointer (some ⟨B, 0, none⟩), .pointer (some ⟨B, 0, none⟩), .pointer (some ⟨B, 9, none⟩), .pointer (some ⟨B, 0, none⟩), .int .i64 h, .slice (some ⟨B, 9, none⟩) h 64, .pointer (some ⟨B, 0, none⟩), .pointer (some ⟨B, 0, none⟩), .pointer (some ⟨B, 73, none⟩), .int .u64 m, .func (.func 53) #[] #[.pointer (some ⟨w2.heap.size, 0, none⟩), .pointer (some ⟨w2.heap.size + 1, 0, none⟩)], .agg (u8s x).toArray, undef, undef, undef, undef, undef], defers := [] }) ?assign ?body ?done ?stop
  case assign =>
    intro li x A K hok hK
    clear hsA hs4
    have HXL : Hid ((u8s x).length = 64) := by show _ = _; rw [u8s_length]; exact hok.1
    have HX1 : Hid (∀ v ∈ u8s x, v.oneCell' = true) := u8s_one x
    have HK : Hid (∀ W', Below A.heap.size A W' → Row W' A.heap.size 91 (u8s x) → K _ W') := hK
    clear hK
    generalize u8s x = V at *
    gi_wp2_with ((with_reducible show wpListIn _ _ _ _ _ (Oper.mk _ (Op.store 91 (.tmp 4) (.tmp 30)) _ _ _ _ :: _) _ _); refine wpListIn_store_Row rfl 91 (.tmp 4) (.tmp 30) rfl V rfl rfl (Row.new _ _ _) (by rw [HXL.out]; exact size91') (by rw [HXL.out]; rfl) HX1.out ?_; simp only [Act.put])
    exact HK.out _ (below_setCells (Nat.le_refl _) _ _ ((Below.refl _ A).alloc (Nat.le_refl _) _)) (Row.sets_all (Row.new _ _ _) (by rw [HXL.out]; rfl))
  case body =>
    rintro li pre x A₀ A ⟨hrH, hrR, hB⟩ hok hN hle hrow
    have HC : Hid (∀ A, Tab A → Calls Tryd.prog 42 #[.agg (u32s (wordsN (fullL cs (m / 64) ++ pre)).list).toArray, .agg (u8s x).toArray] A fun e w' => e = .returned (.agg (u32s (wordsN (fullL cs (m / 64) ++ (pre ++ [x]))).list).toArray) ∧ Below A.heap.size A w') := fun A hT => by
      rw [HWsn.out]; exact compress_any _ (wordsN_ok _) x hok.1 hok.2 A hT
    have HXL : Hid ((u8s x).length = 64) := by show _ = _; rw [u8s_length]; exact hok.1
    have HRow : Hid (Row A A₀.heap.size 91 (u8s x)) := hrow
    have HrH : Hid (Row A (w.heap.size + 1) 98 (u32s (wordsN (fullL cs (m / 64) ++ pre)).list)) := hrH
    have HrR : Hid (Row A w.heap.size 34 (List.replicate 32 (.int .u8 0))) := hrR
    have HHl : Hid ((u32s (wordsN (fullL cs (m / 64) ++ pre)).list).length = 8) := by show _ = _; rw [u32s_length, St.list_length]
    have HHl2 : Hid ((u32s (wordsN (fullL cs (m / 64) ++ (pre ++ [x]))).list).length = 8) := by show _ = _; rw [u32s_length, St.list_length]
    have HH2o : Hid (∀ v ∈ u32s (wordsN (fullL cs (m / 64) ++ (pre ++ [x]))).list, v.oneCell' = true) := u32s_one _
    clear hrow hrH hrR
    generalize u8s x = V at *
    generalize hS2 : u32s (wordsN (fullL cs (m / 64) ++ (pre ++ [x]))).list = S2 at *
    have HS2 : Hid (u32s (wordsN (fullL cs (m / 64) ++ (pre ++ [x]))).list = S2) := hS2
    clear hS2
    generalize u32s (wordsN (fullL cs (m / 64) ++ pre)).list = S1 at *
    gi_wp2_with (first
      | ((with_reducible show wpListIn _ _ _ _ _ (Oper.mk _ (Op.load 98 (.tmp 3)) _ _ _ _ :: _) _ _); refine wpListIn_load_Row rfl 98 (.tmp 3) rfl rfl HrH.out Tryd.underlying98 (by rw [HHl.out]; exact size98) ?_; simp only [Act.put, List.setIfInBounds_toArray, List.set_cons_zero, List.set_cons_succ])
      | ((with_reducible show wpListIn _ _ _ _ _ (Oper.mk _ (Op.load 91 (.tmp 4)) _ _ _ _ :: _) _ _); refine wpListIn_load_Row rfl 91 (.tmp 4) rfl rfl HRow.out Tryd.underlying91 (by rw [HXL.out]; exact size91') ?_; simp only [Act.put, List.setIfInBounds_toArray, List.set_cons_zero, List.set_cons_succ]))
    refine ⟨fun _ => by omega, (CallsIn.inRound li (callsIn_wide.2 (HC.out _ (HT.out.below hB HT.out.pos)))).mono ?_⟩
    rintro e A2 ⟨rfl, hb2⟩
    gi_wp2_with ((with_reducible show wpListIn _ _ _ _ _ (Oper.mk _ (Op.store 98 (.tmp 3) (.tmp 33)) _ _ _ _ :: _) _ _); refine wpListIn_store_Row rfl 98 (.tmp 3) (.tmp 33) rfl S2 rfl rfl (HrH.out.later hb2) (by rw [HHl2.out]; exact size98) (by rw [HHl2.out, HHl.out]) HH2o.out ?_; simp only [Act.put])
    have hkp : KpM (fun k => k = w.heap.size + 1) (w4.heap.size + 2) A (A2.setCells (w.heap.size + 1) 0 S2) := (KpM.of_below hb2).trans (KpM.sets (M := fun k => k = w.heap.size + 1) rfl _ _ _)
    have hkf : KpM (fun k => k = w.heap.size + 1) w4.heap.size A (A2.setCells (w.heap.size + 1) 0 S2) := (KpM.of_below hb2).trans (KpM.sets (M := fun k => k = w.heap.size + 1) rfl _ _ _)
    exact ⟨hkf.2, hkp, by rw [HS2.out]; exact (HrH.out.later hb2).sets_all (by rw [HHl2.out, HHl.out]), Row.others (by omega) _ _ (HrR.out.later hb2), below_setCells (by omega) _ _ (hB.trans (hb2.mono (by have := hB.size; omega)))⟩
  case done =>
    rintro D xs A hD rfl ⟨hrH, hrR, hB⟩ hKD
    rw [HBlk.out] at hrH
    have HDg : Hid (∀ A, Calls Tryd.prog 44 #[.agg (u32s (wordsN (blocksL cs)).list).toArray] A fun e w' => e = .returned (.agg (u8s (sumN cs)).toArray) ∧ Below A.heap.size A w') := fun A => digest_core _ (St.list_length _) (St.list_lt (wordsN_ok _)) A
    have HrH : Hid (Row A (w.heap.size + 1) 98 (u32s (wordsN (blocksL cs)).list)) := hrH
    have HrR : Hid (Row A w.heap.size 34 (List.replicate 32 (.int .u8 0))) := hrR
    have HHl : Hid ((u32s (wordsN (blocksL cs)).list).length = 8) := by show _ = _; rw [u32s_length, St.list_length]
    have HSl2 : Hid ((u8s (sumN cs)).length = 32) := by show _ = _; rw [u8s_length]; exact digestN_length _
    have HSo : Hid (∀ v ∈ u8s (sumN cs), v.oneCell' = true) := u8s_one _
    clear hrH hrR
    generalize u32s (wordsN (blocksL cs)).list = S1 at *
    gi_wp2_with (first
      | ((with_reducible show wpListIn _ _ _ _ _ (Oper.mk _ (Op.load 98 (.tmp 3)) _ _ _ _ :: _) _ _); refine wpListIn_load_Row rfl 98 (.tmp 3) rfl rfl HrH.out Tryd.underlying98 (by rw [HHl.out]; exact size98) ?_; simp only [Act.put, List.setIfInBounds_toArray, List.set_cons_zero, List.set_cons_succ])
      | (gi_at_call 44; refine (callsIn_wide.2 (HDg.out _)).mono ?_; rintro e A2 ⟨rfl, hb2⟩)
      | ((with_reducible show wpListIn _ _ _ _ _ (Oper.mk _ (Op.store 34 (.tmp 2) (.tmp 35)) _ _ _ _ :: _) _ _); refine wpListIn_store_Row rfl 34 (.tmp 2) (.tmp 35) rfl (u8s (sumN cs)) rfl rfl (HrR.out.later hb2) (by rw [HSl2.out]; exact size34) (by rw [HSl2.out]; rfl) HSo.out ?_; simp only [Act.put]))
    have hKE := (hb2.block D (Array.getElem?_eq_some_iff.1 hKD).1).trans hKD
    have hKF : (A2.setCells w.heap.size 0 (u8s (sumN cs))).heap[D]? = some (.deferred (some [])) := by
      rw [heap_setCells_other (by omega)]; exact hKE
    refine ⟨by simp, .inl ⟨_, _, rfl, run_takeDeferred hKF, ?_⟩⟩
    have hR3 := ((HrR.out.later hb2).sets_all (vs := u8s (sumN cs)) (by rw [HSl2.out]; rfl))
    refine ⟨_, results_Row rfl rfl ((World.putObj_heap_other (by omega)).trans hR3) Tryd.underlying34 (by rw [HSl2.out]; exact size34), rfl, ?_⟩
    exact (below_setCells (Nat.le_refl _) _ _ (hB.trans (hb2.mono (by have := hB.size; omega)))).trans (below_putObj _ _ (by omega))
  case stop =>
    rintro D c pre A hD _ h hKD
    exact h.elim

/-- Running.Sum -/
theorem rsum_any (B : Nat) (cs : List Nat) (hcl : cs.length ≤ 100000) (hz : ∀ z ∈ cs, z < 256) (w : World) (hT : Tab w) (hR : RunAt w B cs) :
    Calls Tryd.prog 35 #[.pointer (some ⟨B, 0, none⟩)] w fun e w' => e = .returned (.agg (u8s (sumN cs)).toArray) ∧ Below w.heap.size w w' :=
  callsIn_wide.1 (rsum_in 8 (Nat.le_refl _) B cs hcl hz w hT hR)
end Go.Proofs.YtkpjbleogjmbjaaDoor.Sh
