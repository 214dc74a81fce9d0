/-
  Several texts in one: SrtL, SrtA, Srt.
-/
import Derived.Test.YtlmfdifnkkdpfaaNmAll
import Derived.ArgAppend
import Derived.Test.YtlmfdifnkkdpfaaWith
/-
  Texts put in where they stand: the same as the texts sorted.
-/
namespace Go.Proofs.Ytlmfdifnkkdpfaa
open Go.RowKit

theorem bl_iff : ∀ (x y : List UInt8), Op.bytesLess x y = true ↔ x < y
  | [], [] => by simp [Op.bytesLess]
  | _ :: _, [] => by simp [Op.bytesLess]
  | [], b :: y => by simp [Op.bytesLess]
  | a :: x, b :: y => by
    have ih := bl_iff x y
    simp [Op.bytesLess, ih, List.cons_lt_cons_iff]
def leB (a b : ByteArray) : Bool := Op.bytesLess a.toList b.toList || (a.toList == b.toList)
theorem leB_iff (a b : ByteArray) : leB a b = true ↔ bytesOf a ≤ bytesOf b := by
  rw [leB, text_eq, ByteArray.toList_eq, ByteArray.toList_eq]
  show (Op.bytesLess (bytesOf a) (bytesOf b) || (bytesOf a == bytesOf b)) = true ↔ _
  rw [Bool.or_eq_true, bl_iff, beq_iff_eq]
  generalize bytesOf a = x
  generalize bytesOf b = y
  constructor
  · rintro (h | rfl)
    · exact List.le_of_lt h
    · exact List.le_refl _
  · intro h
    by_cases e : x = y
    · exact .inr e
    · left
      apply Classical.byContradiction
      intro hn
      exact e (List.le_antisymm h (List.not_lt.1 hn))
def insS (s : ByteArray) (out : List ByteArray) : List ByteArray := out.take (out.findIdx fun y => !leB y s) ++ s :: out.drop (out.findIdx fun y => !leB y s)
def srt (l : List ByteArray) : List ByteArray := l.foldl (fun out s => insS s out) []
theorem srt_take (l : List ByteArray) (k : Nat) (hk : k < l.length) : srt (l.take (k + 1)) = insS (l.getD k ⟨#[]⟩) (srt (l.take k)) := by
  have h : l.take (k + 1) = l.take k ++ [l.getD k ⟨#[]⟩] := by
    rw [List.take_add_one, List.getElem?_eq_getElem hk, List.getD_eq_getElem?_getD, List.getElem?_eq_getElem hk]; rfl
  rw [h, srt, srt, List.foldl_append]; rfl
theorem insS_perm (s : ByteArray) (out : List ByteArray) : (insS s out).Perm (s :: out) := by
  rw [insS]
  have h := List.perm_middle (a := s) (l₁ := out.take (out.findIdx fun y => !leB y s)) (l₂ := out.drop (out.findIdx fun y => !leB y s))
  rwa [List.take_append_drop] at h
theorem insS_length (s : ByteArray) (out : List ByteArray) : (insS s out).length = out.length + 1 := by rw [(insS_perm s out).length_eq]; rfl
abbrev LeS (a b : ByteArray) : Prop := bytesOf a ≤ bytesOf b
theorem insS_sorted (s : ByteArray) (out : List ByteArray) (h : out.Pairwise LeS) : (insS s out).Pairwise LeS := by
  have h0 := h
  rw [← List.take_append_drop (out.findIdx fun y => !leB y s) out, List.pairwise_append] at h
  obtain ⟨p1, p2, p3⟩ := h
  have ht : ∀ y ∈ out.take (out.findIdx fun y => !leB y s), LeS y s := fun y hy => by
    rw [List.mem_take_iff_getElem] at hy
    obtain ⟨j, hj, rfl⟩ := hy
    have := List.not_of_lt_findIdx (p := fun y => !leB y s) (show j < out.findIdx _ by omega)
    exact (leB_iff _ _).1 (by simpa using this)
  have hd : ∀ y ∈ out.drop (out.findIdx fun y => !leB y s), LeS s y := fun y hy => by
    have hlt : (out.findIdx fun y => !leB y s) < out.length := by
      apply Nat.lt_of_not_le
      intro hge
      rw [List.drop_of_length_le hge] at hy
      cases hy
    have hf : (!leB out[out.findIdx fun y => !leB y s] s) = true := List.findIdx_getElem (p := fun y => !leB y s)
    have h1 : LeS s out[out.findIdx fun y => !leB y s] := by
      rcases List.le_total (bytesOf s) (bytesOf out[out.findIdx fun y => !leB y s]) with h | h
      · exact h
      · rw [(leB_iff _ _).2 h] at hf; cases hf
    rw [List.drop_eq_getElem_cons hlt] at hy p2
    rcases List.mem_cons.1 hy with rfl | hy
    · exact h1
    · exact List.le_trans h1 ((List.pairwise_cons.1 p2).1 y hy)
  rw [insS, List.pairwise_append]
  refine ⟨p1, List.pairwise_cons.2 ⟨hd, p2⟩, fun a ha b hb => ?_⟩
  rcases List.mem_cons.1 hb with rfl | hb
  · exact ht a ha
  · exact p3 a ha b hb
theorem srt_all : ∀ (l out : List ByteArray), out.Pairwise LeS → (l.foldl (fun out s => insS s out) out).Pairwise LeS ∧ (l.foldl (fun out s => insS s out) out).Perm (l ++ out)
  | [], out, h => ⟨h, List.Perm.refl _⟩
  | a :: t, out, h => by
    obtain ⟨h1, h2⟩ := srt_all t (insS a out) (insS_sorted a out h)
    refine ⟨h1, h2.trans ?_⟩
    exact (List.Perm.append_left t (insS_perm a out)).trans List.perm_middle
theorem sorted_unique : ∀ (a b : List (List UInt8)), a.Perm b → a.Pairwise (fun x y => x ≤ y) → b.Pairwise (fun x y => x ≤ y) → a = b
  | [], b, h, _, _ => by rw [List.nil_perm.1 h]
  | x :: a, [], h, _, _ => by simpa using h.length_eq
  | x :: a, y :: b, h, ha, hb => by
    have e : x = y := by
      have hx : x ∈ y :: b := h.subset List.mem_cons_self
      have hy : y ∈ x :: a := h.symm.subset List.mem_cons_self
      rcases List.mem_cons.1 hx with e | hx
      · exact e
      · rcases List.mem_cons.1 hy with e | hy
        · exact e.symm
        · exact List.le_antisymm ((List.pairwise_cons.1 ha).1 y hy) ((List.pairwise_cons.1 hb).1 x hx)
    subst e
    rw [sorted_unique a b (List.perm_cons x |>.1 h) (List.pairwise_cons.1 ha).2 (List.pairwise_cons.1 hb).2]
theorem srt_sortL (l : List ByteArray) : srt l = (sortL (l.map bytesOf)).map txt := by
  obtain ⟨h1, h2⟩ := srt_all l [] List.Pairwise.nil
  rw [List.append_nil] at h2
  have h3 : (srt l).map bytesOf = sortL (l.map bytesOf) := sorted_unique _ _ ((h2.map bytesOf).trans (sortL_perm _).symm) (List.pairwise_map.2 h1) (sortL_pair _)
  rw [← h3, List.map_map]
  conv => lhs; rw [← List.map_id (srt l)]
  exact List.map_congr_left (fun x _ => (txt_bytes x).symm)
theorem srt_length (l : List ByteArray) : (srt l).length = l.length := by
  have h := (srt_all l [] List.Pairwise.nil).2.length_eq
  rw [srt]
  simpa using h
theorem insS_at {s : ByteArray} {out : List ByteArray} {m : Nat} (hm : m ≤ out.length) (h1 : ∀ j, j < m → leB (out.getD j ⟨#[]⟩) s = true) (h2 : m < out.length → leB (out.getD m ⟨#[]⟩) s = false) : insS s out = out.take m ++ s :: out.drop m := by
  have e : (out.findIdx fun y => !leB y s) = m := by
    by_cases hlt : m < out.length
    · refine (List.findIdx_eq hlt).2 ⟨?_, fun j hj => ?_⟩
      · have := h2 hlt
        simpa [List.getElem?_eq_getElem hlt] using this
      · have := h1 j hj
        simpa [List.getElem?_eq_getElem (show j < out.length by omega)] using this
    · have hm' : m = out.length := by omega
      subst hm'
      rw [List.findIdx_eq_length]
      intro x hx
      obtain ⟨j, hj, rfl⟩ := List.mem_iff_getElem.1 hx
      have := h1 j hj
      simpa [List.getElem?_eq_getElem hj] using this
  rw [insS, e]
end Go.Proofs.Ytlmfdifnkkdpfaa
/-
  Texts appended to texts.
-/
namespace Go.Proofs.Ytlmfdifnkkdpfaa
open Go.RowKit

theorem IsStrs.flat {n₀ : Nat} {W : World} {b off len cap : Nat} {ys : List ByteArray} (hI : IsStrs n₀ W (some ⟨b, off, none⟩) len cap ys) : ∀ j u, (Go.Proofs.Ytlmfdifnkkdpfaa.strs ys)[j]? = some u → W.cell? ((⟨b, off, none⟩ : Addr).add j) = some u := fun j u hu => by
  have hl := hI.1
  have hj : j < ys.length := by
    rcases Nat.lt_or_ge j ys.length with h | h
    · exact h
    · rw [List.getElem?_eq_none (by simpa [Go.Proofs.Ytlmfdifnkkdpfaa.strs] using h)] at hu; cases hu
  rcases hI.2.2.2 with h0 | ⟨b', off', e, hb, hc⟩
  · subst h0; omega
  · cases e
    have h1 := hc j hj
    simp [Go.Proofs.Ytlmfdifnkkdpfaa.strs, List.getElem?_eq_getElem hj] at hu
    subst hu
    rw [Addr.add_mid]
    exact h1
theorem IsStrs.addr {n₀ : Nat} {W : World} {p : Option Addr} {len cap : Nat} {ys : List ByteArray} (hI : IsStrs n₀ W p len cap ys) (hp : 0 < len) : ∃ b off, p = some ⟨b, off, none⟩ := by
  rcases hI.2.2.2 with h | ⟨b, off, e, _⟩
  · omega
  · exact ⟨b, off, e⟩
theorem run_append_strl (w : World) (base : Nat) (ty : TypeId) (v : Value) (xs : List ByteArray) (hown : OwnS base w v xs) {n₀ : Nat} {p : Option Addr} {len cap : Nat} {ys : List ByteArray} (hI : IsStrs n₀ w p len cap ys) (hlen : xs.length + len ≤ 100000) (hbase : base ≤ w.heap.size) :
    ∃ v' w', (Builtin.append_ #[48, 48] ty #[v, .slice p len cap]).run Try.prog w = .ok v' w' ∧ OwnS base w' v' (xs ++ ys) ∧ w.grownBy w' v.ownBlock := by
  obtain ⟨i0, hi, hz0, hz1, hz2⟩ := info_parts info9
  have h1 := hI.1
  by_cases h0 : len = 0
  · subst h0
    obtain rfl := List.eq_nil_of_length_eq_zero h1
    refine ⟨v, w, ?_, by rw [List.append_nil]; exact hown, ⟨rfl, rfl, rfl, Nat.le_refl _, fun _ _ _ => rfl⟩⟩
    have hfc : (Builtin.firstCells 1 0 (.slice p 0 cap)).run Try.prog w = .ok #[] w := by
      cases p with
      | none => simp [Builtin.firstCells]
      | some a => exact run_firstCells_some (P := Try.prog) w 1 0 a 0 cap [] (by simp) (fun j u hu => by cases hu)
    rcases hown.2 with ⟨rfl, _⟩ | ⟨g, cp, cur, rfl, _, _, hnc, _⟩
    · simp [Builtin.append_, run_underlying Try.underlying48, sizeOf, typeInfo, hi, hz1, Builtin.lenOf, hfc]
    · simp [Builtin.append_, run_underlying Try.underlying48, sizeOf, typeInfo, hi, hz1, Builtin.lenOf, hfc, hnc, storeCells]
  · obtain ⟨b, off, rfl⟩ := hI.addr (by omega)
    obtain ⟨v', w', hr, ho, hg, _⟩ := run_append_own_at (P := Try.prog) w base 48 ty 9 i0 _ 1 16 Try.underlying48 hi hz0 hz1 hz2 (by simp [Value.cells]) (by omega) v xs.length (Go.Proofs.Ytlmfdifnkkdpfaa.strs xs) hown ⟨b, off, none⟩ len cap (Go.Proofs.Ytlmfdifnkkdpfaa.strs ys) (by rw [strs_length, h1, Nat.mul_one]) hI.flat (strs_one _) (by simp only [maxLen]; omega) (by omega) hbase
    refine ⟨v', w', hr, ?_, hg⟩
    unfold OwnS
    rw [List.length_append, ← strs_app, h1]
    exact ho
theorem run_append_fullS (w : World) (ty : TypeId) {n₀ : Nat} {p : Option Addr} {n : Nat} {xs : List ByteArray} (hI : IsStrs n₀ w p n n xs) (hp : p = none → n = 0) {g m c : Nat} {ys : List ByteArray} {n₁ : Nat} (hJ : IsStrs n₁ w (some ⟨g, 0, none⟩) m c ys) (hm : 0 < m) (hlen : n + m ≤ 100000) :
    ∃ v' w', (Builtin.append_ #[48, 48] ty #[.slice p n n, .slice (some ⟨g, 0, none⟩) m c]).run Try.prog w = .ok v' w' ∧ OwnS w.heap.size w' v' (xs ++ ys) ∧ Below w.heap.size w w' := by
  obtain ⟨i0, hi, hz0, hz1, hz2⟩ := info_parts info9
  have h1 := hI.1
  have h2 := hJ.1
  have fin : ∀ v' w', w'.ownsRow w.heap.size 9 1 v' (n + m) (Go.Proofs.Ytlmfdifnkkdpfaa.strs xs ++ Go.Proofs.Ytlmfdifnkkdpfaa.strs ys) → OwnS w.heap.size w' v' (xs ++ ys) := fun v' w' h => by
    unfold OwnS
    rw [List.length_append, ← strs_app, h1, h2]
    exact h
  cases p with
  | none =>
    obtain rfl := hp rfl
    obtain rfl := List.eq_nil_of_length_eq_zero h1
    obtain ⟨v', w', hr, ho, hg, _⟩ := run_append_own_at (P := Try.prog) w w.heap.size 48 ty 9 i0 _ 1 16 Try.underlying48 hi hz0 hz1 hz2 (by simp [Value.cells]) (by omega) (.slice none 0 0) 0 [] (World.ownsRow_nil _ _ _ _) ⟨g, 0, none⟩ m c (Go.Proofs.Ytlmfdifnkkdpfaa.strs ys) (by rw [strs_length, h2, Nat.mul_one]) hJ.flat (strs_one _) (by simp only [maxLen]; omega) (by omega) (Nat.le_refl _)
    exact ⟨v', w', hr, fin v' w' (by simpa [Go.Proofs.Ytlmfdifnkkdpfaa.strs] using ho), (Below.refl _ w).grown hg (Nat.le_refl _) (fun k e => by cases e)⟩
  | some a =>
    obtain ⟨v', w', hr, ho, hg⟩ := run_append_arg_grows (P := Try.prog) w 48 ty 9 i0 _ 1 16 Try.underlying48 hi hz0 hz1 hz2 (by simp [Value.cells]) (by omega) a n n (Go.Proofs.Ytlmfdifnkkdpfaa.strs xs) (by rw [strs_length, h1, Nat.mul_one]) (fun j u hu => by
      by_cases hn : n = 0
      · subst hn
        obtain rfl := List.eq_nil_of_length_eq_zero h1
        cases hu
      · obtain ⟨b, off, e⟩ := hI.addr (by omega)
        cases e
        exact hI.flat j u hu) ⟨g, 0, none⟩ m c (Go.Proofs.Ytlmfdifnkkdpfaa.strs ys) (by rw [strs_length, h2, Nat.mul_one]) hJ.flat (by omega) (by simp only [maxLen]; omega) (by omega)
    exact ⟨v', w', hr, fin v' w' ho, (Below.refl _ w).grown hg (Nat.le_refl _) (fun k e => by cases e)⟩
end Go.Proofs.Ytlmfdifnkkdpfaa
/-
  The reference's Sorted.
-/
namespace Go.Proofs.Ytlmfdifnkkdpfaa
open Go.RowKit Go.Shelf

theorem leq_run (y x : ByteArray) (W : World) : (binOp BinOp.leq 9 (.string y) (.string x)).run Try.prog W = .ok (.bool (leB y x)) W := by
  simp [binOp, Op.stringOp, leB]
theorem isStrs_take {n₀ : Nat} {W : World} {p : Option Addr} {len cap m : Nat} {xs : List ByteArray} (h : IsStrs n₀ W p len cap xs) (hm : m ≤ len) : IsStrs n₀ W p m m (xs.take m) := by
  obtain ⟨h1, h2, h3, h4⟩ := h
  refine ⟨by simp; omega, Nat.le_refl _, by omega, ?_⟩
  rcases h4 with h0 | ⟨b, off, e, hb, hc⟩
  · exact .inl (by omega)
  · exact .inr ⟨b, off, e, hb, fun i hi => by simpa using hc i (by simp at hi; omega)⟩
theorem isStrs_drop {n₀ : Nat} {W : World} {g len cap m : Nat} {xs : List ByteArray} (h : IsStrs n₀ W (some ⟨g, 0, none⟩) len cap xs) (hm : m < len) : IsStrs n₀ W (some ⟨g, m, none⟩) (len - m) (cap - m) (xs.drop m) := by
  obtain ⟨h1, h2, h3, h4⟩ := h
  refine ⟨by simp; omega, by omega, by omega, ?_⟩
  rcases h4 with h0 | ⟨b, off, e, hb, hc⟩
  · omega
  · cases e
    refine .inr ⟨g, m, rfl, hb, fun i hi => ?_⟩
    have := hc (m + i) (by simp at hi; omega)
    simpa using this
theorem isStrs_none {n₀ : Nat} {W : World} {p : Option Addr} {cap len m : Nat} {xs : List ByteArray} (h1 : xs.length = len) (hm : m = len) (hc : cap ≤ 9223372036854775807) : IsStrs n₀ W p (len - m) cap (xs.drop m) := ⟨by simp; omega, by omega, hc, .inl (by omega)⟩

set_option maxRecDepth 100000 in
set_option maxHeartbeats 2000000 in
theorem sorted_any (p : Option Addr) (len cap : Nat) (xs : List ByteArray) (hlen : len ≤ 1000) (w : World) (hI : IsStrs w.heap.size w p len cap xs) :
    Calls Try.prog 27 #[.slice p len cap] w fun e w' => ∃ q n c, e = .returned (.slice q n c) ∧ OwnS w.heap.size w' (.slice q n c) (srt xs) ∧ Below w.heap.size w w' := by
  have HI : Hid (IsStrs w.heap.size w p len cap xs) := hI
  have hIl := hI.1
  have hlc := hI.2.1
  have hcc := hI.2.2.1
  clear hI
  go_enter Try.func27, Try.ntmps27
  go_wp2
  go_loopw [3, 9] (fun v i wr => ∃ (k : Nat) (q : Option Addr) (n c : Nat), k ≤ len ∧ i = .int .i64 k ∧ v = .slice q n c ∧ (n = 0 → q = none ∧ c = 0) ∧ OwnS w.heap.size wr (.slice q n c) (srt (xs.take k)) ∧ Below w.heap.size w wr) (fun _ i _ => len - (intOf i).toNat)
  case atStart => exact ⟨0, none, 0, 0, Nat.zero_le _, rfl, rfl, fun _ => ⟨rfl, rfl⟩, OwnS.nil _ _, Below.refl _ _⟩
  case round =>
    obtain ⟨wo, rfl⟩ : ∃ wo, wo = wr := ⟨_, rfl⟩
    obtain ⟨k, q, n, c, hk, rfl, rfl, hnil, hout, hbel⟩ := hrel
    by_cases hlt : k < len
    · have hki : (k : Int) < (len : Int) := by omega
      obtain ⟨b, off, rfl, hb, hcx⟩ : ∃ b off, p = some ⟨b, off, none⟩ ∧ b < w.heap.size ∧ wo.cell? ⟨b, off + k, none⟩ = some (.string (xs.getD k ⟨#[]⟩)) := by
        rcases (HI.out.below hbel).2.2.2 with h | ⟨b, off, e, hb, h⟩
        · omega
        · refine ⟨b, off, e, hb, ?_⟩
          have := h k (by omega)
          rw [this, List.getD_eq_getElem?_getD, List.getElem?_eq_getElem (show k < xs.length by omega)]; rfl
      have HStep : Hid (srt (xs.take (k + 1)) = insS (xs.getD k ⟨#[]⟩) (srt (xs.take k))) := srt_take xs k (by omega)
      generalize xs.getD k ⟨#[]⟩ = x at *
      have hnl0 : (srt (xs.take k)).length = k := by rw [srt_length]; simp; omega
      generalize srt (xs.take k) = out at *
      have hnl : out.length = n := hout.strs.1
      have hnc := hout.strs.2.1
      have hc63 := hout.strs.2.2.1
      have HO : Hid (OwnS w.heap.size wo (.slice q n c) out) := hout
      have HS : Hid (IsStrs wo.heap.size wo q n c out) := hout.strs
      have HBr : Hid (Below w.heap.size w wo) := hbel
      clear hout hbel
      go_wp2
      go_loopw [6] (fun j wr2 => ∃ (m : Nat), m ≤ n ∧ j = .int .i64 m ∧ (∀ j, j < m → leB (out.getD j ⟨#[]⟩) x = true) ∧ wr2 = wo) (fun j _ => n - (intOf j).toNat)
      case atStart => exact ⟨0, Nat.zero_le _, rfl, fun j hj => by omega, rfl⟩
      case round =>
        obtain ⟨m, hm, rfl, h1, hw⟩ := hrel
        subst hw
        have hml : m ≤ out.length := by omega
        have hml' : m ≤ n := hm
        by_cases hmn : m < n
        · have hmni : (m : Int) < (n : Int) := by omega
          obtain ⟨g, rfl, _, hgl, _, _, _⟩ := HO.out.row (by omega)
          clear hnil
          obtain ⟨y, hyd⟩ : ∃ y, out.getD m ⟨#[]⟩ = y := ⟨_, rfl⟩
          have hcy : wr.cell? ⟨g, m, none⟩ = some (.string y) := by
            rcases HS.out.2.2.2 with h | ⟨b', off', e, _, h⟩
            · omega
            · cases e
              have := h m (by omega)
              rw [Nat.zero_add] at this
              rw [this, ← hyd, List.getD_eq_getElem?_getD, List.getElem?_eq_getElem (show m < out.length by omega)]; rfl
          have hm63 : (m : Int) + 1 ≤ 9223372036854775807 := by omega
          have hbin0 := leq_run y x
          cases hle : leB y x with
          | true =>
            have HNx : Hid (∀ j, j < m + 1 → leB (out.getD j ⟨#[]⟩) x = true) := fun j hj => by
              by_cases e : j = m
              · subst e; rw [hyd]; exact hle
              · exact h1 j (by omega)
            rw [hle] at hbin0
            clear h1 hyd hle
            go_wp2_with (simp only [hbin0])
            go_roundw
            case rel => exact ⟨m + 1, by omega, by go_num, HNx.out, by first | rfl | trivial⟩
            case measure => simp [intOf]; omega
          | false =>
            rw [hle] at hbin0
            have hcm : ¬ (c = m) := by omega
            have hmc : (m : Int) ≤ (c : Int) := by omega
            have h2 : m < out.length → leB (out.getD m ⟨#[]⟩) x = false := fun _ => by rw [hyd]; exact hle
            obtain ⟨W4, hW4⟩ : ∃ W4, wr.drew.alloc (.cells #[.string x] 9) = W4 := ⟨_, rfl⟩
            have hb4 : Below wr.heap.size wr W4 := by rw [← hW4]; exact ((Below.refl _ wr).drew).alloc (Nat.le_refl _) _
            have hs4 : W4.heap.size = wr.heap.size + 1 := by rw [← hW4]; simp
            have ho4 : OwnS wr.heap.size W4 (.slice (some ⟨wr.heap.size, 0, none⟩) 1 1) [x] := by
              have hr4 : Row W4 wr.heap.size 9 [.string x] := by rw [← hW4]; exact Row.new wr.drew 9 #[.string x]
              exact ⟨by simp, .inr ⟨wr.heap.size, 1, #[.string x], rfl, Nat.le_refl _, hr4, Nat.le_refl _, by simp only [maxLen]; omega, by simp, by simp [Go.Proofs.Ytlmfdifnkkdpfaa.strs]⟩⟩
            have hIr : IsStrs W4.heap.size W4 (some ⟨g, m, none⟩) (n - m) (c - m) (out.drop m) := ((isStrs_drop HS.out hmn).below hb4).mono hb4.size
            obtain ⟨v5, W5, hrun5, ho5, hg5⟩ := run_append_strl W4 wr.heap.size 48 _ [x] ho4 hIr (by rw [List.length_singleton]; omega) (by omega)
            have hb5 : Below wr.heap.size wr W5 := hb4.grown hg5 (by omega) (fun k e => (World.ownsRow.lt ho4 k e).1)
            obtain ⟨q5, c5, hu5⟩ := ho5.slice
            subst hu5
            have hI5 := ho5.strs
            have hn5 : ([x] ++ out.drop m).length = (1 + (n - m)) := by rw [List.length_append, List.length_drop, List.length_singleton]; omega
            rw [hn5] at ho5 hI5 hrun5
            obtain ⟨g5, hq5, _⟩ := ho5.row (by omega)
            subst hq5
            have hIl : IsStrs W5.heap.size W5 (some ⟨g, 0, none⟩) m m (out.take m) := isStrs_take ((HS.out.below hb5).mono hb5.size) hml'
            obtain ⟨v6, W6, hrun6, ho6, hb6⟩ := run_append_fullS W5 48 hIl (fun h => by cases h) hI5 (by omega) (by omega)
            have hb26 : Below wr.heap.size wr W6 := hb5.trans (hb6.mono hb5.size)
            have hnew : out.take m ++ ([x] ++ out.drop m) = srt (xs.take (k + 1)) := by rw [HStep.out, insS_at hml h1 h2]; rfl
            rw [hnew] at ho6
            obtain ⟨q6, c6, hu6⟩ := ho6.slice
            subst hu6
            have HO6 : Hid (OwnS w.heap.size W6 (.slice q6 (srt (xs.take (k + 1))).length c6) (srt (xs.take (k + 1)))) := ho6.mono (by have := hb5.size; have := HBr.out.size; omega)
            have HN6 : Hid ((srt (xs.take (k + 1))).length ≠ 0) := by show _ ≠ _; rw [srt_length, List.length_take]; omega
            have HRun5 : Hid ((Builtin.append_ #[48, 48] 48 #[.slice (some ⟨wr.heap.size, 0, none⟩) 1 1, .slice (some ⟨g, m, none⟩) (n - m) (c - m)]).run Try.prog W4 = .ok (.slice (some ⟨g5, 0, none⟩) (1 + (n - m)) c5) W5) := hrun5
            have HRun6 : Hid ((Builtin.append_ #[48, 48] 48 #[.slice (some ⟨g, 0, none⟩) m m, .slice (some ⟨g5, 0, none⟩) (1 + (n - m)) c5]).run Try.prog W5 = .ok (.slice q6 (srt (xs.take (k + 1))).length c6) W6) := hrun6
            have HB4 : Hid (Below wr.heap.size wr W4) := hb4
            have HB5 : Hid (Below wr.heap.size wr W5) := hb5
            have HB6 : Hid (Below wr.heap.size wr W6) := hb26
            have HW4 : Hid ((wr.alloc (.cells #[.string x] 9)).drew = W4) := hW4
            clear hb4 hs4 ho4 hIr hrun5 ho5 hg5 hb5 hI5 hn5 hIl hrun6 ho6 hb6 hb26 hnew hW4 h1
            go_wp2_with (simp only [hbin0])
            refine wp_region_held_drew (S := fun W => Below wr.heap.size wr W) (by kernel_rfl) (Below.refl _ _).drew (fun hHeld => ?_)
            refine wpAnyH_takesAt 0 5 7 (of_decide_eq_true (by kernel_rfl)) rfl (fun _ _ _ d _ h => by cases d <;> exact h) (by kernel_rfl) (by kernel_rfl) hHeld ?_
            simp only [List.drop_zero, List.take_succ_cons, List.take_zero]
            iterate 5 (refine wpHeld_step (v := ?_) (by rfl) (fun wz hSw => ?_) ?_; rotate_left; (focus ((try dsimp only at hSw); go_simp; try with_reducible rfl)); (simp only [Act.put, List.setIfInBounds_toArray, List.set_cons_zero, List.set_cons_succ]))
            refine wpHeld_nil ?_
            refine wpAnyH_takesAt 6 3 4 (of_decide_eq_true (by kernel_rfl)) rfl (fun _ _ _ d _ h => by cases d <;> exact h) (by kernel_rfl) (by kernel_rfl) hHeld ?_
            simp only [List.drop_succ_cons, List.drop_zero, List.take_succ_cons, List.take_zero]
            iterate 3 (refine wpHeld_step (v := ?_) (by rfl) (fun wz hSw => ?_) ?_; rotate_left; (focus ((try dsimp only at hSw); go_simp; try with_reducible rfl)); (simp only [Act.put, List.setIfInBounds_toArray, List.set_cons_zero, List.set_cons_succ]))
            refine wpHeld_nil ?_
            refine wpAnyH_only (i := 5) (by kernel_rfl) rfl (fun K hK => ?_)
            rw [if_pos (by rfl)]
            go_simp
            rw [HW4.out]
            refine hK.out _ _ HB4.out ?_
            clear hK K hHeld
            refine wpAnyH_only (i := 9) (by kernel_rfl) rfl (fun K hK => ?_)
            rw [if_pos (by rfl)]
            refine wp_append_of (.tmp 32) (.tmp 35) 48 rfl rfl rfl HRun5.out ?_
            refine hK.out _ _ HB5.out ?_
            clear hK K
            refine wpAnyH_only (i := 10) (by kernel_rfl) rfl (fun K hK => ?_)
            rw [if_pos (by rfl)]
            refine wp_append_of (.tmp 30) (.tmp 36) 48 rfl rfl rfl HRun6.out ?_
            refine hK.out _ _ HB6.out ?_
            clear hK K
            refine wpAnyH_only (i := 11) (by kernel_rfl) rfl (fun K hK => ?_)
            rw [if_pos (by rfl)]
            go_simp
            refine hK.out _ _ HB6.out ?_
            clear hK K
            refine wpAnyH_done (by kernel_rfl) ?_ _
            go_wp2
            go_roundw
            case rel => exact ⟨k + 1, q6, _, c6, by omega, by go_num, rfl, fun h => absurd h HN6.out, HO6.out, HBr.out.trans (HB6.out.mono HBr.out.size)⟩
            case measure => simp [intOf]; omega
        · obtain rfl : m = n := by omega
          have h2 : m < out.length → leB (out.getD m ⟨#[]⟩) x = false := fun h => by omega
          by_cases hm0 : m = 0
          · obtain ⟨rfl, rfl⟩ := hnil hm0
            subst hm0
            clear hnil
            obtain ⟨W4, hW4⟩ : ∃ W4, wr.drew.alloc (.cells #[.string x] 9) = W4 := ⟨_, rfl⟩
            have hb4 : Below wr.heap.size wr W4 := by rw [← hW4]; exact ((Below.refl _ wr).drew).alloc (Nat.le_refl _) _
            have hs4 : W4.heap.size = wr.heap.size + 1 := by rw [← hW4]; simp
            have ho4 : OwnS wr.heap.size W4 (.slice (some ⟨wr.heap.size, 0, none⟩) 1 1) [x] := by
              have hr4 : Row W4 wr.heap.size 9 [.string x] := by rw [← hW4]; exact Row.new wr.drew 9 #[.string x]
              exact ⟨by simp, .inr ⟨wr.heap.size, 1, #[.string x], rfl, Nat.le_refl _, hr4, Nat.le_refl _, by simp only [maxLen]; omega, by simp, by simp [Go.Proofs.Ytlmfdifnkkdpfaa.strs]⟩⟩
            have hIr : IsStrs W4.heap.size W4 none 0 0 (out.drop 0) := ⟨by rw [List.length_drop]; omega, Nat.le_refl _, by omega, .inl rfl⟩
            obtain ⟨v5, W5, hrun5, ho5, hg5⟩ := run_append_strl W4 wr.heap.size 48 _ [x] ho4 hIr (by rw [List.length_singleton]; omega) (by omega)
            have hb5 : Below wr.heap.size wr W5 := hb4.grown hg5 (by omega) (fun k e => (World.ownsRow.lt ho4 k e).1)
            obtain ⟨q5, c5, hu5⟩ := ho5.slice
            subst hu5
            have hI5 := ho5.strs
            have hn5 : ([x] ++ out.drop 0).length = 1 := by rw [List.length_append, List.length_drop, List.length_singleton]; omega
            rw [hn5] at ho5 hI5 hrun5
            obtain ⟨g5, hq5, _⟩ := ho5.row (by omega)
            subst hq5
            have hIl : IsStrs W5.heap.size W5 none 0 0 (out.take 0) := ⟨by simp, Nat.le_refl _, by omega, .inl rfl⟩
            obtain ⟨v6, W6, hrun6, ho6, hb6⟩ := run_append_fullS W5 48 hIl (fun _ => rfl) hI5 (by omega) (by omega)
            have hb26 : Below wr.heap.size wr W6 := hb5.trans (hb6.mono hb5.size)
            have hnew : out.take 0 ++ ([x] ++ out.drop 0) = srt (xs.take (k + 1)) := by rw [HStep.out, insS_at hml h1 h2]; rfl
            rw [hnew] at ho6
            obtain ⟨q6, c6, hu6⟩ := ho6.slice
            subst hu6
            have HO6 : Hid (OwnS w.heap.size W6 (.slice q6 (srt (xs.take (k + 1))).length c6) (srt (xs.take (k + 1)))) := ho6.mono (by have := hb5.size; have := HBr.out.size; omega)
            have HN6 : Hid ((srt (xs.take (k + 1))).length ≠ 0) := by show _ ≠ _; rw [srt_length, List.length_take]; omega
            have HRun5 : Hid ((Builtin.append_ #[48, 48] 48 #[.slice (some ⟨wr.heap.size, 0, none⟩) 1 1, .slice none 0 0]).run Try.prog W4 = .ok (.slice (some ⟨g5, 0, none⟩) 1 c5) W5) := hrun5
            have HRun6 : Hid ((Builtin.append_ #[48, 48] 48 #[.slice none 0 0, .slice (some ⟨g5, 0, none⟩) 1 c5]).run Try.prog W5 = .ok (.slice q6 (srt (xs.take (k + 1))).length c6) W6) := hrun6
            have HB4 : Hid (Below wr.heap.size wr W4) := hb4
            have HB5 : Hid (Below wr.heap.size wr W5) := hb5
            have HB6 : Hid (Below wr.heap.size wr W6) := hb26
            have HW4 : Hid ((wr.alloc (.cells #[.string x] 9)).drew = W4) := hW4
            clear hb4 hs4 ho4 hIr hrun5 ho5 hg5 hb5 hI5 hn5 hIl hrun6 ho6 hb6 hb26 hnew hW4 h1
            go_wp2
            refine wp_region_held_drew (S := fun W => Below wr.heap.size wr W) (by kernel_rfl) (Below.refl _ _).drew (fun hHeld => ?_)
            refine wpAnyH_takesAt 0 5 7 (of_decide_eq_true (by kernel_rfl)) rfl (fun _ _ _ d _ h => by cases d <;> exact h) (by kernel_rfl) (by kernel_rfl) hHeld ?_
            simp only [List.drop_zero, List.take_succ_cons, List.take_zero]
            iterate 5 (refine wpHeld_step (v := ?_) (by rfl) (fun wz hSw => ?_) ?_; rotate_left; (focus ((try dsimp only at hSw); go_simp; try with_reducible rfl)); (simp only [Act.put, List.setIfInBounds_toArray, List.set_cons_zero, List.set_cons_succ]))
            refine wpHeld_nil ?_
            refine wpAnyH_takesAt 6 3 4 (of_decide_eq_true (by kernel_rfl)) rfl (fun _ _ _ d _ h => by cases d <;> exact h) (by kernel_rfl) (by kernel_rfl) hHeld ?_
            simp only [List.drop_succ_cons, List.drop_zero, List.take_succ_cons, List.take_zero]
            iterate 3 (refine wpHeld_step (v := ?_) (by rfl) (fun wz hSw => ?_) ?_; rotate_left; (focus ((try dsimp only at hSw); go_simp; try with_reducible rfl)); (simp only [Act.put, List.setIfInBounds_toArray, List.set_cons_zero, List.set_cons_succ]))
            refine wpHeld_nil ?_
            refine wpAnyH_only (i := 5) (by kernel_rfl) rfl (fun K hK => ?_)
            rw [if_pos (by rfl)]
            go_simp
            rw [HW4.out]
            refine hK.out _ _ HB4.out ?_
            clear hK K hHeld
            refine wpAnyH_only (i := 9) (by kernel_rfl) rfl (fun K hK => ?_)
            rw [if_pos (by rfl)]
            refine wp_append_of (.tmp 32) (.tmp 35) 48 rfl rfl rfl HRun5.out ?_
            refine hK.out _ _ HB5.out ?_
            clear hK K
            refine wpAnyH_only (i := 10) (by kernel_rfl) rfl (fun K hK => ?_)
            rw [if_pos (by rfl)]
            refine wp_append_of (.tmp 30) (.tmp 36) 48 rfl rfl rfl HRun6.out ?_
            refine hK.out _ _ HB6.out ?_
            clear hK K
            refine wpAnyH_only (i := 11) (by kernel_rfl) rfl (fun K hK => ?_)
            rw [if_pos (by rfl)]
            go_simp
            refine hK.out _ _ HB6.out ?_
            clear hK K
            refine wpAnyH_done (by kernel_rfl) ?_ _
            go_wp2
            go_roundw
            case rel => exact ⟨k + 1, q6, _, c6, by omega, by go_num, rfl, fun h => absurd h HN6.out, HO6.out, HBr.out.trans (HB6.out.mono HBr.out.size)⟩
            case measure => simp [intOf]; omega
          · obtain ⟨g, rfl, _, hgl, _, _, _⟩ := HO.out.row (by omega)
            clear hnil
            have hmc : (m : Int) ≤ (c : Int) := by omega
            by_cases hcm : c = m
            · have hcm' : m = c := hcm.symm
              clear hcm
              subst hcm'
              obtain ⟨W4, hW4⟩ : ∃ W4, wr.drew.alloc (.cells #[.string x] 9) = W4 := ⟨_, rfl⟩
              have hb4 : Below wr.heap.size wr W4 := by rw [← hW4]; exact ((Below.refl _ wr).drew).alloc (Nat.le_refl _) _
              have hs4 : W4.heap.size = wr.heap.size + 1 := by rw [← hW4]; simp
              have ho4 : OwnS wr.heap.size W4 (.slice (some ⟨wr.heap.size, 0, none⟩) 1 1) [x] := by
                have hr4 : Row W4 wr.heap.size 9 [.string x] := by rw [← hW4]; exact Row.new wr.drew 9 #[.string x]
                exact ⟨by simp, .inr ⟨wr.heap.size, 1, #[.string x], rfl, Nat.le_refl _, hr4, Nat.le_refl _, by simp only [maxLen]; omega, by simp, by simp [Go.Proofs.Ytlmfdifnkkdpfaa.strs]⟩⟩
              have hIr : IsStrs W4.heap.size W4 (some ⟨g, 0, none⟩) 0 0 (out.drop m) := ⟨by rw [List.length_drop]; omega, Nat.le_refl _, by omega, .inl rfl⟩
              obtain ⟨v5, W5, hrun5, ho5, hg5⟩ := run_append_strl W4 wr.heap.size 48 _ [x] ho4 hIr (by rw [List.length_singleton]; omega) (by omega)
              have hb5 : Below wr.heap.size wr W5 := hb4.grown hg5 (by omega) (fun k e => (World.ownsRow.lt ho4 k e).1)
              obtain ⟨q5, c5, hu5⟩ := ho5.slice
              subst hu5
              have hI5 := ho5.strs
              have hn5 : ([x] ++ out.drop m).length = 1 := by rw [List.length_append, List.length_drop, List.length_singleton]; omega
              rw [hn5] at ho5 hI5 hrun5
              obtain ⟨g5, hq5, _⟩ := ho5.row (by omega)
              subst hq5
              have hIl : IsStrs W5.heap.size W5 (some ⟨g, 0, none⟩) m m (out.take m) := isStrs_take ((HS.out.below hb5).mono hb5.size) hml'
              obtain ⟨v6, W6, hrun6, ho6, hb6⟩ := run_append_fullS W5 48 hIl (fun h => by cases h) hI5 (by omega) (by omega)
              have hb26 : Below wr.heap.size wr W6 := hb5.trans (hb6.mono hb5.size)
              have hnew : out.take m ++ ([x] ++ out.drop m) = srt (xs.take (k + 1)) := by rw [HStep.out, insS_at hml h1 h2]; rfl
              rw [hnew] at ho6
              obtain ⟨q6, c6, hu6⟩ := ho6.slice
              subst hu6
              have HO6 : Hid (OwnS w.heap.size W6 (.slice q6 (srt (xs.take (k + 1))).length c6) (srt (xs.take (k + 1)))) := ho6.mono (by have := hb5.size; have := HBr.out.size; omega)
              have HN6 : Hid ((srt (xs.take (k + 1))).length ≠ 0) := by show _ ≠ _; rw [srt_length, List.length_take]; omega
              have HRun5 : Hid ((Builtin.append_ #[48, 48] 48 #[.slice (some ⟨wr.heap.size, 0, none⟩) 1 1, .slice (some ⟨g, 0, none⟩) 0 0]).run Try.prog W4 = .ok (.slice (some ⟨g5, 0, none⟩) 1 c5) W5) := hrun5
              have HRun6 : Hid ((Builtin.append_ #[48, 48] 48 #[.slice (some ⟨g, 0, none⟩) m m, .slice (some ⟨g5, 0, none⟩) 1 c5]).run Try.prog W5 = .ok (.slice q6 (srt (xs.take (k + 1))).length c6) W6) := hrun6
              have HB4 : Hid (Below wr.heap.size wr W4) := hb4
              have HB5 : Hid (Below wr.heap.size wr W5) := hb5
              have HB6 : Hid (Below wr.heap.size wr W6) := hb26
              have HW4 : Hid ((wr.alloc (.cells #[.string x] 9)).drew = W4) := hW4
              clear hb4 hs4 ho4 hIr hrun5 ho5 hg5 hb5 hI5 hn5 hIl hrun6 ho6 hb6 hb26 hnew hW4 h1
              go_wp2
              refine wp_region_held_drew (S := fun W => Below wr.heap.size wr W) (by kernel_rfl) (Below.refl _ _).drew (fun hHeld => ?_)
              refine wpAnyH_takesAt 0 5 7 (of_decide_eq_true (by kernel_rfl)) rfl (fun _ _ _ d _ h => by cases d <;> exact h) (by kernel_rfl) (by kernel_rfl) hHeld ?_
              simp only [List.drop_zero, List.take_succ_cons, List.take_zero]
              iterate 5 (refine wpHeld_step (v := ?_) (by rfl) (fun wz hSw => ?_) ?_; rotate_left; (focus ((try dsimp only at hSw); go_simp; try with_reducible rfl)); (simp only [Act.put, List.setIfInBounds_toArray, List.set_cons_zero, List.set_cons_succ]))
              refine wpHeld_nil ?_
              refine wpAnyH_takesAt 6 3 4 (of_decide_eq_true (by kernel_rfl)) rfl (fun _ _ _ d _ h => by cases d <;> exact h) (by kernel_rfl) (by kernel_rfl) hHeld ?_
              simp only [List.drop_succ_cons, List.drop_zero, List.take_succ_cons, List.take_zero]
              iterate 3 (refine wpHeld_step (v := ?_) (by rfl) (fun wz hSw => ?_) ?_; rotate_left; (focus ((try dsimp only at hSw); go_simp; try with_reducible rfl)); (simp only [Act.put, List.setIfInBounds_toArray, List.set_cons_zero, List.set_cons_succ]))
              refine wpHeld_nil ?_
              refine wpAnyH_only (i := 5) (by kernel_rfl) rfl (fun K hK => ?_)
              rw [if_pos (by rfl)]
              go_simp
              rw [HW4.out]
              refine hK.out _ _ HB4.out ?_
              clear hK K hHeld
              refine wpAnyH_only (i := 9) (by kernel_rfl) rfl (fun K hK => ?_)
              rw [if_pos (by rfl)]
              refine wp_append_of (.tmp 32) (.tmp 35) 48 rfl rfl rfl HRun5.out ?_
              refine hK.out _ _ HB5.out ?_
              clear hK K
              refine wpAnyH_only (i := 10) (by kernel_rfl) rfl (fun K hK => ?_)
              rw [if_pos (by rfl)]
              refine wp_append_of (.tmp 30) (.tmp 36) 48 rfl rfl rfl HRun6.out ?_
              refine hK.out _ _ HB6.out ?_
              clear hK K
              refine wpAnyH_only (i := 11) (by kernel_rfl) rfl (fun K hK => ?_)
              rw [if_pos (by rfl)]
              go_simp
              refine hK.out _ _ HB6.out ?_
              clear hK K
              refine wpAnyH_done (by kernel_rfl) ?_ _
              go_wp2
              go_roundw
              case rel => exact ⟨k + 1, q6, _, c6, by omega, by go_num, rfl, fun h => absurd h HN6.out, HO6.out, HBr.out.trans (HB6.out.mono HBr.out.size)⟩
              case measure => simp [intOf]; omega
            · skip
              obtain ⟨W4, hW4⟩ : ∃ W4, wr.drew.alloc (.cells #[.string x] 9) = W4 := ⟨_, rfl⟩
              have hb4 : Below wr.heap.size wr W4 := by rw [← hW4]; exact ((Below.refl _ wr).drew).alloc (Nat.le_refl _) _
              have hs4 : W4.heap.size = wr.heap.size + 1 := by rw [← hW4]; simp
              have ho4 : OwnS wr.heap.size W4 (.slice (some ⟨wr.heap.size, 0, none⟩) 1 1) [x] := by
                have hr4 : Row W4 wr.heap.size 9 [.string x] := by rw [← hW4]; exact Row.new wr.drew 9 #[.string x]
                exact ⟨by simp, .inr ⟨wr.heap.size, 1, #[.string x], rfl, Nat.le_refl _, hr4, Nat.le_refl _, by simp only [maxLen]; omega, by simp, by simp [Go.Proofs.Ytlmfdifnkkdpfaa.strs]⟩⟩
              have hIr : IsStrs W4.heap.size W4 (some ⟨g, m, none⟩) 0 (c - m) (out.drop m) := ⟨by rw [List.length_drop]; omega, by omega, by omega, .inl rfl⟩
              obtain ⟨v5, W5, hrun5, ho5, hg5⟩ := run_append_strl W4 wr.heap.size 48 _ [x] ho4 hIr (by rw [List.length_singleton]; omega) (by omega)
              have hb5 : Below wr.heap.size wr W5 := hb4.grown hg5 (by omega) (fun k e => (World.ownsRow.lt ho4 k e).1)
              obtain ⟨q5, c5, hu5⟩ := ho5.slice
              subst hu5
              have hI5 := ho5.strs
              have hn5 : ([x] ++ out.drop m).length = 1 := by rw [List.length_append, List.length_drop, List.length_singleton]; omega
              rw [hn5] at ho5 hI5 hrun5
              obtain ⟨g5, hq5, _⟩ := ho5.row (by omega)
              subst hq5
              have hIl : IsStrs W5.heap.size W5 (some ⟨g, 0, none⟩) m m (out.take m) := isStrs_take ((HS.out.below hb5).mono hb5.size) hml'
              obtain ⟨v6, W6, hrun6, ho6, hb6⟩ := run_append_fullS W5 48 hIl (fun h => by cases h) hI5 (by omega) (by omega)
              have hb26 : Below wr.heap.size wr W6 := hb5.trans (hb6.mono hb5.size)
              have hnew : out.take m ++ ([x] ++ out.drop m) = srt (xs.take (k + 1)) := by rw [HStep.out, insS_at hml h1 h2]; rfl
              rw [hnew] at ho6
              obtain ⟨q6, c6, hu6⟩ := ho6.slice
              subst hu6
              have HO6 : Hid (OwnS w.heap.size W6 (.slice q6 (srt (xs.take (k + 1))).length c6) (srt (xs.take (k + 1)))) := ho6.mono (by have := hb5.size; have := HBr.out.size; omega)
              have HN6 : Hid ((srt (xs.take (k + 1))).length ≠ 0) := by show _ ≠ _; rw [srt_length, List.length_take]; omega
              have HRun5 : Hid ((Builtin.append_ #[48, 48] 48 #[.slice (some ⟨wr.heap.size, 0, none⟩) 1 1, .slice (some ⟨g, m, none⟩) 0 (c - m)]).run Try.prog W4 = .ok (.slice (some ⟨g5, 0, none⟩) 1 c5) W5) := hrun5
              have HRun6 : Hid ((Builtin.append_ #[48, 48] 48 #[.slice (some ⟨g, 0, none⟩) m m, .slice (some ⟨g5, 0, none⟩) 1 c5]).run Try.prog W5 = .ok (.slice q6 (srt (xs.take (k + 1))).length c6) W6) := hrun6
              have HB4 : Hid (Below wr.heap.size wr W4) := hb4
              have HB5 : Hid (Below wr.heap.size wr W5) := hb5
              have HB6 : Hid (Below wr.heap.size wr W6) := hb26
              have HW4 : Hid ((wr.alloc (.cells #[.string x] 9)).drew = W4) := hW4
              clear hb4 hs4 ho4 hIr hrun5 ho5 hg5 hb5 hI5 hn5 hIl hrun6 ho6 hb6 hb26 hnew hW4 h1
              go_wp2
              refine wp_region_held_drew (S := fun W => Below wr.heap.size wr W) (by kernel_rfl) (Below.refl _ _).drew (fun hHeld => ?_)
              refine wpAnyH_takesAt 0 5 7 (of_decide_eq_true (by kernel_rfl)) rfl (fun _ _ _ d _ h => by cases d <;> exact h) (by kernel_rfl) (by kernel_rfl) hHeld ?_
              simp only [List.drop_zero, List.take_succ_cons, List.take_zero]
              iterate 5 (refine wpHeld_step (v := ?_) (by rfl) (fun wz hSw => ?_) ?_; rotate_left; (focus ((try dsimp only at hSw); go_simp; try with_reducible rfl)); (simp only [Act.put, List.setIfInBounds_toArray, List.set_cons_zero, List.set_cons_succ]))
              refine wpHeld_nil ?_
              refine wpAnyH_takesAt 6 3 4 (of_decide_eq_true (by kernel_rfl)) rfl (fun _ _ _ d _ h => by cases d <;> exact h) (by kernel_rfl) (by kernel_rfl) hHeld ?_
              simp only [List.drop_succ_cons, List.drop_zero, List.take_succ_cons, List.take_zero]
              iterate 3 (refine wpHeld_step (v := ?_) (by rfl) (fun wz hSw => ?_) ?_; rotate_left; (focus ((try dsimp only at hSw); go_simp; try with_reducible rfl)); (simp only [Act.put, List.setIfInBounds_toArray, List.set_cons_zero, List.set_cons_succ]))
              refine wpHeld_nil ?_
              refine wpAnyH_only (i := 5) (by kernel_rfl) rfl (fun K hK => ?_)
              rw [if_pos (by rfl)]
              go_simp
              rw [HW4.out]
              refine hK.out _ _ HB4.out ?_
              clear hK K hHeld
              refine wpAnyH_only (i := 9) (by kernel_rfl) rfl (fun K hK => ?_)
              rw [if_pos (by rfl)]
              refine wp_append_of (.tmp 32) (.tmp 35) 48 rfl rfl rfl HRun5.out ?_
              refine hK.out _ _ HB5.out ?_
              clear hK K
              refine wpAnyH_only (i := 10) (by kernel_rfl) rfl (fun K hK => ?_)
              rw [if_pos (by rfl)]
              refine wp_append_of (.tmp 30) (.tmp 36) 48 rfl rfl rfl HRun6.out ?_
              refine hK.out _ _ HB6.out ?_
              clear hK K
              refine wpAnyH_only (i := 11) (by kernel_rfl) rfl (fun K hK => ?_)
              rw [if_pos (by rfl)]
              go_simp
              refine hK.out _ _ HB6.out ?_
              clear hK K
              refine wpAnyH_done (by kernel_rfl) ?_ _
              go_wp2
              go_roundw
              case rel => exact ⟨k + 1, q6, _, c6, by omega, by go_num, rfl, fun h => absurd h HN6.out, HO6.out, HBr.out.trans (HB6.out.mono HBr.out.size)⟩
              case measure => simp [intOf]; omega
    · obtain rfl : k = len := by omega
      have HTk : Hid (srt (xs.take k) = srt xs) := by show _ = _; rw [List.take_of_length_le (by omega)]
      rw [HTk.out] at hout
      have HO2 : Hid (OwnS w.heap.size wo (.slice q n c) (srt xs)) := hout
      clear hout
      go_wp2
      go_ret
      exact ⟨_, _, _, rfl, HO2.out, hbel⟩
end Go.Proofs.Ytlmfdifnkkdpfaa
