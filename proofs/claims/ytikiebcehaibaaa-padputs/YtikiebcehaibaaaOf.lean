/-
  pad.Of: the text that bytes are filled up from, in fresh memory, or ErrPad. Nothing that lay before the call has turned.
-/
import Derived.Test.YtikiebcehaibaaaLenOf
import Derived.Test.YtikiebcehaibaaaVEq
import Derived.Test.YtikiebcehaibaaaStr
namespace Go.Proofs.Ytikiebcehaibaaa
open Go.RowKit

/-- The text that these bytes tell. -/
def toldL (cs : List Nat) : List Nat := (cs.drop 4).take (wordAt cs 0)
/-- Whether they are that text, filled up. -/
abbrev IsPad (cs : List Nat) : Prop := 4 ≤ cs.length ∧ wordAt cs 0 + 4 ≤ cs.length ∧ padL (toldL cs) = cs
def textU (cs : List Nat) : List Nat := if IsPad cs then toldL cs else []
def errU (cs : List Nat) : Int := if IsPad cs then 0 else 50

theorem toldL_length {cs : List Nat} (h : wordAt cs 0 + 4 ≤ cs.length) : (toldL cs).length = wordAt cs 0 := by
  simp [toldL]; omega
theorem toldL_lt {cs : List Nat} (h : ∀ z ∈ cs, z < 256) : ∀ z ∈ toldL cs, z < 256 := fun z hz => h z (List.mem_of_mem_drop (List.mem_of_mem_take hz))
theorem IsPad.bucket {cs : List Nat} (h : IsPad cs) (hl : cs.length ≤ 65536) : bucketN (wordAt cs 0) = cs.length := by
  obtain ⟨_, h2, h3⟩ := h
  have h4 := padL_length (zs := toldL cs) (by rw [toldL_length h2]; omega)
  rw [h3, toldL_length h2] at h4
  exact h4.symm
theorem fits_of_bucket {n len : Nat} (h : bucketN n = len) (hl : 4 ≤ len) : n ≤ 65532 ∧ n + 4 ≤ len := by
  by_cases h2 : 65532 < n
  · rw [bucketN_none (.inr (by omega))] at h; omega
  · have := bucketN_pos (z := (n : Int)) (by omega) (by omega)
    omega
theorem textU_pos {cs : List Nat} (h : IsPad cs) : textU cs = toldL cs := if_pos h
theorem textU_neg {cs : List Nat} (h : ¬ IsPad cs) : textU cs = [] := if_neg h
theorem errU_pos {cs : List Nat} (h : IsPad cs) : errU cs = 0 := if_pos h
theorem errU_neg {cs : List Nat} (h : ¬ IsPad cs) : errU cs = 50 := if_neg h

/-- A text filled up is one. -/
theorem isPad_padL {zs : List Nat} (h : zs.length ≤ 65532) : IsPad (padL zs) ∧ toldL (padL zs) = zs := by
  have hw : wordAt (padL zs) 0 = zs.length := by
    unfold padL
    rw [List.append_assoc]
    exact wordAt_lenL _ (by omega) _
  have ht : toldL (padL zs) = zs := by
    unfold toldL
    rw [hw]
    unfold padL
    rw [List.append_assoc, List.drop_append_of_le_length (by simp), List.drop_of_length_le (by simp), List.nil_append, List.take_append_of_le_length (by simp), List.take_of_length_le (by simp)]
  have hp := bucketN_pos (z := (zs.length : Int)) (by omega) (by omega)
  have hl := padL_length h
  exact ⟨⟨by omega, by omega, by rw [ht]⟩, ht⟩

theorem splice_all (ts : List Nat) (n : Nat) (h : ts.length = n) : splice (u8s (List.replicate n 0)) 0 (u8s ts) = u8s ts := by
  simp [splice, u8s, h]

theorem bytes_of_row {W : World} {g n : Nat} {zs : List Nat} (hr : Row W g 5 (u8s zs)) (hl : zs.length = n) (hn : n ≤ 9223372036854775807) (hz : ∀ z ∈ zs, z < 256) : IsBytes W.heap.size W (some ⟨g, 0, none⟩) n n zs :=
  ⟨hl, Nat.le_refl _, hn, hz, .inr ⟨g, 0, rfl, hr.lt, fun i hi => by rw [Nat.zero_add]; exact hr.cell (u8s_at (by omega))⟩⟩

set_option maxRecDepth 100000 in
set_option maxHeartbeats 1000000 in
/-- The walk: the text ts of n bytes, filled up pd, is alike with what came in or not (r). -/
theorem of_core (b off len cap n : Nat) (ts pd : List Nat) (r : Bool) (w : World) (h32 : n + 4 ≤ len) (h4 : 4 < len) (hlen : len ≤ 60000) (hcap : len ≤ cap) (hcap2 : cap ≤ 9223372036854775807)
    (HT : Hid (ts.length = n)) (HTz : Hid (∀ z ∈ ts, z < 256))
    (HS : Hid (∀ W, Below w.heap.size w W → ∀ j v, (u8s ts)[j]? = some v → W.cell? ((⟨b, off + 4, none⟩ : Addr).add j) = some v))
    (HLo : Hid (Calls Try.prog 18 #[.slice (some ⟨b, off, none⟩) len cap] w fun e w' => e = .returned (.tuple #[.int .i64 (n : Nat), .bool true]) ∧ Below w.heap.size w w'))
    (HPu : Hid (∀ g W, IsBytes W.heap.size W (some ⟨g, 0, none⟩) n n ts → Calls Try.prog 11 #[.slice (some ⟨g, 0, none⟩) n n] W fun e w' => ∃ g, e = .returned (.tuple #[.slice (some ⟨g, 0, none⟩) len len, .int .i64 0]) ∧
      Own W.heap.size w' (.slice (some ⟨g, 0, none⟩) len len) pd ∧ Below W.heap.size W w'))
    (HEq : Hid (∀ n₀ g W, Below w.heap.size w W → Own n₀ W (.slice (some ⟨g, 0, none⟩) len len) pd → Calls Try.prog 19 #[.slice (some ⟨g, 0, none⟩) len len, .slice (some ⟨b, off, none⟩) len cap] W fun e w' => e = .returned (.bool r) ∧ Below W.heap.size W w')) :
    Calls Try.prog 13 #[.slice (some ⟨b, off, none⟩) len cap] w fun e w' => ∃ v, e = .returned (.tuple #[v, .int .i64 (if r then 0 else 50)]) ∧ (r = true → Own w.heap.size w' v ts) ∧ (r = false → v = .slice none 0 0) ∧ Below w.heap.size w w' := by
  obtain ⟨i0, hi, hz0, hz1, hz2⟩ := info_parts info5
  have hc4 : (cap = 4) = False := by simp; omega
  have hc5 : (4 : Int) ≤ (len : Int) := by omega
  cases r
  all_goals
    go_enter Try.func13, Try.ntmps13
    go_wp2_with (first
      | (go_at_call 18; refine HLo.out.mono ?_; rintro e w1 ⟨rfl, hb1⟩)
      | (at_make; refine wpList_make_full _ rfl _ _ 28 rfl w1.heap.size 5 i0 (.int .u8 0) 1 Try.underlying28 hi hz0 hz1 _ _ _ _ n rfl rfl (by omega) (by omega) (by rw [hz2]; omega) (by simp only [maxLen]; omega) (Nat.le_refl _) ?_; intro w2 hown2 hgrow2; rw [made_zeros] at hown2; have HR2 : Hid (Row w2 w1.heap.size 5 (u8s (List.replicate n 0))) := row_of_made hown2; have hb2 : Below w1.heap.size w1 w2 := ((Below.refl _ w1).grown hgrow2 (Nat.le_refl _) (fun k e => by cases e)); clear hown2 hgrow2)
      | ((with_reducible show wpList _ _ _ (Oper.mk (some 21) _ _ _ _ _ :: _) _ _); refine wpList_copy_splice rfl (.tmp 18) (.tmp 20) 28 28 rfl 5 Try.underlying28 size5 _ _ _ _ _ _ rfl rfl w1.heap.size 0 (u8s (List.replicate n 0)) 5 HR2.out (u8s ts) (by rw [u8s_length, HT.out]; exact (Nat.min_eq_right (by omega)).symm) (fun _ => ⟨rfl, _, rfl, HS.out _ (hb1.trans (hb2.mono hb1.size))⟩) (by have := HT.out; simp; omega) (u8s_one _) w1.heap.size w1 hb2 (Nat.le_refl _) ?_; intro w3 HG3 hb3; rw [u8s_length, HT.out]; rw [splice_all ts n HT.out] at HG3; have HI3 : Hid (IsBytes w3.heap.size w3 (some ⟨w1.heap.size, 0, none⟩) n n ts) := bytes_of_row HG3.out HT.out (by omega) HTz.out)
      | (go_at_call 11; refine (HPu.out _ _ HI3.out).mono ?_; rintro e w4 ⟨g4, rfl, hown4, hb4⟩)
      | (go_at_call 19; refine (HEq.out _ _ _ ((hb1.trans (hb3.mono hb1.size)).trans (hb4.mono (by have := hb1.size; have := hb3.size; omega))) hown4).mono ?_; rintro e w5 ⟨rfl, hb5⟩))
    refine bodyPost_ret (results_tmp2 rfl _ _ _) rfl ?_
    have hbb : Below w.heap.size w w5 := ((hb1.trans (hb3.mono hb1.size)).trans (hb4.mono (by have := hb1.size; have := hb3.size; omega))).trans (hb5.mono (by have := hb1.size; have := hb3.size; have := hb4.size; omega))
  · exact ⟨_, rfl, rfl, hbb⟩
  · refine ⟨_, rfl, ?_, hbb⟩
    have ho := own_of_row (n₀ := w.heap.size) (zs := ts) HG3.out hb1.size (by have := HT.out; omega)
    rw [HT.out] at ho
    exact (ho.later hb4).later hb5

/-- .. of bytes that are as long as they tell. -/
theorem of_some (p : Option Addr) (len cap : Nat) (cs : List Nat) (h4 : 4 ≤ len) (hlen : len ≤ 60000) (hb : bucketN (wordAt cs 0) = len) (w : World) (hI : IsBytes w.heap.size w p len cap cs) :
    Calls Try.prog 13 #[.slice p len cap] w fun e w' => ∃ v, e = .returned (.tuple #[v, .int .i64 (errU cs)]) ∧ Str w' v (strOf (textU cs)) ∧ Below w.heap.size w w' := by
  obtain ⟨hn1, hn2⟩ := fits_of_bucket hb h4
  have hcl := hI.1
  have hT : (toldL cs).length = wordAt cs 0 := toldL_length (by omega)
  have hTz : ∀ z ∈ toldL cs, z < 256 := toldL_lt hI.2.2.2.1
  have h32 : 4 < len := by
    have := bucketN_pos (z := (wordAt cs 0 : Int)) (by omega) (by omega)
    omega
  obtain ⟨b, off, rfl, hbb, hcs⟩ : ∃ b off, p = some ⟨b, off, none⟩ ∧ b < w.heap.size ∧ ∀ i, i < len → w.cell? ⟨b, off + i, none⟩ = some (.int .u8 (cs.getD i 0 : Nat)) := by
    rcases hI.2.2.2.2 with h | h
    · omega
    · exact h
  have hp : IsPad cs ↔ padL (toldL cs) = cs := ⟨fun h => h.2.2, fun h => ⟨by omega, by omega, h⟩⟩
  refine (of_core b off len cap (wordAt cs 0) (toldL cs) (padL (toldL cs)) (decide (padL (toldL cs) = cs)) w hn2 h32 hlen hI.2.1 hI.2.2.1 hT hTz ?_ ?_ ?_ ?_).mono ?_
  · intro W hW j v hv
    have hj : j < (toldL cs).length := by
      rcases Nat.lt_or_ge j (toldL cs).length with h | h
      · exact h
      · rw [List.getElem?_eq_none (by simpa using h)] at hv; cases hv
    rw [u8s_at hj] at hv
    cases hv
    have hj' : j < wordAt cs 0 := by rw [← hT]; exact hj
    rw [Addr.add_mid, hW.cell (p := ⟨b, off + 4 + j, none⟩) hbb, show off + 4 + j = off + (4 + j) by omega, hcs (4 + j) (by omega)]
    simp [toldL, hj']
  · have h := lengthOf_some _ len cap cs h4 w hI
    rw [decide_eq_true hb] at h
    exact h
  · intro g W h
    have h := put_some _ _ _ _ hn1 W h
    rw [hb] at h
    exact h
  · intro n₀ g W hW ho
    exact equal_any _ _ _ _ _ _ _ _ W hlen hlen (ho.bytes (padL_lt hTz)) ((hI.below hW).mono hW.size)
  · rintro e w' ⟨v, rfl, h1, h2, hbel⟩
    by_cases he : padL (toldL cs) = cs
    · rw [decide_eq_true he] at h1
      rw [errU_pos (hp.2 he), textU_pos (hp.2 he), decide_eq_true he]
      exact ⟨v, rfl, str_of_row rfl (h1 rfl), hbel⟩
    · rw [decide_eq_false he] at h2
      rw [errU_neg (fun h => he (hp.1 h)), textU_neg (fun h => he (hp.1 h)), decide_eq_false he, h2 rfl]
      exact ⟨_, rfl, str_none _ _ _, hbel⟩

set_option maxHeartbeats 1000000 in
theorem of_none (p : Option Addr) (len cap n : Nat) (w : World) (HLo : Hid (Calls Try.prog 18 #[.slice p len cap] w fun e w' => e = .returned (.tuple #[.int .i64 (n : Nat), .bool false]) ∧ Below w.heap.size w w')) :
    Calls Try.prog 13 #[.slice p len cap] w fun e w' => e = .returned (.tuple #[.slice none 0 0, .int .i64 50]) ∧ Below w.heap.size w w' := by
  go_enter Try.func13, Try.ntmps13
  go_wp2_with (go_at_call 18; refine HLo.out.mono ?_; rintro e w1 ⟨rfl, hb1⟩)
  refine bodyPost_ret (results_tmp2 rfl _ _ _) rfl ?_
  exact ⟨rfl, hb1⟩

/-- pad.Of -/
theorem of_any (p : Option Addr) (len cap : Nat) (cs : List Nat) (hlen : len ≤ 60000) (w : World) (hI : IsBytes w.heap.size w p len cap cs) :
    Calls Try.prog 13 #[.slice p len cap] w fun e w' => ∃ v, e = .returned (.tuple #[v, .int .i64 (errU cs)]) ∧ Str w' v (strOf (textU cs)) ∧ Below w.heap.size w w' := by
  have hcl := hI.1
  by_cases h4 : 4 ≤ len
  · by_cases hb : bucketN (wordAt cs 0) = len
    · exact of_some p len cap cs h4 hlen hb w hI
    · have hp : ¬ IsPad cs := fun h => hb ((h.bucket (by omega)).trans hcl)
      rw [errU_neg hp, textU_neg hp]
      refine (of_none p len cap (wordAt cs 0) w ?_).mono ?_
      · have h := lengthOf_some _ len cap cs h4 w hI
        rw [decide_eq_false hb] at h
        exact h
      · rintro e w' ⟨rfl, hbel⟩
        exact ⟨_, rfl, str_none _ _ _, hbel⟩
  · have hp : ¬ IsPad cs := fun h => h4 (by have := h.1; omega)
    rw [errU_neg hp, textU_neg hp]
    refine (of_none p len cap 0 w (lengthOf_short p len cap (by omega) w)).mono ?_
    rintro e w' ⟨rfl, hbel⟩
    exact ⟨_, rfl, str_none _ _ _, hbel⟩

end Go.Proofs.Ytikiebcehaibaaa
