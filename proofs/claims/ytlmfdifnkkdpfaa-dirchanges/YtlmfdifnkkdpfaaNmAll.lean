/-
  Several texts in one: SLay, Nm, Dbl.
-/
import Derived.Shelf.Sort.Plain
import Derived.Shelf.Slices.In.SortNone
import Derived.Shelf.Slices.In.SortNone2
import Derived.Test.YtlmfdifnkkdpfaaProg
import Derived.Test.YtlmfdifnkkdpfaaEntAll
import Derived.Test.YtlmfdifnkkdpfaaClone
import Derived.Test.YtlmfdifnkkdpfaaLowAll
import Derived.Test.YtlmfdifnkkdpfaaOps
import Derived.Test.YtlmfdifnkkdpfaaGate
import Derived.Sort.OwnSorted
/-
  slices.Sort of texts and what it calls, at this program: the numbers of its functions and types, and that they are such as the library asks (laid by the kit, in plain words).
-/
namespace Go.Proofs.Ytlmfdifnkkdpfaa
open Go.Shelf
def sortNames_ren : Go.Shelf.Ren := ⟨fun | 190 => 62 | 125 => 87 | 258 => 86 | 128 => 105 | 129 => 106 | 302 => 96 | 303 => 97 | 304 => 98 | 305 => 99 | 306 => 100 | 307 => 101 | 308 => 102 | 309 => 103 | 310 => 104 | 333 => 117 | 329 => 118 | 330 => 119 | 334 => 120 | 335 => 121 | 336 => 122 | 344 => 126 | n => n, fun | 31 => 48 | 9 => 9 | 3 => 3 | 46 => 96 | 0 => 0 | 51 => 41 | 53 => 64 | 4 => 4 | 183 => 122 | 182 => 121 | 131 => 46 | 5 => 5 | 218 => 136 | 222 => 140 | 228 => 144 | 229 => 145 | n => n, fun | n => n⟩
theorem sortNames : Go.Proofs.Lays.n190 Try.prog sortNames_ren := {
  mixed := by kernel_rfl
  f125 := Try.func87.trans (congrArg some (by kernel_rfl))
  f128 := Try.func105.trans (congrArg some (by kernel_rfl))
  f129 := Try.func106.trans (congrArg some (by kernel_rfl))
  f190 := Try.func62.trans (congrArg some (by kernel_rfl))
  f258 := Try.func86.trans (congrArg some (by kernel_rfl))
  f302 := Try.func96.trans (congrArg some (by kernel_rfl))
  f303 := Try.func97.trans (congrArg some (by kernel_rfl))
  f304 := Try.func98.trans (congrArg some (by kernel_rfl))
  f305 := Try.func99.trans (congrArg some (by kernel_rfl))
  f306 := Try.func100.trans (congrArg some (by kernel_rfl))
  f307 := Try.func101.trans (congrArg some (by kernel_rfl))
  f308 := Try.func102.trans (congrArg some (by kernel_rfl))
  f309 := Try.func103.trans (congrArg some (by kernel_rfl))
  f310 := Try.func104.trans (congrArg some (by kernel_rfl))
  f329 := Try.func118.trans (congrArg some (by kernel_rfl))
  f330 := Try.func119.trans (congrArg some (by kernel_rfl))
  f333 := Try.func117.trans (congrArg some (by kernel_rfl))
  f334 := Try.func120.trans (congrArg some (by kernel_rfl))
  f335 := Try.func121.trans (congrArg some (by kernel_rfl))
  f336 := Try.func122.trans (congrArg some (by kernel_rfl))
  f344 := Try.func126.trans (congrArg some (by kernel_rfl))
  t0 := Try.underlying0
  a0 := Try.isAgg0
  z0 := Try.sizeOf0
  v0 := Try.zeroValue0
  t3 := Try.underlying3
  a3 := Try.isAgg3
  z3 := Try.sizeOf3
  v3 := Try.zeroValue3
  t4 := Try.underlying4
  a4 := Try.isAgg4
  z4 := Try.sizeOf4
  v4 := Try.zeroValue4
  t5 := Try.underlying5
  a5 := Try.isAgg5
  z5 := Try.sizeOf5
  v5 := Try.zeroValue5
  t9 := Try.underlying9
  a9 := Try.isAgg9
  z9 := Try.sizeOf9
  v9 := Try.zeroValue9
  t31 := Try.underlying48
  a31 := Try.isAgg48
  z31 := Try.sizeOf48
  v31 := Try.zeroValue48
  t46 := Try.underlying96
  a46 := Try.isAgg96
  z46 := Try.sizeOf96
  v46 := Try.zeroValue96
  t51 := Try.underlying41
  a51 := Try.isAgg41
  z51 := Try.sizeOf41
  v51 := Try.zeroValue41
  t53 := Try.underlying64
  a53 := Try.isAgg64
  z53 := Try.sizeOf64
  v53 := Try.zeroValue64
  t131 := Try.underlying46
  a131 := Try.isAgg46
  z131 := Try.sizeOf46
  v131 := Try.zeroValue46
  t182 := Try.underlying121
  a182 := Try.isAgg121
  z182 := Try.sizeOf121
  v182 := Try.zeroValue121
  t183 := Try.underlying122
  a183 := Try.isAgg122
  z183 := Try.sizeOf122
  v183 := Try.zeroValue122
  t218 := Try.underlying136
  a218 := Try.isAgg136
  z218 := Try.sizeOf136
  v218 := Try.zeroValue136
  t222 := Try.underlying140
  a222 := Try.isAgg140
  z222 := Try.sizeOf140
  v222 := Try.zeroValue140
  t228 := Try.underlying144
  a228 := Try.isAgg144
  z228 := Try.sizeOf144
  v228 := Try.zeroValue144
  t229 := Try.underlying145
  a229 := Try.isAgg145
  z229 := Try.sizeOf145
  v229 := Try.zeroValue145 }
end Go.Proofs.Ytlmfdifnkkdpfaa
/-
  dir.Names: the names, sorted; what the function that it hands out tells.
-/
namespace Go.Proofs.Ytlmfdifnkkdpfaa
open Go.RowKit Go.Shelf

/-- Texts, sorted. -/
def sortL (l : List (List UInt8)) : List (List UInt8) := l.mergeSort fun x y => decide (x ≤ y)
def txt (l : List UInt8) : ByteArray := ⟨l.toArray⟩
theorem txt_bytes (s : ByteArray) : txt (bytesOf s) = s := by cases s; rfl
theorem bytes_txt (l : List UInt8) : bytesOf (txt l) = l := rfl
def namesE (es : List Ent) : List ByteArray := es.map (·.name)
def sortedE (es : List Ent) : List ByteArray := (sortL ((namesE es).map bytesOf)).map txt

theorem strs_app (a b : List ByteArray) : strs a ++ strs b = strs (a ++ b) := by simp [strs]
theorem OwnS.at {W : World} {n₀ : Nat} {q : Option Addr} {len c : Nat} {xs : List ByteArray} (h : OwnS n₀ W (.slice q len c) xs) {k : Nat} (hk : k < xs.length) : ∃ g, q = some ⟨g, 0, none⟩ ∧ W.cell? ⟨g, k, none⟩ = some (.string (xs.getD k ⟨#[]⟩)) ∧ len ≤ c := by
  have hl : xs.length = len := h.strs.1
  obtain ⟨g, rfl, h1, h2, h3, h4, h5, cur, h6, h7, h8⟩ := h.row (by omega)
  refine ⟨g, rfl, ?_, h4⟩
  rw [cell_of_row W g k cur 9 (0, 0) h6]
  have : (cur.toList.take len)[k]? = some (.string xs[k]) := by rw [h8, strs_at hk]
  rw [List.getElem?_take, if_pos (by omega)] at this
  rw [List.getD_eq_getElem?_getD, List.getElem?_eq_getElem hk, Option.getD_some]
  simpa using this

set_option maxRecDepth 100000 in
set_option maxHeartbeats 1000000 in
/-- What is told: these texts, one behind the other. -/
theorem names1_iter (n : Nat) (hn : 2 ≤ n) (l n₀ B : Nat) (q : Option Addr) (len c : Nat) (xs : List ByteArray) (W : World) (hbx : Boxed W B 48 (.slice q len c)) (hown : OwnS n₀ W (.slice q len c) xs) :
    IterAt Fence.wide n Try.prog 63 #[.pointer (some ⟨B, 0, none⟩)] (fun x : ByteArray => #[.string x]) (fun _ _ => True) (fun X Y => OwnS n₀ X (.slice q len c) xs → OwnS n₀ Y (.slice q len c) xs) (fun ys => ys = xs) (fun pre => pre <+: xs) len l W := by
  intro J Jx hJ hJx hY h0
  have hfn : ∀ f, Fence.wide.fn f := fun _ => trivial
  have hc := hbx.cell
  have hS := hown.strs
  have hcap : len ≤ 9223372036854775807 := Nat.le_trans hS.2.1 hS.2.2.1
  have HL : Hid (xs.length = len) := hS.1
  refine callsIn_of_wp Try.func63 rfl trivial ?_ rfl
  simp only [Try.ntmps63, List.size_toArray, List.length_cons, List.length_nil, Nat.reduceAdd, Nat.reduceSub, Array.replicate_succ, Array.replicate_zero, List.push_toArray, List.append_toArray, List.nil_append, List.cons_append]
  have HO : Hid (OwnS n₀ W (.slice q len c) xs) := hown
  clear hbx hown hS
  gi_wp2
  gi_loopw [7] (fun i wr => ∃ (k : Nat), k ≤ len ∧ i = .int .i64 k ∧ J (xs.take k) wr ∧ OwnS n₀ wr (.slice q len c) xs) (fun i _ => len - (intOf i).toNat)
  case atStart => exact ⟨0, Nat.zero_le _, rfl, by rw [List.take_zero]; exact h0, HO.out⟩
  case round =>
    obtain ⟨k, hk, rfl, hj, ho⟩ := hrel
    have HO2 : Hid (OwnS n₀ wr (.slice q len c) xs) := ho
    clear HO
    by_cases hlt : k < len
    · have hki : (k : Int) < (len : Int) := by omega
      obtain ⟨g, rfl, hcell, hlc⟩ := ho.at (k := k) (by rw [HL.out]; exact hlt)
      have HT : Hid (xs.take (k + 1) = xs.take k ++ [xs.getD k ⟨#[]⟩]) := by
        show _ = _
        have hl : k < xs.length := by rw [HL.out]; exact hlt
        rw [List.take_succ_eq_append_getElem hl, List.getD_eq_getElem?_getD, List.getElem?_eq_getElem hl, Option.getD_some]
      generalize xs.getD k ⟨#[]⟩ = x at *
      obtain ⟨fn, tmps, assign, body, hy, hR⟩ := hY (xs.take k) x wr hj trivial (by rw [List.length_take, HL.out]; omega)
      clear ho hj
      gi_wp2
      refine ⟨fun _ => by omega, RoundIn.mono hR ?_⟩
      rintro e W3 (⟨rfl, hJ3, hk3⟩ | ⟨rfl, hJ3, hk3⟩)
      · gi_wp2
        go_roundw
        case rel => exact ⟨k + 1, by omega, by go_num, by rw [HT.out]; exact hJ3, hk3 HO2.out⟩
        case measure => simp [intOf]; omega
      · gi_wp2
        refine bodyPost_ret (results_none rfl _ _ _) rfl ?_
        exact ⟨⟨_, rfl⟩, .inr ⟨_, by rw [← HT.out]; exact List.take_prefix _ _, hJ3⟩⟩
    · obtain rfl : k = len := by omega
      gi_wp2
      refine ⟨rfl, _, results_none rfl _ _ _, ?_⟩
      exact ⟨⟨_, rfl⟩, .inl ⟨xs, rfl, by rw [List.take_of_length_le (by rw [HL.out]; exact Nat.le_refl _)] at hj; exact hj⟩⟩

theorem enc_bytes (xs : List ByteArray) : (xs.map bytesOf).map Go.Proofs.encStr = strs xs := by
  rw [List.map_map, strs]
  exact List.map_congr_left (fun x _ => by cases x; rfl)
theorem enc_txt (l : List (List UInt8)) : l.map Go.Proofs.encStr = strs (l.map txt) := by
  rw [strs, List.map_map]; rfl
theorem sortL_length (l : List (List UInt8)) : (sortL l).length = l.length := by simp [sortL]
set_option maxRecDepth 100000 in
/-- slices.Sort of a row of texts. -/
theorem sort_any (n₀ : Nat) (q : Option Addr) (len c : Nat) (xs : List ByteArray) (w : World) (h : OwnS n₀ w (.slice q len c) xs) (hlen : len ≤ 100000) :
    Calls Try.prog 62 #[.slice q len c] w fun e w' => e = .returned (.tuple #[]) ∧ OwnS n₀ w' (.slice q len c) ((sortL (xs.map bytesOf)).map txt) ∧ w.grownBy w' (Value.slice q len c).ownBlock := by
  have hl : xs.length = len := h.strs.1
  by_cases h0 : len = 0
  · subst h0
    obtain rfl := List.length_eq_zero_iff.1 hl
    refine (Any.slices_Sort_string_none sortNames q c w).mono ?_
    rintro e w' ⟨rfl, rfl⟩
    refine ⟨rfl, ?_, ⟨rfl, rfl, rfl, Nat.le_refl _, fun _ _ _ => rfl⟩⟩
    have : (sortL (([] : List ByteArray).map bytesOf)).map txt = [] := by simp [sortL]
    rw [this]
    exact h
  · rcases h.2 with ⟨e, _⟩ | ⟨g, cap, cur, e, hbase, hb, h1, h2, h3, h4⟩
    · cases e; omega
    · cases e
      have hll : (xs.map bytesOf).length = xs.length := by rw [List.length_map]
      have hH : Go.Sort.Holds Go.Proofs.encStr w g 0 (xs.map bytesOf).toArray := holds_of_block hb (by rw [enc_bytes, hll]; simpa using h4)
      have hcon := Any.slices_Sort_string sortNames g 0 c (xs.map bytesOf) w hH (Array.getElem?_eq_some_iff.1 hb).1 (by rw [hll]; omega)
      rw [hll] at hcon
      refine Calls.mono hcon ?_
      rintro e w' ⟨he, n, os, rfl⟩
      refine ⟨he, ?_, grownBy_sorted _⟩
      have h5 := ownsRow_sorted (n := n) (os := os) (ss := xs.map bytesOf) (ts := sortL (xs.map bytesOf)) (sortL_length _) hbase hb (by rw [hll]; exact h1) h2 h3
      unfold OwnS
      rw [enc_txt, hll] at h5
      rw [List.length_map, sortL_length, hll]
      exact h5

/-- The names so far. -/
def NmRel (n₀ B : Nat) (W : World) (xs : List ByteArray) : Prop := ∃ q c, Boxed W B 48 (.slice q xs.length c) ∧ OwnS n₀ W (.slice q xs.length c) xs

set_option maxRecDepth 100000 in
set_option maxHeartbeats 2000000 in
/-- dir.Names -/
theorem names_any (p : Option Addr) (len cap : Nat) (es : List Ent) (w : World) (hI : IsEnts w.heap.size w p len cap es) (hlen : len ≤ 100000) (hnm : ∀ e ∈ es, e.name.size ≤ 1000000) :
    Calls Try.prog 28 #[.slice p len cap] w fun e w' => ∃ B q c, e = .returned (.func (.func 63) #[] #[.pointer (some ⟨B, 0, none⟩)]) ∧ w.heap.size ≤ B ∧ Boxed w' B 48 (.slice q len c) ∧ OwnS w.heap.size w' (.slice q len c) (sortedE es) ∧ Below w.heap.size w w' := by
  have HI : Hid (IsEnts w.heap.size w p len cap es) := hI
  have HL : Hid (es.length = len) := hI.1
  have HNm : Hid (∀ e ∈ es, e.name.size ≤ 1000000) := hnm
  obtain ⟨i0, hi0, hz0, hz1, hz2⟩ := info_parts info9
  clear hI hnm
  go_enter Try.func28, Try.ntmps28
  go_wp2_with (first
    | (at_make; refine wpList_make_own _ rfl _ _ 48 rfl w.heap.size 9 i0 _ 1 Try.underlying48 hi0 hz0 hz1 _ _ _ len rfl rfl (by omega) (by rw [hz2]; omega) (by simp only [maxLen]; omega) (Nat.le_refl _) ?_; intro w1 hown1 hgrow1; have hb1 : Below w.heap.size w w1 := ((Below.refl _ w).grown hgrow1 (Nat.le_refl _) (fun k e => by cases e)); have HO1 : Hid (OwnS w.heap.size w1 (.slice (some ⟨w.heap.size, 0, none⟩) 0 len) []) := hown1; clear hown1 hgrow1))
  have hsz1 := hb1.size
  have H0 : Hid (NmRel w.heap.size w1.heap.size (w1.alloc (.cells #[.slice (some ⟨w.heap.size, 0, none⟩) 0 len] 48)) []) := ⟨_, _, Boxed.new w1 48 _, World.ownsRow.alloc HO1.out _⟩
  have HB0 : Hid (Below w.heap.size w (w1.alloc (.cells #[.slice (some ⟨w.heap.size, 0, none⟩) 0 len] 48))) := hb1.alloc hsz1 _
  have hBlt : w.heap.size ≤ w1.heap.size := hsz1
  clear hb1 HO1
  generalize w1.alloc (.cells #[.slice (some ⟨w.heap.size, 0, none⟩) 0 len] 48) = w2 at *
  generalize w1.heap.size = B at *
  go_loopw [11] (fun i wr => ∃ (k : Nat), k ≤ len ∧ i = .int .i64 k ∧ NmRel w.heap.size B wr (namesE (es.take k)) ∧ Below w.heap.size w wr) (fun i _ => len - (intOf i).toNat)
  case atStart => exact ⟨0, Nat.zero_le _, rfl, H0.out, HB0.out⟩
  case round =>
    obtain ⟨k, hk, rfl, hnr, hbel⟩ := hrel
    have HNR : Hid (NmRel w.heap.size B wr (namesE (es.take k))) := hnr
    clear hnr H0 HB0
    by_cases hlt : k < len
    · have hki : (k : Int) < (len : Int) := by omega
      obtain ⟨b, off, rfl, hb, hrg, hok, hmem⟩ := (HI.out.below hbel).at hlt
      have HT : Hid (namesE (es.take (k + 1)) = namesE (es.take k) ++ [(es.getD k noEnt).name]) := by
        show _ = _
        rw [ent_take es (by rw [HL.out]; exact hlt)]; simp [namesE]
      have HKl : Hid ((namesE (es.take k)).length = k) := by show _ = _; simp [namesE, HL.out]; omega
      have HRg : Hid (wr.rangeAt b (off + k * 100) (entC (es.getD k noEnt))) := hrg
      have HX : Hid ((es.getD k noEnt).name.size ≤ 1000000) := HNm.out _ hmem
      clear hrg hmem
      generalize es.getD k noEnt = x at *
      have hsz := hbel.size
      go_wp2_with (first
        | ((with_reducible show wpList _ _ _ (Oper.mk _ (Op.load 43 (.tmp 13)) _ _ _ _ :: _) _ _); refine wpList_loadEnt rfl (.tmp 13) rfl rfl hok HRg.out ?_; simp only [Act.put, List.setIfInBounds_toArray, List.set_cons_zero, List.set_cons_succ])
        | ((with_reducible show wpList _ _ _ (Oper.mk _ (Op.store 43 (.tmp 5) (.tmp 14)) _ _ _ _ :: _) _ _); refine wpList_storeNew rfl (.tmp 5) (.tmp 14) rfl x hok rfl rfl (fun W2 hb2 hE => ?_); have hcN := hE.name; have hcK := hE.kind; have HE : Hid (EntAt _ _ _) := hE; clear hE; simp only [Act.put])
        )
      generalize namesE (es.take k) = N at *
      obtain ⟨q, c, hbx, how⟩ := HNR.out
      rw [HKl.out] at hbx how
      have hbx2 := boxed_below hbx hb2
      have how2 := how.later hb2
      have hsz2 := hb2.size
      have hblt := hbx.lt
      have hcB : W2.drew.cell? ⟨B, 0, none⟩ = some (.slice q k c) := hbx2.cell
      have hcN2 : W2.drew.cell? ⟨wr.heap.size, 32, none⟩ = some (.string x.name) := hcN
      have hHeld : W2.drew.cell? ⟨B, 0, none⟩ = some (.slice q k c) ∧ W2.drew.cell? ⟨wr.heap.size, 32, none⟩ = some (.string x.name) := ⟨hcB, hcN2⟩
      refine wp_region_noPanic ?_
      refine wp_region_gate' 6 (fun W' => W'.cell? ⟨B, 0, none⟩ = some (.slice q k c) ∧ W'.cell? ⟨wr.heap.size, 32, none⟩ = some (.string x.name)) (by kernel_rfl) ?_
      refine wpAnyG_takesAt 0 3 4 (of_decide_eq_true (by kernel_rfl)) rfl (fun _ _ _ d _ h => by cases d <;> exact h) (by kernel_rfl) (by kernel_rfl) (fun _ => hHeld) ?_
      simp only [List.drop_zero, List.take_succ_cons, List.take_zero]
      iterate 3 (refine wpHeldG_step (v := ?_) (by rfl) (by kernel_rfl) (fun wz hSw => ?_) ?_; rotate_left; (focus ((try dsimp only at hSw); go_simp; try with_reducible rfl)); (simp only [Act.put, List.setIfInBounds_toArray, List.set_cons_zero, List.set_cons_succ]))
      refine wpHeldG_nil ?_
      refine wpAnyG_only (i := 3) (by kernel_rfl) rfl (by rfl) (fun K hK => ?_)
      go_simp
      refine (sclone_any x.name HX.out W2.drew).mono ?_
      rintro e w6 ⟨rfl, hb6⟩
      have hb6' : Below W2.heap.size W2 w6 := (Below.refl _ W2).drew.trans hb6
      have hbx6 := boxed_below hbx2 hb6'
      have how6 := how2.later hb6'
      have hE6 := HE.out.later hb6'
      refine hK.out _ _ (fun _ => ⟨hbx6.cell, hE6.name⟩) ?_
      clear hK K
      have hsz6 := hb6'.size
      have hx7 : (w6.alloc (.cells #[.string x.name] 9)).cell? ⟨w6.heap.size, 0, none⟩ = some (.string x.name) := (Boxed.new w6 9 _).cell
      have hr7 : OwnS w.heap.size (w6.alloc (.cells #[.string x.name] 9)) (.slice q k c) N := World.ownsRow.alloc how6 _
      obtain ⟨u8, w8, hrun, ho8, hg8, hw8⟩ := run_append_str _ w.heap.size 48 (.slice q k c) N hr7 w6.heap.size x.name hx7 (by rw [HKl.out]; omega) (by simp; omega)
      obtain ⟨q8, c8, rfl⟩ := ho8.slice
      obtain ⟨hv1, hv2, hr2, hk2, hb8⟩ := hbx6.appended (by decide) how6 (show w.heap.size ≤ w6.heap.size by omega) hBlt ho8 hg8
      have hE8 : w8.cell? ⟨wr.heap.size, 32, none⟩ = some (.string x.name) := by
        have hl6 := hE6.row.lt
        have hr : Row w8 wr.heap.size 43 (entC x) := by
          refine (hg8.block wr.heap.size (by simp; omega) (fun e => ?_)).trans (hE6.row.alloc _)
          obtain ⟨cc, fr, h'⟩ := row_tag how6 _ e.symm
          rw [show w6.heap[wr.heap.size]? = _ from hE6.row] at h'
          cases h'
        exact hr.cell (entC_name hok)
      have HFin : Hid (NmRel w.heap.size B (w8.setCell ⟨B, 0, none⟩ (.slice q8 (N ++ [x.name]).length c8)) (N ++ [x.name]) ∧ Below w.heap.size w (w8.setCell ⟨B, 0, none⟩ (.slice q8 (N ++ [x.name]).length c8))) := ⟨⟨q8, c8, hv2, hr2⟩, ((hbel.trans (hb2.mono hsz)).trans (hb6'.mono (by omega))).trans hb8⟩
      refine wpAnyG_only (i := 4) (by kernel_rfl) rfl (by rfl) (fun K hK => ?_)
      go_simp
      refine hK.out _ _ (fun _ => ⟨(hbx6.alloc _).cell, (hE6.row.alloc _).cell (entC_name hok)⟩) ?_
      clear hK K
      refine wpAnyG_only (i := 5) (by kernel_rfl) rfl (by rfl) (fun K hK => ?_)
      refine wp_append_of (.tmp 15) (.tmp 19) 48 rfl rfl rfl hrun ?_
      refine hK.out _ _ (fun _ => ⟨hv1.cell, hE8⟩) ?_
      clear hK K
      change wpAnyG _ _ _ _ _ _ _ _ (Act.put _ (some 20) _) _
      (simp only [Act.put]; (try simp only [List.setIfInBounds_toArray]); (try simp only [List.set_cons_succ]); (try simp only [List.set_cons_zero]))
      refine wpAnyG_only (i := 6) (by kernel_rfl) rfl (by rfl) (fun K hK => ?_)
      have c8r := hv1.cell
      have fz8 := hv1.frozen
      go_simp
      refine hK.out _ _ (gone (by kernel_rfl)) ?_
      clear hK K
      refine wpAnyG_done (by kernel_rfl) ?_ _
      refine NoPanic.normal ?_
      have HKl2 : Hid ((N ++ [x.name]).length = k + 1) := by show _ = _; simp [HKl.out]
      clear hrun ho8 hg8 hw8 hv1 hv2 hr2 hk2 hb8 hE8 hr7 hx7 how6 hbx6 hE6 hb6 hb6' hcB hcN2 hHeld how2 hbx2 hbx how c8r fz8 HNR
      have HFin2 := HFin.out
      rw [show (N ++ [x.name]).length = N.length + 1 by simp] at HFin2
      have HFin : Hid _ := HFin2
      clear HFin2
      generalize w8.setCell ⟨B, 0, none⟩ (.slice q8 (N.length + 1) c8) = w9 at *
      go_wp2
      go_roundw
      case rel => exact ⟨k + 1, by omega, by go_num, by rw [HT.out]; exact HFin.out.1, HFin.out.2⟩
      case measure => simp [intOf]; omega
    · obtain rfl : k = len := by omega
      have HTk : Hid (namesE (es.take k) = namesE es) := by show _ = _; rw [List.take_of_length_le (by rw [HL.out]; exact Nat.le_refl _)]
      obtain ⟨q, c, hbx, how⟩ := HNR.out
      rw [HTk.out] at hbx how
      have hnl : (namesE es).length = k := by simp [namesE, HL.out]
      rw [hnl] at hbx how
      have hcB := hbx.cell
      have hfB := hbx.frozen
      have HS := sort_any w.heap.size q k c (namesE es) wr how (by omega)
      have HBx : Hid (Boxed wr B 48 (.slice q k c)) := hbx
      have HOw : Hid (OwnS w.heap.size wr (.slice q k c) (namesE es)) := how
      have hsz := hbel.size
      have hblt := hbx.lt
      clear hbx how HNR hnl
      go_wp2_with (go_at_call 62; refine HS.mono ?_; rintro e w3 ⟨rfl, hO3, hg3⟩)
      have hBx3 : Boxed w3 B 48 (.slice q k c) := HBx.out.kept hg3 (HBx.out.not_row (by decide) HOw.out)
      have hb3 : Below w.heap.size w w3 := hbel.grown hg3 hsz (fun j e => (World.ownsRow.lt HOw.out j e).1)
      go_ret
      exact ⟨B, q, c, rfl, hBlt, hBx3, hO3, hb3⟩
end Go.Proofs.Ytlmfdifnkkdpfaa
/-
  dir.doubled: whether two neighbours of the sorted names are alike; that is so just if two names are.
-/
namespace Go.Proofs.Ytlmfdifnkkdpfaa
open Go.RowKit Go.Shelf

/-- Two neighbours are alike. -/
def adjB : List (List UInt8) → Bool
  | a :: b :: r => (a == b) || adjB (b :: r)
  | _ => false
theorem adjB_snoc (x : List UInt8) : ∀ (l : List (List UInt8)) (h : l ≠ []), adjB (l ++ [x]) = (adjB l || (l.getLast h == x))
  | [], h => absurd rfl h
  | [a], _ => by simp [adjB]
  | a :: b :: r, h => by
    have ih := adjB_snoc x (b :: r) (by simp)
    have e : (a :: b :: r).getLast h = (b :: r).getLast (by simp) := List.getLast_cons _
    rw [e]
    simp only [List.cons_append] at ih ⊢
    rw [adjB, ih, adjB, Bool.or_assoc]
theorem adjB_prefix : ∀ (l r : List (List UInt8)), adjB l = true → adjB (l ++ r) = true
  | [], _, h => by simp [adjB] at h
  | [a], _, h => by simp [adjB] at h
  | a :: b :: t, r, h => by
    have ih := adjB_prefix (b :: t) r
    simp only [List.cons_append] at ih ⊢
    rw [adjB, Bool.or_eq_true] at h ⊢
    rcases h with h | h
    · exact .inl h
    · exact .inr (ih h)
theorem sorted_nodup : ∀ (l : List (List UInt8)), l.Pairwise (fun a b => a ≤ b) → (adjB l = false ↔ l.Nodup)
  | [], _ => by simp [adjB]
  | [a], _ => by simp [adjB]
  | a :: b :: r, h => by
    have h2 := List.pairwise_cons.1 h
    have ih := sorted_nodup (b :: r) h2.2
    constructor
    · intro hf
      rw [adjB, Bool.or_eq_false_iff] at hf
      refine List.nodup_cons.2 ⟨fun hm => ?_, ih.1 hf.2⟩
      have hne : ¬ a = b := by simpa using hf.1
      rcases List.mem_cons.1 hm with e | hm
      · exact hne e
      · exact hne (List.le_antisymm (h2.1 b List.mem_cons_self) ((List.pairwise_cons.1 h2.2).1 a hm))
    · intro hn
      have h3 := List.nodup_cons.1 hn
      rw [adjB, ih.2 h3.2, Bool.or_false, beq_eq_false_iff_ne]
      intro e
      exact h3.1 (by rw [e]; exact List.mem_cons_self)
theorem sortL_pair (l : List (List UInt8)) : (sortL l).Pairwise (fun a b => a ≤ b) := by
  have := List.pairwise_mergeSort (le := fun x y : List UInt8 => decide (x ≤ y)) (fun a b c h1 h2 => by simp only [decide_eq_true_eq] at *; exact List.le_trans h1 h2) (fun a b => by simp only [Bool.or_eq_true, decide_eq_true_eq]; exact List.le_total a b) l
  exact this.imp (fun h => by simpa using h)
theorem sortL_perm (l : List (List UInt8)) : (sortL l).Perm l := List.mergeSort_perm _ _
/-- Two names are alike. -/
def dupB (es : List Ent) : Bool := decide (¬ ((namesE es).map bytesOf).Nodup)
theorem adjB_dup (es : List Ent) : adjB ((sortedE es).map bytesOf) = dupB es := by
  have e : (sortedE es).map bytesOf = sortL ((namesE es).map bytesOf) := by
    rw [sortedE, List.map_map]
    conv => rhs; rw [← List.map_id (sortL _)]
    exact List.map_congr_left (fun x _ => bytes_txt x)
  rw [e, dupB]
  have h := sorted_nodup _ (sortL_pair ((namesE es).map bytesOf))
  rw [(sortL_perm ((namesE es).map bytesOf)).nodup_iff] at h
  cases hb : adjB (sortL ((namesE es).map bytesOf)) with
  | false => simp [h.1 hb]
  | true =>
    have : ¬ ((namesE es).map bytesOf).Nodup := fun hn => by rw [h.2 hn] at hb; cases hb
    simp [this]
/-- The one told last. -/
def lastS (pre : List ByteArray) : ByteArray := pre.getLastD ⟨#[]⟩
theorem bytesOf_inj {a b : ByteArray} (h : bytesOf a = bytesOf b) : a = b := by rw [← txt_bytes a, h, txt_bytes]
theorem adj_next (pre : List ByteArray) (x : ByteArray) (h : pre ≠ []) : adjB ((pre ++ [x]).map bytesOf) = (adjB (pre.map bytesOf) || (x.toList == (lastS pre).toList)) := by
  rw [List.map_append, List.map_singleton, adjB_snoc _ _ (by simpa using h), text_eq, lastS]
  congr 1
  rw [List.getLast_map, Bool.eq_iff_iff, beq_iff_eq, beq_iff_eq, List.getLastD_eq_getLast?, List.getLast?_eq_some_getLast h, Option.getD_some]
  exact eq_comm
theorem OwnS.put {W : World} {n₀ D : Nat} {v : Value} {xs : List ByteArray} {o : Obj} (h : OwnS n₀ W v xs) (o' : Obj) (hD : W.heap[D]? = some o) (hc : o.isCells = false) : OwnS n₀ (W.putObj D o') v xs :=
  World.ownsRow.kept h (grownBy_putObj' W D o') (by
    rcases h.2 with ⟨rfl, _⟩ | ⟨g, cap, cur, rfl, _, hgb, _⟩
    · exact .inl rfl
    · refine .inr fun e => ?_
      cases e
      rw [hD] at hgb; cases hgb; cases hc)
theorem OwnS.setLow {W : World} {n₀ B : Nat} {v : Value} {xs : List ByteArray} (h : OwnS n₀ W v xs) (hB : B < n₀) (u : Value) : OwnS n₀ (W.setCell ⟨B, 0, none⟩ u) v xs := by
  refine ⟨h.1, ?_⟩
  rcases h.2 with hn | ⟨g, cap, cur, rfl, hg, hgg, rest⟩
  · exact .inl hn
  · exact .inr ⟨g, cap, cur, rfl, hg, (heap_setCell_other W ⟨B, 0, none⟩ g u (by show g ≠ B; omega)).trans hgg, rest⟩
theorem boxed_other {W : World} {B B' : Nat} {t : TypeId} {v : Value} (h : Boxed W B t v) (hb : B ≠ B') (u : Value) : Boxed (W.setCell ⟨B', 0, none⟩ u) B t v := (heap_setCell_other W ⟨B', 0, none⟩ B u hb).trans h

theorem box_from {b B : Nat} {t : TypeId} {v : Value} {A A' : World} {row : Option Nat} (h : Boxed A b t v) (hg : A.grownBy A' row) (hr : ∀ r, row = some r → B ≤ r ∧ ∃ o : Obj, A.heap[r]? = some o ∧ o.isCells = false) : Boxed A' b t v :=
  Own.from (boxed_own b t (fun _ : Unit => v)) B () A A' row h hg hr
theorem wpIn_scope_wide {P : Program} {Q : Exit → Act → World → Prop} {m : Nat} {c : Code} {a : Act} {w : World} (h : c.wpIn Fence.wide m P (Exit.noGoto Q) a w) : (Code.scope c).wpIn Fence.wide m P Q a w := wpIn_wide.2 (wp_scope_straight (wpIn_wide.1 h))

attribute [local go_sem] Oper.semAt_some
set_option maxRecDepth 100000 in
set_option maxHeartbeats 4000000 in
theorem doubled_in (n : Nat) (hn : 5 ≤ n) (p : Option Addr) (len cap : Nat) (es : List Ent) (w : World) (hI : IsEnts w.heap.size w p len cap es) (hlen : len ≤ 100000) (hnm : ∀ e ∈ es, e.name.size ≤ 1000000) :
    CallsIn Fence.wide n Try.prog 39 #[.slice p len cap] w fun e w' => e = .returned (.bool (dupB es)) ∧ Below w.heap.size w w' := by
  have h1 : 1 ≤ n := by omega
  have hfn : ∀ f, Fence.wide.fn f := fun _ => trivial
  obtain ⟨w3, hw3⟩ : ∃ w3, ((((w.alloc (.cells #[.bool false] 4)).alloc (.cells #[.int .i64 0] 3)).alloc (.cells #[.string ⟨#[]⟩] 9))) = w3 := ⟨_, rfl⟩
  have hs3 : w3.heap.size = w.heap.size + 1 + 1 + 1 := by rw [← hw3]; simp
  have hb3 : Below w.heap.size w w3 := by rw [← hw3]; exact (((Below.refl _ w).alloc (Nat.le_refl _) _).alloc (by simp) _).alloc (by simp; omega) _
  have HR1 : Hid (Boxed w3 w.heap.size 4 (.bool false)) := by rw [← hw3]; exact ((Row.new w 4 #[.bool false]).alloc _).alloc _
  have HR2 : Hid (Boxed w3 (w.heap.size + 1) 3 (.int .i64 0)) := by
    rw [← hw3]
    have h := Row.new (w.alloc (.cells #[.bool false] 4)) 3 #[.int .i64 0]
    rw [World.size_alloc] at h
    exact h.alloc _
  have HR3 : Hid (Boxed w3 (w.heap.size + 1 + 1) 9 (.string ⟨#[]⟩)) := by
    rw [← hw3]
    have h := Row.new ((w.alloc (.cells #[.bool false] 4)).alloc (.cells #[.int .i64 0] 3)) 9 #[.string ⟨#[]⟩]
    rw [World.size_alloc, World.size_alloc] at h
    exact h
  have HNames := names_any p len cap es w3 ((hI.below hb3).mono hb3.size) hlen hnm
  have HW : Hid (((w.alloc (.cells #[.bool false] 4)).alloc (.cells #[.int .i64 0] 3)).alloc (.cells #[.string ⟨#[]⟩] 9) = w3) := hw3
  clear hw3 hI hnm
  refine callsIn_of_wp_marks Try.func39 rfl trivial ?_ rfl
  simp only [Try.ntmps39, List.size_toArray, List.length_cons, List.length_nil, Nat.reduceAdd, Nat.reduceSub, Array.replicate_succ, Array.replicate_zero, List.push_toArray, List.append_toArray, List.nil_append, List.cons_append]
  have HS3 : Hid (w3.heap.size = w.heap.size + 1 + 1 + 1) := hs3
  clear hs3
  gi_wp2
  refine wpIn_scope_wide ?_
  gi_wp2
  refine wpIn_label ?_
  rw [HW.out]
  gi_wp2_with (gi_at_call 28; refine (callsIn_wide.2 HNames).mono ?_; rintro e w4 ⟨Bp, q, c, rfl, hBp, hbp, hown, hb4⟩)
  have hlo : w.heap.size + 1 + 1 < w3.heap.size := by rw [HS3.out]; omega
  have hl4 := hb4.size
  have r1 := boxed_below HR1.out hb4
  have r2 := boxed_below HR2.out hb4
  have r3 := boxed_below HR3.out hb4
  have hbw4 : Below w.heap.size w w4 := hb3.trans (hb4.mono hb3.size)
  have HL : Hid ((sortedE es).length = len) := hown.strs.1
  clear HR1 HR2 HR3 HW HNames hb4 HS3
  gi_wp2
  have hbl := hbp.lt
  refine wpIn_rangeFunc_ok rfl h1 (gf := 63) (lb := #[.pointer (some ⟨Bp, 0, none⟩)]) rfl trivial (enters_of Try.func63 (by kernel_rfl) rfl)
    (encs := fun x : ByteArray => #[.string x]) (Ok := fun _ _ => True) (Kp := fun X Y => OwnS w3.heap.size X (.slice q len c) (sortedE es) → OwnS w3.heap.size Y (.slice q len c) (sortedE es)) (S := fun ys => ys = sortedE es) (Sp := fun pre => pre <+: sortedE es) (N := len)
    (fun W' hsz hb => names1_iter (n - 1) (by omega) _ w3.heap.size Bp q len c (sortedE es) W' (boxed_below hbp hb) (hown.later hb)) (fun h k x => k (h x)) (fun A o o' ho hc h => OwnS.put h o' ho hc) (fun _ => rfl)
    (fun pre A => (Boxed A w.heap.size 4 (.bool false) ∧ Boxed A (w.heap.size + 1) 3 (.int .i64 (pre.length : Nat))) ∧ (Boxed A (w.heap.size + 1 + 1) 9 (.string (lastS pre)) ∧ adjB (pre.map bytesOf) = false) ∧ Below w.heap.size w4 A)
    (fun c pre A => (c = .exit 0 ∧ adjB (pre.map bytesOf) = true) ∧ Boxed A w.heap.size 4 (.bool true) ∧ Below w.heap.size w4 A)
    (fun s A A' row h hg hr => by
      obtain ⟨⟨a1, a2⟩, ⟨a3, a4⟩, a5⟩ := h
      exact ⟨⟨box_from a1 hg hr, box_from a2 hg hr⟩, ⟨box_from a3 hg hr, a4⟩, ownFrom_below (by omega) (by omega) s A A' row a5 hg hr⟩)
    (fun c s A A' row h hg hr => by
      obtain ⟨a1, a2, a3⟩ := h
      exact ⟨a1, box_from a2 hg hr, ownFrom_below (by omega) (by omega) s A A' row a3 hg hr⟩)
    (fun _ _ _ _ h _ _ => h)
    ⟨⟨r1, r2⟩, ⟨r3, rfl⟩, Below.refl _ _⟩
    (fun x => { tmps := #[.slice p len cap, undef, .bool false, .pointer (some ⟨w.heap.size, 0, none⟩), .pointer (some ⟨w.heap.size + 1, 0, none⟩), .pointer (some ⟨w.heap.size + 1 + 1, 0, none⟩), .string x, .slice p len cap, .func (.func 63) #[] #[.pointer (some ⟨Bp, 0, none⟩)], .string x, undef, undef, undef, undef, undef, undef, undef, undef, undef, undef, undef], defers := [] })
    ?assign ?body ?done ?stop
  case assign =>
    intro l x W K hK
    gi_wp2
    exact hK
  case body =>
    rintro li pre x A ⟨⟨b1, b2⟩, ⟨b3, hadj⟩, hB⟩ _ hNn
    have HA : Hid (adjB (pre.map bytesOf) = false) := hadj
    have HB : Hid (Below w.heap.size w4 A) := hB
    have H1 : Hid (Boxed A w.heap.size 4 (.bool false)) := b1
    have H2 : Hid (Boxed A (w.heap.size + 1) 3 (.int .i64 (pre.length : Nat))) := b2
    have H3 : Hid (Boxed A (w.heap.size + 1 + 1) 9 (.string (lastS pre))) := b3
    have c1 := b1.cell
    have c2 := b2.cell
    have c3 := b3.cell
    have f1 := b1.frozen
    have f2 := b2.frozen
    have f3 := b3.frozen
    clear b1 b2 b3 hB hadj
    by_cases h0 : pre = []
    · subst h0
      have HFin : Hid (KeepsFrom w4.heap.size A ((A.setCell ⟨w.heap.size + 1, 0, none⟩ (.int .i64 1)).setCell ⟨w.heap.size + 1 + 1, 0, none⟩ (.string x)) ∧ (OwnS w3.heap.size A (.slice q len c) (sortedE es) → OwnS w3.heap.size ((A.setCell ⟨w.heap.size + 1, 0, none⟩ (.int .i64 1)).setCell ⟨w.heap.size + 1 + 1, 0, none⟩ (.string x)) (.slice q len c) (sortedE es)) ∧
          (Boxed ((A.setCell ⟨w.heap.size + 1, 0, none⟩ (.int .i64 1)).setCell ⟨w.heap.size + 1 + 1, 0, none⟩ (.string x)) w.heap.size 4 (.bool false) ∧ Boxed ((A.setCell ⟨w.heap.size + 1, 0, none⟩ (.int .i64 1)).setCell ⟨w.heap.size + 1 + 1, 0, none⟩ (.string x)) (w.heap.size + 1) 3 (.int .i64 (([] ++ [x] : List ByteArray).length : Nat))) ∧
          (Boxed ((A.setCell ⟨w.heap.size + 1, 0, none⟩ (.int .i64 1)).setCell ⟨w.heap.size + 1 + 1, 0, none⟩ (.string x)) (w.heap.size + 1 + 1) 9 (.string (lastS ([] ++ [x]))) ∧ adjB (([] ++ [x] : List ByteArray).map bytesOf) = false) ∧ Below w.heap.size w4 ((A.setCell ⟨w.heap.size + 1, 0, none⟩ (.int .i64 1)).setCell ⟨w.heap.size + 1 + 1, 0, none⟩ (.string x))) := by
        refine ⟨((KeepsOthers.setCell A _ _).trans (KeepsOthers.setCell _ _ _)).from _, fun h => (h.setLow (by omega) _).setLow (by omega) _, ⟨(H1.out.other (by omega) _).other (by omega) _, (H2.out.set _).other (by omega) _⟩, ⟨(H3.out.other (by omega) _).set _, rfl⟩, (HB.out.setCell (p := ⟨w.heap.size + 1, 0, none⟩) (by show _ ≤ w.heap.size + 1; omega) _).setCell (p := ⟨w.heap.size + 1 + 1, 0, none⟩) (by show _ ≤ w.heap.size + 1 + 1; omega) _⟩
      simp only [List.length_nil] at c2
      clear H1 H2 H3
      gi_wp2
      exact HFin.out
    · have hp0 : (0 : Int) < (pre.length : Int) := by
        have := List.length_pos_iff.2 h0
        omega
      have HN : Hid (adjB ((pre ++ [x]).map bytesOf) = (x.toList == (lastS pre).toList)) := by show _ = _; rw [adj_next pre x h0, HA.out, Bool.false_or]
      generalize lastS pre = y at *
      have hpl : pre.length ≤ 1000000 := by omega
      rcases Bool.eq_false_or_eq_true (x.toList == y.toList) with e | e
      · have HFin : Hid (KeepsFrom w4.heap.size A (A.setCell ⟨w.heap.size, 0, none⟩ (.bool true)) ∧ (OwnS w3.heap.size A (.slice q len c) (sortedE es) → OwnS w3.heap.size (A.setCell ⟨w.heap.size, 0, none⟩ (.bool true)) (.slice q len c) (sortedE es)) ∧ adjB ((pre ++ [x]).map bytesOf) = true ∧ Boxed (A.setCell ⟨w.heap.size, 0, none⟩ (.bool true)) w.heap.size 4 (.bool true) ∧ Below w.heap.size w4 (A.setCell ⟨w.heap.size, 0, none⟩ (.bool true))) :=
          ⟨(KeepsOthers.setCell A _ _).from _, fun h => h.setLow (by omega) _, by rw [HN.out]; exact e, H1.out.set _, HB.out.setCell (p := ⟨w.heap.size, 0, none⟩) (Nat.le_refl _) _⟩
        clear H1 H2 H3
        gi_wp2
        exact ⟨HFin.out.1, HFin.out.2.1, ⟨rfl, HFin.out.2.2.1⟩, HFin.out.2.2.2⟩
      · have HFin : Hid (KeepsFrom w4.heap.size A ((A.setCell ⟨w.heap.size + 1, 0, none⟩ (.int .i64 ((pre.length : Int) + 1))).setCell ⟨w.heap.size + 1 + 1, 0, none⟩ (.string x)) ∧ (OwnS w3.heap.size A (.slice q len c) (sortedE es) → OwnS w3.heap.size ((A.setCell ⟨w.heap.size + 1, 0, none⟩ (.int .i64 ((pre.length : Int) + 1))).setCell ⟨w.heap.size + 1 + 1, 0, none⟩ (.string x)) (.slice q len c) (sortedE es)) ∧
            (Boxed ((A.setCell ⟨w.heap.size + 1, 0, none⟩ (.int .i64 ((pre.length : Int) + 1))).setCell ⟨w.heap.size + 1 + 1, 0, none⟩ (.string x)) w.heap.size 4 (.bool false) ∧ Boxed ((A.setCell ⟨w.heap.size + 1, 0, none⟩ (.int .i64 ((pre.length : Int) + 1))).setCell ⟨w.heap.size + 1 + 1, 0, none⟩ (.string x)) (w.heap.size + 1) 3 (.int .i64 ((pre ++ [x]).length : Nat))) ∧
            (Boxed ((A.setCell ⟨w.heap.size + 1, 0, none⟩ (.int .i64 ((pre.length : Int) + 1))).setCell ⟨w.heap.size + 1 + 1, 0, none⟩ (.string x)) (w.heap.size + 1 + 1) 9 (.string (lastS (pre ++ [x]))) ∧ adjB ((pre ++ [x]).map bytesOf) = false) ∧ Below w.heap.size w4 ((A.setCell ⟨w.heap.size + 1, 0, none⟩ (.int .i64 ((pre.length : Int) + 1))).setCell ⟨w.heap.size + 1 + 1, 0, none⟩ (.string x))) := by
          refine ⟨((KeepsOthers.setCell A _ _).trans (KeepsOthers.setCell _ _ _)).from _, fun h => (h.setLow (by omega) _).setLow (by omega) _, ⟨(H1.out.other (by omega) _).other (by omega) _, ?_⟩, ⟨?_, by rw [HN.out]; exact e⟩, (HB.out.setCell (p := ⟨w.heap.size + 1, 0, none⟩) (by show _ ≤ w.heap.size + 1; omega) _).setCell (p := ⟨w.heap.size + 1 + 1, 0, none⟩) (by show _ ≤ w.heap.size + 1 + 1; omega) _⟩
          · rw [show (((pre ++ [x]).length : Nat) : Int) = (pre.length : Int) + 1 by simp]
            exact (H2.out.set _).other (by omega) _
          · rw [show lastS (pre ++ [x]) = x by simp [lastS]]
            exact (H3.out.other (by omega) _).set _
        clear H1 H2 H3
        gi_wp2
        exact HFin.out
  case done =>
    rintro D ys A hD rfl ⟨⟨b1, b2⟩, ⟨b3, hadj⟩, hB⟩ hK
    have c1 := b1.cell
    gi_wp2
    refine ⟨by simp, .inl ⟨_, _, rfl, run_takeDeferred hK, ?_⟩⟩
    rw [← adjB_dup, hadj]
    exact ⟨_, results_tmp rfl _ _ _, rfl, (hbw4.trans hB).trans (below_putObj _ _ (by omega))⟩
  case stop =>
    rintro D c pre A hD hsp ⟨⟨rfl, hadj⟩, b1, hB⟩ hK
    have c1 := b1.cell
    obtain ⟨r, hr⟩ := hsp
    have hdup : dupB es = true := by rw [← adjB_dup, ← hr, List.map_append]; exact adjB_prefix _ _ hadj
    gi_wp2
    refine ⟨by simp, .inl ⟨_, _, rfl, run_takeDeferred hK, ?_⟩⟩
    rw [hdup]
    exact ⟨_, results_tmp rfl _ _ _, rfl, (hbw4.trans hB).trans (below_putObj _ _ (by omega))⟩
end Go.Proofs.Ytlmfdifnkkdpfaa
