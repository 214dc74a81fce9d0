/-
  dir.Of: the entries that some bytes are.
-/
import Derived.Test.YtlmfdifnkkdpfaaSameD
import Derived.Test.YtlmfdifnkkdpfaaRdE
namespace Go.Proofs.Ytlmfdifnkkdpfaa
open Go.RowKit

theorem putAt_get (c vs : List Value) (o j : Nat) (h : o + vs.length ≤ c.length) : (putAt c o vs)[j]? = if o ≤ j ∧ j < o + vs.length then vs[j - o]? else c[j]? := by
  rw [putAt_eq vs c o h]
  by_cases h1 : j < o
  · rw [if_neg (by omega), List.append_assoc, List.getElem?_append_left (by simp; omega), List.getElem?_take, if_pos h1]
  · by_cases h2 : j < o + vs.length
    · rw [if_pos ⟨by omega, h2⟩, List.append_assoc, List.getElem?_append_right (by simp; omega), List.length_take, Nat.min_eq_left (by omega), List.getElem?_append_left (by omega)]
    · rw [if_neg (by omega), List.getElem?_append_right (by simp; omega), List.getElem?_drop]
      congr 1
      simp
      omega
/-- Block g holds n entries, just these. -/
structure EsAt (W : World) (g n : Nat) (es : List Ent) : Prop where
  row : ∃ cur, Row W g 43 cur ∧ cur.length = n * 100
  len : es.length = n
  ok : ∀ e ∈ es, e.ok
  at' : ∀ i, i < n → W.rangeAt g (0 + i * 100) (entC (es.getD i noEnt))
theorem EsAt.later {A B : World} (hb : Below A.heap.size A B) {g n : Nat} {es : List Ent} (h : EsAt A g n es) : EsAt B g n es := by
  obtain ⟨⟨cur, hr, hl⟩, h2, h3, h4⟩ := h
  exact ⟨⟨cur, hr.later hb, hl⟩, h2, h3, fun i hi => rangeAt_below hb hr.lt (h4 i hi)⟩
theorem EsAt.but {A A' : World} {B g n : Nat} {es : List Ent} (h : EsAt A g n es) (hb : But B A.heap.size A A') (hB : g ≠ B) : EsAt A' g n es := by
  obtain ⟨⟨cur, hr, hl⟩, h2, h3, h4⟩ := h
  have hr' := hb.row hr.lt hB hr
  refine ⟨⟨cur, hr', hl⟩, h2, h3, fun i hi j v hv => ?_⟩
  have h5 := h4 i hi j v hv
  rw [cell_of_row A g _ _ 43 (0, 0) hr] at h5
  rw [cell_of_row A' g _ _ 43 (0, 0) hr']
  exact h5
theorem EsAt.ents {W : World} {g n : Nat} {es : List Ent} (h : EsAt W g n es) (hn : n ≤ 1000000) : IsEnts W.heap.size W (some ⟨g, 0, none⟩) n n es := by
  obtain ⟨⟨cur, hr, hl⟩, h2, h3, h4⟩ := h
  exact ⟨h2, Nat.le_refl _, by omega, h3, .inr ⟨g, 0, rfl, hr.lt, h4⟩⟩
theorem EsAt.there {W : World} {g n : Nat} {es : List Ent} (h : EsAt W g n es) {k : Nat} (hk : k < n) : W.there g (0 + k * 100) 100 := by
  obtain ⟨⟨cur, hr, hl⟩, h2, h3, h4⟩ := h
  intro j hj
  have hlt : 0 + k * 100 + j < cur.length := by omega
  exact ⟨by rw [hr.cell (List.getElem?_eq_getElem hlt)]; rfl, hr.frozen _⟩
theorem EsAt.set {W : World} {g n : Nat} {es : List Ent} (h : EsAt W g n es) {k : Nat} (hk : k < n) (x : Ent) (hx : x.ok) : EsAt (W.setCells g (0 + k * 100) (entC x)) g n (es.set k x) := by
  obtain ⟨⟨cur, hr, hl⟩, h2, h3, h4⟩ := h
  have hxl := entC_length hx
  have hr' := Row.sets (entC x) (0 + k * 100) hr
  have hfit : 0 + k * 100 + (entC x).length ≤ cur.length := by omega
  refine ⟨⟨_, hr', by rw [putAt_eq _ _ _ hfit]; simp; omega⟩, by simp [h2], fun e he => ?_, fun i hi j v hv => ?_⟩
  · rcases List.mem_or_eq_of_mem_set he with h | rfl
    · exact h3 e h
    · exact hx
  · have hj : j < 100 := by
      have h5 : (entC ((es.set k x).getD i noEnt)).length = 100 := by
        apply entC_length
        by_cases hik : i = k
        · subst hik; simp [h2, hi]; exact hx
        · rw [List.getD_eq_getElem?_getD, List.getElem?_set_ne (by omega), ← List.getD_eq_getElem?_getD]; exact h3 _ (ent_mem (by omega))
      rcases Nat.lt_or_ge j 100 with h | h
      · exact h
      · rw [List.getElem?_eq_none (by omega)] at hv; cases hv
    apply hr'.cell
    rw [putAt_get _ _ _ _ hfit, hxl]
    by_cases hik : i = k
    · subst hik
      rw [if_pos (by omega), show 0 + i * 100 + j - (0 + i * 100) = j by omega]
      have e : (es.set i x).getD i noEnt = x := by simp [h2, hi]
      rw [e] at hv
      exact hv
    · rw [if_neg (by omega)]
      have e : (es.set k x).getD i noEnt = es.getD i noEnt := by rw [List.getD_eq_getElem?_getD, List.getElem?_set_ne (by omega), ← List.getD_eq_getElem?_getD]
      rw [e] at hv
      have h5 := h4 i hi j v hv
      rw [cell_of_row W g _ _ 43 (0, 0) hr] at h5
      simpa using h5
theorem EsAt.there2 {W : World} {g n : Nat} {es : List Ent} (h : EsAt W g n es) {k : Nat} (hk : k < n) : W.there g (k * 100) 100 := by
  have := h.there hk
  rwa [Nat.zero_add] at this
theorem EsAt.set2 {W : World} {g n : Nat} {es : List Ent} (h : EsAt W g n es) {k : Nat} (hk : k < n) (x : Ent) (hx : x.ok) : EsAt (W.setCells g (k * 100) (entC x)) g n (es.set k x) := by
  have := h.set hk x hx
  rwa [Nat.zero_add] at this
/-- Entries so far, and noughts. -/
def fillE (n : Nat) (es : List Ent) : List Ent := es ++ List.replicate (n - es.length) noEnt
theorem fillE_set {n : Nat} {es : List Ent} (h : es.length < n) (x : Ent) : (fillE n es).set es.length x = fillE n (es ++ [x]) := by
  simp only [fillE, List.set_append, Nat.lt_irrefl, if_false, Nat.sub_self, List.append_assoc, List.length_append, List.length_singleton]
  rw [show n - es.length = (n - (es.length + 1)) + 1 by omega, List.replicate_succ]
  simp
theorem zero_cells : Try.zeroCells43.toList = entC noEnt := by kernel_rfl
theorem made_row {W : World} {n₀ g n : Nat} (h : W.ownsRow n₀ 43 100 (.slice (some ⟨g, 0, none⟩) n n) n (madeCells (Value.agg Try.zeroCells43).cells (n * 100)).toList) : EsAt W g n (fillE n []) := by
  rcases h.2 with ⟨h', _⟩ | ⟨g', cap', cur, h', _, hg, _, _, hcs, htake⟩
  · simp at h'
  · simp only [Value.slice.injEq, Option.some.injEq, Addr.mk.injEq, and_true, true_and] at h'
    obtain ⟨rfl, rfl⟩ := h'
    have hc : cur.toList = (madeCells (Value.agg Try.zeroCells43).cells (n * 100)).toList := by rw [← htake, List.take_of_length_le (by simp; omega)]
    have hr : Row W g 43 cur.toList := by unfold Row; rw [Array.toArray_toList]; exact hg
    have hel : ∀ i, (fillE n []).getD i noEnt = noEnt := fun i => by
      simp only [fillE, List.nil_append, List.getD_eq_getElem?_getD, List.getElem?_replicate]
      split <;> rfl
    refine ⟨⟨_, hr, by simp; omega⟩, by simp [fillE], fun e he => ?_, fun i hi j v hv => ?_⟩
    · simp only [fillE, List.nil_append] at he
      rw [List.eq_of_mem_replicate he]; exact noEnt_ok
    · rw [hel] at hv
      have hj : j < 100 := by
        rcases Nat.lt_or_ge j 100 with h | h
        · exact h
        · rw [List.getElem?_eq_none (by rw [entC_length noEnt_ok]; exact h)] at hv; cases hv
      apply hr.cell
      rw [hc]
      have hzs : Try.zeroCells43.size = 100 := by simp
      have hm : 0 + i * 100 + j < n * 100 := by omega
      rw [← zero_cells] at hv
      simp only [madeCells, Value.cells, Array.toList_map, List.getElem?_map, Array.toList_range]
      rw [List.getElem?_range hm]
      simp only [Option.map_some, hzs]
      rw [show (0 + i * 100 + j) % 100 = j by omega, getElem!_pos Try.zeroCells43 j (by omega)]
      rw [Array.getElem?_toList, Array.getElem?_eq_getElem (by omega)] at hv
      exact hv

theorem noE (W : World) : IsEnts W.heap.size W none 0 0 [] := ⟨rfl, Nat.le_refl _, by omega, (fun _ h => by cases h), .inl rfl⟩

set_option maxRecDepth 100000 in
set_option maxHeartbeats 2000000 in
/-- dir.Of -/
theorem of_any (p : Option Addr) (len cap : Nat) (zs : List Nat) (w : World) (hI : IsBytes w.heap.size w p len cap zs) (hlen : len ≤ 60000) :
    Calls Try.prog 14 #[.slice p len cap] w fun e w' => ∃ q l c, e = .returned (.tuple #[.slice q l c, .int .i64 (if isDir zs then 0 else 110)]) ∧ IsEnts w'.heap.size w' q l c (if isDir zs then dirL zs else []) ∧ Below w.heap.size w w' := by
  have HI : Hid (IsBytes w.heap.size w p len cap zs) := hI
  have HZ : Hid (∀ z ∈ zs, z < 256) := hI.2.2.2.1
  have hn5 := nK_le zs
  have HRead := read_any p len cap zs hlen w hI
  have HN : Hid (∀ B W, RdAt W B (some zs) → Calls Try.prog 42 #[.pointer (some ⟨B, 0, none⟩), .int .u64 ((500 : Nat) : Int)] W fun e w' => e = .returned (.int .u64 (nK zs : Nat)) ∧ RdAt w' B (sK zs) ∧ But B W.heap.size W w') := fun B W h => readerN_any B (some zs) 500 (by omega) W h
  obtain ⟨i0, hi0, hz0, hz1, hz2⟩ := info_parts info43
  obtain ⟨n, hn⟩ : ∃ n, nK zs = n := ⟨_, rfl⟩
  rw [hn] at HN hn5
  have HNn : Hid (nK zs = n) := hn
  have hu : (n : Int) % 18446744073709551616 = (n : Int) := by omega
  clear hI hn
  go_enter Try.func14, Try.ntmps14
  go_wp2_with (first
    | (go_at_call 41; refine HRead.mono ?_; rintro e w1 ⟨B, rfl, hB1, hR1, hb1⟩; have HR1 : Hid (RdAt w1 B (some zs)) := hR1; have hBl1 := hR1.lt; clear hR1)
    | (go_at_call 42; refine (HN.out B w1 HR1.out).mono ?_; rintro e w2 ⟨rfl, hR2, hbu2⟩; have HR2 : Hid (RdAt w2 B (sK zs)) := hR2; have hb2 : Below w.heap.size w w2 := hb1.trans (hbu2.below hb1.size hB1); have hBl2 := hR2.lt; clear hR2 hbu2 HR1)
    | (at_make; refine wpList_make_full _ rfl _ _ 22 rfl w2.heap.size 43 i0 _ 100 Try.underlying22 hi0 hz0 hz1 _ _ _ _ n rfl rfl (by omega) (by omega) (by rw [hz2]; omega) (by simp only [maxLen]; omega) (Nat.le_refl _) ?_; intro w3 hown3 hgrow3; have HE3 : Hid (EsAt w3 w2.heap.size n (fillE n [])) := made_row hown3; have hb3 : Below w2.heap.size w2 w3 := ((Below.refl _ w2).grown hgrow3 (Nat.le_refl _) (fun k e => by cases e)); clear hown3 hgrow3))
  have hs3 := hb3.size
  have hs2 := hb2.size
  have hgl := (HE3.out.row).choose_spec.1.lt
  have HR3 : Hid (RdAt w3 B (sK zs)) := HR2.out.later hb3
  have hb3' : Below w.heap.size w w3 := hb2.trans (hb3.mono hs2)
  obtain ⟨g, hg⟩ : ∃ g, w2.heap.size = g := ⟨_, rfl⟩
  rw [hg] at HE3 hBl2 hgl hs2 ⊢
  have hAh : Ahead (sK zs) := sK_ahead HZ.out
  have HAh : Hid (Ahead (sK zs)) := hAh
  clear hg hb3 HR2 hb2 hb1 hBl1 hAh HN HRead hs3
  obtain ⟨S0, hS0⟩ : ∃ S0, sK zs = S0 := ⟨_, rfl⟩
  rw [hS0] at HR3 HAh
  have HS0 : Hid (sK zs = S0) := hS0
  clear hS0
  go_loopw [14] (fun i wr => ∃ (k : Nat), k ≤ n ∧ i = .int .i64 k ∧ RdAt wr B (stK k S0) ∧ EsAt wr g n (fillE n (esK k S0)) ∧ Below w.heap.size w wr) (fun i _ => n - (intOf i).toNat)
  case atStart => exact ⟨0, Nat.zero_le _, rfl, HR3.out, by simpa [esK] using HE3.out, hb3'⟩
  case round =>
    clear HR3 HE3 hb3' hgl
    obtain ⟨k, hk, rfl, hR, hE, hbel⟩ := hrel
    have HR : Hid (RdAt wr B (stK k S0)) := hR
    have HE : Hid (EsAt wr g n (fillE n (esK k S0))) := hE
    have hgl := hE.row.choose_spec.1.lt
    clear hR hE
    by_cases hlt : k < n
    · have hki : (k : Int) < (n : Int) := by omega
      have HNx := nextEntry_any B (stK k S0) wr HR.out (stK_ahead HAh.out k)
      have hok := rdE_ok (stK_ahead HAh.out k)
      have HOk : Hid (rdE (stK k S0)).ok := hok
      have HSet : Hid ((fillE n (esK k S0)).set k (rdE (stK k S0)) = fillE n (esK (k + 1) S0)) := by
        show _ = _
        have := fillE_set (n := n) (es := esK k S0) (by rw [esK_length]; exact hlt) (rdE (stK k S0))
        rw [esK_length] at this
        rw [this, esK_succ]
      clear hok
      generalize rdE (stK k S0) = x at *
      go_wp2_with (first
        | (go_at_call 43; refine HNx.mono ?_; rintro e w5 ⟨rfl, hR5, hbu5⟩; have HE5 : Hid (EsAt w5 g n (fillE n (esK k S0))) := HE.out.but hbu5 (by omega); have HR5 : Hid (RdAt w5 B (e7 (stK k S0))) := hR5; have hb5 : Below w.heap.size w w5 := hbel.trans (hbu5.below hbel.size hB1); clear hR5)
        | ((with_reducible show wpList _ _ _ (Oper.mk _ (Op.store 43 (.tmp 21) (.tmp 20)) _ _ _ _ :: _) _ _); refine wpList_store_mid rfl 43 (.tmp 21) (.tmp 20) rfl g (k * 100) (entC x).toArray rfl rfl (by simpa [entC_length HOk.out] using HE5.out.there2 hlt) (by simpa using size43' HOk.out) (all_oneCell_toArray (entC_one x)) ?_; simp only [Act.put]))
      have hbs : But g w5.heap.size w5 (w5.setCells g (k * 100) (entC x)) := But.sets _ _ _
      have hE6 := HE5.out.set2 hlt x HOk.out
      rw [HSet.out] at hE6
      have hR6 : RdAt (w5.setCells g (k * 100) (entC x)) B (e7 (stK k S0)) := HR5.out.but hbs (by omega)
      have hb6 : Below w.heap.size w (w5.setCells g (k * 100) (entC x)) := below_setCells hs2 _ _ hb5
      go_roundw
      case rel => exact ⟨k + 1, by omega, by go_num, hR6, hE6, hb6⟩
      case measure => simp [intOf]; omega
    · obtain rfl : k = n := by omega
      have HF : Hid (fillE k (esK k S0) = dirL zs) := by
        show _ = _
        rw [fillE, esK_length, Nat.sub_self, dirL, HNn.out, HS0.out]; simp
      have hE := HE.out
      rw [HF.out] at hE
      have HE2 : Hid (EsAt wr g k (dirL zs)) := hE
      have HD : Hid (isDir zs = (decide (endE (stK k S0) = 0) && goodE (dirL zs))) := by show _ = _; rw [isDir, HNn.out, HS0.out]
      have HNm : Hid (∀ e ∈ dirL zs, e.name.size ≤ 1000000) := fun e he => by
        have := (esK_ok (sK_ahead HZ.out) (nK zs) e he).2; omega
      have HEnd := end_any B (stK k S0) wr HR.out
      clear hE HE HR
      generalize endE (stK k S0) = en at *
      by_cases h0 : en = 0
      · subst h0
        have HG := dgood_any (some ⟨g, 0, none⟩) k k (dirL zs) wr (HE2.out.ents (by omega)) HNm.out
        cases hgo : goodE (dirL zs) with
        | true =>
          rw [hgo] at HG HD
          have hd := HD.out
          simp only [decide_true, Bool.and_true] at hd
          go_wp2_with (first
            | (go_at_call 44; refine HEnd.mono ?_; rintro e w7 ⟨rfl, hw7⟩; obtain rfl : wr = w7 := hw7.symm; clear hw7)
            | (go_at_call 12; refine HG.mono ?_; rintro e w8 ⟨rfl, hb8⟩))
          all_goals refine bodyPost_ret (results_tmp2 rfl _ _ _) rfl ?_
          all_goals exact ⟨_, _, _, rfl, (HE2.out.later hb8).ents (by omega), hbel.trans (hb8.mono hbel.size)⟩
        | false =>
          rw [hgo] at HG HD
          have hd := HD.out
          simp only [decide_true, Bool.and_false] at hd
          go_wp2_with (first
            | (go_at_call 44; refine HEnd.mono ?_; rintro e w7 ⟨rfl, hw7⟩; obtain rfl : wr = w7 := hw7.symm; clear hw7)
            | (go_at_call 12; refine HG.mono ?_; rintro e w8 ⟨rfl, hb8⟩))
          all_goals refine bodyPost_ret (results_tmp2 rfl _ _ _) rfl ?_
          all_goals exact ⟨_, _, _, rfl, noE _, hbel.trans (hb8.mono hbel.size)⟩
      · have hb0 : (en != 0) = true := by simpa using h0
        have hd : isDir zs = false := by rw [HD.out, decide_eq_false h0]; rfl
        go_wp2_with (first
          | (go_at_call 44; refine HEnd.mono ?_; rintro e w7 ⟨rfl, hw7⟩; obtain rfl : wr = w7 := hw7.symm; clear hw7))
        all_goals refine bodyPost_ret (results_tmp2 rfl _ _ _) rfl ?_
        all_goals exact ⟨_, _, _, rfl, noE _, hbel⟩
end Go.Proofs.Ytlmfdifnkkdpfaa
