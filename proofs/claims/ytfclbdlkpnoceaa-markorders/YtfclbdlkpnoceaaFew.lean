/-
  Few; what Sweep's answer holds, on lists.
-/
import Derived.Test.YtfclbdlkpnoceaaAw
namespace Go.Proofs.Ytfclbdlkpnoceaa
open Go.RowKit Go.Shelf Go.Maps
attribute [local go_sem] Oper.semAt_some

set_option maxRecDepth 100000 in
set_option maxHeartbeats 1000000 in
theorem few_any (p : Option Addr) (len cap : Nat) (l : List O) (w : World) (hI : IsObjs w.heap.size w p len cap l) :
    Calls Try.prog 8 #[.slice p len cap] w fun e w' => ∃ b, e = .returned (.bool b) ∧ (b = true → (∀ o ∈ l, o.links.length ≤ 20) ∧ len ≤ 30) ∧ Below w.heap.size w w' := by
  have HI : Hid (IsObjs w.heap.size w p len cap l) := hI
  have hll := hI.1
  have hlc := hI.2.1
  have hcc := hI.2.2.1
  clear hI
  go_enter Try.func8, Try.ntmps8
  go_wp2
  go_loopw [7] (fun i wr => ∃ (k : Nat), k ≤ len ∧ i = .int .i64 k ∧ (∀ o ∈ l.take k, o.links.length ≤ 20) ∧ Below w.heap.size w wr) (fun i _ => len - (intOf i).toNat)
  case atStart => exact ⟨0, Nat.zero_le _, rfl, by simp, Below.refl _ _⟩
  case round =>
    obtain ⟨k, hk, rfl, hall, hb⟩ := hrel
    by_cases hlt : k < len
    · have hki : (k : Int) < (len : Int) := by omega
      obtain ⟨b, off, rfl, hbb, hr, hok, hmem⟩ := (HI.out.below hb).at hlt
      have HR : Hid (wr.rangeAt b (off + k * 34) (objC (l.getD k noO))) := hr
      have HT : Hid (l.take (k + 1) = l.take k ++ [l.getD k noO]) := obj_take l (by omega)
      have HLn : Hid ((l.getD k noO).links.length = (l.getD k noO).n) := (HI.out.2.2.2.2.1 _ hmem).1
      have hsz := hb.size
      clear hr hmem
      generalize l.getD k noO = x at *
      have HB := (show Hid (Below _ _ _) from hb)
      clear hb
      by_cases hx : 20 < x.n
      · have hxi : (20 : Int) < (x.n : Int) := by omega
        go_wp2_with (first
          | ((with_reducible show wpList _ _ _ (Oper.mk _ (Op.load 46 (.tmp 9)) _ _ _ _ :: _) _ _); refine wpList_loadObj rfl (.tmp 9) rfl rfl hok HR.out ?_; simp only [Act.put, List.setIfInBounds_toArray, List.set_cons_zero, List.set_cons_succ])
          | ((with_reducible show wpList _ _ _ (Oper.mk _ (Op.store 46 (.tmp 4) (.tmp 10)) _ _ _ _ :: _) _ _); rw [zO]; refine wpList_storeObj rfl (.tmp 4) (.tmp 10) rfl x hok rfl rfl (fun Y2 hb2 hE2 => ?_); have hcl := hE2.links; clear hE2; simp only [Act.put]))
        go_ret
        exact ⟨_, rfl, (fun h => by cases h), HB.out.trans (hb2.mono hsz)⟩
      · have hxi : ¬ (20 : Int) < (x.n : Int) := by omega
        go_wp2_with (first
          | ((with_reducible show wpList _ _ _ (Oper.mk _ (Op.load 46 (.tmp 9)) _ _ _ _ :: _) _ _); refine wpList_loadObj rfl (.tmp 9) rfl rfl hok HR.out ?_; simp only [Act.put, List.setIfInBounds_toArray, List.set_cons_zero, List.set_cons_succ])
          | ((with_reducible show wpList _ _ _ (Oper.mk _ (Op.store 46 (.tmp 4) (.tmp 10)) _ _ _ _ :: _) _ _); rw [zO]; refine wpList_storeObj rfl (.tmp 4) (.tmp 10) rfl x hok rfl rfl (fun Y2 hb2 hE2 => ?_); have hcl := hE2.links; clear hE2; simp only [Act.put]))
        go_roundw
        case rel =>
          refine ⟨k + 1, by omega, by go_num, fun o ho => ?_, HB.out.trans (hb2.mono hsz)⟩
          rw [HT.out] at ho
          rcases List.mem_append.1 ho with h | h
          · exact hall o h
          · simp at h; subst h; have := HLn.out; omega
        case measure => simp [intOf]; omega
    · obtain rfl : k = len := by omega
      rw [List.take_of_length_le (by omega)] at hall
      go_wp2
      go_ret
      exact ⟨_, rfl, fun h => ⟨hall, by have := of_decide_eq_true h; omega⟩, hb⟩

/-- What goes is no root. -/
theorem gone_root {l : List O} {roots : List (List Nat)} {g r : List Nat} (hg : g ∈ linksL (goneL l roots)) (hr : r ∈ roots) : g ≠ r := by
  rintro rfl
  rw [linksL_mem] at hg
  obtain ⟨o, ho, rfl⟩ := List.mem_map.1 hg
  obtain ⟨h1, h2⟩ := List.mem_filter.1 ho
  have := reach_roots hr (hasO_iff.2 ⟨o, h1, rfl⟩)
  simp [this] at h2
theorem find_filter (P : O → Bool) (x : List Nat) : ∀ (l : List O), (∀ o ∈ l, o.id = x → P o = true) → firstO (l.filter P) x = firstO l x
  | [], _ => rfl
  | o :: r, h => by
    have ih := find_filter P x r (fun o' ho' => h o' (by simp [ho']))
    unfold firstO at ih ⊢
    by_cases hx : o.id = x
    · rw [List.filter_cons_of_pos (h o (by simp) hx), List.find?_cons_of_pos (by simpa using hx), List.find?_cons_of_pos (by simpa using hx)]
    · rw [List.find?_cons_of_neg (by simpa using hx)]
      by_cases hp : P o = true
      · rw [List.filter_cons_of_pos hp, List.find?_cons_of_neg (by simpa using hx)]; exact ih
      · rw [List.filter_cons_of_neg hp]; exact ih
/-- What the first object of an id that is kept links to does not go. -/
theorem kept_link {l : List O} {roots : List (List Nat)} {ks : List O} (hk : ks.map O.key = (keptL l roots).map O.key) {i : Nat} (hi : i < ks.length) (hf : ∀ p ∈ ks.take i, p.id ≠ (ks.getD i noO).id) {x g : List Nat} (hx : x ∈ (ks.getD i noO).links) (hg : g ∈ linksL (goneL l roots)) : x ≠ g := by
  rintro rfl
  have hlen : ks.length = (keptL l roots).length := by simpa using congrArg List.length hk
  have hi' : i < (keptL l roots).length := by omega
  have hkey : ∀ j (h1 : j < ks.length) (h2 : j < (keptL l roots).length), ks[j].key = (keptL l roots)[j].key := fun j h1 h2 => by
    have := congrArg (fun z => z[j]?) hk
    simpa [List.getElem?_eq_getElem h1, List.getElem?_eq_getElem h2] using this
  have hki : ks.getD i noO = ks[i] := by rw [List.getD_eq_getElem?_getD, List.getElem?_eq_getElem hi, Option.getD_some]
  rw [hki] at hf hx
  have e := hkey i hi hi'
  have eid : ks[i].id = (keptL l roots)[i].id := congrArg (·.1) e
  have elk : ks[i].links = (keptL l roots)[i].links := congrArg (fun z => z.2.1) e
  have hmem : (keptL l roots)[i] ∈ keptL l roots := List.getElem_mem hi'
  obtain ⟨hml, hmr⟩ := List.mem_filter.1 hmem
  have hmr : (keptL l roots)[i].id ∈ reachL l roots := by simpa using hmr
  have hfirst : firstO (keptL l roots) (keptL l roots)[i].id = some (keptL l roots)[i] := by
    unfold firstO
    rw [List.find?_eq_some_iff_getElem]
    refine ⟨by simp, i, hi', rfl, fun j hj => ?_⟩
    have hj1 : j < ks.length := by omega
    have e2 : ks[j].id = (keptL l roots)[j].id := congrArg (·.1) (hkey j hj1 (by omega))
    have := hf ks[j] (by rw [List.mem_take_iff_getElem]; exact ⟨j, by omega, rfl⟩)
    rw [e2, eid] at this
    simpa using this
  have hl : linksO l (keptL l roots)[i].id = (keptL l roots)[i].links := by
    have := find_filter (fun o => decide (o.id ∈ reachL l roots)) (keptL l roots)[i].id l (fun o _ ho => by rw [ho]; simpa using hmr)
    unfold linksO
    rw [← this]
    have h5 : firstO (l.filter fun o => decide (o.id ∈ reachL l roots)) (keptL l roots)[i].id = some (keptL l roots)[i] := hfirst
    rw [h5]
    rfl
  rw [elk] at hx
  rw [linksL_mem] at hg
  obtain ⟨o, ho, rfl⟩ := List.mem_map.1 hg
  obtain ⟨h1, h2⟩ := List.mem_filter.1 ho
  have := reach_links hmr (by rw [hl]; exact hx) (hasO_iff.2 ⟨o, h1, rfl⟩)
  simp [this] at h2
theorem rising_nodup {l : List (List Nat)} (h : Rising l) : l.Nodup := h.imp fun {a b} hab e => by
  subst e
  rw [ltB_irrefl] at hab
  cases hab
/-- All are kept, or go. -/
theorem kept_gone (l : List O) (roots : List (List Nat)) : (l.filter fun o => decide (o.id ∈ linksL (goneL l roots))).length + (keptL l roots).length = l.length := by
  have h : (l.filter fun o => decide (o.id ∈ linksL (goneL l roots))) = l.filter fun o => ! decide (o.id ∈ reachL l roots) := by
    refine List.filter_congr fun o ho => ?_
    rw [Bool.eq_iff_iff]
    simp only [decide_eq_true_eq, Bool.not_eq_true', decide_eq_false_iff_not, linksL_mem]
    constructor
    · intro h
      obtain ⟨o', ho', e⟩ := List.mem_map.1 h
      have := (List.mem_filter.1 ho').2
      rw [e] at this
      simpa using this
    · intro h
      exact List.mem_map.2 ⟨o, List.mem_filter.2 ⟨ho, by simpa using h⟩, rfl⟩
  rw [h]
  unfold keptL
  have key : ∀ (P : O → Bool) (m : List O), (m.filter fun o => ! P o).length + (m.filter P).length = m.length := fun P m => by
    induction m with
    | nil => rfl
    | cons o r ih =>
      cases hp : P o
      · rw [List.filter_cons_of_pos (by simp [hp]), List.filter_cons_of_neg (by simp [hp]), List.length_cons, List.length_cons]; omega
      · rw [List.filter_cons_of_neg (by simp [hp]), List.filter_cons_of_pos (by simp [hp]), List.length_cons, List.length_cons]; omega
  exact key _ l
end Go.Proofs.Ytfclbdlkpnoceaa
