/-
  What Digest of an ideal suite answers, the program's and the reference's alike.
-/
import Derived.Test.YtbaokodhoiledaaDoorIdsH
import Derived.Test.YtbaokodhoiledaaDoorRDig4
namespace Go.Proofs.YtbaokodhoiledaaDoor
open Classical
open Go.RowKit Go.Shelf

/-- The draws and the text that is known, behind an answer. -/
def nextZ (x : Int) (zs : List Nat) : List Nat := if x = 0 then zs.drop 32 else zs
def nextE (x : Int) (X d : List Nat) : Ent := if x = 0 then some (X, d) else none

def MyC (zs : List Nat) (ent : Ent) (X d : List Nat) (x : Int) : Prop := ∀ Q T n W pp ll cc, n + 8 ≤ W.heap.size → IdealSt W Q T n zs ent → IsBytes W.heap.size W pp ll cc X → Calls Tryd.prog 14 #[.pointer (some ⟨n + 7, 0, none⟩), .slice pp ll cc] W fun e w' => e = .returned (.tuple #[.agg (u8s d).toArray, .int .i64 x]) ∧ (ent = none → IdealSt w' Q T n (nextZ x zs) (nextE x X d)) ∧ Buts (idF T n) W.heap.size W w'
def RefC (zs : List Nat) (ent : Ent) (X d : List Nat) (x : Int) : Prop := ∀ R es q ql qc rq rc W pp ll cc, RefSt W R 1 zs es q ql qc rq rc (.slice none 0 0) (.slice none 0 0) → RowsOf ent es → Own (R + 1) W (.slice pp ll cc) X → Calls Tryd.prog 16 #[.pointer (some ⟨R, 0, none⟩), .slice pp ll cc] W fun e w' => e = .returned (.tuple #[.agg (u8s d).toArray, .int .i64 x]) ∧ (ent = none → ∃ es' q' ql' qc' rq' rc', RefSt w' R 1 (nextZ x zs) es' q' ql' qc' rq' rc' (.slice none 0 0) (.slice none 0 0) ∧ RowsOf (nextE x X d) es') ∧ RFr R W w'

theorem rows_at {ent : Ent} {es : List REnt} (h : RowsOf ent es) {x : REnt} (hx : x ∈ es) : ent = some (x.L, x.d) := by
  have : (x.L, x.d) ∈ ent.toList := by rw [← h]; exact List.mem_map.2 ⟨x, hx, rfl⟩
  cases ent with
  | none => simp at this
  | some p => simp at this; rw [this]
theorem entI_none {ent : Ent} (he : ent.ok) {X : List Nat} (hX : ∀ z ∈ X, z < 256) (h : ∀ d, ent ≠ some (X, d)) : entI ent (.string (strOf X)) = none := by
  cases ent with
  | none => rfl
  | some p =>
    obtain ⟨L0, d0⟩ := p
    rw [entI_some, fnPut_other]
    intro e
    have e2 : strOf X = strOf L0 := by injection e
    have := strOf_inj hX (he L0 d0 rfl).2 e2
    subst this
    exact h d0 rfl

theorem ideal_pair (zs : List Nat) (hz : ∀ z ∈ zs, z < 256) (hzl : zs.length ≤ 300) (ent : Ent) (he : ent.ok) (X : List Nat) (hX : ∀ z ∈ X, z < 256) (hXl : X.length ≤ 40000) :
    ∃ d x, IsKey32 d ∧ (¬ x = 0 → d = List.replicate 32 0) ∧ MyC zs ent X d x ∧ RefC zs ent X d x := by
  by_cases hA : ∃ d, ent = some (X, d)
  · obtain ⟨d, rfl⟩ := hA
    have hd := (he X d rfl).1
    refine ⟨d, 0, hd, fun h => absurd rfl h, fun Q T n W pp ll cc hn hst hI => ?_, fun R es q ql qc rq rc W pp ll cc hst hro hO => ?_⟩
    · refine (digest_old Q T n zs pp ll cc X d hd (by omega) W hn hst hI).mono ?_
      rintro e w' ⟨rfl, h2⟩
      exact ⟨rfl, fun h => (by cases h), h2⟩
    · have hl := rowsOf_len hro
      obtain ⟨x0, hx0⟩ : ∃ x, x ∈ es := by
        cases es with
        | nil => simp [RowsOf] at hro
        | cons x r => exact ⟨x, by simp⟩
      have hx0' := rows_at hro hx0
      simp only [Option.some.injEq, Prod.mk.injEq] at hx0'
      refine (refDig_ideal R zs zs es q ql qc rq rc pp ll cc X d hd hX (by omega) (fun es' => es' = es) W hst hO (fun W1 hW1 => ?_)).mono ?_
      · refine (ideal_old R 1 zs es q ql qc rq rc _ _ (by omega) pp ll cc X W1 (hst.later hW1) ((hO.later hW1).bytes hX) ⟨x0, hx0, hx0'.1.symm⟩).mono ?_
        rintro e w' ⟨x, hx, hxL, rfl, hb⟩
        have hx' := rows_at hro hx
        simp only [Option.some.injEq, Prod.mk.injEq] at hx'
        exact ⟨x, es, q, ql, qc, rq, rc, rfl, hx'.2.symm, hx, rfl, by omega, (hst.later hW1).later hb, RFr.of_below hb (by have := (hst.later hW1).row.lt; omega)⟩
      · rintro e w' ⟨es', q', ql', qc', rq', rc', rfl, h2, h3, h4⟩
        have hc : clashR es' X d = 0 := by rw [clash_rows hro]; simp [clashE]
        rw [hc] at h2
        exact ⟨h2, fun h => (by cases h), h4⟩
  · have hA' : ∀ d, ent ≠ some (X, d) := fun d h => hA ⟨d, h⟩
    have hk := entI_none he hX hA'
    have hL : ∀ {es : List REnt}, RowsOf ent es → ∀ x ∈ es, x.L ≠ X := fun hro x hx e => hA' x.d (by rw [rows_at hro hx, e])
    by_cases h32 : zs.length < 32
    · refine ⟨List.replicate 32 0, 60, ⟨by simp, by simp⟩, fun _ => rfl, fun Q T n W pp ll cc hn hst hI => ?_, fun R es q ql qc rq rc W pp ll cc hst hro hO => ?_⟩
      · refine (digest_none Q T n zs h32 pp ll cc ent X hk (by omega) W hn hst hI).mono ?_
        rintro e w' ⟨rfl, h2, h3⟩
        refine ⟨by rw [noKey_eq], fun h => ?_, h3⟩
        subst h
        exact h2
      · have hl := rowsOf_len hro
        refine (refDig_none R zs es q ql qc rq rc _ _ pp ll cc W hst (fun W1 hW1 => ideal_err R 1 zs es q ql qc rq rc _ _ (by omega) pp ll cc X W1 (hst.later hW1) ((hO.later hW1).bytes hX) (hL hro) h32)).mono ?_
        rintro e w' ⟨rfl, hb⟩
        refine ⟨by rw [noKey_eq], fun h => ⟨es, q, ql, qc, rq, rc, hst.later hb, ?_⟩, RFr.of_below hb (by have := hst.row.lt; omega)⟩
        subst h
        exact hro
    · have h32' : 32 ≤ zs.length := by omega
      have hd := keyL zs hz h32'
      obtain ⟨d, hdd⟩ : ∃ d, zs.take 32 = d := ⟨_, rfl⟩
      rw [hdd] at hd
      have hkey : IsKey32 (ansV (clashE ent X d) d) := by
        unfold ansV
        split
        · exact hd
        · exact ⟨by simp, by simp⟩
      refine ⟨ansV (clashE ent X d) d, clashE ent X d, hkey, fun h => by unfold ansV; rw [if_neg h], fun Q T n W pp ll cc hn hst hI => ?_, fun R es q ql qc rq rc W pp ll cc hst hro hO => ?_⟩
      · have h := digest_new Q T n zs hz h32' (by omega) pp ll cc ent he X hk (by omega) W hn hst hI
        rw [hdd] at h
        refine h.mono ?_
        rintro e w' ⟨rfl, h2, h3⟩
        refine ⟨rfl, fun h => ?_, h3⟩
        have h5 := h2 h
        subst h
        exact h5
      · have hl := rowsOf_len hro
        refine (refDig_ideal R zs (zs.drop 32) es q ql qc rq rc pp ll cc X d hd hX (by omega) (fun es' => ∃ x : REnt, es' = es ++ [x] ∧ x.L = X ∧ x.d = d) W hst hO (fun W1 hW1 => ?_)).mono ?_
        · refine (ideal_new R 1 zs (by omega) es q ql qc rq rc _ _ (by omega) pp ll cc X (by omega) W1 (hst.later hW1) (hO.later hW1) hX (hL hro) h32').mono ?_
          rintro e w' ⟨x, q', ql', qc', rq', rc', hxL, hxd, rfl, h5, h6⟩
          rw [hdd] at hxd
          exact ⟨x, es ++ [x], q', ql', qc', rq', rc', rfl, hxd, by simp, ⟨x, rfl, hxL, hxd⟩, by simp; omega, h5, h6⟩
        · rintro e w' ⟨es', q', ql', qc', rq', rc', ⟨x, rfl, hxL, hxd⟩, h2, h3, h4⟩
          rw [clash_more hro X d x hxL] at h2 h3
          refine ⟨h2, fun h => ?_, h4⟩
          subst h
          have : es = [] := by simpa [RowsOf] using hro
          subst this
          exact ⟨_, _, _, _, _, _, h3 rfl, by simp [RowsOf, nextE, clashE, hxL, hxd, ansV]⟩

end Go.Proofs.YtbaokodhoiledaaDoor
