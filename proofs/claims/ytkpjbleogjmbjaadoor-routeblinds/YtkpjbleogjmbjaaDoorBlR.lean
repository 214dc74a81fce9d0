/-
  What the reference's Blind of an ideal suite answers; both instances of RouteBlinds.
-/
import Derived.Test.YtkpjbleogjmbjaaDoorBlP
namespace Go.Proofs.YtkpjbleogjmbjaaDoor
open Classical
open Go.RowKit Go.Shelf

theorem RefSt.keepTs {K : List Value} {W W' : World} {R : Nat} {mode : Int} {zs : List Nat} {es : List REnt} {q : Option Addr} {ql qc : Nat} {rq : Option Addr} {rc : Nat} {x3 x4 : Value} {t0 : TypeId} (h : RefSt K W R mode zs es q ql qc rq rc x3 x4) (h5 : 5 ≠ t0) (h33 : 33 ≠ t0) (h85 : 85 ≠ t0) (hk : ∀ t, t ≠ t0 → KeepT t W W') (hb : Below R W W') : RefSt K W' R mode zs es q ql qc rq rc x3 x4 :=
  ⟨hk 33 h33 _ _ _ h.row, h.tape.below hb, ⟨(hk 85 h85).own h.rows.own, fun e he => (h.rows.all e he).keepT (hk 5 h5)⟩⟩

/-- The reference's state. -/
def RefQ (k : List Nat) (W : World) (R : Nat) (zs : List Nat) (T : Tb) (n : Nat) : Prop := ∃ es q ql qc rq rc, RefSt (u8s k) W R 1 zs es q ql qc rq rc (.slice none 0 0) (.slice none 0 0) ∧ RefTb T es ∧ es.length ≤ n
theorem RefQ.later {k : List Nat} {W W' : World} {R : Nat} {zs : List Nat} {T : Tb} {n : Nat} (h : RefQ k W R zs T n) (hb : Below W.heap.size W W') : RefQ k W' R zs T n := by
  obtain ⟨es, q, ql, qc, rq, rc, h1, h2, h3⟩ := h
  exact ⟨es, q, ql, qc, rq, rc, h1.later hb, h2, h3⟩
theorem RefQ.keepTs {k : List Nat} {W W' : World} {R : Nat} {zs : List Nat} {T : Tb} {n : Nat} {t0 : TypeId} (h : RefQ k W R zs T n) (h5 : 5 ≠ t0) (h33 : 33 ≠ t0) (h85 : 85 ≠ t0) (hk : ∀ t, t ≠ t0 → KeepT t W W') (hb : Below R W W') : RefQ k W' R zs T n := by
  obtain ⟨es, q, ql, qc, rq, rc, h1, h2, h3⟩ := h
  exact ⟨es, q, ql, qc, rq, rc, h1.keepTs h5 h33 h85 hk hb, h2, h3⟩
theorem RefQ.buts {k : List Nat} {W W' : World} {R : Nat} {zs : List Nat} {T : Tb} {n : Nat} {F : List Nat} (h : RefQ k W R zs T n) (hb : Buts F W.heap.size W W') (hF : ∀ k ∈ F, Odd W k) (hFR : ∀ k ∈ F, k < R) : RefQ k W' R zs T n := by
  obtain ⟨es, q, ql, qc, rq, rc, h1, h2, h3⟩ := h
  exact ⟨es, q, ql, qc, rq, rc, h1.buts hb hF hFR, h2, h3⟩
theorem RefQ.lt {k : List Nat} {W : World} {R : Nat} {zs : List Nat} {T : Tb} {n : Nat} (h : RefQ k W R zs T n) : R < W.heap.size := by
  obtain ⟨es, q, ql, qc, rq, rc, h1, _⟩ := h
  exact h1.row.lt
theorem RefQ.row {k : List Nat} {W : World} {R : Nat} {zs : List Nat} {T : Tb} {n : Nat} (h : RefQ k W R zs T n) : ∃ x1 x2 x3 x4 x5, Row W R 33 [.int .i64 1, x1, x2, x3, x4, x5] := by
  obtain ⟨es, q, ql, qc, rq, rc, h1, _⟩ := h
  exact ⟨_, _, _, _, _, h1.row⟩
theorem RFr.put {R : Nat} {w W W' : World} (h : RFr R w W) (hb : Below w.heap.size W W') (hR : R ≤ w.heap.size) : RFr R w W' :=
  ⟨h.1.trans (hb.mono hR), fun t h1 h2 k c fr hk => (hb.block k (Array.getElem?_eq_some_iff.1 hk).1).trans (h.2 t h1 h2 k c fr hk)⟩
theorem RFr.size {R : Nat} {w W : World} (h : RFr R w W) : w.heap.size ≤ W.heap.size := h.1.size

/-- The reference's. -/
theorem ref_step (k : List Nat) (hk : IsKey32 k) (R : Nat) (zs : List Nat) (hz : ∀ z ∈ zs, z < 256) (hzl : zs.length ≤ 70000) (Tb0 : Tb) (hok : Tb0.ok) (m : Nat) (hm : m ≤ 900) (s : ByteArray) (hs : s.size ≤ 1000) (w : World) (h : RefQ k w R zs Tb0 m) :
    Calls Tryd.prog 8 #[.pointer (some ⟨R, 0, none⟩), .agg (u8s k).toArray, .string s] w fun e w' => e = .returned (.tuple #[.agg (u8s (ansD Tb0 zs s)).toArray, .int .i64 (ansX Tb0 zs s)]) ∧ RefQ k w' R (nxtZ Tb0 zs s) (nxtT Tb0 zs s) (m + 1) ∧ RFr R w w' := by
  have hRl := h.lt
  have hdk : IsKey32 (ansD Tb0 zs s) := by
    unfold ansD
    cases hT : Tb0 s with
    | some d => exact hok _ _ hT
    | none =>
      by_cases h32 : zs.length < 32
      · simp only [if_pos h32]; exact ⟨by simp, by simp⟩
      · simp only [if_neg h32]; exact keyOfL zs hz (by omega)
  refine refBlind_gen R k hk s hs (u8s (ansD Tb0 zs s)) (isKey_len hdk) (u8s_one _) (ansX Tb0 zs s) (fun w' => RefQ k w' R (nxtZ Tb0 zs s) (nxtT Tb0 zs s) (m + 1) ∧ RFr R w w') w (fun W W' hkt hb hW => ⟨hW.1.keepTs (by decide) (by decide) (by decide) hkt (hb.mono (by omega)), hW.2.put hb (by omega)⟩) (fun W b c hW hb hI => ?_)
  have hsz := hW.size
  have h1 := h.later hW
  obtain ⟨es, q, ql, qc, rq, rc, hst, htb, hes⟩ := h1
  have hpR : ∀ b' off, (some ⟨b, 0, none⟩ : Option Addr) = some ⟨b', off, none⟩ → b' ≠ R := fun b' off e => by cases e; omega
  have hb3 := threeW_below W (u8s k)
  have hst3 := hst.later hb3
  have hI3 : IsBytes (threeW W (u8s k)).heap.size (threeW W (u8s k)) (some ⟨b, 0, none⟩) s.size c (nameL s) := hI.later hb3
  have hl3 := threeW_label W (u8s k)
  have hs3 := threeW_size W (u8s k)
  have rs3 : Row (threeW W (u8s k)) (W.heap.size + 1) 24 noKey := (twoW_res W (u8s k) 24).alloc _
  have hlR : ∀ b' off, (some ⟨W.heap.size + 1 + 1, 0, none⟩ : Option Addr) = some ⟨b', off, none⟩ → b' ≠ R := fun b' off e => by cases e; omega
  -- what is kept where only ideal was asked
  have hfin : ∀ w', RFr R W w' → RFr R w w' ∧ ∀ b' cs, w.heap.size ≤ b' → Row W b' 34 cs → Row w' b' 34 cs := fun w' hr => ⟨(RFr.of_below hW (by omega)).trans hr, fun b' cs _ hrow => hr.keep hrow (by decide) (by decide)⟩
  have hset : ∀ (zs' : List Nat) (T' : Tb) (w1 : World) (V : List Value), RefQ k w1 R zs' T' (m + 1) ∧ RFr R W w1 → Row w1 (W.heap.size + 1) 24 noKey → RefQ k (w1.setCells (W.heap.size + 1) 0 V) R zs' T' (m + 1) ∧ RFr R W (w1.setCells (W.heap.size + 1) 0 V) := fun zs' T' w1 V hg hr =>
    have hbl : Below W.heap.size w1 (w1.setCells (W.heap.size + 1) 0 V) := below_setCells (by omega) V 0 (Below.refl _ _)
    ⟨hg.1.keepTs (t0 := 24) (by decide) (by decide) (by decide) (fun t ht => keepT_setCells ht hr V) (hbl.mono (by omega)), hg.2.put hbl (by omega)⟩
  have h3W : RFr R W (threeW W (u8s k)) := RFr.of_below hb3 (by omega)
  cases hT : Tb0 s with
  | some d =>
    obtain ⟨x0, hx0, hx0L⟩ := htb.2 s d hT
    have hd := hok _ _ hT
    have ea : ansD Tb0 zs s = d := by unfold ansD; rw [hT]
    have ex : ansX Tb0 zs s = 0 := by unfold ansX; rw [hT]
    have et : nxtT Tb0 zs s = Tb0 := by unfold nxtT; rw [hT]
    have ez : nxtZ Tb0 zs s = zs := by unfold nxtZ; rw [hT]
    rw [ea, ex, et, ez]
    refine (refPrf_of R _ _ _ _ _ k hk (some ⟨b, 0, none⟩) s.size c d hd (fun w' => RefQ k w' R zs Tb0 (m + 1) ∧ RFr R W w') W hst.row (hset zs Tb0) ?_).mono ?_
    · refine (ideal_old k hk _ 1 R 1 zs es q ql qc rq rc _ _ (by omega) (some ⟨b, 0, none⟩) s.size c (nameL s) _ hst3 hI3 hl3 ⟨x0, hx0, hx0L⟩).mono ?_
      rintro e w' ⟨x, hx, hxL, rfl, hb'⟩
      have hxd := htb.1 x hx s hxL
      rw [hT] at hxd
      cases hxd
      have hst' := hst3.later hb'
      exact ⟨x.b, rfl, (hst'.rows.all x hx).b, rs3.later hb', ⟨es, q, ql, qc, rq, rc, hst', htb, by omega⟩, h3W.trans (RFr.of_below hb' (by omega))⟩
    · rintro e w' ⟨rfl, h1, h2⟩
      exact ⟨rfl, ⟨h1, (hfin w' h2).1⟩, (hfin w' h2).2⟩
  | none =>
    have hnot : ∀ x ∈ es, x.L ≠ nameL s := fun x hx e => by
      have := htb.1 x hx s e
      rw [hT] at this
      cases this
    by_cases h32 : zs.length < 32
    · have ea : ansD Tb0 zs s = List.replicate 32 0 := by unfold ansD; rw [hT]; simp only [if_pos h32]
      have ex : ansX Tb0 zs s = 60 := by unfold ansX; rw [hT]; simp only [if_pos h32]
      have et : nxtT Tb0 zs s = Tb0 := by unfold nxtT; rw [hT]; simp only [if_pos h32]
      have ez : nxtZ Tb0 zs s = zs := by unfold nxtZ; rw [hT]; simp only [if_pos h32]
      rw [ea, ex, et, ez, noKey_eq]
      refine (refPrf_not R _ _ _ _ _ k hk (some ⟨b, 0, none⟩) s.size c W hst.row ?_).mono ?_
      · exact ideal_err k hk _ 1 R 1 zs es q ql qc rq rc _ _ (by omega) (some ⟨b, 0, none⟩) s.size c (nameL s) _ hst3 hI3 hl3 hnot h32
      · rintro e w' ⟨rfl, h1⟩
        have hr : RFr R W w' := RFr.of_below h1 (by omega)
        exact ⟨rfl, ⟨⟨es, q, ql, qc, rq, rc, hst.later h1, htb, by omega⟩, (hfin w' hr).1⟩, (hfin w' hr).2⟩
    · have h32' : 32 ≤ zs.length := by omega
      have ea : ansD Tb0 zs s = zs.take 32 := by unfold ansD; rw [hT]; simp only [if_neg h32]
      have ex : ansX Tb0 zs s = 0 := by unfold ansX; rw [hT]; simp only [if_neg h32]
      have et : nxtT Tb0 zs s = tbPut Tb0 s (zs.take 32) := by unfold nxtT; rw [hT]; simp only [if_neg h32]
      have ez : nxtZ Tb0 zs s = zs.drop 32 := by unfold nxtZ; rw [hT]; simp only [if_neg h32]
      rw [ea, ex, et, ez]
      refine (refPrf_of R _ _ _ _ _ k hk (some ⟨b, 0, none⟩) s.size c (zs.take 32) (keyOfL zs hz h32') (fun w' => RefQ k w' R (zs.drop 32) (tbPut Tb0 s (zs.take 32)) (m + 1) ∧ RFr R W w') W hst.row (hset _ _) ?_).mono ?_
      · refine (ideal_new k hk _ 1 R 1 zs hzl es q ql qc rq rc _ _ (by omega) (some ⟨b, 0, none⟩) s.size c (nameL s) (by rw [nameL_length]; omega) _ hst3 hI3 hpR hl3 hlR hnot h32').mono ?_
        rintro e w' ⟨x, q', ql', qc', rq', rc', hxL, hxd, rfl, h5, h6⟩
        refine ⟨x.b, rfl, by have := (h5.rows.all x (by simp)).b; rw [hxd] at this; exact this, h6.keep rs3 (by decide) (by decide), ⟨es ++ [x], q', ql', qc', rq', rc', h5, ?_, by simp; omega⟩, h3W.trans h6⟩
        rw [← hxd]
        exact htb.put hT hxL
      · rintro e w' ⟨rfl, h1, h2⟩
        exact ⟨rfl, ⟨h1, (hfin w' h2).1⟩, (hfin w' h2).2⟩
end Go.Proofs.YtkpjbleogjmbjaaDoor
