/-
  drawn.open: the last text for which these bytes were answered with this key and these words. Nothing that lay before the call has turned.
-/
import Derived.Test.YtobmcaknfbooiaaDoorLatest
import Derived.Lib.ConvBytes
namespace Go.Proofs.YtobmcaknfbooiaaDoor
open Go.RowKit Go.Shelf
attribute [local go_sem] Oper.semAt_some

/-- A string's bytes. -/
def bytesOf (s : ByteArray) : List Nat := s.data.toList.map UInt8.toNat
theorem bytesOf_length (s : ByteArray) : (bytesOf s).length = s.size := by simp [bytesOf]
theorem strOf_bytesOf (s : ByteArray) : strOf (bytesOf s) = s := by
  have h := strOf_toList (bytesOf s)
  rw [ByteArray.toList_eq] at h
  have h2 : (bytesOf s).map (fun z => UInt8.ofNat z) = s.data.toList := by
    unfold bytesOf
    rw [List.map_map]
    exact (List.map_congr_left (fun a _ => by simp)).trans (List.map_id _)
  rw [h2] at h
  cases hs : strOf (bytesOf s) with
  | mk d =>
    rw [hs] at h
    cases s
    simpa using h

theorem below_bytesWorld (A : World) (p : ByteArray) : Below A.heap.size A (Lib.bytesWorld A 5 p) :=
  ⟨rfl, rfl, rfl, by rw [Lib.bytesWorld_size]; omega, fun k hk => Lib.bytesWorld_at_old A 5 p k hk⟩

/-- What Open tells. -/
def OpenRes (xs : List (List Value)) (k : List Nat) (sa : ByteArray) (v : Value) (er : Int) (w : World) : Prop :=
  (er = 70 ∧ v = .slice none 0 0 ∧ ∀ c ∈ xs, ∀ p, c ≠ askedL k sa p) ∨
  (er = 0 ∧ ∃ p g cap, askedL k sa p ∈ xs ∧ v = .slice (some ⟨g, 0, none⟩) p.size cap ∧ ∀ i, i < p.size → w.cell? ⟨g, i, none⟩ = some (.int .u8 ((bytesOf p).getD i 0 : Nat)))

/-- None of these was asked with this key and these words. -/
def NoneOf (xs : List (List Value)) (k : List Nat) (sa : ByteArray) (pre : List Nat) : Prop := ∀ i ∈ pre, ∀ p, xs.getD i [] ≠ askedL k sa p
theorem NoneOf.snoc {xs : List (List Value)} {k : List Nat} {sa : ByteArray} {pre : List Nat} (h : NoneOf xs k sa pre) {x : Nat} (hx : ∀ p, xs.getD x [] ≠ askedL k sa p) : NoneOf xs k sa (pre ++ [x]) := fun i hi => by
  rcases List.mem_append.1 hi with hi | hi
  · exact h i hi
  · simp at hi; subst hi; exact hx
theorem NoneOf.all {xs : List (List Value)} {k : List Nat} {sa : ByteArray} (h : NoneOf xs k sa (List.range xs.length).reverse) : ∀ c ∈ xs, ∀ p, c ≠ askedL k sa p := fun c hc p => by
  obtain ⟨i, hi, rfl⟩ := List.getElem_of_mem hc
  have := h i (by simpa using hi) p
  simpa [List.getElem?_eq_getElem hi] using this

/-- The text was found; it lies in the blocks B (where), B + 1 (OK). -/
def FoundAt (w : World) (B : Nat) (xs : List (List Value)) (k : List Nat) (sa : ByteArray) (A : World) : Prop :=
  ∃ p g cap, askedL k sa p ∈ xs ∧ Row A B 25 [.slice (some ⟨g, 0, none⟩) p.size cap] ∧ Row A (B + 1) 32 [.int .i64 0] ∧ (∀ i, i < p.size → A.cell? ⟨g, i, none⟩ = some (.int .u8 ((bytesOf p).getD i 0 : Nat))) ∧ Below w.heap.size w A
theorem cell_putObj {A : World} {l g i : Nat} {o o' : Obj} {v : Value} (ho : A.heap[l]? = some o) (hc : o.isCells = false) (h : A.cell? ⟨g, i, none⟩ = some v) : (A.putObj l o').cell? ⟨g, i, none⟩ = some v := by
  obtain ⟨c, t, fr, hx, hv⟩ := cells_of_cell h
  have : (A.putObj l o').heap[g]? = some (.cells c t fr) := (World.putObj_heap_other (fun e => by
    subst e
    rw [hx] at ho
    cases ho
    cases hc)).trans hx
  rw [cell_of_row _ g i c t fr this]
  exact hv
theorem soft_found {β : Type} (w : World) (B B' : Nat) (hB : w.heap.size ≤ B') (xs : List (List Value)) (k : List Nat) (sa : ByteArray) : Soft B' (fun (_ : β) A => FoundAt w B xs k sa A) := by
  refine ⟨fun s A A' ⟨p, g, cap, h1, h2, h3, h4, h5⟩ hb => ⟨p, g, cap, h1, h2.later hb, h3.later hb, fun i hi => ?_, h5.trans (hb.mono h5.size)⟩, fun s A l o o' ⟨p, g, cap, h1, h2, h3, h4, h5⟩ hl ho hc => ⟨p, g, cap, h1, ?_, ?_, fun i hi => ?_, h5.trans (below_putObj A o' (by omega))⟩⟩
  · have h := h4 i hi
    exact (hb.cell (p := ⟨g, i, none⟩) (World.block_lt_of_cell? A _ h)).trans h
  · exact (soft_row (β := Unit) (B := B') B 25 (fun _ => [.slice (some ⟨g, 0, none⟩) p.size cap])).2 () A l o o' h2 hl ho hc
  · exact (soft_row (β := Unit) (B := B') (B + 1) 32 (fun _ => [.int .i64 0])).2 () A l o o' h3 hl ho hc
  · have h := h4 i hi
    obtain ⟨c, t, fr, hx, hv⟩ := cells_of_cell h
    have : (A.putObj l o').heap[g]? = some (.cells c t fr) := (World.putObj_heap_other (fun e => by
      subst e
      rw [hx] at ho
      cases ho
      cases hc)).trans hx
    rw [cell_of_row _ g i c t fr this]
    exact hv

theorem key_range {W : World} {b : Nat} {t : TypeId} {k : List Nat} {s : List Value} (h : Row W b t (u8s k ++ s)) : W.rangeAt b 0 (u8s k) := fun j v hv => by
  rw [Nat.zero_add]
  exact h.cell (List.getElem?_append_left (by have := List.getElem?_eq_some_iff.1 hv; exact this.1) ▸ hv)

set_option maxRecDepth 100000 in
set_option maxHeartbeats 2000000 in
theorem drawnOpen_in (n : Nat) (hn : 6 ≤ n) (D m4 : Nat) (x0 x1 x2 x3 : Value) (k : List Nat) (hk : IsKey32 k) (pa : Option Addr) (la ca : Nat) (za : List Nat) (pc : Option Addr) (lc cc : Nat) (zc : List Nat) (_hla : la ≤ 60000) (hlc : lc ≤ 60000) (g : Value → Option Value) (L : ByteArray → List (List Value)) (F : List Nat) (K : Nat) (hKb : K ≤ 1000) (w : World)
    (hD : Row w D 70 [x0, x1, x2, x3, .map (some m4)]) (hIa : IsBytes w.heap.size w pa la ca za) (hIc : IsBytes w.heap.size w pc lc cc zc) (hA : AskedRel w F m4 g L K) (hF : ∀ b ∈ F, b < w.heap.size) :
    CallsIn Fence.wide n Tryd.prog 28 #[.pointer (some ⟨D, 0, none⟩), .agg (u8s k).toArray, .slice pa la ca, .slice pc lc cc] w fun e w' => ∃ v er, e = .returned (.tuple #[v, .int .i64 er]) ∧ OpenRes (L (strOf zc)) k (strOf za) v er w' ∧ Below w.heap.size w w' := by
  have h1 : 1 ≤ n := by omega
  have hfn : ∀ f, Fence.wide.fn f := fun _ => trivial
  have hz : (strOf zc).size ≤ maxLen := by rw [strOf_size]; have := hIc.1; simp only [maxLen]; omega
  -- the boxes
  obtain ⟨w0, hw0⟩ : ∃ w0, ((((w.alloc (.cells (u8s k).toArray 24)).alloc (.cells #[.slice pa la ca] 25)).alloc (.cells #[.slice none 0 0] 25)).alloc (.cells #[.int .i64 70] 32)) = w0 := ⟨_, rfl⟩
  have HW0 : Hid (((((w.alloc (.cells (u8s k).toArray 24)).alloc (.cells #[.slice pa la ca] 25)).alloc (.cells #[.slice none 0 0] 25)).alloc (.cells #[.int .i64 70] 32)) = w0) := hw0
  have hb0 : Below w.heap.size w w0 := by rw [← hw0]; exact ((((Below.refl _ w).alloc (Nat.le_refl _) _).alloc (by simp) _).alloc (by simp; omega) _).alloc (by simp; omega) _
  have hs0 : w0.heap.size = w.heap.size + 1 + 1 + 1 + 1 := by rw [← hw0]; simp
  have hk0 : Row w0 w.heap.size 24 (u8s k) := by rw [← hw0]; exact (((Row.new' w 24 (u8s k)).alloc _).alloc _).alloc _
  have ha0 : Row w0 (w.heap.size + 1) 25 [.slice pa la ca] := by rw [← hw0]; exact ((Row.newAt (w.alloc (.cells (u8s k).toArray 24)) 25 #[.slice pa la ca] (by simp)).alloc _).alloc _
  have hp0 : Row w0 (w.heap.size + 1 + 1) 25 [.slice none 0 0] := by rw [← hw0]; exact (Row.newAt _ 25 #[.slice none 0 0] (by simp)).alloc _
  have he0 : Row w0 (w.heap.size + 1 + 1 + 1) 32 [.int .i64 70] := by rw [← hw0]; exact Row.newAt _ 32 #[.int .i64 70] (by simp)
  obtain ⟨w1, hw1⟩ : ∃ w1, (w0.alloc (.cells #[.pointer (some ⟨D, 0, none⟩)] 51)).alloc (.cells #[.slice pc lc cc] 25) = w1 := ⟨_, rfl⟩
  have hb1 : Below w0.heap.size w0 w1 := by rw [← hw1]; exact ((Below.refl _ w0).alloc (Nat.le_refl _) _).alloc (by simp) _
  have hs1 : w1.heap.size = w.heap.size + 1 + 1 + 1 + 1 + 1 + 1 := by rw [← hw1]; simp [hs0]
  have hd1 : Row w1 w0.heap.size 51 [.pointer (some ⟨D, 0, none⟩)] := by rw [← hw1]; exact (Row.new w0 51 #[.pointer (some ⟨D, 0, none⟩)]).alloc _
  have hc1 : Row w1 (w0.heap.size + 1) 25 [.slice pc lc cc] := by rw [← hw1]; exact Row.newAt _ 25 #[.slice pc lc cc] (by simp)
  have HW1 : Hid ((w0.alloc (.cells #[.pointer (some ⟨D, 0, none⟩)] 51)).alloc (.cells #[.slice pc lc cc] 25) = w1) := hw1
  have hB1 : Below w.heap.size w w1 := hb0.trans (hb1.mono hb0.size)
  obtain ⟨M, hM⟩ : ∃ M : Nat → Prop, M = fun b => b = w.heap.size + 1 + 1 ∨ b = w.heap.size + 1 + 1 + 1 := ⟨_, rfl⟩
  have HIt : Hid (∀ W', W'.heap.size = w1.heap.size + 2 → Below w1.heap.size w1 W' → IterSoft Fence.wide (n - 1) Tryd.prog 62 #[.pointer (some ⟨w0.heap.size, 0, none⟩), .pointer (some ⟨w0.heap.size + 1, 0, none⟩)] (fun i : Nat => #[.agg ((L (strOf zc)).getD i []).toArray]) (fun i _ => i < (L (strOf zc)).length) (KpM M (w1.heap.size + 2)) (fun ys => ys = (List.range (L (strOf zc)).length).reverse) (fun pre => ∃ r, pre ++ r = (List.range (L (strOf zc)).length).reverse) (L (strOf zc)).length (w1.heap.size + 1) W') := fun W' hs hb => by
    have hB : Below w.heap.size w W' := hB1.trans (hb.mono hB1.size)
    refine latest1_iter (n - 1) (by omega) _ w0.heap.size (w0.heap.size + 1) D m4 x0 x1 x2 x3 pc lc cc zc g L F K hz hKb W' (hd1.later hb) (hc1.later hb) (hD.later hB) (hIc.later hB) (hA.keep (fun b hb' => hB.block b (hF b hb'))) (fun b hb' => Nat.lt_of_lt_of_le (hF b hb') hB.size) M _ (fun _ _ h => h.1) (fun _ _ h => keepsFrom_ge h.2 (by omega)) (fun j hj => ?_) (fun b hb' => ?_)
    · rw [hM]; simp only; omega
    · have := hF b hb'; rw [hM]; simp only; omega
  obtain ⟨hxa, hxl⟩ := hA.all (strOf zc)
  obtain ⟨xs, hxs⟩ : ∃ xs, L (strOf zc) = xs := ⟨_, rfl⟩
  rw [hxs] at HIt hxa hxl ⊢
  obtain ⟨sa, hsa⟩ : ∃ sa, strOf za = sa := ⟨_, rfl⟩
  have HConv : Hid (∀ A, Below w.heap.size w A → (convert 25 9 (.slice pa la ca)).run Tryd.prog A = .ok (.string sa) A) := fun A hA' => by rw [← hsa]; exact str_of_bytes hIa A hA'
  rw [hsa]
  have HXA : Hid (AskedAll xs) := hxa
  have HKl : Hid ((u8s k).length = 32) := by show _ = _; rw [u8s_length, hk.1]
  have HK1 : Hid (Row w1 w.heap.size 24 (u8s k)) := hk0.later hb1
  have HA1 : Hid (Row w1 (w.heap.size + 1) 25 [.slice pa la ca]) := ha0.later hb1
  have HP1 : Hid (Row w1 (w.heap.size + 1 + 1) 25 [.slice none 0 0]) := hp0.later hb1
  have HE1 : Hid (Row w1 (w.heap.size + 1 + 1 + 1) 32 [.int .i64 70]) := he0.later hb1
  refine callsIn_of_wp_marks Tryd.func28 rfl trivial ?_ rfl
  simp only [Tryd.ntmps28, List.size_toArray, List.length_cons, List.length_nil, Nat.reduceAdd, Nat.reduceSub, Array.replicate_succ, Array.replicate_zero, List.push_toArray, List.append_toArray, List.nil_append, List.cons_append]
  clear hw0 hw1 hk0 ha0 hp0 he0 hd1 hc1 hD hIa hIc hA hxa
  gi_wp2
  refine wpIn_scope_wide ?_
  gi_wp2
  rw [HW0.out]
  refine wpIn_label ?_
  gi_wp2
  refine (latest_in _ D pc lc cc _).mono ?_
  rintro e w1' ⟨rfl, hw1'⟩
  rw [HW1.out] at hw1'
  obtain rfl : w1 = w1' := hw1'.symm
  clear hw1'
  gi_wp2
  have HL34 : Hid (∀ j, j < xs.length → ∃ k' ad' p', IsAsked (xs.getD j []) k' ad' p' ∧ xs.getD j [] ∈ xs) := fun j hj => by
    have hm : xs.getD j [] ∈ xs := by
      have : xs.getD j [] = xs[j] := by simp [List.getElem?_eq_getElem hj]
      rw [this]; exact List.getElem_mem _
    obtain ⟨k', ad', p', h'⟩ := HXA.out _ hm
    exact ⟨k', ad', p', h', hm⟩
  rw [← hs0]
  refine wpIn_rangeFunc_soft rfl h1 (gf := 62) (lb := #[.pointer (some ⟨w0.heap.size, 0, none⟩), .pointer (some ⟨w0.heap.size + 1, 0, none⟩)]) rfl trivial (enters_of Tryd.func62 (by kernel_rfl) rfl)
    (encs := fun i : Nat => #[.agg (xs.getD i []).toArray]) (Ok := fun i _ => i < xs.length) (Kp := KpM M (w1.heap.size + 2)) (S := fun ys => ys = (List.range xs.length).reverse) (Sp := fun pre => ∃ r, pre ++ r = (List.range xs.length).reverse) (N := xs.length)
    HIt.out KpM.trans (fun A o o' ho hc => KpM.record (by omega) o' ho hc) KpM.of_below (fun _ => rfl) 72 (fun i => xs.getD i [])
    (fun pre A => (((NoneOf xs k sa pre ∧ Row A w.heap.size 24 (u8s k)) ∧ Row A (w.heap.size + 1) 25 [.slice pa la ca]) ∧ Row A (w.heap.size + 1 + 1) 25 [.slice none 0 0]) ∧ (Row A (w.heap.size + 1 + 1 + 1) 32 [.int .i64 70] ∧ Below w.heap.size w A))
    (fun c pre A => c = .exit 0 ∧ FoundAt w (w.heap.size + 1 + 1) xs k sa A)
    (Soft.and (Soft.and (Soft.and (Soft.and ⟨fun _ _ _ h _ => h, fun _ _ _ _ _ h _ _ _ => h⟩ (soft_row _ _ _)) (soft_row _ _ _)) (soft_row _ _ _)) (Soft.and (soft_row _ _ _) (soft_below w (by omega) (Nat.le_refl _))))
    (fun c => Soft.and ⟨fun _ _ _ h _ => h, fun _ _ _ _ _ h _ _ _ => h⟩ (soft_found w _ _ (by omega) xs k sa))
    (fun _ _ _ h _ => h)
    ⟨⟨⟨⟨fun i hi => (by cases hi), HK1.out⟩, HA1.out⟩, HP1.out⟩, HE1.out, hB1⟩
    (fun x A => { tmps := #[.pointer (some ⟨D, 0, none⟩), .agg (u8s k).toArray, .slice pa la ca, .slice pc lc cc, undef, .pointer (some ⟨w.heap.size, 0, none⟩), .pointer (some ⟨w.heap.size + 1, 0, none⟩), undef, .slice none 0 0, .int .i64 0, .pointer (some ⟨w.heap.size + 1 + 1, 0, none⟩), .pointer (some ⟨w.heap.size + 1 + 1 + 1, 0, none⟩), .pointer (some ⟨A.heap.size, 0, none⟩), .pointer (some ⟨D, 0, none⟩), .slice pc lc cc,
      .func (.func 62) #[] #[.pointer (some ⟨w0.heap.size, 0, none⟩), .pointer (some ⟨w0.heap.size + 1, 0, none⟩)], .agg (xs.getD x []).toArray, undef, undef, undef, undef, undef, undef, undef, undef, undef, undef, undef, undef, undef, undef, undef], defers := [] }) ?assign ?body ?done ?stop
  case assign =>
    clear hs0
    intro li x A K hok hK
    obtain ⟨k', ad', p', hx', hm'⟩ := HL34.out x hok
    have HXL : Hid ((xs.getD x []).length = 34) := hx'.len
    have HX1 : Hid (∀ v ∈ xs.getD x [], v.oneCell' = true) := asked_one hx'
    have HK : Hid (∀ W', Below A.heap.size A W' → Row W' A.heap.size 72 (xs.getD x []) → K _ W') := hK
    clear hK hx' hm'
    generalize xs.getD x [] = V at HXL HX1 HK ⊢
    gi_wp2_with ((with_reducible show wpListIn _ _ _ _ _ (Oper.mk _ (Op.store 72 (.tmp 12) (.tmp 16)) _ _ _ _ :: _) _ _); change wpListIn _ _ _ _ _ _ _ (A.alloc (.cells noAsked.toArray 72)); refine wpListIn_store_Row rfl 72 (.tmp 12) (.tmp 16) rfl V rfl rfl (Row.new _ _ _) (by rw [HXL.out]; exact size72) (by rw [HXL.out]; rfl) HX1.out ?_; simp only [Act.put])
    exact HK.out _ (below_setCells (Nat.le_refl _) _ _ ((Below.refl _ A).alloc (Nat.le_refl _) _)) (Row.sets_all (Row.new _ _ _) (by rw [HXL.out]; rfl))
  case body =>
    rintro li pre x A₀ A ⟨⟨⟨⟨hno, hrk⟩, hra⟩, hrp⟩, hre, hBA⟩ hok hN hle hrow
    have HS0 : Hid (w0.heap.size = w.heap.size + 1 + 1 + 1 + 1) := hs0
    clear hs0
    obtain ⟨k', ad', p', hx', hm'⟩ := HL34.out x hok
    have HX : Hid (xs.getD x [] = askedL k' ad' p') := hx'.eq
    have HM' : Hid (askedL k' ad' p' ∈ xs) := by have := hm'; rw [hx'.eq] at this; exact this
    have hk' : IsKey32 k' := hx'.key
    have HKl' : Hid ((u8s k').length = 32) := by show _ = _; rw [u8s_length, hk'.1]
    rw [hx'.eq] at hrow ⊢
    clear hx' hm'
    have HR1 : Hid (A.rangeAt A₀.heap.size 0 (u8s k')) := key_range hrow
    have c32 : A.cell? ⟨A₀.heap.size, 32, none⟩ = some (.string ad') := hrow.cell (by have := HKl'.out; simp [askedL, this])
    have c33 : A.cell? ⟨A₀.heap.size, 33, none⟩ = some (.string p') := hrow.cell (by have := HKl'.out; simp [askedL, this])
    have HR2 : Hid (A.rangeAt w.heap.size 0 (u8s k)) := hrk.range
    have HRK : Hid (Row A w.heap.size 24 (u8s k)) := hrk
    have HRA : Hid (Row A (w.heap.size + 1) 25 [.slice pa la ca]) := hra
    have HRP : Hid (Row A (w.heap.size + 1 + 1) 25 [.slice none 0 0]) := hrp
    have HRE : Hid (Row A (w.heap.size + 1 + 1 + 1) 32 [.int .i64 70]) := hre
    have HBA : Hid (Below w.heap.size w A) := hBA
    have HNo : Hid (NoneOf xs k sa pre) := hno
    have heq : (Op.equalIn 10000 24 (.agg (u8s k').toArray) (.agg (u8s k).toArray)).run Tryd.prog A = .ok (decide (k' = k)) A := equal24 hk' hk A
    have ca := hra.cell (i := 0) rfl
    have hcv := HConv.out A hBA
    clear hrow hrk hra hrp hre hBA hno
    obtain ⟨V, hV⟩ : ∃ V, askedL k' ad' p' = V := ⟨_, rfl⟩
    have HVeq : Hid (askedL k' ad' p' = V) := hV
    rw [hV] at HX HM' ⊢
    clear hV
    have hoff : (u8s k').length = 32 := HKl'.out
    by_cases hkk : k' = k
    · rw [decide_eq_true hkk] at heq
      have HKK : Hid (k' = k) := hkk
      clear hkk
      by_cases hss : (ad'.toList == sa.toList) = true
      · have HSS : Hid (ad' = sa) := by
          have := eq_of_beq hss
          show ad' = sa
          rw [ByteArray.toList_eq, ByteArray.toList_eq] at this
          cases ad'; cases sa
          simpa using this
        obtain ⟨A5, hA5⟩ : ∃ A5, Lib.bytesWorld A 5 p' = A5 := ⟨_, rfl⟩
        obtain ⟨cap', hcap⟩ : ∃ cap', grownCap A p'.size 0 5 = cap' := ⟨_, rfl⟩
        have hcvt : (convert 9 25 (.string p')).run Tryd.prog A = .ok (.slice (some ⟨A.heap.size, 0, none⟩) p'.size cap') A5 := by rw [← hA5, ← hcap]; exact Lib.run_convert_string_bytes A 9 25 5 p' Tryd.underlying9 Tryd.underlying25 Tryd.underlying5
        have hb5 : Below A.heap.size A A5 := by rw [← hA5]; exact below_bytesWorld A p'
        have HC5 : Hid (∀ i, i < p'.size → A5.cell? ⟨A.heap.size, i, none⟩ = some (.int .u8 ((bytesOf p').getD i 0 : Nat))) := fun i hi => by
          rw [← hA5, Lib.bytesWorld_cell A 5 p' i hi]
          have hi' : i < p'.data.toList.length := by simpa using hi
          simp [bytesOf, List.getD, List.getElem?_map, List.getElem?_eq_getElem hi']
        have HP5 : Hid (Row A5 (w.heap.size + 1 + 1) 25 [.slice none 0 0]) := Row.later HRP.out hb5
        have HE5 : Hid (Row A5 (w.heap.size + 1 + 1 + 1) 32 [.int .i64 70]) := Row.later HRE.out hb5
        have cp5 := Row.cell HP5.out (i := 0) rfl
        have fp5 := Row.frozen HP5.out 0
        have ce5 := Row.cell HE5.out (i := 0) rfl
        have fe5 := Row.frozen HE5.out 0
        clear hA5 hcap
        gi_wp2_with (first
          | ((with_reducible show wpListIn _ _ _ _ _ (Oper.mk _ (Op.load 24 (.tmp 21)) _ _ _ _ :: _) _ _); refine wpListIn_load_midS rfl 24 (.tmp 21) rfl rfl HR1.out Tryd.underlying24 rfl (by rw [HKl'.out]; exact size24) ?_; simp only [Act.put, List.setIfInBounds_toArray, List.set_cons_zero, List.set_cons_succ])
          | ((with_reducible show wpListIn _ _ _ _ _ (Oper.mk _ (Op.load 24 (.tmp 5)) _ _ _ _ :: _) _ _); refine wpListIn_load_midS rfl 24 (.tmp 5) rfl rfl HR2.out Tryd.underlying24 rfl (by rw [HKl.out]; exact size24) ?_; simp only [Act.put, List.setIfInBounds_toArray, List.set_cons_zero, List.set_cons_succ]))
        have hlp : w.heap.size + 1 + 1 < A.heap.size := Row.lt HRP.out
        have hle3 : w.heap.size + 1 + 1 + 1 < A.heap.size := Row.lt HRE.out
        have kp : ∀ n₂, KpM M n₂ A ((A5.setCell ⟨w.heap.size + 1 + 1, 0, none⟩ (.slice (some ⟨A.heap.size, 0, none⟩) p'.size cap')).setCell ⟨w.heap.size + 1 + 1 + 1, 0, none⟩ (.int .i64 0)) := fun n₂ =>
          ((KpM.of_below hb5).trans (KpM.set (a := ⟨w.heap.size + 1 + 1, 0, none⟩) (by rw [hM]; exact .inl rfl) _)).trans (KpM.set (a := ⟨w.heap.size + 1 + 1 + 1, 0, none⟩) (by rw [hM]; exact .inr rfl) _)
        refine ⟨(kp _).2, kp _, rfl, p', A.heap.size, cap', ?_, ?_, ?_, fun i hi => ?_, ?_⟩
        · have := HM'.out
          rw [← HVeq.out, HKK.out, HSS.out] at this
          exact this
        · exact (Row.set HP5.out 0 _).other (by simp) _
        · exact (Row.other HE5.out (by simp) _).set 0 _
        · rw [World.cell?_setCell_far _ _ _ _ (by simp; omega), World.cell?_setCell_far _ _ _ _ (by simp; omega)]
          exact HC5.out i hi
        · exact ((HBA.out.trans (hb5.mono HBA.out.size)).setCell (by simp; omega) _).setCell (by simp; omega) _
      · have hss' : (ad'.toList == sa.toList) = false := by simpa using hss
        clear hss
        gi_wp2_with (first
          | ((with_reducible show wpListIn _ _ _ _ _ (Oper.mk _ (Op.load 24 (.tmp 21)) _ _ _ _ :: _) _ _); refine wpListIn_load_midS rfl 24 (.tmp 21) rfl rfl HR1.out Tryd.underlying24 rfl (by rw [HKl'.out]; exact size24) ?_; simp only [Act.put, List.setIfInBounds_toArray, List.set_cons_zero, List.set_cons_succ])
          | ((with_reducible show wpListIn _ _ _ _ _ (Oper.mk _ (Op.load 24 (.tmp 5)) _ _ _ _ :: _) _ _); refine wpListIn_load_midS rfl 24 (.tmp 5) rfl rfl HR2.out Tryd.underlying24 rfl (by rw [HKl.out]; exact size24) ?_; simp only [Act.put, List.setIfInBounds_toArray, List.set_cons_zero, List.set_cons_succ]))
        refine ⟨keepsFrom_of_below (Below.refl _ A), KpM.refl A, ⟨⟨⟨HNo.out.snoc (fun p hp => ?_), HRK.out⟩, HRA.out⟩, HRP.out⟩, HRE.out, HBA.out⟩
        rw [HX.out, ← HVeq.out] at hp
        obtain ⟨_, h2, _⟩ := askedL_inj (by rw [hk'.1, hk.1]) hp
        rw [h2] at hss'
        simp at hss'
    · rw [decide_eq_false hkk] at heq
      gi_wp2_with (first
        | ((with_reducible show wpListIn _ _ _ _ _ (Oper.mk _ (Op.load 24 (.tmp 21)) _ _ _ _ :: _) _ _); refine wpListIn_load_midS rfl 24 (.tmp 21) rfl rfl HR1.out Tryd.underlying24 rfl (by rw [HKl'.out]; exact size24) ?_; simp only [Act.put, List.setIfInBounds_toArray, List.set_cons_zero, List.set_cons_succ])
        | ((with_reducible show wpListIn _ _ _ _ _ (Oper.mk _ (Op.load 24 (.tmp 5)) _ _ _ _ :: _) _ _); refine wpListIn_load_midS rfl 24 (.tmp 5) rfl rfl HR2.out Tryd.underlying24 rfl (by rw [HKl.out]; exact size24) ?_; simp only [Act.put, List.setIfInBounds_toArray, List.set_cons_zero, List.set_cons_succ]))
      refine ⟨keepsFrom_of_below (Below.refl _ A), KpM.refl A, ⟨⟨⟨HNo.out.snoc (fun p hp => ?_), HRK.out⟩, HRA.out⟩, HRP.out⟩, HRE.out, HBA.out⟩
      rw [HX.out, ← HVeq.out] at hp
      exact hkk (askedL_inj (by rw [hk'.1, hk.1]) hp).1
  case done =>
    rintro E xs' A hE hS ⟨⟨⟨⟨hno, hrk⟩, hra⟩, hrp⟩, hre, hBA⟩ hKD
    rw [hS] at hno
    have HNo : Hid (∀ c ∈ xs, ∀ p, c ≠ askedL k sa p) := hno.all
    have cp := hrp.cell (i := 0) rfl
    have ce := hre.cell (i := 0) rfl
    gi_wp2
    refine wpIn_region_on_wide (S := fun W' => W'.cell? ⟨w.heap.size + 1 + 1, 0, none⟩ = some (.slice none 0 0) ∧ W'.cell? ⟨w.heap.size + 1 + 1 + 1, 0, none⟩ = some (.int .i64 70)) (by kernel_rfl) (by kernel_rfl) ⟨by simpa using cp, by simpa using ce⟩ (fun hHeld => ?_)
    refine wpAnyH_takesAt 0 4 0 (of_decide_eq_true (by kernel_rfl)) rfl (fun _ _ _ _ _ h => h) (by kernel_rfl) (by kernel_rfl) hHeld ?_
    simp only [List.drop_zero, List.take_succ_cons, List.take_zero]
    iterate 4 (refine wpHeld_step (v := ?_) (by rfl) (fun wz hSw => ?_) ?_; rotate_left; (focus ((try dsimp only at hSw); go_simp; try with_reducible rfl)); (simp only [Act.put, List.setIfInBounds_toArray, List.set_cons_zero, List.set_cons_succ]))
    refine wpHeld_nil ?_
    refine wpAnyH_done (by kernel_rfl) ?_ _
    refine OnOnly.on ?_
    clear cp ce hrp hre hrk hra
    gi_wp2
    refine ⟨by simp, .inl ⟨_, _, rfl, run_takeDeferred (show A.drew.heap[E]? = _ from hKD), ?_⟩⟩
    refine ⟨_, results_tmp2 rfl _ _ _, ?_⟩
    exact ⟨_, _, rfl, .inl ⟨rfl, rfl, HNo.out⟩, (below_drewN hBA 1).trans (below_putObj _ _ (by omega))⟩
  case stop =>
    rintro E c pre A hE hr ⟨rfl, p, gg, cap, hm, hrp, hre, hcs, hBA⟩ hKD
    have cp := hrp.cell (i := 0) rfl
    have ce := hre.cell (i := 0) rfl
    have HCS : Hid (∀ i, i < p.size → A.cell? ⟨gg, i, none⟩ = some (.int .u8 ((bytesOf p).getD i 0 : Nat))) := hcs
    clear hcs hrp hre
    gi_wp2
    refine wpIn_region_on_wide (S := fun W' => W'.cell? ⟨w.heap.size + 1 + 1, 0, none⟩ = some (.slice (some ⟨gg, 0, none⟩) p.size cap) ∧ W'.cell? ⟨w.heap.size + 1 + 1 + 1, 0, none⟩ = some (.int .i64 0)) (by kernel_rfl) (by kernel_rfl) ⟨by simpa using cp, by simpa using ce⟩ (fun hHeld => ?_)
    refine wpAnyH_takesAt 0 4 0 (of_decide_eq_true (by kernel_rfl)) rfl (fun _ _ _ _ _ h => h) (by kernel_rfl) (by kernel_rfl) hHeld ?_
    simp only [List.drop_zero, List.take_succ_cons, List.take_zero]
    iterate 4 (refine wpHeld_step (v := ?_) (by rfl) (fun wz hSw => ?_) ?_; rotate_left; (focus ((try dsimp only at hSw); go_simp; try with_reducible rfl)); (simp only [Act.put, List.setIfInBounds_toArray, List.set_cons_zero, List.set_cons_succ]))
    refine wpHeld_nil ?_
    refine wpAnyH_done (by kernel_rfl) ?_ _
    refine OnOnly.on ?_
    clear cp ce
    gi_wp2
    refine ⟨by simp, .inl ⟨_, _, rfl, run_takeDeferred (show A.drew.heap[E]? = _ from hKD), ?_⟩⟩
    refine ⟨_, results_tmp2 rfl _ _ _, ?_⟩
    exact ⟨_, _, rfl, .inr ⟨rfl, p, gg, cap, hm, rfl, fun i hi => cell_putObj (A := A.drew) hKD rfl (HCS.out i hi)⟩, (below_drewN hBA 1).trans (below_putObj _ _ (by omega))⟩

end Go.Proofs.YtobmcaknfbooiaaDoor
