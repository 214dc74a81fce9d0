/-
  Rows.ShaRoundsCardSaid: for every eight words and every block, tabulariumlaw02.ShaRounds returns true, and both read behind the call as they read before; the table of the rounds' words holds what the program's own text lays there.
-/
import Derived.Test.YtellhlkcjckliaaDoorRows
import Derived.Test.YtellhlkcjckliaaDoorTie
import Derived.Test.YtellhlkcjckliaaDoorCards
import Derived.Test.YtellhlkcjckliaaDoorLaid
import Derived.Test.YtellhlkcjckliaaDoorRndW
import Derived.ChangeOld
import Derived.SevenTiedAt
namespace Go.Proofs.YtellhlkcjckliaaDoor.shaRounds
open Go.ChangeShapes Go.WideShapes Go.ChangeAt Go.RowKit

theorem nums_of {f : Nat → Value} {N : Nat} : ∀ {L : List Value}, (∀ v ∈ L, ∃ n : Nat, v = f n ∧ n < N) → ∃ l : List Nat, L = l.map f ∧ (∀ z ∈ l, z < N)
  | [], _ => ⟨[], rfl, fun z hz => by cases hz⟩
  | v :: L, h => by
    obtain ⟨n, rfl, hn⟩ := h v (by simp)
    obtain ⟨l, rfl, hl⟩ := nums_of (L := L) (fun u hu => h u (by simp [hu]))
    exact ⟨n :: l, rfl, fun z hz => by
      rcases List.mem_cons.1 hz with rfl | hz
      · exact hn
      · exact hl z hz⟩

/-- An array of numbers of one kind, as a value that is read: its cells. -/
theorem open_array {H : Type} {enc : TypeId × Value → H} {P : Program} {W : World} {t e : TypeId} {n N : Nat} {k : IntKind} (ht : P.underlying t = some (.array n e)) (he : P.underlying e = some (.int k)) (hc : P.cellsOf e = 1) (hcn : P.cellsOf t = n)
    (hwf : ∀ z, (Lit.int k z).wf = true → ∃ m : Nat, z = m ∧ m < N) {cs : List Value} {x : DataW H × List MemPlace} {sp : Nat → Bool} {held : Bool} {fuel : Nat} (h : DataW.trod enc P W 0 sp held fuel t cs = some x) :
    ∃ l : List Nat, cs = l.map (fun z => Value.int k (z : Nat)) ∧ l.length = n ∧ ∀ z ∈ l, z < N := by
  obtain ⟨xs, m1, rfl, hx1, hlen, hn, hel⟩ := DataW.trod_array ht h
  rw [hcn] at hlen
  have key : ∀ v ∈ cs, ∃ m : Nat, v = .int k (m : Nat) ∧ m < N := by
    intro v hv
    obtain ⟨i, hi, rfl⟩ := List.mem_iff_getElem.1 hv
    have h0 := hel i (by omega)
    rw [hc, Nat.mul_one, List.getElem?_eq_getElem (by omega : i < xs.length)] at h0
    obtain ⟨z, e1, e2, hw⟩ := DataW.trod_int he h0
    have hci := congrArg (fun l => l[0]?) e1
    simp only [List.getElem?_take, List.getElem?_drop, Nat.add_zero, List.getElem?_eq_getElem hi] at hci
    obtain ⟨m, rfl, hm⟩ := hwf z hw
    exact ⟨m, by simpa using hci, hm⟩
  obtain ⟨l, rfl, hl⟩ := nums_of (f := fun z => .int k (z : Nat)) key
  exact ⟨l, rfl, by simpa using hlen, hl⟩

theorem wf_u32 (z : Int) (h : (Lit.int .u32 z).wf = true) : ∃ m : Nat, z = m ∧ m < 4294967296 := by
  have := bounds_u32 h
  exact ⟨z.toNat, by omega, by omega⟩
theorem wf_u8 (z : Int) (h : (Lit.int .u8 z).wf = true) : ∃ m : Nat, z = m ∧ m < 256 := by
  have := bounds_u8 h
  exact ⟨z.toNat, by omega, by omega⟩

theorem st_of (l : List Nat) (hl : l.length = 8) (hb : ∀ z ∈ l, z < 4294967296) : ∃ s : St, s.list = l ∧ s.ok := by
  match l, hl with
  | [a, b, c, d, e, f, g, h], _ =>
    exact ⟨⟨a, b, c, d, e, f, g, h⟩, rfl, hb a (by simp), hb b (by simp), hb c (by simp), hb d (by simp), hb e (by simp), hb f (by simp), hb g (by simp), hb h (by simp)⟩

set_option maxRecDepth 100000 in
theorem lifted (os : Os) (started : os.Started) (H : Type) (enc : TypeId × Value → H) :
    ReturnsInHanded {} Tryd.checked os 5 .any (fun w args => (Rows.shaRoundsSpec.pre enc Tryd.prog Tryd.f5 [] false w args ∧ laidMetH Tryd.prog laidL w) ∧ sizedMet enc Tryd.prog Tryd.f5 (OpenSpec.ofChange Rows.shaRoundsSpec) false w args)
      (Rows.shaRoundsSpec.post enc Tryd.prog Tryd.f5 false true false false) := by
  refine returnsInHanded_of_change_and (C := Tryd.checked) (X := fun w _ => laidMetH Tryd.prog laidL w) (fun _ _ _ hh h => h.of_heap hh) own started (by kernel_rfl) Tryd.func5
    (ChangeSpec.witness_shaped (enc := enc) (C := Tryd.checked) (os := os) (X := fun w _ => laidMetH Tryd.prog laidL w) false (World.doorLaid Tryd.prog 14 os) #[.agg (List.replicate 8 (Value.int .u32 0)).toArray, .agg (List.replicate 64 (Value.int .u8 0)).toArray] 8 rfl (World.shaped_of_RefB (by kernel_rfl) (by kernel_rfl)) (by kernel_rfl) (by kernel_rfl) (by kernel_rfl) (door_met os _)) ?_
  intro W base args ds gs before hval0 hW _ _ hL _
  have hval : ∀ (j : Nat) t v, Tryd.f5.params[j]? = some t → args[j]? = some v → Value.okWide Tryd.prog W .any base t v := hval0
  have hW' := hW
  obtain ⟨p, q, hA0, hV, rfl, hfz, hnd⟩ := hW
  have hA : DataW.TrodAll enc Tryd.prog W 0 (fun _ => true) true Tryd.f5.params.toList args.toList ds p := hA0
  rw [Tryd.params5] at hA hval
  obtain ⟨v0, vs0, d0, ds0, p0, q0, hargs, rfl, rfl, h0, r0⟩ := trodAll_cons hA
  obtain ⟨v1, vs1, d1, ds1, p1, q1, rfl, rfl, rfl, h1, r1⟩ := trodAll_cons r0
  obtain ⟨rfl, rfl, rfl⟩ := trodAll_nil r1
  obtain rfl : args = #[v0, v1] := by cases args; simp_all
  obtain ⟨rfl, rfl⟩ := trodVars_none hV
  have k0 := h0
  have lt0 : ∀ x ∈ p0, x.block < W.heap.size := by obtain ⟨m, hm⟩ := k0; exact DataW.trod_lt m _ _ _ hm
  have k1 := h1
  have lt1 : ∀ x ∈ p1, x.block < W.heap.size := by obtain ⟨m, hm⟩ := k1; exact DataW.trod_lt m _ _ _ hm
  obtain ⟨cs0, rfl, hs0⟩ : ∃ cs, v0 = .agg cs ∧ cs.size = Tryd.prog.cellsOf 36 := by
    have h := hval 0 36 v0 rfl rfl
    simp only [Value.okWide, Tryd.underlying36] at h
    obtain ⟨cs, e1, e2, _⟩ := h
    exact ⟨cs, e1, e2⟩
  obtain ⟨cs1, rfl, hs1⟩ : ∃ cs, v1 = .agg cs ∧ cs.size = Tryd.prog.cellsOf 33 := by
    have h := hval 1 33 v1 rfl rfl
    simp only [Value.okWide, Tryd.underlying33] at h
    obtain ⟨cs, e1, e2, _⟩ := h
    exact ⟨cs, e1, e2⟩
  obtain ⟨l0, e0, hl0, hb0⟩ : ∃ l : List Nat, cs0.toList = l.map (fun z => Value.int .u32 (z : Nat)) ∧ l.length = 8 ∧ ∀ z ∈ l, z < 4294967296 := by
    obtain ⟨fuel, hf⟩ := h0
    exact open_array Tryd.underlying36 Tryd.underlying35 (by kernel_rfl) (by kernel_rfl) wf_u32 hf
  obtain ⟨l1, e1, hl1, hb1⟩ : ∃ l : List Nat, cs1.toList = l.map (fun z => Value.int .u8 (z : Nat)) ∧ l.length = 64 ∧ ∀ z ∈ l, z < 256 := by
    obtain ⟨fuel, hf⟩ := h1
    exact open_array Tryd.underlying33 Tryd.underlying5 (by kernel_rfl) (by kernel_rfl) wf_u8 hf
  obtain ⟨s, rfl, hok⟩ := st_of l0 hl0 hb0
  obtain rfl : cs0 = (u32s s.list).toArray := by rw [← Array.toArray_toList (xs := cs0), e0]; rfl
  obtain rfl : cs1 = (u8s l1).toArray := by rw [← Array.toArray_toList (xs := cs1), e1]; rfl
  clear hA0 hval0
  refine (rounds_any s hok l1 hl1 hb1 W (tab_of_laid hL)).mono fun e W' ⟨he, bel⟩ => ?_
  subst he
  exact ⟨_, rfl, _, _, _, [], _, [], hW', trodAll_mk1 (shut_bool Tryd.underlying4 _), (trodAll_cons_mk (Below.trod laidOut (by kernel_rfl) (of_decide_eq_true (by kernel_rfl)) k0 bel lt0) (trodAll_cons_mk (Below.trod laidOut (by kernel_rfl) (of_decide_eq_true (by kernel_rfl)) k1 bel lt1) trodAll_mk0)), rfl, bel.frame _, fun h => by cases h⟩

theorem over : Rows.shaRoundsRow.holds Tryd.pinned (OpenSpec.ofChange Rows.shaRoundsSpec) :=
  OpenClaim.holds_of_wide 5 Tryd.f5 rfl rfl rfl rfl rfl rfl rfl ⟨rfl, rfl, rfl, rfl, rfl⟩ rfl rfl rfl rfl rfl (by kernel_rfl) Tryd.func5 (by kernel_rfl)
    (of_decide_eq_true (by kernel_rfl)) (by unfold Func.isWrapper; first | (rw [if_pos (by decide +kernel)]; kernel_rfl) | (rw [if_neg (by decide +kernel)]; exact ⟨rfl, rfl⟩))
    (fun os started H enc _ => lifted os started H enc)

theorem card : Rows.ShaRoundsCardSaid :=
  Claim7.holds_tied_plain_at .later [] [.data] true (true, "d0338e62a0cc7f4444e8be96ed58c96b1335cfe1c1b150899cfd15f1907284d2") false
    over (fun _ h => by cases h) (by kernel_rfl) (fun _ h => by cases h) shaRounds_row_tie rfl ⟨rfl, rfl⟩ (by kernel_rfl) rfl
    (fun f fn hf hfn => by
      obtain rfl : f = 5 := Option.some.inj ((show Tryd.prog.funcNamed "tabularium/tabulariumlaw02.ShaRounds" = some 5 by kernel_rfl).symm.trans hf) |>.symm
      obtain rfl : fn = Tryd.f5 := (Option.some.inj (Tryd.func5.symm.trans hfn)).symm
      exact ⟨by kernel_rfl, fun j t ht => by
        rw [Tryd.params5] at ht
        have hm : t ∈ [36, 33] := by simpa using Array.mem_of_getElem? ht
        have hall : ([36, 33].all fun u => !Tryd.prog.wantsStandIn u) = true := by kernel_rfl
        exact (show Tryd.prog.wantsStandIn t = false by simpa using List.all_eq_true.1 hall t hm)⟩)
    (by kernel_rfl)

end Go.Proofs.YtellhlkcjckliaaDoor.shaRounds
namespace Go.Proofs.YtellhlkcjckliaaDoor

/-- The statement. -/
theorem shaRounds_holds : Rows.ShaRoundsCardSaid := shaRounds.card
#print axioms shaRounds_holds
end Go.Proofs.YtellhlkcjckliaaDoor
