/-
  What the law's own 'pieces' answers: the pieces of a text that vec.Chunks tells, at most so many, in a slice of its own.
-/
import Derived.Test.YthhjjijnjfbibaaChunk
namespace Go.Proofs.Ythhjjijnjfbibaa
open Go.RowKit Go.Shelf
attribute [local go_sem] Oper.semAt_some

theorem info22 : (Try.prog.info? 22).map (fun i => (i.zero, i.size, i.bytes)) = some (some (.slice none 0 0), 1, 24) := by kernel_rfl

/-- What a round of this loop keeps. -/
def KpT (n₂ : Nat) (A B : World) : Prop :=
  (∀ (k : Nat) (c : Array Value) (t : TypeId) (fr : Nat × Nat), A.heap[k]? = some (Obj.cells c t fr) → t = 45 ∨ t = 3 ∨ t = 5 → B.heap[k]? = some (Obj.cells c t fr)) ∧ KeepsFrom n₂ A B

theorem KpT.trans {n₂ : Nat} {A B C : World} (h : KpT n₂ A B) (k : KpT n₂ B C) : KpT n₂ A C :=
  ⟨fun i c t fr hi ht => k.1 i c t fr (h.1 i c t fr hi ht) ht, h.2.trans k.2⟩

theorem KpT.record {n₂ l : Nat} (hl : l < n₂) {A : World} {o : Obj} (o' : Obj) (ho : A.heap[l]? = some o) (hc : o.isCells = false) : KpT n₂ A (A.putObj l o') := by
  refine ⟨fun k c t fr hk _ => ?_, (grownBy_putObj' A l o').size, fun k q hk hq _ => (World.putObj_heap_other (by omega)).trans hq⟩
  rw [World.putObj_heap_other (fun e => by subst e; rw [ho] at hk; cases hk; cases hc)]
  exact hk

/-- A slice that owns some elements is a slice of as many. -/
theorem slice_of_row {W : World} {n₀ : Nat} {e : TypeId} {size : Nat} {v : Value} {n : Nat} {xs : List Value} (h : W.ownsRow n₀ e size v n xs) : ∃ q c, v = .slice q n c := by
  rcases h.2 with ⟨rfl, rfl⟩ | ⟨g, cap, _, rfl, _⟩
  · exact ⟨none, 0, rfl⟩
  · exact ⟨_, cap, rfl⟩

theorem IterAt.weaken {α : Type} {F : Fence} {n : Nat} {P : Program} {g : Nat} {lb : Array Value} {encs : α → Array Value} {Ok : α → World → Prop} {Kp : World → World → Prop} {S Sp S' Sp' : List α → Prop} {N l : Nat} {W : World}
    (h : IterAt F n P g lb encs Ok Kp S Sp N l W) (hS : ∀ xs, S xs → S' xs) (hSp : ∀ xs, Sp xs → Sp' xs) : IterAt F n P g lb encs Ok Kp S' Sp' N l W := fun J Jx hJ hJx hY h0 =>
  (h J Jx hJ hJx hY h0).mono fun e W' ⟨he, hr⟩ => ⟨he, by
    rcases hr with ⟨xs, hs, hj⟩ | ⟨xs, hs, hj⟩
    · exact .inl ⟨xs, hS xs hs, hj⟩
    · exact .inr ⟨xs, hSp xs hs, hj⟩⟩

/-- How many pieces there are. -/
def chCount (len m : Nat) : Nat := (len + m - 1) / m

theorem chCount_of {len m k : Nat} (hm : 1 ≤ m) (h1 : len ≤ m * k) (h2 : k = 0 ∨ m * (k - 1) < len) : chCount len m = k := by
  unfold chCount
  have e : (k - 1) * m = m * (k - 1) := Nat.mul_comm _ _
  rcases Nat.eq_zero_or_pos k with rfl | hk
  · rw [Nat.div_eq_of_lt (by simp at h1; omega)]
  · have e2 : m * k = m * (k - 1) + m := by rw [← Nat.mul_succ]; congr 1; omega
    apply Nat.le_antisymm
    · apply Nat.le_of_lt_succ
      rw [Nat.div_lt_iff_lt_mul (by omega)]
      have : (k + 1) * m = m * k + m := by rw [Nat.mul_comm, Nat.mul_succ]
      show _ < (k + 1) * m
      omega
    · rw [Nat.le_div_iff_mul_le (by omega), Nat.mul_comm]
      omega

theorem chCount_zero (len : Nat) : chCount len 0 = 0 := by simp [chCount]

/-- What the loop leaves where it has run out. -/
theorem told_all {zs : List Nat} {len : Nat} (hl : zs.length = len) {z : Int} {xs : List (Nat × Nat)} (hS : (1 ≤ z → ∃ k, len ≤ z.toNat * k ∧ xs.map (·.2) = List.range k) ∧ (z < 1 → xs = [])) {A : World} (hok : ∀ x ∈ xs, ChOk zs z.toNat x A) {most : Int} (hle : (xs.length : Int) ≤ most) :
    xs.map (·.2) = List.range (min most.toNat (chCount len z.toNat)) := by
  by_cases hz : 1 ≤ z
  · obtain ⟨k, hk, hx⟩ := hS.1 hz
    have hxl : xs.length = k := by have := congrArg List.length hx; simpa using this
    have hc : chCount len z.toNat = k := by
      refine chCount_of (by omega) hk ?_
      rcases Nat.eq_zero_or_pos k with h | h
      · exact .inl h
      · right
        have hmem : k - 1 ∈ xs.map (·.2) := by rw [hx]; simp; omega
        obtain ⟨x, hxm, hxe⟩ := List.mem_map.1 hmem
        have := (hok x hxm).1
        rw [hxe, hl] at this
        exact this
    rw [hc, hx, show min most.toNat k = k by omega]
  · have hx := hS.2 (by omega)
    subst hx
    rw [show z.toNat = 0 by omega, chCount_zero]
    simp

/-- .. where it was left. -/
theorem told_some {zs : List Nat} {len : Nat} (hl : zs.length = len) {m : Nat} (hm : 1 ≤ m) {pre : List (Nat × Nat)} {x : Nat × Nat} {k : Nat} (hx : (pre ++ [x]).map (·.2) = List.range k) {A : World} (hok : ChOk zs m x A) {most : Int} (hle : (pre.length : Int) = most) :
    pre.map (·.2) = List.range (min most.toNat (chCount len m)) := by
  have hk : pre.length + 1 = k := by have := congrArg List.length hx; simpa using this
  subst hk
  rw [List.range_succ, List.map_append, List.map_singleton] at hx
  have h1 := List.append_inj' hx rfl
  have hx1 : x.2 = pre.length := by simpa using h1.2
  have h2 := hok.1
  rw [hx1, hl] at h2
  have hc : pre.length ≤ chCount len m := by
    unfold chCount
    rw [Nat.le_div_iff_mul_le (by omega), Nat.mul_comm]
    omega
  rw [h1.1, show min most.toNat (chCount len m) = pre.length by omega]

theorem chOk_own (zs : List Nat) (m B : Nat) : OwnFrom B (ChOk zs m) := fun x A B' row hs hg hr => ⟨hs.1, text_own B (fun x : Nat × Nat => x.1) (fun x => pieceL zs m x.2) x A B' row hs.2 hg hr⟩
theorem chOk_all_own (zs : List Nat) (m B : Nat) : OwnFrom B (fun (pre : List (Nat × Nat)) W => ∀ x ∈ pre, ChOk zs m x W) := fun _ A B' row hs hg hr x hx => chOk_own zs m B x A B' row (hs x hx) hg hr

theorem kpT_grown {n₂ : Nat} {A B : World} {row : Option Nat} (hg : A.grownBy B row) (hr : ∀ k, row = some k → ∃ c t fr, A.heap[k]? = some (Obj.cells c t fr) ∧ t ≠ 45 ∧ t ≠ 3 ∧ t ≠ 5) : KpT n₂ A B := by
  refine ⟨fun k c t fr hk ht => ?_, hg.size, fun k o _ hk ho => ?_⟩
  · refine (hg.block k (Array.getElem?_eq_some_iff.1 hk).1 (fun e => ?_)).trans hk
    obtain ⟨c', t', fr', hk', h1, h2, h3⟩ := hr k e.symm
    rw [hk] at hk'
    cases hk'
    rcases ht with h | h | h
    · exact h1 h
    · exact h2 h
    · exact h3 h
  · refine (hg.block k (Array.getElem?_eq_some_iff.1 hk).1 (fun e => ?_)).trans hk
    obtain ⟨c', t', fr', hk', _⟩ := hr k e.symm
    rw [hk] at hk'
    cases hk'
    cases ho

theorem kpT_set {n₂ : Nat} {A : World} {b : Nat} {t : TypeId} {v : Value} (h : Boxed A b t v) (h1 : t ≠ 45) (h2 : t ≠ 3) (h3 : t ≠ 5) (u : Value) : KpT n₂ A (A.setCell ⟨b, 0, none⟩ u) :=
  kpT_grown (grownBy_setCell' A b u) (fun k e => by cases e; exact ⟨_, t, _, h, h1, h2, h3⟩)

theorem kpT_alloc {n₂ : Nat} (A : World) (o : Obj) : KpT n₂ A (A.alloc o) := kpT_grown (World.grownBy_alloc A o none) (fun k e => by cases e)

theorem row_tag {A : World} {n₀ : Nat} {e : TypeId} {size : Nat} {v : Value} {n : Nat} {xs : List Value} (h : A.ownsRow n₀ e size v n xs) (k : Nat) (hk : v.ownBlock = some k) : ∃ c fr, A.heap[k]? = some (Obj.cells c e fr) := by
  rcases h.2 with ⟨rfl, _⟩ | ⟨g, cap, cur, rfl, _, hg, _⟩
  · simp [Value.ownBlock] at hk
  · simp [Value.ownBlock] at hk
    subst hk
    exact ⟨_, _, hg⟩

theorem chOk_kept {n₂ : Nat} {A B : World} (hk : KpT n₂ A B) {zs : List Nat} {m : Nat} {x : Nat × Nat} (h : ChOk zs m x A) : ChOk zs m x B := ⟨h.1, hk.1 _ _ _ _ h.2 (.inr (.inr rfl))⟩

set_option maxRecDepth 100000 in
set_option maxHeartbeats 2000000 in
theorem told_in (n : Nat) (hn : 6 ≤ n) (p : Option Addr) (len cap : Nat) (zs : List Nat) (hlen : len ≤ 60000) (z most : Int) (hz2 : z ≤ 9223372036854775807) (hm0 : 0 ≤ most) (w : World) (hI : IsBytes w.heap.size w p len cap zs) :
    CallsIn Fence.wide n Try.prog 18 #[.slice p len cap, .int .i64 z, .int .i64 most] w fun e w' => ∃ (v : Value) (xs : List (Nat × Nat)), e = .returned v ∧ w'.ownsRow w.heap.size 22 1 v xs.length (xs.map (chVal zs z.toNat)) ∧ (∀ x ∈ xs, ChOk zs z.toNat x w') ∧
      xs.map (·.2) = List.range (min most.toNat (chCount len z.toNat)) ∧ Below w.heap.size w w' := by
  obtain ⟨i0, hi, hi0, hi1, hi2⟩ := info_parts info22
  have h1 : 1 ≤ n := by omega
  have hfn : ∀ f, Fence.wide.fn f := fun _ => trivial
  have HI : Hid (IsBytes w.heap.size w p len cap zs) := hI
  clear hI
  refine callsIn_of_wp_marks Try.func18 rfl trivial ?_ rfl
  simp only [Try.ntmps18, List.size_toArray, List.length_cons, List.length_nil, Nat.reduceAdd, Nat.reduceSub, Array.replicate_succ, Array.replicate_zero, List.push_toArray, List.append_toArray, List.nil_append, List.cons_append]
  have bM := Boxed.new w 3 (.int .i64 most)
  have bR := Boxed.new (w.alloc (.cells #[.int .i64 most] 3)) 35 (.slice none 0 0)
  have bU := Boxed.new ((w.alloc (.cells #[.int .i64 most] 3)).alloc (.cells #[.slice none 0 0] 35)) 35 (.slice none 0 0)
  simp only [World.size_alloc] at bR bU
  have hb3 : Below w.heap.size w (((w.alloc (.cells #[.int .i64 most] 3)).alloc (.cells #[.slice none 0 0] 35)).alloc (.cells #[.slice none 0 0] 35)) :=
    (((Below.refl _ w).alloc (Nat.le_refl _) _).alloc (by simp) _).alloc (by simp; omega) _
  have bM3 := (bM.alloc (.cells #[.slice none 0 0] 35)).alloc (.cells #[.slice none 0 0] 35)
  have bR3 := bR.alloc (.cells #[.slice none 0 0] 35)
  have HC := chunks_any p len cap zs hlen z _ (HI.out.later hb3)
  have HC' := HC
  clear HC bM bR
  gi_wp2_with (gi_at_call 23; refine (callsIn_wide.2 HC').mono ?_; rintro e w4 ⟨Bo, rfl, bO, bZ, hT, hb4⟩)
  simp only [World.size_alloc] at bO bZ hT
  have h04 : Below w.heap.size w w4 := hb3.trans (hb4.mono hb3.size)
  have hM4 := boxed_below bM3 hb4
  have hR4 := boxed_below bR3 hb4
  have hU4 := boxed_below bU hb4
  have hs4 : w.heap.size + 3 ≤ w4.heap.size := by have := hb4.size; simp at this; omega
  have hz256 := HI.out.2.2.2.1
  have hzl := HI.out.1
  clear HC' hb4 hb3 bM3 bR3 bU
  refine wpIn_rangeFunc_ok rfl h1 (gf := 26) (lb := #[.pointer (some ⟨Bo, 0, none⟩), .pointer (some ⟨w.heap.size + 1 + 1 + 1, 0, none⟩)]) rfl trivial (enters_of Try.func26 (by kernel_rfl) rfl)
    (encs := fun x => #[chVal zs z.toNat x]) (Ok := ChOk zs z.toNat) (Kp := KpT (w4.heap.size + 2)) (S := fun xs => (1 ≤ z → ∃ k, len ≤ z.toNat * k ∧ xs.map (·.2) = List.range k) ∧ (z < 1 → xs = [])) (Sp := fun pre => 1 ≤ z ∧ ∃ k, pre.map (·.2) = List.range k) (N := len)
    (fun W' hs hb => ?it) KpT.trans (fun A o o' ho hc => KpT.record (by omega) o' ho hc) (fun _ => rfl)
    (fun pre A => (∃ v, Boxed A (w.heap.size + 1 + 1) 35 v ∧ A.ownsRow w.heap.size 22 1 v pre.length (pre.map (chVal zs z.toNat)) ∧ (pre.length : Int) ≤ most) ∧ Boxed A w.heap.size 3 (.int .i64 most) ∧ Boxed A (w.heap.size + 1) 35 (.slice none 0 0) ∧ (∀ x ∈ pre, ChOk zs z.toNat x A) ∧ Below w.heap.size w A)
    (fun c pre A => (c = .ret ∧ ∃ (pre' : List (Nat × Nat)) (x : Nat × Nat), pre = pre' ++ [x] ∧ (pre'.length : Int) = most ∧ ChOk zs z.toNat x A ∧ (∃ v, Boxed A (w.heap.size + 1) 35 v ∧ A.ownsRow w.heap.size 22 1 v pre'.length (pre'.map (chVal zs z.toNat)) ∧ True) ∧ (∀ x ∈ pre', ChOk zs z.toNat x A)) ∧ Below w.heap.size w A)
    (OwnFrom.and (Own.from (holdsRow_own w.heap.size (w.heap.size + 1 + 1) 35 22 1 (fun pre : List (Nat × Nat) => pre.length) (fun pre => pre.map (chVal zs z.toNat)) (fun pre _ => (pre.length : Int) ≤ most)) _)
      (OwnFrom.and (Own.from (boxed_own _ _ _) _) (OwnFrom.and (Own.from (boxed_own _ _ _) _) (OwnFrom.and (chOk_all_own zs z.toNat _) (ownFrom_below (Nat.le_refl _) (by omega))))))
    (fun c => OwnFrom.and (fun s A B row hs hg hr => by
      obtain ⟨hc, pre', x, e, hx, hox, hv, ha⟩ := hs
      exact ⟨hc, pre', x, e, hx, chOk_own zs z.toNat _ x A B row hox hg hr, Own.from (holdsRow_own w.heap.size (w.heap.size + 1) 35 22 1 (fun pre : List (Nat × Nat) => pre.length) (fun pre => pre.map (chVal zs z.toNat)) (fun _ _ => True)) _ pre' A B row hv hg hr, chOk_all_own zs z.toNat _ pre' A B row ha hg hr⟩) (ownFrom_below (Nat.le_refl _) (by omega)))
    (chOk_own zs z.toNat _)
    ⟨⟨_, hU4, World.ownsRow_nil _ _ _ _, by simpa using hm0⟩, hM4, hR4, by simp, h04⟩
    (fun x => { tmps := #[.slice p len cap, .int .i64 z, .int .i64 most, undef, undef, .pointer (some ⟨w.heap.size, 0, none⟩), .pointer (some ⟨w.heap.size + 1, 0, none⟩), .pointer (some ⟨w.heap.size + 1 + 1, 0, none⟩), chVal zs z.toNat x, .slice p len cap, .int .i64 z,
      .func (.func 26) #[] #[.pointer (some ⟨Bo, 0, none⟩), .pointer (some ⟨w.heap.size + 1 + 1 + 1, 0, none⟩)], chVal zs z.toNat x, undef, undef, undef, undef, undef, undef, undef, undef, undef, undef], defers := [] }) ?assign ?body ?done ?stop
  case it =>
    by_cases hz : 1 ≤ z
    · obtain ⟨m, rfl⟩ := Int.eq_ofNat_of_zero_le (show 0 ≤ z by omega)
      simp only [Int.toNat_natCast]
      exact IterAt.weaken (chunks1_iter (n - 1) (by omega) _ Bo (w.heap.size + 1 + 1 + 1) (w.heap.size + 1 + 1 + 1 + 1) len zs hz256 hzl hlen m (by omega) hz2 W' (KpT (w4.heap.size + 2)) (fun _ _ h => h.1) (fun _ _ h => by rw [hs]; exact h.2)
        (boxed_below bO hb).cell (boxed_below bZ hb).cell (hT.below hb)) (fun xs h => ⟨fun _ => h, fun h' => by omega⟩) (fun xs h => ⟨hz, h⟩)
    · exact IterAt.weaken (chunks1_low (n - 1) (by omega) _ Bo (w.heap.size + 1 + 1 + 1) (w.heap.size + 1 + 1 + 1 + 1) len zs z (by omega) z.toNat len W' _ (boxed_below bO hb).cell (boxed_below bZ hb).cell) (fun xs h => ⟨fun h' => by omega, fun _ => h⟩) (fun xs h => h.elim)
  case assign =>
    intro l x W K hK
    gi_wp2
    exact hK
  case body =>
    rintro li pre x A ⟨⟨v, hv, hrow, hle⟩, hM, hR, hok, hB⟩ hox hN
    obtain ⟨q, c, rfl⟩ := slice_of_row hrow
    have hcU := hv.cell
    have hcM := hM.cell
    have hcR := hR.cell
    have hfR := hR.frozen
    by_cases heq : (pre.length : Int) = most
    · have hb1 : ((pre.length : Int) == most) = true := by simpa using heq
      have HE : Hid ((pre.length : Int) = most) := heq
      clear heq
      gi_wp2
      have hkp : KpT (w4.heap.size + 2) A (A.setCell ⟨w.heap.size + 1, 0, none⟩ (.slice q pre.length c)) := kpT_set hR (by decide) (by decide) (by decide) _
      exact ⟨(KeepsOthers.setCell _ _ _).from _, hkp, ⟨rfl, pre, x, rfl, HE.out, chOk_kept hkp hox, ⟨_, hR.set _, hrow.kept (grownBy_setCell' _ _ _) (.inr (hR.not_row (by decide) hrow).symm), trivial⟩, fun y hy => chOk_kept hkp (hok y hy)⟩,
        hB.setCell (p := ⟨w.heap.size + 1, 0, none⟩) (by simp) _⟩
    · have hb1 : ((pre.length : Int) == most) = false := by simpa using heq
      have HE : Hid ((pre.length : Int) + 1 ≤ most) := by show _ ≤ _; omega
      obtain ⟨L, hL⟩ : ∃ L, L = (pieceL zs z.toNat x.2).length := ⟨_, rfl⟩
      have e1 : chVal zs z.toNat x = .slice (some ⟨x.1, 0, none⟩) L L := by unfold chVal; rw [hL]
      have HE1 : Hid (chVal zs z.toNat x = .slice (some ⟨x.1, 0, none⟩) L L) := e1
      rw [e1]
      clear heq hL e1
      gi_wp2_with (gi_at_builtin; refine wpListIn_append_own _ rfl _ _ 35 rfl w.heap.size 22 i0 (.slice none 0 0) 1 24 Try.underlying35 hi hi0 hi1 hi2 rfl (by decide) _ _ _ rfl (hrow.alloc _) ⟨A.heap.size, 0, none⟩ 1 1 [.slice (some ⟨x.1, 0, none⟩) L L] rfl rfl (cell_one_new _ _ _) (by simp [Value.oneCell']) (by simp only [maxLen]; omega) (by omega) (by have := hB.size; simp; omega) ?_; intro v' w1 hown' hgrow _; obtain ⟨g', cap', rfl⟩ := ownsRow_succ hown'; obtain ⟨hv1, hv2, hr2, hk2, hb2⟩ := hv.appended (by decide) hrow hB.size (by omega) hown' hgrow; have hc1 := hv1.cell; have hf1 := hv1.frozen)
      have hkp : KpT (w4.heap.size + 2) A (w1.setCell ⟨w.heap.size + 1 + 1, 0, none⟩ (.slice (some ⟨g', 0, none⟩) (pre.length + 1) cap')) :=
        ((kpT_alloc A _).trans (kpT_grown hgrow (fun k e => by obtain ⟨c', fr', h'⟩ := row_tag (hrow.alloc _) k e; exact ⟨_, _, _, h', by decide, by decide, by decide⟩))).trans (kpT_set hv1 (by decide) (by decide) (by decide) _)
      refine ⟨hk2.from _, hkp, ⟨⟨_, hv2, ?_, ?_⟩, boxed_kept (Kp := KpT (w4.heap.size + 2)) (fun _ _ h => h.1) hkp hM (.inr (.inl rfl)), ?_, ?_, hB.trans hb2⟩⟩
      · rw [List.map_append, List.map_singleton, HE1.out]; simpa using hr2
      · have := HE.out; simp; omega
      · exact (((hR.alloc _).kept hgrow (hR.not_row (by decide) hrow))).other (by omega) _
      · intro y hy
        rcases List.mem_append.1 hy with hy | hy
        · exact chOk_kept hkp (hok y hy)
        · simp at hy; subst hy; exact chOk_kept hkp hox
  case done =>
    rintro D xs A hD hS ⟨⟨v, hv, hrow, hle⟩, hM, hR, hok, hB⟩ hKD
    obtain ⟨q, c, rfl⟩ := slice_of_row hrow
    have hcU := hv.cell
    have hcR := hR.cell
    have hfR := hR.frozen
    have HF : Hid (xs.map (·.2) = List.range (min most.toNat (chCount len z.toNat))) := told_all hzl hS hok hle
    clear hS
    gi_wp2
    have hK' := (KeepsOthers.setCell A ⟨w.heap.size + 1, 0, none⟩ (.slice q xs.length c)).same D _ hKD rfl
    refine ⟨by simp, .inl ⟨_, _, rfl, run_takeDeferred hK', ?_⟩⟩
    have hkp : KpT 0 A (A.setCell ⟨w.heap.size + 1, 0, none⟩ (.slice q xs.length c)) := kpT_set hR (by decide) (by decide) (by decide) _
    have hrow2 := hrow.kept (grownBy_setCell' A (w.heap.size + 1) (.slice q xs.length c)) (.inr (hR.not_row (by decide) hrow).symm)
    have hc5 := cell_kept (World.cell?_setCell_same' A ⟨w.heap.size + 1, 0, none⟩ (.slice q xs.length c) (by rw [hcR]; rfl)) (grownBy_putObj' _ D (.deferred none)) (fun r e => by cases e; exact ⟨_, hK', rfl⟩)
    refine ⟨.slice q xs.length c, ?_, _, xs, rfl, ownsRow_putObj hrow2 _ hK' rfl, fun x hx => OwnFrom.putObj (chOk_own zs z.toNat 0) _ (chOk_kept hkp (hok x hx)) (Nat.zero_le _) hK' rfl, HF.out, (hB.setCell (p := ⟨w.heap.size + 1, 0, none⟩) (by simp) _).trans (belowK_b (w := w) (Nat.le_refl _) _ D _ _ (by omega) hK' rfl rfl)⟩
    simp [results, Try.f18, go_sem, hc5]
  case stop =>
    rintro D c pre A hD ⟨hz, k, hk⟩ ⟨⟨rfl, pre', x, rfl, hx, hox, ⟨v, hv, hrow, _⟩, hok⟩, hB⟩ hKD
    have HF : Hid (pre'.map (·.2) = List.range (min most.toNat (chCount len z.toNat))) := told_some hzl (by omega) hk hox hx
    obtain ⟨q, c, rfl⟩ := slice_of_row hrow
    clear hk hx
    gi_wp2
    refine ⟨by simp, .inl ⟨_, _, rfl, run_takeDeferred hKD, ?_⟩⟩
    have hc5 := cell_kept hv.cell (grownBy_putObj' _ D (.deferred none)) (fun r e => by cases e; exact ⟨_, hKD, rfl⟩)
    refine ⟨.slice q pre'.length c, ?_, _, pre', rfl, ownsRow_putObj hrow _ hKD rfl, fun x hx => OwnFrom.putObj (chOk_own zs z.toNat 0) _ (hok x hx) (Nat.zero_le _) hKD rfl, HF.out, hB.trans (belowK_b (w := w) (Nat.le_refl _) _ D _ _ (by omega) hKD rfl rfl)⟩
    simp [results, Try.f18, go_sem, hc5]

/-- the law's pieces -/
theorem told_any (p : Option Addr) (len cap : Nat) (zs : List Nat) (hlen : len ≤ 60000) (z most : Int) (hz2 : z ≤ 9223372036854775807) (hm0 : 0 ≤ most) (w : World) (hI : IsBytes w.heap.size w p len cap zs) :
    Calls Try.prog 18 #[.slice p len cap, .int .i64 z, .int .i64 most] w fun e w' => ∃ (v : Value) (xs : List (Nat × Nat)), e = .returned v ∧ w'.ownsRow w.heap.size 22 1 v xs.length (xs.map (chVal zs z.toNat)) ∧ (∀ x ∈ xs, ChOk zs z.toNat x w') ∧
      xs.map (·.2) = List.range (min most.toNat (chCount len z.toNat)) ∧ Below w.heap.size w w' :=
  callsIn_wide.1 (told_in 6 (Nat.le_refl _) p len cap zs hlen z most hz2 hm0 w hI)

end Go.Proofs.Ythhjjijnjfbibaa
