/-
  What vec.Chunks tells: the pieces of a text by n bytes, each in a block of its own, in their order; it may be left at any time.
-/
import Derived.Test.YtifjkkfienmdjaaChClone
import Derived.RegionIn
namespace Go.Proofs.Ytifjkkfienmdjaa.Ch
open Go.RowKit Go.Shelf
attribute [local go_sem] Oper.semAt_some

/-- Piece j of zs by m. -/
def pieceL (zs : List Nat) (m j : Nat) : List Nat := (zs.drop (m * j)).take m

theorem pieceL_length (zs : List Nat) (m j : Nat) : (pieceL zs m j).length = min m (zs.length - m * j) := by simp [pieceL]

/-- What is handed over: a block and the number of the piece that lies there. -/
def chVal (zs : List Nat) (m : Nat) (x : Nat × Nat) : Value := .slice (some ⟨x.1, 0, none⟩) (pieceL zs m x.2).length (pieceL zs m x.2).length
def ChOk (zs : List Nat) (m : Nat) (x : Nat × Nat) (W : World) : Prop := m * x.2 < zs.length ∧ Text W x.1 (pieceL zs m x.2)

theorem room_none {m m' : Nat} {P : Program} {l : Nat} {args : Array Value} {W : World} {R : Ending → World → Prop} (h : YieldAt Fence.wide m P l args W R) : YieldAt Fence.wide m' P l args W R := by
  obtain ⟨fn, tmps, assign, body, hy, hR⟩ := h
  exact ⟨fn, tmps, assign, body, hy, hR.1, fun c cs _ => hR.2 c cs (room_wide _)⟩

theorem text_own {β : Type} (B : Nat) (f : β → Nat) (zs : β → List Nat) : OwnFrom B (fun s W => Text W (f s) (zs s)) := fun s A B' row hs hg hr =>
  (hg.block _ hs.lt (fun e => by
    obtain ⟨_, o, ho, hc⟩ := hr _ e.symm
    rw [show A.heap[f s]? = _ from hs] at ho; cases ho; cases hc)).trans hs

theorem piece_bytes {zs : List Nat} (hz : ∀ z ∈ zs, z < 256) {len m j bo : Nat} (hl : zs.length = len) (hlen : len ≤ 60000) (hj : m * j < len) {A : World} (hT : Text A bo zs) :
    IsBytes A.heap.size A (some ⟨bo, m * j, none⟩) (pieceL zs m j).length (len - m * j) (pieceL zs m j) := by
  have hle : (pieceL zs m j).length ≤ len - m * j := by rw [pieceL_length]; omega
  refine ⟨rfl, hle, by omega, fun z h => hz z (List.mem_of_mem_drop (List.mem_of_mem_take h)), .inr ⟨bo, m * j, rfl, hT.lt, fun i hi => ?_⟩⟩
  have hi2 : i < m := by rw [pieceL_length] at hi; omega
  rw [hT.cell (m * j + i) (by omega)]
  simp [pieceL, hi2]

theorem keepsFrom_ge {B B' : Nat} {X Y : World} (h : KeepsFrom B X Y) (hB : B ≤ B') : KeepsFrom B' X Y := ⟨h.size, fun k o hk => h.same k o (Nat.le_trans hB hk)⟩

theorem boxed_kept {Kd : Nat → Prop} {Kp : World → World → Prop} (hK1 : ∀ A B, Kp A B → ∀ (k : Nat) (c : Array Value) (t : TypeId) (fr : Nat × Nat), A.heap[k]? = some (Obj.cells c t fr) → Kd k → B.heap[k]? = some (Obj.cells c t fr))
    {A B : World} (hk : Kp A B) {b : Nat} {t : TypeId} {v : Value} (h : Boxed A b t v) (ht : Kd b) : Boxed B b t v := hK1 A B hk b _ t _ h ht

set_option maxRecDepth 100000 in
set_option maxHeartbeats 2000000 in
theorem chunks1_iter (n : Nat) (hn : 4 ≤ n) (l Bo Bn bo len : Nat) (zs : List Nat) (hz : ∀ z ∈ zs, z < 256) (hl : zs.length = len) (hlen : len ≤ 60000) (m : Nat) (hm1 : 1 ≤ m) (hm2 : (m : Int) ≤ 9223372036854775807) (W : World)
    (Kd : Nat → Prop) (hKd1 : Kd bo) (hKd2 : ∀ k, W.heap.size ≤ k → Kd k) (Kp : World → World → Prop) (hK1 : ∀ A B, Kp A B → ∀ (k : Nat) (c : Array Value) (t : TypeId) (fr : Nat × Nat), A.heap[k]? = some (Obj.cells c t fr) → Kd k → B.heap[k]? = some (Obj.cells c t fr)) (hK2 : ∀ A B, Kp A B → KeepsFrom W.heap.size A B)
    (hco : W.cell? ⟨Bo, 0, none⟩ = some (.slice (some ⟨bo, 0, none⟩) len len)) (hcn : W.cell? ⟨Bn, 0, none⟩ = some (.int .i64 m)) (hT : Text W bo zs) :
    IterAt Fence.wide n Try.prog 57 #[.pointer (some ⟨Bo, 0, none⟩), .pointer (some ⟨Bn, 0, none⟩)] (fun x => #[chVal zs m x]) (ChOk zs m) Kp
      (fun xs => ∃ k, len ≤ m * k ∧ xs.map (·.2) = List.range k) (fun pre => ∃ k, pre.map (·.2) = List.range k) len l W := by
  intro J Jx hJ hJx hY h0
  have h1 : 1 ≤ n := by omega
  have hfn : ∀ f, Fence.wide.fn f := fun _ => trivial
  have hco1 := (World.cell?_alloc_lt W (.cells #[.func (.yield l) #[] #[]] 97) ⟨Bo, 0, none⟩ (World.block_lt_of_cell? W _ hco)).trans hco
  have hcn1 := (World.cell?_alloc_lt W (.cells #[.func (.yield l) #[] #[]] 97) ⟨Bn, 0, none⟩ (World.block_lt_of_cell? W _ hcn)).trans hcn
  refine callsIn_of_wp_marks Try.func57 rfl trivial ?_ rfl
  simp only [Try.ntmps57, List.size_toArray, List.length_cons, List.length_nil, Nat.reduceAdd, Nat.reduceSub, Array.replicate_succ, Array.replicate_zero, List.push_toArray, List.append_toArray, List.nil_append, List.cons_append]
  gi_wp2_with (gi_at_call 58; refine (pieces_in Fence.wide _ trivial rfl _ _ _ _ _).mono ?_; rintro e w' ⟨rfl, rfl⟩)
  obtain ⟨By, hBy⟩ : ∃ By, By = W.heap.size := ⟨_, rfl⟩
  have bY := Boxed.new W 97 (.func (.yield l) #[] #[])
  have bB := Boxed.new (W.alloc (.cells #[.func (.yield l) #[] #[]] 97)) 25 (.slice (some ⟨bo, 0, none⟩) len len)
  have bN := Boxed.new ((W.alloc (.cells #[.func (.yield l) #[] #[]] 97)).alloc (.cells #[.slice (some ⟨bo, 0, none⟩) len len] 25)) 3 (.int .i64 m)
  simp only [World.size_alloc] at bB bN
  have hB3 : Below W.heap.size W (((W.alloc (.cells #[.func (.yield l) #[] #[]] 97)).alloc (.cells #[.slice (some ⟨bo, 0, none⟩) len len] 25)).alloc (.cells #[.int .i64 m] 3)) :=
    (((Below.refl _ W).alloc (Nat.le_refl _) _).alloc (by simp) _).alloc (by simp; omega) _
  have bY3 := (bY.alloc (.cells #[.slice (some ⟨bo, 0, none⟩) len len] 25)).alloc (.cells #[.int .i64 m] 3)
  have bB3 := bB.alloc (.cells #[.int .i64 m] 3)
  clear hco1 hcn1 bY bB
  generalize hw3 : (((W.alloc (.cells #[.func (.yield l) #[] #[]] 97)).alloc (.cells #[.slice (some ⟨bo, 0, none⟩) len len] 25)).alloc (.cells #[.int .i64 m] 3)) = w3 at *
  have hs3 : w3.heap.size = W.heap.size + 3 := by rw [← hw3]; simp
  clear hw3
  refine wpIn_rangeFunc_ok rfl h1 (gf := 59) (lb := #[.pointer (some ⟨W.heap.size + 1 + 1, 0, none⟩), .pointer (some ⟨W.heap.size + 1, 0, none⟩)]) rfl trivial (enters_of Try.func59 (by kernel_rfl) rfl)
    (Kp := fun A B => ∀ v, A.cell? ⟨W.heap.size + 1 + 1, 0, none⟩ = some v → B.cell? ⟨W.heap.size + 1 + 1, 0, none⟩ = some v)
    (fun W' _ hb => pieces_iter Fence.wide (n - 1) trivial rfl (by omega) _ (W.heap.size + 1 + 1) (W.heap.size + 1) (some ⟨bo, 0, none⟩) len len m hm1 hm2 _ (fun _ _ v h => h v) W' (boxed_below bN hb).cell (boxed_below bB3 hb).cell (Nat.le_refl _) (by omega) (.inr ⟨bo, 0, rfl⟩))
    (fun h k v hv => k v (h v hv)) (fun A o o' ho hc v hv => cell_kept hv (grownBy_putObj' _ _ o') (fun r e => by cases e; exact ⟨_, ho, hc⟩)) (fun _ => rfl)
    (fun pre A => (∃ xs : List (Nat × Nat), xs.map (·.2) = pre.map (·.1) ∧ J xs A) ∧ Boxed A W.heap.size 97 (.func (.yield l) #[] #[]) ∧ Boxed A (W.heap.size + 1 + 1) 3 (.int .i64 m) ∧ Text A bo zs)
    (fun c pre A => c = .ret ∧ ∃ xs : List (Nat × Nat), xs.map (·.2) = pre.map (·.1) ∧ Jx xs A)
    (OwnFrom.and (fun s A B row ⟨xs, hx, hj⟩ hg hr => ⟨xs, hx, OwnFrom.mono hJ (by omega) xs A B row hj hg hr⟩) (OwnFrom.and (Own.from (boxed_own _ _ _) _) (OwnFrom.and (Own.from (boxed_own _ _ _) _) (text_own _ (fun _ => bo) (fun _ => zs)))))
    (fun c s A B row ⟨hc, xs, hx, hj⟩ hg hr => ⟨hc, xs, hx, OwnFrom.mono hJx (by omega) xs A B row hj hg hr⟩)
    (fun _ _ _ _ h _ _ => h)
    ⟨⟨[], rfl, OwnFrom.grow hJ h0 hB3⟩, bY3, bN, hT.below hB3⟩
    (fun x => { tmps := #[.func (.yield l) #[] #[], .pointer (some ⟨Bo, 0, none⟩), .pointer (some ⟨Bn, 0, none⟩), .pointer (some ⟨W.heap.size, 0, none⟩), pcVal bo 0 m len len x.1, .slice (some ⟨bo, 0, none⟩) len len, .int .i64 m,
      .func (.func 59) #[] #[.pointer (some ⟨W.heap.size + 1 + 1, 0, none⟩), .pointer (some ⟨W.heap.size + 1, 0, none⟩)], pcVal bo 0 m len len x.1, undef, undef, undef, undef, undef], defers := [] }) ?assign ?body ?done ?stop
  case assign =>
    intro l x W K hK
    gi_wp2
    exact hK
  case body =>
    rintro li pre x A ⟨⟨xs, hxs, hj⟩, hbY, hbN, hTA⟩ _ hlt
    obtain ⟨j, hjx⟩ : ∃ j, j = x.1 := ⟨_, rfl⟩
    have hjl : m * j < len := by rw [hjx]; exact x.2
    have hIB : IsBytes A.heap.size A (some ⟨bo, m * j, none⟩) (pieceL zs m j).length (len - m * j) (pieceL zs m j) := piece_bytes hz hl hlen hjl hTA
    obtain ⟨L, hL⟩ : ∃ L, L = (pieceL zs m j).length := ⟨_, rfl⟩
    have hLl : L ≤ 60000 := by rw [hL, pieceL_length]; omega
    have e1 : pcVal bo 0 m len len j = .slice (some ⟨bo, m * j, none⟩) L (len - m * j) := by
      unfold pcVal; rw [hL, pieceL_length, hl, Nat.zero_add]
    have e2 : ∀ g, chVal zs m (g, j) = .slice (some ⟨g, 0, none⟩) L L := fun g => by unfold chVal; rw [hL]
    have HCl : Hid (Calls Try.prog 56 #[.slice (some ⟨bo, m * j, none⟩) L (len - m * j)] A.drew fun e w' => e = .returned (.slice (some ⟨A.heap.size, 0, none⟩) L L) ∧ Text w' A.heap.size (pieceL zs m j) ∧ Below A.heap.size A w') := by
      rw [← hL] at hIB
      exact (clone_any _ L _ _ hLl A.drew hIB).mono fun e w' ⟨he, ht, hb⟩ => ⟨he, ht, (Below.refl _ A).drew.trans hb⟩
    have HYd : Hid (∀ A2, Below A.heap.size A A2 → Text A2 A.heap.size (pieceL zs m j) → YieldAt Fence.wide (n - 1 - 1 - 1) Try.prog l #[.slice (some ⟨A.heap.size, 0, none⟩) L L] A2 fun e W' =>
        (e = .returned (.bool true) ∧ J (xs ++ [(A.heap.size, j)]) W' ∧ Kp A2 W') ∨ (e = .returned (.bool false) ∧ Jx (xs ++ [(A.heap.size, j)]) W' ∧ Kp A2 W')) := fun A2 hb ht => by
      have h := hY xs (A.heap.size, j) A2 (OwnFrom.grow hJ hj hb) ⟨by rw [hl]; exact hjl, ht⟩ (by have := congrArg List.length hxs; simp at this; omega)
      rw [e2] at h
      exact room_none h
    have hxs2 : Hid (∀ g : Nat, (xs ++ [(g, j)]).map (·.2) = (pre ++ [x]).map (·.1)) := fun g => by simp [hxs, hjx]
    have HbY : Hid (Boxed A W.heap.size 97 (.func (.yield l) #[] #[])) := hbY
    have HbN : Hid (Boxed A (W.heap.size + 1 + 1) 3 (.int .i64 m)) := hbN
    have HTA : Hid (Text A bo zs) := hTA
    have hcY := hbY.cell
    rw [← hjx, e1]
    clear hjx
    generalize m * j = O at *
    generalize len - O = C at *
    clear hIB hY hj hxs hL e1 e2 hbY hbN hTA hjl
    gi_wp2
    refine wpIn_region_any (by kernel_rfl) ?_
    change wpAnyIn _ _ _ _ _ _ _ _ _ A.drew
    refine wpAnyIn_either (i := 0) (j := 1) (by kernel_rfl) rfl rfl (by rfl) (by rfl) (fun K hK => ?_) (fun K hK => ?_)
    · go_simp
      refine hK.out _ _ ?_
      clear hK K
      refine wpAnyIn_only (i := 1) (by kernel_rfl) rfl (by rfl) (fun K hK => ?_)
      go_simp
      refine hK.out _ _ ?_
      clear hK K
      refine wpAnyIn_only (i := 2) (by kernel_rfl) rfl (by rfl) (fun K hK => ?_)
      go_simp
      refine ⟨fun _ => by omega, (CallsIn.inRound li (callsIn_wide.2 HCl.out)).mono ?_⟩
      rintro e A2 ⟨rfl, ht2, hb2⟩
      refine hK.out _ _ ?_
      clear hK K
      obtain ⟨fn, tmps, assign, body, hy, hR⟩ := HYd.out A2 hb2 ht2
      refine wpAnyIn_only (i := 3) (by kernel_rfl) rfl (by rfl) (fun K hK => ?_)
      go_simp
      refine ⟨fun _ => by omega, RoundIn.mono (show RoundIn (Fence.wide.inRound li) _ _ _ _ _ _ _ _ _ from hR) ?_⟩
      rintro e A3 (⟨rfl, hJ3, hk3⟩ | ⟨rfl, hJ3, hk3⟩)
      · refine hK.out _ _ ?_
        clear hK K
        refine wpAnyIn_only (i := 4) (by kernel_rfl) rfl (by rfl) (fun K hK => ?_)
        go_simp
        refine hK.out _ _ ⟨by kernel_rfl, ?_⟩
        clear hK K
        gi_wp2
        exact ⟨(keepsFrom_of_below hb2).trans (keepsFrom_ge (hK2 _ _ hk3) (by omega)), fun v hv => by rw [HbN.out.cell] at hv; cases hv; exact (boxed_kept hK1 hk3 (boxed_below HbN.out hb2) (hKd2 _ (by omega))).cell,
          ⟨⟨_, hxs2.out _, hJ3⟩, boxed_kept hK1 hk3 (boxed_below HbY.out hb2) (hKd2 _ (by omega)), boxed_kept hK1 hk3 (boxed_below HbN.out hb2) (hKd2 _ (by omega)), hK1 _ _ hk3 _ _ _ _ (HTA.out.below hb2) hKd1⟩⟩
      · refine hK.out _ _ ?_
        clear hK K
        refine wpAnyIn_only (i := 4) (by kernel_rfl) rfl (by rfl) (fun K hK => ?_)
        go_simp
        refine hK.out _ _ ⟨by kernel_rfl, ?_⟩
        clear hK K
        gi_wp2
        exact ⟨(keepsFrom_of_below hb2).trans (keepsFrom_ge (hK2 _ _ hk3) (by omega)), fun v hv => by rw [HbN.out.cell] at hv; cases hv; exact (boxed_kept hK1 hk3 (boxed_below HbN.out hb2) (hKd2 _ (by omega))).cell, rfl, _, hxs2.out _, hJ3⟩
    · go_simp
      refine hK.out _ _ ?_
      clear hK K
      refine wpAnyIn_either (i := 0) (j := 2) (by kernel_rfl) rfl rfl (by rfl) (by rfl) (fun K hK => ?_) (fun K hK => ?_)
      · go_simp
        refine hK.out _ _ ?_
        clear hK K
        refine wpAnyIn_only (i := 2) (by kernel_rfl) rfl (by rfl) (fun K hK => ?_)
        go_simp
        refine ⟨fun _ => by omega, (CallsIn.inRound li (callsIn_wide.2 HCl.out)).mono ?_⟩
        rintro e A2 ⟨rfl, ht2, hb2⟩
        refine hK.out _ _ ?_
        clear hK K
        obtain ⟨fn, tmps, assign, body, hy, hR⟩ := HYd.out A2 hb2 ht2
        refine wpAnyIn_only (i := 3) (by kernel_rfl) rfl (by rfl) (fun K hK => ?_)
        go_simp
        refine ⟨fun _ => by omega, RoundIn.mono (show RoundIn (Fence.wide.inRound li) _ _ _ _ _ _ _ _ _ from hR) ?_⟩
        rintro e A3 (⟨rfl, hJ3, hk3⟩ | ⟨rfl, hJ3, hk3⟩)
        · refine hK.out _ _ ?_
          clear hK K
          refine wpAnyIn_only (i := 4) (by kernel_rfl) rfl (by rfl) (fun K hK => ?_)
          go_simp
          refine hK.out _ _ ⟨by kernel_rfl, ?_⟩
          clear hK K
          gi_wp2
          exact ⟨(keepsFrom_of_below hb2).trans (keepsFrom_ge (hK2 _ _ hk3) (by omega)), fun v hv => by rw [HbN.out.cell] at hv; cases hv; exact (boxed_kept hK1 hk3 (boxed_below HbN.out hb2) (hKd2 _ (by omega))).cell,
            ⟨⟨_, hxs2.out _, hJ3⟩, boxed_kept hK1 hk3 (boxed_below HbY.out hb2) (hKd2 _ (by omega)), boxed_kept hK1 hk3 (boxed_below HbN.out hb2) (hKd2 _ (by omega)), hK1 _ _ hk3 _ _ _ _ (HTA.out.below hb2) hKd1⟩⟩
        · refine hK.out _ _ ?_
          clear hK K
          refine wpAnyIn_only (i := 4) (by kernel_rfl) rfl (by rfl) (fun K hK => ?_)
          go_simp
          refine hK.out _ _ ⟨by kernel_rfl, ?_⟩
          clear hK K
          gi_wp2
          exact ⟨(keepsFrom_of_below hb2).trans (keepsFrom_ge (hK2 _ _ hk3) (by omega)), fun v hv => by rw [HbN.out.cell] at hv; cases hv; exact (boxed_kept hK1 hk3 (boxed_below HbN.out hb2) (hKd2 _ (by omega))).cell, rfl, _, hxs2.out _, hJ3⟩
      · go_simp
        refine ⟨fun _ => by omega, (CallsIn.inRound li (callsIn_wide.2 HCl.out)).mono ?_⟩
        rintro e A2 ⟨rfl, ht2, hb2⟩
        refine hK.out _ _ ?_
        clear hK K
        have hcY2 := (boxed_below HbY.out hb2).cell
        refine wpAnyIn_only (i := 0) (by kernel_rfl) rfl (by rfl) (fun K hK => ?_)
        go_simp
        refine hK.out _ _ ?_
        clear hK K
        obtain ⟨fn, tmps, assign, body, hy, hR⟩ := HYd.out A2 hb2 ht2
        refine wpAnyIn_only (i := 3) (by kernel_rfl) rfl (by rfl) (fun K hK => ?_)
        go_simp
        refine ⟨fun _ => by omega, RoundIn.mono (show RoundIn (Fence.wide.inRound li) _ _ _ _ _ _ _ _ _ from hR) ?_⟩
        rintro e A3 (⟨rfl, hJ3, hk3⟩ | ⟨rfl, hJ3, hk3⟩)
        · refine hK.out _ _ ?_
          clear hK K
          refine wpAnyIn_only (i := 4) (by kernel_rfl) rfl (by rfl) (fun K hK => ?_)
          go_simp
          refine hK.out _ _ ⟨by kernel_rfl, ?_⟩
          clear hK K
          gi_wp2
          exact ⟨(keepsFrom_of_below hb2).trans (keepsFrom_ge (hK2 _ _ hk3) (by omega)), fun v hv => by rw [HbN.out.cell] at hv; cases hv; exact (boxed_kept hK1 hk3 (boxed_below HbN.out hb2) (hKd2 _ (by omega))).cell,
            ⟨⟨_, hxs2.out _, hJ3⟩, boxed_kept hK1 hk3 (boxed_below HbY.out hb2) (hKd2 _ (by omega)), boxed_kept hK1 hk3 (boxed_below HbN.out hb2) (hKd2 _ (by omega)), hK1 _ _ hk3 _ _ _ _ (HTA.out.below hb2) hKd1⟩⟩
        · refine hK.out _ _ ?_
          clear hK K
          refine wpAnyIn_only (i := 4) (by kernel_rfl) rfl (by rfl) (fun K hK => ?_)
          go_simp
          refine hK.out _ _ ⟨by kernel_rfl, ?_⟩
          clear hK K
          gi_wp2
          exact ⟨(keepsFrom_of_below hb2).trans (keepsFrom_ge (hK2 _ _ hk3) (by omega)), fun v hv => by rw [HbN.out.cell] at hv; cases hv; exact (boxed_kept hK1 hk3 (boxed_below HbN.out hb2) (hKd2 _ (by omega))).cell, rfl, _, hxs2.out _, hJ3⟩
  case done =>
    rintro D ys A hD ⟨k, hk, hys⟩ ⟨⟨xs, hxs, hj⟩, _, _, _⟩ hKD
    gi_wp2
    refine ⟨by simp, .inl ⟨_, _, rfl, run_takeDeferred hKD, ?_⟩⟩
    exact ⟨_, results_none rfl _ _ _, ⟨_, rfl⟩, .inl ⟨xs, ⟨k, hk, hxs.trans hys⟩, OwnFrom.putObj (OwnFrom.mono hJ (by omega : W.heap.size ≤ w3.heap.size)) _ hj hD hKD rfl⟩⟩
  case stop =>
    rintro D c pre A hD ⟨k, hk⟩ ⟨rfl, xs, hxs, hj⟩ hKD
    gi_wp2
    refine ⟨by simp, .inl ⟨_, _, rfl, run_takeDeferred hKD, ?_⟩⟩
    exact ⟨_, results_none rfl _ _ _, ⟨_, rfl⟩, .inr ⟨xs, ⟨k, hxs.trans hk⟩, OwnFrom.putObj (OwnFrom.mono hJx (by omega : W.heap.size ≤ w3.heap.size)) _ hj hD hKD rfl⟩⟩

set_option maxRecDepth 100000 in
set_option maxHeartbeats 2000000 in
/-- .. by a number below 1: nothing is told. -/
theorem chunks1_low (n : Nat) (hn : 4 ≤ n) (l Bo Bn bo len : Nat) (zs : List Nat) (z : Int) (hz : z < 1) (m N : Nat) (W : World) (Kp : World → World → Prop)
    (hco : W.cell? ⟨Bo, 0, none⟩ = some (.slice (some ⟨bo, 0, none⟩) len len)) (hcn : W.cell? ⟨Bn, 0, none⟩ = some (.int .i64 z)) :
    IterAt Fence.wide n Try.prog 57 #[.pointer (some ⟨Bo, 0, none⟩), .pointer (some ⟨Bn, 0, none⟩)] (fun x => #[chVal zs m x]) (ChOk zs m) Kp (fun xs => xs = []) (fun _ => False) N l W := by
  intro J Jx hJ hJx hY h0
  have h1 : 1 ≤ n := by omega
  have hfn : ∀ f, Fence.wide.fn f := fun _ => trivial
  have hco1 := (World.cell?_alloc_lt W (.cells #[.func (.yield l) #[] #[]] 97) ⟨Bo, 0, none⟩ (World.block_lt_of_cell? W _ hco)).trans hco
  have hcn1 := (World.cell?_alloc_lt W (.cells #[.func (.yield l) #[] #[]] 97) ⟨Bn, 0, none⟩ (World.block_lt_of_cell? W _ hcn)).trans hcn
  refine callsIn_of_wp_marks Try.func57 rfl trivial ?_ rfl
  simp only [Try.ntmps57, List.size_toArray, List.length_cons, List.length_nil, Nat.reduceAdd, Nat.reduceSub, Array.replicate_succ, Array.replicate_zero, List.push_toArray, List.append_toArray, List.nil_append, List.cons_append]
  gi_wp2_with (gi_at_call 58; refine (pieces_in Fence.wide _ trivial rfl _ _ _ _ _).mono ?_; rintro e w' ⟨rfl, rfl⟩)
  have bN := Boxed.new ((W.alloc (.cells #[.func (.yield l) #[] #[]] 97)).alloc (.cells #[.slice (some ⟨bo, 0, none⟩) len len] 25)) 3 (.int .i64 z)
  simp only [World.size_alloc] at bN
  have hB3 : Below W.heap.size W (((W.alloc (.cells #[.func (.yield l) #[] #[]] 97)).alloc (.cells #[.slice (some ⟨bo, 0, none⟩) len len] 25)).alloc (.cells #[.int .i64 z] 3)) :=
    (((Below.refl _ W).alloc (Nat.le_refl _) _).alloc (by simp) _).alloc (by simp; omega) _
  generalize hw3 : (((W.alloc (.cells #[.func (.yield l) #[] #[]] 97)).alloc (.cells #[.slice (some ⟨bo, 0, none⟩) len len] 25)).alloc (.cells #[.int .i64 z] 3)) = w3 at *
  have hs3 : w3.heap.size = W.heap.size + 3 := by rw [← hw3]; simp
  clear hw3
  refine wpIn_rangeFunc_ok (α := Unit) rfl h1 (gf := 59) (lb := #[.pointer (some ⟨W.heap.size + 1 + 1, 0, none⟩), .pointer (some ⟨W.heap.size + 1, 0, none⟩)]) rfl trivial (enters_of Try.func59 (by kernel_rfl) rfl)
    (encs := fun _ => #[undef]) (Ok := fun _ _ => False) (Kp := fun _ _ => True) (S := fun _ => True) (Sp := fun _ => False) (N := 0)
    (fun W' _ hb J Jx _ _ _ h0 => (pieces1_low_in Fence.wide (n - 1) trivial rfl _ (W.heap.size + 1 + 1) (W.heap.size + 1) z hz (J []) W' (boxed_below bN hb).cell h0).mono fun e W' ⟨he, hj⟩ => ⟨he, .inl ⟨[], trivial, hj⟩⟩)
    (fun _ _ => trivial) (fun _ _ _ _ _ => trivial) (fun _ => rfl)
    (fun _ A => J [] A) (fun _ _ _ => False)
    (fun _ A B row hj hg hr => OwnFrom.mono hJ (by omega) [] A B row hj hg hr)
    (fun _ _ _ _ _ h _ _ => h) (fun _ _ _ _ h _ _ => h) (OwnFrom.grow hJ h0 hB3)
    (fun _ => { tmps := #[.func (.yield l) #[] #[], .pointer (some ⟨Bo, 0, none⟩), .pointer (some ⟨Bn, 0, none⟩), .pointer (some ⟨W.heap.size, 0, none⟩), undef, .slice (some ⟨bo, 0, none⟩) len len, .int .i64 z,
      .func (.func 59) #[] #[.pointer (some ⟨W.heap.size + 1 + 1, 0, none⟩), .pointer (some ⟨W.heap.size + 1, 0, none⟩)], undef, undef, undef, undef, undef, undef], defers := [] }) ?assign ?body ?done ?stop
  case assign =>
    intro l x W K hK
    gi_wp2
    exact hK
  case body => exact fun _ _ _ _ _ h => h.elim
  case done =>
    rintro D ys A hD _ hj hKD
    gi_wp2
    refine ⟨by simp, .inl ⟨_, _, rfl, run_takeDeferred hKD, ?_⟩⟩
    exact ⟨_, results_none rfl _ _ _, ⟨_, rfl⟩, .inl ⟨[], rfl, OwnFrom.putObj (OwnFrom.mono hJ (by omega : W.heap.size ≤ w3.heap.size)) _ hj hD hKD rfl⟩⟩
  case stop => exact fun _ _ _ _ _ h => h.elim

set_option maxHeartbeats 1000000 in
/-- vec.Chunks -/
theorem chunks_any (p : Option Addr) (len cap : Nat) (zs : List Nat) (hlen : len ≤ 60000) (z : Int) (w : World) (hI : IsBytes w.heap.size w p len cap zs) :
    Calls Try.prog 50 #[.slice p len cap, .int .i64 z] w fun e w' => ∃ Bo, e = .returned (.func (.func 57) #[] #[.pointer (some ⟨Bo, 0, none⟩), .pointer (some ⟨w.heap.size, 0, none⟩)]) ∧
      Boxed w' Bo 25 (.slice (some ⟨w.heap.size + 1, 0, none⟩) len len) ∧ Boxed w' w.heap.size 3 (.int .i64 z) ∧ Text w' (w.heap.size + 1) zs ∧ Below w.heap.size w w' := by
  have hb0 : Below w.heap.size w (w.alloc (.cells #[.int .i64 z] 3)) := (Below.refl _ w).alloc (Nat.le_refl _) _
  have hc := clone_any p len cap zs hlen _ (hI.later hb0)
  simp only [World.size_alloc] at hc
  have bZ := Boxed.new w 3 (.int .i64 z)
  have HC : Hid (Calls Try.prog 56 #[.slice p len cap] (w.alloc (.cells #[.int .i64 z] 3)) fun e w' => e = .returned (.slice (some ⟨w.heap.size + 1, 0, none⟩) len len) ∧ Text w' (w.heap.size + 1) zs ∧ Below (w.alloc (.cells #[.int .i64 z] 3)).heap.size (w.alloc (.cells #[.int .i64 z] 3)) w') := by
    rw [World.size_alloc]; exact hc
  clear hc hI
  go_enter Try.func50, Try.ntmps50
  go_wp2_with (go_at_call 56; refine HC.out.mono ?_; rintro e w2 ⟨rfl, ht2, hb2⟩)
  go_ret
  have h02 : Below w.heap.size w w2 := hb0.trans (hb2.mono (by simp))
  exact ⟨w2.heap.size, rfl, Boxed.new _ _ _, (boxed_below bZ hb2).alloc _, ht2.below ((Below.refl _ w2).alloc (Nat.le_refl _) _), h02.alloc h02.size _⟩
end Go.Proofs.Ytifjkkfienmdjaa.Ch
