/-
  nextId; Of: the commit that bytes are, or that they are none.
-/
import Derived.Test.YtkhhlcjjdkldjaaGotC
import Derived.Test.YtkhhlcjjdkldjaaAwC
import Derived.Laws.ResultCell
namespace Go.Proofs.Ytkhhlcjjdkldjaa
open Go.RowKit Go.Shelf

theorem noId_len : noId.length = 32 := by simp [noId]
/-- copy of 32 bytes, or of none, into an id of noughts. -/
theorem wp_copy_id {o : Oper} {a : Act} {w : World} {K : Act → World → Prop} {Q : Exit → Act → World → Prop} (d s : Operand)
    (ho : o.op = .call { callee := .builtin .copy, args := #[d, s], argTypes := #[32, 32] }) {g : Nat} (hd : a.eval d = .slice (some ⟨g, 0, none⟩) 32 32) {n₀ l c : Nat} {q : Option Addr} {zs : List Nat} (hs : a.eval s = .slice q l c)
    (hr : Row w g 24 noId) (hI : IsBytes n₀ w q l c zs) (h32 : zs.length = 32 ∨ zs.length = 0)
    (h : ∀ m w', Row w' g 24 (u8s (if zs.length = 32 then zs else List.replicate 32 0)) → But g w.heap.size w w' → K (a.put o.dst (goInt m)) w') : o.wp Try.prog a w K Q := by
  rcases h32 with h1 | h1
  · have hl : l = 32 := by rw [← hI.1]; exact h1
    subst hl
    obtain ⟨ad, rfl, hsrc⟩ := bytes_src hI (by rw [u8s_length]; omega)
    refine wp_copy_but d s 32 32 ho 5 Try.underlying32 size5 g 0 32 32 ad 32 c hd hs noId 24 hr (u8s zs) (by rw [u8s_length, h1]; rfl) hsrc (by rw [u8s_length, noId_len]; omega) (u8s_one _) (fun w' h2 h3 => ?_)
    refine h _ w' ?_ h3
    rw [if_pos h1]
    have e : splice noId 0 (u8s zs) = u8s zs := by
      simp only [splice, List.take_zero, List.nil_append, Nat.zero_add]
      rw [List.drop_of_length_le (by rw [u8s_length, noId_len]; omega), List.append_nil]
    rw [← e]
    exact h2
  · have hl : l = 0 := by rw [← hI.1]; exact h1
    subst hl
    have hrun := run_copy_none (P := Try.prog) w 32 32 o.type 5 (some ⟨g, 0, none⟩) q 32 32 0 c Try.underlying32 size5 (by rfl)
    unfold Oper.wp
    simp [execOp, ho, resolve, invoke, builtin, hd, hs, hrun, Result.andThen]
    refine h 0 w ?_ (But.refl _ _ _)
    rw [if_neg (by omega), noId_eq]
    exact hr

set_option maxRecDepth 100000 in
set_option maxHeartbeats 1000000 in
theorem nextId_any (B : Nat) (st : Option (List Nat)) (w : World) (h : RdAt w B st) (hz : Ahead st) :
    Calls Try.prog 34 #[.pointer (some ⟨B, 0, none⟩)] w fun e w' => e = .returned (.agg (u8s (idR st)).toArray) ∧ RdAt w' B (readRaw 32 st).2 ∧ But B w.heap.size w w' := by
  have hBl := h.lt
  obtain ⟨w0, hw0⟩ : ∃ w0, (w.alloc (.cells noId.toArray 24)).alloc (.cells noId.toArray 24) = w0 := ⟨_, rfl⟩
  have hb0 : Below w.heap.size w w0 := by rw [← hw0]; exact ((Below.refl _ w).alloc (Nat.le_refl _) _).alloc (by simp) _
  have HR1 : Hid (Row w0 w.heap.size 24 noId) := by rw [← hw0]; exact (Row.new' w 24 noId).alloc _
  have HR2 : Hid (Row w0 (w.heap.size + 1) 24 noId) := by
    rw [← hw0]
    have := Row.new' (w.alloc (.cells noId.toArray 24)) 24 noId
    rwa [World.size_alloc] at this
  have HRd : Hid (RdAt w0 B st) := h.later hb0
  have HRaw := readerRaw_any B st 32 w0.drew (HRd.out.later (Below.refl _ w0).drew)
  have h32 := readRaw32 st
  have hraw : ∀ z ∈ (readRaw 32 st).1, z < 256 := by
    cases st with
    | none => simp [readRaw]
    | some zs =>
      rcases Nat.lt_or_ge zs.length 32 with h' | h'
      · rw [readRaw_out32 h']; simp
      · rw [readRaw_in32 h']; exact fun z hzz => hz zs rfl z (List.mem_of_mem_take hzz)
  have HId : Hid (idR st = if (readRaw 32 st).1.length = 32 then (readRaw 32 st).1 else List.replicate 32 0) := rfl
  have HIdo : Hid (IsId (idR st)) := idR_ok hz
  have HW : Hid ((w.alloc (.cells noId.toArray 24)).alloc (.cells noId.toArray 24) = w0) := hw0
  have HS0 : Hid (w0.heap.size = w.heap.size + 1 + 1) := by show _ = _; rw [← hw0]; simp
  clear h hw0 hz
  generalize (readRaw 32 st).2 = st' at *
  generalize (readRaw 32 st).1 = zs at *
  go_enter Try.func34, Try.ntmps34
  go_wp2
  rw [z32u8, show List.replicate 32 (Value.int .u8 0) = noId from rfl, HW.out]
  refine wp_region_held_drew (S := fun _ => True) (by kernel_rfl) trivial (fun hHeld => ?_)
  refine wpAnyH_takesAt 0 2 2 (of_decide_eq_true (by kernel_rfl)) rfl (fun _ _ _ d _ h => by cases d <;> exact h) (by kernel_rfl) (by kernel_rfl) hHeld ?_
  simp only [List.drop_zero, List.take_succ_cons, List.take_zero]
  iterate 2 (refine wpHeld_step (v := ?_) (by rfl) (fun wz hSw => ?_) ?_; rotate_left; (focus ((try dsimp only at hSw); go_simp; try with_reducible rfl)); (simp only [Act.put, List.setIfInBounds_toArray, List.set_cons_zero, List.set_cons_succ]))
  refine wpHeld_nil ?_
  refine wpAnyH_only (i := 2) (by kernel_rfl) rfl (fun K hK => ?_)
  rw [if_pos (by rfl)]
  go_simp
  refine HRaw.mono ?_
  rintro e w1 ⟨v1, rfl, hO1, hR1, hbu1⟩
  obtain ⟨q1, l1, c1, hu1⟩ := own_any_slice hO1
  subst hu1
  refine hK.out _ _ trivial ?_
  clear hK K
  refine wpAnyH_only (i := 3) (by kernel_rfl) rfl (fun K hK => ?_)
  rw [if_pos (by rfl)]
  have hs0 := HS0.out
  have hd0 : w0.drew.heap.size = w0.heap.size := rfl
  have hrow1 : Row w1 w.heap.size 24 noId := hbu1.row (by rw [hd0]; omega) (by omega) HR1.out.drew
  have hrow2 : Row w1 (w.heap.size + 1) 24 noId := hbu1.row (by rw [hd0]; omega) (by omega) HR2.out.drew
  refine wp_copy_id (.tmp 4) (.tmp 6) rfl rfl rfl hrow2 (hO1.bytes hraw) h32 (fun m w2 hrw hbu2 => ?_)
  rw [← HId.out] at hrw
  have hsz1 := hbu1.size
  have hrow12 : Row w2 w.heap.size 24 noId := hbu2.row hrow1.lt (by omega) hrow1
  have hR2 : RdAt w2 B st' := hR1.but hbu2 (by omega)
  refine hK.out _ _ trivial ?_
  clear hK K
  change wpAnyH _ _ _ _ _ _ _ (Act.put _ (some 7) _) _
  (simp only [Act.put]; (try simp only [List.setIfInBounds_toArray]); (try simp only [List.set_cons_succ]); (try simp only [List.set_cons_zero]))
  refine wpAnyH_done (by kernel_rfl) ?_ _
  have HV : Hid ((u8s (idR st)).length = 32) := by show _ = _; rw [u8s_length]; exact HIdo.out.1
  have HV1 : Hid (∀ v ∈ u8s (idR st), v.oneCell' = true) := u8s_one _
  have HRw : Hid (Row w2 (w.heap.size + 1) 24 (u8s (idR st))) := hrw
  have HR12 : Hid (Row w2 w.heap.size 24 noId) := hrow12
  have hbw2 : But B w.heap.size w w2 := by
    have h1 : But B w.heap.size w w0.drew := But.of_below hb0.drew (Nat.le_refl _)
    have h2 : But B w.heap.size w0.drew w1 := hbu1.mono (by rw [hd0]; omega)
    have h3 : But B w.heap.size w1 w2 := ⟨hbu2.os, hbu2.tape, hbu2.output, hbu2.size, fun k hk hB => hbu2.block k (by rw [hd0] at hsz1; omega) (by omega)⟩
    exact (h1.trans h2).trans h3
  have HB2 : Hid (But B w.heap.size w w2) := hbw2
  have HRd2 : Hid (RdAt w2 B st') := hR2
  clear hrw hrow12 hbw2 hR2 hbu2 hR1 hbu1 hO1 hrow1 hrow2 HRaw HId HIdo hraw h32 HR1 HR2 HRd
  obtain ⟨V, hVe⟩ : ∃ V, u8s (idR st) = V := ⟨_, rfl⟩
  rw [hVe] at HV HV1 HRw
  have HVe : Hid (u8s (idR st) = V) := hVe
  clear hVe
  go_wp2_with (first
    | ((with_reducible show wpList _ _ _ (Oper.mk _ (Op.load 24 (.tmp 3)) _ _ _ _ :: _) _ _); refine wpList_load_mid rfl 24 (.tmp 3) rfl (w.heap.size + 1) 0 rfl V _ HRw.out.range Try.underlying24 rfl (by rw [HV.out]; exact size24) ?_; simp only [Act.put, List.setIfInBounds_toArray, List.set_cons_zero, List.set_cons_succ])
    | ((with_reducible show wpList _ _ _ (Oper.mk _ (Op.store 24 (.tmp 2) (.tmp 8)) _ _ _ _ :: _) _ _); refine wpList_store_Row rfl 24 (.tmp 2) (.tmp 8) rfl V rfl rfl HR12.out (by rw [HV.out]; exact size24) (by rw [HV.out, noId_len]) HV1.out ?_; simp only [Act.put]))
  refine bodyPost_ret (results_Row rfl rfl (HR12.out.sets_all (by rw [HV.out, noId_len])) Try.underlying24 (by rw [HV.out]; exact size24)) rfl ?_
  have hbs : Below w.heap.size w2 (w2.setCells w.heap.size 0 V) := below_setCells (Nat.le_refl _) _ _ (Below.refl _ _)
  exact ⟨by rw [HVe.out], HRd2.out.below hbs (by omega), HB2.out.trans (But.of_below hbs (Nat.le_refl _))⟩

/-- The value of an entry written out: its parts, each a value. -/
theorem range32 {V : List Value} (h : V.length = 32) : V = (List.range 32).map fun i => V.getD i undef := by
  apply List.ext_getElem (by simp [h])
  intro i h1 h2
  simp [List.getElem?_eq_getElem h1]
theorem below_but {B n : Nat} {a w w' : World} (h : Below n a w) (hb : But B w.heap.size w w') (hn : n ≤ B) (hn2 : n ≤ w.heap.size) : Below n a w' := h.trans (hb.below hn2 hn)
theorem results_RowS_tmp {P : Program} {fn : Func} {p u : Tmp} {ty : TypeId} (h : fn.results = #[.cell p ty, .tmp u]) {tmps : Array Value} {w : World} {g : Nat} {t : TypeId} {cs : List Value} (hp : tmps.getD p undef = .pointer (some ⟨g, 0, none⟩)) (hg : Row w g t cs)
    {fs : Array Field} (hu : P.underlying ty = some (.struct fs)) (hi : (P.info? ty).map (·.size) = some cs.length) : (results fn tmps).run P w = .ok (.tuple #[.agg cs.toArray, tmps.getD u undef]) w := by
  rw [results_cell_tmp h, hp]
  simp [asAddr, run_loadVar_row w g t ty cs.toArray (0, 0) _ hg hu rfl (by simpa using hi)]

set_option maxRecDepth 100000 in
theorem built29' (f1 f2 : Nat → Value) (p : Option Addr) (l c : Nat) (q a : Int) (t : ByteArray) :
    Try.prog.built 29 [(0, .slice p l c), (1, .agg ((List.range 32).map f1).toArray), (2, .agg ((List.range 32).map f2).toArray), (3, .int .u64 q), (4, .int .u32 a), (5, .string t)]
      = some (Value.slice p l c :: ((List.range 32).map f1 ++ ((List.range 32).map f2 ++ [Value.int .u64 q, Value.int .u32 a, Value.string t]))).toArray := by kernel_rfl
theorem built29 (p : Option Addr) (l k : Nat) (c : Cmt) (hok : c.ok) :
    Try.prog.built 29 [(0, .slice p l k), (1, .agg (u8s c.root).toArray), (2, .agg (u8s c.key).toArray), (3, .int .u64 (c.seq : Nat)), (4, .int .u32 (c.author : Nat)), (5, .string c.text)] = some (cmtC (.slice p l k) c).toArray := by
  have h1 := range32 (V := u8s c.root) (by rw [u8s_length, hok.1.1])
  have h2 := range32 (V := u8s c.key) (by rw [u8s_length, hok.2.1.1])
  have hb := built29' (fun i => (u8s c.root).getD i undef) (fun i => (u8s c.key).getD i undef) p l k c.seq c.author c.text
  rw [← h1, ← h2] at hb
  exact hb
theorem built29z : Try.prog.built 29 [] = some (cmtC (.slice none 0 0) noCmt).toArray := by kernel_rfl
theorem zero29 : Try.zeroCells29 = (cmtC (.slice none 0 0) noCmt).toArray := by kernel_rfl

/-- What Of answers. -/
def OfPost (w : World) (b : List Nat) (e : Ending) (w' : World) : Prop :=
  (isC b = true ∧ ∃ p len cap, e = .returned (.tuple #[.agg (cmtC (.slice p len cap) (gC b)).toArray, .int .i64 0]) ∧ IsIds w'.heap.size w' p len cap (gP b) ∧ Below w.heap.size w w') ∨
  (isC b = false ∧ e = .returned (.tuple #[.agg (cmtC (.slice none 0 0) noCmt).toArray, .int .i64 120]) ∧ Below w.heap.size w w')

set_option maxRecDepth 100000 in
set_option maxHeartbeats 4000000 in
theorem of_end (p : Option Addr) (len cap : Nat) (b : List Nat) (hlen : len ≤ 50000) (w : World) (hI : IsBytes w.heap.size w p len cap b) (hE : endE (s6 b) = 80) :
    Calls Try.prog 14 #[.slice p len cap] w (OfPost w b) := by
  have hA := gA_lt b
  have eA : IntKind.u32.wrap (gA b : Int) = (gA b : Int) := by simp [IntKind.wrap, IntKind.bits, IntKind.signed]; omega
  have eA2 : (gA b : Int) % 4294967296 = (gA b : Int) := by omega
  have HI : Hid (IsBytes w.heap.size w p len cap b) := hI
  have HZ : Hid (∀ z ∈ b, z < 256) := hI.2.2.2.1
  have HGP : Hid ((∀ x ∈ gP b, x.length = 32 ∧ ∀ z ∈ x, z < 256) ∧ (gP b).length ≤ 2) := gP_all hI.2.2.2.1
  have HGT : Hid ((∀ x ∈ gT b, x < 256) ∧ (gT b).length ≤ 4096) := gT_all hI.2.2.2.1
  have HOk : Hid (gC b).ok := gC_ok hI.2.2.2.1
  have HIs : Hid (isC b = false) := by show _ = _; simp [isC, hE]
  have HE : Hid (endE (s6 b) = 80) := hE
  clear hI hE hA
  obtain ⟨w1, hw1⟩ : ∃ w1, w.alloc (.cells Try.zeroCells29 29) = w1 := ⟨_, rfl⟩
  have HW1 : Hid (w.alloc (.cells Try.zeroCells29 29) = w1) := hw1
  have HS1 : Hid (w1.heap.size = w.heap.size + 1) := by show _ = _; rw [← hw1]; simp
  have HB1 : Hid (Below w.heap.size w w1) := by rw [← hw1]; exact (Below.refl _ w).alloc (Nat.le_refl _) _
  have HR1 : Hid (Row w1 w.heap.size 29 (cmtC (.slice none 0 0) noCmt)) := by rw [← hw1, zero29]; exact Row.new' w 29 _
  have HBz : Hid (Try.prog.built 29 [] = some (cmtC (.slice none 0 0) noCmt).toArray) := built29z
  clear hw1
  go_enter Try.func14, Try.ntmps14
  go_wp2_with (first
    | (rw [HW1.out])
    | (go_at_call 32; refine (read_any p len cap b (by omega) w1 ((HI.out.below HB1.out).mono HB1.out.size)).mono ?_; rintro e w2 ⟨B, rfl, hB, hR2, hb2⟩; have HR2 : Hid (RdAt w2 B (some b)) := hR2; have H3 := readerIds_any B (some b) 2 (by omega) w2 HR2.out; have hBl2 : B < w2.heap.size := hR2.lt; clear hR2)
    | (go_at_call 33; refine H3.mono ?_; clear H3; rintro e w3 ⟨v3, rfl, ho3, hR3, hb3⟩; obtain ⟨q3, c3, hv3⟩ := OwnIds.slice ho3; obtain ⟨l3, hl3⟩ : ∃ l, (gP b).length = l := ⟨_, rfl⟩; rw [show (readIds 2 (some b)).1.length = l3 from hl3] at hv3; subst hv3; have HR3 : Hid (RdAt w3 B (s1 b)) := hR3; have HO3 : Hid (OwnIds w2.heap.size w3 (.slice q3 l3 c3) (gP b)) := ho3; have hB3 : Below w1.heap.size w1 w3 := below_but hb2 hb3 hB hb2.size; have hs3 := hb3.size; have H4 := nextId_any B (s1 b) w3 HR3.out (s1_all HZ.out); have HL3 : Hid ((gP b).length = l3) := hl3; clear hR3 hb3 ho3 hl3)
    | (go_at_call 34; refine H4.mono ?_; clear H4; rintro e w4 ⟨rfl, hR4, hb4⟩; have HR4 : Hid (RdAt w4 B (s2 b)) := hR4; have HO4 : Hid (OwnIds w2.heap.size w4 (.slice q3 l3 c3) (gP b)) := OwnIds.but HO3.out hb4 hBl2; have hB4 : Below w1.heap.size w1 w4 := below_but hB3 hb4 hB hB3.size; have hs4 := hb4.size; have H5 := nextId_any B (s2 b) w4 HR4.out (s2_all HZ.out); clear hR4 hb4 hB3)
    | (go_at_call 34; refine H5.mono ?_; clear H5; rintro e w5 ⟨rfl, hR5, hb5⟩; have HR5 : Hid (RdAt w5 B (s3 b)) := hR5; have HO5 : Hid (OwnIds w2.heap.size w5 (.slice q3 l3 c3) (gP b)) := OwnIds.but HO4.out hb5 hBl2; have hB5 : Below w1.heap.size w1 w5 := below_but hB4 hb5 hB hB4.size; have hs5 := hb5.size; have H6 := readerN_any B (s3 b) 18446744073709551615 (by omega) w5 HR5.out; clear hR5 hb5 hB4)
    | (go_at_call 35; refine H6.mono ?_; clear H6; rintro e w6 ⟨rfl, hR6, hb6⟩; have HR6 : Hid (RdAt w6 B (s4 b)) := hR6; have HO6 : Hid (OwnIds w2.heap.size w6 (.slice q3 l3 c3) (gP b)) := OwnIds.but HO5.out hb6 hBl2; have hB6 : Below w1.heap.size w1 w6 := below_but hB5 hb6 hB hB5.size; have hs6 := hb6.size; have H7 := readerN_any B (s4 b) 4294967295 (by omega) w6 HR6.out; clear hR6 hb6 hB5; have hfold : (readN 18446744073709551615 (s3 b)).1 = gQ b := rfl; rw [hfold]; clear hfold)
    | (go_at_call 35; refine H7.mono ?_; clear H7; rintro e w7 ⟨rfl, hR7, hb7⟩; have HR7 : Hid (RdAt w7 B (s5 b)) := hR7; have HO7 : Hid (OwnIds w2.heap.size w7 (.slice q3 l3 c3) (gP b)) := OwnIds.but HO6.out hb7 hBl2; have hB7 : Below w1.heap.size w1 w7 := below_but hB6 hb7 hB hB6.size; have hs7 := hb7.size; clear hR7 hb7 hB6; have hfold : (readN 4294967295 (s4 b)).1 = gA b := rfl; rw [hfold]; clear hfold)
    | (go_at_call 36; refine (readerText_any B (s5 b) 4096 (by omega) w7 HR7.out).mono ?_; rintro e w8 ⟨v8, rfl, ho8, hR8, hb8⟩; have HR8 : Hid (RdAt w8 B (s6 b)) := hR8; have HO8 : Hid (OwnIds w2.heap.size w8 (.slice q3 l3 c3) (gP b)) := OwnIds.but HO7.out hb8 hBl2; have hB8 : Below w1.heap.size w1 w8 := below_but hB7 hb8 hB hB7.size; have hs8 := hb8.size; obtain ⟨l8, hl8⟩ : ∃ l, (gT b).length = l := ⟨_, rfl⟩; obtain ⟨q8, c8, hv8⟩ := own_len (zs := gT b) ho8 hl8; subst hv8; have hstr := str_of_bytes (ho8.bytes HGT.out.1) w8 (Below.refl _ _); have HRR8 : Hid (Row w8 w.heap.size 29 (cmtC (.slice none 0 0) noCmt)) := HR1.out.below hB8 (by have := HS1.out; omega); have HBu : Hid (Try.prog.built 29 [(0, .slice q3 l3 c3), (1, .agg (u8s (idR (s1 b))).toArray), (2, .agg (u8s (idR (s2 b))).toArray), (3, .int .u64 (gQ b : Nat)), (4, .int .u32 (gA b : Nat)), (5, .string (strOf (gT b)))] = some (cmtC (.slice q3 l3 c3) (gC b)).toArray) := built29 q3 l3 c3 (gC b) HOk.out; clear hR8 hb8 ho8 hB7)
    | ((with_reducible show wpList _ _ _ (Oper.mk (some 22) _ _ _ _ _ :: _) _ _); refine wpList_built_want (by rfl) 29 _ rfl _ _ (by simp only [List.map_toArray, List.map_cons, List.map_nil]; rfl) HBu.out ?_; simp only [Act.put, List.setIfInBounds_toArray, List.set_cons_zero, List.set_cons_succ])
    | ((with_reducible show wpList _ _ _ (Oper.mk _ (Op.store 29 (.tmp 5) (.tmp 22)) _ _ _ _ :: _) _ _); refine wpList_storeNew rfl (.tmp 5) (.tmp 22) rfl (.slice q3 l3 c3) rfl (gC b) HOk.out rfl rfl (fun w9 hb9 hE9 => ?_); have HE9 : Hid (CmtAt w9 w8.heap.size (.slice q3 l3 c3) (gC b)) := hE9; have HR9 : Hid (RdAt w9 B (s6 b)) := HR8.out.later hb9; have HRR9 : Hid (Row w9 w.heap.size 29 (cmtC (.slice none 0 0) noCmt)) := HRR8.out.later hb9; have HO9 : Hid (OwnIds w2.heap.size w9 (.slice q3 l3 c3) (gP b)) := OwnIds.later hb9 HO8.out; have hB9 : Below w1.heap.size w1 w9 := hB8.trans (hb9.mono hB8.size); have hs9 := hb9.size; clear hE9 hb9 hstr; simp only [Act.put])
    | (go_at_call 37; refine (end_any B (s6 b) w9 HR9.out).mono ?_; rintro e w9' ⟨rfl, hw9⟩; obtain rfl : w9 = w9' := hw9.symm; clear hw9; rw [HE.out])
    | ((with_reducible show wpList _ _ _ (Oper.mk (some 31) _ _ _ _ _ :: _) _ _); refine wpList_built_want (by rfl) 29 _ rfl _ _ (by simp only [List.map_toArray, List.map_nil]) HBz.out ?_; simp only [Act.put, List.setIfInBounds_toArray, List.set_cons_zero, List.set_cons_succ])
    | ((with_reducible show wpList _ _ _ (Oper.mk _ (Op.store 29 (.tmp 2) (.tmp 31)) _ _ _ _ :: _) _ _); refine wpList_store_Row rfl 29 (.tmp 2) (.tmp 31) rfl (cmtC (.slice none 0 0) noCmt) rfl rfl HRR9.out (size29' noCmt_ok) rfl (cmtC_one rfl _) ?_; simp only [Act.put]))
  refine bodyPost_ret (results_RowS_tmp rfl rfl (Row.sets_all (vs := cmtC (.slice none 0 0) noCmt) HRR9.out rfl) Try.underlying29 (size29' noCmt_ok)) rfl ?_
  exact .inr ⟨HIs.out, rfl, below_setCells (Nat.le_refl _) _ _ (HB1.out.trans (hB9.mono HB1.out.size))⟩

set_option maxRecDepth 100000 in
set_option maxHeartbeats 4000000 in
theorem of_may (p : Option Addr) (len cap : Nat) (b : List Nat) (hlen : len ≤ 50000) (w : World) (hI : IsBytes w.heap.size w p len cap b) (hE : endE (s6 b) = 0) (hM : mayC (gP b) (gC b) = false) :
    Calls Try.prog 14 #[.slice p len cap] w (OfPost w b) := by
  have hA := gA_lt b
  have eA : IntKind.u32.wrap (gA b : Int) = (gA b : Int) := by simp [IntKind.wrap, IntKind.bits, IntKind.signed]; omega
  have eA2 : (gA b : Int) % 4294967296 = (gA b : Int) := by omega
  have HI : Hid (IsBytes w.heap.size w p len cap b) := hI
  have HZ : Hid (∀ z ∈ b, z < 256) := hI.2.2.2.1
  have HGP : Hid ((∀ x ∈ gP b, x.length = 32 ∧ ∀ z ∈ x, z < 256) ∧ (gP b).length ≤ 2) := gP_all hI.2.2.2.1
  have HGT : Hid ((∀ x ∈ gT b, x < 256) ∧ (gT b).length ≤ 4096) := gT_all hI.2.2.2.1
  have HOk : Hid (gC b).ok := gC_ok hI.2.2.2.1
  have HIs : Hid (isC b = false) := by show _ = _; simp [isC, hE, hM]
  have HE : Hid (endE (s6 b) = 0) := hE
  have HM : Hid (mayC (gP b) (gC b) = false) := hM
  clear hI hE hM hA
  obtain ⟨w1, hw1⟩ : ∃ w1, w.alloc (.cells Try.zeroCells29 29) = w1 := ⟨_, rfl⟩
  have HW1 : Hid (w.alloc (.cells Try.zeroCells29 29) = w1) := hw1
  have HS1 : Hid (w1.heap.size = w.heap.size + 1) := by show _ = _; rw [← hw1]; simp
  have HB1 : Hid (Below w.heap.size w w1) := by rw [← hw1]; exact (Below.refl _ w).alloc (Nat.le_refl _) _
  have HR1 : Hid (Row w1 w.heap.size 29 (cmtC (.slice none 0 0) noCmt)) := by rw [← hw1, zero29]; exact Row.new' w 29 _
  have HBz : Hid (Try.prog.built 29 [] = some (cmtC (.slice none 0 0) noCmt).toArray) := built29z
  clear hw1
  go_enter Try.func14, Try.ntmps14
  go_wp2_with (first
    | (rw [HW1.out])
    | (go_at_call 32; refine (read_any p len cap b (by omega) w1 ((HI.out.below HB1.out).mono HB1.out.size)).mono ?_; rintro e w2 ⟨B, rfl, hB, hR2, hb2⟩; have HR2 : Hid (RdAt w2 B (some b)) := hR2; have H3 := readerIds_any B (some b) 2 (by omega) w2 HR2.out; have hBl2 : B < w2.heap.size := hR2.lt; clear hR2)
    | (go_at_call 33; refine H3.mono ?_; clear H3; rintro e w3 ⟨v3, rfl, ho3, hR3, hb3⟩; obtain ⟨q3, c3, hv3⟩ := OwnIds.slice ho3; obtain ⟨l3, hl3⟩ : ∃ l, (gP b).length = l := ⟨_, rfl⟩; rw [show (readIds 2 (some b)).1.length = l3 from hl3] at hv3; subst hv3; have HR3 : Hid (RdAt w3 B (s1 b)) := hR3; have HO3 : Hid (OwnIds w2.heap.size w3 (.slice q3 l3 c3) (gP b)) := ho3; have hB3 : Below w1.heap.size w1 w3 := below_but hb2 hb3 hB hb2.size; have hs3 := hb3.size; have H4 := nextId_any B (s1 b) w3 HR3.out (s1_all HZ.out); have HL3 : Hid ((gP b).length = l3) := hl3; clear hR3 hb3 ho3 hl3)
    | (go_at_call 34; refine H4.mono ?_; clear H4; rintro e w4 ⟨rfl, hR4, hb4⟩; have HR4 : Hid (RdAt w4 B (s2 b)) := hR4; have HO4 : Hid (OwnIds w2.heap.size w4 (.slice q3 l3 c3) (gP b)) := OwnIds.but HO3.out hb4 hBl2; have hB4 : Below w1.heap.size w1 w4 := below_but hB3 hb4 hB hB3.size; have hs4 := hb4.size; have H5 := nextId_any B (s2 b) w4 HR4.out (s2_all HZ.out); clear hR4 hb4 hB3)
    | (go_at_call 34; refine H5.mono ?_; clear H5; rintro e w5 ⟨rfl, hR5, hb5⟩; have HR5 : Hid (RdAt w5 B (s3 b)) := hR5; have HO5 : Hid (OwnIds w2.heap.size w5 (.slice q3 l3 c3) (gP b)) := OwnIds.but HO4.out hb5 hBl2; have hB5 : Below w1.heap.size w1 w5 := below_but hB4 hb5 hB hB4.size; have hs5 := hb5.size; have H6 := readerN_any B (s3 b) 18446744073709551615 (by omega) w5 HR5.out; clear hR5 hb5 hB4)
    | (go_at_call 35; refine H6.mono ?_; clear H6; rintro e w6 ⟨rfl, hR6, hb6⟩; have HR6 : Hid (RdAt w6 B (s4 b)) := hR6; have HO6 : Hid (OwnIds w2.heap.size w6 (.slice q3 l3 c3) (gP b)) := OwnIds.but HO5.out hb6 hBl2; have hB6 : Below w1.heap.size w1 w6 := below_but hB5 hb6 hB hB5.size; have hs6 := hb6.size; have H7 := readerN_any B (s4 b) 4294967295 (by omega) w6 HR6.out; clear hR6 hb6 hB5; have hfold : (readN 18446744073709551615 (s3 b)).1 = gQ b := rfl; rw [hfold]; clear hfold)
    | (go_at_call 35; refine H7.mono ?_; clear H7; rintro e w7 ⟨rfl, hR7, hb7⟩; have HR7 : Hid (RdAt w7 B (s5 b)) := hR7; have HO7 : Hid (OwnIds w2.heap.size w7 (.slice q3 l3 c3) (gP b)) := OwnIds.but HO6.out hb7 hBl2; have hB7 : Below w1.heap.size w1 w7 := below_but hB6 hb7 hB hB6.size; have hs7 := hb7.size; clear hR7 hb7 hB6; have hfold : (readN 4294967295 (s4 b)).1 = gA b := rfl; rw [hfold]; clear hfold)
    | (go_at_call 36; refine (readerText_any B (s5 b) 4096 (by omega) w7 HR7.out).mono ?_; rintro e w8 ⟨v8, rfl, ho8, hR8, hb8⟩; have HR8 : Hid (RdAt w8 B (s6 b)) := hR8; have HO8 : Hid (OwnIds w2.heap.size w8 (.slice q3 l3 c3) (gP b)) := OwnIds.but HO7.out hb8 hBl2; have hB8 : Below w1.heap.size w1 w8 := below_but hB7 hb8 hB hB7.size; have hs8 := hb8.size; obtain ⟨l8, hl8⟩ : ∃ l, (gT b).length = l := ⟨_, rfl⟩; obtain ⟨q8, c8, hv8⟩ := own_len (zs := gT b) ho8 hl8; subst hv8; have hstr := str_of_bytes (ho8.bytes HGT.out.1) w8 (Below.refl _ _); have HRR8 : Hid (Row w8 w.heap.size 29 (cmtC (.slice none 0 0) noCmt)) := HR1.out.below hB8 (by have := HS1.out; omega); have HBu : Hid (Try.prog.built 29 [(0, .slice q3 l3 c3), (1, .agg (u8s (idR (s1 b))).toArray), (2, .agg (u8s (idR (s2 b))).toArray), (3, .int .u64 (gQ b : Nat)), (4, .int .u32 (gA b : Nat)), (5, .string (strOf (gT b)))] = some (cmtC (.slice q3 l3 c3) (gC b)).toArray) := built29 q3 l3 c3 (gC b) HOk.out; clear hR8 hb8 ho8 hB7)
    | ((with_reducible show wpList _ _ _ (Oper.mk (some 22) _ _ _ _ _ :: _) _ _); refine wpList_built_want (by rfl) 29 _ rfl _ _ (by simp only [List.map_toArray, List.map_cons, List.map_nil]; rfl) HBu.out ?_; simp only [Act.put, List.setIfInBounds_toArray, List.set_cons_zero, List.set_cons_succ])
    | ((with_reducible show wpList _ _ _ (Oper.mk _ (Op.store 29 (.tmp 5) (.tmp 22)) _ _ _ _ :: _) _ _); refine wpList_storeNew rfl (.tmp 5) (.tmp 22) rfl (.slice q3 l3 c3) rfl (gC b) HOk.out rfl rfl (fun w9 hb9 hE9 => ?_); have HE9 : Hid (CmtAt w9 w8.heap.size (.slice q3 l3 c3) (gC b)) := hE9; have HR9 : Hid (RdAt w9 B (s6 b)) := HR8.out.later hb9; have HRR9 : Hid (Row w9 w.heap.size 29 (cmtC (.slice none 0 0) noCmt)) := HRR8.out.later hb9; have HO9 : Hid (OwnIds w2.heap.size w9 (.slice q3 l3 c3) (gP b)) := OwnIds.later hb9 HO8.out; have hB9 : Below w1.heap.size w1 w9 := hB8.trans (hb9.mono hB8.size); have hs9 := hb9.size; clear hE9 hb9 hstr; simp only [Act.put])
    | (go_at_call 37; refine (end_any B (s6 b) w9 HR9.out).mono ?_; rintro e w9' ⟨rfl, hw9⟩; obtain rfl : w9 = w9' := hw9.symm; clear hw9; rw [HE.out])
    | ((with_reducible show wpList _ _ _ (Oper.mk (some 27) (Op.load 29 (.tmp 5)) _ _ _ _ :: _) _ _); refine BigFrame.wpList_want (by rfl) fun _ hK => wp_load_mid 29 (.tmp 5) rfl w8.heap.size 0 rfl (cmtC (.slice q3 l3 c3) (gC b)) _ HE9.out.row.range Try.underlying29 rfl (size29' HOk.out) (hK _ _ ?_); simp only [Act.put, List.setIfInBounds_toArray, List.set_cons_zero, List.set_cons_succ])
    | (go_at_call 20; refine (mayBe_any q3 l3 c3 (gP b) (gC b) HOk.out (by have := HGP.out.2; have := HL3.out; omega) w9 (HO9.out.ids HL3.out HGP.out.1)).mono ?_; rintro e w10 ⟨rfl, hb10⟩; rw [HM.out]; have HE10 : Hid (CmtAt w10 w8.heap.size (.slice q3 l3 c3) (gC b)) := HE9.out.later hb10; have HRR10 : Hid (Row w10 w.heap.size 29 (cmtC (.slice none 0 0) noCmt)) := HRR9.out.later hb10; have HO10 : Hid (OwnIds w2.heap.size w10 (.slice q3 l3 c3) (gP b)) := OwnIds.later hb10 HO9.out; have hB10 : Below w1.heap.size w1 w10 := hB9.trans (hb10.mono hB9.size); clear hb10)
    | ((with_reducible show wpList _ _ _ (Oper.mk (some 31) _ _ _ _ _ :: _) _ _); refine wpList_built_want (by rfl) 29 _ rfl _ _ (by simp only [List.map_toArray, List.map_nil]) HBz.out ?_; simp only [Act.put, List.setIfInBounds_toArray, List.set_cons_zero, List.set_cons_succ])
    | ((with_reducible show wpList _ _ _ (Oper.mk _ (Op.store 29 (.tmp 2) (.tmp 31)) _ _ _ _ :: _) _ _); refine wpList_store_Row rfl 29 (.tmp 2) (.tmp 31) rfl (cmtC (.slice none 0 0) noCmt) rfl rfl HRR10.out (size29' noCmt_ok) rfl (cmtC_one rfl _) ?_; simp only [Act.put]))
  refine bodyPost_ret (results_RowS_tmp rfl rfl (Row.sets_all (vs := cmtC (.slice none 0 0) noCmt) HRR10.out rfl) Try.underlying29 (size29' noCmt_ok)) rfl ?_
  exact .inr ⟨HIs.out, rfl, below_setCells (Nat.le_refl _) _ _ (HB1.out.trans (hB10.mono HB1.out.size))⟩

set_option maxRecDepth 100000 in
set_option maxHeartbeats 4000000 in
theorem of_good (p : Option Addr) (len cap : Nat) (b : List Nat) (hlen : len ≤ 50000) (w : World) (hI : IsBytes w.heap.size w p len cap b) (hE : endE (s6 b) = 0) (hM : mayC (gP b) (gC b) = true) :
    Calls Try.prog 14 #[.slice p len cap] w (OfPost w b) := by
  have hA := gA_lt b
  have eA : IntKind.u32.wrap (gA b : Int) = (gA b : Int) := by simp [IntKind.wrap, IntKind.bits, IntKind.signed]; omega
  have eA2 : (gA b : Int) % 4294967296 = (gA b : Int) := by omega
  have HI : Hid (IsBytes w.heap.size w p len cap b) := hI
  have HZ : Hid (∀ z ∈ b, z < 256) := hI.2.2.2.1
  have HGP : Hid ((∀ x ∈ gP b, x.length = 32 ∧ ∀ z ∈ x, z < 256) ∧ (gP b).length ≤ 2) := gP_all hI.2.2.2.1
  have HGT : Hid ((∀ x ∈ gT b, x < 256) ∧ (gT b).length ≤ 4096) := gT_all hI.2.2.2.1
  have HOk : Hid (gC b).ok := gC_ok hI.2.2.2.1
  have HIs : Hid (isC b = true) := by show _ = _; simp [isC, hE, hM]
  have HE : Hid (endE (s6 b) = 0) := hE
  have HM : Hid (mayC (gP b) (gC b) = true) := hM
  clear hI hE hM hA
  obtain ⟨w1, hw1⟩ : ∃ w1, w.alloc (.cells Try.zeroCells29 29) = w1 := ⟨_, rfl⟩
  have HW1 : Hid (w.alloc (.cells Try.zeroCells29 29) = w1) := hw1
  have HS1 : Hid (w1.heap.size = w.heap.size + 1) := by show _ = _; rw [← hw1]; simp
  have HB1 : Hid (Below w.heap.size w w1) := by rw [← hw1]; exact (Below.refl _ w).alloc (Nat.le_refl _) _
  have HR1 : Hid (Row w1 w.heap.size 29 (cmtC (.slice none 0 0) noCmt)) := by rw [← hw1, zero29]; exact Row.new' w 29 _
  have HBz : Hid (Try.prog.built 29 [] = some (cmtC (.slice none 0 0) noCmt).toArray) := built29z
  clear hw1
  go_enter Try.func14, Try.ntmps14
  go_wp2_with (first
    | (rw [HW1.out])
    | (go_at_call 32; refine (read_any p len cap b (by omega) w1 ((HI.out.below HB1.out).mono HB1.out.size)).mono ?_; rintro e w2 ⟨B, rfl, hB, hR2, hb2⟩; have HR2 : Hid (RdAt w2 B (some b)) := hR2; have H3 := readerIds_any B (some b) 2 (by omega) w2 HR2.out; have hBl2 : B < w2.heap.size := hR2.lt; clear hR2)
    | (go_at_call 33; refine H3.mono ?_; clear H3; rintro e w3 ⟨v3, rfl, ho3, hR3, hb3⟩; obtain ⟨q3, c3, hv3⟩ := OwnIds.slice ho3; obtain ⟨l3, hl3⟩ : ∃ l, (gP b).length = l := ⟨_, rfl⟩; rw [show (readIds 2 (some b)).1.length = l3 from hl3] at hv3; subst hv3; have HR3 : Hid (RdAt w3 B (s1 b)) := hR3; have HO3 : Hid (OwnIds w2.heap.size w3 (.slice q3 l3 c3) (gP b)) := ho3; have hB3 : Below w1.heap.size w1 w3 := below_but hb2 hb3 hB hb2.size; have hs3 := hb3.size; have H4 := nextId_any B (s1 b) w3 HR3.out (s1_all HZ.out); have HL3 : Hid ((gP b).length = l3) := hl3; clear hR3 hb3 ho3 hl3)
    | (go_at_call 34; refine H4.mono ?_; clear H4; rintro e w4 ⟨rfl, hR4, hb4⟩; have HR4 : Hid (RdAt w4 B (s2 b)) := hR4; have HO4 : Hid (OwnIds w2.heap.size w4 (.slice q3 l3 c3) (gP b)) := OwnIds.but HO3.out hb4 hBl2; have hB4 : Below w1.heap.size w1 w4 := below_but hB3 hb4 hB hB3.size; have hs4 := hb4.size; have H5 := nextId_any B (s2 b) w4 HR4.out (s2_all HZ.out); clear hR4 hb4 hB3)
    | (go_at_call 34; refine H5.mono ?_; clear H5; rintro e w5 ⟨rfl, hR5, hb5⟩; have HR5 : Hid (RdAt w5 B (s3 b)) := hR5; have HO5 : Hid (OwnIds w2.heap.size w5 (.slice q3 l3 c3) (gP b)) := OwnIds.but HO4.out hb5 hBl2; have hB5 : Below w1.heap.size w1 w5 := below_but hB4 hb5 hB hB4.size; have hs5 := hb5.size; have H6 := readerN_any B (s3 b) 18446744073709551615 (by omega) w5 HR5.out; clear hR5 hb5 hB4)
    | (go_at_call 35; refine H6.mono ?_; clear H6; rintro e w6 ⟨rfl, hR6, hb6⟩; have HR6 : Hid (RdAt w6 B (s4 b)) := hR6; have HO6 : Hid (OwnIds w2.heap.size w6 (.slice q3 l3 c3) (gP b)) := OwnIds.but HO5.out hb6 hBl2; have hB6 : Below w1.heap.size w1 w6 := below_but hB5 hb6 hB hB5.size; have hs6 := hb6.size; have H7 := readerN_any B (s4 b) 4294967295 (by omega) w6 HR6.out; clear hR6 hb6 hB5; have hfold : (readN 18446744073709551615 (s3 b)).1 = gQ b := rfl; rw [hfold]; clear hfold)
    | (go_at_call 35; refine H7.mono ?_; clear H7; rintro e w7 ⟨rfl, hR7, hb7⟩; have HR7 : Hid (RdAt w7 B (s5 b)) := hR7; have HO7 : Hid (OwnIds w2.heap.size w7 (.slice q3 l3 c3) (gP b)) := OwnIds.but HO6.out hb7 hBl2; have hB7 : Below w1.heap.size w1 w7 := below_but hB6 hb7 hB hB6.size; have hs7 := hb7.size; clear hR7 hb7 hB6; have hfold : (readN 4294967295 (s4 b)).1 = gA b := rfl; rw [hfold]; clear hfold)
    | (go_at_call 36; refine (readerText_any B (s5 b) 4096 (by omega) w7 HR7.out).mono ?_; rintro e w8 ⟨v8, rfl, ho8, hR8, hb8⟩; have HR8 : Hid (RdAt w8 B (s6 b)) := hR8; have HO8 : Hid (OwnIds w2.heap.size w8 (.slice q3 l3 c3) (gP b)) := OwnIds.but HO7.out hb8 hBl2; have hB8 : Below w1.heap.size w1 w8 := below_but hB7 hb8 hB hB7.size; have hs8 := hb8.size; obtain ⟨l8, hl8⟩ : ∃ l, (gT b).length = l := ⟨_, rfl⟩; obtain ⟨q8, c8, hv8⟩ := own_len (zs := gT b) ho8 hl8; subst hv8; have hstr := str_of_bytes (ho8.bytes HGT.out.1) w8 (Below.refl _ _); have HRR8 : Hid (Row w8 w.heap.size 29 (cmtC (.slice none 0 0) noCmt)) := HR1.out.below hB8 (by have := HS1.out; omega); have HBu : Hid (Try.prog.built 29 [(0, .slice q3 l3 c3), (1, .agg (u8s (idR (s1 b))).toArray), (2, .agg (u8s (idR (s2 b))).toArray), (3, .int .u64 (gQ b : Nat)), (4, .int .u32 (gA b : Nat)), (5, .string (strOf (gT b)))] = some (cmtC (.slice q3 l3 c3) (gC b)).toArray) := built29 q3 l3 c3 (gC b) HOk.out; clear hR8 hb8 ho8 hB7)
    | ((with_reducible show wpList _ _ _ (Oper.mk (some 22) _ _ _ _ _ :: _) _ _); refine wpList_built_want (by rfl) 29 _ rfl _ _ (by simp only [List.map_toArray, List.map_cons, List.map_nil]; rfl) HBu.out ?_; simp only [Act.put, List.setIfInBounds_toArray, List.set_cons_zero, List.set_cons_succ])
    | ((with_reducible show wpList _ _ _ (Oper.mk _ (Op.store 29 (.tmp 5) (.tmp 22)) _ _ _ _ :: _) _ _); refine wpList_storeNew rfl (.tmp 5) (.tmp 22) rfl (.slice q3 l3 c3) rfl (gC b) HOk.out rfl rfl (fun w9 hb9 hE9 => ?_); have HE9 : Hid (CmtAt w9 w8.heap.size (.slice q3 l3 c3) (gC b)) := hE9; have HR9 : Hid (RdAt w9 B (s6 b)) := HR8.out.later hb9; have HRR9 : Hid (Row w9 w.heap.size 29 (cmtC (.slice none 0 0) noCmt)) := HRR8.out.later hb9; have HO9 : Hid (OwnIds w2.heap.size w9 (.slice q3 l3 c3) (gP b)) := OwnIds.later hb9 HO8.out; have hB9 : Below w1.heap.size w1 w9 := hB8.trans (hb9.mono hB8.size); have hs9 := hb9.size; clear hE9 hb9 hstr; simp only [Act.put])
    | (go_at_call 37; refine (end_any B (s6 b) w9 HR9.out).mono ?_; rintro e w9' ⟨rfl, hw9⟩; obtain rfl : w9 = w9' := hw9.symm; clear hw9; rw [HE.out])
    | ((with_reducible show wpList _ _ _ (Oper.mk (some 27) (Op.load 29 (.tmp 5)) _ _ _ _ :: _) _ _); refine BigFrame.wpList_want (by rfl) fun _ hK => wp_load_mid 29 (.tmp 5) rfl w8.heap.size 0 rfl (cmtC (.slice q3 l3 c3) (gC b)) _ HE9.out.row.range Try.underlying29 rfl (size29' HOk.out) (hK _ _ ?_); simp only [Act.put, List.setIfInBounds_toArray, List.set_cons_zero, List.set_cons_succ])
    | (go_at_call 20; refine (mayBe_any q3 l3 c3 (gP b) (gC b) HOk.out (by have := HGP.out.2; have := HL3.out; omega) w9 (HO9.out.ids HL3.out HGP.out.1)).mono ?_; rintro e w10 ⟨rfl, hb10⟩; rw [HM.out]; have HE10 : Hid (CmtAt w10 w8.heap.size (.slice q3 l3 c3) (gC b)) := HE9.out.later hb10; have HRR10 : Hid (Row w10 w.heap.size 29 (cmtC (.slice none 0 0) noCmt)) := HRR9.out.later hb10; have HO10 : Hid (OwnIds w2.heap.size w10 (.slice q3 l3 c3) (gP b)) := OwnIds.later hb10 HO9.out; have hB10 : Below w1.heap.size w1 w10 := hB9.trans (hb10.mono hB9.size); clear hb10)
    | ((with_reducible show wpList _ _ _ (Oper.mk (some 32) (Op.load 29 (.tmp 5)) _ _ _ _ :: _) _ _); refine wpList_loadCmt rfl (.tmp 5) rfl rfl HOk.out HE10.out.row.range ?_; simp only [Act.put, List.setIfInBounds_toArray, List.set_cons_zero, List.set_cons_succ])
    | ((with_reducible show wpList _ _ _ (Oper.mk _ (Op.store 29 (.tmp 2) (.tmp 32)) _ _ _ _ :: _) _ _); refine wpList_store_Row rfl 29 (.tmp 2) (.tmp 32) rfl (cmtC (.slice q3 l3 c3) (gC b)) rfl rfl HRR10.out (size29' HOk.out) (by rw [cmtC_length HOk.out, cmtC_length noCmt_ok]) (cmtC_one rfl _) ?_; simp only [Act.put]))
  refine bodyPost_ret (results_RowS_tmp rfl rfl (Row.sets_all (vs := cmtC (.slice q3 l3 c3) (gC b)) HRR10.out (by rw [cmtC_length HOk.out, cmtC_length noCmt_ok])) Try.underlying29 (size29' HOk.out)) rfl ?_
  have hbut : But w.heap.size w10.heap.size w10 (w10.setCells w.heap.size 0 (cmtC (.slice q3 l3 c3) (gC b))) := But.sets _ _ _
  have hoi := OwnIds.but HO10.out hbut (by have := HS1.out; have := hb2.size; omega)
  exact .inl ⟨HIs.out, q3, l3, c3, rfl, hoi.ids HL3.out HGP.out.1, below_setCells (Nat.le_refl _) _ _ (HB1.out.trans (hB10.mono HB1.out.size))⟩

/-- Of -/
theorem of_any (p : Option Addr) (len cap : Nat) (b : List Nat) (hlen : len ≤ 50000) (w : World) (hI : IsBytes w.heap.size w p len cap b) : Calls Try.prog 14 #[.slice p len cap] w (OfPost w b) := by
  by_cases hE : endE (s6 b) = 0
  · cases hM : mayC (gP b) (gC b) with
    | true => exact of_good p len cap b hlen w hI hE hM
    | false => exact of_may p len cap b hlen w hI hE hM
  · refine of_end p len cap b hlen w hI ?_
    cases hs : s6 b with
    | none => rfl
    | some zs =>
      rw [hs] at hE
      by_cases h0 : 0 < zs.length
      · show (if 0 < zs.length then (80 : Int) else 0) = 80
        rw [if_pos h0]
      · exact absurd (show (if 0 < zs.length then (80 : Int) else 0) = 0 from if_neg h0) hE
end Go.Proofs.Ytkhhlcjjdkldjaa
