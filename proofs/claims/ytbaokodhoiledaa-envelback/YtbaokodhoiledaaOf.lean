/-
  envel.Of: the envelope that bytes are, or that they are none.
-/
import Derived.Test.YtbaokodhoiledaaGot
import Derived.Test.YtbaokodhoiledaaRdIds
import Derived.Laws.ResultCell
namespace Go.Proofs.Ytbaokodhoiledaa
open Go.RowKit

/-- What Of answers. -/
def OfPost (w : World) (b : List Nat) (e : Ending) (w' : World) : Prop :=
  (isEnv b = true ∧ ∃ p len cap q lb cb, e = .returned (.tuple #[.agg #[.int .i64 (gKd b : Nat), .int .u32 (gRl b : Nat), .int .u32 (gEp b : Nat), .slice p len cap, .slice q lb cb], .int .i64 0]) ∧ IsIds w'.heap.size w' p len cap (gIds b) ∧ IsBytes w'.heap.size w' q lb cb (gBs b) ∧ Below w.heap.size w w') ∨
  (isEnv b = false ∧ e = .returned (.tuple #[.agg #[.int .i64 0, .int .u32 0, .int .u32 0, .slice none 0 0, .slice none 0 0], .int .i64 90]) ∧ Below w.heap.size w w')

theorem below_but {B n : Nat} {a w w' : World} (h : Below n a w) (hb : But B w.heap.size w w') (hn : n ≤ B) (hn2 : n ≤ w.heap.size) : Below n a w' := h.trans (hb.below hn2 hn)
theorem results_RowS_tmp {P : Program} {fn : Func} {p u : Tmp} {ty : TypeId} (h : fn.results = #[.cell p ty, .tmp u]) {tmps : Array Value} {w : World} {g : Nat} {t : TypeId} {cs : List Value} (hp : tmps.getD p undef = .pointer (some ⟨g, 0, none⟩)) (hg : Row w g t cs)
    {fs : Array Field} (hu : P.underlying ty = some (.struct fs)) (hi : (P.info? ty).map (·.size) = some cs.length) : (results fn tmps).run P w = .ok (.tuple #[.agg cs.toArray, tmps.getD u undef]) w := by
  rw [results_cell_tmp h, hp]
  simp [asAddr, run_loadVar_row w g t ty cs.toArray (0, 0) _ hg hu rfl (by simpa using hi)]
theorem env_one (kd : Int) (rl ep : Nat) (p : Option Addr) (len cap : Nat) (q : Option Addr) (lb cb : Nat) : ∀ v ∈ [Value.int .i64 kd, .int .u32 (rl : Nat), .int .u32 (ep : Nat), .slice p len cap, .slice q lb cb], v.oneCell' = true := by simp [Value.oneCell']

set_option maxRecDepth 100000 in
set_option maxHeartbeats 2000000 in
theorem of_end (p : Option Addr) (len cap : Nat) (b : List Nat) (hlen : len ≤ 2500) (w : World) (hI : IsBytes w.heap.size w p len cap b) (hE : endE (st5 b) = 80) :
    Calls Try.prog 16 #[.slice p len cap] w (OfPost w b) := by
  have e1 : IntKind.i64.wrap (gKd b : Int) = (gKd b : Int) := by have := gKd_le b; simp [IntKind.wrap, IntKind.bits, IntKind.signed]; omega
  have e2 : IntKind.u32.wrap (gRl b : Int) = (gRl b : Int) := by have := gRl_lt b; simp [IntKind.wrap, IntKind.bits, IntKind.signed]; omega
  have e3 : IntKind.u32.wrap (gEp b : Int) = (gEp b : Int) := by have := gEp_lt b; simp [IntKind.wrap, IntKind.bits, IntKind.signed]; omega
  have e1b : wrap64 (gKd b : Int) = (gKd b : Int) := by have := gKd_le b; unfold wrap64; omega
  have e2b : (gRl b : Int) % 4294967296 = (gRl b : Int) := by have := gRl_lt b; omega
  have e3b : (gEp b : Int) % 4294967296 = (gEp b : Int) := by have := gEp_lt b; omega
  have HI : Hid (IsBytes w.heap.size w p len cap b) := hI
  have HGI : Hid ((∀ x ∈ gIds b, x.length = 32 ∧ ∀ z ∈ x, z < 256) ∧ (gIds b).length ≤ 1000) := gIds_all hI.2.2.2.1
  have HGB : Hid ((∀ x ∈ gBs b, x < 256) ∧ (gBs b).length ≤ 70000) := gBs_all hI.2.2.2.1
  have HEnv : Hid (isEnv b = false) := by show _ = _; simp [isEnv, hE]
  have HE : Hid (endE (st5 b) = 80) := hE
  clear hI hE
  obtain ⟨w1, hw1⟩ : ∃ w1, w.alloc (.cells #[.int .i64 0, .int .u32 0, .int .u32 0, .slice none 0 0, .slice none 0 0] 31) = w1 := ⟨_, rfl⟩
  have HW1 : Hid (w.alloc (.cells #[.int .i64 0, .int .u32 0, .int .u32 0, .slice none 0 0, .slice none 0 0] 31) = w1) := hw1
  have HS1 : Hid (w1.heap.size = w.heap.size + 1) := by show _ = _; rw [← hw1]; simp
  have HB1 : Hid (Below w.heap.size w w1) := by rw [← hw1]; exact (Below.refl _ w).alloc (Nat.le_refl _) _
  have HR1 : Hid (Row w1 w.heap.size 31 [Value.int .i64 0, .int .u32 0, .int .u32 0, .slice none 0 0, .slice none 0 0]) := by rw [← hw1]; exact Row.new w 31 _
  clear hw1
  go_enter Try.func16, Try.ntmps16
  go_wp2_with (first
    | (go_at_call 33; rw [HW1.out]; refine (read_any p len cap b (by omega) w1 ((HI.out.below HB1.out).mono HB1.out.size)).mono ?_; rintro e w2 ⟨B, rfl, hB, hR2, hb2⟩; have HR2 : Hid (RdAt w2 B (some b)) := hR2; have H3 := readerN_any B (some b) 3 (by omega) w2 HR2.out; clear hR2)
    | (go_at_call 34; refine H3.mono ?_; clear H3; rintro e w3 ⟨rfl, hR3, hb3⟩; have HR3 : Hid (RdAt w3 B (st1 b)) := hR3; have hB3 : Below w1.heap.size w1 w3 := below_but hb2 hb3 hB hb2.size; have H4 := readerN_any B (st1 b) 4294967295 (by omega) w3 HR3.out; clear hR3 hb3; have hfold : (readN 3 (some b)).1 = gKd b := rfl; rw [hfold]; clear hfold)
    | (go_at_call 34; refine H4.mono ?_; clear H4; rintro e w4 ⟨rfl, hR4, hb4⟩; have HR4 : Hid (RdAt w4 B (st2 b)) := hR4; have hB4 : Below w1.heap.size w1 w4 := below_but hB3 hb4 hB hB3.size; have H5 := readerN_any B (st2 b) 4294967295 (by omega) w4 HR4.out; clear hR4 hb4 hB3; have hfold : (readN 4294967295 (st1 b)).1 = gRl b := rfl; rw [hfold]; clear hfold)
    | (go_at_call 34; refine H5.mono ?_; clear H5; rintro e w5 ⟨rfl, hR5, hb5⟩; have HR5 : Hid (RdAt w5 B (st3 b)) := hR5; have hB5 : Below w1.heap.size w1 w5 := below_but hB4 hb5 hB hB4.size; clear hR5 hb5 hB4; have hfold : (readN 4294967295 (st2 b)).1 = gEp b := rfl; rw [hfold]; clear hfold)
    | (go_at_call 35; refine (readerIds_any B (st3 b) 1000 (by omega) w5 HR5.out).mono ?_; rintro e w6 ⟨v6, rfl, ho6, hR6, hb6⟩; have HR6 : Hid (RdAt w6 B (st4 b)) := hR6; have hB6 : Below w1.heap.size w1 w6 := below_but hB5 hb6 hB hB5.size; have HO6 : Hid (OwnIds w5.heap.size w6 v6 (gIds b)) := ho6; have hBl5 : B < w5.heap.size := HR5.out.lt; clear hR6 hb6 ho6)
    | (go_at_call 36; refine (readerText_any B (st4 b) 70000 (by omega) w6 HR6.out).mono ?_; rintro e w7 ⟨v7, rfl, ho7, hR7, hb7⟩; have HR7 : Hid (RdAt w7 B (st5 b)) := hR7; have hB7 : Below w1.heap.size w1 w7 := below_but hB6 hb7 hB hB6.size; have ho67 := OwnIds.but HO6.out hb7 hBl5; obtain ⟨p6, c6, hv6⟩ := ho67.slice; obtain ⟨l6, hl6⟩ : ∃ l, (gIds b).length = l := ⟨_, rfl⟩; rw [hl6] at hv6; subst hv6; have HI7 : Hid (IsIds w7.heap.size w7 p6 l6 c6 (gIds b)) := ho67.ids hl6 HGI.out.1; obtain ⟨l7, hl7⟩ : ∃ l, (gBs b).length = l := ⟨_, rfl⟩; obtain ⟨q7, c7, hv7⟩ := own_len (zs := gBs b) ho7 hl7; subst hv7; have HJ7 : Hid (IsBytes w7.heap.size w7 q7 l7 c7 (gBs b)) := ho7.bytes HGB.out.1; have HOI7 : Hid (OwnIds w5.heap.size w7 (.slice p6 l6 c6) (gIds b)) := ho67; have HOJ7 : Hid (Own w6.heap.size w7 (.slice q7 l7 c7) (gBs b)) := ho7; have HS5 : Hid (w.heap.size < w5.heap.size ∧ w.heap.size < w6.heap.size) := (by have g5 := hB5.size; have g6 := hB6.size; have g1 := HS1.out; exact ⟨by omega, by omega⟩); have HLI : Hid ((gIds b).length = l6) := hl6; have HLB : Hid ((gBs b).length = l7) := hl7; have HL6 : Hid (l6 ≤ 1000) := (by rw [← hl6]; exact HGI.out.2); have HL7 : Hid (l7 ≤ 70000) := (by rw [← hl7]; exact HGB.out.2); clear hR7 hb7 ho7 ho67 hl6 hl7 HO6 hB6 hB5)
    | ((with_reducible show wpList _ _ _ (Oper.mk _ (Op.store 31 (.tmp 5) (.tmp 21)) _ _ _ _ :: _) _ _); refine wpList_store_Row rfl 31 (.tmp 5) (.tmp 21) rfl [Value.int .i64 (gKd b : Nat), .int .u32 (gRl b : Nat), .int .u32 (gEp b : Nat), .slice p6 l6 c6, .slice q7 l7 c7] rfl rfl (Row.new w7 31 #[.int .i64 0, .int .u32 0, .int .u32 0, .slice none 0 0, .slice none 0 0]) size31 rfl (env_one _ _ _ _ _ _ _ _ _) ?_; have hr8 := (Row.new w7 31 #[.int .i64 0, .int .u32 0, .int .u32 0, .slice none 0 0, .slice none 0 0]).sets_all (vs := [Value.int .i64 (gKd b : Nat), .int .u32 (gRl b : Nat), .int .u32 (gEp b : Nat), .slice p6 l6 c6, .slice q7 l7 c7]) rfl; have hb8 : Below w7.heap.size w7 ((w7.alloc (.cells #[.int .i64 0, .int .u32 0, .int .u32 0, .slice none 0 0, .slice none 0 0] 31)).setCells w7.heap.size 0 [Value.int .i64 (gKd b : Nat), .int .u32 (gRl b : Nat), .int .u32 (gEp b : Nat), .slice p6 l6 c6, .slice q7 l7 c7]) := below_setCells (Nat.le_refl _) _ _ ((Below.refl _ w7).alloc (Nat.le_refl _) _); generalize (w7.alloc (.cells #[.int .i64 0, .int .u32 0, .int .u32 0, .slice none 0 0, .slice none 0 0] 31)).setCells w7.heap.size 0 [Value.int .i64 (gKd b : Nat), .int .u32 (gRl b : Nat), .int .u32 (gEp b : Nat), .slice p6 l6 c6, .slice q7 l7 c7] = w8 at *; have HR8 : Hid (Row w8 w7.heap.size 31 [Value.int .i64 (gKd b : Nat), .int .u32 (gRl b : Nat), .int .u32 (gEp b : Nat), .slice p6 l6 c6, .slice q7 l7 c7]) := hr8; have d0 := hr8.cell (i := 0) rfl; have d1 := hr8.cell (i := 1) rfl; have d2 := hr8.cell (i := 2) rfl; have d3 := hr8.cell (i := 3) rfl; have d4 := hr8.cell (i := 4) rfl; have hB8 : Below w1.heap.size w1 w8 := hB7.trans (hb8.mono hB7.size); have HRR8 : Hid (Row w8 w.heap.size 31 [Value.int .i64 0, .int .u32 0, .int .u32 0, .slice none 0 0, .slice none 0 0]) := HR1.out.later hB8; have HRd8 : Hid (RdAt w8 B (st5 b)) := HR7.out.later hb8; have HI8 : Hid (IsIds w8.heap.size w8 p6 l6 c6 (gIds b)) := (HI7.out.below hb8).mono hb8.size; have HJ8 : Hid (IsBytes w8.heap.size w8 q7 l7 c7 (gBs b)) := (HJ7.out.below hb8).mono hb8.size; have HOI8 : Hid (OwnIds w5.heap.size w8 (.slice p6 l6 c6) (gIds b)) := OwnIds.later hb8 HOI7.out; have HOJ8 : Hid (Own w6.heap.size w8 (.slice q7 l7 c7) (gBs b)) := Own.later hb8 HOJ7.out; clear hr8 hb8 hB7 HR7 HI7 HJ7; simp only [Act.put])
    | (go_at_call 37; refine (end_any B (st5 b) w8 HRd8.out).mono ?_; rintro e w8' ⟨rfl, hw8⟩; obtain rfl : w8 = w8' := hw8.symm; clear hw8; rw [HE.out])
    | ((with_reducible show wpList _ _ _ (Oper.mk _ (Op.store 31 (.tmp 2) (.tmp 30)) _ _ _ _ :: _) _ _); refine wpList_store_Row rfl 31 (.tmp 2) (.tmp 30) rfl [Value.int .i64 0, .int .u32 0, .int .u32 0, .slice none 0 0, .slice none 0 0] rfl rfl HRR8.out size31 rfl (env_one 0 0 0 none 0 0 none 0 0) ?_; simp only [Act.put]))
  refine bodyPost_ret (results_RowS_tmp rfl rfl (Row.sets_all (vs := [Value.int .i64 0, .int .u32 0, .int .u32 0, .slice none 0 0, .slice none 0 0]) HRR8.out rfl) Try.underlying31 size31) rfl ?_
  exact .inr ⟨HEnv.out, rfl, below_setCells (Nat.le_refl _) _ _ (HB1.out.trans (hB8.mono HB1.out.size))⟩

set_option maxRecDepth 100000 in
set_option maxHeartbeats 2000000 in
theorem of_may (p : Option Addr) (len cap : Nat) (b : List Nat) (hlen : len ≤ 2500) (w : World) (hI : IsBytes w.heap.size w p len cap b) (hE : endE (st5 b) = 0) (hM : (okKind (gKd b) && riseB (gIds b)) = false) :
    Calls Try.prog 16 #[.slice p len cap] w (OfPost w b) := by
  have e1 : IntKind.i64.wrap (gKd b : Int) = (gKd b : Int) := by have := gKd_le b; simp [IntKind.wrap, IntKind.bits, IntKind.signed]; omega
  have e2 : IntKind.u32.wrap (gRl b : Int) = (gRl b : Int) := by have := gRl_lt b; simp [IntKind.wrap, IntKind.bits, IntKind.signed]; omega
  have e3 : IntKind.u32.wrap (gEp b : Int) = (gEp b : Int) := by have := gEp_lt b; simp [IntKind.wrap, IntKind.bits, IntKind.signed]; omega
  have e1b : wrap64 (gKd b : Int) = (gKd b : Int) := by have := gKd_le b; unfold wrap64; omega
  have e2b : (gRl b : Int) % 4294967296 = (gRl b : Int) := by have := gRl_lt b; omega
  have e3b : (gEp b : Int) % 4294967296 = (gEp b : Int) := by have := gEp_lt b; omega
  have HI : Hid (IsBytes w.heap.size w p len cap b) := hI
  have HGI : Hid ((∀ x ∈ gIds b, x.length = 32 ∧ ∀ z ∈ x, z < 256) ∧ (gIds b).length ≤ 1000) := gIds_all hI.2.2.2.1
  have HGB : Hid ((∀ x ∈ gBs b, x < 256) ∧ (gBs b).length ≤ 70000) := gBs_all hI.2.2.2.1
  have HEnv : Hid (isEnv b = false) := by show _ = _; simp [isEnv, hE, hM]
  have HE : Hid (endE (st5 b) = 0) := hE
  have HM : Hid ((okKind (gKd b) && riseB (gIds b)) = false) := hM
  clear hI hE hM
  obtain ⟨w1, hw1⟩ : ∃ w1, w.alloc (.cells #[.int .i64 0, .int .u32 0, .int .u32 0, .slice none 0 0, .slice none 0 0] 31) = w1 := ⟨_, rfl⟩
  have HW1 : Hid (w.alloc (.cells #[.int .i64 0, .int .u32 0, .int .u32 0, .slice none 0 0, .slice none 0 0] 31) = w1) := hw1
  have HS1 : Hid (w1.heap.size = w.heap.size + 1) := by show _ = _; rw [← hw1]; simp
  have HB1 : Hid (Below w.heap.size w w1) := by rw [← hw1]; exact (Below.refl _ w).alloc (Nat.le_refl _) _
  have HR1 : Hid (Row w1 w.heap.size 31 [Value.int .i64 0, .int .u32 0, .int .u32 0, .slice none 0 0, .slice none 0 0]) := by rw [← hw1]; exact Row.new w 31 _
  clear hw1
  go_enter Try.func16, Try.ntmps16
  go_wp2_with (first
    | (go_at_call 33; rw [HW1.out]; refine (read_any p len cap b (by omega) w1 ((HI.out.below HB1.out).mono HB1.out.size)).mono ?_; rintro e w2 ⟨B, rfl, hB, hR2, hb2⟩; have HR2 : Hid (RdAt w2 B (some b)) := hR2; have H3 := readerN_any B (some b) 3 (by omega) w2 HR2.out; clear hR2)
    | (go_at_call 34; refine H3.mono ?_; clear H3; rintro e w3 ⟨rfl, hR3, hb3⟩; have HR3 : Hid (RdAt w3 B (st1 b)) := hR3; have hB3 : Below w1.heap.size w1 w3 := below_but hb2 hb3 hB hb2.size; have H4 := readerN_any B (st1 b) 4294967295 (by omega) w3 HR3.out; clear hR3 hb3; have hfold : (readN 3 (some b)).1 = gKd b := rfl; rw [hfold]; clear hfold)
    | (go_at_call 34; refine H4.mono ?_; clear H4; rintro e w4 ⟨rfl, hR4, hb4⟩; have HR4 : Hid (RdAt w4 B (st2 b)) := hR4; have hB4 : Below w1.heap.size w1 w4 := below_but hB3 hb4 hB hB3.size; have H5 := readerN_any B (st2 b) 4294967295 (by omega) w4 HR4.out; clear hR4 hb4 hB3; have hfold : (readN 4294967295 (st1 b)).1 = gRl b := rfl; rw [hfold]; clear hfold)
    | (go_at_call 34; refine H5.mono ?_; clear H5; rintro e w5 ⟨rfl, hR5, hb5⟩; have HR5 : Hid (RdAt w5 B (st3 b)) := hR5; have hB5 : Below w1.heap.size w1 w5 := below_but hB4 hb5 hB hB4.size; clear hR5 hb5 hB4; have hfold : (readN 4294967295 (st2 b)).1 = gEp b := rfl; rw [hfold]; clear hfold)
    | (go_at_call 35; refine (readerIds_any B (st3 b) 1000 (by omega) w5 HR5.out).mono ?_; rintro e w6 ⟨v6, rfl, ho6, hR6, hb6⟩; have HR6 : Hid (RdAt w6 B (st4 b)) := hR6; have hB6 : Below w1.heap.size w1 w6 := below_but hB5 hb6 hB hB5.size; have HO6 : Hid (OwnIds w5.heap.size w6 v6 (gIds b)) := ho6; have hBl5 : B < w5.heap.size := HR5.out.lt; clear hR6 hb6 ho6)
    | (go_at_call 36; refine (readerText_any B (st4 b) 70000 (by omega) w6 HR6.out).mono ?_; rintro e w7 ⟨v7, rfl, ho7, hR7, hb7⟩; have HR7 : Hid (RdAt w7 B (st5 b)) := hR7; have hB7 : Below w1.heap.size w1 w7 := below_but hB6 hb7 hB hB6.size; have ho67 := OwnIds.but HO6.out hb7 hBl5; obtain ⟨p6, c6, hv6⟩ := ho67.slice; obtain ⟨l6, hl6⟩ : ∃ l, (gIds b).length = l := ⟨_, rfl⟩; rw [hl6] at hv6; subst hv6; have HI7 : Hid (IsIds w7.heap.size w7 p6 l6 c6 (gIds b)) := ho67.ids hl6 HGI.out.1; obtain ⟨l7, hl7⟩ : ∃ l, (gBs b).length = l := ⟨_, rfl⟩; obtain ⟨q7, c7, hv7⟩ := own_len (zs := gBs b) ho7 hl7; subst hv7; have HJ7 : Hid (IsBytes w7.heap.size w7 q7 l7 c7 (gBs b)) := ho7.bytes HGB.out.1; have HOI7 : Hid (OwnIds w5.heap.size w7 (.slice p6 l6 c6) (gIds b)) := ho67; have HOJ7 : Hid (Own w6.heap.size w7 (.slice q7 l7 c7) (gBs b)) := ho7; have HS5 : Hid (w.heap.size < w5.heap.size ∧ w.heap.size < w6.heap.size) := (by have g5 := hB5.size; have g6 := hB6.size; have g1 := HS1.out; exact ⟨by omega, by omega⟩); have HLI : Hid ((gIds b).length = l6) := hl6; have HLB : Hid ((gBs b).length = l7) := hl7; have HL6 : Hid (l6 ≤ 1000) := (by rw [← hl6]; exact HGI.out.2); have HL7 : Hid (l7 ≤ 70000) := (by rw [← hl7]; exact HGB.out.2); clear hR7 hb7 ho7 ho67 hl6 hl7 HO6 hB6 hB5)
    | ((with_reducible show wpList _ _ _ (Oper.mk _ (Op.store 31 (.tmp 5) (.tmp 21)) _ _ _ _ :: _) _ _); refine wpList_store_Row rfl 31 (.tmp 5) (.tmp 21) rfl [Value.int .i64 (gKd b : Nat), .int .u32 (gRl b : Nat), .int .u32 (gEp b : Nat), .slice p6 l6 c6, .slice q7 l7 c7] rfl rfl (Row.new w7 31 #[.int .i64 0, .int .u32 0, .int .u32 0, .slice none 0 0, .slice none 0 0]) size31 rfl (env_one _ _ _ _ _ _ _ _ _) ?_; have hr8 := (Row.new w7 31 #[.int .i64 0, .int .u32 0, .int .u32 0, .slice none 0 0, .slice none 0 0]).sets_all (vs := [Value.int .i64 (gKd b : Nat), .int .u32 (gRl b : Nat), .int .u32 (gEp b : Nat), .slice p6 l6 c6, .slice q7 l7 c7]) rfl; have hb8 : Below w7.heap.size w7 ((w7.alloc (.cells #[.int .i64 0, .int .u32 0, .int .u32 0, .slice none 0 0, .slice none 0 0] 31)).setCells w7.heap.size 0 [Value.int .i64 (gKd b : Nat), .int .u32 (gRl b : Nat), .int .u32 (gEp b : Nat), .slice p6 l6 c6, .slice q7 l7 c7]) := below_setCells (Nat.le_refl _) _ _ ((Below.refl _ w7).alloc (Nat.le_refl _) _); generalize (w7.alloc (.cells #[.int .i64 0, .int .u32 0, .int .u32 0, .slice none 0 0, .slice none 0 0] 31)).setCells w7.heap.size 0 [Value.int .i64 (gKd b : Nat), .int .u32 (gRl b : Nat), .int .u32 (gEp b : Nat), .slice p6 l6 c6, .slice q7 l7 c7] = w8 at *; have HR8 : Hid (Row w8 w7.heap.size 31 [Value.int .i64 (gKd b : Nat), .int .u32 (gRl b : Nat), .int .u32 (gEp b : Nat), .slice p6 l6 c6, .slice q7 l7 c7]) := hr8; have d0 := hr8.cell (i := 0) rfl; have d1 := hr8.cell (i := 1) rfl; have d2 := hr8.cell (i := 2) rfl; have d3 := hr8.cell (i := 3) rfl; have d4 := hr8.cell (i := 4) rfl; have hB8 : Below w1.heap.size w1 w8 := hB7.trans (hb8.mono hB7.size); have HRR8 : Hid (Row w8 w.heap.size 31 [Value.int .i64 0, .int .u32 0, .int .u32 0, .slice none 0 0, .slice none 0 0]) := HR1.out.later hB8; have HRd8 : Hid (RdAt w8 B (st5 b)) := HR7.out.later hb8; have HI8 : Hid (IsIds w8.heap.size w8 p6 l6 c6 (gIds b)) := (HI7.out.below hb8).mono hb8.size; have HJ8 : Hid (IsBytes w8.heap.size w8 q7 l7 c7 (gBs b)) := (HJ7.out.below hb8).mono hb8.size; have HOI8 : Hid (OwnIds w5.heap.size w8 (.slice p6 l6 c6) (gIds b)) := OwnIds.later hb8 HOI7.out; have HOJ8 : Hid (Own w6.heap.size w8 (.slice q7 l7 c7) (gBs b)) := Own.later hb8 HOJ7.out; clear hr8 hb8 hB7 HR7 HI7 HJ7; simp only [Act.put])
    | (go_at_call 37; refine (end_any B (st5 b) w8 HRd8.out).mono ?_; rintro e w8' ⟨rfl, hw8⟩; obtain rfl : w8 = w8' := hw8.symm; clear hw8; rw [HE.out])
    | (go_at_call 26; refine (mayBe_any (gKd b) (gRl b) (gEp b) p6 l6 c6 (gIds b) q7 l7 c7 HL6.out HL7.out w8 HI8.out).mono ?_; rintro e w9 ⟨rfl, hb9⟩; rw [HM.out]; have HRR9 : Hid (Row w9 w.heap.size 31 [Value.int .i64 0, .int .u32 0, .int .u32 0, .slice none 0 0, .slice none 0 0]) := HRR8.out.later hb9; have hr9 := HR8.out.later hb9; clear d0 d1 d2 d3 d4; have d0 := hr9.cell (i := 0) rfl; have d1 := hr9.cell (i := 1) rfl; have d2 := hr9.cell (i := 2) rfl; have d3 := hr9.cell (i := 3) rfl; have d4 := hr9.cell (i := 4) rfl; clear hr9; have hB9 : Below w1.heap.size w1 w9 := hB8.trans (hb9.mono hB8.size); have HOI9 : Hid (OwnIds w5.heap.size w9 (.slice p6 l6 c6) (gIds b)) := OwnIds.later hb9 HOI8.out; have HOJ9 : Hid (Own w6.heap.size w9 (.slice q7 l7 c7) (gBs b)) := Own.later hb9 HOJ8.out; clear hb9 hB8)
    | ((with_reducible show wpList _ _ _ (Oper.mk _ (Op.store 31 (.tmp 2) (.tmp 30)) _ _ _ _ :: _) _ _); refine wpList_store_Row rfl 31 (.tmp 2) (.tmp 30) rfl [Value.int .i64 0, .int .u32 0, .int .u32 0, .slice none 0 0, .slice none 0 0] rfl rfl HRR9.out size31 rfl (env_one 0 0 0 none 0 0 none 0 0) ?_; simp only [Act.put]))
  refine bodyPost_ret (results_RowS_tmp rfl rfl (Row.sets_all (vs := [Value.int .i64 0, .int .u32 0, .int .u32 0, .slice none 0 0, .slice none 0 0]) HRR9.out rfl) Try.underlying31 size31) rfl ?_
  exact .inr ⟨HEnv.out, rfl, below_setCells (Nat.le_refl _) _ _ (HB1.out.trans (hB9.mono HB1.out.size))⟩

set_option maxRecDepth 100000 in
set_option maxHeartbeats 2000000 in
theorem of_good (p : Option Addr) (len cap : Nat) (b : List Nat) (hlen : len ≤ 2500) (w : World) (hI : IsBytes w.heap.size w p len cap b) (hE : endE (st5 b) = 0) (hM : (okKind (gKd b) && riseB (gIds b)) = true) :
    Calls Try.prog 16 #[.slice p len cap] w (OfPost w b) := by
  have e1 : IntKind.i64.wrap (gKd b : Int) = (gKd b : Int) := by have := gKd_le b; simp [IntKind.wrap, IntKind.bits, IntKind.signed]; omega
  have e2 : IntKind.u32.wrap (gRl b : Int) = (gRl b : Int) := by have := gRl_lt b; simp [IntKind.wrap, IntKind.bits, IntKind.signed]; omega
  have e3 : IntKind.u32.wrap (gEp b : Int) = (gEp b : Int) := by have := gEp_lt b; simp [IntKind.wrap, IntKind.bits, IntKind.signed]; omega
  have e1b : wrap64 (gKd b : Int) = (gKd b : Int) := by have := gKd_le b; unfold wrap64; omega
  have e2b : (gRl b : Int) % 4294967296 = (gRl b : Int) := by have := gRl_lt b; omega
  have e3b : (gEp b : Int) % 4294967296 = (gEp b : Int) := by have := gEp_lt b; omega
  have HI : Hid (IsBytes w.heap.size w p len cap b) := hI
  have HGI : Hid ((∀ x ∈ gIds b, x.length = 32 ∧ ∀ z ∈ x, z < 256) ∧ (gIds b).length ≤ 1000) := gIds_all hI.2.2.2.1
  have HGB : Hid ((∀ x ∈ gBs b, x < 256) ∧ (gBs b).length ≤ 70000) := gBs_all hI.2.2.2.1
  have HEnv : Hid (isEnv b = true) := by show _ = _; simp [isEnv, hE, hM]
  have HE : Hid (endE (st5 b) = 0) := hE
  have HM : Hid ((okKind (gKd b) && riseB (gIds b)) = true) := hM
  clear hI hE hM
  obtain ⟨w1, hw1⟩ : ∃ w1, w.alloc (.cells #[.int .i64 0, .int .u32 0, .int .u32 0, .slice none 0 0, .slice none 0 0] 31) = w1 := ⟨_, rfl⟩
  have HW1 : Hid (w.alloc (.cells #[.int .i64 0, .int .u32 0, .int .u32 0, .slice none 0 0, .slice none 0 0] 31) = w1) := hw1
  have HS1 : Hid (w1.heap.size = w.heap.size + 1) := by show _ = _; rw [← hw1]; simp
  have HB1 : Hid (Below w.heap.size w w1) := by rw [← hw1]; exact (Below.refl _ w).alloc (Nat.le_refl _) _
  have HR1 : Hid (Row w1 w.heap.size 31 [Value.int .i64 0, .int .u32 0, .int .u32 0, .slice none 0 0, .slice none 0 0]) := by rw [← hw1]; exact Row.new w 31 _
  clear hw1
  go_enter Try.func16, Try.ntmps16
  go_wp2_with (first
    | (go_at_call 33; rw [HW1.out]; refine (read_any p len cap b (by omega) w1 ((HI.out.below HB1.out).mono HB1.out.size)).mono ?_; rintro e w2 ⟨B, rfl, hB, hR2, hb2⟩; have HR2 : Hid (RdAt w2 B (some b)) := hR2; have H3 := readerN_any B (some b) 3 (by omega) w2 HR2.out; clear hR2)
    | (go_at_call 34; refine H3.mono ?_; clear H3; rintro e w3 ⟨rfl, hR3, hb3⟩; have HR3 : Hid (RdAt w3 B (st1 b)) := hR3; have hB3 : Below w1.heap.size w1 w3 := below_but hb2 hb3 hB hb2.size; have H4 := readerN_any B (st1 b) 4294967295 (by omega) w3 HR3.out; clear hR3 hb3; have hfold : (readN 3 (some b)).1 = gKd b := rfl; rw [hfold]; clear hfold)
    | (go_at_call 34; refine H4.mono ?_; clear H4; rintro e w4 ⟨rfl, hR4, hb4⟩; have HR4 : Hid (RdAt w4 B (st2 b)) := hR4; have hB4 : Below w1.heap.size w1 w4 := below_but hB3 hb4 hB hB3.size; have H5 := readerN_any B (st2 b) 4294967295 (by omega) w4 HR4.out; clear hR4 hb4 hB3; have hfold : (readN 4294967295 (st1 b)).1 = gRl b := rfl; rw [hfold]; clear hfold)
    | (go_at_call 34; refine H5.mono ?_; clear H5; rintro e w5 ⟨rfl, hR5, hb5⟩; have HR5 : Hid (RdAt w5 B (st3 b)) := hR5; have hB5 : Below w1.heap.size w1 w5 := below_but hB4 hb5 hB hB4.size; clear hR5 hb5 hB4; have hfold : (readN 4294967295 (st2 b)).1 = gEp b := rfl; rw [hfold]; clear hfold)
    | (go_at_call 35; refine (readerIds_any B (st3 b) 1000 (by omega) w5 HR5.out).mono ?_; rintro e w6 ⟨v6, rfl, ho6, hR6, hb6⟩; have HR6 : Hid (RdAt w6 B (st4 b)) := hR6; have hB6 : Below w1.heap.size w1 w6 := below_but hB5 hb6 hB hB5.size; have HO6 : Hid (OwnIds w5.heap.size w6 v6 (gIds b)) := ho6; have hBl5 : B < w5.heap.size := HR5.out.lt; clear hR6 hb6 ho6)
    | (go_at_call 36; refine (readerText_any B (st4 b) 70000 (by omega) w6 HR6.out).mono ?_; rintro e w7 ⟨v7, rfl, ho7, hR7, hb7⟩; have HR7 : Hid (RdAt w7 B (st5 b)) := hR7; have hB7 : Below w1.heap.size w1 w7 := below_but hB6 hb7 hB hB6.size; have ho67 := OwnIds.but HO6.out hb7 hBl5; obtain ⟨p6, c6, hv6⟩ := ho67.slice; obtain ⟨l6, hl6⟩ : ∃ l, (gIds b).length = l := ⟨_, rfl⟩; rw [hl6] at hv6; subst hv6; have HI7 : Hid (IsIds w7.heap.size w7 p6 l6 c6 (gIds b)) := ho67.ids hl6 HGI.out.1; obtain ⟨l7, hl7⟩ : ∃ l, (gBs b).length = l := ⟨_, rfl⟩; obtain ⟨q7, c7, hv7⟩ := own_len (zs := gBs b) ho7 hl7; subst hv7; have HJ7 : Hid (IsBytes w7.heap.size w7 q7 l7 c7 (gBs b)) := ho7.bytes HGB.out.1; have HOI7 : Hid (OwnIds w5.heap.size w7 (.slice p6 l6 c6) (gIds b)) := ho67; have HOJ7 : Hid (Own w6.heap.size w7 (.slice q7 l7 c7) (gBs b)) := ho7; have HS5 : Hid (w.heap.size < w5.heap.size ∧ w.heap.size < w6.heap.size) := (by have g5 := hB5.size; have g6 := hB6.size; have g1 := HS1.out; exact ⟨by omega, by omega⟩); have HLI : Hid ((gIds b).length = l6) := hl6; have HLB : Hid ((gBs b).length = l7) := hl7; have HL6 : Hid (l6 ≤ 1000) := (by rw [← hl6]; exact HGI.out.2); have HL7 : Hid (l7 ≤ 70000) := (by rw [← hl7]; exact HGB.out.2); clear hR7 hb7 ho7 ho67 hl6 hl7 HO6 hB6 hB5)
    | ((with_reducible show wpList _ _ _ (Oper.mk _ (Op.store 31 (.tmp 5) (.tmp 21)) _ _ _ _ :: _) _ _); refine wpList_store_Row rfl 31 (.tmp 5) (.tmp 21) rfl [Value.int .i64 (gKd b : Nat), .int .u32 (gRl b : Nat), .int .u32 (gEp b : Nat), .slice p6 l6 c6, .slice q7 l7 c7] rfl rfl (Row.new w7 31 #[.int .i64 0, .int .u32 0, .int .u32 0, .slice none 0 0, .slice none 0 0]) size31 rfl (env_one _ _ _ _ _ _ _ _ _) ?_; have hr8 := (Row.new w7 31 #[.int .i64 0, .int .u32 0, .int .u32 0, .slice none 0 0, .slice none 0 0]).sets_all (vs := [Value.int .i64 (gKd b : Nat), .int .u32 (gRl b : Nat), .int .u32 (gEp b : Nat), .slice p6 l6 c6, .slice q7 l7 c7]) rfl; have hb8 : Below w7.heap.size w7 ((w7.alloc (.cells #[.int .i64 0, .int .u32 0, .int .u32 0, .slice none 0 0, .slice none 0 0] 31)).setCells w7.heap.size 0 [Value.int .i64 (gKd b : Nat), .int .u32 (gRl b : Nat), .int .u32 (gEp b : Nat), .slice p6 l6 c6, .slice q7 l7 c7]) := below_setCells (Nat.le_refl _) _ _ ((Below.refl _ w7).alloc (Nat.le_refl _) _); generalize (w7.alloc (.cells #[.int .i64 0, .int .u32 0, .int .u32 0, .slice none 0 0, .slice none 0 0] 31)).setCells w7.heap.size 0 [Value.int .i64 (gKd b : Nat), .int .u32 (gRl b : Nat), .int .u32 (gEp b : Nat), .slice p6 l6 c6, .slice q7 l7 c7] = w8 at *; have HR8 : Hid (Row w8 w7.heap.size 31 [Value.int .i64 (gKd b : Nat), .int .u32 (gRl b : Nat), .int .u32 (gEp b : Nat), .slice p6 l6 c6, .slice q7 l7 c7]) := hr8; have d0 := hr8.cell (i := 0) rfl; have d1 := hr8.cell (i := 1) rfl; have d2 := hr8.cell (i := 2) rfl; have d3 := hr8.cell (i := 3) rfl; have d4 := hr8.cell (i := 4) rfl; have hB8 : Below w1.heap.size w1 w8 := hB7.trans (hb8.mono hB7.size); have HRR8 : Hid (Row w8 w.heap.size 31 [Value.int .i64 0, .int .u32 0, .int .u32 0, .slice none 0 0, .slice none 0 0]) := HR1.out.later hB8; have HRd8 : Hid (RdAt w8 B (st5 b)) := HR7.out.later hb8; have HI8 : Hid (IsIds w8.heap.size w8 p6 l6 c6 (gIds b)) := (HI7.out.below hb8).mono hb8.size; have HJ8 : Hid (IsBytes w8.heap.size w8 q7 l7 c7 (gBs b)) := (HJ7.out.below hb8).mono hb8.size; have HOI8 : Hid (OwnIds w5.heap.size w8 (.slice p6 l6 c6) (gIds b)) := OwnIds.later hb8 HOI7.out; have HOJ8 : Hid (Own w6.heap.size w8 (.slice q7 l7 c7) (gBs b)) := Own.later hb8 HOJ7.out; clear hr8 hb8 hB7 HR7 HI7 HJ7; simp only [Act.put])
    | (go_at_call 37; refine (end_any B (st5 b) w8 HRd8.out).mono ?_; rintro e w8' ⟨rfl, hw8⟩; obtain rfl : w8 = w8' := hw8.symm; clear hw8; rw [HE.out])
    | (go_at_call 26; refine (mayBe_any (gKd b) (gRl b) (gEp b) p6 l6 c6 (gIds b) q7 l7 c7 HL6.out HL7.out w8 HI8.out).mono ?_; rintro e w9 ⟨rfl, hb9⟩; rw [HM.out]; have HRR9 : Hid (Row w9 w.heap.size 31 [Value.int .i64 0, .int .u32 0, .int .u32 0, .slice none 0 0, .slice none 0 0]) := HRR8.out.later hb9; have hr9 := HR8.out.later hb9; clear d0 d1 d2 d3 d4; have d0 := hr9.cell (i := 0) rfl; have d1 := hr9.cell (i := 1) rfl; have d2 := hr9.cell (i := 2) rfl; have d3 := hr9.cell (i := 3) rfl; have d4 := hr9.cell (i := 4) rfl; clear hr9; have hB9 : Below w1.heap.size w1 w9 := hB8.trans (hb9.mono hB8.size); have HOI9 : Hid (OwnIds w5.heap.size w9 (.slice p6 l6 c6) (gIds b)) := OwnIds.later hb9 HOI8.out; have HOJ9 : Hid (Own w6.heap.size w9 (.slice q7 l7 c7) (gBs b)) := Own.later hb9 HOJ8.out; clear hb9 hB8)
    | ((with_reducible show wpList _ _ _ (Oper.mk _ (Op.store 31 (.tmp 2) (.tmp 31)) _ _ _ _ :: _) _ _); refine wpList_store_Row rfl 31 (.tmp 2) (.tmp 31) rfl [Value.int .i64 (gKd b : Nat), .int .u32 (gRl b : Nat), .int .u32 (gEp b : Nat), .slice p6 l6 c6, .slice q7 l7 c7] rfl rfl HRR9.out size31 rfl (env_one _ _ _ _ _ _ _ _ _) ?_; simp only [Act.put]))
  refine bodyPost_ret (results_RowS_tmp rfl rfl (Row.sets_all (vs := [Value.int .i64 (gKd b : Nat), .int .u32 (gRl b : Nat), .int .u32 (gEp b : Nat), .slice p6 l6 c6, .slice q7 l7 c7]) HRR9.out rfl) Try.underlying31 size31) rfl ?_
  have hbut : But w.heap.size w9.heap.size w9 (w9.setCells w.heap.size 0 [Value.int .i64 (gKd b : Nat), .int .u32 (gRl b : Nat), .int .u32 (gEp b : Nat), .slice p6 l6 c6, .slice q7 l7 c7]) := But.sets _ _ _
  have hoi := OwnIds.but HOI9.out hbut HS5.out.1
  have hoj := Own.but HOJ9.out hbut HS5.out.2
  exact .inl ⟨HEnv.out, p6, l6, c6, q7, l7, c7, rfl, hoi.ids HLI.out HGI.out.1, hoj.bytes HGB.out.1, below_setCells (Nat.le_refl _) _ _ (HB1.out.trans (hB9.mono HB1.out.size))⟩

/-- Of -/
theorem of_env (p : Option Addr) (len cap : Nat) (b : List Nat) (hlen : len ≤ 2500) (w : World) (hI : IsBytes w.heap.size w p len cap b) : Calls Try.prog 16 #[.slice p len cap] w (OfPost w b) := by
  by_cases hE : endE (st5 b) = 0
  · cases hM : okKind (gKd b) && riseB (gIds b) with
    | true => exact of_good p len cap b hlen w hI hE hM
    | false => exact of_may p len cap b hlen w hI hE hM
  · refine of_end p len cap b hlen w hI ?_
    cases hs : st5 b with
    | none => rfl
    | some zs =>
      rw [hs] at hE
      by_cases h0 : 0 < zs.length
      · show (if 0 < zs.length then (80 : Int) else 0) = 80
        rw [if_pos h0]
      · exact absurd (show (if 0 < zs.length then (80 : Int) else 0) = 0 from if_neg h0) hE
end Go.Proofs.Ytbaokodhoiledaa
