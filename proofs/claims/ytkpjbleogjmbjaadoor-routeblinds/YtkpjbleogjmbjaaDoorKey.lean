/-
  What Key answers: the next 32 bytes as a key, or an error. Nothing that lay before the call has turned but the tape.
-/
import Derived.Test.YtkpjbleogjmbjaaDoorTake
import Derived.Laws.ResultCell
import Derived.Laws.Rows
namespace Go.Proofs.YtkpjbleogjmbjaaDoor
open Go.RowKit

theorem size24 : (Tryd.prog.info? 24).map (·.size) = some 32 := by kernel_rfl
theorem run_arrayAt24 (b o L C : Nat) (h : 32 ≤ L) (w : World) : (Instr.arrayAt 24 (.slice (some ⟨b, o, none⟩) L C)).run Tryd.prog w = .ok (.pointer (some ⟨b, o, none⟩)) w := by
  have h : ¬ L < 32 := by omega
  simp [Instr.arrayAt, run_underlying Tryd.underlying24, go_sem, h]

/-- A result that lies in a row, and one beside it. -/
theorem results_Row_tmp {P : Program} {fn : Func} {p u : Tmp} {ty : TypeId} (h : fn.results = #[.cell p ty, .tmp u]) {tmps : Array Value} {w : World} {g : Nat} {t : TypeId} {cs : List Value} (hp : tmps.getD p undef = .pointer (some ⟨g, 0, none⟩)) (hg : Row w g t cs)
    {n : Nat} {e : TypeId} (hu : P.underlying ty = some (.array n e)) (hi : (P.info? ty).map (·.size) = some cs.length) : (results fn tmps).run P w = .ok (.tuple #[.agg cs.toArray, tmps.getD u undef]) w := by
  rw [results_cell_tmp h, hp]
  simp [asAddr, run_loadVar_row w g t ty cs.toArray (0, 0) _ hg hu rfl (by simpa using hi)]

/-- No key. -/
def noKey : List Value := List.replicate 32 (.int .u8 0)

set_option maxRecDepth 100000 in
set_option maxHeartbeats 1000000 in
theorem key_err (a : Option Addr) (w : World) (HT : Hid (∀ W, Below w.heap.size w W → Calls Tryd.prog 31 #[.pointer a, .int .i64 32] W fun e w' => e = .returned (.tuple #[.slice none 0 0, .int .i64 60]) ∧ w' = W)) :
    Calls Tryd.prog 26 #[.pointer a] w fun e w' => e = .returned (.tuple #[.agg noKey.toArray, .int .i64 60]) ∧ Below w.heap.size w w' := by
  go_enter Tryd.func26, Tryd.ntmps26
  go_wp2_with (first
    | (go_at_call 31; refine (HT.out _ ((Below.refl _ w).alloc (Nat.le_refl _) _)).mono ?_; rintro e w1 ⟨rfl, hw1⟩; rw [hw1]; clear hw1)
    | ((with_reducible show wpList _ _ _ (Oper.mk _ (Op.store 24 (.tmp 2) (.tmp 13)) _ _ _ _ :: _) _ _); refine wpList_store_Row rfl 24 (.tmp 2) (.tmp 13) rfl noKey rfl rfl (Row.new _ _ _) size24 rfl (by decide) ?_; simp only [Act.put]))
  refine bodyPost_ret (results_Row_tmp rfl rfl (Row.sets_all (Row.new _ _ _) rfl) Tryd.underlying24 size24) rfl ?_
  exact ⟨rfl, below_setCells (Nat.le_refl _) _ _ ((Below.refl _ w).alloc (Nat.le_refl _) _)⟩

set_option maxRecDepth 100000 in
set_option maxHeartbeats 1000000 in
theorem key_some (B Q : Nat) (zs : List Nat) (h32 : 32 ≤ zs.length) (hlen : zs.length ≤ 70000) (w : World) (hT : TapeAt w B Q zs) :
    Calls Tryd.prog 26 #[.pointer (some ⟨B, 0, none⟩)] w fun e w' => e = .returned (.tuple #[.agg (u8s (zs.take 32)).toArray, .int .i64 0]) ∧ TapeAt w' B Q (zs.drop 32) ∧ But B w.heap.size w w' := by
  have hBl := hT.lt
  have HV : Hid ((u8s (zs.take 32)).length = 32) := by show _ = _; simp; omega
  have HV1 : Hid (∀ v ∈ u8s (zs.take 32), v.oneCell' = true) := u8s_one _
  have HT8 : Hid (∀ W, Below w.heap.size w W → Calls Tryd.prog 31 #[.pointer (some ⟨B, 0, none⟩), .int .i64 32] W fun e w' => ∃ g, e = .returned (.tuple #[.slice (some ⟨g, 0, none⟩) 32 32, .int .i64 0]) ∧ W.heap.size ≤ g ∧ Row w' g 5 (u8s (zs.take 32)) ∧ TapeAt w' B Q (zs.drop 32) ∧ But B W.heap.size W w') := fun W hW =>
    (take_some B Q 32 zs (by decide) h32 hlen W (hT.below hW hBl)).mono fun e w' ⟨g, h1, h2, h3, h4⟩ => by
      unfold Own at h2
      rw [show (zs.take 32).length = 32 by simp; omega] at h2
      obtain ⟨g', cur, e1, e2, _⟩ := row_of_own h2 (by decide)
      cases e1
      exact ⟨g, h1, e2, row_of_made h2, h3, h4⟩
  clear hT
  generalize u8s (zs.take 32) = V at *
  go_enter Tryd.func26, Tryd.ntmps26
  go_wp2_with (first
    | (go_at_call 31; refine (HT8.out _ ((Below.refl _ w).alloc (Nat.le_refl _) _)).mono ?_; rintro e w1 ⟨g, rfl, hg, hrg, ht1, hb1⟩; have HT1 : Hid (TapeAt w1 B Q (zs.drop 32)) := ht1; clear ht1; have hA := run_arrayAt24 g 0 32 32 (Nat.le_refl _); rw [z32u8] at hg hb1; have hr1 : Row w1 w.heap.size 24 noKey := hb1.row (by simp) (by omega) (Row.new' w 24 noKey); have HRg : Hid (Row w1 g 5 V) := hrg; have HR1 : Hid (Row w1 w.heap.size 24 noKey) := hr1; clear hrg hr1)
    | ((with_reducible show wpList _ _ _ (Oper.mk _ (Op.load 24 (.tmp 16)) _ _ _ _ :: _) _ _); refine wpList_load_Row rfl 24 (.tmp 16) rfl rfl HRg.out Tryd.underlying24 (by rw [HV.out]; exact size24) ?_; simp only [Act.put, List.setIfInBounds_toArray, List.set_cons_zero, List.set_cons_succ])
    | ((with_reducible show wpList _ _ _ (Oper.mk _ (Op.store 24 (.tmp 2) (.tmp 17)) _ _ _ _ :: _) _ _); refine wpList_store_Row rfl 24 (.tmp 2) (.tmp 17) rfl V rfl rfl HR1.out (by rw [HV.out]; exact size24) (by rw [HV.out]; rfl) HV1.out ?_; simp only [Act.put]))
  refine bodyPost_ret (results_Row_tmp rfl rfl (Row.sets_all HR1.out (by rw [HV.out]; rfl)) Tryd.underlying24 (by rw [HV.out]; exact size24)) rfl ?_
  refine ⟨rfl, HT1.out.below (below_setCells (Nat.le_refl _) _ _ (Below.refl _ _)) hBl, ?_⟩
  have hs : (w.alloc (.cells (List.replicate 32 (Value.int .u8 0)).toArray 24)).heap.size = w.heap.size + 1 := by simp
  exact (But.of_below ((Below.refl _ w).alloc (Nat.le_refl _) _) (Nat.le_refl _)).trans ((hb1.mono (by omega)).trans (But.of_below (below_setCells (Nat.le_refl _) _ _ (Below.refl _ _)) (Nat.le_refl _)))

/-- Key of a tape; of none. -/
def keyT (zs : List Nat) : List Nat := if 32 ≤ zs.length then zs.take 32 else List.replicate 32 0
def keyE (zs : List Nat) : Int := if 32 ≤ zs.length then 0 else 60
theorem noKey_eq : u8s (List.replicate 32 0) = noKey := by simp [u8s, noKey]
theorem key_any (B Q : Nat) (zs : List Nat) (hlen : zs.length ≤ 70000) (w : World) (hT : TapeAt w B Q zs) :
    Calls Tryd.prog 26 #[.pointer (some ⟨B, 0, none⟩)] w fun e w' => e = .returned (.tuple #[.agg (u8s (keyT zs)).toArray, .int .i64 (keyE zs)]) ∧ But B w.heap.size w w' := by
  unfold keyT keyE
  by_cases h : 32 ≤ zs.length
  · rw [if_pos h, if_pos h]
    exact (key_some B Q zs h hlen w hT).mono fun e w' ⟨h1, _, h2⟩ => ⟨h1, h2⟩
  · rw [if_neg h, if_neg h, noKey_eq]
    exact (key_err _ w (fun W hW => take_over _ zs.length 32 (by decide) (by omega) W (left_any B Q zs W (hT.below hW hT.lt)))).mono fun e w' ⟨h1, h2⟩ => ⟨h1, But.of_below h2 (Nat.le_refl _)⟩
theorem key_none (w : World) : Calls Tryd.prog 26 #[.pointer none] w fun e w' => e = .returned (.tuple #[.agg noKey.toArray, .int .i64 60]) ∧ Below w.heap.size w w' :=
  key_err none w (fun W _ => take_over none 0 32 (by decide) (by decide) W (left_none W))

end Go.Proofs.YtkpjbleogjmbjaaDoor
