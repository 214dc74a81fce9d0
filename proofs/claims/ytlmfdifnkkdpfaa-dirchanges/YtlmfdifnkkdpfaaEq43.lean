/-
  An entry, held against itself; SameEntries of the same entries.
-/
import Derived.Test.YtlmfdifnkkdpfaaEntAll
import Derived.Test.YtlmfdifnkkdpfaaEqId
import Derived.DeepKeys4
import Derived.Laws.StructEq
namespace Go.Proofs.Ytlmfdifnkkdpfaa
open Go.RowKit

theorem mapM_some {α β : Type} {f : α → Option β} {g : α → β} : ∀ {l : List α}, (∀ x ∈ l, f x = some (g x)) → l.mapM f = some (l.map g)
  | [], _ => rfl
  | x :: l, h => by
    rw [List.mapM_cons, h x (by simp), mapM_some (fun y hy => h y (by simp [hy]))]
    rfl
theorem cells9 : Try.prog.cellsOf 9 = 1 := by kernel_rfl
theorem cells5' : Try.prog.cellsOf 5 = 1 := by kernel_rfl
theorem cells3' : Try.prog.cellsOf 3 = 1 := by kernel_rfl
theorem cells41 : Try.prog.cellsOf 41 = 1 := by kernel_rfl
theorem cells39 : Try.prog.cellsOf 39 = 32 := by kernel_rfl
theorem cells40 : Try.prog.cellsOf 40 = 32 := by kernel_rfl
theorem cells43 : Try.prog.cellsOf 43 = 100 := by kernel_rfl
theorem lits_byte (d : Nat) {z : Nat} (h : z < 256) : Try.prog.keyLits (d + 1) 5 [.int .u8 (z : Int)] = some [.int .u8 (z : Int)] := by
  have : (Lit.int .u8 (z : Int)).wf = true := WalkArith.wf_u8 (by omega)
  simp [Program.keyLits, Try.underlying5, this]
theorem lits_i64 (d : Nat) {z : Int} (h : -9223372036854775808 ≤ z ∧ z ≤ 9223372036854775807) : Try.prog.keyLits (d + 1) 3 [.int .i64 z] = some [.int .i64 z] := by
  have : (Lit.int .i64 z).wf = true := WalkArith.wf_i64 h
  simp [Program.keyLits, Try.underlying3, this]
theorem lits_u32 (d : Nat) {z : Nat} (h : z < 4294967296) : Try.prog.keyLits (d + 1) 41 [.int .u32 (z : Int)] = some [.int .u32 (z : Int)] := by
  have : (Lit.int .u32 (z : Int)).wf = true := WalkArith.wf_u32 (by omega)
  simp [Program.keyLits, Try.underlying41, this]
theorem lits_str (d : Nat) {s : ByteArray} (h : s.size ≤ maxLen) : Try.prog.keyLits (d + 1) 9 [.string s] = some [.string s.data.toList] := by
  simp [Program.keyLits, Try.underlying9, h]
theorem lits_arr (d : Nat) {T : TypeId} (hu : Try.prog.underlying T = some (.array 32 5)) (hc : Try.prog.cellsOf T = 32) {k : List Nat} (h : IsId k) : ∃ l, Try.prog.keyLits (d + 2) T (u8s k) = some l := by
  have hl := h.1
  refine ⟨((List.range 32).map fun i => [Lit.int .u8 (k.getD i 0 : Nat)]).flatten, ?_⟩
  rw [Program.keyLits.eq_def]
  simp only [hu]
  rw [if_pos (by rw [u8s_length, hc, hl]), cells5', mapM_some (g := fun i => [Lit.int .u8 (k.getD i 0 : Nat)])]
  · rfl
  · intro i hi
    have hi' : i < 32 := List.mem_range.1 hi
    have : ((u8s k).drop (i * 1)).take 1 = [.int .u8 ((k.getD i 0 : Nat) : Int)] := by
      rw [Nat.mul_one, List.take_one, List.head?_drop, u8s_at (by omega)]
      rfl
    rw [this]
    exact lits_byte d (getD_of_all h.2 i)
theorem take_one_at {l : List Value} {i : Nat} {v : Value} (h : l[i]? = some v) : (l.drop i).take 1 = [v] := by
  rw [List.take_one, List.head?_drop, h]; rfl
theorem lits_ent (d : Nat) {e : Ent} (h : e.ok) (hn : e.name.size ≤ maxLen) : ∃ l, Try.prog.keyLits (d + 3) 43 (entC e) = some l := by
  obtain ⟨l0, h0⟩ := lits_arr d Try.underlying39 cells39 h.1
  obtain ⟨l3, h3⟩ := lits_arr d Try.underlying39 cells39 h.2.1
  obtain ⟨l4, h4⟩ := lits_arr d Try.underlying40 cells40 h.2.2.1
  refine ⟨[l0, [.string e.name.data.toList], [.int .i64 e.kind], l3, l4, [.int .u32 (e.realm : Nat)], [.int .u32 (e.epoch : Nat)]].flatten, ?_⟩
  rw [Program.keyLits.eq_def]
  simp only [Try.underlying43]
  rw [if_pos ⟨by rw [cells43, entC_length h], by simp⟩]
  simp only [List.mapM_cons, List.mapM_nil, cells39, cells40, cells9, cells3', cells41, entC_blind h, entC_id h, entC_key h, take_one_at (entC_name h), take_one_at (entC_kind h), take_one_at (entC_realm h), take_one_at (entC_epoch h), h0, h3, h4, lits_str _ hn, lits_i64 _ h.2.2.2.1, lits_u32 _ h.2.2.2.2.1, lits_u32 _ h.2.2.2.2.2]
  rfl
theorem deep43 : Try.prog.keyTypeAt 4 43 = true := by kernel_rfl
theorem types_size : Try.prog.types.size = 162 := by kernel_rfl
theorem formed43 {e : Ent} (h : e.ok) : (Value.agg (entC e).toArray).formed Try.prog 43 = true := by
  simp [Value.formed, Try.underlying43, cells43, entC_length h]
set_option maxRecDepth 100000 in
theorem equal43 {e : Ent} (h : e.ok) (hn : e.name.size ≤ maxLen) (w : World) : (Op.equalIn 10000 43 (.agg (entC e).toArray) (.agg (entC e).toArray)).run Try.prog w = .ok true w := by
  obtain ⟨la, hla⟩ := lits_ent 159 h hn
  obtain ⟨r, hr, hiff⟩ := run_equalIn_deep (P := Try.prog) 9996 4 43 deep43 w _ _ _ _ _ _ (formed43 h) (formed43 h) (by simpa [Value.cells] using hla) (by simpa [Value.cells] using hla)
  rw [hr, hiff.2 rfl]
end Go.Proofs.Ytlmfdifnkkdpfaa
