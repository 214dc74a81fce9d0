/-
  What TapeKeys answers: true, whatever the bytes. Nothing that lay before the call has turned.
-/
import Derived.Test.YtfkhabiahfchaaaKey
import Derived.Test.YtfkhabiahfchaaaEq
import Derived.Deep.QuietTactic
import Derived.BigQuiet
namespace Go.Proofs.Ytfkhabiahfchaaa
open Go.RowKit

theorem noKey_int : ∀ i, i < 32 → ∃ z, noKey[i]? = some (.int .u8 z) := by
  rw [← noKey_eq]
  exact u8s_int _ (by simp)
theorem equal_none (w : World) : (Op.equalIn 10000 41 (.agg noKey.toArray) (.agg #[Value.int .u8 0, Value.int .u8 0, Value.int .u8 0, Value.int .u8 0, Value.int .u8 0, Value.int .u8 0, Value.int .u8 0, Value.int .u8 0, Value.int .u8 0, Value.int .u8 0, Value.int .u8 0, Value.int .u8 0, Value.int .u8 0, Value.int .u8 0, Value.int .u8 0, Value.int .u8 0, Value.int .u8 0, Value.int .u8 0, Value.int .u8 0, Value.int .u8 0, Value.int .u8 0, Value.int .u8 0, Value.int .u8 0, Value.int .u8 0, Value.int .u8 0, Value.int .u8 0, Value.int .u8 0, Value.int .u8 0, Value.int .u8 0, Value.int .u8 0, Value.int .u8 0, Value.int .u8 0])).run Try.prog w = .ok true w := by
  rw [z32u8]
  exact equal41 noKey noKey_int w
theorem drewN_below (n : Nat) (w : World) : Below w.heap.size w (w.drewN n) := ⟨rfl, rfl, rfl, Nat.le_refl _, fun _ _ => rfl⟩

/-- A whole row, read by an operation whose guard stands. -/
theorem wpList_load_want {P : Program} {ops : Array Oper} {rest : List Oper} {o : Oper} {a : Act} {w : World} {Q : Exit → Act → World → Prop} (hw : Region.wanted o (yielded ops a.tmps) = true) (ty : TypeId) (x : Operand) (ho : o.op = .load ty x)
    {g : Nat} (hx : a.eval x = .pointer (some ⟨g, 0, none⟩)) {t : TypeId} {cs : List Value} (hg : Row w g t cs) {n : Nat} {e : TypeId} (hu : P.underlying ty = some (.array n e)) (hi : (P.info? ty).map (·.size) = some cs.length)
    (h : wpList P ops Q rest (a.put o.dst (.agg cs.toArray)) w) : wpList P ops Q (o :: rest) a w := by
  unfold wpList
  rw [if_pos hw]
  exact .inl (wp_load_row ty x ho g hx t cs.toArray (0, 0) _ hg hu rfl (by simpa using hi) h)

set_option maxHeartbeats 1000000 in
theorem tapeKeys_long (p : Option Addr) (len cap : Nat) (hlen : 500 < len) (w : World) :
    Calls Try.prog 5 #[.slice p len cap] w fun e w' => e = .returned (.bool true) ∧ Below w.heap.size w w' := by
  have h : (500 : Int) < (len : Int) := by omega
  go_enter Try.func5, Try.ntmps5
  go_wp2_with (go_at_call 6; refine (awake_any _).mono ?_; rintro e w1 ⟨rfl, hb1⟩)
  go_ret
  exact ⟨rfl, hb1⟩

set_option maxRecDepth 100000 in
set_option maxHeartbeats 2000000 in
theorem tapeKeys_some (p : Option Addr) (len cap : Nat) (zs : List Nat) (hlen : len ≤ 500) (w : World) (hI : IsBytes w.heap.size w p len cap zs) :
    Calls Try.prog 5 #[.slice p len cap] w fun e w' => e = .returned (.bool true) ∧ Below w.heap.size w w' := by
  have h : ¬ (500 : Int) < (len : Int) := by omega
  have hl := hI.1
  have hcap := hI.2.1
  have hcap2 := hI.2.2.1
  have HN : Hid (∀ W, Below w.heap.size w W → Calls Try.prog 7 #[.slice p len cap] W fun e w' => ∃ B, e = .returned (.pointer (some ⟨B, 0, none⟩)) ∧ W.heap.size ≤ B ∧ TapeAt w' B zs ∧ Below W.heap.size W w') := fun W hW => new_any p len cap zs (by omega) W (hI.later hW)
  have HK : Hid (∀ B W, TapeAt W B zs → Calls Try.prog 12 #[.pointer (some ⟨B, 0, none⟩)] W fun e w' => e = .returned (.tuple #[.agg (u8s (keyT zs)).toArray, .int .i64 (keyE zs)]) ∧ But B W.heap.size W w') := fun B W hT => key_any B zs (by omega) W hT
  have HKn : Hid (∀ W, Calls Try.prog 12 #[.pointer none] W fun e w' => e = .returned (.tuple #[.agg noKey.toArray, .int .i64 60]) ∧ Below W.heap.size W w') := key_none
  have HNk : Hid (noKey.length = 32 ∧ ∀ v ∈ noKey, v.oneCell' = true) := ⟨rfl, by decide⟩
  by_cases h32 : 32 ≤ len
  · have h32i : ¬ (len : Int) < 32 := by omega
    have e1 : keyT zs = zs.take 32 := if_pos (by omega)
    have e2 : keyE zs = 0 := if_pos (by omega)
    rw [e1, e2] at HK
    have HV : Hid ((u8s (zs.take 32)).length = 32) := by show _ = _; simp; omega
    have HV1 : Hid (∀ v ∈ u8s (zs.take 32), v.oneCell' = true) := u8s_one _
    have HSb : Hid (Str w (.slice p 32 cap) (strOf (zs.take 32))) := str_of_bytes (hI.head h32 (by omega) (Nat.le_refl _))
    have HSk : Hid (∀ g t W, Row W g t (u8s (zs.take 32)) → Str W (.slice (some ⟨g, 0, none⟩) 32 32) (strOf (zs.take 32))) := fun g t W hr =>
      str_of_cells (by simp; omega) hr.lt (fun i hi => by rw [Nat.zero_add]; exact hr.cell (u8s_at (by simp; omega)))
    clear hI hl e1 e2
    generalize strOf (zs.take 32) = S at *
    generalize u8s (zs.take 32) = V at *
    generalize noKey = NK at *
    go_enter Try.func5, Try.ntmps5
    go_wp2_with (first
      | (go_at_call 6; refine (awake_any _).mono ?_; rintro e w1 ⟨rfl, hb1⟩)
      | (go_at_call 7; refine (HN.out _ hb1).mono ?_; rintro e w2 ⟨B, rfl, hB, hT2, hb2⟩)
      | (go_at_call 12; refine (HK.out _ _ hT2).mono ?_; clear hT2; rintro e w3 ⟨rfl, hb3⟩)
      | ((with_reducible show wpList _ _ _ (Oper.mk _ (Op.store 41 (.tmp 3) (.tmp 17)) _ _ _ _ :: _) _ _); refine wpList_store_Row rfl 41 (.tmp 3) (.tmp 17) rfl V rfl rfl (Row.new _ _ _) (by rw [HV.out]; exact size41) (by rw [HV.out]; rfl) HV1.out ?_; simp only [Act.put])
      | ((with_reducible show wpList _ _ _ (Oper.mk _ (Op.store 41 (.tmp 6) (.tmp 22)) _ _ _ _ :: _) _ _); refine wpList_store_Row rfl 41 (.tmp 6) (.tmp 22) rfl NK rfl rfl (Row.new _ _ _) (by rw [HNk.out.1]; exact size41) (by rw [HNk.out.1]; rfl) HNk.out.2 ?_; simp only [Act.put])
      | (go_at_call 12; refine (HKn.out _).mono ?_; rintro e w5 ⟨rfl, hb5⟩)
      | (go_at_call 10; refine (left_none _).mono ?_; rintro e w6 ⟨rfl, hw6⟩; rw [hw6]; clear hw6)
      | (go_at_call 11; refine (clone_none _).mono ?_; rintro e w7 ⟨rfl, hw7⟩; rw [hw7]; clear hw7))
    rw [z32u8] at hb5 ⊢
    have a1 := hb1.size
    have a2 := hb2.size
    have a3 := hb3.size
    have rk4 : Row ((w3.alloc (.cells (List.replicate 32 (Value.int .u8 0)).toArray 41)).setCells w3.heap.size 0 V) w3.heap.size 41 V := Row.sets_all (Row.new' _ _ _) (by rw [HV.out]; rfl)
    have hs4 : ((w3.alloc (.cells (List.replicate 32 (Value.int .u8 0)).toArray 41)).setCells w3.heap.size 0 V).heap.size = w3.heap.size + 1 := by rw [size_setCells, World.size_alloc]
    have hb4 : Below w.heap.size w ((w3.alloc (.cells (List.replicate 32 (Value.int .u8 0)).toArray 41)).setCells w3.heap.size 0 V) := below_setCells (by omega) _ _ (((hb1.trans (hb2.mono a1)).trans (hb3.below (by omega) (by omega))).alloc (by omega) _)
    have a5 := hb5.size
    have rk5 := rk4.later hb5
    have hb45 := hb4.trans (hb5.mono (by omega))
    have HRk : Hid (Row ((w5.alloc (.cells (List.replicate 32 (Value.int .u8 0)).toArray 41)).setCells w5.heap.size 0 NK) w3.heap.size 41 V) := Row.others (by omega) _ _ (rk5.alloc _)
    have hbb : Below w.heap.size w ((w5.alloc (.cells (List.replicate 32 (Value.int .u8 0)).toArray 41)).setCells w5.heap.size 0 NK) := below_setCells (by omega) _ _ (hb45.alloc (by omega) _)
    clear rk4 rk5 hb4 hb45 hb5 hb3 hb2 hb1 hs4 a1 a2 a3 a5
    generalize ((w5.alloc (.cells (List.replicate 32 (Value.int .u8 0)).toArray 41)).setCells w5.heap.size 0 NK) = w8 at *
    generalize w3.heap.size = g3 at *
    generalize w5.heap.size = g5 at *
    have s1 := fun n => HSk.out _ _ _ HRk.out (w8.drewN n) (drewN_below n w8)
    have s2 := fun n => HSb.out (w8.drewN n) (hbb.trans ((drewN_below n w8).mono hbb.size))
    have h32c : (32 : Int) ≤ (cap : Int) := by omega
    have h32n : 32 ≤ cap := by omega
    go_quiet (fail)
    go_wp2
    go_ret
    exact ⟨rfl, hbb.trans ((drewN_below _ w8).mono hbb.size)⟩
  · have h32i : (len : Int) < 32 := by omega
    have e1 : keyT zs = List.replicate 32 0 := if_neg (by omega)
    have e2 : keyE zs = 60 := if_neg (by omega)
    rw [e1, e2, noKey_eq] at HK
    have hq := equal_none
    have HV : Hid (noKey.length = 32) := rfl
    have HV1 : Hid (∀ v ∈ noKey, v.oneCell' = true) := HNk.out.2
    clear hI hl e1 e2
    generalize hNK : noKey = NK at *
    have HE : Hid (NK = noKey) := hNK.symm
    clear hNK
    go_enter Try.func5, Try.ntmps5
    go_wp2_with (first
      | (go_at_call 6; refine (awake_any _).mono ?_; rintro e w1 ⟨rfl, hb1⟩)
      | (go_at_call 7; refine (HN.out _ hb1).mono ?_; rintro e w2 ⟨B, rfl, hB, hT2, hb2⟩)
      | (go_at_call 12; refine (HK.out _ _ hT2).mono ?_; clear hT2; rintro e w3 ⟨rfl, hb3⟩)
      | ((with_reducible show wpList _ _ _ (Oper.mk _ (Op.store 41 (.tmp 3) (.tmp 17)) _ _ _ _ :: _) _ _); refine wpList_store_Row rfl 41 (.tmp 3) (.tmp 17) rfl NK rfl rfl (Row.new _ _ _) (by rw [HV.out]; exact size41) (by rw [HV.out]; rfl) HV1.out ?_; simp only [Act.put])
      | ((with_reducible show wpList _ _ _ (Oper.mk _ (Op.store 41 (.tmp 6) (.tmp 22)) _ _ _ _ :: _) _ _); refine wpList_store_Row rfl 41 (.tmp 6) (.tmp 22) rfl NK rfl rfl (Row.new _ _ _) (by rw [HNk.out.1]; exact size41) (by rw [HNk.out.1]; rfl) HNk.out.2 ?_; simp only [Act.put])
      | (go_at_call 12; refine (HKn.out _).mono ?_; rintro e w5 ⟨rfl, hb5⟩; have A5 : Hid (w3.heap.size < w5.heap.size) := (by have h5 := hb5.size; rw [size_setCells, World.size_alloc] at h5; exact h5); have RK5 : Hid (Row w5 w3.heap.size 41 NK) := (Row.sets_all (Row.new _ _ _) (by rw [HV.out]; rfl)).later hb5)
      | ((with_reducible show wpList _ _ _ (Oper.mk _ (Op.load 41 (.tmp 3)) _ _ _ _ :: _) _ _); refine wpList_load_want (by rfl) 41 (.tmp 3) rfl rfl (Row.others (by have := A5.out; omega) _ _ (RK5.out.alloc _)) Try.underlying41 (by rw [HV.out]; exact size41) ?_; simp only [Act.put, List.setIfInBounds_toArray, List.set_cons_zero, List.set_cons_succ])
      | (go_at_call 10; refine (left_none _).mono ?_; rintro e w6 ⟨rfl, hw6⟩; rw [hw6]; clear hw6)
      | (go_at_call 11; refine (clone_none _).mono ?_; rintro e w7 ⟨rfl, hw7⟩; rw [hw7]; clear hw7))
    go_ret
    refine ⟨rfl, ?_⟩
    rw [z32u8] at hb5 ⊢
    have a1 := hb1.size
    have a2 := hb2.size
    have a3 := hb3.size
    have a5 := A5.out
    have hs4 : ((w3.alloc (.cells (List.replicate 32 (Value.int .u8 0)).toArray 41)).setCells w3.heap.size 0 NK).heap.size = w3.heap.size + 1 := by rw [size_setCells, World.size_alloc]
    have hb4 : Below w.heap.size w ((w3.alloc (.cells (List.replicate 32 (Value.int .u8 0)).toArray 41)).setCells w3.heap.size 0 NK) := below_setCells (by omega) _ _ (((hb1.trans (hb2.mono a1)).trans (hb3.below (by omega) (by omega))).alloc (by omega) _)
    exact below_setCells (by omega) _ _ ((hb4.trans (hb5.mono (by omega))).alloc (by omega) _)

/-- TapeKeys -/
theorem tapeKeys_walk (p : Option Addr) (len cap : Nat) (zs : List Nat) (w : World) (hI : IsBytes w.heap.size w p len cap zs) :
    Calls Try.prog 5 #[.slice p len cap] w fun e w' => e = .returned (.bool true) ∧ Below w.heap.size w w' := by
  by_cases h : 500 < len
  · exact tapeKeys_long p len cap h w
  · exact tapeKeys_some p len cap zs (by omega) w hI

end Go.Proofs.Ytfkhabiahfchaaa
