/-
  The functions that look at one entry: With's two, Without's, Find's, Clashes'; own, without, Find, Without.
-/
import Derived.Test.YtlmfdifnkkdpfaaSameD
import Derived.Test.YtlmfdifnkkdpfaaGoodD
namespace Go.Proofs.Ytlmfdifnkkdpfaa
open Go.RowKit Go.Shelf

def nameB (x : Ent) (s : ByteArray) : Bool := x.name.toList == s.toList
def withB (e x : Ent) : Bool := nameB x e.name || decide (x.blind = e.blind)
def overB (e x : Ent) : Bool := ltB e.blind x.blind
theorem cmpB_gtr (a b : List Nat) : decide ((0 : Int) < cmpB a b) = ltB b a := by
  unfold cmpB
  cases h : ltB a b with
  | true =>
    cases h2 : ltB b a with
    | true => have := ltB_trans _ _ _ h h2; rw [ltB_irrefl] at this; cases this
    | false => simp
  | false => cases ltB b a <;> simp

set_option maxRecDepth 100000 in
set_option maxHeartbeats 1000000 in
/-- Find's and Without's. -/
theorem find1_any (B : Nat) (s : ByteArray) (x : Ent) (hok : x.ok) (w : World) (hB : Boxed w B 9 (.string s)) :
    Calls Try.prog 57 #[.agg (entC x).toArray, .pointer (some ⟨B, 0, none⟩)] w fun e w' => e = .returned (.bool (nameB x s)) ∧ Below w.heap.size w w' := by
  have hE := EntAt.new w x hok
  have hcN := hE.name
  have hcB := (hB.alloc (.cells (entC x).toArray 43)).cell
  have hb : Below w.heap.size w (w.alloc (.cells (entC x).toArray 43)) := (Below.refl _ w).alloc (Nat.le_refl _) _
  have HQ : Hid (nameB x s = (x.name.toList == s.toList)) := rfl
  clear hE hok hB
  generalize entC x = V at *
  go_enter Try.func57, Try.ntmps57
  go_wp2
  go_ret
  exact ⟨by rw [HQ.out]; rfl, hb⟩
set_option maxRecDepth 100000 in
set_option maxHeartbeats 1000000 in
theorem without1_any (B : Nat) (s : ByteArray) (x : Ent) (hok : x.ok) (w : World) (hB : Boxed w B 9 (.string s)) :
    Calls Try.prog 56 #[.agg (entC x).toArray, .pointer (some ⟨B, 0, none⟩)] w fun e w' => e = .returned (.bool (nameB x s)) ∧ Below w.heap.size w w' := by
  have hE := EntAt.new w x hok
  have hcN := hE.name
  have hcB := (hB.alloc (.cells (entC x).toArray 43)).cell
  have hb : Below w.heap.size w (w.alloc (.cells (entC x).toArray 43)) := (Below.refl _ w).alloc (Nat.le_refl _) _
  have HQ : Hid (nameB x s = (x.name.toList == s.toList)) := rfl
  clear hE hok hB
  generalize entC x = V at *
  go_enter Try.func56, Try.ntmps56
  go_wp2
  go_ret
  exact ⟨by rw [HQ.out]; rfl, hb⟩

theorem wpList_load_wantMid {P : Program} {ops : Array Oper} {rest : List Oper} {o : Oper} {a : Act} {w : World} {Q : Exit → Act → World → Prop} (hw : Region.wanted o (yielded ops a.tmps) = true) (ty : TypeId) (x : Operand) (ho : o.op = .load ty x)
    (b off : Nat) (hx : a.eval x = .pointer (some ⟨b, off, none⟩)) (cs : List Value) (hg : w.rangeAt b off cs) {d : TypeDesc} (hu : P.underlying ty = some d) (hd : d.isRow = true) (hi : (P.info? ty).map (·.size) = some cs.length)
    (h : wpList P ops Q rest (a.put o.dst (.agg cs.toArray)) w) : wpList P ops Q (o :: rest) a w := by
  unfold wpList
  rw [if_pos hw]
  exact .inl (wp_load_mid ty x ho b off hx cs d hg hu hd hi h)

set_option maxRecDepth 100000 in
set_option maxHeartbeats 1000000 in
/-- With's first. -/
theorem with1_any (B : Nat) (e x : Ent) (hok : x.ok) (w : World) (hB : EntAt w B e) :
    Calls Try.prog 50 #[.agg (entC x).toArray, .pointer (some ⟨B, 0, none⟩)] w fun r w' => r = .returned (.bool (withB e x)) ∧ Below w.heap.size w w' := by
  have hE := EntAt.new w x hok
  have hb : Below w.heap.size w (w.alloc (.cells (entC x).toArray 43)) := (Below.refl _ w).alloc (Nat.le_refl _) _
  have hE2 := hB.later hb
  have hcN := hE.name
  have hcB := hE2.name
  have HR1 : Hid ((w.alloc (.cells (entC x).toArray 43)).rangeAt w.heap.size 0 (u8s x.blind)) := hE.blind
  have HR2 : Hid ((w.alloc (.cells (entC x).toArray 43)).rangeAt B 0 (u8s e.blind)) := hE2.blind
  have hq := equal_ids hok.1 hB.ok.1
  have HS1 : Hid ((Try.prog.info? 39).map (·.size) = some (u8s x.blind).length) := by show _ = _; rw [u8s_length, hok.1.1]; exact size39
  have HS2 : Hid ((Try.prog.info? 39).map (·.size) = some (u8s e.blind).length) := by show _ = _; rw [u8s_length, hB.ok.1.1]; exact size39
  have HQ : Hid (withB e x = ((x.name.toList == e.name.toList) || decide (x.blind = e.blind))) := rfl
  clear hE hE2 hok hB
  generalize entC x = V at *
  generalize decide (x.blind = e.blind) = dd at *
  generalize u8s x.blind = X at *
  generalize u8s e.blind = Y at *
  cases hn : (x.name.toList == e.name.toList) with
  | true =>
    go_enter Try.func50, Try.ntmps50
    go_wp2
    go_ret
    exact ⟨by rw [HQ.out, hn]; rfl, hb⟩
  | false =>
    go_enter Try.func50, Try.ntmps50
    go_wp2_with (first
      | ((with_reducible show wpList _ _ _ (Oper.mk _ (Op.load 39 (.tmp 10)) _ _ _ _ :: _) _ _); refine wpList_load_wantMid (by rfl) 39 (.tmp 10) rfl w.heap.size 0 rfl X HR1.out Try.underlying39 rfl HS1.out ?_; simp only [Act.put, List.setIfInBounds_toArray, List.set_cons_zero, List.set_cons_succ])
      | ((with_reducible show wpList _ _ _ (Oper.mk _ (Op.load 39 (.tmp 12)) _ _ _ _ :: _) _ _); refine wpList_load_wantMid (by rfl) 39 (.tmp 12) rfl B 0 rfl Y HR2.out Try.underlying39 rfl HS2.out ?_; simp only [Act.put, List.setIfInBounds_toArray, List.set_cons_zero, List.set_cons_succ]))
    go_ret
    exact ⟨by rw [HQ.out, hn]; rfl, hb⟩

set_option maxRecDepth 100000 in
set_option maxHeartbeats 1000000 in
/-- With's second. -/
theorem with2_any (B : Nat) (e x : Ent) (hok : x.ok) (w : World) (hB : EntAt w B e) :
    Calls Try.prog 51 #[.agg (entC x).toArray, .pointer (some ⟨B, 0, none⟩)] w fun r w' => r = .returned (.bool (overB e x)) ∧ Below w.heap.size w w' := by
  have hE := EntAt.new w x hok
  have hb : Below w.heap.size w (w.alloc (.cells (entC x).toArray 43)) := (Below.refl _ w).alloc (Nat.le_refl _) _
  have hE2 := hB.later hb
  have HR1 : Hid ((w.alloc (.cells (entC x).toArray 43)).rangeAt w.heap.size 0 (u8s x.blind)) := hE.blind
  have HR2 : Hid ((w.alloc (.cells (entC x).toArray 43)).rangeAt B 0 (u8s e.blind)) := hE2.blind
  have HC := dcompare_any _ _ hok.1 hB.ok.1
  have hcg := cmpB_gtr x.blind e.blind
  have HS1 : Hid ((Try.prog.info? 39).map (·.size) = some (u8s x.blind).length) := by show _ = _; rw [u8s_length, hok.1.1]; exact size39
  have HS2 : Hid ((Try.prog.info? 39).map (·.size) = some (u8s e.blind).length) := by show _ = _; rw [u8s_length, hB.ok.1.1]; exact size39
  have HQ : Hid (overB e x = ltB e.blind x.blind) := rfl
  clear hE hE2 hok hB
  generalize entC x = V at *
  generalize ltB e.blind x.blind = lt at *
  generalize cmpB x.blind e.blind = cm at *
  generalize u8s x.blind = X at *
  generalize u8s e.blind = Y at *
  go_enter Try.func51, Try.ntmps51
  go_wp2_with (first
    | ((with_reducible show wpList _ _ _ (Oper.mk _ (Op.load 39 (.tmp 4)) _ _ _ _ :: _) _ _); refine wpList_load_wantMid (by rfl) 39 (.tmp 4) rfl w.heap.size 0 rfl X HR1.out Try.underlying39 rfl HS1.out ?_; simp only [Act.put, List.setIfInBounds_toArray, List.set_cons_zero, List.set_cons_succ])
    | ((with_reducible show wpList _ _ _ (Oper.mk _ (Op.load 39 (.tmp 6)) _ _ _ _ :: _) _ _); refine wpList_load_wantMid (by rfl) 39 (.tmp 6) rfl B 0 rfl Y HR2.out Try.underlying39 rfl HS2.out ?_; simp only [Act.put, List.setIfInBounds_toArray, List.set_cons_zero, List.set_cons_succ])
    | (go_at_call 52; refine (HC _).mono ?_; rintro r w6 ⟨rfl, q6, hw6⟩; have hb6 := below_cmp hw6; clear hw6))
  go_ret
  exact ⟨by rw [HQ.out, ← hcg]; rfl, hb.trans (hb6.mono hb.size)⟩
end Go.Proofs.Ytlmfdifnkkdpfaa
