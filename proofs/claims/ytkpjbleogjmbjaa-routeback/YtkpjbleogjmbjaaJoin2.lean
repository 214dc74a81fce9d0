/-
  route.Join: the path of names. Nothing that lay before the call has turned.
-/
import Derived.Test.YtkpjbleogjmbjaaJoin
namespace Go.Proofs.Ytkpjbleogjmbjaa
open Go.RowKit

theorem wp_append_two {P : Program} {o : Oper} {a : Act} {w w' : World} {K : Act → World → Prop} {Q : Exit → Act → World → Prop} (s x : Operand) (t u : TypeId) (ho : o.op = .call { callee := .builtin .append, args := #[s, x], argTypes := #[t, u] })
    {vs vx v : Value} (hs : a.eval s = vs) (hx : a.eval x = vx) (hrun : (Builtin.append_ #[t, u] o.type #[vs, vx]).run P w = .ok v w') (h : K (a.put o.dst v) w') : Oper.wp P o a w K Q := by
  unfold Oper.wp
  simp [execOp, ho, resolve, invoke, builtin, hs, hx, hrun, Result.andThen]
  exact h

/-- A text's bytes, appended to bytes. -/
theorem run_append_text (w : World) (base : Nat) (v : Value) (L : List UInt8) (hown : Own base w v (L.map UInt8.toNat)) (x : ByteArray) (hl : L.length + x.size ≤ 1000000) (hbase : base ≤ w.heap.size) :
    ∃ v' w', (Builtin.append_ #[44, 9] 44 #[v, .string x]).run Try.prog w = .ok v' w' ∧ Own base w' v' ((L ++ bytesOf x).map UInt8.toNat) ∧ w.grownBy w' v.ownBlock := by
  obtain ⟨i0, hi, hz0, hz1, hz2⟩ := info_parts info5
  unfold Own at hown
  obtain ⟨v', w', hr, ho, hg, _⟩ := Lib.run_append_own_string (P := Try.prog) w base 44 9 44 5 i0 Try.underlying44 Try.underlying9 hi hz0 hz1 hz2 v _ _ hown x (by simp only [maxLen, List.length_map]; omega) (by simp only [List.length_map]; omega) hbase
  refine ⟨v', w', hr, ?_, hg⟩
  unfold Own
  rw [List.map_append, List.length_append, ← u8s_append, ← u8s_bytes]
  simpa [bytesOf_length] using ho

set_option maxRecDepth 100000 in
set_option maxHeartbeats 2000000 in
theorem join_any (p : Option Addr) (len cap : Nat) (xs : List ByteArray) (hl : len ≤ 30) (hs : ∀ x ∈ xs, x.size ≤ 200) (w : World) (hI : IsStrs w.heap.size w p len cap xs) :
    Calls Try.prog 15 #[.slice p len cap] w fun e w' => e = .returned (.string (txt (pathK xs len))) ∧ Below w.heap.size w w' := by
  have HI : Hid (IsStrs w.heap.size w p len cap xs) := hI
  have HL : Hid (xs.length = len) := hI.1
  have HS : Hid (∀ x ∈ xs, x.size ≤ 200) := hs
  have hlc := hI.2.1
  have hcc := hI.2.2.1
  clear hI hs
  go_enter Try.func15, Try.ntmps15
  go_wp2
  go_loopw [3, 8] (fun v i wr => ∃ (k : Nat), k ≤ len ∧ i = .int .i64 k ∧ Own w.heap.size wr v ((pathK xs k).map UInt8.toNat) ∧ Below w.heap.size w wr) (fun _ i _ => len - (intOf i).toNat)
  case atStart => exact ⟨0, Nat.zero_le _, rfl, by rw [pathK_zero]; exact Own.nil _ _, Below.refl _ _⟩
  case round =>
    obtain ⟨k, hk, rfl, hown, hbel⟩ := hrel
    obtain ⟨q, c, hq⟩ := hown.slice
    obtain ⟨m, hm⟩ : ∃ m, ((pathK xs k).map UInt8.toNat).length = m := ⟨_, rfl⟩
    rw [hm] at hq
    subst hq
    by_cases hlt : k < len
    · have hki : (k : Int) < (len : Int) := by omega
      have hkx : k < xs.length := by rw [HL.out]; exact hlt
      obtain ⟨b, off, rfl, hb, hcell⟩ : ∃ b off, p = some ⟨b, off, none⟩ ∧ b < w.heap.size ∧ ∀ i (h : i < xs.length), wr.cell? ⟨b, off + i, none⟩ = some (.string xs[i]) := by
        rcases (HI.out.below hbel).2.2.2 with h | h
        · omega
        · exact h
      have c1 := hcell k hkx
      have hxs := HS.out xs[k] (List.getElem_mem hkx)
      have hpl := pathK_len HS.out k (by omega)
      have hbs := hbel.size
      clear hcell
      by_cases h0 : 0 < k
      · have h0i : (0 : Int) < (k : Int) := by omega
        obtain ⟨W4, hW4⟩ : ∃ W4, wr.alloc (.cells #[.int .u8 47] 5) = W4 := ⟨_, rfl⟩
        have hI4 : IsBytes (wr.heap.size + 1) W4 (some ⟨wr.heap.size, 0, none⟩) 1 1 [47] := by rw [← hW4]; exact bytes_one wr 47 (by omega)
        have ho4 : Own w.heap.size W4 (.slice q m c) ((pathK xs k).map UInt8.toNat) := by rw [← hW4]; exact hown.alloc _
        have hb4 : Below w.heap.size w W4 := by rw [← hW4]; exact hbel.alloc hbs _
        obtain ⟨v5, W5, hrun5, ho5, hg5⟩ := run_append_bytes (P := Try.prog) Try.underlying44 info5 W4 w.heap.size 44 (.slice q m c) _ ho4 hI4 (by rw [List.length_map]; omega) hb4.size
        have hb5 := below_own hb4 hb4.size ho4 hg5
        have ho5' : Own w.heap.size W5 v5 ((pathK xs k ++ [47]).map UInt8.toNat) := by rw [List.map_append]; exact ho5
        obtain ⟨v6, W6, hrun6, ho6, hg6⟩ := run_append_text W5 w.heap.size v5 _ ho5' xs[k] (by rw [List.length_append]; simp; omega) hb5.size
        have hb6 := below_own hb5 hb5.size ho5' hg6
        rw [← pathK_succ hkx h0] at ho6
        have HO6 : Hid (Own w.heap.size W6 v6 ((pathK xs (k + 1)).map UInt8.toNat)) := ho6
        have HR5 : Hid ((Builtin.append_ #[44, 44] 44 #[.slice q m c, .slice (some ⟨wr.heap.size, 0, none⟩) 1 1]).run Try.prog W4 = .ok v5 W5) := hrun5
        have HR6 : Hid ((Builtin.append_ #[44, 9] 44 #[v5, .string xs[k]]).run Try.prog W5 = .ok v6 W6) := hrun6
        have HW4 : Hid (wr.alloc (.cells #[.int .u8 47] 5) = W4) := hW4
        clear hrun5 hrun6 ho5 ho5' ho6 hg5 hg6 ho4 hI4 hown hm hpl hxs hW4
        generalize xs[k] = x at *
        go_wp2_with (first
          | ((with_reducible show wpList _ _ _ (Oper.mk (some 17) _ _ _ _ _ :: _) _ _); rw [HW4.out]; refine wpList_plain rfl (fun K hK => wp_append_two (.tmp 15) (.tmp 16) 44 44 rfl rfl rfl HR5.out (hK _ _ ?_)); simp only [Act.put, List.setIfInBounds_toArray, List.set_cons_zero, List.set_cons_succ])
          | ((with_reducible show wpList _ _ _ (Oper.mk (some 20) _ _ _ _ _ :: _) _ _); refine wpList_plain rfl (fun K hK => wp_append_two (.tmp 18) (.tmp 19) 44 9 rfl rfl rfl HR6.out (hK _ _ ?_)); simp only [Act.put, List.setIfInBounds_toArray, List.set_cons_zero, List.set_cons_succ]))
        go_roundw
        case rel => exact ⟨k + 1, by omega, by go_num, HO6.out, hb6⟩
        case measure => simp [intOf]; omega
      · have h0i : ¬ (0 : Int) < (k : Int) := by omega
        obtain ⟨v6, W6, hrun6, ho6, hg6⟩ := run_append_text wr w.heap.size (.slice q m c) _ hown xs[k] (by omega) hbs
        have hb6 := below_own hbel hbs hown hg6
        have HO6 : Hid (Own w.heap.size W6 v6 ((pathK xs (k + 1)).map UInt8.toNat)) := by
          show Own _ _ _ _
          have hk0 : k = 0 := by omega
          subst hk0
          rw [pathK_one hkx]
          rw [pathK_zero] at ho6
          exact ho6
        have HR6 : Hid ((Builtin.append_ #[44, 9] 44 #[.slice q m c, .string xs[k]]).run Try.prog wr = .ok v6 W6) := hrun6
        clear hrun6 ho6 hg6 hown hm hpl hxs h0
        generalize xs[k] = x at *
        go_wp2_with ((with_reducible show wpList _ _ _ (Oper.mk (some 20) _ _ _ _ _ :: _) _ _); refine wpList_plain rfl (fun K hK => wp_append_two (.tmp 18) (.tmp 19) 44 9 rfl rfl rfl HR6.out (hK _ _ ?_)); simp only [Act.put, List.setIfInBounds_toArray, List.set_cons_zero, List.set_cons_succ])
        go_roundw
        case rel => exact ⟨k + 1, by omega, by go_num, HO6.out, hb6⟩
        case measure => simp [intOf]; omega
    · obtain rfl : k = len := by omega
      have hst := (str_of_row rfl hown).here
      rw [strOf_txt] at hst
      go_wp2
      go_ret
      exact ⟨rfl, hbel⟩
end Go.Proofs.Ytkpjbleogjmbjaa
