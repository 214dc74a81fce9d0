/-
  What the reference's Cat and Mac answer: the texts, one behind the other; HMAC. Nothing that lay before a call has turned.
-/
import Derived.Test.YtkpjbleogjmbjaaDoorBaseAll
import Derived.Test.YtkpjbleogjmbjaaDoorShMac2
import Derived.Test.YtkpjbleogjmbjaaDoorShRefSum
namespace Go.Proofs.YtkpjbleogjmbjaaDoor.Sh
open Go Go.RowKit
/-- A row of 32 bytes, cut whole. -/
theorem row_bytes {W : World} {b : Nat} {zs : List Nat} {n : Nat} {t : TypeId} (h : Row W b t (u8s zs)) (hl : zs.length = n) (hn : n ≤ 1000) (hz : ∀ z ∈ zs, z < 256) : IsBytes W.heap.size W (some ⟨b, 0, none⟩) n n zs :=
  ⟨hl, Nat.le_refl _, by omega, hz, .inr ⟨b, 0, rfl, h.lt, fun i hi => by rw [Nat.zero_add]; exact h.cell (u8s_at (by omega))⟩⟩

/-- Two slices that own no row together. -/
def Ap (u v : Value) : Prop := ∀ g, v.ownBlock = some g → u.ownBlock ≠ some g
theorem Ap.nil (v : Value) : Ap (.slice none 0 0) v := fun g _ h => by cases h
theorem Ap.symm {u v : Value} (h : Ap u v) : Ap v u := fun g h1 h2 => h g h2 h1
theorem own_far {n₀ : Nat} {W W' : World} {u v : Value} {zs : List Nat} (h : Own n₀ W v zs) (hg : W.grownBy W' u.ownBlock) (ha : Ap u v) : Own n₀ W' v zs := by
  refine ⟨h.1, ?_⟩
  rcases h.2 with hn | ⟨g, cap, cur, rfl, hb, hgg, rest⟩
  · exact .inl hn
  · exact .inr ⟨g, cap, cur, rfl, hb, (hg.block g (Array.getElem?_eq_some_iff.1 hgg).1 (fun e => ha g rfl e.symm)).trans hgg, rest⟩
theorem Ap.grown {n₀ : Nat} {W : World} {u u' v : Value} {zs : List Nat} (h : Ap u v) (hat : ∀ g, u'.ownBlock = some g → u.ownBlock = some g ∨ W.heap.size ≤ g) (ho : Own n₀ W v zs) : Ap u' v := fun g hv hu => by
  rcases hat g hu with h1 | h1
  · exact h g hv h1
  · have := (World.ownsRow.lt ho g hv).2; omega
theorem xorL_take (l : List Nat) (m k : Nat) (h : k < l.length) : xorL (l.take k) m ++ [l.getD k 0 ^^^ m] = xorL (l.take (k + 1)) m := by
  rw [List.take_succ_eq_append_getElem h, xorL_snoc]
  simp [List.getElem?_eq_getElem h]

/-- append of one new byte; where the row lies then. -/
theorem wpList_append_own1 {ops : Array Oper} {rest : List Oper} {o : Oper} {a : Act} {w : World} {Q : Exit → Act → World → Prop} (hgd : o.guard = none) (s x : Operand)
    (ho : o.op = .call { callee := .builtin .append, args := #[s, x], argTypes := #[22, 22] })
    (base : Nat) (v : Value) (zs : List Nat) (hs : a.eval s = v) (hown : Own base w v zs) (y : Nat) (_hy : y < 256) (hx : a.eval x = .slice (some ⟨w.heap.size, 0, none⟩) 1 1) (hlen : zs.length ≤ 100000) (hbase : base ≤ w.heap.size)
    (h : ∀ v' w', Own base w' v' (zs ++ [y]) → w.grownBy w' v.ownBlock → (∀ g, v'.ownBlock = some g → v.ownBlock = some g ∨ w.heap.size ≤ g) → wpList Tryd.prog ops Q rest (a.put o.dst v') w') : wpList Tryd.prog ops Q (o :: rest) a (w.alloc (.cells #[.int .u8 (y : Nat)] 5)) := by
  obtain ⟨i0, hi, hz0, hz1, hz2⟩ := info_parts info5
  refine wpList_append_lies _ hgd s x 22 ho base 5 i0 (.int .u8 0) 1 1 Tryd.underlying22 hi hz0 hz1 hz2 rfl (by decide) v zs.length (u8s zs) hs (hown.alloc _) ⟨w.heap.size, 0, none⟩ 1 1 [.int .u8 (y : Nat)] hx rfl (cell_one_new _ _ _) (by simp [Value.oneCell']) (by omega) (by simp only [maxLen]; omega) (by omega) (by simp; omega) (w.heap.size + 1) (by simp) ?_
  intro g c w' h1 h2 h3 h4
  refine h _ w' ?_ ?_ ?_
  · unfold Own
    rw [List.length_append, ← u8s_append]
    exact h1
  · exact ⟨h2.os, h2.tape, h2.output, Nat.le_trans (by simp) h2.size, fun k hk hne => (h2.block k (by simp; omega) hne).trans (Below.heap_alloc w _ k hk)⟩
  · intro g' hg'
    simp only [Value.ownBlock, Option.some.injEq] at hg'
    subst hg'
    rcases h3 with h3 | h3
    · exact .inl h3
    · exact .inr (by omega)

set_option maxRecDepth 100000 in
set_option maxHeartbeats 2000000 in
/-- the reference's Mac -/
theorem refMac_any (p : Option Addr) (len cap : Nat) (ks : List Nat) (hlen : len ≤ 20000) (pb : Option Addr) (bl bc : Nat) (bs : List Nat) (hbl : bl ≤ 20000) (w : World) (hI : IsBytes w.heap.size w p len cap ks) (hB : IsBytes w.heap.size w pb bl bc bs) :
    Calls Tryd.prog 21 #[.slice p len cap, .slice pb bl bc] w fun e w' => e = .returned (.agg (u8s (macN ks bs)).toArray) ∧ Below w.heap.size w w' := by
  have HKz : Hid (∀ z ∈ keyL ks, z < 256) := keyL_lt ks hI.2.2.2.1
  have HKs : Hid (∀ z ∈ ks, z < 256) := hI.2.2.2.1
  have HZL : Hid (ks.length = len) := hI.1
  obtain ⟨w0, hw0⟩ : ∃ w0, w0 = w.alloc (.cells (List.replicate 32 (Value.int .u8 0)).toArray 34) := ⟨_, rfl⟩
  have hbw : Below w.heap.size w w0 := by rw [hw0]; exact (Below.refl _ w).alloc (Nat.le_refl _) _
  have hs0 : w0.heap.size = w.heap.size + 1 := by rw [hw0]; simp
  have HI0 : Hid (IsBytes (w.heap.size + 1) w0 p len cap ks) := by have h := hI.later hbw; rw [hs0] at h; exact h
  have HB0 : Hid (IsBytes (w.heap.size + 1) w0 pb bl bc bs) := by have h := hB.later hbw; rw [hs0] at h; exact h
  have HZ0 : Hid (Row w0 w.heap.size 34 (List.replicate 32 (.int .u8 0))) := by rw [hw0]; exact Row.new' w 34 _
  have Hbw : Hid (Below w.heap.size w w0) := hbw
  clear hI hB
  by_cases h64 : 64 < len
  · have h64i : (64 : Int) < (len : Int) := by omega
    obtain ⟨K0, hK0⟩ : ∃ K0, K0 = sumN ks := ⟨_, rfl⟩
    have HKe : Hid (keyL ks = fill64 K0) := by show _ = _; rw [keyL, if_pos (by rw [HZL.out]; exact h64), hK0]
    obtain ⟨n0, hn0'⟩ : ∃ n0, n0 = 32 := ⟨_, rfl⟩
    have hn0 : n0 + 0 ≤ 64 := by omega
    have HK0' : Hid (K0.length = 32) := by show _ = _; rw [hK0, sumN_length]
    have HK0 : Hid (K0.length = n0) := by show _ = _; rw [HK0'.out, hn0']
    have HK0z : Hid (∀ z ∈ K0, z < 256) := by rw [hK0]; exact sumN_lt _
    have H12k : Hid (∀ W q l c, IsBytes W.heap.size W q l c ks → Calls Tryd.prog 28 #[.slice q l c] W fun e w' => e = .returned (.agg (u8s K0).toArray) ∧ Below W.heap.size W w') := fun W q l c hI => by
      rw [hK0]; exact refSum_any q l c _ W (by rw [← hI.1, HZL.out]; omega) hI
    have HKVl : Hid ((u8s K0).length = 32) := by show _ = _; rw [u8s_length]; exact HK0'.out
    have HKV1 : Hid (∀ v ∈ u8s K0, v.oneCell' = true) := u8s_one _
    generalize hKV : u8s K0 = KV at *
    have HKV : Hid (u8s K0 = KV) := hKV
    clear hK0 h64 hn0' hKV
    go_enter Tryd.func21, Tryd.ntmps21
    go_wp2_with (first
      | (at_builtin; rw [z32u8, ← hw0]; have hflag := HI0.out; clear HI0; refine wpList_append_bytes rfl _ _ rfl (w.heap.size + 1) (.slice none 0 0) [] rfl (Own.nil _ _) rfl hflag (by simp; omega) (by omega) ?_; clear hflag; intro u1 w1 hown1 hgrow1; have hbZ : Below (w.heap.size + 1) w0 w1 := (Below.refl _ w0).grown hgrow1 (by omega) (fun k e => by cases e); rw [List.nil_append] at hown1; obtain ⟨qa, ca, hu1⟩ := own_len hown1 (n := len) HZL.out; subst hu1; have HOa : Hid (Own (w.heap.size + 1) w1 (.slice qa len ca) ks) := hown1; clear hown1 hgrow1)
      | (go_at_call 28; refine (H12k.out _ _ _ _ (HOa.out.bytes HKs.out)).mono ?_; rintro e w2 ⟨rfl, hb2⟩; have hbY : Below (w.heap.size + 1) w0 w2 := hbZ.trans (hb2.mono (by have := hbZ.size; omega)); have hs2 : w.heap.size + 1 ≤ w2.heap.size := (by have := hbY.size; omega); clear hb2 H12k)
      | ((with_reducible show wpList _ _ _ (Oper.mk _ (Op.store 34 (.tmp 6) (.tmp 18)) _ _ _ _ :: _) _ _); refine wpList_store_Row rfl 34 (.tmp 6) (.tmp 18) rfl KV rfl rfl (Row.new _ _ _) (by rw [HKVl.out]; exact size34) (by rw [HKVl.out]; rfl) HKV1.out ?_; simp only [Act.put]; rw [z32u8]; have HR : Hid (Row ((w2.alloc (.cells (List.replicate 32 (Value.int .u8 0)).toArray 34)).setCells w2.heap.size 0 KV) w2.heap.size 34 (u8s K0)) := (by rw [HKV.out]; exact Row.sets_all (vs := KV) (Row.new w2 34 _) (by rw [HKVl.out]; rfl)); have hb8 : Below (w.heap.size + 1) w0 ((w2.alloc (.cells (List.replicate 32 (Value.int .u8 0)).toArray 34)).setCells w2.heap.size 0 KV) := below_setCells hs2 KV 0 (hbY.alloc hs2 _); have hs8 : (((w2.alloc (.cells (List.replicate 32 (Value.int .u8 0)).toArray 34)).setCells w2.heap.size 0 KV)).heap.size = w2.heap.size + 1 := (by rw [size_setCells, World.size_alloc]); generalize ((w2.alloc (.cells (List.replicate 32 (Value.int .u8 0)).toArray 34)).setCells w2.heap.size 0 KV) = w8 at *)
      | (at_builtin; refine wpList_append_bytes rfl _ _ rfl (w.heap.size + 1) (.slice none 0 0) [] rfl (Own.nil _ _) rfl (row_bytes HR.out HK0'.out (by omega) HK0z.out) (by simp) (by omega) ?_; intro u1 w3 hown1 hgrow1; have hbA : Below (w.heap.size + 1) w0 w3 := hb8.grown hgrow1 (by omega) (fun k e => by cases e); rw [List.nil_append] at hown1; obtain ⟨q1, c1, hu1⟩ := own_len hown1 (n := n0) HK0.out; subst hu1; have HO1 : Hid (Own (w.heap.size + 1) w3 (.slice q1 n0 c1) K0) := hown1; clear hown1 hgrow1))
    go_loopw [5] (fun v wr => ∃ (j : Nat) (q : Option Addr) (c : Nat), n0 + j ≤ 64 ∧ v = .slice q (n0 + j) c ∧ Own (w.heap.size + 1) wr v (K0 ++ List.replicate j 0) ∧ Below (w.heap.size + 1) w0 wr)
      (fun v _ => 64 - sliceLen v)
    case atStart => exact ⟨0, _, _, hn0, rfl, by simpa using HO1.out, hbA⟩
    case round =>
      clear HO1 hbA
      obtain ⟨j, q, c, hj, rfl, hown, hbel⟩ := hrel
      have HO : Hid (Own (w.heap.size + 1) wr (.slice q (n0 + j) c) (K0 ++ List.replicate j 0)) := hown
      have hsz : w.heap.size + 1 ≤ wr.heap.size := by have := hbel.size; omega
      clear hown
      by_cases hlt : n0 + j < 64
      · have hlti : ((n0 + j : Nat) : Int) < 64 := by omega
        generalize hn : n0 + j = n at *
        have HN : Hid (n0 + j = n) := hn
        clear hn
        go_wp2_with (at_builtin; refine wpList_append_bytes rfl _ _ rfl (w.heap.size + 1) (.slice q n c) _ rfl (HO.out.alloc _) rfl (bytes_one wr 0 (by omega)) (by have := HN.out; have := HK0.out; simp; omega) (by simp; omega) ?_; intro u2 w2 hown2 hgrow2; have hb2 : Below (w.heap.size + 1) w0 w2 := below_own (hbel.alloc hsz _) (by simp; omega) (HO.out.alloc _) hgrow2; obtain ⟨q3, c3, hu2⟩ := own_len hown2 (n := n + 1) (by have := HN.out; have := HK0.out; simp; omega); subst hu2; have HO2 : Hid (Own (w.heap.size + 1) w2 (.slice q3 (n + 1) c3) ((K0 ++ List.replicate j 0) ++ [0])) := hown2; clear hown2 hgrow2)
        go_roundw
        case rel =>
          have h2 := HO2.out
          rw [List.append_assoc, show List.replicate j 0 ++ [0] = List.replicate (j + 1) 0 from List.replicate_succ'.symm] at h2
          exact ⟨j + 1, q3, c3, by have := HN.out; omega, by rw [← HN.out]; rfl, h2, hb2⟩
        case measure => simp only [sliceLen]; omega
      · have h64j : n0 + j = 64 := by omega
        have HKL : Hid (K0 ++ List.replicate j 0 = keyL ks) := by show _ = _; rw [HKe.out, fill64, HK0.out, show 64 - n0 = j by omega]
        rw [HKL.out] at HO
        rw [h64j] at HO ⊢
        clear hlt h64j hj
        go_wp2
        go_loopw [7, 8, 29] (fun v7 v8 i wq => ∃ k : Nat, k ≤ 64 ∧ i = .int .i64 k ∧ Own (w.heap.size + 1) wq v7 (xorL ((keyL ks).take k) 54) ∧ Own (w.heap.size + 1) wq v8 (xorL ((keyL ks).take k) 92) ∧ Own (w.heap.size + 1) wq (.slice q 64 c) (keyL ks) ∧ Ap v7 v8 ∧ Ap v7 (.slice q 64 c) ∧ Ap v8 (.slice q 64 c) ∧ Below (w.heap.size + 1) w0 wq)
          (fun _ _ i _ => 64 - (intOf i).toNat)
        case atStart => exact ⟨0, by omega, rfl, Own.nil _ _, Own.nil _ _, HO.out, Ap.nil _, Ap.nil _, Ap.nil _, hbel⟩
        case round =>
          clear HO hbel hsz
          obtain ⟨k, hk, rfl, ho7, ho8, hok, ha78, ha7k, ha8k, hbel⟩ := hrel
          have hsz : w.heap.size + 1 ≤ wr.heap.size := by have := hbel.size; omega
          obtain ⟨g, rfl, _, hgl, hrng⟩ := hok.cells (by omega)
          by_cases hlt : k < 64
          · have hki : (k : Int) < 64 := by omega
            have hck := hrng k _ (u8s_at (l := keyL ks) (by rw [keyL_length]; omega))
            rw [Nat.zero_add] at hck
            have hx : (keyL ks).getD k 0 < 256 := all_getD (by decide) HKz.out k
            have HX1 := u8_xor_nat ((keyL ks).getD k 0) 54 hx (by omega)
            have HX2 := u8_xor_nat ((keyL ks).getD k 0) 92 hx (by omega)
            have hy1 : (keyL ks).getD k 0 ^^^ 54 < 256 := Nat.xor_lt_two_pow (n := 8) hx (by omega)
            have hy2 : (keyL ks).getD k 0 ^^^ 92 < 256 := Nat.xor_lt_two_pow (n := 8) hx (by omega)
            have HS1 : Hid (xorL ((keyL ks).take k) 54 ++ [(keyL ks).getD k 0 ^^^ 54] = xorL ((keyL ks).take (k + 1)) 54) := xorL_take (keyL ks) 54 k (by rw [keyL_length]; omega)
            have HS2 : Hid (xorL ((keyL ks).take k) 92 ++ [(keyL ks).getD k 0 ^^^ 92] = xorL ((keyL ks).take (k + 1)) 92) := xorL_take (keyL ks) 92 k (by rw [keyL_length]; omega)
            have HL1 : Hid ((xorL ((keyL ks).take k) 54).length = k) := by show _ = _; rw [xorL_length, List.length_take, keyL_length]; omega
            have HL2 : Hid ((xorL ((keyL ks).take k) 92).length = k) := by show _ = _; rw [xorL_length, List.length_take, keyL_length]; omega
            have HO7 : Hid (Own (w.heap.size + 1) wr u7 (xorL ((keyL ks).take k) 54)) := ho7
            have HO8 : Hid (Own (w.heap.size + 1) wr u8 (xorL ((keyL ks).take k) 92)) := ho8
            have HOk : Hid (Own (w.heap.size + 1) wr (.slice (some ⟨g, 0, none⟩) 64 c) (keyL ks)) := hok
            have Ha78 : Hid (Ap u7 u8) := ha78
            have Ha7k : Hid (Ap u7 (.slice (some ⟨g, 0, none⟩) 64 c)) := ha7k
            have Ha8k : Hid (Ap u8 (.slice (some ⟨g, 0, none⟩) 64 c)) := ha8k
            rw [show ((54 : Nat) : Int) = 54 from rfl] at HX1
            rw [show ((92 : Nat) : Int) = 92 from rfl] at HX2
            clear ho7 ho8 hok ha78 ha7k ha8k hrng hx
            generalize (keyL ks).getD k 0 ^^^ 54 = y1 at *
            generalize (keyL ks).getD k 0 ^^^ 92 = y2 at *
            generalize (keyL ks).getD k 0 = x at *
            generalize xorL ((keyL ks).take k) 54 = A1 at *
            generalize xorL ((keyL ks).take k) 92 = A2 at *
            go_wp2_with (first
              | (at_builtin; have hdst := Ha78.out; clear Ha78; refine wpList_append_own1 rfl _ _ rfl (w.heap.size + 1) u7 A1 rfl HO7.out y1 hy1 rfl (by rw [HL1.out]; omega) (by omega) ?_; intro v7 w5 hown5 hgrow5 hat5; have hb5 : Below (w.heap.size + 1) w0 w5 := hbel.grown hgrow5 hsz (fun j e => (World.ownsRow.lt HO7.out j e).1); have HO7b : Hid (Own (w.heap.size + 1) w5 v7 (A1 ++ [y1])) := hown5; have HO8b : Hid (Own (w.heap.size + 1) w5 u8 A2) := own_far HO8.out hgrow5 hdst; have HOkb : Hid (Own (w.heap.size + 1) w5 (.slice (some ⟨g, 0, none⟩) 64 c) (keyL ks)) := own_far HOk.out hgrow5 Ha7k.out; have Ha78b : Hid (Ap v7 u8) := Ap.grown hdst hat5 HO8.out; have Ha7kb : Hid (Ap v7 (.slice (some ⟨g, 0, none⟩) 64 c)) := Ap.grown Ha7k.out hat5 HOk.out; clear hown5 hgrow5 hat5 hdst)
              | (at_builtin; refine wpList_append_own1 rfl _ _ rfl (w.heap.size + 1) u8 A2 rfl HO8b.out y2 hy2 rfl (by rw [HL2.out]; omega) (by have := hb5.size; omega) ?_; intro v8 w6 hown6 hgrow6 hat6; have hb6 : Below (w.heap.size + 1) w0 w6 := hb5.grown hgrow6 (by have := hb5.size; omega) (fun j e => (World.ownsRow.lt HO8b.out j e).1); have HO8c : Hid (Own (w.heap.size + 1) w6 v8 (A2 ++ [y2])) := hown6; have HO7c : Hid (Own (w.heap.size + 1) w6 v7 (A1 ++ [y1])) := own_far HO7b.out hgrow6 Ha78b.out.symm; have HOkc : Hid (Own (w.heap.size + 1) w6 (.slice (some ⟨g, 0, none⟩) 64 c) (keyL ks)) := own_far HOkb.out hgrow6 Ha8k.out; have Ha78c : Hid (Ap v7 v8) := (Ap.grown Ha78b.out.symm hat6 HO7b.out).symm; have Ha8kc : Hid (Ap v8 (.slice (some ⟨g, 0, none⟩) 64 c)) := Ap.grown Ha8k.out hat6 HOkb.out; clear hown6 hgrow6 hat6))
            go_roundw
            case rel => exact ⟨k + 1, by omega, by go_num, by rw [← HS1.out]; exact HO7c.out, by rw [← HS2.out]; exact HO8c.out, HOkc.out, Ha78c.out, Ha7kb.out, Ha8kc.out, hb6⟩
            case measure => simp [intOf]; omega
          · obtain rfl : k = 64 := by omega
            rw [List.take_of_length_le (by rw [keyL_length]; omega)] at ho7 ho8
            obtain ⟨X, hX⟩ : ∃ X, X = xorL (keyL ks) 54 := ⟨_, rfl⟩
            obtain ⟨Y, hY⟩ : ∃ Y, Y = xorL (keyL ks) 92 := ⟨_, rfl⟩
            rw [← hX] at ho7
            rw [← hY] at ho8
            have HXl : Hid (X.length = 64) := by show _ = _; rw [hX, xorL_length, keyL_length]
            have HXz : Hid (∀ z ∈ X, z < 256) := by rw [hX]; exact xorL_lt _ _ (by omega) HKz.out
            have HYl : Hid (Y.length = 64) := by show _ = _; rw [hY, xorL_length, keyL_length]
            have HYz : Hid (∀ z ∈ Y, z < 256) := by rw [hY]; exact xorL_lt _ _ (by omega) HKz.out
            obtain ⟨IN, hIN⟩ : ∃ IN, IN = sumN (X ++ bs) := ⟨_, rfl⟩
            have HINl : Hid (IN.length = 32) := by show _ = _; rw [hIN]; exact sumN_length _
            have HINz : Hid (∀ z ∈ IN, z < 256) := by rw [hIN]; exact sumN_lt _
            have HMac : Hid (macN ks bs = sumN (Y ++ IN)) := by show _ = _; rw [macN, hIN, hX, hY]
            have H12a : Hid (∀ W q l c, IsBytes W.heap.size W q l c (X ++ bs) → Calls Tryd.prog 28 #[.slice q l c] W fun e w' => e = .returned (.agg (u8s IN).toArray) ∧ Below W.heap.size W w') := fun W q l c hI => by
              rw [hIN]; exact refSum_any q l c _ W (by rw [← hI.1, List.length_append, HXl.out, HB0.out.1]; omega) hI
            have H12b : Hid (∀ W q l c, IsBytes W.heap.size W q l c (Y ++ IN) → Calls Tryd.prog 28 #[.slice q l c] W fun e w' => e = .returned (.agg (u8s (macN ks bs)).toArray) ∧ Below W.heap.size W w') := fun W q l c hI => by
              rw [HMac.out]; exact refSum_any q l c _ W (by rw [← hI.1, List.length_append, HYl.out, HINl.out]; omega) hI
            have HXb : Hid (∀ z ∈ X ++ bs, z < 256) := fun z hz => by
              rcases List.mem_append.1 hz with h | h
              · exact HXz.out z h
              · exact HB0.out.2.2.2.1 z h
            have HYb : Hid (∀ z ∈ Y ++ IN, z < 256) := fun z hz => by
              rcases List.mem_append.1 hz with h | h
              · exact HYz.out z h
              · exact HINz.out z h
            obtain ⟨nX, hnX⟩ : ∃ nX, nX = 64 + bl := ⟨_, rfl⟩
            have HXb2 : Hid ((X ++ bs).length = nX) := by show _ = _; rw [List.length_append, HXl.out, HB0.out.1, hnX]
            have HYb2 : Hid ((Y ++ IN).length = 96) := by show _ = _; rw [List.length_append, HYl.out, HINl.out]
            clear hnX
            have HIl : Hid ((u8s IN).length = 32) := by show _ = _; rw [u8s_length]; exact HINl.out
            have HI1 : Hid (∀ v ∈ u8s IN, v.oneCell' = true) := u8s_one _
            have HVl : Hid ((u8s (macN ks bs)).length = 32) := by show _ = _; rw [u8s_length]; exact macN_length _ _
            have HV1 : Hid (∀ v ∈ u8s (macN ks bs), v.oneCell' = true) := u8s_one _
            have HO7 : Hid (Own (w.heap.size + 1) wr u7 X) := ho7
            have HO8 : Hid (Own (w.heap.size + 1) wr u8 Y) := ho8
            have Ha78 : Hid (Ap u7 u8) := ha78
            have HBr : Hid (IsBytes (w.heap.size + 1) wr pb bl bc bs) := HB0.out.below hbel
            clear ho7 ho8 hok ha78 ha7k ha8k hrng hX hY hIN HMac
            generalize hVV : u8s (macN ks bs) = VV at *
            have HVV : Hid (u8s (macN ks bs) = VV) := hVV
            generalize hIV : u8s IN = IV at *
            have HIV : Hid (u8s IN = IV) := hIV
            clear hVV hIV
            go_wp2_with (first
              | (at_builtin; have hdst := Ha78.out; clear Ha78; refine wpList_append_bytes rfl _ _ rfl (w.heap.size + 1) u7 X rfl HO7.out rfl HBr.out (by rw [HXl.out]; omega) hsz ?_; intro v7 w5 hown5 hgrow5; have hb5 : Below (w.heap.size + 1) w0 w5 := below_own hbel hsz HO7.out hgrow5; have HO8b : Hid (Own (w.heap.size + 1) w5 u8 Y) := own_far HO8.out hgrow5 hdst; obtain ⟨q5, c5, hu5⟩ := own_len hown5 HXb2.out; subst hu5; have HO7b : Hid (Own (w.heap.size + 1) w5 (.slice q5 nX c5) (X ++ bs)) := hown5; clear hown5 hgrow5 hdst)
              | (go_at_call 28; have h12 := H12a.out; clear H12a; refine (h12 _ _ _ _ (HO7b.out.bytes HXb.out)).mono ?_; clear h12; rintro e w6 ⟨rfl, hb6⟩; have hb7 : Below (w.heap.size + 1) w0 w6 := hb5.trans (hb6.mono (by have := hb5.size; omega)); have HO8c : Hid (Own (w.heap.size + 1) w6 u8 Y) := HO8b.out.later hb6; have hs6 : w.heap.size + 1 ≤ w6.heap.size := (by have := hb7.size; omega); clear hb6)
              | ((with_reducible show wpList _ _ _ (Oper.mk _ (Op.store 34 (.tmp 11) (.tmp 47)) _ _ _ _ :: _) _ _); refine wpList_store_Row rfl 34 (.tmp 11) (.tmp 47) rfl IV rfl rfl (Row.new _ _ _) (by rw [HIl.out]; exact size34) (by rw [HIl.out]; rfl) HI1.out ?_; simp only [Act.put]; rw [z32u8]; have HR : Hid (Row ((w6.alloc (.cells (List.replicate 32 (Value.int .u8 0)).toArray 34)).setCells w6.heap.size 0 IV) w6.heap.size 34 (u8s IN)) := (by rw [HIV.out]; exact Row.sets_all (vs := IV) (Row.new w6 34 _) (by rw [HIl.out]; rfl)); have Hb8 : Hid (Below w6.heap.size w6 ((w6.alloc (.cells (List.replicate 32 (Value.int .u8 0)).toArray 34)).setCells w6.heap.size 0 IV)) := below_setCells (Nat.le_refl _) IV 0 ((Below.refl _ w6).alloc (Nat.le_refl _) _); have hs8 : (((w6.alloc (.cells (List.replicate 32 (Value.int .u8 0)).toArray 34)).setCells w6.heap.size 0 IV)).heap.size = w6.heap.size + 1 := (by rw [size_setCells, World.size_alloc]); generalize ((w6.alloc (.cells (List.replicate 32 (Value.int .u8 0)).toArray 34)).setCells w6.heap.size 0 IV) = w8 at *)
              | (at_builtin; refine wpList_append_bytes rfl _ _ rfl (w.heap.size + 1) u8 Y rfl (HO8c.out.later Hb8.out) rfl (row_bytes HR.out HINl.out (by omega) HINz.out) (by rw [HYl.out]; omega) (by omega) ?_; intro v8 w9 hown9 hgrow9; have hb9 : Below (w.heap.size + 1) w0 w9 := below_own (hb7.trans (Hb8.out.mono hs6)) (by omega) (HO8c.out.later Hb8.out) hgrow9; obtain ⟨q8, c8, hu8⟩ := own_len hown9 HYb2.out; subst hu8; have HO9 : Hid (Own (w.heap.size + 1) w9 (.slice q8 96 c8) (Y ++ IN)) := hown9; clear hown9 hgrow9)
              | (go_at_call 28; refine (H12b.out _ _ _ _ (HO9.out.bytes HYb.out)).mono ?_; rintro e w10 ⟨rfl, hb10⟩; have hb11 : Below (w.heap.size + 1) w0 w10 := hb9.trans (hb10.mono (by have := hb9.size; omega)); have HZ10 : Hid (Row w10 w.heap.size 34 (List.replicate 32 (.int .u8 0))) := HZ0.out.below hb11 (by omega); clear hb10)
              | ((with_reducible show wpList _ _ _ (Oper.mk _ (Op.store 34 (.tmp 4) (.tmp 51)) _ _ _ _ :: _) _ _); refine wpList_store_Row rfl 34 (.tmp 4) (.tmp 51) rfl VV rfl rfl HZ10.out (by rw [HVl.out]; exact size34) (by rw [HVl.out]; rfl) HV1.out ?_; simp only [Act.put]))
            refine bodyPost_ret (results_Row rfl rfl (Row.sets_all (vs := VV) HZ10.out (by rw [HVl.out]; rfl)) Tryd.underlying34 (by rw [HVl.out]; exact size34)) rfl ?_
            exact ⟨by rw [HVV.out], below_setCells (Nat.le_refl _) _ _ (Hbw.out.trans (hb11.mono (by omega)))⟩
  · have h64i : ¬ (64 : Int) < (len : Int) := by omega
    obtain ⟨K0, hK0⟩ : ∃ K0, K0 = ks := ⟨_, rfl⟩
    have HKe : Hid (keyL ks = fill64 K0) := by show _ = _; rw [keyL, if_neg (by rw [HZL.out]; exact h64), hK0]
    obtain ⟨n0, hn0'⟩ : ∃ n0, n0 = len := ⟨_, rfl⟩
    have hn0 : n0 + 0 ≤ 64 := by omega
    have HK0 : Hid (K0.length = n0) := by show _ = _; rw [hK0, HZL.out, hn0']
    rw [← hK0] at HI0
    rw [← hn0'] at HI0 h64i ⊢
    clear hK0 h64 hn0'
    go_enter Tryd.func21, Tryd.ntmps21
    go_wp2_with (first
      | (at_builtin; rw [z32u8, ← hw0]; refine wpList_append_bytes rfl _ _ rfl (w.heap.size + 1) (.slice none 0 0) [] rfl (Own.nil _ _) rfl HI0.out (by simp; omega) (by omega) ?_; intro u1 w1 hown1 hgrow1; have hbA : Below (w.heap.size + 1) w0 w1 := (Below.refl _ w0).grown hgrow1 (by omega) (fun k e => by cases e); rw [List.nil_append] at hown1; obtain ⟨q1, c1, hu1⟩ := own_len hown1 (n := n0) HK0.out; subst hu1; have HO1 : Hid (Own (w.heap.size + 1) w1 (.slice q1 n0 c1) K0) := hown1; clear hown1 hgrow1))
    go_loopw [5] (fun v wr => ∃ (j : Nat) (q : Option Addr) (c : Nat), n0 + j ≤ 64 ∧ v = .slice q (n0 + j) c ∧ Own (w.heap.size + 1) wr v (K0 ++ List.replicate j 0) ∧ Below (w.heap.size + 1) w0 wr)
      (fun v _ => 64 - sliceLen v)
    case atStart => exact ⟨0, _, _, hn0, rfl, by simpa using HO1.out, hbA⟩
    case round =>
      clear HO1 hbA
      obtain ⟨j, q, c, hj, rfl, hown, hbel⟩ := hrel
      have HO : Hid (Own (w.heap.size + 1) wr (.slice q (n0 + j) c) (K0 ++ List.replicate j 0)) := hown
      have hsz : w.heap.size + 1 ≤ wr.heap.size := by have := hbel.size; omega
      clear hown
      by_cases hlt : n0 + j < 64
      · have hlti : ((n0 + j : Nat) : Int) < 64 := by omega
        generalize hn : n0 + j = n at *
        have HN : Hid (n0 + j = n) := hn
        clear hn
        go_wp2_with (at_builtin; refine wpList_append_bytes rfl _ _ rfl (w.heap.size + 1) (.slice q n c) _ rfl (HO.out.alloc _) rfl (bytes_one wr 0 (by omega)) (by have := HN.out; have := HK0.out; simp; omega) (by simp; omega) ?_; intro u2 w2 hown2 hgrow2; have hb2 : Below (w.heap.size + 1) w0 w2 := below_own (hbel.alloc hsz _) (by simp; omega) (HO.out.alloc _) hgrow2; obtain ⟨q3, c3, hu2⟩ := own_len hown2 (n := n + 1) (by have := HN.out; have := HK0.out; simp; omega); subst hu2; have HO2 : Hid (Own (w.heap.size + 1) w2 (.slice q3 (n + 1) c3) ((K0 ++ List.replicate j 0) ++ [0])) := hown2; clear hown2 hgrow2)
        go_roundw
        case rel =>
          have h2 := HO2.out
          rw [List.append_assoc, show List.replicate j 0 ++ [0] = List.replicate (j + 1) 0 from List.replicate_succ'.symm] at h2
          exact ⟨j + 1, q3, c3, by have := HN.out; omega, by rw [← HN.out]; rfl, h2, hb2⟩
        case measure => simp only [sliceLen]; omega
      · have h64j : n0 + j = 64 := by omega
        have HKL : Hid (K0 ++ List.replicate j 0 = keyL ks) := by show _ = _; rw [HKe.out, fill64, HK0.out, show 64 - n0 = j by omega]
        rw [HKL.out] at HO
        rw [h64j] at HO ⊢
        clear hlt h64j hj
        go_wp2
        go_loopw [7, 8, 29] (fun v7 v8 i wq => ∃ k : Nat, k ≤ 64 ∧ i = .int .i64 k ∧ Own (w.heap.size + 1) wq v7 (xorL ((keyL ks).take k) 54) ∧ Own (w.heap.size + 1) wq v8 (xorL ((keyL ks).take k) 92) ∧ Own (w.heap.size + 1) wq (.slice q 64 c) (keyL ks) ∧ Ap v7 v8 ∧ Ap v7 (.slice q 64 c) ∧ Ap v8 (.slice q 64 c) ∧ Below (w.heap.size + 1) w0 wq)
          (fun _ _ i _ => 64 - (intOf i).toNat)
        case atStart => exact ⟨0, by omega, rfl, Own.nil _ _, Own.nil _ _, HO.out, Ap.nil _, Ap.nil _, Ap.nil _, hbel⟩
        case round =>
          clear HO hbel hsz
          obtain ⟨k, hk, rfl, ho7, ho8, hok, ha78, ha7k, ha8k, hbel⟩ := hrel
          have hsz : w.heap.size + 1 ≤ wr.heap.size := by have := hbel.size; omega
          obtain ⟨g, rfl, _, hgl, hrng⟩ := hok.cells (by omega)
          by_cases hlt : k < 64
          · have hki : (k : Int) < 64 := by omega
            have hck := hrng k _ (u8s_at (l := keyL ks) (by rw [keyL_length]; omega))
            rw [Nat.zero_add] at hck
            have hx : (keyL ks).getD k 0 < 256 := all_getD (by decide) HKz.out k
            have HX1 := u8_xor_nat ((keyL ks).getD k 0) 54 hx (by omega)
            have HX2 := u8_xor_nat ((keyL ks).getD k 0) 92 hx (by omega)
            have hy1 : (keyL ks).getD k 0 ^^^ 54 < 256 := Nat.xor_lt_two_pow (n := 8) hx (by omega)
            have hy2 : (keyL ks).getD k 0 ^^^ 92 < 256 := Nat.xor_lt_two_pow (n := 8) hx (by omega)
            have HS1 : Hid (xorL ((keyL ks).take k) 54 ++ [(keyL ks).getD k 0 ^^^ 54] = xorL ((keyL ks).take (k + 1)) 54) := xorL_take (keyL ks) 54 k (by rw [keyL_length]; omega)
            have HS2 : Hid (xorL ((keyL ks).take k) 92 ++ [(keyL ks).getD k 0 ^^^ 92] = xorL ((keyL ks).take (k + 1)) 92) := xorL_take (keyL ks) 92 k (by rw [keyL_length]; omega)
            have HL1 : Hid ((xorL ((keyL ks).take k) 54).length = k) := by show _ = _; rw [xorL_length, List.length_take, keyL_length]; omega
            have HL2 : Hid ((xorL ((keyL ks).take k) 92).length = k) := by show _ = _; rw [xorL_length, List.length_take, keyL_length]; omega
            have HO7 : Hid (Own (w.heap.size + 1) wr u7 (xorL ((keyL ks).take k) 54)) := ho7
            have HO8 : Hid (Own (w.heap.size + 1) wr u8 (xorL ((keyL ks).take k) 92)) := ho8
            have HOk : Hid (Own (w.heap.size + 1) wr (.slice (some ⟨g, 0, none⟩) 64 c) (keyL ks)) := hok
            have Ha78 : Hid (Ap u7 u8) := ha78
            have Ha7k : Hid (Ap u7 (.slice (some ⟨g, 0, none⟩) 64 c)) := ha7k
            have Ha8k : Hid (Ap u8 (.slice (some ⟨g, 0, none⟩) 64 c)) := ha8k
            rw [show ((54 : Nat) : Int) = 54 from rfl] at HX1
            rw [show ((92 : Nat) : Int) = 92 from rfl] at HX2
            clear ho7 ho8 hok ha78 ha7k ha8k hrng hx
            generalize (keyL ks).getD k 0 ^^^ 54 = y1 at *
            generalize (keyL ks).getD k 0 ^^^ 92 = y2 at *
            generalize (keyL ks).getD k 0 = x at *
            generalize xorL ((keyL ks).take k) 54 = A1 at *
            generalize xorL ((keyL ks).take k) 92 = A2 at *
            go_wp2_with (first
              | (at_builtin; have hdst := Ha78.out; clear Ha78; refine wpList_append_own1 rfl _ _ rfl (w.heap.size + 1) u7 A1 rfl HO7.out y1 hy1 rfl (by rw [HL1.out]; omega) (by omega) ?_; intro v7 w5 hown5 hgrow5 hat5; have hb5 : Below (w.heap.size + 1) w0 w5 := hbel.grown hgrow5 hsz (fun j e => (World.ownsRow.lt HO7.out j e).1); have HO7b : Hid (Own (w.heap.size + 1) w5 v7 (A1 ++ [y1])) := hown5; have HO8b : Hid (Own (w.heap.size + 1) w5 u8 A2) := own_far HO8.out hgrow5 hdst; have HOkb : Hid (Own (w.heap.size + 1) w5 (.slice (some ⟨g, 0, none⟩) 64 c) (keyL ks)) := own_far HOk.out hgrow5 Ha7k.out; have Ha78b : Hid (Ap v7 u8) := Ap.grown hdst hat5 HO8.out; have Ha7kb : Hid (Ap v7 (.slice (some ⟨g, 0, none⟩) 64 c)) := Ap.grown Ha7k.out hat5 HOk.out; clear hown5 hgrow5 hat5 hdst)
              | (at_builtin; refine wpList_append_own1 rfl _ _ rfl (w.heap.size + 1) u8 A2 rfl HO8b.out y2 hy2 rfl (by rw [HL2.out]; omega) (by have := hb5.size; omega) ?_; intro v8 w6 hown6 hgrow6 hat6; have hb6 : Below (w.heap.size + 1) w0 w6 := hb5.grown hgrow6 (by have := hb5.size; omega) (fun j e => (World.ownsRow.lt HO8b.out j e).1); have HO8c : Hid (Own (w.heap.size + 1) w6 v8 (A2 ++ [y2])) := hown6; have HO7c : Hid (Own (w.heap.size + 1) w6 v7 (A1 ++ [y1])) := own_far HO7b.out hgrow6 Ha78b.out.symm; have HOkc : Hid (Own (w.heap.size + 1) w6 (.slice (some ⟨g, 0, none⟩) 64 c) (keyL ks)) := own_far HOkb.out hgrow6 Ha8k.out; have Ha78c : Hid (Ap v7 v8) := (Ap.grown Ha78b.out.symm hat6 HO7b.out).symm; have Ha8kc : Hid (Ap v8 (.slice (some ⟨g, 0, none⟩) 64 c)) := Ap.grown Ha8k.out hat6 HOkb.out; clear hown6 hgrow6 hat6))
            go_roundw
            case rel => exact ⟨k + 1, by omega, by go_num, by rw [← HS1.out]; exact HO7c.out, by rw [← HS2.out]; exact HO8c.out, HOkc.out, Ha78c.out, Ha7kb.out, Ha8kc.out, hb6⟩
            case measure => simp [intOf]; omega
          · obtain rfl : k = 64 := by omega
            rw [List.take_of_length_le (by rw [keyL_length]; omega)] at ho7 ho8
            obtain ⟨X, hX⟩ : ∃ X, X = xorL (keyL ks) 54 := ⟨_, rfl⟩
            obtain ⟨Y, hY⟩ : ∃ Y, Y = xorL (keyL ks) 92 := ⟨_, rfl⟩
            rw [← hX] at ho7
            rw [← hY] at ho8
            have HXl : Hid (X.length = 64) := by show _ = _; rw [hX, xorL_length, keyL_length]
            have HXz : Hid (∀ z ∈ X, z < 256) := by rw [hX]; exact xorL_lt _ _ (by omega) HKz.out
            have HYl : Hid (Y.length = 64) := by show _ = _; rw [hY, xorL_length, keyL_length]
            have HYz : Hid (∀ z ∈ Y, z < 256) := by rw [hY]; exact xorL_lt _ _ (by omega) HKz.out
            obtain ⟨IN, hIN⟩ : ∃ IN, IN = sumN (X ++ bs) := ⟨_, rfl⟩
            have HINl : Hid (IN.length = 32) := by show _ = _; rw [hIN]; exact sumN_length _
            have HINz : Hid (∀ z ∈ IN, z < 256) := by rw [hIN]; exact sumN_lt _
            have HMac : Hid (macN ks bs = sumN (Y ++ IN)) := by show _ = _; rw [macN, hIN, hX, hY]
            have H12a : Hid (∀ W q l c, IsBytes W.heap.size W q l c (X ++ bs) → Calls Tryd.prog 28 #[.slice q l c] W fun e w' => e = .returned (.agg (u8s IN).toArray) ∧ Below W.heap.size W w') := fun W q l c hI => by
              rw [hIN]; exact refSum_any q l c _ W (by rw [← hI.1, List.length_append, HXl.out, HB0.out.1]; omega) hI
            have H12b : Hid (∀ W q l c, IsBytes W.heap.size W q l c (Y ++ IN) → Calls Tryd.prog 28 #[.slice q l c] W fun e w' => e = .returned (.agg (u8s (macN ks bs)).toArray) ∧ Below W.heap.size W w') := fun W q l c hI => by
              rw [HMac.out]; exact refSum_any q l c _ W (by rw [← hI.1, List.length_append, HYl.out, HINl.out]; omega) hI
            have HXb : Hid (∀ z ∈ X ++ bs, z < 256) := fun z hz => by
              rcases List.mem_append.1 hz with h | h
              · exact HXz.out z h
              · exact HB0.out.2.2.2.1 z h
            have HYb : Hid (∀ z ∈ Y ++ IN, z < 256) := fun z hz => by
              rcases List.mem_append.1 hz with h | h
              · exact HYz.out z h
              · exact HINz.out z h
            obtain ⟨nX, hnX⟩ : ∃ nX, nX = 64 + bl := ⟨_, rfl⟩
            have HXb2 : Hid ((X ++ bs).length = nX) := by show _ = _; rw [List.length_append, HXl.out, HB0.out.1, hnX]
            have HYb2 : Hid ((Y ++ IN).length = 96) := by show _ = _; rw [List.length_append, HYl.out, HINl.out]
            clear hnX
            have HIl : Hid ((u8s IN).length = 32) := by show _ = _; rw [u8s_length]; exact HINl.out
            have HI1 : Hid (∀ v ∈ u8s IN, v.oneCell' = true) := u8s_one _
            have HVl : Hid ((u8s (macN ks bs)).length = 32) := by show _ = _; rw [u8s_length]; exact macN_length _ _
            have HV1 : Hid (∀ v ∈ u8s (macN ks bs), v.oneCell' = true) := u8s_one _
            have HO7 : Hid (Own (w.heap.size + 1) wr u7 X) := ho7
            have HO8 : Hid (Own (w.heap.size + 1) wr u8 Y) := ho8
            have Ha78 : Hid (Ap u7 u8) := ha78
            have HBr : Hid (IsBytes (w.heap.size + 1) wr pb bl bc bs) := HB0.out.below hbel
            clear ho7 ho8 hok ha78 ha7k ha8k hrng hX hY hIN HMac
            generalize hVV : u8s (macN ks bs) = VV at *
            have HVV : Hid (u8s (macN ks bs) = VV) := hVV
            generalize hIV : u8s IN = IV at *
            have HIV : Hid (u8s IN = IV) := hIV
            clear hVV hIV
            go_wp2_with (first
              | (at_builtin; have hdst := Ha78.out; clear Ha78; refine wpList_append_bytes rfl _ _ rfl (w.heap.size + 1) u7 X rfl HO7.out rfl HBr.out (by rw [HXl.out]; omega) hsz ?_; intro v7 w5 hown5 hgrow5; have hb5 : Below (w.heap.size + 1) w0 w5 := below_own hbel hsz HO7.out hgrow5; have HO8b : Hid (Own (w.heap.size + 1) w5 u8 Y) := own_far HO8.out hgrow5 hdst; obtain ⟨q5, c5, hu5⟩ := own_len hown5 HXb2.out; subst hu5; have HO7b : Hid (Own (w.heap.size + 1) w5 (.slice q5 nX c5) (X ++ bs)) := hown5; clear hown5 hgrow5 hdst)
              | (go_at_call 28; have h12 := H12a.out; clear H12a; refine (h12 _ _ _ _ (HO7b.out.bytes HXb.out)).mono ?_; clear h12; rintro e w6 ⟨rfl, hb6⟩; have hb7 : Below (w.heap.size + 1) w0 w6 := hb5.trans (hb6.mono (by have := hb5.size; omega)); have HO8c : Hid (Own (w.heap.size + 1) w6 u8 Y) := HO8b.out.later hb6; have hs6 : w.heap.size + 1 ≤ w6.heap.size := (by have := hb7.size; omega); clear hb6)
              | ((with_reducible show wpList _ _ _ (Oper.mk _ (Op.store 34 (.tmp 11) (.tmp 47)) _ _ _ _ :: _) _ _); refine wpList_store_Row rfl 34 (.tmp 11) (.tmp 47) rfl IV rfl rfl (Row.new _ _ _) (by rw [HIl.out]; exact size34) (by rw [HIl.out]; rfl) HI1.out ?_; simp only [Act.put]; rw [z32u8]; have HR : Hid (Row ((w6.alloc (.cells (List.replicate 32 (Value.int .u8 0)).toArray 34)).setCells w6.heap.size 0 IV) w6.heap.size 34 (u8s IN)) := (by rw [HIV.out]; exact Row.sets_all (vs := IV) (Row.new w6 34 _) (by rw [HIl.out]; rfl)); have Hb8 : Hid (Below w6.heap.size w6 ((w6.alloc (.cells (List.replicate 32 (Value.int .u8 0)).toArray 34)).setCells w6.heap.size 0 IV)) := below_setCells (Nat.le_refl _) IV 0 ((Below.refl _ w6).alloc (Nat.le_refl _) _); have hs8 : (((w6.alloc (.cells (List.replicate 32 (Value.int .u8 0)).toArray 34)).setCells w6.heap.size 0 IV)).heap.size = w6.heap.size + 1 := (by rw [size_setCells, World.size_alloc]); generalize ((w6.alloc (.cells (List.replicate 32 (Value.int .u8 0)).toArray 34)).setCells w6.heap.size 0 IV) = w8 at *)
              | (at_builtin; refine wpList_append_bytes rfl _ _ rfl (w.heap.size + 1) u8 Y rfl (HO8c.out.later Hb8.out) rfl (row_bytes HR.out HINl.out (by omega) HINz.out) (by rw [HYl.out]; omega) (by omega) ?_; intro v8 w9 hown9 hgrow9; have hb9 : Below (w.heap.size + 1) w0 w9 := below_own (hb7.trans (Hb8.out.mono hs6)) (by omega) (HO8c.out.later Hb8.out) hgrow9; obtain ⟨q8, c8, hu8⟩ := own_len hown9 HYb2.out; subst hu8; have HO9 : Hid (Own (w.heap.size + 1) w9 (.slice q8 96 c8) (Y ++ IN)) := hown9; clear hown9 hgrow9)
              | (go_at_call 28; refine (H12b.out _ _ _ _ (HO9.out.bytes HYb.out)).mono ?_; rintro e w10 ⟨rfl, hb10⟩; have hb11 : Below (w.heap.size + 1) w0 w10 := hb9.trans (hb10.mono (by have := hb9.size; omega)); have HZ10 : Hid (Row w10 w.heap.size 34 (List.replicate 32 (.int .u8 0))) := HZ0.out.below hb11 (by omega); clear hb10)
              | ((with_reducible show wpList _ _ _ (Oper.mk _ (Op.store 34 (.tmp 4) (.tmp 51)) _ _ _ _ :: _) _ _); refine wpList_store_Row rfl 34 (.tmp 4) (.tmp 51) rfl VV rfl rfl HZ10.out (by rw [HVl.out]; exact size34) (by rw [HVl.out]; rfl) HV1.out ?_; simp only [Act.put]))
            refine bodyPost_ret (results_Row rfl rfl (Row.sets_all (vs := VV) HZ10.out (by rw [HVl.out]; rfl)) Tryd.underlying34 (by rw [HVl.out]; exact size34)) rfl ?_
            exact ⟨by rw [HVV.out], below_setCells (Nat.le_refl _) _ _ (Hbw.out.trans (hb11.mono (by omega)))⟩
end Go.Proofs.YtkpjbleogjmbjaaDoor.Sh
