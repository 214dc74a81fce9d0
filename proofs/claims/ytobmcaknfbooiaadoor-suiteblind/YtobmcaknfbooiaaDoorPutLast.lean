/-
  putLast, walked.
-/
import Derived.Test.YtobmcaknfbooiaaDoorLast
import Derived.Test.YtobmcaknfbooiaaDoorBuild
namespace Go.Proofs.YtobmcaknfbooiaaDoor
open Classical
open Go.RowKit Go.Shelf

/-- What putLast leaves. -/
def LastPost (w : World) (F : List Nat) (m4 K : Nat) (L : ByteArray → List (List Value)) (s : ByteArray) (c : List Value) (w' : World) : Prop :=
  ∃ F' g' ys, (∀ b ∈ F, b ∈ F') ∧ (∀ b ∈ F', b ∈ F ∨ w.heap.size ≤ b) ∧ (∀ b ∈ F', b < w'.heap.size) ∧ Lasts (L s) c ys ∧ AskedRel w' F' m4 g' (putL L s ys) (K + 1) ∧ Buts F w.heap.size w w' ∧ (∀ x, x < w.heap.size → x ≠ m4 → (∀ cs, ¬ Row w x 72 cs) → w'.heap[x]? = w.heap[x]?)

set_option maxRecDepth 100000 in
set_option maxHeartbeats 1000000 in
theorem putLast_any (D m4 b K : Nat) (x0 x1 x2 x3 : Value) (zs : List Nat) (c : List Value) (k : List Nat) (ad pl : ByteArray) (hc : IsAsked c k ad pl) (g : Value → Option Value) (L : ByteArray → List (List Value)) (F : List Nat) (hK : K ≤ 1000) (hz : (strOf zs).size ≤ maxLen) (w : World)
    (hD : Row w D 70 [x0, x1, x2, x3, .map (some m4)]) (hb : Row w b 5 (u8s zs)) (hA : AskedRel w F m4 g L K) (hF : ∀ k ∈ F, k < w.heap.size) :
    Calls Tryd.prog 39 #[.pointer (some ⟨D, 0, none⟩), .slice (some ⟨b, 0, none⟩) zs.length zs.length, .agg c.toArray] w fun e w' => e = .returned (.tuple #[]) ∧ LastPost w F m4 K L (strOf zs) c w' := by
  obtain ⟨q, cap, hv, hown, hob⟩ := hA.list (strOf zs)
  obtain ⟨hxa, hxl⟩ := hA.all (strOf zs)
  obtain ⟨xs, hxs⟩ : ∃ xs, L (strOf zs) = xs := ⟨_, rfl⟩
  rw [hxs] at hv hown hob hxa hxl
  obtain ⟨s, hs⟩ : ∃ s, strOf zs = s := ⟨_, rfl⟩
  rw [hs] at hv hz hxs hob
  obtain ⟨w0, hw0⟩ : ∃ w0, w.alloc (.cells c.toArray 72) = w0 := ⟨_, rfl⟩
  have hb0 : Below w.heap.size w w0 := by rw [← hw0]; exact (Below.refl _ w).alloc (Nat.le_refl _) _
  have hs0 : w0.heap.size = w.heap.size + 1 := by rw [← hw0]; simp
  have hR0 : Row w0 w.heap.size 72 c := by rw [← hw0]; exact Row.new' w 72 c
  have hD0 := hD.later hb0
  have hb0' := hb.later hb0
  have hA0 : AskedRel w0 F m4 g L K := hA.keep (fun b hb => hb0.block b (hF b hb))
  obtain ⟨n, hn⟩ : ∃ n, xs.length = n := ⟨_, rfl⟩
  rw [hn] at hv hown hob hxl
  have HW0 : Hid (w.alloc (.cells c.toArray 72) = w0) := hw0
  have hDl := hD.lt
  have c4 := hD0.cell (i := 4) rfl
  have hconv := conv_of_row hb0'.drew
  rw [hs] at hconv
  obtain ⟨kl, hkey⟩ : ∃ kl, keyOf Tryd.prog 9 (.string s) = some kl := ⟨_, WideMaps.keyOf_string_mk Tryd.underlying9 hz⟩
  have hlook := (hA0.map.kept (w' := w0.drew) rfl).look false keyedStr Tryd.underlying68 (zero101 _) hkey
  simp only [Bool.false_eq_true, if_false] at hlook
  rw [hv] at hlook
  have HIdx : Hid (Calls Tryd.prog 57 #[.slice q n cap, .agg c.toArray] w0.drew fun e w' => ∃ r, e = .returned (.int .i64 r) ∧ IdxIs xs c r ∧ Below w0.drew.heap.size w0.drew w') := by
    have h := index_any q cap xs c k ad pl hc hxa (by omega) w0.drew (by rw [hn]; exact hown.keep (fun b hb => hb0.block b (hF b (hob b hb).1)))
    rw [hn] at h
    exact h
  have HDel : Hid (∀ W i, (∀ b ∈ F, W.heap[b]? = w.heap[b]?) → i < n → Calls Tryd.prog 58 #[.slice q n cap, .int .i64 (i : Nat), .int .i64 (i + 1 : Nat)] W fun e w' => e = .returned (.slice q (n - 1 : Nat) cap) ∧ AskOwn w' (.slice q (n - 1 : Nat) cap) (xs.eraseIdx i) ∧ ∃ gb, gb ∈ F ∧ q = some ⟨gb, 0, none⟩ ∧ But gb W.heap.size W w') := fun W i hW hi => by
    rcases hown.2 with ⟨_, h0⟩ | ⟨gb, cp, cur, e, _, hgg, hl1, hl2, hl3, hl4⟩
    · omega
    · cases e
      have hgF := (hob gb rfl).1
      have h := delete_one gb cap i xs cur.toList hxa (by omega) (by omega) (by simpa only [maxLen] using hl2) (by simpa using hl3) (by rw [hn]; exact hl4) hxa.one W (show Row W gb 72 cur.toList from by unfold Row; rw [Array.toArray_toList]; exact (hW gb hgF).trans hgg)
      rw [hn] at h
      exact h.mono fun e w' ⟨h1, h2, h3⟩ => ⟨h1, h2, gb, hgF, rfl, h3⟩
  have HS72 : Hid ((Tryd.prog.info? 72).map (·.size) = some c.length) := by show _ = _; rw [hc.len]; exact size72
  have HR0 : Hid (Row w0 w.heap.size 72 c) := hR0
  have HB0 : Hid (Row w0 b 5 (u8s zs)) := hb0'
  have HD0 : Hid (Row w0 D 70 [x0, x1, x2, x3, .map (some m4)]) := hD0
  have HA0 : Hid (AskedRel w0 F m4 g L K) := hA0
  have HA : Hid (AskedRel w F m4 g L K) := hA
  have HV : Hid ((g (.string s)).getD (.slice none 0 0) = .slice q (L s).length cap) := by show _ = _; rw [hxs, hn]; exact hv
  have HXS : Hid (L s = xs) := hxs
  have HOB : Hid (∀ b, (Value.slice q n cap).ownBlock = some b → b ∈ F) := fun b hb => (hob b hb).1
  have HOW : Hid (AskOwn w (.slice q n cap) xs) := hown
  have HM4 : Hid (m4 ∈ F) := hA.mem
  obtain ⟨i0, hi0, hz0, hz1, hz2⟩ := info_parts info72
  have HXN : Hid (xs.length = n) := hn
  have HN34 : Hid (c.length = 34) := hc.len
  have HKEY : Hid (keyOf Tryd.prog 9 (.string s) = some kl) := hkey
  have HONE : Hid (∀ v ∈ c, v.oneCell' = true) := asked_one hc
  have HCA : Hid (IsAsked c k ad pl) := hc
  have HXA : Hid (AskedAll xs) := hxa
  have HFl : Hid (∀ k ∈ F, k < w.heap.size) := hF
  have HDM : Hid (D ≠ m4) := row_map hD hA.map
  have HBM : Hid (b ≠ m4) := row_map hb hA.map
  have HOR : Hid (∀ gb, (Value.slice q n cap).ownBlock = some gb → ∃ cs, Row w gb 72 cs) := fun gb hgb => by
    rcases hown.2 with ⟨e, _⟩ | ⟨g', c', cur', e, _, hgg, _⟩
    · cases e; simp [Value.ownBlock] at hgb
    · cases e
      simp [Value.ownBlock] at hgb
      subst hgb
      exact ⟨cur'.toList, by unfold Row; rw [Array.toArray_toList]; exact hgg⟩
  have HDO : Hid (∀ gb, (Value.slice q n cap).ownBlock = some gb → D ≠ gb ∧ b ≠ gb ∧ m4 ≠ gb) := fun gb hgb => by
    rcases hown.2 with ⟨e, _⟩ | ⟨g', c', cur', e, _, hgg, _⟩
    · cases e; simp [Value.ownBlock] at hgb
    · cases e
      simp [Value.ownBlock] at hgb
      subst hgb
      have hrw : Row w g' 72 cur'.toList := by unfold Row; rw [Array.toArray_toList]; exact hgg
      exact ⟨row_apart hD hrw (by decide), row_apart hb hrw (by decide), (row_map hrw hA.map).symm⟩
  clear hw0 hR0 hb0' hD0 hA0 hD hb hA hob hown hc hxa
  go_enter Tryd.func39, Tryd.ntmps39
  go_wp2_with fail
  rw [HW0.out]
  generalize hzl : zs.length = len at *
  refine wp_region_noPanic ?_
  refine wp_region_held_drew (S := fun W' => W'.cell? ⟨D, 4, none⟩ = some (.map (some m4)) ∧ (convert 25 9 (.slice (some ⟨b, 0, none⟩) len len)).run Tryd.prog W' = .ok (.string s) W' ∧ (Instr.lookup 68 (.map (some m4)) (.string s) false).run Tryd.prog W' = .ok (.slice q n cap) W') (by kernel_rfl) ⟨by simpa using c4, hconv, hlook⟩ (fun hHeld => ?_)
  refine wpAnyH_takesAt 0 8 0 (of_decide_eq_true (by kernel_rfl)) rfl (fun _ _ _ _ _ h => h) (by kernel_rfl) (by kernel_rfl) hHeld ?_
  simp only [List.drop_zero, List.take_succ_cons, List.take_zero]
  iterate 8 (refine wpHeld_step (v := ?_) (by rfl) (fun wz hSw => ?_) ?_; rotate_left; (focus ((try dsimp only at hSw); go_simp; try with_reducible rfl)); (simp only [Act.put, List.setIfInBounds_toArray, List.set_cons_zero, List.set_cons_succ]))
  refine wpHeld_nil ?_
  refine wpAnyH_done (by kernel_rfl) ?_ _
  refine NoPanic.normal ?_
  clear hHeld hconv hlook c4
  go_wp2_with (first
    | ((with_reducible show wpList _ _ _ (Oper.mk (some 16) (Op.load 72 (.tmp 5)) _ _ _ _ :: _) _ _); refine wpList_load_mid rfl 72 (.tmp 5) rfl w.heap.size 0 rfl c _ (by simpa using HR0.out.range) Tryd.underlying72 rfl HS72.out ?_; simp only [Act.put, List.setIfInBounds_toArray, List.set_cons_zero, List.set_cons_succ])
    | (go_at_call 57; refine HIdx.out.mono ?_; rintro e w1 ⟨r, rfl, hr, hb1⟩; have hB1 : Below (w.heap.size + 1) w0 w1 := (by rw [← hs0]; exact ⟨hb1.os, hb1.tape, hb1.output, hb1.size, fun k hk => hb1.block k hk⟩); clear hb1; rcases hr with ⟨rfl, hnot⟩ | ⟨i, rfl, hi, hxi⟩)
    | (go_at_call 58; refine (HDel.out w1 i (fun b hb => (hB1.block b (by have := hF b hb; omega)).trans (hb0.block b (hF b hb))) (by omega)).mono ?_; rintro e w2 ⟨rfl, ho2, gb, hgF, hq, hbut⟩; have HQ : Hid (q = some ⟨gb, 0, none⟩) := hq; clear hq))
  · have HD2 : Hid (Row w1 D 70 [x0, x1, x2, x3, .map (some m4)]) := Row.below HD0.out hB1 (by omega)
    have HB2 : Hid (Row w1 b 5 (u8s zs)) := Row.below HB0.out hB1 (by have := HB0.out.lt; omega)
    have HR2 : Hid (Row w1 w.heap.size 72 c) := Row.below HR0.out hB1 (by omega)
    have HK2 : Hid (∀ k, k < w.heap.size → (Value.slice q n cap).ownBlock ≠ some k → w1.heap[k]? = w.heap[k]?) := fun k hk _ => (hB1.block k (by omega)).trans (hb0.block k hk)
    have HO2 : Hid (AskOwn w1 (.slice q n cap) xs) := HOW.out.keep (fun b hb => (hB1.block b (by have := HFl.out b (HOB.out b hb); omega)).trans (hb0.block b (HFl.out b (HOB.out b hb))))
    have HYS : Hid (xs.length = n) := HXN.out
    have HL : Hid (Lasts xs c (xs ++ [c])) := .inl ⟨hnot, rfl⟩
    have HOS : Hid (w1.os = w.os ∧ w1.tape = w.tape ∧ w1.output = w.output) := ⟨hB1.os.trans hb0.os, hB1.tape.trans hb0.tape, hB1.output.trans hb0.output⟩
    have hsz2 : w.heap.size + 1 ≤ w1.heap.size := by have := hB1.size; omega
    have hsame : (Value.slice q n cap).ownBlock = (Value.slice q n cap).ownBlock := by cases q <;> rfl
    have hconv2 : (convert 25 9 (.slice (some ⟨b, 0, none⟩) len len)).run Tryd.prog w1.drew = .ok (.string s) w1.drew := by
      have h := conv_of_row HB2.out.drew
      rw [hs, hzl] at h
      exact h
    refine wp_region_noPanic ?_
    refine wp_region_held_drew (S := fun W' => W'.cell? ⟨D, 4, none⟩ = some (.map (some m4)) ∧ (convert 25 9 (.slice (some ⟨b, 0, none⟩) len len)).run Tryd.prog W' = .ok (.string s) W' ∧ W'.rangeAt w.heap.size 0 c) (by kernel_rfl) ⟨HD2.out.drew.cell (i := 4) rfl, hconv2, HR2.out.drew.range⟩ (fun hHeld => ?_)
    refine wpAnyH_takesAt 0 8 3 (of_decide_eq_true (by kernel_rfl)) rfl (fun _ _ _ _ _ h => h) (by kernel_rfl) (by kernel_rfl) hHeld ?_
    simp only [List.drop_zero, List.take_succ_cons, List.take_zero]
    iterate 7 (refine wpHeld_step (v := ?_) (by rfl) (fun wz hSw => ?_) ?_; rotate_left; (focus ((try dsimp only at hSw); go_simp; try with_reducible rfl)); (simp only [Act.put, List.setIfInBounds_toArray, List.set_cons_zero, List.set_cons_succ]))
    refine wpHeld_loadS (by rfl) 72 (.tmp 5) rfl w.heap.size 0 rfl c (fun W hW => hW.2.2) Tryd.underlying72 rfl HS72.out ?_
    simp only [Act.put, List.setIfInBounds_toArray, List.set_cons_zero, List.set_cons_succ]
    refine wpHeld_nil ?_
    clear hconv2 hHeld
    refine wpAnyH_only (i := 8) (by kernel_rfl) rfl (fun K hK => ?_)
    rw [if_pos (by rfl)]
    refine wp_buildOne 101 72 (.tmp 32) rfl c rfl i0 _ Tryd.underlying101 hi0 hz0 (by rw [hz1, HN34.out]) (by rw [HN34.out]; omega) (by rw [HN34.out]; omega) ?_
    obtain ⟨w3, hw3⟩ : ∃ w3, w1.drew.alloc (.cells c.toArray 72) = w3 := ⟨_, rfl⟩
    have hb3 : Below w1.heap.size w1 w3 := by rw [← hw3]; exact (below_drewN (Below.refl w1.heap.size w1) 1).alloc (Nat.le_refl _) _
    have hs3 : w3.heap.size = w1.heap.size + 1 := by rw [← hw3]; exact World.size_alloc _ _
    have hr3 : Row w3 w1.heap.size 72 c := by rw [← hw3]; exact Row.new' w1.drew 72 c
    have hD3 := HD2.out.later hb3
    have hB3 := HB2.out.later hb3
    have hR3 := HR2.out.later hb3
    have hc3 := conv_of_row hB3
    rw [hs, hzl] at hc3
    rw [hw3]
    refine hK.out _ _ ⟨hD3.cell (i := 4) rfl, hc3, hR3.range⟩ ?_
    clear hK K
    obtain ⟨v', w4, hrun, ho4, hg4, _, hl4⟩ := run_append_own_at (P := Tryd.prog) w3 0 101 101 72 i0 _ 34 64 Tryd.underlying101 hi0 hz0 hz1 hz2 (by rfl) (by omega) (.slice q n cap) n xs.flatten (by have h := HO2.out.keep (fun b hb => hb3.block b (by have := HFl.out b (HOB.out b (hsame ▸ hb)); omega)); unfold AskOwn at h; rw [HYS.out] at h; exact h) ⟨w1.heap.size, 0, none⟩ 1 1 c (by rw [HN34.out]) (fun j u hu => by rw [Addr.add_mid]; exact hr3.range j u hu) HONE.out (by simp only [maxLen]; omega) (by omega) (Nat.zero_le _)
    have hk4 : ∀ x, x < w3.heap.size → (Value.slice q n cap).ownBlock ≠ some x → w4.heap[x]? = w3.heap[x]? := fun x hx hne => hg4.block x hx (fun e => hne (hsame ▸ e.symm))
    have hD4 : Row w4 D 70 [x0, x1, x2, x3, .map (some m4)] := (hk4 D hD3.lt (fun e => (HDO.out D e).1 rfl)).trans hD3
    have hB4 : Row w4 b 5 (u8s zs) := (hk4 b hB3.lt (fun e => (HDO.out b e).2.1 rfl)).trans hB3
    have hR4 : Row w4 w.heap.size 72 c := (hk4 _ hR3.lt (fun e => by have := HFl.out _ (HOB.out _ e); omega)).trans hR3
    have hc4 := conv_of_row hB4
    rw [hs, hzl] at hc4
    have hm4l : m4 < w.heap.size := HFl.out m4 HM4.out
    have hM4 : MapAt Tryd.prog 9 w4 m4 g := HA.out.map.kept ((hk4 m4 (by omega) (fun e => (HDO.out m4 e).2.2 rfl)).trans ((hb3.block m4 (by omega)).trans (HK2.out m4 hm4l (fun e => (HDO.out m4 e).2.2 rfl))))
    refine wpAnyH_only (i := 9) (by kernel_rfl) rfl (fun K hK => ?_)
    rw [if_pos (by rfl)]
    refine wp_append_of (.tmp 31) (.tmp 33) 101 rfl rfl rfl hrun ?_
    refine hK.out _ _ ⟨hD4.cell (i := 4) rfl, hc4, hR4.range⟩ ?_
    clear hK K hc3
    refine wpAnyH_only (i := 10) (by kernel_rfl) rfl (fun K hK => ?_)
    rw [if_pos (by rfl)]
    refine wp_mapStore w4.heap.size (.tmp 28) (.tmp 30) (.tmp 34) 68 101 rfl keyedStr Tryd.underlying68 rfl hM4 rfl rfl HKEY.out (fun w5 hM5 hb5 => ?_)
    have hD5 := hb5.row hD4.lt HDM.out hD4
    have hB5 := hb5.row hB4.lt HBM.out hB4
    have hR5 := hb5.row hR4.lt (by omega) hR4
    have hc5 := conv_of_row hB5
    rw [hs, hzl] at hc5
    refine hK.out _ _ ⟨hD5.cell (i := 4) rfl, hc5, hR5.range⟩ ?_
    clear hK K hc5 hc4
    have hy := HL.out.asked HXA.out HCA.out
    have hlen : (xs ++ [c]).length = n + 1 := by rw [List.length_append, HYS.out]; rfl
    have hown5 : AskOwn w5 v' (xs ++ [c]) := by
      have h4 : AskOwn w4 v' (xs ++ [c]) := by unfold AskOwn; rw [hlen, List.flatten_append]; simpa using ho4
      refine h4.keep (fun x hx => hb5.block x ?_ ?_)
      · rcases h4.2 with ⟨rfl, _⟩ | ⟨g', c', cur', rfl, _, hgg, _⟩
        · simp [Value.ownBlock] at hx
        · simp [Value.ownBlock] at hx
          subst hx
          exact (Array.getElem?_eq_some_iff.1 hgg).1
      · rintro rfl
        rcases h4.2 with ⟨rfl, _⟩ | ⟨g', c', cur', rfl, _, hgg, _⟩
        · simp [Value.ownBlock] at hx
        · simp [Value.ownBlock] at hx
          subst hx
          obtain ⟨es, cl, hm, _⟩ := hM4
          rw [hgg] at hm
          cases hm
    have hkall : ∀ x, x < w.heap.size → x ≠ m4 → (Value.slice q n cap).ownBlock ≠ some x → w5.heap[x]? = w.heap[x]? := fun x hx h1 h2 =>
      (hb5.block x (by have := hg4.size; omega) h1).trans ((hk4 x (by omega) h2).trans ((hb3.block x (by omega)).trans (HK2.out x hx h2)))
    obtain ⟨F', f1, f2, f3⟩ := HA.out.put (s := s) (n := w.heap.size) (ys := xs ++ [c]) HV.out HFl.out hM5 hown5 ⟨hy.1, by have := hy.2.1; omega, hy.2.2⟩
      (fun x hx => by
        rcases hl4 with h | h
        · left; rw [HXS.out, HXN.out]; exact hsame.symm.trans (h.symm.trans hx)
        · right; have e := Option.some.inj (h.symm.trans hx); omega)
      (fun x hx h1 h2 => hkall x (HFl.out x hx) h1 (by rw [HXS.out, HXN.out] at h2; exact h2))
    have hvlt : ∀ x, v'.ownBlock = some x → x < w5.heap.size := fun x hx => by
      rcases hown5.2 with ⟨rfl, _⟩ | ⟨g', c', cur', rfl, _, hgg, _⟩
      · simp [Value.ownBlock] at hx
      · simp [Value.ownBlock] at hx
        subst hx
        exact (Array.getElem?_eq_some_iff.1 hgg).1
    have hloc' : ∀ x, v'.ownBlock = some x → (Value.slice q n cap).ownBlock = some x ∨ w.heap.size ≤ x := fun x hx => by
      rcases hl4 with h | h
      · left; exact hsame.symm.trans (h.symm.trans hx)
      · right; have e := Option.some.inj (h.symm.trans hx); omega
    have hsz5 : w.heap.size ≤ w5.heap.size := Nat.le_trans (by omega) (Nat.le_trans hg4.size hb5.size)
    have hbuts : Buts F w.heap.size w w5 := ⟨hb5.os.trans (hg4.os.trans (hb3.os.trans HOS.out.1)), hb5.tape.trans (hg4.tape.trans (hb3.tape.trans HOS.out.2.1)), hb5.output.trans (hg4.output.trans (hb3.output.trans HOS.out.2.2)), hsz5, fun x hx hF' => hkall x hx (fun e => hF' (e ▸ HM4.out)) (fun e => hF' (HOB.out x e))⟩
    have HKA : Hid (∀ x, x < w.heap.size → x ≠ m4 → (∀ cs, ¬ Row w x 72 cs) → w5.heap[x]? = w.heap[x]?) := fun x hx h1 h2 => hkall x hx h1 (fun e => by obtain ⟨cs, hcs⟩ := HOR.out x e; exact h2 cs hcs)
    refine wpAnyH_done (by kernel_rfl) ?_ _
    refine NoPanic.normal ?_
    clear hD3 hB3 hR3 hr3 hD4 hB4 hR4 hM4 hD5 hB5 hR5 hb3 hs3 hk4 hkall hrun ho4 hg4 hl4 hb5
    go_wp2
    go_end0
    refine ⟨rfl, F', _, xs ++ [c], f1, fun x hx => ?_, fun x hx => ?_, by (try rw [hs]); rw [HXS.out]; exact HL.out, by (try rw [hs]); exact f3, hbuts, HKA.out⟩
    · rcases f2 x hx with h | h
      · exact .inl h
      · rcases hloc' x h with h' | h'
        · exact .inl (HOB.out x h')
        · exact .inr h'
    · rcases f2 x hx with h | h
      · have := HFl.out x h; omega
      · exact hvlt x h
  · have hq0 : (Value.slice q n cap).ownBlock = some gb := by rw [HQ.out]; rfl
    have hgl : gb < w.heap.size := HFl.out gb hgF
    have hs12 := hbut.size
    have hs11 := hB1.size
    have HD2 : Hid (Row w2 D 70 [x0, x1, x2, x3, .map (some m4)]) := hbut.row (by omega) (HDO.out gb hq0).1 (Row.below HD0.out hB1 (by omega))
    have HB2 : Hid (Row w2 b 5 (u8s zs)) := hbut.row (Nat.lt_of_lt_of_le HB0.out.lt hs11) (HDO.out gb hq0).2.1 (Row.below HB0.out hB1 (by have := HB0.out.lt; omega))
    have HR2 : Hid (Row w2 w.heap.size 72 c) := hbut.row (by omega) (by omega) (Row.below HR0.out hB1 (by omega))
    have HK2 : Hid (∀ k, k < w.heap.size → (Value.slice q n cap).ownBlock ≠ some k → w2.heap[k]? = w.heap[k]?) := fun k hk hne => (hbut.block k (by omega) (fun e => hne (e ▸ hq0))).trans ((hB1.block k (by omega)).trans (hb0.block k hk))
    have HO2 : Hid (AskOwn w2 (.slice q (n - 1 : Nat) cap) (xs.eraseIdx i)) := ho2
    have HYS : Hid ((xs.eraseIdx i).length = n - 1) := by show _ = _; rw [List.length_eraseIdx_of_lt hi, HXN.out]
    have HL : Hid (Lasts xs c (xs.eraseIdx i ++ [c])) := .inr ⟨i, hi, hxi, rfl⟩
    have HOS : Hid (w2.os = w.os ∧ w2.tape = w.tape ∧ w2.output = w.output) := ⟨hbut.os.trans (hB1.os.trans hb0.os), hbut.tape.trans (hB1.tape.trans hb0.tape), hbut.output.trans (hB1.output.trans hb0.output)⟩
    have hsz2 : w.heap.size + 1 ≤ w2.heap.size := by omega
    clear hq0
    have hsame : (Value.slice q (n - 1) cap).ownBlock = (Value.slice q n cap).ownBlock := by cases q <;> rfl
    have hconv2 : (convert 25 9 (.slice (some ⟨b, 0, none⟩) len len)).run Tryd.prog w2.drew = .ok (.string s) w2.drew := by
      have h := conv_of_row HB2.out.drew
      rw [hs, hzl] at h
      exact h
    refine wp_region_noPanic ?_
    refine wp_region_held_drew (S := fun W' => W'.cell? ⟨D, 4, none⟩ = some (.map (some m4)) ∧ (convert 25 9 (.slice (some ⟨b, 0, none⟩) len len)).run Tryd.prog W' = .ok (.string s) W' ∧ W'.rangeAt w.heap.size 0 c) (by kernel_rfl) ⟨HD2.out.drew.cell (i := 4) rfl, hconv2, HR2.out.drew.range⟩ (fun hHeld => ?_)
    refine wpAnyH_takesAt 0 8 3 (of_decide_eq_true (by kernel_rfl)) rfl (fun _ _ _ _ _ h => h) (by kernel_rfl) (by kernel_rfl) hHeld ?_
    simp only [List.drop_zero, List.take_succ_cons, List.take_zero]
    iterate 7 (refine wpHeld_step (v := ?_) (by rfl) (fun wz hSw => ?_) ?_; rotate_left; (focus ((try dsimp only at hSw); go_simp; try with_reducible rfl)); (simp only [Act.put, List.setIfInBounds_toArray, List.set_cons_zero, List.set_cons_succ]))
    refine wpHeld_loadS (by rfl) 72 (.tmp 5) rfl w.heap.size 0 rfl c (fun W hW => hW.2.2) Tryd.underlying72 rfl HS72.out ?_
    simp only [Act.put, List.setIfInBounds_toArray, List.set_cons_zero, List.set_cons_succ]
    refine wpHeld_nil ?_
    clear hconv2 hHeld
    refine wpAnyH_only (i := 8) (by kernel_rfl) rfl (fun K hK => ?_)
    rw [if_pos (by rfl)]
    refine wp_buildOne 101 72 (.tmp 32) rfl c rfl i0 _ Tryd.underlying101 hi0 hz0 (by rw [hz1, HN34.out]) (by rw [HN34.out]; omega) (by rw [HN34.out]; omega) ?_
    obtain ⟨w3, hw3⟩ : ∃ w3, w2.drew.alloc (.cells c.toArray 72) = w3 := ⟨_, rfl⟩
    have hb3 : Below w2.heap.size w2 w3 := by rw [← hw3]; exact (below_drewN (Below.refl w2.heap.size w2) 1).alloc (Nat.le_refl _) _
    have hs3 : w3.heap.size = w2.heap.size + 1 := by rw [← hw3]; exact World.size_alloc _ _
    have hr3 : Row w3 w2.heap.size 72 c := by rw [← hw3]; exact Row.new' w2.drew 72 c
    have hD3 := HD2.out.later hb3
    have hB3 := HB2.out.later hb3
    have hR3 := HR2.out.later hb3
    have hc3 := conv_of_row hB3
    rw [hs, hzl] at hc3
    rw [hw3]
    refine hK.out _ _ ⟨hD3.cell (i := 4) rfl, hc3, hR3.range⟩ ?_
    clear hK K
    obtain ⟨v', w4, hrun, ho4, hg4, _, hl4⟩ := run_append_own_at (P := Tryd.prog) w3 0 101 101 72 i0 _ 34 64 Tryd.underlying101 hi0 hz0 hz1 hz2 (by rfl) (by omega) (.slice q (n - 1) cap) (n - 1) (xs.eraseIdx i).flatten (by have h := HO2.out.keep (fun b hb => hb3.block b (by have := HFl.out b (HOB.out b (hsame ▸ hb)); omega)); unfold AskOwn at h; rw [HYS.out] at h; exact h) ⟨w2.heap.size, 0, none⟩ 1 1 c (by rw [HN34.out]) (fun j u hu => by rw [Addr.add_mid]; exact hr3.range j u hu) HONE.out (by simp only [maxLen]; omega) (by omega) (Nat.zero_le _)
    have hk4 : ∀ x, x < w3.heap.size → (Value.slice q n cap).ownBlock ≠ some x → w4.heap[x]? = w3.heap[x]? := fun x hx hne => hg4.block x hx (fun e => hne (hsame ▸ e.symm))
    have hD4 : Row w4 D 70 [x0, x1, x2, x3, .map (some m4)] := (hk4 D hD3.lt (fun e => (HDO.out D e).1 rfl)).trans hD3
    have hB4 : Row w4 b 5 (u8s zs) := (hk4 b hB3.lt (fun e => (HDO.out b e).2.1 rfl)).trans hB3
    have hR4 : Row w4 w.heap.size 72 c := (hk4 _ hR3.lt (fun e => by have := HFl.out _ (HOB.out _ e); omega)).trans hR3
    have hc4 := conv_of_row hB4
    rw [hs, hzl] at hc4
    have hm4l : m4 < w.heap.size := HFl.out m4 HM4.out
    have hM4 : MapAt Tryd.prog 9 w4 m4 g := HA.out.map.kept ((hk4 m4 (by omega) (fun e => (HDO.out m4 e).2.2 rfl)).trans ((hb3.block m4 (by omega)).trans (HK2.out m4 hm4l (fun e => (HDO.out m4 e).2.2 rfl))))
    refine wpAnyH_only (i := 9) (by kernel_rfl) rfl (fun K hK => ?_)
    rw [if_pos (by rfl)]
    refine wp_append_of (.tmp 31) (.tmp 33) 101 rfl rfl rfl hrun ?_
    refine hK.out _ _ ⟨hD4.cell (i := 4) rfl, hc4, hR4.range⟩ ?_
    clear hK K hc3
    refine wpAnyH_only (i := 10) (by kernel_rfl) rfl (fun K hK => ?_)
    rw [if_pos (by rfl)]
    refine wp_mapStore w4.heap.size (.tmp 28) (.tmp 30) (.tmp 34) 68 101 rfl keyedStr Tryd.underlying68 rfl hM4 rfl rfl HKEY.out (fun w5 hM5 hb5 => ?_)
    have hD5 := hb5.row hD4.lt HDM.out hD4
    have hB5 := hb5.row hB4.lt HBM.out hB4
    have hR5 := hb5.row hR4.lt (by omega) hR4
    have hc5 := conv_of_row hB5
    rw [hs, hzl] at hc5
    refine hK.out _ _ ⟨hD5.cell (i := 4) rfl, hc5, hR5.range⟩ ?_
    clear hK K hc5 hc4
    have hy := HL.out.asked HXA.out HCA.out
    have hlen : (xs.eraseIdx i ++ [c]).length = (n - 1) + 1 := by rw [List.length_append, HYS.out]; rfl
    have hown5 : AskOwn w5 v' (xs.eraseIdx i ++ [c]) := by
      have h4 : AskOwn w4 v' (xs.eraseIdx i ++ [c]) := by unfold AskOwn; rw [hlen, List.flatten_append]; simpa using ho4
      refine h4.keep (fun x hx => hb5.block x ?_ ?_)
      · rcases h4.2 with ⟨rfl, _⟩ | ⟨g', c', cur', rfl, _, hgg, _⟩
        · simp [Value.ownBlock] at hx
        · simp [Value.ownBlock] at hx
          subst hx
          exact (Array.getElem?_eq_some_iff.1 hgg).1
      · rintro rfl
        rcases h4.2 with ⟨rfl, _⟩ | ⟨g', c', cur', rfl, _, hgg, _⟩
        · simp [Value.ownBlock] at hx
        · simp [Value.ownBlock] at hx
          subst hx
          obtain ⟨es, cl, hm, _⟩ := hM4
          rw [hgg] at hm
          cases hm
    have hkall : ∀ x, x < w.heap.size → x ≠ m4 → (Value.slice q n cap).ownBlock ≠ some x → w5.heap[x]? = w.heap[x]? := fun x hx h1 h2 =>
      (hb5.block x (by have := hg4.size; omega) h1).trans ((hk4 x (by omega) h2).trans ((hb3.block x (by omega)).trans (HK2.out x hx h2)))
    obtain ⟨F', f1, f2, f3⟩ := HA.out.put (s := s) (n := w.heap.size) (ys := xs.eraseIdx i ++ [c]) HV.out HFl.out hM5 hown5 ⟨hy.1, by have := hy.2.1; omega, hy.2.2⟩
      (fun x hx => by
        rcases hl4 with h | h
        · left; rw [HXS.out, HXN.out]; exact hsame.symm.trans (h.symm.trans hx)
        · right; have e := Option.some.inj (h.symm.trans hx); omega)
      (fun x hx h1 h2 => hkall x (HFl.out x hx) h1 (by rw [HXS.out, HXN.out] at h2; exact h2))
    have hvlt : ∀ x, v'.ownBlock = some x → x < w5.heap.size := fun x hx => by
      rcases hown5.2 with ⟨rfl, _⟩ | ⟨g', c', cur', rfl, _, hgg, _⟩
      · simp [Value.ownBlock] at hx
      · simp [Value.ownBlock] at hx
        subst hx
        exact (Array.getElem?_eq_some_iff.1 hgg).1
    have hloc' : ∀ x, v'.ownBlock = some x → (Value.slice q n cap).ownBlock = some x ∨ w.heap.size ≤ x := fun x hx => by
      rcases hl4 with h | h
      · left; exact hsame.symm.trans (h.symm.trans hx)
      · right; have e := Option.some.inj (h.symm.trans hx); omega
    have hsz5 : w.heap.size ≤ w5.heap.size := Nat.le_trans (by omega) (Nat.le_trans hg4.size hb5.size)
    have hbuts : Buts F w.heap.size w w5 := ⟨hb5.os.trans (hg4.os.trans (hb3.os.trans HOS.out.1)), hb5.tape.trans (hg4.tape.trans (hb3.tape.trans HOS.out.2.1)), hb5.output.trans (hg4.output.trans (hb3.output.trans HOS.out.2.2)), hsz5, fun x hx hF' => hkall x hx (fun e => hF' (e ▸ HM4.out)) (fun e => hF' (HOB.out x e))⟩
    have HKA : Hid (∀ x, x < w.heap.size → x ≠ m4 → (∀ cs, ¬ Row w x 72 cs) → w5.heap[x]? = w.heap[x]?) := fun x hx h1 h2 => hkall x hx h1 (fun e => by obtain ⟨cs, hcs⟩ := HOR.out x e; exact h2 cs hcs)
    refine wpAnyH_done (by kernel_rfl) ?_ _
    refine NoPanic.normal ?_
    clear hD3 hB3 hR3 hr3 hD4 hB4 hR4 hM4 hD5 hB5 hR5 hb3 hs3 hk4 hkall hrun ho4 hg4 hl4 hb5
    go_wp2
    go_end0
    refine ⟨rfl, F', _, xs.eraseIdx i ++ [c], f1, fun x hx => ?_, fun x hx => ?_, by (try rw [hs]); rw [HXS.out]; exact HL.out, by (try rw [hs]); exact f3, hbuts, HKA.out⟩
    · rcases f2 x hx with h | h
      · exact .inl h
      · rcases hloc' x h with h' | h'
        · exact .inl (HOB.out x h')
        · exact .inr h'
    · rcases f2 x hx with h | h
      · have := HFl.out x h; omega
      · exact hvlt x h

end Go.Proofs.YtobmcaknfbooiaaDoor
