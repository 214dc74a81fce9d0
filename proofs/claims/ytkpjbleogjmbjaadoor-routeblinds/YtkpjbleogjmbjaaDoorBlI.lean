/-
  RouteBlinds with an ideal and with a real suite.
-/
import Derived.Test.YtkpjbleogjmbjaaDoorBlR
namespace Go.Proofs.YtkpjbleogjmbjaaDoor
open Classical
open Go.RowKit Go.Shelf

theorem nxtT_keep {T : Tb} {zs : List Nat} {s s' : ByteArray} {d : List Nat} (h : T s = some d) : nxtT T zs s' s = some d := by
  unfold nxtT
  cases hT : T s' with
  | some d' => exact h
  | none =>
    by_cases h32 : zs.length < 32
    · simp only [if_pos h32]; exact h
    · simp only [if_neg h32]
      rw [tbPut_other (fun e => by subst e; rw [h] at hT; cases hT)]
      exact h
theorem ans_some {T : Tb} {zs : List Nat} {s : ByteArray} {d : List Nat} (h : T s = some d) : ansD T zs s = d ∧ ansX T zs s = 0 := by unfold ansD ansX; rw [h]; exact ⟨rfl, rfl⟩
/-- What was answered is known. -/
theorem nxtT_known {T : Tb} {zs : List Nat} {s : ByteArray} (h : ansX T zs s = 0) : nxtT T zs s s = some (ansD T zs s) := by
  unfold ansX at h
  unfold nxtT ansD
  cases hT : T s with
  | some d => exact hT
  | none =>
    rw [hT] at h
    by_cases h32 : zs.length < 32
    · simp only [if_pos h32] at h; cases h
    · simp only [if_neg h32]; exact tbPut_same _ _ _
theorem nxtZ_ok {T : Tb} {zs : List Nat} {s : ByteArray} {n : Nat} (h : (∀ z ∈ zs, z < 256) ∧ zs.length ≤ n) : (∀ z ∈ nxtZ T zs s, z < 256) ∧ (nxtZ T zs s).length ≤ n := by
  unfold nxtZ
  cases T s with
  | some d => exact h
  | none =>
    by_cases h32 : zs.length < 32
    · simp only [if_pos h32]; exact h
    · simp only [if_neg h32]
      exact ⟨fun z hz => h.1 z (List.mem_of_mem_drop hz), by rw [List.length_drop]; omega⟩
theorem nxtT_ok {T : Tb} {zs : List Nat} {s : ByteArray} (h : T.ok) (hz : ∀ z ∈ zs, z < 256) : (nxtT T zs s).ok := by
  unfold nxtT
  cases T s with
  | some d => exact h
  | none =>
    by_cases h32 : zs.length < 32
    · simp only [if_pos h32]; exact h
    · simp only [if_neg h32]; exact Tb.ok_put h (keyOfL zs hz (by omega))
theorem ansD_key {T : Tb} {zs : List Nat} {s : ByteArray} (h : T.ok) (hz : ∀ z ∈ zs, z < 256) : IsKey32 (ansD T zs s) := by
  unfold ansD
  cases hT : T s with
  | some d => exact h _ _ hT
  | none =>
    by_cases h32 : zs.length < 32
    · simp only [if_pos h32]; exact ⟨by simp, by simp⟩
    · simp only [if_neg h32]; exact keyOfL zs hz (by omega)

/-- Both suites, ideal. -/
def JJ (k : List Nat) (w : World) (zm : List Nat) (Tm : Tb) (zr : List Nat) (Tr : Tb) (mr : Nat) (S R : Nat) (W : World) : Prop :=
  ∃ Q T n f, S = n + 7 ∧ n + 8 ≤ R ∧ w.heap.size + 1 ≤ T ∧ IdealSt W Q T n zm f ∧ MyTb k Tm f ∧ RefQ k W R zr Tr mr ∧ Below w.heap.size w W
theorem JJ.later {k : List Nat} {w : World} {zm : List Nat} {Tm : Tb} {zr : List Nat} {Tr : Tb} {mr S R : Nat} (W W' : World) (hb : Below W.heap.size W W') : JJ k w zm Tm zr Tr mr S R W → JJ k w zm Tm zr Tr mr S R W' := by
  rintro ⟨Q, T, n, f, h1, h2, h3, h4, h5, h6, h7⟩
  have := h6.lt
  exact ⟨Q, T, n, f, h1, h2, h3, IdealSt.stays Q T n zm f _ _ (hb.mono (by omega)) h4, h5, h6.later hb, h7.trans (hb.mono h7.size)⟩
theorem jj_my (k : List Nat) (hk : IsKey32 k) (w : World) (zm : List Nat) (hz : (∀ z ∈ zm, z < 256) ∧ zm.length ≤ 300) (Tm : Tb) (hok : Tm.ok) (zr : List Nat) (Tr : Tb) (mr : Nat) (s : ByteArray) (hs : s.size ≤ 300) (S R : Nat) (W : World) (h : JJ k w zm Tm zr Tr mr S R W) :
    Calls Tryd.prog 7 #[.pointer (some ⟨S, 0, none⟩), .agg (u8s k).toArray, .string s] W fun e w' => e = .returned (.tuple #[.agg (u8s (ansD Tm zm s)).toArray, .int .i64 (ansX Tm zm s)]) ∧ JJ k w (nxtZ Tm zm s) (nxtT Tm zm s) zr Tr mr S R w' ∧ LFr (w.heap.size + 1) W w' := by
  obtain ⟨Q, T, n, f, rfl, h2, h3, h4, h5, h6, h7⟩ := h
  have hRl := h6.lt
  have hlt := h4.lt
  have hodd := odd_ideal h4
  have hFn := idF_lt hlt.2
  refine (my_step k hk Q T n zm hz.1 (by omega) Tm hok f h5 s (by omega) W (by omega) h4).mono ?_
  rintro e w' ⟨rfl, ⟨f', hf', hst'⟩, hb⟩
  have hB : Below (w.heap.size + 1) W w' := hb.below (by omega) (by simp [idF]; omega)
  exact ⟨rfl, ⟨Q, T, n, f', rfl, h2, h3, hst', hf', h6.buts hb hodd (fun j hj => by have := hFn j hj; omega), h7.trans (hB.mono (by omega))⟩, hB, keep34_buts hb hodd⟩
theorem jj_ref (k : List Nat) (hk : IsKey32 k) (w : World) (zm : List Nat) (Tm : Tb) (zr : List Nat) (hz : (∀ z ∈ zr, z < 256) ∧ zr.length ≤ 300) (Tr : Tb) (hok : Tr.ok) (mr : Nat) (hm : mr ≤ 900) (s : ByteArray) (hs : s.size ≤ 300) (S R : Nat) (W : World) (h : JJ k w zm Tm zr Tr mr S R W) :
    Calls Tryd.prog 8 #[.pointer (some ⟨R, 0, none⟩), .agg (u8s k).toArray, .string s] W fun e w' => e = .returned (.tuple #[.agg (u8s (ansD Tr zr s)).toArray, .int .i64 (ansX Tr zr s)]) ∧ JJ k w zm Tm (nxtZ Tr zr s) (nxtT Tr zr s) (mr + 1) S R w' ∧ LFr (w.heap.size + 1) W w' := by
  obtain ⟨Q, T, n, f, rfl, h2, h3, h4, h5, h6, h7⟩ := h
  have hRl := h6.lt
  have hlt := h4.lt
  refine (ref_step k hk R zr hz.1 (by omega) Tr hok mr hm s (by omega) W h6).mono ?_
  rintro e w' ⟨rfl, hq, hr⟩
  exact ⟨rfl, ⟨Q, T, n, f, rfl, h2, h3, IdealSt.stays Q T n zm f _ _ (hr.1.mono h2) h4, h5, hq, h7.trans (hr.1.mono (by omega))⟩, hr.1.mono (by omega), hr.2 34 (by decide) (by decide)⟩

set_option maxHeartbeats 1000000 in
theorem blinds_ideal (mode : Int) (hm : mode % 2 = 1) (p : Option Addr) (len cap : Nat) (zs : List Nat) (hlen : len ≤ 300) (k : List Nat) (hk : IsKey32 k) (a b : ByteArray) (ha : a.size ≤ 300) (hb : b.size ≤ 300) (w : World) (hZ : IsBytes w.heap.size w p len cap zs) :
    Calls Tryd.prog 3 #[.int .i64 mode, .slice p len cap, .agg (u8s k).toArray, .string a, .string b] w fun e w' => e = .returned (.bool true) ∧ Below w.heap.size w w' := by
  obtain ⟨T0, hT0⟩ : ∃ T0 : Tb, T0 = fun _ => none := ⟨_, rfl⟩
  have ok0 : T0.ok := fun s d e => by rw [hT0] at e; cases e
  have z0 : (∀ z ∈ zs, z < 256) ∧ zs.length ≤ 300 := ⟨hZ.2.2.2.1, by have := hZ.1; omega⟩
  have z1 := nxtZ_ok (T := T0) (s := a) z0
  have ok1 := nxtT_ok (s := a) ok0 z0.1
  have z2 := nxtZ_ok (T := nxtT T0 zs a) (s := b) z1
  have ok2 := nxtT_ok (s := b) ok1 z1.1
  have kd1 := ansD_key (s := a) ok0 z0.1
  have kd2 := ansD_key (s := b) ok1 z1.1
  have kd3 := ansD_key (s := a) ok2 z2.1
  have hT : ∀ W, Below w.heap.size w W → w.heap.size + 1 ≤ W.heap.size → Calls Tryd.prog 6 #[.slice p len cap] W fun e w' => ∃ B, e = .returned (.pointer (some ⟨B, 0, none⟩)) ∧ (Below w.heap.size w w' ∧ w.heap.size + 1 ≤ w'.heap.size ∧ ∃ Q, TapeAt w' B Q zs ∧ Q < B ∧ w.heap.size + 1 ≤ B) ∧ LFr (w.heap.size + 1) W w' := by
    intro W hW hs
    refine (tapeNew_any p len cap zs (by omega) W ((hZ.below hW).mono hW.size)).mono ?_
    rintro e w' ⟨B, rfl, hBQ, ht, hbb⟩
    exact ⟨B, rfl, ⟨hW.trans (hbb.mono hW.size), Nat.le_trans hs hbb.size, _, ht.1, hBQ, by omega⟩, LFr.of_below hbb hs⟩
  have hS : ∀ B W, (Below w.heap.size w W ∧ w.heap.size + 1 ≤ W.heap.size ∧ ∃ Q, TapeAt W B Q zs ∧ Q < B ∧ w.heap.size + 1 ≤ B) → Calls Tryd.prog 5 #[.int .i64 1, .pointer (some ⟨B, 0, none⟩)] W fun e w' => ∃ S, e = .returned (.pointer (some ⟨S, 0, none⟩)) ∧ (∃ Q T n, S = n + 7 ∧ n + 8 ≤ w'.heap.size ∧ w.heap.size + 1 ≤ T ∧ IdealSt w' Q T n zs (fun _ => none) ∧ Below w.heap.size w w') ∧ LFr (w.heap.size + 1) W w' := by
    rintro B W ⟨hW, hs, Q, ht, hQ, hBw⟩
    refine (newIdeal_keys (some ⟨B, 0, none⟩) W).mono ?_
    rintro e w' ⟨rfl, hf, hkeys, hbb, hsz⟩
    exact ⟨_, rfl, ⟨Q, B, W.heap.size, rfl, by omega, hBw, ⟨hf.suite, hf.drawn, hkeys, ht.later hbb, hQ, ht.lt⟩, hW.trans (hbb.mono hW.size)⟩, LFr.of_below hbb hs⟩
  have hJ : ∀ S W, (∃ Q T n, S = n + 7 ∧ n + 8 ≤ W.heap.size ∧ w.heap.size + 1 ≤ T ∧ IdealSt W Q T n zs (fun _ => none) ∧ Below w.heap.size w W) → JJ k w zs T0 zs T0 0 S W.heap.size (W.alloc (.cells #[.int .i64 1, .slice p len cap, .slice none 0 0, .slice none 0 0, .slice none 0 0, .bool false] 33)) := by
    rintro S W ⟨Q, T, n, rfl, hn, hwn, hst, hW⟩
    have hbb : Below W.heap.size W (W.alloc (.cells #[.int .i64 1, .slice p len cap, .slice none 0 0, .slice none 0 0, .slice none 0 0, .bool false] 33)) := (Below.refl _ W).alloc (Nat.le_refl _) _
    exact ⟨Q, T, n, _, rfl, hn, hwn, IdealSt.stays Q T n zs _ _ _ (hbb.mono hn) hst, fun s => by rw [hT0]; rfl, ⟨[], p, len, cap, none, 0, refSt_new (u8s k) W 1 w.heap.size p len cap zs hW.size (hZ.below hW), ⟨(fun x hx => by cases hx), (fun s d e => by rw [hT0] at e; cases e)⟩, Nat.le_refl _⟩, hW.trans (hbb.mono hW.size)⟩
  by_cases hx : ansX T0 zs a = 0
  · have h3 := ans_some (zs := nxtZ (nxtT T0 zs a) (nxtZ T0 zs a) b) (nxtT_keep (zs := nxtZ T0 zs a) (s' := b) (nxtT_known hx))
    refine blinds_core mode 1 hm p len cap hlen k hk a b ha hb w (ansD T0 zs a) (ansD (nxtT T0 zs a) (nxtZ T0 zs a) b) kd1 kd2 (ansX (nxtT T0 zs a) (nxtZ T0 zs a) b) _ _ (JJ k w zs T0 zs T0 0) (JJ k w (nxtZ T0 zs a) (nxtT T0 zs a) zs T0 0) (JJ k w (nxtZ T0 zs a) (nxtT T0 zs a) (nxtZ T0 zs a) (nxtT T0 zs a) 1) (JJ k w (nxtZ (nxtT T0 zs a) (nxtZ T0 zs a) b) (nxtT (nxtT T0 zs a) (nxtZ T0 zs a) b) (nxtZ T0 zs a) (nxtT T0 zs a) 1) (JJ k w (nxtZ (nxtT T0 zs a) (nxtZ T0 zs a) b) (nxtT (nxtT T0 zs a) (nxtZ T0 zs a) b) (nxtZ (nxtT T0 zs a) (nxtZ T0 zs a) b) (nxtT (nxtT T0 zs a) (nxtZ T0 zs a) b) 2) hT hS hJ (fun S R W h => ?_) (fun S R W h => ?_) (fun S R W h => jj_my k hk w _ z1 _ ok1 _ _ _ b hb S R W h) (fun S R W h => jj_ref k hk w _ _ _ z1 _ ok1 1 (by omega) b hb S R W h) (fun S R W h => ?_) (fun S R W W' => JJ.later W W') (fun S R W W' => JJ.later W W') (fun S R W W' => JJ.later W W') (fun S R W W' => JJ.later W W')
    · have := jj_my k hk w zs z0 T0 ok0 _ _ _ a ha S R W h
      rw [hx] at this
      exact this
    · have := jj_ref k hk w _ _ zs z0 T0 ok0 0 (by omega) a ha S R W h
      rw [hx] at this
      exact this
    · have := jj_my k hk w _ z2 _ ok2 _ _ _ a ha S R W h
      rw [h3.1, h3.2] at this
      exact this.mono fun e w' h => ⟨h.1, h.2.2⟩
  · refine blinds_core2 mode 1 hm p len cap hlen k hk a b ha hb w (ansD T0 zs a) (ansD (nxtT T0 zs a) (nxtZ T0 zs a) b) (ansD (nxtT (nxtT T0 zs a) (nxtZ T0 zs a) b) (nxtZ (nxtT T0 zs a) (nxtZ T0 zs a) b) a) kd1 kd2 kd3 (ansX T0 zs a) (ansX (nxtT T0 zs a) (nxtZ T0 zs a) b) (ansX (nxtT (nxtT T0 zs a) (nxtZ T0 zs a) b) (nxtZ (nxtT T0 zs a) (nxtZ T0 zs a) b) a) hx _ _ (JJ k w zs T0 zs T0 0) (JJ k w (nxtZ T0 zs a) (nxtT T0 zs a) zs T0 0) (JJ k w (nxtZ T0 zs a) (nxtT T0 zs a) (nxtZ T0 zs a) (nxtT T0 zs a) 1) (JJ k w (nxtZ (nxtT T0 zs a) (nxtZ T0 zs a) b) (nxtT (nxtT T0 zs a) (nxtZ T0 zs a) b) (nxtZ T0 zs a) (nxtT T0 zs a) 1) (JJ k w (nxtZ (nxtT T0 zs a) (nxtZ T0 zs a) b) (nxtT (nxtT T0 zs a) (nxtZ T0 zs a) b) (nxtZ (nxtT T0 zs a) (nxtZ T0 zs a) b) (nxtT (nxtT T0 zs a) (nxtZ T0 zs a) b) 2) hT hS hJ (fun S R W h => jj_my k hk w zs z0 T0 ok0 _ _ _ a ha S R W h) (fun S R W h => jj_ref k hk w _ _ zs z0 T0 ok0 0 (by omega) a ha S R W h) (fun S R W h => jj_my k hk w _ z1 _ ok1 _ _ _ b hb S R W h) (fun S R W h => jj_ref k hk w _ _ _ z1 _ ok1 1 (by omega) b hb S R W h) (fun S R W h => (jj_my k hk w _ z2 _ ok2 _ _ _ a ha S R W h).mono fun e w' h => ⟨h.1, h.2.2⟩) (fun S R W W' => JJ.later W W') (fun S R W W' => JJ.later W W') (fun S R W W' => JJ.later W W') (fun S R W W' => JJ.later W W')

/-- Both suites, real. -/
def JR (w : World) (S R : Nat) (W : World) : Prop := (∃ t g, SuiteAt W S 0 t none g) ∧ (∃ x1 x2 x3 x4 x5, Row W R 33 [.int .i64 0, x1, x2, x3, x4, x5]) ∧ Sh.Tab W ∧ w.heap.size + 1 ≤ W.heap.size
theorem JR.later {w : World} {S R : Nat} (W W' : World) (hb : Below W.heap.size W W') : JR w S R W → JR w S R W' := by
  rintro ⟨⟨t, g, h1⟩, ⟨x1, x2, x3, x4, x5, h2⟩, h3, h4⟩
  exact ⟨⟨t, g, h1.later hb⟩, ⟨x1, x2, x3, x4, x5, h2.later hb⟩, h3.later hb, Nat.le_trans h4 hb.size⟩
theorem mac_key (k : List Nat) (s : ByteArray) : IsKey32 (Sh.macN k (110 :: nameL s)) := ⟨Sh.macN_length _ _, Sh.macN_lt _ _⟩
theorem jr_my (k : List Nat) (hk : IsKey32 k) (w : World) (s : ByteArray) (hs : s.size ≤ 300) (S R : Nat) (W : World) (h : JR w S R W) :
    Calls Tryd.prog 7 #[.pointer (some ⟨S, 0, none⟩), .agg (u8s k).toArray, .string s] W fun e w' => e = .returned (.tuple #[.agg (u8s (Sh.macN k (110 :: nameL s))).toArray, .int .i64 0]) ∧ JR w S R w' ∧ LFr (w.heap.size + 1) W w' := by
  have h' := h
  obtain ⟨⟨t, g, h1⟩, _, h3, h4⟩ := h
  refine (blind_gen S k hk s (by omega) _ (isKey_len (mac_key k s)) (u8s_one _) 0 (fun w' => Below W.heap.size W w') W (fun A B hb hA => hA.trans hb) (fun W1 b c hW1 hb hI => ?_)).mono ?_
  · refine (prf_real S t none g k hk (some ⟨b, 0, none⟩) s.size c (nameL s) (by omega) W1 (h3.later hW1) (h1.later hW1) hI).mono ?_
    rintro e w' ⟨rfl, hb'⟩
    exact ⟨rfl, hW1.trans (hb'.mono hW1.size), fun b' cs _ hr => hr.later hb'⟩
  · rintro e w' ⟨rfl, hb⟩
    exact ⟨rfl, JR.later _ _ hb h', LFr.of_below hb h4⟩
theorem jr_ref (k : List Nat) (hk : IsKey32 k) (w : World) (s : ByteArray) (hs : s.size ≤ 300) (S R : Nat) (W : World) (h : JR w S R W) :
    Calls Tryd.prog 8 #[.pointer (some ⟨R, 0, none⟩), .agg (u8s k).toArray, .string s] W fun e w' => e = .returned (.tuple #[.agg (u8s (Sh.macN k (110 :: nameL s))).toArray, .int .i64 0]) ∧ JR w S R w' ∧ LFr (w.heap.size + 1) W w' := by
  have h' := h
  obtain ⟨_, ⟨x1, x2, x3, x4, x5, h2⟩, h3, h4⟩ := h
  refine (refBlind_gen R k hk s (by omega) _ (isKey_len (mac_key k s)) (u8s_one _) 0 (fun w' => Below W.heap.size W w') W (fun A B _ hb hA => hA.trans hb) (fun W1 b c hW1 hb hI => ?_)).mono ?_
  · refine (refPrf_real R x1 x2 x3 x4 x5 k hk (some ⟨b, 0, none⟩) s.size c (nameL s) (by omega) W1 (h2.later hW1) hI).mono ?_
    rintro e w' ⟨rfl, hb'⟩
    exact ⟨rfl, hW1.trans (hb'.mono hW1.size), fun b' cs _ hr => hr.later hb'⟩
  · rintro e w' ⟨rfl, hb⟩
    exact ⟨rfl, JR.later _ _ hb h', LFr.of_below hb h4⟩

set_option maxHeartbeats 1000000 in
theorem blinds_real (mode : Int) (hm : mode % 2 = 0) (p : Option Addr) (len cap : Nat) (zs : List Nat) (hlen : len ≤ 300) (k : List Nat) (hk : IsKey32 k) (a b : ByteArray) (ha : a.size ≤ 300) (hb : b.size ≤ 300) (w : World) (hZ : IsBytes w.heap.size w p len cap zs) (hT : Sh.Tab w) :
    Calls Tryd.prog 3 #[.int .i64 mode, .slice p len cap, .agg (u8s k).toArray, .string a, .string b] w fun e w' => e = .returned (.bool true) ∧ Below w.heap.size w w' := by
  refine blinds_core mode 0 hm p len cap hlen k hk a b ha hb w _ _ (mac_key k a) (mac_key k b) 0 (fun _ W => Sh.Tab W ∧ w.heap.size + 1 ≤ W.heap.size) (fun S W => (∃ t g, SuiteAt W S 0 t none g) ∧ Sh.Tab W ∧ w.heap.size + 1 ≤ W.heap.size) (JR w) (JR w) (JR w) (JR w) (JR w) (fun W hW hs => ?_) (fun B W h => ?_) (fun S W h => ?_) (fun S R W h => jr_my k hk w a ha S R W h) (fun S R W h => jr_ref k hk w a ha S R W h) (fun S R W h => jr_my k hk w b hb S R W h) (fun S R W h => jr_ref k hk w b hb S R W h) (fun S R W h => (jr_my k hk w a ha S R W h).mono fun e w' h => ⟨h.1, h.2.2⟩) (fun S R W W' => JR.later W W') (fun S R W W' => JR.later W W') (fun S R W W' => JR.later W W') (fun S R W W' => JR.later W W')
  · refine (tapeNew_any p len cap zs (by omega) W ((hZ.below hW).mono hW.size)).mono ?_
    rintro e w' ⟨B, rfl, hBQ, ht, hbb⟩
    exact ⟨B, rfl, ⟨(hT.later hW).later hbb, Nat.le_trans hs hbb.size⟩, LFr.of_below hbb hs⟩
  · refine (newReal_any (some ⟨B, 0, none⟩) W).mono ?_
    rintro e w' ⟨rfl, h1, _, _, hbb, hsz⟩
    exact ⟨_, rfl, ⟨⟨_, _, h1⟩, h.1.later hbb, by omega⟩, LFr.of_below hbb h.2⟩
  · obtain ⟨⟨t, g, h1⟩, h2, h3⟩ := h
    have hbb : Below W.heap.size W (W.alloc (.cells #[.int .i64 0, .slice p len cap, .slice none 0 0, .slice none 0 0, .slice none 0 0, .bool false] 33)) := (Below.refl _ W).alloc (Nat.le_refl _) _
    exact ⟨⟨t, g, h1.later hbb⟩, ⟨_, _, _, _, _, Row.new W 33 _⟩, h2.later hbb, Nat.le_trans h3 hbb.size⟩
end Go.Proofs.YtkpjbleogjmbjaaDoor
