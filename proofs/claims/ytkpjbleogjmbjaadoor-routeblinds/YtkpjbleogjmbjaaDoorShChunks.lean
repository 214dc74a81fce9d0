/-
  What the reference's Chunks answers for pieces of 64 bytes of a text of whole pieces: the pieces, in memory of their own. Nothing that lay before the call has turned.
-/
import Derived.Test.YtkpjbleogjmbjaaDoorBaseAll
import Derived.Test.YtkpjbleogjmbjaaDoorShBlk
namespace Go.Proofs.YtkpjbleogjmbjaaDoor.Sh
open Go Go.RowKit
theorem info22 : (Tryd.prog.info? 22).map (fun i => (i.zero, i.size, i.bytes)) = some (some (.slice none 0 0), 1, 24) := by kernel_rfl

/-- These slices own the texts. -/
def TextsAt (W : World) (vs : List Value) (ts : List (List Nat)) : Prop := vs.length = ts.length ∧ ∀ i, i < ts.length → Own 0 W (vs.getD i undef) (ts.getD i [])
theorem TextsAt.keep {W W' : World} (hk : KeepT 5 W W') {vs : List Value} {ts : List (List Nat)} (h : TextsAt W vs ts) : TextsAt W' vs ts := ⟨h.1, fun i hi => hk.own (h.2 i hi)⟩
theorem TextsAt.snoc {W : World} {vs : List Value} {ts : List (List Nat)} (h : TextsAt W vs ts) {u : Value} {t : List Nat} (hu : Own 0 W u t) : TextsAt W (vs ++ [u]) (ts ++ [t]) := by
  refine ⟨by simp [h.1], fun i hi => ?_⟩
  by_cases hlt : i < ts.length
  · have e1 : (vs ++ [u]).getD i undef = vs.getD i undef := by simp [List.getElem?_append_left (show i < vs.length by have := h.1; omega)]
    have e2 : (ts ++ [t]).getD i [] = ts.getD i [] := by simp [List.getElem?_append_left hlt]
    rw [e1, e2]
    exact h.2 i hlt
  · have hi2 : i = ts.length := by simp at hi; omega
    subst hi2
    have e1 : (vs ++ [u]).getD ts.length undef = u := by rw [← h.1]; simp
    have e2 : (ts ++ [t]).getD ts.length [] = t := by simp
    rw [e1, e2]
    exact hu

set_option maxRecDepth 100000 in
set_option maxHeartbeats 2000000 in
theorem refChunks_any (p : Option Addr) (len cap : Nat) (zs : List Nat) (w : World) (hlen : len ≤ 60000) (h64 : len % 64 = 0) (hI : IsBytes w.heap.size w p len cap zs) :
    Calls Tryd.prog 45 #[.slice p len cap, .int .i64 64] w fun e w' => ∃ q c vs, e = .returned (.slice q (len / 64) c) ∧ w'.ownsRow w.heap.size 22 1 (.slice q (len / 64) c) (len / 64) vs ∧ TextsAt w' vs (fullL zs (len / 64)) ∧ Below w.heap.size w w' := by
  obtain ⟨i5, hi5, hz50, hz51, hz52⟩ := info_parts info5
  obtain ⟨i22, hi22, hz220, hz221, hz222⟩ := info_parts info22
  have HI : Hid (IsBytes w.heap.size w p len cap zs) := hI
  have hlc := hI.2.1
  have hcap := hI.2.2.1
  clear hI
  go_enter Tryd.func45, Tryd.ntmps45
  go_wp2
  go_loopw [0, 5] (fun s v wr => ∃ (k L C : Nat) (q : Option Addr) (vs : List Value), s = .slice q L C ∧ L + 64 * k = len ∧ C + 64 * k = cap ∧ (0 < L → ∃ b off, p = some ⟨b, off, none⟩ ∧ q = some ⟨b, off + 64 * k, none⟩) ∧ wr.ownsRow w.heap.size 22 1 v k vs ∧ TextsAt wr vs (fullL zs k) ∧ Below w.heap.size w wr)
    (fun s _ _ => sliceLen s)
  case atStart => exact ⟨0, len, cap, p, [], rfl, by omega, by omega, fun hL => by
      rcases HI.out.2.2.2.2 with h | ⟨b, off, rfl, _⟩
      · omega
      · exact ⟨b, off, rfl, rfl⟩, World.ownsRow_nil _ _ _ _, ⟨rfl, by simp [fullL]⟩, Below.refl _ _⟩
  case round =>
    obtain ⟨k, L, C, q, vs, rfl, hL, hC, hq, hown, hte, hbel⟩ := hrel
    by_cases hLz : 0 < L
    · obtain ⟨b, off, hp, rfl⟩ := hq hLz
      have hL64 : 64 ≤ L := by omega
      have hL64i : (64 : Int) ≤ (L : Int) := by omega
      have hLC : L ≤ C := by omega
      have hCc : C ≤ 9223372036854775807 := by omega
      have hLi : (0 : Int) < (L : Int) := by omega
      have hsz := hbel.size
      have hkl : k < 60000 := by omega
      have hIr : IsBytes w.heap.size wr p len cap zs := HI.out.below hbel
      have hIz : IsBytes w.heap.size wr (some ⟨b, off + 64 * k, none⟩) 64 C ((zs.drop (64 * k)).take 64) := by
        have h2 := bytes_range (o := 64 * k) (by rw [hp] at hIr; exact hIr) (by omega)
        refine ⟨by simp [hIr.1]; omega, by omega, hCc, fun z hz => hIr.2.2.2.1 z (List.mem_of_mem_drop (List.mem_of_mem_take hz)), .inr ⟨b, off + 64 * k, rfl, ?_, fun i hi => ?_⟩⟩
        · rcases hIr.2.2.2.2 with h | ⟨b', off', e, hb, _⟩
          · omega
          · rw [hp] at e; cases e; exact hb
        · exact h2 i _ (by rw [u8s_at (by simp [hIr.1]; omega)])
      have HIz : Hid (IsBytes w.heap.size wr (some ⟨b, off + 64 * k, none⟩) 64 C ((zs.drop (64 * k)).take 64)) := hIz
      have HOw : Hid (wr.ownsRow w.heap.size 22 1 u5 k vs) := hown
      have HTe : Hid (TextsAt wr vs (fullL zs k)) := hte
      have HP : Hid (L + 64 * k = len ∧ C + 64 * k = cap ∧ p = some ⟨b, off, none⟩) := ⟨hL, hC, hp⟩
      clear hq hL hC hown hte hIr hIz hp
      go_wp2_with (first
        | (at_builtin; refine wpList_append_bytes rfl _ _ rfl wr.heap.size (.slice none 0 0) [] rfl (Own.nil _ _) rfl HIz.out (by simp) (Nat.le_refl _) ?_; intro u1 w1 hown1 hgrow1; have hb1 : Below wr.heap.size wr w1 := (Below.refl _ wr).grown hgrow1 (Nat.le_refl _) (fun k e => by cases e); rw [List.nil_append] at hown1; obtain ⟨q1, c1, hu1⟩ := hown1.slice; rw [HIz.out.1] at hu1; subst hu1; have HO1 : Hid (Own wr.heap.size w1 (.slice q1 64 c1) ((zs.drop (64 * k)).take 64)) := hown1; clear hown1)
        | (at_builtin; refine wpList_append_lies _ rfl _ _ 90 rfl w.heap.size 22 i22 (.slice none 0 0) 1 24 Tryd.underlying90 hi22 hz220 hz221 hz222 rfl (by decide) u5 k vs rfl ((ownsRow_later hb1 HOw.out).alloc _) ⟨w1.heap.size, 0, none⟩ 1 1 [.slice q1 64 c1] rfl rfl (cell_one_new _ _ _) (by simp [Value.oneCell']) (by omega) (by simp only [maxLen]; omega) (by omega) (by have := hb1.size; simp; omega) (w1.heap.size + 1) (by simp) ?_; intro g2 c2 w2 hown2 hgrow2 hat2 hlt2))
      go_roundw
      case rel =>
        obtain ⟨h1, h2, h3⟩ := HP.out
        have hk12 : KeepT 5 w1 w2 := (KeepT.alloc w1 _).trans (KeepT.row hgrow2 ((ownsRow_later hb1 HOw.out).alloc _) (by decide))
        have ht2 : TextsAt w2 (vs ++ [.slice q1 64 c1]) (fullL zs (k + 1)) := by
          rw [← fullL_succ]
          exact (HTe.out.keep ((KeepT.of_below hb1).trans hk12)).snoc (hk12.own (HO1.out.mono (Nat.zero_le _)))
        have hbe2 : Below w.heap.size w w2 := ((hbel.trans (hb1.mono hsz)).alloc (by have := hb1.size; omega) _).grown hgrow2 (by have := hb1.size; simp; omega) (fun j e => ((ownsRow_later hb1 HOw.out).lt j e).1)
        exact ⟨k + 1, L - 64, C - 64, _, _, rfl, by omega, by omega, fun hh => ⟨b, off, h3, by rw [if_neg (by omega), Nat.add_assoc]; rfl⟩, hown2, ht2, hbe2⟩
      case measure => simp only [sliceLen]; omega
    · obtain rfl : L = 0 := by omega
      obtain rfl : k = len / 64 := by omega
      obtain ⟨q', c', rfl⟩ := slice_of_row hown
      clear hL hC hq
      go_wp2
      go_ret
      exact ⟨_, _, _, rfl, hown, hte, hbel⟩
end Go.Proofs.YtkpjbleogjmbjaaDoor.Sh
