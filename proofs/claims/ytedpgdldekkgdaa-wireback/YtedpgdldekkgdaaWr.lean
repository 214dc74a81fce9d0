/-
  A writer in memory, and what N, Raw and Bytes make of it. Nothing that lay below the writer has turned.
-/
import Derived.Test.YtedpgdldekkgdaaApp
namespace Go.Proofs.Ytedpgdldekkgdaa
open Go.RowKit

/-- Block B is a writer that has written zs. -/
def WrAt (W : World) (B : Nat) (zs : List Nat) : Prop := ∃ v, Row W B 58 [v] ∧ Own (B + 1) W v zs
theorem WrAt.lt {W : World} {B : Nat} {zs : List Nat} (h : WrAt W B zs) : B < W.heap.size := by obtain ⟨_, h, _⟩ := h; exact h.lt
theorem WrAt.later {W W' : World} {B : Nat} {zs : List Nat} (h : WrAt W B zs) (hb : Below W.heap.size W W') : WrAt W' B zs := by
  obtain ⟨v, h1, h2⟩ := h
  exact ⟨v, h1.later hb, h2.later hb⟩
theorem WrAt.alloc {W : World} {B : Nat} {zs : List Nat} (h : WrAt W B zs) (o : Obj) : WrAt (W.alloc o) B zs := h.later ((Below.refl _ W).alloc (Nat.le_refl _) o)
theorem WrAt.new (W : World) : WrAt (W.alloc (.cells #[.slice none 0 0] 58)) W.heap.size [] := ⟨_, Row.new W 58 #[.slice none 0 0], Own.nil _ _⟩

/-- What a writer's call keeps: all below it, and every block but writers and rows of bytes. -/
def KeptW (B : Nat) (w w' : World) : Prop := Below B w w' ∧ (∀ t, t ≠ 5 → t ≠ 58 → KeepT t w w') ∧ KeepF w w'
theorem KeptW.refl (B : Nat) (w : World) : KeptW B w w := ⟨Below.refl _ _, fun _ _ _ _ _ _ h => h, KeepF.refl _⟩
theorem KeptW.trans {B : Nat} {a b c : World} (h : KeptW B a b) (k : KeptW B b c) : KeptW B a c := ⟨h.1.trans k.1, fun t h5 h6 => (h.2.1 t h5 h6).trans (k.2.1 t h5 h6), h.2.2.trans k.2.2⟩
theorem KeptW.of_below {B : Nat} {a b : World} (h : Below a.heap.size a b) (hB : B ≤ a.heap.size) : KeptW B a b := ⟨h.mono hB, fun _ _ _ => KeepT.of_below h, KeepF.of_below h⟩
theorem KeptW.alloc {B : Nat} {a b : World} (h : KeptW B a b) (hB : B ≤ b.heap.size) (o : Obj) : KeptW B a (b.alloc o) := h.trans (KeptW.of_below ((Below.refl _ b).alloc (Nat.le_refl _) o) hB)
/-- The writer gets a longer row. -/
theorem WrAt.put {w w2 : World} {B : Nat} {v u : Value} {zs ys : List Nat} (hr : Row w B 58 [v]) (ho : Own (B + 1) w v zs) (hk : Below (B + 1) w w2) (hk5 : Keep5 w w2) (hu : Own (B + 1) w2 u ys) :
    WrAt (w2.setCell ⟨B, 0, none⟩ u) B ys ∧ KeptW B w (w2.setCell ⟨B, 0, none⟩ u) := by
  have hr2 : Row w2 B 58 [v] := (hk.block B (by omega)).trans hr
  have hbut : But B w2.heap.size w2 (w2.setCell ⟨B, 0, none⟩ u) := But.set 0 u
  refine ⟨⟨u, hr2.set (i := 0) u, hu.but hbut (by omega)⟩, (hk.mono (by omega)).trans (hbut.below (by have := hr2.lt; omega) (Nat.le_refl _)), fun t h5 h6 => (hk5.1 t h5).trans (fun k c fr hkk => ?_), hk5.2.trans (fun k c t fr hf hkk => ?_)⟩
  · refine (hbut.block k (Array.getElem?_eq_some_iff.1 hkk).1 (fun e => ?_)).trans hkk
    subst e
    unfold Row at hr2
    rw [hkk] at hr2
    cases hr2
    exact h6 rfl
  · refine (hbut.block k (Array.getElem?_eq_some_iff.1 hkk).1 (fun e => ?_)).trans hkk
    subst e
    unfold Row at hr2
    rw [hkk] at hr2
    cases hr2
    exact hf rfl

/-- A slice of numbers, in a block of such. -/
def IsNums (W : World) (p : Option Addr) (len : Nat) (ns : List Nat) : Prop :=
  ns.length = len ∧ (∀ n ∈ ns, n < 18446744073709551616) ∧ (len = 0 ∨ ∃ b off c fr, p = some ⟨b, off, none⟩ ∧ W.heap[b]? = some (Obj.cells c 23 fr) ∧ ∀ i, i < len → W.cell? ⟨b, off + i, none⟩ = some (.int .u64 (ns.getD i 0 : Nat)))
theorem IsNums.keep {A B : World} (h : KeepT 23 A B) {p : Option Addr} {len : Nat} {ns : List Nat} : IsNums A p len ns → IsNums B p len ns
  | ⟨h1, h2, .inl e⟩ => ⟨h1, h2, .inl e⟩
  | ⟨h1, h2, .inr ⟨b, off, c, fr, e, hb, hc⟩⟩ => ⟨h1, h2, .inr ⟨b, off, c, fr, e, h _ _ _ hb, fun i hi => by
      have hh := h _ _ _ hb
      have h3 := hc i hi
      rw [cell_of_row A b (off + i) c 23 fr hb] at h3
      rw [cell_of_row B b (off + i) c 23 fr hh]
      exact h3⟩⟩
theorem IsNums.one (w : World) (x : Nat) (hx : x < 18446744073709551616) : IsNums (w.alloc (.cells #[.int .u64 (x : Nat)] 23)) (some ⟨w.heap.size, 0, none⟩) 1 [x] := by
  refine ⟨rfl, by simpa using hx, .inr ⟨w.heap.size, 0, _, _, rfl, Row.new w 23 #[.int .u64 (x : Nat)], fun i hi => ?_⟩⟩
  obtain rfl : i = 0 := by omega
  exact (Row.new w 23 #[.int .u64 (x : Nat)]).cell (i := 0) rfl
/-- Numbers as bytes. -/
def encs (ns : List Nat) : List Nat := ns.flatMap encN
theorem encs_one (x : Nat) : encs [x] = encN x := by simp [encs]
theorem encs_succ (ns : List Nat) (k : Nat) (hk : k < ns.length) : encs (ns.take k) ++ encN (ns.getD k 0) = encs (ns.take (k + 1)) := by
  unfold encs
  rw [List.take_succ_eq_append_getElem hk]
  simp only [List.flatMap_append, List.flatMap_cons, List.flatMap_nil, List.append_nil, List.getD_eq_getElem?_getD, List.getElem?_eq_getElem hk, Option.getD_some]
theorem encs_length : ∀ (ns : List Nat), (∀ n ∈ ns, n < 18446744073709551616) → (encs ns).length ≤ 10 * ns.length
  | [], _ => by simp [encs]
  | n :: r, h => by
    have h1 := encs_length r (fun x hx => h x (List.mem_cons_of_mem _ hx))
    have h2 := encN_ten (h n List.mem_cons_self)
    simp only [encs, List.flatMap_cons, List.length_append, List.length_cons] at *
    omega

set_option maxHeartbeats 1000000 in
/-- N of one number. -/
theorem writerN_any (B : Nat) (zs ns : List Nat) (p : Option Addr) (len cap : Nat) (w : World) (hw : WrAt w B zs) (hN : IsNums w p len ns) (hlen : zs.length + 10 * len ≤ 900000) (hl63 : len ≤ 1000000) :
    Calls Try.prog 23 #[.pointer (some ⟨B, 0, none⟩), .slice p len cap] w fun e w' => (∃ v, e = .returned v) ∧ WrAt w' B (zs ++ encs ns) ∧ KeptW B w w' := by
  have HW : Hid (WrAt w B zs) := hw
  have HN : Hid (IsNums w p len ns) := hN
  have HL : Hid (ns.length = len) := hN.1
  have hBl := hw.lt
  clear hw hN
  go_enter Try.func23, Try.ntmps23
  go_wp2
  go_loopw [10] (fun i wr => ∃ (k : Nat), k ≤ len ∧ i = .int .i64 k ∧ WrAt wr B (zs ++ encs (ns.take k)) ∧ KeptW B w wr) (fun i _ => len - (intOf i).toNat)
  case atStart => exact ⟨0, Nat.zero_le _, rfl, by simpa [encs] using HW.out, KeptW.refl _ _⟩
  case round =>
    obtain ⟨k, hk, rfl, hwr, hkept⟩ := hrel
    have HK : Hid (KeptW B w wr) := hkept
    have hsz := hkept.1.size
    have HB : Hid ((zs ++ encs (ns.take k)).length ≤ 900000) := by
      show _ ≤ _
      have := encs_length (ns.take k) (fun n hn => HN.out.2.1 n (List.mem_of_mem_take hn))
      have := HL.out
      simp only [List.length_append, List.length_take] at *
      omega
    by_cases hlt : k < len
    · have hki : (k : Int) < (len : Int) := by omega
      obtain ⟨b, off, c0, fr0, rfl, hb, hcell⟩ : ∃ b off c fr, p = some ⟨b, off, none⟩ ∧ wr.heap[b]? = some (Obj.cells c 23 fr) ∧ ∀ i, i < len → wr.cell? ⟨b, off + i, none⟩ = some (.int .u64 (ns.getD i 0 : Nat)) := by
        rcases (HN.out.keep (hkept.2.1 23 (by decide) (by decide))).2.2 with h | h
        · omega
        · exact h
      have hc1 := hcell k hlt
      have HX : Hid (ns.getD k 0 < 18446744073709551616) := by
        have hkl : k < ns.length := by rw [HL.out]; exact hlt
        show _ < _
        rw [List.getD_eq_getElem?_getD, List.getElem?_eq_getElem hkl, Option.getD_some]
        exact HN.out.2.1 _ (List.getElem_mem hkl)
      have HFs : Hid ((zs ++ encs (ns.take k)) ++ encN (ns.getD k 0) = zs ++ encs (ns.take (k + 1))) := by
        show _ = _
        rw [List.append_assoc, encs_succ ns k (by rw [HL.out]; exact hlt)]
      obtain ⟨v, hr, ho⟩ := hwr
      have hcv := hr.cell (i := 0) rfl
      have HR : Hid (Row wr B 58 [v]) := hr
      have hBr := hr.lt
      have HA : Hid (Calls Try.prog 43 #[v, .int .u64 (ns.getD k 0 : Nat)] wr fun e w' => ∃ v', e = .returned v' ∧ Own (B + 1) w' v' (zs ++ encs (ns.take (k + 1))) ∧ Below (B + 1) wr w' ∧ Keep5 wr w') := by
        have h := appendNumber_any (B + 1) v (zs ++ encs (ns.take k)) (ns.getD k 0) wr HX.out ho hBr HB.out
        rw [HFs.out] at h
        exact h
      have HEnd : Hid (∀ w2 u, Own (B + 1) w2 u (zs ++ encs (ns.take (k + 1))) → Below (B + 1) wr w2 → (Keep5 wr w2) → WrAt (w2.setCell ⟨B, 0, none⟩ u) B (zs ++ encs (ns.take (k + 1))) ∧ KeptW B wr (w2.setCell ⟨B, 0, none⟩ u)) := fun w2 u h1 h2 h3 => WrAt.put hr ho h2 h3 h1
      have fz := fun (w2 : World) (hb : Below (B + 1) wr w2) => (show Row w2 B 58 [v] from (hb.block B (by omega)).trans hr).frozen 0
      have cc := fun (w2 : World) (hb : Below (B + 1) wr w2) => (show Row w2 B 58 [v] from (hb.block B (by omega)).trans hr).cell (i := 0) rfl
      clear hr ho hcell hb
      generalize ns.getD k 0 = X at *
      go_wp2_with (go_at_call 43; refine HA.out.mono ?_; rintro e w2 ⟨u2, rfl, hown2, hb2, hk2⟩; obtain ⟨q2, k2, c2, hu2⟩ := own_any_slice hown2; subst hu2; have fz2 := fz w2 hb2; have cc2 := cc w2 hb2; have HE := HEnd.out w2 _ hown2 hb2 hk2; clear fz cc hk2 hown2)
      go_roundw
      case rel => exact ⟨k + 1, by omega, by go_num, HE.1, HK.out.trans HE.2⟩
      case measure => simp [intOf]; omega
    · obtain rfl : k = len := by omega
      rw [List.take_of_length_le (by rw [HL.out]; exact Nat.le_refl _)] at hwr
      go_wp2
      go_end0
      exact ⟨⟨_, rfl⟩, hwr, HK.out⟩
theorem writerN_none (p : Option Addr) (len cap : Nat) (w : World) : Calls Try.prog 23 #[.pointer none, .slice p len cap] w fun e w' => (∃ v, e = .returned v) ∧ w' = w := by
  go_enter Try.func23, Try.ntmps23
  go_wp2
  refine bodyPost_ret (results_none rfl _ _ _) rfl ?_
  exact ⟨⟨_, rfl⟩, rfl⟩

set_option maxHeartbeats 1000000 in
/-- Raw -/
theorem writerRaw_any (B : Nat) (zs ys : List Nat) (p : Option Addr) (len cap n₀ : Nat) (w : World) (hw : WrAt w B zs) (hI : IsBytes n₀ w p len cap ys) (hlen : zs.length + len ≤ 1000000) :
    Calls Try.prog 25 #[.pointer (some ⟨B, 0, none⟩), .slice p len cap] w fun e w' => (∃ v, e = .returned v) ∧ WrAt w' B (zs ++ ys) ∧ KeptW B w w' := by
  obtain ⟨v, hr, ho⟩ := hw
  obtain ⟨q0, k0, c0, rfl⟩ := own_any_slice ho
  have hcv := hr.cell (i := 0) rfl
  have hBr := hr.lt
  have HO : Hid (Own (B + 1) w (.slice q0 k0 c0) zs) := ho
  have HI : Hid (IsBytes n₀ w p len cap ys) := hI
  have HEnd : Hid (∀ w2 u, Own (B + 1) w2 u (zs ++ ys) → Below (B + 1) w w2 → (Keep5 w w2) → WrAt (w2.setCell ⟨B, 0, none⟩ u) B (zs ++ ys) ∧ KeptW B w (w2.setCell ⟨B, 0, none⟩ u)) := fun w2 u h1 h2 h3 => WrAt.put hr ho h2 h3 h1
  have fz := fun (w2 : World) (hb : Below (B + 1) w w2) => (show Row w2 B 58 [.slice q0 k0 c0] from (hb.block B (by omega)).trans hr).frozen 0
  have cc := fun (w2 : World) (hb : Below (B + 1) w w2) => (show Row w2 B 58 [.slice q0 k0 c0] from (hb.block B (by omega)).trans hr).cell (i := 0) rfl
  clear hr ho hI
  go_enter Try.func25, Try.ntmps25
  go_wp2_with (at_builtin; refine wpList_append_bytes rfl _ _ rfl (B + 1) (.slice q0 k0 c0) zs rfl HO.out rfl HI.out hlen hBr ?_; intro u2 w2 hown2 hgrow2; obtain ⟨q2, k2, c2, hu2⟩ := own_any_slice hown2; subst hu2; have hb2 : Below (B + 1) w w2 := below_own (Below.refl _ _) hBr HO.out hgrow2; have fz2 := fz w2 hb2; have cc2 := cc w2 hb2; have HE := HEnd.out w2 _ hown2 hb2 (Keep5.row hgrow2 HO.out); clear fz cc hown2 hgrow2)
  go_end0
  exact ⟨⟨_, rfl⟩, HE.1, HE.2⟩
theorem writerRaw_none (p : Option Addr) (len cap : Nat) (w : World) : Calls Try.prog 25 #[.pointer none, .slice p len cap] w fun e w' => (∃ v, e = .returned v) ∧ w' = w := by
  go_enter Try.func25, Try.ntmps25
  go_wp2
  refine bodyPost_ret (results_none rfl _ _ _) rfl ?_
  exact ⟨⟨_, rfl⟩, rfl⟩

set_option maxHeartbeats 1000000 in
/-- own -/
theorem own_any (p : Option Addr) (len cap : Nat) (zs : List Nat) (hlen : len ≤ 1000000) (w : World) (hI : IsBytes w.heap.size w p len cap zs) :
    Calls Try.prog 44 #[.slice p len cap] w fun e w' => e = .returned (.slice (some ⟨w.heap.size, 0, none⟩) len len) ∧ Own w.heap.size w' (.slice (some ⟨w.heap.size, 0, none⟩) len len) zs ∧ w.heap.size < w'.heap.size ∧ Below w.heap.size w w' := by
  obtain ⟨i0, hi, hz0, hz1, hz2⟩ := info_parts info5
  have HI : Hid (IsBytes w.heap.size w p len cap zs) := hI
  clear hI
  go_enter Try.func44, Try.ntmps44
  go_wp2_with (first
    | (at_make; refine wpList_make_full _ rfl _ _ 26 rfl w.heap.size 5 i0 (.int .u8 0) 1 Try.underlying26 hi hz0 hz1 _ _ _ _ len rfl rfl (by omega) (by omega) (by rw [hz2]; omega) (by simp only [maxLen]; omega) (Nat.le_refl _) ?_; intro w2 hown2 hgrow2; rw [made_zeros] at hown2; have HR2 : Hid (Row w2 w.heap.size 5 (u8s (List.replicate len 0))) := row_of_made hown2; have hb2 : Below w.heap.size w w2 := ((Below.refl _ w).grown hgrow2 (Nat.le_refl _) (fun k e => by cases e)); clear hown2 hgrow2)
    | ((with_reducible show wpList _ _ _ (Oper.mk (some 9) _ _ _ _ _ :: _) _ _); refine wpList_copy_splice rfl (.tmp 7) (.tmp 8) 26 26 rfl 5 Try.underlying26 size5 _ _ _ _ _ _ rfl rfl w.heap.size 0 (u8s (List.replicate len 0)) 5 HR2.out (u8s zs) (by rw [u8s_length, HI.out.1]; exact (Nat.min_self _).symm) (fun h0 => ⟨rfl, bytes_src (HI.out.below hb2) h0⟩) (by have := HI.out.1; simp; omega) (u8s_one _) w.heap.size w hb2 (Nat.le_refl _) ?_; intro w3 HG3 hb3; rw [u8s_length, HI.out.1]; rw [splice_all zs len HI.out.1] at HG3))
  go_ret
  have ho := own_of_row (n₀ := w.heap.size) (zs := zs) HG3.out (Nat.le_refl _) (by have := HI.out.1; omega)
  rw [HI.out.1] at ho
  exact ⟨rfl, ho, Row.lt HG3.out, hb3⟩

set_option maxHeartbeats 1000000 in
/-- Bytes -/
theorem writerBytes_any (B : Nat) (zs : List Nat) (w : World) (hw : WrAt w B zs) (hz : ∀ z ∈ zs, z < 256) (hlen : zs.length ≤ 1000000) :
    Calls Try.prog 26 #[.pointer (some ⟨B, 0, none⟩)] w fun e w' => ∃ v, e = .returned v ∧ Own w.heap.size w' v zs ∧ Below w.heap.size w w' := by
  obtain ⟨v, hr, ho⟩ := hw
  obtain ⟨q0, c0, rfl⟩ := ho.slice
  have hcv := hr.cell (i := 0) rfl
  have HO : Hid (Calls Try.prog 44 #[.slice q0 zs.length c0] w fun e w' => e = .returned (.slice (some ⟨w.heap.size, 0, none⟩) zs.length zs.length) ∧ Own w.heap.size w' (.slice (some ⟨w.heap.size, 0, none⟩) zs.length zs.length) zs ∧ w.heap.size < w'.heap.size ∧ Below w.heap.size w w') := own_any q0 _ c0 zs hlen w (ho.bytes hz)
  clear hr ho hlen
  generalize zs.length = L at *
  go_enter Try.func26, Try.ntmps26
  go_wp2_with (go_at_call 44; refine HO.out.mono ?_; rintro e w2 ⟨rfl, hown2, _, hb2⟩)
  go_ret
  exact ⟨_, rfl, hown2, hb2⟩
theorem writerBytes_none (w : World) : Calls Try.prog 26 #[.pointer none] w fun e w' => e = .returned (.slice none 0 0) ∧ w' = w := by
  go_enter Try.func26, Try.ntmps26
  go_wp2
  go_ret
  exact ⟨rfl, rfl⟩
end Go.Proofs.Ytedpgdldekkgdaa
