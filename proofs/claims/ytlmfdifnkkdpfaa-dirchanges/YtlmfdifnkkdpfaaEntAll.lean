/-
  Several texts in one: Ent, Few.
-/
import Derived.Test.YtlmfdifnkkdpfaaCmp
import Derived.Test.YtlmfdifnkkdpfaaGood
import Derived.Test.YtlmfdifnkkdpfaaLists
import Derived.Great.BuildSlice
/-
  Entries of a directory: as data, as cells, in memory; how a new variable that holds one comes about.
-/
namespace Go.Proofs.Ytlmfdifnkkdpfaa
open Go.RowKit

/-- An entry. -/
structure Ent where
  blind : List Nat
  name : ByteArray
  kind : Int
  id : List Nat
  key : List Nat
  realm : Nat
  epoch : Nat
def Ent.ok (e : Ent) : Prop := IsId e.blind ∧ IsId e.id ∧ IsId e.key ∧ (-9223372036854775808 ≤ e.kind ∧ e.kind ≤ 9223372036854775807) ∧ e.realm < 4294967296 ∧ e.epoch < 4294967296
def zeros32 : List Nat := List.replicate 32 0
def noEnt : Ent := ⟨zeros32, ⟨#[]⟩, 0, zeros32, zeros32, 0, 0⟩
theorem isId_zeros : IsId zeros32 := ⟨by simp [zeros32], fun z hz => by rw [List.eq_of_mem_replicate hz]; omega⟩
theorem noEnt_ok : noEnt.ok := ⟨isId_zeros, isId_zeros, isId_zeros, by simp [noEnt], by simp [noEnt], by simp [noEnt]⟩
/-- Its cells. -/
def entC (e : Ent) : List Value := u8s e.blind ++ (.string e.name :: .int .i64 e.kind :: (u8s e.id ++ (u8s e.key ++ [.int .u32 (e.realm : Nat), .int .u32 (e.epoch : Nat)])))
theorem entC_length {e : Ent} (h : e.ok) : (entC e).length = 100 := by
  simp [entC, h.1.1, h.2.1.1, h.2.2.1.1]
theorem entC_one (e : Ent) : ∀ v ∈ entC e, v.oneCell' = true := by
  intro v hv
  simp only [entC, List.mem_append, List.mem_cons, List.not_mem_nil, or_false] at hv
  rcases hv with h | rfl | rfl | h | h | rfl | rfl
  · exact u8s_one _ v h
  · rfl
  · rfl
  · exact u8s_one _ v h
  · exact u8s_one _ v h
  · rfl
  · rfl
theorem entC_blind {e : Ent} (h : e.ok) : ((entC e).drop 0).take 32 = u8s e.blind := by
  rw [List.drop_zero, entC, List.take_append_of_le_length (by rw [u8s_length, h.1.1]; exact Nat.le_refl _), List.take_of_length_le (by rw [u8s_length, h.1.1]; exact Nat.le_refl _)]
theorem entC_name {e : Ent} (h : e.ok) : (entC e)[32]? = some (.string e.name) := by
  rw [entC, List.getElem?_append_right (by rw [u8s_length, h.1.1]; exact Nat.le_refl _), u8s_length, h.1.1]; rfl
theorem entC_kind {e : Ent} (h : e.ok) : (entC e)[33]? = some (.int .i64 e.kind) := by
  rw [entC, List.getElem?_append_right (by rw [u8s_length, h.1.1]; omega), u8s_length, h.1.1]; rfl
theorem drop_app {α : Type} {a b : List α} {n m : Nat} (ha : a.length = n) (hm : n ≤ m) : (a ++ b).drop m = b.drop (m - n) := by
  rw [List.drop_append, List.drop_of_length_le (by omega), List.nil_append, ha]
theorem entC_id {e : Ent} (h : e.ok) : ((entC e).drop 34).take 32 = u8s e.id := by
  have l1 : (u8s e.blind).length = 32 := by rw [u8s_length, h.1.1]
  have l2 : (u8s e.id).length = 32 := by rw [u8s_length, h.2.1.1]
  rw [entC, drop_app l1 (by omega)]
  show ((u8s e.id ++ _).drop 0).take 32 = _
  rw [List.drop_zero, List.take_append_of_le_length (by omega), List.take_of_length_le (by omega)]
theorem entC_key {e : Ent} (h : e.ok) : ((entC e).drop 66).take 32 = u8s e.key := by
  have l1 : (u8s e.blind).length = 32 := by rw [u8s_length, h.1.1]
  have l2 : (u8s e.id).length = 32 := by rw [u8s_length, h.2.1.1]
  have l3 : (u8s e.key).length = 32 := by rw [u8s_length, h.2.2.1.1]
  rw [entC, drop_app l1 (by omega)]
  show ((u8s e.id ++ _).drop 32).take 32 = _
  rw [drop_app l2 (by omega)]
  show ((u8s e.key ++ _).drop 0).take 32 = _
  rw [List.drop_zero, List.take_append_of_le_length (by omega), List.take_of_length_le (by omega)]
theorem entC_realm {e : Ent} (h : e.ok) : (entC e)[98]? = some (.int .u32 (e.realm : Nat)) := by
  have l1 : (u8s e.blind).length = 32 := by rw [u8s_length, h.1.1]
  have l2 : (u8s e.id).length = 32 := by rw [u8s_length, h.2.1.1]
  have l3 : (u8s e.key).length = 32 := by rw [u8s_length, h.2.2.1.1]
  rw [entC, List.getElem?_append_right (by omega), l1]
  show (u8s e.id ++ _)[64]? = _
  rw [List.getElem?_append_right (by omega), l2, List.getElem?_append_right (by omega), l3]; rfl
theorem entC_epoch {e : Ent} (h : e.ok) : (entC e)[99]? = some (.int .u32 (e.epoch : Nat)) := by
  have l1 : (u8s e.blind).length = 32 := by rw [u8s_length, h.1.1]
  have l2 : (u8s e.id).length = 32 := by rw [u8s_length, h.2.1.1]
  have l3 : (u8s e.key).length = 32 := by rw [u8s_length, h.2.2.1.1]
  rw [entC, List.getElem?_append_right (by omega), l1]
  show (u8s e.id ++ _)[65]? = _
  rw [List.getElem?_append_right (by omega), l2, List.getElem?_append_right (by omega), l3]; rfl

/-- Entry e lies at b, off: as cells, and its parts. -/
theorem range_part {W : World} {b off o n : Nat} {cs xs : List Value} (h : W.rangeAt b off cs) (hx : (cs.drop o).take n = xs) : W.rangeAt b (off + o) xs := by
  intro j v hj
  rw [← hx] at hj
  have hjl : j < n := by
    rcases Nat.lt_or_ge j n with h | h
    · exact h
    · rw [List.getElem?_eq_none (by simp; omega)] at hj; cases hj
  rw [List.getElem?_take, if_pos hjl, List.getElem?_drop] at hj
  rw [show off + o + j = off + (o + j) by omega]
  exact h _ _ hj
theorem range_cell {W : World} {b off o : Nat} {cs : List Value} {v : Value} (h : W.rangeAt b off cs) (hx : cs[o]? = some v) : W.cell? ⟨b, off + o, none⟩ = some v := h o v hx

/-- A slice of entries: it has none, or it leads to cells of a block below n₀. -/
def IsEnts (n₀ : Nat) (W : World) (p : Option Addr) (len cap : Nat) (es : List Ent) : Prop :=
  es.length = len ∧ len ≤ cap ∧ cap ≤ 9223372036854775807 ∧ (∀ e ∈ es, e.ok) ∧ (len = 0 ∨ ∃ b off, p = some ⟨b, off, none⟩ ∧ b < n₀ ∧ ∀ i, i < len → W.rangeAt b (off + i * 100) (entC (es.getD i noEnt)))
theorem IsEnts.below {n₀ : Nat} {A B : World} (h : Below n₀ A B) {p : Option Addr} {len cap : Nat} {es : List Ent} : IsEnts n₀ A p len cap es → IsEnts n₀ B p len cap es
  | ⟨h1, h2, h3, h4, .inl e⟩ => ⟨h1, h2, h3, h4, .inl e⟩
  | ⟨h1, h2, h3, h4, .inr ⟨b, off, e, hb, hc⟩⟩ => ⟨h1, h2, h3, h4, .inr ⟨b, off, e, hb, fun i hi => rangeAt_below h hb (hc i hi)⟩⟩
theorem IsEnts.mono {n₀ n₁ : Nat} (h : n₀ ≤ n₁) {W : World} {p : Option Addr} {len cap : Nat} {es : List Ent} : IsEnts n₀ W p len cap es → IsEnts n₁ W p len cap es
  | ⟨h1, h2, h3, h4, .inl e⟩ => ⟨h1, h2, h3, h4, .inl e⟩
  | ⟨h1, h2, h3, h4, .inr ⟨b, off, e, hb, hc⟩⟩ => ⟨h1, h2, h3, h4, .inr ⟨b, off, e, Nat.lt_of_lt_of_le hb h, hc⟩⟩
theorem IsEnts.later {A B : World} (hb : Below A.heap.size A B) {p : Option Addr} {len cap : Nat} {es : List Ent} (h : IsEnts A.heap.size A p len cap es) : IsEnts B.heap.size B p len cap es := (h.below hb).mono hb.size
theorem ent_mem {es : List Ent} {k : Nat} (hk : k < es.length) : es.getD k noEnt ∈ es := by
  rw [List.getD_eq_getElem?_getD, List.getElem?_eq_getElem hk, Option.getD_some]
  exact List.getElem_mem hk
theorem ent_take (es : List Ent) {k : Nat} (hk : k < es.length) : es.take (k + 1) = es.take k ++ [es.getD k noEnt] := by
  rw [List.take_succ_eq_append_getElem hk, List.getD_eq_getElem?_getD, List.getElem?_eq_getElem hk, Option.getD_some]
theorem IsEnts.at {n₀ : Nat} {W : World} {p : Option Addr} {len cap : Nat} {es : List Ent} (h : IsEnts n₀ W p len cap es) {k : Nat} (hk : k < len) : ∃ b off, p = some ⟨b, off, none⟩ ∧ b < n₀ ∧ W.rangeAt b (off + k * 100) (entC (es.getD k noEnt)) ∧ (es.getD k noEnt).ok ∧ es.getD k noEnt ∈ es := by
  obtain ⟨h1, _, _, h4, h5⟩ := h
  rcases h5 with h | ⟨b, off, e, hb, hc⟩
  · omega
  · exact ⟨b, off, e, hb, hc k hk, h4 _ (ent_mem (by omega)), ent_mem (by omega)⟩

theorem size43 : (Try.prog.info? 43).map (·.size) = some 100 := by kernel_rfl
theorem size43' {e : Ent} (h : e.ok) : (Try.prog.info? 43).map (·.size) = some (entC e).length := by rw [entC_length h]; exact size43
/-- The cells of a new variable. -/
def entZ : List Value := entC noEnt
theorem entZ_length : entZ.length = 100 := entC_length noEnt_ok
/-- An entry in a variable of its own: what its cells say. -/
structure EntAt (W : World) (g : Nat) (e : Ent) : Prop where
  ok : e.ok
  row : Row W g 43 (entC e)
theorem EntAt.below {A B : World} {n g : Nat} {e : Ent} (h : EntAt A g e) (hb : Below n A B) (hn : g < n) : EntAt B g e := ⟨h.ok, h.row.below hb hn⟩
theorem EntAt.later {A B : World} {g : Nat} {e : Ent} (h : EntAt A g e) (hb : Below A.heap.size A B) : EntAt B g e := h.below hb h.row.lt
theorem EntAt.name {W : World} {g : Nat} {e : Ent} (h : EntAt W g e) : W.cell? ⟨g, 32, none⟩ = some (.string e.name) := h.row.cell (entC_name h.ok)
theorem EntAt.kind {W : World} {g : Nat} {e : Ent} (h : EntAt W g e) : W.cell? ⟨g, 33, none⟩ = some (.int .i64 e.kind) := h.row.cell (entC_kind h.ok)
theorem EntAt.realm {W : World} {g : Nat} {e : Ent} (h : EntAt W g e) : W.cell? ⟨g, 98, none⟩ = some (.int .u32 (e.realm : Nat)) := h.row.cell (entC_realm h.ok)
theorem EntAt.epoch {W : World} {g : Nat} {e : Ent} (h : EntAt W g e) : W.cell? ⟨g, 99, none⟩ = some (.int .u32 (e.epoch : Nat)) := h.row.cell (entC_epoch h.ok)
theorem EntAt.blind {W : World} {g : Nat} {e : Ent} (h : EntAt W g e) : W.rangeAt g 0 (u8s e.blind) := by
  have := range_part h.row.range (entC_blind h.ok)
  simpa using this
theorem EntAt.id {W : World} {g : Nat} {e : Ent} (h : EntAt W g e) : W.rangeAt g 34 (u8s e.id) := by
  have := range_part h.row.range (entC_id h.ok)
  simpa using this
theorem EntAt.key {W : World} {g : Nat} {e : Ent} (h : EntAt W g e) : W.rangeAt g 66 (u8s e.key) := by
  have := range_part h.row.range (entC_key h.ok)
  simpa using this
theorem EntAt.new (w : World) (e : Ent) (h : e.ok) : EntAt (w.alloc (.cells (entC e).toArray 43)) w.heap.size e := ⟨h, Row.new' w 43 (entC e)⟩

theorem zero43_len : Try.zeroCells43.toList.length = 100 := by kernel_rfl
/-- An entry, stored into a new variable. -/
theorem wpList_storeNew {ops : Array Oper} {rest : List Oper} {o : Oper} {a : Act} {w : World} {Q : Exit → Act → World → Prop} (hgd : o.guard = none) (x y : Operand) (ho : o.op = .store 43 x y) (e : Ent) (hok : e.ok)
    (hx : a.eval x = .pointer (some ⟨w.heap.size, 0, none⟩)) (hy : a.eval y = .agg (entC e).toArray)
    (h : ∀ W2, Below w.heap.size w W2 → EntAt W2 w.heap.size e → wpList Try.prog ops Q rest (a.put o.dst undef) W2) : wpList Try.prog ops Q (o :: rest) a (w.alloc (.cells Try.zeroCells43 43)) :=
  wpList_store_Row hgd 43 x y ho (entC e) hx hy (Row.new w 43 Try.zeroCells43) (size43' hok) (by rw [entC_length hok, zero43_len]) (entC_one e)
    (h _ (below_setCells (Nat.le_refl _) _ _ ((Below.refl _ w).alloc (Nat.le_refl _) _)) ⟨hok, (Row.new w 43 Try.zeroCells43).sets_all (by rw [entC_length hok, zero43_len])⟩)
theorem wpList_loadEnt {ops : Array Oper} {rest : List Oper} {o : Oper} {a : Act} {w : World} {Q : Exit → Act → World → Prop} (hgd : o.guard = none) (x : Operand) (ho : o.op = .load 43 x) {b off : Nat} (hx : a.eval x = .pointer (some ⟨b, off, none⟩)) {e : Ent} (hok : e.ok) (hr : w.rangeAt b off (entC e))
    (h : wpList Try.prog ops Q rest (a.put o.dst (.agg (entC e).toArray)) w) : wpList Try.prog ops Q (o :: rest) a w :=
  wpList_load_mid hgd 43 x ho b off hx (entC e) _ hr Try.underlying43 rfl (size43' hok) h
end Go.Proofs.Ytlmfdifnkkdpfaa
/-
  The law's Few.
-/
namespace Go.Proofs.Ytlmfdifnkkdpfaa
open Go.RowKit

def shortB (e : Ent) : Bool := decide (e.name.size ≤ 200)
def fewB (es : List Ent) : Bool := es.all shortB && decide (es.length ≤ 40)

set_option maxRecDepth 100000 in
set_option maxHeartbeats 1000000 in
theorem few_any (p : Option Addr) (len cap : Nat) (es : List Ent) (w : World) (hI : IsEnts w.heap.size w p len cap es) :
    Calls Try.prog 9 #[.slice p len cap] w fun e w' => e = .returned (.bool (fewB es)) ∧ Below w.heap.size w w' := by
  have HI : Hid (IsEnts w.heap.size w p len cap es) := hI
  have HL : Hid (es.length = len) := hI.1
  have hlc := hI.2.1
  have hcc := hI.2.2.1
  clear hI
  go_enter Try.func9, Try.ntmps9
  go_wp2
  go_loopw [7] (fun i wr => ∃ (k : Nat), k ≤ len ∧ i = .int .i64 k ∧ (es.take k).all shortB = true ∧ Below w.heap.size w wr) (fun i _ => len - (intOf i).toNat)
  case atStart => exact ⟨0, Nat.zero_le _, rfl, rfl, Below.refl _ _⟩
  case round =>
    obtain ⟨k, hk, rfl, hall, hbel⟩ := hrel
    have HAll : Hid ((es.take k).all shortB = true) := hall
    clear hall
    by_cases hlt : k < len
    · have hki : (k : Int) < (len : Int) := by omega
      obtain ⟨b, off, rfl, hb, hrg, hok, hmem⟩ := (HI.out.below hbel).at hlt
      have HT : Hid (es.take (k + 1) = es.take k ++ [es.getD k noEnt]) := ent_take es (by rw [HL.out]; exact hlt)
      have HRg : Hid (wr.rangeAt b (off + k * 100) (entC (es.getD k noEnt))) := hrg
      have HM : Hid (es.getD k noEnt ∈ es) := hmem
      clear hrg hmem
      generalize es.getD k noEnt = x at *
      have hsz := hbel.size
      by_cases h1 : 200 < x.name.size
      · have h1i : (200 : Int) < (x.name.size : Int) := by omega
        go_wp2_with (first
          | ((with_reducible show wpList _ _ _ (Oper.mk _ (Op.load 43 (.tmp 9)) _ _ _ _ :: _) _ _); refine wpList_loadEnt rfl (.tmp 9) rfl rfl hok HRg.out ?_; simp only [Act.put, List.setIfInBounds_toArray, List.set_cons_zero, List.set_cons_succ])
          | ((with_reducible show wpList _ _ _ (Oper.mk _ (Op.store 43 (.tmp 4) (.tmp 10)) _ _ _ _ :: _) _ _); refine wpList_storeNew rfl (.tmp 4) (.tmp 10) rfl x hok rfl rfl (fun W2 hb2 hE => ?_); have hcN := hE.name; have hcK := hE.kind; have HE : Hid (EntAt _ _ _) := hE; clear hE; simp only [Act.put])
          )
        go_ret
        refine ⟨?_, hbel.trans (hb2.mono hsz)⟩
        rw [fewB, show es.all shortB = false by rw [List.all_eq_false]; exact ⟨x, HM.out, by simp [shortB]; omega⟩]
        rfl
      · have h1i : ¬ (200 : Int) < (x.name.size : Int) := by omega
        go_wp2_with (first
          | ((with_reducible show wpList _ _ _ (Oper.mk _ (Op.load 43 (.tmp 9)) _ _ _ _ :: _) _ _); refine wpList_loadEnt rfl (.tmp 9) rfl rfl hok HRg.out ?_; simp only [Act.put, List.setIfInBounds_toArray, List.set_cons_zero, List.set_cons_succ])
          | ((with_reducible show wpList _ _ _ (Oper.mk _ (Op.store 43 (.tmp 4) (.tmp 10)) _ _ _ _ :: _) _ _); refine wpList_storeNew rfl (.tmp 4) (.tmp 10) rfl x hok rfl rfl (fun W2 hb2 hE => ?_); have hcN := hE.name; have hcK := hE.kind; have HE : Hid (EntAt _ _ _) := hE; clear hE; simp only [Act.put])
          )
        go_roundw
        case rel =>
          refine ⟨k + 1, by omega, by go_num, ?_, hbel.trans (hb2.mono hsz)⟩
          rw [HT.out, List.all_append, HAll.out, List.all_cons, List.all_nil, shortB, decide_eq_true (show x.name.size ≤ 200 by omega)]
          rfl
        case measure => simp [intOf]; omega
    · obtain rfl : k = len := by omega
      have HE : Hid (es.all shortB = true) := by
        show _ = _
        have h := HAll.out
        rwa [List.take_of_length_le (by rw [HL.out]; exact Nat.le_refl _)] at h
      clear HAll
      go_wp2
      go_ret
      refine ⟨?_, hbel⟩
      rw [fewB, HE.out, HL.out, Bool.true_and]
      by_cases h20 : k ≤ 40
      · have h20i : (k : Int) ≤ 40 := by omega
        simp [h20, h20i]
      · have h20i : ¬ (k : Int) ≤ 40 := by omega
        simp [h20, h20i]
theorem few_len {es : List Ent} (h : fewB es = true) : es.length ≤ 40 := by
  simp [fewB] at h; exact h.2
theorem few_name {es : List Ent} (h : fewB es = true) : ∀ e ∈ es, e.name.size ≤ 200 := by
  simp [fewB, shortB] at h; exact h.1
end Go.Proofs.Ytlmfdifnkkdpfaa
