/-
  The draws that a law makes from one word: four bytes for each step.
-/
import Derived.Test.YtobmcaknfbooiaaDoorTape
namespace Go.Proofs.YtobmcaknfbooiaaDoor
open Go.RowKit

theorem bytes_four (w : World) (a b c d : Int) (ha : 0 ≤ a ∧ a < 256) (hb : 0 ≤ b ∧ b < 256) (hc : 0 ≤ c ∧ c < 256) (hd : 0 ≤ d ∧ d < 256) : IsBytes (w.heap.size + 1) (w.alloc (.cells #[.int .u8 a, .int .u8 b, .int .u8 c, .int .u8 d] 5)) (some ⟨w.heap.size, 0, none⟩) 4 4 [a.toNat, b.toNat, c.toNat, d.toNat] := by
  refine ⟨rfl, by omega, by omega, ?_, .inr ⟨w.heap.size, 0, rfl, by omega, fun i hi => ?_⟩⟩
  · intro z hz
    simp only [List.mem_cons, List.not_mem_nil, or_false] at hz
    rcases hz with rfl | rfl | rfl | rfl <;> omega
  · have h := Row.new w 5 #[.int .u8 a, .int .u8 b, .int .u8 c, .int .u8 d]
    rw [Nat.zero_add]
    match i, hi with
    | 0, _ => (have := h.cell (i := 0) rfl; simp only [List.getD_cons_zero, Int.toNat_of_nonneg ha.1]; exact this)
    | 1, _ => (have := h.cell (i := 1) rfl; simp only [List.getD_cons_succ, List.getD_cons_zero, Int.toNat_of_nonneg hb.1]; exact this)
    | 2, _ => (have := h.cell (i := 2) rfl; simp only [List.getD_cons_succ, List.getD_cons_zero, Int.toNat_of_nonneg hc.1]; exact this)
    | 3, _ => (have := h.cell (i := 3) rfl; simp only [List.getD_cons_succ, List.getD_cons_zero, Int.toNat_of_nonneg hd.1]; exact this)

theorem bytes_some (w : World) (a b c d : Int) (ha : 0 ≤ a ∧ a < 256) (hb : 0 ≤ b ∧ b < 256) (hc : 0 ≤ c ∧ c < 256) (hd : 0 ≤ d ∧ d < 256) : ∃ ys : List Nat, ys.length = 4 ∧ (∀ z ∈ ys, z < 256) ∧ IsBytes (w.heap.size + 1) (w.alloc (.cells #[.int .u8 a, .int .u8 b, .int .u8 c, .int .u8 d] 5)) (some ⟨w.heap.size, 0, none⟩) 4 4 ys :=
  ⟨_, rfl, (bytes_four w a b c d ha hb hc hd).2.2.2.1, bytes_four w a b c d ha hb hc hd⟩

set_option maxRecDepth 100000 in
set_option maxHeartbeats 1000000 in
theorem lawTape_any (a n : Nat) (hn : n ≤ 10000) (w : World) :
    Calls Tryd.prog 10 #[.int .u32 (a : Nat), .int .i64 (n : Nat)] w fun e w' => ∃ q c zs, e = .returned (.slice q (4 * n) c) ∧ zs.length = 4 * n ∧ IsBytes w'.heap.size w' q (4 * n) c zs ∧ Below w.heap.size w w' := by
  go_enter Tryd.func10, Tryd.ntmps10
  go_wp2
  go_loopw [5, 6] (fun v i wr => ∃ (k : Nat) (q : Option Addr) (c : Nat) (zs : List Nat), k ≤ n ∧ i = .int .i64 k ∧ v = .slice q (4 * k) c ∧ zs.length = 4 * k ∧ (∀ z ∈ zs, z < 256) ∧ Own w.heap.size wr v zs ∧ Below w.heap.size w wr)
    (fun _ i _ => n - (match i with | .int _ m => m.toNat | _ => 0))
  case atStart => exact ⟨0, none, 0, [], Nat.zero_le _, rfl, rfl, rfl, (fun _ h => by cases h), Own.nil _ _, Below.refl _ w⟩
  case round =>
    obtain ⟨k, q, c, zs, hk, rfl, rfl, hl, hz, hown, hbel⟩ := hrel
    have HO : Hid (Own w.heap.size wr (.slice q (4 * k) c) zs) := hown
    have HL : Hid (zs.length = 4 * k) := hl
    have HZ : Hid (∀ z ∈ zs, z < 256) := hz
    have hsz := hbel.size
    clear hown hl hz
    by_cases hlt : k < n
    · have hlt' : decide ((k : Int) < (n : Int)) = true := by simp; exact hlt
      obtain ⟨n4, hn4⟩ : ∃ n4, 4 * k = n4 := ⟨_, rfl⟩
      have HN : Hid (4 * k = n4) := hn4
      rw [hn4] at HO HL ⊢
      clear hn4
      obtain ⟨ys, hyl, hyb, hIy⟩ := bytes_some wr (((a : Int) + (k : Int)) % 4294967296 / 16777216) (((a : Int) + (k : Int)) % 4294967296 / 65536 % 256) (((a : Int) + (k : Int)) % 4294967296 / 256 % 256) (((a : Int) + (k : Int)) % 256) (by omega) (by omega) (by omega) (by omega)
      have HIy : Hid (IsBytes (wr.heap.size + 1) (wr.alloc (.cells #[.int .u8 (((a : Int) + (k : Int)) % 4294967296 / 16777216), .int .u8 (((a : Int) + (k : Int)) % 4294967296 / 65536 % 256), .int .u8 (((a : Int) + (k : Int)) % 4294967296 / 256 % 256), .int .u8 (((a : Int) + (k : Int)) % 256)] 5)) (some ⟨wr.heap.size, 0, none⟩) 4 4 ys) := hIy
      clear hIy
      go_wp2_with (at_builtin; refine wpList_append_bytes rfl _ _ rfl w.heap.size (.slice q n4 c) zs rfl (HO.out.alloc _) rfl HIy.out (by have := HL.out; have := HN.out; omega) (by simp; omega) ?_; intro u2 w2 hown2 hgrow2; have hb2 : Below w.heap.size w w2 := below_own (hbel.alloc hsz _) (by simp; omega) (HO.out.alloc _) hgrow2; obtain ⟨q3, c3, hu2⟩ := hown2.slice; rw [List.length_append, HL.out, hyl] at hu2; subst hu2; have HO2 : Hid (Own w.heap.size w2 (.slice q3 (n4 + 4) c3) (zs ++ ys)) := hown2; clear hown2 hgrow2)
      go_roundw
      case rel =>
        refine ⟨k + 1, q3, c3, zs ++ ys, by omega, rfl, by rw [← HN.out]; congr 1, by rw [List.length_append, HL.out, hyl, ← HN.out]; omega, fun z hz => ?_, HO2.out, hb2⟩
        rcases List.mem_append.1 hz with h | h
        · exact HZ.out z h
        · exact hyb z h
      case measure => simp; omega
    · obtain rfl : k = n := by omega
      have hlt' : decide ((k : Int) < (k : Int)) = false := by simp
      have HI : Hid (IsBytes wr.heap.size wr q (4 * k) c zs) := HO.out.bytes HZ.out
      clear hlt
      go_wp2
      go_ret
      exact ⟨q, c, zs, rfl, HL.out, HI.out, hbel⟩

end Go.Proofs.YtobmcaknfbooiaaDoor
