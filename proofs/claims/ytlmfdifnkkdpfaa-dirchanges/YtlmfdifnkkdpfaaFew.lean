/-
  The law's Few.
-/
import Derived.Test.YtlmfdifnkkdpfaaEnt
namespace Go.Proofs.Ytlmfdifnkkdpfaa
open Go.RowKit

def shortB (e : Ent) : Bool := decide (e.name.size ≤ 200)
def fewB (es : List Ent) : Bool := es.all shortB && decide (es.length ≤ 40)

set_option maxRecDepth 100000 in
set_option maxHeartbeats 1000000 in
theorem few_any (p : Option Addr) (len cap : Nat) (es : List Ent) (w : World) (hI : IsEnts w.heap.size w p len cap es) :
    Calls Try.prog 9 #[.slice p len cap] w fun e w' => e = .returned (.bool (fewB es)) ∧ Below w.heap.size w w' := by
  have HI : Hid (IsEnts w.heap.size w p len cap es) := hI
  have HL : Hid (es.length = len) := hI.1
  have hlc := hI.2.1
  have hcc := hI.2.2.1
  clear hI
  go_enter Try.func9, Try.ntmps9
  go_wp2
  go_loopw [7] (fun i wr => ∃ (k : Nat), k ≤ len ∧ i = .int .i64 k ∧ (es.take k).all shortB = true ∧ Below w.heap.size w wr) (fun i _ => len - (intOf i).toNat)
  case atStart => exact ⟨0, Nat.zero_le _, rfl, rfl, Below.refl _ _⟩
  case round =>
    obtain ⟨k, hk, rfl, hall, hbel⟩ := hrel
    have HAll : Hid ((es.take k).all shortB = true) := hall
    clear hall
    by_cases hlt : k < len
    · have hki : (k : Int) < (len : Int) := by omega
      obtain ⟨b, off, rfl, hb, hrg, hok, hmem⟩ := (HI.out.below hbel).at hlt
      have HT : Hid (es.take (k + 1) = es.take k ++ [es.getD k noEnt]) := ent_take es (by rw [HL.out]; exact hlt)
      have HRg : Hid (wr.rangeAt b (off + k * 100) (entC (es.getD k noEnt))) := hrg
      have HM : Hid (es.getD k noEnt ∈ es) := hmem
      clear hrg hmem
      generalize es.getD k noEnt = x at *
      have hsz := hbel.size
      by_cases h1 : 200 < x.name.size
      · have h1i : (200 : Int) < (x.name.size : Int) := by omega
        go_wp2_with (first
          | ((with_reducible show wpList _ _ _ (Oper.mk _ (Op.load 43 (.tmp 9)) _ _ _ _ :: _) _ _); refine wpList_loadEnt rfl (.tmp 9) rfl rfl hok HRg.out ?_; simp only [Act.put, List.setIfInBounds_toArray, List.set_cons_zero, List.set_cons_succ])
          | ((with_reducible show wpList _ _ _ (Oper.mk _ (Op.store 43 (.tmp 4) (.tmp 10)) _ _ _ _ :: _) _ _); refine wpList_storeNew rfl (.tmp 4) (.tmp 10) rfl x hok rfl rfl (fun W2 hb2 hE => ?_); have hcN := hE.name; have hcK := hE.kind; have HE : Hid (EntAt _ _ _) := hE; clear hE; simp only [Act.put])
          )
        go_ret
        refine ⟨?_, hbel.trans (hb2.mono hsz)⟩
        rw [fewB, show es.all shortB = false by rw [List.all_eq_false]; exact ⟨x, HM.out, by simp [shortB]; omega⟩]
        rfl
      · have h1i : ¬ (200 : Int) < (x.name.size : Int) := by omega
        go_wp2_with (first
          | ((with_reducible show wpList _ _ _ (Oper.mk _ (Op.load 43 (.tmp 9)) _ _ _ _ :: _) _ _); refine wpList_loadEnt rfl (.tmp 9) rfl rfl hok HRg.out ?_; simp only [Act.put, List.setIfInBounds_toArray, List.set_cons_zero, List.set_cons_succ])
          | ((with_reducible show wpList _ _ _ (Oper.mk _ (Op.store 43 (.tmp 4) (.tmp 10)) _ _ _ _ :: _) _ _); refine wpList_storeNew rfl (.tmp 4) (.tmp 10) rfl x hok rfl rfl (fun W2 hb2 hE => ?_); have hcN := hE.name; have hcK := hE.kind; have HE : Hid (EntAt _ _ _) := hE; clear hE; simp only [Act.put])
          )
        go_roundw
        case rel =>
          refine ⟨k + 1, by omega, by go_num, ?_, hbel.trans (hb2.mono hsz)⟩
          rw [HT.out, List.all_append, HAll.out, List.all_cons, List.all_nil, shortB, decide_eq_true (show x.name.size ≤ 200 by omega)]
          rfl
        case measure => simp [intOf]; omega
    · obtain rfl : k = len := by omega
      have HE : Hid (es.all shortB = true) := by
        show _ = _
        have h := HAll.out
        rwa [List.take_of_length_le (by rw [HL.out]; exact Nat.le_refl _)] at h
      clear HAll
      go_wp2
      go_ret
      refine ⟨?_, hbel⟩
      rw [fewB, HE.out, HL.out, Bool.true_and]
      by_cases h20 : k ≤ 40
      · have h20i : (k : Int) ≤ 40 := by omega
        simp [h20, h20i]
      · have h20i : ¬ (k : Int) ≤ 40 := by omega
        simp [h20, h20i]
theorem few_len {es : List Ent} (h : fewB es = true) : es.length ≤ 40 := by
  simp [fewB] at h; exact h.2
theorem few_name {es : List Ent} (h : fewB es = true) : ∀ e ∈ es, e.name.size ≤ 200 := by
  simp [fewB, shortB] at h; exact h.1
end Go.Proofs.Ytlmfdifnkkdpfaa
