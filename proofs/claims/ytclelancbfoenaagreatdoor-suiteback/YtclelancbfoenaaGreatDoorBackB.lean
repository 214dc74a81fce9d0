/-
  What a real suite and the reference answer to the same bytes with any key and any words beside them: the same.
-/
import Derived.Test.YtclelancbfoenaaGreatDoorRefOpen
import Derived.Test.YtclelancbfoenaaGreatDoorSReal2
namespace Go.Proofs.YtclelancbfoenaaGreatDoor
open Go.RowKit Go.Shelf

theorem bucketN_300 {n : Nat} (h : n ≤ 300) : bucketN (n : Int) ≤ 1024 ∧ 32 ≤ bucketN (n : Int) := by
  have key : ∀ m : Fin 301, bucketN ((m.1 : Nat) : Int) ≤ 1024 ∧ 32 ≤ bucketN ((m.1 : Nat) : Int) := by decide +kernel
  exact key ⟨n, by omega⟩
theorem sealN_length {k a p : List Nat} (hp : p.length ≤ 60000) : (sealN k a p).length = 44 + bucketN (p.length : Int) := by
  unfold sealN turnedN
  rw [List.length_append, List.length_append, nonceN_length, tagN_length, Re.streamN_length, Re.padL_length (by omega)]
  omega

/-- Open of both, with another key and other words. -/
theorem other_both (S : Nat) (t d gg : Option Addr) (X : Nat) (vs : List Value) (k : List Nat) (hk : IsKey32 k) (pa : Option Addr) (la ca : Nat) (za : List Nat) (hla : la ≤ 1000) (zc : List Nat) (hz : ∀ z ∈ zc, z < 256) (h76 : 76 ≤ zc.length) (hlc : zc.length ≤ 8000) :
    ∃ (T : List Nat) (G : Int), (∀ (W : World) (b off cap : Nat), Sh.Tab W → Re.Tab W → SuiteAt W S 0 t d gg → IsBytes W.heap.size W pa la ca za → IsBytes W.heap.size W (some ⟨b, off, none⟩) zc.length cap zc → Calls Tryz.prog 7 #[.pointer (some ⟨S, 0, none⟩), .agg (u8s k).toArray, .slice pa la ca, .slice (some ⟨b, off, none⟩) zc.length cap] W fun e w' => ∃ v, e = .returned (.tuple #[v, .int .i64 G]) ∧ Str w' v (strOf T) ∧ Below W.heap.size W w') ∧
      (∀ (W : World) (b off cap : Nat), Row W X 34 (.int .i64 0 :: vs) → IsBytes W.heap.size W pa la ca za → IsBytes W.heap.size W (some ⟨b, off, none⟩) zc.length cap zc → Calls Tryz.prog 8 #[.pointer (some ⟨X, 0, none⟩), .agg (u8s k).toArray, .slice pa la ca, .slice (some ⟨b, off, none⟩) zc.length cap] W fun e w' => ∃ v, e = .returned (.tuple #[v, .int .i64 G]) ∧ Str w' v (strOf T) ∧ Below W.heap.size W w') := by
  by_cases h : Re.IsPad (heldP k zc) ∧ sealN k za (Re.toldL (heldP k zc)) = zc
  · refine ⟨Re.toldL (heldP k zc), 0, fun W b off cap hT hTr hs hIa hIc => ?_, fun W b off cap hX hIa hIc => ?_⟩
    · have hpl := heldP_length (k := k) (zc := zc) (by omega)
      have hpz : ∀ z ∈ heldP k zc, z < 256 := Re.streamN_lt _ _ _ (fun z hzz => hz z (List.mem_of_mem_drop (List.mem_of_mem_take hzz)))
      have htl : (Re.toldL (heldP k zc)).length = Re.wordAt (heldP k zc) 0 := Re.toldL_length h.1.2.1
      have hw4 := h.1.2.1
      have hbu := h.1.bucket (by omega)
      refine (open_real S t d gg k hk pa la ca za (by omega) (Re.toldL (heldP k zc)) (by omega) (Re.toldL_lt hpz) (by rw [htl, hbu]; omega) b off zc.length cap W hT hTr hs hIa (by rw [h.2]; exact hIc)).mono ?_
      rintro e w' ⟨v, rfl, hO, hb⟩
      exact ⟨v, rfl, own_str hO, hb⟩
    · refine (refOpen_any X vs k hk pa la ca za hla b off zc.length cap zc hlc h76 W hX hIa hIc).mono ?_
      rintro e w' ⟨v, g, rfl, hc, hb⟩
      rcases hc with ⟨_, _, rfl, hS⟩ | ⟨hn, _⟩
      · exact ⟨v, rfl, hS, hb⟩
      · exact absurd h hn
  · refine ⟨[], 70, fun W b off cap hT hTr hs hIa hIc => ?_, fun W b off cap hX hIa hIc => ?_⟩
    · refine (open_real_not S t d gg k hk pa la ca za (by omega) b off zc.length cap zc (by omega) W hT hTr (fun p hp hpl e => h ?_) hs hIa hIc).mono ?_
      · have hP := Re.isPad_padL (zs := p) (by omega)
        rw [← e, heldP_seal]
        exact ⟨hP.1, by rw [hP.2]⟩
      · rintro e w' ⟨rfl, hb⟩
        exact ⟨_, rfl, str_none _ _ _, hb⟩
    · refine (refOpen_any X vs k hk pa la ca za hla b off zc.length cap zc hlc h76 W hX hIa hIc).mono ?_
      rintro e w' ⟨v, g, rfl, hc, hb⟩
      rcases hc with ⟨h1, h2, _⟩ | ⟨_, rfl, hS⟩
      · exact absurd ⟨h1, h2⟩ h
      · exact ⟨v, rfl, hS, hb⟩
end Go.Proofs.YtclelancbfoenaaGreatDoor
