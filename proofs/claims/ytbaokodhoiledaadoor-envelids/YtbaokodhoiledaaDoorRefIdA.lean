/-
  EnvelopeId, whole, by what Digest answers.
-/
import Derived.Test.YtbaokodhoiledaaDoorRefId
import Derived.Test.YtbaokodhoiledaaDoorIdA
namespace Go.Proofs.YtbaokodhoiledaaDoor
open Classical
open Go.RowKit Go.Shelf

/-- refId, whole. -/
theorem refEId_any (R : Nat) (S : Option Addr) (kd : Int) (rl ep : Nat) (p : Option Addr) (len cap : Nat) (ids : List (List Nat)) (q : Option Addr) (lb cb : Nat) (bs : List Nat) (dd : List Nat) (hdd : IsKey32 dd) (x : Int) (hx : ¬ x = 0 → dd = List.replicate 32 0) (G : World → Prop) (hG : ∀ W W', (∀ t, t ≠ 38 → KeepT t W W') → Below R W W' → G W → G W') (w : World) (hN : R < w.heap.size)
    (hkd : kd < 9223372036854775808) (hrl : rl < 4294967296) (hep : ep < 4294967296) (hlen : len ≤ 40) (hlb : lb ≤ 1000) (hI : IsIds w.heap.size w p len cap ids) (hJ : IsBytes w.heap.size w q lb cb bs)
    (HD : okE kd ids = true → ∀ W p1 l1 c1, Below w.heap.size w W → IsBytes W.heap.size W p1 l1 c1 (putE kd.toNat rl ep ids bs) → Own (w.heap.size + 2) W (.slice p1 l1 c1) (putE kd.toNat rl ep ids bs) → Calls Tryd.prog 16 #[.pointer S, .slice p1 l1 c1] W fun e w' => e = .returned (.tuple #[.agg (u8s dd).toArray, .int .i64 x]) ∧ G w' ∧ RFr R W w') :
    Calls Tryd.prog 9 #[.pointer S, .agg #[.int .i64 kd, .int .u32 (rl : Nat), .int .u32 (ep : Nat), .slice p len cap, .slice q lb cb]] w fun e w' => ∃ v, e = .returned (.tuple #[.agg (u8s (resD (okE kd ids) dd)).toArray, v, .int .i64 (resX (okE kd ids) x)]) ∧ Own (w.heap.size + 2) w' v (resB (okE kd ids) x (putE kd.toNat rl ep ids bs)) ∧ (okE kd ids = true → G w') ∧ (okE kd ids = false → Below w.heap.size w w') ∧ RFr R w w' := by
  have hIW : ∀ W, Below w.heap.size w W → IsIds W.heap.size W p len cap ids ∧ IsBytes W.heap.size W q lb cb bs := fun W h => ⟨(hI.below h).mono h.size, (hJ.below h).mono h.size⟩
  cases hok : okE kd ids with
  | false =>
    refine (refEId_no S kd rl ep p len cap q lb cb w (fun W hW => ?_)).mono ?_
    · cases hkk : okKind kd with
      | false => exact refPut_bad kd rl ep p len cap q lb cb hkk W
      | true =>
        obtain ⟨k, rfl⟩ : ∃ k : Nat, kd = (k : Int) := ⟨kd.toNat, by simp [okKind] at hkk; omega⟩
        exact refPut_no k rl ep p len cap ids q lb cb bs hok hrl hep (by omega) (by omega) W (hIW W hW).1 (hIW W hW).2
    · rintro e w' ⟨rfl, hb⟩
      exact ⟨_, by rw [show resD false dd = List.replicate 32 0 from rfl, noKey_eq]; rfl, Own.nil _ _, fun h => (by cases h), fun _ => hb, RFr.of_below hb (by omega)⟩
  | true =>
    have hk : okKind kd = true := by unfold okE at hok; rw [Bool.and_eq_true] at hok; exact hok.1
    have hr : riseB ids = true := by unfold okE at hok; rw [Bool.and_eq_true] at hok; exact hok.2
    obtain ⟨k, rfl⟩ : ∃ k : Nat, kd = (k : Int) := ⟨kd.toNat, by simp [okKind] at hk; omega⟩
    rw [Int.toNat_natCast] at HD ⊢
    have hX : ∀ z ∈ putE k rl ep ids bs, z < 256 := putE_bytes k rl ep hI.2.2.2.1 hJ.2.2.2.1
    have HP : ∀ W, Below w.heap.size w W → Calls Tryd.prog 15 #[.agg #[.int .i64 (k : Nat), .int .u32 (rl : Nat), .int .u32 (ep : Nat), .slice p len cap, .slice q lb cb]] W fun e w' => ∃ v, e = .returned (.tuple #[v, .int .i64 0]) ∧ Own W.heap.size w' v (putE k rl ep ids bs) ∧ Below W.heap.size W w' := fun W hW => refPut_yes k rl ep p len cap ids q lb cb bs hok hrl hep (by omega) (by omega) W (hIW W hW).1 (hIW W hW).2
    by_cases hx0 : x = 0
    · subst hx0
      refine (refEId_ok R S (k : Int) rl ep p len cap q lb cb _ hX (u8s dd) (isKey_len hdd) (u8s_one _) G hG w hN HP (HD hok)).mono ?_
      rintro e w' ⟨v, rfl, h1, h2, h3⟩
      exact ⟨v, rfl, h1, fun _ => h2, fun h => (by cases h), h3⟩
    · refine (refEId_err R S (k : Int) rl ep p len cap q lb cb _ hX (u8s dd) (isKey_len hdd) (u8s_one _) x hx0 G hG w hN HP (HD hok)).mono ?_
      rintro e w' ⟨rfl, h2, h3⟩
      refine ⟨_, by rw [show resD true dd = dd from rfl, hx hx0, noKey_eq]; rfl, ?_, fun _ => h2, fun h => (by cases h), h3⟩
      rw [show resB true x (putE k rl ep ids bs) = [] by simp [resB, hx0]]
      exact Own.nil _ _

end Go.Proofs.YtbaokodhoiledaaDoor
