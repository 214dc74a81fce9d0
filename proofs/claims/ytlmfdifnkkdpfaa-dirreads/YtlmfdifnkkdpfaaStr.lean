/-
  Texts of bytes: what string(b) is for a slice of bytes, in whatever world lies behind; when two such texts are alike.
-/
import Derived.Test.YtlmfdifnkkdpfaaOwn
import Derived.Laws.BytesArg
import Derived.ProofKit
namespace Go.Proofs.Ytlmfdifnkkdpfaa
open Go.RowKit

/-- The text of some bytes. -/
def strOf (zs : List Nat) : ByteArray := strOfNums (zs.map fun z : Nat => (z : Int))

theorem strOf_toList (zs : List Nat) : (strOf zs).toList = zs.map fun z => UInt8.ofNat z := by
  rw [ByteArray.toList_eq, strOf, strOfNums_data, List.map_map]
  rfl

theorem ofNat_inj {a b : Nat} (ha : a < 256) (hb : b < 256) (h : UInt8.ofNat a = UInt8.ofNat b) : a = b := by
  have := congrArg UInt8.toNat h
  simp at this
  omega

theorem map_ofNat_inj : ∀ {za zb : List Nat}, (∀ z ∈ za, z < 256) → (∀ z ∈ zb, z < 256) → za.map UInt8.ofNat = zb.map UInt8.ofNat → za = zb
  | [], [], _, _, _ => rfl
  | [], _ :: _, _, _, h => by simp at h
  | _ :: _, [], _, _, h => by simp at h
  | a :: za, b :: zb, ha, hb, h => by
    simp only [List.map_cons, List.cons.injEq] at h
    rw [ofNat_inj (ha a (by simp)) (hb b (by simp)) h.1, map_ofNat_inj (fun z hz => ha z (by simp [hz])) (fun z hz => hb z (by simp [hz])) h.2]

theorem strOf_eq (za zb : List Nat) (ha : ∀ z ∈ za, z < 256) (hb : ∀ z ∈ zb, z < 256) : ((strOf za).toList == (strOf zb).toList) = decide (za = zb) := by
  rw [Bool.eq_iff_iff]
  simp only [beq_iff_eq, decide_eq_true_eq, strOf_toList]
  exact ⟨map_ofNat_inj ha hb, fun h => by rw [h]⟩

/-- In whatever world that keeps what lies now, string(v) is s. -/
def Str (W : World) (v : Value) (s : ByteArray) : Prop := ∀ W', Below W.heap.size W W' → (convert 25 9 v).run Try.prog W' = .ok (.string s) W'

theorem Str.later {W W' : World} {v : Value} {s : ByteArray} (h : Str W v s) (hb : Below W.heap.size W W') : Str W' v s := fun W'' h' => h W'' (hb.trans (h'.mono hb.size))
theorem Str.here {W : World} {v : Value} {s : ByteArray} (h : Str W v s) : (convert 25 9 v).run Try.prog W = .ok (.string s) W := h W (Below.refl _ _)

theorem strOf_nil : strOf [] = ByteArray.empty := by
  simp [strOf, strOfNums, ByteArray.empty, ByteArray.emptyWithCapacity]
  rfl

theorem str_none (W : World) (p : Option Addr) (c : Nat) : Str W (.slice p 0 c) (strOf []) := fun W' _ => by
  cases p with
  | none => rw [strOf_nil]; exact run_convert_bytes_nil W' 25 5 Try.underlying25 Try.underlying5 0 c 9 Try.underlying9
  | some a =>
    rw [run_convert_bytes_string W' 25 9 5 _ 0 c Try.underlying25 Try.underlying5 Try.underlying9]
    have := run_bytesToString (P := Try.prog) W' a 0 c [] (by simp [loadCells, loadCellsFrom])
    rw [strOf_nil]; exact this

theorem str_of_cells {W : World} {b off len cap : Nat} {zs : List Nat} (hl : zs.length = len) (hb : b < W.heap.size) (h : ∀ i, i < len → W.cell? ⟨b, off + i, none⟩ = some (.int .u8 (zs.getD i 0 : Nat))) :
    Str W (.slice (some ⟨b, off, none⟩) len cap) (strOf zs) := fun W' hW =>
  run_convert_bytes_arg W' 25 5 Try.underlying25 Try.underlying5 b off len cap (zs.map fun z : Nat => (z : Int)) (by simpa using hl) (fun i hi => by
    rw [(hW.cell (p := ⟨b, off + i, none⟩) hb).trans (h i hi)]
    have hi' : i < zs.length := by omega
    simp [List.getElem?_eq_getElem hi']) 9 Try.underlying9

theorem str_of_bytes {W : World} {p : Option Addr} {len cap : Nat} {zs : List Nat} (h : IsBytes W.heap.size W p len cap zs) : Str W (.slice p len cap) (strOf zs) := by
  obtain ⟨h1, h2, h3, h4, rfl | ⟨b, off, rfl, hb, hc⟩⟩ := h
  · obtain rfl := List.length_eq_zero_iff.1 h1
    exact str_none W p cap
  · exact str_of_cells h1 hb hc

theorem str_of_row {W : World} {n₀ : Nat} {v : Value} {k : Nat} {zs : List Nat} (hl : zs.length = k) (h : W.ownsRow n₀ 5 1 v k (u8s zs)) : Str W v (strOf zs) := by
  rcases h.2 with ⟨rfl, rfl⟩ | ⟨g, cap, cur, rfl, hg, hgb, _⟩
  · obtain rfl := List.length_eq_zero_iff.1 hl
    exact str_none W none 0
  · refine str_of_cells hl (Array.getElem?_eq_some_iff.1 hgb).1 (fun i hi => ?_)
    rw [Nat.zero_add, h.cellAt i (by omega), u8s_at (by omega)]

end Go.Proofs.Ytlmfdifnkkdpfaa
