/-
  Two ids, held against each other: bytes.Compare, envel.compare, the reference's less.
-/
import Derived.Test.YtfclbdlkpnoceaaOrder
import Derived.Test.YtfclbdlkpnoceaaSame
import Derived.Lib.BytesEntry
import Derived.Lib.Bytealg
import Derived.Laws.Entries
import Derived.BigQuiet
namespace Go.Proofs.Ytfclbdlkpnoceaa
open Go.RowKit

/-- Less, alike or greater. -/
def cmpB (a b : List Nat) : Int := if ltB a b = true then -1 else if ltB b a = true then 1 else 0
theorem cmpB_cons (x y : Nat) (a b : List Nat) : cmpB (x :: a) (y :: b) = if x < y then -1 else if y < x then 1 else cmpB a b := by
  unfold cmpB
  by_cases h1 : x < y
  · simp [ltB, h1]
  · by_cases h2 : y < x
    · simp [ltB, h1, h2, show ¬ x = y by omega]
    · obtain rfl : x = y := by omega
      simp [ltB]
theorem compareBytes_cmpB : ∀ (a b : List Nat), (∀ z ∈ a, z < 256) → (∀ z ∈ b, z < 256) → Lib.compareBytes (a.map fun z => UInt8.ofNat z) (b.map fun z => UInt8.ofNat z) = cmpB a b
  | [], [], _, _ => rfl
  | _ :: _, [], _, _ => rfl
  | [], _ :: _, _, _ => rfl
  | x :: a, y :: b, ha, hb => by
    have hx := ha x List.mem_cons_self
    have hy := hb y List.mem_cons_self
    have ih := compareBytes_cmpB a b (fun z h => ha z (List.mem_cons_of_mem _ h)) (fun z h => hb z (List.mem_cons_of_mem _ h))
    have e1 : ∀ {u v : Nat}, u < 256 → v < 256 → ((UInt8.ofNat u < UInt8.ofNat v) ↔ u < v) := fun {u v} hu hv => by
      rw [UInt8.lt_iff_toNat_lt]
      simp only [UInt8.toNat_ofNat']
      omega
    rw [cmpB_cons]
    simp only [List.map_cons, Lib.compareBytes, ih, e1 hx hy, e1 hy hx]
theorem cmpB_geq (a b : List Nat) : decide ((0 : Int) ≤ cmpB a b) = !ltB a b := by
  unfold cmpB
  cases h : ltB a b with
  | true => simp
  | false => cases ltB b a <;> simp
theorem cmpB_lss (a b : List Nat) : decide (cmpB a b < 0) = ltB a b := by
  unfold cmpB
  cases h : ltB a b with
  | true => simp
  | false => cases ltB b a <;> simp

theorem bytesOf_nats (zs : List Nat) : Lib.bytesOf (zs.map fun z : Nat => (z : Int)) = zs.map fun z => UInt8.ofNat z := by
  unfold Lib.bytesOf
  rw [List.map_map]
  rfl
theorem load_bytes {P : Program} {w : World} {b off n : Nat} {zs : List Nat} (hl : zs.length = n) (hc : ∀ i, i < n → w.cell? ⟨b, off + i, none⟩ = some (.int .u8 (zs.getD i 0 : Nat))) :
    (Extern.Bytes.loadBytes ⟨b, off, none⟩ n .empty).run P w = .ok ⟨(zs.map fun z => UInt8.ofNat z).toArray⟩ w := by
  have h := Lib.run_loadBytesX (P := P) w (zs.map fun z : Nat => (z : Int)) ⟨b, off, none⟩ .empty (fun j x hj => by
    have hjl : j < zs.length := by have := (List.getElem?_eq_some_iff.1 hj).1; simpa using this
    have e : (⟨b, off, none⟩ : Addr).add j = ⟨b, off + j, none⟩ := by unfold Addr.add; split <;> simp_all
    rw [e, hc j (by omega)]
    simp [List.getElem?_eq_getElem hjl] at hj
    simp [List.getElem?_eq_getElem hjl, hj])
  rw [List.length_map, hl, bytesOf_nats] at h
  rw [h]
  congr 1
  apply ByteArray.ext
  show (#[] : Array UInt8) ++ _ = _
  simp
/-- The model's entry, at two slices of bytes. -/
theorem run_compare {P : Program} {w : World} {b off n c b2 off2 n2 c2 : Nat} {xs ys : List Nat} (hx : xs.length = n) (hy : ys.length = n2) (hxz : ∀ z ∈ xs, z < 256) (hyz : ∀ z ∈ ys, z < 256)
    (hcx : ∀ i, i < n → w.cell? ⟨b, off + i, none⟩ = some (.int .u8 (xs.getD i 0 : Nat))) (hcy : ∀ i, i < n2 → w.cell? ⟨b2, off2 + i, none⟩ = some (.int .u8 (ys.getD i 0 : Nat))) :
    (Extern.BytealgCompare.compare #[.slice (some ⟨b, off, none⟩) n c, .slice (some ⟨b2, off2, none⟩) n2 c2]).run P w = .ok (.int .i64 (cmpB xs ys)) w := by
  change Sem.run P (do pure (goInt (Extern.BytealgCompare.cmp (← Extern.Bytes.bytesOf (.slice (some ⟨b, off, none⟩) n c)) (← Extern.Bytes.bytesOf (.slice (some ⟨b2, off2, none⟩) n2 c2))))) w = _
  simp only [Extern.Bytes.bytesOf, Sem.run_bind, Sem.run_pure, load_bytes hx hcx, load_bytes hy hcy, Result.andThen]
  rw [Lib.cmp_eq]
  simp only [compareBytes_cmpB xs ys hxz hyz]
  rfl

set_option maxRecDepth 100000 in
set_option maxHeartbeats 1000000 in
/-- bytes.Compare -/
theorem bytesCompare_any (b off n c b2 off2 n2 c2 : Nat) (xs ys : List Nat) (w : World) (hx : xs.length = n) (hy : ys.length = n2) (hxz : ∀ z ∈ xs, z < 256) (hyz : ∀ z ∈ ys, z < 256)
    (hcx : ∀ i, i < n → w.cell? ⟨b, off + i, none⟩ = some (.int .u8 (xs.getD i 0 : Nat))) (hcy : ∀ i, i < n2 → w.cell? ⟨b2, off2 + i, none⟩ = some (.int .u8 (ys.getD i 0 : Nat))) :
    Calls Try.prog 53 #[.slice (some ⟨b, off, none⟩) n c, .slice (some ⟨b2, off2, none⟩) n2 c2] w fun e w' => e = .returned (.int .i64 (cmpB xs ys)) ∧ w' = w := by
  have HR : Hid ((Extern.BytealgCompare.compare #[.slice (some ⟨b, off, none⟩) n c, .slice (some ⟨b2, off2, none⟩) n2 c2]).run Try.prog w = .ok (.int .i64 (cmpB xs ys)) w) := run_compare hx hy hxz hyz hcx hcy
  clear hcx hcy
  generalize cmpB xs ys = r at *
  go_enter Try.func53, Try.ntmps53
  go_wp2
  rw [run_callFunc_extern Try.func70 (by kernel_rfl) (by kernel_rfl) (by kernel_rfl) (e := Extern.BytealgCompare.compare) (by kernel_rfl), HR.out]
  simp only [Result.andThen]
  rw [Oper.upon_value]
  go_wp2
  go_ret
  exact ⟨rfl, rfl⟩

theorem row_cells {W : World} {b : Nat} {x : List Nat} (h : Row W b 33 (u8s x)) {n : Nat} (hl : x.length = n) : ∀ i, i < n → W.cell? ⟨b, 0 + i, none⟩ = some (.int .u8 (x.getD i 0 : Nat)) := fun i hi => by
  rw [Nat.zero_add]; exact h.cell (u8s_at (by omega))
/-- An id: 32 bytes. -/
def IsId (x : List Nat) : Prop := x.length = 32 ∧ ∀ z ∈ x, z < 256

set_option maxRecDepth 100000 in
set_option maxHeartbeats 1000000 in
/-- envel.compare -/
theorem compare_any (x y : List Nat) (hx : IsId x) (hy : IsId y) (w : World) :
    Calls Try.prog 41 #[.agg (u8s x).toArray, .agg (u8s y).toArray] w fun e w' => e = .returned (.int .i64 (cmpB x y)) ∧ ∃ q, w' = ((w.alloc (.cells (u8s x).toArray 33)).alloc (.cells (u8s y).toArray 33)).drewN q := by
  have r1 := (Row.new' w 33 (u8s x)).alloc (.cells (u8s y).toArray 33)
  have r2 := Row.new' (w.alloc (.cells (u8s x).toArray 33)) 33 (u8s y)
  rw [World.size_alloc] at r2
  have HB : Hid (∀ q, Calls Try.prog 53 #[.slice (some ⟨w.heap.size, 0, none⟩) 32 32, .slice (some ⟨w.heap.size + 1, 0, none⟩) 32 32] (((w.alloc (.cells (u8s x).toArray 33)).alloc (.cells (u8s y).toArray 33)).drewN q) fun e w' => e = .returned (.int .i64 (cmpB x y)) ∧ w' = ((w.alloc (.cells (u8s x).toArray 33)).alloc (.cells (u8s y).toArray 33)).drewN q) := fun q =>
    bytesCompare_any _ 0 32 32 _ 0 32 32 x y _ hx.1 hy.1 hx.2 hy.2 (row_cells (r1.drewN q) hx.1) (row_cells (r2.drewN q) hy.1)
  clear r1 r2
  generalize cmpB x y = r at *
  generalize u8s x = X at *
  generalize u8s y = Y at *
  go_enter Try.func41, Try.ntmps41
  go_wp2
  go_quiet ((go_at_call 53; exact Calls.mono (HB.out _) (fun _ _ h => ⟨h.1, _, h.2⟩)))
  go_wp2
  go_ret
  exact ⟨rfl, _, rfl⟩

set_option maxRecDepth 100000 in
set_option maxHeartbeats 1000000 in
/-- The reference's less -/
theorem less_any (x y : List Nat) (hx : IsId x) (hy : IsId y) (w : World) :
    Calls Try.prog 45 #[.agg (u8s x).toArray, .agg (u8s y).toArray] w fun e w' => e = .returned (.bool (ltB x y)) ∧ ∃ q, w' = ((w.alloc (.cells (u8s x).toArray 33)).alloc (.cells (u8s y).toArray 33)).drewN q := by
  have r1 := (Row.new' w 33 (u8s x)).alloc (.cells (u8s y).toArray 33)
  have r2 := Row.new' (w.alloc (.cells (u8s x).toArray 33)) 33 (u8s y)
  rw [World.size_alloc] at r2
  have hs1 : ∀ q, (convert 95 9 (.slice (some ⟨w.heap.size, 0, none⟩) 32 32)).run Try.prog (((w.alloc (.cells (u8s x).toArray 33)).alloc (.cells (u8s y).toArray 33)).drewN q) = .ok (.string (strOf x)) (((w.alloc (.cells (u8s x).toArray 33)).alloc (.cells (u8s y).toArray 33)).drewN q) := fun q =>
    (str_of_cells hx.1 (r1.drewN q).lt (row_cells (r1.drewN q) hx.1)).here
  have hs2 : ∀ q, (convert 95 9 (.slice (some ⟨w.heap.size + 1, 0, none⟩) 32 32)).run Try.prog (((w.alloc (.cells (u8s x).toArray 33)).alloc (.cells (u8s y).toArray 33)).drewN q) = .ok (.string (strOf y)) (((w.alloc (.cells (u8s x).toArray 33)).alloc (.cells (u8s y).toArray 33)).drewN q) := fun q =>
    (str_of_cells hy.1 (r2.drewN q).lt (row_cells (r2.drewN q) hy.1)).here
  have hlt : Op.bytesLess (strOf x).toList (strOf y).toList = ltB x y := less_strOf hx.2 hy.2
  clear r1 r2
  generalize ltB x y = r at *
  generalize strOf x = sx at *
  generalize strOf y = sy at *
  generalize u8s x = X at *
  generalize u8s y = Y at *
  go_enter Try.func45, Try.ntmps45
  go_wp2
  go_quiet (fail)
  go_wp2
  go_ret
  exact ⟨rfl, _, rfl⟩
end Go.Proofs.Ytfclbdlkpnoceaa
