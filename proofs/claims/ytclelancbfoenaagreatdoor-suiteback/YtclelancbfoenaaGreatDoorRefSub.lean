/-
  The reference's sub: a key out of a key.
-/
import Derived.Test.YtclelancbfoenaaGreatDoorRSeal
import Derived.Test.YtclelancbfoenaaGreatDoorShMac3
import Derived.Lib.ConvBytes
namespace Go.Proofs.YtclelancbfoenaaGreatDoor
open Go.RowKit Go.Shelf

/-- A text of one letter, as bytes. -/
theorem conv_one (m : UInt8) (w : World) : ∃ w' c, (convert 9 24 (.string ⟨#[m]⟩)).run Tryz.prog w = .ok (.slice (some ⟨w.heap.size, 0, none⟩) 1 c) w' ∧ IsBytes w'.heap.size w' (some ⟨w.heap.size, 0, none⟩) 1 c [m.toNat] ∧ Below w.heap.size w w' := by
  have h := Lib.run_convert_string_bytes (P := Tryz.prog) w 9 24 5 ⟨#[m]⟩ Tryz.underlying9 Tryz.underlying24 Tryz.underlying5
  have hge := grownCap_ge w 1 0 5
  have hle := grownCap_le_maxLen w 1 0 5 (by simp only [maxLen]; omega)
  refine ⟨_, _, h, ⟨rfl, hge, by simp only [maxLen] at hle; exact Nat.le_trans hle (by omega), (fun z hz => by simp at hz; subst hz; exact m.toNat_lt), .inr ⟨w.heap.size, 0, rfl, by rw [Lib.bytesWorld_size]; omega, fun i hi => ?_⟩⟩, ⟨?_, ?_, ?_, ?_, fun k hk => Lib.bytesWorld_at_old w 5 _ k hk⟩⟩
  · obtain rfl : i = 0 := by omega
    exact Lib.bytesWorld_cell w 5 ⟨#[m]⟩ 0 (by show 0 < 1; omega)
  · simp [Lib.bytesWorld, World.freeze, World.alloc, World.drew, -World.alloc_eq, -World.drew_eq]
  · simp [Lib.bytesWorld, World.freeze, World.alloc, World.drew, -World.alloc_eq, -World.drew_eq]
  · simp [Lib.bytesWorld, World.freeze, World.alloc, World.drew, -World.alloc_eq, -World.drew_eq]
  · rw [Lib.bytesWorld_size]; omega

set_option maxRecDepth 100000 in
set_option maxHeartbeats 1000000 in
theorem sub_any (k : List Nat) (hk : IsKey32 k) (m : UInt8) (w : World) :
    Calls Tryz.prog 20 #[.agg (u8s k).toArray, .string ⟨#[m]⟩] w fun e w' => ∃ g, e = .returned (.slice (some ⟨g, 0, none⟩) 32 32) ∧ w.heap.size ≤ g ∧ Row w' g 39 (u8s (useN k m.toNat)) ∧ Below w.heap.size w w' := by
  obtain ⟨V, hV⟩ : ∃ V, u8s (useN k m.toNat) = V := ⟨_, rfl⟩
  have HV : Hid (V.length = 32) := by show _ = _; rw [← hV, u8s_length]; exact (useN_key k m.toNat).1
  have HV1 : Hid (∀ v ∈ V, v.oneCell' = true) := by rw [← hV]; exact u8s_one _
  have hb0 : Below w.heap.size w (w.alloc (.cells (u8s k).toArray 23)) := (Below.refl _ w).alloc (Nat.le_refl _) _
  have hk0 : Row (w.alloc (.cells (u8s k).toArray 23)) w.heap.size 23 (u8s k) := Row.new' w 23 (u8s k)
  obtain ⟨w1, c1, hcv, hI1, hb1⟩ := conv_one m (w.alloc (.cells (u8s k).toArray 23))
  rw [World.size_alloc] at hcv hI1 hb1
  have HM : Hid (Calls Tryz.prog 43 #[.slice (some ⟨w.heap.size, 0, none⟩) 32 32, .slice (some ⟨w.heap.size + 1, 0, none⟩) 1 c1] w1 fun e w' => e = .returned (.agg V.toArray) ∧ Below w1.heap.size w1 w') := by
    have h := Sh.refMac_any (some ⟨w.heap.size, 0, none⟩) 32 32 k (by omega) (some ⟨w.heap.size + 1, 0, none⟩) 1 c1 [m.toNat] (by omega) w1 (bytes_of_box (hk0.below hb1 (by omega)) hk.1 (by omega) hk.2) hI1
    rw [show Sh.macN k [m.toNat] = useN k m.toNat from rfl, hV] at h
    exact h
  have hB1 : Below w.heap.size w w1 := hb0.trans (hb1.mono (by omega))
  rw [hV]
  clear hk0 hI1 hb1 hV hb0
  go_enter Tryz.func20, Tryz.ntmps20
  go_wp2_with (first
    | (go_at_call 43; refine HM.out.mono ?_; rintro e w2 ⟨rfl, hb2⟩; have hB2 := hB1.trans (hb2.mono hB1.size); clear hb2)
    | ((with_reducible show wpList _ _ _ (Oper.mk _ (Op.store 39 (.tmp 5) (.tmp 9)) _ _ _ _ :: _) _ _); rw [z32u8]; refine wpList_store_Row rfl 39 (.tmp 5) (.tmp 9) rfl V rfl rfl (Row.new' w2 39 (List.replicate 32 (Value.int .u8 0))) (by rw [HV.out]; kernel_rfl) (by rw [HV.out]; rfl) HV1.out ?_; simp only [Act.put]))
  go_ret
  exact ⟨_, rfl, hB2.size, (Row.new' w2 39 (List.replicate 32 (Value.int .u8 0))).sets_all (by rw [HV.out]; rfl), below_setCells hB2.size _ _ (hB2.alloc hB2.size _)⟩
end Go.Proofs.YtclelancbfoenaaGreatDoor
