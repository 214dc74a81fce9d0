/-
  awake: a request that is put, and no bytes, which are no request.
-/
import Derived.Test.YtedpgdldekkgdaaOfQ
namespace Go.Proofs.Ytedpgdldekkgdaa
open Go.RowKit Go.Shelf

/-- The request that awake puts. -/
def awQ : Req := { noReq with kind := 3 }
theorem awQ_ok : awQ.ok := ⟨by simp [awQ, noReq], by simp [awQ, noReq], by simp [awQ], by simp [awQ, noReq], isId_zeros, isId_zeros, by simp [awQ, noReq]⟩
theorem built28k : Try.prog.built 28 [(2, .int .i64 3)] = some (reqC (.slice none 0 0) awQ).toArray := by kernel_rfl
theorem awQ_may : mayQ awQ [] = true := by decide
theorem awQ_len : (1 :: encQ awQ []).length = 72 := by decide
theorem none_isQ : isQ [] = false := by decide
theorem noBytes (W : World) : IsBytes W.heap.size W none 0 0 [] := ⟨rfl, Nat.le_refl _, by omega, (fun _ h => by cases h), .inl rfl⟩
theorem ofQ_nil (w : World) : Calls Try.prog 12 #[.slice none 0 0] w fun e w' => e = .returned (.tuple #[.agg (reqC (.slice none 0 0) noReq).toArray, .int .i64 180]) ∧ Below w.heap.size w w' := by
  refine (ofQ_any none 0 0 [] (by omega) w (noBytes w)).mono ?_
  rintro e w' (⟨h, _⟩ | ⟨_, h1, h2⟩)
  · rw [none_isQ] at h; cases h
  · exact ⟨h1, h2⟩
theorem awQ_bytes : ∀ z ∈ 1 :: encQ awQ [], z < 256 := fun z hz => by
  rcases List.mem_cons.1 hz with rfl | h
  · omega
  · exact encQ_bytes awQ_ok (fun _ h => by cases h) z h
theorem putQ_aw (w : World) : Calls Try.prog 10 #[.agg (reqC (.slice none 0 0) awQ).toArray] w fun e w' => ∃ g c, e = .returned (.tuple #[.slice (some ⟨g, 0, none⟩) 72 c, .int .i64 0]) ∧ g < w'.heap.size ∧ 1 ≤ c ∧ w'.cell? ⟨g, 0, none⟩ = some (.int .u8 1) ∧ Below w.heap.size w w' := by
  refine (putQ_some none 0 0 [] awQ awQ_ok awQ_may w (noBytes w)).mono ?_
  rintro e w' ⟨v, rfl, hO, hb⟩
  obtain ⟨q, c, rfl⟩ := own_len hO awQ_len
  obtain ⟨g, rfl, _, hg, hr⟩ := hO.cells (by omega)
  have hc := (hO.bytes awQ_bytes).2.1
  exact ⟨g, c, rfl, hg, by omega, hr 0 _ rfl, hb⟩

set_option maxRecDepth 100000 in
set_option maxHeartbeats 2000000 in
theorem awake_any (w : World) : Calls Try.prog 8 #[] w fun e w' => e = .returned (.bool true) ∧ Below w.heap.size w w' := by
  have HP := putQ_aw w
  have HBk : Hid (Try.prog.built 28 [(2, .int .i64 3)] = some (reqC (.slice none 0 0) awQ).toArray) := built28k
  go_enter Try.func8, Try.ntmps8
  go_wp2_with (first
    | ((with_reducible show wpList _ _ _ (Oper.mk (some 6) _ _ _ _ _ :: _) _ _); refine wpList_built_want (by rfl) 28 _ rfl _ _ (by simp only [List.map_toArray, List.map_cons, List.map_nil]; rfl) HBk.out ?_; simp only [Act.put, List.setIfInBounds_toArray, List.set_cons_zero, List.set_cons_succ])
    | (go_at_call 10; refine HP.mono ?_; rintro e w1 ⟨g, c, rfl, hg, hc1, hcell, hb1⟩; have HC : Hid (w1.cell? ⟨g, 0, none⟩ = some (.int .u8 1)) := hcell; have HO := ofQ_nil w1; clear hcell)
    | (go_at_call 12; refine HO.mono ?_; rintro e w2 ⟨rfl, hb2⟩)
    | ((with_reducible show wpList _ _ _ (Oper.mk _ (Op.store 28 (.tmp 3) (.tmp 12)) _ _ _ _ :: _) _ _); refine wpList_storeReq rfl (.tmp 3) (.tmp 12) rfl (.slice none 0 0) rfl noReq noReq_ok rfl rfl (fun w3 hb3 hE3 => ?_); have hb13 : Below w1.heap.size w1 w3 := hb2.trans (hb3.mono hb2.size); have hcell : w3.cell? ⟨g, 0, none⟩ = some (.int .u8 1) := (hb13.cell (p := ⟨g, 0, none⟩) hg).trans HC.out; clear hE3; simp only [Act.put]))
  go_ret
  exact ⟨rfl, hb1.trans (hb13.mono hb1.size)⟩
end Go.Proofs.Ytedpgdldekkgdaa
