/-
  What sha.turned answers: the eight words behind all rounds.
-/
import Derived.Test.YtkpjbleogjmbjaaDoorBaseAll
import Derived.Test.YtkpjbleogjmbjaaDoorShA
import Derived.WalkMore
namespace Go.Proofs.YtkpjbleogjmbjaaDoor.Sh
open Go.RowKit
attribute [local go_sem] Oper.semAt_some

theorem size98 : (Tryd.prog.info? 98).map (·.size) = some 8 := by kernel_rfl

set_option maxRecDepth 100000 in
set_option maxHeartbeats 2000000 in
theorem turned_any (s : St) (hs : s.ok) (B : Nat) (ws : List Nat) (hl : ws.length = 64) (hw : ∀ z ∈ ws, z < 4294967296) (w : World) (hT : Tab w) (hB : Row w B 112 (u32s ws)) :
    Calls Tryd.prog 52 #[.agg (u32s s.list).toArray, .pointer (some ⟨B, 0, none⟩)] w fun e w' => e = .returned (.agg (u32s (roundsN ws 64 s).list).toArray) ∧ Below w.heap.size w w' := by
  obtain ⟨R, hR0, hRs, hRok, hR64⟩ : ∃ R : Nat → St, R 0 = s ∧ (∀ k, R (k + 1) = roundN (kW.getD k 0) (ws.getD k 0) (R k)) ∧ (∀ k, (R k).ok) ∧ R 64 = roundsN ws 64 s := ⟨fun k => roundsN ws k s, rfl, fun _ => rfl, roundsN_ok hs, rfl⟩
  rw [← hR64]
  have HR0 : Hid (R 0 = s) := hR0
  have HRs : Hid (∀ k, R (k + 1) = roundN (kW.getD k 0) (ws.getD k 0) (R k)) := hRs
  have HRok : Hid (∀ k, (R k).ok) := hRok
  clear hR0 hRs hRok hR64
  have HL : Hid (ws.length = 64) := hl
  have HW : Hid (∀ z ∈ ws, z < 4294967296) := hw
  have HT : Hid (Tab w) := hT
  have HB : Hid (Row w B 112 (u32s ws)) := hB
  clear hs hl hw hT hB
  rw [show u32s s.list = [.int .u32 (s.a : Nat), .int .u32 (s.b : Nat), .int .u32 (s.c : Nat), .int .u32 (s.d : Nat), .int .u32 (s.e : Nat), .int .u32 (s.f : Nat), .int .u32 (s.g : Nat), .int .u32 (s.h : Nat)] from rfl]
  go_enter Tryd.func52, Tryd.ntmps52
  go_wp2
  go_step3
  go_wp2
  go_quiet (fail)
  go_wp2
  go_step3
  go_wp2
  rw [z8u32]
  have rR : Row (((w.alloc (Obj.cells #[Value.int .u32 (s.a : Nat), Value.int .u32 (s.b : Nat), Value.int .u32 (s.c : Nat), Value.int .u32 (s.d : Nat), Value.int .u32 (s.e : Nat), Value.int .u32 (s.f : Nat), Value.int .u32 (s.g : Nat), Value.int .u32 (s.h : Nat)] 98)).alloc (Obj.cells (List.replicate 8 (Value.int .u32 0)).toArray 98)).drewN nq) (w.heap.size + 1) 98 (List.replicate 8 (Value.int .u32 0)) := by
    have := Row.new' (w.alloc (Obj.cells #[Value.int .u32 (s.a : Nat), Value.int .u32 (s.b : Nat), Value.int .u32 (s.c : Nat), Value.int .u32 (s.d : Nat), Value.int .u32 (s.e : Nat), Value.int .u32 (s.f : Nat), Value.int .u32 (s.g : Nat), Value.int .u32 (s.h : Nat)] 98)) 98 (List.replicate 8 (Value.int .u32 0))
    rw [World.size_alloc] at this
    exact this.drewN nq
  have hb1 : Below w.heap.size w (((w.alloc (Obj.cells #[Value.int .u32 (s.a : Nat), Value.int .u32 (s.b : Nat), Value.int .u32 (s.c : Nat), Value.int .u32 (s.d : Nat), Value.int .u32 (s.e : Nat), Value.int .u32 (s.f : Nat), Value.int .u32 (s.g : Nat), Value.int .u32 (s.h : Nat)] 98)).alloc (Obj.cells (List.replicate 8 (Value.int .u32 0)).toArray 98)).drewN nq) :=
    below_drewN (((Below.refl _ w).alloc (Nat.le_refl _) _).alloc (by simp) _) nq
  generalize (((w.alloc (Obj.cells #[Value.int .u32 (s.a : Nat), Value.int .u32 (s.b : Nat), Value.int .u32 (s.c : Nat), Value.int .u32 (s.d : Nat), Value.int .u32 (s.e : Nat), Value.int .u32 (s.f : Nat), Value.int .u32 (s.g : Nat), Value.int .u32 (s.h : Nat)] 98)).alloc (Obj.cells (List.replicate 8 (Value.int .u32 0)).toArray 98)).drewN nq) = w3 at *
  go_loopw [5, 6, 7, 8, 9, 10, 11, 12, 13] (fun va vb vc vd ve vf vg vh vi wr => ∃ k : Nat, k ≤ 64 ∧ vi = .int .i64 k ∧ va = .int .u32 ((R k).a : Nat) ∧ vb = .int .u32 ((R k).b : Nat) ∧ vc = .int .u32 ((R k).c : Nat) ∧ vd = .int .u32 ((R k).d : Nat) ∧ ve = .int .u32 ((R k).e : Nat) ∧ vf = .int .u32 ((R k).f : Nat) ∧ vg = .int .u32 ((R k).g : Nat) ∧ vh = .int .u32 ((R k).h : Nat) ∧ Row wr (w.heap.size + 1) 98 (List.replicate 8 (Value.int .u32 0)) ∧ Below w.heap.size w wr)
    (fun _ _ _ _ _ _ _ _ i _ => 64 - (intOf i).toNat)
  case atStart => rw [← HR0.out]; exact ⟨0, by omega, rfl, rfl, rfl, rfl, rfl, rfl, rfl, rfl, rfl, rR, hb1⟩
  case round =>
    obtain ⟨k, hk, rfl, rfl, rfl, rfl, rfl, rfl, rfl, rfl, rfl, hrR, hBw⟩ := hrel
    clear rR hb1
    by_cases hk64 : k < 64
    · have hki : (k : Int) < 64 := by omega
      have hkb : ((k : Int) == 64) = false := by simp; omega
      have ck := (HT.out.later hBw) k hk64
      have cw := ((HB.out.later hBw)).cell (u32s_at (l := ws) (i := k) (by have := HL.out; omega))
      have bk : kW.getD k 0 < 4294967296 := all_getD (by decide) kW_lt _
      have bw : ws.getD k 0 < 4294967296 := all_getD (by decide) HW.out _
      obtain ⟨ba, bb, bc, bd, be, bf, bg, bh⟩ := HRok.out k
      have HR : Hid (R (k + 1) = roundN (kW.getD k 0) (ws.getD k 0) (R k)) := HRs.out k
      generalize kW.getD k 0 = xk at *
      generalize ws.getD k 0 = xw at *
      generalize R k = r at *
      obtain ⟨a, b, c, d, e, f, g, h0⟩ := r
      dsimp only at ba bb bc bd be bf bg bh ⊢
      have HrR : Hid (Row wr (w.heap.size + 1) 98 (List.replicate 8 (Value.int .u32 0))) := hrR
      clear hrR
      go_wp2
      go_quiet ((go_at_call 55; exact Calls.quiet_of_same (ror_int _ _ _ (by assumption) (by omega) (by omega))))
      go_wp2_with (go_at_call 55; refine (ror_int _ _ _ (by assumption) (by omega) (by omega)).mono ?_; rintro e w' ⟨rfl, rfl⟩)
      rw [ch_eq be bf bg, maj_eq ba bb bc, big1_eq be, big0_eq ba]
      go_roundw
      case rel =>
        refine ⟨k + 1, by omega, by go_num, ?_⟩
        rw [HR.out]
        refine ⟨?_, rfl, rfl, rfl, ?_, rfl, rfl, rfl, HrR.out.drewN _, below_drewN hBw _⟩
        · refine congrArg (Value.int .u32) (show _ = ((aN (tN xk xw e f g h0) a b c : Nat) : Int) from ?_)
          unfold aN tN
          omega
        · refine congrArg (Value.int .u32) (show _ = (((d + tN xk xw e f g h0) % 4294967296 : Nat) : Int) from ?_)
          unfold tN
          omega
      case measure => simp [intOf]; omega
    · obtain rfl : k = 64 := by omega
      have HrR : Hid (Row wr (w.heap.size + 1) 98 (List.replicate 8 (Value.int .u32 0))) := hrR
      clear hrR
      generalize hr : R 64 = r
      go_wp2_with ((with_reducible show wpList _ _ _ (Oper.mk _ (Op.store 98 (.tmp 4) (.tmp 108)) _ _ _ _ :: _) _ _); refine wpList_store_Row rfl 98 (.tmp 4) (.tmp 108) rfl [.int .u32 (r.a : Nat), .int .u32 (r.b : Nat), .int .u32 (r.c : Nat), .int .u32 (r.d : Nat), .int .u32 (r.e : Nat), .int .u32 (r.f : Nat), .int .u32 (r.g : Nat), .int .u32 (r.h : Nat)] rfl rfl HrR.out size98 rfl (by simp [Value.oneCell']) ?_; simp only [Act.put])
      rw [Exit.noGoto_ret]
      refine bodyPost_ret (results_Row rfl rfl (HrR.out.sets_all (vs := [.int .u32 (r.a : Nat), .int .u32 (r.b : Nat), .int .u32 (r.c : Nat), .int .u32 (r.d : Nat), .int .u32 (r.e : Nat), .int .u32 (r.f : Nat), .int .u32 (r.g : Nat), .int .u32 (r.h : Nat)]) rfl) Tryd.underlying98 size98) rfl ?_
      exact ⟨by rw [hr, St.cells], below_setCells (by omega) _ _ hBw⟩
end Go.Proofs.YtkpjbleogjmbjaaDoor.Sh
