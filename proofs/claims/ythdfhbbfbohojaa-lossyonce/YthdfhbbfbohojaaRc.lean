/-
  Receive.
-/
import Derived.Test.YthdfhbbfbohojaaSd
namespace Go.Proofs.Ythdfhbbfbohojaa
open Go.RowKit Go.Shelf

set_option maxHeartbeats 1000000 in
theorem receive_nil (w : World) : Calls Try.prog 10 #[.pointer none] w fun e w' => e = .returned (.tuple #[.slice none 0 0, .bool false]) ∧ w' = w := by
  go_enter Try.func10, Try.ntmps10
  go_wp2_with (go_at_call 12; refine (waiting_nil _).mono ?_; rintro e w1 ⟨rfl, rfl⟩)
  refine bodyPost_ret (results_tmp2 rfl _ _ _) rfl ?_
  exact ⟨rfl, rfl⟩
set_option maxHeartbeats 1000000 in
theorem receive_none {p : Nat} {q : Option Addr} {c : Nat} (w : World) (hc3 : w.cell? ⟨p, 3, none⟩ = some (.slice q 0 c)) : Calls Try.prog 10 #[.pointer (some ⟨p, 0, none⟩)] w fun e w' => e = .returned (.tuple #[.slice none 0 0, .bool false]) ∧ w' = w := by
  go_enter Try.func10, Try.ntmps10
  go_wp2_with (go_at_call 12; refine (waiting_row hc3).mono ?_; rintro e w1 ⟨rfl, rfl⟩)
  refine bodyPost_ret (results_tmp2 rfl _ _ _) rfl ?_
  exact ⟨rfl, rfl⟩
/-- Received. -/
def RcPost (base : Nat) (w : World) (p g : Nat) (fv : Value) (L : Lk) (m : Msg) (rest : List Msg) (e : Ending) (w' : World) : Prop :=
  e = .returned (.tuple #[m.v, .bool true]) ∧ ∃ wv, LkAt base w' p g fv wv ⟨L.fs, L.n, rest⟩ ∧ Txt base w' m ∧ Buts p g w w'

theorem wpList_zero53 {ops : Array Oper} {rest : List Oper} {o : Oper} {a : Act} {w W1 : World} {Q : Exit → Act → World → Prop} (hgd : o.guard = none) (x y : Operand) (ho : o.op = .store 53 x y)
    {g off : Nat} (hx : a.eval x = .pointer (some ⟨g, off, none⟩)) (hy : a.eval y = .agg #[.int .i64 0, .slice none 0 0]) (ht : w.there g off 2) (hW : w.setCells g off [.int .i64 0, .slice none 0 0] = W1)
    (h : wpList Try.prog ops Q rest (a.put o.dst undef) W1) : wpList Try.prog ops Q (o :: rest) a w := by
  subst hW
  exact wpList_store_mid hgd 53 x y ho g off #[.int .i64 0, .slice none 0 0] hx hy (by simpa using ht) (by simpa using size53) (by simp [Value.oneCell']) h
theorem putAt_past (vs c : List Value) (o : Nat) (h : o + vs.length ≤ c.length) : (putAt c o vs).drop (o + vs.length) = c.drop (o + vs.length) := by
  rw [putAt_eq vs c o h]
  exact List.drop_left' (by simp; omega)
set_option maxRecDepth 100000 in
set_option maxHeartbeats 2000000 in
theorem receive_any {base p g : Nat} {fv wv : Value} {L : Lk} {w : World} (h : LkAt base w p g fv wv L) {m : Msg} {rest : List Msg} (hms : L.ms = m :: rest) :
    Calls Try.prog 10 #[.pointer (some ⟨p, 0, none⟩)] w (RcPost base w p g fv L m rest) := by
  have hwt := waiting_any h
  obtain ⟨q, c, rfl, ⟨_, h0, _⟩ | ⟨o, cur, rfl, hr, hnc, hcm, hoc, htk⟩⟩ := id h.wait
  · rw [h0] at hms; cases hms
  have hln : L.ms.length = rest.length + 1 := by rw [hms]; rfl
  obtain ⟨n, hn⟩ : ∃ n, rest.length = n := ⟨_, rfl⟩
  rw [hln, hn] at hwt hnc htk
  have hm0 : L.ms[0]? = some m := by rw [hms]; rfl
  have hrow := h.row
  rw [hln, hn] at hrow
  have hwait := h.wait
  have hpg : p ≠ g := row_ne h.row hr (by decide)
  have hcw : w.cell? ⟨p, 3, none⟩ = some (.slice (some ⟨g, o, none⟩) (n + 1) c) := hrow.cell (i := 3) rfl
  have hg0 : w.cell? ⟨g, o + 1, none⟩ = some (.slice m.q m.n m.c) := by
    obtain ⟨o', cur', e1, _, _, _, _, _, hrg⟩ := WaitAt.range encD hwait hm0
    cases e1
    have := hrg 1 m.v rfl
    rwa [Nat.zero_mul, Nat.add_zero] at this
  obtain ⟨w1, hw1⟩ : ∃ w1, w.setCells g o [.int .i64 0, .slice none 0 0] = w1 := ⟨_, rfl⟩
  have hR1 : Row w1 g 53 (putAt cur o [.int .i64 0, .slice none 0 0]) := by rw [← hw1]; exact hr.sets _ _
  have hP1 : Row w1 p 44 [.bool true, fv, .int .i64 L.n, .slice (some ⟨g, o, none⟩) (n + 1) c] := by rw [← hw1]; exact Row.others hpg _ _ hrow
  have hB1 : Buts p g w w1 := by rw [← hw1]; exact Buts.setsG _ _ _
  have hth : w.there g o 2 := fun j hj => ⟨row_isSome hr (by omega), hr.frozen _⟩
  have hc1 := hP1.cell (i := 3) rfl
  have hf1 := hP1.frozen 3
  have hlr : rest.length = n := hn
  have hle : (1 : Int) ≤ (n : Int) + 1 := by omega
  have hle0 : (0 : Int) < (n : Int) + 1 := by omega
  have hnn : ¬ ((n : Int) + 1 = 0) := by omega
  have hend : ∀ o', (o' = o ∧ c = 1 ∨ o' = o + 2 ∧ c ≠ 1) → RcPost base w p g fv L m rest (.returned (.tuple #[m.v, .bool true])) (w1.setCell ⟨p, 3, none⟩ (.slice (some ⟨g, o', none⟩) n (c - 1))) := by
    intro o' ho
    have hB8 : Buts p g w (w1.setCell ⟨p, 3, none⟩ (.slice (some ⟨g, o', none⟩) n (c - 1))) := hB1.trans (.inl rfl) (Buts.setP _ _ _)
    refine ⟨rfl, _, ⟨h.hp, h.hg, hP1.set 3 _, h.fates.step hB8 h.ntp h.ntg, ⟨_, c - 1, by rw [hlr], .inr ⟨o', _, rfl, Row.other hR1 (fun e => hpg e.symm) _, by rw [hlr]; omega, by omega, ?_, ?_⟩⟩, fun x hx => (h.txt x (by rw [hms]; exact List.mem_cons_of_mem _ hx)).buts hB8 h.ntp h.ntg⟩, (h.txt m (by rw [hms]; exact List.mem_cons_self)).buts hB8 h.ntp h.ntg, hB8⟩
    · rw [putAt_len _ _ _ (by simp; omega)]
      omega
    · rw [hlr]
      rcases ho with ⟨rfl, hc⟩ | ⟨rfl, hc⟩
      · have h0 : n = 0 := by omega
        have hr0 : rest = [] := List.length_eq_zero_iff.1 (by omega)
        rw [h0, hr0]; rfl
      · have e1 : (putAt cur o [.int .i64 0, .slice none 0 0]).drop (o + 2) = cur.drop (o + 2) := putAt_past [.int .i64 0, .slice none 0 0] cur o (by simp; omega)
        rw [e1]
        have e2 := congrArg (List.drop 2) htk
        have e4 : List.drop 2 (m.cD ++ List.flatMap Msg.cD rest) = List.flatMap Msg.cD rest := rfl
        rw [hms, List.flatMap_cons, e4, List.drop_take, List.drop_drop] at e2
        show _ = rest.flatMap Msg.cD
        rw [← e2, show (n + 1) * 2 - 2 = n * 2 by omega]
  have HEnd : Hid (∀ o', (o' = o ∧ c = 1 ∨ o' = o + 2 ∧ c ≠ 1) → RcPost base w p g fv L m rest (.returned (.tuple #[m.v, .bool true])) (w1.setCell ⟨p, 3, none⟩ (.slice (some ⟨g, o', none⟩) n (c - 1)))) := hend
  have HW1 : Hid (w.setCells g o [.int .i64 0, .slice none 0 0] = w1) := hw1
  have HTh : Hid (w.there g o 2) := hth
  have HWt : Hid (Calls Try.prog 12 #[.pointer (some ⟨p, 0, none⟩)] w fun e w' => e = .returned (.int .i64 ((n + 1 : Nat) : Int)) ∧ w' = w) := hwt
  have hc63 : c ≤ 9223372036854775807 := hcm
  clear hend hw1 hth hwt hR1 hP1 hB1 hrow hwait hm0 hms htk hr h hlr hn hoc hln
  by_cases hc1' : c = 1
  · have h0 : n = 0 := by omega
    subst h0
    subst hc1'
    go_enter Try.func10, Try.ntmps10
    go_wp2_with (first
      | (go_at_call 12; refine HWt.out.mono ?_; rintro e w2 ⟨rfl, hw2⟩; obtain rfl := hw2.symm; clear hw2)
      | ((with_reducible show wpList _ _ _ (Oper.mk _ (Op.store 53 (.tmp 20) (.tmp 19)) _ _ _ _ :: _) _ _); refine wpList_zero53 rfl (.tmp 20) (.tmp 19) rfl rfl rfl HTh.out HW1.out ?_; simp only [Act.put]))
    refine bodyPost_ret (results_tmp2 rfl _ _ _) rfl ?_
    exact HEnd.out o (.inl ⟨rfl, trivial⟩)
  · have hcn : ¬ (1 = c) := fun e => hc1' e.symm
    have hci : (1 : Int) ≤ (c : Int) := by omega
    have hnc' : (n : Int) + 1 ≤ (c : Int) := by omega
    go_enter Try.func10, Try.ntmps10
    go_wp2_with (first
      | (go_at_call 12; refine HWt.out.mono ?_; rintro e w2 ⟨rfl, hw2⟩; obtain rfl := hw2.symm; clear hw2)
      | ((with_reducible show wpList _ _ _ (Oper.mk _ (Op.store 53 (.tmp 20) (.tmp 19)) _ _ _ _ :: _) _ _); refine wpList_zero53 rfl (.tmp 20) (.tmp 19) rfl rfl rfl HTh.out HW1.out ?_; simp only [Act.put]))
    refine bodyPost_ret (results_tmp2 rfl _ _ _) rfl ?_
    exact HEnd.out (o + 2) (.inr ⟨rfl, hc1'⟩)
end Go.Proofs.Ythdfhbbfbohojaa
