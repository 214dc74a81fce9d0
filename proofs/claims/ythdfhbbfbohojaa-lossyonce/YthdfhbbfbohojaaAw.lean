/-
  awake.
-/
import Derived.Test.YthdfhbbfbohojaaRc
import Derived.Lib.SlBytesConst
namespace Go.Proofs.Ythdfhbbfbohojaa
open Go.RowKit Go.Shelf

theorem barg_const (base : Nat) (w : World) (z : Nat) (hz : z < 256) : BArg base (w.alloc (.cells #[.int .u8 z] 5 (1, 2))) (some ⟨w.heap.size, 0, none⟩) 1 1 [z] := by
  have hw : (w.alloc (.cells #[.int .u8 z] 5 (1, 2))).heap[w.heap.size]? = some (.cells #[.int .u8 z] 5 (1, 2)) := World.alloc_heap_new w _
  have hl := (Array.getElem?_eq_some_iff.1 hw).1
  exact ⟨⟨rfl, Nat.le_refl _, by omega, by simpa using hz, .inr ⟨w.heap.size, 0, rfl, hl, fun i hi => by
    obtain rfl : i = 0 := by omega
    unfold World.cell?
    rw [hw]
    rfl⟩⟩, .inr ⟨w.heap.size, 0, rfl, hl, .inr ⟨_, _, hw⟩⟩⟩
/-- What awake's line comes to. -/
def AwAt (base : Nat) (w : World) (p : Nat) (n : Nat) (ks : List Ky) (W : World) : Prop :=
  ∃ g fv wv ms, LkAt base W p g fv wv ⟨[(1, 2), (2, 0)], n, ms⟩ ∧ keys ms = ks ∧ Below base w W
theorem aw_send {base p n : Nat} {w W : World} {ks : List Ky} (h : AwAt base w p n ks W) (hb : base ≤ w.heap.size) (z : Nat) (hz : z < 256) (hk : ks.length ≤ 10) (hn : n ≤ 3) (hs : Srt ks) (ks' : List Ky) (hks : insN (Lk.due ⟨[(1, 2), (2, 0)], n, []⟩, [z]) (Lk.times ⟨[(1, 2), (2, 0)], n, []⟩) ks = ks') :
    Calls Try.prog 8 #[.pointer (some ⟨p, 0, none⟩), .slice (some ⟨W.heap.size, 0, none⟩) 1 1] (W.alloc (.cells #[.int .u8 z] 5 (1, 2))) fun e w' => (∃ v, e = .returned v) ∧ AwAt base w p (n + 1) ks' w' := by
  obtain ⟨g, fv, wv, ms, hL, hk', hB⟩ := h
  have hba : Below W.heap.size W (W.alloc (.cells #[.int .u8 z] 5 (1, 2))) := (Below.refl _ W).alloc (Nat.le_refl _) _
  have hml : ms.length = ks.length := by rw [← hk', keys_length]
  have hs1 := hB.size
  have hs2 := hba.size
  refine (send_any (hL.later hba) (barg_const base W z hz) (by show ms.length ≤ _; omega) (by omega) (by show n ≤ _; omega) (by show Srt (keys ms); rw [hk']; exact hs) (by omega)).mono ?_
  rintro e w' ⟨hv, g', wv', ms', h1, h2, h3, h4⟩
  refine ⟨hv, g', fv, wv', ms', h1, ?_, hB.trans ((hba.mono (by omega)).trans (h4.below hL.hp hL.hg (by omega)))⟩
  rw [h2, ← hks, ← hk']
  rfl
theorem keys_cons {ms : List Msg} {k : Ky} {ks : List Ky} (h : keys ms = k :: ks) : ∃ m r, ms = m :: r ∧ m.key = k ∧ keys r = ks := by
  cases ms with
  | nil => cases h
  | cons m r =>
    simp only [keys, List.map_cons, List.cons.injEq] at h
    exact ⟨m, r, rfl, h.1, h.2⟩
/-- A text received stays one. -/
theorem aw_receive {base p n : Nat} {w W : World} {k : Ky} {ks : List Ky} (h : AwAt base w p n (k :: ks) W) (hb : base ≤ w.heap.size) :
    Calls Try.prog 10 #[.pointer (some ⟨p, 0, none⟩)] W fun e w' => ∃ m : Msg, e = .returned (.tuple #[.slice m.q m.n m.c, .bool true]) ∧ m.zs = k.2 ∧ Txt base w' m ∧ AwAt base w p n ks w' ∧ (∀ x : Msg, Txt base W x → Txt base w' x) := by
  obtain ⟨g, fv, wv, ms, hL, hk', hB⟩ := h
  obtain ⟨m, r, rfl, hm, hr⟩ := keys_cons hk'
  have hs1 := hB.size
  refine (receive_any hL rfl).mono ?_
  rintro e w' ⟨rfl, wv', h1, h2, h3⟩
  exact ⟨m, rfl, by rw [← hm]; rfl, h2, ⟨g, fv, wv', r, h1, hr, hB.trans (h3.below hL.hp hL.hg (by omega))⟩, fun x hx => hx.buts h3 hL.ntp hL.ntg⟩
theorem aw_new (w : World) : Calls Try.prog 7 #[.slice (some ⟨w.heap.size, 0, none⟩) 2 2] (w.alloc (.cells #[.int .i64 1, .int .i64 2, .int .i64 2, .int .i64 0] 47)) fun e w' => ∃ p, e = .returned (.pointer (some ⟨p, 0, none⟩)) ∧ AwAt w.heap.size w p 0 [] w' := by
  have hr := Row.new w 47 #[.int .i64 1, .int .i64 2, .int .i64 2, .int .i64 0]
  have hba : Below w.heap.size w (w.alloc (.cells #[.int .i64 1, .int .i64 2, .int .i64 2, .int .i64 0] 47)) := (Below.refl _ w).alloc (Nat.le_refl _) _
  have hF : FatesAt w.heap.size (w.alloc (.cells #[.int .i64 1, .int .i64 2, .int .i64 2, .int .i64 0] 47)) (.slice (some ⟨w.heap.size, 0, none⟩) 2 2) [(1, 2), (2, 0)] :=
    ⟨_, 2, rfl, Nat.le_refl _, by omega, .inr ⟨w.heap.size, 0, rfl, hr.lt, .inr ⟨_, _, hr⟩, hr.range⟩⟩
  refine (new_any hF (by simp) hba.size).mono ?_
  rintro e w' ⟨p, fv, rfl, hp, hL, hb⟩
  exact ⟨p, rfl, p, fv, _, [], hL, rfl, hba.trans (hb.mono hba.size)⟩
theorem aw_waiting {base p n : Nat} {w W : World} {ks : List Ky} (h : AwAt base w p n ks W) : Calls Try.prog 12 #[.pointer (some ⟨p, 0, none⟩)] W fun e w' => e = .returned (.int .i64 ks.length) ∧ w' = W := by
  obtain ⟨g, fv, wv, ms, hL, hk', hB⟩ := h
  have := waiting_any hL
  rw [show (Lk.ms ⟨[(1, 2), (2, 0)], n, ms⟩).length = ks.length by rw [← hk', keys_length]] at this
  exact this
theorem str_98 : strOf [98] = ⟨#[98]⟩ := by rfl
theorem str_97 : strOf [97] = ⟨#[97]⟩ := by rfl

set_option maxRecDepth 100000 in
set_option maxHeartbeats 4000000 in
theorem awake_any (w : World) : Calls Try.prog 6 #[] w fun e w' => e = .returned (.bool true) ∧ Below w.heap.size w w' := by
  have hcv7 : ∀ w : World, (convert 32 32 (.slice (some ⟨w.heap.size, 0, none⟩) 1 1)).run Try.prog (w.alloc (.cells #[.int .u8 97] 5)) = .ok (.slice (some ⟨w.heap.size, 0, none⟩) 1 1) (w.alloc (.cells #[.int .u8 97] 5 (1, 2))) := fun w => Lib.run_convert_bytes_const (P := Try.prog) w 32 5 #[.int .u8 97] 1 1 Try.underlying32 Try.underlying5
  have hcv8 : ∀ w : World, (convert 32 32 (.slice (some ⟨w.heap.size, 0, none⟩) 1 1)).run Try.prog (w.alloc (.cells #[.int .u8 98] 5)) = .ok (.slice (some ⟨w.heap.size, 0, none⟩) 1 1) (w.alloc (.cells #[.int .u8 98] 5 (1, 2))) := fun w => Lib.run_convert_bytes_const (P := Try.prog) w 32 5 #[.int .u8 98] 1 1 Try.underlying32 Try.underlying5
  have hcv9 : ∀ w : World, (convert 32 32 (.slice (some ⟨w.heap.size, 0, none⟩) 1 1)).run Try.prog (w.alloc (.cells #[.int .u8 99] 5)) = .ok (.slice (some ⟨w.heap.size, 0, none⟩) 1 1) (w.alloc (.cells #[.int .u8 99] 5 (1, 2))) := fun w => Lib.run_convert_bytes_const (P := Try.prog) w 32 5 #[.int .u8 99] 1 1 Try.underlying32 Try.underlying5
  have HW : Hid (Calls Try.prog 7 #[.slice (some ⟨w.heap.size, 0, none⟩) 2 2] (w.alloc (.cells #[.int .i64 1, .int .i64 2, .int .i64 2, .int .i64 0] 47)) fun e w' => ∃ p, e = .returned (.pointer (some ⟨p, 0, none⟩)) ∧ AwAt w.heap.size w p 0 [] w') := aw_new w
  have hlb := Nat.le_refl w.heap.size
  have hcat : ((⟨#[98]⟩ : ByteArray) ++ ⟨#[98]⟩ ++ ⟨#[97]⟩).toList = [98, 98, 97] := by kernel_rfl
  go_enter Try.func6, Try.ntmps6
  go_wp2_with (first
    | (go_at_call 7; refine HW.out.mono ?_; rintro e w1 ⟨p, rfl, hA1⟩; have HA1 : Hid (AwAt w.heap.size w p 0 [] w1) := hA1; clear hA1)
    | (go_at_call 8; have _ := HA3; refine (aw_send HA3.out hlb 99 (by omega) (by decide) (by omega) (by simp [Srt]) [(1, [98]), (1, [98]), (2, [97]), (2, [99])] (by rfl)).mono ?_; rintro e w4 ⟨⟨v4, rfl⟩, hA4⟩; have HA4 : Hid (AwAt w.heap.size w p 3 [(1, [98]), (1, [98]), (2, [97]), (2, [99])] w4) := hA4; clear hA4)
    | (go_at_call 8; have _ := HA2; refine (aw_send HA2.out hlb 98 (by omega) (by decide) (by omega) (by simp [Srt]) [(1, [98]), (1, [98]), (2, [97])] (by rfl)).mono ?_; rintro e w3 ⟨⟨v3, rfl⟩, hA3⟩; have HA3 : Hid (AwAt w.heap.size w p 2 [(1, [98]), (1, [98]), (2, [97])] w3) := hA3; clear hA3)
    | (go_at_call 8; refine (aw_send HA1.out hlb 97 (by omega) (by decide) (by omega) (by simp [Srt]) [(2, [97])] (by rfl)).mono ?_; rintro e w2 ⟨⟨v2, rfl⟩, hA2⟩; have HA2 : Hid (AwAt w.heap.size w p 1 [(2, [97])] w2) := hA2; clear hA2)
    | (go_at_call 10; have _ := HA6; refine (aw_receive HA6.out hlb).mono ?_; rintro e w7 ⟨m7, rfl, hz7, hT7, hA7, hk7⟩; have HA7 : Hid (AwAt w.heap.size w p 3 [(2, [99])] w7) := hA7; have hT5 := hk7 _ (HK6.out _ HT5.out); have hT6 := hk7 _ HT6.out; have hS5 : (convert 32 9 (.slice m5.q m5.n m5.c)).run Try.prog w7 = .ok (.string ⟨#[98]⟩) w7 := (by have h := hT5.str.here; rw [HZ5.out, str_98] at h; exact h); have hS6 : (convert 32 9 (.slice m6.q m6.n m6.c)).run Try.prog w7 = .ok (.string ⟨#[98]⟩) w7 := (by have h := hT6.str.here; rw [HZ6.out, str_98] at h; exact h); have hS7 : (convert 32 9 (.slice m7.q m7.n m7.c)).run Try.prog w7 = .ok (.string ⟨#[97]⟩) w7 := (by have h := hT7.str.here; rw [hz7, str_97] at h; exact h); clear hA7 hk7 hT5 hT6 hT7 hz7)
    | (go_at_call 10; have _ := HA5; refine (aw_receive HA5.out hlb).mono ?_; rintro e w6 ⟨m6, rfl, hz6, hT6, hA6, hk6⟩; have HA6 : Hid (AwAt w.heap.size w p 3 [(2, [97]), (2, [99])] w6) := hA6; have HT6 : Hid (Txt w.heap.size w6 m6) := hT6; have HZ6 : Hid (m6.zs = [98]) := hz6; have HK6 : Hid (∀ x : Msg, Txt w.heap.size w5 x → Txt w.heap.size w6 x) := hk6; clear hA6 hT6 hz6 hk6)
    | (go_at_call 10; refine (aw_receive HA4.out hlb).mono ?_; rintro e w5 ⟨m5, rfl, hz5, hT5, hA5, hk5⟩; have HA5 : Hid (AwAt w.heap.size w p 3 [(1, [98]), (2, [97]), (2, [99])] w5) := hA5; have HT5 : Hid (Txt w.heap.size w5 m5) := hT5; have HZ5 : Hid (m5.zs = [98]) := hz5; clear hA5 hT5 hz5 hk5)
    | (go_at_call 12; refine (aw_waiting HA7.out).mono ?_; rintro e w8 ⟨rfl, hw8⟩; obtain rfl := hw8.symm; clear hw8))
  go_ret
  refine ⟨rfl, ?_⟩
  obtain ⟨_, _, _, _, _, _, hB⟩ := HA7.out
  exact hB
end Go.Proofs.Ythdfhbbfbohojaa
