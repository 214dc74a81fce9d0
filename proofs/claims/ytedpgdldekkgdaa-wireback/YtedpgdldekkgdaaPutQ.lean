/-
  PutRequest: a request as bytes.
-/
import Derived.Test.YtedpgdldekkgdaaMayQ
namespace Go.Proofs.Ytedpgdldekkgdaa
open Go.RowKit Go.Shelf

theorem bytes_part {W : World} {g o n : Nat} {x : List Nat} (h : W.rangeAt g o (u8s x)) (hx : IsId x) (hg : g < n) : IsBytes n W (some ⟨g, o, none⟩) 32 32 x :=
  ⟨hx.1, Nat.le_refl _, by omega, hx.2, .inr ⟨g, o, rfl, hg, fun i hi => h i _ (u8s_at (by have := hx.1; omega))⟩⟩
/-- Numbers in a new row. -/
theorem nums_new (w : World) (ns : List Nat) (h : ∀ n ∈ ns, n < 18446744073709551616) : IsNums (w.alloc (.cells (ns.map fun n => Value.int .u64 (n : Nat)).toArray 23)) (some ⟨w.heap.size, 0, none⟩) ns.length ns := by
  refine ⟨rfl, h, .inr ⟨w.heap.size, 0, _, _, rfl, Row.new w 23 _, fun i hi => ?_⟩⟩
  rw [Nat.zero_add]
  refine (Row.new' w 23 (ns.map fun n => Value.int .u64 (n : Nat))).cell (i := i) ?_
  rw [List.getElem?_map, List.getElem?_eq_getElem hi]
  simp [List.getD_eq_getElem?_getD, List.getElem?_eq_getElem hi]
theorem five_nums (w : World) (a b c d : Nat) (ha : a < 18446744073709551616) (hb : b < 18446744073709551616) (hc : c < 18446744073709551616) (hd : d < 18446744073709551616) : IsNums (w.alloc (.cells #[.int .u64 1, .int .u64 (a : Nat), .int .u64 (b : Nat), .int .u64 (c : Nat), .int .u64 (d : Nat)] 23)) (some ⟨w.heap.size, 0, none⟩) 5 [1, a, b, c, d] := nums_new w [1, a, b, c, d] (by simp [ha, hb, hc, hd])
theorem four_nums (w : World) (a b c : Nat) (ha : a < 18446744073709551616) (hb : b < 18446744073709551616) (hc : c < 18446744073709551616) : IsNums (w.alloc (.cells #[.int .u64 2, .int .u64 (a : Nat), .int .u64 (b : Nat), .int .u64 (c : Nat)] 23)) (some ⟨w.heap.size, 0, none⟩) 4 [2, a, b, c] := nums_new w [2, a, b, c] (by simp [ha, hb, hc])
theorem encText_length (t : List Nat) (h : t.length ≤ 1000000) : (encText t).length ≤ t.length + 10 := by
  have := encN_ten (n := t.length) (by omega)
  rw [encText, List.length_append]
  omega
theorem encQ_length {r : Req} (h : r.ok) {b : List Nat} (hm : mayQ r b = true) : (encQ r b).length ≤ 120000 := by
  simp only [mayQ, Bool.and_eq_true, decide_eq_true_eq] at hm
  have h1 := encN_ten (n := r.client) (by have := h.client; omega)
  have h2 := encN_ten h.seq
  have h3 := encN_ten (n := r.kind.toNat) (by omega)
  have h4 := encN_ten (n := r.tenant) (by have := h.tenant; omega)
  have h5 := encText_length (nameL r.name) (by rw [nameL_length]; omega)
  have h6 := encN_ten h.n
  have h7 := encText_length b (by omega)
  have h8 := h.id.1
  have h9 := h.old.1
  rw [nameL_length] at h5
  simp only [encQ, List.length_append]
  omega
theorem encText_bytes {t : List Nat} (h : ∀ z ∈ t, z < 256) : ∀ z ∈ encText t, z < 256 := by
  intro z hz
  rw [encText, List.mem_append] at hz
  rcases hz with h1 | h1
  · exact encN_bytes _ z h1
  · exact h z h1
theorem encQ_bytes {r : Req} (h : r.ok) {b : List Nat} (hb : ∀ z ∈ b, z < 256) : ∀ z ∈ encQ r b, z < 256 := by
  intro z hz
  simp only [encQ, List.mem_append] at hz
  rcases hz with h1 | h1 | h1 | h1 | h1 | h1 | h1 | h1 | h1
  · exact encN_bytes _ z h1
  · exact encN_bytes _ z h1
  · exact encN_bytes _ z h1
  · exact encN_bytes _ z h1
  · exact encText_bytes (nameL_lt _) z h1
  · exact h.id.2 z h1
  · exact h.old.2 z h1
  · exact encN_bytes _ z h1
  · exact encText_bytes hb z h1

set_option maxRecDepth 100000 in
set_option maxHeartbeats 1000000 in
/-- PutRequest, of what may not be. -/
theorem putQ_none (p : Option Addr) (len cap : Nat) (b : List Nat) (r : Req) (hok : r.ok) (hnm : r.name.size ≤ 1000000) (hm : mayQ r b = false) (w : World) (hl : b.length = len) :
    Calls Try.prog 10 #[.agg (reqC (.slice p len cap) r).toArray] w fun e w' => e = .returned (.tuple #[.slice none 0 0, .int .i64 180]) ∧ Below w.heap.size w w' := by
  obtain ⟨w0, hw0⟩ : ∃ w0, w.alloc (.cells (reqC (.slice p len cap) r).toArray 28) = w0 := ⟨_, rfl⟩
  have hb0 : Below w.heap.size w w0 := by rw [← hw0]; exact (Below.refl _ w).alloc (Nat.le_refl _) _
  have HA : Hid (ReqAt w0 w.heap.size (.slice p len cap) r) := by rw [← hw0]; exact ReqAt.new w _ r hok
  have HW0 : Hid (w.alloc (.cells (reqC (.slice p len cap) r).toArray 28) = w0) := hw0
  have HM := mayAsk_any p len cap b r hok hl hnm w0
  rw [hm] at HM
  have HOk : Hid r.ok := hok
  clear hw0 hok hm hl
  go_enter Try.func10, Try.ntmps10
  go_wp2_with (first
    | (rw [HW0.out])
    | ((with_reducible show wpList _ _ _ (Oper.mk _ (Op.load 28 (.tmp 1)) _ _ _ _ :: _) _ _); refine wpList_loadReq rfl (.tmp 1) rfl rfl HOk.out HA.out.row.range ?_; simp only [Act.put, List.setIfInBounds_toArray, List.set_cons_zero, List.set_cons_succ])
    | (go_at_call 22; refine HM.mono ?_; rintro e w1 ⟨rfl, hb1⟩))
  refine bodyPost_ret (results_tmp2 rfl _ _ _) rfl ?_
  exact ⟨rfl, hb0.trans (hb1.mono hb0.size)⟩

set_option maxRecDepth 100000 in
set_option maxHeartbeats 400000 in
/-- PutRequest, of what may be. -/
theorem putQ_some (p : Option Addr) (len cap : Nat) (b : List Nat) (r : Req) (hok : r.ok) (hm : mayQ r b = true) (w : World) (hI : IsBytes w.heap.size w p len cap b) :
    Calls Try.prog 10 #[.agg (reqC (.slice p len cap) r).toArray] w fun e w' => ∃ v, e = .returned (.tuple #[v, .int .i64 0]) ∧ Own w.heap.size w' v (1 :: encQ r b) ∧ Below w.heap.size w w' := by
  obtain ⟨w0, hw0⟩ : ∃ w0, w.alloc (.cells (reqC (.slice p len cap) r).toArray 28) = w0 := ⟨_, rfl⟩
  have hb0 : Below w.heap.size w w0 := by rw [← hw0]; exact (Below.refl _ w).alloc (Nat.le_refl _) _
  have HA : Hid (ReqAt w0 w.heap.size (.slice p len cap) r) := by rw [← hw0]; exact ReqAt.new w _ r hok
  have HW0 : Hid (w.alloc (.cells (reqC (.slice p len cap) r).toArray 28) = w0) := hw0
  have hs0 : w0.heap.size = w.heap.size + 1 := by rw [← hw0]; simp
  have hm2 := hm
  simp only [mayQ, Bool.and_eq_true, decide_eq_true_eq] at hm2
  obtain ⟨hk1, hk2, hnm, hbl⟩ := hm2
  have HM := mayAsk_any p len cap b r hok hI.1 (by omega) w0
  rw [hm] at HM
  have HOk : Hid r.ok := hok
  have HI0 : Hid (IsBytes w0.heap.size w0 p len cap b) := (hI.below hb0).mono hb0.size
  have hbl' : len ≤ 110000 := by have := hI.1; omega
  obtain ⟨k, hk⟩ : ∃ k : Nat, r.kind = (k : Int) := ⟨r.kind.toNat, by omega⟩
  have hk10 : k ≤ 10 := by omega
  have hk64 : k < 18446744073709551616 := by omega
  have hcl64 : r.client < 18446744073709551616 := by have := hok.client; omega
  have hte64 : r.tenant < 18446744073709551616 := by have := hok.tenant; omega
  have hcl := hok.client
  have hte := hok.tenant
  have hsq := hok.seq
  have hnn := hok.n
  have e1 : (r.client : Int) % 18446744073709551616 = (r.client : Int) := by omega
  have e2 : (r.tenant : Int) % 18446744073709551616 = (r.tenant : Int) := by omega
  have e3 : IntKind.u64.wrap r.kind = (k : Int) := by rw [IntKind.wrap_u64]; omega
  have HZ : Hid (∀ z ∈ 1 :: encQ r b, z < 256) := by
    intro z hz
    rcases List.mem_cons.1 hz with rfl | h1
    · omega
    · exact encQ_bytes hok hI.2.2.2.1 z h1
  obtain ⟨N1, hN1⟩ : ∃ N1, encs [1, r.client, r.seq, k, r.tenant] = N1 := ⟨_, rfl⟩
  obtain ⟨N2, hN2⟩ : ∃ N2, encs [r.n] = N2 := ⟨_, rfl⟩
  have HE : Hid ([] ++ N1 ++ encText (nameL r.name) ++ r.id ++ r.old ++ N2 ++ encText b = 1 :: encQ r b) := by
    show _ = _
    rw [← hN1, ← hN2, encQ, hk, Int.toNat_natCast]
    simp [encs, encN_small (n := 1) (by omega)]
  have HLn : Hid ((1 :: encQ r b).length ≤ 120001) := by have := encQ_length hok hm; show _ ≤ _; rw [List.length_cons]; omega
  have hLa : ([] ++ N1 ++ encText (nameL r.name) ++ r.id ++ r.old ++ N2 ++ encText b).length ≤ 120001 := by rw [HE.out]; exact HLn.out
  simp only [List.length_append, List.length_nil] at hLa
  have HLa : Hid (N1.length + (encText (nameL r.name)).length + r.id.length + r.old.length + N2.length + (encText b).length ≤ 120001) := by show _ ≤ _; omega
  have HN1 : Hid (encs [1, r.client, r.seq, k, r.tenant] = N1) := hN1
  have HN2 : Hid (encs [r.n] = N2) := hN2
  have HNl : Hid ((nameL r.name).length = r.name.size) := nameL_length _
  clear hw0 hI hok hm hLa hN1 hN2 hk hk1 hk2
  go_enter Try.func10, Try.ntmps10
  go_wp2_with (first
    | (rw [HW0.out])
    | ((with_reducible show wpList _ _ _ (Oper.mk _ (Op.load 28 (.tmp 1)) _ _ _ _ :: _) _ _); refine wpList_loadReq rfl (.tmp 1) rfl rfl HOk.out HA.out.row.range ?_; simp only [Act.put, List.setIfInBounds_toArray, List.set_cons_zero, List.set_cons_succ])
    | (go_at_call 22; refine HM.mono ?_; rintro e w1 ⟨rfl, hb1⟩; have hs1 := hb1.size; have HA1 : Hid (ReqAt w1 w.heap.size (.slice p len cap) r) := HA.out.later hb1; have hA1 := HA1.out.later ((Below.refl _ w1).alloc (Nat.le_refl _) (.cells #[.slice none 0 0] 58)); have hc0 := hA1.client; have hc1 := hA1.seq; have hc2 := hA1.kind; have hc3 := hA1.tenant; have HI1 : Hid (IsBytes w1.heap.size w1 p len cap b) := (HI0.out.below hb1).mono hb1.size; have HB1 : Hid (Below w0.heap.size w0 w1) := hb1; have H5 := five_nums (w1.alloc (.cells #[.slice none 0 0] 58)) r.client r.seq k r.tenant hcl64 hsq hk64 hte64; rw [World.size_alloc] at H5; have HN5 : Hid (IsNums _ _ _ _) := H5; have HAx : Hid (ReqAt (w1.alloc (.cells #[.slice none 0 0] 58)) w.heap.size (.slice p len cap) r) := hA1; clear hb1 hA1 H5)
    | (go_at_call 23; have _ := HAx.out; refine (writerN_any w1.heap.size [] [1, r.client, r.seq, k, r.tenant] _ 5 5 _ ((WrAt.new w1).alloc _) HN5.out (by simp) (by omega)).mono ?_; rintro e w2 ⟨⟨v2, rfl⟩, hW2, hk2⟩; rw [HN1.out] at hW2; have hb2' : Below w1.heap.size w1 w2 := (((Below.refl _ w1).alloc (Nat.le_refl _) _).alloc (by simp) _).trans hk2.1; have HW2 : Hid (WrAt w2 w1.heap.size ([] ++ N1)) := hW2; have HA2 : Hid (ReqAt w2 w.heap.size (.slice p len cap) r) := HA1.out.later hb2'; have HB2 : Hid (Below w1.heap.size w1 w2) := hb2'; have hsz2 := hW2.lt; have hcN := HA2.out.name; obtain ⟨cap3, w3, hcv, hb3, hs3, hI3⟩ := bytes_of_name w2 r.name (by omega); have HI3 : Hid (∀ W, KeepF w3 W → IsBytes (w2.heap.size + 1) W (some ⟨w2.heap.size, 0, none⟩) r.name.size cap3 (nameL r.name)) := hI3; have HB3 : Hid (Below w2.heap.size w2 w3) := hb3; clear hW2 hk2 hb2' hc0 hc1 hc2 hc3 HAx hI3 hb3)
    | (go_at_call 24; have _ := HW2.out; refine (writerText_one w1.heap.size ([] ++ N1) (nameL r.name) w3.heap.size _ r.name.size cap3 _ ((HW2.out.later HB3.out).alloc _) (Row.new w3 26 #[.slice (some ⟨w2.heap.size, 0, none⟩) r.name.size cap3]) (HI3.out _ (KeepF.of_below ((Below.refl _ w3).alloc (Nat.le_refl _) _))) (fun W hW => HI3.out W ((KeepF.of_below ((Below.refl _ w3).alloc (Nat.le_refl _) _)).trans hW.2.2)) (by have := HLa.out; simp only [List.length_append, List.length_nil]; omega)).mono ?_; rintro e w4 ⟨⟨v4, rfl⟩, hW4, hk4⟩; have hk24 : Below w1.heap.size w2 w4 := ((HB3.out.mono (by omega)).alloc (by have := HB3.out.size; omega) _).trans hk4.1; have HW4 : Hid (WrAt w4 w1.heap.size ([] ++ N1 ++ encText (nameL r.name))) := hW4; have HA4 : Hid (ReqAt w4 w.heap.size (.slice p len cap) r) := HA2.out.below hk24 (by omega); have HB4 : Hid (Below w1.heap.size w1 w4) := HB2.out.trans hk24; have hsz4 := hW4.lt; clear hW4 hk4 hk24 HW2 HA2 HB2 HB3 HI3 hcv hcN)
    | (go_at_call 25; have _ := HW4.out; refine (writerRaw_any w1.heap.size ([] ++ N1 ++ encText (nameL r.name)) r.id _ 32 32 w1.heap.size w4 HW4.out (bytes_part HA4.out.id HOk.out.id (by omega)) (by have := HLa.out; simp only [List.length_append, List.length_nil]; omega)).mono ?_; rintro e w5 ⟨⟨v5, rfl⟩, hW5, hk5⟩; have HW5 : Hid (WrAt w5 w1.heap.size ([] ++ N1 ++ encText (nameL r.name) ++ r.id)) := hW5; have HA5 : Hid (ReqAt w5 w.heap.size (.slice p len cap) r) := HA4.out.below hk5.1 (by omega); have HB5 : Hid (Below w1.heap.size w1 w5) := HB4.out.trans hk5.1; clear hW5 hk5 HW4 HA4 HB4)
    | (go_at_call 25; have _ := HW5.out; refine (writerRaw_any w1.heap.size ([] ++ N1 ++ encText (nameL r.name) ++ r.id) r.old _ 32 32 w1.heap.size w5 HW5.out (bytes_part HA5.out.old HOk.out.old (by omega)) (by have := HLa.out; simp only [List.length_append, List.length_nil]; omega)).mono ?_; rintro e w6 ⟨⟨v6, rfl⟩, hW6, hk6⟩; have HW6 : Hid (WrAt w6 w1.heap.size ([] ++ N1 ++ encText (nameL r.name) ++ r.id ++ r.old)) := hW6; have HA6 : Hid (ReqAt w6 w.heap.size (.slice p len cap) r) := HA5.out.below hk6.1 (by omega); have HB6 : Hid (Below w1.heap.size w1 w6) := HB5.out.trans hk6.1; have hcM := HA6.out.n; have hsz6 := hW6.lt; clear hW6 hk6 HW5 HA5 HB5)
    | (go_at_call 23; have _ := HW6.out; refine (writerN_any w1.heap.size ([] ++ N1 ++ encText (nameL r.name) ++ r.id ++ r.old) [r.n] _ 1 1 _ (HW6.out.alloc _) (IsNums.one w6 r.n hnn) (by have := HLa.out; simp only [List.length_append, List.length_nil]; omega) (by omega)).mono ?_; rintro e w7 ⟨⟨v7, rfl⟩, hW7, hk7⟩; rw [HN2.out] at hW7; have hk67 : Below w1.heap.size w6 w7 := ((Below.refl _ w6).alloc (by omega) _).trans hk7.1; have HW7 : Hid (WrAt w7 w1.heap.size ([] ++ N1 ++ encText (nameL r.name) ++ r.id ++ r.old ++ N2)) := hW7; have HA7 : Hid (ReqAt w7 w.heap.size (.slice p len cap) r) := HA6.out.below hk67 (by omega); have HB7 : Hid (Below w1.heap.size w1 w7) := HB6.out.trans hk67; have hcB := HA7.out.body; have hsz7 := hW7.lt; have HI7 : Hid (IsBytes w1.heap.size w7 p len cap b) := HI1.out.below HB7.out; clear hW7 hk7 hk67 HW6 HA6 HB6 hcM)
    | (go_at_call 24; have _ := HW7.out; refine (writerText_one w1.heap.size ([] ++ N1 ++ encText (nameL r.name) ++ r.id ++ r.old ++ N2) b w7.heap.size p len cap _ (HW7.out.alloc _) (Row.new w7 26 #[.slice p len cap]) (HI7.out.below ((Below.refl _ w7).alloc (by omega) _)) (fun W hW => (HI7.out.below ((Below.refl _ w7).alloc (by omega) _)).below hW.1) (by have := HLa.out; simp only [List.length_append, List.length_nil]; omega)).mono ?_; rintro e w8 ⟨⟨v8, rfl⟩, hW8, hk8⟩; have HW8 : Hid (WrAt w8 w1.heap.size (1 :: encQ r b)) := (by rw [← HE.out]; exact hW8); have HB8 : Hid (Below w1.heap.size w1 w8) := HB7.out.trans (((Below.refl _ w7).alloc (by omega) _).trans hk8.1); clear hW8 hk8 HW7 HA7 HB7 hcB)
    | (go_at_call 26; refine (writerBytes_any w1.heap.size (1 :: encQ r b) w8 HW8.out HZ.out (by have := HLn.out; omega)).mono ?_; rintro e w9 ⟨v9, rfl, hown9, hb9⟩))
  refine bodyPost_ret (results_tmp2 rfl _ _ _) rfl ?_
  have hs8 := HB8.out.size
  exact ⟨_, rfl, hown9.mono (by omega), hb0.trans ((HB1.out.trans ((HB8.out.mono (by omega)).trans (hb9.mono (by omega)))).mono (by omega))⟩
end Go.Proofs.Ytedpgdldekkgdaa
