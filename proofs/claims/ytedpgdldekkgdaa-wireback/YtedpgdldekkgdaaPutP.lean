/-
  PutReply: a reply as bytes.
-/
import Derived.Test.YtedpgdldekkgdaaMayP
import Derived.Test.YtedpgdldekkgdaaPutQ
namespace Go.Proofs.Ytedpgdldekkgdaa
open Go.RowKit Go.Shelf

/-- Names as bytes; a reply as bytes, behind the first one. -/
def encS (xs : List ByteArray) : List Nat := xs.flatMap (fun s => encText (nameL s))
def encP (r : Rep) (b : List Nat) (xs : List ByteArray) : List Nat := encN r.client ++ (encN r.seq ++ (encN r.err.toNat ++ (r.id ++ (encN r.n ++ (encText b ++ (encN xs.length ++ encS xs))))))
theorem encS_take {xs : List ByteArray} {k : Nat} (hk : k < xs.length) : encS (xs.take k) ++ encText (nameL xs[k]) = encS (xs.take (k + 1)) := by
  unfold encS
  rw [List.take_succ_eq_append_getElem hk, List.flatMap_append]
  simp
theorem long_no {xs : List ByteArray} (h : xs.any longS = false) : ∀ s ∈ xs, s.size ≤ 64 := fun s hs => by
  have := List.any_eq_false.1 h s hs
  simpa [longS] using this
theorem encS_length : ∀ (xs : List ByteArray), (∀ s ∈ xs, s.size ≤ 64) → (encS xs).length ≤ 74 * xs.length
  | [], _ => by simp [encS]
  | s :: xs, h => by
    have h1 := encS_length xs (fun x hx => h x (List.mem_cons_of_mem _ hx))
    have h2 := encText_length (nameL s) (by rw [nameL_length]; have := h s List.mem_cons_self; omega)
    rw [nameL_length] at h2
    have h3 := h s List.mem_cons_self
    unfold encS at h1 ⊢
    simp only [List.flatMap_cons, List.length_append, List.length_cons]
    omega
theorem encS_bytes (xs : List ByteArray) : ∀ z ∈ encS xs, z < 256 := by
  intro z hz
  unfold encS at hz
  obtain ⟨s, _, hs⟩ := List.mem_flatMap.1 hz
  exact encText_bytes (nameL_lt _) z hs
theorem mayP_facts {r : Rep} {b : List Nat} {xs : List ByteArray} (hm : mayP r b xs = true) : 0 ≤ r.err ∧ r.err ≤ 1000 ∧ b.length ≤ 110000 ∧ xs.length ≤ 1000 ∧ ∀ s ∈ xs, s.size ≤ 64 := by
  simp only [mayP, Bool.and_eq_true, decide_eq_true_eq, Bool.not_eq_true'] at hm
  exact ⟨hm.1, hm.2.1, hm.2.2.1, hm.2.2.2.1, long_no hm.2.2.2.2⟩
theorem encP_length {r : Rep} (h : r.ok) {b : List Nat} {xs : List ByteArray} (hm : mayP r b xs = true) : (encP r b xs).length ≤ b.length + 74 * xs.length + 100 := by
  obtain ⟨m1, m2, m3, m4, m5⟩ := mayP_facts hm
  have h1 := encN_ten (n := r.client) (by have := h.client; omega)
  have h2 := encN_ten h.seq
  have h3 := encN_ten (n := r.err.toNat) (by omega)
  have h5 := encN_ten (n := xs.length) (by omega)
  have h6 := encN_ten h.n
  have h7 := encText_length b (by omega)
  have h8 := h.id.1
  have h9 := encS_length xs m5
  simp only [encP, List.length_append]
  omega
theorem encP_bytes {r : Rep} (h : r.ok) {b : List Nat} (hb : ∀ z ∈ b, z < 256) (xs : List ByteArray) : ∀ z ∈ encP r b xs, z < 256 := by
  intro z hz
  simp only [encP, List.mem_append] at hz
  rcases hz with h1 | h1 | h1 | h1 | h1 | h1 | h1 | h1
  · exact encN_bytes _ z h1
  · exact encN_bytes _ z h1
  · exact encN_bytes _ z h1
  · exact h.id.2 z h1
  · exact encN_bytes _ z h1
  · exact encText_bytes hb z h1
  · exact encN_bytes _ z h1
  · exact encS_bytes xs z h1

set_option maxRecDepth 100000 in
set_option maxHeartbeats 1000000 in
/-- PutReply, of what may not be. -/
theorem putP_none (p : Option Addr) (len cap : Nat) (b : List Nat) (q : Option Addr) (l c : Nat) (xs : List ByteArray) (r : Rep) (hok : r.ok) (hm : mayP r b xs = false) (w : World) (hl : b.length = len) (hM : IsStrs w.heap.size w q l c xs) :
    Calls Try.prog 16 #[.agg (repC (.slice p len cap) (.slice q l c) r).toArray] w fun e w' => e = .returned (.tuple #[.slice none 0 0, .int .i64 180]) ∧ Below w.heap.size w w' := by
  obtain ⟨w0, hw0⟩ : ∃ w0, w.alloc (.cells (repC (.slice p len cap) (.slice q l c) r).toArray 44) = w0 := ⟨_, rfl⟩
  have hb0 : Below w.heap.size w w0 := by rw [← hw0]; exact (Below.refl _ w).alloc (Nat.le_refl _) _
  have HA : Hid (RepAt w0 w.heap.size (.slice p len cap) (.slice q l c) r) := by rw [← hw0]; exact RepAt.new w _ _ r hok
  have HW0 : Hid (w.alloc (.cells (repC (.slice p len cap) (.slice q l c) r).toArray 44) = w0) := hw0
  have HM := mayAnswer_any p len cap b q l c xs r hok hl w0 (hM.later hb0)
  rw [hm] at HM
  have HOk : Hid r.ok := hok
  clear hw0 hok hm hl hM
  go_enter Try.func16, Try.ntmps16
  go_wp2_with (first
    | (rw [HW0.out])
    | ((with_reducible show wpList _ _ _ (Oper.mk _ (Op.load 44 (.tmp 1)) _ _ _ _ :: _) _ _); refine wpList_loadRep rfl (.tmp 1) rfl rfl HOk.out HA.out.row.range ?_; simp only [Act.put, List.setIfInBounds_toArray, List.set_cons_zero, List.set_cons_succ])
    | (go_at_call 38; refine HM.mono ?_; rintro e w1 ⟨rfl, hb1⟩))
  refine bodyPost_ret (results_tmp2 rfl _ _ _) rfl ?_
  exact ⟨rfl, hb0.trans (hb1.mono hb0.size)⟩

set_option maxRecDepth 100000 in
set_option maxHeartbeats 4000000 in
/-- PutReply, of what may be. -/
theorem putP_some (p : Option Addr) (len cap : Nat) (b : List Nat) (q : Option Addr) (l c : Nat) (xs : List ByteArray) (r : Rep) (hok : r.ok) (hm : mayP r b xs = true) (w : World) (hI : IsBytes w.heap.size w p len cap b) (hM : IsStrs w.heap.size w q l c xs) :
    Calls Try.prog 16 #[.agg (repC (.slice p len cap) (.slice q l c) r).toArray] w fun e w' => ∃ v, e = .returned (.tuple #[v, .int .i64 0]) ∧ Own w.heap.size w' v (2 :: encP r b xs) ∧ Below w.heap.size w w' := by
  obtain ⟨w0, hw0⟩ : ∃ w0, w.alloc (.cells (repC (.slice p len cap) (.slice q l c) r).toArray 44) = w0 := ⟨_, rfl⟩
  have hb0 : Below w.heap.size w w0 := by rw [← hw0]; exact (Below.refl _ w).alloc (Nat.le_refl _) _
  have HA : Hid (RepAt w0 w.heap.size (.slice p len cap) (.slice q l c) r) := by rw [← hw0]; exact RepAt.new w _ _ r hok
  have HW0 : Hid (w.alloc (.cells (repC (.slice p len cap) (.slice q l c) r).toArray 44) = w0) := hw0
  have HS0 : Hid (w0.heap.size = w.heap.size + 1) := by show _ = _; rw [← hw0]; simp
  obtain ⟨m1, m2, m3, m4, m5⟩ := mayP_facts hm
  have HM := mayAnswer_any p len cap b q l c xs r hok hI.1 w0 (hM.later hb0)
  rw [hm] at HM
  have HOk : Hid r.ok := hok
  have HI0 : Hid (IsBytes w0.heap.size w0 p len cap b) := (hI.below hb0).mono hb0.size
  have HM0 : Hid (IsStrs w0.heap.size w0 q l c xs) := hM.later hb0
  have HL : Hid (xs.length = l) := hM.1
  have hbl' : len ≤ 110000 := by have := hI.1; omega
  have hl' : l ≤ 1000 := by have := hM.1; omega
  have hlc := hM.2.1
  have hcc := hM.2.2.1
  obtain ⟨k, hk⟩ : ∃ k : Nat, r.err = (k : Int) := ⟨r.err.toNat, by omega⟩
  have hk64 : k < 18446744073709551616 := by omega
  have hcl64 : r.client < 18446744073709551616 := by have := hok.client; omega
  have hsq := hok.seq
  have hnn := hok.n
  have e1 : (r.client : Int) % 18446744073709551616 = (r.client : Int) := by omega
  have e3 : IntKind.u64.wrap r.err = (k : Int) := by rw [IntKind.wrap_u64]; omega
  have e4 : IntKind.u64.wrap (l : Int) = (l : Int) := by rw [IntKind.wrap_u64]; omega
  have e5 : (l : Int) % 18446744073709551616 = (l : Int) := by omega
  have HZ : Hid (∀ z ∈ 2 :: encP r b xs, z < 256) := by
    intro z hz
    rcases List.mem_cons.1 hz with rfl | h1
    · omega
    · exact encP_bytes hok hI.2.2.2.1 xs z h1
  obtain ⟨N1, hN1⟩ : ∃ N1, encs [2, r.client, r.seq, k] = N1 := ⟨_, rfl⟩
  obtain ⟨N2, hN2⟩ : ∃ N2, encs [r.n] = N2 := ⟨_, rfl⟩
  obtain ⟨N3, hN3⟩ : ∃ N3, encs [l] = N3 := ⟨_, rfl⟩
  obtain ⟨Z0, hZ0⟩ : ∃ Z0, [] ++ N1 ++ r.id ++ N2 ++ encText b ++ N3 = Z0 := ⟨_, rfl⟩
  have HE : Hid (Z0 ++ encS xs = 2 :: encP r b xs) := by
    show _ = _
    rw [← hZ0, ← hN1, ← hN2, ← hN3, encP, hk, Int.toNat_natCast, hM.1]
    simp [encs, encN_small (n := 2) (by omega)]
  have HLn : Hid ((2 :: encP r b xs).length ≤ 184101) := by have := encP_length hok hm; show _ ≤ _; rw [List.length_cons]; omega
  have hLz : Z0.length ≤ 184101 := by have := HLn.out; rw [← HE.out, List.length_append] at this; omega
  have hLa := hLz
  rw [← hZ0] at hLa
  simp only [List.length_append, List.length_nil] at hLa
  have HLa : Hid (N1.length + r.id.length + N2.length + (encText b).length + N3.length ≤ 184101) := by show _ ≤ _; omega
  have HLs : Hid (∀ j, (encS (xs.take j)).length ≤ 74000) := fun j => by
    have := encS_length (xs.take j) (fun s hs => m5 s (List.mem_of_mem_take hs))
    have h2 : (xs.take j).length ≤ xs.length := by rw [List.length_take]; omega
    omega
  have HLz : Hid (Z0.length ≤ 184101) := hLz
  have HN1 : Hid (encs [2, r.client, r.seq, k] = N1) := hN1
  have HN2 : Hid (encs [r.n] = N2) := hN2
  have HN3 : Hid (encs [l] = N3) := hN3
  have HZ0 : Hid ([] ++ N1 ++ r.id ++ N2 ++ encText b ++ N3 = Z0) := hZ0
  have H64 : Hid (∀ s ∈ xs, s.size ≤ 64) := m5
  have hl64 : l < 18446744073709551616 := by omega
  clear hw0 hI hM hok hm hLa hLz hN1 hN2 hN3 hZ0 hk m1 m2 m3 m4 m5
  go_enter Try.func16, Try.ntmps16
  go_wp2_with (first
    | (rw [HW0.out])
    | ((with_reducible show wpList _ _ _ (Oper.mk _ (Op.load 44 (.tmp 1)) _ _ _ _ :: _) _ _); refine wpList_loadRep rfl (.tmp 1) rfl rfl HOk.out HA.out.row.range ?_; simp only [Act.put, List.setIfInBounds_toArray, List.set_cons_zero, List.set_cons_succ])
    | (go_at_call 38; refine HM.mono ?_; rintro e w1 ⟨rfl, hb1⟩; have hs1 := hb1.size; have HA1 : Hid (RepAt w1 w.heap.size (.slice p len cap) (.slice q l c) r) := HA.out.later hb1; have hA1 := HA1.out.later ((Below.refl _ w1).alloc (Nat.le_refl _) (.cells #[.slice none 0 0] 58)); have hc0 := hA1.client; have hc1 := hA1.seq; have hc2 := hA1.err; have HI1 : Hid (IsBytes w1.heap.size w1 p len cap b) := (HI0.out.below hb1).mono hb1.size; have HM1 : Hid (IsStrs w1.heap.size w1 q l c xs) := HM0.out.later hb1; have HB1 : Hid (Below w0.heap.size w0 w1) := hb1; have H5 := four_nums (w1.alloc (.cells #[.slice none 0 0] 58)) r.client r.seq k hcl64 hsq hk64; rw [World.size_alloc] at H5; have HN5 : Hid (IsNums _ _ _ _) := H5; have HAx : Hid (RepAt (w1.alloc (.cells #[.slice none 0 0] 58)) w.heap.size (.slice p len cap) (.slice q l c) r) := hA1; clear hb1 hA1 H5)
    | (go_at_call 23; have _ := HAx.out; refine (writerN_any w1.heap.size [] [2, r.client, r.seq, k] _ 4 4 _ ((WrAt.new w1).alloc _) HN5.out (by simp) (by omega)).mono ?_; rintro e w2 ⟨⟨v2, rfl⟩, hW2, hk2⟩; rw [HN1.out] at hW2; have hb2' : Below w1.heap.size w1 w2 := (((Below.refl _ w1).alloc (Nat.le_refl _) _).alloc (by simp) _).trans hk2.1; have HW2 : Hid (WrAt w2 w1.heap.size ([] ++ N1)) := hW2; have HA2 : Hid (RepAt w2 w.heap.size (.slice p len cap) (.slice q l c) r) := HA1.out.later hb2'; have HB2 : Hid (Below w1.heap.size w1 w2) := hb2'; have hsz2 := hW2.lt; clear hW2 hk2 hb2' hc0 hc1 hc2 HAx)
    | (go_at_call 25; have _ := HW2.out; refine (writerRaw_any w1.heap.size ([] ++ N1) r.id _ 32 32 w1.heap.size w2 HW2.out (bytes_part HA2.out.id HOk.out.id (by have := HS0.out; omega)) (by have := HLa.out; simp only [List.length_append, List.length_nil]; omega)).mono ?_; rintro e w5 ⟨⟨v5, rfl⟩, hW5, hk5⟩; have HW5 : Hid (WrAt w5 w1.heap.size ([] ++ N1 ++ r.id)) := hW5; have HA5 : Hid (RepAt w5 w.heap.size (.slice p len cap) (.slice q l c) r) := HA2.out.below hk5.1 (by have := HS0.out; omega); have HB5 : Hid (Below w1.heap.size w1 w5) := HB2.out.trans hk5.1; have hcM := HA5.out.n; have hsz5 := hW5.lt; clear hW5 hk5 HW2 HA2 HB2)
    | (go_at_call 23; have _ := HW5.out; refine (writerN_any w1.heap.size ([] ++ N1 ++ r.id) [r.n] _ 1 1 _ (HW5.out.alloc _) (IsNums.one w5 r.n hnn) (by have := HLa.out; simp only [List.length_append, List.length_nil]; omega) (by omega)).mono ?_; rintro e w7 ⟨⟨v7, rfl⟩, hW7, hk7⟩; rw [HN2.out] at hW7; have hk57 : Below w1.heap.size w5 w7 := ((Below.refl _ w5).alloc (by omega) _).trans hk7.1; have HW7 : Hid (WrAt w7 w1.heap.size ([] ++ N1 ++ r.id ++ N2)) := hW7; have HA7 : Hid (RepAt w7 w.heap.size (.slice p len cap) (.slice q l c) r) := HA5.out.below hk57 (by have := HS0.out; omega); have HB7 : Hid (Below w1.heap.size w1 w7) := HB5.out.trans hk57; have hcB := HA7.out.body; have hsz7 := hW7.lt; have HI7 : Hid (IsBytes w1.heap.size w7 p len cap b) := HI1.out.below HB7.out; clear hW7 hk7 hk57 HW5 HA5 HB5 hcM)
    | (go_at_call 24; have _ := HW7.out; refine (writerText_one w1.heap.size ([] ++ N1 ++ r.id ++ N2) b w7.heap.size p len cap _ (HW7.out.alloc _) (Row.new w7 26 #[.slice p len cap]) (HI7.out.below ((Below.refl _ w7).alloc (by omega) _)) (fun W hW => (HI7.out.below ((Below.refl _ w7).alloc (by omega) _)).below hW.1) (by have := HLa.out; simp only [List.length_append, List.length_nil]; omega)).mono ?_; rintro e w8 ⟨⟨v8, rfl⟩, hW8, hk8⟩; have hk78 : Below w1.heap.size w7 w8 := ((Below.refl _ w7).alloc (by omega) _).trans hk8.1; have HW8 : Hid (WrAt w8 w1.heap.size ([] ++ N1 ++ r.id ++ N2 ++ encText b)) := hW8; have HA8 : Hid (RepAt w8 w.heap.size (.slice p len cap) (.slice q l c) r) := HA7.out.below hk78 (by have := HS0.out; omega); have HB8 : Hid (Below w1.heap.size w1 w8) := HB7.out.trans hk78; have hcS := HA8.out.names; have hsz8 := hW8.lt; clear hW8 hk8 hk78 HW7 HA7 HB7 hcB)
    | (go_at_call 23; have _ := HW8.out; refine (writerN_any w1.heap.size ([] ++ N1 ++ r.id ++ N2 ++ encText b) [l] _ 1 1 _ (HW8.out.alloc _) (IsNums.one w8 l hl64) (by have := HLa.out; simp only [List.length_append, List.length_nil]; omega) (by omega)).mono ?_; rintro e w9 ⟨⟨v9, rfl⟩, hW9, hk9⟩; rw [HN3.out, HZ0.out] at hW9; have hk89 : Below w1.heap.size w8 w9 := ((Below.refl _ w8).alloc (by omega) _).trans hk9.1; have HW9 : Hid (WrAt w9 w1.heap.size Z0) := hW9; have hcS := (HA8.out.below hk89 (by have := HS0.out; omega)).names; have HB9 : Hid (Below w1.heap.size w1 w9) := HB8.out.trans hk89; clear hW9 hk9 hk89 HW8 HA8 HB8))
  go_loopw [47] (fun i wr => ∃ (j : Nat), j ≤ l ∧ i = .int .i64 j ∧ WrAt wr w1.heap.size (Z0 ++ encS (xs.take j)) ∧ Below w1.heap.size w1 wr) (fun i _ => l - (intOf i).toNat)
  case atStart => exact ⟨0, Nat.zero_le _, rfl, by simpa [encS] using HW9.out, HB9.out⟩
  case round =>
    obtain ⟨j, hj, rfl, hwr, hbel⟩ := hrel
    have HWr : Hid (WrAt wr w1.heap.size (Z0 ++ encS (xs.take j))) := hwr
    have HBe : Hid (Below w1.heap.size w1 wr) := hbel
    have hszr := hwr.lt
    clear hwr
    by_cases hlt : j < l
    · have hji : (j : Int) < (l : Int) := by omega
      have hjx : j < xs.length := by rw [HL.out]; exact hlt
      obtain ⟨bq, off, rfl, hbq, hcell⟩ : ∃ b off, q = some ⟨b, off, none⟩ ∧ b < w1.heap.size ∧ ∀ i (h : i < xs.length), wr.cell? ⟨b, off + i, none⟩ = some (.string xs[i]) := by
        rcases (HM1.out.below hbel).2.2.2 with h | h
        · omega
        · exact h
      have c1 := hcell j hjx
      have HTs : Hid (Z0 ++ encS (xs.take j) ++ encText (nameL xs[j]) = Z0 ++ encS (xs.take (j + 1))) := by show _ = _; rw [List.append_assoc, encS_take hjx]
      have hsj : xs[j].size ≤ 64 := H64.out _ (List.getElem_mem hjx)
      clear hcell hbel
      generalize xs[j] = x at *
      obtain ⟨capn, wn, hcv, hbn, hsn, hIn⟩ := bytes_of_name wr x (by omega)
      have HIn : Hid (∀ W, KeepF wn W → IsBytes (wr.heap.size + 1) W (some ⟨wr.heap.size, 0, none⟩) x.size capn (nameL x)) := hIn
      have HBn : Hid (Below wr.heap.size wr wn) := hbn
      clear hIn hbn
      go_wp2_with (go_at_call 24; refine (writerText_one w1.heap.size (Z0 ++ encS (xs.take j)) (nameL x) wn.heap.size _ x.size capn _ ((HWr.out.later HBn.out).alloc _) (Row.new wn 26 #[.slice (some ⟨wr.heap.size, 0, none⟩) x.size capn]) (HIn.out _ (KeepF.of_below ((Below.refl _ wn).alloc (Nat.le_refl _) _))) (fun W hW => HIn.out W ((KeepF.of_below ((Below.refl _ wn).alloc (Nat.le_refl _) _)).trans hW.2.2)) (by have := HLz.out; have := HLs.out j; simp only [List.length_append]; omega)).mono ?_; rintro e w4 ⟨⟨v4, rfl⟩, hW4, hk4⟩; have hk24 : Below w1.heap.size wr w4 := ((HBn.out.mono (by omega)).alloc (by have := HBn.out.size; omega) _).trans hk4.1; have HW4 : Hid (WrAt w4 w1.heap.size (Z0 ++ encS (xs.take (j + 1)))) := (by rw [← HTs.out]; exact hW4); have HB4 : Hid (Below w1.heap.size w1 w4) := HBe.out.trans hk24; clear hW4 hk4 hk24)
      go_roundw
      case rel => exact ⟨j + 1, by omega, by go_num, HW4.out, HB4.out⟩
      case measure => simp [intOf]; omega
    · obtain rfl : j = l := by omega
      have HWf : Hid (WrAt wr w1.heap.size (2 :: encP r b xs)) := by
        have := HWr.out
        rwa [List.take_of_length_le (by rw [HL.out]; omega), HE.out] at this
      clear hbel
      go_wp2_with (go_at_call 26; refine (writerBytes_any w1.heap.size (2 :: encP r b xs) wr HWf.out HZ.out (by have := HLn.out; omega)).mono ?_; rintro e wz ⟨vz, rfl, hownz, hbz⟩)
      refine bodyPost_ret (results_tmp2 rfl _ _ _) rfl ?_
      have hs8 := HBe.out.size
      exact ⟨_, rfl, hownz.mono (by have := HS0.out; omega), hb0.trans ((HB1.out.trans ((HBe.out.mono (by omega)).trans (hbz.mono (by omega)))).mono (by have := HS0.out; omega))⟩
end Go.Proofs.Ytedpgdldekkgdaa
